/- Arenas: keys put behind each other. -/
import Derived.Test.YtbjhcbiihekceaaCfk
import Derived.Maps.AppendAt
import Derived.RangeFuncNested
import Derived.RangeFuncBound
import Derived.RangeFuncCalls
import Derived.RangeFuncLeaves
import Derived.Shelf.Abstract
import Derived.Shelf.RegionOpen
import Derived.OwnWalkIn
import Derived.TacticsInMore
import Derived.LoopNIn
import Derived.LoopIn
import Derived.Maps.OwnIn
import Derived.Sort.MapsRangeIn
namespace Go.Proofs.Ytbjhcbiihekceaa
open Go.ChangeShapes Go.WideShapes Go.ChangeAt Go.RowKit Go.Maps Go.Shelf
set_option linter.unusedVariables false
set_option linter.unusedSimpArgs false
attribute [local go_sem] Oper.semAt_some

theorem info62 : (Try.prog.info? 62).map (fun i => (i.zero, i.size, i.bytes)) = some (some (.int .u64 0), 1, 8) := by kernel_rfl
def AppPost (D : DataW Unit) (w : World) (e : Ending) (w' : World) : Prop := ∃ ss v, e = .returned v ∧ AllU D ss ∧ w'.ownsRow w.heap.size 62 1 v ss.length (uv ss) ∧ Below w.heap.size w w'
set_option maxRecDepth 100000 in
set_option maxHeartbeats 4000000 in
theorem app_law (w : World) (Bm b nn : Nat) (D : DataW Unit) (hBm : Boxed w Bm 133 (.map (some b))) (hown : w.ownsMap Try.prog 62 (plainElem Try.prog 3) b nn D) (hN : Maps.size D ≤ 1000000) :
    Calls Try.prog 128 #[.slice none 0 0, .func (.func 116) #[] #[.pointer (some ⟨Bm, 0, none⟩)]] w (AppPost D w) := by
  have HN := Lib.hid hN
  clear hN
  obtain ⟨i0, hi, hz0, hz1, hz2⟩ := info_parts info62
  refine (callsIn_wide (n := 6)).1 ?_
  refine callsIn_of_wp_marks Try.func128 rfl trivial ?_ rfl
  simp only [Try.ntmps128, List.size_toArray, List.length_cons, List.length_nil, Nat.reduceAdd, Nat.reduceSub, Array.replicate_succ, Array.replicate_zero, List.push_toArray, List.append_toArray, List.nil_append, List.cons_append]
  gi_wp2_with fail
  have hbw : Below w.heap.size w (w.alloc (.cells #[.slice none 0 0] 69)) := bl1 _ _
  have bL := Boxed.new w 69 (.slice none 0 0)
  have hsz : (w.alloc (.cells #[.slice none 0 0] 69)).heap.size = w.heap.size + 1 := by simp
  have bM : Boxed (w.alloc (.cells #[.slice none 0 0] 69)) Bm 133 (.map (some b)) := (hbw.block Bm hBm.lt).trans hBm
  have bO : (w.alloc (.cells #[.slice none 0 0] 69)).ownsMap Try.prog 62 (plainElem Try.prog 3) b nn D := hown.alloc _
  obtain ⟨W0, hW0⟩ : ∃ W0, w.alloc (.cells #[.slice none 0 0] 69) = W0 := ⟨_, rfl⟩
  rw [hW0] at bL hbw hsz bM bO ⊢
  clear hW0 hBm hown
  have HC := keys_stops 5 (by omega) Bm b nn D W0 bM bO
  clear bM bO
  refine wpIn_rangeFunc_ownH rfl (by omega) (gf := 116) (lb := #[.pointer (some ⟨Bm, 0, none⟩)]) rfl trivial (enters_of Try.func116 (by kernel_rfl) rfl)
    HC walksK_t (walksK_b (w := W0)) (Below.refl _ _) (fun _ => rfl)
    (fun pre W => (∃ v, Boxed W w.heap.size 69 v ∧ W.ownsRow (w.heap.size + 1) 62 1 v pre.length (uv pre)) ∧ Below w.heap.size w W)
    (fun c pre W => False)
    (OwnFrom.and (Own.from (fun s X Y row hs hg hr => by obtain ⟨v, h1, h2⟩ := hs; exact ⟨v, boxed_own _ 69 (fun (_ : Unit) => v) () X Y row h1 hg hr, own_own h2 hg hr⟩) _) (ownFrom_below (Nat.le_refl _) (by omega)))
    (fun c s X Y row hs hg hr => hs)
    ⟨⟨_, bL, World.ownsRow_nil _ _ _ _⟩, hbw⟩
    (fun x a' W => a' = { tmps := #[.slice none 0 0, .func (.func 116) #[] #[.pointer (some ⟨Bm, 0, none⟩)], .pointer (some ⟨w.heap.size, 0, none⟩), undef, .slice none 0 0, .int .u64 x, .func (.func 116) #[] #[.pointer (some ⟨Bm, 0, none⟩)], .int .u64 x, undef, undef, undef, undef, undef], defers := [] })
    (fun x a' _ X Y row hs hg hr => hs)
    ?assign ?body ?done ?stop
  case assign =>
    rintro lp pre x W K hI hK
    dsimp only [encU]
    gi_wp2
    exact hK _ _ ((KeepsOthers.refl _).from _) (KeepsWalks.refl _) hI rfl
  case body =>
    rintro lp pre x a' W hl ⟨r0, hr0⟩ ⟨⟨v, bL1, own1⟩, hB1⟩ rfl hlt
    have cL := bL1.cell
    have fL := bL1.frozen
    have hw2 : w.heap.size + 1 ≤ W.heap.size := by have := (Array.getElem?_eq_some_iff.1 hr0).1; omega
    clear hr0
    have HPL := Lib.hid (show pre.length < 1000000 by have := HN.out; omega)
    clear hlt
    gi_wp2_with (gi_at_builtin; refine wpListIn_append_own _ rfl _ _ 69 rfl (w.heap.size + 1) 62 i0 (.int .u64 0) 1 8 Try.underlying69 hi hz0 hz1 hz2 rfl (by decide) _ _ _ rfl (own1.alloc _) ⟨W.heap.size, 0, none⟩ 1 1 [.int .u64 x] rfl rfl (by intro j u hj; match j, hj with | 0, hj => (simp at hj; subst hj; simp [Addr.add, go_sem])) (by intro u hu; simp at hu; subst hu; rfl) (by have := HPL.out; unfold maxLen; omega) (by have := HPL.out; omega) (by simp; omega) ?_)
    intro v' W1 hown' hgrow _
    have hne : some w.heap.size ≠ v.ownBlock := fun e => by have := (own1.lt _ e.symm).1; omega
    have bL2 : Boxed W1 w.heap.size 69 v := (bL1.alloc _).kept hgrow hne
    have ko := (KeepsOthers.alloc W (.cells #[.int .u64 x] 62)).trans (keeps_row (own1.alloc _) hgrow)
    have hB2 : Below w.heap.size w W1 := (hB1.alloc hB1.size _).grown hgrow (by simp; omega) (fun j hj => by have := (own1.lt j hj).1; omega)
    have cL2 := bL2.cell
    have fL2 := bL2.frozen
    have hl2 := bL2.lt
    rw [← uv_snoc] at hown'
    clear cL fL bL1 hgrow own1
    obtain ⟨g, gc, rfl⟩ := own_some hown' (by omega)
    gi_wp2_with fail
    refine ⟨(ko.trans (KeepsOthers.setCell _ _ _)).from _, (ko.trans (KeepsOthers.setCell _ _ _)).walks, ⟨_, bL2.set _, ?_⟩, hB2.setCell (p := ⟨w.heap.size, 0, none⟩) (by simp) _⟩
    have hk := hown'.kept (grownBy_setCell' W1 w.heap.size (.slice (some ⟨g, 0, none⟩) (pre.length + 1) gc)) (.inr fun e => by have := (hown'.lt _ e).1; omega)
    simpa using hk
  case done =>
    rintro Dd zs W hD hzs ⟨⟨v, bL1, own1⟩, hB1⟩ hK
    have cL := bL1.cell
    have HZ := Lib.hid hzs
    clear hzs
    gi_wp2
    refine ⟨by simp, .inl ⟨_, _, rfl, run_takeDeferred hK, ?_⟩⟩
    refine ⟨v, ?_, zs, v, rfl, HZ.out, own_base (by omega) (own_own own1 (grownBy_putObj' W Dd (.deferred none)) (fun r e => by cases e; exact ⟨_, hK, rfl⟩)), hB1.trans (belowK_b (w := w) (Nat.le_refl _) W Dd _ _ (by omega) hK rfl rfl)⟩
    simp [results, Try.f128, go_sem]
  case stop =>
    rintro Dd c pre W hD _ hf hK
    exact hf.elim
/-- slices.Collect over the keys. -/
theorem collect_law (w : World) (Bm b nn : Nat) (D : DataW Unit) (hBm : Boxed w Bm 133 (.map (some b))) (hown : w.ownsMap Try.prog 62 (plainElem Try.prog 3) b nn D) (hN : Maps.size D ≤ 1000000) :
    Calls Try.prog 114 #[.func (.func 116) #[] #[.pointer (some ⟨Bm, 0, none⟩)]] w (AppPost D w) := by
  have HA := Lib.hid (app_law w Bm b nn D hBm hown hN)
  clear hBm hown hN
  go_enter Try.func114, Try.ntmps114
  go_wp2_with (go_at_call 128; refine HA.out.mono ?_; rintro e w' ⟨ss, v, rfl, h1, h2, h3⟩; replace h1 := Lib.hid h1; replace h2 := Lib.hid h2; replace h3 := Lib.hid h3)
  go_ret
  exact ⟨ss, v, rfl, h1.out, h2.out, h3.out⟩
end Go.Proofs.Ytbjhcbiihekceaa
