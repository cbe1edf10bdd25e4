/- Arenas: how many cells are free, of two pieces. -/
import Derived.Test.YtbjhcbiihekceaaCfs
import Derived.RangeFuncNested
import Derived.RangeFuncBound
import Derived.RangeFuncCalls
import Derived.RangeFuncLeaves
import Derived.Shelf.Abstract
import Derived.Shelf.RegionOpen
import Derived.OwnWalkIn
import Derived.TacticsInMore
import Derived.LoopNIn
import Derived.LoopIn
import Derived.Maps.OwnIn
import Derived.Sort.MapsRangeIn
namespace Go.Proofs.Ytbjhcbiihekceaa
open Go.ChangeShapes Go.WideShapes Go.ChangeAt Go.RowKit Go.Maps Go.Shelf
set_option linter.unusedVariables false
set_option linter.unusedSimpArgs false
attribute [local go_sem] Oper.semAt_some

variable {p bc bm n m : Nat} {f : Nat → Int} {g : Nat → Bool} {D : DataW Unit}
theorem all_law {w : World} (h : Ar w p bc bm n m f g D) : Calls Try.prog 91 #[.pointer (some ⟨p, 0, none⟩)] w fun e w' => e = .returned (.func (.func 108) #[] #[.pointer (some ⟨w.heap.size, 0, none⟩)]) ∧ (Boxed w' w.heap.size 133 (.map (some (w.heap.size + 1))) ∧ w'.ownsMap Try.prog 62 (plainElem Try.prog 3) (w.heap.size + 1) m D ∧ Below w.heap.size w w') := by
  have hmf : ∀ (fn : Fn) (first cap : Array Value) (w : World), (Instr.makeFunc fn first cap).run Try.prog w = .ok (.func fn first cap) w := fun _ _ _ _ => rfl
  have HH := Lib.hid (h.below (bl1 w (.cells #[.map none] 133)))
  have hc1 := HH.out.c1
  have HB := Lib.hid (Boxed.new w 133 (.map none))
  have hB0 := Lib.hid (bl1 w (.cells #[.map none] 133))
  clear h
  go_enter Try.func91, Try.ntmps91
  go_wp2_with (first | (go_at_call 78; refine (none_law HH.out).mono ?_; rintro e w' ⟨rfl, rfl⟩))
  refine (clone_law _ bm m D HH.out.map).mono ?_
  rintro e w1 ⟨rfl, h1, h2⟩
  simp only [World.size_alloc] at h1
  have hb1 : Boxed w1 w.heap.size 133 (.map none) := (h2.block _ HB.out.lt).trans HB.out
  have hx := hb1.cell
  have hf := hb1.frozen
  have HX := Lib.hid hb1
  replace h1 := Lib.hid h1
  replace h2 := Lib.hid (step_below hB0.out h2)
  clear hb1
  go_wp2_with fail
  go_ret
  refine ⟨rfl, ?_, ?_, ?_⟩
  · simpa using HX.out.set _
  · simpa using h1.out.setCell (a := ⟨w.heap.size, 0, none⟩) (by simp) _
  · simpa using h2.out.setCell (p := ⟨w.heap.size, 0, none⟩) (Nat.le_refl _) _
def subs (s : Int) (l : List (Int × Int)) : Int := l.foldl (fun s x => wrap64 (s - x.2)) s
theorem subs_snoc (s : Int) (l : List (Int × Int)) (x : Int × Int) : subs s (l ++ [x]) = wrap64 (subs s l - x.2) := by simp [subs]
set_option maxRecDepth 100000 in
set_option maxHeartbeats 4000000 in
theorem free_law {w : World} (h : Ar w p bc bm n m f g D) (a c : Nat) (va vc : Int) (hD : D2 D a c va vc) (h1 : 0 ≤ va) (h2 : va ≤ 256) (h3 : 0 ≤ vc) (h4 : vc ≤ 256) :
    Calls Try.prog 43 #[.pointer (some ⟨p, 0, none⟩)] w fun e w' => e = .returned (.int .i64 (n - 64 - va - vc)) ∧ Below w.heap.size w w' := by
  have HH := Lib.hid h
  have h0 := h.c0
  have hlo := h.lo
  have hhi := h.hi
  have HD := Lib.hid hD
  have HV := Lib.hid (And.intro h1 (And.intro h2 (And.intro h3 h4)))
  have hC := all_law (h.below (bl1 w (.cells #[.int .i64 (n - 64)] 3)))
  simp only [World.size_alloc] at hC
  have HC := Lib.hid hC
  clear hC
  have HB := Lib.hid (Boxed.new w 3 (.int .i64 (n - 64)))
  clear h hD h1 h2 h3 h4
  refine (callsIn_wide (n := 9)).1 ?_
  refine callsIn_of_wp_marks Try.func43 rfl trivial ?_ rfl
  simp only [Try.ntmps43, List.size_toArray, List.length_cons, List.length_nil, Nat.reduceAdd, Nat.reduceSub, Array.replicate_succ, Array.replicate_zero, List.push_toArray, List.append_toArray, List.nil_append, List.cons_append]
  gi_wp2_with fail
  refine ⟨trivial, ?_⟩
  refine (callsIn_wide.2 (none_law HH.out)).mono ?_
  rintro e w' ⟨rfl, rfl⟩
  gi_wp2_with fail
  refine ⟨trivial, ?_⟩
  refine (callsIn_wide.2 HC.out).mono ?_
  rintro e W0 ⟨rfl, hbx, hown, hB0⟩
  have hbn : Boxed W0 w.heap.size 3 (.int .i64 (n - 64)) := (hB0.block _ (by simp)).trans HB.out
  have hbw : Below w.heap.size w W0 := step_below (bl1 _ _) (by simpa using hB0)
  have hs0 : w.heap.size + 1 < W0.heap.size := by simpa using hbx.lt
  have HS := all_stops 8 (by omega) w.heap.size (w.heap.size + 1) (w.heap.size + 1 + 1) m D a c va vc HD.out W0 hbx hown (by omega) (by omega) (by omega)
  clear hbx hown hB0 HC HB
  gi_wp2_with fail
  refine wpIn_rangeFunc_ownH rfl (by omega) (gf := 108) (lb := #[.pointer (some ⟨w.heap.size + 1, 0, none⟩)]) rfl trivial (enters_of Try.func108 (by kernel_rfl) rfl)
    HS KN.trans (fun W l o o' _ h hc hw => KN.put W l o o' h hc hw) (Below.refl _ _) (fun _ => rfl)
    (fun pre W => Boxed W w.heap.size 3 (.int .i64 (subs (n - 64) pre)) ∧ Below w.heap.size w W)
    (fun c pre W => False)
    (OwnFrom.and (Own.from (boxed_own w.heap.size 3 (fun (pre : List (Int × Int)) => Value.int .i64 (subs (n - 64) pre))) _) (ownFrom_below (Nat.le_refl _) (by omega)))
    (fun c s X Y row hs hg hr => hs)
    ⟨hbn, hbw⟩
    (fun x a' W => a' = { tmps := #[.pointer (some ⟨p, 0, none⟩), undef, .int .i64 0, .pointer (some ⟨w.heap.size, 0, none⟩), undef, .int .i64 x.2, .pointer (some ⟨p, 0, none⟩), .bool false, .pointer (some ⟨p, 0, none⟩), .pointer (some ⟨p, 0, none⟩), .pointer (some ⟨p, 0, none⟩), .slice (some ⟨bc, 0, none⟩) n n, .int .i64 n, .int .i64 (n - 64), .pointer (some ⟨p, 0, none⟩), .func (.func 108) #[] #[.pointer (some ⟨w.heap.size + 1, 0, none⟩)], .int .u64 x.1, .int .i64 x.2, undef, undef, undef, undef], defers := [] })
    (fun x a' _ X Y row hs hg hr => hs)
    ?assign ?body ?done ?stop
  case assign =>
    rintro lp pre x W K hI hK
    dsimp only [encP]
    gi_wp2
    exact hK _ _ ((KeepsOthers.refl _).from _) (KN.refl _ _) hI rfl
  case body =>
    rintro lp pre x a' W hl ⟨r0, hr0⟩ ⟨bN, hB1⟩ rfl hlt
    have cN := bN.cell
    have fN := bN.frozen
    have HN := Lib.hid (subs_snoc (n - 64) pre x)
    clear hlt hr0
    obtain ⟨s0, hs0⟩ : ∃ s, subs (n - 64) pre = s := ⟨_, rfl⟩
    rw [hs0] at cN bN HN
    clear hs0
    gi_wp2_with fail
    refine ⟨(KeepsOthers.setCell _ _ _).from _, KN.set _ _ _ _, ?_, hB1.setCell (p := ⟨w.heap.size, 0, none⟩) (Nat.le_refl _) _⟩
    rw [HN.out]
    exact bN.set _
  case done =>
    rintro Dd zs W hD2 rfl ⟨bN, hB1⟩ hK
    have cN := bN.cell
    obtain ⟨v1, v2, v3, v4⟩ := HV.out
    have e : subs (n - 64) [((a : Int), va), ((c : Int), vc)] = n - 64 - va - vc := by
      simp only [subs, List.foldl_cons, List.foldl_nil, wrap64]
      omega
    rw [e] at cN
    clear e v1 v2 v3 v4 HS
    gi_wp2
    refine ⟨by simp, .inl ⟨_, _, rfl, run_takeDeferred hK, ?_⟩⟩
    refine ⟨_, results_tmp rfl _ _ _, rfl, hB1.trans (belowK_b (w := w) (Nat.le_refl _) W Dd _ _ (by omega) hK rfl rfl)⟩
  case stop =>
    rintro Dd c pre W hD _ hf hK
    exact hf.elim
end Go.Proofs.Ytbjhcbiihekceaa
