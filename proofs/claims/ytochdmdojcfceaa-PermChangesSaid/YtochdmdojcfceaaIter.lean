/- The iterator over the places that are used, and the list of them, by contracts. -/
import Derived.Test.YtochdmdojcfceaaChg
import Derived.RangeFuncNested
import Derived.RangeFuncBound
import Derived.RangeFuncBox
import Derived.RangeFuncCalls
import Derived.RangeFuncLeaves
import Derived.Shelf.Abstract
import Derived.Shelf.RegionOpen
import Derived.OwnWalkIn
import Derived.TacticsInMore
import Derived.LoopNIn
import Derived.LoopIn
namespace Go.Proofs.Ytochdmdojcfceaa
open Go.ChangeShapes Go.WideShapes Go.ChangeAt Go.RowKit Go.Shelf
open PM
set_option linter.unusedVariables false
set_option linter.unusedSimpArgs false
attribute [local go_sem] Oper.semAt_some

theorem grown_of_below {w w' : World} (h : Below w.heap.size w w') : w.grownBy w' none := ⟨h.os, h.tape, h.output, h.size, fun k hk _ => h.block k hk⟩
theorem boxed_below {W W' : World} {B : Nat} {t : TypeId} {v : Value} (h : Boxed W B t v) (hb : Below W.heap.size W W') : Boxed W' B t v := (hb.block B h.lt).trans h

/-- What a round that goes on keeps: the iterator's own box. -/
def KB (Bs : Nat) (t : TypeId) (v : Value) (W W' : World) : Prop := W.heap.size ≤ W'.heap.size ∧ (Boxed W Bs t v → Boxed W' Bs t v)
theorem KB.trans {Bs : Nat} {t : TypeId} {v : Value} {A B C : World} (h : KB Bs t v A B) (k : KB Bs t v B C) : KB Bs t v A C := ⟨Nat.le_trans h.1 k.1, fun x => k.2 (h.2 x)⟩
theorem KB.put {Bs : Nat} {t : TypeId} {v : Value} (W : World) (l : Nat) (o o' : Obj) (h : W.heap[l]? = some o) (hc : o.isCells = false) : KB Bs t v W (W.putObj l o') :=
  ⟨(grownBy_putObj' W l o').size, fun hb => by
    have hne : Bs ≠ l := fun e => by subst e; rw [show W.heap[Bs]? = _ from hb] at h; cases h; cases hc
    exact (World.putObj_heap_other hne).trans hb⟩
theorem KB.below {Bs : Nat} {t : TypeId} {v : Value} {W W' : World} (h : Below W.heap.size W W') : KB Bs t v W W' := ⟨h.size, fun hb => boxed_below hb h⟩
theorem KB.grown {Bs : Nat} {t : TypeId} {v : Value} {W W' : World} {row : Option Nat} (h : W.grownBy W' row) (hne : some Bs ≠ row) : KB Bs t v W W' := ⟨h.size, fun hb => hb.kept h hne⟩

abbrev Pl := Nat × Nat
def encs (x : Pl) : Array Value := #[.int .i64 (x.1 : Int), .int .i64 (x.2 : Int)]
def upl (l : List Nat) (k : Nat) : List Pl := (List.range k).map fun i => (i, l.getD i 0)
theorem upl_succ (l : List Nat) (k : Nat) : upl l (k + 1) = upl l k ++ [(k, l.getD k 0)] := by simp [upl, List.range_succ]
theorem upl_length (l : List Nat) (k : Nat) : (upl l k).length = k := by simp [upl]

theorem all_in (p : Int) (w : World) :
    Calls Try.prog 33 #[.int .u64 p] w fun e w' => e = .returned (.func (.func 36) #[] #[.pointer (some ⟨w.heap.size, 0, none⟩)]) ∧ w' = w.alloc (.cells #[.int .u64 p] 22) := by
  have hmf : ∀ (fn : Fn) (first cap : Array Value) (w : World), (Instr.makeFunc fn first cap).run Try.prog w = .ok (.func fn first cap) w := fun _ _ _ _ => rfl
  go_enter Try.func33, Try.ntmps33
  go_wp2
  go_ret
  exact ⟨rfl, rfl⟩

set_option maxRecDepth 100000 in
set_option maxHeartbeats 2000000 in
theorem all_stops (m : Nat) (hm : 1 ≤ m) (Bs n : Nat) (l : List Nat) (h : Wrd n l) (w : World) (hBs : Boxed w Bs 22 (.int .u64 ((enc (n :: l) : Nat) : Int))) :
    SeqStopsK Fence.wide m Try.prog 36 #[.pointer (some ⟨Bs, 0, none⟩)] encs (KB Bs 22 (.int .u64 ((enc (n :: l) : Nat) : Int))) (fun ys => ys = upl l (cV n l)) (fun pre => ∃ k, k ≤ cV n l ∧ pre = upl l k) (cV n l) w := fun lp J Jx W hW hJ _ hY h0 => by
  have hb := boxed_below hBs hW
  have hc15 := cV_le h
  have HW := Lib.hid h
  clear h hBs hW
  obtain ⟨p, hp⟩ : ∃ p, ((enc (n :: l) : Nat) : Int) = p := ⟨_, rfl⟩
  have hcnt := Lib.hid (fun w => count_law n l HW.out w)
  have hat := Lib.hid (fun k (hk : k < 15) w => at_law n l k HW.out hk w)
  rw [hp] at hb hY hcnt hat
  clear hp
  show CallsIn Fence.wide m Try.prog 36 #[.func (.yield lp) #[] #[], .pointer (some ⟨Bs, 0, none⟩)] W _
  refine callsIn_of_wp Try.func36 rfl trivial ?_ rfl
  simp only [Try.ntmps36, List.size_toArray, List.length_cons, List.length_nil, Nat.reduceAdd, Nat.reduceSub, Array.replicate_succ, Array.replicate_zero, List.push_toArray, List.append_toArray, List.nil_append, List.cons_append]
  have cb := hb.cell
  gi_wp2_with fail
  refine ⟨trivial, ?_⟩
  refine (callsIn_wide.2 (hcnt.out _)).mono ?_
  rintro e W1 ⟨rfl, B1⟩
  have J1 : J [] W1 := hJ _ _ _ _ h0 (grown_of_below B1) (fun r e => by cases e)
  have b1 := boxed_below hb B1
  have hs1 := B1.size
  clear h0 hb cb
  gi_wp2_with fail
  gi_loopw [6] (fun i wr => ∃ k : Nat, k ≤ cV n l ∧ i = .int .i64 k ∧ J (upl l k) wr ∧ Boxed wr Bs 22 (.int .u64 p) ∧ W.heap.size ≤ wr.heap.size) (fun i _ => cV n l - (intOf i).toNat)
  case atStart => exact ⟨0, Nat.zero_le _, rfl, J1, b1, hs1⟩
  case round =>
    clear J1 b1
    obtain ⟨k, hk, rfl, hJs, hb, hsz⟩ := hrel
    by_cases hlt : k < cV n l
    · have hkl : (k : Int) < (cV n l : Int) := by omega
      have cb := hb.cell
      gi_wp2_with fail
      refine ⟨trivial, ?_⟩
      refine (callsIn_wide.2 (hat.out k (by omega) _)).mono ?_
      rintro e w' ⟨rfl, rfl⟩
      obtain ⟨fn, tmps, assign, body, hy, hR⟩ := hY _ (k, l.getD k 0) wr hJs (by rw [upl_length]; exact hlt)
      dsimp only [encs] at hy
      obtain ⟨x, hx⟩ : ∃ x, l.getD k 0 = x := ⟨_, rfl⟩
      rw [hx] at hy hR ⊢
      have HX := Lib.hid (show upl l (k + 1) = upl l k ++ [(k, x)] by rw [upl_succ, hx])
      clear hx
      gi_wp2
      refine hR.mono ?_
      rintro e W3 (⟨rfl, hJ3, hk3⟩ | ⟨rfl, hJx3⟩)
      · gi_wp2
        go_roundw
        case rel => exact ⟨k + 1, by omega, by go_num, by rw [HX.out]; exact hJ3, hk3.2 hb, Nat.le_trans hsz hk3.1⟩
        case measure => simp [intOf]; omega
      · gi_wp2
        refine bodyPost_ret (results_none rfl _ _ _) rfl ?_
        exact ⟨⟨_, rfl⟩, .inr ⟨_, ⟨k + 1, by omega, HX.out.symm⟩, hJx3⟩⟩
    · have e : k = cV n l := by omega
      have hkl : ¬ (k : Int) < (cV n l : Int) := by omega
      rw [e] at hJs
      clear e
      gi_wp2
      go_end0
      exact ⟨⟨_, rfl⟩, .inl hJs⟩

theorem info3 : (Try.prog.info? 3).map (fun i => (i.zero, i.size, i.bytes)) = some (some (.int .i64 0), 1, 8) := by kernel_rfl
theorem own_kept {w w' : World} {base n size : Nat} {e : TypeId} {v : Value} {xs : List Value} (h : w.ownsRow base e size v n xs) (hb : Below w.heap.size w w') : w'.ownsRow base e size v n xs :=
  h.kept (grown_of_below hb) (by cases hv : v.ownBlock <;> simp)
theorem own_own {w w' : World} {base n size : Nat} {e : TypeId} {v : Value} {xs : List Value} {row : Option Nat} (h : w.ownsRow base e size v n xs) (hg : w.grownBy w' row) (hr : ∀ r, row = some r → ∃ o : Obj, w.heap[r]? = some o ∧ o.isCells = false) : w'.ownsRow base e size v n xs := by
  refine h.kept hg ?_
  rcases h.2 with ⟨rfl, _⟩ | ⟨g, cap, cur, rfl, _, hgg, _⟩
  · exact .inl rfl
  · refine .inr fun e => ?_
    obtain ⟨o, ho, hc⟩ := hr g (by rw [← e]; rfl)
    rw [hgg] at ho; cases ho; cases hc
theorem keeps_row {w w' : World} {base n size : Nat} {e : TypeId} {v : Value} {xs : List Value} (h : w.ownsRow base e size v n xs) (hg : w.grownBy w' v.ownBlock) : KeepsOthers w w' :=
  ⟨hg.size, fun k o hk ho => (hg.block k (Array.getElem?_eq_some_iff.1 hk).1 (fun e => by
    rcases h.2 with ⟨rfl, _⟩ | ⟨g, cap, cur, rfl, _, hgg, _⟩
    · cases e
    · cases e; rw [hgg] at hk; cases hk; cases ho)).trans hk⟩
def iv (l : List Nat) : List Value := l.map fun (x : Nat) => .int .i64 (x : Int)
theorem iv_snoc (l : List Nat) (x : Nat) : iv (l ++ [x]) = iv l ++ [.int .i64 (x : Int)] := by simp [iv]

theorem own_some {w : World} {base n size : Nat} {e : TypeId} {v : Value} {xs : List Value} (h : w.ownsRow base e size v n xs) (hn : 0 < n) : ∃ g cap, v = .slice (some ⟨g, 0, none⟩) n cap := by
  rcases h.2 with ⟨_, h0⟩ | ⟨g, cap, cur, rfl, _⟩
  · omega
  · exact ⟨g, cap, rfl⟩
theorem own_base {w : World} {b b' n size : Nat} {e : TypeId} {v : Value} {xs : List Value} (hb : b ≤ b') (h : w.ownsRow b' e size v n xs) : w.ownsRow b e size v n xs :=
  ⟨h.1, h.2.imp id fun ⟨g, cap, cur, e1, e2, e3⟩ => ⟨g, cap, cur, e1, Nat.le_trans hb e2, e3⟩⟩

def usV (n : Nat) (l : List Nat) : List Nat := (upl l (cV n l)).map (·.2)

set_option maxRecDepth 100000 in
set_option maxHeartbeats 4000000 in
theorem used_law (n : Nat) (l : List Nat) (h : Wrd n l) (w : World) :
    Calls Try.prog 19 #[.int .u64 ((enc (n :: l) : Nat) : Int)] w fun e w' => (∃ v, e = .returned v ∧ w'.ownsRow w.heap.size 3 1 v (cV n l) (iv (usV n l)) ∧ (cV n l = 0 → v = .slice none 0 0)) ∧ Below w.heap.size w w' := by
  have hc15 := cV_le h
  obtain ⟨i0, hi, hz0, hz1, hz2⟩ := info_parts info3
  refine (callsIn_wide (n := 6)).1 ?_
  refine callsIn_of_wp_marks Try.func19 rfl trivial ?_ rfl
  simp only [Try.ntmps19, List.size_toArray, List.length_cons, List.length_nil, Nat.reduceAdd, Nat.reduceSub, Array.replicate_succ, Array.replicate_zero, List.push_toArray, List.append_toArray, List.nil_append, List.cons_append]
  gi_wp2_with fail
  refine ⟨trivial, ?_⟩
  refine (callsIn_wide.2 (all_in _ _)).mono ?_
  rintro e w' ⟨rfl, rfl⟩
  gi_wp2_with fail
  have hbw : Below w.heap.size w ((w.alloc (.cells #[.slice none 0 0] 23)).alloc (.cells #[.int .u64 ((enc (n :: l) : Nat) : Int)] 22)) := ((Below.refl _ w).alloc (Nat.le_refl _) _).alloc (by simp) _
  have bL := (Boxed.new w 23 (.slice none 0 0)).alloc (.cells #[.int .u64 ((enc (n :: l) : Nat) : Int)] 22)
  have bA := Boxed.new (w.alloc (.cells #[.slice none 0 0] 23)) 22 (.int .u64 ((enc (n :: l) : Nat) : Int))
  simp only [World.size_alloc] at bA
  have hsz : ((w.alloc (.cells #[.slice none 0 0] 23)).alloc (.cells #[.int .u64 ((enc (n :: l) : Nat) : Int)] 22)).heap.size = w.heap.size + 2 := by simp
  obtain ⟨W0, hW0⟩ : ∃ W0, (w.alloc (.cells #[.slice none 0 0] 23)).alloc (.cells #[.int .u64 ((enc (n :: l) : Nat) : Int)] 22) = W0 := ⟨_, rfl⟩
  rw [hW0] at bL bA hbw hsz ⊢
  clear hW0
  refine wpIn_rangeFunc_ownH rfl (by omega) (gf := 36) (lb := #[.pointer (some ⟨w.heap.size + 1, 0, none⟩)]) rfl trivial (enters_of Try.func36 (by kernel_rfl) rfl)
    (all_stops 5 (by omega) (w.heap.size + 1) n l h W0 bA) KB.trans (fun W l o o' _ h hc _ => KB.put W l o o' h hc) (Below.refl _ _) (fun _ => rfl)
    (fun pre W => (∃ v, Boxed W w.heap.size 23 v ∧ W.ownsRow (w.heap.size + 2) 3 1 v pre.length (iv (pre.map (·.2))) ∧ (pre.length = 0 → v = .slice none 0 0)) ∧ Below w.heap.size w W)
    (fun c pre W => False)
    (OwnFrom.and (Own.from (fun s X Y row hs hg hr => by obtain ⟨v, h1, h2, h3⟩ := hs; exact ⟨v, boxed_own _ 23 (fun (_ : Unit) => v) () X Y row h1 hg hr, own_own h2 hg hr, h3⟩) _) (ownFrom_below (Nat.le_refl _) (by omega)))
    (fun c s X Y row hs hg hr => hs)
    ⟨⟨_, bL, World.ownsRow_nil _ _ _ _, fun _ => rfl⟩, hbw⟩
    (fun x a' W => a' = { tmps := #[.int .u64 ((enc (n :: l) : Nat) : Int), undef, .slice none 0 0, .pointer (some ⟨w.heap.size, 0, none⟩), undef, .int .i64 (x.2 : Int), .int .u64 ((enc (n :: l) : Nat) : Int), .func (.func 36) #[] #[.pointer (some ⟨w.heap.size + 1, 0, none⟩)], .int .i64 (x.1 : Int), .int .i64 (x.2 : Int), undef, undef, undef, undef, undef], defers := [] })
    (fun x a' _ X Y row hs hg hr => hs)
    ?assign ?body ?done ?stop
  case assign =>
    rintro lp pre x W K hI hK
    dsimp only [encs]
    gi_wp2
    exact hK _ _ ((KeepsOthers.refl _).from _) ⟨Nat.le_refl _, fun hb => hb⟩ hI rfl
  case body =>
    rintro lp pre x a' W hl ⟨r0, hr0⟩ ⟨⟨v, bL1, own1, _⟩, hB1⟩ rfl hlt
    have cL := bL1.cell
    have fL := bL1.frozen
    have hw2 : w.heap.size + 2 ≤ W.heap.size := by have := (Array.getElem?_eq_some_iff.1 hr0).1; omega
    clear hr0
    have hp15 : pre.length < 15 := by omega
    have HPL := Lib.hid hp15
    clear hp15 hlt
    gi_wp2_with (gi_at_builtin; refine wpListIn_append_own _ rfl _ _ 23 rfl (w.heap.size + 2) 3 i0 (.int .i64 0) 1 8 Try.underlying23 hi hz0 hz1 hz2 rfl (by decide) _ _ _ rfl (own1.alloc _) ⟨W.heap.size, 0, none⟩ 1 1 [.int .i64 (x.2 : Int)] rfl rfl (by intro j u hj; match j, hj with | 0, hj => (simp at hj; subst hj; simp [Addr.add, go_sem])) (by intro u hu; simp at hu; subst hu; rfl) (by have := HPL.out; unfold maxLen; omega) (by have := HPL.out; omega) (by simp; omega) ?_)
    intro v' W1 hown' hgrow _
    have hne : some w.heap.size ≠ v.ownBlock := fun e => by have := (own1.lt _ e.symm).1; omega
    have hne1 : some (w.heap.size + 1) ≠ v.ownBlock := fun e => by have := (own1.lt _ e.symm).1; omega
    have bL2 : Boxed W1 w.heap.size 23 v := (bL1.alloc _).kept hgrow hne
    have ks := ((KeepsOthers.alloc W (.cells #[.int .i64 (x.2 : Int)] 3)).trans (keeps_row (own1.alloc _) hgrow)).from (B := W0.heap.size)
    have kb : KB (w.heap.size + 1) 22 (.int .u64 ((enc (n :: l) : Nat) : Int)) W W1 := (KB.below ((Below.refl _ W).alloc (Nat.le_refl _) _)).trans (KB.grown hgrow hne1)
    have hB2 : Below w.heap.size w W1 := (hB1.alloc hB1.size _).grown hgrow (by simp; omega) (fun j hj => by have := (own1.lt j hj).1; omega)
    have cL2 := bL2.cell
    have fL2 := bL2.frozen
    have hl2 := bL2.lt
    rw [← iv_snoc] at hown'
    clear cL fL bL1 hgrow own1
    obtain ⟨g, gc, rfl⟩ := own_some hown' (by omega)
    gi_wp2_with fail
    refine ⟨ks.trans ((KeepsOthers.setCell _ _ _).from _), kb.trans (KB.grown (grownBy_setCell' _ _ _) (by simp)), ⟨_, bL2.set _, ?_, fun h => absurd h (by simp)⟩, hB2.setCell (p := ⟨w.heap.size, 0, none⟩) (by simp) _⟩
    have hk := hown'.kept (grownBy_setCell' W1 w.heap.size (.slice (some ⟨g, 0, none⟩) (pre.length + 1) gc)) (.inr fun e => by have := (hown'.lt _ e).1; omega)
    simpa using hk
  case done =>
    rintro D zs W hD rfl ⟨⟨v, bL1, own1, hv0⟩, hB1⟩ hK
    have cL := bL1.cell
    replace hv0 := Lib.hid hv0
    gi_wp2
    replace hv0 := hv0.out
    refine ⟨by simp, .inl ⟨_, _, rfl, run_takeDeferred hK, ?_⟩⟩
    rw [upl_length] at own1 hv0
    refine ⟨v, ?_, ⟨v, rfl, own_base (by omega) (own_own own1 (grownBy_putObj' W D (.deferred none)) (fun r e => by cases e; exact ⟨_, hK, rfl⟩)), hv0⟩, hB1.trans (belowK_b (w := w) (Nat.le_refl _) W D _ _ (by omega) hK rfl rfl)⟩
    simp [results, Try.f19, go_sem]
  case stop =>
    rintro D c pre W hD _ hf hK
    exact hf.elim
end Go.Proofs.Ytochdmdojcfceaa
