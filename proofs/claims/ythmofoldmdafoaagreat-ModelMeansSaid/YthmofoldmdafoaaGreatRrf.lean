/- ModelReads: a transaction that reads alone writes nothing, and is answered the same again and again; for every input. Part 6. -/
import Derived.Test.YthmofoldmdafoaaGreatRre
import Derived.Maps.AppendAt
import Derived.RangeFuncNested
import Derived.RangeFuncBound
import Derived.RangeFuncCalls
import Derived.RangeFuncLeaves
import Derived.Shelf.Abstract
import Derived.Shelf.RegionOpen
import Derived.OwnWalkIn
import Derived.TacticsInMore
import Derived.LoopNIn
import Derived.LoopIn
import Derived.Maps.OwnIn
import Derived.Sort.MapsRangeIn
import Derived.Deep.MidRow
import Derived.Deep.Upon
import Derived.Shelf.SortM.Plain
import Derived.Shelf.SortM.SortNone
import Derived.Ground.SlgmProg
import Derived.Test.YthmofoldmdafoaaGreatProg
import Derived.Sort.OwnSorted
import Derived.Lib.Bytealg
import Derived.Lib.Walk
import Derived.Test.YthmofoldmdafoaaGreatRra
namespace Go.Proofs.YthmofoldmdafoaaGreat
open Go.ChangeShapes Go.WideShapes Go.ChangeAt Go.RowKit Go.Maps Go.Shelf
set_option linter.unusedVariables false
set_option linter.unusedSimpArgs false

attribute [local go_sem] Oper.semAt_some
theorem info9 : (Tryz.prog.info? 9).map (fun i => (i.zero, i.size, i.bytes)) = some (some (.string ⟨#[]⟩), 1, 16) := by kernel_rfl
theorem box_set (W : World) (B : Nat) (t : TypeId) (v u : Value) (h : Boxed W B t v) : Boxed (W.setCell ⟨B, 0, none⟩ u) B t u := h.set _
/-- Keys put behind keys. -/
def AppS {α : Type} (L : List (List Int × α)) (base : Nat) (ss0 : List (List Int)) (w : World) (e : Ending) (w' : World) : Prop := ∃ ss v, e = .returned v ∧ AllS L ss ∧ w'.ownsRow base 9 1 v (ss0 ++ ss).length (cellsOf skv (ss0 ++ ss)) ∧ Below base w w'
set_option maxRecDepth 100000 in
set_option maxHeartbeats 4000000 in
theorem rapp_law (w : World) (Bm b base : Nat) (L : List (List Int × RV)) (hBm : Boxed w Bm 90 (.map (some b))) (hM : Mp w b RV.v L) (hN : L.length ≤ 1000000) (v0 : Value) (ss0 : List (List Int)) (hss : ss0.length ≤ 1000000) (hbase : base ≤ w.heap.size) (how : w.ownsRow base 9 1 v0 ss0.length (cellsOf skv ss0)) :
    Calls Tryz.prog 108 #[v0, .func (.func 133) #[] #[.pointer (some ⟨Bm, 0, none⟩)]] w (AppS L base ss0 w) := by
  have HN := Lib.hid (show Maps.size (mOf RV.v L) ≤ 1000000 by rw [size_mOf]; exact hN)
  have HSS := Lib.hid hss
  have HBA := Lib.hid hbase
  clear hN hss
  obtain ⟨i0, hi, hz0, hz1, hz2⟩ := info_parts info9
  obtain ⟨a0, c0, hv0⟩ := own_form22 how
  subst hv0
  refine (callsIn_wide (n := 6)).1 ?_
  refine callsIn_of_wp_marks Tryz.func108 rfl trivial ?_ rfl
  simp only [Tryz.ntmps108, List.size_toArray, List.length_cons, List.length_nil, Nat.reduceAdd, Nat.reduceSub, Array.replicate_succ, Array.replicate_zero, List.push_toArray, List.append_toArray, List.nil_append, List.cons_append]
  gi_wp2_with fail
  have hbw : Below w.heap.size w (w.alloc (.cells #[.slice a0 ss0.length c0] 134)) := bl1 _ _
  have bL := Boxed.new w 134 (.slice a0 ss0.length c0)
  have hsz : (w.alloc (.cells #[.slice a0 ss0.length c0] 134)).heap.size = w.heap.size + 1 := by simp
  have bM : Boxed (w.alloc (.cells #[.slice a0 ss0.length c0] 134)) Bm 90 (.map (some b)) := (hbw.block Bm hBm.lt).trans hBm
  have bO : Mp (w.alloc (.cells #[.slice a0 ss0.length c0] 134)) b RV.v L := hM.below hbw
  have how0 := own_kept how hbw
  obtain ⟨W0, hW0⟩ : ∃ W0, w.alloc (.cells #[.slice a0 ss0.length c0] 134) = W0 := ⟨_, rfl⟩
  rw [hW0] at bL hbw hsz bM bO how0 ⊢
  clear hW0 hBm hM how
  have HC := rkeys_stops 5 (by omega) Bm b L W0 bM bO
  clear bM bO
  refine wpIn_rangeFunc_ownH rfl (by omega) (gf := 133) (lb := #[.pointer (some ⟨Bm, 0, none⟩)]) rfl trivial (enters_of Tryz.func133 (by kernel_rfl) rfl)
    HC walksK_t (walksK_b (w := W0)) (Below.refl _ _) (fun _ => rfl)
    (fun pre W => (∃ v, Boxed W w.heap.size 134 v ∧ W.ownsRow base 9 1 v (ss0 ++ pre).length (cellsOf skv (ss0 ++ pre))) ∧ Below base w W)
    (fun c pre W => False)
    (OwnFrom.and (Own.from (fun s X Y row hs hg hr => by obtain ⟨v, h1, h2⟩ := hs; exact ⟨v, boxed_own _ 134 (fun (_ : Unit) => v) () X Y row h1 hg hr, own_own22 h2 hg hr⟩) _) (ownFrom_below hbase (by omega)))
    (fun c s X Y row hs hg hr => hs)
    ⟨⟨_, bL, by rw [List.append_nil]; exact how0⟩, hbw.mono hbase⟩
    (fun x a' W => a' = { tmps := #[.slice a0 ss0.length c0, .func (.func 133) #[] #[.pointer (some ⟨Bm, 0, none⟩)], .pointer (some ⟨w.heap.size, 0, none⟩), undef, .slice none 0 0, .string (strOfNums x), .func (.func 133) #[] #[.pointer (some ⟨Bm, 0, none⟩)], .string (strOfNums x), undef, undef, undef, undef, undef], defers := [] })
    (fun x a' _ X Y row hs hg hr => hs)
    ?assign ?body ?done ?stop
  case assign =>
    rintro lp pre x W K hI hK
    dsimp only [encK]
    gi_wp2
    exact hK _ _ ((KeepsOthers.refl _).from _) (KeepsWalks.refl _) hI rfl
  case body =>
    rintro lp pre x a' W hl ⟨r0, hr0⟩ ⟨⟨v, bL1, own1⟩, hB1⟩ rfl hlt
    have cL := bL1.cell
    have fL := bL1.frozen
    have hw2 : w.heap.size + 1 ≤ W.heap.size := by have := (Array.getElem?_eq_some_iff.1 hr0).1; omega
    clear hr0
    have HPL := Lib.hid (show (ss0 ++ pre).length < 2000000 by rw [List.length_append]; have := HN.out; have := HSS.out; omega)
    clear hlt
    gi_wp2_with (gi_at_builtin; refine wpListIn_append_own _ rfl _ _ 134 rfl base 9 i0 (.string ⟨#[]⟩) 1 16 Tryz.underlying134 hi hz0 hz1 hz2 rfl (by decide) _ _ _ rfl (own1.alloc _) ⟨W.heap.size, 0, none⟩ 1 1 [.string (strOfNums x)] rfl rfl (by intro j u hj; match j, hj with | 0, hj => (simp at hj; subst hj; simp [Addr.add, go_sem])) (by intro u hu; simp at hu; subst hu; rfl) (by have := HPL.out; unfold maxLen; omega) (by have := HPL.out; omega) (by simp; omega) ?_)
    intro v' W1 hown' hgrow _
    have hne : some w.heap.size ≠ v.ownBlock := fun e => by
      obtain ⟨_, _, cur, hb⟩ := own_blk own1 e.symm
      exact box_ne hb (show BoxC W w.heap.size #[v] 134 from bL1) (by decide) rfl
    have bL2 : Boxed W1 w.heap.size 134 v := (bL1.alloc _).kept hgrow hne
    have ko := (KeepsOthers.alloc W (.cells #[.string (strOfNums x)] 9)).trans (keeps_row22 (own1.alloc _) hgrow)
    have hB2 : Below base w W1 := (hB1.alloc (by omega) _).grown hgrow (by simp; omega) (fun j hj => (own1.lt j hj).1)
    have cL2 := bL2.cell
    have fL2 := bL2.frozen
    have hl2 := bL2.lt
    have hown2 : W1.ownsRow base 9 1 v' (ss0 ++ (pre ++ [x])).length (cellsOf skv (ss0 ++ (pre ++ [x]))) := by
      have e : (ss0 ++ (pre ++ [x])).length = ss0.length + pre.length + 1 := by simp; omega
      rw [e, ← List.append_assoc, cellsOf_append]
      exact hown'
    clear cL fL bL1 hgrow own1 hown'
    obtain ⟨g, gc, rfl⟩ := own_form22 hown2
    gi_wp2_with fail
    refine ⟨(ko.trans (KeepsOthers.setCell _ _ _)).from _, (ko.trans (KeepsOthers.setCell _ _ _)).walks, ⟨_, box_set _ _ _ _ _ bL2, ?_⟩, hB2.setCell (p := ⟨w.heap.size, 0, none⟩) hbase _⟩
    have hfin := fun u => ownsRow_setCell_other (a := ⟨w.heap.size, 0, none⟩) hown2 (fun e => by
      obtain ⟨_, _, cur, hb⟩ := own_blk hown2 e
      exact box_ne hb (show BoxC W1 w.heap.size #[v] 134 from bL2) (by decide) rfl) u
    have hlen : (ss0 ++ (pre ++ [x])).length = ss0.length + (pre.length + 1) := by simp
    rw [hlen] at hfin ⊢
    exact hfin _
  case done =>
    rintro Dd zs W hD hzs ⟨⟨v, bL1, own1⟩, hB1⟩ hK
    have cL := bL1.cell
    have HZ := Lib.hid hzs
    clear hzs
    gi_wp2
    refine ⟨by simp, .inl ⟨_, _, rfl, run_takeDeferred hK, ?_⟩⟩
    refine ⟨v, ?_, zs, v, rfl, HZ.out, own_own22 own1 (grownBy_putObj' W Dd (.deferred none)) (fun r e => by cases e; exact ⟨_, hK, rfl⟩), hB1.trans (belowK_b (w := w) hbase W Dd _ _ (by omega) hK rfl rfl)⟩
    simp [results, Tryz.f108, go_sem]
  case stop =>
    rintro Dd c pre W hD _ hf hK
    exact hf.elim
set_option maxRecDepth 100000 in
set_option maxHeartbeats 4000000 in
theorem iapp_law (w : World) (Bm b base : Nat) (L : List (List Int × Nat)) (hBm : Boxed w Bm 173 (.map (some b))) (hM : Mp w b iV L) (hN : L.length ≤ 1000000) (v0 : Value) (ss0 : List (List Int)) (hss : ss0.length ≤ 1000000) (hbase : base ≤ w.heap.size) (how : w.ownsRow base 9 1 v0 ss0.length (cellsOf skv ss0)) :
    Calls Tryz.prog 108 #[v0, .func (.func 134) #[] #[.pointer (some ⟨Bm, 0, none⟩)]] w (AppS L base ss0 w) := by
  have HN := Lib.hid (show Maps.size (mOf iV L) ≤ 1000000 by rw [size_mOf]; exact hN)
  have HSS := Lib.hid hss
  have HBA := Lib.hid hbase
  clear hN hss
  obtain ⟨i0, hi, hz0, hz1, hz2⟩ := info_parts info9
  obtain ⟨a0, c0, hv0⟩ := own_form22 how
  subst hv0
  refine (callsIn_wide (n := 6)).1 ?_
  refine callsIn_of_wp_marks Tryz.func108 rfl trivial ?_ rfl
  simp only [Tryz.ntmps108, List.size_toArray, List.length_cons, List.length_nil, Nat.reduceAdd, Nat.reduceSub, Array.replicate_succ, Array.replicate_zero, List.push_toArray, List.append_toArray, List.nil_append, List.cons_append]
  gi_wp2_with fail
  have hbw : Below w.heap.size w (w.alloc (.cells #[.slice a0 ss0.length c0] 134)) := bl1 _ _
  have bL := Boxed.new w 134 (.slice a0 ss0.length c0)
  have hsz : (w.alloc (.cells #[.slice a0 ss0.length c0] 134)).heap.size = w.heap.size + 1 := by simp
  have bM : Boxed (w.alloc (.cells #[.slice a0 ss0.length c0] 134)) Bm 173 (.map (some b)) := (hbw.block Bm hBm.lt).trans hBm
  have bO : Mp (w.alloc (.cells #[.slice a0 ss0.length c0] 134)) b iV L := hM.below hbw
  have how0 := own_kept how hbw
  obtain ⟨W0, hW0⟩ : ∃ W0, w.alloc (.cells #[.slice a0 ss0.length c0] 134) = W0 := ⟨_, rfl⟩
  rw [hW0] at bL hbw hsz bM bO how0 ⊢
  clear hW0 hBm hM how
  have HC := ikeys_stops 5 (by omega) Bm b L W0 bM bO
  clear bM bO
  refine wpIn_rangeFunc_ownH rfl (by omega) (gf := 134) (lb := #[.pointer (some ⟨Bm, 0, none⟩)]) rfl trivial (enters_of Tryz.func134 (by kernel_rfl) rfl)
    HC walksK_t (walksK_b (w := W0)) (Below.refl _ _) (fun _ => rfl)
    (fun pre W => (∃ v, Boxed W w.heap.size 134 v ∧ W.ownsRow base 9 1 v (ss0 ++ pre).length (cellsOf skv (ss0 ++ pre))) ∧ Below base w W)
    (fun c pre W => False)
    (OwnFrom.and (Own.from (fun s X Y row hs hg hr => by obtain ⟨v, h1, h2⟩ := hs; exact ⟨v, boxed_own _ 134 (fun (_ : Unit) => v) () X Y row h1 hg hr, own_own22 h2 hg hr⟩) _) (ownFrom_below hbase (by omega)))
    (fun c s X Y row hs hg hr => hs)
    ⟨⟨_, bL, by rw [List.append_nil]; exact how0⟩, hbw.mono hbase⟩
    (fun x a' W => a' = { tmps := #[.slice a0 ss0.length c0, .func (.func 134) #[] #[.pointer (some ⟨Bm, 0, none⟩)], .pointer (some ⟨w.heap.size, 0, none⟩), undef, .slice none 0 0, .string (strOfNums x), .func (.func 134) #[] #[.pointer (some ⟨Bm, 0, none⟩)], .string (strOfNums x), undef, undef, undef, undef, undef], defers := [] })
    (fun x a' _ X Y row hs hg hr => hs)
    ?assign ?body ?done ?stop
  case assign =>
    rintro lp pre x W K hI hK
    dsimp only [encK]
    gi_wp2
    exact hK _ _ ((KeepsOthers.refl _).from _) (KeepsWalks.refl _) hI rfl
  case body =>
    rintro lp pre x a' W hl ⟨r0, hr0⟩ ⟨⟨v, bL1, own1⟩, hB1⟩ rfl hlt
    have cL := bL1.cell
    have fL := bL1.frozen
    have hw2 : w.heap.size + 1 ≤ W.heap.size := by have := (Array.getElem?_eq_some_iff.1 hr0).1; omega
    clear hr0
    have HPL := Lib.hid (show (ss0 ++ pre).length < 2000000 by rw [List.length_append]; have := HN.out; have := HSS.out; omega)
    clear hlt
    gi_wp2_with (gi_at_builtin; refine wpListIn_append_own _ rfl _ _ 134 rfl base 9 i0 (.string ⟨#[]⟩) 1 16 Tryz.underlying134 hi hz0 hz1 hz2 rfl (by decide) _ _ _ rfl (own1.alloc _) ⟨W.heap.size, 0, none⟩ 1 1 [.string (strOfNums x)] rfl rfl (by intro j u hj; match j, hj with | 0, hj => (simp at hj; subst hj; simp [Addr.add, go_sem])) (by intro u hu; simp at hu; subst hu; rfl) (by have := HPL.out; unfold maxLen; omega) (by have := HPL.out; omega) (by simp; omega) ?_)
    intro v' W1 hown' hgrow _
    have hne : some w.heap.size ≠ v.ownBlock := fun e => by
      obtain ⟨_, _, cur, hb⟩ := own_blk own1 e.symm
      exact box_ne hb (show BoxC W w.heap.size #[v] 134 from bL1) (by decide) rfl
    have bL2 : Boxed W1 w.heap.size 134 v := (bL1.alloc _).kept hgrow hne
    have ko := (KeepsOthers.alloc W (.cells #[.string (strOfNums x)] 9)).trans (keeps_row22 (own1.alloc _) hgrow)
    have hB2 : Below base w W1 := (hB1.alloc (by omega) _).grown hgrow (by simp; omega) (fun j hj => (own1.lt j hj).1)
    have cL2 := bL2.cell
    have fL2 := bL2.frozen
    have hl2 := bL2.lt
    have hown2 : W1.ownsRow base 9 1 v' (ss0 ++ (pre ++ [x])).length (cellsOf skv (ss0 ++ (pre ++ [x]))) := by
      have e : (ss0 ++ (pre ++ [x])).length = ss0.length + pre.length + 1 := by simp; omega
      rw [e, ← List.append_assoc, cellsOf_append]
      exact hown'
    clear cL fL bL1 hgrow own1 hown'
    obtain ⟨g, gc, rfl⟩ := own_form22 hown2
    gi_wp2_with fail
    refine ⟨(ko.trans (KeepsOthers.setCell _ _ _)).from _, (ko.trans (KeepsOthers.setCell _ _ _)).walks, ⟨_, box_set _ _ _ _ _ bL2, ?_⟩, hB2.setCell (p := ⟨w.heap.size, 0, none⟩) hbase _⟩
    have hfin := fun u => ownsRow_setCell_other (a := ⟨w.heap.size, 0, none⟩) hown2 (fun e => by
      obtain ⟨_, _, cur, hb⟩ := own_blk hown2 e
      exact box_ne hb (show BoxC W1 w.heap.size #[v] 134 from bL2) (by decide) rfl) u
    have hlen : (ss0 ++ (pre ++ [x])).length = ss0.length + (pre.length + 1) := by simp
    rw [hlen] at hfin ⊢
    exact hfin _
  case done =>
    rintro Dd zs W hD hzs ⟨⟨v, bL1, own1⟩, hB1⟩ hK
    have cL := bL1.cell
    have HZ := Lib.hid hzs
    clear hzs
    gi_wp2
    refine ⟨by simp, .inl ⟨_, _, rfl, run_takeDeferred hK, ?_⟩⟩
    refine ⟨v, ?_, zs, v, rfl, HZ.out, own_own22 own1 (grownBy_putObj' W Dd (.deferred none)) (fun r e => by cases e; exact ⟨_, hK, rfl⟩), hB1.trans (belowK_b (w := w) hbase W Dd _ _ (by omega) hK rfl rfl)⟩
    simp [results, Tryz.f108, go_sem]
  case stop =>
    rintro Dd c pre W hD _ hf hK
    exact hf.elim
set_option maxRecDepth 100000 in
set_option maxHeartbeats 4000000 in
/-- slices.Collect over the keys of rows. -/
theorem rcollect_law (w : World) (Bm b : Nat) (L : List (List Int × RV)) (hBm : Boxed w Bm 90 (.map (some b))) (hM : Mp w b RV.v L) (hN : L.length ≤ 1000000) :
    Calls Tryz.prog 109 #[.func (.func 133) #[] #[.pointer (some ⟨Bm, 0, none⟩)]] w (AppS L w.heap.size [] w) := by
  have HA := Lib.hid (rapp_law w Bm b w.heap.size L hBm hM hN (.slice none 0 0) [] (by simp) (Nat.le_refl _) (World.ownsRow_nil _ _ _ _))
  clear hBm hM hN
  go_enter Tryz.func109, Tryz.ntmps109
  go_wp2_with (go_at_call 108; refine HA.out.mono ?_; rintro e w' ⟨ss, v, rfl, h1, h2, h3⟩; replace h1 := Lib.hid h1; replace h2 := Lib.hid h2; replace h3 := Lib.hid h3)
  go_ret
  exact ⟨ss, v, rfl, h1.out, h2.out, h3.out⟩
end Go.Proofs.YthmofoldmdafoaaGreat
namespace Go.Proofs.YthmofoldmdafoaaGreat
open Go.ChangeShapes Go.WideShapes Go.ChangeAt Go.RowKit Go.Maps
set_option linter.unusedVariables false
set_option linter.unusedSimpArgs false

theorem snocInd {α : Type} {motive : List α → Prop} (nil : motive []) (append_singleton : ∀ (l : List α) (x : α), motive l → motive (l ++ [x])) (l : List α) : motive l := by
  have : ∀ r : List α, motive r.reverse := fun r => by
    induction r with
    | nil => exact nil
    | cons x r ih => rw [List.reverse_cons]; exact append_singleton _ _ ih
  have := this l.reverse
  rwa [List.reverse_reverse] at this
/-- A list without what comes twice in a row. -/
def cstep (o : List (List Int)) (x : List Int) : List (List Int) := if o.getLast? = some x then o else o ++ [x]
def compL (l : List (List Int)) : List (List Int) := l.foldl cstep []
theorem compL_snoc (l : List (List Int)) (x : List Int) : compL (l ++ [x]) = cstep (compL l) x := by simp [compL, List.foldl_append]
theorem compL_last (l : List (List Int)) : (compL l).getLast? = l.getLast? := by
  induction l using snocInd with
  | nil => rfl
  | append_singleton l x ih =>
    rw [compL_snoc]
    unfold cstep
    by_cases e : (compL l).getLast? = some x
    · rw [if_pos e, e]; simp
    · rw [if_neg e]; simp
theorem compL_take (S : List (List Int)) {p : Nat} {x y : List Int} (h1 : S[p]? = some x) (h0 : 0 < p) (h2 : S[p - 1]? = some y) : compL (S.take (p + 1)) = if x = y then compL (S.take p) else compL (S.take p) ++ [x] := by
  rw [List.take_add_one, h1]
  show compL (S.take p ++ [x]) = _
  rw [compL_snoc]
  unfold cstep
  have hl : (compL (S.take p)).getLast? = some y := by
    rw [compL_last, List.getLast?_eq_getElem?, List.length_take, List.getElem?_take]
    have hp := (List.getElem?_eq_some_iff.1 h1).1
    rw [Nat.min_eq_left (by omega), if_pos (by omega)]
    exact h2
  rw [hl]
  by_cases e : x = y
  · rw [if_pos (by rw [e]), if_pos e]
  · rw [if_neg (by simpa using Ne.symm e), if_neg e]
theorem compL_len (l : List (List Int)) : (compL l).length ≤ l.length := by
  induction l using snocInd with
  | nil => exact Nat.le_refl _
  | append_singleton l x ih =>
    rw [compL_snoc]
    unfold cstep
    split
    · rw [List.length_append]; omega
    · rw [List.length_append, List.length_append]; simp; omega
theorem compL_mem (l : List (List Int)) (x : List Int) : x ∈ compL l ↔ x ∈ l := by
  induction l using snocInd with
  | nil => exact Iff.rfl
  | append_singleton l y ih =>
    rw [compL_snoc]
    unfold cstep
    by_cases e : (compL l).getLast? = some y
    · rw [if_pos e, ih, List.mem_append, List.mem_singleton]
      constructor
      · exact .inl
      · rintro (h | rfl)
        · exact h
        · rw [← ih]; exact List.mem_of_getLast? e
    · rw [if_neg e, List.mem_append, List.mem_append, ih]
theorem compL_ris (l : List (List Int)) (h : l.Pairwise fun a b => ltL b a = false) : Ris id (compL l) := by
  induction l using snocInd with
  | nil => exact List.Pairwise.nil
  | append_singleton l y ih =>
    obtain ⟨h1, _, h3⟩ := List.pairwise_append.1 h
    have hr := ih h1
    rw [compL_snoc]
    unfold cstep
    by_cases e : (compL l).getLast? = some y
    · rw [if_pos e]; exact hr
    · rw [if_neg e]
      refine List.pairwise_append.2 ⟨hr, by simp, fun a ha b hb => ?_⟩
      rw [List.mem_singleton] at hb
      subst hb
      have ham := (compL_mem l a).1 ha
      have hle := h3 a ham b (List.mem_singleton.2 rfl)
      refine ltL_or hle fun eq => e ?_
      have eq : a = b := eq
      subst eq
      -- a is in the list and nothing behind it is greater: it is the last
      cases hl : (compL l).getLast? with
      | none => rw [List.getLast?_eq_none_iff] at hl; rw [hl] at ha; cases ha
      | some z =>
        have hz := List.mem_of_getLast? hl
        have hzm := (compL_mem l z).1 hz
        have h4 := h3 z hzm a (List.mem_singleton.2 rfl)
        by_cases ez : z = a
        · rw [ez]
        · exfalso
          have hlt : ltL z a = true := ltL_or h4 ez
          have h5 : ltL a z = true := by
            obtain ⟨i, hi⟩ := List.mem_iff_getElem?.1 ha
            rw [List.getLast?_eq_getElem?] at hl
            have hil := (List.getElem?_eq_some_iff.1 hi).1
            by_cases ei : i = (compL l).length - 1
            · rw [ei, hl] at hi; exact absurd (Option.some.inj hi) ez
            · have := List.pairwise_iff_getElem.1 hr i ((compL l).length - 1) hil (by omega) (by omega)
              rw [List.getElem?_eq_getElem hil] at hi
              rw [List.getElem?_eq_getElem (by omega)] at hl
              rw [Option.some.inj hi, Option.some.inj hl] at this
              exact this
          rw [ltL_asym h5] at hlt
          cases hlt
theorem sizeOf134 (W : World) : ((sizeOf (Tryz.prog.elem 134)).run Tryz.prog W) = .ok 1 W := by
  obtain ⟨i0, hi0, hz0, hz1, hz2⟩ := info_parts info9
  have hel : Tryz.prog.elem 134 = 9 := by simp [Program.elem, Tryz.underlying134]
  rw [hel]; simp [sizeOf, typeInfo, hi0, hz1]
theorem hi134 (W : World) (a : Option Addr) (n c i : Nat) (hi : i ≤ n) (hnc : n ≤ c) : (Instr.slice 134 (.slice a n c) .none (some (.int .i64 (i : Int))) .none).run Tryz.prog W = .ok (.slice a i c) W := by
  have hel : Tryz.prog.elem 134 = 9 := by simp [Program.elem, Tryz.underlying134]
  rw [run_slice_h (P := Tryz.prog) (w := W) 134 a n c (by rw [hel]; exact Tryz.underlying134) .i64 i (by omega) (by omega), sizeOf134]
  cases a <;> simp [sliced, Result.andThen, Addr.add]
theorem lo134 (W : World) (g n c i : Nat) (hi : i < n) (hnc : n ≤ c) : (Instr.slice 134 (.slice (some ⟨g, 0, none⟩) n c) (some (.int .i64 (i : Int))) .none .none).run Tryz.prog W = .ok (.slice (some ⟨g, i, none⟩) (n - i) (c - i)) W := by
  have hel : Tryz.prog.elem 134 = 9 := by simp [Program.elem, Tryz.underlying134]
  rw [run_slice_l (P := Tryz.prog) (w := W) 134 (some ⟨g, 0, none⟩) n c (by rw [hel]; exact Tryz.underlying134) .i64 i (by omega) (by omega), sizeOf134]
  have hci : ¬ c = i := by omega
  by_cases h0 : i = 0
  · subst h0; simp [sliced, Result.andThen, Addr.add]
  · simp [sliced, Result.andThen, Addr.add, hci, h0]
theorem clear134 (W : World) (ty : TypeId) (g o n c : Nat) (hn : 0 < n) (hc : ∀ j, j < n → (W.cell? ⟨g, o + j, none⟩).isSome = true) (hf : ∀ j, j < n → W.frozen? ⟨g, o + j, none⟩ = false) :
    ∃ vs, (Builtin.clear_ #[134] ty #[.slice (some ⟨g, o, none⟩) n c]).run Tryz.prog W = .ok (.tuple #[]) (W.setCells g o vs) := by
  obtain ⟨i0, hi, hz0, hz1, hz2⟩ := info_parts info9
  refine ⟨(Builtin.zeroCells #[.string ⟨#[]⟩] n).toList, ?_⟩
  have hv : (zeroValue 9).run Tryz.prog W = .ok (.string ⟨#[]⟩) W := by simp [zeroValue, typeInfo, hi, hz0]
  have hst := run_storeCells_cells (P := Tryz.prog) g o (Builtin.zeroCells #[.string ⟨#[]⟩] n).toList 0 W (by simpa [Builtin.zeroCells] using hc) (by simpa [Builtin.zeroCells] using hf) (by
    intro v hv'
    simp only [Builtin.zeroCells, Array.toList_map, List.mem_map] at hv'
    obtain ⟨j, _, rfl⟩ := hv'
    simp [Nat.mod_one, Value.oneCell'])
  simp only [Nat.add_zero] at hst
  obtain ⟨m, rfl⟩ : ∃ m, n = m + 1 := ⟨n - 1, by omega⟩
  simp [Builtin.clear_, run_underlying Tryz.underlying134, hv, hst, Value.cells]
theorem Off.setCells (g : Nat) : ∀ (vs : List Value) (o : Nat) (W : World), Off (fun k => k = g) W (W.setCells g o vs)
  | [], o, W => Off.refl _ W
  | v :: vs, o, W => Off.trans (Off.set (S := fun k => k = g) (Off.refl _ W) ⟨g, o, none⟩ rfl v) (Off.setCells g vs (o + 1) _)
/-- Texts in a row, as they are read. -/
def StR (W : World) (a : Option Addr) (L : List (List Int)) : Prop := ∀ (k : Nat) (K : List Int), L[k]? = some K → ∃ g, a = some ⟨g, 0, none⟩ ∧ W.cell? ⟨g, k, none⟩ = some (.string (strOfNums K))
theorem StR.below {W W' : World} {a : Option Addr} {L : List (List Int)} (h : StR W a L) (hb : Below W.heap.size W W') : StR W' a L := fun k K hk => by
  obtain ⟨g, e, c⟩ := h k K hk
  exact ⟨g, e, (hb.cell (World.block_lt_of_cell? W _ c)).trans c⟩
theorem own_str {W : World} {base n c : Nat} {a : Option Addr} {L : List (List Int)} (h : W.ownsRow base 9 1 (.slice a n c) n (cellsOf skv L)) (hn : L.length = n) : StR W a L := fun k K hk => by
  obtain ⟨g, e, _, hc⟩ := own_cell22 skv_len (by omega) h hn k K hk
  refine ⟨g, e, ?_⟩
  have := hc 0 (by omega)
  rw [Nat.mul_one, Nat.add_zero] at this
  exact this
theorem cells_skv (L : List (List Int)) (k : Nat) : (cellsOf skv L)[k]? = L[k]?.map fun K => Value.string (strOfNums K) := by
  cases h : L[k]? with
  | none =>
    rw [List.getElem?_eq_none_iff] at h
    show _ = none
    rw [List.getElem?_eq_none_iff, cellsOf_len skv_len]; omega
  | some K =>
    have := cellsOf_at skv_len L k 0 K h (by omega)
    rw [Nat.mul_one, Nat.add_zero] at this
    rw [this]; rfl
theorem skv_set (L : List (List Int)) (k : Nat) (K : List Int) (hk : k < L.length) : (cellsOf skv L).set k (.string (strOfNums K)) = cellsOf skv (L.set k K) := by
  have := cells_set skv_len (by omega) L k 0 (L[k]) K (.string (strOfNums K)) (List.getElem?_eq_getElem hk) (by omega) rfl
  rw [Nat.mul_one, Nat.add_zero] at this
  exact this
/-- How Compact ends. -/
def CmR (v0 : Value) (S : List (List Int)) (w : World) (r : Ending) (w' : World) : Prop := ∃ a c, r = .returned (.slice a (compL S).length c) ∧ StR w' a (compL S) ∧ Off (fun k => v0.ownBlock = some k) w w'
end Go.Proofs.YthmofoldmdafoaaGreat
namespace Go.Proofs.YthmofoldmdafoaaGreat
open Go.ChangeShapes Go.WideShapes Go.ChangeAt Go.RowKit Go.Maps
set_option linter.unusedVariables false
set_option linter.unusedSimpArgs false

theorem str_eqB {A B : List Int} (ha : Byt A) (hb : Byt B) : ((strOfNums A).toList == (strOfNums B).toList) = decide (A = B) := by
  by_cases e : A = B
  · subst e; simp
  · rw [decide_eq_false e, beq_eq_false_iff_ne]
    intro h
    refine e (str_inj ha hb ?_)
    rw [ByteArray.toList_eq, ByteArray.toList_eq] at h
    exact ByteArray.ext (by simpa using h)
theorem compL_short {S : List (List Int)} (h : S.length < 2) : compL S = S := by
  match S, h with
  | [], _ => rfl
  | [x], _ => rfl
  | x :: y :: r, h => exact absurd h (by simp)
set_option maxRecDepth 100000 in
set_option maxHeartbeats 4000000 in
/-- slices.Compact (113). -/
theorem compact_law (base : Nat) (a : Option Addr) (n c : Nat) (S : List (List Int)) (hn : S.length = n) (hn2 : n ≤ 2000000) (bS : ∀ K ∈ S, Byt K) (w : World) (how : w.ownsRow base 9 1 (.slice a n c) n (cellsOf skv S)) :
    Calls Tryz.prog 113 #[.slice a n c] w (CmR (.slice a n c) S w) := by
  have HN := Lib.hid hn
  have HBS := Lib.hid bS
  have hnI : (n : Int) ≤ 2000000 := by omega
  by_cases h2 : n < 2
  · have d1 : (n : Int) < 2 := by omega
    have HST := Lib.hid (own_str how hn)
    have HC := Lib.hid (compL_short (S := S) (by rw [hn]; exact h2))
    clear hn bS how h2
    go_enter Tryz.func113, Tryz.ntmps113
    go_wp2_with fail
    go_ret
    exact ⟨a, c, by rw [HC.out, HN.out]; rfl, by rw [HC.out]; exact HST.out, Off.refl _ _⟩
  · have d1 : ¬ (n : Int) < 2 := by omega
    obtain ⟨g, cap, e⟩ : ∃ g cap, Value.slice a n c = .slice (some ⟨g, 0, none⟩) n cap := by
      rcases how.2 with ⟨e0, h0⟩ | ⟨g, cap, cur, e0, _⟩
      · omega
      · exact ⟨g, cap, e0⟩
    injection e with e1 e2 e3
    subst e1 e3
    have hcn := (own_cn22 how).1
    have HOW := Lib.hid how
    have HG := Lib.hid (show ∀ k, (fun k => k = g) k → (fun k => Value.ownBlock (.slice (some ⟨g, 0, none⟩) n c) = some k) k from fun k hk => by cases hk; rfl)
    clear hn bS how
    go_enter Tryz.func113, Tryz.ntmps113
    go_wp2_with fail
    go_loopw [3] (fun i wr => ∃ k : Nat, 1 ≤ k ∧ k ≤ n ∧ i = .int .i64 (k : Int) ∧ Hid (compL (S.take k) = S.take k) ∧ Hid (Below w.heap.size w wr)) (fun i _ => n - (intOf i).toNat)
    case atStart => exact ⟨1, by omega, by omega, rfl, Lib.hid (compL_short (by rw [List.length_take]; omega)), Lib.hid (Below.refl _ _)⟩
    case round =>
      obtain ⟨k, hk1, hk, rfl, HCK, HBW⟩ := hrel
      by_cases hlt : k < n
      · have d2 : (k : Int) < (n : Int) := by omega
        have d3 : ¬ (k : Int) < 0 := by omega
        have d4 : ¬ (k : Int) - 1 < 0 := by omega
        have d5 : (k : Int) - 1 < (n : Int) := by omega
        have d7 : k - 1 < n := by omega
        have d6 : ((k : Int) - 1).toNat = k - 1 := by omega
        have w1 : IntKind.i64.wrap ((k : Int) - 1) = ((k - 1 : Nat) : Int) := by rw [IntKind.wrap_i64]; omega
        obtain ⟨X, hX⟩ : ∃ X, S[k]? = some X := ⟨_, List.getElem?_eq_getElem (by rw [HN.out]; exact hlt)⟩
        obtain ⟨Y, hY⟩ : ∃ Y, S[k - 1]? = some Y := ⟨_, List.getElem?_eq_getElem (by rw [HN.out]; omega)⟩
        have HC6 := Lib.hid (fun W (b : Below wr.heap.size wr W) => (by
          have ow := own_kept HOW.out (HBW.out.trans (b.mono HBW.out.size))
          refine ⟨?_, ?_⟩
          · rw [ow.cellAt k (by omega), cells_skv, hX]; rfl
          · rw [ow.cellAt (k - 1) (by omega), cells_skv, hY]; rfl : W.cell? ⟨g, k, none⟩ = some (.string (strOfNums X)) ∧ W.cell? ⟨g, k - 1, none⟩ = some (.string (strOfNums Y))))
        have HT := Lib.hid (compL_take S hX (by omega) hY)
        have hxb := HBS.out X (List.mem_of_getElem? hX)
        have hyb := HBS.out Y (List.mem_of_getElem? hY)
        have heq := str_eqB hxb hyb
        have HXY := Lib.hid (And.intro hX hY)
        clear hX hY hxb hyb
        by_cases e : X = Y
        · rw [decide_eq_true e] at heq
          have hnp : (strOfNums X).toList = (strOfNums Y).toList := by rw [e]
          go_upto_region 6 with (fail)
          refine wp_region_held_drew (S := (fun X => Below wr.heap.size wr X)) (by kernel_rfl) ((Below.refl _ _).drew) (fun hHeld => ?_)
          refine tp 0 ?_ rfl (.inl ⟨by rfl, ?_⟩) ?_
          rotate_left
          · intro W hSw; go_simp; try with_reducible rfl
          refine tp 1 ?_ rfl (.inl ⟨by rfl, ?_⟩) ?_
          rotate_left
          · intro W hSw; go_simp; try with_reducible rfl
          refine tp 2 ?_ rfl (.inl ⟨by rfl, ?_⟩) ?_
          rotate_left
          · intro W hSw; go_simp; try with_reducible rfl
          refine tp 3 ?_ rfl (.inl ⟨by rfl, ?_⟩) ?_
          rotate_left
          · intro W hSw; have m := (HC6.out W hSw).1; go_simp; try with_reducible rfl
          refine tp 4 ?_ rfl (.inl ⟨by rfl, ?_⟩) ?_
          rotate_left
          · intro W hSw; go_simp; try with_reducible rfl
          refine tp 5 ?_ rfl (.inl ⟨by rfl, ?_⟩) ?_
          rotate_left
          · intro W hSw; go_simp; try with_reducible rfl
          refine tp 6 ?_ rfl (.inl ⟨by rfl, ?_⟩) ?_
          rotate_left
          · intro W hSw; go_simp; try with_reducible rfl
          refine tp 7 ?_ rfl (.inl ⟨by rfl, ?_⟩) ?_
          rotate_left
          · intro W hSw; go_simp; try with_reducible rfl
          refine tp 8 ?_ rfl (.inl ⟨by rfl, ?_⟩) ?_
          rotate_left
          · intro W hSw; have m := (HC6.out W hSw).2; go_simp; try with_reducible rfl
          refine tp 9 ?_ rfl (.inl ⟨by rfl, ?_⟩) ?_
          rotate_left
          · intro W hSw; go_simp; try with_reducible rfl
          refine wpAnyH_done (by kernel_rfl) ?_ _
          skip
          have HB6 := Lib.hid (HBW.out.trans (hHeld.mono HBW.out.size))
          have hlo := fun W => lo134 W g n c k hlt hcn
          have HK := Lib.hid (HT.out.trans (by rw [if_pos e, HCK.out]))
          have HKL := Lib.hid (show (S.take k).length = k by rw [List.length_take, HN.out]; omega)
          have hn3 : ((n - k : Nat) : Int) ≤ 2000000 := by omega
          clear hHeld heq hnp e d4 d5 d6 d7 w1 d2 d3
          go_wp2_with fail
          clear hlo
          go_loopw [3, 5] (fun i j wr => ∃ (kw q : Nat) (C : List (List Int)), 1 ≤ q ∧ k + q ≤ n ∧ 1 ≤ kw ∧ kw ≤ k + q - 1 ∧ i = .int .i64 (kw : Int) ∧ j = .int .i64 (q : Int) ∧ Hid (C.length = n) ∧ Hid (C.take kw = compL (S.take (k + q))) ∧ Hid (C.drop (k + q - 1) = S.drop (k + q - 1)) ∧ Hid (wr.ownsRow base 9 1 (.slice (some ⟨g, 0, none⟩) n c) n (cellsOf skv C)) ∧ Hid (Off (fun k => k = g) w wr)) (fun _ j _ => n - (intOf j).toNat)
          case atStart => exact ⟨k, 1, S, by omega, by omega, hk1, by omega, rfl, rfl, HN, Lib.hid HK.out.symm, Lib.hid rfl, Lib.hid (own_kept HOW.out HB6.out), Lib.hid (Off.of HB6.out)⟩
          case round =>
            obtain ⟨kw, q, C, hq1, hqn, hkw1, hkw, rfl, rfl, HCN, HCT, HCD, HOC, HOF⟩ := hrel
            by_cases hlt2 : k + q < n
            · have e1 : (q : Int) < ((n - k : Nat) : Int) := by omega
              have e1' : q < n - k := by omega
              have e2 : ¬ (q : Int) < 0 := by omega
              have e3 : ¬ (q : Int) - 1 < 0 := by omega
              have e4 : (q : Int) - 1 < ((n - k : Nat) : Int) := by omega
              have e5 : ((q : Int) - 1).toNat = q - 1 := by omega
              have e6 : q - 1 < n - k := by omega
              have w1 : IntKind.i64.wrap ((q : Int) - 1) = ((q - 1 : Nat) : Int) := by rw [IntKind.wrap_i64]; omega
              obtain ⟨X2, hX⟩ : ∃ X, S[k + q]? = some X := ⟨_, List.getElem?_eq_getElem (by rw [HN.out]; exact hlt2)⟩
              obtain ⟨Y2, hY⟩ : ∃ X, S[k + q - 1]? = some X := ⟨_, List.getElem?_eq_getElem (by rw [HN.out]; omega)⟩
              have hcx : C[k + q]? = some X2 := by
                have h1 : (C.drop (k + q - 1))[1]? = (S.drop (k + q - 1))[1]? := by rw [HCD.out]
                rw [List.getElem?_drop, List.getElem?_drop, show k + q - 1 + 1 = k + q by omega, hX] at h1
                exact h1
              have hcy : C[k + (q - 1)]? = some Y2 := by
                have h1 : (C.drop (k + q - 1))[0]? = (S.drop (k + q - 1))[0]? := by rw [HCD.out]
                rw [List.getElem?_drop, List.getElem?_drop, Nat.add_zero, hY] at h1
                rw [show k + (q - 1) = k + q - 1 by omega]
                exact h1
              have HC11 := Lib.hid (fun W (b : Below wr.heap.size wr W) => (by
                have ow := own_kept HOC.out b
                refine ⟨?_, ?_⟩
                · rw [ow.cellAt (k + q) (by omega), cells_skv, hcx]; rfl
                · rw [ow.cellAt (k + (q - 1)) (by omega), cells_skv, hcy]; rfl : W.cell? ⟨g, k + q, none⟩ = some (.string (strOfNums X2)) ∧ W.cell? ⟨g, k + (q - 1), none⟩ = some (.string (strOfNums Y2))))
              have HT2 := Lib.hid (compL_take S hX (by omega) hY)
              have heq := str_eqB (HBS.out X2 (List.mem_of_getElem? hX)) (HBS.out Y2 (List.mem_of_getElem? hY))
              have HX2 := Lib.hid hX
              have HCX := Lib.hid hcx
              have HD2 := Lib.hid (show C.drop (k + (q + 1) - 1) = S.drop (k + (q + 1) - 1) by
                have h1 : (C.drop (k + q - 1)).drop 1 = (S.drop (k + q - 1)).drop 1 := by rw [HCD.out]
                rw [List.drop_drop, List.drop_drop, show k + q - 1 + 1 = k + (q + 1) - 1 by omega] at h1
                exact h1)
              clear hX hY hcx hcy
              by_cases ee : X2 = Y2
              · rw [decide_eq_true ee] at heq
                have hnp : (strOfNums X2).toList = (strOfNums Y2).toList := by rw [ee]
                have HV2 := Lib.hid (HT2.out.trans (if_pos ee))
                clear ee
                go_upto_region 11 with (fail)
                refine wp_region_held_drew (S := (fun X => Below wr.heap.size wr X)) (by kernel_rfl) ((Below.refl _ _).drew) (fun hHeld => ?_)
                refine tp 0 ?_ rfl (.inl ⟨by rfl, ?_⟩) ?_
                rotate_left
                · intro W hSw; go_simp; try with_reducible rfl
                refine tp 1 ?_ rfl (.inl ⟨by rfl, ?_⟩) ?_
                rotate_left
                · intro W hSw; go_simp; try with_reducible rfl
                refine tp 2 ?_ rfl (.inl ⟨by rfl, ?_⟩) ?_
                rotate_left
                · intro W hSw; go_simp; try with_reducible rfl
                refine tp 3 ?_ rfl (.inl ⟨by rfl, ?_⟩) ?_
                rotate_left
                · intro W hSw; have m := (HC11.out W hSw).1; go_simp; try with_reducible rfl
                refine tp 4 ?_ rfl (.inl ⟨by rfl, ?_⟩) ?_
                rotate_left
                · intro W hSw; go_simp; try with_reducible rfl
                refine tp 5 ?_ rfl (.inl ⟨by rfl, ?_⟩) ?_
                rotate_left
                · intro W hSw; go_simp; try with_reducible rfl
                refine tp 6 ?_ rfl (.inl ⟨by rfl, ?_⟩) ?_
                rotate_left
                · intro W hSw; go_simp; try with_reducible rfl
                refine tp 7 ?_ rfl (.inl ⟨by rfl, ?_⟩) ?_
                rotate_left
                · intro W hSw; go_simp; try with_reducible rfl
                refine tp 8 ?_ rfl (.inl ⟨by rfl, ?_⟩) ?_
                rotate_left
                · intro W hSw; have m := (HC11.out W hSw).2; go_simp; try with_reducible rfl
                refine tp 9 ?_ rfl (.inl ⟨by rfl, ?_⟩) ?_
                rotate_left
                · intro W hSw; go_simp; try with_reducible rfl
                refine wpAnyH_done (by kernel_rfl) ?_ _
                skip
                have HB7 := Lib.hid hHeld
                clear hHeld
                go_wp2_with fail
                go_roundw
                case rel => exact ⟨kw, q + 1, C, by omega, by omega, hkw1, by omega, rfl, by go_num, HCN, Lib.hid (by rw [show k + (q + 1) = k + q + 1 by omega, HV2.out]; exact HCT.out), HD2, Lib.hid (own_kept HOC.out HB7.out), Lib.hid (HOF.out.then HB7.out)⟩
                case measure => simp [intOf]; omega
              · rw [decide_eq_false ee] at heq
                have hnp : ¬ (strOfNums X2).toList = (strOfNums Y2).toList := beq_eq_false_iff_ne.1 heq
                have HV2 := Lib.hid (HT2.out.trans (if_neg ee))
                clear ee
                go_upto_region 11 with (fail)
                refine wp_region_held_drew (S := (fun X => Below wr.heap.size wr X)) (by kernel_rfl) ((Below.refl _ _).drew) (fun hHeld => ?_)
                refine tp 0 ?_ rfl (.inl ⟨by rfl, ?_⟩) ?_
                rotate_left
                · intro W hSw; go_simp; try with_reducible rfl
                refine tp 1 ?_ rfl (.inl ⟨by rfl, ?_⟩) ?_
                rotate_left
                · intro W hSw; go_simp; try with_reducible rfl
                refine tp 2 ?_ rfl (.inl ⟨by rfl, ?_⟩) ?_
                rotate_left
                · intro W hSw; go_simp; try with_reducible rfl
                refine tp 3 ?_ rfl (.inl ⟨by rfl, ?_⟩) ?_
                rotate_left
                · intro W hSw; have m := (HC11.out W hSw).1; go_simp; try with_reducible rfl
                refine tp 4 ?_ rfl (.inl ⟨by rfl, ?_⟩) ?_
                rotate_left
                · intro W hSw; go_simp; try with_reducible rfl
                refine tp 5 ?_ rfl (.inl ⟨by rfl, ?_⟩) ?_
                rotate_left
                · intro W hSw; go_simp; try with_reducible rfl
                refine tp 6 ?_ rfl (.inl ⟨by rfl, ?_⟩) ?_
                rotate_left
                · intro W hSw; go_simp; try with_reducible rfl
                refine tp 7 ?_ rfl (.inl ⟨by rfl, ?_⟩) ?_
                rotate_left
                · intro W hSw; go_simp; try with_reducible rfl
                refine tp 8 ?_ rfl (.inl ⟨by rfl, ?_⟩) ?_
                rotate_left
                · intro W hSw; have m := (HC11.out W hSw).2; go_simp; try with_reducible rfl
                refine tp 9 ?_ rfl (.inl ⟨by rfl, ?_⟩) ?_
                rotate_left
                · intro W hSw; go_simp; try with_reducible rfl
                refine wpAnyH_done (by kernel_rfl) ?_ _
                skip
                obtain ⟨w6, hw6⟩ : ∃ W, W = wr.drew := ⟨_, rfl⟩
                rw [← hw6] at hHeld ⊢
                have ow := own_kept HOC.out hHeld
                obtain ⟨Z, hZ⟩ : ∃ Z, C[kw]? = some Z := ⟨_, List.getElem?_eq_getElem (by rw [HCN.out]; omega)⟩
                have x1 : w6.cell? ⟨g, k + q, none⟩ = some (.string (strOfNums X2)) := (HC11.out w6 hHeld).1
                have x2 : w6.cell? ⟨g, kw, none⟩ = some (.string (strOfNums Z)) := by rw [ow.cellAt kw (by omega), cells_skv, hZ]; rfl
                have f2 := ow.frozenAt kw
                have i1 : (kw : Int) < (n : Int) := by omega
                have i2 : ¬ (kw : Int) < 0 := by omega
                have hst := (ow.stored kw (.string (strOfNums X2))).1
                rw [skv_set C kw X2 (by rw [HCN.out]; omega)] at hst
                have HST := Lib.hid hst
                have HOF6 := Lib.hid (Off.set (S := fun k => k = g) (HOF.out.then hHeld) ⟨g, kw, none⟩ rfl (.string (strOfNums X2)))
                clear hHeld hw6 ow hZ hst
                go_wp2_with fail
                go_roundw
                case rel =>
                  refine ⟨kw + 1, q + 1, C.set kw X2, by omega, by omega, by omega, by omega, by go_num, by go_num, Lib.hid (by rw [List.length_set]; exact HCN.out), Lib.hid ?_, Lib.hid ?_, HST, HOF6⟩
                  · rw [show k + (q + 1) = k + q + 1 by omega, HV2.out, ← HCT.out, List.take_add_one, List.take_set_of_le (Nat.le_refl _), List.getElem?_set_self (by rw [HCN.out]; omega)]
                    rfl
                  · rw [List.drop_set_of_lt (by omega)]
                    exact HD2.out
                case measure => simp [intOf]; omega
            · have e1 : ¬ (q : Int) < ((n - k : Nat) : Int) := by omega
              have hqe : k + q = n := by omega
              have hlo := fun W => lo134 W g n c kw (by omega) hcn
              have hhi := fun W => hi134 W (some ⟨g, 0, none⟩) n c kw (by omega) hcn
              obtain ⟨vs, hcl⟩ := clear134 wr 0 g kw (n - kw) (c - kw) (by omega) (fun j hj => by
                rw [HOC.out.cellAt (kw + j) (by omega), cells_skv, List.getElem?_eq_getElem (by rw [HCN.out]; omega)]; rfl) (fun j hj => HOC.out.frozenAt (kw + j))
              have HV := Lib.hid (show C.take kw = compL S by
                have := HCT.out
                rw [hqe] at this
                rw [this, List.take_of_length_le (by rw [HN.out]; exact Nat.le_refl _)])
              have HO := Lib.hid (HOF.out.trans (Off.setCells g vs kw wr))
              have HRD := Lib.hid (own_str HOC.out HCN.out)
              go_wp2_with fail
              go_ret
              have hl : (compL S).length = kw := by rw [← HV.out, List.length_take, HCN.out]; omega
              refine ⟨some ⟨g, 0, none⟩, c, by rw [hl]; rfl, fun j K hj => ?_, HO.out.mono HG.out⟩
              have hjl := (List.getElem?_eq_some_iff.1 hj).1
              rw [hl] at hjl
              rw [← HV.out, List.getElem?_take, if_pos hjl] at hj
              obtain ⟨g', eg, hc⟩ := HRD.out j K hj
              cases eg
              refine ⟨g, rfl, ?_⟩
              rw [World.cell?_setCells_out g vs kw wr ⟨g, j, none⟩ (fun _ _ => .inl hjl)]
              exact hc
        · rw [decide_eq_false e] at heq
          have hnp : ¬ (strOfNums X).toList = (strOfNums Y).toList := beq_eq_false_iff_ne.1 heq
          have HE := Lib.hid e
          clear e
          go_upto_region 6 with (fail)
          refine wp_region_held_drew (S := (fun X => Below wr.heap.size wr X)) (by kernel_rfl) ((Below.refl _ _).drew) (fun hHeld => ?_)
          refine tp 0 ?_ rfl (.inl ⟨by rfl, ?_⟩) ?_
          rotate_left
          · intro W hSw; go_simp; try with_reducible rfl
          refine tp 1 ?_ rfl (.inl ⟨by rfl, ?_⟩) ?_
          rotate_left
          · intro W hSw; go_simp; try with_reducible rfl
          refine tp 2 ?_ rfl (.inl ⟨by rfl, ?_⟩) ?_
          rotate_left
          · intro W hSw; go_simp; try with_reducible rfl
          refine tp 3 ?_ rfl (.inl ⟨by rfl, ?_⟩) ?_
          rotate_left
          · intro W hSw; have m := (HC6.out W hSw).1; go_simp; try with_reducible rfl
          refine tp 4 ?_ rfl (.inl ⟨by rfl, ?_⟩) ?_
          rotate_left
          · intro W hSw; go_simp; try with_reducible rfl
          refine tp 5 ?_ rfl (.inl ⟨by rfl, ?_⟩) ?_
          rotate_left
          · intro W hSw; go_simp; try with_reducible rfl
          refine tp 6 ?_ rfl (.inl ⟨by rfl, ?_⟩) ?_
          rotate_left
          · intro W hSw; go_simp; try with_reducible rfl
          refine tp 7 ?_ rfl (.inl ⟨by rfl, ?_⟩) ?_
          rotate_left
          · intro W hSw; go_simp; try with_reducible rfl
          refine tp 8 ?_ rfl (.inl ⟨by rfl, ?_⟩) ?_
          rotate_left
          · intro W hSw; have m := (HC6.out W hSw).2; go_simp; try with_reducible rfl
          refine tp 9 ?_ rfl (.inl ⟨by rfl, ?_⟩) ?_
          rotate_left
          · intro W hSw; go_simp; try with_reducible rfl
          refine wpAnyH_done (by kernel_rfl) ?_ _
          skip
          have HB6 := Lib.hid (HBW.out.trans (hHeld.mono HBW.out.size))
          clear hHeld
          go_wp2_with fail
          go_roundw
          case rel => exact ⟨k + 1, by omega, by omega, by go_num, Lib.hid (by rw [HT.out, if_neg HE.out, HCK.out, List.take_add_one, HXY.out.1]; rfl), HB6⟩
          case measure => simp [intOf]; omega
      · have d2 : ¬ (k : Int) < (n : Int) := by omega
        have HV := Lib.hid (show compL S = S by
          have := HCK.out
          rw [List.take_of_length_le (by rw [HN.out]; omega)] at this
          exact this)
        have HST := Lib.hid (own_str (own_kept HOW.out HBW.out) HN.out)
        go_wp2_with fail
        go_ret
        exact ⟨some ⟨g, 0, none⟩, c, by rw [HV.out, HN.out]; rfl, by rw [HV.out]; exact HST.out, Off.of HBW.out⟩
end Go.Proofs.YthmofoldmdafoaaGreat
namespace Go.Proofs
open Go.Shelf
def Tryz.sort112_ren : Go.Shelf.Ren := ⟨fun | 6 => 112 | 8 => 131 | 9 => 135 | 19 => 151 | 20 => 152 | 21 => 154 | 22 => 155 | 23 => 156 | 24 => 157 | 25 => 158 | 26 => 159 | 27 => 160 | 28 => 161 | 29 => 162 | 36 => 179 | 31 => 175 | 32 => 176 | 37 => 180 | 38 => 181 | 39 => 182 | 41 => 187 | n => n, fun | 27 => 134 | 29 => 9 | 3 => 3 | 32 => 202 | 26 => 134 | 0 => 0 | 44 => 226 | 46 => 228 | 4 => 4 | 36 => 220 | 35 => 219 | 41 => 111 | 5 => 5 | 9 => 9 | 53 => 244 | 57 => 248 | 63 => 254 | 64 => 203 | n => n, fun | n => n⟩
theorem Tryz.sort112 : Go.Proofs.SlLaysM.n6 Tryz.prog Tryz.sort112_ren := {
  mixed := by kernel_rfl
  f6 := ⟨Tryz.f112.name, by decide, Tryz.func112.trans (congrArg some (by kernel_rfl))⟩
  f8 := Tryz.func131.trans (congrArg some (by kernel_rfl))
  f9 := ⟨Tryz.f135.name, by decide, Tryz.func135.trans (congrArg some (by kernel_rfl))⟩
  f19 := Tryz.func151.trans (congrArg some (by kernel_rfl))
  f20 := Tryz.func152.trans (congrArg some (by kernel_rfl))
  f21 := ⟨Tryz.f154.name, by decide, Tryz.func154.trans (congrArg some (by kernel_rfl))⟩
  f22 := ⟨Tryz.f155.name, by decide, Tryz.func155.trans (congrArg some (by kernel_rfl))⟩
  f23 := ⟨Tryz.f156.name, by decide, Tryz.func156.trans (congrArg some (by kernel_rfl))⟩
  f24 := ⟨Tryz.f157.name, by decide, Tryz.func157.trans (congrArg some (by kernel_rfl))⟩
  f25 := ⟨Tryz.f158.name, by decide, Tryz.func158.trans (congrArg some (by kernel_rfl))⟩
  f26 := ⟨Tryz.f159.name, by decide, Tryz.func159.trans (congrArg some (by kernel_rfl))⟩
  f27 := ⟨Tryz.f160.name, by decide, Tryz.func160.trans (congrArg some (by kernel_rfl))⟩
  f28 := ⟨Tryz.f161.name, by decide, Tryz.func161.trans (congrArg some (by kernel_rfl))⟩
  f29 := ⟨Tryz.f162.name, by decide, Tryz.func162.trans (congrArg some (by kernel_rfl))⟩
  f31 := Tryz.func175.trans (congrArg some (by kernel_rfl))
  f32 := Tryz.func176.trans (congrArg some (by kernel_rfl))
  f36 := ⟨Tryz.f179.name, by decide, Tryz.func179.trans (congrArg some (by kernel_rfl))⟩
  f37 := ⟨Tryz.f180.name, by decide, Tryz.func180.trans (congrArg some (by kernel_rfl))⟩
  f38 := ⟨Tryz.f181.name, by decide, Tryz.func181.trans (congrArg some (by kernel_rfl))⟩
  f39 := ⟨Tryz.f182.name, by decide, Tryz.func182.trans (congrArg some (by kernel_rfl))⟩
  f41 := ⟨Tryz.f187.name, by decide, Tryz.func187.trans (congrArg some (by kernel_rfl))⟩
  t0 := Tryz.underlying0
  a0 := Tryz.isAgg0
  z0 := Tryz.sizeOf0
  v0 := Tryz.zeroValue0
  t3 := Tryz.underlying3
  a3 := Tryz.isAgg3
  z3 := Tryz.sizeOf3
  v3 := Tryz.zeroValue3
  t4 := Tryz.underlying4
  a4 := Tryz.isAgg4
  z4 := Tryz.sizeOf4
  v4 := Tryz.zeroValue4
  t5 := Tryz.underlying5
  a5 := Tryz.isAgg5
  z5 := Tryz.sizeOf5
  v5 := Tryz.zeroValue5
  t9 := Tryz.underlying9
  a9 := Tryz.isAgg9
  z9 := Tryz.sizeOf9
  v9 := Tryz.zeroValue9
  t26 := Tryz.underlying134
  a26 := Tryz.isAgg134
  z26 := Tryz.sizeOf134
  v26 := Tryz.zeroValue134
  t27 := Tryz.underlying134
  a27 := Tryz.isAgg134
  z27 := Tryz.sizeOf134
  v27 := Tryz.zeroValue134
  t29 := Tryz.underlying9
  a29 := Tryz.isAgg9
  z29 := Tryz.sizeOf9
  v29 := Tryz.zeroValue9
  t32 := Tryz.underlying202
  a32 := Tryz.isAgg202
  z32 := Tryz.sizeOf202
  v32 := Tryz.zeroValue202
  t35 := Tryz.underlying219
  a35 := Tryz.isAgg219
  z35 := Tryz.sizeOf219
  v35 := Tryz.zeroValue219
  t36 := Tryz.underlying220
  a36 := Tryz.isAgg220
  z36 := Tryz.sizeOf220
  v36 := Tryz.zeroValue220
  t41 := Tryz.underlying111
  a41 := Tryz.isAgg111
  z41 := Tryz.sizeOf111
  v41 := Tryz.zeroValue111
  t44 := Tryz.underlying226
  a44 := Tryz.isAgg226
  z44 := Tryz.sizeOf226
  v44 := Tryz.zeroValue226
  t46 := Tryz.underlying228
  a46 := Tryz.isAgg228
  z46 := Tryz.sizeOf228
  v46 := Tryz.zeroValue228
  t53 := Tryz.underlying244
  a53 := Tryz.isAgg244
  z53 := Tryz.sizeOf244
  v53 := Tryz.zeroValue244
  t57 := Tryz.underlying248
  a57 := Tryz.isAgg248
  z57 := Tryz.sizeOf248
  v57 := Tryz.zeroValue248
  t63 := Tryz.underlying254
  a63 := Tryz.isAgg254
  z63 := Tryz.sizeOf254
  v63 := Tryz.zeroValue254
  t64 := Tryz.underlying203
  a64 := Tryz.isAgg203
  z64 := Tryz.sizeOf203
  v64 := Tryz.zeroValue203 }
end Go.Proofs
namespace Go.Proofs.YthmofoldmdafoaaGreat
open Go.ChangeShapes Go.WideShapes Go.ChangeAt Go.RowKit Go.Maps Go.Sort Go.Shelf
set_option linter.unusedVariables false
set_option linter.unusedSimpArgs false

def kb (K : List Int) : List UInt8 := K.map fun x => UInt8.ofNat x.toNat
theorem enc_kb (K : List Int) : encStr (kb K) = .string (strOfNums K) := by
  have h : (strOfNums K).data.toList = kb K := by rw [← ByteArray.toList_eq]; exact str_list K
  unfold encStr
  congr 1
theorem le_bl : ∀ x y : List UInt8, decide (x ≤ y) = !Op.bytesLess y x
  | [], y => by cases y <;> simp [Op.bytesLess]
  | a :: r, [] => by
    have : ¬ (a :: r ≤ []) := by simp
    rw [decide_eq_false this]; rfl
  | a :: r, b :: s => by
    have ih := le_bl r s
    show _ = !(decide (b < a) || ((b == a) && Op.bytesLess s r))
    rw [Bool.eq_iff_iff, decide_eq_true_eq, List.cons_le_cons_iff]
    rw [Bool.eq_iff_iff, decide_eq_true_eq] at ih
    constructor
    · rintro (h | ⟨h, h2⟩)
      · have h1 : ¬ b < a := by rw [UInt8.lt_iff_toNat_lt] at *; omega
        have h3 : (b == a) = false := by rw [beq_eq_false_iff_ne]; rintro rfl; exact absurd h (by rw [UInt8.lt_iff_toNat_lt]; omega)
        simp [h1, h3]
      · subst h
        have h1 : ¬ a < a := by rw [UInt8.lt_iff_toNat_lt]; omega
        rw [ih] at h2
        simp [h1] at h2 ⊢
        exact h2
    · intro h
      simp only [Bool.not_eq_true', Bool.or_eq_false_iff, decide_eq_false_iff_not, Bool.and_eq_false_iff] at h
      obtain ⟨h1, h2⟩ := h
      by_cases e : a = b
      · subst e
        refine .inr ⟨rfl, ih.2 ?_⟩
        rcases h2 with h2 | h2
        · simp at h2
        · simp [h2]
      · refine .inl ?_
        rw [UInt8.lt_iff_toNat_lt] at *
        have : a.toNat ≠ b.toNat := fun e2 => e (UInt8.toNat_inj.1 e2)
        omega
def leL (a b : List Int) : Bool := !ltL b a
theorem leL_trans (a b c : List Int) (h : leL a b = true) (k : leL b c = true) : leL a c = true := by
  unfold leL at *
  simp only [Bool.not_eq_true'] at *
  cases hc : ltL c a
  · rfl
  · exfalso
    by_cases e : b = c
    · subst e; rw [hc] at h; cases h
    · have := ltL_or k e
      have := ltL_trans this hc
      rw [h] at this; cases this
theorem leL_total (a b : List Int) : (leL a b || leL b a) = true := by
  unfold leL
  cases h : ltL b a
  · rfl
  · rw [ltL_asym h]; rfl
theorem sort_kb {L : List (List Int)} (hb : ∀ K ∈ L, Byt K) : (L.mergeSort leL).map kb = (L.map kb).mergeSort fun x y => decide (x ≤ y) := by
  refine List.map_mergeSort fun a ha b hb' => ?_
  rw [le_bl]
  unfold leL
  rw [show Op.bytesLess (kb b) (kb a) = ltL b a from less_ltL (hb b hb') (hb a ha)]
theorem cells_kb (L : List (List Int)) : cellsOf skv L = (L.map kb).map encStr := by
  unfold cellsOf
  induction L with
  | nil => rfl
  | cons x r ih => rw [List.map_cons, List.flatten_cons, ih, List.map_cons, List.map_cons, enc_kb]; rfl
/-- slices.Sort (112), of keys. -/
theorem sort_law (base : Nat) (a : Option Addr) (n c : Nat) (L : List (List Int)) (hn : L.length = n) (hn2 : n ≤ 2000000) (bL : ∀ K ∈ L, Byt K) (w : World) (how : w.ownsRow base 9 1 (.slice a n c) n (cellsOf skv L)) :
    Calls Tryz.prog 112 #[.slice a n c] w fun r w' => r = .returned (.tuple #[]) ∧ w'.ownsRow base 9 1 (.slice a n c) n (cellsOf skv (L.mergeSort leL)) ∧ Off (fun k => Value.ownBlock (.slice a n c) = some k) w w' := by
  subst hn
  by_cases h0 : L.length = 0
  · have hl : L = [] := List.length_eq_zero_iff.1 h0
    subst hl
    refine (AnyM.slices_Sort_string_none Tryz.sort112 a c w).mono ?_
    rintro r w' ⟨rfl, rfl⟩
    exact ⟨rfl, by simpa using how, Off.refl _ _⟩
  · rcases how.2 with ⟨e0, h1⟩ | ⟨g, cap, cur, e0, hb, hg, hc, hm, hs, ht⟩
    · exact absurd h1 h0
    · injection e0 with e1 e2 e3
      subst e1 e3
      have hk : (L.map kb).length = L.length := List.length_map _
      have hH : Go.Sort.Holds encStr w g 0 (L.map kb).toArray := holds_of_block hg (by rw [hk, ← cells_kb, ← Nat.mul_one L.length]; exact ht)
      have hC := AnyM.slices_Sort_string Tryz.sort112 g 0 c (L.map kb) w hH (Array.getElem?_eq_some_iff.1 hg).1 (by rw [hk]; omega)
      rw [hk] at hC
      refine hC.mono ?_
      rintro r w' ⟨rfl, m, os, rfl⟩
      rw [← sort_kb bL]
      refine ⟨rfl, ?_, Off.of_row (grownBy_sorted _)⟩
      have := ownsRow_sorted (w := w) (n := m) (os := os) (ss := L.map kb) (ts := (L.mergeSort leL).map kb) (by rw [List.length_map, List.length_map, List.length_mergeSort]) hb hg (by rw [hk]; exact hc) hm hs
      rw [hk] at this
      rw [cells_kb]
      exact this
theorem sorted_le (L : List (List Int)) : (L.mergeSort leL).Pairwise fun a b => ltL b a = false :=
  (List.pairwise_mergeSort leL_trans leL_total L).imp fun {a b} h => by unfold leL at h; simpa using h
end Go.Proofs.YthmofoldmdafoaaGreat
namespace Go.Proofs.YthmofoldmdafoaaGreat
open Go.ChangeShapes Go.WideShapes Go.ChangeAt Go.RowKit Go.Maps
set_option linter.unusedVariables false
set_option linter.unusedSimpArgs false

/-- A write's table, as a number. -/
def wI (w : Nat × List Int × List (List Int)) : Int × List Int × List (List Int) := ((w.1 : Int), w.2.1, w.2.2)
/-- Tables with writes over them. -/
def overT (T : List (List Pr)) (ws : List (Nat × List Int × List (List Int))) : List (List Pr) := applyT T (ws.map wI)
theorem overT_nil (T : List (List Pr)) : overT T [] = T := rfl
theorem overT_snoc (T : List (List Pr)) (ws : List (Nat × List Int × List (List Int))) (w : Nat × List Int × List (List Int)) : overT T (ws ++ [w]) = (overT T ws).modify w.1 fun t => setT t w.2.1 w.2.2 := by
  unfold overT applyT
  rw [List.map_append, List.foldl_append]
  rfl
theorem overT_len (T : List (List Pr)) (ws : List (Nat × List Int × List (List Int))) : (overT T ws).length = T.length := by
  induction ws using snocInd with
  | nil => rfl
  | append_singleton ws w ih => rw [overT_snoc, List.length_modify, ih]
theorem getD_modify (T : List (List Pr)) (n : Nat) (f : List Pr → List Pr) (t : Nat) (hn : n < T.length) : (T.modify n f).getD t [] = if n = t then f (T.getD t []) else T.getD t [] := by
  rw [List.getD_eq_getElem?_getD, List.getElem?_modify, List.getD_eq_getElem?_getD]
  by_cases e : n = t
  · subst e
    rw [if_pos rfl]
    rw [List.getElem?_eq_getElem hn]
    simp
  · rw [if_neg e]
    cases T[t]? <;> simp [e]
theorem overT_ok {T : List (List Pr)} (h : ∀ t, TabOk (T.getD t [])) (ws : List (Nat × List Int × List (List Int))) (hw : ∀ w ∈ ws, w.1 < T.length) (t : Nat) : TabOk ((overT T ws).getD t []) := by
  induction ws using snocInd with
  | nil => exact h t
  | append_singleton ws w ih =>
    have ih := ih fun v hv => hw v (List.mem_append_left _ hv)
    rw [overT_snoc, getD_modify _ _ _ _ (by rw [overT_len]; exact hw w (by simp))]
    split
    · exact setT_ok ih _ _
    · exact ih
/-- What a key has in tables with writes over them. -/
theorem overT_get {T : List (List Pr)} (h : ∀ t, TabOk (T.getD t [])) (ws : List (Nat × List Int × List (List Int))) (hw : ∀ w ∈ ws, w.1 < T.length) (hd : ws.Pairwise fun a b => ¬ (a.1 = b.1 ∧ a.2.1 = b.2.1)) (t : Nat) (K : List Int) : getT ((overT T ws).getD t []) K = getWP T ws t K := by
  induction ws using snocInd with
  | nil => rfl
  | append_singleton ws w ih =>
    obtain ⟨hd1, _, hd3⟩ := List.pairwise_append.1 hd
    have hw1 : ∀ v ∈ ws, v.1 < T.length := fun v hv => hw v (List.mem_append_left _ hv)
    have ih := ih hw1 hd1
    rw [overT_snoc, getD_modify _ _ _ _ (by rw [overT_len]; exact hw w (by simp))]
    unfold getWP at ih ⊢
    rw [List.find?_append]
    cases hf : ws.find? (fun w => decide (w.1 = t ∧ w.2.1 = K)) with
    | some v =>
      rw [hf] at ih
      have hp := List.find?_some hf
      simp only [decide_eq_true_eq] at hp
      have hne := hd3 v (List.mem_of_find?_eq_some hf) w (by simp)
      show _ = if v.2.2 = [] then none else some v.2.2
      have ih : getT ((overT T ws).getD t []) K = if v.2.2 = [] then none else some v.2.2 := ih
      by_cases e : w.1 = t
      · rw [if_pos e, getT_set (overT_ok h ws hw1 t), if_neg (fun e2 => hne ⟨by rw [hp.1, e], by rw [hp.2, e2]⟩), ih]
      · rw [if_neg e, ih]
    | none =>
      rw [hf] at ih
      have ih : getT ((overT T ws).getD t []) K = getT (T.getD t []) K := ih
      by_cases e : w.1 = t
      · rw [if_pos e, getT_set (overT_ok h ws hw1 t)]
        by_cases e2 : K = w.2.1
        · rw [if_pos e2, List.find?_cons_of_pos (by simp [e, e2])]
          rfl
        · rw [if_neg e2, List.find?_cons_of_neg (by simp [e]; exact fun e3 => e2 e3.symm), ih]
          rfl
      · rw [if_neg e, List.find?_cons_of_neg (by simp [e]), ih]
        rfl
/-- Tables in which all keys have the same are the same. -/
theorem tab_ext {a b : List Pr} (ha : TabOk a) (hb : TabOk b) (h : ∀ K, getT a K = getT b K) : a = b := ris_ext ha hb fun p => by
  obtain ⟨K, R⟩ := p
  rw [← getT_some ha, ← getT_some hb, h]
theorem TlR.dist {S : Nat → Prop} {base : Nat} {w : World} {m : Md} {x : Tl} (h : TlR S base w m x) : (x.ws.map WtV.P).Pairwise fun a b => ¬ (a.1 = b.1 ∧ a.2.1 = b.2.1) := by
  rw [List.pairwise_map, List.pairwise_iff_getElem]
  intro i j hi hj hij ⟨h1, h2⟩
  have ht := (h.wok x.ws[i] (List.getElem_mem hi)).1
  obtain ⟨y, hy⟩ : ∃ y, x.wm[x.ws[i].t]? = some y := ⟨_, List.getElem?_eq_getElem (by rw [h.wlen]; exact ht)⟩
  have e1 := (h.coh _ y hy x.ws[i].K i).2 ⟨_, List.getElem?_eq_getElem hi, rfl, rfl⟩
  have e2 := (h.coh _ y hy x.ws[i].K j).2 ⟨_, List.getElem?_eq_getElem hj, h1.symm, h2.symm⟩
  rw [e1] at e2
  cases e2
  omega
theorem TlR.tin {S : Nat → Prop} {base : Nat} {w : World} {m : Md} {x : Tl} (h : TlR S base w m x) : ∀ v ∈ x.ws.map WtV.P, v.1 < m.P.length := fun v hv => by
  obtain ⟨z, hz, rfl⟩ := List.mem_map.1 hv
  rw [Md.P_len]
  exact (h.wok z hz).1
theorem MdR.tok {S : Nat → Prop} {w : World} {m : Md} (h : MdR S w m) (t : Nat) : tOk (m.P.getD t []) := by
  rw [List.getD_eq_getElem?_getD]
  cases ht : m.P[t]? with
  | none => exact ⟨List.Pairwise.nil, fun p hp => by simp at hp⟩
  | some T =>
    have := List.mem_of_getElem? ht
    unfold Md.P at this
    obtain ⟨x, hx, rfl⟩ := List.mem_map.1 this
    exact h.lim x hx
/-- The table that a trial sees. -/
def Tl.T (m : Md) (x : Tl) (t : Nat) : List Pr := (overT m.P (x.ws.map WtV.P)).getD t []
theorem TlR.view {S : Nat → Prop} {base : Nat} {w : World} {m : Md} {x : Tl} (h : TlR S base w m x) {t : Nat} (ht : t < m.tabs.length) (K : List Int) : getT (x.T m t) K = (getX m x t K).map RV.P := by
  unfold Tl.T
  rw [overT_get (fun t => (h.md.tok t).1) _ h.tin h.dist t K, getX_P m x ht K]
theorem TlR.tabok {S : Nat → Prop} {base : Nat} {w : World} {m : Md} {x : Tl} (h : TlR S base w m x) (t : Nat) : TabOk (x.T m t) := overT_ok (fun t => (h.md.tok t).1) _ h.tin t
/-- What is gone over in pairs: the keys that have a row. -/
def pairL (f : List Int → Option (List (List Int))) (l : List (List Int)) : List Pr := l.filterMap fun K => (f K).map fun R => (K, R)
theorem pairL_snoc (f : List Int → Option (List (List Int))) (l : List (List Int)) (K : List Int) : pairL f (l ++ [K]) = match f K with | some R => pairL f l ++ [(K, R)] | none => pairL f l := by
  unfold pairL
  rw [List.filterMap_append]
  cases hf : f K with
  | none => simp [hf]
  | some R => simp [hf]
theorem pairL_mem {f : List Int → Option (List (List Int))} {l : List (List Int)} {p : Pr} : p ∈ pairL f l ↔ p.1 ∈ l ∧ f p.1 = some p.2 := by
  unfold pairL
  rw [List.mem_filterMap]
  constructor
  · rintro ⟨K, hK, h⟩
    cases hf : f K with
    | none => rw [hf] at h; cases h
    | some R =>
      rw [hf] at h
      cases h
      exact ⟨hK, hf⟩
  · rintro ⟨h1, h2⟩
    exact ⟨p.1, h1, by rw [h2]; rfl⟩
theorem pairL_ris {f : List Int → Option (List (List Int))} {l : List (List Int)} (h : Ris id l) : TabOk (pairL f l) := by
  refine List.Pairwise.filterMap _ (fun a a' haa b hb b' hb' => ?_) h
  cases hf : f a with
  | none => rw [hf] at hb; cases hb
  | some R =>
    cases hf' : f a' with
    | none => rw [hf'] at hb'; cases hb'
    | some R' =>
      rw [hf] at hb
      rw [hf'] at hb'
      cases hb; cases hb'
      exact haa
/-- All keys gone over, rising: the table itself. -/
theorem pairL_eq {T : List Pr} (hT : TabOk T) {l : List (List Int)} (h : Ris id l) (hm : ∀ p ∈ T, p.1 ∈ l) : pairL (getT T) l = T := ris_ext (pairL_ris h) hT fun p => by
  rw [pairL_mem, getT_some hT]
  exact ⟨fun h => h.2, fun hp => ⟨hm p hp, hp⟩⟩
end Go.Proofs.YthmofoldmdafoaaGreat
namespace Go.Proofs.YthmofoldmdafoaaGreat
open Go.ChangeShapes Go.WideShapes Go.ChangeAt Go.RowKit Go.Maps
set_option linter.unusedVariables false
set_option linter.unusedSimpArgs false

theorem pairL_no {f : List Int → Option (List (List Int))} {Q : List (List Int)} {k : Nat} {K : List Int} (h : Q[k]? = some K) (hf : f K = none) : pairL f (Q.take (k + 1)) = pairL f (Q.take k) := by
  rw [List.take_add_one, h]
  show pairL f (Q.take k ++ [K]) = _
  rw [pairL_snoc, hf]
theorem pairL_yes {f : List Int → Option (List (List Int))} {Q : List (List Int)} {k : Nat} {K : List Int} {R : List (List Int)} (h : Q[k]? = some K) (hf : f K = some R) : pairL f (Q.take (k + 1)) = pairL f (Q.take k) ++ [(K, R)] := by
  rw [List.take_add_one, h]
  show pairL f (Q.take k ++ [K]) = _
  rw [pairL_snoc, hf]
theorem AllS.len {α : Type} {L : List (List Int × α)} (hr : Ris Prod.fst L) {ss : List (List Int)} (h : AllS L ss) : ss.length = L.length := by
  have hp : ss.Perm (L.map Prod.fst) := (List.perm_ext_iff_of_nodup h.1 (by
    have := ris_apart hr
    rw [List.nodup_iff_pairwise_ne, List.pairwise_map]; exact this)).2 h.2
  rw [hp.length_eq, List.length_map]
/-- How pairs ends. -/
def PsR (w : World) (T : List Pr) (r : Ending) (w' : World) : Prop := ∃ a c P, r = .returned (.slice a P.length c) ∧ Below w.heap.size w w' ∧ P.map prC = T ∧ (∀ p ∈ P, keyOk p.K ∧ rOk (p.R.map P1.bs)) ∧ P.length ≤ c ∧ (a = none → c = 0) ∧ P.length ≤ 1000000 ∧ ∀ S : Nat → Prop, (∀ k, S k → k < w.heap.size) → Stay S w' fun W' => PairsR W' a P
set_option maxRecDepth 100000 in
set_option maxHeartbeats 4000000 in
/-- pairs (82). -/
theorem tpairs_law {S : Nat → Prop} {base : Nat} {w : World} {m : Md} {x : Tl} (h : TlR S base w m x) (t : Nat) (ht : t < m.tabs.length) (hf : ∀ z ∈ m.tabs, z.2.length ≤ 900000) :
    Calls Tryz.prog 82 #[.pointer (some ⟨x.px, 0, none⟩), .int .i64 (t : Int)] w (PsR w (x.T m t)) := by
  obtain ⟨y, hy⟩ : ∃ y, x.wm[t]? = some y := ⟨_, List.getElem?_eq_getElem (by rw [h.wlen]; exact ht)⟩
  obtain ⟨z, hz⟩ : ∃ z, m.tabs[t]? = some z := ⟨_, List.getElem?_eq_getElem ht⟩
  have hym := List.mem_of_getElem? hy
  have hzm := List.mem_of_getElem? hz
  obtain ⟨c0, c1, c2, c3, c4⟩ := h.c
  have hfew := h.md.few
  have hwl := h.wlen
  have ht0 : ¬ (t : Int) < 0 := by omega
  have ht1 : (t : Int) < (m.tabs.length : Int) := by omega
  have ht2 : (t : Int) < (x.wm.length : Int) := by omega
  have hl1 : (m.tabs.length : Int) ≤ 1000000 := by omega
  have hl2 : (x.wm.length : Int) ≤ 1000000 := by omega
  have hz9 := hf z hzm
  have hy9 := h.wl y hym
  have hwf := h.few
  have HX := Lib.hid (fun X (b : Below w.heap.size w X) => (⟨(b.cell (World.block_lt_of_cell? w _ c0)).trans c0, (h.below b).md.c, (h.below b).md.st.now.tab t z hz, (b.cell (World.block_lt_of_cell? w _ c1)).trans c1, (h.below b).st.now.tab t y hy⟩ : X.cell? ⟨x.px, 0, none⟩ = some (.pointer (some ⟨m.p, 0, none⟩)) ∧ X.cell? ⟨m.p, 7, none⟩ = some (.slice (some ⟨m.bt, 0, none⟩) m.tabs.length m.tc) ∧ X.cell? ⟨m.bt, t, none⟩ = some (.map (some z.1)) ∧ X.cell? ⟨x.px, 1, none⟩ = some (.slice (some ⟨x.bw, 0, none⟩) x.wm.length x.wc) ∧ X.cell? ⟨x.bw, t, none⟩ = some (.map (some y.1))))
  have HH := Lib.hid h
  have HM := Lib.hid h.md
  have HZ := Lib.hid (And.intro hz hzm)
  have HY := Lib.hid (And.intro hy hym)
  have HSS := Lib.hid (fun ss (hs : AllS z.2 ss) => hs.len (h.md.maps z hzm).ris)
  have HSY := Lib.hid (fun ss (hs : AllS y.2 ss) => hs.len (h.wmaps y hym).ris)
  have HT := Lib.hid ht
  clear h hy hz hym hzm c0 c1 c2 c3 c4 hfew hwl hf ht
  go_enter Tryz.func82, Tryz.ntmps82
  go_upto_region 1 with (fail)
  refine wp_region_held_drew (S := (fun X => Below w.heap.size w X)) (by kernel_rfl) ((Below.refl _ _).drew) (fun hHeld => ?_)
  refine tp 0 ?_ rfl (.inl ⟨by rfl, ?_⟩) ?_
  rotate_left
  · intro W hSw; go_simp; try with_reducible rfl
  refine tp 1 ?_ rfl (.inl ⟨by rfl, ?_⟩) ?_
  rotate_left
  · intro W hSw; go_simp; try with_reducible rfl
  refine tp 2 ?_ rfl (.inl ⟨by rfl, ?_⟩) ?_
  rotate_left
  · intro W hSw; go_simp; try with_reducible rfl
  refine tp 3 ?_ rfl (.inl ⟨by rfl, ?_⟩) ?_
  rotate_left
  · intro W hSw; have m := (HX.out W hSw).1; go_simp; try with_reducible rfl
  refine tp 4 ?_ rfl (.inl ⟨by rfl, ?_⟩) ?_
  rotate_left
  · intro W hSw; go_simp; try with_reducible rfl
  refine tp 5 ?_ rfl (.inl ⟨by rfl, ?_⟩) ?_
  rotate_left
  · intro W hSw; go_simp; try with_reducible rfl
  refine tp 6 ?_ rfl (.inl ⟨by rfl, ?_⟩) ?_
  rotate_left
  · intro W hSw; have m := (HX.out W hSw).2.1; go_simp; try with_reducible rfl
  refine tp 7 ?_ rfl (.inl ⟨by rfl, ?_⟩) ?_
  rotate_left
  · intro W hSw; go_simp; try with_reducible rfl
  refine tp 8 ?_ rfl (.inl ⟨by rfl, ?_⟩) ?_
  rotate_left
  · intro W hSw; go_simp; try with_reducible rfl
  refine tp 9 ?_ rfl (.inl ⟨by rfl, ?_⟩) ?_
  rotate_left
  · intro W hSw; have m := (HX.out W hSw).2.2.1; go_simp; try with_reducible rfl
  refine tp 12 ?_ rfl (.inl ⟨by rfl, ?_⟩) ?_
  rotate_left
  · intro W hSw; go_simp; try with_reducible rfl
  refine tp 13 ?_ rfl (.inl ⟨by rfl, ?_⟩) ?_
  rotate_left
  · intro W hSw; go_simp; try with_reducible rfl
  refine tp 14 ?_ rfl (.inl ⟨by rfl, ?_⟩) ?_
  rotate_left
  · intro W hSw; go_simp; try with_reducible rfl
  refine tp 15 ?_ rfl (.inl ⟨by rfl, ?_⟩) ?_
  rotate_left
  · intro W hSw; have m := (HX.out W hSw).2.2.2.1; go_simp; try with_reducible rfl
  refine tp 16 ?_ rfl (.inl ⟨by rfl, ?_⟩) ?_
  rotate_left
  · intro W hSw; go_simp; try with_reducible rfl
  refine tp 17 ?_ rfl (.inl ⟨by rfl, ?_⟩) ?_
  rotate_left
  · intro W hSw; go_simp; try with_reducible rfl
  refine tp 18 ?_ rfl (.inl ⟨by rfl, ?_⟩) ?_
  rotate_left
  · intro W hSw; have m := (HX.out W hSw).2.2.2.2; go_simp; try with_reducible rfl
  refine wpAnyH_ready (rs := [10]) (by kernel_rfl) (by simp) ?_
  refine AllReadyH.cons (o := { dst := some 21, op := Op.call { callee := Callee.value (Operand.func 110), args := #[Operand.tmp 20], argTypes := #[90] }, type := 177, pos := "trial.go:91", after := #[{ on := 9, ground := Ground.data }], guard := none }) rfl (fun K hK => ?_) AllReadyH.nil
  go_simp
  refine (rkeys_law _ z.1).mono ?_; rintro r w1 ⟨rfl, hw1⟩
  have HK1 := Lib.hid (by rw [hw1]; exact BoxC.new w.drew #[.map (some z.1)] 90 : BoxC w1 w.heap.size #[.map (some z.1)] 90)
  have HB1 := Lib.hid (by rw [hw1]; exact step_below hHeld (bl1 w.drew _) : Below w.heap.size w w1)
  have HS1 := Lib.hid (by rw [hw1]; simp : w.heap.size < w1.heap.size)
  clear hw1
  go_wp2_with fail
  refine hK.out _ _ HB1.out (fun hHeldn => ?_)
  clear hK K hHeld; have hHeld := hHeldn; clear hHeldn
  try simp only [Act.put, List.setIfInBounds_toArray, List.set_cons_zero, List.set_cons_succ]
  refine wpAnyH_ready (rs := [11]) (by kernel_rfl) (by simp) ?_
  refine AllReadyH.cons (o := { dst := some 22, op := Op.call { callee := Callee.value (Operand.func 109), args := #[Operand.tmp 21], argTypes := #[177] }, type := 134, pos := "trial.go:91", after := #[{ on := 10, ground := Ground.data }, { on := 10, ground := Ground.chain }], guard := none }) rfl (fun K hK => ?_) AllReadyH.nil
  go_simp
  refine (rcollect_law w1 w.heap.size z.1 z.2 HK1.out ((HM.out.below HB1.out).maps z HZ.out.2) (by omega)).mono ?_; rintro r w2 ⟨ss, v2, rfl, hall2, how2, hb2⟩
  obtain ⟨a2, c2, hv2⟩ := own_form22 how2
  subst hv2
  have HA2 := Lib.hid hall2
  have HO2 := Lib.hid (own_lo how2 HB1.out.size)
  have HB2 := Lib.hid (step_below HB1.out hb2)
  clear hall2 how2 hb2
  go_wp2_with fail
  refine hK.out _ _ HB2.out (fun hHeldn => ?_)
  clear hK K hHeld; have hHeld := hHeldn; clear hHeldn
  try simp only [Act.put, List.setIfInBounds_toArray, List.set_cons_zero, List.set_cons_succ]
  refine wpAnyH_ready (rs := [19]) (by kernel_rfl) (by simp) ?_
  refine AllReadyH.cons (o := { dst := some 30, op := Op.call { callee := Callee.value (Operand.func 111), args := #[Operand.tmp 29], argTypes := #[173] }, type := 177, pos := "trial.go:91", after := #[{ on := 18, ground := Ground.data }, { on := 11, ground := Ground.chain }], guard := none }) rfl (fun K hK => ?_) AllReadyH.nil
  go_simp
  refine (ikeys_law w2 y.1).mono ?_; rintro r w3 ⟨rfl, hw3⟩
  have HK3 := Lib.hid (by rw [hw3]; exact BoxC.new w2 #[.map (some y.1)] 173 : BoxC w3 w2.heap.size #[.map (some y.1)] 173)
  have HB23 := Lib.hid (by rw [hw3]; exact bl1 w2 _ : Below w2.heap.size w2 w3)
  have HB3 := Lib.hid (step_below HB2.out HB23.out)
  clear hw3
  go_wp2_with fail
  refine hK.out _ _ HB3.out (fun hHeldn => ?_)
  clear hK K hHeld; have hHeld := hHeldn; clear hHeldn
  try simp only [Act.put, List.setIfInBounds_toArray, List.set_cons_zero, List.set_cons_succ]
  refine wpAnyH_ready (rs := [20]) (by kernel_rfl) (by simp) ?_
  refine AllReadyH.cons (o := { dst := some 31, op := Op.call { callee := Callee.value (Operand.func 108), args := #[Operand.tmp 22, Operand.tmp 30], argTypes := #[134, 177] }, type := 134, pos := "trial.go:91", after := #[{ on := 11, ground := Ground.data }, { on := 19, ground := Ground.data }, { on := 19, ground := Ground.chain }], guard := none }) rfl (fun K hK => ?_) AllReadyH.nil
  go_simp
  refine (iapp_law w3 w2.heap.size y.1 w.heap.size y.2 HK3.out ((HH.out.below HB3.out).wmaps y HY.out.2) (by omega) (.slice a2 ss.length c2) ss (by rw [HSS.out ss HA2.out]; omega) HB3.out.size (own_kept HO2.out HB23.out)).mono ?_; rintro r w4 ⟨ss2, v4, rfl, hall4, how4, hb4⟩
  obtain ⟨a4, c4, hv4⟩ := own_form22 how4
  subst hv4
  have HA4 := Lib.hid hall4
  have HO4 := Lib.hid how4
  have HB4 := Lib.hid (HB3.out.trans hb4)
  clear hall4 how4 hb4
  go_wp2_with fail
  refine hK.out _ _ HB4.out (fun hHeldn => ?_)
  clear hK K hHeld; have hHeld := hHeldn; clear hHeldn
  try simp only [Act.put, List.setIfInBounds_toArray, List.set_cons_zero, List.set_cons_succ]
  refine tp 21 ?_ rfl (.inl ⟨by rfl, ?_⟩) ?_
  rotate_left
  · intro W hSw; go_simp; try with_reducible rfl
  refine wpAnyH_done (by kernel_rfl) ?_ _
  skip
  have HLN := Lib.hid (show (ss ++ ss2).length = ss.length + ss2.length from List.length_append)
  have hle := And.intro (HSS.out ss HA2.out) (HSY.out ss2 HA4.out)
  have hln2 : ss.length + ss2.length ≤ 1000000 := by omega
  have ho4 := HO4.out
  rw [HLN.out] at ho4
  have hbyt : ∀ K ∈ ss ++ ss2, Byt K := fun K hK => by
    rcases List.mem_append.1 hK with hK | hK
    · have := (HA2.out.2 K).1 hK
      obtain ⟨p, hp, rfl⟩ := List.mem_map.1 this
      exact (HM.out.maps z HZ.out.2).byt p hp
    · have := (HA4.out.2 K).1 hK
      obtain ⟨p, hp, rfl⟩ := List.mem_map.1 this
      exact (HH.out.wmaps y HY.out.2).byt p hp
  have HBY := Lib.hid hbyt
  have HS4 := Lib.hid (sort_law w.heap.size a4 (ss.length + ss2.length) c4 (ss ++ ss2) HLN.out (by omega) hbyt w4 ho4)
  clear hHeld hle hbyt ho4
  go_wp2_with fail
  refine HS4.out.mono ?_; rintro r w5 ⟨rfl, how5, o5⟩
  have HL5 := Lib.hid (show ((ss ++ ss2).mergeSort leL).length = ss.length + ss2.length by rw [List.length_mergeSort, HLN.out])
  have HC5 := Lib.hid (compact_law w.heap.size a4 (ss.length + ss2.length) c4 ((ss ++ ss2).mergeSort leL) HL5.out (by omega) (fun K hK => HBY.out K (List.mem_mergeSort.1 hK)) w5 how5)
  have HB5 := Lib.hid (Off.below HB4.out o5 HB4.out.size fun k hk => (own_blk how5 hk).1)
  have HO5 := Lib.hid how5
  clear how5 o5
  go_wp2_with fail
  refine HC5.out.mono ?_; rintro r w6 ⟨a6, c6, rfl, hst6, o6⟩
  have HB6 := Lib.hid (Off.below HB5.out o6 HB5.out.size fun k hk => (own_blk HO5.out hk).1)
  have HST := Lib.hid hst6
  obtain ⟨Q, hQ⟩ : ∃ Q, compL ((ss ++ ss2).mergeSort leL) = Q := ⟨_, rfl⟩
  have hql : Q.length ≤ 1000000 := by rw [← hQ]; have := compL_len ((ss ++ ss2).mergeSort leL); rw [HL5.out] at this; omega
  have HQR := Lib.hid (show Ris id Q by rw [← hQ]; exact compL_ris _ (sorted_le _))
  have HQM := Lib.hid (show ∀ K, K ∈ Q ↔ K ∈ ss ∨ K ∈ ss2 from fun K => by rw [← hQ, compL_mem, List.mem_mergeSort, List.mem_append])
  have HQB := Lib.hid (show ∀ K ∈ Q, Byt K from fun K hK => HBY.out K (List.mem_append.2 ((HQM.out K).1 hK)))
  rw [hQ] at HST ⊢
  have hqi : (Q.length : Int) ≤ 1000000 := by omega
  obtain ⟨n, hn⟩ : ∃ n, Q.length = n := ⟨_, rfl⟩
  rw [hn] at hql hqi ⊢
  have HN := Lib.hid hn
  clear hst6 o6 hQ hn
  go_wp2_with fail
  go_loopw [6, 37] (fun v i wr => ∃ (k : Nat) (P : List PrV), k ≤ n ∧ i = .int .i64 (k : Int) ∧ Hid (wr.ownsRow w6.heap.size 78 2 v P.length (prcells P)) ∧ Hid (P.map prC = pairL (getT (x.T m t)) (Q.take k)) ∧ Hid (P.length ≤ k) ∧ Hid (∀ p ∈ P, keyOk p.K ∧ rOk (p.R.map P1.bs)) ∧ Hid (∀ p ∈ P, ∀ S' : Nat → Prop, (∀ k, S' k → k < w6.heap.size ∨ v.ownBlock = some k) → Stay S' wr fun W' => Ls .u8 W' p.ka p.kc p.K ∧ RdR W' p.ra p.R) ∧ Hid (Below w6.heap.size w6 wr)) (fun _ i _ => n - (intOf i).toNat)
  case atStart => exact ⟨0, [], by omega, rfl, Lib.hid (World.ownsRow_nil _ _ _ _), Lib.hid rfl, Lib.hid (Nat.zero_le _), Lib.hid (fun p hp => by simp at hp), Lib.hid (fun p hp => by simp at hp), Lib.hid (Below.refl _ _)⟩
  case round =>
    obtain ⟨k, P, hk, rfl, HOV, HPM, HPL, HPO, HPS, HBR⟩ := hrel
    by_cases hlt : k < n
    · have d1 : (k : Int) < (n : Int) := by omega
      obtain ⟨K, hK⟩ : ∃ K, Q[k]? = some K := ⟨_, List.getElem?_eq_getElem (by rw [HN.out]; exact hlt)⟩
      obtain ⟨g6, eg, kc⟩ := (HST.out.below HBR.out) k K hK
      subst eg
      have HBW := Lib.hid (HB6.out.trans (HBR.out.mono HB6.out.size))
      have HTR := Lib.hid (HH.out.below HBW.out)
      obtain ⟨_, _, _, _, c4⟩ := HTR.out.c
      have hkm := List.mem_of_getElem? hK
      have HKB := Lib.hid (HQB.out K hkm)
      have HSN := Lib.hid hK
      have hkok : keyOk K := by
        rcases (HQM.out K).1 hkm with hq | hq
        · obtain ⟨p, hp, rfl⟩ := List.mem_map.1 ((HA2.out.2 K).1 hq)
          exact (HM.out.row HZ.out.1 hp).1
        · have := mem_keys.1 ((HA4.out.2 K).1 hq)
          obtain ⟨i, hi⟩ := Option.isSome_iff_exists.1 this
          obtain ⟨v, h1, _, hv⟩ := (HH.out.coh t y HY.out.1 K i).1 hi
          rw [← hv]
          exact (HH.out.wok v (List.mem_of_getElem? h1)).2.1
      have HKO := Lib.hid hkok
      have hkl : K.length ≤ 1000000 := by have := hkok.2; omega
      have HG := Lib.hid (fun X (b : Below wr.heap.size wr X) => tget_law (HTR.out.below b) t HT.out K HKB.out hkl)
      have HV := Lib.hid (HH.out.view HT.out K)
      obtain ⟨o, ho⟩ : ∃ o, getX m x t K = o := ⟨_, rfl⟩
      rw [ho] at HG HV
      have HGX := Lib.hid ho
      clear hK hkm hkok ho
      cases o with
      | none =>
        go_wp2_with fail
        refine (HG.out _ (Below.refl _ _)).mono ?_; rintro r w9 ⟨⟨v9, rfl, _⟩, rfl⟩
        simp only [Option.isSome_none]
        have HV2 := Lib.hid (pairL_no HSN.out HV.out)
        clear c4 kc
        go_wp2_with fail
        go_roundw
        case rel => exact ⟨k + 1, P, by omega, by go_num, HOV, Lib.hid (HPM.out.trans HV2.out.symm), Lib.hid (by have := HPL.out; omega), HPO, HPS, HBR⟩
        case measure => simp [intOf]; omega
      | some u =>
        obtain ⟨huo, hus⟩ := HTR.out.getok HGX.out
        have hbd := RV.bound huo
        have HUO := Lib.hid huo
        have HPR := Lib.hid (pair_law K HKB.out hkl u.ra u.R.length u.rc u.R rfl hbd.1 hbd.2 wr hus.now)
        have HV2 := Lib.hid (pairL_yes HSN.out HV.out)
        clear huo hus hbd
        go_wp2_with fail
        refine (HG.out _ (Below.refl _ _)).mono ?_; rintro r w9 ⟨⟨v9, rfl, hv9⟩, rfl⟩
        simp only [Option.isSome_some]
        have hv9 := hv9 u rfl
        unfold RV.v at hv9
        subst hv9
        clear c4 kc
        go_wp2_with fail
        refine HPR.out.mono ?_; rintro r w9 ⟨q, rfl, hqk, hqr, hb9, hst9⟩
        obtain ⟨va, vc, hv⟩ := own_form22 HOV.out
        subst hv
        have HQ9 := Lib.hid (And.intro hqk hqr)
        have HB9 := Lib.hid hb9
        have HS9 := Lib.hid hst9
        have HP3 := Lib.hid (show P.length + 1 ≤ 2097152 by have := HPL.out; omega)
        clear hqk hqr hb9 hst9
        go_wp2_with (at_builtin; refine append_cells ae_pair rfl _ _ rfl w6.heap.size (.slice va P.length vc) P.length (prcells P) rfl ((own_kept HOV.out HB9.out).alloc _) ⟨w9.heap.size, 0, none⟩ 1 1 [.slice q.ka q.K.length q.kc, .slice q.ra q.R.length q.rc] rfl rfl (cells_new w9 _ _ _ rfl) (fun u hu => by simp at hu; rcases hu with rfl | rfl <;> rfl) HP3.out (Nat.le_trans HBR.out.size (Nat.le_trans HB9.out.size (by simp))) ?_; intro v8 w8 hown8 hgrow8 hat8; have HO8 := Lib.hid hown8; have HG8 := Lib.hid hgrow8; have HAT8 := Lib.hid hat8; clear hown8 hgrow8 hat8)
        have HB91 := Lib.hid (step_below HB9.out (bl1 w9 (.cells #[.slice q.ka q.K.length q.kc, .slice q.ra q.R.length q.rc] 78)))
        go_roundw
        case rel =>
          have hob : Off (fun k => Value.ownBlock (.slice va P.length vc) = some k) wr w8 := (Off.of HB91.out).trans (Off.of_row HG8.out)
          have hvlt : ∀ b, Value.ownBlock (.slice va P.length vc) = some b → b < wr.heap.size ∧ w6.heap.size ≤ b := fun b hb => ⟨(own_blk HOV.out hb).2.1, (own_blk HOV.out hb).1⟩
          have hnew : ∀ b, v8.ownBlock = some b → Value.ownBlock (.slice va P.length vc) = some b ∨ w9.heap.size + 1 = b := fun b hb => by
            rcases HAT8.out with e | e
            · exact .inl (e ▸ hb)
            · rw [World.size_alloc] at e
              rw [hb] at e
              exact .inr (by cases e; rfl)
          refine ⟨k + 1, P ++ [q], by omega, by go_num, Lib.hid ?_, Lib.hid ?_, Lib.hid ?_, Lib.hid ?_, Lib.hid ?_, Lib.hid ?_⟩
          · rw [List.length_append, prcells_append]; exact HO8.out
          · rw [List.map_append, HPM.out, HV2.out]
            show _ ++ [(q.K, q.R.map P1.bs)] = _
            rw [HQ9.out.1, HQ9.out.2]; rfl
          · rw [List.length_append]; have := HPL.out; simp; omega
          · intro p hp
            rcases List.mem_append.1 hp with hp | hp
            · exact HPO.out p hp
            · rw [List.mem_singleton] at hp
              subst hp
              rw [HQ9.out.1, HQ9.out.2]
              exact ⟨HKO.out, HUO.out⟩
          · intro p hp S' hS'
            rcases List.mem_append.1 hp with hp | hp
            · refine (HPS.out p hp (fun k => k < w6.heap.size ∨ Value.ownBlock (.slice va P.length vc) = some k) (fun k hk => hk)).step (hob.mono fun k hk => .inr hk) (fun k hk => ?_)
              rcases hS' k hk with hk | hk
              · exact .inl (.inl hk)
              · rcases hnew k hk with hk | hk
                · exact .inl (.inr hk)
                · have := HB9.out.size; exact .inr (by omega)
            · rw [List.mem_singleton] at hp
              subst hp
              have h1 := HS9.out (fun k => k < wr.heap.size) (fun k hk => hk)
              have o98 : Off (fun k => k < wr.heap.size) w9 w8 := (Off.of (bl1 w9 (.cells #[.slice p.ka p.K.length p.kc, .slice p.ra p.R.length p.rc] 78))).trans ((Off.of_row HG8.out).mono fun k hk => (hvlt k hk).1)
              refine h1.step o98 (fun k hk => ?_)
              rcases hS' k hk with hk | hk
              · have := HBR.out.size; exact .inl (by show k < wr.heap.size; omega)
              · rcases hnew k hk with hk | hk
                · exact .inl (hvlt k hk).1
                · exact .inr (by omega)
          · exact Off.below HBR.out hob HBR.out.size (fun k hk => (hvlt k hk).2)
        case measure => simp [intOf]; omega
    · have d1 : ¬ (k : Int) < (n : Int) := by omega
      have HV := Lib.hid (show pairL (getT (x.T m t)) (Q.take k) = x.T m t by
        rw [List.take_of_length_le (by rw [HN.out]; omega)]
        refine pairL_eq (HH.out.tabok t) HQR.out (fun p hp => (HQM.out _).2 ?_)
        have := (getT_some (HH.out.tabok t)).2 (show (p.1, p.2) ∈ _ from hp)
        rw [HH.out.view HT.out] at this
        cases hg : getX m x t p.1 with
        | none => rw [hg] at this; cases this
        | some u =>
          cases hi : getM y.2 p.1 with
          | some i => exact .inr ((HA4.out.2 _).2 (mem_keys.2 (by rw [hi]; rfl)))
          | none =>
            refine .inl ((HA2.out.2 _).2 (mem_keys.2 ?_))
            unfold getX at hg
            rw [HH.out.find_none HY.out.1 hi, HZ.out.1] at hg
            simp only at hg
            rw [hg]; rfl)
      obtain ⟨va, vc, hv⟩ := own_form22 HOV.out
      subst hv
      have HB9 := Lib.hid (HB6.out.trans (HBR.out.mono HB6.out.size))
      go_wp2_with fail
      go_ret
      obtain ⟨hcn, hna⟩ := own_cn22 HOV.out
      refine ⟨va, vc, P, rfl, HB9.out, HPM.out.trans HV.out, HPO.out, hcn, hna, by have := HPL.out; omega, fun S' hS' W' o => ?_⟩
      have hlow : ∀ k, S' k → k < w6.heap.size := fun k hk => Nat.lt_of_lt_of_le (hS' k hk) HB6.out.size
      exact prs_own (own_off22 HOV.out o hlow) rfl fun p hp => HPS.out p hp S' (fun k hk => .inl (hlow k hk)) W' o
end Go.Proofs.YthmofoldmdafoaaGreat
namespace Go.Proofs.YthmofoldmdafoaaGreat
open Go.ChangeShapes Go.WideShapes Go.ChangeAt Go.RowKit Go.Maps
set_option linter.unusedVariables false
set_option linter.unusedSimpArgs false

/-- How two keys are compared. -/
def cmpL (A B : List Int) : Int := if ltL A B then -1 else if ltL B A then 1 else 0
theorem run_loadBytes (W : World) (b : Nat) : ∀ (L : List Int) (off : Nat) (acc : ByteArray), (∀ k < L.length, W.cell? ⟨b, off + k, none⟩ = some (.int .u8 (L.getD k 0))) →
    (Extern.Bytes.loadBytes ⟨b, off, none⟩ L.length acc).run Tryz.prog W = .ok ⟨acc.data ++ (L.map fun x => UInt8.ofNat x.toNat).toArray⟩ W
  | [], off, acc, _ => by simp [Extern.Bytes.loadBytes]
  | x :: L, off, acc, h => by
    have h0 := h 0 (by simp)
    simp only [Nat.add_zero, List.getD_cons_zero] at h0
    have ih := run_loadBytes W b L (off + 1) (acc.push x.toNat.toUInt8) (fun k hk => by
      have := h (k + 1) (by simpa using hk)
      rw [show off + 1 + k = off + (k + 1) by omega]
      simpa using this)
    have hl : (load ⟨b, off, none⟩).run Tryz.prog W = .ok (.int .u8 x) W := by simp [h0, go_sem]
    show (Extern.Bytes.loadBytes ⟨b, off, none⟩ (L.length + 1) acc).run Tryz.prog W = _
    unfold Extern.Bytes.loadBytes
    simp only [Sem.run_bind, hl, Result.andThen]
    rw [show (⟨b, off, none⟩ : Addr).add 1 = ⟨b, off + 1, none⟩ from addr_add b off 1, ih]
    congr 2
    simp [ByteArray.push, Nat.toUInt8]
theorem run_bytesOf {W : World} {a : Option Addr} {c : Nat} {L : List Int} (h : Ls .u8 W a c L) : (Extern.Bytes.bytesOf (.slice a L.length c)).run Tryz.prog W = .ok (strOfNums L) W := by
  rcases a with _ | a
  · have : L = [] := by
      cases L with
      | nil => rfl
      | cons x r => obtain ⟨b, off, e, _⟩ := h.rd 0 (by simp); cases e
    subst this
    simp [Extern.Bytes.bytesOf]
    rfl
  · by_cases h0 : L = []
    · subst h0
      simp [Extern.Bytes.bytesOf, Extern.Bytes.loadBytes]
      rfl
    · obtain ⟨b, off, e, _⟩ := h.rd 0 (List.length_pos_iff.2 h0)
      cases e
      have := run_loadBytes W b L off .empty (fun k hk => by
        obtain ⟨b', off', e, hc⟩ := h.rd k hk
        cases e
        exact hc)
      show (Extern.Bytes.loadBytes ⟨b, off, none⟩ L.length .empty).run Tryz.prog W = _
      rw [this]
      congr 1
      unfold strOfNums
      simp [ByteArray.empty, ByteArray.emptyWithCapacity]
      try rfl
theorem cmp_kb : ∀ {A B : List Int}, Byt A → Byt B → Lib.compareBytes (A.map fun x => UInt8.ofNat x.toNat) (B.map fun x => UInt8.ofNat x.toNat) = cmpL A B
  | [], [], _, _ => rfl
  | [], b :: B, _, _ => rfl
  | a :: A, [], _, _ => rfl
  | a :: A, b :: B, ha, hb => by
    have h1 := ha a (List.mem_cons_self ..)
    have h2 := hb b (List.mem_cons_self ..)
    have ih := cmp_kb (A := A) (B := B) (fun x hx => ha x (List.mem_cons_of_mem _ hx)) (fun x hx => hb x (List.mem_cons_of_mem _ hx))
    show (if UInt8.ofNat a.toNat < UInt8.ofNat b.toNat then (-1 : Int) else if UInt8.ofNat b.toNat < UInt8.ofNat a.toNat then 1 else Lib.compareBytes _ _) = _
    have e1 : (UInt8.ofNat a.toNat < UInt8.ofNat b.toNat) ↔ a < b := by
      rw [UInt8.lt_iff_toNat_lt, UInt8.toNat_ofNat', UInt8.toNat_ofNat', Nat.mod_eq_of_lt (by omega), Nat.mod_eq_of_lt (by omega)]
      omega
    have e2 : (UInt8.ofNat b.toNat < UInt8.ofNat a.toNat) ↔ b < a := by
      rw [UInt8.lt_iff_toNat_lt, UInt8.toNat_ofNat', UInt8.toNat_ofNat', Nat.mod_eq_of_lt (by omega), Nat.mod_eq_of_lt (by omega)]
      omega
    unfold cmpL
    simp only [ltL]
    by_cases c1 : a < b
    · rw [if_pos (e1.2 c1)]
      simp [c1]
    · rw [if_neg (fun h => c1 (e1.1 h))]
      by_cases c2 : b < a
      · rw [if_pos (e2.2 c2)]
        have c3 : ¬ a = b := by omega
        simp [c1, c2, c3]
      · rw [if_neg (fun h => c2 (e2.1 h)), ih]
        have c3 : a = b := by omega
        subst c3
        simp [cmpL, c1]
set_option maxRecDepth 100000 in
set_option maxHeartbeats 4000000 in
/-- bytes.Compare (70). -/
theorem bcmp_law (a b : Option Addr) (A B : List Int) (n m ca cb : Nat) (hA : A.length = n) (hB : B.length = m) (bA : Byt A) (bB : Byt B) (w : World) (la : Ls .u8 w a ca A) (lb : Ls .u8 w b cb B) :
    Calls Tryz.prog 70 #[.slice a n ca, .slice b m cb] w fun r w' => r = .returned (.int .i64 (cmpL A B)) ∧ w = w' := by
  subst hA hB
  have hrun : (Extern.BytealgCompare.compare #[.slice a A.length ca, .slice b B.length cb]).run Tryz.prog w = .ok (.int .i64 (cmpL A B)) w := by
    change Sem.run Tryz.prog (do pure (goInt (Extern.BytealgCompare.cmp (← Extern.Bytes.bytesOf (.slice a A.length ca)) (← Extern.Bytes.bytesOf (.slice b B.length cb))))) w = _
    simp only [Sem.run_bind, run_bytesOf la, run_bytesOf lb, Sem.run_pure, Result.andThen]
    rw [Lib.cmp_eq, ← cmp_kb bA bB, ← ByteArray.toList_eq, ← ByteArray.toList_eq, str_list, str_list]
    rfl
  have HR := Lib.hid hrun
  clear hrun la lb bA bB
  go_enter Tryz.func70, Tryz.ntmps70
  go_wp2
  rw [run_callFunc_extern Tryz.func100 (by kernel_rfl) (by kernel_rfl) (by kernel_rfl) (e := Extern.BytealgCompare.compare) (by kernel_rfl), HR.out]
  simp only [Result.andThen]
  rw [Oper.upon_value]
  go_wp2
  go_ret
  exact ⟨rfl, rfl⟩
end Go.Proofs.YthmofoldmdafoaaGreat
namespace Go.Proofs.YthmofoldmdafoaaGreat
open Go.ChangeShapes Go.WideShapes Go.ChangeAt Go.RowKit Go.Maps
set_option linter.unusedVariables false
set_option linter.unusedSimpArgs false

/-- An entry of an index, and whose it is. -/
structure EnV where
  ka : Option Addr
  kc : Nat
  K : List Int
  p : PrV
def ecl (e : EnV) : List Value := [.slice e.ka e.K.length e.kc, .slice e.p.ka e.p.K.length e.p.kc, .slice e.p.ra e.p.R.length e.p.rc]
theorem ecl_len (e : EnV) : (ecl e).length = 3 := rfl
structure EnL (W : World) (e : EnV) : Prop where
  k : Ls .u8 W e.ka e.kc e.K
  pk : Ls .u8 W e.p.ka e.p.kc e.p.K
  pr : RdR W e.p.ra e.p.R
theorem EnL.below {W W' : World} {e : EnV} (h : EnL W e) (b : Below W.heap.size W W') : EnL W' e := ⟨h.k.below b, h.pk.below b, h.pr.below b⟩
def EnsR (W : World) (a : Option Addr) (L : List EnV) : Prop := ∀ (k : Nat) (e : EnV), L[k]? = some e → ∃ b off, a = some ⟨b, off, none⟩ ∧ W.cell? ⟨b, off + k * 3, none⟩ = some (.slice e.ka e.K.length e.kc) ∧ W.cell? ⟨b, off + k * 3 + 1, none⟩ = some (.slice e.p.ka e.p.K.length e.p.kc) ∧ W.cell? ⟨b, off + k * 3 + 2, none⟩ = some (.slice e.p.ra e.p.R.length e.p.rc) ∧ EnL W e
theorem EnsR.below {W W' : World} {a : Option Addr} {L : List EnV} (h : EnsR W a L) (hb : Below W.heap.size W W') : EnsR W' a L := fun k x hx => by
  obtain ⟨b, off, e, c0, c1, c2, l⟩ := h k x hx
  have f : ∀ {p v}, W.cell? p = some v → W'.cell? p = some v := fun h => (hb.cell (World.block_lt_of_cell? W _ h)).trans h
  exact ⟨b, off, e, f c0, f c1, f c2, l.below hb⟩
/-- Those that a range has, of rising ones, as many as are asked for. -/
def winG {α : Type} (key : α → List Int) (f u : List Int) (en : Bool) (m : Int) : List α → List α → List α
  | [], acc => acc
  | e :: r, acc => if ltL (key e) f then winG key f u en m r acc else if (en && !ltL (key e) u) || decide ((acc.length : Int) = m) then acc else winG key f u en m r (acc ++ [e])
theorem winG_mem {α : Type} (key : α → List Int) (f u : List Int) (en : Bool) (m : Int) : ∀ (l acc : List α), ∀ e ∈ winG key f u en m l acc, e ∈ l ∨ e ∈ acc
  | [], acc, e, h => .inr h
  | x :: r, acc, e, h => by
    unfold winG at h
    split at h
    · exact (winG_mem key f u en m r acc e h).imp (List.mem_cons_of_mem _) id
    · split at h
      · exact .inr h
      · rcases winG_mem key f u en m r (acc ++ [x]) e h with h | h
        · exact .inl (List.mem_cons_of_mem _ h)
        · rcases List.mem_append.1 h with h | h
          · exact .inr h
          · rw [List.mem_singleton] at h; subst h; exact .inl (List.mem_cons_self ..)
theorem cmp_lt (A B : List Int) : (cmpL A B < 0) ↔ ltL A B = true := by
  unfold cmpL
  cases h : ltL A B
  · simp; cases ltL B A <;> simp
  · simp
theorem drop_cons22 {α : Type} {l : List α} {k : Nat} {x : α} (h : l[k]? = some x) : l.drop k = x :: l.drop (k + 1) := by
  have hk := (List.getElem?_eq_some_iff.1 h).1
  rw [List.drop_eq_getElem_cons hk]
  rw [List.getElem?_eq_getElem hk] at h
  rw [Option.some.inj h]
theorem winG_skip {f u : List Int} {en : Bool} {m : Int} {L acc : List EnV} {k : Nat} {e : EnV} (h : L[k]? = some e) (hl : ltL e.K f = true) : winG EnV.K f u en m (L.drop k) acc = winG EnV.K f u en m (L.drop (k + 1)) acc := by
  rw [drop_cons22 h]
  show (if ltL e.K f = true then _ else _) = _
  rw [if_pos hl]
theorem winG_stop {f u : List Int} {en : Bool} {m : Int} {L acc : List EnV} {k : Nat} {e : EnV} (h : L[k]? = some e) (hl : ltL e.K f = false) (hs : ((en && !ltL e.K u) || decide ((acc.length : Int) = m)) = true) : winG EnV.K f u en m (L.drop k) acc = acc := by
  rw [drop_cons22 h]
  show (if ltL e.K f = true then _ else if _ then _ else _) = _
  rw [if_neg (by rw [hl]; simp), if_pos hs]
theorem winG_take {f u : List Int} {en : Bool} {m : Int} {L acc : List EnV} {k : Nat} {e : EnV} (h : L[k]? = some e) (hl : ltL e.K f = false) (hs : ((en && !ltL e.K u) || decide ((acc.length : Int) = m)) = false) : winG EnV.K f u en m (L.drop k) acc = winG EnV.K f u en m (L.drop (k + 1)) (acc ++ [e]) := by
  rw [drop_cons22 h]
  show (if ltL e.K f = true then _ else if _ then _ else _) = _
  rw [if_neg (by rw [hl]; simp), if_neg (by rw [hs]; simp)]
/-- How within ends. -/
def WnR (w : World) (L : List EnV) (r : Ending) (w' : World) : Prop := ∃ a c, r = .returned (.slice a L.length c) ∧ Below w.heap.size w w' ∧ L.length ≤ c ∧ (a = none → c = 0) ∧ w'.ownsRow w.heap.size 78 2 (.slice a L.length c) L.length (prcells (L.map EnV.p))
set_option maxRecDepth 100000 in
set_option maxHeartbeats 4000000 in
/-- within (142). -/
theorem within22_law (tr : Int) (fa ta : Option Addr) (fn fc tn tc : Nat) (f u : List Int) (en : Bool) (m : Int) (hm : 0 ≤ m ∧ m ≤ 1000000) (hf : f.length = fn) (hu : u.length = tn) (bf : Byt f) (bu : Byt u) (a : Option Addr) (n c : Nat) (L : List EnV) (hn : L.length = n) (hn2 : n ≤ 2000000) (bL : ∀ e ∈ L, Byt e.K) (w : World) (lf : Ls .u8 w fa fc f) (lu : Ls .u8 w ta tc u) (hL : EnsR w a L) :
    Calls Tryz.prog 142 #[.agg #[.int .i64 tr, .slice fa fn fc, .slice ta tn tc, .bool en], .int .i64 m, .slice a n c] w (WnR w (winG EnV.K f u en m L [])) := by
  have HN := Lib.hid hn
  have HL := Lib.hid hL
  have HF := Lib.hid (And.intro hf (And.intro bf lf))
  have HU := Lib.hid (And.intro hu (And.intro bu lu))
  have HBL := Lib.hid bL
  have hni : (n : Int) ≤ 2000000 := by omega
  clear hn hL hf bf lf hu bu lu bL
  go_enter Tryz.func142, Tryz.ntmps142
  go_wp2_with fail
  go_step3
  go_wp2_with fail
  go_step3
  have HB0 := Lib.hid (bl1 w (.cells #[.int .i64 tr, .slice fa fn fc, .slice ta tn tc, .bool en] 169))
  have HBX := Lib.hid (BoxC.new w #[.int .i64 tr, .slice fa fn fc, .slice ta tn tc, .bool en] 169)
  generalize w.alloc (.cells #[.int .i64 tr, .slice fa fn fc, .slice ta tn tc, .bool en] 169) = w0 at HB0 HBX ⊢
  go_wp2_with fail
  go_loopw [7, 12] (fun v i wr => ∃ (k : Nat) (acc : List EnV), k ≤ n ∧ i = .int .i64 (k : Int) ∧ Hid (winG EnV.K f u en m L [] = winG EnV.K f u en m (L.drop k) acc) ∧ Hid (∀ e ∈ acc, e ∈ L) ∧ acc.length ≤ k ∧ Hid (wr.ownsRow w.heap.size 78 2 v acc.length (prcells (acc.map EnV.p))) ∧ Hid (BoxC wr w.heap.size #[.int .i64 tr, .slice fa fn fc, .slice ta tn tc, .bool en] 169) ∧ Hid (Below w.heap.size w wr)) (fun _ i _ => n - (intOf i).toNat)
  case atStart => exact ⟨0, [], by omega, rfl, Lib.hid rfl, Lib.hid (fun e he => by simp at he), Nat.le_refl _, Lib.hid (World.ownsRow_nil _ _ _ _), HBX, HB0⟩
  case round =>
    obtain ⟨k, acc, hk, rfl, HW, HAC, hac, HOV, HBXr, HBW⟩ := hrel
    obtain ⟨va, vc, hv⟩ := own_form22 HOV.out
    subst hv
    by_cases hlt : k < n
    · have d1 : (k : Int) < (n : Int) := by omega
      obtain ⟨e, he⟩ : ∃ e, L[k]? = some e := ⟨_, List.getElem?_eq_getElem (by rw [HN.out]; exact hlt)⟩
      obtain ⟨b1, o1, ea, c0, c1, c2, hel⟩ := (HL.out.below HBW.out) k e he
      subst ea
      have HE := Lib.hid he
      have HEL := Lib.hid hel
      have HEM := Lib.hid (List.mem_of_getElem? he)
      clear he hel
      go_upto_region 5 with (fail)
      have HB5 := Lib.hid (bl1 wr (.cells #[.slice e.ka e.K.length e.kc, .slice e.p.ka e.p.K.length e.p.kc, .slice e.p.ra e.p.R.length e.p.rc] 149))
      have hbx5 := BoxC.new wr #[.slice e.ka e.K.length e.kc, .slice e.p.ka e.p.K.length e.p.kc, .slice e.p.ra e.p.R.length e.p.rc] 149
      obtain ⟨bx, hbxe⟩ : ∃ b, wr.heap.size = b := ⟨_, rfl⟩
      have HSX := Lib.hid hbxe
      rw [hbxe] at hbx5
      obtain ⟨w5, hw5⟩ : ∃ W, W = wr.alloc (.cells #[.slice e.ka e.K.length e.kc, .slice e.p.ka e.p.K.length e.p.kc, .slice e.p.ra e.p.R.length e.p.rc] 149) := ⟨_, rfl⟩
      rw [← hw5] at HB5 hbx5 ⊢
      rw [hbxe]
      clear hw5 hbxe
      have HB6 := Lib.hid (HBW.out.trans (HB5.out.mono HBW.out.size))
      have HEL5 := Lib.hid (HEL.out.below HB5.out)
      have hsp := HBXr.out.below HB5.out
      have e0 := hbx5.cell 0
      have e1 := hbx5.cell 1
      have e2 := hbx5.cell 2
      have s1 := hsp.cell 1
      have s2 := hsp.cell 2
      have s3 := hsp.cell 3
      simp only [List.getElem?_toArray, List.getElem?_cons_zero, List.getElem?_cons_succ] at e0 e1 e2 s1 s2 s3
      have HC1 := Lib.hid (bcmp_law e.ka fa e.K f _ fn e.kc fc rfl HF.out.1 (HBL.out e HEM.out) HF.out.2.1 w5 HEL5.out.k (HF.out.2.2.below HB6.out))
      have HC2 := Lib.hid (bcmp_law e.ka ta e.K u _ tn e.kc tc rfl HU.out.1 (HBL.out e HEM.out) HU.out.2.1 w5 HEL5.out.k (HU.out.2.2.below HB6.out))
      have HOV5 := Lib.hid (own_kept HOV.out HB5.out)
      have HSP := Lib.hid hsp
      clear hbx5 hsp c0 c1 c2
      cases hlf : ltL e.K f with
      | true =>
        have hc : cmpL e.K f = -1 := by unfold cmpL; rw [hlf]; rfl
        rw [hc] at HC1
        have HWN := Lib.hid (HW.out.trans (winG_skip HE.out hlf))
        clear hc hlf
        go_wp2_with fail
        refine HC1.out.mono ?_; rintro r w6 ⟨rfl, rfl⟩
        go_wp2_with fail
        go_roundw
        case rel => exact ⟨k + 1, acc, by omega, by go_num, HWN, HAC, by omega, HOV5, HSP, HB6⟩
        case measure => simp [intOf]; omega
      | false =>
        have hc : ¬ cmpL e.K f < 0 := by rw [cmp_lt, hlf]; simp
        obtain ⟨z, hz⟩ : ∃ z, cmpL e.K f = z := ⟨_, rfl⟩
        rw [hz] at HC1 hc
        clear hz
        cases hst : (en && !ltL e.K u) with
        | true =>
          rw [Bool.and_eq_true] at hst
          obtain ⟨hen, hlu⟩ := hst
          have hlu2 : ltL e.K u = false := by simpa using hlu
          have hc2 : ¬ cmpL e.K u < 0 := by rw [cmp_lt, hlu2]; simp
          obtain ⟨z2, hz2⟩ : ∃ z, cmpL e.K u = z := ⟨_, rfl⟩
          rw [hz2] at HC2 hc2
          have hc3 : 0 ≤ z2 := by omega
          have HWN := Lib.hid (HW.out.trans (winG_stop HE.out hlf (by rw [hen, hlu2]; rfl)))
          rw [hen] at s3
          clear hz2 hen hlu hlu2 hlf
          go_wp2_with fail
          refine HC1.out.mono ?_; rintro r w6 ⟨rfl, rfl⟩
          go_wp2_with fail
          refine HC2.out.mono ?_; rintro r w6 ⟨rfl, rfl⟩
          go_wp2_with fail
          try rw [Exit.noGoto_ret]
          go_ret
          obtain ⟨hcn, hna⟩ := own_cn22 HOV5.out
          refine ⟨va, vc, by rw [HWN.out]; rfl, HB6.out, by rw [HWN.out]; exact hcn, hna, ?_⟩
          rw [HWN.out]
          exact HOV5.out
        | false =>
          cases hmm : decide ((acc.length : Int) = m) with
          | true =>
            have HWN := Lib.hid (HW.out.trans (winG_stop HE.out hlf (by rw [hst, hmm]; rfl)))
            have hml : ((acc.length : Int) == m) = true := by simpa using hmm
            rcases (show en = false ∨ en = true by cases en <;> simp) with hen | hen
            · rw [hen] at s3
              clear hst hmm hlf hen
              go_wp2_with fail
              refine HC1.out.mono ?_; rintro r w6 ⟨rfl, rfl⟩
              go_wp2_with fail
              try rw [Exit.noGoto_ret]
              go_ret
              obtain ⟨hcn, hna⟩ := own_cn22 HOV5.out
              refine ⟨va, vc, by rw [HWN.out]; rfl, HB6.out, by rw [HWN.out]; exact hcn, hna, ?_⟩
              rw [HWN.out]
              exact HOV5.out
            · rw [hen] at s3 hst
              have hlu : ltL e.K u = true := by simpa using hst
              have hc2 : cmpL e.K u < 0 := (cmp_lt _ _).2 hlu
              obtain ⟨z2, hz2⟩ : ∃ z, cmpL e.K u = z := ⟨_, rfl⟩
              rw [hz2] at HC2 hc2
              have hc3 : ¬ 0 ≤ z2 := by omega
              clear hst hmm hlf hen hlu hz2
              go_wp2_with fail
              refine HC1.out.mono ?_; rintro r w6 ⟨rfl, rfl⟩
              go_wp2_with fail
              refine HC2.out.mono ?_; rintro r w6 ⟨rfl, rfl⟩
              go_wp2_with fail
              try rw [Exit.noGoto_ret]
              go_ret
              obtain ⟨hcn, hna⟩ := own_cn22 HOV5.out
              refine ⟨va, vc, by rw [HWN.out]; rfl, HB6.out, by rw [HWN.out]; exact hcn, hna, ?_⟩
              rw [HWN.out]
              exact HOV5.out
          | false =>
            have HWN := Lib.hid (HW.out.trans (winG_take HE.out hlf (by rw [hst, hmm]; rfl)))
            have hml : ((acc.length : Int) == m) = false := by simpa using hmm
            have hap : acc.length + 1 ≤ 2097152 := by omega
            have hsz : w.heap.size ≤ w5.heap.size := HB6.out.size
            rcases (show en = false ∨ en = true by cases en <;> simp) with hen | hen
            · rw [hen] at s3
              clear hst hmm hlf hen
              go_wp2_with fail
              refine HC1.out.mono ?_; rintro r w6 ⟨rfl, rfl⟩
              go_wp2_with (at_builtin; refine append_cells ae_pair rfl _ _ rfl w.heap.size (.slice va acc.length vc) acc.length (prcells (acc.map EnV.p)) rfl (HOV5.out.alloc _) ⟨w5.heap.size, 0, none⟩ 1 1 [.slice e.p.ka e.p.K.length e.p.kc, .slice e.p.ra e.p.R.length e.p.rc] rfl rfl (cells_new w5 _ _ _ rfl) (fun u hu => by simp at hu; rcases hu with rfl | rfl <;> rfl) hap (by simp; omega) ?_; intro v8 w8 hown8 hgrow8 _; have HO8 := Lib.hid hown8; have HG8 := Lib.hid hgrow8; clear hown8 hgrow8)
              have HB8 := Lib.hid (Off.below (step_below HB6.out (bl1 w5 (.cells #[.slice e.p.ka e.p.K.length e.p.kc, .slice e.p.ra e.p.R.length e.p.rc] 78))) (Off.of_row HG8.out) (by have := HB6.out.size; simp; omega) (fun k hk => (own_blk HOV5.out hk).1))
              go_roundw
              case rel =>
                refine ⟨k + 1, acc ++ [e], by omega, by go_num, HWN, Lib.hid (fun q hq => ?_), by rw [List.length_append, List.length_singleton]; omega, Lib.hid ?_, Lib.hid ?_, HB8⟩
                · rcases List.mem_append.1 hq with hq | hq
                  · exact HAC.out q hq
                  · rw [List.mem_singleton] at hq; subst hq; exact HEM.out
                · rw [List.length_append, List.map_append, prcells_append]; exact HO8.out
                · refine (Off.of_row HG8.out).box ((HSP.out).alloc _) (fun hk => ?_)
                  obtain ⟨_, _, cur, hb⟩ := own_blk HOV5.out hk
                  exact box_ne hb HSP.out (by decide) rfl
              case measure => simp [intOf]; omega
            · rw [hen] at s3 hst
              have hlu : ltL e.K u = true := by simpa using hst
              have hc2 : cmpL e.K u < 0 := (cmp_lt _ _).2 hlu
              obtain ⟨z2, hz2⟩ : ∃ z, cmpL e.K u = z := ⟨_, rfl⟩
              rw [hz2] at HC2 hc2
              have hc3 : ¬ 0 ≤ z2 := by omega
              clear hst hmm hlf hen hlu hz2
              go_wp2_with fail
              refine HC1.out.mono ?_; rintro r w6 ⟨rfl, rfl⟩
              go_wp2_with fail
              refine HC2.out.mono ?_; rintro r w6 ⟨rfl, rfl⟩
              go_wp2_with (at_builtin; refine append_cells ae_pair rfl _ _ rfl w.heap.size (.slice va acc.length vc) acc.length (prcells (acc.map EnV.p)) rfl (HOV5.out.alloc _) ⟨w5.heap.size, 0, none⟩ 1 1 [.slice e.p.ka e.p.K.length e.p.kc, .slice e.p.ra e.p.R.length e.p.rc] rfl rfl (cells_new w5 _ _ _ rfl) (fun u hu => by simp at hu; rcases hu with rfl | rfl <;> rfl) hap (by simp; omega) ?_; intro v8 w8 hown8 hgrow8 _; have HO8 := Lib.hid hown8; have HG8 := Lib.hid hgrow8; clear hown8 hgrow8)
              have HB8 := Lib.hid (Off.below (step_below HB6.out (bl1 w5 (.cells #[.slice e.p.ka e.p.K.length e.p.kc, .slice e.p.ra e.p.R.length e.p.rc] 78))) (Off.of_row HG8.out) (by have := HB6.out.size; simp; omega) (fun k hk => (own_blk HOV5.out hk).1))
              go_roundw
              case rel =>
                refine ⟨k + 1, acc ++ [e], by omega, by go_num, HWN, Lib.hid (fun q hq => ?_), by rw [List.length_append, List.length_singleton]; omega, Lib.hid ?_, Lib.hid ?_, HB8⟩
                · rcases List.mem_append.1 hq with hq | hq
                  · exact HAC.out q hq
                  · rw [List.mem_singleton] at hq; subst hq; exact HEM.out
                · rw [List.length_append, List.map_append, prcells_append]; exact HO8.out
                · refine (Off.of_row HG8.out).box ((HSP.out).alloc _) (fun hk => ?_)
                  obtain ⟨_, _, cur, hb⟩ := own_blk HOV5.out hk
                  exact box_ne hb HSP.out (by decide) rfl
              case measure => simp [intOf]; omega
    · have d1 : ¬ (k : Int) < (n : Int) := by omega
      have HWN := Lib.hid (HW.out.trans (by rw [List.drop_eq_nil_of_le (by rw [HN.out]; omega)]; rfl : _ = acc))
      have HOV5 := HOV
      have HB6 := HBW
      go_wp2_with fail
      try rw [Exit.noGoto_ret]
      go_ret
      obtain ⟨hcn, hna⟩ := own_cn22 HOV5.out
      refine ⟨va, vc, by rw [HWN.out]; rfl, HB6.out, by rw [HWN.out]; exact hcn, hna, ?_⟩
      rw [HWN.out]
      exact HOV5.out
end Go.Proofs.YthmofoldmdafoaaGreat
