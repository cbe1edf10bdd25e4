/- The document's Next. -/
import Derived.Test.YtglkndoghnblcaaGreatDoorLpn
import Derived.Test.YtglkndoghnblcaaGreatDoorOkk
namespace Go.Proofs.YtglkndoghnblcaaGreatDoor
open Go.ChangeShapes Go.WideShapes Go.ChangeAt Go.RowKit
set_option linter.unusedVariables false
set_option linter.unusedSimpArgs false
theorem BoxC.kp {W W' : World} {B : Nat} {cs : Array Value} {t : TypeId} (h : BoxC W B cs t) (b : Below (B + 1) W W') : BoxC W' B cs t := (b.block B (Nat.lt_succ_self B)).trans h
theorem step_append_lp {ops : Array Oper} {o : Oper} {a : Act} {w : World} {Kt : Act → World → Prop} {Q : Exit → Act → World → Prop} {Z : Prop} (hgd : o.guard = none) (s x : Operand) (ho : o.op = .call { callee := .builtin .append, args := #[s, x], argTypes := #[37, 37] })
    (base : Nat) (v : Value) (n : Nat) (xs : List Value) (hs : a.eval s = v) (hown : w.ownsRow base 42 2 v n xs) (ad : Addr) (c : Nat) (cs : List Value) (hx : a.eval x = .slice (some ad) 1 c) (h3 : cs.length = 1 * 2)
    (hc : ∀ (j : Nat) (u : Value), cs[j]? = some u → w.cell? (ad.add j) = some u) (h1 : ∀ u ∈ cs, u.oneCell' = true) (hb : n + 1 ≤ 1048576) (hbase : base ≤ w.heap.size)
    (h : ∀ v' w', w'.ownsRow base 42 2 v' (n + 1) (xs ++ cs) → w.grownBy w' v.ownBlock → Kt (a.put o.dst v') w') :
    if Region.wanted o (yielded ops a.tmps) = true then Oper.wp Tryz.prog o a w Kt Q else Z := by
  have hw : Region.wanted o (yielded ops a.tmps) = true := by simp [Region.wanted, hgd]
  rw [if_pos hw]
  obtain ⟨i0, hi, hz0, hz1, hz2⟩ := info_parts info76
  obtain ⟨v', w', k1, k2, k3, _⟩ := run_append_own (P := Tryz.prog) w base 37 o.type 42 i0 (.agg #[.string { data := #[] }, .int .i64 0]) 2 24 Tryz.underlying37 hi hz0 hz1 hz2 rfl (by decide) v n xs hown ad 1 c cs h3 hc h1 (by unfold maxLen; omega) (by omega) hbase
  unfold Oper.wp execOp
  simp only [ho, resolve, invoke, builtin, Sem.run_bind, Sem.run_pure, Result.andThen_ok, List.map_toArray, List.map_cons, List.map_nil, hs, hx, k1]
  exact h v' w' k2 k3
theorem man_g1 {g e f : Int} {nm : ByteArray} {xs : List LpV} (h : manB g e f nm xs = true) : 1 ≤ g := by
  by_cases k : mnHead g e f = true
  · unfold mnHead inB at k
    simp at k
    omega
  · have := manB_no (g := g) (e := e) (f := f) (nm := nm) (xs := xs) (k := 0) (Nat.zero_le _) (by unfold okM; rw [Bool.not_eq_true] at k; rw [k]; rfl)
    rw [h] at this; cases this
theorem manB_long {g e f : Int} {nm : ByteArray} {xs : List LpV} (h : 32 < xs.length) : manB g e f nm xs = false :=
  head_no (by rw [show decide ((xs.length : Int) ≤ 32) = false by simp; omega]; simp)
theorem nx_exit {G e mx : Int} {nm : ByteArray} {xs ys zs : List LpV} (h : zs = ys ∨ (32 < (keepL e (xs ++ zs)).length ∧ ∃ r, ys = zs ++ r)) :
    manB G e mx nm (keepL e (xs ++ ys)) = manB G e mx nm (keepL e (xs ++ zs)) ∧ (manB G e mx nm (keepL e (xs ++ zs)) = true → keepL e (xs ++ zs) = keepL e (xs ++ ys)) := by
  rcases h with rfl | ⟨h, r, rfl⟩
  · exact ⟨rfl, fun _ => rfl⟩
  · rw [manB_long h, manB_long (by rw [← List.append_assoc, keepL_append, List.length_append]; omega)]
    exact ⟨rfl, fun h => by cases h⟩
theorem keep_yes2 {e : Int} {xs ys : List LpV} {k : Nat} {x : LpV} (h : ys[k]? = some x) (hx : e < x.2) : keepL e (xs ++ ys.take (k + 1)) = keepL e (xs ++ ys.take k) ++ [x] := by
  rw [keepL_append, keepL_append, keep_yes h hx, List.append_assoc]
theorem keep_no2 {e : Int} {xs ys : List LpV} {k : Nat} {x : LpV} (h : ys[k]? = some x) (hx : ¬ e < x.2) : keepL e (xs ++ ys.take (k + 1)) = keepL e (xs ++ ys.take k) := by
  rw [keepL_append, keepL_append, keep_no h hx]
set_option maxRecDepth 100000 in
set_option maxHeartbeats 4000000 in
/-- The document's Next (16). -/
theorem rnext_law (g e f fl : Int) (nm : ByteArray) (a b : Option Addr) (c d n m : Nat) (xs ys : List LpV) (hs : nm.size ≤ maxLen) (hsx : ∀ x ∈ xs, x.1.size ≤ maxLen) (hsy : ∀ x ∈ ys, x.1.size ≤ maxLen) (hn : xs.length = n) (hm : ys.length = m) (hnm : n + m ≤ 1000000) (hnc : n ≤ c) (w : World) (hA : LpsR w a xs) (hB : LpsR w b ys) (hna : a = none → c = 0) (hnb : b = none → d = 0) :
    Calls Tryz.prog 16 #[.agg #[.int .i64 g, .string nm, .int .i64 e, .int .i64 f, .slice a n c], .int .i64 fl, .slice b m d] w (NxR w (nxV (manB g e f nm xs || zerB g e f nm n) g e (if f < fl then fl else f) nm (keepL e (xs ++ ys)))) := by
  have HR := Lib.hid (And.intro hA hB)
  have HN := Lib.hid (And.intro hn hm)
  have HNL := Lib.hid (And.intro hna hnb)
  have HSS := Lib.hid (And.intro hs (And.intro hsx hsy))
  have hn6 : n ≤ 1000000 := by omega
  have HM := Lib.hid (fun W (b : Below w.heap.size w W) => rman_law g e f nm a xs n c hs hsx hn hn6 W (hA.below b))
  obtain ⟨mx, hmx⟩ : ∃ z, (if f < fl then fl else f) = z := ⟨_, rfl⟩
  rw [hmx]
  have HMX := Lib.hid hmx
  have HG1 := Lib.hid (fun h => man_g (g := g) (e := e) (f := f) (nm := nm) (xs := xs) h)
  have HG2 := Lib.hid (fun h => zer_g (g := g) (e := e) (f := f) (nm := nm) (n := n) h)
  clear hA hB hna hnb hs hsx hsy hn hm hmx
  go_enter Tryz.func16, Tryz.ntmps16
  go_upto_region 1 with (fail)
  obtain ⟨W1, hW1⟩ : ∃ W1, (w.alloc (.cells #[.int .i64 g, .string nm, .int .i64 e, .int .i64 f, .slice a n c] 39)).alloc (.cells #[.int .i64 0, .string { data := #[] }, .int .i64 0, .int .i64 0, .slice none 0 0] 39) = W1 := ⟨_, rfl⟩
  have hb1 : Below w.heap.size w W1 := by rw [← hW1]; exact step_below (bl1 _ _) (bl1 _ _)
  have bx : BoxC W1 w.heap.size #[.int .i64 g, .string nm, .int .i64 e, .int .i64 f, .slice a n c] 39 := by rw [← hW1]; exact (BoxC.new w _ 39).alloc _
  have bxr : BoxC W1 (w.heap.size + 1) #[.int .i64 0, .string { data := #[] }, .int .i64 0, .int .i64 0, .slice none 0 0] 39 := by
    rw [← hW1]
    have := BoxC.new (w.alloc (.cells #[.int .i64 g, .string nm, .int .i64 e, .int .i64 f, .slice a n c] 39)) #[.int .i64 0, .string { data := #[] }, .int .i64 0, .int .i64 0, .slice none 0 0] 39
    simpa using this
  have hs1 : w.heap.size + 2 ≤ W1.heap.size := by rw [← hW1]; simp
  try rw [hW1]
  clear hW1
  have HW1 := Lib.hid hb1
  have y0 := bx.cell 0
  have y1 := bx.cell 1
  have y2 := bx.cell 2
  have y3 := bx.cell 3
  have y4 := bx.cell 4
  simp at y0 y1 y2 y3 y4
  clear hb1
  cases hM : manB g e f nm xs
  · have HNG := Lib.hid hM
    rw [hM] at HM
    clear hM
    cases hg : (g == 0)
    · have HNO := Lib.hid (show (manB g e f nm xs || zerB g e f nm n) = false by rw [HNG.out, Bool.false_or]; simp [zerB, hg])
      go_wp2_with fail
      refine (HM.out _ HW1.out).mono ?_; rintro r w2 ⟨rfl, hb2⟩
      have HB2 := Lib.hid hb2
      clear hb2
      have HBW2 := Lib.hid (step_below HW1.out HB2.out)
      have bxr2 := bxr.below HB2.out
      clear y0 y1 y2 y3 y4
      have x3 := bxr2
      have z0 := x3.cell 0
      have f0 := x3.frozen 0
      have z1 := x3.cell 1
      have f1 := x3.frozen 1
      have z2 := x3.cell 2
      have f2 := x3.frozen 2
      have z3 := x3.cell 3
      have f3 := x3.frozen 3
      have z4 := x3.cell 4
      have f4 := x3.frozen 4
      simp only [List.getElem?_toArray, List.getElem?_cons_zero, List.getElem?_cons_succ] at z0 z1 z2 z3 z4
      have H95 := Lib.hid (show w2.grownBy (((((w2.setCell ⟨w.heap.size + 1, 0, none⟩ (.int .i64 0)).setCell ⟨w.heap.size + 1, 1, none⟩ (.string { data := #[] })).setCell ⟨w.heap.size + 1, 2, none⟩ (.int .i64 0)).setCell ⟨w.heap.size + 1, 3, none⟩ (.int .i64 0)).setCell ⟨w.heap.size + 1, 4, none⟩ (.slice none 0 0)) (some (w.heap.size + 1)) from oth_trans (oth_set _ _ _ _) (oth_trans (oth_set _ _ _ _) (oth_trans (oth_set _ _ _ _) (oth_trans (oth_set _ _ _ _) (oth_set _ _ _ _)))))
      have X9 := Lib.hid (((((x3.put 0 (.int .i64 0)).put 1 (.string { data := #[] })).put 2 (.int .i64 0)).put 3 (.int .i64 0)).put 4 (.slice none 0 0))
      have HB9 := Lib.hid (((((HBW2.out.setCell (p := ⟨w.heap.size + 1, 0, none⟩) (by simp) (.int .i64 0)).setCell (p := ⟨w.heap.size + 1, 1, none⟩) (by simp) (.string { data := #[] })).setCell (p := ⟨w.heap.size + 1, 2, none⟩) (by simp) (.int .i64 0)).setCell (p := ⟨w.heap.size + 1, 3, none⟩) (by simp) (.int .i64 0)).setCell (p := ⟨w.heap.size + 1, 4, none⟩) (by simp) (.slice none 0 0))
      clear x3
      go_wp2_with fail
      clear z0 z1 z2 z3 z4 f0 f1 f2 f3 f4
      generalize ((((w2.setCell ⟨w.heap.size + 1, 0, none⟩ (.int .i64 0)).setCell ⟨w.heap.size + 1, 1, none⟩ (.string { data := #[] })).setCell ⟨w.heap.size + 1, 2, none⟩ (.int .i64 0)).setCell ⟨w.heap.size + 1, 3, none⟩ (.int .i64 0)).setCell ⟨w.heap.size + 1, 4, none⟩ (.slice none 0 0) = W9 at *
      refine bodyPost_ret (v := .tuple #[.agg #[.int .i64 0, .string { data := #[] }, .int .i64 0, .int .i64 0, .slice none 0 0], .int .i64 2]) ?_ rfl (NxR_no (by rw [HNO.out]; rfl) HB9.out)
      have x0' := X9.out.cell 0
      have x1' := X9.out.cell 1
      have x2' := X9.out.cell 2
      have x3' := X9.out.cell 3
      have x4' := X9.out.cell 4
      simp at x0' x1' x2' x3' x4'
      simp [results, Tryz.results16, go_sem, x0', x1', x2', x3', x4']
    cases hn : (nm.toList == ([] : List UInt8))
    · have HNO := Lib.hid (show (manB g e f nm xs || zerB g e f nm n) = false by rw [HNG.out, Bool.false_or]; simp [zerB, hg, hn])
      go_wp2_with fail
      refine (HM.out _ HW1.out).mono ?_; rintro r w2 ⟨rfl, hb2⟩
      have HB2 := Lib.hid hb2
      clear hb2
      have HBW2 := Lib.hid (step_below HW1.out HB2.out)
      have bxr2 := bxr.below HB2.out
      clear y0 y1 y2 y3 y4
      have x3 := bxr2
      have z0 := x3.cell 0
      have f0 := x3.frozen 0
      have z1 := x3.cell 1
      have f1 := x3.frozen 1
      have z2 := x3.cell 2
      have f2 := x3.frozen 2
      have z3 := x3.cell 3
      have f3 := x3.frozen 3
      have z4 := x3.cell 4
      have f4 := x3.frozen 4
      simp only [List.getElem?_toArray, List.getElem?_cons_zero, List.getElem?_cons_succ] at z0 z1 z2 z3 z4
      have H95 := Lib.hid (show w2.grownBy (((((w2.setCell ⟨w.heap.size + 1, 0, none⟩ (.int .i64 0)).setCell ⟨w.heap.size + 1, 1, none⟩ (.string { data := #[] })).setCell ⟨w.heap.size + 1, 2, none⟩ (.int .i64 0)).setCell ⟨w.heap.size + 1, 3, none⟩ (.int .i64 0)).setCell ⟨w.heap.size + 1, 4, none⟩ (.slice none 0 0)) (some (w.heap.size + 1)) from oth_trans (oth_set _ _ _ _) (oth_trans (oth_set _ _ _ _) (oth_trans (oth_set _ _ _ _) (oth_trans (oth_set _ _ _ _) (oth_set _ _ _ _)))))
      have X9 := Lib.hid (((((x3.put 0 (.int .i64 0)).put 1 (.string { data := #[] })).put 2 (.int .i64 0)).put 3 (.int .i64 0)).put 4 (.slice none 0 0))
      have HB9 := Lib.hid (((((HBW2.out.setCell (p := ⟨w.heap.size + 1, 0, none⟩) (by simp) (.int .i64 0)).setCell (p := ⟨w.heap.size + 1, 1, none⟩) (by simp) (.string { data := #[] })).setCell (p := ⟨w.heap.size + 1, 2, none⟩) (by simp) (.int .i64 0)).setCell (p := ⟨w.heap.size + 1, 3, none⟩) (by simp) (.int .i64 0)).setCell (p := ⟨w.heap.size + 1, 4, none⟩) (by simp) (.slice none 0 0))
      clear x3
      go_wp2_with fail
      clear z0 z1 z2 z3 z4 f0 f1 f2 f3 f4
      generalize ((((w2.setCell ⟨w.heap.size + 1, 0, none⟩ (.int .i64 0)).setCell ⟨w.heap.size + 1, 1, none⟩ (.string { data := #[] })).setCell ⟨w.heap.size + 1, 2, none⟩ (.int .i64 0)).setCell ⟨w.heap.size + 1, 3, none⟩ (.int .i64 0)).setCell ⟨w.heap.size + 1, 4, none⟩ (.slice none 0 0) = W9 at *
      refine bodyPost_ret (v := .tuple #[.agg #[.int .i64 0, .string { data := #[] }, .int .i64 0, .int .i64 0, .slice none 0 0], .int .i64 2]) ?_ rfl (NxR_no (by rw [HNO.out]; rfl) HB9.out)
      have x0' := X9.out.cell 0
      have x1' := X9.out.cell 1
      have x2' := X9.out.cell 2
      have x3' := X9.out.cell 3
      have x4' := X9.out.cell 4
      simp at x0' x1' x2' x3' x4'
      simp [results, Tryz.results16, go_sem, x0', x1', x2', x3', x4']
    cases he : (e == 0)
    · have HNO := Lib.hid (show (manB g e f nm xs || zerB g e f nm n) = false by rw [HNG.out, Bool.false_or]; simp [zerB, hg, hn, he])
      go_wp2_with fail
      refine (HM.out _ HW1.out).mono ?_; rintro r w2 ⟨rfl, hb2⟩
      have HB2 := Lib.hid hb2
      clear hb2
      have HBW2 := Lib.hid (step_below HW1.out HB2.out)
      have bxr2 := bxr.below HB2.out
      clear y0 y1 y2 y3 y4
      have x3 := bxr2
      have z0 := x3.cell 0
      have f0 := x3.frozen 0
      have z1 := x3.cell 1
      have f1 := x3.frozen 1
      have z2 := x3.cell 2
      have f2 := x3.frozen 2
      have z3 := x3.cell 3
      have f3 := x3.frozen 3
      have z4 := x3.cell 4
      have f4 := x3.frozen 4
      simp only [List.getElem?_toArray, List.getElem?_cons_zero, List.getElem?_cons_succ] at z0 z1 z2 z3 z4
      have H95 := Lib.hid (show w2.grownBy (((((w2.setCell ⟨w.heap.size + 1, 0, none⟩ (.int .i64 0)).setCell ⟨w.heap.size + 1, 1, none⟩ (.string { data := #[] })).setCell ⟨w.heap.size + 1, 2, none⟩ (.int .i64 0)).setCell ⟨w.heap.size + 1, 3, none⟩ (.int .i64 0)).setCell ⟨w.heap.size + 1, 4, none⟩ (.slice none 0 0)) (some (w.heap.size + 1)) from oth_trans (oth_set _ _ _ _) (oth_trans (oth_set _ _ _ _) (oth_trans (oth_set _ _ _ _) (oth_trans (oth_set _ _ _ _) (oth_set _ _ _ _)))))
      have X9 := Lib.hid (((((x3.put 0 (.int .i64 0)).put 1 (.string { data := #[] })).put 2 (.int .i64 0)).put 3 (.int .i64 0)).put 4 (.slice none 0 0))
      have HB9 := Lib.hid (((((HBW2.out.setCell (p := ⟨w.heap.size + 1, 0, none⟩) (by simp) (.int .i64 0)).setCell (p := ⟨w.heap.size + 1, 1, none⟩) (by simp) (.string { data := #[] })).setCell (p := ⟨w.heap.size + 1, 2, none⟩) (by simp) (.int .i64 0)).setCell (p := ⟨w.heap.size + 1, 3, none⟩) (by simp) (.int .i64 0)).setCell (p := ⟨w.heap.size + 1, 4, none⟩) (by simp) (.slice none 0 0))
      clear x3
      go_wp2_with fail
      clear z0 z1 z2 z3 z4 f0 f1 f2 f3 f4
      generalize ((((w2.setCell ⟨w.heap.size + 1, 0, none⟩ (.int .i64 0)).setCell ⟨w.heap.size + 1, 1, none⟩ (.string { data := #[] })).setCell ⟨w.heap.size + 1, 2, none⟩ (.int .i64 0)).setCell ⟨w.heap.size + 1, 3, none⟩ (.int .i64 0)).setCell ⟨w.heap.size + 1, 4, none⟩ (.slice none 0 0) = W9 at *
      refine bodyPost_ret (v := .tuple #[.agg #[.int .i64 0, .string { data := #[] }, .int .i64 0, .int .i64 0, .slice none 0 0], .int .i64 2]) ?_ rfl (NxR_no (by rw [HNO.out]; rfl) HB9.out)
      have x0' := X9.out.cell 0
      have x1' := X9.out.cell 1
      have x2' := X9.out.cell 2
      have x3' := X9.out.cell 3
      have x4' := X9.out.cell 4
      simp at x0' x1' x2' x3' x4'
      simp [results, Tryz.results16, go_sem, x0', x1', x2', x3', x4']
    cases hf : (f == 0)
    · have HNO := Lib.hid (show (manB g e f nm xs || zerB g e f nm n) = false by rw [HNG.out, Bool.false_or]; simp [zerB, hg, hn, he, hf])
      go_wp2_with fail
      refine (HM.out _ HW1.out).mono ?_; rintro r w2 ⟨rfl, hb2⟩
      have HB2 := Lib.hid hb2
      clear hb2
      have HBW2 := Lib.hid (step_below HW1.out HB2.out)
      have bxr2 := bxr.below HB2.out
      clear y0 y1 y2 y3 y4
      have x3 := bxr2
      have z0 := x3.cell 0
      have f0 := x3.frozen 0
      have z1 := x3.cell 1
      have f1 := x3.frozen 1
      have z2 := x3.cell 2
      have f2 := x3.frozen 2
      have z3 := x3.cell 3
      have f3 := x3.frozen 3
      have z4 := x3.cell 4
      have f4 := x3.frozen 4
      simp only [List.getElem?_toArray, List.getElem?_cons_zero, List.getElem?_cons_succ] at z0 z1 z2 z3 z4
      have H95 := Lib.hid (show w2.grownBy (((((w2.setCell ⟨w.heap.size + 1, 0, none⟩ (.int .i64 0)).setCell ⟨w.heap.size + 1, 1, none⟩ (.string { data := #[] })).setCell ⟨w.heap.size + 1, 2, none⟩ (.int .i64 0)).setCell ⟨w.heap.size + 1, 3, none⟩ (.int .i64 0)).setCell ⟨w.heap.size + 1, 4, none⟩ (.slice none 0 0)) (some (w.heap.size + 1)) from oth_trans (oth_set _ _ _ _) (oth_trans (oth_set _ _ _ _) (oth_trans (oth_set _ _ _ _) (oth_trans (oth_set _ _ _ _) (oth_set _ _ _ _)))))
      have X9 := Lib.hid (((((x3.put 0 (.int .i64 0)).put 1 (.string { data := #[] })).put 2 (.int .i64 0)).put 3 (.int .i64 0)).put 4 (.slice none 0 0))
      have HB9 := Lib.hid (((((HBW2.out.setCell (p := ⟨w.heap.size + 1, 0, none⟩) (by simp) (.int .i64 0)).setCell (p := ⟨w.heap.size + 1, 1, none⟩) (by simp) (.string { data := #[] })).setCell (p := ⟨w.heap.size + 1, 2, none⟩) (by simp) (.int .i64 0)).setCell (p := ⟨w.heap.size + 1, 3, none⟩) (by simp) (.int .i64 0)).setCell (p := ⟨w.heap.size + 1, 4, none⟩) (by simp) (.slice none 0 0))
      clear x3
      go_wp2_with fail
      clear z0 z1 z2 z3 z4 f0 f1 f2 f3 f4
      generalize ((((w2.setCell ⟨w.heap.size + 1, 0, none⟩ (.int .i64 0)).setCell ⟨w.heap.size + 1, 1, none⟩ (.string { data := #[] })).setCell ⟨w.heap.size + 1, 2, none⟩ (.int .i64 0)).setCell ⟨w.heap.size + 1, 3, none⟩ (.int .i64 0)).setCell ⟨w.heap.size + 1, 4, none⟩ (.slice none 0 0) = W9 at *
      refine bodyPost_ret (v := .tuple #[.agg #[.int .i64 0, .string { data := #[] }, .int .i64 0, .int .i64 0, .slice none 0 0], .int .i64 2]) ?_ rfl (NxR_no (by rw [HNO.out]; rfl) HB9.out)
      have x0' := X9.out.cell 0
      have x1' := X9.out.cell 1
      have x2' := X9.out.cell 2
      have x3' := X9.out.cell 3
      have x4' := X9.out.cell 4
      simp at x0' x1' x2' x3' x4'
      simp [results, Tryz.results16, go_sem, x0', x1', x2', x3', x4']
    cases hx : ((n : Int) == 0)
    · have HNO := Lib.hid (show (manB g e f nm xs || zerB g e f nm n) = false by rw [HNG.out, Bool.false_or]; simp [zerB, hx])
      go_wp2_with fail
      refine (HM.out _ HW1.out).mono ?_; rintro r w2 ⟨rfl, hb2⟩
      have HB2 := Lib.hid hb2
      clear hb2
      have HBW2 := Lib.hid (step_below HW1.out HB2.out)
      have bxr2 := bxr.below HB2.out
      clear y0 y1 y2 y3 y4
      have x3 := bxr2
      have z0 := x3.cell 0
      have f0 := x3.frozen 0
      have z1 := x3.cell 1
      have f1 := x3.frozen 1
      have z2 := x3.cell 2
      have f2 := x3.frozen 2
      have z3 := x3.cell 3
      have f3 := x3.frozen 3
      have z4 := x3.cell 4
      have f4 := x3.frozen 4
      simp only [List.getElem?_toArray, List.getElem?_cons_zero, List.getElem?_cons_succ] at z0 z1 z2 z3 z4
      have H95 := Lib.hid (show w2.grownBy (((((w2.setCell ⟨w.heap.size + 1, 0, none⟩ (.int .i64 0)).setCell ⟨w.heap.size + 1, 1, none⟩ (.string { data := #[] })).setCell ⟨w.heap.size + 1, 2, none⟩ (.int .i64 0)).setCell ⟨w.heap.size + 1, 3, none⟩ (.int .i64 0)).setCell ⟨w.heap.size + 1, 4, none⟩ (.slice none 0 0)) (some (w.heap.size + 1)) from oth_trans (oth_set _ _ _ _) (oth_trans (oth_set _ _ _ _) (oth_trans (oth_set _ _ _ _) (oth_trans (oth_set _ _ _ _) (oth_set _ _ _ _)))))
      have X9 := Lib.hid (((((x3.put 0 (.int .i64 0)).put 1 (.string { data := #[] })).put 2 (.int .i64 0)).put 3 (.int .i64 0)).put 4 (.slice none 0 0))
      have HB9 := Lib.hid (((((HBW2.out.setCell (p := ⟨w.heap.size + 1, 0, none⟩) (by simp) (.int .i64 0)).setCell (p := ⟨w.heap.size + 1, 1, none⟩) (by simp) (.string { data := #[] })).setCell (p := ⟨w.heap.size + 1, 2, none⟩) (by simp) (.int .i64 0)).setCell (p := ⟨w.heap.size + 1, 3, none⟩) (by simp) (.int .i64 0)).setCell (p := ⟨w.heap.size + 1, 4, none⟩) (by simp) (.slice none 0 0))
      clear x3
      go_wp2_with fail
      clear z0 z1 z2 z3 z4 f0 f1 f2 f3 f4
      generalize ((((w2.setCell ⟨w.heap.size + 1, 0, none⟩ (.int .i64 0)).setCell ⟨w.heap.size + 1, 1, none⟩ (.string { data := #[] })).setCell ⟨w.heap.size + 1, 2, none⟩ (.int .i64 0)).setCell ⟨w.heap.size + 1, 3, none⟩ (.int .i64 0)).setCell ⟨w.heap.size + 1, 4, none⟩ (.slice none 0 0) = W9 at *
      refine bodyPost_ret (v := .tuple #[.agg #[.int .i64 0, .string { data := #[] }, .int .i64 0, .int .i64 0, .slice none 0 0], .int .i64 2]) ?_ rfl (NxR_no (by rw [HNO.out]; rfl) HB9.out)
      have x0' := X9.out.cell 0
      have x1' := X9.out.cell 1
      have x2' := X9.out.cell 2
      have x3' := X9.out.cell 3
      have x4' := X9.out.cell 4
      simp at x0' x1' x2' x3' x4'
      simp [results, Tryz.results16, go_sem, x0', x1', x2', x3', x4']
    · have HOK := Lib.hid (show (manB g e f nm xs || zerB g e f nm n) = true by rw [HNG.out, Bool.false_or]; unfold zerB; rw [hg, hn, he, hf, hx]; rfl)
      obtain ⟨hg0, hg1⟩ := HG2.out (show zerB g e f nm n = true by unfold zerB; rw [hg, hn, he, hf, hx]; rfl)
      obtain ⟨w2, rfl⟩ : ∃ W, W = W1 := ⟨_, rfl⟩
      have HB2 := Lib.hid (Below.refl w2.heap.size w2)
      have z0 := (bx.below HB2.out).cell 0
      have z1 := (bx.below HB2.out).cell 1
      have z2 := (bx.below HB2.out).cell 2
      have z3 := (bx.below HB2.out).cell 3
      have z4 := (bx.below HB2.out).cell 4
      simp at z0 z1 z2 z3 z4
      clear y0 y1 y2 y3 y4
      go_upto_region 4 with (fail)
      clear hg hn he hf hx
      go_upto_region 5 with (fail)
      rw [HMX.out]
      obtain ⟨W3, hW3⟩ : ∃ W3, w2.alloc (.cells #[.int .i64 (g + 1), .string nm, .int .i64 e, .int .i64 mx, .slice none 0 0] 39) = W3 := ⟨_, rfl⟩
      obtain ⟨Nb, hNb⟩ : ∃ b, w2.heap.size = b := ⟨_, rfl⟩
      have HB3 := Lib.hid (show Below Nb w2 W3 by rw [← hW3, ← hNb]; exact bl1 _ _)
      have BN3 := Lib.hid (show BoxC W3 Nb #[.int .i64 (g + 1), .string nm, .int .i64 e, .int .i64 mx, .slice none 0 0] 39 by rw [← hW3, ← hNb]; exact BoxC.new _ _ _)
      have HZ3 := Lib.hid (show Nb + 1 ≤ W3.heap.size by rw [← hW3, ← hNb]; simp)
      try rw [hW3]
      rw [hNb]
      have hNw : w.heap.size + 2 ≤ Nb := by have := HB2.out.size; omega
      have HBX := Lib.hid (fun X (b : Below Nb w2 X) => ((bx.below HB2.out).below (by rw [hNb]; exact b)))
      have HBXR := Lib.hid (fun X (b : Below Nb w2 X) => ((bxr.below HB2.out).below (by rw [hNb]; exact b)))
      have HWX := Lib.hid (fun X (b : Below Nb w2 X) => (step_below HW1.out (step_below HB2.out (by rw [hNb]; exact b)) : Below w.heap.size w X))
      clear hW3 hNb z0 z1 z2 z3 z4
      go_wp2_with fail
      go_loopw [10] (fun i wr => ∃ (k : Nat) (v : Value), k ≤ n ∧ i = .int .i64 (k : Int) ∧ Hid (BoxC wr Nb #[.int .i64 (g + 1), .string nm, .int .i64 e, .int .i64 mx, v] 39) ∧ Hid (wr.ownsRow (Nb + 1) 42 2 v (keepL e (xs.take k)).length (lcells (keepL e (xs.take k)))) ∧ Hid (Below Nb w2 wr) ∧ Hid (Nb + 1 ≤ wr.heap.size)) (fun i _ => n - (intOf i).toNat)
      case atStart => exact ⟨0, _, Nat.zero_le _, rfl, BN3, Lib.hid (World.ownsRow_nil _ _ _ _), HB3, HZ3⟩
      case round =>
        obtain ⟨k, v, hk, rfl, HBN, HO, HBW, HZ⟩ := hrel
        have m2 := (HBX.out _ HBW.out).cell 2
        have m4 := (HBX.out _ HBW.out).cell 4
        simp at m2 m4
        by_cases hlt : k < n
        · have d1 : (k : Int) < (n : Int) := by omega
          obtain ⟨x, hx⟩ : ∃ x, xs[k]? = some x := ⟨_, List.getElem?_eq_getElem (by rw [HN.out.1]; exact hlt)⟩
          have HX := Lib.hid hx
          obtain ⟨b1, o1, e1, p0, p1⟩ := HR.out.1 k x hx
          subst e1
          have c0 := (((HWX.out _ HBW.out).cell (cell_lt p0)).trans p0)
          have c1 := (((HWX.out _ HBW.out).cell (cell_lt p1)).trans p1)
          have hob := cell_lt p0
          obtain ⟨xn, hxn⟩ : ∃ z, x.1 = z := ⟨_, rfl⟩
          obtain ⟨xt, hxt⟩ : ∃ z, x.2 = z := ⟨_, rfl⟩
          rw [hxn] at c0 p0
          rw [hxt] at c1 p1
          have HP0 := Lib.hid (And.intro p0 p1)
          have HXE := Lib.hid (And.intro hxn hxt)
          clear hx hxn hxt p0 p1 hob
          by_cases hkp : e < xt
          · have HKP := Lib.hid (keep_yes HX.out (by rw [HXE.out.2]; exact hkp))
            obtain ⟨va, vc, rfl⟩ := own_form HO.out
            obtain ⟨L, hL⟩ : ∃ l, keepL e (xs.take k) = l := ⟨_, rfl⟩
            obtain ⟨ln, hln⟩ : ∃ l, L.length = l := ⟨_, rfl⟩
            rw [hL, hln] at HBN HO
            have HLE := Lib.hid (And.intro hL hln)
            have HL := Lib.hid (show ln ≤ 1000000 by rw [← hln, ← hL]; exact Nat.le_trans (keepL_len _ _) (by simp only [List.length_append, List.length_take, HN.out.1, HN.out.2]; omega))
            clear hL hln
            go_upto_region 8 with (fail)
            go_quiet (fail)
            obtain ⟨w5, hw5⟩ : ∃ W, W = wr.drewN nq := ⟨_, rfl⟩
            rw [← hw5]
            have hbd : Below wr.heap.size wr w5 := by rw [hw5]; exact below_drewN (Below.refl _ _) _
            have HBD5 := Lib.hid (show Below Nb w2 w5 by rw [hw5]; exact below_drewN HBW.out _)
            have HZ5 := Lib.hid (show Nb + 1 ≤ w5.heap.size from Nat.le_trans HZ.out hbd.size)
            have HO5 := Lib.hid (own_below HO.out hbd)
            have HBN5 := Lib.hid (HBN.out.below hbd)
            have HNE := Lib.hid (show some Nb ≠ (Value.slice va ln vc).ownBlock from fun h => by have := (HO.out.lt _ h.symm).1; omega)
            have HD5 := Lib.hid (fun W (b : Below (Nb + 1) w5 W) => (show W.cell? ⟨Nb, 4, none⟩ = some (.slice va ln vc) from (HBN5.out.kp b).cell 4))
            have HM5 := Lib.hid (fun W (b : Below (Nb + 1) w5 W) => ((HBX.out _ (HBD5.out.trans (b.mono (Nat.le_succ Nb)))).cell 4))
            have HP5 := Lib.hid (fun W (b : Below (Nb + 1) w5 W) => (⟨((HWX.out _ (HBD5.out.trans (b.mono (Nat.le_succ Nb)))).cell (cell_lt HP0.out.1)).trans HP0.out.1, ((HWX.out _ (HBD5.out.trans (b.mono (Nat.le_succ Nb)))).cell (cell_lt HP0.out.2)).trans HP0.out.2⟩ : W.cell? ⟨b1, o1 + k * 2, none⟩ = some (.string xn) ∧ W.cell? ⟨b1, o1 + k * 2 + 1, none⟩ = some (.int .i64 xt)))
            have c2 := (HBX.out _ HBD5.out).cell 2
            simp at c2
            clear hw5 hbd c0 c1
            go_upto_region 9 with (fail)
            rename_i KK hKK
            refine Code.wp_mono (Q := Exit.then KK (fun _ _ _ => False)) (fun e a' w' h => by cases e <;> first | exact h | exact h.elim) ?_
            refine wp_region_last (z := 10) (S := (fun X => Below (Nb + 1) w5 X)) (by kernel_rfl) ((Below.refl _ _).drew) (fun hHeld => ?_)
            refine wpAnyL_take (i := 0) (oi := { dst := some 72, op := Op.fieldAddr 39 (Operand.tmp 9) 4, type := 0, pos := "ref.go:394", after := #[], guard := none }) (v := ?_) (by kernel_rfl) rfl (by kernel_rfl) rfl (by kernel_rfl) (by kernel_rfl) (by kernel_rfl) (fun _ _ _ h => h) (Or.inl ⟨by rfl, ?_⟩) (by assumption) ?_
            rotate_left
            · intro W hSw; go_simp; try with_reducible rfl
            try simp only [Act.put, List.setIfInBounds_toArray, List.set_cons_zero, List.set_cons_succ]
            refine wpAnyL_take (i := 1) (oi := { dst := some 73, op := Op.load 37 (Operand.tmp 72), type := 37, pos := "ref.go:394", after := #[{ on := 0, ground := Ground.data }], guard := none }) (v := ?_) (by kernel_rfl) rfl (by kernel_rfl) rfl (by kernel_rfl) (by kernel_rfl) (by kernel_rfl) (fun _ _ _ h => h) (Or.inl ⟨by rfl, ?_⟩) (by assumption) ?_
            rotate_left
            · intro W hSw; have q4 := HD5.out W hSw; go_simp; try with_reducible rfl
            try simp only [Act.put, List.setIfInBounds_toArray, List.set_cons_zero, List.set_cons_succ]
            refine wpAnyL_take (i := 2) (oi := { dst := some 74, op := Op.fieldAddr 39 (Operand.tmp 3) 4, type := 0, pos := "ref.go:394", after := #[], guard := none }) (v := ?_) (by kernel_rfl) rfl (by kernel_rfl) rfl (by kernel_rfl) (by kernel_rfl) (by kernel_rfl) (fun _ _ _ h => h) (Or.inl ⟨by rfl, ?_⟩) (by assumption) ?_
            rotate_left
            · intro W hSw; go_simp; try with_reducible rfl
            try simp only [Act.put, List.setIfInBounds_toArray, List.set_cons_zero, List.set_cons_succ]
            refine wpAnyL_take (i := 3) (oi := { dst := some 75, op := Op.load 37 (Operand.tmp 74), type := 37, pos := "ref.go:394", after := #[{ on := 2, ground := Ground.data }], guard := none }) (v := ?_) (by kernel_rfl) rfl (by kernel_rfl) rfl (by kernel_rfl) (by kernel_rfl) (by kernel_rfl) (fun _ _ _ h => h) (Or.inl ⟨by rfl, ?_⟩) (by assumption) ?_
            rotate_left
            · intro W hSw; have q4 := HM5.out W hSw; go_simp; try with_reducible rfl
            try simp only [Act.put, List.setIfInBounds_toArray, List.set_cons_zero, List.set_cons_succ]
            refine wpAnyL_take (i := 4) (oi := { dst := some 76, op := Op.move (Operand.tmp 10), type := 3, pos := "ref.go:394", after := #[], guard := none }) (v := ?_) (by kernel_rfl) rfl (by kernel_rfl) rfl (by kernel_rfl) (by kernel_rfl) (by kernel_rfl) (fun _ _ _ h => h) (Or.inl ⟨by rfl, ?_⟩) (by assumption) ?_
            rotate_left
            · intro W hSw; go_simp; try with_reducible rfl
            try simp only [Act.put, List.setIfInBounds_toArray, List.set_cons_zero, List.set_cons_succ]
            refine wpAnyL_take (i := 5) (oi := { dst := some 77, op := Op.indexAddr 37 (Operand.tmp 75) (Operand.tmp 76), type := 0, pos := "ref.go:394", after := #[{ on := 3, ground := Ground.data }, { on := 4, ground := Ground.data }], guard := none }) (v := ?_) (by kernel_rfl) rfl (by kernel_rfl) rfl (by kernel_rfl) (by kernel_rfl) (by kernel_rfl) (fun _ _ _ h => h) (Or.inl ⟨by rfl, ?_⟩) (by assumption) ?_
            rotate_left
            · intro W hSw; go_simp; try with_reducible rfl
            try simp only [Act.put, List.setIfInBounds_toArray, List.set_cons_zero, List.set_cons_succ]
            refine wpAnyL_take (i := 6) (oi := { dst := some 78, op := Op.load 42 (Operand.tmp 77), type := 42, pos := "ref.go:394", after := #[{ on := 5, ground := Ground.data }], guard := none }) (v := ?_) (by kernel_rfl) rfl (by kernel_rfl) rfl (by kernel_rfl) (by kernel_rfl) (by kernel_rfl) (fun _ _ _ h => h) (Or.inl ⟨by rfl, ?_⟩) (by assumption) ?_
            rotate_left
            · intro W hSw; obtain ⟨q0, q1⟩ := HP5.out W hSw; go_simp; try with_reducible rfl
            try simp only [Act.put, List.setIfInBounds_toArray, List.set_cons_zero, List.set_cons_succ]
            refine wpAnyL_ready (rs := [7]) (by kernel_rfl) (by simp) ?_
            refine AllL.cons (o := { dst := some 79, op := Op.buildSlice 37 1 #[(0, Operand.tmp 78)], type := 37, pos := "ref.go:394", after := #[{ on := 6, ground := Ground.data }], guard := none }) rfl (fun K hK => ?_) AllL.nil
            go_simp
            have hb8 : Below w5.heap.size w5 (w5.drew.alloc (.cells #[.string xn, .int .i64 xt] 42)) := ((Below.refl w5.heap.size w5).drew).alloc (Nat.le_refl _) _
            have hs8 : Below (Nb + 1) w5 (w5.drew.alloc (.cells #[.string xn, .int .i64 xt] 42)) := hb8.mono HZ5.out
            refine hK.out _ _ hs8 (fun hHeldn => ?_)
            clear hK K hHeld hs8; have hHeld := hHeldn; clear hHeldn
            try simp only [Act.put, List.setIfInBounds_toArray, List.set_cons_zero, List.set_cons_succ]
            refine wpAnyL_ready (rs := [8]) (by kernel_rfl) (by simp) ?_
            refine AllL.cons (o := { dst := some 80, op := Op.call { callee := Callee.builtin Builtin.append, args := #[Operand.tmp 73, Operand.tmp 79], argTypes := #[37, 37] }, type := 37, pos := "ref.go:394", after := #[{ on := 1, ground := Ground.data }, { on := 7, ground := Ground.data }], guard := none }) rfl (fun K hK => ?_) AllL.nil
            have hown := own_below HO5.out hb8
            have hz8 := hb8.size
            refine step_append_lp rfl _ _ rfl (Nb + 1) (.slice va ln vc) ln (lcells L) rfl hown ⟨w5.heap.size, 0, none⟩ 1 [.string xn, .int .i64 xt] rfl rfl (by intro j u hj; match j, hj with | 0, hj => (simp at hj; subst hj; simp [Addr.add]) | 1, hj => (simp at hj; subst hj; simp [Addr.add]) | j + 2, hj => simp at hj) (by intro u hu; simp at hu; rcases hu with rfl | rfl <;> rfl) (by have := HL.out; omega) (Nat.le_trans HZ5.out hz8) ?_
            intro v9 w9 hown9 hgrow9
            obtain ⟨a9, c9, rfl⟩ := own_form hown9
            have b9 : Below (Nb + 1) w5 w9 := hHeld.grown hgrow9 (Nat.le_trans HZ5.out hz8) (fun j hj => (hown.lt j hj).1)
            have bn9 := (HBN5.out.below hb8).grown hgrow9 HNE.out
            have HB9 := Lib.hid b9
            have HO9 := Lib.hid hown9
            have BN9 := Lib.hid bn9
            refine hK.out _ _ b9 (fun hHeldn => ?_)
            clear hK K hHeld hown hgrow9 hown9 hb8 b9 bn9 hz8; have hHeld := hHeldn; clear hHeldn
            try simp only [Act.put, List.setIfInBounds_toArray, List.set_cons_zero, List.set_cons_succ]
            refine wpAnyL_take (i := 9) (oi := { dst := some 81, op := Op.fieldAddr 39 (Operand.tmp 9) 4, type := 0, pos := "ref.go:394", after := #[{ on := 0, ground := Ground.phase }, { on := 1, ground := Ground.phase }, { on := 2, ground := Ground.phase }, { on := 3, ground := Ground.phase }, { on := 4, ground := Ground.phase }, { on := 5, ground := Ground.phase }, { on := 6, ground := Ground.phase }, { on := 7, ground := Ground.phase }, { on := 8, ground := Ground.phase }], guard := none }) (v := ?_) (by kernel_rfl) rfl (by kernel_rfl) rfl (by kernel_rfl) (by kernel_rfl) (by kernel_rfl) (fun _ _ _ h => h) (Or.inl ⟨by rfl, ?_⟩) (by assumption) ?_
            rotate_left
            · intro W hSw; go_simp; try with_reducible rfl
            try simp only [Act.put, List.setIfInBounds_toArray, List.set_cons_zero, List.set_cons_succ]
            refine wpAnyL_ready (rs := [10]) (by kernel_rfl) (by simp) ?_
            refine AllL.last (o := { dst := none, op := Op.store 37 (Operand.tmp 81) (Operand.tmp 80), type := 0, pos := "ref.go:394", after := #[{ on := 9, ground := Ground.data }, { on := 8, ground := Ground.data }, { on := 8, ground := Ground.chain }, { on := 0, ground := Ground.phase }, { on := 1, ground := Ground.phase }, { on := 2, ground := Ground.phase }, { on := 3, ground := Ground.phase }, { on := 4, ground := Ground.phase }, { on := 5, ground := Ground.phase }, { on := 6, ground := Ground.phase }, { on := 7, ground := Ground.phase }, { on := 8, ground := Ground.phase }], guard := none }) rfl (fun K hK => ?_)
            have x4 := BN9.out.cell 4
            have f4 := BN9.out.frozen 4
            simp at x4
            go_simp
            refine hK.out _ _ ?_
            clear hK K x4 f4
            try simp only [Act.put, List.setIfInBounds_toArray, List.set_cons_zero, List.set_cons_succ]
            refine wpAnyL_done (by kernel_rfl) ?_ _
            skip
            refine hKK _ _ ?_
            have hg := oth_set w9 Nb 4 (.slice a9 (ln + 1) c9)
            have HBN9 := Lib.hid (BN9.out.put 4 (.slice a9 (ln + 1) c9))
            have HO10 := Lib.hid (own_oth HO9.out (Nat.lt_succ_self Nb) hg)
            have HBZ := Lib.hid ((HBD5.out.trans (HB9.out.mono (Nat.le_succ Nb))).setCell (p := ⟨Nb, 4, none⟩) (Nat.le_refl _) (.slice a9 (ln + 1) c9))
            have HZZ := Lib.hid (show Nb + 1 ≤ (w9.setCell ⟨Nb, 4, none⟩ (.slice a9 (ln + 1) c9)).heap.size by simp; exact Nat.le_trans HZ5.out HB9.out.size)
            clear hg
            generalize w9.setCell ⟨Nb, 4, none⟩ (.slice a9 (ln + 1) c9) = WN at *
            go_wp2_with fail
            go_roundw
            case rel =>
              refine ⟨k + 1, .slice a9 (ln + 1) c9, by omega, by go_num, HBN9, Lib.hid ?_, HBZ, HZZ⟩
              rw [HKP.out, HLE.out.1, List.length_append, List.length_singleton, HLE.out.2, lcells_append]
              have e9 : lcells [x] = [.string xn, .int .i64 xt] := by rw [← HXE.out.1, ← HXE.out.2]; rfl
              rw [e9]
              exact HO10.out
            case measure => simp [intOf]; omega
          · have HKP := Lib.hid (keep_no HX.out (by rw [HXE.out.2]; exact hkp))
            go_wp2_with fail
            go_quiet (fail)
            go_wp2_with fail
            go_roundw
            case rel =>
              refine ⟨k + 1, v, by omega, by go_num, Lib.hid (HBN.out.below (below_drewN (Below.refl _ _) _)), Lib.hid ?_, Lib.hid (below_drewN HBW.out _), HZ⟩
              rw [HKP.out]
              exact own_below HO.out (below_drewN (Below.refl _ _) _)
            case measure => simp [intOf]; omega
        · have d1 : ¬ (k : Int) < (n : Int) := by omega
          have ek : xs.take k = xs := List.take_of_length_le (by rw [HN.out.1]; omega)
          rw [ek] at HO
          clear ek
          go_wp2_with fail
          clear m2 m4
          have HSTART := Lib.hid (show wr.ownsRow (Nb + 1) 42 2 v (keepL e (xs ++ ys.take 0)).length (lcells (keepL e (xs ++ ys.take 0))) by rw [List.take_zero, List.append_nil]; exact HO.out)
          clear HO
          go_loopw [11] (fun i wr => ∃ (k : Nat) (v : Value), k ≤ m ∧ i = .int .i64 (k : Int) ∧ Hid (BoxC wr Nb #[.int .i64 (g + 1), .string nm, .int .i64 e, .int .i64 mx, v] 39) ∧ Hid (wr.ownsRow (Nb + 1) 42 2 v (keepL e (xs ++ ys.take k)).length (lcells (keepL e (xs ++ ys.take k)))) ∧ Hid (Below Nb w2 wr) ∧ Hid (Nb + 1 ≤ wr.heap.size)) (fun i _ => m - (intOf i).toNat)
          case atStart => exact ⟨0, _, Nat.zero_le _, rfl, HBN, HSTART, HBW, HZ⟩
          case round =>
            clear HBN HBW HZ HSTART
            obtain ⟨k, v, hk, rfl, HBN, HO, HBW, HZ⟩ := hrel
            have m2 := (HBX.out _ HBW.out).cell 2
            simp at m2
            obtain ⟨va, vc, rfl⟩ := own_form HO.out
            obtain ⟨L, hL⟩ : ∃ l, keepL e (xs ++ ys.take k) = l := ⟨_, rfl⟩
            obtain ⟨ln, hln⟩ : ∃ l, L.length = l := ⟨_, rfl⟩
            rw [hL, hln] at HBN HO
            have HLE := Lib.hid (And.intro hL hln)
            have HL := Lib.hid (show ln ≤ 1000000 by rw [← hln, ← hL]; exact Nat.le_trans (keepL_len _ _) (by simp only [List.length_append, List.length_take, HN.out.1, HN.out.2]; omega))
            clear hL hln
            have n4 := HBN.out.cell 4
            simp at n4
            have hl6 : (ln : Int) ≤ 1000000 := by have := HL.out; omega
            by_cases hlt : k < m ∧ ln ≤ 32
            · have d1 : (k : Int) < (m : Int) := by omega
              have d2 : (ln : Int) ≤ 32 := by omega
              have hkm : k < m := hlt.1
              clear hlt
              obtain ⟨x, hx⟩ : ∃ x, ys[k]? = some x := ⟨_, List.getElem?_eq_getElem (by rw [HN.out.2]; exact hkm)⟩
              have HX := Lib.hid hx
              obtain ⟨b1, o1, e1, p0, p1⟩ := HR.out.2 k x hx
              subst e1
              have c0 := (((HWX.out _ HBW.out).cell (cell_lt p0)).trans p0)
              have c1 := (((HWX.out _ HBW.out).cell (cell_lt p1)).trans p1)
              have hob := cell_lt p0
              obtain ⟨xn, hxn⟩ : ∃ z, x.1 = z := ⟨_, rfl⟩
              obtain ⟨xt, hxt⟩ : ∃ z, x.2 = z := ⟨_, rfl⟩
              rw [hxn] at c0 p0
              rw [hxt] at c1 p1
              have HP0 := Lib.hid (And.intro p0 p1)
              have HXE := Lib.hid (And.intro hxn hxt)
              clear hx hxn hxt p0 p1 hob
              by_cases hkp : e < xt
              · have HKP := Lib.hid (keep_yes2 (xs := xs) HX.out (by rw [HXE.out.2]; exact hkp))
                go_upto_region 13 with (fail)
                go_quiet (fail)
                obtain ⟨w5, hw5⟩ : ∃ W, W = wr.drewN nq := ⟨_, rfl⟩
                rw [← hw5]
                have hbd : Below wr.heap.size wr w5 := by rw [hw5]; exact below_drewN (Below.refl _ _) _
                have HBD5 := Lib.hid (show Below Nb w2 w5 by rw [hw5]; exact below_drewN HBW.out _)
                have HZ5 := Lib.hid (show Nb + 1 ≤ w5.heap.size from Nat.le_trans HZ.out hbd.size)
                have HO5 := Lib.hid (own_below HO.out hbd)
                have HBN5 := Lib.hid (HBN.out.below hbd)
                have HNE := Lib.hid (show some Nb ≠ (Value.slice va ln vc).ownBlock from fun h => by have := (HO.out.lt _ h.symm).1; omega)
                have HD5 := Lib.hid (fun W (b : Below (Nb + 1) w5 W) => (show W.cell? ⟨Nb, 4, none⟩ = some (.slice va ln vc) from (HBN5.out.kp b).cell 4))
                have HM5 := Lib.hid (fun W (b : Below (Nb + 1) w5 W) => ((HBX.out _ (HBD5.out.trans (b.mono (Nat.le_succ Nb)))).cell 4))
                have HP5 := Lib.hid (fun W (b : Below (Nb + 1) w5 W) => (⟨((HWX.out _ (HBD5.out.trans (b.mono (Nat.le_succ Nb)))).cell (cell_lt HP0.out.1)).trans HP0.out.1, ((HWX.out _ (HBD5.out.trans (b.mono (Nat.le_succ Nb)))).cell (cell_lt HP0.out.2)).trans HP0.out.2⟩ : W.cell? ⟨b1, o1 + k * 2, none⟩ = some (.string xn) ∧ W.cell? ⟨b1, o1 + k * 2 + 1, none⟩ = some (.int .i64 xt)))
                have c2 := (HBX.out _ HBD5.out).cell 2
                simp at c2
                clear hw5 hbd c0 c1
                go_upto_region 14 with (fail)
                rename_i KK hKK
                refine Code.wp_mono (Q := Exit.then KK (fun _ _ _ => False)) (fun e a' w' h => by cases e <;> first | exact h | exact h.elim) ?_
                refine wp_region_last (z := 9) (S := (fun X => Below (Nb + 1) w5 X)) (by kernel_rfl) ((Below.refl _ _).drew) (fun hHeld => ?_)
                refine wpAnyL_take (i := 0) (oi := { dst := some 102, op := Op.fieldAddr 39 (Operand.tmp 9) 4, type := 0, pos := "ref.go:399", after := #[], guard := none }) (v := ?_) (by kernel_rfl) rfl (by kernel_rfl) rfl (by kernel_rfl) (by kernel_rfl) (by kernel_rfl) (fun _ _ _ h => h) (Or.inl ⟨by rfl, ?_⟩) (by assumption) ?_
                rotate_left
                · intro W hSw; go_simp; try with_reducible rfl
                try simp only [Act.put, List.setIfInBounds_toArray, List.set_cons_zero, List.set_cons_succ]
                refine wpAnyL_take (i := 1) (oi := { dst := some 103, op := Op.load 37 (Operand.tmp 102), type := 37, pos := "ref.go:399", after := #[{ on := 0, ground := Ground.data }], guard := none }) (v := ?_) (by kernel_rfl) rfl (by kernel_rfl) rfl (by kernel_rfl) (by kernel_rfl) (by kernel_rfl) (fun _ _ _ h => h) (Or.inl ⟨by rfl, ?_⟩) (by assumption) ?_
                rotate_left
                · intro W hSw; have q4 := HD5.out W hSw; go_simp; try with_reducible rfl
                try simp only [Act.put, List.setIfInBounds_toArray, List.set_cons_zero, List.set_cons_succ]
                refine wpAnyL_take (i := 2) (oi := { dst := some 104, op := Op.move (Operand.tmp 2), type := 37, pos := "ref.go:399", after := #[], guard := none }) (v := ?_) (by kernel_rfl) rfl (by kernel_rfl) rfl (by kernel_rfl) (by kernel_rfl) (by kernel_rfl) (fun _ _ _ h => h) (Or.inl ⟨by rfl, ?_⟩) (by assumption) ?_
                rotate_left
                · intro W hSw; go_simp; try with_reducible rfl
                try simp only [Act.put, List.setIfInBounds_toArray, List.set_cons_zero, List.set_cons_succ]
                refine wpAnyL_take (i := 3) (oi := { dst := some 105, op := Op.move (Operand.tmp 11), type := 3, pos := "ref.go:399", after := #[], guard := none }) (v := ?_) (by kernel_rfl) rfl (by kernel_rfl) rfl (by kernel_rfl) (by kernel_rfl) (by kernel_rfl) (fun _ _ _ h => h) (Or.inl ⟨by rfl, ?_⟩) (by assumption) ?_
                rotate_left
                · intro W hSw; go_simp; try with_reducible rfl
                try simp only [Act.put, List.setIfInBounds_toArray, List.set_cons_zero, List.set_cons_succ]
                refine wpAnyL_take (i := 4) (oi := { dst := some 106, op := Op.indexAddr 37 (Operand.tmp 104) (Operand.tmp 105), type := 0, pos := "ref.go:399", after := #[{ on := 2, ground := Ground.data }, { on := 3, ground := Ground.data }], guard := none }) (v := ?_) (by kernel_rfl) rfl (by kernel_rfl) rfl (by kernel_rfl) (by kernel_rfl) (by kernel_rfl) (fun _ _ _ h => h) (Or.inl ⟨by rfl, ?_⟩) (by assumption) ?_
                rotate_left
                · intro W hSw; go_simp; try with_reducible rfl
                try simp only [Act.put, List.setIfInBounds_toArray, List.set_cons_zero, List.set_cons_succ]
                refine wpAnyL_take (i := 5) (oi := { dst := some 107, op := Op.load 42 (Operand.tmp 106), type := 42, pos := "ref.go:399", after := #[{ on := 4, ground := Ground.data }], guard := none }) (v := ?_) (by kernel_rfl) rfl (by kernel_rfl) rfl (by kernel_rfl) (by kernel_rfl) (by kernel_rfl) (fun _ _ _ h => h) (Or.inl ⟨by rfl, ?_⟩) (by assumption) ?_
                rotate_left
                · intro W hSw; obtain ⟨q0, q1⟩ := HP5.out W hSw; go_simp; try with_reducible rfl
                try simp only [Act.put, List.setIfInBounds_toArray, List.set_cons_zero, List.set_cons_succ]
                refine wpAnyL_ready (rs := [6]) (by kernel_rfl) (by simp) ?_
                refine AllL.cons (o := { dst := some 108, op := Op.buildSlice 37 1 #[(0, Operand.tmp 107)], type := 37, pos := "ref.go:399", after := #[{ on := 5, ground := Ground.data }], guard := none }) rfl (fun K hK => ?_) AllL.nil
                go_simp
                have hb8 : Below w5.heap.size w5 (w5.drew.alloc (.cells #[.string xn, .int .i64 xt] 42)) := ((Below.refl w5.heap.size w5).drew).alloc (Nat.le_refl _) _
                have hs8 : Below (Nb + 1) w5 (w5.drew.alloc (.cells #[.string xn, .int .i64 xt] 42)) := hb8.mono HZ5.out
                refine hK.out _ _ hs8 (fun hHeldn => ?_)
                clear hK K hHeld hs8; have hHeld := hHeldn; clear hHeldn
                try simp only [Act.put, List.setIfInBounds_toArray, List.set_cons_zero, List.set_cons_succ]
                refine wpAnyL_ready (rs := [7]) (by kernel_rfl) (by simp) ?_
                refine AllL.cons (o := { dst := some 109, op := Op.call { callee := Callee.builtin Builtin.append, args := #[Operand.tmp 103, Operand.tmp 108], argTypes := #[37, 37] }, type := 37, pos := "ref.go:399", after := #[{ on := 1, ground := Ground.data }, { on := 6, ground := Ground.data }], guard := none }) rfl (fun K hK => ?_) AllL.nil
                have hown := own_below HO5.out hb8
                have hz8 := hb8.size
                refine step_append_lp rfl _ _ rfl (Nb + 1) (.slice va ln vc) ln (lcells L) rfl hown ⟨w5.heap.size, 0, none⟩ 1 [.string xn, .int .i64 xt] rfl rfl (by intro j u hj; match j, hj with | 0, hj => (simp at hj; subst hj; simp [Addr.add]) | 1, hj => (simp at hj; subst hj; simp [Addr.add]) | j + 2, hj => simp at hj) (by intro u hu; simp at hu; rcases hu with rfl | rfl <;> rfl) (by have := HL.out; omega) (Nat.le_trans HZ5.out hz8) ?_
                intro v9 w9 hown9 hgrow9
                obtain ⟨a9, c9, rfl⟩ := own_form hown9
                have b9 : Below (Nb + 1) w5 w9 := hHeld.grown hgrow9 (Nat.le_trans HZ5.out hz8) (fun j hj => (hown.lt j hj).1)
                have bn9 := (HBN5.out.below hb8).grown hgrow9 HNE.out
                have HB9 := Lib.hid b9
                have HO9 := Lib.hid hown9
                have BN9 := Lib.hid bn9
                refine hK.out _ _ b9 (fun hHeldn => ?_)
                clear hK K hHeld hown hgrow9 hown9 hb8 b9 bn9 hz8; have hHeld := hHeldn; clear hHeldn
                try simp only [Act.put, List.setIfInBounds_toArray, List.set_cons_zero, List.set_cons_succ]
                refine wpAnyL_take (i := 8) (oi := { dst := some 110, op := Op.fieldAddr 39 (Operand.tmp 9) 4, type := 0, pos := "ref.go:399", after := #[{ on := 0, ground := Ground.phase }, { on := 1, ground := Ground.phase }, { on := 2, ground := Ground.phase }, { on := 3, ground := Ground.phase }, { on := 4, ground := Ground.phase }, { on := 5, ground := Ground.phase }, { on := 6, ground := Ground.phase }, { on := 7, ground := Ground.phase }], guard := none }) (v := ?_) (by kernel_rfl) rfl (by kernel_rfl) rfl (by kernel_rfl) (by kernel_rfl) (by kernel_rfl) (fun _ _ _ h => h) (Or.inl ⟨by rfl, ?_⟩) (by assumption) ?_
                rotate_left
                · intro W hSw; go_simp; try with_reducible rfl
                try simp only [Act.put, List.setIfInBounds_toArray, List.set_cons_zero, List.set_cons_succ]
                refine wpAnyL_ready (rs := [9]) (by kernel_rfl) (by simp) ?_
                refine AllL.last (o := { dst := none, op := Op.store 37 (Operand.tmp 110) (Operand.tmp 109), type := 0, pos := "ref.go:399", after := #[{ on := 8, ground := Ground.data }, { on := 7, ground := Ground.data }, { on := 7, ground := Ground.chain }, { on := 0, ground := Ground.phase }, { on := 1, ground := Ground.phase }, { on := 2, ground := Ground.phase }, { on := 3, ground := Ground.phase }, { on := 4, ground := Ground.phase }, { on := 5, ground := Ground.phase }, { on := 6, ground := Ground.phase }, { on := 7, ground := Ground.phase }], guard := none }) rfl (fun K hK => ?_)
                have x4 := BN9.out.cell 4
                have f4 := BN9.out.frozen 4
                simp at x4
                go_simp
                refine hK.out _ _ ?_
                clear hK K x4 f4
                try simp only [Act.put, List.setIfInBounds_toArray, List.set_cons_zero, List.set_cons_succ]
                refine wpAnyL_done (by kernel_rfl) ?_ _
                skip
                refine hKK _ _ ?_
                have hg := oth_set w9 Nb 4 (.slice a9 (ln + 1) c9)
                have HBN9 := Lib.hid (BN9.out.put 4 (.slice a9 (ln + 1) c9))
                have HO10 := Lib.hid (own_oth HO9.out (Nat.lt_succ_self Nb) hg)
                have HBZ := Lib.hid ((HBD5.out.trans (HB9.out.mono (Nat.le_succ Nb))).setCell (p := ⟨Nb, 4, none⟩) (Nat.le_refl _) (.slice a9 (ln + 1) c9))
                have HZZ := Lib.hid (show Nb + 1 ≤ (w9.setCell ⟨Nb, 4, none⟩ (.slice a9 (ln + 1) c9)).heap.size by simp; exact Nat.le_trans HZ5.out HB9.out.size)
                clear hg
                generalize w9.setCell ⟨Nb, 4, none⟩ (.slice a9 (ln + 1) c9) = WN at *
                go_wp2_with fail
                go_roundw
                case rel =>
                  refine ⟨k + 1, .slice a9 (ln + 1) c9, by omega, by go_num, HBN9, Lib.hid ?_, HBZ, HZZ⟩
                  rw [HKP.out, HLE.out.1, List.length_append, List.length_singleton, HLE.out.2, lcells_append]
                  have e9 : lcells [x] = [.string xn, .int .i64 xt] := by rw [← HXE.out.1, ← HXE.out.2]; rfl
                  rw [e9]
                  exact HO10.out
                case measure => simp [intOf]; omega
              · have HKP := Lib.hid (keep_no2 (xs := xs) HX.out (by rw [HXE.out.2]; exact hkp))
                go_wp2_with fail
                go_quiet (fail)
                go_wp2_with fail
                go_roundw
                case rel =>
                  refine ⟨k + 1, .slice va ln vc, by omega, by go_num, Lib.hid (HBN.out.below (below_drewN (Below.refl _ _) _)), Lib.hid ?_, Lib.hid (below_drewN HBW.out _), HZ⟩
                  rw [HKP.out, HLE.out.1, HLE.out.2]
                  exact own_below HO.out (below_drewN (Below.refl _ _) _)
                case measure => simp [intOf]; omega
            · have HEX := Lib.hid (nx_exit (G := g + 1) (e := e) (mx := mx) (nm := nm) (xs := xs) (ys := ys) (zs := ys.take k) (by
                by_cases h1 : k < m
                · exact .inr ⟨by rw [HLE.out.1, HLE.out.2]; omega, ys.drop k, (List.take_append_drop _ _).symm⟩
                · exact .inl (List.take_of_length_le (by rw [HN.out.2]; omega))))
              have HLL := Lib.hid (lps_own HO.out HLE.out.2)
              have HCP := Lib.hid (own_cap HO.out)
              have HSX := Lib.hid (show ∀ x ∈ L, x.1.size ≤ maxLen from fun x hx => by
                rw [← HLE.out.1] at hx
                rcases List.mem_append.1 (keepL_mem hx) with h | h
                · exact HSS.out.2.1 x h
                · exact HSS.out.2.2 x (List.mem_of_mem_take h))
              have HMM := Lib.hid (fun W (h : LpsR W va L) => rman_law (g + 1) e mx nm va L ln vc HSS.out.1 HSX.out HLE.out.2 HL.out W h)
              rw [HLE.out.1] at HEX
              have HEX := HEX
              obtain ⟨LW, hLW⟩ : ∃ l, keepL e (xs ++ ys) = l := ⟨_, rfl⟩
              have HLW := Lib.hid hLW
              rw [hLW] at HEX
              clear hLW
              have HVN := Lib.hid (fun h => nxV_2 (g := g) (e := e) (mx := mx) (nm := nm) (L := LW) h)
              have HVY := Lib.hid (fun h => nxV_3 (g := g) (e := e) (mx := mx) (nm := nm) (L := LW) h)
              have n0 := HBN.out.cell 0
              have n1 := HBN.out.cell 1
              have n2 := HBN.out.cell 2
              have n3 := HBN.out.cell 3
              simp at n0 n1 n2 n3
              have HO5 := Lib.hid (fun W (h : Below wr.heap.size wr W) => own_below HO.out h)
              clear HO m2
              by_cases h1 : k < m
              · have d1 : (k : Int) < (m : Int) := by omega
                have d2 : ¬ (ln : Int) ≤ 32 := by omega
                clear hlt h1
                go_wp2_with fail
                refine (HMM.out _ HLL.out).mono ?_; rintro r w5 ⟨rfl, hb5⟩
                have HBW5 := Lib.hid (HWX.out _ (HBW.out.trans (hb5.mono (Nat.le_trans (Nat.le_succ _) HZ.out))))
                have HO6 := Lib.hid (HO5.out _ hb5)
                have bxr5 := HBXR.out _ (HBW.out.trans (hb5.mono (Nat.le_trans (Nat.le_succ _) HZ.out)))
                have q0 := (HBN.out.below hb5).cell 0
                have q1 := (HBN.out.below hb5).cell 1
                have q2 := (HBN.out.below hb5).cell 2
                have q3 := (HBN.out.below hb5).cell 3
                have q4 := (HBN.out.below hb5).cell 4
                simp at q0 q1 q2 q3 q4
                clear n0 n1 n2 n3 n4 hb5
                cases hM : manB (g + 1) e mx nm L
                · have HV := Lib.hid (HVN.out (by rw [HEX.out.1]; exact hM))
                  clear q0 q1 q2 q3 q4 hM
                  have x3 := bxr5
                  have z0 := x3.cell 0
                  have f0 := x3.frozen 0
                  have z1 := x3.cell 1
                  have f1 := x3.frozen 1
                  have z2 := x3.cell 2
                  have f2 := x3.frozen 2
                  have z3 := x3.cell 3
                  have f3 := x3.frozen 3
                  have z4 := x3.cell 4
                  have f4 := x3.frozen 4
                  simp only [List.getElem?_toArray, List.getElem?_cons_zero, List.getElem?_cons_succ] at z0 z1 z2 z3 z4
                  have H95 := Lib.hid (show w5.grownBy (((((w5.setCell ⟨w.heap.size + 1, 0, none⟩ (.int .i64 0)).setCell ⟨w.heap.size + 1, 1, none⟩ (.string { data := #[] })).setCell ⟨w.heap.size + 1, 2, none⟩ (.int .i64 0)).setCell ⟨w.heap.size + 1, 3, none⟩ (.int .i64 0)).setCell ⟨w.heap.size + 1, 4, none⟩ (.slice none 0 0)) (some (w.heap.size + 1)) from oth_trans (oth_set _ _ _ _) (oth_trans (oth_set _ _ _ _) (oth_trans (oth_set _ _ _ _) (oth_trans (oth_set _ _ _ _) (oth_set _ _ _ _)))))
                  have X9 := Lib.hid (((((x3.put 0 (.int .i64 0)).put 1 (.string { data := #[] })).put 2 (.int .i64 0)).put 3 (.int .i64 0)).put 4 (.slice none 0 0))
                  have HB9 := Lib.hid (((((HBW5.out.setCell (p := ⟨w.heap.size + 1, 0, none⟩) (by simp) (.int .i64 0)).setCell (p := ⟨w.heap.size + 1, 1, none⟩) (by simp) (.string { data := #[] })).setCell (p := ⟨w.heap.size + 1, 2, none⟩) (by simp) (.int .i64 0)).setCell (p := ⟨w.heap.size + 1, 3, none⟩) (by simp) (.int .i64 0)).setCell (p := ⟨w.heap.size + 1, 4, none⟩) (by simp) (.slice none 0 0))
                  clear x3
                  go_wp2_with fail
                  clear z0 z1 z2 z3 z4 f0 f1 f2 f3 f4
                  generalize ((((w5.setCell ⟨w.heap.size + 1, 0, none⟩ (.int .i64 0)).setCell ⟨w.heap.size + 1, 1, none⟩ (.string { data := #[] })).setCell ⟨w.heap.size + 1, 2, none⟩ (.int .i64 0)).setCell ⟨w.heap.size + 1, 3, none⟩ (.int .i64 0)).setCell ⟨w.heap.size + 1, 4, none⟩ (.slice none 0 0) = W9 at *
                  refine bodyPost_ret (v := .tuple #[.agg #[.int .i64 0, .string { data := #[] }, .int .i64 0, .int .i64 0, .slice none 0 0], .int .i64 2]) ?_ rfl (NxR_no (by rw [HOK.out, HLW.out]; exact HV.out) HB9.out)
                  have x0' := X9.out.cell 0
                  have x1' := X9.out.cell 1
                  have x2' := X9.out.cell 2
                  have x3' := X9.out.cell 3
                  have x4' := X9.out.cell 4
                  simp at x0' x1' x2' x3' x4'
                  simp [results, Tryz.results16, go_sem, x0', x1', x2', x3', x4']
                · have HV := Lib.hid (HVY.out (by rw [HEX.out.1]; exact hM))
                  have HWL := Lib.hid (HEX.out.2 hM)
                  clear hM
                  have x3 := bxr5
                  have z0 := x3.cell 0
                  have f0 := x3.frozen 0
                  have z1 := x3.cell 1
                  have f1 := x3.frozen 1
                  have z2 := x3.cell 2
                  have f2 := x3.frozen 2
                  have z3 := x3.cell 3
                  have f3 := x3.frozen 3
                  have z4 := x3.cell 4
                  have f4 := x3.frozen 4
                  simp only [List.getElem?_toArray, List.getElem?_cons_zero, List.getElem?_cons_succ] at z0 z1 z2 z3 z4
                  have H95 := Lib.hid (show w5.grownBy (((((w5.setCell ⟨w.heap.size + 1, 0, none⟩ (.int .i64 (g + 1))).setCell ⟨w.heap.size + 1, 1, none⟩ (.string nm)).setCell ⟨w.heap.size + 1, 2, none⟩ (.int .i64 e)).setCell ⟨w.heap.size + 1, 3, none⟩ (.int .i64 mx)).setCell ⟨w.heap.size + 1, 4, none⟩ (.slice va ln vc)) (some (w.heap.size + 1)) from oth_trans (oth_set _ _ _ _) (oth_trans (oth_set _ _ _ _) (oth_trans (oth_set _ _ _ _) (oth_trans (oth_set _ _ _ _) (oth_set _ _ _ _)))))
                  have X9 := Lib.hid (((((x3.put 0 (.int .i64 (g + 1))).put 1 (.string nm)).put 2 (.int .i64 e)).put 3 (.int .i64 mx)).put 4 (.slice va ln vc))
                  have HB9 := Lib.hid (((((HBW5.out.setCell (p := ⟨w.heap.size + 1, 0, none⟩) (by simp) (.int .i64 (g + 1))).setCell (p := ⟨w.heap.size + 1, 1, none⟩) (by simp) (.string nm)).setCell (p := ⟨w.heap.size + 1, 2, none⟩) (by simp) (.int .i64 e)).setCell (p := ⟨w.heap.size + 1, 3, none⟩) (by simp) (.int .i64 mx)).setCell (p := ⟨w.heap.size + 1, 4, none⟩) (by simp) (.slice va ln vc))
                  clear x3
                  go_wp2_with fail
                  clear z0 z1 z2 z3 z4 f0 f1 f2 f3 f4
                  generalize ((((w5.setCell ⟨w.heap.size + 1, 0, none⟩ (.int .i64 (g + 1))).setCell ⟨w.heap.size + 1, 1, none⟩ (.string nm)).setCell ⟨w.heap.size + 1, 2, none⟩ (.int .i64 e)).setCell ⟨w.heap.size + 1, 3, none⟩ (.int .i64 mx)).setCell ⟨w.heap.size + 1, 4, none⟩ (.slice va ln vc) = W9 at *
                  refine bodyPost_ret (v := .tuple #[.agg #[.int .i64 (g + 1), .string nm, .int .i64 e, .int .i64 mx, .slice va ln vc], .int .i64 0]) ?_ rfl (by rw [HOK.out, HLW.out, HV.out, ← HWL.out]; exact ⟨⟨va, vc, by rw [← HLE.out.2], lps_own (own_oth HO6.out (by omega) H95.out) HLE.out.2, by rw [← HLE.out.2] at HCP; exact HCP.out⟩, HB9.out⟩)
                  have x0' := X9.out.cell 0
                  have x1' := X9.out.cell 1
                  have x2' := X9.out.cell 2
                  have x3' := X9.out.cell 3
                  have x4' := X9.out.cell 4
                  simp at x0' x1' x2' x3' x4'
                  simp [results, Tryz.results16, go_sem, x0', x1', x2', x3', x4']
              · have d1 : ¬ (k : Int) < (m : Int) := by omega
                clear hlt h1
                go_wp2_with fail
                refine (HMM.out _ HLL.out).mono ?_; rintro r w5 ⟨rfl, hb5⟩
                have HBW5 := Lib.hid (HWX.out _ (HBW.out.trans (hb5.mono (Nat.le_trans (Nat.le_succ _) HZ.out))))
                have HO6 := Lib.hid (HO5.out _ hb5)
                have bxr5 := HBXR.out _ (HBW.out.trans (hb5.mono (Nat.le_trans (Nat.le_succ _) HZ.out)))
                have q0 := (HBN.out.below hb5).cell 0
                have q1 := (HBN.out.below hb5).cell 1
                have q2 := (HBN.out.below hb5).cell 2
                have q3 := (HBN.out.below hb5).cell 3
                have q4 := (HBN.out.below hb5).cell 4
                simp at q0 q1 q2 q3 q4
                clear n0 n1 n2 n3 n4 hb5
                cases hM : manB (g + 1) e mx nm L
                · have HV := Lib.hid (HVN.out (by rw [HEX.out.1]; exact hM))
                  clear q0 q1 q2 q3 q4 hM
                  have x3 := bxr5
                  have z0 := x3.cell 0
                  have f0 := x3.frozen 0
                  have z1 := x3.cell 1
                  have f1 := x3.frozen 1
                  have z2 := x3.cell 2
                  have f2 := x3.frozen 2
                  have z3 := x3.cell 3
                  have f3 := x3.frozen 3
                  have z4 := x3.cell 4
                  have f4 := x3.frozen 4
                  simp only [List.getElem?_toArray, List.getElem?_cons_zero, List.getElem?_cons_succ] at z0 z1 z2 z3 z4
                  have H95 := Lib.hid (show w5.grownBy (((((w5.setCell ⟨w.heap.size + 1, 0, none⟩ (.int .i64 0)).setCell ⟨w.heap.size + 1, 1, none⟩ (.string { data := #[] })).setCell ⟨w.heap.size + 1, 2, none⟩ (.int .i64 0)).setCell ⟨w.heap.size + 1, 3, none⟩ (.int .i64 0)).setCell ⟨w.heap.size + 1, 4, none⟩ (.slice none 0 0)) (some (w.heap.size + 1)) from oth_trans (oth_set _ _ _ _) (oth_trans (oth_set _ _ _ _) (oth_trans (oth_set _ _ _ _) (oth_trans (oth_set _ _ _ _) (oth_set _ _ _ _)))))
                  have X9 := Lib.hid (((((x3.put 0 (.int .i64 0)).put 1 (.string { data := #[] })).put 2 (.int .i64 0)).put 3 (.int .i64 0)).put 4 (.slice none 0 0))
                  have HB9 := Lib.hid (((((HBW5.out.setCell (p := ⟨w.heap.size + 1, 0, none⟩) (by simp) (.int .i64 0)).setCell (p := ⟨w.heap.size + 1, 1, none⟩) (by simp) (.string { data := #[] })).setCell (p := ⟨w.heap.size + 1, 2, none⟩) (by simp) (.int .i64 0)).setCell (p := ⟨w.heap.size + 1, 3, none⟩) (by simp) (.int .i64 0)).setCell (p := ⟨w.heap.size + 1, 4, none⟩) (by simp) (.slice none 0 0))
                  clear x3
                  go_wp2_with fail
                  clear z0 z1 z2 z3 z4 f0 f1 f2 f3 f4
                  generalize ((((w5.setCell ⟨w.heap.size + 1, 0, none⟩ (.int .i64 0)).setCell ⟨w.heap.size + 1, 1, none⟩ (.string { data := #[] })).setCell ⟨w.heap.size + 1, 2, none⟩ (.int .i64 0)).setCell ⟨w.heap.size + 1, 3, none⟩ (.int .i64 0)).setCell ⟨w.heap.size + 1, 4, none⟩ (.slice none 0 0) = W9 at *
                  refine bodyPost_ret (v := .tuple #[.agg #[.int .i64 0, .string { data := #[] }, .int .i64 0, .int .i64 0, .slice none 0 0], .int .i64 2]) ?_ rfl (NxR_no (by rw [HOK.out, HLW.out]; exact HV.out) HB9.out)
                  have x0' := X9.out.cell 0
                  have x1' := X9.out.cell 1
                  have x2' := X9.out.cell 2
                  have x3' := X9.out.cell 3
                  have x4' := X9.out.cell 4
                  simp at x0' x1' x2' x3' x4'
                  simp [results, Tryz.results16, go_sem, x0', x1', x2', x3', x4']
                · have HV := Lib.hid (HVY.out (by rw [HEX.out.1]; exact hM))
                  have HWL := Lib.hid (HEX.out.2 hM)
                  clear hM
                  have x3 := bxr5
                  have z0 := x3.cell 0
                  have f0 := x3.frozen 0
                  have z1 := x3.cell 1
                  have f1 := x3.frozen 1
                  have z2 := x3.cell 2
                  have f2 := x3.frozen 2
                  have z3 := x3.cell 3
                  have f3 := x3.frozen 3
                  have z4 := x3.cell 4
                  have f4 := x3.frozen 4
                  simp only [List.getElem?_toArray, List.getElem?_cons_zero, List.getElem?_cons_succ] at z0 z1 z2 z3 z4
                  have H95 := Lib.hid (show w5.grownBy (((((w5.setCell ⟨w.heap.size + 1, 0, none⟩ (.int .i64 (g + 1))).setCell ⟨w.heap.size + 1, 1, none⟩ (.string nm)).setCell ⟨w.heap.size + 1, 2, none⟩ (.int .i64 e)).setCell ⟨w.heap.size + 1, 3, none⟩ (.int .i64 mx)).setCell ⟨w.heap.size + 1, 4, none⟩ (.slice va ln vc)) (some (w.heap.size + 1)) from oth_trans (oth_set _ _ _ _) (oth_trans (oth_set _ _ _ _) (oth_trans (oth_set _ _ _ _) (oth_trans (oth_set _ _ _ _) (oth_set _ _ _ _)))))
                  have X9 := Lib.hid (((((x3.put 0 (.int .i64 (g + 1))).put 1 (.string nm)).put 2 (.int .i64 e)).put 3 (.int .i64 mx)).put 4 (.slice va ln vc))
                  have HB9 := Lib.hid (((((HBW5.out.setCell (p := ⟨w.heap.size + 1, 0, none⟩) (by simp) (.int .i64 (g + 1))).setCell (p := ⟨w.heap.size + 1, 1, none⟩) (by simp) (.string nm)).setCell (p := ⟨w.heap.size + 1, 2, none⟩) (by simp) (.int .i64 e)).setCell (p := ⟨w.heap.size + 1, 3, none⟩) (by simp) (.int .i64 mx)).setCell (p := ⟨w.heap.size + 1, 4, none⟩) (by simp) (.slice va ln vc))
                  clear x3
                  go_wp2_with fail
                  clear z0 z1 z2 z3 z4 f0 f1 f2 f3 f4
                  generalize ((((w5.setCell ⟨w.heap.size + 1, 0, none⟩ (.int .i64 (g + 1))).setCell ⟨w.heap.size + 1, 1, none⟩ (.string nm)).setCell ⟨w.heap.size + 1, 2, none⟩ (.int .i64 e)).setCell ⟨w.heap.size + 1, 3, none⟩ (.int .i64 mx)).setCell ⟨w.heap.size + 1, 4, none⟩ (.slice va ln vc) = W9 at *
                  refine bodyPost_ret (v := .tuple #[.agg #[.int .i64 (g + 1), .string nm, .int .i64 e, .int .i64 mx, .slice va ln vc], .int .i64 0]) ?_ rfl (by rw [HOK.out, HLW.out, HV.out, ← HWL.out]; exact ⟨⟨va, vc, by rw [← HLE.out.2], lps_own (own_oth HO6.out (by omega) H95.out) HLE.out.2, by rw [← HLE.out.2] at HCP; exact HCP.out⟩, HB9.out⟩)
                  have x0' := X9.out.cell 0
                  have x1' := X9.out.cell 1
                  have x2' := X9.out.cell 2
                  have x3' := X9.out.cell 3
                  have x4' := X9.out.cell 4
                  simp at x0' x1' x2' x3' x4'
                  simp [results, Tryz.results16, go_sem, x0', x1', x2', x3', x4']
  · obtain ⟨hg0, hg1⟩ := HG1.out hM
    have hg2 := man_g1 hM
    have HOK := Lib.hid (show (manB g e f nm xs || zerB g e f nm n) = true by rw [hM, Bool.true_or])
    rw [hM] at HM
    have hgz : (g == 0) = false := by simp; omega
    clear hM
    go_wp2_with fail
    refine (HM.out _ HW1.out).mono ?_; rintro r w2 ⟨rfl, hb2⟩
    have HB2 := Lib.hid hb2
    clear hb2
    clear hgz
    have z0 := (bx.below HB2.out).cell 0
    have z1 := (bx.below HB2.out).cell 1
    have z2 := (bx.below HB2.out).cell 2
    have z3 := (bx.below HB2.out).cell 3
    have z4 := (bx.below HB2.out).cell 4
    simp at z0 z1 z2 z3 z4
    clear y0 y1 y2 y3 y4
    go_upto_region 5 with (fail)
    rw [HMX.out]
    obtain ⟨W3, hW3⟩ : ∃ W3, w2.alloc (.cells #[.int .i64 (g + 1), .string nm, .int .i64 e, .int .i64 mx, .slice none 0 0] 39) = W3 := ⟨_, rfl⟩
    obtain ⟨Nb, hNb⟩ : ∃ b, w2.heap.size = b := ⟨_, rfl⟩
    have HB3 := Lib.hid (show Below Nb w2 W3 by rw [← hW3, ← hNb]; exact bl1 _ _)
    have BN3 := Lib.hid (show BoxC W3 Nb #[.int .i64 (g + 1), .string nm, .int .i64 e, .int .i64 mx, .slice none 0 0] 39 by rw [← hW3, ← hNb]; exact BoxC.new _ _ _)
    have HZ3 := Lib.hid (show Nb + 1 ≤ W3.heap.size by rw [← hW3, ← hNb]; simp)
    try rw [hW3]
    rw [hNb]
    have hNw : w.heap.size + 2 ≤ Nb := by have := HB2.out.size; omega
    have HBX := Lib.hid (fun X (b : Below Nb w2 X) => ((bx.below HB2.out).below (by rw [hNb]; exact b)))
    have HBXR := Lib.hid (fun X (b : Below Nb w2 X) => ((bxr.below HB2.out).below (by rw [hNb]; exact b)))
    have HWX := Lib.hid (fun X (b : Below Nb w2 X) => (step_below HW1.out (step_below HB2.out (by rw [hNb]; exact b)) : Below w.heap.size w X))
    clear hW3 hNb z0 z1 z2 z3 z4
    go_wp2_with fail
    go_loopw [10] (fun i wr => ∃ (k : Nat) (v : Value), k ≤ n ∧ i = .int .i64 (k : Int) ∧ Hid (BoxC wr Nb #[.int .i64 (g + 1), .string nm, .int .i64 e, .int .i64 mx, v] 39) ∧ Hid (wr.ownsRow (Nb + 1) 42 2 v (keepL e (xs.take k)).length (lcells (keepL e (xs.take k)))) ∧ Hid (Below Nb w2 wr) ∧ Hid (Nb + 1 ≤ wr.heap.size)) (fun i _ => n - (intOf i).toNat)
    case atStart => exact ⟨0, _, Nat.zero_le _, rfl, BN3, Lib.hid (World.ownsRow_nil _ _ _ _), HB3, HZ3⟩
    case round =>
      obtain ⟨k, v, hk, rfl, HBN, HO, HBW, HZ⟩ := hrel
      have m2 := (HBX.out _ HBW.out).cell 2
      have m4 := (HBX.out _ HBW.out).cell 4
      simp at m2 m4
      by_cases hlt : k < n
      · have d1 : (k : Int) < (n : Int) := by omega
        obtain ⟨x, hx⟩ : ∃ x, xs[k]? = some x := ⟨_, List.getElem?_eq_getElem (by rw [HN.out.1]; exact hlt)⟩
        have HX := Lib.hid hx
        obtain ⟨b1, o1, e1, p0, p1⟩ := HR.out.1 k x hx
        subst e1
        have c0 := (((HWX.out _ HBW.out).cell (cell_lt p0)).trans p0)
        have c1 := (((HWX.out _ HBW.out).cell (cell_lt p1)).trans p1)
        have hob := cell_lt p0
        obtain ⟨xn, hxn⟩ : ∃ z, x.1 = z := ⟨_, rfl⟩
        obtain ⟨xt, hxt⟩ : ∃ z, x.2 = z := ⟨_, rfl⟩
        rw [hxn] at c0 p0
        rw [hxt] at c1 p1
        have HP0 := Lib.hid (And.intro p0 p1)
        have HXE := Lib.hid (And.intro hxn hxt)
        clear hx hxn hxt p0 p1 hob
        by_cases hkp : e < xt
        · have HKP := Lib.hid (keep_yes HX.out (by rw [HXE.out.2]; exact hkp))
          obtain ⟨va, vc, rfl⟩ := own_form HO.out
          obtain ⟨L, hL⟩ : ∃ l, keepL e (xs.take k) = l := ⟨_, rfl⟩
          obtain ⟨ln, hln⟩ : ∃ l, L.length = l := ⟨_, rfl⟩
          rw [hL, hln] at HBN HO
          have HLE := Lib.hid (And.intro hL hln)
          have HL := Lib.hid (show ln ≤ 1000000 by rw [← hln, ← hL]; exact Nat.le_trans (keepL_len _ _) (by simp only [List.length_append, List.length_take, HN.out.1, HN.out.2]; omega))
          clear hL hln
          go_upto_region 8 with (fail)
          go_quiet (fail)
          obtain ⟨w5, hw5⟩ : ∃ W, W = wr.drewN nq := ⟨_, rfl⟩
          rw [← hw5]
          have hbd : Below wr.heap.size wr w5 := by rw [hw5]; exact below_drewN (Below.refl _ _) _
          have HBD5 := Lib.hid (show Below Nb w2 w5 by rw [hw5]; exact below_drewN HBW.out _)
          have HZ5 := Lib.hid (show Nb + 1 ≤ w5.heap.size from Nat.le_trans HZ.out hbd.size)
          have HO5 := Lib.hid (own_below HO.out hbd)
          have HBN5 := Lib.hid (HBN.out.below hbd)
          have HNE := Lib.hid (show some Nb ≠ (Value.slice va ln vc).ownBlock from fun h => by have := (HO.out.lt _ h.symm).1; omega)
          have HD5 := Lib.hid (fun W (b : Below (Nb + 1) w5 W) => (show W.cell? ⟨Nb, 4, none⟩ = some (.slice va ln vc) from (HBN5.out.kp b).cell 4))
          have HM5 := Lib.hid (fun W (b : Below (Nb + 1) w5 W) => ((HBX.out _ (HBD5.out.trans (b.mono (Nat.le_succ Nb)))).cell 4))
          have HP5 := Lib.hid (fun W (b : Below (Nb + 1) w5 W) => (⟨((HWX.out _ (HBD5.out.trans (b.mono (Nat.le_succ Nb)))).cell (cell_lt HP0.out.1)).trans HP0.out.1, ((HWX.out _ (HBD5.out.trans (b.mono (Nat.le_succ Nb)))).cell (cell_lt HP0.out.2)).trans HP0.out.2⟩ : W.cell? ⟨b1, o1 + k * 2, none⟩ = some (.string xn) ∧ W.cell? ⟨b1, o1 + k * 2 + 1, none⟩ = some (.int .i64 xt)))
          have c2 := (HBX.out _ HBD5.out).cell 2
          simp at c2
          clear hw5 hbd c0 c1
          go_upto_region 9 with (fail)
          rename_i KK hKK
          refine Code.wp_mono (Q := Exit.then KK (fun _ _ _ => False)) (fun e a' w' h => by cases e <;> first | exact h | exact h.elim) ?_
          refine wp_region_last (z := 10) (S := (fun X => Below (Nb + 1) w5 X)) (by kernel_rfl) ((Below.refl _ _).drew) (fun hHeld => ?_)
          refine wpAnyL_take (i := 0) (oi := { dst := some 72, op := Op.fieldAddr 39 (Operand.tmp 9) 4, type := 0, pos := "ref.go:394", after := #[], guard := none }) (v := ?_) (by kernel_rfl) rfl (by kernel_rfl) rfl (by kernel_rfl) (by kernel_rfl) (by kernel_rfl) (fun _ _ _ h => h) (Or.inl ⟨by rfl, ?_⟩) (by assumption) ?_
          rotate_left
          · intro W hSw; go_simp; try with_reducible rfl
          try simp only [Act.put, List.setIfInBounds_toArray, List.set_cons_zero, List.set_cons_succ]
          refine wpAnyL_take (i := 1) (oi := { dst := some 73, op := Op.load 37 (Operand.tmp 72), type := 37, pos := "ref.go:394", after := #[{ on := 0, ground := Ground.data }], guard := none }) (v := ?_) (by kernel_rfl) rfl (by kernel_rfl) rfl (by kernel_rfl) (by kernel_rfl) (by kernel_rfl) (fun _ _ _ h => h) (Or.inl ⟨by rfl, ?_⟩) (by assumption) ?_
          rotate_left
          · intro W hSw; have q4 := HD5.out W hSw; go_simp; try with_reducible rfl
          try simp only [Act.put, List.setIfInBounds_toArray, List.set_cons_zero, List.set_cons_succ]
          refine wpAnyL_take (i := 2) (oi := { dst := some 74, op := Op.fieldAddr 39 (Operand.tmp 3) 4, type := 0, pos := "ref.go:394", after := #[], guard := none }) (v := ?_) (by kernel_rfl) rfl (by kernel_rfl) rfl (by kernel_rfl) (by kernel_rfl) (by kernel_rfl) (fun _ _ _ h => h) (Or.inl ⟨by rfl, ?_⟩) (by assumption) ?_
          rotate_left
          · intro W hSw; go_simp; try with_reducible rfl
          try simp only [Act.put, List.setIfInBounds_toArray, List.set_cons_zero, List.set_cons_succ]
          refine wpAnyL_take (i := 3) (oi := { dst := some 75, op := Op.load 37 (Operand.tmp 74), type := 37, pos := "ref.go:394", after := #[{ on := 2, ground := Ground.data }], guard := none }) (v := ?_) (by kernel_rfl) rfl (by kernel_rfl) rfl (by kernel_rfl) (by kernel_rfl) (by kernel_rfl) (fun _ _ _ h => h) (Or.inl ⟨by rfl, ?_⟩) (by assumption) ?_
          rotate_left
          · intro W hSw; have q4 := HM5.out W hSw; go_simp; try with_reducible rfl
          try simp only [Act.put, List.setIfInBounds_toArray, List.set_cons_zero, List.set_cons_succ]
          refine wpAnyL_take (i := 4) (oi := { dst := some 76, op := Op.move (Operand.tmp 10), type := 3, pos := "ref.go:394", after := #[], guard := none }) (v := ?_) (by kernel_rfl) rfl (by kernel_rfl) rfl (by kernel_rfl) (by kernel_rfl) (by kernel_rfl) (fun _ _ _ h => h) (Or.inl ⟨by rfl, ?_⟩) (by assumption) ?_
          rotate_left
          · intro W hSw; go_simp; try with_reducible rfl
          try simp only [Act.put, List.setIfInBounds_toArray, List.set_cons_zero, List.set_cons_succ]
          refine wpAnyL_take (i := 5) (oi := { dst := some 77, op := Op.indexAddr 37 (Operand.tmp 75) (Operand.tmp 76), type := 0, pos := "ref.go:394", after := #[{ on := 3, ground := Ground.data }, { on := 4, ground := Ground.data }], guard := none }) (v := ?_) (by kernel_rfl) rfl (by kernel_rfl) rfl (by kernel_rfl) (by kernel_rfl) (by kernel_rfl) (fun _ _ _ h => h) (Or.inl ⟨by rfl, ?_⟩) (by assumption) ?_
          rotate_left
          · intro W hSw; go_simp; try with_reducible rfl
          try simp only [Act.put, List.setIfInBounds_toArray, List.set_cons_zero, List.set_cons_succ]
          refine wpAnyL_take (i := 6) (oi := { dst := some 78, op := Op.load 42 (Operand.tmp 77), type := 42, pos := "ref.go:394", after := #[{ on := 5, ground := Ground.data }], guard := none }) (v := ?_) (by kernel_rfl) rfl (by kernel_rfl) rfl (by kernel_rfl) (by kernel_rfl) (by kernel_rfl) (fun _ _ _ h => h) (Or.inl ⟨by rfl, ?_⟩) (by assumption) ?_
          rotate_left
          · intro W hSw; obtain ⟨q0, q1⟩ := HP5.out W hSw; go_simp; try with_reducible rfl
          try simp only [Act.put, List.setIfInBounds_toArray, List.set_cons_zero, List.set_cons_succ]
          refine wpAnyL_ready (rs := [7]) (by kernel_rfl) (by simp) ?_
          refine AllL.cons (o := { dst := some 79, op := Op.buildSlice 37 1 #[(0, Operand.tmp 78)], type := 37, pos := "ref.go:394", after := #[{ on := 6, ground := Ground.data }], guard := none }) rfl (fun K hK => ?_) AllL.nil
          go_simp
          have hb8 : Below w5.heap.size w5 (w5.drew.alloc (.cells #[.string xn, .int .i64 xt] 42)) := ((Below.refl w5.heap.size w5).drew).alloc (Nat.le_refl _) _
          have hs8 : Below (Nb + 1) w5 (w5.drew.alloc (.cells #[.string xn, .int .i64 xt] 42)) := hb8.mono HZ5.out
          refine hK.out _ _ hs8 (fun hHeldn => ?_)
          clear hK K hHeld hs8; have hHeld := hHeldn; clear hHeldn
          try simp only [Act.put, List.setIfInBounds_toArray, List.set_cons_zero, List.set_cons_succ]
          refine wpAnyL_ready (rs := [8]) (by kernel_rfl) (by simp) ?_
          refine AllL.cons (o := { dst := some 80, op := Op.call { callee := Callee.builtin Builtin.append, args := #[Operand.tmp 73, Operand.tmp 79], argTypes := #[37, 37] }, type := 37, pos := "ref.go:394", after := #[{ on := 1, ground := Ground.data }, { on := 7, ground := Ground.data }], guard := none }) rfl (fun K hK => ?_) AllL.nil
          have hown := own_below HO5.out hb8
          have hz8 := hb8.size
          refine step_append_lp rfl _ _ rfl (Nb + 1) (.slice va ln vc) ln (lcells L) rfl hown ⟨w5.heap.size, 0, none⟩ 1 [.string xn, .int .i64 xt] rfl rfl (by intro j u hj; match j, hj with | 0, hj => (simp at hj; subst hj; simp [Addr.add]) | 1, hj => (simp at hj; subst hj; simp [Addr.add]) | j + 2, hj => simp at hj) (by intro u hu; simp at hu; rcases hu with rfl | rfl <;> rfl) (by have := HL.out; omega) (Nat.le_trans HZ5.out hz8) ?_
          intro v9 w9 hown9 hgrow9
          obtain ⟨a9, c9, rfl⟩ := own_form hown9
          have b9 : Below (Nb + 1) w5 w9 := hHeld.grown hgrow9 (Nat.le_trans HZ5.out hz8) (fun j hj => (hown.lt j hj).1)
          have bn9 := (HBN5.out.below hb8).grown hgrow9 HNE.out
          have HB9 := Lib.hid b9
          have HO9 := Lib.hid hown9
          have BN9 := Lib.hid bn9
          refine hK.out _ _ b9 (fun hHeldn => ?_)
          clear hK K hHeld hown hgrow9 hown9 hb8 b9 bn9 hz8; have hHeld := hHeldn; clear hHeldn
          try simp only [Act.put, List.setIfInBounds_toArray, List.set_cons_zero, List.set_cons_succ]
          refine wpAnyL_take (i := 9) (oi := { dst := some 81, op := Op.fieldAddr 39 (Operand.tmp 9) 4, type := 0, pos := "ref.go:394", after := #[{ on := 0, ground := Ground.phase }, { on := 1, ground := Ground.phase }, { on := 2, ground := Ground.phase }, { on := 3, ground := Ground.phase }, { on := 4, ground := Ground.phase }, { on := 5, ground := Ground.phase }, { on := 6, ground := Ground.phase }, { on := 7, ground := Ground.phase }, { on := 8, ground := Ground.phase }], guard := none }) (v := ?_) (by kernel_rfl) rfl (by kernel_rfl) rfl (by kernel_rfl) (by kernel_rfl) (by kernel_rfl) (fun _ _ _ h => h) (Or.inl ⟨by rfl, ?_⟩) (by assumption) ?_
          rotate_left
          · intro W hSw; go_simp; try with_reducible rfl
          try simp only [Act.put, List.setIfInBounds_toArray, List.set_cons_zero, List.set_cons_succ]
          refine wpAnyL_ready (rs := [10]) (by kernel_rfl) (by simp) ?_
          refine AllL.last (o := { dst := none, op := Op.store 37 (Operand.tmp 81) (Operand.tmp 80), type := 0, pos := "ref.go:394", after := #[{ on := 9, ground := Ground.data }, { on := 8, ground := Ground.data }, { on := 8, ground := Ground.chain }, { on := 0, ground := Ground.phase }, { on := 1, ground := Ground.phase }, { on := 2, ground := Ground.phase }, { on := 3, ground := Ground.phase }, { on := 4, ground := Ground.phase }, { on := 5, ground := Ground.phase }, { on := 6, ground := Ground.phase }, { on := 7, ground := Ground.phase }, { on := 8, ground := Ground.phase }], guard := none }) rfl (fun K hK => ?_)
          have x4 := BN9.out.cell 4
          have f4 := BN9.out.frozen 4
          simp at x4
          go_simp
          refine hK.out _ _ ?_
          clear hK K x4 f4
          try simp only [Act.put, List.setIfInBounds_toArray, List.set_cons_zero, List.set_cons_succ]
          refine wpAnyL_done (by kernel_rfl) ?_ _
          skip
          refine hKK _ _ ?_
          have hg := oth_set w9 Nb 4 (.slice a9 (ln + 1) c9)
          have HBN9 := Lib.hid (BN9.out.put 4 (.slice a9 (ln + 1) c9))
          have HO10 := Lib.hid (own_oth HO9.out (Nat.lt_succ_self Nb) hg)
          have HBZ := Lib.hid ((HBD5.out.trans (HB9.out.mono (Nat.le_succ Nb))).setCell (p := ⟨Nb, 4, none⟩) (Nat.le_refl _) (.slice a9 (ln + 1) c9))
          have HZZ := Lib.hid (show Nb + 1 ≤ (w9.setCell ⟨Nb, 4, none⟩ (.slice a9 (ln + 1) c9)).heap.size by simp; exact Nat.le_trans HZ5.out HB9.out.size)
          clear hg
          generalize w9.setCell ⟨Nb, 4, none⟩ (.slice a9 (ln + 1) c9) = WN at *
          go_wp2_with fail
          go_roundw
          case rel =>
            refine ⟨k + 1, .slice a9 (ln + 1) c9, by omega, by go_num, HBN9, Lib.hid ?_, HBZ, HZZ⟩
            rw [HKP.out, HLE.out.1, List.length_append, List.length_singleton, HLE.out.2, lcells_append]
            have e9 : lcells [x] = [.string xn, .int .i64 xt] := by rw [← HXE.out.1, ← HXE.out.2]; rfl
            rw [e9]
            exact HO10.out
          case measure => simp [intOf]; omega
        · have HKP := Lib.hid (keep_no HX.out (by rw [HXE.out.2]; exact hkp))
          go_wp2_with fail
          go_quiet (fail)
          go_wp2_with fail
          go_roundw
          case rel =>
            refine ⟨k + 1, v, by omega, by go_num, Lib.hid (HBN.out.below (below_drewN (Below.refl _ _) _)), Lib.hid ?_, Lib.hid (below_drewN HBW.out _), HZ⟩
            rw [HKP.out]
            exact own_below HO.out (below_drewN (Below.refl _ _) _)
          case measure => simp [intOf]; omega
      · have d1 : ¬ (k : Int) < (n : Int) := by omega
        have ek : xs.take k = xs := List.take_of_length_le (by rw [HN.out.1]; omega)
        rw [ek] at HO
        clear ek
        go_wp2_with fail
        clear m2 m4
        have HSTART := Lib.hid (show wr.ownsRow (Nb + 1) 42 2 v (keepL e (xs ++ ys.take 0)).length (lcells (keepL e (xs ++ ys.take 0))) by rw [List.take_zero, List.append_nil]; exact HO.out)
        clear HO
        go_loopw [11] (fun i wr => ∃ (k : Nat) (v : Value), k ≤ m ∧ i = .int .i64 (k : Int) ∧ Hid (BoxC wr Nb #[.int .i64 (g + 1), .string nm, .int .i64 e, .int .i64 mx, v] 39) ∧ Hid (wr.ownsRow (Nb + 1) 42 2 v (keepL e (xs ++ ys.take k)).length (lcells (keepL e (xs ++ ys.take k)))) ∧ Hid (Below Nb w2 wr) ∧ Hid (Nb + 1 ≤ wr.heap.size)) (fun i _ => m - (intOf i).toNat)
        case atStart => exact ⟨0, _, Nat.zero_le _, rfl, HBN, HSTART, HBW, HZ⟩
        case round =>
          clear HBN HBW HZ HSTART
          obtain ⟨k, v, hk, rfl, HBN, HO, HBW, HZ⟩ := hrel
          have m2 := (HBX.out _ HBW.out).cell 2
          simp at m2
          obtain ⟨va, vc, rfl⟩ := own_form HO.out
          obtain ⟨L, hL⟩ : ∃ l, keepL e (xs ++ ys.take k) = l := ⟨_, rfl⟩
          obtain ⟨ln, hln⟩ : ∃ l, L.length = l := ⟨_, rfl⟩
          rw [hL, hln] at HBN HO
          have HLE := Lib.hid (And.intro hL hln)
          have HL := Lib.hid (show ln ≤ 1000000 by rw [← hln, ← hL]; exact Nat.le_trans (keepL_len _ _) (by simp only [List.length_append, List.length_take, HN.out.1, HN.out.2]; omega))
          clear hL hln
          have n4 := HBN.out.cell 4
          simp at n4
          have hl6 : (ln : Int) ≤ 1000000 := by have := HL.out; omega
          by_cases hlt : k < m ∧ ln ≤ 32
          · have d1 : (k : Int) < (m : Int) := by omega
            have d2 : (ln : Int) ≤ 32 := by omega
            have hkm : k < m := hlt.1
            clear hlt
            obtain ⟨x, hx⟩ : ∃ x, ys[k]? = some x := ⟨_, List.getElem?_eq_getElem (by rw [HN.out.2]; exact hkm)⟩
            have HX := Lib.hid hx
            obtain ⟨b1, o1, e1, p0, p1⟩ := HR.out.2 k x hx
            subst e1
            have c0 := (((HWX.out _ HBW.out).cell (cell_lt p0)).trans p0)
            have c1 := (((HWX.out _ HBW.out).cell (cell_lt p1)).trans p1)
            have hob := cell_lt p0
            obtain ⟨xn, hxn⟩ : ∃ z, x.1 = z := ⟨_, rfl⟩
            obtain ⟨xt, hxt⟩ : ∃ z, x.2 = z := ⟨_, rfl⟩
            rw [hxn] at c0 p0
            rw [hxt] at c1 p1
            have HP0 := Lib.hid (And.intro p0 p1)
            have HXE := Lib.hid (And.intro hxn hxt)
            clear hx hxn hxt p0 p1 hob
            by_cases hkp : e < xt
            · have HKP := Lib.hid (keep_yes2 (xs := xs) HX.out (by rw [HXE.out.2]; exact hkp))
              go_upto_region 13 with (fail)
              go_quiet (fail)
              obtain ⟨w5, hw5⟩ : ∃ W, W = wr.drewN nq := ⟨_, rfl⟩
              rw [← hw5]
              have hbd : Below wr.heap.size wr w5 := by rw [hw5]; exact below_drewN (Below.refl _ _) _
              have HBD5 := Lib.hid (show Below Nb w2 w5 by rw [hw5]; exact below_drewN HBW.out _)
              have HZ5 := Lib.hid (show Nb + 1 ≤ w5.heap.size from Nat.le_trans HZ.out hbd.size)
              have HO5 := Lib.hid (own_below HO.out hbd)
              have HBN5 := Lib.hid (HBN.out.below hbd)
              have HNE := Lib.hid (show some Nb ≠ (Value.slice va ln vc).ownBlock from fun h => by have := (HO.out.lt _ h.symm).1; omega)
              have HD5 := Lib.hid (fun W (b : Below (Nb + 1) w5 W) => (show W.cell? ⟨Nb, 4, none⟩ = some (.slice va ln vc) from (HBN5.out.kp b).cell 4))
              have HM5 := Lib.hid (fun W (b : Below (Nb + 1) w5 W) => ((HBX.out _ (HBD5.out.trans (b.mono (Nat.le_succ Nb)))).cell 4))
              have HP5 := Lib.hid (fun W (b : Below (Nb + 1) w5 W) => (⟨((HWX.out _ (HBD5.out.trans (b.mono (Nat.le_succ Nb)))).cell (cell_lt HP0.out.1)).trans HP0.out.1, ((HWX.out _ (HBD5.out.trans (b.mono (Nat.le_succ Nb)))).cell (cell_lt HP0.out.2)).trans HP0.out.2⟩ : W.cell? ⟨b1, o1 + k * 2, none⟩ = some (.string xn) ∧ W.cell? ⟨b1, o1 + k * 2 + 1, none⟩ = some (.int .i64 xt)))
              have c2 := (HBX.out _ HBD5.out).cell 2
              simp at c2
              clear hw5 hbd c0 c1
              go_upto_region 14 with (fail)
              rename_i KK hKK
              refine Code.wp_mono (Q := Exit.then KK (fun _ _ _ => False)) (fun e a' w' h => by cases e <;> first | exact h | exact h.elim) ?_
              refine wp_region_last (z := 9) (S := (fun X => Below (Nb + 1) w5 X)) (by kernel_rfl) ((Below.refl _ _).drew) (fun hHeld => ?_)
              refine wpAnyL_take (i := 0) (oi := { dst := some 102, op := Op.fieldAddr 39 (Operand.tmp 9) 4, type := 0, pos := "ref.go:399", after := #[], guard := none }) (v := ?_) (by kernel_rfl) rfl (by kernel_rfl) rfl (by kernel_rfl) (by kernel_rfl) (by kernel_rfl) (fun _ _ _ h => h) (Or.inl ⟨by rfl, ?_⟩) (by assumption) ?_
              rotate_left
              · intro W hSw; go_simp; try with_reducible rfl
              try simp only [Act.put, List.setIfInBounds_toArray, List.set_cons_zero, List.set_cons_succ]
              refine wpAnyL_take (i := 1) (oi := { dst := some 103, op := Op.load 37 (Operand.tmp 102), type := 37, pos := "ref.go:399", after := #[{ on := 0, ground := Ground.data }], guard := none }) (v := ?_) (by kernel_rfl) rfl (by kernel_rfl) rfl (by kernel_rfl) (by kernel_rfl) (by kernel_rfl) (fun _ _ _ h => h) (Or.inl ⟨by rfl, ?_⟩) (by assumption) ?_
              rotate_left
              · intro W hSw; have q4 := HD5.out W hSw; go_simp; try with_reducible rfl
              try simp only [Act.put, List.setIfInBounds_toArray, List.set_cons_zero, List.set_cons_succ]
              refine wpAnyL_take (i := 2) (oi := { dst := some 104, op := Op.move (Operand.tmp 2), type := 37, pos := "ref.go:399", after := #[], guard := none }) (v := ?_) (by kernel_rfl) rfl (by kernel_rfl) rfl (by kernel_rfl) (by kernel_rfl) (by kernel_rfl) (fun _ _ _ h => h) (Or.inl ⟨by rfl, ?_⟩) (by assumption) ?_
              rotate_left
              · intro W hSw; go_simp; try with_reducible rfl
              try simp only [Act.put, List.setIfInBounds_toArray, List.set_cons_zero, List.set_cons_succ]
              refine wpAnyL_take (i := 3) (oi := { dst := some 105, op := Op.move (Operand.tmp 11), type := 3, pos := "ref.go:399", after := #[], guard := none }) (v := ?_) (by kernel_rfl) rfl (by kernel_rfl) rfl (by kernel_rfl) (by kernel_rfl) (by kernel_rfl) (fun _ _ _ h => h) (Or.inl ⟨by rfl, ?_⟩) (by assumption) ?_
              rotate_left
              · intro W hSw; go_simp; try with_reducible rfl
              try simp only [Act.put, List.setIfInBounds_toArray, List.set_cons_zero, List.set_cons_succ]
              refine wpAnyL_take (i := 4) (oi := { dst := some 106, op := Op.indexAddr 37 (Operand.tmp 104) (Operand.tmp 105), type := 0, pos := "ref.go:399", after := #[{ on := 2, ground := Ground.data }, { on := 3, ground := Ground.data }], guard := none }) (v := ?_) (by kernel_rfl) rfl (by kernel_rfl) rfl (by kernel_rfl) (by kernel_rfl) (by kernel_rfl) (fun _ _ _ h => h) (Or.inl ⟨by rfl, ?_⟩) (by assumption) ?_
              rotate_left
              · intro W hSw; go_simp; try with_reducible rfl
              try simp only [Act.put, List.setIfInBounds_toArray, List.set_cons_zero, List.set_cons_succ]
              refine wpAnyL_take (i := 5) (oi := { dst := some 107, op := Op.load 42 (Operand.tmp 106), type := 42, pos := "ref.go:399", after := #[{ on := 4, ground := Ground.data }], guard := none }) (v := ?_) (by kernel_rfl) rfl (by kernel_rfl) rfl (by kernel_rfl) (by kernel_rfl) (by kernel_rfl) (fun _ _ _ h => h) (Or.inl ⟨by rfl, ?_⟩) (by assumption) ?_
              rotate_left
              · intro W hSw; obtain ⟨q0, q1⟩ := HP5.out W hSw; go_simp; try with_reducible rfl
              try simp only [Act.put, List.setIfInBounds_toArray, List.set_cons_zero, List.set_cons_succ]
              refine wpAnyL_ready (rs := [6]) (by kernel_rfl) (by simp) ?_
              refine AllL.cons (o := { dst := some 108, op := Op.buildSlice 37 1 #[(0, Operand.tmp 107)], type := 37, pos := "ref.go:399", after := #[{ on := 5, ground := Ground.data }], guard := none }) rfl (fun K hK => ?_) AllL.nil
              go_simp
              have hb8 : Below w5.heap.size w5 (w5.drew.alloc (.cells #[.string xn, .int .i64 xt] 42)) := ((Below.refl w5.heap.size w5).drew).alloc (Nat.le_refl _) _
              have hs8 : Below (Nb + 1) w5 (w5.drew.alloc (.cells #[.string xn, .int .i64 xt] 42)) := hb8.mono HZ5.out
              refine hK.out _ _ hs8 (fun hHeldn => ?_)
              clear hK K hHeld hs8; have hHeld := hHeldn; clear hHeldn
              try simp only [Act.put, List.setIfInBounds_toArray, List.set_cons_zero, List.set_cons_succ]
              refine wpAnyL_ready (rs := [7]) (by kernel_rfl) (by simp) ?_
              refine AllL.cons (o := { dst := some 109, op := Op.call { callee := Callee.builtin Builtin.append, args := #[Operand.tmp 103, Operand.tmp 108], argTypes := #[37, 37] }, type := 37, pos := "ref.go:399", after := #[{ on := 1, ground := Ground.data }, { on := 6, ground := Ground.data }], guard := none }) rfl (fun K hK => ?_) AllL.nil
              have hown := own_below HO5.out hb8
              have hz8 := hb8.size
              refine step_append_lp rfl _ _ rfl (Nb + 1) (.slice va ln vc) ln (lcells L) rfl hown ⟨w5.heap.size, 0, none⟩ 1 [.string xn, .int .i64 xt] rfl rfl (by intro j u hj; match j, hj with | 0, hj => (simp at hj; subst hj; simp [Addr.add]) | 1, hj => (simp at hj; subst hj; simp [Addr.add]) | j + 2, hj => simp at hj) (by intro u hu; simp at hu; rcases hu with rfl | rfl <;> rfl) (by have := HL.out; omega) (Nat.le_trans HZ5.out hz8) ?_
              intro v9 w9 hown9 hgrow9
              obtain ⟨a9, c9, rfl⟩ := own_form hown9
              have b9 : Below (Nb + 1) w5 w9 := hHeld.grown hgrow9 (Nat.le_trans HZ5.out hz8) (fun j hj => (hown.lt j hj).1)
              have bn9 := (HBN5.out.below hb8).grown hgrow9 HNE.out
              have HB9 := Lib.hid b9
              have HO9 := Lib.hid hown9
              have BN9 := Lib.hid bn9
              refine hK.out _ _ b9 (fun hHeldn => ?_)
              clear hK K hHeld hown hgrow9 hown9 hb8 b9 bn9 hz8; have hHeld := hHeldn; clear hHeldn
              try simp only [Act.put, List.setIfInBounds_toArray, List.set_cons_zero, List.set_cons_succ]
              refine wpAnyL_take (i := 8) (oi := { dst := some 110, op := Op.fieldAddr 39 (Operand.tmp 9) 4, type := 0, pos := "ref.go:399", after := #[{ on := 0, ground := Ground.phase }, { on := 1, ground := Ground.phase }, { on := 2, ground := Ground.phase }, { on := 3, ground := Ground.phase }, { on := 4, ground := Ground.phase }, { on := 5, ground := Ground.phase }, { on := 6, ground := Ground.phase }, { on := 7, ground := Ground.phase }], guard := none }) (v := ?_) (by kernel_rfl) rfl (by kernel_rfl) rfl (by kernel_rfl) (by kernel_rfl) (by kernel_rfl) (fun _ _ _ h => h) (Or.inl ⟨by rfl, ?_⟩) (by assumption) ?_
              rotate_left
              · intro W hSw; go_simp; try with_reducible rfl
              try simp only [Act.put, List.setIfInBounds_toArray, List.set_cons_zero, List.set_cons_succ]
              refine wpAnyL_ready (rs := [9]) (by kernel_rfl) (by simp) ?_
              refine AllL.last (o := { dst := none, op := Op.store 37 (Operand.tmp 110) (Operand.tmp 109), type := 0, pos := "ref.go:399", after := #[{ on := 8, ground := Ground.data }, { on := 7, ground := Ground.data }, { on := 7, ground := Ground.chain }, { on := 0, ground := Ground.phase }, { on := 1, ground := Ground.phase }, { on := 2, ground := Ground.phase }, { on := 3, ground := Ground.phase }, { on := 4, ground := Ground.phase }, { on := 5, ground := Ground.phase }, { on := 6, ground := Ground.phase }, { on := 7, ground := Ground.phase }], guard := none }) rfl (fun K hK => ?_)
              have x4 := BN9.out.cell 4
              have f4 := BN9.out.frozen 4
              simp at x4
              go_simp
              refine hK.out _ _ ?_
              clear hK K x4 f4
              try simp only [Act.put, List.setIfInBounds_toArray, List.set_cons_zero, List.set_cons_succ]
              refine wpAnyL_done (by kernel_rfl) ?_ _
              skip
              refine hKK _ _ ?_
              have hg := oth_set w9 Nb 4 (.slice a9 (ln + 1) c9)
              have HBN9 := Lib.hid (BN9.out.put 4 (.slice a9 (ln + 1) c9))
              have HO10 := Lib.hid (own_oth HO9.out (Nat.lt_succ_self Nb) hg)
              have HBZ := Lib.hid ((HBD5.out.trans (HB9.out.mono (Nat.le_succ Nb))).setCell (p := ⟨Nb, 4, none⟩) (Nat.le_refl _) (.slice a9 (ln + 1) c9))
              have HZZ := Lib.hid (show Nb + 1 ≤ (w9.setCell ⟨Nb, 4, none⟩ (.slice a9 (ln + 1) c9)).heap.size by simp; exact Nat.le_trans HZ5.out HB9.out.size)
              clear hg
              generalize w9.setCell ⟨Nb, 4, none⟩ (.slice a9 (ln + 1) c9) = WN at *
              go_wp2_with fail
              go_roundw
              case rel =>
                refine ⟨k + 1, .slice a9 (ln + 1) c9, by omega, by go_num, HBN9, Lib.hid ?_, HBZ, HZZ⟩
                rw [HKP.out, HLE.out.1, List.length_append, List.length_singleton, HLE.out.2, lcells_append]
                have e9 : lcells [x] = [.string xn, .int .i64 xt] := by rw [← HXE.out.1, ← HXE.out.2]; rfl
                rw [e9]
                exact HO10.out
              case measure => simp [intOf]; omega
            · have HKP := Lib.hid (keep_no2 (xs := xs) HX.out (by rw [HXE.out.2]; exact hkp))
              go_wp2_with fail
              go_quiet (fail)
              go_wp2_with fail
              go_roundw
              case rel =>
                refine ⟨k + 1, .slice va ln vc, by omega, by go_num, Lib.hid (HBN.out.below (below_drewN (Below.refl _ _) _)), Lib.hid ?_, Lib.hid (below_drewN HBW.out _), HZ⟩
                rw [HKP.out, HLE.out.1, HLE.out.2]
                exact own_below HO.out (below_drewN (Below.refl _ _) _)
              case measure => simp [intOf]; omega
          · have HEX := Lib.hid (nx_exit (G := g + 1) (e := e) (mx := mx) (nm := nm) (xs := xs) (ys := ys) (zs := ys.take k) (by
              by_cases h1 : k < m
              · exact .inr ⟨by rw [HLE.out.1, HLE.out.2]; omega, ys.drop k, (List.take_append_drop _ _).symm⟩
              · exact .inl (List.take_of_length_le (by rw [HN.out.2]; omega))))
            have HLL := Lib.hid (lps_own HO.out HLE.out.2)
            have HCP := Lib.hid (own_cap HO.out)
            have HSX := Lib.hid (show ∀ x ∈ L, x.1.size ≤ maxLen from fun x hx => by
              rw [← HLE.out.1] at hx
              rcases List.mem_append.1 (keepL_mem hx) with h | h
              · exact HSS.out.2.1 x h
              · exact HSS.out.2.2 x (List.mem_of_mem_take h))
            have HMM := Lib.hid (fun W (h : LpsR W va L) => rman_law (g + 1) e mx nm va L ln vc HSS.out.1 HSX.out HLE.out.2 HL.out W h)
            rw [HLE.out.1] at HEX
            have HEX := HEX
            obtain ⟨LW, hLW⟩ : ∃ l, keepL e (xs ++ ys) = l := ⟨_, rfl⟩
            have HLW := Lib.hid hLW
            rw [hLW] at HEX
            clear hLW
            have HVN := Lib.hid (fun h => nxV_2 (g := g) (e := e) (mx := mx) (nm := nm) (L := LW) h)
            have HVY := Lib.hid (fun h => nxV_3 (g := g) (e := e) (mx := mx) (nm := nm) (L := LW) h)
            have n0 := HBN.out.cell 0
            have n1 := HBN.out.cell 1
            have n2 := HBN.out.cell 2
            have n3 := HBN.out.cell 3
            simp at n0 n1 n2 n3
            have HO5 := Lib.hid (fun W (h : Below wr.heap.size wr W) => own_below HO.out h)
            clear HO m2
            by_cases h1 : k < m
            · have d1 : (k : Int) < (m : Int) := by omega
              have d2 : ¬ (ln : Int) ≤ 32 := by omega
              clear hlt h1
              go_wp2_with fail
              refine (HMM.out _ HLL.out).mono ?_; rintro r w5 ⟨rfl, hb5⟩
              have HBW5 := Lib.hid (HWX.out _ (HBW.out.trans (hb5.mono (Nat.le_trans (Nat.le_succ _) HZ.out))))
              have HO6 := Lib.hid (HO5.out _ hb5)
              have bxr5 := HBXR.out _ (HBW.out.trans (hb5.mono (Nat.le_trans (Nat.le_succ _) HZ.out)))
              have q0 := (HBN.out.below hb5).cell 0
              have q1 := (HBN.out.below hb5).cell 1
              have q2 := (HBN.out.below hb5).cell 2
              have q3 := (HBN.out.below hb5).cell 3
              have q4 := (HBN.out.below hb5).cell 4
              simp at q0 q1 q2 q3 q4
              clear n0 n1 n2 n3 n4 hb5
              cases hM : manB (g + 1) e mx nm L
              · have HV := Lib.hid (HVN.out (by rw [HEX.out.1]; exact hM))
                clear q0 q1 q2 q3 q4 hM
                have x3 := bxr5
                have z0 := x3.cell 0
                have f0 := x3.frozen 0
                have z1 := x3.cell 1
                have f1 := x3.frozen 1
                have z2 := x3.cell 2
                have f2 := x3.frozen 2
                have z3 := x3.cell 3
                have f3 := x3.frozen 3
                have z4 := x3.cell 4
                have f4 := x3.frozen 4
                simp only [List.getElem?_toArray, List.getElem?_cons_zero, List.getElem?_cons_succ] at z0 z1 z2 z3 z4
                have H95 := Lib.hid (show w5.grownBy (((((w5.setCell ⟨w.heap.size + 1, 0, none⟩ (.int .i64 0)).setCell ⟨w.heap.size + 1, 1, none⟩ (.string { data := #[] })).setCell ⟨w.heap.size + 1, 2, none⟩ (.int .i64 0)).setCell ⟨w.heap.size + 1, 3, none⟩ (.int .i64 0)).setCell ⟨w.heap.size + 1, 4, none⟩ (.slice none 0 0)) (some (w.heap.size + 1)) from oth_trans (oth_set _ _ _ _) (oth_trans (oth_set _ _ _ _) (oth_trans (oth_set _ _ _ _) (oth_trans (oth_set _ _ _ _) (oth_set _ _ _ _)))))
                have X9 := Lib.hid (((((x3.put 0 (.int .i64 0)).put 1 (.string { data := #[] })).put 2 (.int .i64 0)).put 3 (.int .i64 0)).put 4 (.slice none 0 0))
                have HB9 := Lib.hid (((((HBW5.out.setCell (p := ⟨w.heap.size + 1, 0, none⟩) (by simp) (.int .i64 0)).setCell (p := ⟨w.heap.size + 1, 1, none⟩) (by simp) (.string { data := #[] })).setCell (p := ⟨w.heap.size + 1, 2, none⟩) (by simp) (.int .i64 0)).setCell (p := ⟨w.heap.size + 1, 3, none⟩) (by simp) (.int .i64 0)).setCell (p := ⟨w.heap.size + 1, 4, none⟩) (by simp) (.slice none 0 0))
                clear x3
                go_wp2_with fail
                clear z0 z1 z2 z3 z4 f0 f1 f2 f3 f4
                generalize ((((w5.setCell ⟨w.heap.size + 1, 0, none⟩ (.int .i64 0)).setCell ⟨w.heap.size + 1, 1, none⟩ (.string { data := #[] })).setCell ⟨w.heap.size + 1, 2, none⟩ (.int .i64 0)).setCell ⟨w.heap.size + 1, 3, none⟩ (.int .i64 0)).setCell ⟨w.heap.size + 1, 4, none⟩ (.slice none 0 0) = W9 at *
                refine bodyPost_ret (v := .tuple #[.agg #[.int .i64 0, .string { data := #[] }, .int .i64 0, .int .i64 0, .slice none 0 0], .int .i64 2]) ?_ rfl (NxR_no (by rw [HOK.out, HLW.out]; exact HV.out) HB9.out)
                have x0' := X9.out.cell 0
                have x1' := X9.out.cell 1
                have x2' := X9.out.cell 2
                have x3' := X9.out.cell 3
                have x4' := X9.out.cell 4
                simp at x0' x1' x2' x3' x4'
                simp [results, Tryz.results16, go_sem, x0', x1', x2', x3', x4']
              · have HV := Lib.hid (HVY.out (by rw [HEX.out.1]; exact hM))
                have HWL := Lib.hid (HEX.out.2 hM)
                clear hM
                have x3 := bxr5
                have z0 := x3.cell 0
                have f0 := x3.frozen 0
                have z1 := x3.cell 1
                have f1 := x3.frozen 1
                have z2 := x3.cell 2
                have f2 := x3.frozen 2
                have z3 := x3.cell 3
                have f3 := x3.frozen 3
                have z4 := x3.cell 4
                have f4 := x3.frozen 4
                simp only [List.getElem?_toArray, List.getElem?_cons_zero, List.getElem?_cons_succ] at z0 z1 z2 z3 z4
                have H95 := Lib.hid (show w5.grownBy (((((w5.setCell ⟨w.heap.size + 1, 0, none⟩ (.int .i64 (g + 1))).setCell ⟨w.heap.size + 1, 1, none⟩ (.string nm)).setCell ⟨w.heap.size + 1, 2, none⟩ (.int .i64 e)).setCell ⟨w.heap.size + 1, 3, none⟩ (.int .i64 mx)).setCell ⟨w.heap.size + 1, 4, none⟩ (.slice va ln vc)) (some (w.heap.size + 1)) from oth_trans (oth_set _ _ _ _) (oth_trans (oth_set _ _ _ _) (oth_trans (oth_set _ _ _ _) (oth_trans (oth_set _ _ _ _) (oth_set _ _ _ _)))))
                have X9 := Lib.hid (((((x3.put 0 (.int .i64 (g + 1))).put 1 (.string nm)).put 2 (.int .i64 e)).put 3 (.int .i64 mx)).put 4 (.slice va ln vc))
                have HB9 := Lib.hid (((((HBW5.out.setCell (p := ⟨w.heap.size + 1, 0, none⟩) (by simp) (.int .i64 (g + 1))).setCell (p := ⟨w.heap.size + 1, 1, none⟩) (by simp) (.string nm)).setCell (p := ⟨w.heap.size + 1, 2, none⟩) (by simp) (.int .i64 e)).setCell (p := ⟨w.heap.size + 1, 3, none⟩) (by simp) (.int .i64 mx)).setCell (p := ⟨w.heap.size + 1, 4, none⟩) (by simp) (.slice va ln vc))
                clear x3
                go_wp2_with fail
                clear z0 z1 z2 z3 z4 f0 f1 f2 f3 f4
                generalize ((((w5.setCell ⟨w.heap.size + 1, 0, none⟩ (.int .i64 (g + 1))).setCell ⟨w.heap.size + 1, 1, none⟩ (.string nm)).setCell ⟨w.heap.size + 1, 2, none⟩ (.int .i64 e)).setCell ⟨w.heap.size + 1, 3, none⟩ (.int .i64 mx)).setCell ⟨w.heap.size + 1, 4, none⟩ (.slice va ln vc) = W9 at *
                refine bodyPost_ret (v := .tuple #[.agg #[.int .i64 (g + 1), .string nm, .int .i64 e, .int .i64 mx, .slice va ln vc], .int .i64 0]) ?_ rfl (by rw [HOK.out, HLW.out, HV.out, ← HWL.out]; exact ⟨⟨va, vc, by rw [← HLE.out.2], lps_own (own_oth HO6.out (by omega) H95.out) HLE.out.2, by rw [← HLE.out.2] at HCP; exact HCP.out⟩, HB9.out⟩)
                have x0' := X9.out.cell 0
                have x1' := X9.out.cell 1
                have x2' := X9.out.cell 2
                have x3' := X9.out.cell 3
                have x4' := X9.out.cell 4
                simp at x0' x1' x2' x3' x4'
                simp [results, Tryz.results16, go_sem, x0', x1', x2', x3', x4']
            · have d1 : ¬ (k : Int) < (m : Int) := by omega
              clear hlt h1
              go_wp2_with fail
              refine (HMM.out _ HLL.out).mono ?_; rintro r w5 ⟨rfl, hb5⟩
              have HBW5 := Lib.hid (HWX.out _ (HBW.out.trans (hb5.mono (Nat.le_trans (Nat.le_succ _) HZ.out))))
              have HO6 := Lib.hid (HO5.out _ hb5)
              have bxr5 := HBXR.out _ (HBW.out.trans (hb5.mono (Nat.le_trans (Nat.le_succ _) HZ.out)))
              have q0 := (HBN.out.below hb5).cell 0
              have q1 := (HBN.out.below hb5).cell 1
              have q2 := (HBN.out.below hb5).cell 2
              have q3 := (HBN.out.below hb5).cell 3
              have q4 := (HBN.out.below hb5).cell 4
              simp at q0 q1 q2 q3 q4
              clear n0 n1 n2 n3 n4 hb5
              cases hM : manB (g + 1) e mx nm L
              · have HV := Lib.hid (HVN.out (by rw [HEX.out.1]; exact hM))
                clear q0 q1 q2 q3 q4 hM
                have x3 := bxr5
                have z0 := x3.cell 0
                have f0 := x3.frozen 0
                have z1 := x3.cell 1
                have f1 := x3.frozen 1
                have z2 := x3.cell 2
                have f2 := x3.frozen 2
                have z3 := x3.cell 3
                have f3 := x3.frozen 3
                have z4 := x3.cell 4
                have f4 := x3.frozen 4
                simp only [List.getElem?_toArray, List.getElem?_cons_zero, List.getElem?_cons_succ] at z0 z1 z2 z3 z4
                have H95 := Lib.hid (show w5.grownBy (((((w5.setCell ⟨w.heap.size + 1, 0, none⟩ (.int .i64 0)).setCell ⟨w.heap.size + 1, 1, none⟩ (.string { data := #[] })).setCell ⟨w.heap.size + 1, 2, none⟩ (.int .i64 0)).setCell ⟨w.heap.size + 1, 3, none⟩ (.int .i64 0)).setCell ⟨w.heap.size + 1, 4, none⟩ (.slice none 0 0)) (some (w.heap.size + 1)) from oth_trans (oth_set _ _ _ _) (oth_trans (oth_set _ _ _ _) (oth_trans (oth_set _ _ _ _) (oth_trans (oth_set _ _ _ _) (oth_set _ _ _ _)))))
                have X9 := Lib.hid (((((x3.put 0 (.int .i64 0)).put 1 (.string { data := #[] })).put 2 (.int .i64 0)).put 3 (.int .i64 0)).put 4 (.slice none 0 0))
                have HB9 := Lib.hid (((((HBW5.out.setCell (p := ⟨w.heap.size + 1, 0, none⟩) (by simp) (.int .i64 0)).setCell (p := ⟨w.heap.size + 1, 1, none⟩) (by simp) (.string { data := #[] })).setCell (p := ⟨w.heap.size + 1, 2, none⟩) (by simp) (.int .i64 0)).setCell (p := ⟨w.heap.size + 1, 3, none⟩) (by simp) (.int .i64 0)).setCell (p := ⟨w.heap.size + 1, 4, none⟩) (by simp) (.slice none 0 0))
                clear x3
                go_wp2_with fail
                clear z0 z1 z2 z3 z4 f0 f1 f2 f3 f4
                generalize ((((w5.setCell ⟨w.heap.size + 1, 0, none⟩ (.int .i64 0)).setCell ⟨w.heap.size + 1, 1, none⟩ (.string { data := #[] })).setCell ⟨w.heap.size + 1, 2, none⟩ (.int .i64 0)).setCell ⟨w.heap.size + 1, 3, none⟩ (.int .i64 0)).setCell ⟨w.heap.size + 1, 4, none⟩ (.slice none 0 0) = W9 at *
                refine bodyPost_ret (v := .tuple #[.agg #[.int .i64 0, .string { data := #[] }, .int .i64 0, .int .i64 0, .slice none 0 0], .int .i64 2]) ?_ rfl (NxR_no (by rw [HOK.out, HLW.out]; exact HV.out) HB9.out)
                have x0' := X9.out.cell 0
                have x1' := X9.out.cell 1
                have x2' := X9.out.cell 2
                have x3' := X9.out.cell 3
                have x4' := X9.out.cell 4
                simp at x0' x1' x2' x3' x4'
                simp [results, Tryz.results16, go_sem, x0', x1', x2', x3', x4']
              · have HV := Lib.hid (HVY.out (by rw [HEX.out.1]; exact hM))
                have HWL := Lib.hid (HEX.out.2 hM)
                clear hM
                have x3 := bxr5
                have z0 := x3.cell 0
                have f0 := x3.frozen 0
                have z1 := x3.cell 1
                have f1 := x3.frozen 1
                have z2 := x3.cell 2
                have f2 := x3.frozen 2
                have z3 := x3.cell 3
                have f3 := x3.frozen 3
                have z4 := x3.cell 4
                have f4 := x3.frozen 4
                simp only [List.getElem?_toArray, List.getElem?_cons_zero, List.getElem?_cons_succ] at z0 z1 z2 z3 z4
                have H95 := Lib.hid (show w5.grownBy (((((w5.setCell ⟨w.heap.size + 1, 0, none⟩ (.int .i64 (g + 1))).setCell ⟨w.heap.size + 1, 1, none⟩ (.string nm)).setCell ⟨w.heap.size + 1, 2, none⟩ (.int .i64 e)).setCell ⟨w.heap.size + 1, 3, none⟩ (.int .i64 mx)).setCell ⟨w.heap.size + 1, 4, none⟩ (.slice va ln vc)) (some (w.heap.size + 1)) from oth_trans (oth_set _ _ _ _) (oth_trans (oth_set _ _ _ _) (oth_trans (oth_set _ _ _ _) (oth_trans (oth_set _ _ _ _) (oth_set _ _ _ _)))))
                have X9 := Lib.hid (((((x3.put 0 (.int .i64 (g + 1))).put 1 (.string nm)).put 2 (.int .i64 e)).put 3 (.int .i64 mx)).put 4 (.slice va ln vc))
                have HB9 := Lib.hid (((((HBW5.out.setCell (p := ⟨w.heap.size + 1, 0, none⟩) (by simp) (.int .i64 (g + 1))).setCell (p := ⟨w.heap.size + 1, 1, none⟩) (by simp) (.string nm)).setCell (p := ⟨w.heap.size + 1, 2, none⟩) (by simp) (.int .i64 e)).setCell (p := ⟨w.heap.size + 1, 3, none⟩) (by simp) (.int .i64 mx)).setCell (p := ⟨w.heap.size + 1, 4, none⟩) (by simp) (.slice va ln vc))
                clear x3
                go_wp2_with fail
                clear z0 z1 z2 z3 z4 f0 f1 f2 f3 f4
                generalize ((((w5.setCell ⟨w.heap.size + 1, 0, none⟩ (.int .i64 (g + 1))).setCell ⟨w.heap.size + 1, 1, none⟩ (.string nm)).setCell ⟨w.heap.size + 1, 2, none⟩ (.int .i64 e)).setCell ⟨w.heap.size + 1, 3, none⟩ (.int .i64 mx)).setCell ⟨w.heap.size + 1, 4, none⟩ (.slice va ln vc) = W9 at *
                refine bodyPost_ret (v := .tuple #[.agg #[.int .i64 (g + 1), .string nm, .int .i64 e, .int .i64 mx, .slice va ln vc], .int .i64 0]) ?_ rfl (by rw [HOK.out, HLW.out, HV.out, ← HWL.out]; exact ⟨⟨va, vc, by rw [← HLE.out.2], lps_own (own_oth HO6.out (by omega) H95.out) HLE.out.2, by rw [← HLE.out.2] at HCP; exact HCP.out⟩, HB9.out⟩)
                have x0' := X9.out.cell 0
                have x1' := X9.out.cell 1
                have x2' := X9.out.cell 2
                have x3' := X9.out.cell 3
                have x4' := X9.out.cell 4
                simp at x0' x1' x2' x3' x4'
                simp [results, Tryz.results16, go_sem, x0', x1', x2', x3', x4']
end Go.Proofs.YtglkndoghnblcaaGreatDoor
