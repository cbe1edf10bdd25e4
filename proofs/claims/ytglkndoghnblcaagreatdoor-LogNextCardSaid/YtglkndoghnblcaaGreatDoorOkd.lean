/- known: the chapter's rows. Part 4. -/
import Derived.Test.YtglkndoghnblcaaGreatDoorOkc
import Derived.Recover
import Derived.Defers
import Derived.RangeFuncNested
namespace Go.Proofs.YtglkndoghnblcaaGreatDoor
open Go.ChangeShapes Go.WideShapes Go.ChangeAt Go.RowKit
set_option linter.unusedVariables false
set_option linter.unusedSimpArgs false
theorem own_not {w : World} {base n s N : Nat} {e : TypeId} {v : Value} {xs : List Value} (h : w.ownsRow base e s v n xs) (hN : w.heap.size ≤ N) : v.ownBlock = none ∨ v.ownBlock ≠ some N := by
  rcases h.2 with ⟨rfl, _⟩ | ⟨g, cap, cur, rfl, _, hg, _⟩
  · exact .inl rfl
  · refine .inr fun e => ?_
    have e' : g = N := by simpa [Value.ownBlock] using e
    have := (Array.getElem?_eq_some_iff.1 hg).1
    omega
/-- A write that is read: its table, its key, its row. -/
abbrev Wr3 := Nat × List Int × List (List Int)
def writeP (L : List Int) : Option (Wr3 × List Int) := match upP 4 L with
  | some (t, r1) => (match bytesP 32 r1 with
    | some (k, r2) => (match flagP r2 with
      | some (true, r3) => (match arowP r3 with
        | some (fs, r4) => some ((t, k, fs), r4)
        | none => none)
      | some (false, r3) => some ((t, k, []), r3)
      | none => none)
    | none => none)
  | none => none
theorem writeP_1 {L : List Int} (h : upP 4 L = none) : writeP L = none := by unfold writeP; rw [h]
theorem writeP_2 {L r1 : List Int} {t : Nat} (h : upP 4 L = some (t, r1)) (h2 : bytesP 32 r1 = none) : writeP L = none := by unfold writeP; rw [h]; simp only; rw [h2]
theorem writeP_3 {L r1 k r2 : List Int} {t : Nat} (h : upP 4 L = some (t, r1)) (h2 : bytesP 32 r1 = some (k, r2)) (h3 : flagP r2 = none) : writeP L = none := by unfold writeP; rw [h]; simp only; rw [h2]; simp only; rw [h3]
theorem writeP_4 {L r1 k r2 r3 : List Int} {t : Nat} (h : upP 4 L = some (t, r1)) (h2 : bytesP 32 r1 = some (k, r2)) (h3 : flagP r2 = some (true, r3)) (h4 : arowP r3 = none) : writeP L = none := by unfold writeP; rw [h]; simp only; rw [h2]; simp only; rw [h3]; simp only; rw [h4]
theorem writeP_5 {L r1 k r2 r3 r4 : List Int} {t : Nat} {fs : List (List Int)} (h : upP 4 L = some (t, r1)) (h2 : bytesP 32 r1 = some (k, r2)) (h3 : flagP r2 = some (true, r3)) (h4 : arowP r3 = some (fs, r4)) : writeP L = some ((t, k, fs), r4) := by unfold writeP; rw [h]; simp only; rw [h2]; simp only; rw [h3]; simp only; rw [h4]
theorem writeP_6 {L r1 k r2 r3 : List Int} {t : Nat} (h : upP 4 L = some (t, r1)) (h2 : bytesP 32 r1 = some (k, r2)) (h3 : flagP r2 = some (false, r3)) : writeP L = some ((t, k, []), r3) := by unfold writeP; rw [h]; simp only; rw [h2]; simp only; rw [h3]
def WrO (w : World) (base : Nat) (x : Wr3) (v : Value) : Prop := ∃ ka kc rv, v = .agg #[.int .i64 (x.1 : Int), .slice ka x.2.1.length kc, rv] ∧ w.ownsRow base 5 1 (.slice ka x.2.1.length kc) x.2.1.length (iv .u8 x.2.1) ∧ RowsO w base x.2.2 rv
set_option maxRecDepth 100000 in
set_option maxHeartbeats 4000000 in
/-- write (124). -/
theorem write_law {W : World} {B : Nat} {R : List Int} (h : RdS W B R) :
    Calls Tryz.prog 109 #[.pointer (some ⟨B, 0, none⟩)] W (GetR W B (writeP R) (fun x w' v => WrO w' W.heap.size x v)) := by
  have hlt := h.lt
  have HR := Lib.hid h
  clear h
  go_enter Tryz.func109, Tryz.ntmps109
  go_upto_region 1 with (fail)
  obtain ⟨W1, hW1⟩ : ∃ W1, W.alloc (.cells #[.int .i64 0, .slice none 0 0, .slice none 0 0] 86) = W1 := ⟨_, rfl⟩
  have hb1 : Below W.heap.size W W1 := by rw [← hW1]; exact bl1 _ _
  have bx : BoxC W1 W.heap.size #[.int .i64 0, .slice none 0 0, .slice none 0 0] 86 := by rw [← hW1]; exact BoxC.new W _ 86
  have hsz : W1.heap.size = W.heap.size + 1 := by rw [← hW1]; simp
  try rw [hW1]
  clear hW1
  obtain ⟨N0, hN0⟩ : ∃ N, W.heap.size = N := ⟨_, rfl⟩
  rw [hN0] at hsz hlt bx ⊢
  have HU := Lib.hid (upto_law (HR.out.below hb1) 4 (by decide))
  have HB1 := Lib.hid hb1
  have BX := Lib.hid bx
  have HN0 := Lib.hid hN0
  clear hb1 bx hN0
  go_wp2_with fail
  refine HU.out.mono ?_
  rintro r w2 ⟨⟨e1, rfl⟩ | ⟨t, R2, v, e1, rfl, rfl, r2⟩, g2⟩
  · have HX := Lib.hid (writeP_1 e1)
    have G := Lib.hid (oth_trans (oth_below B HB1.out) g2)
    clear e1 g2
    go_wp2_with fail
    first | exact ⟨rfl, .inl ⟨HX.out, rfl⟩, G.out⟩ | exact ⟨.inl ⟨HX.out, rfl⟩, G.out⟩
  have E1 := Lib.hid e1
  have G2 := Lib.hid g2
  have HB := Lib.hid (rbytes_law r2 32 (by decide))
  have hs2 : N0 + 1 ≤ w2.heap.size := by rw [← hsz]; exact g2.size
  clear e1 g2 r2 HU
  go_wp2_with fail
  refine HB.out.mono ?_
  rintro r w3 ⟨⟨e2, ⟨e, he, rfl⟩, r3⟩ | ⟨k, R3, ka, kc, e2, rfl, l3, r3⟩, g3⟩
  · have HX := Lib.hid (writeP_2 E1.out e2)
    have HE := Lib.hid he.ne.2.2
    have G := Lib.hid (oth_trans (oth_below B HB1.out) (oth_trans G2.out g3))
    clear e2 g3 r3 he
    go_wp2_with fail
    refine (must_bytes_no _ e HE.out _).mono ?_
    rintro r w' ⟨rfl, rfl⟩
    go_wp2_with fail
    first | exact ⟨rfl, .inl ⟨HX.out, rfl⟩, G.out⟩ | exact ⟨.inl ⟨HX.out, rfl⟩, G.out⟩
  have E2 := Lib.hid e2
  have G3 := Lib.hid (oth_trans G2.out g3)
  have L3 := Lib.hid (own_base hs2 l3)
  have R3' := Lib.hid r3
  have hs3 : N0 + 1 ≤ w3.heap.size := Nat.le_trans hs2 g3.size
  obtain ⟨kl, hkl⟩ : ∃ kl, k.length = kl := ⟨_, rfl⟩
  have HKL := Lib.hid hkl
  rw [hkl] at L3 ⊢
  clear e2 g3 r3 l3 hkl HB
  have hdummy : True := trivial
  go_wp2_with fail
  refine (must_bytes_ok _ _).mono ?_
  rintro r w' ⟨rfl, rfl⟩
  go_upto_region 2 with (fail)
  obtain ⟨W4, hW4⟩ : ∃ W4, w3.alloc (.cells #[.int .i64 (t : Int), .slice ka kl kc, .slice none 0 0] 86) = W4 := ⟨_, rfl⟩
  have hb4 : Below w3.heap.size w3 W4 := by rw [← hW4]; exact bl1 _ _
  have bx4 : BoxC W4 w3.heap.size #[.int .i64 (t : Int), .slice ka kl kc, .slice none 0 0] 86 := by rw [← hW4]; exact BoxC.new w3 _ 86
  have hs4 : w3.heap.size + 1 = W4.heap.size := by rw [← hW4]; simp
  try rw [hW4]
  clear hW4
  have NK := Lib.hid (own_not L3.out (Nat.le_refl _))
  have L4 := Lib.hid (own_below L3.out hb4)
  have X0 := Lib.hid ((BX.out.gr G3.out (by omega)).below hb4)
  have G4 := Lib.hid (oth_trans G3.out (oth_below B hb4))
  have HF := Lib.hid (flag_law (R3'.out.below hb4))
  obtain ⟨N3, hN3⟩ : ∃ N, w3.heap.size = N := ⟨_, rfl⟩
  rw [hN3] at hs3 hs4 bx4 NK ⊢
  have X4 := Lib.hid bx4
  clear hb4 bx4 hN3 R3' L3 BX
  go_wp2_with fail
  refine HF.out.mono ?_
  rintro r w5 ⟨⟨e3, rfl, r5⟩ | ⟨f, R5, e3, rfl, r5⟩, g5⟩
  · have HX := Lib.hid (writeP_3 E1.out E2.out e3)
    have G := Lib.hid (oth_trans (oth_below B HB1.out) (oth_trans G4.out g5))
    clear e3 g5 r5
    go_wp2_with fail
    refine (must_bool_no _ 4 (by decide) _).mono ?_
    rintro r w' ⟨rfl, rfl⟩
    go_wp2_with fail
    first | exact ⟨rfl, .inl ⟨HX.out, rfl⟩, G.out⟩ | exact ⟨.inl ⟨HX.out, rfl⟩, G.out⟩
  have E3 := Lib.hid e3
  have L5 := Lib.hid (own_oth L4.out (by omega) g5)
  have X05 := Lib.hid (X0.out.gr g5 (by omega))
  have X45 := Lib.hid (X4.out.gr g5 (by omega))
  have G5 := Lib.hid (oth_trans (oth_below B HB1.out) (oth_trans G4.out g5))
  have R5' := Lib.hid r5
  have hs5 : N3 + 1 ≤ w5.heap.size := by rw [hs4]; exact g5.size
  clear e3 g5 r5 X0 X4 L4 HF
  cases f with
  | false =>
    have HX := Lib.hid (writeP_6 E1.out E2.out E3.out)
    have x0 := X05.out.cell 0
    have x1 := X05.out.cell 1
    have x2 := X05.out.cell 2
    have f0 := X05.out.frozen 0
    have f1 := X05.out.frozen 1
    have f2 := X05.out.frozen 2
    have y0 := X45.out.cell 0
    have y1 := X45.out.cell 1
    have y2 := X45.out.cell 2
    simp only [List.getElem?_toArray, List.getElem?_cons_zero, List.getElem?_cons_succ] at x0 x1 x2 y0 y1 y2
    have HX9 := Lib.hid (((X05.out.put 0 (.int .i64 (t : Int))).put 1 (.slice ka kl kc)).put 2 (.slice none 0 0))
    have H9 := Lib.hid (show w5.grownBy (((w5.setCell ⟨N0, 0, none⟩ (.int .i64 (t : Int))).setCell ⟨N0, 1, none⟩ (.slice ka kl kc)).setCell ⟨N0, 2, none⟩ (.slice none 0 0)) (some N0) from oth_trans (oth_set _ _ _ _) (oth_trans (oth_set _ _ _ _) (oth_set _ _ _ _)))
    have HB9 := Lib.hid ((((Below.refl N0 w5).setCell (p := ⟨N0, 0, none⟩) (Nat.le_refl _) (.int .i64 (t : Int))).setCell (p := ⟨N0, 1, none⟩) (Nat.le_refl _) (.slice ka kl kc)).setCell (p := ⟨N0, 2, none⟩) (Nat.le_refl _) (.slice none 0 0))
    go_wp2_with fail
    refine (must_bool_ok _ _).mono ?_
    rintro r w' ⟨rfl, rfl⟩
    go_wp2_with fail
    clear x0 x1 x2 f0 f1 f2 y0 y1 y2
    generalize (((w5.setCell ⟨N0, 0, none⟩ (.int .i64 (t : Int))).setCell ⟨N0, 1, none⟩ (.slice ka kl kc)).setCell ⟨N0, 2, none⟩ (.slice none 0 0)) = W9 at *
    refine bodyPost_ret (v := .agg #[.int .i64 (t : Int), .slice ka kl kc, .slice none 0 0]) ?_ rfl ⟨.inr ⟨_, _, _, HX.out, rfl, ⟨ka, kc, _, by rw [HKL.out], ?_, RowsO.nil _ _⟩, R5'.out.below1 (HB9.out.mono (by omega))⟩, grown_below G5.out (by rw [HN0.out]; exact HB9.out)⟩
    · have x0 := HX9.out.cell 0
      have x1 := HX9.out.cell 1
      have x2 := HX9.out.cell 2
      simp at x0 x1 x2
      simp [results, Tryz.results109, go_sem, x0, x1, x2]
    · rw [HN0.out]
      simp only
      rw [HKL.out]
      exact own_base (by omega) (own_oth L5.out (by omega) H9.out)
  | true =>
    have HA := Lib.hid (arow_law R5'.out)
    go_wp2_with fail
    refine (must_bool_ok _ _).mono ?_
    rintro r w' ⟨rfl, rfl⟩
    go_wp2_with fail
    refine HA.out.mono ?_
    rintro r w6 ⟨⟨e4, rfl⟩ | ⟨fs, R6, rv, e4, rfl, hv, r6⟩, g6⟩
    · have HX := Lib.hid (writeP_4 E1.out E2.out E3.out e4)
      have G := Lib.hid (oth_trans G5.out g6)
      clear e4 g6
      go_wp2_with fail
      first | exact ⟨rfl, .inl ⟨HX.out, rfl⟩, G.out⟩ | exact ⟨.inl ⟨HX.out, rfl⟩, G.out⟩
    have HX := Lib.hid (writeP_5 E1.out E2.out E3.out e4)
    have G6 := Lib.hid (oth_trans G5.out g6)
    have L6 := Lib.hid (own_oth L5.out (by omega) g6)
    have X06 := Lib.hid (X05.out.gr g6 (by omega))
    have X46 := Lib.hid (X45.out.gr g6 (by omega))
    have R6' := Lib.hid r6
    have HV := Lib.hid hv
    obtain ⟨ra, rc, RR, rfl, _, _⟩ := hv.rdr
    clear e4 g6 r6 HA hv R5' L5 X05 X45 G5
    obtain ⟨rl, hrl⟩ : ∃ rl, fs.length = rl := ⟨_, rfl⟩
    rw [hrl] at HV ⊢
    have HRL := Lib.hid hrl
    clear hrl
    have q2 := X46.out.cell 2
    have h2 := X46.out.frozen 2
    simp only [List.getElem?_toArray, List.getElem?_cons_zero, List.getElem?_cons_succ] at q2
    have x7 := (X46.out.put 2 (.slice ra rl rc))
    simp at x7
    have B7 := (Below.refl N3 w6).setCell (p := ⟨N3, 2, none⟩) (Nat.le_refl _) (.slice ra rl rc)
    have L7 := Lib.hid (show (w6.setCell ⟨N3, 2, none⟩ (.slice ra rl rc)).ownsRow (N0 + 1) 5 1 (.slice ka kl kc) kl (iv .u8 k) from L6.out.kept (oth_set w6 N3 2 (.slice ra rl rc)) NK.out)
    have V7 := Lib.hid (HV.out.oth (B := N3) (by omega) (oth_set w6 N3 2 (.slice ra rl rc)))
    have x07 := Lib.hid (BoxC.oth (i := 2) (v := .slice ra rl rc) (by omega : N3 ≠ N0) X06.out)
    go_upto_region 4 with (fail)
    clear q2 h2
    have HB7 := Lib.hid B7
    generalize w6.setCell ⟨N3, 2, none⟩ (.slice ra rl rc) = W7 at *
    have x0 := x07.out.cell 0
    have x1 := x07.out.cell 1
    have x2 := x07.out.cell 2
    have f0 := x07.out.frozen 0
    have f1 := x07.out.frozen 1
    have f2 := x07.out.frozen 2
    have y0 := x7.cell 0
    have y1 := x7.cell 1
    have y2 := x7.cell 2
    simp only [List.getElem?_toArray, List.getElem?_cons_zero, List.getElem?_cons_succ] at x0 x1 x2 y0 y1 y2
    clear x7 B7
    have HX9 := Lib.hid (((x07.out.put 0 (.int .i64 (t : Int))).put 1 (.slice ka kl kc)).put 2 (.slice ra rl rc))
    have H9 := Lib.hid (show W7.grownBy (((W7.setCell ⟨N0, 0, none⟩ (.int .i64 (t : Int))).setCell ⟨N0, 1, none⟩ (.slice ka kl kc)).setCell ⟨N0, 2, none⟩ (.slice ra rl rc)) (some N0) from oth_trans (oth_set _ _ _ _) (oth_trans (oth_set _ _ _ _) (oth_set _ _ _ _)))
    have HB9 := Lib.hid (show Below N0 w6 (((W7.setCell ⟨N0, 0, none⟩ (.int .i64 (t : Int))).setCell ⟨N0, 1, none⟩ (.slice ka kl kc)).setCell ⟨N0, 2, none⟩ (.slice ra rl rc)) from ((((HB7.out.mono (show N0 ≤ N3 by omega)).setCell (p := ⟨N0, 0, none⟩) (Nat.le_refl _) (.int .i64 (t : Int))).setCell (p := ⟨N0, 1, none⟩) (Nat.le_refl _) (.slice ka kl kc)).setCell (p := ⟨N0, 2, none⟩) (Nat.le_refl _) (.slice ra rl rc)))
    go_wp2_with fail
    clear x0 x1 x2 f0 f1 f2 y0 y1 y2
    generalize (((W7.setCell ⟨N0, 0, none⟩ (.int .i64 (t : Int))).setCell ⟨N0, 1, none⟩ (.slice ka kl kc)).setCell ⟨N0, 2, none⟩ (.slice ra rl rc)) = W9 at *
    refine bodyPost_ret (v := .agg #[.int .i64 (t : Int), .slice ka kl kc, .slice ra rl rc]) ?_ rfl ⟨.inr ⟨_, _, _, HX.out, rfl, ⟨ka, kc, _, by rw [HKL.out], ?_, ?_⟩, R6'.out.below1 (HB9.out.mono (by omega))⟩, grown_below G6.out (by rw [HN0.out]; exact HB9.out)⟩
    · have x0 := HX9.out.cell 0
      have x1 := HX9.out.cell 1
      have x2 := HX9.out.cell 2
      simp at x0 x1 x2
      simp [results, Tryz.results109, go_sem, x0, x1, x2]
    · rw [HN0.out]
      simp only
      rw [HKL.out]
      exact own_base (by omega) (own_oth L7.out (by omega) H9.out)
    · rw [HN0.out]
      exact ((V7.out.base (by omega : N0 + 1 ≤ w5.heap.size)).oth (by omega) H9.out).base (by omega)
end Go.Proofs.YtglkndoghnblcaaGreatDoor
namespace Go.Proofs.YtglkndoghnblcaaGreatDoor
open Go.ChangeShapes Go.WideShapes Go.ChangeAt Go.RowKit
set_option linter.unusedVariables false
set_option linter.unusedSimpArgs false
def cont (p : WtP) : Wr3 := (p.tab.toNat, p.key, p.R.map P1.bs)
structure WtOw (w : World) (base : Nat) (p : WtP) : Prop where
  nn : 0 ≤ p.tab
  key : w.ownsRow base 5 1 (.slice p.ka p.key.length p.kc) p.key.length (iv .u8 p.key)
  row : w.ownsRow base 54 1 (.slice p.ra p.R.length p.rc) p.R.length (p.R.map P1.v)
  all : ∀ q ∈ p.R, w.ownsRow base 5 1 q.v q.bs.length (iv .u8 q.bs)
theorem WtOw.oth {w w' : World} {base B : Nat} {p : WtP} (h : WtOw w base p) (hB : B < base) (g : w.grownBy w' (some B)) : WtOw w' base p := ⟨h.nn, own_oth h.key hB g, own_oth h.row hB g, fun q hq => own_oth (h.all q hq) hB g⟩
theorem WtOw.base {w : World} {b b' : Nat} {p : WtP} (hb : b ≤ b') (h : WtOw w b' p) : WtOw w b p := ⟨h.nn, own_base hb h.key, own_base hb h.row, fun q hq => own_base hb (h.all q hq)⟩
theorem WtOw.below {w w' : World} {base : Nat} {p : WtP} (h : WtOw w base p) (b : Below w.heap.size w w') : WtOw w' base p := ⟨h.nn, own_below h.key b, own_below h.row b, fun q hq => own_below (h.all q hq) b⟩
theorem WrO.get {w : World} {base : Nat} {x : Wr3} {v : Value} (h : WrO w base x v) : ∃ p : WtP, v = p.v ∧ cont p = x ∧ WtOw w base p := by
  obtain ⟨ka, kc, rv, rfl, h1, R, h2, h3, h4⟩ := h
  obtain ⟨t, k, fs⟩ := x
  simp only at h1 h2 h3 ⊢
  have hl : R.length = fs.length := by rw [← h2]; simp
  obtain ⟨a, cap, rfl, _⟩ := own_rdr h3 hl (fun p hp => by obtain ⟨a2, c2, e, l2, _⟩ := own_ls (h4 p hp) rfl; cases e; exact l2)
  refine ⟨⟨(t : Int), ka, kc, k, a, cap, R⟩, by simp [WtP.v, hl], by simp [cont, h2], ⟨by simp, h1, by rw [hl]; exact h3, h4⟩⟩
def WtP.cells (p : WtP) : List Value := [.int .i64 p.tab, .slice p.ka p.key.length p.kc, .slice p.ra p.R.length p.rc]
def wcells (ps : List WtP) : List Value := (ps.map WtP.cells).flatten
/-- Writes that were read, owned. -/
def WritesO (w : World) (base : Nat) (xs : List Wr3) (v : Value) : Prop := ∃ ps : List WtP, ps.map cont = xs ∧ w.ownsRow base 86 3 v xs.length (wcells ps) ∧ ∀ p ∈ ps, WtOw w base p
theorem WritesO.nil (w : World) (base : Nat) : WritesO w base [] (.slice none 0 0) := ⟨[], rfl, World.ownsRow_nil _ _ _ _, fun p hp => by simp at hp⟩
theorem WritesO.oth {w w' : World} {base B : Nat} {xs : List Wr3} {v : Value} (h : WritesO w base xs v) (hB : B < base) (g : w.grownBy w' (some B)) : WritesO w' base xs v := by
  obtain ⟨R, h1, h2, h3⟩ := h
  exact ⟨R, h1, own_oth h2 hB g, fun p hp => (h3 p hp).oth hB g⟩
theorem WritesO.base {w : World} {b b' : Nat} {xs : List Wr3} {v : Value} (hb : b ≤ b') (h : WritesO w b' xs v) : WritesO w b xs v := by
  obtain ⟨R, h1, h2, h3⟩ := h
  exact ⟨R, h1, own_base hb h2, fun p hp => (h3 p hp).base hb⟩
theorem WritesO.below {w w' : World} {base : Nat} {xs : List Wr3} {v : Value} (h : WritesO w base xs v) (b : Below w.heap.size w w') : WritesO w' base xs v := by
  obtain ⟨R, h1, h2, h3⟩ := h
  exact ⟨R, h1, own_below h2 b, fun p hp => (h3 p hp).below b⟩
theorem WtOw.kept {w w' : World} {base b2 n : Nat} {p : WtP} {v : Value} {cs : List Value} (h : WtOw w base p) (hown : w.ownsRow b2 86 3 v n cs) (g : w.grownBy w' v.ownBlock) : WtOw w' base p :=
  ⟨h.nn, h.key.kept g (own_apart h.key hown (by decide)), h.row.kept g (own_apart h.row hown (by decide)), fun q hq => (h.all q hq).kept g (own_apart (h.all q hq) hown (by decide))⟩
theorem WritesO.snoc {w w' : World} {base k : Nat} {xs : List Wr3} {ps : List WtP} {p : WtP} {v v' : Value} (h1 : ps.map cont = xs) (hk : xs.length = k) (h2 : w.ownsRow base 86 3 v k (wcells ps)) (h3 : ∀ q ∈ ps, WtOw w base q) (hp : WtOw w base p)
    (h' : w'.ownsRow base 86 3 v' (k + 1) (wcells ps ++ p.cells)) (g : w.grownBy w' v.ownBlock) : WritesO w' base (xs ++ [cont p]) v' := by
  refine ⟨ps ++ [p], by rw [List.map_append, h1]; rfl, ?_, fun q hq => ?_⟩
  · rw [List.length_append, hk]
    have e : wcells (ps ++ [p]) = wcells ps ++ p.cells := by simp [wcells]
    rw [e]
    exact h'
  · rcases List.mem_append.1 hq with hq | hq
    · exact (h3 q hq).kept h2 g
    · simp only [List.mem_singleton] at hq
      subst hq
      exact hp.kept h2 g
/-- What a list's function answers. -/
def ClR {α : Type} (W : World) (B : Nat) (o : Option (α × List Int)) (V : α → World → Value → Prop) (r : Ending) (w' : World) : Prop :=
  ((o = none ∧ r = .panicked badP) ∨ ∃ x R' v, o = some (x, R') ∧ r = .returned (.tuple #[v, .int .i64 0]) ∧ V x w' v ∧ RdS w' B R') ∧ W.grownBy w' (some B)
set_option maxRecDepth 100000 in
set_option maxHeartbeats 4000000 in
/-- list's function at writes (161). -/
theorem wclos_law {W : World} {B Bx : Nat} {R : List Int} (h : RdS W B R) (hx : W.cell? ⟨Bx, 0, none⟩ = some (.func (.func 109) #[] #[])) :
    Calls Tryz.prog 142 #[.pointer (some ⟨B, 0, none⟩), .pointer (some ⟨Bx, 0, none⟩)] W (ClR W B (writeP R) (fun x w' v => WrO w' W.heap.size x v)) := by
  have hlt := h.lt
  have HR := Lib.hid h
  have hxl := cell_lt hx
  clear h
  go_enter Tryz.func142, Tryz.ntmps142
  go_upto_region 1 with (fail)
  obtain ⟨W1, hW1⟩ : ∃ W1, W.alloc (.cells #[.int .i64 0, .slice none 0 0, .slice none 0 0] 86) = W1 := ⟨_, rfl⟩
  have hb1 : Below W.heap.size W W1 := by rw [← hW1]; exact bl1 _ _
  have bx : BoxC W1 W.heap.size #[.int .i64 0, .slice none 0 0, .slice none 0 0] 86 := by rw [← hW1]; exact BoxC.new W _ 86
  have hsz : W1.heap.size = W.heap.size + 1 := by rw [← hW1]; simp
  have hx1 := (hb1.cell hxl).trans hx
  try rw [hW1]
  clear hW1 hx
  obtain ⟨N0, hN0⟩ : ∃ N, W.heap.size = N := ⟨_, rfl⟩
  have HW := Lib.hid (write_law (HR.out.below hb1))
  have HB1 := Lib.hid hb1
  have HN0 := Lib.hid hN0
  rw [hN0] at hsz hlt bx ⊢
  have BX := Lib.hid bx
  clear hb1 bx hN0
  go_wp2_with fail
  refine HW.out.mono ?_
  rintro r w2 ⟨⟨e1, rfl⟩ | ⟨x, R2, v, e1, rfl, hv, r2⟩, g2⟩
  · have HX := Lib.hid e1
    have G := Lib.hid (oth_trans (oth_below B HB1.out) g2)
    clear e1 g2
    go_wp2_with fail
    first | exact ⟨rfl, .inl ⟨HX.out, rfl⟩, G.out⟩ | exact ⟨.inl ⟨HX.out, rfl⟩, G.out⟩
  obtain ⟨ka, kc, rv, rfl, hk, hr⟩ := hv
  obtain ⟨ra, rc, RR, rfl, _, _⟩ := hr.rdr
  obtain ⟨t, key, fs⟩ := x
  simp only at hk hr ⊢
  have HX := Lib.hid e1
  have G2 := Lib.hid (oth_trans (oth_below B HB1.out) g2)
  have HK := Lib.hid hk
  have HRW := Lib.hid hr
  have R2' := Lib.hid r2
  have X2 := Lib.hid (BX.out.gr g2 (by omega))
  obtain ⟨kl, hkl⟩ : ∃ kl, key.length = kl := ⟨_, rfl⟩
  obtain ⟨fl, hfl⟩ : ∃ fl, fs.length = fl := ⟨_, rfl⟩
  have HKL := Lib.hid hkl
  rw [hkl] at HK ⊢
  rw [hfl] at HRW ⊢
  clear e1 g2 hk hr r2 hkl hfl BX HW
  have x0 := X2.out.cell 0
  have x1 := X2.out.cell 1
  have x2 := X2.out.cell 2
  have f0 := X2.out.frozen 0
  have f1 := X2.out.frozen 1
  have f2 := X2.out.frozen 2
  simp only [List.getElem?_toArray, List.getElem?_cons_zero, List.getElem?_cons_succ] at x0 x1 x2
  have HX9 := Lib.hid (((X2.out.put 0 (.int .i64 (t : Int))).put 1 (.slice ka kl kc)).put 2 (.slice ra fl rc))
  have H9 := Lib.hid (show w2.grownBy (((w2.setCell ⟨N0, 0, none⟩ (.int .i64 (t : Int))).setCell ⟨N0, 1, none⟩ (.slice ka kl kc)).setCell ⟨N0, 2, none⟩ (.slice ra fl rc)) (some N0) from oth_trans (oth_set _ _ _ _) (oth_trans (oth_set _ _ _ _) (oth_set _ _ _ _)))
  have HB9 := Lib.hid ((((Below.refl N0 w2).setCell (p := ⟨N0, 0, none⟩) (Nat.le_refl _) (.int .i64 (t : Int))).setCell (p := ⟨N0, 1, none⟩) (Nat.le_refl _) (.slice ka kl kc)).setCell (p := ⟨N0, 2, none⟩) (Nat.le_refl _) (.slice ra fl rc))
  go_wp2_with fail
  clear x0 x1 x2 f0 f1 f2
  generalize (((w2.setCell ⟨N0, 0, none⟩ (.int .i64 (t : Int))).setCell ⟨N0, 1, none⟩ (.slice ka kl kc)).setCell ⟨N0, 2, none⟩ (.slice ra fl rc)) = W9 at *
  refine bodyPost_ret (v := .tuple #[.agg #[.int .i64 (t : Int), .slice ka kl kc, .slice ra fl rc], .int .i64 0]) ?_ rfl ⟨.inr ⟨_, _, _, HX.out, rfl, ⟨ka, kc, _, by rw [HKL.out], ?_, ?_⟩, R2'.out.below1 (HB9.out.mono (by omega))⟩, grown_below G2.out (by rw [HN0.out]; exact HB9.out)⟩
  · have x0 := HX9.out.cell 0
    have x1 := HX9.out.cell 1
    have x2 := HX9.out.cell 2
    simp at x0 x1 x2
    simp [results, Tryz.results142, go_sem, x0, x1, x2]
  · rw [HN0.out]
    simp only
    rw [HKL.out]
    exact own_base (by omega) (own_oth HK.out (by omega) H9.out)
  · rw [HN0.out]
    exact (HRW.out.oth (by omega) H9.out).base (by omega)
end Go.Proofs.YtglkndoghnblcaaGreatDoor
namespace Go.Proofs.YtglkndoghnblcaaGreatDoor
open Go.ChangeShapes Go.WideShapes Go.ChangeAt Go.RowKit
set_option linter.unusedVariables false
set_option linter.unusedSimpArgs false
theorem info51 : (Tryz.prog.info? 86).map (fun i => (i.zero, i.size, i.bytes)) = some (some (.agg #[.int .i64 0, .slice none 0 0, .slice none 0 0]), 3, 56) := by kernel_rfl
set_option maxRecDepth 100000 in
theorem hnf223 (f : Fn) (c1 c2 : Array Value) (w : World) : (binOp .eql 201 (.func f c1 c2) .nilFunc).run Tryz.prog w = .ok (.bool false) w := by
  first | rfl | simp [binOp, run_underlying Tryz.underlying201] | simp [binOp, Op.equal, run_underlying Tryz.underlying201, go_sem]
/-- What Take answers, where one may give up. -/
def TkP {α : Type} (W : World) (B : Nat) (o : Option (List α × List Int)) (V : World → Nat → List α → Value → Prop) (r : Ending) (w' : World) : Prop :=
  ((o = none ∧ ((∃ e : Int, Er e ∧ r = .returned (.tuple #[.slice none 0 0, .int .i64 e])) ∨ r = .panicked badP)) ∨
    ∃ xs R' v, o = some (xs, R') ∧ r = .returned (.tuple #[v, .int .i64 0]) ∧ V w' W.heap.size xs v ∧ RdS w' B R') ∧ W.grownBy w' (some B)
set_option maxRecDepth 100000 in
set_option maxHeartbeats 4000000 in
/-- Take at writes (160). -/
theorem takewrites_law {W : World} {B Bx : Nat} {R0 : List Int} (hR : RdS W B R0) (hx : W.cell? ⟨Bx, 0, none⟩ = some (.func (.func 109) #[] #[])) (hne : Bx ≠ B) (most : Nat) (hm : most ≤ 1000000) :
    Calls Tryz.prog 141 #[.pointer (some ⟨B, 0, none⟩), .int .i64 (most : Int), .func (.func 142) #[] #[.pointer (some ⟨Bx, 0, none⟩)]] W (TkP W B (listP most writeP R0) WritesO) := by
  obtain ⟨i0, hi, hz0, hz1, hz2⟩ := info_parts info51
  obtain ⟨ad, cap, n, L, p, h, hd, hn, hBY⟩ := hR
  have e0 := h.c0
  have e1 := h.c1
  have e2 := h.c2
  have H := Lib.hid h
  have hbl := h.lt
  have hxl := cell_lt hx
  simp only at hxl
  have hnf := hnf223
  have HN := Lib.hid (And.intro hn (And.intro hBY hd))
  clear h hd hn hBY
  have HXX := Lib.hid hx
  clear hx
  go_enter Tryz.func141, Tryz.ntmps141
  go_wp2_with fail
  refine (none_law H.out).mono ?_; rintro e w' ⟨rfl, rfl⟩
  go_wp2_with fail
  have B0 : Below W.heap.size W (W.alloc (.cells #[.slice ad n cap, .int .i64 (p : Int), .bool true] 196)) := (Below.refl _ _).alloc (Nat.le_refl _) _
  have h1 := H.out.below B0
  have kb : BoxC (W.alloc (.cells #[.slice ad n cap, .int .i64 (p : Int), .bool true] 196)) W.heap.size #[.slice ad n cap, .int .i64 (p : Int), .bool true] 196 := BoxC.new _ _ _
  have hsz : (W.alloc (.cells #[.slice ad n cap, .int .i64 (p : Int), .bool true] 196)).heap.size = W.heap.size + 1 := by simp
  clear e0 e1 e2
  generalize W.alloc (.cells #[.slice ad n cap, .int .i64 (p : Int), .bool true] 196) = W1 at B0 h1 kb hsz ⊢
  have HB0 := Lib.hid B0
  have KB := Lib.hid kb
  have FX1 := Lib.hid ((B0.cell (p := ⟨Bx, 0, none⟩) hxl).trans HXX.out)
  refine (count_law h1 HN.out.1 HN.out.2.1 most hm).mono ?_
  clear h1 B0 kb HXX
  rintro r w2 ⟨⟨hno, ⟨e, x, he, rfl⟩, q, h2⟩ | ⟨c0, q, hup, hvm, hqn, rfl, h2⟩, g2⟩
  · have HNO := Lib.hid (show listP most writeP R0 = none from listP_none (by rw [← HN.out.2.2]; exact hno))
    have kb2 := KB.out.gr g2 (by omega)
    have k0 := kb2.cell 0
    have k1 := kb2.cell 1
    have k2 := kb2.cell 2
    simp only [List.getElem?_toArray, List.getElem?_cons_zero, List.getElem?_cons_succ] at k0 k1 k2
    obtain ⟨z1, z2, z3⟩ := he.ne
    have HER := Lib.hid he
    have e0 := h2.c0
    have e1 := h2.c1
    have e2 := h2.c2
    have f0 := h2.f0
    have f1 := h2.f1
    have f2 := h2.f2
    have HG := Lib.hid (oth_trans (oth_below B HB0.out) g2)
    clear h2 g2 kb2 hno he
    by_cases hx0 : (0 : Int) < x
    · go_wp2_with fail
      go_loopw [10, 11, 12] (fun e' v i wr => e' = .int .i64 e ∧ v = .slice none 0 0 ∧ i = .int .u64 0 ∧ w2 = wr) (fun _ _ i _ => 0)
      case atStart => exact ⟨rfl, rfl, rfl, rfl⟩
      case round =>
        obtain ⟨rfl, rfl, rfl, rfl⟩ := hrel
        go_wp2_with fail
        go_ret2
        exact ⟨.inl ⟨HNO.out, .inl ⟨e, HER.out, rfl⟩⟩, oth_trans HG.out (oth_trans (oth_set _ _ _ _) (oth_trans (oth_set _ _ _ _) (oth_set _ _ _ _)))⟩
    · go_wp2_with fail
      go_loopw [10, 11, 12] (fun e' v i wr => e' = .int .i64 e ∧ v = .slice none 0 0 ∧ i = .int .u64 0 ∧ w2 = wr) (fun _ _ i _ => 0)
      case atStart => exact ⟨rfl, rfl, rfl, rfl⟩
      case round =>
        obtain ⟨rfl, rfl, rfl, rfl⟩ := hrel
        go_wp2_with fail
        go_ret2
        exact ⟨.inl ⟨HNO.out, .inl ⟨e, HER.out, rfl⟩⟩, oth_trans HG.out (oth_trans (oth_set _ _ _ _) (oth_trans (oth_set _ _ _ _) (oth_set _ _ _ _)))⟩
  · have hcm : c0 ≤ 1000000 := by omega
    have HTG := Lib.hid (show listP most writeP R0 = addP [] (manyP writeP (c0 - 0) (L.drop q)) from listP_eq (by rw [← HN.out.2.2]; exact hup))
    have HS2 := Lib.hid (show RdS w2 B (L.drop q) from ⟨ad, cap, n, L, q, h2, rfl, HN.out.1, HN.out.2.1⟩)
    have FX2 := Lib.hid (g2.cell FX1.out (by intro e; injection e with e'; exact hne e'))
    have HG := Lib.hid (oth_trans (oth_below B HB0.out) g2)
    have HSZ := Lib.hid (show W.heap.size + 1 ≤ w2.heap.size by rw [← hsz]; exact g2.size)
    clear h2 g2 hup hsz hvm hqn
    go_wp2_with fail
    go_loopw [10, 11, 12] (fun e v i wr => e = .int .i64 0 ∧ ∃ (k : Nat) (fs : List Wr3) (Rk : List Int), k ≤ c0 ∧ i = .int .u64 (k : Int) ∧ Hid (fs.length = k ∧ listP most writeP R0 = addP fs (manyP writeP (c0 - k) Rk)) ∧ Hid (WritesO wr (W.heap.size + 1) fs v) ∧ Hid (RdS wr B Rk) ∧ Hid (wr.cell? ⟨Bx, 0, none⟩ = some (.func (.func 109) #[] #[])) ∧ Hid (W.grownBy wr (some B)) ∧ Hid (W.heap.size + 1 ≤ wr.heap.size)) (fun _ _ i _ => c0 - (intOf i).toNat)
    case atStart => exact ⟨rfl, 0, [], _, by omega, rfl, Lib.hid ⟨rfl, HTG.out⟩, Lib.hid (WritesO.nil _ _), HS2, FX2, HG, HSZ⟩
    case round =>
      clear HTG HS2 FX2 HG HSZ FX1 KB HB0
      obtain ⟨rfl, k, fs, Rk, hk, rfl, HL, HO, HS, FX, HG, HSZ⟩ := hrel
      by_cases hkc : k < c0
      · have hkci : (k : Int) < (c0 : Int) := by omega
        go_upto_region 10 with (fail)
        obtain ⟨W3, hW3⟩ : ∃ W3, wr.alloc (.cells #[.int .i64 0, .slice none 0 0, .slice none 0 0] 86) = W3 := ⟨_, rfl⟩
        have hb3 : Below wr.heap.size wr W3 := by rw [← hW3]; exact bl1 _ _
        have bx3 : BoxC W3 wr.heap.size #[.int .i64 0, .slice none 0 0, .slice none 0 0] 86 := by rw [← hW3]; exact BoxC.new wr _ 86
        have hs3 : wr.heap.size + 1 = W3.heap.size := by rw [← hW3]; simp
        try rw [hW3]
        clear hW3
        have hsB : B < wr.heap.size := HS.out.lt
        have RO := Lib.hid (wclos_law (HS.out.below hb3) ((hb3.cell (cell_lt FX.out)).trans FX.out))
        obtain ⟨Nx, hNx⟩ : ∃ N, wr.heap.size = N := ⟨_, rfl⟩
        have HNX := Lib.hid hNx
        have HSZ2 := Lib.hid (show W.heap.size + 1 ≤ Nx by rw [← hNx]; exact HSZ.out)
        rw [hNx] at bx3 hs3 hsB ⊢
        have HB3 := Lib.hid hb3
        have BX3 := Lib.hid bx3
        clear hNx hb3 bx3
        go_wp2_with fail
        refine RO.out.mono ?_
        rintro e w4 ⟨⟨h1, rfl⟩ | ⟨x, R', v1, h1, rfl, hv, h3⟩, g1⟩
        · have HNO := Lib.hid (show listP most writeP R0 = none by rw [HL.out.2]; exact manyP_stop hkc fs h1)
          have G := Lib.hid (oth_trans HG.out (oth_trans (oth_below B HB3.out) g1))
          clear h1 g1
          go_wp2_with fail
          first | exact ⟨rfl, .inl ⟨HNO.out, .inr rfl⟩, G.out⟩ | exact ⟨.inl ⟨HNO.out, .inr rfl⟩, G.out⟩
        · obtain ⟨pw, rfl, hcont, how⟩ := hv.get
          obtain ⟨ta, ka, kc, key, ra, rc, RR⟩ := pw
          have HNXT := Lib.hid (show listP most writeP R0 = addP (fs ++ [cont ⟨ta, ka, kc, key, ra, rc, RR⟩]) (manyP writeP (c0 - (k + 1)) R') by rw [HL.out.2, hcont]; exact manyP_next hkc fs h1)
          have X4 := Lib.hid (BX3.out.gr g1 (by omega))
          have HOW := Lib.hid how
          have HS4 := Lib.hid h3
          have G4 := Lib.hid g1
          have hs4 : Nx + 1 ≤ w4.heap.size := by rw [hs3]; exact g1.size
          obtain ⟨kl, hkl⟩ : ∃ kl, key.length = kl := ⟨_, rfl⟩
          obtain ⟨rl, hrl⟩ : ∃ rl, RR.length = rl := ⟨_, rfl⟩
          have HKR := Lib.hid (show (WtP.mk ta ka kc key ra rc RR).cells = [.int .i64 ta, .slice ka kl kc, .slice ra rl rc] by simp only [WtP.cells, hkl, hrl])
          simp only [WtP.v]
          rw [hkl, hrl]
          clear hv h3 g1 how h1 hcont BX3 RO hkl hrl
          have x0 := X4.out.cell 0
          have x1 := X4.out.cell 1
          have x2 := X4.out.cell 2
          have f0 := X4.out.frozen 0
          have f1 := X4.out.frozen 1
          have f2 := X4.out.frozen 2
          simp only [List.getElem?_toArray, List.getElem?_cons_zero, List.getElem?_cons_succ] at x0 x1 x2
          have X5 := Lib.hid (((X4.out.put 0 (.int .i64 ta)).put 1 (.slice ka kl kc)).put 2 (.slice ra rl rc))
          have G5 := Lib.hid (show w4.grownBy (((w4.setCell ⟨Nx, 0, none⟩ (.int .i64 ta)).setCell ⟨Nx, 1, none⟩ (.slice ka kl kc)).setCell ⟨Nx, 2, none⟩ (.slice ra rl rc)) (some Nx) from oth_trans (oth_set _ _ _ _) (oth_trans (oth_set _ _ _ _) (oth_set _ _ _ _)))
          have B5 := Lib.hid ((((Below.refl Nx w4).setCell (p := ⟨Nx, 0, none⟩) (Nat.le_refl _) (.int .i64 ta)).setCell (p := ⟨Nx, 1, none⟩) (Nat.le_refl _) (.slice ka kl kc)).setCell (p := ⟨Nx, 2, none⟩) (Nat.le_refl _) (.slice ra rl rc))
          have hs5 : (((w4.setCell ⟨Nx, 0, none⟩ (.int .i64 ta)).setCell ⟨Nx, 1, none⟩ (.slice ka kl kc)).setCell ⟨Nx, 2, none⟩ (.slice ra rl rc)).heap.size = w4.heap.size := by simp [World.setCell]
          go_upto_region 11 with (fail)
          clear x0 x1 x2 f0 f1 f2
          generalize (((w4.setCell ⟨Nx, 0, none⟩ (.int .i64 ta)).setCell ⟨Nx, 1, none⟩ (.slice ka kl kc)).setCell ⟨Nx, 2, none⟩ (.slice ra rl rc)) = W5 at *
          -- from the round's beginning to here: the reader's block alone, and new ones
          have gr5 : wr.grownBy W5 (some B) := by
            have a := oth_trans (oth_below B HB3.out) G4.out
            exact grown_below a (by rw [HNX.out]; exact B5.out)
          have HSB := HSZ2.out
          have HO5 := HO.out.oth (by omega : B < W.heap.size + 1) gr5
          have HOW5 := Lib.hid ((HOW.out.oth (B := Nx) (by omega) G5.out).base (by omega : W.heap.size + 1 ≤ W3.heap.size))
          have HS5 := Lib.hid (HS4.out.below1 (B5.out.mono (by omega)))
          have FX5 := Lib.hid (gr5.cell FX.out (by intro e; injection e with e'; exact hne e'))
          have HG5 := Lib.hid (oth_trans HG.out gr5)
          have hs5' : W.heap.size + 1 ≤ W5.heap.size := by omega
          have HZ5 := Lib.hid hs5'
          obtain ⟨ps, hp1, hp2, hp3⟩ := HO5
          rw [HL.out.1] at hp2
          have HP1 := Lib.hid hp1
          have HP2 := Lib.hid hp2
          have HP3 := Lib.hid hp3
          have y0 := X5.out.cell 0
          have y1 := X5.out.cell 1
          have y2 := X5.out.cell 2
          simp at y0 y1 y2
          have hal : Below (W.heap.size + 1) W5 (W5.alloc (.cells #[.int .i64 ta, .slice ka kl kc, .slice ra rl rc] 86)) := (Below.refl _ W5).alloc hs5' _
          have HAL := Lib.hid hal
          clear gr5 HOW HS4 G4 B5 G5 X4 HO HS FX HG hp1 hp2 hp3 HB3 hal hs5
          go_wp2_with (at_builtin; refine wpList_append_own _ rfl (.tmp 44) (.tmp 46) 60 rfl (W.heap.size + 1) 86 i0 (.agg #[.int .i64 0, .slice none 0 0, .slice none 0 0]) 3 56 Tryz.underlying60 hi hz0 hz1 hz2 rfl (by decide) _ k (wcells ps) rfl (HP2.out.alloc _) ⟨W5.heap.size, 0, none⟩ 1 1 [.int .i64 ta, .slice ka kl kc, .slice ra rl rc] rfl rfl (by intro j u hj; match j, hj with | 0, hj => (simp at hj; subst hj; simp [Addr.add, go_sem]) | 1, hj => (simp at hj; subst hj; simp [Addr.add, go_sem]) | 2, hj => (simp at hj; subst hj; simp [Addr.add, go_sem]) | j + 3, hj => simp at hj) (by intro u hu; simp at hu; rcases hu with rfl | rfl | rfl <;> rfl) (by unfold maxLen; omega) (by omega) (by simp; omega) ?_)
          intro v6 w6 hown6 hgrow6 _
          have b6 : Below (W.heap.size + 1) W5 w6 := HAL.out.grown hgrow6 (by simp; omega) (fun j hj => (HP2.out.lt j hj).1)
          have HO6 := Lib.hid (WritesO.snoc (p := ⟨ta, ka, kc, key, ra, rc, RR⟩) HP1.out HL.out.1 (HP2.out.alloc _) (fun q hq => (HP3.out q hq).below (bl1 _ _)) (HOW5.out.below (bl1 _ _)) (by rw [HKR.out]; exact hown6) hgrow6)
          have HR6 := Lib.hid (HS5.out.below1 (b6.mono (by omega)))
          have FX6 := Lib.hid ((b6.cell (p := ⟨Bx, 0, none⟩) (by simp; omega)).trans FX5.out)
          have HG6 := Lib.hid (grown_below HG5.out (b6.mono (by omega)))
          have HSZ6 := Lib.hid (show W.heap.size + 1 ≤ w6.heap.size from Nat.le_trans HZ5.out b6.size)
          have HL6 := Lib.hid (show (fs ++ [cont ⟨ta, ka, kc, key, ra, rc, RR⟩]).length = k + 1 by rw [List.length_append, HL.out.1]; rfl)
          clear b6 hown6 hgrow6
          go_wp2_with fail
          go_roundw
          case rel => exact ⟨rfl, k + 1, fs ++ [cont ⟨ta, ka, kc, key, ra, rc, RR⟩], R', by omega, by go_num, Lib.hid ⟨HL6.out, HNXT.out⟩, HO6, HR6, FX6, HG6, HSZ6⟩
          case measure => simp [intOf]; omega
      · have hkci : ¬ (k : Int) < (c0 : Int) := by omega
        have ekc : c0 - k = 0 := by omega
        have HYES := Lib.hid (show listP most writeP R0 = some (fs, Rk) by rw [HL.out.2, ekc]; simp [manyP, addP])
        clear ekc
        go_wp2_with fail
        go_ret2
        exact ⟨.inr ⟨fs, Rk, _, HYES.out, rfl, HO.out.base (by omega), HS.out⟩, HG.out⟩
end Go.Proofs.YtglkndoghnblcaaGreatDoor
namespace Go.Proofs.YtglkndoghnblcaaGreatDoor
open Go.ChangeShapes Go.WideShapes Go.ChangeAt Go.RowKit
set_option linter.unusedVariables false
set_option linter.unusedSimpArgs false
theorem own_form {w : World} {base n s : Nat} {e : TypeId} {v : Value} {xs : List Value} (h : w.ownsRow base e s v n xs) : ∃ a c, v = .slice a n c := by
  rcases h.2 with ⟨rfl, rfl⟩ | ⟨g, cap, cur, rfl, _⟩
  · exact ⟨_, _, rfl⟩
  · exact ⟨_, _, rfl⟩
set_option maxRecDepth 100000 in
set_option maxHeartbeats 4000000 in
/-- list at writes (123). -/
theorem listwrites_law {W : World} {B : Nat} {R : List Int} (h : RdS W B R) (most : Nat) (hm : most ≤ 1000000) :
    Calls Tryz.prog 108 #[.pointer (some ⟨B, 0, none⟩), .int .i64 (most : Int), .func (.func 109) #[] #[]] W (GetR W B (listP most writeP R) (fun x w' v => WritesO w' W.heap.size x v)) := by
  have hmf : ∀ (fn : Fn) (first cap : Array Value) (w : World), (Instr.makeFunc fn first cap).run Tryz.prog w = .ok (.func fn first cap) w := fun _ _ _ _ => rfl
  have hlt := h.lt
  have HR := Lib.hid h
  clear h
  go_enter Tryz.func108, Tryz.ntmps108
  go_upto_region 1 with (fail)
  obtain ⟨W1, hW1⟩ : ∃ W1, W.alloc (.cells #[.func (.func 109) #[] #[]] 167) = W1 := ⟨_, rfl⟩
  have hb1 : Below W.heap.size W W1 := by rw [← hW1]; exact bl1 _ _
  have hx1 : W1.cell? ⟨W.heap.size, 0, none⟩ = some (.func (.func 109) #[] #[]) := by rw [← hW1, cell_new]; rfl
  have hsz : W1.heap.size = W.heap.size + 1 := by rw [← hW1]; simp
  try rw [hW1]
  clear hW1
  have HT := Lib.hid (takewrites_law (HR.out.below hb1) hx1 (by omega) most hm)
  have HB1 := Lib.hid hb1
  clear hb1 hx1
  go_wp2_with fail
  refine HT.out.mono ?_
  rintro r w2 ⟨⟨e1, ⟨e, he, rfl⟩ | rfl⟩ | ⟨xs, R2, v, e1, rfl, hv, r2⟩, g2⟩
  · have HX := Lib.hid e1
    have G := Lib.hid (oth_trans (oth_below B HB1.out) g2)
    have HE := Lib.hid he.ne.2.2
    clear e1 g2 he
    go_wp2_with fail
    refine (must_writes_no _ e HE.out _).mono ?_
    rintro r w' ⟨rfl, rfl⟩
    go_wp2_with fail
    first | exact ⟨rfl, .inl ⟨HX.out, rfl⟩, G.out⟩ | exact ⟨.inl ⟨HX.out, rfl⟩, G.out⟩
  · have HX := Lib.hid e1
    have G := Lib.hid (oth_trans (oth_below B HB1.out) g2)
    clear e1 g2
    go_wp2_with fail
    first | exact ⟨rfl, .inl ⟨HX.out, rfl⟩, G.out⟩ | exact ⟨.inl ⟨HX.out, rfl⟩, G.out⟩
  · have HX := Lib.hid e1
    have G := Lib.hid (oth_trans (oth_below B HB1.out) g2)
    have HV := Lib.hid (hv.base HB1.out.size)
    have HS := Lib.hid r2
    clear e1 g2 hv r2
    go_wp2_with fail
    refine (must_writes_ok _ _).mono ?_
    rintro r w' ⟨rfl, rfl⟩
    go_wp2_with fail
    go_ret
    exact ⟨.inr ⟨_, _, _, HX.out, rfl, HV.out, HS.out⟩, G.out⟩
abbrev Tx3 := (Nat × Nat) × List Wr3
def txnP (L : List Int) : Option (Tx3 × List Int) := match tidP L with
  | some (t, r) => (match listP 16 writeP r with
    | some (xs, r') => some ((t, xs), r')
    | none => none)
  | none => none
theorem txnP_1 {L : List Int} (h : tidP L = none) : txnP L = none := by unfold txnP; rw [h]
theorem txnP_2 {L r : List Int} {t : Nat × Nat} (h : tidP L = some (t, r)) (k : listP 16 writeP r = none) : txnP L = none := by unfold txnP; rw [h]; simp only; rw [k]
theorem txnP_3 {L r r' : List Int} {t : Nat × Nat} {xs : List Wr3} (h : tidP L = some (t, r)) (k : listP 16 writeP r = some (xs, r')) : txnP L = some ((t, xs), r') := by unfold txnP; rw [h]; simp only; rw [k]
/-- A transaction that was read. -/
def TxO (w : World) (base : Nat) (x : Tx3) (v : Value) : Prop := ∃ a c, v = .agg #[.int .i64 (x.1.1 : Int), .int .i64 (x.1.2 : Int), .slice a x.2.length c] ∧ WritesO w base x.2 (.slice a x.2.length c)
set_option maxRecDepth 100000 in
set_option maxHeartbeats 4000000 in
/-- txn (59). -/
theorem txn_law {W : World} {B : Nat} {R : List Int} (h : RdS W B R) :
    Calls Tryz.prog 56 #[.pointer (some ⟨B, 0, none⟩)] W (GetR W B (txnP R) (fun x w' v => TxO w' W.heap.size x v)) := by
  have hlt := h.lt
  have HR := Lib.hid h
  clear h
  go_enter Tryz.func56, Tryz.ntmps56
  go_upto_region 1 with (fail)
  obtain ⟨W1, hW1⟩ : ∃ W1, W.alloc (.cells #[.int .i64 0, .int .i64 0, .slice none 0 0] 62) = W1 := ⟨_, rfl⟩
  have hb1 : Below W.heap.size W W1 := by rw [← hW1]; exact bl1 _ _
  have bx : BoxC W1 W.heap.size #[.int .i64 0, .int .i64 0, .slice none 0 0] 62 := by rw [← hW1]; exact BoxC.new W _ 62
  have hsz : W1.heap.size = W.heap.size + 1 := by rw [← hW1]; simp
  try rw [hW1]
  clear hW1
  obtain ⟨N0, hN0⟩ : ∃ N, W.heap.size = N := ⟨_, rfl⟩
  have HT := Lib.hid (tid_law (HR.out.below hb1))
  have HB1 := Lib.hid hb1
  have HN0 := Lib.hid hN0
  rw [hN0] at hsz hlt bx ⊢
  have BX := Lib.hid bx
  clear hb1 bx hN0
  go_wp2_with fail
  refine HT.out.mono ?_
  rintro r w2 ⟨⟨e1, rfl⟩ | ⟨⟨e, s⟩, R2, v, e1, rfl, rfl, r2⟩, g2⟩
  · have HX := Lib.hid (txnP_1 e1)
    have G := Lib.hid (oth_trans (oth_below B HB1.out) g2)
    clear e1 g2
    go_wp2_with fail
    first | exact ⟨rfl, .inl ⟨HX.out, rfl⟩, G.out⟩ | exact ⟨.inl ⟨HX.out, rfl⟩, G.out⟩
  have E1 := Lib.hid e1
  have G2 := Lib.hid g2
  have HL := Lib.hid (listwrites_law r2 16 (by decide))
  have hs2 : N0 + 1 ≤ w2.heap.size := by rw [← hsz]; exact g2.size
  clear e1 g2 r2 HT
  go_wp2_with fail
  refine HL.out.mono ?_
  rintro r w3 ⟨⟨e2, rfl⟩ | ⟨xs, R3, v, e2, rfl, hv, r3⟩, g3⟩
  · have HX := Lib.hid (txnP_2 E1.out e2)
    have G := Lib.hid (oth_trans (oth_below B HB1.out) (oth_trans G2.out g3))
    clear e2 g3
    go_wp2_with fail
    first | exact ⟨rfl, .inl ⟨HX.out, rfl⟩, G.out⟩ | exact ⟨.inl ⟨HX.out, rfl⟩, G.out⟩
  have HX := Lib.hid (txnP_3 E1.out e2)
  have G3 := Lib.hid (oth_trans (oth_below B HB1.out) (oth_trans G2.out g3))
  obtain ⟨a, c, rfl⟩ : ∃ a c, v = .slice a xs.length c := by obtain ⟨ps, h1, h2, h3⟩ := hv; exact own_form h2
  have HV := Lib.hid (hv.base hs2)
  have R3' := Lib.hid r3
  have X3 := Lib.hid (BX.out.gr (oth_trans G2.out g3) (by omega))
  obtain ⟨xl, hxl⟩ : ∃ xl, xs.length = xl := ⟨_, rfl⟩
  have HXL := Lib.hid hxl
  rw [hxl] at HV ⊢
  clear e2 g3 hv r3 hxl BX HL
  have x0 := X3.out.cell 0
  have x1 := X3.out.cell 1
  have x2 := X3.out.cell 2
  have f0 := X3.out.frozen 0
  have f1 := X3.out.frozen 1
  have f2 := X3.out.frozen 2
  simp only [List.getElem?_toArray, List.getElem?_cons_zero, List.getElem?_cons_succ] at x0 x1 x2
  have HX9 := Lib.hid (((X3.out.put 0 (.int .i64 (e : Int))).put 1 (.int .i64 (s : Int))).put 2 (.slice a xl c))
  have H9 := Lib.hid (show w3.grownBy (((w3.setCell ⟨N0, 0, none⟩ (.int .i64 (e : Int))).setCell ⟨N0, 1, none⟩ (.int .i64 (s : Int))).setCell ⟨N0, 2, none⟩ (.slice a xl c)) (some N0) from oth_trans (oth_set _ _ _ _) (oth_trans (oth_set _ _ _ _) (oth_set _ _ _ _)))
  have HB9 := Lib.hid ((((Below.refl N0 w3).setCell (p := ⟨N0, 0, none⟩) (Nat.le_refl _) (.int .i64 (e : Int))).setCell (p := ⟨N0, 1, none⟩) (Nat.le_refl _) (.int .i64 (s : Int))).setCell (p := ⟨N0, 2, none⟩) (Nat.le_refl _) (.slice a xl c))
  go_wp2_with fail
  clear x0 x1 x2 f0 f1 f2
  generalize (((w3.setCell ⟨N0, 0, none⟩ (.int .i64 (e : Int))).setCell ⟨N0, 1, none⟩ (.int .i64 (s : Int))).setCell ⟨N0, 2, none⟩ (.slice a xl c)) = W9 at *
  refine bodyPost_ret (v := .agg #[.int .i64 (e : Int), .int .i64 (s : Int), .slice a xl c]) ?_ rfl ⟨.inr ⟨_, _, _, HX.out, rfl, ⟨a, c, by simp only [HXL.out], ?_⟩, R3'.out.below1 (HB9.out.mono (by omega))⟩, grown_below G3.out (by rw [HN0.out]; exact HB9.out)⟩
  · have x0 := HX9.out.cell 0
    have x1 := HX9.out.cell 1
    have x2 := HX9.out.cell 2
    simp at x0 x1 x2
    simp [results, Tryz.results56, go_sem, x0, x1, x2]
  · rw [HN0.out]
    simp only
    rw [HXL.out]
    exact (HV.out.oth (by omega) H9.out).base (by omega)
end Go.Proofs.YtglkndoghnblcaaGreatDoor
namespace Go.Proofs.YtglkndoghnblcaaGreatDoor
open Go.ChangeShapes Go.WideShapes Go.ChangeAt Go.RowKit
set_option linter.unusedVariables false
set_option linter.unusedSimpArgs false
/-- What a payload gave up with, caught. -/
def caughtP : List PanicEntry := [{ v := .iface 172 (.agg #[]), recovered := true }]
set_option maxRecDepth 100000 in
set_option maxHeartbeats 4000000 in
/-- read's deferred function, where something gave up (118). -/
theorem catchtx_panic (b4 b5 N : Nat) (w : World) (e s y : Int) (a : Option Addr) (n c : Nat) (x4 : BoxC w b4 #[.int .i64 e, .int .i64 s, .slice a n c] 62) (x5 : BoxC w b5 #[.int .i64 y] 26) (hne : b4 ≠ b5) (h4 : N ≤ b4) (h5 : N ≤ b5) :
    CallsD Tryz.prog 103 #[.pointer (some ⟨b4, 0, none⟩), .pointer (some ⟨b5, 0, none⟩)] (.panicking badP) w fun e u' w' => e = .returned (.tuple #[]) ∧ u' = .panicking caughtP ∧ BoxC w' b4 #[.int .i64 0, .int .i64 0, .slice none 0 0] 62 ∧ BoxC w' b5 #[.int .i64 4] 26 ∧ Below N w w' := by
  have hl4 := x4.lt
  have hl5 := x5.lt
  refine callsD_of_wpS Tryz.func103 rfl fun c₀ cs hu => ?_
  apply wpS_seq
  apply wpS_region
  simp [wpOpsS, go_sem, recoverD, hu, Tryz.ntmps103, Exit.thenS, badP]
  refine wpS_of_wp ?_
  go_upto_region 3 with (fail)
  obtain ⟨W1, hW1⟩ : ∃ W1, w.alloc (.cells #[.int .i64 0, .int .i64 0, .slice none 0 0] 62) = W1 := ⟨_, rfl⟩
  have hb : Below w.heap.size w W1 := by rw [← hW1]; exact bl1 _ _
  have bx : BoxC W1 w.heap.size #[.int .i64 0, .int .i64 0, .slice none 0 0] 62 := by rw [← hW1]; exact BoxC.new _ _ _
  try rw [hW1]
  clear hW1
  have z4 := x4.below hb
  have z5 := x5.below hb
  have c0 := z4.cell 0
  have c1 := z4.cell 1
  have c2 := z4.cell 2
  have f0 := z4.frozen 0
  have f1 := z4.frozen 1
  have f2 := z4.frozen 2
  have d0 := z5.cell 0
  have g0 := z5.frozen 0
  have q0 := bx.cell 0
  have q1 := bx.cell 1
  have q2 := bx.cell 2
  simp only [List.getElem?_toArray, List.getElem?_cons_zero, List.getElem?_cons_succ] at c0 c1 c2 d0 q0 q1 q2
  have X4 := Lib.hid (BoxC.oth (i := 0) (v := .int .i64 4) (Ne.symm hne) (((z4.put 0 (.int .i64 0)).put 1 (.int .i64 0)).put 2 (.slice none 0 0)))
  have X5 := Lib.hid ((BoxC.oth (i := 2) (v := .slice none 0 0) hne (BoxC.oth (i := 1) (v := .int .i64 0) hne (BoxC.oth (i := 0) (v := .int .i64 0) hne z5))).put 0 (.int .i64 4))
  have HB := Lib.hid ((((((hb.mono (show N ≤ w.heap.size by omega)).setCell (p := ⟨b4, 0, none⟩) h4 (.int .i64 0)).setCell (p := ⟨b4, 1, none⟩) h4 (.int .i64 0)).setCell (p := ⟨b4, 2, none⟩) h4 (.slice none 0 0)).setCell (p := ⟨b5, 0, none⟩) h5 (.int .i64 4)))
  clear x4 x5 hb bx z4 z5
  go_wp2
  generalize ((((W1.setCell ⟨b4, 0, none⟩ (.int .i64 0)).setCell ⟨b4, 1, none⟩ (.int .i64 0)).setCell ⟨b4, 2, none⟩ (.slice none 0 0)).setCell ⟨b5, 0, none⟩ (.int .i64 4)) = W9 at *
  have Y4 : BoxC W9 b4 #[.int .i64 0, .int .i64 0, .slice none 0 0] 62 := X4.out
  have Y5 : BoxC W9 b5 #[.int .i64 4] 26 := X5.out
  have YB := HB.out
  simp [bodyPostS, results, Tryz.results103, caughtP]
  exact ⟨Y4, Y5, YB⟩
set_option maxRecDepth 100000 in
set_option maxHeartbeats 4000000 in
/-- read's deferred function, where nothing gave up (118). -/
theorem catchtx_idle (b4 b5 : Nat) (w : World) :
    CallsD Tryz.prog 103 #[.pointer (some ⟨b4, 0, none⟩), .pointer (some ⟨b5, 0, none⟩)] .returning w fun e u' w' => e = .returned (.tuple #[]) ∧ u' = .returning ∧ w' = w := by
  refine callsD_of_wpS Tryz.func103 rfl fun c₀ cs hu => ?_
  apply wpS_seq
  apply wpS_region
  simp [wpOpsS, go_sem, recoverD, hu, Tryz.ntmps103, Exit.thenS]
  refine wpS_of_wp ?_
  go_wp2
  cases c₀
  simp_all [bodyPostS, results, Tryz.results103]
end Go.Proofs.YtglkndoghnblcaaGreatDoor
namespace Go.Proofs.YtglkndoghnblcaaGreatDoor
open Go.ChangeShapes Go.WideShapes Go.ChangeAt Go.RowKit
set_option linter.unusedVariables false
set_option linter.unusedSimpArgs false
theorem leaves_put {P : Program} {fn : Func} {t1 t2 : Array Value} {R : Ending → World → Prop} (hr : ∀ w, (results fn t2).run P w = (results fn t1).run P w) : ∀ (ds : List Deferred) (u : FrameMode) (w : World), Leaves P fn t1 R ds u w → Leaves P fn t2 R ds u w
  | [], .returning, w, ⟨v, h1, h2⟩ => ⟨v, by rw [hr]; exact h1, h2⟩
  | [], .panicking c, w, h => h
  | [], .run, w, h => h
  | d :: ds, u, w, ⟨h1, fv, cap, f, args, h2, h3, h4⟩ => ⟨h1, fv, cap, f, args, h2, h3, h4.mono (fun e u' w' h => by
      cases e with
      | returned v => exact leaves_put hr ds _ _ h
      | panicked c => exact leaves_put hr ds _ _ h
      | outgrown => exact h)⟩
theorem put58 {R : Ending → World → Prop} {i : Nat} (hi : i ≠ 4 ∧ i ≠ 5) {v : Value} {c : List PanicEntry} {a : Act} {w : World} (h : bodyPostD Tryz.prog Tryz.f55 R (.panic c) (a.put (some i) v) w) : bodyPostD Tryz.prog Tryz.f55 R (.panic c) a w := by
  refine leaves_put (fun w => ?_) _ _ _ h
  have e4 : (a.tmps.setIfInBounds i v)[4]? = a.tmps[4]? := Array.getElem?_setIfInBounds_ne hi.1
  have e5 : (a.tmps.setIfInBounds i v)[5]? = a.tmps[5]? := Array.getElem?_setIfInBounds_ne hi.2
  simp [results, Tryz.results55, Act.put, e4, e5]
theorem RdS.setbox {w w' : World} {B N : Nat} {R : List Int} {cs : Array Value} {t : TypeId} (h : RdS w B R) (hx : BoxC w N cs t) (hno : ∀ (i : Nat) (x : Int), cs[i]? ≠ some (.int .u8 x)) (hNB : N ≠ B) (g : w.grownBy w' (some N)) : RdS w' B R := by
  obtain ⟨ad, cap, n, L, p, h1, h2, h3, h4⟩ := h
  have hb := g.block B h1.lt (by intro e; injection e with e'; exact hNB e'.symm)
  refine ⟨ad, cap, n, L, p, ⟨h1.len, (World.cell?_of_block (a := ⟨B, 0, none⟩) hb).trans h1.c0, (World.cell?_of_block (a := ⟨B, 1, none⟩) hb).trans h1.c1, (World.cell?_of_block (a := ⟨B, 2, none⟩) hb).trans h1.c2, (World.frozen?_of_block (a := ⟨B, 0, none⟩) hb).trans h1.f0, (World.frozen?_of_block (a := ⟨B, 1, none⟩) hb).trans h1.f1, (World.frozen?_of_block (a := ⟨B, 2, none⟩) hb).trans h1.f2, fun W2 q2 => ⟨fun k hk => ?_, h1.here.nl, h1.here.le⟩, h1.le, h1.apart⟩, h2, h3, h4⟩
  obtain ⟨b, off, e, c⟩ := h1.here.rd k hk
  refine ⟨b, off, e, ?_⟩
  rw [q2 k b off e]
  refine (World.cell?_of_block (a := ⟨b, off + k, none⟩) (g.block b (cell_lt c) ?_)).trans c
  intro e'
  injection e' with e'
  subst e'
  rw [hx.cell (off + k)] at c
  exact hno _ _ c
/-- What stands while read ends. -/
structure TxS (N B e s : Nat) (a : Option Addr) (xl c : Nat) (w4 : World) (xs : List Wr3) (R3 : List Int) (X : World) : Prop where
  b4 : BoxC X N #[.int .i64 (e : Int), .int .i64 (s : Int), .slice a xl c] 62
  b5 : ∃ y : Int, BoxC X (N + 1) #[.int .i64 y] 26
  bel : Below N w4 X
  wr : WritesO X (N + 1 + 1) xs (.slice a xl c)
  rds : RdS X B R3
  sz : N + 1 + 1 ≤ X.heap.size
theorem TxS.below {N B e s : Nat} {a : Option Addr} {xl c : Nat} {w4 X X' : World} {xs : List Wr3} {R3 : List Int} (h : TxS N B e s a xl c w4 xs R3 X) (b : Below X.heap.size X X') : TxS N B e s a xl c w4 xs R3 X' :=
  ⟨h.b4.below b, h.b5.imp fun y hy => hy.below b, h.bel.trans (b.mono (Nat.le_trans (by omega) h.sz)), h.wr.below b, h.rds.below b, Nat.le_trans h.sz b.size⟩
theorem no8 (e s : Int) (a : Option Addr) (xl c : Nat) : ∀ (i : Nat) (x : Int), (#[.int .i64 e, .int .i64 s, .slice a xl c] : Array Value)[i]? ≠ some (.int .u8 x) := by
  intro i x h
  match i, h with
  | 0, h => simp at h
  | 1, h => simp at h
  | 2, h => simp at h
  | i + 3, h => simp at h
theorem no1 (y : Int) : ∀ (i : Nat) (x : Int), (#[.int .i64 y] : Array Value)[i]? ≠ some (.int .u8 x) := by
  intro i x h
  match i, h with
  | 0, h => simp at h
  | i + 1, h => simp at h
theorem st4 {N B e s : Nat} {a : Option Addr} {xl c : Nat} {w4 X : World} {xs : List Wr3} {R3 : List Int} (h : TxS N B e s a xl c w4 xs R3 X) (hNB : N + 1 < B) : TxS N B e s a xl c w4 xs R3 (((X.setCell ⟨N, 0, none⟩ (.int .i64 (e : Int))).setCell ⟨N, 1, none⟩ (.int .i64 (s : Int))).setCell ⟨N, 2, none⟩ (.slice a xl c)) := by
  have g : X.grownBy (((X.setCell ⟨N, 0, none⟩ (.int .i64 (e : Int))).setCell ⟨N, 1, none⟩ (.int .i64 (s : Int))).setCell ⟨N, 2, none⟩ (.slice a xl c)) (some N) := oth_trans (oth_set _ _ _ _) (oth_trans (oth_set _ _ _ _) (oth_set _ _ _ _))
  exact ⟨((h.b4.put 0 (.int .i64 (e : Int))).put 1 (.int .i64 (s : Int))).put 2 (.slice a xl c), h.b5.imp fun y hy => hy.gr g (by omega), ((h.bel.setCell (p := ⟨N, 0, none⟩) (Nat.le_refl _) _).setCell (p := ⟨N, 1, none⟩) (Nat.le_refl _) _).setCell (p := ⟨N, 2, none⟩) (Nat.le_refl _) _, h.wr.oth (by omega) g, h.rds.setbox h.b4 (no8 _ _ _ _ _) (by omega) g, Nat.le_trans h.sz g.size⟩
theorem st5 {N B e s : Nat} {a : Option Addr} {xl c : Nat} {w4 X : World} {xs : List Wr3} {R3 : List Int} (h : TxS N B e s a xl c w4 xs R3 X) (hNB : N + 1 < B) : TxS N B e s a xl c w4 xs R3 (X.setCell ⟨N + 1, 0, none⟩ (.int .i64 0)) := by
  have g : X.grownBy (X.setCell ⟨N + 1, 0, none⟩ (.int .i64 0)) (some (N + 1)) := oth_set _ _ _ _
  obtain ⟨y, hy⟩ := h.b5
  exact ⟨h.b4.gr g (by omega), ⟨0, hy.put 0 (.int .i64 0)⟩, h.bel.setCell (p := ⟨N + 1, 0, none⟩) (by simp) _, h.wr.oth (by omega) g, h.rds.setbox hy (no1 y) (by omega) g, Nat.le_trans h.sz g.size⟩
/-- A payload that is read: the thing, with nothing behind it. -/
def readP {α : Type} (o : Option (α × List Int)) : Option α := match o with
  | some (x, r) => if r = [] then some x else none
  | none => none
theorem readP_1 {α : Type} {o : Option (α × List Int)} (h : o = none) : readP o = none := by rw [h]; rfl
theorem readP_2 {α : Type} {o : Option (α × List Int)} {x : α} {r : List Int} (h : o = some (x, r)) (hr : ¬ r = []) : readP o = none := by rw [h]; simp [readP, hr]
theorem readP_3 {α : Type} {o : Option (α × List Int)} {x : α} (h : o = some (x, [])) : readP o = some x := by rw [h]; simp [readP]
def RdTx (w : World) (o : Option Tx3) (r : Ending) (w' : World) : Prop :=
  ((o = none ∧ r = .returned (.tuple #[.agg #[.int .i64 0, .int .i64 0, .slice none 0 0], .int .i64 4])) ∨ ∃ x v, o = some x ∧ r = .returned (.tuple #[v, .int .i64 0]) ∧ TxO w' w.heap.size x v) ∧ Below w.heap.size w w'
set_option maxRecDepth 100000 in
set_option maxHeartbeats 4000000 in
/-- read at transactions (58). -/
theorem readtx_law (a0 : Option Addr) (L : List Int) (n cap : Nat) (hL : L.length = n) (hn : n ≤ 1000000) (hB : Byt L) (w : World) (hA : Ls .u8 w a0 cap L) :
    Calls Tryz.prog 55 #[.slice a0 n cap, .func (.func 56) #[] #[]] w (RdTx w (readP (txnP L))) := by
  have hmf : ∀ (fn : Fn) (first cap : Array Value) (w : World), (Instr.makeFunc fn first cap).run Tryz.prog w = .ok (.func fn first cap) w := fun _ _ _ _ => rfl
  have HA := Lib.hid (fun W (b : Below w.heap.size w W) => open_law a0 L n cap hL hn hB W (hA.below b))
  clear hL hn hB hA
  go_enter_defers Tryz.func55, Tryz.ntmps55
  go_upto_region 2 with (fail)
  obtain ⟨W1, hW1⟩ : ∃ W1, (w.alloc (.cells #[.int .i64 0, .int .i64 0, .slice none 0 0] 62)).alloc (.cells #[.int .i64 0] 26) = W1 := ⟨_, rfl⟩
  have hb1 : Below w.heap.size w W1 := by rw [← hW1]; exact step_below (bl1 _ _) (bl1 _ _)
  have x4 : BoxC W1 w.heap.size #[.int .i64 0, .int .i64 0, .slice none 0 0] 62 := by rw [← hW1]; exact (BoxC.new _ _ _).alloc _
  have x5 : BoxC W1 (w.heap.size + 1) #[.int .i64 0] 26 := by rw [← hW1]; have := BoxC.new (w.alloc (.cells #[.int .i64 0, .int .i64 0, .slice none 0 0] 62)) #[.int .i64 0] 26; simpa using this
  have hs1 : W1.heap.size = w.heap.size + 1 + 1 := by rw [← hW1]; simp
  try rw [hW1]
  clear hW1
  have HO := Lib.hid (HA.out _ hb1)
  have HB1 := Lib.hid hb1
  obtain ⟨N, hN⟩ : ∃ N, w.heap.size = N := ⟨_, rfl⟩
  have HN := Lib.hid hN
  rw [hN] at x4 x5 hs1 ⊢
  have X4 := Lib.hid x4
  have X5 := Lib.hid x5
  clear hb1 x4 x5 hN HA
  go_wp2_with fail
  refine HO.out.mono ?_; rintro e w2 ⟨B, rfl, r2, hB, B2⟩
  have X42 := Lib.hid (X4.out.below B2)
  have X52 := Lib.hid (X5.out.below B2)
  have HB2 := Lib.hid (step_below HB1.out B2)
  have HT := Lib.hid (txn_law r2)
  have hs2 : N + 1 + 1 ≤ w2.heap.size := by rw [← hs1]; exact B2.size
  clear X4 X5 HB1 r2 B2
  rw [hs1] at hB
  go_wp2_with fail
  refine HT.out.mono ?_
  rintro r w3 ⟨⟨e1, rfl⟩ | ⟨⟨⟨e, s⟩, xs⟩, R3, v, e1, rfl, hv, r3⟩, g3⟩
  · have HX := Lib.hid (readP_1 e1)
    have z4 := X42.out.gr g3 (by omega)
    have z5 := X52.out.gr g3 (by omega)
    have HB3 := Lib.hid (below_oth HB2.out g3 HB2.out.size (by rw [HN.out]; omega))
    clear g3 e1
    go_wp2_with fail
    refine leaves_cons (f := 103) (args := #[.pointer (some ⟨N, 0, none⟩), .pointer (some ⟨N + 1, 0, none⟩)]) (by simp) (by simp [go_sem]) ?_
    refine (catchtx_panic N (N + 1) N w3 _ _ _ _ _ _ z4 z5 (by omega) (Nat.le_refl _) (by omega)).mono ?_
    rintro e9 u' w9 ⟨rfl, rfl, q4, q5, HB9⟩
    have y0 := q4.cell 0
    have y1 := q4.cell 1
    have y2 := q4.cell 2
    have y3 := q5.cell 0
    simp only [List.getElem?_toArray, List.getElem?_cons_zero, List.getElem?_cons_succ] at y0 y1 y2 y3
    have HE := Lib.hid (show RdTx w (readP (txnP L)) (.returned (.tuple #[.agg #[.int .i64 0, .int .i64 0, .slice none 0 0], .int .i64 4])) w9 from ⟨.inl ⟨HX.out, rfl⟩, HB3.out.trans (by rw [HN.out]; exact HB9)⟩)
    simp [Leaves, settle, caughtP, results, Tryz.results55, go_sem, y0, y1, y2, y3]
    exact HE.out
  obtain ⟨a, c, rfl, hw⟩ := hv
  simp only at hw ⊢
  have E1 := Lib.hid e1
  have z4 := X42.out.gr g3 (by omega)
  have z5 := Lib.hid (X52.out.gr g3 (by omega))
  have HB3 := Lib.hid (below_oth HB2.out g3 HB2.out.size (by rw [HN.out]; omega))
  have hs3 : N + 1 + 1 ≤ w3.heap.size := Nat.le_trans hs2 g3.size
  obtain ⟨xl, hxl⟩ : ∃ xl, xs.length = xl := ⟨_, rfl⟩
  have HXL := Lib.hid hxl
  rw [hxl] at hw ⊢
  have HW3 := Lib.hid (hw.base hs2)
  have R3' := Lib.hid r3
  have x0 := z4.cell 0
  have x1 := z4.cell 1
  have x2 := z4.cell 2
  have f0 := z4.frozen 0
  have f1 := z4.frozen 1
  have f2 := z4.frozen 2
  simp only [List.getElem?_toArray, List.getElem?_cons_zero, List.getElem?_cons_succ] at x0 x1 x2
  have Y4 := Lib.hid (((z4.put 0 (.int .i64 (e : Int))).put 1 (.int .i64 (s : Int))).put 2 (.slice a xl c))
  have Y5 := Lib.hid (show BoxC (((w3.setCell ⟨N, 0, none⟩ (.int .i64 (e : Int))).setCell ⟨N, 1, none⟩ (.int .i64 (s : Int))).setCell ⟨N, 2, none⟩ (.slice a xl c)) (N + 1) #[.int .i64 0] 26 from BoxC.oth (by omega) (BoxC.oth (by omega) (BoxC.oth (by omega) z5.out)))
  have H9 := Lib.hid (show w3.grownBy (((w3.setCell ⟨N, 0, none⟩ (.int .i64 (e : Int))).setCell ⟨N, 1, none⟩ (.int .i64 (s : Int))).setCell ⟨N, 2, none⟩ (.slice a xl c)) (some N) from oth_trans (oth_set _ _ _ _) (oth_trans (oth_set _ _ _ _) (oth_set _ _ _ _)))
  have HB9 := Lib.hid ((((Below.refl N w3).setCell (p := ⟨N, 0, none⟩) (Nat.le_refl _) (.int .i64 (e : Int))).setCell (p := ⟨N, 1, none⟩) (Nat.le_refl _) (.int .i64 (s : Int))).setCell (p := ⟨N, 2, none⟩) (Nat.le_refl _) (.slice a xl c))
  have Z4 := Lib.hid z4
  clear z4 hw r3 hxl g3 e1 X42 X52 HB2 HT
  go_upto_region 4 with (fail)
  clear x0 x1 x2 f0 f1 f2
  generalize (((w3.setCell ⟨N, 0, none⟩ (.int .i64 (e : Int))).setCell ⟨N, 1, none⟩ (.int .i64 (s : Int))).setCell ⟨N, 2, none⟩ (.slice a xl c)) = w4 at *
  have hNB : N + 1 < B := by omega
  have hd : Below w4.heap.size w4 w4.drew := (Below.refl _ _).drew
  have FQ := Lib.hid (show TxS N B e s a xl c w4 xs R3 w4.drew from TxS.below ⟨Y4.out, ⟨0, Y5.out⟩, Below.refl _ _, HW3.out.oth (by omega) H9.out, R3'.out.setbox Z4.out (no8 _ _ _ _ _) (by omega) H9.out, Nat.le_trans hs3 H9.out.size⟩ hd)
  have HBA := Lib.hid (show Below N w w4 from by have := HB3.out; rw [HN.out] at this; exact this.trans HB9.out)
  clear hd Y4 Y5 H9 HB9 HW3 R3' z5 HB3 Z4
  by_cases hz : R3 = []
  · have HX := Lib.hid (readP_3 (by rw [E1.out, hz] : txnP L = some (((e, s), xs), [])))
    refine wp_region_held_drew (S := (TxS N B e s a xl c w4 xs R3)) (by kernel_rfl) (FQ.out) (fun hHeld => ?_)
    refine wpAnyH_take (i := 0) (oi := { dst := some 13, op := Op.load 62 (Operand.tmp 4), type := 62, pos := "forms.go:32", after := #[], guard := none }) (v := ?_) rfl (by kernel_rfl) (by kernel_rfl) (by kernel_rfl) (fun _ _ _ h => put58 (i := 13) (by decide) h) (Or.inl ⟨by rfl, ?_⟩) (by assumption) ?_
    rotate_left
    · intro W hSw; obtain ⟨z4, _⟩ := hSw; have y0 := z4.cell 0; have y1 := z4.cell 1; have y2 := z4.cell 2; simp only [List.getElem?_toArray, List.getElem?_cons_zero, List.getElem?_cons_succ] at y0 y1 y2; go_simp; try with_reducible rfl
    try simp only [Act.put, List.setIfInBounds_toArray, List.set_cons_zero, List.set_cons_succ]
    refine wpAnyH_take (i := 1) (oi := { dst := some 14, op := Op.move (Operand.tmp 6), type := 116, pos := "forms.go:32", after := #[], guard := none }) (v := ?_) rfl (by kernel_rfl) (by kernel_rfl) (by kernel_rfl) (fun _ _ _ h => put58 (i := 14) (by decide) h) (Or.inl ⟨by rfl, ?_⟩) (by assumption) ?_
    rotate_left
    · intro W hSw; go_simp; try with_reducible rfl
    try simp only [Act.put, List.setIfInBounds_toArray, List.set_cons_zero, List.set_cons_succ]
    refine a1 2 rfl (fun K hK => ?_)
    go_simp
    have HEN := Lib.hid (end_law hHeld.rds)
    rw [if_pos hz] at HEN
    refine (HEN.out).mono ?_; rintro e9 w5 ⟨rfl, hb3⟩
    go_wp2_with fail
    refine hK.out _ _ (hHeld.below hb3) (fun hHeldn => ?_)
    clear hK K hHeld; have hHeld := hHeldn; clear hHeldn
    try simp only [Act.put, List.setIfInBounds_toArray, List.set_cons_zero, List.set_cons_succ]
    refine a1 3 rfl (fun K hK => ?_)
    go_simp
    refine (must_errno_ok _ _).mono ?_; rintro e9 w6 ⟨rfl, rfl⟩
    go_wp2_with fail
    refine hK.out _ _ (hHeld) (fun hHeldn => ?_)
    clear hK K hHeld; have hHeld := hHeldn; clear hHeldn
    try simp only [Act.put, List.setIfInBounds_toArray, List.set_cons_zero, List.set_cons_succ]
    refine a1 4 rfl (fun K hK => ?_)
    have hHc := hHeld
    obtain ⟨z4, ⟨y9, z5⟩, zb, zt, zr, zs⟩ := hHeld
    have y0 := z4.cell 0; have y1 := z4.cell 1; have y2 := z4.cell 2; have f0 := z4.frozen 0; have f1 := z4.frozen 1; have f2 := z4.frozen 2; simp only [List.getElem?_toArray, List.getElem?_cons_zero, List.getElem?_cons_succ] at y0 y1 y2
    have SP4 := Lib.hid (st4 hHc hNB)
    clear hHc z4 z5 zb zt zr zs
    go_simp
    refine hK.out _ _ SP4.out (fun hHeldn => ?_)
    clear hK K y0 y1 y2 f0 f1 f2 SP4; have hHeld := hHeldn; clear hHeldn
    try simp only [Act.put, List.setIfInBounds_toArray, List.set_cons_zero, List.set_cons_succ]
    refine a1 5 rfl (fun K hK => ?_)
    have hHc := hHeld
    obtain ⟨z4, ⟨y8, z5⟩, zb, zt, zr, zs⟩ := hHeld
    have y0 := z5.cell 0; have f0 := z5.frozen 0; simp only [List.getElem?_toArray, List.getElem?_cons_zero, List.getElem?_cons_succ] at y0
    have SP5 := Lib.hid (st5 hHc hNB)
    have Z5 := Lib.hid (z5.put 0 (.int .i64 0))
    clear hHc z4 z5 zb zt zr zs
    go_simp
    refine hK.out _ _ SP5.out (fun hHeldn => ?_)
    clear hK K y0 f0 SP5; have hHeld := hHeldn; clear hHeldn
    try simp only [Act.put, List.setIfInBounds_toArray, List.set_cons_zero, List.set_cons_succ]
    refine wpAnyH_done (by kernel_rfl) ?_ _
    skip
    generalize ((((w5.setCell ⟨N, 0, none⟩ (.int .i64 (e : Int))).setCell ⟨N, 1, none⟩ (.int .i64 (s : Int))).setCell ⟨N, 2, none⟩ (.slice a xl c)).setCell ⟨N + 1, 0, none⟩ (.int .i64 0)) = W9 at *
    obtain ⟨q4, _, qb, qw, _, qs⟩ := hHeld
    have y0 := q4.cell 0
    have y1 := q4.cell 1
    have y2 := q4.cell 2
    have y3 := Z5.out.cell 0
    simp at y0 y1 y2 y3
    have HE := Lib.hid (show RdTx w (readP (txnP L)) (.returned (.tuple #[.agg #[.int .i64 (e : Int), .int .i64 (s : Int), .slice a xl c], .int .i64 0])) W9 from ⟨.inr ⟨_, _, HX.out, rfl, ⟨a, c, by simp only [HXL.out], by rw [HN.out]; simp only; rw [HXL.out]; exact qw.base (by omega)⟩⟩, by rw [HN.out]; exact HBA.out.trans qb⟩)
    clear q4 qb qw qs Z5
    go_wp2_with fail
    refine leaves_cons (f := 103) (args := #[.pointer (some ⟨N, 0, none⟩), .pointer (some ⟨N + 1, 0, none⟩)]) (by simp) (by simp [go_sem]) ?_
    refine (catchtx_idle N (N + 1) _).mono ?_
    rintro e9 u' w9 ⟨rfl, rfl, rfl⟩
    simp [Leaves, settle, results, Tryz.results55, go_sem, y0, y1, y2, y3]
    exact HE.out
  · have HX := Lib.hid (readP_2 E1.out hz)
    refine wp_region_held_drew (S := (TxS N B e s a xl c w4 xs R3)) (by kernel_rfl) (FQ.out) (fun hHeld => ?_)
    refine wpAnyH_take (i := 0) (oi := { dst := some 13, op := Op.load 62 (Operand.tmp 4), type := 62, pos := "forms.go:32", after := #[], guard := none }) (v := ?_) rfl (by kernel_rfl) (by kernel_rfl) (by kernel_rfl) (fun _ _ _ h => put58 (i := 13) (by decide) h) (Or.inl ⟨by rfl, ?_⟩) (by assumption) ?_
    rotate_left
    · intro W hSw; obtain ⟨z4, _⟩ := hSw; have y0 := z4.cell 0; have y1 := z4.cell 1; have y2 := z4.cell 2; simp only [List.getElem?_toArray, List.getElem?_cons_zero, List.getElem?_cons_succ] at y0 y1 y2; go_simp; try with_reducible rfl
    try simp only [Act.put, List.setIfInBounds_toArray, List.set_cons_zero, List.set_cons_succ]
    refine wpAnyH_take (i := 1) (oi := { dst := some 14, op := Op.move (Operand.tmp 6), type := 116, pos := "forms.go:32", after := #[], guard := none }) (v := ?_) rfl (by kernel_rfl) (by kernel_rfl) (by kernel_rfl) (fun _ _ _ h => put58 (i := 14) (by decide) h) (Or.inl ⟨by rfl, ?_⟩) (by assumption) ?_
    rotate_left
    · intro W hSw; go_simp; try with_reducible rfl
    try simp only [Act.put, List.setIfInBounds_toArray, List.set_cons_zero, List.set_cons_succ]
    refine a1 2 rfl (fun K hK => ?_)
    go_simp
    have HEN := Lib.hid (end_law hHeld.rds)
    rw [if_neg hz] at HEN
    refine (HEN.out).mono ?_; rintro e9 w5 ⟨rfl, hb3⟩
    go_wp2_with fail
    refine hK.out _ _ (hHeld.below hb3) (fun hHeldn => ?_)
    clear hK K hHeld; have hHeld := hHeldn; clear hHeldn
    try simp only [Act.put, List.setIfInBounds_toArray, List.set_cons_zero, List.set_cons_succ]
    refine a1 3 rfl (fun K hK => ?_)
    go_simp
    refine (must_errno_no _ 4 (by decide) _).mono ?_; rintro e9 w6 ⟨rfl, rfl⟩
    go_wp2_with fail
    obtain ⟨q4, ⟨y9, q5⟩, qb, _, _, _⟩ := hHeld
    have HQB := Lib.hid qb
    refine leaves_cons (f := 103) (args := #[.pointer (some ⟨N, 0, none⟩), .pointer (some ⟨N + 1, 0, none⟩)]) (by simp) (by simp [go_sem]) ?_
    refine (catchtx_panic N (N + 1) N _ _ _ _ _ _ _ q4 q5 (by omega) (Nat.le_refl _) (by omega)).mono ?_
    rintro e9 u' w9 ⟨rfl, rfl, q4, q5, HB9⟩
    have y0 := q4.cell 0
    have y1 := q4.cell 1
    have y2 := q4.cell 2
    have y3 := q5.cell 0
    simp only [List.getElem?_toArray, List.getElem?_cons_zero, List.getElem?_cons_succ] at y0 y1 y2 y3
    have HE := Lib.hid (show RdTx w (readP (txnP L)) (.returned (.tuple #[.agg #[.int .i64 0, .int .i64 0, .slice none 0 0], .int .i64 4])) w9 from ⟨.inl ⟨HX.out, rfl⟩, by rw [HN.out]; exact (HBA.out.trans HQB.out).trans HB9⟩)
    simp [Leaves, settle, caughtP, results, Tryz.results55, go_sem, y0, y1, y2, y3]
    exact HE.out
end Go.Proofs.YtglkndoghnblcaaGreatDoor
namespace Go.Proofs.YtglkndoghnblcaaGreatDoor
open Go.ChangeShapes Go.WideShapes Go.ChangeAt Go.RowKit
set_option linter.unusedVariables false
set_option linter.unusedSimpArgs false
theorem bytesP_all {most : Nat} {L b r : List Int} (hb : Byt L) (h : bytesP most L = some (b, r)) : Byt b ∧ b.length ≤ most ∧ Byt r := by
  obtain ⟨h1, h2⟩ := bytesP_inv hb h
  refine ⟨fun x hx => hb x (by rw [h2]; unfold bytesW; simp [hx]), h1, fun x hx => hb x (by rw [h2]; simp [hx])⟩
theorem flagP_all {L r : List Int} {f : Bool} (hb : Byt L) (h : flagP L = some (f, r)) : Byt r := by
  have := flagP_inv hb h
  exact fun x hx => hb x (by rw [this]; simp [hx])
theorem manyP_all {α : Type} {one : List Int → Option (α × List Int)} {P : α → Prop} (h1 : ∀ L x s, Byt L → one L = some (x, s) → P x ∧ Byt s) : ∀ (n : Nat) (L r : List Int) (xs : List α), Byt L → manyP one n L = some (xs, r) → (∀ x ∈ xs, P x) ∧ Byt r
  | 0, L, r, xs, hb, h => by cases h; exact ⟨fun x hx => (by cases hx), hb⟩
  | n + 1, L, r, xs, hb, h => by
    unfold manyP at h
    cases ho : one L with
    | none => rw [ho] at h; cases h
    | some p =>
      obtain ⟨x, s⟩ := p
      rw [ho] at h
      simp only at h
      obtain ⟨q1, q2⟩ := h1 L x s hb ho
      cases hm : manyP one n s with
      | none => rw [hm] at h; cases h
      | some q =>
        obtain ⟨ys, t⟩ := q
        rw [hm] at h
        cases h
        obtain ⟨k1, k2⟩ := manyP_all h1 n s r ys q2 hm
        refine ⟨fun y hy => ?_, k2⟩
        rcases List.mem_cons.1 hy with rfl | hy
        · exact q1
        · exact k1 y hy
theorem listP_all {α : Type} {one : List Int → Option (α × List Int)} {P : α → Prop} {most : Nat} (h1 : ∀ L x s, Byt L → one L = some (x, s) → P x ∧ Byt s) {L r : List Int} {xs : List α} (hb : Byt L) (h : listP most one L = some (xs, r)) : (∀ x ∈ xs, P x) ∧ xs.length ≤ most ∧ Byt r := by
  have hl := manyP_len h
  unfold listP at h
  cases hu : upP most L with
  | none => rw [hu] at h; cases h
  | some p =>
    obtain ⟨n, s⟩ := p
    rw [hu] at h
    obtain ⟨k1, k2⟩ := manyP_all h1 n s r xs (upP_rest hb hu) h
    exact ⟨k1, hl, k2⟩
theorem rowP_all {L : List Int} {fs : List (List Int)} (hb : Byt L) (h : rowP L = some fs) : (∀ f ∈ fs, Byt f) ∧ mayF fs = true := by
  unfold rowP at h
  cases hu : listP 3 (bytesP 24) L with
  | none => rw [hu] at h; cases h
  | some p =>
    obtain ⟨gs, s⟩ := p
    rw [hu] at h
    simp only at h
    split at h
    · rename_i hc
      cases h
      exact ⟨(listP_all (P := Byt) (fun L x s hb h => ⟨(bytesP_all hb h).1, (bytesP_all hb h).2.2⟩) hb hu).1, hc.2⟩
    · cases h
theorem arowP_all {L r : List Int} {fs : List (List Int)} (hb : Byt L) (h : arowP L = some (fs, r)) : (∀ f ∈ fs, Byt f) ∧ mayF fs = true ∧ Byt r := by
  unfold arowP at h
  cases hu : bytesP 4096 L with
  | none => rw [hu] at h; cases h
  | some p =>
    obtain ⟨b, s⟩ := p
    rw [hu] at h
    simp only at h
    obtain ⟨b1, b2, b3⟩ := bytesP_all hb hu
    cases hr : rowP b with
    | none => rw [hr] at h; cases h
    | some gs =>
      rw [hr] at h
      cases h
      obtain ⟨k1, k2⟩ := rowP_all b1 hr
      exact ⟨k1, k2, b3⟩
/-- What is known of a write that was read. -/
structure WrB (x : Wr3) : Prop where
  tab : x.1 ≤ 4
  kb : Byt x.2.1
  kl : x.2.1.length ≤ 32
  rb : ∀ f ∈ x.2.2, Byt f
  rm : x.2.2 = [] ∨ mayF x.2.2 = true
theorem upP_le {most v : Nat} {L r : List Int} (hb : Byt L) (h : upP most L = some (v, r)) : v ≤ most := (upP_inv hb h).1
theorem writeP_all {L r : List Int} {x : Wr3} (hb : Byt L) (h : writeP L = some (x, r)) : WrB x ∧ Byt r := by
  unfold writeP at h
  cases h1 : upP 4 L with
  | none => rw [h1] at h; cases h
  | some p =>
    obtain ⟨t, r1⟩ := p
    rw [h1] at h
    simp only at h
    have b1 := upP_rest hb h1
    cases h2 : bytesP 32 r1 with
    | none => rw [h2] at h; cases h
    | some p =>
      obtain ⟨k, r2⟩ := p
      rw [h2] at h
      simp only at h
      obtain ⟨k1, k2, k3⟩ := bytesP_all b1 h2
      cases h3 : flagP r2 with
      | none => rw [h3] at h; cases h
      | some p =>
        obtain ⟨f, r3⟩ := p
        rw [h3] at h
        have b3 := flagP_all k3 h3
        cases f with
        | false => cases h; exact ⟨⟨upP_le hb h1, k1, k2, fun f hf => (by cases hf), .inl rfl⟩, b3⟩
        | true =>
          simp only at h
          cases h4 : arowP r3 with
          | none => rw [h4] at h; cases h
          | some p =>
            obtain ⟨fs, r4⟩ := p
            rw [h4] at h
            cases h
            obtain ⟨q1, q2, q3⟩ := arowP_all b3 h4
            exact ⟨⟨upP_le hb h1, k1, k2, q1, .inr q2⟩, q3⟩
/-- What is known of a transaction that was read. -/
structure TxB (x : Tx3) : Prop where
  e : x.1.1 ≤ 16777215
  s : x.1.2 ≤ 2147483647
  n : x.2.length ≤ 16
  all : ∀ y ∈ x.2, WrB y
theorem txnP_all {L r : List Int} {x : Tx3} (hb : Byt L) (h : txnP L = some (x, r)) : TxB x ∧ Byt r := by
  unfold txnP tidP at h
  cases h1 : upP 16777215 L with
  | none => rw [h1] at h; cases h
  | some p =>
    obtain ⟨e, r1⟩ := p
    rw [h1] at h
    simp only at h
    have b1 := upP_rest hb h1
    cases h2 : upP 2147483647 r1 with
    | none => rw [h2] at h; cases h
    | some p =>
      obtain ⟨s, r2⟩ := p
      rw [h2] at h
      simp only at h
      have b2 := upP_rest b1 h2
      cases h3 : listP 16 writeP r2 with
      | none => rw [h3] at h; cases h
      | some p =>
        obtain ⟨xs, r3⟩ := p
        rw [h3] at h
        cases h
        obtain ⟨q1, q2, q3⟩ := listP_all (P := WrB) (fun L x s hb h => writeP_all hb h) b2 h3
        exact ⟨⟨upP_le hb h1, upP_le b1 h2, q2, q1⟩, q3⟩
theorem readP_some {α : Type} {o : Option (α × List Int)} {x : α} (h : readP o = some x) : o = some (x, []) := by
  unfold readP at h
  cases o with
  | none => cases h
  | some p =>
    obtain ⟨y, r⟩ := p
    simp only at h
    split at h
    · rename_i hr; cases h; rw [hr]
    · cases h
theorem wcells_at : ∀ (ps : List WtP) (k : Nat) (p : WtP), ps[k]? = some p → ∀ j, j < 3 → (wcells ps)[k * 3 + j]? = p.cells[j]?
  | [], k, p, h, j, hj => by simp at h
  | q :: ps, 0, p, h, j, hj => by
    simp only [List.getElem?_cons_zero, Option.some.injEq] at h
    subst h
    show (q.cells ++ wcells ps)[0 * 3 + j]? = _
    rw [List.getElem?_append_left (by simp [WtP.cells]; omega)]
    simp
  | q :: ps, k + 1, p, h, j, hj => by
    simp only [List.getElem?_cons_succ] at h
    show (q.cells ++ wcells ps)[(k + 1) * 3 + j]? = _
    rw [List.getElem?_append_right (by simp [WtP.cells]; omega)]
    rw [show (k + 1) * 3 + j - q.cells.length = k * 3 + j by simp [WtP.cells]; omega]
    exact wcells_at ps k p h j hj
/-- Owned writes, as they lie in a row. -/
theorem WritesO.lies {w : World} {base n c : Nat} {a : Option Addr} {xs : List Wr3} (h : WritesO w base xs (.slice a n c)) (hB : ∀ x ∈ xs, WrB x) : ∃ ps : List WtP, ps.map cont = xs ∧ n = xs.length ∧ WtsR w a ps ∧ (∀ p ∈ ps, 0 ≤ p.tab) ∧ ∀ p ∈ ps, p.R.length ≤ 1000000 := by
  obtain ⟨ps, h1, h2, h3⟩ := h
  have hl : ps.length = xs.length := by rw [← h1]; simp
  obtain ⟨a1, c1, e1⟩ := own_form h2
  cases e1
  have hrl : ∀ p ∈ ps, p.R.length ≤ 1000000 := fun p hp => by
    have hm := (hB (cont p) (by rw [← h1]; exact List.mem_map.2 ⟨p, hp, rfl⟩)).rm
    simp only [cont] at hm
    rcases hm with hm | hm
    · have : p.R.length = 0 := by simpa using congrArg List.length hm
      omega
    · unfold mayF at hm
      simp only [Bool.and_eq_true, decide_eq_true_eq, List.length_map] at hm
      omega
  refine ⟨ps, h1, rfl, fun k p hp => ?_, fun p hp => (h3 p hp).nn, hrl⟩
  have hk : k < ps.length := (List.getElem?_eq_some_iff.1 hp).1
  have hmem := List.mem_of_getElem? hp
  have ow := h3 p hmem
  have hb := hB (cont p) (by rw [← h1]; exact List.mem_map.2 ⟨p, hmem, rfl⟩)
  have h2' := h2
  rcases h2.2 with ⟨e0, h0⟩ | ⟨g, cap, cur, e0, _⟩
  · exact absurd hk (by omega)
  cases e0
  have c0 := h2'.cellAt (k * 3 + 0) (by omega)
  have c1 := h2'.cellAt (k * 3 + 1) (by omega)
  have c2 := h2'.cellAt (k * 3 + 2) (by omega)
  rw [wcells_at ps k p hp 0 (by omega)] at c0
  rw [wcells_at ps k p hp 1 (by omega)] at c1
  rw [wcells_at ps k p hp 2 (by omega)] at c2
  refine ⟨g, 0, rfl, by simpa [WtP.cells] using c0, by simpa [WtP.cells] using c1, by simpa [WtP.cells] using c2, ?_⟩
  obtain ⟨ka, kc, e3, l3, _⟩ := own_ls ow.key rfl
  cases e3
  obtain ⟨ra, rc, e4, l4⟩ := own_rdr ow.row rfl (fun q hq => by obtain ⟨a2, c2, e, l2, _⟩ := own_ls (ow.all q hq) rfl; cases e; exact l2)
  cases e4
  exact ⟨l3, l4, hb.kb, fun q hq => hb.rb q.bs (List.mem_map.2 ⟨q, hq, rfl⟩)⟩
end Go.Proofs.YtglkndoghnblcaaGreatDoor
namespace Go.Proofs.YtglkndoghnblcaaGreatDoor
open Go.ChangeShapes Go.WideShapes Go.ChangeAt Go.RowKit
set_option linter.unusedVariables false
set_option linter.unusedSimpArgs false
set_option maxRecDepth 100000 in
set_option maxHeartbeats 4000000 in
/-- sure at transactions (60), where nothing was read. -/
theorem suretx_no (e s x : Int) (a : Option Addr) (n c : Nat) (hx : ¬ x = 0) (w : World) :
    Calls Tryz.prog 57 #[.agg #[.int .i64 e, .int .i64 s, .slice a n c], .int .i64 x, .func (.func 50) #[] #[]] w fun r w' => r = .returned (.tuple #[.agg #[.int .i64 0, .int .i64 0, .slice none 0 0], .int .i64 4]) ∧ Below w.heap.size w w' := by
  have h1 : (x != 0) = true := by simp [hx]
  have h2 : (x == 0) = false := by simp [hx]
  go_enter Tryz.func57, Tryz.ntmps57
  go_upto_region 1 with (fail)
  obtain ⟨W1, hW1⟩ : ∃ W1, (w.alloc (.cells #[.int .i64 e, .int .i64 s, .slice a n c] 62)).alloc (.cells #[.int .i64 0, .int .i64 0, .slice none 0 0] 62) = W1 := ⟨_, rfl⟩
  have hb1 : Below w.heap.size w W1 := by rw [← hW1]; exact step_below (bl1 _ _) (bl1 _ _)
  have x3 : BoxC W1 w.heap.size #[.int .i64 e, .int .i64 s, .slice a n c] 62 := by rw [← hW1]; exact (BoxC.new _ _ _).alloc _
  have x6 : BoxC W1 (w.heap.size + 1) #[.int .i64 0, .int .i64 0, .slice none 0 0] 62 := by rw [← hW1]; have := BoxC.new (w.alloc (.cells #[.int .i64 e, .int .i64 s, .slice a n c] 62)) #[.int .i64 0, .int .i64 0, .slice none 0 0] 62; simpa using this
  have hs1 : W1.heap.size = w.heap.size + 1 + 1 := by rw [← hW1]; simp
  try rw [hW1]
  clear hW1
  have HB1 := Lib.hid hb1
  clear hb1 x3
  obtain ⟨N, hN⟩ : ∃ N, w.heap.size = N := ⟨_, rfl⟩
  rw [hN] at x6 hs1 ⊢
  have HN := Lib.hid hN
  go_upto_region 3 with (fail)
  obtain ⟨W2, hW2⟩ : ∃ W2, W1.alloc (.cells #[.int .i64 0, .int .i64 0, .slice none 0 0] 62) = W2 := ⟨_, rfl⟩
  have hb2 : Below W1.heap.size W1 W2 := by rw [← hW2]; exact bl1 _ _
  have x8 : BoxC W2 W1.heap.size #[.int .i64 0, .int .i64 0, .slice none 0 0] 62 := by rw [← hW2]; exact BoxC.new _ _ _
  try rw [hW2]
  clear hW2
  have x62 := x6.below hb2
  have y0 := x8.cell 0
  have y1 := x8.cell 1
  have y2 := x8.cell 2
  have d0 := x62.cell 0
  have d1 := x62.cell 1
  have d2 := x62.cell 2
  have f0 := x62.frozen 0
  have f1 := x62.frozen 1
  have f2 := x62.frozen 2
  simp only [List.getElem?_toArray, List.getElem?_cons_zero, List.getElem?_cons_succ] at y0 y1 y2 d0 d1 d2
  try rw [hs1] at y0 y1 y2
  have X9 := Lib.hid (((x62.put 0 (.int .i64 0)).put 1 (.int .i64 0)).put 2 (.slice none 0 0))
  have HB9 := Lib.hid ((((step_below HB1.out hb2).setCell (p := ⟨N + 1, 0, none⟩) (by simp; omega) (.int .i64 0)).setCell (p := ⟨N + 1, 1, none⟩) (by simp; omega) (.int .i64 0)).setCell (p := ⟨N + 1, 2, none⟩) (by simp; omega) (.slice none 0 0))
  clear x62 x8 hb2
  go_wp2_with fail
  clear y0 y1 y2 d0 d1 d2 f0 f1 f2
  generalize (((W2.setCell ⟨N + 1, 0, none⟩ (.int .i64 0)).setCell ⟨N + 1, 1, none⟩ (.int .i64 0)).setCell ⟨N + 1, 2, none⟩ (.slice none 0 0)) = W9 at *
  refine bodyPost_ret (v := .tuple #[.agg #[.int .i64 0, .int .i64 0, .slice none 0 0], .int .i64 4]) ?_ rfl ⟨rfl, by first | exact HB9.out | (rw [← HN.out]; exact HB9.out)⟩
  have x0 := X9.out.cell 0
  have x1 := X9.out.cell 1
  have x2 := X9.out.cell 2
  simp at x0 x1 x2
  simp [results, Tryz.results57, go_sem, x0, x1, x2]
set_option maxRecDepth 100000 in
set_option maxHeartbeats 4000000 in
/-- sure at transactions (60), where one was read. -/
theorem suretx_law (e s : Int) (a : Option Addr) (ps : List WtP) (n c : Nat) (hn : ps.length = n) (hn2 : n ≤ 1000000) (hrl : ∀ x ∈ ps, x.R.length ≤ 1000000) (w : World) (hR : WtsR w a ps) :
    Calls Tryz.prog 57 #[.agg #[.int .i64 e, .int .i64 s, .slice a n c], .int .i64 0, .func (.func 50) #[] #[]] w fun r w' => (r = .returned (if txB e s ps then .tuple #[.agg #[.int .i64 e, .int .i64 s, .slice a n c], .int .i64 0] else .tuple #[.agg #[.int .i64 0, .int .i64 0, .slice none 0 0], .int .i64 4])) ∧ Below w.heap.size w w' := by
  have HM := Lib.hid (fun W (b : Below w.heap.size w W) => maytxn_law e s a ps n c hn hn2 hrl W (hR.below b))
  obtain ⟨bm, hbm⟩ : ∃ b, txB e s ps = b := ⟨_, rfl⟩
  rw [hbm] at HM ⊢
  clear hbm hn hn2 hrl hR
  go_enter Tryz.func57, Tryz.ntmps57
  go_upto_region 1 with (fail)
  obtain ⟨W1, hW1⟩ : ∃ W1, (w.alloc (.cells #[.int .i64 e, .int .i64 s, .slice a n c] 62)).alloc (.cells #[.int .i64 0, .int .i64 0, .slice none 0 0] 62) = W1 := ⟨_, rfl⟩
  have hb1 : Below w.heap.size w W1 := by rw [← hW1]; exact step_below (bl1 _ _) (bl1 _ _)
  have x3 : BoxC W1 w.heap.size #[.int .i64 e, .int .i64 s, .slice a n c] 62 := by rw [← hW1]; exact (BoxC.new _ _ _).alloc _
  have x6 : BoxC W1 (w.heap.size + 1) #[.int .i64 0, .int .i64 0, .slice none 0 0] 62 := by rw [← hW1]; have := BoxC.new (w.alloc (.cells #[.int .i64 e, .int .i64 s, .slice a n c] 62)) #[.int .i64 0, .int .i64 0, .slice none 0 0] 62; simpa using this
  have hs1 : W1.heap.size = w.heap.size + 1 + 1 := by rw [← hW1]; simp
  try rw [hW1]
  clear hW1
  have HB1 := Lib.hid hb1
  have HC := Lib.hid (HM.out W1 hb1)
  have c0 := x3.cell 0
  have c1 := x3.cell 1
  have c2 := x3.cell 2
  simp only [List.getElem?_toArray, List.getElem?_cons_zero, List.getElem?_cons_succ] at c0 c1 c2
  have X3 := Lib.hid x3
  have X6 := Lib.hid x6
  clear hb1 x3 x6 HM
  cases bm with
  | false =>
    go_wp2_with fail
    refine HC.out.mono ?_; rintro r w3 ⟨rfl, b3⟩
    have HB3 := Lib.hid (step_below HB1.out b3)
    have x63 := X6.out.below b3
    have hs3 : w.heap.size + 1 + 1 ≤ w3.heap.size := by rw [← hs1]; exact b3.size
    clear c0 c1 c2 b3 HC
    obtain ⟨N, hN⟩ : ∃ N, w.heap.size = N := ⟨_, rfl⟩
    rw [hN] at x63 hs1 hs3 ⊢
    have HN := Lib.hid hN
    go_upto_region 3 with (fail)
    obtain ⟨W2, hW2⟩ : ∃ W2, w3.alloc (.cells #[.int .i64 0, .int .i64 0, .slice none 0 0] 62) = W2 := ⟨_, rfl⟩
    have hb2 : Below w3.heap.size w3 W2 := by rw [← hW2]; exact bl1 _ _
    have x8 : BoxC W2 w3.heap.size #[.int .i64 0, .int .i64 0, .slice none 0 0] 62 := by rw [← hW2]; exact BoxC.new _ _ _
    try rw [hW2]
    clear hW2
    have x62 := x63.below hb2
    have y0 := x8.cell 0
    have y1 := x8.cell 1
    have y2 := x8.cell 2
    have d0 := x62.cell 0
    have d1 := x62.cell 1
    have d2 := x62.cell 2
    have f0 := x62.frozen 0
    have f1 := x62.frozen 1
    have f2 := x62.frozen 2
    simp only [List.getElem?_toArray, List.getElem?_cons_zero, List.getElem?_cons_succ] at y0 y1 y2 d0 d1 d2
    try rw [hs1] at y0 y1 y2
    have X9 := Lib.hid (((x62.put 0 (.int .i64 0)).put 1 (.int .i64 0)).put 2 (.slice none 0 0))
    have HB9 := Lib.hid ((((step_below HB3.out hb2).setCell (p := ⟨N + 1, 0, none⟩) (by simp; omega) (.int .i64 0)).setCell (p := ⟨N + 1, 1, none⟩) (by simp; omega) (.int .i64 0)).setCell (p := ⟨N + 1, 2, none⟩) (by simp; omega) (.slice none 0 0))
    clear x62 x8 hb2
    go_wp2_with fail
    clear y0 y1 y2 d0 d1 d2 f0 f1 f2
    generalize (((W2.setCell ⟨N + 1, 0, none⟩ (.int .i64 0)).setCell ⟨N + 1, 1, none⟩ (.int .i64 0)).setCell ⟨N + 1, 2, none⟩ (.slice none 0 0)) = W9 at *
    refine bodyPost_ret (v := .tuple #[.agg #[.int .i64 0, .int .i64 0, .slice none 0 0], .int .i64 4]) ?_ rfl ⟨by simp, by first | exact HB9.out | (rw [← HN.out]; exact HB9.out)⟩
    have x0 := X9.out.cell 0
    have x1 := X9.out.cell 1
    have x2 := X9.out.cell 2
    simp at x0 x1 x2
    simp [results, Tryz.results57, go_sem, x0, x1, x2]
  | true =>
    go_wp2_with fail
    refine HC.out.mono ?_; rintro r w3 ⟨rfl, b3⟩
    have HB3 := Lib.hid (step_below HB1.out b3)
    have x63 := X6.out.below b3
    have x33 := X3.out.below b3
    clear c0 c1 c2 b3 HC
    have y0 := x33.cell 0
    have y1 := x33.cell 1
    have y2 := x33.cell 2
    have d0 := x63.cell 0
    have d1 := x63.cell 1
    have d2 := x63.cell 2
    have f0 := x63.frozen 0
    have f1 := x63.frozen 1
    have f2 := x63.frozen 2
    simp only [List.getElem?_toArray, List.getElem?_cons_zero, List.getElem?_cons_succ] at y0 y1 y2 d0 d1 d2
    have X9 := Lib.hid (((x63.put 0 (.int .i64 e)).put 1 (.int .i64 s)).put 2 (.slice a n c))
    have HB9 := Lib.hid (((HB3.out.setCell (p := ⟨w.heap.size + 1, 0, none⟩) (by simp) (.int .i64 e)).setCell (p := ⟨w.heap.size + 1, 1, none⟩) (by simp) (.int .i64 s)).setCell (p := ⟨w.heap.size + 1, 2, none⟩) (by simp) (.slice a n c))
    clear x63 x33
    go_wp2_with fail
    clear y0 y1 y2 d0 d1 d2 f0 f1 f2
    generalize (((w3.setCell ⟨w.heap.size + 1, 0, none⟩ (.int .i64 e)).setCell ⟨w.heap.size + 1, 1, none⟩ (.int .i64 s)).setCell ⟨w.heap.size + 1, 2, none⟩ (.slice a n c)) = W9 at *
    refine bodyPost_ret (v := .tuple #[.agg #[.int .i64 e, .int .i64 s, .slice a n c], .int .i64 0]) ?_ rfl ⟨by simp, HB9.out⟩
    have x0 := X9.out.cell 0
    have x1 := X9.out.cell 1
    have x2 := X9.out.cell 2
    simp at x0 x1 x2
    simp [results, Tryz.results57, go_sem, x0, x1, x2]
end Go.Proofs.YtglkndoghnblcaaGreatDoor
namespace Go.Proofs.YtglkndoghnblcaaGreatDoor
open Go.ChangeShapes Go.WideShapes Go.ChangeAt Go.RowKit
set_option linter.unusedVariables false
set_option linter.unusedSimpArgs false
section
variable {F : Fence} {n : Nat} {P : Program}
/-- How a round is left: it goes on, or breaks. -/
def postY (B : Nat) (Kp : World → World → Prop) (I Ix : Nat → World → Prop) (j k : Nat) (W : World) : Exit → Act → World → Prop
  | .normal, _, W' => KeepsFrom B W W' ∧ Kp W W' ∧ I (k + 1) W'
  | .exit i, _, W' => i = j ∧ KeepsFrom B W W' ∧ Ix k W'
  | _, _, _ => False
/-- The statement 'range over a function'. -/
theorem wp_range_y {α : Type} {g : Operand} {ps : Array Tmp} {assign body : Code} {Q : Exit → Act → World → Prop} {a : Act} {w : World}
    (hro : F.round = none) (h1 : 1 ≤ n) {gf : Nat} {lb : Array Value} (hg : a.eval g = .func (.func gf) #[] lb) (hFg : F.fn gf) (eg : ∀ args w, (callFunc gf args).run P w = .ok (.enter gf args) w)
    {encs : α → Array Value} {Kp : World → World → Prop} {Px : Nat → α → World → Prop} {N : Nat} (hseq : SeqX F (n - 1) P gf lb encs Kp Px N w)
    (hKt : ∀ {A B C : World}, Kp A B → Kp B C → Kp A C) (hKb : ∀ (W : World) (l : Nat) (o o' : Obj), w.heap.size ≤ l → W.heap[l]? = some o → o.isCells = false → o.isWalk = false → Kp W (W.putObj l o'))
    (hPb : ∀ (k : Nat) (x : α) (W : World) (l : Nat) (o o' : Obj), w.heap.size ≤ l → W.heap[l]? = some o → o.isCells = false → o.isWalk = false → Px k x W → Px k x (W.putObj l o')) (hps : ∀ x, (encs x).size = ps.size)
    (I Ix : Nat → World → Prop) (hI : OwnFrom w.heap.size I) (hIx : OwnFrom w.heap.size Ix) (h0 : I 0 w) (j : Nat) (Ax : α → Act → World → Prop) (hAx : ∀ x a', OwnFrom w.heap.size (fun (_ : Unit) W => Ax x a' W))
    (hassign : ∀ (l k : Nat) (x : α) (W : World) (K : Act → World → Prop), k < N → I k W → Px k x W → (∀ a' W', KeepsFrom w.heap.size W W' → Kp W W' → I k W' → Px k x W' → Ax x a' W' → K a' W') →
      assign.wpIn (F.inRound l) (n - 1 - 1) P (Exit.then K (fun _ _ _ => False)) { tmps := (ps.zip (encs x)).foldl (fun t (p, v) => t.setIfInBounds p v) a.tmps, defers := [] } W)
    (hbody : ∀ (l k : Nat) (x : α) (a' : Act) (W : World), k < N → I k W → Px k x W → Ax x a' W → body.wpIn (F.inRound l) (n - 1 - 1) P (postY w.heap.size Kp I Ix j k W) a' W)
    (hdone : ∀ (D : Nat) (W : World), w.heap.size ≤ D → I N W → W.heap[D]? = some (.deferred (some [])) → Q .normal { a with defers := { target := .collected D, args := #[] } :: a.defers } W)
    (hstop : ∀ (D k : Nat) (W : World), w.heap.size ≤ D → k < N → Ix k W → W.heap[D]? = some (.deferred (some [])) → (Code.exit j).wpIn F n P Q { a with defers := { target := .collected D, args := #[] } :: a.defers } W) :
    (Code.rangeFunc g ps assign body).wpIn F n P Q a w := by
  refine wpIn_rangeFunc fun fn hfn => ?_
  rw [hro]
  obtain ⟨d, hd⟩ : ∃ d, w.heap.size = d := ⟨_, rfl⟩
  obtain ⟨mk, hmk⟩ : ∃ mk : LoopState → Option Code → Loop, mk = fun st pe => { state := st, pending := pe, fn, tmps := a.tmps, params := ps, assign, body, defers := d } := ⟨_, rfl⟩
  obtain ⟨V, hV⟩ : ∃ V, (w.alloc (.deferred (some []))).alloc (.loop (mk .ready none)) = V := ⟨_, rfl⟩
  have hsz : V.heap.size = d + 2 := by rw [← hV, ← hd]; simp
  have hrec : RecAt (d + 1) d (mk .ready none) V := by
    rw [← hV, ← hd]
    refine ⟨?_, (Below.heap_alloc _ _ _ (by simp)).trans (World.alloc_heap_new w _)⟩
    have := World.alloc_heap_new (w.alloc (.deferred (some []))) (.loop (mk .ready none))
    rwa [World.size_alloc] at this
  have hIV : I 0 V := by rw [← hV]; exact hI.alloc _ (hI.alloc _ h0)
  have hbV : Below w.heap.size w V := by rw [← hV]; exact (((Below.refl _ w).alloc (Nat.le_refl _) _).alloc (by simp) _)
  have hent : (Instr.enterLoop fn a.tmps ps assign body none).run P w = .ok (d + 1, [{ target := .collected d, args := #[] }]) V := by
    rw [← hV, hmk, ← hd]; exact run_enterLoop_outer _ _ _ _ _
  rw [hd] at hI hIx hAx hKb hPb hassign hbody hdone hstop
  clear hV
  refine ⟨d + 1, [{ target := .collected d, args := #[] }], V, { target := .fn (.func gf) lb, args := #[.func (.yield (d + 1)) #[] #[]] }, V, gf, #[.func (.yield (d + 1)) #[] #[]] ++ lb, V, hent, ?_, ?_, ?_, fun _ => h1, ?_⟩
  · simp only [resolve, hg]
    simp [go_sem]
  · intro f' hf'
    simp [Target.leads] at hf'
    subst hf'
    exact hFg
  · simp [invoke, go_sem, eg]
  have walk : ∀ {A : World} {row : Option Nat}, (∀ r, row = some r → V.heap.size ≤ r ∧ ∃ o : Obj, A.heap[r]? = some o ∧ o.isWalk = true) → (∀ r, row = some r → d ≤ r ∧ ∃ o : Obj, A.heap[r]? = some o ∧ o.isCells = false) :=
    fun hr r e => by
      obtain ⟨hB, o, ho, hw⟩ := hr r e
      exact ⟨by omega, o, ho, Obj.not_cells_of_walk hw⟩
  refine (hseq (d + 1) (fun k W => I k W ∧ RecAt (d + 1) d (mk .ready none) W) (fun k W => Ix k W ∧ RecAt (d + 1) d (mk .done (some (.exit j))) W) V hbV
    (fun s A B row hs hg' hr => ⟨hI s A B row hs.1 hg' (walk hr), hs.2.abides hg' fun r e => (hr r e).2⟩)
    (fun s A B row hs hg' hr => ⟨hIx s A B row hs.1 hg' (walk hr), hs.2.abides hg' fun r e => (hr r e).2⟩) ?_ ⟨hIV, hrec⟩).mono ?_
  · rintro k x W hk ⟨hi, hr⟩ hpx
    have hy := run_yield (P := P) (args := encs x) hr.1 (by rw [hmk]; exact hps x)
    rw [hmk] at hy
    refine ⟨fn, _, assign, body, hy, roundIn_of_wpIn hfn (hassign _ k x W _ hk hi hpx ?_)⟩
    intro a' W2 hkf hkp hi2 hpx2 hax
    have hr2 := hr.keeps hkf (by omega) (Nat.le_refl _)
    refine ⟨_, run_beginRound hr2.1 (by rw [hmk]), ?_⟩
    have hr3 := hr2.put (by omega) { mk .ready none with state := .busy }
    have hkp3 := hKb W2 (d + 1) _ (.loop { mk .ready none with state := .busy }) (by omega) hr2.1 rfl rfl
    refine wpIn_mono (hbody (d + 1) k x a' _ hk (hI.putObj _ hi2 (by omega) hr2.1 rfl) (hPb k x W2 (d + 1) _ _ (by omega) hr2.1 rfl rfl hpx2) ((hAx x a').putObj (s := ()) _ hax (by omega) hr2.1 rfl)) ?_
    have ending : ∀ (jump : Option Code) (W3 : World), RecAt (d + 1) d { mk .ready none with state := .busy } W3 → (Instr.endRound (d + 1) jump).run P W3 = .ok (.bool jump.isNone) (W3.putObj (d + 1) (.loop (mk (if jump.isNone then .ready else .done) jump))) := fun jump W3 h3 => by
      have hl3 := h3.1
      have := run_endRound (P := P) jump hl3
      rw [hmk] at this ⊢
      exact this
    rintro e a3 W3 hp
    cases e with
    | normal =>
      obtain ⟨k3, kp3, i3⟩ := hp
      have h3 := hr3.keeps k3 (by omega) (Nat.le_refl _)
      exact ⟨_, _, ending none W3 h3, Or.inl ⟨rfl, ⟨hI.putObj _ i3 (by omega) h3.1 rfl, h3.put (by omega) _⟩, hKt hkp (hKt hkp3 (hKt kp3 (hKb W3 (d + 1) _ _ (by omega) h3.1 rfl rfl)))⟩⟩
    | ret => exact hp.elim
    | exit id =>
      obtain ⟨rfl, k3, i3⟩ := hp
      have h3 := hr3.keeps k3 (by omega) (Nat.le_refl _)
      exact ⟨_, _, ending (some (.exit id)) W3 h3, Or.inr ⟨rfl, hIx.putObj _ i3 (by omega) h3.1 rfl, h3.put (by omega) _⟩⟩
    | goto t => exact hp.elim
    | panic ch => exact hp.elim
    | outgrown => exact hp.elim
  · rintro e W2 ⟨⟨v, rfl⟩, (⟨hi, hr⟩ | ⟨k, hk, hi, hr⟩)⟩
    · refine ⟨none, _, by have := run_endLoop (P := P) hr.1 (by rw [hmk]; simp); rw [hmk] at this; exact this, ?_⟩
      exact hdone _ _ (Nat.le_refl _) (hI.putObj _ hi (by omega) hr.1 rfl) ((World.putObj_heap_other (by omega)).trans hr.2)
    · refine ⟨some (.exit j), _, by have := run_endLoop (P := P) hr.1 (by rw [hmk]; simp); rw [hmk] at this; exact this, ?_⟩
      exact hstop _ k _ (Nat.le_refl _) hk (hIx.putObj _ hi (by omega) hr.1 rfl) ((World.putObj_heap_other (by omega)).trans hr.2)
/-- .., where the assignment leaves the world alone. -/
theorem wp_range_y1 {α : Type} {g : Operand} {ps : Array Tmp} {assign body : Code} {Q : Exit → Act → World → Prop} {a : Act} {w : World}
    (hro : F.round = none) (h1 : 1 ≤ n) {gf : Nat} {lb : Array Value} (hg : a.eval g = .func (.func gf) #[] lb) (hFg : F.fn gf) (eg : ∀ args w, (callFunc gf args).run P w = .ok (.enter gf args) w)
    {encs : α → Array Value} {Kp : World → World → Prop} {Px : Nat → α → World → Prop} {N : Nat} (hseq : SeqX F (n - 1) P gf lb encs Kp Px N w)
    (hKt : ∀ {A B C : World}, Kp A B → Kp B C → Kp A C) (hKr : ∀ A, Kp A A) (hKb : ∀ (W : World) (l : Nat) (o o' : Obj), w.heap.size ≤ l → W.heap[l]? = some o → o.isCells = false → o.isWalk = false → Kp W (W.putObj l o'))
    (hPb : ∀ (k : Nat) (x : α) (W : World) (l : Nat) (o o' : Obj), w.heap.size ≤ l → W.heap[l]? = some o → o.isCells = false → o.isWalk = false → Px k x W → Px k x (W.putObj l o')) (hps : ∀ x, (encs x).size = ps.size)
    (I Ix : Nat → World → Prop) (hI : OwnFrom w.heap.size I) (hIx : OwnFrom w.heap.size Ix) (h0 : I 0 w) (j : Nat) (a1 : α → Act)
    (hassign : ∀ (l : Nat) (x : α) (W : World) (K : Act → World → Prop), K (a1 x) W → assign.wpIn (F.inRound l) (n - 1 - 1) P (Exit.then K (fun _ _ _ => False)) { tmps := (ps.zip (encs x)).foldl (fun t (p, v) => t.setIfInBounds p v) a.tmps, defers := [] } W)
    (hbody : ∀ (l k : Nat) (x : α) (W : World), k < N → I k W → Px k x W → body.wpIn (F.inRound l) (n - 1 - 1) P (postY w.heap.size Kp I Ix j k W) (a1 x) W)
    (hdone : ∀ (D : Nat) (W : World), w.heap.size ≤ D → I N W → W.heap[D]? = some (.deferred (some [])) → Q .normal { a with defers := { target := .collected D, args := #[] } :: a.defers } W)
    (hstop : ∀ (D k : Nat) (W : World), w.heap.size ≤ D → k < N → Ix k W → W.heap[D]? = some (.deferred (some [])) → (Code.exit j).wpIn F n P Q { a with defers := { target := .collected D, args := #[] } :: a.defers } W) :
    (Code.rangeFunc g ps assign body).wpIn F n P Q a w :=
  wp_range_y hro h1 hg hFg eg hseq (fun h k => hKt h k) hKb hPb hps I Ix hI hIx h0 j (fun x a' _ => a' = a1 x) (fun _ _ _ _ _ _ hs _ _ => hs)
    (fun l k x W K _ hi hp hK => hassign l x W K (hK _ _ (KeepsFrom.refl _ _) (hKr W) hi hp rfl)) (fun l k x a' W hk hi hp e => by subst e; exact hbody l k x W hk hi hp) hdone hstop
end
end Go.Proofs.YtglkndoghnblcaaGreatDoor
namespace Go.Proofs.YtglkndoghnblcaaGreatDoor
open Go.ChangeShapes Go.WideShapes Go.ChangeAt Go.RowKit
set_option linter.unusedVariables false
set_option linter.unusedSimpArgs false
/-- A write as it would lie. -/
def mkP (x : Wr3) : WtP := ⟨(x.1 : Int), none, 0, x.2.1, none, 0, x.2.2.map fun f => ⟨none, 0, f⟩⟩
theorem mk_bs (fs : List (List Int)) : (fs.map fun f => (⟨none, 0, f⟩ : P1)).map P1.bs = fs := by
  rw [List.map_map]
  exact List.map_id'' (fun _ => rfl) fs
theorem wtB_mk {p : WtP} (h : 0 ≤ p.tab) : wtB (mkP (cont p)) = wtB p := by
  unfold wtB
  simp only [mkP, cont, mayR_F, mk_bs, List.length_map]
  rw [Int.toNat_of_nonneg h]
theorem okK_mk (e s : Int) {ps : List WtP} (h : ∀ p ∈ ps, 0 ≤ p.tab) : ∀ k, okK e s ((ps.map cont).map mkP) k = okK e s ps k
  | 0 => by
    show (tidB e s && inB ((((ps.map cont).map mkP).length : Nat) : Int) 1 16) = (tidB e s && inB ((ps.length : Nat) : Int) 1 16)
    simp
  | k + 1 => by
    have ih := okK_mk e s h k
    cases hx : ps[k]? with
    | none =>
      have hx2 : ((ps.map cont).map mkP)[k]? = none := by simp [hx]
      show (match ((ps.map cont).map mkP)[k]? with | some x => _ | none => okK e s ((ps.map cont).map mkP) k) = (match ps[k]? with | some x => _ | none => okK e s ps k)
      rw [hx, hx2]
      exact ih
    | some x =>
      have hx2 : ((ps.map cont).map mkP)[k]? = some (mkP (cont x)) := by simp [hx]
      have hxn := h x (List.mem_of_getElem? hx)
      by_cases hk : k = 0
      · subst hk
        rw [okK_first hx, okK_first hx2, ih, wtB_mk hxn]
      · obtain ⟨l, hl⟩ : ∃ l, ps[k - 1]? = some l := ⟨_, List.getElem?_eq_getElem (by have := (List.getElem?_eq_some_iff.1 hx).1; omega)⟩
        have hl2 : ((ps.map cont).map mkP)[k - 1]? = some (mkP (cont l)) := by simp [hl]
        have hln := h l (List.mem_of_getElem? hl)
        rw [okK_next (by omega) hx hl, okK_next (by omega) hx2 hl2, ih, wtB_mk hxn]
        have t1 : (mkP (cont x)).tab = x.tab := by simp only [mkP, cont]; exact Int.toNat_of_nonneg hxn
        have t2 : (mkP (cont l)).tab = l.tab := by simp only [mkP, cont]; exact Int.toNat_of_nonneg hln
        rw [t1, t2]
        rfl
/-- May that be a transaction? -/
def okTx (x : Tx3) : Bool := txB (x.1.1 : Int) (x.1.2 : Int) (x.2.map mkP)
theorem okTx_lies (e s : Nat) {ps : List WtP} (h : ∀ p ∈ ps, 0 ≤ p.tab) : txB (e : Int) (s : Int) ps = okTx ((e, s), ps.map cont) := by
  unfold okTx txB
  simp only
  rw [okK_mk (e : Int) (s : Int) h]
  simp
/-- The transaction that a payload is, if it is one. -/
def oneTx (p : List Int) : Option Tx3 := match readP (txnP p) with
  | some x => if okTx x then some x else none
  | none => none
theorem oneTx_1 {p : List Int} (h : readP (txnP p) = none) : oneTx p = none := by unfold oneTx; rw [h]
theorem oneTx_2 {p : List Int} {x : Tx3} (h : readP (txnP p) = some x) (k : okTx x = false) : oneTx p = none := by unfold oneTx; rw [h]; simp [k]
theorem oneTx_3 {p : List Int} {x : Tx3} (h : readP (txnP p) = some x) (k : okTx x = true) : oneTx p = some x := by unfold oneTx; rw [h]; simp [k]
/-- The transactions that a log begins with. -/
def txsL : List (List Int) → List Tx3
  | [] => []
  | p :: r => match oneTx p with
    | some x => x :: txsL r
    | none => []
theorem txsL_go {FS : List (List Int)} {k : Nat} {p : List Int} {x : Tx3} (xs : List Tx3) (hp : FS[k]? = some p) (h : txsL FS = xs ++ txsL (FS.drop k)) (hx : oneTx p = some x) : txsL FS = (xs ++ [x]) ++ txsL (FS.drop (k + 1)) := by
  obtain ⟨hk, he⟩ := List.getElem?_eq_some_iff.1 hp
  rw [h, List.drop_eq_getElem_cons hk, he]
  show xs ++ (match oneTx p with | some x => x :: txsL (FS.drop (k + 1)) | none => []) = _
  rw [hx]
  simp
theorem txsL_no {FS : List (List Int)} {k : Nat} {p : List Int} (xs : List Tx3) (hp : FS[k]? = some p) (h : txsL FS = xs ++ txsL (FS.drop k)) (hx : oneTx p = none) : txsL FS = xs := by
  obtain ⟨hk, he⟩ := List.getElem?_eq_some_iff.1 hp
  rw [h, List.drop_eq_getElem_cons hk, he]
  show xs ++ (match oneTx p with | some x => x :: txsL (FS.drop (k + 1)) | none => []) = _
  rw [hx]
  simp
theorem txsL_end {FS : List (List Int)} (xs : List Tx3) (h : txsL FS = xs ++ txsL (FS.drop FS.length)) : txsL FS = xs := by
  rw [h, List.drop_length]
  simp [txsL]
/-- A transaction as it lies. -/
structure TxP where
  x : Tx3
  a : Option Addr
  c : Nat
def TxP.v (p : TxP) : Value := .slice p.a p.x.2.length p.c
def TxP.cells (p : TxP) : List Value := [.int .i64 (p.x.1.1 : Int), .int .i64 (p.x.1.2 : Int), p.v]
def tcells (ps : List TxP) : List Value := (ps.map TxP.cells).flatten
/-- Transactions that were read, owned. -/
def TxsO (w : World) (base : Nat) (xs : List Tx3) (v : Value) : Prop := ∃ ps : List TxP, ps.map TxP.x = xs ∧ w.ownsRow base 62 3 v xs.length (tcells ps) ∧ ∀ p ∈ ps, WritesO w base p.x.2 p.v
theorem TxsO.nil (w : World) (base : Nat) : TxsO w base [] (.slice none 0 0) := ⟨[], rfl, World.ownsRow_nil _ _ _ _, fun p hp => by simp at hp⟩
theorem TxsO.oth {w w' : World} {base B : Nat} {xs : List Tx3} {v : Value} (h : TxsO w base xs v) (hB : B < base) (g : w.grownBy w' (some B)) : TxsO w' base xs v := by
  obtain ⟨R, h1, h2, h3⟩ := h
  exact ⟨R, h1, own_oth h2 hB g, fun p hp => (h3 p hp).oth hB g⟩
theorem TxsO.base {w : World} {b b' : Nat} {xs : List Tx3} {v : Value} (hb : b ≤ b') (h : TxsO w b' xs v) : TxsO w b xs v := by
  obtain ⟨R, h1, h2, h3⟩ := h
  exact ⟨R, h1, own_base hb h2, fun p hp => (h3 p hp).base hb⟩
theorem TxsO.below {w w' : World} {base : Nat} {xs : List Tx3} {v : Value} (h : TxsO w base xs v) (b : Below w.heap.size w w') : TxsO w' base xs v := by
  obtain ⟨R, h1, h2, h3⟩ := h
  exact ⟨R, h1, own_below h2 b, fun p hp => (h3 p hp).below b⟩
theorem WtOw.kept39 {w w' : World} {base b2 n : Nat} {p : WtP} {v : Value} {cs : List Value} (h : WtOw w base p) (hown : w.ownsRow b2 62 3 v n cs) (g : w.grownBy w' v.ownBlock) : WtOw w' base p :=
  ⟨h.nn, h.key.kept g (own_apart h.key hown (by decide)), h.row.kept g (own_apart h.row hown (by decide)), fun q hq => (h.all q hq).kept g (own_apart (h.all q hq) hown (by decide))⟩
theorem WritesO.kept39 {w w' : World} {base b2 n : Nat} {xs : List Wr3} {u v : Value} {cs : List Value} (h : WritesO w base xs u) (hown : w.ownsRow b2 62 3 v n cs) (g : w.grownBy w' v.ownBlock) : WritesO w' base xs u := by
  obtain ⟨ps, h1, h2, h3⟩ := h
  exact ⟨ps, h1, h2.kept g (own_apart h2 hown (by decide)), fun p hp => (h3 p hp).kept39 hown g⟩
theorem TxsO.snoc {w w' : World} {base k : Nat} {xs : List Tx3} {ps : List TxP} {p : TxP} {v v' : Value} (h1 : ps.map TxP.x = xs) (hk : xs.length = k) (h2 : w.ownsRow base 62 3 v k (tcells ps)) (h3 : ∀ q ∈ ps, WritesO w base q.x.2 q.v) (hp : WritesO w base p.x.2 p.v)
    (h' : w'.ownsRow base 62 3 v' (k + 1) (tcells ps ++ p.cells)) (g : w.grownBy w' v.ownBlock) : TxsO w' base (xs ++ [p.x]) v' := by
  refine ⟨ps ++ [p], by rw [List.map_append, h1]; rfl, ?_, fun q hq => ?_⟩
  · rw [List.length_append, hk]
    have e : tcells (ps ++ [p]) = tcells ps ++ p.cells := by simp [tcells]
    rw [e]
    exact h'
  · rcases List.mem_append.1 hq with hq | hq
    · exact (h3 q hq).kept39 h2 g
    · simp only [List.mem_singleton] at hq
      subst hq
      exact hp.kept39 h2 g
end Go.Proofs.YtglkndoghnblcaaGreatDoor
