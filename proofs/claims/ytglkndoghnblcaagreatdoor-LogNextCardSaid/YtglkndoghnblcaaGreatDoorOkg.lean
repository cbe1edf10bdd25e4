/- known: the chapter's rows. Part 7. -/
import Derived.Test.YtglkndoghnblcaaGreatDoorOkf
import Derived.Test.YtglkndoghnblcaaGreatDoorOke
import Derived.Test.YtglkndoghnblcaaGreatDoorOkb
import Derived.Lib.ConvBytes
import Derived.Test.YtglkndoghnblcaaGreatDoorOka
namespace Go.Proofs.YtglkndoghnblcaaGreatDoor
open Go.ChangeShapes Go.WideShapes Go.ChangeAt Go.RowKit
set_option linter.unusedVariables false
set_option linter.unusedSimpArgs false
theorem put82 {R : Ending → World → Prop} {i : Nat} (hi : i ≠ 4 ∧ i ≠ 5) {v : Value} {c : List PanicEntry} {a : Act} {w : World} (h : bodyPostD Tryz.prog Tryz.f78 R (.panic c) (a.put (some i) v) w) : bodyPostD Tryz.prog Tryz.f78 R (.panic c) a w := by
  refine leaves_put (fun w => ?_) _ _ _ h
  have e4 : (a.tmps.setIfInBounds i v)[4]? = a.tmps[4]? := Array.getElem?_setIfInBounds_ne hi.1
  have e5 : (a.tmps.setIfInBounds i v)[5]? = a.tmps[5]? := Array.getElem?_setIfInBounds_ne hi.2
  simp [results, Tryz.results78, Act.put, e4, e5]
def RdHd (w : World) (o : Option (Hd2)) (r : Ending) (w' : World) : Prop :=
  ((o = none ∧ r = .returned (.tuple #[.agg #[.int .i64 0, .slice none 0 0], .int .i64 4])) ∨ ∃ x v, o = some x ∧ r = .returned (.tuple #[v, .int .i64 0]) ∧ HdO w' w.heap.size x v) ∧ Below w.heap.size w w'
set_option maxRecDepth 100000 in
set_option maxHeartbeats 4000000 in
/-- read (82). -/
theorem readhd_law (a0 : Option Addr) (L : List Int) (n cap : Nat) (hL : L.length = n) (hn : n ≤ 1000000) (hB : Byt L) (w : World) (hA : Ls .u8 w a0 cap L) :
    Calls Tryz.prog 78 #[.slice a0 n cap, .func (.func 79) #[] #[]] w (RdHd w (readP (headP L))) := by
  have hmf : ∀ (fn : Fn) (first cap : Array Value) (w : World), (Instr.makeFunc fn first cap).run Tryz.prog w = .ok (.func fn first cap) w := fun _ _ _ _ => rfl
  have HA := Lib.hid (fun W (b : Below w.heap.size w W) => open_law a0 L n cap hL hn hB W (hA.below b))
  clear hL hn hB hA
  go_enter_defers Tryz.func78, Tryz.ntmps78
  go_upto_region 2 with (fail)
  obtain ⟨W1, hW1⟩ : ∃ W1, (w.alloc (.cells #[.int .i64 0, .slice none 0 0] 131)).alloc (.cells #[.int .i64 0] 26) = W1 := ⟨_, rfl⟩
  have hb1 : Below w.heap.size w W1 := by rw [← hW1]; exact step_below (bl1 _ _) (bl1 _ _)
  have x4 : BoxC W1 w.heap.size #[.int .i64 0, .slice none 0 0] 131 := by rw [← hW1]; exact (BoxC.new _ _ _).alloc _
  have x5 : BoxC W1 (w.heap.size + 1) #[.int .i64 0] 26 := by rw [← hW1]; have := BoxC.new (w.alloc (.cells #[.int .i64 0, .slice none 0 0] 131)) #[.int .i64 0] 26; simpa using this
  have hs1 : W1.heap.size = w.heap.size + 1 + 1 := by rw [← hW1]; simp
  try rw [hW1]
  clear hW1
  have HO := Lib.hid (HA.out _ hb1)
  have HB1 := Lib.hid hb1
  obtain ⟨N, hN⟩ : ∃ N, w.heap.size = N := ⟨_, rfl⟩
  have HN := Lib.hid hN
  rw [hN] at x4 x5 hs1 ⊢
  have X4 := Lib.hid x4
  have X5 := Lib.hid x5
  clear hb1 x4 x5 hN HA
  go_wp2_with fail
  refine HO.out.mono ?_; rintro e w2 ⟨B, rfl, r2, hB, B2⟩
  have X42 := Lib.hid (X4.out.below B2)
  have X52 := Lib.hid (X5.out.below B2)
  have HB2 := Lib.hid (step_below HB1.out B2)
  have HT := Lib.hid (heads_law r2)
  have hs2 : N + 1 + 1 ≤ w2.heap.size := by rw [← hs1]; exact B2.size
  clear X4 X5 HB1 r2 B2
  rw [hs1] at hB
  go_wp2_with fail
  refine HT.out.mono ?_
  rintro r w3 ⟨⟨e1, rfl⟩ | ⟨⟨e, xs⟩, R3, v, e1, rfl, hv, r3⟩, g3⟩
  · have HX := Lib.hid (readP_1 e1)
    have z4 := X42.out.gr g3 (by omega)
    have z5 := X52.out.gr g3 (by omega)
    have HB3 := Lib.hid (below_oth HB2.out g3 HB2.out.size (by rw [HN.out]; omega))
    clear g3 e1
    go_wp2_with fail
    refine leaves_cons (f := 122) (args := #[.pointer (some ⟨N, 0, none⟩), .pointer (some ⟨N + 1, 0, none⟩)]) (by simp) (by simp [go_sem]) ?_
    refine (catchhd_panic (N := N) (b4 := N) (b5 := N + 1) (w := w3) (x4 := z4) (x5 := z5) (hne := by omega) (h4 := Nat.le_refl _) (h5 := by omega)).mono ?_
    rintro e9 u' w9 ⟨rfl, rfl, q4, q5, HB9⟩
    have y0 := q4.cell 0
    have y1 := q4.cell 1
    have y99 := q5.cell 0
    simp only [List.getElem?_toArray, List.getElem?_cons_zero, List.getElem?_cons_succ] at y0 y1 y99
    have HE := Lib.hid (show RdHd w (readP (headP L)) (.returned (.tuple #[.agg #[.int .i64 0, .slice none 0 0], .int .i64 4])) w9 from ⟨.inl ⟨HX.out, rfl⟩, HB3.out.trans (by rw [HN.out]; exact HB9)⟩)
    simp [Leaves, settle, caughtP, results, Tryz.results78, go_sem, y0, y1, y99]
    exact HE.out
  obtain ⟨a, c, rfl, hw⟩ := hv
  simp only at hw ⊢
  obtain ⟨xl, hxl⟩ : ∃ xl, xs.length = xl := ⟨_, rfl⟩
  have HXL := Lib.hid hxl
  rw [hxl] at hw ⊢
  have HW3 := Lib.hid (hw.base hs2)
  clear hw hxl
  have E1 := Lib.hid e1
  have z4 := X42.out.gr g3 (by omega)
  have z5 := Lib.hid (X52.out.gr g3 (by omega))
  have HB3 := Lib.hid (below_oth HB2.out g3 HB2.out.size (by rw [HN.out]; omega))
  have hs3 : N + 1 + 1 ≤ w3.heap.size := Nat.le_trans hs2 g3.size
  have R3' := Lib.hid r3
  have x0 := z4.cell 0
  have f0 := z4.frozen 0
  have x1 := z4.cell 1
  have f1 := z4.frozen 1
  simp only [List.getElem?_toArray, List.getElem?_cons_zero, List.getElem?_cons_succ] at x0 x1
  have Y4 := Lib.hid ((z4.put 0 (.int .i64 (e : Int))).put 1 (.slice a xl c))
  have Y5 := Lib.hid (show BoxC ((w3.setCell ⟨N, 0, none⟩ (.int .i64 (e : Int))).setCell ⟨N, 1, none⟩ (.slice a xl c)) (N + 1) #[.int .i64 0] 26 from (BoxC.oth (i := 1) (v := .slice a xl c) (by omega) (BoxC.oth (i := 0) (v := .int .i64 (e : Int)) (by omega) z5.out)))
  have H9 := Lib.hid (show w3.grownBy ((w3.setCell ⟨N, 0, none⟩ (.int .i64 (e : Int))).setCell ⟨N, 1, none⟩ (.slice a xl c)) (some N) from oth_trans (oth_set _ _ _ _) (oth_set _ _ _ _))
  have HB9 := Lib.hid (((Below.refl N w3).setCell (p := ⟨N, 0, none⟩) (Nat.le_refl _) (.int .i64 (e : Int))).setCell (p := ⟨N, 1, none⟩) (Nat.le_refl _) (.slice a xl c))
  have Z4 := Lib.hid z4
  have NO8 := Lib.hid (show ∀ (i : Nat) (x : Int), (#[.int .i64 (e : Int), .slice a xl c] : Array Value)[i]? ≠ some (.int .u8 x) by
    intro i x h
    match i, h with
    | 0, h => simp at h
    | 1, h => simp at h
    | i + 2, h => simp at h)
  have NO0 := Lib.hid (show ∀ (i : Nat) (x : Int), (#[.int .i64 0, .slice none 0 0] : Array Value)[i]? ≠ some (.int .u8 x) by
    intro i x h
    match i, h with
    | 0, h => simp at h
    | 1, h => simp at h
    | i + 2, h => simp at h)
  clear z4 r3 g3 e1 X42 X52 HB2 HT
  go_upto_region 4 with (fail)
  clear x0 x1 f0 f1
  generalize ((w3.setCell ⟨N, 0, none⟩ (.int .i64 (e : Int))).setCell ⟨N, 1, none⟩ (.slice a xl c)) = w4 at *
  have hNB : N + 1 < B := by omega
  have hd : Below w4.heap.size w4 w4.drew := (Below.refl _ _).drew
  have FQ := Lib.hid (show (RdX N B #[.int .i64 (e : Int), .slice a xl c] 131 w4 (fun X => NumsO X (N + 1 + 1) xs (.slice a xl c)) R3) w4.drew from RdX.below ⟨Y4.out, ⟨0, Y5.out⟩, Below.refl _ _, HW3.out.oth (by omega) H9.out, R3'.out.setbox Z4.out NO0.out (by omega) H9.out, Nat.le_trans hs3 H9.out.size⟩ (fun X X' b h => NumsO.below h b) hd)
  have HBA := Lib.hid (show Below N w w4 from by have := HB3.out; rw [HN.out] at this; exact this.trans HB9.out)
  clear hd Y4 Y5 H9 HB9 R3' z5 HB3 Z4
  by_cases hz : R3 = []
  · have HX := Lib.hid (readP_3 (by rw [E1.out, hz] : headP L = some (_, [])))
    refine wp_region_held_drew (S := (RdX N B #[.int .i64 (e : Int), .slice a xl c] 131 w4 (fun X => NumsO X (N + 1 + 1) xs (.slice a xl c)) R3)) (by kernel_rfl) (FQ.out) (fun hHeld => ?_)
    refine wpAnyH_take (i := 0) (oi := { dst := some 13, op := Op.load 131 (Operand.tmp 4), type := 131, pos := "forms.go:32", after := #[], guard := none }) (v := ?_) rfl (by kernel_rfl) (by kernel_rfl) (by kernel_rfl) (fun _ _ _ h => put82 (i := 13) (by decide) h) (Or.inl ⟨by rfl, ?_⟩) (by assumption) ?_
    rotate_left
    · intro W hSw; obtain ⟨z4, _⟩ := hSw; have y0 := z4.cell 0; have y1 := z4.cell 1; simp only [List.getElem?_toArray, List.getElem?_cons_zero, List.getElem?_cons_succ] at y0 y1; go_simp; try with_reducible rfl
    try simp only [Act.put, List.setIfInBounds_toArray, List.set_cons_zero, List.set_cons_succ]
    refine wpAnyH_take (i := 1) (oi := { dst := some 14, op := Op.move (Operand.tmp 6), type := 116, pos := "forms.go:32", after := #[], guard := none }) (v := ?_) rfl (by kernel_rfl) (by kernel_rfl) (by kernel_rfl) (fun _ _ _ h => put82 (i := 14) (by decide) h) (Or.inl ⟨by rfl, ?_⟩) (by assumption) ?_
    rotate_left
    · intro W hSw; go_simp; try with_reducible rfl
    try simp only [Act.put, List.setIfInBounds_toArray, List.set_cons_zero, List.set_cons_succ]
    refine a1 2 rfl (fun K hK => ?_)
    go_simp
    have HEN := Lib.hid (end_law hHeld.rds)
    rw [if_pos hz] at HEN
    refine (HEN.out).mono ?_; rintro e9 w5 ⟨rfl, hb3⟩
    go_wp2_with fail
    refine hK.out _ _ (hHeld.below (fun X X' b h => NumsO.below h b) hb3) (fun hHeldn => ?_)
    clear hK K hHeld; have hHeld := hHeldn; clear hHeldn
    try simp only [Act.put, List.setIfInBounds_toArray, List.set_cons_zero, List.set_cons_succ]
    refine a1 3 rfl (fun K hK => ?_)
    go_simp
    refine (must_errno_ok _ _).mono ?_; rintro e9 w6 ⟨rfl, rfl⟩
    go_wp2_with fail
    refine hK.out _ _ (hHeld) (fun hHeldn => ?_)
    clear hK K hHeld; have hHeld := hHeldn; clear hHeldn
    try simp only [Act.put, List.setIfInBounds_toArray, List.set_cons_zero, List.set_cons_succ]
    refine a1 4 rfl (fun K hK => ?_)
    have hHc := hHeld
    obtain ⟨z4, ⟨y9, z5⟩, zb, zp, zr, zs⟩ := hHeld
    have y0 := z4.cell 0; have y1 := z4.cell 1; simp only [List.getElem?_toArray, List.getElem?_cons_zero, List.getElem?_cons_succ] at y0 y1
    have f0 := z4.frozen 0; have f1 := z4.frozen 1
    have SP4 := Lib.hid (rdx4 hHc hNB NO8.out (oth_trans (oth_set _ _ _ _) (oth_set _ _ _ _)) ((hHc.b4.put 0 (.int .i64 (e : Int))).put 1 (.slice a xl c)) ((hHc.bel.setCell (p := ⟨N, 0, none⟩) (Nat.le_refl _) (.int .i64 (e : Int))).setCell (p := ⟨N, 1, none⟩) (Nat.le_refl _) (.slice a xl c)) (NumsO.oth zp (B := N) (by omega) (oth_trans (oth_set _ _ _ _) (oth_set _ _ _ _))))
    clear hHc z4 z5 zb zp zr zs
    go_simp
    refine hK.out _ _ SP4.out (fun hHeldn => ?_)
    clear hK K y0 y1 f0 f1 SP4; have hHeld := hHeldn; clear hHeldn
    try simp only [Act.put, List.setIfInBounds_toArray, List.set_cons_zero, List.set_cons_succ]
    refine a1 5 rfl (fun K hK => ?_)
    have hHc := hHeld
    obtain ⟨z4, ⟨y8, z5⟩, zb, zp, zr, zs⟩ := hHeld
    have y0 := z5.cell 0; have f0 := z5.frozen 0; simp only [List.getElem?_toArray, List.getElem?_cons_zero, List.getElem?_cons_succ] at y0
    have SP5 := Lib.hid (rdx5 hHc hNB (NumsO.oth zp (B := N + 1) (by omega) (oth_set _ _ _ _)))
    have Z5 := Lib.hid (z5.put 0 (.int .i64 0))
    clear hHc z4 z5 zb zp zr zs
    go_simp
    refine hK.out _ _ SP5.out (fun hHeldn => ?_)
    clear hK K y0 f0 SP5; have hHeld := hHeldn; clear hHeldn
    try simp only [Act.put, List.setIfInBounds_toArray, List.set_cons_zero, List.set_cons_succ]
    refine wpAnyH_done (by kernel_rfl) ?_ _
    skip
    generalize (((w5.setCell ⟨N, 0, none⟩ (.int .i64 (e : Int))).setCell ⟨N, 1, none⟩ (.slice a xl c)).setCell ⟨N + 1, 0, none⟩ (.int .i64 0)) = W9 at *
    obtain ⟨q4, _, qb, qw, _, qs⟩ := hHeld
    have y0 := q4.cell 0
    have y1 := q4.cell 1
    have y99 := Z5.out.cell 0
    simp at y0 y1 y99
    go_wp2_with fail
    refine leaves_cons (f := 122) (args := #[.pointer (some ⟨N, 0, none⟩), .pointer (some ⟨N + 1, 0, none⟩)]) (by simp) (by simp [go_sem]) ?_
    refine (catchhd_idle N (N + 1) _).mono ?_
    rintro e9 u' w9 ⟨rfl, rfl, rfl⟩
    have HE := Lib.hid (show RdHd w (readP (headP L)) (.returned (.tuple #[.agg #[.int .i64 (e : Int), .slice a xl c], .int .i64 0])) w9 from ⟨.inr ⟨_, _, HX.out, rfl, ⟨a, c, by simp only [HXL.out], by rw [HN.out]; simp only; rw [HXL.out]; exact NumsO.base (by omega) qw⟩⟩, by rw [HN.out]; exact HBA.out.trans qb⟩)
    clear q4 qb qw qs Z5
    simp [Leaves, settle, results, Tryz.results78, go_sem, y0, y1, y99]
    exact HE.out
  · have HX := Lib.hid (readP_2 E1.out hz)
    refine wp_region_held_drew (S := (RdX N B #[.int .i64 (e : Int), .slice a xl c] 131 w4 (fun X => NumsO X (N + 1 + 1) xs (.slice a xl c)) R3)) (by kernel_rfl) (FQ.out) (fun hHeld => ?_)
    refine wpAnyH_take (i := 0) (oi := { dst := some 13, op := Op.load 131 (Operand.tmp 4), type := 131, pos := "forms.go:32", after := #[], guard := none }) (v := ?_) rfl (by kernel_rfl) (by kernel_rfl) (by kernel_rfl) (fun _ _ _ h => put82 (i := 13) (by decide) h) (Or.inl ⟨by rfl, ?_⟩) (by assumption) ?_
    rotate_left
    · intro W hSw; obtain ⟨z4, _⟩ := hSw; have y0 := z4.cell 0; have y1 := z4.cell 1; simp only [List.getElem?_toArray, List.getElem?_cons_zero, List.getElem?_cons_succ] at y0 y1; go_simp; try with_reducible rfl
    try simp only [Act.put, List.setIfInBounds_toArray, List.set_cons_zero, List.set_cons_succ]
    refine wpAnyH_take (i := 1) (oi := { dst := some 14, op := Op.move (Operand.tmp 6), type := 116, pos := "forms.go:32", after := #[], guard := none }) (v := ?_) rfl (by kernel_rfl) (by kernel_rfl) (by kernel_rfl) (fun _ _ _ h => put82 (i := 14) (by decide) h) (Or.inl ⟨by rfl, ?_⟩) (by assumption) ?_
    rotate_left
    · intro W hSw; go_simp; try with_reducible rfl
    try simp only [Act.put, List.setIfInBounds_toArray, List.set_cons_zero, List.set_cons_succ]
    refine a1 2 rfl (fun K hK => ?_)
    go_simp
    have HEN := Lib.hid (end_law hHeld.rds)
    rw [if_neg hz] at HEN
    refine (HEN.out).mono ?_; rintro e9 w5 ⟨rfl, hb3⟩
    go_wp2_with fail
    refine hK.out _ _ (hHeld.below (fun X X' b h => NumsO.below h b) hb3) (fun hHeldn => ?_)
    clear hK K hHeld; have hHeld := hHeldn; clear hHeldn
    try simp only [Act.put, List.setIfInBounds_toArray, List.set_cons_zero, List.set_cons_succ]
    refine a1 3 rfl (fun K hK => ?_)
    go_simp
    refine (must_errno_no _ 4 (by decide) _).mono ?_; rintro e9 w6 ⟨rfl, rfl⟩
    go_wp2_with fail
    obtain ⟨q4, ⟨y9, q5⟩, qb, _, _, _⟩ := hHeld
    have HQB := Lib.hid qb
    refine leaves_cons (f := 122) (args := #[.pointer (some ⟨N, 0, none⟩), .pointer (some ⟨N + 1, 0, none⟩)]) (by simp) (by simp [go_sem]) ?_
    refine (catchhd_panic (N := N) (b4 := N) (b5 := N + 1) (x4 := q4) (x5 := q5) (hne := by omega) (h4 := Nat.le_refl _) (h5 := by omega)).mono ?_
    rintro e9 u' w9 ⟨rfl, rfl, q4, q5, HB9⟩
    have y0 := q4.cell 0
    have y1 := q4.cell 1
    have y99 := q5.cell 0
    simp only [List.getElem?_toArray, List.getElem?_cons_zero, List.getElem?_cons_succ] at y0 y1 y99
    have HE := Lib.hid (show RdHd w (readP (headP L)) (.returned (.tuple #[.agg #[.int .i64 0, .slice none 0 0], .int .i64 4])) w9 from ⟨.inl ⟨HX.out, rfl⟩, by rw [HN.out]; exact (HBA.out.trans HQB.out).trans HB9⟩)
    simp [Leaves, settle, caughtP, results, Tryz.results78, go_sem, y0, y1, y99]
    exact HE.out
end Go.Proofs.YtglkndoghnblcaaGreatDoor
namespace Go.Proofs.YtglkndoghnblcaaGreatDoor
open Go.ChangeShapes Go.WideShapes Go.ChangeAt Go.RowKit
set_option linter.unusedVariables false
set_option linter.unusedSimpArgs false
/-- A stored row, as it lies. -/
structure StP where
  ka : Option Addr
  kc : Nat
  key : List Int
  ra : Option Addr
  rc : Nat
  R : List P1
  e : Int
  s : Int
def StP.cells (x : StP) : List Value := [.slice x.ka x.key.length x.kc, .slice x.ra x.R.length x.rc, .int .i64 x.e, .int .i64 x.s]
structure StOk (W : World) (x : StP) : Prop where
  ls : Ls .u8 W x.ka x.kc x.key
  row : RdR W x.ra x.R
  kb : Byt x.key
  rb : ∀ p ∈ x.R, Byt p.bs
theorem StOk.below {W W' : World} {x : StP} (h : StOk W x) (b : Below W.heap.size W W') : StOk W' x := ⟨h.ls.below b, h.row.below b, h.kb, h.rb⟩
/-- Stored rows in a row. -/
def StsR (W : World) (a : Option Addr) (xs : List StP) : Prop := ∀ (k : Nat) (x : StP), xs[k]? = some x → ∃ b off, a = some ⟨b, off, none⟩ ∧ W.cell? ⟨b, off + k * 4, none⟩ = some (.slice x.ka x.key.length x.kc) ∧ W.cell? ⟨b, off + k * 4 + 1, none⟩ = some (.slice x.ra x.R.length x.rc) ∧ W.cell? ⟨b, off + k * 4 + 2, none⟩ = some (.int .i64 x.e) ∧ W.cell? ⟨b, off + k * 4 + 3, none⟩ = some (.int .i64 x.s) ∧ StOk W x
theorem StsR.below {W W' : World} {a : Option Addr} {xs : List StP} (h : StsR W a xs) (hb : Below W.heap.size W W') : StsR W' a xs := fun k x hx => by
  obtain ⟨b, off, e, c0, c1, c2, c3, ok⟩ := h k x hx
  exact ⟨b, off, e, (hb.cell (cell_lt c0)).trans c0, (hb.cell (cell_lt c1)).trans c1, (hb.cell (cell_lt c2)).trans c2, (hb.cell (cell_lt c3)).trans c3, ok.below hb⟩
/-- A table, as it lies. -/
structure TbP where
  a : Option Addr
  c : Nat
  xs : List StP
def TbP.v (t : TbP) : Value := .slice t.a t.xs.length t.c
/-- Tables in a row. -/
def TbsR (W : World) (a : Option Addr) (ts : List TbP) : Prop := ∀ (k : Nat) (t : TbP), ts[k]? = some t → ∃ b off, a = some ⟨b, off, none⟩ ∧ W.cell? ⟨b, off + k, none⟩ = some (.slice t.a t.xs.length t.c) ∧ StsR W t.a t.xs
theorem TbsR.below {W W' : World} {a : Option Addr} {ts : List TbP} (h : TbsR W a ts) (hb : Below W.heap.size W W') : TbsR W' a ts := fun k t ht => by
  obtain ⟨b, off, e, c0, ok⟩ := h k t ht
  exact ⟨b, off, e, (hb.cell (cell_lt c0)).trans c0, ok.below hb⟩
/-- May it be stored in a checkpoint of that epoch? -/
def stB (e : Int) (x : StP) : Bool := mayK x.key.length && (mayR x.R && (tidB x.e x.s && decide (x.e ≤ e)))
/-- May so many first ones be a table's? -/
def okR (e : Int) (xs : List StP) : Nat → Bool
  | 0 => true
  | k + 1 => match xs[k]? with
    | some x => (okR e xs k && stB e x) && (if k = 0 then true else match xs[k - 1]? with
      | some l => decide (cmpI l.key x.key < 0)
      | none => true)
    | none => okR e xs k
def tbB (e : Int) (xs : List StP) : Bool := okR e xs xs.length
theorem okR_first {e : Int} {xs : List StP} {x : StP} (h : xs[0]? = some x) : okR e xs 1 = stB e x := by
  show (match xs[0]? with | some x => (okR e xs 0 && stB e x) && (if (0 : Nat) = 0 then true else _) | none => okR e xs 0) = _
  rw [h]
  simp [okR]
theorem okR_next {e : Int} {xs : List StP} {x l : StP} {k : Nat} (hk : 0 < k) (h : xs[k]? = some x) (hl : xs[k - 1]? = some l) : okR e xs (k + 1) = ((okR e xs k && stB e x) && decide (cmpI l.key x.key < 0)) := by
  show (match xs[k]? with | some x => (okR e xs k && stB e x) && (if k = 0 then true else match xs[k - 1]? with | some l => decide (cmpI l.key x.key < 0) | none => true) | none => okR e xs k) = _
  rw [h]
  simp only
  rw [if_neg (by omega), hl]
/-- May so many first tables be a checkpoint's? -/
def okT (e : Int) (ts : List TbP) : Nat → Bool
  | 0 => inB e 0 16777215 && decide ((ts.length : Int) ≤ 4)
  | k + 1 => match ts[k]? with
    | some t => okT e ts k && tbB e t.xs
    | none => okT e ts k
theorem okT_next {e : Int} {ts : List TbP} {t : TbP} {k : Nat} (h : ts[k]? = some t) : okT e ts (k + 1) = (okT e ts k && tbB e t.xs) := by
  show (match ts[k]? with | some t => _ | none => _) = _
  rw [h]
def ckB (e : Int) (ts : List TbP) : Bool := okT e ts ts.length
/-- How many rows the first tables have. -/
def cntT (ts : List TbP) (k : Nat) : Nat := ((ts.take k).map fun t => t.xs.length).sum
theorem cntT_next {ts : List TbP} {t : TbP} {k : Nat} (h : ts[k]? = some t) : cntT ts (k + 1) = cntT ts k + t.xs.length := by
  unfold cntT
  rw [List.take_add_one, h]
  simp
theorem cntT_le (ts : List TbP) (k : Nat) : cntT ts k ≤ cntT ts ts.length := by
  unfold cntT
  rw [List.take_length]
  have : (ts.map fun t => t.xs.length).sum = ((ts.take k).map fun t => t.xs.length).sum + ((ts.drop k).map fun t => t.xs.length).sum := by
    rw [← List.sum_append, ← List.map_append, List.take_append_drop]
  omega
end Go.Proofs.YtglkndoghnblcaaGreatDoor
namespace Go.Proofs.YtglkndoghnblcaaGreatDoor
open Go.ChangeShapes Go.WideShapes Go.ChangeAt Go.RowKit
set_option linter.unusedVariables false
set_option linter.unusedSimpArgs false
set_option maxRecDepth 100000 in
set_option maxHeartbeats 4000000 in
/-- mayCheckpoint (76). -/
theorem mayck_law (e : Int) (a : Option Addr) (ts : List TbP) (n cap : Nat) (hn : ts.length = n) (hn2 : n ≤ 1000000) (hxs : ∀ t ∈ ts, t.xs.length ≤ 1000000 ∧ ∀ x ∈ t.xs, x.R.length ≤ 1000000) (w : World) (hR : TbsR w a ts) :
    Calls Tryz.prog 70 #[.agg #[.int .i64 e, .slice a n cap]] w fun r w' => r = .returned (.bool (ckB e ts)) ∧ Below w.heap.size w w' := by
  have HR := Lib.hid hR
  have HN := Lib.hid (And.intro hn hxs)
  have HW := Lib.hid (fun W => within_law e 0 16777215 W)
  obtain ⟨b1, hb1⟩ : ∃ b, inB e 0 16777215 = b := ⟨_, rfl⟩
  obtain ⟨b2, hb2⟩ : ∃ b, decide ((n : Int) ≤ 4) = b := ⟨_, rfl⟩
  have HB12 := Lib.hid (show okT e ts 0 = (b1 && b2) by show (inB e 0 16777215 && decide ((ts.length : Int) ≤ 4)) = _; rw [hn, hb1, hb2])
  rw [hb1] at HW
  clear hb1 hn hxs hR
  go_enter Tryz.func70, Tryz.ntmps70
  go_upto_region 1 with (fail)
  obtain ⟨W0, hW0⟩ : ∃ W0, w.alloc (.cells #[.int .i64 e, .slice a n cap] 77) = W0 := ⟨_, rfl⟩
  have hb0 : Below w.heap.size w W0 := by rw [← hW0]; exact bl1 _ _
  have bx : BoxC W0 w.heap.size #[.int .i64 e, .slice a n cap] 77 := by rw [← hW0]; exact BoxC.new w _ 77
  try rw [hW0]
  clear hW0
  have z0 := bx.cell 0
  have z1 := bx.cell 1
  simp only [List.getElem?_toArray, List.getElem?_cons_zero, List.getElem?_cons_succ] at z0 z1
  go_cut [3] (fun v wx => v = .bool (b1 && b2) ∧ W0 = wx)
  case first =>
    cases b1 with
    | true =>
      go_wp2_with fail
      refine (HW.out _).mono ?_; rintro r w1 ⟨rfl, rfl⟩
      go_wp2_with fail
      go_meet
      exact ⟨by simp [hb2], rfl⟩
    | false =>
      go_wp2_with fail
      refine (HW.out _).mono ?_; rintro r w1 ⟨rfl, rfl⟩
      go_wp2_with fail
      go_meet
      exact ⟨by simp, rfl⟩
  case rest =>
    obtain ⟨rfl, rfl⟩ := hcut
    rw [← HB12.out]
    have HBX := Lib.hid bx
    have HB0 := Lib.hid hb0
    clear z0 hb0 bx HW HB12 hb2
    go_wp2_with fail
    go_loopw [3, 5, 6, 7, 20] (fun v l i p j wr => ∃ k : Nat, k ≤ n ∧ v = .bool (okT e ts k) ∧ j = .int .i64 (k : Int) ∧ Hid (Below W0.heap.size W0 wr)) (fun _ _ _ _ j _ => n - (intOf j).toNat)
    case atStart => exact ⟨0, Nat.zero_le _, rfl, rfl, Lib.hid (Below.refl _ _)⟩
    case round =>
      obtain ⟨i, hi, rfl, rfl, HBW⟩ := hrel
      obtain ⟨okt, hokt⟩ : ∃ b, okT e ts i = b := ⟨_, rfl⟩
      have HOKT := Lib.hid hokt
      rw [hokt]
      clear hokt z1
      have HWR := Lib.hid (step_below HB0.out HBW.out)
      by_cases hlt : i < n
      · have d1 : (i : Int) < (n : Int) := by omega
        obtain ⟨t, ht⟩ : ∃ t, ts[i]? = some t := ⟨_, List.getElem?_eq_getElem (by rw [HN.out.1]; exact hlt)⟩
        have HT := Lib.hid (And.intro ht (HN.out.2 t (List.mem_of_getElem? ht)))
        have HNT := Lib.hid (okT_next (e := e) ht)
        obtain ⟨bt, ot, rfl, ct, hst⟩ := (HR.out.below HWR.out) i t ht
        have HST := Lib.hid hst
        obtain ⟨m, hm⟩ : ∃ m, t.xs.length = m := ⟨_, rfl⟩
        have HM := Lib.hid hm
        have hm2 : m ≤ 1000000 := by rw [← hm]; exact HT.out.2.1
        rw [hm] at ct
        clear ht hst hm
        go_upto_region 6 with (fail)
        obtain ⟨WO, rfl⟩ : ∃ WO, WO = wr := ⟨_, rfl⟩
        go_loopw [3, 6, 7, 26] (fun v q p j wr => ∃ k : Nat, k ≤ m ∧ v = .bool (okt && okR e t.xs k) ∧ j = .int .i64 (k : Int) ∧ Hid (Below WO.heap.size WO wr)) (fun _ _ _ j _ => m - (intOf j).toNat)
        case atStart => exact ⟨0, Nat.zero_le _, by simp [okR], rfl, Lib.hid (Below.refl _ _)⟩
        case round =>
          obtain ⟨k, hk, rfl, rfl, HBQ⟩ := hrel
          obtain ⟨okv, hokv⟩ : ∃ b, (okt && okR e t.xs k) = b := ⟨_, rfl⟩
          have HOKV := Lib.hid hokv
          rw [hokv]
          clear hokv ct
          by_cases hkm : k < m
          · have d2 : (k : Int) < (m : Int) := by omega
            obtain ⟨x, hx⟩ : ∃ x, t.xs[k]? = some x := ⟨_, List.getElem?_eq_getElem (by rw [HM.out]; exact hkm)⟩
            have HX := Lib.hid (And.intro hx (HT.out.2.2 x (List.mem_of_getElem? hx)))
            obtain ⟨bb, off, hta, c0, c1, c2, c3, ok⟩ := (HST.out.below HBQ.out) k x hx
            rw [hta]
            have HTA := Lib.hid hta
            have HOK := Lib.hid ok
            clear hx ok hta
            go_upto_region 8 with (fail)
            obtain ⟨W1, hW1⟩ : ∃ W1, wr.alloc (.cells #[.slice x.ka x.key.length x.kc, .slice x.ra x.R.length x.rc, .int .i64 x.e, .int .i64 x.s] 72) = W1 := ⟨_, rfl⟩
            have hb1 : Below wr.heap.size wr W1 := by rw [← hW1]; exact bl1 _ _
            have bw : BoxC W1 wr.heap.size #[.slice x.ka x.key.length x.kc, .slice x.ra x.R.length x.rc, .int .i64 x.e, .int .i64 x.s] 72 := by rw [← hW1]; exact BoxC.new wr _ 72
            have y0 := bw.cell 0
            have y1 := bw.cell 1
            have y2 := bw.cell 2
            have y3 := bw.cell 3
            simp only [List.getElem?_toArray, List.getElem?_cons_zero, List.getElem?_cons_succ] at y0 y1 y2 y3
            try rw [hW1]
            clear hW1 c0 c1 c2 c3
            have HB1 := Lib.hid (step_below HBQ.out hb1)
            have HBWX := Lib.hid bw
            have HOK1 := Lib.hid (HOK.out.below hb1)
            have z0 := (HBX.out.below (step_below HBW.out HB1.out)).cell 0
            simp only [List.getElem?_toArray, List.getElem?_cons_zero] at z0
            clear hb1 bw
            go_cut [3] (fun v wx => v = .bool (okv && stB e x) ∧ Hid (Below W1.heap.size W1 wx))
            case first =>
              cases okv with
              | false =>
                clear y0 y1 y2 y3 z0
                go_wp2_with fail
                go_meet
                exact ⟨by simp, Lib.hid (Below.refl _ _)⟩
              | true =>
                go_wp2_with fail
                refine (maykey_law x.ka x.key.length x.kc _).mono ?_; rintro r w2 ⟨rfl, rfl⟩
                obtain ⟨b0, hb0⟩ : ∃ b, mayK x.key.length = b := ⟨_, rfl⟩
                rw [hb0]
                have HV0 := Lib.hid hb0
                clear hb0
                cases b0 with
                | false =>
                  go_wp2_with fail
                  go_meet
                  exact ⟨by unfold stB; rw [HV0.out]; simp, Lib.hid (Below.refl _ _)⟩
                | true =>
                  go_wp2_with fail
                  refine (mayr_law x.ra x.R x.R.length x.rc rfl HX.out.2 _ HOK1.out.row).mono ?_; rintro r w2 ⟨rfl, hb2⟩
                  have HB2 := Lib.hid hb2
                  have y2' := (hb2.cell (cell_lt y2)).trans y2
                  have y3' := (hb2.cell (cell_lt y3)).trans y3
                  have z0' := (hb2.cell (cell_lt z0)).trans z0
                  clear hb2 y0 y1 y2 y3 z0
                  obtain ⟨b1, hb1⟩ : ∃ b, mayR x.R = b := ⟨_, rfl⟩
                  rw [hb1]
                  have HV1 := Lib.hid hb1
                  clear hb1
                  cases b1 with
                  | false =>
                    go_wp2_with fail
                    go_meet
                    exact ⟨by unfold stB; rw [HV0.out, HV1.out]; simp, HB2⟩
                  | true =>
                    go_wp2_with fail
                    refine (maytid_law x.e x.s _).mono ?_; rintro r w3 ⟨rfl, hb3⟩
                    have HB3 := Lib.hid (step_below HB2.out hb3)
                    have y2 := (hb3.cell (cell_lt y2')).trans y2'
                    have z0 := (hb3.cell (cell_lt z0')).trans z0'
                    clear hb3 y2' y3' z0'
                    obtain ⟨b2, hb2⟩ : ∃ b, tidB x.e x.s = b := ⟨_, rfl⟩
                    rw [hb2]
                    have HV2 := Lib.hid hb2
                    clear hb2
                    cases b2 with
                    | false =>
                      go_wp2_with fail
                      go_meet
                      exact ⟨by unfold stB; rw [HV0.out, HV1.out, HV2.out]; simp, HB3⟩
                    | true =>
                      go_wp2_with fail
                      go_meet
                      exact ⟨by unfold stB; rw [HV0.out, HV1.out, HV2.out]; simp, HB3⟩
            case rest =>
              obtain ⟨rfl, HB5⟩ := hcut
              obtain ⟨okw, hokw⟩ : ∃ b, (okv && stB e x) = b := ⟨_, rfl⟩
              rw [hokw]
              have HOKW := Lib.hid hokw
              have HBC := Lib.hid (step_below HB1.out HB5.out)
              have HBWC := Lib.hid (HBWX.out.below HB5.out)
              have HOKC := Lib.hid (HOK1.out.below HB5.out)
              clear y0 y1 y2 y3 z0 HB1 HBWX HOK1 HB5 hokw HOK
              go_wp2_with fail
              rename_i KK hKK
              obtain ⟨W2, hW2⟩ : ∃ W2, wc = W2 := ⟨_, rfl⟩
              rw [hW2] at HBC HBWC HOKC ⊢
              by_cases hk0 : k = 0
              · have HNX := Lib.hid (show (okt && okR e t.xs (k + 1)) = okw by
                  subst hk0
                  rw [okR_first HX.out.1, ← HOKW.out, ← HOKV.out]
                  simp [okR])
                subst hk0
                cases okw with
                | true =>
                  refine Code.wp_mono (Q := Exit.then KK (fun _ _ _ => False)) (fun e a' w' h => by cases e <;> first | exact h | exact h.elim) ?_
                  refine wp_region_held_drew (S := (fun X => Below W2.heap.size W2 X)) (by kernel_rfl) ((Below.refl _ _).drew) (fun hHeld => ?_)
                  refine tp 0 ?_ rfl (.inl ⟨by rfl, ?_⟩) ?_
                  rotate_left
                  · intro W hSw; go_simp; try with_reducible rfl
                  refine tp 1 ?_ rfl (.inl ⟨by rfl, ?_⟩) ?_
                  rotate_left
                  · intro W hSw; go_simp; try with_reducible rfl
                  refine tp 2 ?_ rfl (.inl ⟨by rfl, ?_⟩) ?_
                  rotate_left
                  · intro W hSw; go_simp; try with_reducible rfl
                  refine tp 3 (.bool true) rfl (.inl ⟨by rfl, ?_⟩) ?_
                  · intro W hSw; go_simp; try simp
                  refine tp 4 (.bool true) rfl (.inl ⟨by rfl, ?_⟩) ?_
                  · intro W hSw; go_simp; try rfl
                  refine tn 5 rfl ?_
                  refine tn 6 rfl ?_
                  refine tn 7 rfl ?_
                  refine tn 8 rfl ?_
                  refine tn 9 rfl ?_
                  refine tn 10 rfl ?_
                  refine tn 11 rfl ?_
                  refine tn 12 rfl ?_
                  refine tn 13 rfl ?_
                  refine tn 14 rfl ?_
                  refine tp 15 ?_ rfl (.inl ⟨by rfl, ?_⟩) ?_
                  rotate_left
                  · intro W hSw; go_simp; try with_reducible rfl
                  refine tp 16 ?_ rfl (.inl ⟨by rfl, ?_⟩) ?_
                  rotate_left
                  · intro W hSw; go_simp; try with_reducible rfl
                  refine tp 17 ?_ rfl (.inl ⟨by rfl, ?_⟩) ?_
                  rotate_left
                  · intro W hSw; go_simp; try with_reducible rfl
                  refine wpAnyH_done (by kernel_rfl) ?_ _
                  skip
                  refine hKK _ _ ?_
                  have HBN := Lib.hid (step_below HBC.out hHeld)
                  clear hKK hHeld
                  go_wp2_with fail
                  go_roundw
                  case rel => exact ⟨1, by omega, by rw [← HNX.out], by go_num, HBN⟩
                  case measure => simp [intOf]; omega
                | false =>
                  refine Code.wp_mono (Q := Exit.then KK (fun _ _ _ => False)) (fun e a' w' h => by cases e <;> first | exact h | exact h.elim) ?_
                  refine wp_region_held_drew (S := (fun X => Below W2.heap.size W2 X)) (by kernel_rfl) ((Below.refl _ _).drew) (fun hHeld => ?_)
                  refine tp 0 ?_ rfl (.inl ⟨by rfl, ?_⟩) ?_
                  rotate_left
                  · intro W hSw; go_simp; try with_reducible rfl
                  refine tp 1 ?_ rfl (.inl ⟨by rfl, ?_⟩) ?_
                  rotate_left
                  · intro W hSw; go_simp; try with_reducible rfl
                  refine tn 2 rfl ?_
                  refine tn 3 rfl ?_
                  refine tn 4 rfl ?_
                  refine tn 5 rfl ?_
                  refine tn 6 rfl ?_
                  refine tn 7 rfl ?_
                  refine tn 8 rfl ?_
                  refine tn 9 rfl ?_
                  refine tn 10 rfl ?_
                  refine tn 11 rfl ?_
                  refine tn 12 rfl ?_
                  refine tn 13 rfl ?_
                  refine tn 14 rfl ?_
                  refine tn 15 rfl ?_
                  refine tp 16 ?_ rfl (.inl ⟨by rfl, ?_⟩) ?_
                  rotate_left
                  · intro W hSw; go_simp; try with_reducible rfl
                  refine tp 17 ?_ rfl (.inl ⟨by rfl, ?_⟩) ?_
                  rotate_left
                  · intro W hSw; go_simp; try with_reducible rfl
                  refine wpAnyH_done (by kernel_rfl) ?_ _
                  skip
                  refine hKK _ _ ?_
                  have HBN := Lib.hid (step_below HBC.out hHeld)
                  clear hKK hHeld
                  go_wp2_with fail
                  go_roundw
                  case rel => exact ⟨1, by omega, by rw [← HNX.out], by go_num, HBN⟩
                  case measure => simp [intOf]; omega
              · have d00 : ¬ (k : Int) = 0 := by omega
                obtain ⟨l, hl⟩ : ∃ l, t.xs[k - 1]? = some l := ⟨_, List.getElem?_eq_getElem (by rw [HM.out]; omega)⟩
                obtain ⟨bb2, off2, hbo, c0, c1, c2, c3, ok⟩ := (HST.out.below HBC.out) (k - 1) l hl
                have HNX := Lib.hid (show (okt && okR e t.xs (k + 1)) = (okw && decide (cmpI l.key x.key < 0)) by
                  rw [okR_next (by omega) HX.out.1 hl, ← HOKW.out, ← HOKV.out]
                  simp only [Bool.and_assoc])
                rw [HTA.out] at hbo
                cases hbo
                have HLX := Lib.hid (And.intro ok HOKC.out)
                have hwk : IntKind.i64.wrap ((k : Int) - 1) = ((k - 1 : Nat) : Int) := by rw [IntKind.wrap_i64] <;> omega
                obtain ⟨k1, hk1⟩ : ∃ k1, k - 1 = k1 := ⟨_, rfl⟩
                rw [hk1] at hwk c0
                have dk1 : (k1 : Int) < (m : Int) := by omega
                have FQ := Lib.hid (fun X (b : Below W2.heap.size W2 X) => (⟨(b.cell (cell_lt c0)).trans c0, (HBWC.out.below b).cell 0⟩ : X.cell? ⟨bb, off + k1 * 4, none⟩ = some (.slice l.ka l.key.length l.kc) ∧ X.cell? ⟨wr.heap.size, 0, none⟩ = some (.slice x.ka x.key.length x.kc)))
                clear hl ok hk1 c0 c1 c2 c3
                cases okw with
                | true =>
                  refine Code.wp_mono (Q := Exit.then KK (fun _ _ _ => False)) (fun e a' w' h => by cases e <;> first | exact h | exact h.elim) ?_
                  refine wp_region_held_drew (S := (fun X => Below W2.heap.size W2 X)) (by kernel_rfl) ((Below.refl _ _).drew) (fun hHeld => ?_)
                  refine tp 0 ?_ rfl (.inl ⟨by rfl, ?_⟩) ?_
                  rotate_left
                  · intro W hSw; go_simp; try with_reducible rfl
                  refine tp 1 ?_ rfl (.inl ⟨by rfl, ?_⟩) ?_
                  rotate_left
                  · intro W hSw; go_simp; try with_reducible rfl
                  refine tp 2 ?_ rfl (.inl ⟨by rfl, ?_⟩) ?_
                  rotate_left
                  · intro W hSw; go_simp; try with_reducible rfl
                  refine tp 3 (.bool false) rfl (.inl ⟨by rfl, ?_⟩) ?_
                  · intro W hSw; go_simp; try simp [d00]
                  refine tp 4 (.bool false) rfl (.inl ⟨by rfl, ?_⟩) ?_
                  · intro W hSw; go_simp; try rfl
                  refine tp 5 ?_ rfl (.inl ⟨by rfl, ?_⟩) ?_
                  rotate_left
                  · intro W hSw; go_simp; try with_reducible rfl
                  refine tp 6 ?_ rfl (.inl ⟨by rfl, ?_⟩) ?_
                  rotate_left
                  · intro W hSw; go_simp; try with_reducible rfl
                  refine tp 7 ?_ rfl (.inl ⟨by rfl, ?_⟩) ?_
                  rotate_left
                  · intro W hSw; go_simp; try with_reducible rfl
                  refine tp 8 ?_ rfl (.inl ⟨by rfl, ?_⟩) ?_
                  rotate_left
                  · intro W hSw; go_simp; try with_reducible rfl
                  refine tp 9 ?_ rfl (.inl ⟨by rfl, ?_⟩) ?_
                  rotate_left
                  · intro W hSw; go_simp; try with_reducible rfl
                  refine tp 10 ?_ rfl (.inl ⟨by rfl, ?_⟩) ?_
                  rotate_left
                  · intro W hSw; obtain ⟨z0, z1⟩ := FQ.out W hSw; go_simp; try with_reducible rfl
                  refine tp 11 ?_ rfl (.inl ⟨by rfl, ?_⟩) ?_
                  rotate_left
                  · intro W hSw; go_simp; try with_reducible rfl
                  refine tp 12 ?_ rfl (.inl ⟨by rfl, ?_⟩) ?_
                  rotate_left
                  · intro W hSw; obtain ⟨z0, z1⟩ := FQ.out W hSw; go_simp; try with_reducible rfl
                  refine a1 13 rfl (fun K hK => ?_)
                  go_simp
                  refine (bcompare_law _ l.ka x.ka l.key.length x.key.length l.kc x.kc l.key x.key rfl rfl ((HLX.out.1.ls.below hHeld).rd) ((HLX.out.2.ls.below hHeld).rd) HLX.out.1.kb HLX.out.2.kb).mono ?_; rintro e9 w4 ⟨rfl, rfl⟩
                  go_wp2_with fail
                  refine hK.out _ _ (hHeld) (fun hHeldn => ?_)
                  clear hK K hHeld; have hHeld := hHeldn; clear hHeldn
                  try simp only [Act.put, List.setIfInBounds_toArray, List.set_cons_zero, List.set_cons_succ]
                  refine tp 14 ?_ rfl (.inl ⟨by rfl, ?_⟩) ?_
                  rotate_left
                  · intro W hSw; go_simp; try with_reducible rfl
                  refine tp 15 ?_ rfl (.inl ⟨by rfl, ?_⟩) ?_
                  rotate_left
                  · intro W hSw; go_simp; try with_reducible rfl
                  refine tp 16 ?_ rfl (.inl ⟨by rfl, ?_⟩) ?_
                  rotate_left
                  · intro W hSw; go_simp; try with_reducible rfl
                  refine tp 17 ?_ rfl (.inl ⟨by rfl, ?_⟩) ?_
                  rotate_left
                  · intro W hSw; go_simp; try with_reducible rfl
                  refine wpAnyH_done (by kernel_rfl) ?_ _
                  skip
                  refine hKK _ _ ?_
                  have HBN := Lib.hid (step_below HBC.out hHeld)
                  clear hKK hHeld FQ
                  go_wp2_with fail
                  go_roundw
                  case rel => exact ⟨k + 1, by omega, by rw [HNX.out]; simp, by go_num, HBN⟩
                  case measure => simp [intOf]; omega
                | false =>
                  refine Code.wp_mono (Q := Exit.then KK (fun _ _ _ => False)) (fun e a' w' h => by cases e <;> first | exact h | exact h.elim) ?_
                  refine wp_region_held_drew (S := (fun X => Below W2.heap.size W2 X)) (by kernel_rfl) ((Below.refl _ _).drew) (fun hHeld => ?_)
                  refine tp 0 ?_ rfl (.inl ⟨by rfl, ?_⟩) ?_
                  rotate_left
                  · intro W hSw; go_simp; try with_reducible rfl
                  refine tp 1 ?_ rfl (.inl ⟨by rfl, ?_⟩) ?_
                  rotate_left
                  · intro W hSw; go_simp; try with_reducible rfl
                  refine tn 2 rfl ?_
                  refine tn 3 rfl ?_
                  refine tn 4 rfl ?_
                  refine tn 5 rfl ?_
                  refine tn 6 rfl ?_
                  refine tn 7 rfl ?_
                  refine tn 8 rfl ?_
                  refine tn 9 rfl ?_
                  refine tn 10 rfl ?_
                  refine tn 11 rfl ?_
                  refine tn 12 rfl ?_
                  refine tn 13 rfl ?_
                  refine tn 14 rfl ?_
                  refine tn 15 rfl ?_
                  refine tp 16 ?_ rfl (.inl ⟨by rfl, ?_⟩) ?_
                  rotate_left
                  · intro W hSw; go_simp; try with_reducible rfl
                  refine tp 17 ?_ rfl (.inl ⟨by rfl, ?_⟩) ?_
                  rotate_left
                  · intro W hSw; go_simp; try with_reducible rfl
                  refine wpAnyH_done (by kernel_rfl) ?_ _
                  skip
                  refine hKK _ _ ?_
                  have HBN := Lib.hid (step_below HBC.out hHeld)
                  clear hKK hHeld FQ
                  go_wp2_with fail
                  go_roundw
                  case rel => exact ⟨k + 1, by omega, by rw [HNX.out]; simp, by go_num, HBN⟩
                  case measure => simp [intOf]; omega
          · have d2 : ¬ (k : Int) < (m : Int) := by omega
            obtain rfl : k = m := by omega
            have HE := Lib.hid (show okT e ts (i + 1) = okv by rw [HNT.out, HOKT.out, ← HOKV.out]; unfold tbB; rw [HM.out])
            have HBE := Lib.hid (step_below HBW.out HBQ.out)
            go_wp2_with fail
            go_roundw
            case rel => exact ⟨i + 1, by omega, by rw [HE.out], by go_num, HBE⟩
            case measure => simp [intOf]; omega
      · have d1 : ¬ (i : Int) < (n : Int) := by omega
        obtain rfl : i = n := by omega
        have HE := Lib.hid (show ckB e ts = okt by unfold ckB; rw [HN.out.1, HOKT.out])
        go_wp2_with fail
        go_ret
        exact ⟨by rw [HE.out]; rfl, HWR.out⟩
end Go.Proofs.YtglkndoghnblcaaGreatDoor
namespace Go.Proofs.YtglkndoghnblcaaGreatDoor
open Go.ChangeShapes Go.WideShapes Go.ChangeAt Go.RowKit
set_option linter.unusedVariables false
set_option linter.unusedSimpArgs false
/-- Numbers in a row. -/
def NuR (W : World) (a : Option Addr) (xs : List Int) : Prop := ∀ (k : Nat) (x : Int), xs[k]? = some x → ∃ b off, a = some ⟨b, off, none⟩ ∧ W.cell? ⟨b, off + k, none⟩ = some (.int .i64 x)
theorem NuR.below {W W' : World} {a : Option Addr} {xs : List Int} (h : NuR W a xs) (hb : Below W.heap.size W W') : NuR W' a xs := fun k x hx => by
  obtain ⟨b, off, e, c0⟩ := h k x hx
  exact ⟨b, off, e, (hb.cell (cell_lt c0)).trans c0⟩
theorem NuR.of {W : World} {a : Option Addr} {c : Nat} {xs : List Int} (h : Ls .i64 W a c xs) : NuR W a xs := fun k x hx => by
  have hk : k < xs.length := (List.getElem?_eq_some_iff.1 hx).1
  obtain ⟨b, off, e, hc⟩ := h.rd k hk
  refine ⟨b, off, e, ?_⟩
  rw [hc]
  simp [List.getD, hx]
def nuW (x : Int) : List Int := numW x.toNat
theorem eltN : Elt .i64 124 2 8 := ⟨Tryz.underlying124, by kernel_rfl, by decide⟩
/-- How many rows each of the first tables has. -/
def cntsL (ts : List TbP) (k : Nat) : List Int := (ts.take k).map fun t => (t.xs.length : Int)
theorem cntsL_next {ts : List TbP} {t : TbP} {k : Nat} (h : ts[k]? = some t) : cntsL ts (k + 1) = cntsL ts k ++ [(t.xs.length : Int)] := by
  unfold cntsL
  rw [List.take_add_one, h]
  simp
theorem cntsL_len (ts : List TbP) (k : Nat) (hk : k ≤ ts.length) : (cntsL ts k).length = k := by
  unfold cntsL
  rw [List.length_map, List.length_take]
  omega
set_option maxRecDepth 100000 in
set_option maxHeartbeats 4000000 in
/-- counts (77). -/
theorem counts_law (e : Int) (a : Option Addr) (ts : List TbP) (n cap : Nat) (hn : ts.length = n) (hn2 : n ≤ 1000000) (hc : cntT ts n ≤ 1000000000) (w : World) (hR : TbsR w a ts) :
    Calls Tryz.prog 71 #[.agg #[.int .i64 e, .slice a n cap]] w fun r w' => ∃ a' c', r = .returned (.tuple #[.slice a' n c', .int .i64 (cntT ts n : Int)]) ∧ w'.ownsRow w.heap.size 2 1 (.slice a' n c') n (iv .i64 (cntsL ts n)) ∧ Below w.heap.size w w' := by
  have HR := Lib.hid hR
  have HN := Lib.hid hn
  have HC := Lib.hid (show ∀ k, cntT ts k ≤ 1000000000 from fun k => Nat.le_trans (cntT_le ts k) (by rw [hn]; exact hc))
  clear hn hc hR
  go_enter Tryz.func71, Tryz.ntmps71
  go_upto_region 3 with (fail)
  obtain ⟨W0, hW0⟩ : ∃ W0, w.alloc (.cells #[.int .i64 e, .slice a n cap] 77) = W0 := ⟨_, rfl⟩
  have hb0 : Below w.heap.size w W0 := by rw [← hW0]; exact bl1 _ _
  have bx : BoxC W0 w.heap.size #[.int .i64 e, .slice a n cap] 77 := by rw [← hW0]; exact BoxC.new w _ 77
  try rw [hW0]
  clear hW0
  have z1 := bx.cell 1
  simp only [List.getElem?_toArray, List.getElem?_cons_zero, List.getElem?_cons_succ] at z1
  have HB0 := Lib.hid hb0
  clear hb0 bx
  go_wp2_with fail
  go_loopw [4, 5, 7, 11] (fun v s l j wr => ∃ k : Nat, k ≤ n ∧ s = .int .i64 (cntT ts k : Int) ∧ j = .int .i64 (k : Int) ∧ Hid (wr.ownsRow w.heap.size 2 1 v k (iv .i64 (cntsL ts k))) ∧ Hid (Below w.heap.size w wr)) (fun _ _ _ j _ => n - (intOf j).toNat)
  case atStart => exact ⟨0, Nat.zero_le _, by simp [cntT], rfl, Lib.hid (World.ownsRow_nil _ _ _ _), HB0⟩
  case round =>
    obtain ⟨k, hk, rfl, rfl, HO, HB⟩ := hrel
    by_cases hlt : k < n
    · have d1 : (k : Int) < (n : Int) := by omega
      obtain ⟨t, ht⟩ : ∃ t, ts[k]? = some t := ⟨_, List.getElem?_eq_getElem (by rw [HN.out]; exact hlt)⟩
      obtain ⟨bt, ot, rfl, ct, _⟩ := (HR.out.below HB.out) k t ht
      have HS := Lib.hid (And.intro (cntT_next ht) (cntsL_next ht))
      obtain ⟨m, hm⟩ : ∃ m, t.xs.length = m := ⟨_, rfl⟩
      rw [hm] at ct HS
      obtain ⟨s, hs⟩ : ∃ s, cntT ts k = s := ⟨_, rfl⟩
      have hs2 : s + m ≤ 1000000000 := by have h1 := HC.out (k + 1); rw [HS.out.1, hs] at h1; exact h1
      rw [hs] at HS ⊢
      have e1 : IntKind.i64.wrap ((s : Int) + (m : Int)) = ((s + m : Nat) : Int) := by rw [IntKind.wrap_i64] <;> omega
      have e0 : IntKind.i64.wrap (m : Int) = (m : Int) := by rw [IntKind.wrap_i64] <;> omega
      have hsz := HB.out.size
      have hn3 : k + 1 ≤ 1048576 := by omega
      clear ht hm hs
      go_wp2_with (at_builtin; refine append_ls eltN rfl (.tmp 15) (.tmp 18) rfl w.heap.size _ k (iv .i64 (cntsL ts k)) rfl (HO.out.alloc _) _ _ 1 [(m : Int)] rfl rfl (ls_new .i64 _ [(m : Int)] _ 2 (0, 0) rfl 1 rfl) hn3 (by simp; omega) ?_; intro v2 w3 hown2 hgrow2; rw [← iv_append, ← HS.out.2] at hown2; have HO3 := Lib.hid hown2; have HB3 := Lib.hid ((HB.out.alloc hsz _).grown hgrow2 (by simp; omega) (fun j hj => (HO.out.lt j hj).1)); clear hown2 hgrow2)
      go_roundw
      case rel => exact ⟨k + 1, by omega, by rw [HS.out.1]; go_num, by go_num, HO3, HB3⟩
      case measure => simp [intOf]; omega
    · obtain rfl : k = n := by omega
      obtain ⟨a', c', rfl⟩ := own_form HO.out
      go_wp2_with fail
      go_ret2
      exact ⟨a', c', rfl, HO.out, HB.out⟩
end Go.Proofs.YtglkndoghnblcaaGreatDoor
namespace Go.Proofs.YtglkndoghnblcaaGreatDoor
open Go.ChangeShapes Go.WideShapes Go.ChangeAt Go.RowKit
set_option linter.unusedVariables false
set_option linter.unusedSimpArgs false
/-- A text's bytes. -/
def byts (s : ByteArray) : List Int := s.data.toList.map fun b => (b.toNat : Int)
theorem byts_len (s : ByteArray) : (byts s).length = s.size := by
  show (s.data.toList.map _).length = s.data.size
  rw [List.length_map, Array.length_toList]
theorem byts_byt (s : ByteArray) : Byt (byts s) := fun x hx => by
  simp only [byts, List.mem_map] at hx
  obtain ⟨b, _, rfl⟩ := hx
  have := b.toNat_lt
  omega
theorem conv_str (w : World) (s : ByteArray) : (convert 9 54 (.string s)).run Tryz.prog w = .ok (.slice (some ⟨w.heap.size, 0, none⟩) s.size (grownCap w s.size 0 5)) (Lib.bytesWorld w 5 s) :=
  Lib.run_convert_string_bytes w 9 54 5 s Tryz.underlying9 Tryz.underlying54 Tryz.underlying5
theorem bytes_below (w : World) (s : ByteArray) : Below w.heap.size w (Lib.bytesWorld w 5 s) := by
  constructor <;> first | (rw [Lib.bytesWorld_size]; omega) | (intro j hj; exact Lib.bytesWorld_at_old w 5 s j hj) | rfl | skip
theorem str_ls (w : World) (s : ByteArray) : Ls .u8 (Lib.bytesWorld w 5 s) (some ⟨w.heap.size, 0, none⟩) (grownCap w s.size 0 5) (byts s) := by
  refine ⟨fun k hk => ⟨w.heap.size, 0, rfl, ?_⟩, fun e => (by cases e), ?_⟩
  · rw [byts_len] at hk
    rw [Nat.zero_add, Lib.bytesWorld_cell w 5 s k hk]
    have hk2 : k < s.data.toList.length := by rw [Array.length_toList]; exact hk
    simp only [byts, List.getD, List.getElem?_map]
    cases s.data.toList[k]? <;> rfl
  · rw [byts_len]
    exact grownCap_ge _ _ _ _
theorem str_ls_of {B : Nat} {W X : World} {s : ByteArray} (_ : Below B W (Lib.bytesWorld X 5 s)) : Ls .u8 (Lib.bytesWorld X 5 s) (some ⟨X.heap.size, 0, none⟩) (grownCap X s.size 0 5) (byts s) := str_ls X s
/-- A part's form. -/
def lpW (x : LpV) : List Int := bytesW (byts x.1) ++ numW x.2.toNat
theorem lpW_len (s : ByteArray) (t : Nat) (hs : s.size ≤ 1000000) (ht : t < 18446744073709551616) : (lpW (s, (t : Int))).length ≤ s.size + 20 := by
  unfold lpW
  rw [List.length_append]
  have := bytesW_len (byts s) (by rw [byts_len]; exact hs)
  have := numW_ten t ht
  rw [byts_len] at *
  simp only [Int.toNat_natCast]
  omega
set_option maxRecDepth 100000 in
set_option maxHeartbeats 4000000 in
/-- putPart (94). -/
theorem putpart_own (s : ByteArray) (t : Nat) (hs : s.size ≤ 1000000) (ht : t < 9223372036854775808) (w : World) : Calls Tryz.prog 59 #[.agg #[.string s, .int .i64 (t : Int)]] w (OwnB w (lpW (s, (t : Int)))) := by
  go_enter Tryz.func59, Tryz.ntmps59
  go_wp2_with fail
  obtain ⟨W0, hW0⟩ : ∃ W0, w.alloc (.cells #[.string s, .int .i64 (t : Int)] 42) = W0 := ⟨_, rfl⟩
  have hb0 : Below w.heap.size w W0 := by rw [← hW0]; exact bl1 _ _
  have bx : BoxC W0 w.heap.size #[.string s, .int .i64 (t : Int)] 42 := by rw [← hW0]; exact BoxC.new w _ 42
  rw [hW0]
  clear hW0
  have HB0 := Lib.hid hb0
  have HS0 := Lib.hid hb0.size
  have FQ := Lib.hid (fun X (b : Below W0.heap.size W0 X) => (⟨(bx.below b).cell 0, (bx.below b).cell 1⟩ : X.cell? ⟨w.heap.size, 0, none⟩ = some (.string s) ∧ X.cell? ⟨w.heap.size, 1, none⟩ = some (.int .i64 (t : Int))))
  clear hb0 bx
  rename_i KK hKK
  refine Code.wp_mono (Q := Exit.then KK (fun _ _ _ => False)) (fun e a' w' h => by cases e <;> first | exact h | exact h.elim) ?_
  refine wp_region_held_drew (S := (fun X => Below W0.heap.size W0 X)) (by kernel_rfl) ((Below.refl _ _).drew) (fun hHeld => ?_)
  refine tp 0 ?_ rfl (.inl ⟨by rfl, ?_⟩) ?_
  rotate_left
  · intro W hSw; go_simp; try with_reducible rfl
  refine tp 1 ?_ rfl (.inl ⟨by rfl, ?_⟩) ?_
  rotate_left
  · intro W hSw; obtain ⟨z0, z1⟩ := FQ.out W hSw; go_simp; try with_reducible rfl
  refine tp 4 ?_ rfl (.inl ⟨by rfl, ?_⟩) ?_
  rotate_left
  · intro W hSw; go_simp; try with_reducible rfl
  refine tp 5 ?_ rfl (.inl ⟨by rfl, ?_⟩) ?_
  rotate_left
  · intro W hSw; obtain ⟨z0, z1⟩ := FQ.out W hSw; go_simp; try with_reducible rfl
  refine a1 2 rfl (fun K hK => ?_)
  go_simp
  rw [conv_str]
  refine hK.out _ _ (hHeld.trans ((bytes_below _ _).mono hHeld.size)) (fun hHeldn => ?_)
  clear hK K; have HS5 := Lib.hid (str_ls_of hHeldn); have hHeld := hHeldn; clear hHeldn
  try simp only [Act.put, List.setIfInBounds_toArray, List.set_cons_zero, List.set_cons_succ]
  refine a1 3 rfl (fun K hK => ?_)
  go_simp
  refine (bytes_own _ (byts s) s.size _ (byts_len s) hs _ HS5.out).mono ?_; rintro e9 w3 ⟨a3, c3, rfl, ho3, hl3, hb3⟩; have HA := Lib.hid hl3.ls
  go_wp2_with fail
  refine hK.out _ _ (step_below hHeld hb3) (fun hHeldn => ?_)
  clear hK K hHeld; have hHeld := hHeldn; clear hHeldn
  clear ho3 hl3 hb3
  try simp only [Act.put, List.setIfInBounds_toArray, List.set_cons_zero, List.set_cons_succ]
  refine a1 6 rfl (fun K hK => ?_)
  go_simp
  refine (putnumber_own t ht _).mono ?_; rintro e9 w4 ⟨a4, c4, rfl, ho4, hl4, hb4⟩; have HC := Lib.hid hl4.ls; have HB4 := Lib.hid hb4
  go_wp2_with fail
  refine hK.out _ _ (step_below hHeld hb4) (fun hHeldn => ?_)
  clear hK K hHeld; have hHeld := hHeldn; clear hHeldn
  clear ho4 hl4 hb4
  have hfl : flat [⟨a3, c3, bytesW (byts s)⟩, ⟨a4, c4, numW t⟩] = lpW (s, (t : Int)) := (by simp [flat, lpW]); have hRR := rdR_new w4 [⟨a3, c3, bytesW (byts s)⟩, ⟨a4, c4, numW t⟩] #[.slice a3 (bytesW (byts s)).length c3, .slice a4 (numW t).length c4] 54 (0, 0) (by simp only [List.map_cons, List.map_nil, P1.v]) (by intro p hp; simp only [List.mem_cons, List.not_mem_nil, or_false] at hp; rcases hp with rfl | rfl; exact (HA.out.below HB4.out); exact HC.out); have hj := join_own (some ⟨w4.heap.size, 0, none⟩) _ 2 2 rfl (by omega) (by rw [hfl]; have := lpW_len s t hs (by omega); omega) _ hRR; rw [hfl] at hj; have HJ := Lib.hid hj; clear hj hRR hfl
  try simp only [Act.put, List.setIfInBounds_toArray, List.set_cons_zero, List.set_cons_succ]
  refine a1 7 rfl (fun K hK => ?_)
  go_simp
  refine hK.out _ _ (hHeld.alloc hHeld.size _) (fun hHeldn => ?_)
  clear hK K hHeld; have hHeld := hHeldn; clear hHeldn
  try simp only [Act.put, List.setIfInBounds_toArray, List.set_cons_zero, List.set_cons_succ]
  refine a1 8 rfl (fun K hK => ?_)
  go_simp
  refine (HJ.out).mono ?_; rintro e9 w5 ⟨a5, c5, rfl, hl5, ho5, hb5⟩; have HO5 := Lib.hid (own_base (b := w.heap.size) (by rw [World.size_alloc]; have := hHeld.size; rw [World.size_alloc] at this; have := HS0.out; omega) ho5)
  go_wp2_with fail
  refine hK.out _ _ (step_below hHeld hb5) (fun hHeldn => ?_)
  clear hK K hHeld; have hHeld := hHeldn; clear hHeldn
  clear ho5 hl5 hb5
  try simp only [Act.put, List.setIfInBounds_toArray, List.set_cons_zero, List.set_cons_succ]
  refine tp 9 ?_ rfl (.inl ⟨by rfl, ?_⟩) ?_
  rotate_left
  · intro W hSw; go_simp; try with_reducible rfl
  refine wpAnyH_done (by kernel_rfl) ?_ _
  skip
  refine hKK _ _ ?_
  have HBN := Lib.hid (step_below HB0.out hHeld)
  clear hKK hHeld FQ
  go_wp2_with fail
  go_ret
  exact OwnB.mk HO5.out rfl HBN.out
end Go.Proofs.YtglkndoghnblcaaGreatDoor
namespace Go.Proofs.YtglkndoghnblcaaGreatDoor
open Go.ChangeShapes Go.WideShapes Go.ChangeAt Go.RowKit
set_option linter.unusedVariables false
set_option linter.unusedSimpArgs false
set_option maxRecDepth 100000 in
theorem hnf156 (f : Fn) (c1 c2 : Array Value) (w : World) : (binOp .eql 113 (.func f c1 c2) .nilFunc).run Tryz.prog w = .ok (.bool false) w := by
  first | rfl | simp [binOp, run_underlying Tryz.underlying113] | simp [binOp, Op.equal, run_underlying Tryz.underlying113, go_sem]

set_option maxRecDepth 100000 in
set_option maxHeartbeats 4000000 in
/-- Put of parts (93). -/
theorem putlogs_own (a : Option Addr) (R : List LpV) (n cap : Nat) (hn : R.length = n) (hn2 : n ≤ 1000000) (ht : (putL lpW R).length ≤ 1048576) (w : World) (hR : LpsR w a R)
    (hF : ∀ (k : Nat) (x : LpV), R[k]? = some x → ∀ W, Below w.heap.size w W → Calls Tryz.prog 59 #[.agg #[.string x.1, .int .i64 x.2]] W (OwnB W (lpW x))) :
    Calls Tryz.prog 58 #[.slice a n cap, .func (.func 59) #[] #[]] w fun e w' => ∃ a' c', e = .returned (.tuple #[.slice a' (putL lpW R).length c', .int .i64 0]) ∧ w'.ownsRow w.heap.size 5 1 (.slice a' (putL lpW R).length c') (putL lpW R).length (iv .u8 (putL lpW R)) ∧ Lsb w.heap.size w' a' c' (putL lpW R) ∧ Below w.heap.size w w' := by
  have HR := Lib.hid hR
  have HN := Lib.hid hn
  have HF := Lib.hid hF
  have HT := Lib.hid (show (numW n).length + (R.map lpW).flatten.length ≤ 1048576 by rw [← hn, ← putL_len]; exact ht)
  have hw : IntKind.u64.wrap (n : Int) = (n : Int) := by rw [IntKind.wrap_u64]; omega
  have hnf := fun W => hnf156 (.func 59) #[] #[] W
  clear hR hF ht hn
  go_enter Tryz.func58, Tryz.ntmps58
  go_wp2_with fail
  refine (number_own n (by omega) _).mono ?_
  rintro e w1 ⟨a1, c1, rfl, ho, hl, hb⟩
  have HO1 := Lib.hid ho
  have HB1 := Lib.hid hb
  clear ho hl hb hnf
  obtain ⟨q, hq⟩ : ∃ q, (numW n).length = q := ⟨_, rfl⟩
  have HQ := Lib.hid hq
  rw [hq] at HO1 HT ⊢
  clear hq
  go_wp2_with fail
  go_loopw [6, 8, 17] (fun v x i wr => ∃ k : Nat, k ≤ n ∧ i = .int .i64 (k : Int) ∧ wr.ownsRow w.heap.size 5 1 v (q + ((R.take k).map lpW).flatten.length) (iv .u8 (numW n ++ ((R.take k).map lpW).flatten)) ∧ Below w.heap.size w wr) (fun _ _ i _ => n - (intOf i).toNat)
  case atStart => exact ⟨0, by omega, rfl, by simpa using HO1.out, HB1.out⟩
  case round =>
    clear HO1 HB1
    obtain ⟨k, hk, rfl, hown, B⟩ := hrel
    have HO := Lib.hid hown
    have HB := Lib.hid B
    have hs1 := B.size
    clear hown
    by_cases hlt : k < n
    · have hkl : (k : Int) < (n : Int) := by omega
      obtain ⟨x, hx⟩ : ∃ x, R[k]? = some x := ⟨_, List.getElem?_eq_getElem (by rw [HN.out]; exact hlt)⟩
      obtain ⟨b1, o1, e1, cc0, cc1⟩ := HR.out.below B k x hx
      subst e1
      have HC := Lib.hid (fun W b => HF.out k x hx W b)
      have HS := Lib.hid (flat_take lpW R k x hx)
      have HLE := Lib.hid (show ((R.take k).map lpW).flatten.length + (lpW x).length ≤ (R.map lpW).flatten.length by rw [← List.length_append, ← flat_take lpW R k x hx]; exact flat_le lpW R (k + 1))
      obtain ⟨F, hF⟩ : ∃ F, ((R.take k).map lpW).flatten = F := ⟨_, rfl⟩
      obtain ⟨X, hX⟩ : ∃ X, lpW x = X := ⟨_, rfl⟩
      rw [hF] at HO HS HLE
      have HXX := Lib.hid hX
      rw [hX] at HS HLE
      obtain ⟨fl, hfl⟩ : ∃ fl, F.length = fl := ⟨_, rfl⟩
      obtain ⟨xl, hxl⟩ : ∃ xl, X.length = xl := ⟨_, rfl⟩
      have HXL := Lib.hid (And.intro hfl hxl)
      rw [hfl] at HO HLE
      rw [hxl] at HLE
      have hsum : q + fl + xl ≤ 1048576 := by have := HT.out; have := HLE.out; omega
      clear hx hF hX hfl hxl B
      go_wp2_with fail
      refine (HC.out _ (HB.out.alloc hs1 _)).mono ?_
      rintro e w2 ⟨a2, c2, rfl, ho2, hl2, hb2⟩
      rw [HXX.out] at hl2 ⊢
      have HL2 := Lib.hid hl2.ls
      have HO2 := Lib.hid (show w2.ownsRow w.heap.size 5 1 _ _ _ from own_below (HO.out.alloc _) hb2)
      have HB2 := Lib.hid (step_below (HB.out.alloc hs1 _) hb2)
      have hs2 := HB2.out.size
      rw [HXL.out.2]
      clear ho2 hl2 hb2 HO
      go_wp2_with (at_builtin; refine append_ls eltB rfl (.tmp 21) (.tmp 24) rfl w.heap.size _ (q + fl) (iv .u8 (numW n ++ F)) rfl HO2.out _ _ xl X HXL.out.2 rfl HL2.out hsum hs2 ?_; intro v2 w3 hown2 hgrow2; rw [← iv_append, List.append_assoc] at hown2; have HO3 := Lib.hid hown2; have HB3 := Lib.hid (HB2.out.grown hgrow2 hs2 (fun j hj => (HO2.out.lt j hj).1)); clear hown2 hgrow2)
      go_roundw
      case rel => exact ⟨k + 1, by omega, by go_num, by rw [HS.out, List.length_append, HXL.out.1, HXL.out.2, ← Nat.add_assoc]; exact HO3.out, HB3.out⟩
      case measure => simp [intOf]; omega
    · have hkl : ¬ (k : Int) < (n : Int) := by omega
      obtain rfl : k = n := by omega
      have hPL : numW k ++ ((R.take k).map lpW).flatten = putL lpW R := by
        unfold putL
        rw [HN.out, List.take_of_length_le (by rw [HN.out]; exact Nat.le_refl _)]
      have hLL : q + ((R.take k).map lpW).flatten.length = (putL lpW R).length := by rw [← hPL, List.length_append, HQ.out]
      have HO4 := HO.out
      rw [hPL, hLL] at HO4
      obtain ⟨a', c', hv, hl'⟩ := own_lsb HO4 rfl
      subst hv
      have HX := Lib.hid (And.intro HO4 hl')
      clear hPL hLL HO4 hl' HO B
      obtain ⟨pl, hpl⟩ : ∃ pl, (putL lpW R).length = pl := ⟨_, rfl⟩
      rw [hpl]
      have HPL := Lib.hid hpl
      clear hpl
      go_wp2_with fail
      go_ret2
      exact ⟨a', c', by rw [HPL.out]; rfl, HX.out.1, HX.out.2, HB.out⟩

/-- A manifest's form. -/
def mnW (g e f : Nat) (nm : ByteArray) (xs : List LpV) : List Int := numW g ++ (bytesW (byts nm) ++ (numW e ++ (numW f ++ putL lpW xs)))
theorem mayB_size {s : ByteArray} (h : mayB s = true) : s.size ≤ 24 := by
  unfold mayB at h
  rw [Bool.and_eq_true, inB_iff] at h
  omega
structure MnOk (g e f : Int) (nm : ByteArray) (xs : List LpV) : Prop where
  g1 : 1 ≤ g
  g2 : g ≤ 2147483647
  e1 : 0 ≤ e
  e2 : e ≤ 16777215
  f1 : e ≤ f
  f2 : f ≤ 16777215
  n : nm.size ≤ 24
  l : xs.length ≤ 32
  all : ∀ x ∈ xs, x.1.size ≤ 24 ∧ 0 ≤ x.2 ∧ x.2 ≤ 16777215
theorem okM_all {g e f : Int} {nm : ByteArray} {xs : List LpV} (hf : f ≤ 16777215) : ∀ k, k ≤ xs.length → okM g e f nm xs k = true → okM g e f nm xs 0 = true ∧ ∀ x ∈ xs.take k, x.1.size ≤ 24 ∧ 0 ≤ x.2 ∧ x.2 ≤ 16777215
  | 0, _, h => ⟨h, fun x hx => by simp at hx⟩
  | k + 1, hk, h => by
    obtain ⟨x, hx⟩ : ∃ x, xs[k]? = some x := ⟨_, List.getElem?_eq_getElem (by omega)⟩
    rw [okM_next hx] at h
    simp only [Bool.and_eq_true, inB_iff] at h
    obtain ⟨h1, h2⟩ := okM_all hf k (by omega) h.1
    refine ⟨h1, fun y hy => ?_⟩
    rw [List.take_add_one, hx] at hy
    simp only [Option.toList_some, List.mem_append, List.mem_singleton] at hy
    rcases hy with hy | rfl
    · exact h2 y hy
    · have := mayB_size h.2.1
      omega
theorem man_ok {g e f : Int} {nm : ByteArray} {xs : List LpV} (h : manB g e f nm xs = true) : MnOk g e f nm xs := by
  have h0 : mnHead g e f = true := by
    have : ∀ k, k ≤ xs.length → okM g e f nm xs k = true → okM g e f nm xs 0 = true := by
      intro k
      induction k with
      | zero => exact fun _ h => h
      | succ k ih =>
        intro hk h
        obtain ⟨x, hx⟩ : ∃ x, xs[k]? = some x := ⟨_, List.getElem?_eq_getElem (by omega)⟩
        rw [okM_next hx] at h
        simp only [Bool.and_eq_true] at h
        exact ih (by omega) h.1
    have h1 := this _ (Nat.le_refl _) h
    unfold okM at h1
    rw [Bool.and_eq_true] at h1
    exact h1.1
  have h0' := h0
  unfold mnHead at h0
  simp only [Bool.and_eq_true, inB_iff] at h0
  obtain ⟨h1, h2⟩ := okM_all (by omega) _ (Nat.le_refl _) h
  unfold okM at h1
  simp only [Bool.and_eq_true, decide_eq_true_eq] at h1
  have hn : nm.size ≤ 24 := by
    have := h1.2.1
    unfold mnName at this
    rw [Bool.or_eq_true] at this
    rcases this with h | h
    · rw [Bool.and_eq_true] at h
      have h3 : nm.data.toList = [] := by have h4 := h.1; unfold eqE at h4; rw [ByteArray.toList_eq, List.isEmpty_iff] at h4; exact h4
      have : nm.size = 0 := by rw [← byts_len, byts, h3]; rfl
      omega
    · exact mayB_size h
  rw [List.take_length] at h2
  exact ⟨by omega, by omega, by omega, by omega, by omega, by omega, hn, by omega, h2⟩
theorem putL_bound {α : Type} (put : α → List Int) (xs : List α) (m : Nat) (h : ∀ x ∈ xs, (put x).length ≤ m) : (xs.map put).flatten.length ≤ xs.length * m := by
  induction xs with
  | nil => simp
  | cons x xs ih =>
    rw [List.map_cons, List.flatten_cons, List.length_append, List.length_cons, Nat.succ_mul]
    have := h x (by simp)
    have := ih (fun y hy => h y (by simp [hy]))
    omega
theorem lpW_len2 (x : LpV) (hs : x.1.size ≤ 24) (h0 : 0 ≤ x.2) (h1 : x.2 ≤ 16777215) : (lpW x).length ≤ 44 := by
  obtain ⟨s, t⟩ := x
  simp only at hs h0 h1
  obtain ⟨t, rfl⟩ : ∃ n : Nat, t = (n : Int) := ⟨t.toNat, by omega⟩
  have := lpW_len s t (by omega) (by omega)
  omega
theorem lpW_byt (x : LpV) : Byt (lpW x) := Byt.append (bytesW_byt (byts_byt _)) (numW_byt _)
theorem logs_len {g e f : Int} {nm : ByteArray} {xs : List LpV} (h : MnOk g e f nm xs) : (putL lpW xs).length ≤ 1418 := by
  rw [putL_len]
  have := putL_bound lpW xs 44 (fun x hx => lpW_len2 x (h.all x hx).1 (h.all x hx).2.1 (h.all x hx).2.2)
  have := numW_ten xs.length (by have := h.l; omega)
  have := h.l
  omega
theorem mnW_len (g e f : Nat) (nm : ByteArray) (xs : List LpV) (h : MnOk (g : Int) (e : Int) (f : Int) nm xs) : 1 ≤ (mnW g e f nm xs).length ∧ (mnW g e f nm xs).length ≤ 4096 := by
  unfold mnW
  simp only [List.length_append]
  have := logs_len h
  have h1 := h.n
  have := bytesW_len (byts nm) (by rw [byts_len]; omega)
  rw [byts_len] at *
  have h2 := h.g2
  have h3 := h.e2
  have h4 := h.f2
  have := numW_ten g (by omega)
  have := numW_pos g
  have := numW_ten e (by omega)
  have := numW_ten f (by omega)
  omega
theorem mnW_byt (g e f : Nat) (nm : ByteArray) (xs : List LpV) : Byt (mnW g e f nm xs) := Byt.append (numW_byt _) (Byt.append (bytesW_byt (byts_byt _)) (Byt.append (numW_byt _) (Byt.append (numW_byt _) (putL_byt (fun x _ => lpW_byt x)))))
def PmnR (w : World) (g e f : Int) (nm : ByteArray) (xs : List LpV) (r : Ending) (w' : World) : Prop :=
  ((manB g e f nm xs = false ∧ r = .returned (.tuple #[.slice none 0 0, .int .i64 2])) ∨
    (manB g e f nm xs = true ∧ ∃ a' c', r = .returned (.tuple #[.slice a' (8 + (mnW g.toNat e.toNat f.toNat nm xs).length) c', .int .i64 0]) ∧ w'.ownsRow w.heap.size 5 1 (.slice a' (8 + (mnW g.toNat e.toNat f.toNat nm xs).length) c') (8 + (mnW g.toNat e.toNat f.toNat nm xs).length) (iv .u8 (frameL (mnW g.toNat e.toNat f.toNat nm xs))) ∧ Ls .u8 w' a' c' (frameL (mnW g.toNat e.toNat f.toNat nm xs)))) ∧ Below w.heap.size w w'
end Go.Proofs.YtglkndoghnblcaaGreatDoor
namespace Go.Proofs.YtglkndoghnblcaaGreatDoor
open Go.ChangeShapes Go.WideShapes Go.ChangeAt Go.RowKit
set_option linter.unusedVariables false
set_option linter.unusedSimpArgs false
/-- A stored row's form. -/
def stW (i : Nat) (x : StP) : List Int := numW i ++ (bytesW x.key ++ (bytesW (putL bsW x.R) ++ tidW x.e.toNat x.s.toNat))
/-- The frames of a table's first rows. -/
def rowsW (i : Nat) (xs : List StP) (k : Nat) : List Int := ((xs.take k).map fun x => frameL (stW i x)).flatten
theorem rowsW_next {i k : Nat} {xs : List StP} {x : StP} (h : xs[k]? = some x) : rowsW i xs (k + 1) = rowsW i xs k ++ frameL (stW i x) := by
  unfold rowsW
  rw [List.take_add_one, h]
  simp
/-- The frames of the first tables' rows. -/
def tabsW (ts : List TbP) : Nat → List Int
  | 0 => []
  | i + 1 => match ts[i]? with
    | some t => tabsW ts i ++ rowsW i t.xs t.xs.length
    | none => tabsW ts i
theorem tabsW_next {ts : List TbP} {t : TbP} {i : Nat} (h : ts[i]? = some t) : tabsW ts (i + 1) = tabsW ts i ++ rowsW i t.xs t.xs.length := by
  show (match ts[i]? with | some t => _ | none => _) = _
  rw [h]
/-- A checkpoint's first payload. -/
def hdW (e : Nat) (ts : List TbP) : List Int := numW e ++ putL nuW (cntsL ts ts.length)
/-- A checkpoint's bytes. -/
def ckW (e : Nat) (ts : List TbP) : List Int := frameL (hdW e ts) ++ tabsW ts ts.length
theorem okR_succ {e : Int} {xs : List StP} {x : StP} {k : Nat} (h : xs[k]? = some x) (ho : okR e xs (k + 1) = true) : okR e xs k = true ∧ stB e x = true := by
  have : okR e xs (k + 1) = ((okR e xs k && stB e x) && (if k = 0 then true else match xs[k - 1]? with | some l => decide (cmpI l.key x.key < 0) | none => true)) := by
    show (match xs[k]? with | some x => _ | none => _) = _
    first | (rw [h]; done) | (rw [h]; rfl)
  rw [this, Bool.and_eq_true, Bool.and_eq_true] at ho
  exact ho.1
theorem okR_all {e : Int} {xs : List StP} : ∀ k, k ≤ xs.length → okR e xs k = true → ∀ x ∈ xs.take k, stB e x = true
  | 0, _, _ => fun x hx => by simp at hx
  | k + 1, hk, h => fun y hy => by
    obtain ⟨x, hx⟩ : ∃ x, xs[k]? = some x := ⟨_, List.getElem?_eq_getElem (by omega)⟩
    obtain ⟨h1, h2⟩ := okR_succ hx h
    rw [List.take_add_one, hx] at hy
    simp only [Option.toList_some, List.mem_append, List.mem_singleton] at hy
    rcases hy with hy | rfl
    · exact okR_all k (by omega) h1 y hy
    · exact h2
theorem okT_all {e : Int} {ts : List TbP} : ∀ k, k ≤ ts.length → okT e ts k = true → okT e ts 0 = true ∧ ∀ t ∈ ts.take k, tbB e t.xs = true
  | 0, _, h => ⟨h, fun x hx => by simp at hx⟩
  | k + 1, hk, h => by
    obtain ⟨t, ht⟩ : ∃ t, ts[k]? = some t := ⟨_, List.getElem?_eq_getElem (by omega)⟩
    rw [okT_next ht, Bool.and_eq_true] at h
    obtain ⟨h1, h2⟩ := okT_all k (by omega) h.1
    refine ⟨h1, fun y hy => ?_⟩
    rw [List.take_add_one, ht] at hy
    simp only [Option.toList_some, List.mem_append, List.mem_singleton] at hy
    rcases hy with hy | rfl
    · exact h2 y hy
    · exact h.2
structure StOk2 (x : StP) : Prop where
  k : x.key.length ≤ 32
  r : mayR x.R = true
  e1 : 1 ≤ x.e
  e2 : x.e ≤ 16777215
  s1 : 1 ≤ x.s
  s2 : x.s ≤ 2147483647
structure CkOk (e : Int) (ts : List TbP) : Prop where
  e1 : 0 ≤ e
  e2 : e ≤ 16777215
  n : ts.length ≤ 4
  all : ∀ t ∈ ts, ∀ x ∈ t.xs, StOk2 x
theorem ck_ok {e : Int} {ts : List TbP} (h : ckB e ts = true) : CkOk e ts := by
  obtain ⟨h1, h2⟩ := okT_all _ (Nat.le_refl _) h
  unfold okT at h1
  rw [Bool.and_eq_true, inB_iff, decide_eq_true_eq] at h1
  rw [List.take_length] at h2
  refine ⟨by omega, by omega, by omega, fun t ht x hx => ?_⟩
  have h3 := okR_all _ (Nat.le_refl _) (h2 t ht)
  rw [List.take_length] at h3
  have h4 := h3 x hx
  unfold stB tidB at h4
  simp only [Bool.and_eq_true, inB_iff, decide_eq_true_eq] at h4
  have h5 := h4.1
  unfold mayK at h5
  simp only [decide_eq_true_eq, Bool.and_eq_true] at h5
  exact ⟨by omega, h4.2.1, by omega, by omega, by omega, by omega⟩
theorem rowbytes_len {R : List P1} (h : mayR R = true) : (putL bsW R).length ≤ 112 := by
  obtain ⟨m1, m2, m3⟩ := (mayR_iff R).1 h
  have h1 := putL_bound bsW R 34 (fun p hp => by have h2 := m1 p hp; have h3 := bytesW_len p.bs (by omega); show (bytesW p.bs).length ≤ 34; omega)
  rw [putL_len]
  have := numW_ten R.length (by omega)
  omega
theorem stW_len {i : Nat} {x : StP} (hi : i ≤ 4) (h : StOk2 x) : 1 ≤ (stW i x).length ∧ (stW i x).length ≤ 194 := by
  obtain ⟨h1, h2, h3, h4, h5, h6⟩ := h
  unfold stW tidW
  simp only [List.length_append]
  have q1 := numW_ten i (by omega)
  have q2 := numW_pos i
  have q3 := bytesW_len x.key (by omega)
  have q4 := rowbytes_len h2
  have q5 := bytesW_len (putL bsW x.R) (by omega)
  have q6 := numW_ten x.e.toNat (by omega)
  have q7 := numW_ten x.s.toNat (by omega)
  omega
theorem stW_byt {i : Nat} {x : StP} (hk : Byt x.key) (hr : ∀ p ∈ x.R, Byt p.bs) : Byt (stW i x) :=
  Byt.append (numW_byt _) (Byt.append (bytesW_byt hk) (Byt.append (bytesW_byt (putL_byt (fun p hp => bytesW_byt (hr p hp)))) (tidW_byt _ _)))
theorem rowsW_len {i : Nat} {xs : List StP} (hi : i ≤ 4) (h : ∀ x ∈ xs, StOk2 x) : ∀ k, k ≤ xs.length → (rowsW i xs k).length ≤ 202 * k
  | 0, _ => by simp [rowsW]
  | k + 1, hk => by
    obtain ⟨x, hx⟩ : ∃ x, xs[k]? = some x := ⟨_, List.getElem?_eq_getElem (by omega)⟩
    rw [rowsW_next hx, List.length_append, frameL_len]
    have := (stW_len hi (h x (List.mem_of_getElem? hx))).2
    have := rowsW_len hi h k (by omega)
    omega
theorem tabsW_len {e : Int} {ts : List TbP} (h : CkOk e ts) : ∀ k, k ≤ ts.length → (tabsW ts k).length ≤ 202 * cntT ts k
  | 0, _ => by simp [tabsW]
  | k + 1, hk => by
    obtain ⟨t, ht⟩ : ∃ t, ts[k]? = some t := ⟨_, List.getElem?_eq_getElem (by omega)⟩
    rw [tabsW_next ht, List.length_append, cntT_next ht]
    have h1 := rowsW_len (i := k) (by have := h.n; omega) (fun x hx => h.all t (List.mem_of_getElem? ht) x hx) t.xs.length (Nat.le_refl _)
    have h2 := tabsW_len h k (by omega)
    omega
theorem sum_mem {l : List Nat} {x : Nat} (h : x ∈ l) : x ≤ l.sum := by
  induction l with
  | nil => simp at h
  | cons y l ih =>
    rw [List.sum_cons]
    rcases List.mem_cons.1 h with rfl | h
    · omega
    · have := ih h; omega
theorem cnts_put {ts : List TbP} (h : ts.length ≤ 4) (hc : cntT ts ts.length ≤ 4096) : (putL nuW (cntsL ts ts.length)).length ≤ 50 := by
  rw [putL_len, cntsL_len _ _ (Nat.le_refl _)]
  have h1 := putL_bound nuW (cntsL ts ts.length) 10 (fun x hx => by
    unfold cntsL at hx
    obtain ⟨t, ht, rfl⟩ := List.mem_map.1 hx
    rw [List.take_length] at ht
    have : t.xs.length ≤ cntT ts ts.length := by
      unfold cntT
      rw [List.take_length]
      exact sum_mem (List.mem_map_of_mem (f := fun t : TbP => t.xs.length) ht)
    unfold nuW
    rw [Int.toNat_natCast]
    exact numW_ten _ (by omega))
  rw [cntsL_len _ _ (Nat.le_refl _)] at h1
  have := numW_ten ts.length (by omega)
  omega
theorem hdW_len {e : Nat} {ts : List TbP} (he : e ≤ 16777215) (h : ts.length ≤ 4) (hc : cntT ts ts.length ≤ 4096) : 1 ≤ (hdW e ts).length ∧ (hdW e ts).length ≤ 60 := by
  unfold hdW
  rw [List.length_append]
  have := cnts_put h hc
  have := numW_ten e (by omega)
  have := numW_pos e
  omega
theorem hdW_byt (e : Nat) (ts : List TbP) : Byt (hdW e ts) := Byt.append (numW_byt _) (putL_byt (fun x _ => numW_byt _))
end Go.Proofs.YtglkndoghnblcaaGreatDoor
namespace Go.Proofs.YtglkndoghnblcaaGreatDoor
open Go.ChangeShapes Go.WideShapes Go.ChangeAt Go.RowKit
set_option linter.unusedVariables false
set_option linter.unusedSimpArgs false
set_option maxRecDepth 100000 in
set_option maxHeartbeats 4000000 in
/-- PutManifest (35). -/
theorem putman_law (g e f : Int) (nm : ByteArray) (a : Option Addr) (xs : List LpV) (n cap : Nat) (hs : nm.size ≤ maxLen) (hsx : ∀ x ∈ xs, x.1.size ≤ maxLen) (hn : xs.length = n) (hn2 : n ≤ 1000000) (hnc : n ≤ cap) (w : World) (hR : LpsR w a xs) :
    Calls Tryz.prog 26 #[.agg #[.int .i64 g, .string nm, .int .i64 e, .int .i64 f, .slice a n cap]] w (PmnR w g e f nm xs) := by
  have HM := Lib.hid (fun W (b : Below w.heap.size w W) => mayman_law g e f nm a xs n cap hs hsx hn hn2 hnc W (hR.below b))
  cases hb : manB g e f nm xs with
  | false =>
    have HB := Lib.hid hb
    rw [hb] at HM
    clear hb hn hR hsx
    go_enter Tryz.func26, Tryz.ntmps26
    go_wp2_with fail
    refine (HM.out _ (bl1 w _)).mono ?_; rintro r w1 ⟨rfl, hb1⟩
    have HB1 := Lib.hid (step_below (bl1 w _) hb1)
    clear hb1
    go_wp2_with fail
    go_ret2
    exact ⟨.inl ⟨HB.out, rfl⟩, HB1.out⟩
  | true =>
    have HB := Lib.hid hb
    have ok := man_ok hb
    rw [hb] at HM
    obtain ⟨h1, h2, h3, h4, h5, h6, h7, h8, h9⟩ := id ok
    obtain ⟨g, rfl⟩ : ∃ n : Nat, g = (n : Int) := ⟨g.toNat, by omega⟩
    obtain ⟨e, rfl⟩ : ∃ n : Nat, e = (n : Int) := ⟨e.toNat, by omega⟩
    obtain ⟨f, rfl⟩ : ∃ n : Nat, f = (n : Int) := ⟨f.toNat, by omega⟩
    have HML := Lib.hid (mnW_len g e f nm xs ok)
    have HMY := Lib.hid (mnW_byt g e f nm xs)
    have hll := logs_len ok
    have HP := Lib.hid (fun W (b : Below w.heap.size w W) => putlogs_own a xs n cap hn hn2 (by omega) W (hR.below b) (fun k x hx W' b' => by
      obtain ⟨s, t⟩ := x
      obtain ⟨q1, q2, q3⟩ := h9 _ (List.mem_of_getElem? hx)
      simp only at q1 q2 q3
      obtain ⟨t, rfl⟩ : ∃ n : Nat, t = (n : Int) := ⟨t.toNat, by omega⟩
      exact putpart_own s t (by omega) (by omega) W'))
    clear hb hn hR hsx h9 ok
    go_enter Tryz.func26, Tryz.ntmps26
    go_upto_region 1 with (fail)
    obtain ⟨W0, hW0⟩ : ∃ W0, w.alloc (.cells #[.int .i64 (g : Int), .string nm, .int .i64 (e : Int), .int .i64 (f : Int), .slice a n cap] 39) = W0 := ⟨_, rfl⟩
    have hb0 : Below w.heap.size w W0 := by rw [← hW0]; exact bl1 _ _
    have bx : BoxC W0 w.heap.size #[.int .i64 (g : Int), .string nm, .int .i64 (e : Int), .int .i64 (f : Int), .slice a n cap] 39 := by rw [← hW0]; exact BoxC.new w _ 39
    rw [hW0]
    clear hW0
    have y0 := bx.cell 0
    have y1 := bx.cell 1
    have y2 := bx.cell 2
    have y3 := bx.cell 3
    have y4 := bx.cell 4
    simp only [List.getElem?_toArray, List.getElem?_cons_zero, List.getElem?_cons_succ] at y0 y1 y2 y3 y4
    go_wp2_with fail
    refine (HM.out _ hb0).mono ?_; rintro r Wa ⟨rfl, hba⟩
    have hbA := step_below hb0 hba
    have bxa := bx.below hba
    have y4' := bxa.cell 4
    simp only [List.getElem?_toArray, List.getElem?_cons_zero, List.getElem?_cons_succ] at y4'
    have HPA := Lib.hid (HP.out _ hbA)
    have HBA := Lib.hid hbA
    have BXA := Lib.hid bxa
    clear y0 y1 y2 y3 y4 hb0 hba bx bxa hbA HP
    go_wp2_with fail
    refine HPA.out.mono ?_; rintro r W1 ⟨al, cl, rfl, hol, hll2, hb1⟩
    have HB0 := Lib.hid (step_below HBA.out hb1)
    have HS0 := Lib.hid HB0.out.size
    have HLG := Lib.hid hll2.ls
    have bx1 := BXA.out.below hb1
    have HW1 := Lib.hid (Below.refl W1.heap.size W1)
    have FQ := Lib.hid (fun X (b : Below W1.heap.size W1 X) => (⟨(bx1.below b).cell 0, (bx1.below b).cell 1, (bx1.below b).cell 2, (bx1.below b).cell 3⟩ : X.cell? ⟨w.heap.size, 0, none⟩ = some (.int .i64 (g : Int)) ∧ X.cell? ⟨w.heap.size, 1, none⟩ = some (.string nm) ∧ X.cell? ⟨w.heap.size, 2, none⟩ = some (.int .i64 (e : Int)) ∧ X.cell? ⟨w.heap.size, 3, none⟩ = some (.int .i64 (f : Int))))
    obtain ⟨X, hX⟩ : ∃ X, putL lpW xs = X := ⟨_, rfl⟩
    have HXX := Lib.hid hX
    rw [hX] at HLG ⊢
    clear bx1 y4' hb1 hol hll2 hX HPA
    go_wp2_with fail
    rename_i KK hKK
    refine Code.wp_mono (Q := Exit.then KK (fun _ _ _ => False)) (fun e a' w' h => by cases e <;> first | exact h | exact h.elim) ?_
    refine wp_region_held_drew (S := (fun X => Below W1.heap.size W1 X)) (by kernel_rfl) ((Below.refl _ _).drew) (fun hHeld => ?_)
    refine tp 0 ?_ rfl (.inl ⟨by rfl, ?_⟩) ?_
    rotate_left
    · intro W hSw; go_simp; try with_reducible rfl
    refine tp 1 ?_ rfl (.inl ⟨by rfl, ?_⟩) ?_
    rotate_left
    · intro W hSw; obtain ⟨z0, z1, z2, z3⟩ := FQ.out W hSw; go_simp; try with_reducible rfl
    refine tp 3 ?_ rfl (.inl ⟨by rfl, ?_⟩) ?_
    rotate_left
    · intro W hSw; go_simp; try with_reducible rfl
    refine tp 4 ?_ rfl (.inl ⟨by rfl, ?_⟩) ?_
    rotate_left
    · intro W hSw; obtain ⟨z0, z1, z2, z3⟩ := FQ.out W hSw; go_simp; try with_reducible rfl
    refine tp 7 ?_ rfl (.inl ⟨by rfl, ?_⟩) ?_
    rotate_left
    · intro W hSw; go_simp; try with_reducible rfl
    refine tp 8 ?_ rfl (.inl ⟨by rfl, ?_⟩) ?_
    rotate_left
    · intro W hSw; obtain ⟨z0, z1, z2, z3⟩ := FQ.out W hSw; go_simp; try with_reducible rfl
    refine tp 10 ?_ rfl (.inl ⟨by rfl, ?_⟩) ?_
    rotate_left
    · intro W hSw; go_simp; try with_reducible rfl
    refine tp 11 ?_ rfl (.inl ⟨by rfl, ?_⟩) ?_
    rotate_left
    · intro W hSw; obtain ⟨z0, z1, z2, z3⟩ := FQ.out W hSw; go_simp; try with_reducible rfl
    refine tp 13 ?_ rfl (.inl ⟨by rfl, ?_⟩) ?_
    rotate_left
    · intro W hSw; go_simp; try with_reducible rfl
    refine wpAnyH_ready (rs := [2, 5]) (by kernel_rfl) (by simp) ?_
    refine ar rfl (fun K hK => ?_) ?_
    · skip
      go_simp
      refine (putnumber_own g (by omega) _).mono ?_; rintro e9 w3 ⟨a3, c3, rfl, ho3, hl3, hb3⟩; have HA := Lib.hid hl3.ls; have HB3 := Lib.hid hb3
      go_wp2_with fail
      refine hK.out _ _ (step_below hHeld hb3) (fun hHeldn => ?_)
      clear hK K hHeld; have hHeld := hHeldn; clear hHeldn
      clear ho3 hl3 hb3
      try simp only [Act.put, List.setIfInBounds_toArray, List.set_cons_zero, List.set_cons_succ]
      refine a1 5 rfl (fun K hK => ?_)
      go_simp
      rw [conv_str]
      refine hK.out _ _ (hHeld.trans ((bytes_below _ _).mono hHeld.size)) (fun hHeldn => ?_)
      clear hK K; have HS5 := Lib.hid (str_ls_of hHeldn); have hHeld := hHeldn; clear hHeldn
      try simp only [Act.put, List.setIfInBounds_toArray, List.set_cons_zero, List.set_cons_succ]
      refine a1 6 rfl (fun K hK => ?_)
      go_simp
      refine (bytes_own _ (byts nm) nm.size _ (byts_len nm) (by omega) _ HS5.out).mono ?_; rintro e9 w4 ⟨a4, c4, rfl, ho4, hl4, hb4⟩; have HC := Lib.hid hl4.ls; have HB4 := Lib.hid (step_below (bytes_below _ nm) hb4)
      go_wp2_with fail
      refine hK.out _ _ (step_below hHeld hb4) (fun hHeldn => ?_)
      clear hK K hHeld; have hHeld := hHeldn; clear hHeldn
      clear ho4 hl4 hb4
      try simp only [Act.put, List.setIfInBounds_toArray, List.set_cons_zero, List.set_cons_succ]
      refine a1 9 rfl (fun K hK => ?_)
      go_simp
      refine (putnumber_own e (by omega) _).mono ?_; rintro e9 w5 ⟨a5, c5, rfl, ho5, hl5, hb5⟩; have HD := Lib.hid hl5.ls; have HB5 := Lib.hid hb5
      go_wp2_with fail
      refine hK.out _ _ (step_below hHeld hb5) (fun hHeldn => ?_)
      clear hK K hHeld; have hHeld := hHeldn; clear hHeldn
      clear ho5 hl5 hb5
      try simp only [Act.put, List.setIfInBounds_toArray, List.set_cons_zero, List.set_cons_succ]
      refine a1 12 rfl (fun K hK => ?_)
      go_simp
      refine (putnumber_own f (by omega) _).mono ?_; rintro e9 w6 ⟨a6, c6, rfl, ho6, hl6, hb6⟩; have HE := Lib.hid hl6.ls; have HB6 := Lib.hid hb6
      go_wp2_with fail
      refine hK.out _ _ (step_below hHeld hb6) (fun hHeldn => ?_)
      clear hK K hHeld; have hHeld := hHeldn; clear hHeldn
      clear ho6 hl6 hb6
      have hfl : flat [⟨a3, c3, numW g⟩, ⟨a4, c4, bytesW (byts nm)⟩, ⟨a5, c5, numW e⟩, ⟨a6, c6, numW f⟩, ⟨al, cl, X⟩] = mnW g e f nm xs := (by simp [flat, mnW, HXX.out]); have hRR := rdR_new w6 [⟨a3, c3, numW g⟩, ⟨a4, c4, bytesW (byts nm)⟩, ⟨a5, c5, numW e⟩, ⟨a6, c6, numW f⟩, ⟨al, cl, X⟩] #[.slice a3 (numW g).length c3, .slice a4 (bytesW (byts nm)).length c4, .slice a5 (numW e).length c5, .slice a6 (numW f).length c6, .slice al X.length cl] 54 (0, 0) (by simp only [List.map_cons, List.map_nil, P1.v]) (by intro p hp; simp only [List.mem_cons, List.not_mem_nil, or_false] at hp; rcases hp with rfl | rfl | rfl | rfl | rfl; exact (((HA.out.below HB4.out).below HB5.out).below HB6.out); exact ((HC.out.below HB5.out).below HB6.out); exact (HD.out.below HB6.out); exact HE.out; exact HLG.out.below (step_below HW1.out hHeld)); have hj := join_own (some ⟨w6.heap.size, 0, none⟩) _ 5 5 rfl (by omega) (by rw [hfl]; have := HML.out.2; omega) _ hRR; rw [hfl] at hj; have HJ := Lib.hid hj; clear hj hRR hfl
      try simp only [Act.put, List.setIfInBounds_toArray, List.set_cons_zero, List.set_cons_succ]
      refine a1 14 rfl (fun K hK => ?_)
      go_simp
      refine hK.out _ _ (hHeld.alloc hHeld.size _) (fun hHeldn => ?_)
      clear hK K hHeld; have hHeld := hHeldn; clear hHeldn
      try simp only [Act.put, List.setIfInBounds_toArray, List.set_cons_zero, List.set_cons_succ]
      refine a1 15 rfl (fun K hK => ?_)
      go_simp
      refine (HJ.out).mono ?_; rintro e9 w7 ⟨a7, c7, rfl, hl7, ho7, hb7⟩; have HFR := Lib.hid (frame_ok a7 (mnW g e f nm xs) (mnW g e f nm xs).length c7 rfl HML.out.1 HML.out.2 HMY.out w7 hl7)
      go_wp2_with fail
      refine hK.out _ _ (step_below hHeld hb7) (fun hHeldn => ?_)
      clear hK K hHeld; have hHeld := hHeldn; clear hHeldn
      clear ho7 hl7 hb7
      try simp only [Act.put, List.setIfInBounds_toArray, List.set_cons_zero, List.set_cons_succ]
      refine a1 16 rfl (fun K hK => ?_)
      go_simp
      refine (HFR.out).mono ?_; rintro e9 w8 ⟨a8, c8, rfl, ho8, hl8, hb8⟩; have HO8 := Lib.hid (And.intro (own_base (b := w.heap.size) (by have := hHeld.size; have := HS0.out; omega) ho8) hl8)
      go_wp2_with fail
      refine hK.out _ _ (step_below hHeld hb8) (fun hHeldn => ?_)
      clear hK K hHeld; have hHeld := hHeldn; clear hHeldn
      clear ho8 hl8 hb8
      try simp only [Act.put, List.setIfInBounds_toArray, List.set_cons_zero, List.set_cons_succ]
      refine tp 17 ?_ rfl (.inl ⟨by rfl, ?_⟩) ?_
      rotate_left
      · intro W hSw; go_simp; try with_reducible rfl
      refine tp 18 ?_ rfl (.inl ⟨by rfl, ?_⟩) ?_
      rotate_left
      · intro W hSw; go_simp; try with_reducible rfl
      refine tp 19 ?_ rfl (.inl ⟨by rfl, ?_⟩) ?_
      rotate_left
      · intro W hSw; go_simp; try with_reducible rfl
      refine tp 20 ?_ rfl (.inl ⟨by rfl, ?_⟩) ?_
      rotate_left
      · intro W hSw; go_simp; try with_reducible rfl
      refine wpAnyH_done (by kernel_rfl) ?_ _
      refine hKK _ _ ?_
      have HBN := Lib.hid (step_below HB0.out hHeld)
      clear hKK hHeld FQ
      go_wp2_with fail
      go_ret2
      exact ⟨.inr ⟨HB.out, a8, c8, rfl, HO8.out.1, HO8.out.2⟩, HBN.out⟩
    refine ar rfl (fun K hK => ?_) AllReadyH.nil
    go_simp
    rw [conv_str]
    refine hK.out _ _ (hHeld.trans ((bytes_below _ _).mono hHeld.size)) (fun hHeldn => ?_)
    clear hK K; have HS5 := Lib.hid (str_ls_of hHeldn); have hHeld := hHeldn; clear hHeldn
    try simp only [Act.put, List.setIfInBounds_toArray, List.set_cons_zero, List.set_cons_succ]
    refine a1 2 rfl (fun K hK => ?_)
    go_simp
    refine (putnumber_own g (by omega) _).mono ?_; rintro e9 w3 ⟨a3, c3, rfl, ho3, hl3, hb3⟩; have HA := Lib.hid hl3.ls; have HB3 := Lib.hid hb3
    go_wp2_with fail
    refine hK.out _ _ (step_below hHeld hb3) (fun hHeldn => ?_)
    clear hK K hHeld; have hHeld := hHeldn; clear hHeldn
    clear ho3 hl3 hb3
    try simp only [Act.put, List.setIfInBounds_toArray, List.set_cons_zero, List.set_cons_succ]
    refine a1 6 rfl (fun K hK => ?_)
    go_simp
    refine (bytes_own _ (byts nm) nm.size _ (byts_len nm) (by omega) _ (HS5.out.below HB3.out)).mono ?_; rintro e9 w4 ⟨a4, c4, rfl, ho4, hl4, hb4⟩; have HC := Lib.hid hl4.ls; have HB4 := Lib.hid hb4
    go_wp2_with fail
    refine hK.out _ _ (step_below hHeld hb4) (fun hHeldn => ?_)
    clear hK K hHeld; have hHeld := hHeldn; clear hHeldn
    clear ho4 hl4 hb4
    try simp only [Act.put, List.setIfInBounds_toArray, List.set_cons_zero, List.set_cons_succ]
    refine a1 9 rfl (fun K hK => ?_)
    go_simp
    refine (putnumber_own e (by omega) _).mono ?_; rintro e9 w5 ⟨a5, c5, rfl, ho5, hl5, hb5⟩; have HD := Lib.hid hl5.ls; have HB5 := Lib.hid hb5
    go_wp2_with fail
    refine hK.out _ _ (step_below hHeld hb5) (fun hHeldn => ?_)
    clear hK K hHeld; have hHeld := hHeldn; clear hHeldn
    clear ho5 hl5 hb5
    try simp only [Act.put, List.setIfInBounds_toArray, List.set_cons_zero, List.set_cons_succ]
    refine a1 12 rfl (fun K hK => ?_)
    go_simp
    refine (putnumber_own f (by omega) _).mono ?_; rintro e9 w6 ⟨a6, c6, rfl, ho6, hl6, hb6⟩; have HE := Lib.hid hl6.ls; have HB6 := Lib.hid hb6
    go_wp2_with fail
    refine hK.out _ _ (step_below hHeld hb6) (fun hHeldn => ?_)
    clear hK K hHeld; have hHeld := hHeldn; clear hHeldn
    clear ho6 hl6 hb6
    have hfl : flat [⟨a3, c3, numW g⟩, ⟨a4, c4, bytesW (byts nm)⟩, ⟨a5, c5, numW e⟩, ⟨a6, c6, numW f⟩, ⟨al, cl, X⟩] = mnW g e f nm xs := (by simp [flat, mnW, HXX.out]); have hRR := rdR_new w6 [⟨a3, c3, numW g⟩, ⟨a4, c4, bytesW (byts nm)⟩, ⟨a5, c5, numW e⟩, ⟨a6, c6, numW f⟩, ⟨al, cl, X⟩] #[.slice a3 (numW g).length c3, .slice a4 (bytesW (byts nm)).length c4, .slice a5 (numW e).length c5, .slice a6 (numW f).length c6, .slice al X.length cl] 54 (0, 0) (by simp only [List.map_cons, List.map_nil, P1.v]) (by intro p hp; simp only [List.mem_cons, List.not_mem_nil, or_false] at hp; rcases hp with rfl | rfl | rfl | rfl | rfl; exact (((HA.out.below HB4.out).below HB5.out).below HB6.out); exact ((HC.out.below HB5.out).below HB6.out); exact (HD.out.below HB6.out); exact HE.out; exact HLG.out.below (step_below HW1.out hHeld)); have hj := join_own (some ⟨w6.heap.size, 0, none⟩) _ 5 5 rfl (by omega) (by rw [hfl]; have := HML.out.2; omega) _ hRR; rw [hfl] at hj; have HJ := Lib.hid hj; clear hj hRR hfl
    try simp only [Act.put, List.setIfInBounds_toArray, List.set_cons_zero, List.set_cons_succ]
    refine a1 14 rfl (fun K hK => ?_)
    go_simp
    refine hK.out _ _ (hHeld.alloc hHeld.size _) (fun hHeldn => ?_)
    clear hK K hHeld; have hHeld := hHeldn; clear hHeldn
    try simp only [Act.put, List.setIfInBounds_toArray, List.set_cons_zero, List.set_cons_succ]
    refine a1 15 rfl (fun K hK => ?_)
    go_simp
    refine (HJ.out).mono ?_; rintro e9 w7 ⟨a7, c7, rfl, hl7, ho7, hb7⟩; have HFR := Lib.hid (frame_ok a7 (mnW g e f nm xs) (mnW g e f nm xs).length c7 rfl HML.out.1 HML.out.2 HMY.out w7 hl7)
    go_wp2_with fail
    refine hK.out _ _ (step_below hHeld hb7) (fun hHeldn => ?_)
    clear hK K hHeld; have hHeld := hHeldn; clear hHeldn
    clear ho7 hl7 hb7
    try simp only [Act.put, List.setIfInBounds_toArray, List.set_cons_zero, List.set_cons_succ]
    refine a1 16 rfl (fun K hK => ?_)
    go_simp
    refine (HFR.out).mono ?_; rintro e9 w8 ⟨a8, c8, rfl, ho8, hl8, hb8⟩; have HO8 := Lib.hid (And.intro (own_base (b := w.heap.size) (by have := hHeld.size; have := HS0.out; omega) ho8) hl8)
    go_wp2_with fail
    refine hK.out _ _ (step_below hHeld hb8) (fun hHeldn => ?_)
    clear hK K hHeld; have hHeld := hHeldn; clear hHeldn
    clear ho8 hl8 hb8
    try simp only [Act.put, List.setIfInBounds_toArray, List.set_cons_zero, List.set_cons_succ]
    refine tp 17 ?_ rfl (.inl ⟨by rfl, ?_⟩) ?_
    rotate_left
    · intro W hSw; go_simp; try with_reducible rfl
    refine tp 18 ?_ rfl (.inl ⟨by rfl, ?_⟩) ?_
    rotate_left
    · intro W hSw; go_simp; try with_reducible rfl
    refine tp 19 ?_ rfl (.inl ⟨by rfl, ?_⟩) ?_
    rotate_left
    · intro W hSw; go_simp; try with_reducible rfl
    refine tp 20 ?_ rfl (.inl ⟨by rfl, ?_⟩) ?_
    rotate_left
    · intro W hSw; go_simp; try with_reducible rfl
    refine wpAnyH_done (by kernel_rfl) ?_ _
    refine hKK _ _ ?_
    have HBN := Lib.hid (step_below HB0.out hHeld)
    clear hKK hHeld FQ
    go_wp2_with fail
    go_ret2
    exact ⟨.inr ⟨HB.out, a8, c8, rfl, HO8.out.1, HO8.out.2⟩, HBN.out⟩
end Go.Proofs.YtglkndoghnblcaaGreatDoor
namespace Go.Proofs.YtglkndoghnblcaaGreatDoor
open Go.ChangeShapes Go.WideShapes Go.ChangeAt Go.RowKit
set_option linter.unusedVariables false
set_option linter.unusedSimpArgs false
def PckR (w : World) (e : Int) (ts : List TbP) (r : Ending) (w' : World) : Prop :=
  ((ckB e ts = false ∧ r = .returned (.tuple #[.slice none 0 0, .int .i64 2])) ∨
    (ckB e ts = true ∧ 4096 < cntT ts ts.length ∧ r = .returned (.tuple #[.slice none 0 0, .int .i64 3])) ∨
    (ckB e ts = true ∧ cntT ts ts.length ≤ 4096 ∧ ∃ a' c', r = .returned (.tuple #[.slice a' (ckW e.toNat ts).length c', .int .i64 0]) ∧ w'.ownsRow w.heap.size 5 1 (.slice a' (ckW e.toNat ts).length c') (ckW e.toNat ts).length (iv .u8 (ckW e.toNat ts)) ∧ Ls .u8 w' a' c' (ckW e.toNat ts))) ∧ Below w.heap.size w w'
set_option maxRecDepth 100000 in
set_option maxHeartbeats 4000000 in
/-- PutCheckpoint (29), of what may not be. -/
theorem putck_no (e : Int) (a : Option Addr) (ts : List TbP) (n cap : Nat) (hn : ts.length = n) (hn2 : n ≤ 1000000) (hxs : ∀ t ∈ ts, t.xs.length ≤ 1000000 ∧ ∀ x ∈ t.xs, x.R.length ≤ 1000000) (w : World) (hR : TbsR w a ts) (hb : ckB e ts = false) :
    Calls Tryz.prog 28 #[.agg #[.int .i64 e, .slice a n cap]] w (PckR w e ts) := by
  have HM := Lib.hid (fun W (b : Below w.heap.size w W) => mayck_law e a ts n cap hn hn2 hxs W (hR.below b))
  have HB := Lib.hid hb
  rw [hb] at HM
  clear hb hn hR hxs
  go_enter Tryz.func28, Tryz.ntmps28
  go_wp2_with fail
  refine (HM.out _ (bl1 w _)).mono ?_; rintro r w1 ⟨rfl, hb1⟩
  have HB1 := Lib.hid (step_below (bl1 w _) hb1)
  clear hb1
  go_wp2_with fail
  go_ret2
  exact ⟨.inl ⟨HB.out, rfl⟩, HB1.out⟩
end Go.Proofs.YtglkndoghnblcaaGreatDoor
namespace Go.Proofs.YtglkndoghnblcaaGreatDoor
open Go.ChangeShapes Go.WideShapes Go.ChangeAt Go.RowKit
set_option linter.unusedVariables false
set_option linter.unusedSimpArgs false
/-- A stored row, owned. -/
structure StOw (w : World) (base : Nat) (x : StP) : Prop where
  e0 : 0 ≤ x.e
  s0 : 0 ≤ x.s
  key : w.ownsRow base 5 1 (.slice x.ka x.key.length x.kc) x.key.length (iv .u8 x.key)
  row : w.ownsRow base 54 1 (.slice x.ra x.R.length x.rc) x.R.length (x.R.map P1.v)
  all : ∀ q ∈ x.R, w.ownsRow base 5 1 q.v q.bs.length (iv .u8 q.bs)
theorem StOw.oth {w w' : World} {base B : Nat} {p : StP} (h : StOw w base p) (hB : B < base) (g : w.grownBy w' (some B)) : StOw w' base p := ⟨h.e0, h.s0, own_oth h.key hB g, own_oth h.row hB g, fun q hq => own_oth (h.all q hq) hB g⟩
theorem StOw.base {w : World} {b b' : Nat} {p : StP} (hb : b ≤ b') (h : StOw w b' p) : StOw w b p := ⟨h.e0, h.s0, own_base hb h.key, own_base hb h.row, fun q hq => own_base hb (h.all q hq)⟩
theorem StOw.below {w w' : World} {base : Nat} {p : StP} (h : StOw w base p) (b : Below w.heap.size w w') : StOw w' base p := ⟨h.e0, h.s0, own_below h.key b, own_below h.row b, fun q hq => own_below (h.all q hq) b⟩
theorem StOw.own {w w' : World} {base : Nat} {p : StP} {row : Option Nat} (h : StOw w base p) (hg : w.grownBy w' row) (hr : ∀ r, row = some r → ∃ o : Obj, w.heap[r]? = some o ∧ o.isCells = false) : StOw w' base p := ⟨h.e0, h.s0, own_own h.key hg hr, own_own h.row hg hr, fun q hq => own_own (h.all q hq) hg hr⟩
theorem StOw.kept {w w' : World} {base b2 n sz : Nat} {ty : TypeId} {p : StP} {v : Value} {cs : List Value} (h : StOw w base p) (hown : w.ownsRow b2 ty sz v n cs) (h5 : 5 ≠ ty) (h22 : 54 ≠ ty) (g : w.grownBy w' v.ownBlock) : StOw w' base p :=
  ⟨h.e0, h.s0, h.key.kept g (own_apart h.key hown h5), h.row.kept g (own_apart h.row hown h22), fun q hq => (h.all q hq).kept g (own_apart (h.all q hq) hown h5)⟩
def StB (x : StP) : Prop := Byt x.key ∧ ∀ p ∈ x.R, Byt p.bs
theorem StOw.ok {w : World} {base : Nat} {x : StP} (h : StOw w base x) (hb : StB x) : StOk w x := by
  obtain ⟨a, cap, e, l, _⟩ := own_ls h.key rfl
  cases e
  obtain ⟨a2, c2, e2, l2⟩ := own_rdr h.row rfl (fun p hp => by obtain ⟨a3, c3, e3, l3, _⟩ := own_ls (h.all p hp) rfl; cases e3; exact l3)
  cases e2
  exact ⟨l, l2, hb.1, hb.2⟩
/-- A placed row, as it lies. -/
structure PlQ where
  t : Nat
  st : StP
def PlQ.pl (q : PlQ) : Pl := ⟨q.t, q.st.key, q.st.R.map P1.bs, q.st.e.toNat, q.st.s.toNat⟩
def PlQ.cells (q : PlQ) : List Value := .int .i64 (q.t : Int) :: q.st.cells
def qcells (qs : List PlQ) : List Value := (qs.map PlQ.cells).flatten
theorem PlO.get {w : World} {base : Nat} {x : Pl} {v : Value} (h : PlO w base x v) : ∃ q : PlQ, q.pl = x ∧ v = .agg #[.int .i64 (q.t : Int), .slice q.st.ka q.st.key.length q.st.kc, .slice q.st.ra q.st.R.length q.st.rc, .int .i64 q.st.e, .int .i64 q.st.s] ∧ StOw w base q.st := by
  obtain ⟨ka, kc, ra, rc, rfl, h1, R, h2, h3, h4⟩ := h
  have hl : R.length = x.fs.length := by rw [← h2]; simp
  refine ⟨⟨x.t, ka, kc, x.k, ra, rc, R, (x.e : Int), (x.s : Int)⟩, by simp [PlQ.pl, h2], by simp [hl], ⟨by simp, by simp, h1, by rw [hl]; exact h3, h4⟩⟩
/-- Placed rows that were read, owned. -/
def PlsO (w : World) (base : Nat) (xs : List Pl) (v : Value) : Prop := ∃ qs : List PlQ, qs.map PlQ.pl = xs ∧ w.ownsRow base 137 5 v xs.length (qcells qs) ∧ ∀ q ∈ qs, StOw w base q.st
theorem PlsO.nil (w : World) (base : Nat) : PlsO w base [] (.slice none 0 0) := ⟨[], rfl, World.ownsRow_nil _ _ _ _, fun p hp => by simp at hp⟩
theorem PlsO.oth {w w' : World} {base B : Nat} {xs : List Pl} {v : Value} (h : PlsO w base xs v) (hB : B < base) (g : w.grownBy w' (some B)) : PlsO w' base xs v := by
  obtain ⟨R, h1, h2, h3⟩ := h
  exact ⟨R, h1, own_oth h2 hB g, fun p hp => (h3 p hp).oth hB g⟩
theorem PlsO.below {w w' : World} {base : Nat} {xs : List Pl} {v : Value} (h : PlsO w base xs v) (b : Below w.heap.size w w') : PlsO w' base xs v := by
  obtain ⟨R, h1, h2, h3⟩ := h
  exact ⟨R, h1, own_below h2 b, fun p hp => (h3 p hp).below b⟩
theorem PlsO.own {w w' : World} {base : Nat} {xs : List Pl} {v : Value} {row : Option Nat} (h : PlsO w base xs v) (hg : w.grownBy w' row) (hr : ∀ r, row = some r → ∃ o : Obj, w.heap[r]? = some o ∧ o.isCells = false) : PlsO w' base xs v := by
  obtain ⟨ps, h1, h2, h3⟩ := h
  exact ⟨ps, h1, own_own h2 hg hr, fun p hp => (h3 p hp).own hg hr⟩
theorem PlsO.snoc {w w' : World} {base k : Nat} {xs : List Pl} {ps : List PlQ} {p : PlQ} {v v' : Value} (h1 : ps.map PlQ.pl = xs) (hk : xs.length = k) (h2 : w.ownsRow base 137 5 v k (qcells ps)) (h3 : ∀ q ∈ ps, StOw w base q.st) (hp : StOw w base p.st)
    (h' : w'.ownsRow base 137 5 v' (k + 1) (qcells ps ++ p.cells)) (g : w.grownBy w' v.ownBlock) : PlsO w' base (xs ++ [p.pl]) v' := by
  refine ⟨ps ++ [p], by rw [List.map_append, h1]; rfl, ?_, fun q hq => ?_⟩
  · rw [List.length_append, hk]
    have e : qcells (ps ++ [p]) = qcells ps ++ p.cells := by simp [qcells]
    rw [e]
    exact h'
  · rcases List.mem_append.1 hq with hq | hq
    · exact (h3 q hq).kept h2 (by decide) (by decide) g
    · simp only [List.mem_singleton] at hq
      subst hq
      exact hp.kept h2 (by decide) (by decide) g
theorem flat_at {α : Type} (f : α → List Value) (m : Nat) (hf : ∀ x, (f x).length = m) : ∀ (xs : List α) (k i : Nat) (x : α), xs[k]? = some x → i < m → ((xs.map f).flatten)[k * m + i]? = (f x)[i]?
  | [], k, i, x, h, _ => by simp at h
  | y :: xs, 0, i, x, h, hi => by
    simp only [List.getElem?_cons_zero, Option.some.injEq] at h
    subst h
    rw [List.map_cons, List.flatten_cons, Nat.zero_mul, Nat.zero_add, List.getElem?_append_left (by rw [hf]; exact hi)]
  | y :: xs, k + 1, i, x, h, hi => by
    simp only [List.getElem?_cons_succ] at h
    rw [List.map_cons, List.flatten_cons, List.getElem?_append_right (by rw [hf, Nat.succ_mul]; omega), hf, Nat.succ_mul, show k * m + m + i - m = k * m + i by omega]
    exact flat_at f m hf xs k i x h hi
theorem qcells_at {qs : List PlQ} {k : Nat} {q : PlQ} (h : qs[k]? = some q) : ∀ i, i < 5 → (qcells qs)[k * 5 + i]? = q.cells[i]? := fun i hi => flat_at PlQ.cells 5 (fun _ => rfl) qs k i q h hi
def scells (xs : List StP) : List Value := (xs.map StP.cells).flatten
theorem scells_at {xs : List StP} {k : Nat} {x : StP} (h : xs[k]? = some x) : ∀ i, i < 4 → (scells xs)[k * 4 + i]? = x.cells[i]? := fun i hi => flat_at StP.cells 4 (fun _ => rfl) xs k i x h hi
/-- Tables that were read, owned. -/
structure TabsO (w : World) (base : Nat) (ts : List TbP) (v : Value) : Prop where
  row : w.ownsRow base 74 1 v ts.length (ts.map TbP.v)
  tabs : ∀ t ∈ ts, w.ownsRow base 72 4 t.v t.xs.length (scells t.xs)
  all : ∀ t ∈ ts, ∀ x ∈ t.xs, StOw w base x
theorem TabsO.base {w : World} {b b' : Nat} {ts : List TbP} {v : Value} (hb : b ≤ b') (h : TabsO w b' ts v) : TabsO w b ts v := ⟨own_base hb h.row, fun t ht => own_base hb (h.tabs t ht), fun t ht x hx => (h.all t ht x hx).base hb⟩
theorem TabsO.below {w w' : World} {base : Nat} {ts : List TbP} {v : Value} (h : TabsO w base ts v) (b : Below w.heap.size w w') : TabsO w' base ts v := ⟨own_below h.row b, fun t ht => own_below (h.tabs t ht) b, fun t ht x hx => (h.all t ht x hx).below b⟩
theorem TabsO.oth {w w' : World} {base B : Nat} {ts : List TbP} {v : Value} (h : TabsO w base ts v) (hB : B < base) (g : w.grownBy w' (some B)) : TabsO w' base ts v := ⟨own_oth h.row hB g, fun t ht => own_oth (h.tabs t ht) hB g, fun t ht x hx => (h.all t ht x hx).oth hB g⟩
theorem TabsO.lies {w : World} {base n c : Nat} {a : Option Addr} {ts : List TbP} (h : TabsO w base ts (.slice a n c)) (hb : ∀ t ∈ ts, ∀ x ∈ t.xs, StB x) : n = ts.length ∧ n ≤ c ∧ TbsR w a ts := by
  have h2 := h.row
  rcases h.row.2 with ⟨e0, h0⟩ | ⟨g, cap, cur, e0, _, _, hc, _⟩
  · cases e0
    have : ts = [] := List.length_eq_zero_iff.1 h0
    subst this
    exact ⟨rfl, Nat.le_refl _, fun k x hx => by simp at hx⟩
  · cases e0
    refine ⟨rfl, hc, fun k t ht => ?_⟩
    have hk : k < ts.length := (List.getElem?_eq_some_iff.1 ht).1
    have hm := List.mem_of_getElem? ht
    refine ⟨g, 0, rfl, ?_, fun j x hx => ?_⟩
    · rw [Nat.zero_add, h2.cellAt k (by omega), List.getElem?_map, ht]
      rfl
    · have h3 := h.tabs t hm
      have hj : j < t.xs.length := (List.getElem?_eq_some_iff.1 hx).1
      rcases h3.2 with ⟨e1, h1⟩ | ⟨g2, cap2, cur2, e1, _, _, hc2, _⟩
      · omega
      · have e1' : t.a = some ⟨g2, 0, none⟩ := by injection e1
        rw [e1] at h3
        have hq := scells_at hx
        refine ⟨g2, 0, e1', ?_, ?_, ?_, ?_, (h.all t hm x (List.mem_of_getElem? hx)).ok (hb t hm x (List.mem_of_getElem? hx))⟩
        · rw [Nat.zero_add]
          have := h3.cellAt (j * 4 + 0) (by omega)
          rw [show j * 4 = j * 4 + 0 by omega, this]
          exact hq 0 (by omega)
        · rw [Nat.zero_add]
          have := h3.cellAt (j * 4 + 1) (by omega)
          rw [this]
          exact hq 1 (by omega)
        · rw [Nat.zero_add]
          have := h3.cellAt (j * 4 + 2) (by omega)
          rw [this]
          exact hq 2 (by omega)
        · rw [Nat.zero_add]
          have := h3.cellAt (j * 4 + 3) (by omega)
          rw [this]
          exact hq 3 (by omega)
def posT (each : List Nat) (i : Nat) : Nat := (each.take i).sum
theorem posT_next {each : List Nat} {i m : Nat} (h : each[i]? = some m) : posT each (i + 1) = posT each i + m := by
  unfold posT
  rw [List.take_add_one, h]
  simp
theorem posT_le (each : List Nat) (i : Nat) : posT each i ≤ posT each each.length := by
  unfold posT
  rw [List.take_length]
  have : each.sum = (each.take i).sum + (each.drop i).sum := by rw [← List.sum_append, List.take_append_drop]
  omega
def splitW {α : Type} : List Nat → List α → List (List α)
  | [], _ => []
  | n :: ns, l => l.take n :: splitW ns (l.drop n)
theorem splitW_len {α : Type} : ∀ (each : List Nat) (l : List α), (splitW each l).length = each.length
  | [], _ => rfl
  | n :: ns, l => by simp [splitW, splitW_len ns]
theorem splitW_get {α : Type} : ∀ (each : List Nat) (l : List α) (i n : Nat), each[i]? = some n → (splitW each l)[i]? = some ((l.drop (posT each i)).take n)
  | [], _, i, n, h => by simp at h
  | m :: ns, l, 0, n, h => by
    simp only [List.getElem?_cons_zero, Option.some.injEq] at h
    subst h
    simp [splitW, posT]
  | m :: ns, l, i + 1, n, h => by
    simp only [List.getElem?_cons_succ] at h
    show (l.take m :: splitW ns (l.drop m))[i + 1]? = _
    rw [List.getElem?_cons_succ, splitW_get ns (l.drop m) i n h, List.drop_drop]
    simp [posT]
theorem splitW_mem {α : Type} : ∀ (each : List Nat) (l : List α) (t : List α) (x : α), t ∈ splitW each l → x ∈ t → x ∈ l
  | [], _, t, x, h, _ => by simp [splitW] at h
  | m :: ns, l, t, x, h, hx => by
    rcases List.mem_cons.1 h with rfl | h
    · exact List.mem_of_mem_take hx
    · exact List.mem_of_mem_drop (splitW_mem ns (l.drop m) t x h hx)
/-- Are the rows just those that are told, one table's behind the other's, and not too many? -/
def OkW (each tn : List Nat) : Prop := (∀ j m, each[j]? = some m → ∀ k, k < m → tn[posT each j + k]? = some j) ∧ tn.length ≤ posT each each.length ∧ posT each each.length ≤ 4096
theorem info140 : (Tryz.prog.info? 137).map (fun i => (i.zero, i.size, i.bytes)) = some (some (.agg #[.int .i64 0, .slice none 0 0, .slice none 0 0, .int .i64 0, .int .i64 0]), 5, 72) := by kernel_rfl
theorem info59 : (Tryz.prog.info? 72).map (fun i => (i.zero, i.size, i.bytes)) = some (some (.agg #[.slice none 0 0, .slice none 0 0, .int .i64 0, .int .i64 0]), 4, 64) := by kernel_rfl
theorem info57 : (Tryz.prog.info? 74).map (fun i => (i.zero, i.size, i.bytes)) = some (some (.slice none 0 0), 1, 24) := by kernel_rfl
theorem lo_run135 (W : World) (b off R c : Nat) (h : 1 ≤ R) : (Instr.slice 132 (.slice (some ⟨b, off, none⟩) R c) (some (.int .i64 1)) .none .none).run Tryz.prog W = .ok (.slice (some ⟨b, if c = 1 then off else off + 5, none⟩) (R - 1) (c - 1)) W := by
  obtain ⟨i0, hi0, hz0, hz1, hz2⟩ := info_parts info140
  have hel : Tryz.prog.elem 132 = 137 := by simp [Program.elem, Tryz.underlying132]
  rw [run_slice_l (P := Tryz.prog) (w := W) 132 (some ⟨b, off, none⟩) R c (by rw [hel]; exact Tryz.underlying132) .i64 1 (by omega) (by omega)]
  have hs : ((sizeOf (Tryz.prog.elem 132)).run Tryz.prog W) = .ok 5 W := by rw [hel]; simp [sizeOf, typeInfo, hi0, hz1]
  rw [hs]
  by_cases hc : c = 1
  · simp [sliced, Result.andThen, Addr.add, hc]
  · simp [sliced, Result.andThen, Addr.add, hc]
end Go.Proofs.YtglkndoghnblcaaGreatDoor
