/- 'LogManifests' returns true whatever its arguments, which read afterwards as before: no condition. Part 2. -/
import Derived.Test.YtglkndoghnblcaaGreatOma
import Derived.Test.YtglkndoghnblcaaGreatOvi
import Derived.Test.YtglkndoghnblcaaGreatOvf
import Derived.Test.YtglkndoghnblcaaGreatOve
import Derived.Test.YtglkndoghnblcaaGreatOvg
import Derived.Test.YtglkndoghnblcaaGreatOva
namespace Go.Proofs.YtglkndoghnblcaaGreat
open Go.ChangeShapes Go.WideShapes Go.ChangeAt Go.RowKit
set_option linter.unusedVariables false
set_option linter.unusedSimpArgs false
/-- Which bytes are just one frame. -/
theorem only_one {L : List Int} : (∃ p, framesL L = [p] ∧ wholeL L = L.length ∧ onlyL L = p) ∨ (¬ ((framesL L).length = 1 ∧ wholeL L = L.length) ∧ onlyL L = []) := by
  cases hi : isL L with
  | false =>
    right
    refine ⟨fun h => ?_, by unfold onlyL; rw [if_neg (by rw [hi]; simp)]⟩
    rw [framesL_no hi] at h
    simp at h
  | true =>
    have hf := framesL_yes hi
    have hbl := bodyL_len hi
    have h8 := (isL_iff.1 hi).2.2.2.1
    by_cases hl : L.length = 8 + lenL L
    · left
      refine ⟨bodyL L, ?_, ?_, by unfold onlyL; rw [if_pos ⟨hi, hl⟩]⟩
      · rw [hf, List.drop_of_length_le (by omega), framesL_no (B := []) (isL_no (by simp))]
      · unfold wholeL
        rw [hf, List.drop_of_length_le (by omega), framesL_no (B := []) (isL_no (by simp))]
        simp only [List.map_cons, List.map_nil, List.sum_cons, List.sum_nil]
        omega
    · right
      refine ⟨fun h => hl ?_, by unfold onlyL; rw [if_neg (fun h => hl h.2)]⟩
      obtain ⟨h1, h2⟩ := h
      rw [hf] at h1
      unfold wholeL at h2
      rw [hf] at h2
      simp only [List.length_cons] at h1
      have : framesL (L.drop (8 + lenL L)) = [] := List.length_eq_zero_iff.1 (by omega)
      rw [this] at h2
      simp only [List.map_cons, List.map_nil, List.sum_cons, List.sum_nil] at h2
      omega
def SngQ (w : World) (L : List Int) (r : Ending) (w' : World) : Prop :=
  ((onlyL L = [] ∧ r = .returned (.tuple #[.pointer none, .bool false])) ∨ ∃ B, w.heap.size ≤ B ∧ r = .returned (.tuple #[.pointer (some ⟨B, 0, none⟩), .bool true]) ∧ RqS w' B (onlyL L)) ∧ Below w.heap.size w w'
set_option maxRecDepth 100000 in
set_option maxHeartbeats 4000000 in
/-- single (103). -/
theorem single_law (a : Option Addr) (L : List Int) (n cap : Nat) (hn : L.length = n) (hn2 : n ≤ 1000000) (hB : Byt L) (w : World) (hL : Ls .u8 w a cap L) :
    Calls Tryz.prog 103 #[.slice a n cap] w (SngQ w L) := by
  have HF := Lib.hid (rframes_law a L n cap hn hn2 hB w hL)
  have HN := Lib.hid hn
  have HO := Lib.hid (only_one (L := L))
  have HY := Lib.hid (frames_byt _ L (Nat.le_refl _) hB)
  obtain ⟨m, hm⟩ : ∃ m, wholeL L = m := ⟨_, rfl⟩
  obtain ⟨k, hk⟩ : ∃ k, (framesL L).length = k := ⟨_, rfl⟩
  have hm2 : m ≤ 1000000 := by rw [← hm]; exact Nat.le_trans (whole_le n L (Nat.le_of_eq hn)) (by omega)
  have HM := Lib.hid (And.intro hm hk)
  rw [hm] at HF
  clear hn hB hL hm hk
  go_enter Tryz.func103, Tryz.ntmps103
  go_wp2_with fail
  refine HF.out.mono ?_
  rintro r w1 ⟨v, rfl, ho, hb1⟩
  obtain ⟨a1, c1, R, rfl, hR1, hR2⟩ := ho.rdr
  rw [HM.out.2]
  have HR := Lib.hid (And.intro hR1 hR2)
  have HB1 := Lib.hid hb1
  clear hR1 hR2 hb1 ho
  by_cases h1 : m = n
  · have e1 : ((m : Int) != (n : Int)) = false := by simp; omega
    have e1' : (m != n) = false := by simp; omega
    by_cases h2 : k = 1
    · have e2 : ((k : Int) != 1) = false := by simp; omega
      have e2' : (k != 1) = false := by simp; omega
      have hk0 : (0 : Int) < (k : Int) := by omega
      obtain ⟨p, hp1, hp2, hp3⟩ : ∃ p, framesL L = [p] ∧ wholeL L = L.length ∧ onlyL L = p := by
        rcases HO.out with h | h
        · exact h
        · exact absurd (And.intro (by rw [HM.out.2]; exact h2) (by rw [HM.out.1, HN.out]; exact h1)) h.1
      rw [hp1] at HR
      obtain ⟨q, hq⟩ : ∃ q, R = [q] := by
        have hl : R.length = 1 := by have := congrArg List.length HR.out.1; simpa using this
        match R, hl with
        | [q], _ => exact ⟨q, rfl⟩
      have hqb : q.bs = p := by have := HR.out.1; rw [hq] at this; simpa using this
      obtain ⟨b1, o1, ea, cc, hl⟩ := HR.out.2 0 q (by rw [hq]; rfl)
      subst ea
      rw [Nat.add_zero] at cc
      unfold P1.v at cc
      rw [hqb] at cc hl
      have hpl := (frames_len _ L (Nat.le_refl _) p (by rw [hp1]; simp)).2
      have HQ := Lib.hid (rqs_box w1 q.ad q.cap p.length p rfl (by omega) (HY.out p (by rw [hp1]; simp)) hl)
      have HP := Lib.hid hp3
      obtain ⟨pl, hpl2⟩ : ∃ pl, p.length = pl := ⟨_, rfl⟩
      obtain ⟨qa, hqa⟩ : ∃ x, q.ad = x := ⟨_, rfl⟩
      obtain ⟨qc, hqc⟩ : ∃ x, q.cap = x := ⟨_, rfl⟩
      rw [hpl2, hqa, hqc] at HQ cc
      have HBL := Lib.hid (step_below HB1.out (bl1 w1 (.cells #[.slice qa pl qc, .int .i64 0] 148)))
      have HSZ := Lib.hid HB1.out.size
      clear hp1 hp2 hp3 hq hqb hl hpl hpl2 hqa hqc h1 h2
      go_wp2_with fail
      go_ret2
      exact ⟨.inr ⟨_, HSZ.out, rfl, by rw [HP.out]; exact HQ.out⟩, HBL.out⟩
    · have e2 : ((k : Int) != 1) = true := by simp; omega
      have e2' : (k != 1) = true := by simp; omega
      have HX := Lib.hid (show onlyL L = [] by
        rcases HO.out with ⟨p, h, _⟩ | h
        · exact absurd (by have := HM.out.2; rw [h] at this; simpa using this.symm) h2
        · exact h.2)
      clear h1 h2
      go_wp2_with fail
      go_ret2
      exact ⟨.inl ⟨HX.out, rfl⟩, HB1.out⟩
  · have e1 : ((m : Int) != (n : Int)) = true := by simp; omega
    have e1' : (m != n) = true := by simp; omega
    have HX := Lib.hid (show onlyL L = [] by
      rcases HO.out with ⟨p, _, h, _⟩ | h
      · exact absurd (by rw [← HM.out.1, h, HN.out]) h1
      · exact h.2)
    clear h1
    go_wp2_with fail
    go_ret2
    exact ⟨.inl ⟨HX.out, rfl⟩, HB1.out⟩
end Go.Proofs.YtglkndoghnblcaaGreat
namespace Go.Proofs.YtglkndoghnblcaaGreat
open Go.ChangeShapes Go.WideShapes Go.ChangeAt Go.RowKit
set_option linter.unusedVariables false
set_option linter.unusedSimpArgs false
/-- What small answers, in one form. -/
def SmB (W : World) (B : Nat) (R : List Int) (most : Nat) (r : Ending) (w' : World) : Prop :=
  ∃ (z : Int) (ok : Bool) (R' : List Int), r = .returned (.tuple #[.int .i64 z, .bool ok]) ∧ RqS w' B R' ∧ W.grownBy w' (some B) ∧ (ok = true → ∃ x : Nat, upP most R = some (x, R') ∧ z = (x : Int) ∧ x ≤ most) ∧ (ok = false → upP most R = none)
theorem smallb_law {W : World} {B : Nat} {R : List Int} (h : RqS W B R) (most : Nat) (hm : most ≤ 2147483647) :
    Calls Tryz.prog 88 #[.pointer (some ⟨B, 0, none⟩), .int .i64 (most : Int)] W (SmB W B R most) := by
  refine (small_law h most hm).mono ?_
  rintro r w' ⟨⟨e1, ⟨z, rfl⟩, R', hr⟩ | ⟨x, R', e1, hx, rfl, hr⟩, g⟩
  · exact ⟨z, false, R', rfl, hr, g, fun h => (by cases h), fun _ => e1⟩
  · exact ⟨(x : Int), true, R', rfl, hr, g, fun _ => ⟨x, e1, rfl, hx⟩, fun h => (by cases h)⟩
/-- What the document's Bytes answers, in one form. -/
def BytB (W : World) (B : Nat) (R : List Int) (most : Nat) (r : Ending) (w' : World) : Prop :=
  ∃ (b : List Int) (bl : Nat) (a : Option Addr) (c : Nat) (e : Int) (R' : List Int), r = .returned (.tuple #[.slice a bl c, .int .i64 e]) ∧ b.length = bl ∧ bl ≤ most ∧ Byt b ∧ w'.ownsRow W.heap.size 5 1 (.slice a bl c) bl (iv .u8 b) ∧ RqS w' B R' ∧ W.grownBy w' (some B) ∧ (e = 0 → bytesP most R = some (b, R')) ∧ (e ≠ 0 → bytesP most R = none) ∧ (e = 0 ∨ e = 3 ∨ e = 4)
theorem bytesb_law {W : World} {B : Nat} {R : List Int} (h : RqS W B R) (most : Nat) (hm : most ≤ 1000000) :
    Calls Tryz.prog 104 #[.pointer (some ⟨B, 0, none⟩), .int .i64 (most : Int)] W (BytB W B R most) := by
  have hy := h.byt
  refine (bytesq_law h most hm).mono ?_
  rintro r w' ⟨⟨h1, ⟨e, he, rfl⟩, h2⟩ | ⟨b, R', a, c, h1, rfl, h2, h3⟩, g⟩
  · exact ⟨[], 0, none, 0, e, R, rfl, rfl, Nat.zero_le _, fun x hx => by simp at hx, World.ownsRow_nil _ _ _ _, h2, g, fun h => (by rcases he with rfl | rfl <;> cases h), fun _ => h1, .inr he⟩
  · obtain ⟨e1, e2⟩ := bytesP_inv hy h1
    exact ⟨b, b.length, a, c, 0, R', rfl, rfl, e1, fun x hx => hy x (by rw [e2]; unfold bytesW; simp [hx]), h2, h3, g, fun _ => h1, fun h => absurd rfl h, .inl rfl⟩
/-- A result's box (N), a reader's (B), a variable's (D), while a thing is read. -/
structure BxI (w : World) (B D : Nat) (R : List Int) (zs cs : Array Value) (t : TypeId) (W : World) : Prop where
  bel : Below w.heap.size w W
  bx : BoxC W w.heap.size zs t
  bd : BoxC W D cs t
  rd : RqS W B R
  l1 : w.heap.size < B
  l2 : B < D
theorem BxI.step {w W W' : World} {B D : Nat} {R R' : List Int} {zs cs : Array Value} {t : TypeId} (h : BxI w B D R zs cs t W) (g : W.grownBy W' (some B)) (hr : RqS W' B R') : BxI w B D R' zs cs t W' :=
  ⟨below_oth h.bel g h.bel.size (Nat.le_of_lt h.l1), h.bx.gr g (Nat.ne_of_lt h.l1), h.bd.gr g (Nat.ne_of_gt h.l2), hr, h.l1, h.l2⟩
theorem BxI.below {w W W' : World} {B D : Nat} {R : List Int} {zs cs : Array Value} {t : TypeId} (h : BxI w B D R zs cs t W) (b : Below W.heap.size W W') : BxI w B D R zs cs t W' :=
  ⟨step_below h.bel b, h.bx.below b, h.bd.below b, h.rd.below b, h.l1, h.l2⟩
theorem BxI.put {w W : World} {B D : Nat} {R : List Int} {zs cs : Array Value} {t : TypeId} (h : BxI w B D R zs cs t W) (i : Nat) (v : Value) : BxI w B D R zs (cs.setIfInBounds i v) t (W.setCell ⟨D, i, none⟩ v) := by
  have l1 := h.l1
  have l2 := h.l2
  refine ⟨h.bel.setCell (p := ⟨D, i, none⟩) (by simp; omega) v, h.bx.oth (by omega), h.bd.put i v, h.rd.below1 ?_, h.l1, h.l2⟩
  exact (Below.refl (B + 1) W).setCell (p := ⟨D, i, none⟩) (by simp; omega) v
/-- .. begins. -/
theorem BxI.new {w W1 W2 : World} {B : Nat} {R : List Int} {zs : Array Value} {t : TypeId} (hb1 : Below w.heap.size w W1) (hx : BoxC W1 w.heap.size zs t) (hb2 : Below W1.heap.size W1 W2) (hB : W1.heap.size ≤ B) (hr : RqS W2 B R) : BxI w B W2.heap.size R zs zs t (W2.alloc (.cells zs t)) :=
  ⟨step_below (step_below hb1 hb2) (bl1 _ _), (hx.below hb2).alloc _, BoxC.new _ _ _, hr.below (bl1 _ _), Nat.lt_of_lt_of_le hx.lt hB, hr.lt⟩
end Go.Proofs.YtglkndoghnblcaaGreat
namespace Go.Proofs.YtglkndoghnblcaaGreat
open Go.ChangeShapes Go.WideShapes Go.ChangeAt Go.RowKit
set_option linter.unusedVariables false
set_option linter.unusedSimpArgs false
theorem BoxC.far {W W' : World} {B N : Nat} {cs : Array Value} {t : TypeId} (h : BoxC W B cs t) (b : Below N W W') (hB : B < N) : BoxC W' B cs t := (b.block B hB).trans h
theorem BxI.far {w W W' : World} {B D : Nat} {R : List Int} {zs cs : Array Value} {t : TypeId} (h : BxI w B D R zs cs t W) (b : Below (D + 1) W W') : BxI w B D R zs cs t W' :=
  ⟨h.bel.trans (b.mono (by have := h.l1; have := h.l2; omega)), h.bx.far b (by have := h.l1; have := h.l2; omega), h.bd.far b (by omega), h.rd.below1 (b.mono (by have := h.l2; omega)), h.l1, h.l2⟩
theorem man_no1 {R : List Int} (h : upP 2147483647 R = none) : manP R = none := bindP_none h
theorem man_no2 {R R1 : List Int} {g : Nat} (h1 : upP 2147483647 R = some (g, R1)) (h : bytesP 24 R1 = none) : manP R = none := (bindP_some h1).trans (bindP_none h)
theorem man_no3 {R R1 R2 nm : List Int} {g : Nat} (h1 : upP 2147483647 R = some (g, R1)) (h2 : bytesP 24 R1 = some (nm, R2)) (h : upP 16777215 R2 = none) : manP R = none := (bindP_some h1).trans ((bindP_some h2).trans (bindP_none h))
theorem man_no4 {R R1 R2 R3 nm : List Int} {g e : Nat} (h1 : upP 2147483647 R = some (g, R1)) (h2 : bytesP 24 R1 = some (nm, R2)) (h3 : upP 16777215 R2 = some (e, R3)) (h : upP 16777215 R3 = none) : manP R = none := (bindP_some h1).trans ((bindP_some h2).trans ((bindP_some h3).trans (bindP_none h)))
theorem man_no5 {R R1 R2 R3 R4 nm : List Int} {g e f : Nat} (h1 : upP 2147483647 R = some (g, R1)) (h2 : bytesP 24 R1 = some (nm, R2)) (h3 : upP 16777215 R2 = some (e, R3)) (h4 : upP 16777215 R3 = some (f, R4)) (h : listP 32 partP R4 = none) : manP R = none := (bindP_some h1).trans ((bindP_some h2).trans ((bindP_some h3).trans ((bindP_some h4).trans (bindP_none h))))
theorem man_yes {R R1 R2 R3 R4 R5 nm : List Int} {g e f : Nat} {xs : List Pt2} (h1 : upP 2147483647 R = some (g, R1)) (h2 : bytesP 24 R1 = some (nm, R2)) (h3 : upP 16777215 R2 = some (e, R3)) (h4 : upP 16777215 R3 = some (f, R4)) (h : listP 32 partP R4 = some (xs, R5)) : manP R = some (⟨g, nm, e, f, xs⟩, R5) := (bindP_some h1).trans ((bindP_some h2).trans ((bindP_some h3).trans ((bindP_some h4).trans (bindP_some h))))
theorem listP_no {α : Type} {most : Nat} {one : List Int → Option (α × List Int)} {R : List Int} (h : upP most R = none) : listP most one R = none := by unfold listP; rw [h]
theorem listP_go {α : Type} {most n : Nat} {one : List Int → Option (α × List Int)} {R R1 : List Int} (h : upP most R = some (n, R1)) : listP most one R = addP [] (manyP one (n - 0) R1) := by unfold listP; rw [h, addP_nil]; rfl
theorem pcells_snoc (xs : List Pt2) (x : Pt2) : pcells (xs ++ [x]) = pcells xs ++ [.string (strOfNums x.1), .int .i64 (x.2 : Int)] := by simp [pcells]
theorem PartsO.snoc {w : World} {base k : Nat} {xs : List Pt2} {x : Pt2} {v : Value} (hk : xs.length = k) (h : w.ownsRow base 76 2 v (k + 1) (pcells xs ++ [.string (strOfNums x.1), .int .i64 (x.2 : Int)])) : PartsO w base (xs ++ [x]) v := by
  unfold PartsO
  rw [List.length_append, hk, pcells_snoc]
  exact h
set_option maxRecDepth 100000 in
set_option maxHeartbeats 4000000 in
/-- The document's ReadManifest (37). -/
theorem rreadman_law (a : Option Addr) (L : List Int) (n cap : Nat) (hn : L.length = n) (hn2 : n ≤ 1000000) (hB : Byt L) (w : World) (hL : Ls .u8 w a cap L) :
    Calls Tryz.prog 37 #[.slice a n cap] w (RmnR w (rmanP L)) := by
  have HSG := Lib.hid (fun W (b : Below w.heap.size w W) => single_law a L n cap hn hn2 hB W (hL.below b))
  clear hn hB hL
  go_enter Tryz.func37, Tryz.ntmps37
  go_upto_region 1 with (fail)
  obtain ⟨W1, hW1⟩ : ∃ W1, w.alloc (.cells #[.int .i64 0, .string { data := #[] }, .int .i64 0, .int .i64 0, .slice none 0 0] 72) = W1 := ⟨_, rfl⟩
  have hb1 : Below w.heap.size w W1 := by rw [← hW1]; exact bl1 _ _
  have x0 : BoxC W1 w.heap.size #[.int .i64 0, .string { data := #[] }, .int .i64 0, .int .i64 0, .slice none 0 0] 72 := by rw [← hW1]; exact BoxC.new _ _ _
  try rw [hW1]
  clear hW1
  have HO1 := Lib.hid (HSG.out _ hb1)
  have HB1 := Lib.hid hb1
  have HX0 := Lib.hid x0
  clear hb1 x0 HSG
  go_wp2_with fail
  refine HO1.out.mono ?_
  rintro r w2 ⟨⟨ho, rfl⟩ | ⟨B, hB, rfl, hr⟩, b2⟩
  · have HX := Lib.hid (show rmanP L = none from rmanP_1 (by rw [ho]; rfl))
    have HB2 := Lib.hid (step_below HB1.out b2)
    have BX := Lib.hid (HX0.out.below b2)
    clear ho b2 HO1
    have zb := BX.out
    have zb0 := zb.cell 0
    have fb0 := zb.frozen 0
    have zb1 := zb.cell 1
    have fb1 := zb.frozen 1
    have zb2 := zb.cell 2
    have fb2 := zb.frozen 2
    have zb3 := zb.cell 3
    have fb3 := zb.frozen 3
    have zb4 := zb.cell 4
    have fb4 := zb.frozen 4
    simp only [List.getElem?_toArray, List.getElem?_cons_zero, List.getElem?_cons_succ] at zb0 zb1 zb2 zb3 zb4
    have X9 := Lib.hid (((((zb.put 0 (.int .i64 0)).put 1 (.string { data := #[] })).put 2 (.int .i64 0)).put 3 (.int .i64 0)).put 4 (.slice none 0 0))
    have HB9 := Lib.hid (((((HB2.out.setCell (p := ⟨w.heap.size, 0, none⟩) (Nat.le_refl _) (.int .i64 0)).setCell (p := ⟨w.heap.size, 1, none⟩) (Nat.le_refl _) (.string { data := #[] })).setCell (p := ⟨w.heap.size, 2, none⟩) (Nat.le_refl _) (.int .i64 0)).setCell (p := ⟨w.heap.size, 3, none⟩) (Nat.le_refl _) (.int .i64 0)).setCell (p := ⟨w.heap.size, 4, none⟩) (Nat.le_refl _) (.slice none 0 0))
    clear zb
    go_wp2_with fail
    clear zb0 fb0 zb1 fb1 zb2 fb2 zb3 fb3 zb4 fb4
    generalize (((((w2.setCell ⟨w.heap.size, 0, none⟩ (.int .i64 0)).setCell ⟨w.heap.size, 1, none⟩ (.string { data := #[] })).setCell ⟨w.heap.size, 2, none⟩ (.int .i64 0)).setCell ⟨w.heap.size, 3, none⟩ (.int .i64 0)).setCell ⟨w.heap.size, 4, none⟩ (.slice none 0 0)) = W9 at *
    have q0 := X9.out.cell 0
    have q1 := X9.out.cell 1
    have q2 := X9.out.cell 2
    have q3 := X9.out.cell 3
    have q4 := X9.out.cell 4
    simp at q0 q1 q2 q3 q4
    refine bodyPost_ret (v := .tuple #[.agg #[.int .i64 0, .string { data := #[] }, .int .i64 0, .int .i64 0, .slice none 0 0], .int .i64 4]) (by simp [results, Tryz.results37, go_sem, q0, q1, q2, q3, q4]) rfl ?_
    exact ⟨.inl ⟨HX.out, rfl⟩, HB9.out⟩
  have hI := BxI.new HB1.out HX0.out b2 hB hr
  have HI2 := Lib.hid hI
  clear b2 hB hr HO1 HX0 hI
  obtain ⟨R0, hR0⟩ : ∃ R, onlyL L = R := ⟨_, rfl⟩
  have HR0 := Lib.hid hR0
  rw [hR0] at HI2
  clear hR0
  go_upto_region 5 with (fail)
  generalize w2.alloc (.cells #[.int .i64 0, .string { data := #[] }, .int .i64 0, .int .i64 0, .slice none 0 0] 72) = W3 at *
  generalize w2.heap.size = D at *
  go_wp2_with fail
  refine (smallb_law HI2.out.rd 2147483647 (by decide)).mono ?_
  rintro r w4 ⟨z1, k1, R1, rfl, hr1, g1, y1, n1⟩
  have hI := HI2.out.step g1 hr1
  have HY1 := Lib.hid (And.intro y1 n1)
  have x0 := hI.bd.cell 0
  have f0 := hI.bd.frozen 0
  simp at x0
  have HI4 := Lib.hid (hI.put 0 (.int .i64 z1))
  clear hr1 g1 y1 n1 hI HI2
  go_upto_region 7 with (fail)
  clear x0 f0
  generalize w4.setCell ⟨D, 0, none⟩ (.int .i64 z1) = W4 at *
  go_wp2_with fail
  refine (bytesb_law HI4.out.rd 24 (by decide)).mono ?_
  rintro r w5 ⟨nb, nl, na, nc, er, R2, rfl, hnl, hnl2, hnb, hno, hr1, g1, y1, n1, her⟩
  have hI := HI4.out.step g1 hr1
  have HY2 := Lib.hid (And.intro y1 n1)
  obtain ⟨_, _, ee, hls, _⟩ := own_ls hno hnl
  cases ee
  have hcv := conv_ls w5 na nl nc nb hnl hls.rd
  obtain ⟨st, hst⟩ : ∃ s, strOfNums nb = s := ⟨_, rfl⟩
  rw [hst] at hcv
  have HNB := Lib.hid (And.intro hst (And.intro hnl (And.intro hnl2 hnb)))
  have HER := Lib.hid her
  have x0 := hI.bd.cell 1
  have f0 := hI.bd.frozen 1
  simp at x0
  have HI5 := Lib.hid (hI.put 1 (.string st))
  clear hr1 g1 y1 n1 hI HI4 hnl hnl2 hnb hno hls hst her
  go_upto_region 9 with (fail)
  clear x0 f0 hcv
  generalize w5.setCell ⟨D, 1, none⟩ (.string st) = W5 at *
  go_wp2_with fail
  refine (smallb_law HI5.out.rd 16777215 (by decide)).mono ?_
  rintro r w6 ⟨z3, k3, R3, rfl, hr1, g1, y1, n1⟩
  have hI := HI5.out.step g1 hr1
  have HY3 := Lib.hid (And.intro y1 n1)
  have x0 := hI.bd.cell 2
  have f0 := hI.bd.frozen 2
  simp at x0
  have HI6 := Lib.hid (hI.put 2 (.int .i64 z3))
  clear hr1 g1 y1 n1 hI HI5
  go_upto_region 10 with (fail)
  clear x0 f0
  generalize w6.setCell ⟨D, 2, none⟩ (.int .i64 z3) = W6 at *
  go_wp2_with fail
  refine (smallb_law HI6.out.rd 16777215 (by decide)).mono ?_
  rintro r w7 ⟨z4, k4, R4, rfl, hr1, g1, y1, n1⟩
  have hI := HI6.out.step g1 hr1
  have HY4 := Lib.hid (And.intro y1 n1)
  have x0 := hI.bd.cell 3
  have f0 := hI.bd.frozen 3
  simp at x0
  have HI7 := Lib.hid (hI.put 3 (.int .i64 z4))
  clear hr1 g1 y1 n1 hI HI6
  go_upto_region 11 with (fail)
  clear x0 f0
  generalize w7.setCell ⟨D, 3, none⟩ (.int .i64 z4) = W7 at *
  go_wp2_with fail
  refine (smallb_law HI7.out.rd 32 (by decide)).mono ?_
  rintro r w8 ⟨z5, k5, R5, rfl, hr1, g1, y1, n1⟩
  have hI := HI7.out.step g1 hr1
  have HY5 := Lib.hid (And.intro y1 n1)
  have HI := Lib.hid hI
  clear hr1 g1 y1 n1 hI HI7
  go_upto_region 12 with (fail)
  have HNO := Lib.hid (fun (h : manP R0 = none) => rmanP_1 (L := L) (readP_1 (by rw [HR0.out]; exact h)))
  cases k1 with
  | false =>
    have HX := Lib.hid (HNO.out (man_no1 (HY1.out.2 rfl)))
    have HB8 := Lib.hid HI.out.bel
    have BX := Lib.hid HI.out.bx
    have zb := BX.out
    have zb0 := zb.cell 0
    have fb0 := zb.frozen 0
    have zb1 := zb.cell 1
    have fb1 := zb.frozen 1
    have zb2 := zb.cell 2
    have fb2 := zb.frozen 2
    have zb3 := zb.cell 3
    have fb3 := zb.frozen 3
    have zb4 := zb.cell 4
    have fb4 := zb.frozen 4
    simp only [List.getElem?_toArray, List.getElem?_cons_zero, List.getElem?_cons_succ] at zb0 zb1 zb2 zb3 zb4
    have X9 := Lib.hid (((((zb.put 0 (.int .i64 0)).put 1 (.string { data := #[] })).put 2 (.int .i64 0)).put 3 (.int .i64 0)).put 4 (.slice none 0 0))
    have HB9 := Lib.hid (((((HB8.out.setCell (p := ⟨w.heap.size, 0, none⟩) (Nat.le_refl _) (.int .i64 0)).setCell (p := ⟨w.heap.size, 1, none⟩) (Nat.le_refl _) (.string { data := #[] })).setCell (p := ⟨w.heap.size, 2, none⟩) (Nat.le_refl _) (.int .i64 0)).setCell (p := ⟨w.heap.size, 3, none⟩) (Nat.le_refl _) (.int .i64 0)).setCell (p := ⟨w.heap.size, 4, none⟩) (Nat.le_refl _) (.slice none 0 0))
    clear zb
    go_wp2_with fail
    clear zb0 fb0 zb1 fb1 zb2 fb2 zb3 fb3 zb4 fb4
    generalize (((((w8.setCell ⟨w.heap.size, 0, none⟩ (.int .i64 0)).setCell ⟨w.heap.size, 1, none⟩ (.string { data := #[] })).setCell ⟨w.heap.size, 2, none⟩ (.int .i64 0)).setCell ⟨w.heap.size, 3, none⟩ (.int .i64 0)).setCell ⟨w.heap.size, 4, none⟩ (.slice none 0 0)) = W9 at *
    have q0 := X9.out.cell 0
    have q1 := X9.out.cell 1
    have q2 := X9.out.cell 2
    have q3 := X9.out.cell 3
    have q4 := X9.out.cell 4
    simp at q0 q1 q2 q3 q4
    refine bodyPost_ret (v := .tuple #[.agg #[.int .i64 0, .string { data := #[] }, .int .i64 0, .int .i64 0, .slice none 0 0], .int .i64 4]) (by simp [results, Tryz.results37, go_sem, q0, q1, q2, q3, q4]) rfl ?_
    exact ⟨.inl ⟨HX.out, rfl⟩, HB9.out⟩
  | true =>
  obtain ⟨g, u1, hz1, hg⟩ := HY1.out.1 rfl
  have HU1 := Lib.hid u1
  by_cases her : er = 0
  rotate_left
  · have hne : (er != 0) = true := by simp [her]
    have HX := Lib.hid (HNO.out (man_no2 HU1.out (HY2.out.2 her)))
    clear her u1
    have HB8 := Lib.hid HI.out.bel
    have BX := Lib.hid HI.out.bx
    have zb := BX.out
    have zb0 := zb.cell 0
    have fb0 := zb.frozen 0
    have zb1 := zb.cell 1
    have fb1 := zb.frozen 1
    have zb2 := zb.cell 2
    have fb2 := zb.frozen 2
    have zb3 := zb.cell 3
    have fb3 := zb.frozen 3
    have zb4 := zb.cell 4
    have fb4 := zb.frozen 4
    simp only [List.getElem?_toArray, List.getElem?_cons_zero, List.getElem?_cons_succ] at zb0 zb1 zb2 zb3 zb4
    have X9 := Lib.hid (((((zb.put 0 (.int .i64 0)).put 1 (.string { data := #[] })).put 2 (.int .i64 0)).put 3 (.int .i64 0)).put 4 (.slice none 0 0))
    have HB9 := Lib.hid (((((HB8.out.setCell (p := ⟨w.heap.size, 0, none⟩) (Nat.le_refl _) (.int .i64 0)).setCell (p := ⟨w.heap.size, 1, none⟩) (Nat.le_refl _) (.string { data := #[] })).setCell (p := ⟨w.heap.size, 2, none⟩) (Nat.le_refl _) (.int .i64 0)).setCell (p := ⟨w.heap.size, 3, none⟩) (Nat.le_refl _) (.int .i64 0)).setCell (p := ⟨w.heap.size, 4, none⟩) (Nat.le_refl _) (.slice none 0 0))
    clear zb
    go_wp2_with fail
    clear zb0 fb0 zb1 fb1 zb2 fb2 zb3 fb3 zb4 fb4
    generalize (((((w8.setCell ⟨w.heap.size, 0, none⟩ (.int .i64 0)).setCell ⟨w.heap.size, 1, none⟩ (.string { data := #[] })).setCell ⟨w.heap.size, 2, none⟩ (.int .i64 0)).setCell ⟨w.heap.size, 3, none⟩ (.int .i64 0)).setCell ⟨w.heap.size, 4, none⟩ (.slice none 0 0)) = W9 at *
    have q0 := X9.out.cell 0
    have q1 := X9.out.cell 1
    have q2 := X9.out.cell 2
    have q3 := X9.out.cell 3
    have q4 := X9.out.cell 4
    simp at q0 q1 q2 q3 q4
    refine bodyPost_ret (v := .tuple #[.agg #[.int .i64 0, .string { data := #[] }, .int .i64 0, .int .i64 0, .slice none 0 0], .int .i64 4]) (by simp [results, Tryz.results37, go_sem, q0, q1, q2, q3, q4]) rfl ?_
    exact ⟨.inl ⟨HX.out, rfl⟩, HB9.out⟩
  have HU2 := Lib.hid (HY2.out.1 her)
  subst her
  cases k3 with
  | false =>
    have HX := Lib.hid (HNO.out (man_no3 HU1.out HU2.out (HY3.out.2 rfl)))
    clear u1
    have HB8 := Lib.hid HI.out.bel
    have BX := Lib.hid HI.out.bx
    have zb := BX.out
    have zb0 := zb.cell 0
    have fb0 := zb.frozen 0
    have zb1 := zb.cell 1
    have fb1 := zb.frozen 1
    have zb2 := zb.cell 2
    have fb2 := zb.frozen 2
    have zb3 := zb.cell 3
    have fb3 := zb.frozen 3
    have zb4 := zb.cell 4
    have fb4 := zb.frozen 4
    simp only [List.getElem?_toArray, List.getElem?_cons_zero, List.getElem?_cons_succ] at zb0 zb1 zb2 zb3 zb4
    have X9 := Lib.hid (((((zb.put 0 (.int .i64 0)).put 1 (.string { data := #[] })).put 2 (.int .i64 0)).put 3 (.int .i64 0)).put 4 (.slice none 0 0))
    have HB9 := Lib.hid (((((HB8.out.setCell (p := ⟨w.heap.size, 0, none⟩) (Nat.le_refl _) (.int .i64 0)).setCell (p := ⟨w.heap.size, 1, none⟩) (Nat.le_refl _) (.string { data := #[] })).setCell (p := ⟨w.heap.size, 2, none⟩) (Nat.le_refl _) (.int .i64 0)).setCell (p := ⟨w.heap.size, 3, none⟩) (Nat.le_refl _) (.int .i64 0)).setCell (p := ⟨w.heap.size, 4, none⟩) (Nat.le_refl _) (.slice none 0 0))
    clear zb
    go_wp2_with fail
    clear zb0 fb0 zb1 fb1 zb2 fb2 zb3 fb3 zb4 fb4
    generalize (((((w8.setCell ⟨w.heap.size, 0, none⟩ (.int .i64 0)).setCell ⟨w.heap.size, 1, none⟩ (.string { data := #[] })).setCell ⟨w.heap.size, 2, none⟩ (.int .i64 0)).setCell ⟨w.heap.size, 3, none⟩ (.int .i64 0)).setCell ⟨w.heap.size, 4, none⟩ (.slice none 0 0)) = W9 at *
    have q0 := X9.out.cell 0
    have q1 := X9.out.cell 1
    have q2 := X9.out.cell 2
    have q3 := X9.out.cell 3
    have q4 := X9.out.cell 4
    simp at q0 q1 q2 q3 q4
    refine bodyPost_ret (v := .tuple #[.agg #[.int .i64 0, .string { data := #[] }, .int .i64 0, .int .i64 0, .slice none 0 0], .int .i64 4]) (by simp [results, Tryz.results37, go_sem, q0, q1, q2, q3, q4]) rfl ?_
    exact ⟨.inl ⟨HX.out, rfl⟩, HB9.out⟩
  | true =>
  obtain ⟨e, u3, hz3, he⟩ := HY3.out.1 rfl
  have HU3 := Lib.hid u3
  cases k5 with
  | false =>
    have HX := Lib.hid (HNO.out (by
      cases k4 with
      | false => exact man_no4 HU1.out HU2.out HU3.out (HY4.out.2 rfl)
      | true =>
        obtain ⟨f, u4, _⟩ := HY4.out.1 rfl
        exact man_no5 HU1.out HU2.out HU3.out u4 (listP_no (HY5.out.2 rfl))))
    clear u1 u3
    have HB8 := Lib.hid HI.out.bel
    have BX := Lib.hid HI.out.bx
    have zb := BX.out
    have zb0 := zb.cell 0
    have fb0 := zb.frozen 0
    have zb1 := zb.cell 1
    have fb1 := zb.frozen 1
    have zb2 := zb.cell 2
    have fb2 := zb.frozen 2
    have zb3 := zb.cell 3
    have fb3 := zb.frozen 3
    have zb4 := zb.cell 4
    have fb4 := zb.frozen 4
    simp only [List.getElem?_toArray, List.getElem?_cons_zero, List.getElem?_cons_succ] at zb0 zb1 zb2 zb3 zb4
    have X9 := Lib.hid (((((zb.put 0 (.int .i64 0)).put 1 (.string { data := #[] })).put 2 (.int .i64 0)).put 3 (.int .i64 0)).put 4 (.slice none 0 0))
    have HB9 := Lib.hid (((((HB8.out.setCell (p := ⟨w.heap.size, 0, none⟩) (Nat.le_refl _) (.int .i64 0)).setCell (p := ⟨w.heap.size, 1, none⟩) (Nat.le_refl _) (.string { data := #[] })).setCell (p := ⟨w.heap.size, 2, none⟩) (Nat.le_refl _) (.int .i64 0)).setCell (p := ⟨w.heap.size, 3, none⟩) (Nat.le_refl _) (.int .i64 0)).setCell (p := ⟨w.heap.size, 4, none⟩) (Nat.le_refl _) (.slice none 0 0))
    clear zb
    go_wp2_with fail
    clear zb0 fb0 zb1 fb1 zb2 fb2 zb3 fb3 zb4 fb4
    generalize (((((w8.setCell ⟨w.heap.size, 0, none⟩ (.int .i64 0)).setCell ⟨w.heap.size, 1, none⟩ (.string { data := #[] })).setCell ⟨w.heap.size, 2, none⟩ (.int .i64 0)).setCell ⟨w.heap.size, 3, none⟩ (.int .i64 0)).setCell ⟨w.heap.size, 4, none⟩ (.slice none 0 0)) = W9 at *
    have q0 := X9.out.cell 0
    have q1 := X9.out.cell 1
    have q2 := X9.out.cell 2
    have q3 := X9.out.cell 3
    have q4 := X9.out.cell 4
    simp at q0 q1 q2 q3 q4
    refine bodyPost_ret (v := .tuple #[.agg #[.int .i64 0, .string { data := #[] }, .int .i64 0, .int .i64 0, .slice none 0 0], .int .i64 4]) (by simp [results, Tryz.results37, go_sem, q0, q1, q2, q3, q4]) rfl ?_
    exact ⟨.inl ⟨HX.out, rfl⟩, HB9.out⟩
  | true =>
  obtain ⟨cn, u5, hz5, hcn⟩ := HY5.out.1 rfl
  have HU5 := Lib.hid u5
  cases k4 with
  | false =>
    have HX := Lib.hid (HNO.out (man_no4 HU1.out HU2.out HU3.out (HY4.out.2 rfl)))
    clear u1 u3 u5
    have HB8 := Lib.hid HI.out.bel
    have BX := Lib.hid HI.out.bx
    have zb := BX.out
    have zb0 := zb.cell 0
    have fb0 := zb.frozen 0
    have zb1 := zb.cell 1
    have fb1 := zb.frozen 1
    have zb2 := zb.cell 2
    have fb2 := zb.frozen 2
    have zb3 := zb.cell 3
    have fb3 := zb.frozen 3
    have zb4 := zb.cell 4
    have fb4 := zb.frozen 4
    simp only [List.getElem?_toArray, List.getElem?_cons_zero, List.getElem?_cons_succ] at zb0 zb1 zb2 zb3 zb4
    have X9 := Lib.hid (((((zb.put 0 (.int .i64 0)).put 1 (.string { data := #[] })).put 2 (.int .i64 0)).put 3 (.int .i64 0)).put 4 (.slice none 0 0))
    have HB9 := Lib.hid (((((HB8.out.setCell (p := ⟨w.heap.size, 0, none⟩) (Nat.le_refl _) (.int .i64 0)).setCell (p := ⟨w.heap.size, 1, none⟩) (Nat.le_refl _) (.string { data := #[] })).setCell (p := ⟨w.heap.size, 2, none⟩) (Nat.le_refl _) (.int .i64 0)).setCell (p := ⟨w.heap.size, 3, none⟩) (Nat.le_refl _) (.int .i64 0)).setCell (p := ⟨w.heap.size, 4, none⟩) (Nat.le_refl _) (.slice none 0 0))
    clear zb
    go_wp2_with fail
    clear zb0 fb0 zb1 fb1 zb2 fb2 zb3 fb3 zb4 fb4
    generalize (((((w8.setCell ⟨w.heap.size, 0, none⟩ (.int .i64 0)).setCell ⟨w.heap.size, 1, none⟩ (.string { data := #[] })).setCell ⟨w.heap.size, 2, none⟩ (.int .i64 0)).setCell ⟨w.heap.size, 3, none⟩ (.int .i64 0)).setCell ⟨w.heap.size, 4, none⟩ (.slice none 0 0)) = W9 at *
    have q0 := X9.out.cell 0
    have q1 := X9.out.cell 1
    have q2 := X9.out.cell 2
    have q3 := X9.out.cell 3
    have q4 := X9.out.cell 4
    simp at q0 q1 q2 q3 q4
    refine bodyPost_ret (v := .tuple #[.agg #[.int .i64 0, .string { data := #[] }, .int .i64 0, .int .i64 0, .slice none 0 0], .int .i64 4]) (by simp [results, Tryz.results37, go_sem, q0, q1, q2, q3, q4]) rfl ?_
    exact ⟨.inl ⟨HX.out, rfl⟩, HB9.out⟩
  | true =>
  obtain ⟨f, u4, hz4, hf⟩ := HY4.out.1 rfl
  have HU4 := Lib.hid u4
  clear u1 u3 u4 u5
  subst hz1 hz3 hz4 hz5
  have hI := HI.out
  simp at hI
  have HI9 := Lib.hid hI
  have HL0 := Lib.hid (listP_go (one := partP) HU5.out)
  have HD0 := Lib.hid (show D + 1 ≤ w8.heap.size from hI.bd.lt)
  have hcn2 : (cn : Int) ≤ 32 := by omega
  obtain ⟨i0, hi, hz0, hz1, hz2⟩ := info_parts info76
  clear hI HI
  go_wp2_with fail
  go_loopw [14] (fun i wr => ∃ (k : Nat) (logs : List Pt2) (Rk : List Int) (va : Option Addr) (vc : Nat), k ≤ cn ∧ i = .int .i64 (k : Int) ∧ Hid (logs.length = k ∧ listP 32 partP R4 = addP logs (manyP partP (cn - k) Rk) ∧ ∀ y ∈ logs, y.1.length ≤ 24) ∧ Hid (PartsO wr (D + 1) logs (.slice va k vc)) ∧ Hid (BxI w B D Rk #[.int .i64 0, .string { data := #[] }, .int .i64 0, .int .i64 0, .slice none 0 0] #[.int .i64 (g : Int), .string st, .int .i64 (e : Int), .int .i64 (f : Int), .slice va k vc] 72 wr) ∧ Hid (D + 1 ≤ wr.heap.size)) (fun i _ => cn - (intOf i).toNat)
  case atStart => exact ⟨0, [], _, none, 0, by omega, rfl, Lib.hid ⟨rfl, HL0.out, fun y hy => by simp at hy⟩, Lib.hid (PartsO.nil _ _), HI9, HD0⟩
  case round =>
    clear HL0 HI9 HD0
    obtain ⟨k, logs, Rk, va, vc, hk, rfl, HL, HP, HI, HZ⟩ := hrel
    by_cases hlt : k < cn
    · have d1 : (k : Int) < (cn : Int) := by omega
      go_wp2_with fail
      refine (bytesb_law HI.out.rd 24 (by decide)).mono ?_
      rintro r v1 ⟨pb, pl, pa, pc, per, P1, rfl, hnl, hnl2, hnb, hno, hr1, g1, y1, n1, her⟩
      have HI1 := Lib.hid (HI.out.step g1 hr1)
      have HPY := Lib.hid (And.intro y1 n1)
      have HP1 := Lib.hid (HP.out.oth (by have := HI1.out.l2; omega) g1)
      have HZ1 := Lib.hid (Nat.le_trans HZ.out g1.size)
      have HOB := Lib.hid (own_base (b := D + 1) HZ.out hno)
      have HPB := Lib.hid (And.intro hnl (And.intro hnl2 hnb))
      have HER := Lib.hid her
      clear hr1 g1 y1 n1 hnl hnl2 hnb hno her HI HP
      go_wp2_with fail
      refine (smallb_law HI1.out.rd 16777215 (by decide)).mono ?_
      rintro r v2 ⟨zt, kt, P2, rfl, hr1, g1, y1, n1⟩
      have HI2 := Lib.hid (HI1.out.step g1 hr1)
      have HTY := Lib.hid (And.intro y1 n1)
      have HP2 := Lib.hid (HP1.out.oth (by have := HI2.out.l2; omega) g1)
      have HZ2 := Lib.hid (Nat.le_trans HZ1.out g1.size)
      have HOB2 := Lib.hid (own_oth HOB.out (by have := HI2.out.l2; omega) g1)
      clear hr1 g1 y1 n1 HI1 HP1 HOB HZ1
      by_cases her : per = 0
      rotate_left
      · have hne : (per != 0) = true := by simp [her]
        have HX := Lib.hid (HNO.out (man_no5 HU1.out HU2.out HU3.out HU4.out (by rw [HL.out.2.1]; exact manyP_stop hlt logs (partP_1 (HPY.out.2 her)))))
        clear her
        have HB8 := Lib.hid HI2.out.bel
        have BX := Lib.hid HI2.out.bx
        have zb := BX.out
        have zb0 := zb.cell 0
        have fb0 := zb.frozen 0
        have zb1 := zb.cell 1
        have fb1 := zb.frozen 1
        have zb2 := zb.cell 2
        have fb2 := zb.frozen 2
        have zb3 := zb.cell 3
        have fb3 := zb.frozen 3
        have zb4 := zb.cell 4
        have fb4 := zb.frozen 4
        simp only [List.getElem?_toArray, List.getElem?_cons_zero, List.getElem?_cons_succ] at zb0 zb1 zb2 zb3 zb4
        have X9 := Lib.hid (((((zb.put 0 (.int .i64 0)).put 1 (.string { data := #[] })).put 2 (.int .i64 0)).put 3 (.int .i64 0)).put 4 (.slice none 0 0))
        have HB9 := Lib.hid (((((HB8.out.setCell (p := ⟨w.heap.size, 0, none⟩) (Nat.le_refl _) (.int .i64 0)).setCell (p := ⟨w.heap.size, 1, none⟩) (Nat.le_refl _) (.string { data := #[] })).setCell (p := ⟨w.heap.size, 2, none⟩) (Nat.le_refl _) (.int .i64 0)).setCell (p := ⟨w.heap.size, 3, none⟩) (Nat.le_refl _) (.int .i64 0)).setCell (p := ⟨w.heap.size, 4, none⟩) (Nat.le_refl _) (.slice none 0 0))
        clear zb
        go_wp2_with fail
        clear zb0 fb0 zb1 fb1 zb2 fb2 zb3 fb3 zb4 fb4
        generalize (((((v2.setCell ⟨w.heap.size, 0, none⟩ (.int .i64 0)).setCell ⟨w.heap.size, 1, none⟩ (.string { data := #[] })).setCell ⟨w.heap.size, 2, none⟩ (.int .i64 0)).setCell ⟨w.heap.size, 3, none⟩ (.int .i64 0)).setCell ⟨w.heap.size, 4, none⟩ (.slice none 0 0)) = W9 at *
        have q0 := X9.out.cell 0
        have q1 := X9.out.cell 1
        have q2 := X9.out.cell 2
        have q3 := X9.out.cell 3
        have q4 := X9.out.cell 4
        simp at q0 q1 q2 q3 q4
        refine bodyPost_ret (v := .tuple #[.agg #[.int .i64 0, .string { data := #[] }, .int .i64 0, .int .i64 0, .slice none 0 0], .int .i64 4]) (by simp [results, Tryz.results37, go_sem, q0, q1, q2, q3, q4]) rfl ?_
        exact ⟨.inl ⟨HX.out, rfl⟩, HB9.out⟩
      have HB24 := Lib.hid (HPY.out.1 her)
      subst her
      cases kt with
      | false =>
        have HX := Lib.hid (HNO.out (man_no5 HU1.out HU2.out HU3.out HU4.out (by rw [HL.out.2.1]; exact manyP_stop hlt logs (partP_2 HB24.out (HTY.out.2 rfl)))))
        have HB8 := Lib.hid HI2.out.bel
        have BX := Lib.hid HI2.out.bx
        have zb := BX.out
        have zb0 := zb.cell 0
        have fb0 := zb.frozen 0
        have zb1 := zb.cell 1
        have fb1 := zb.frozen 1
        have zb2 := zb.cell 2
        have fb2 := zb.frozen 2
        have zb3 := zb.cell 3
        have fb3 := zb.frozen 3
        have zb4 := zb.cell 4
        have fb4 := zb.frozen 4
        simp only [List.getElem?_toArray, List.getElem?_cons_zero, List.getElem?_cons_succ] at zb0 zb1 zb2 zb3 zb4
        have X9 := Lib.hid (((((zb.put 0 (.int .i64 0)).put 1 (.string { data := #[] })).put 2 (.int .i64 0)).put 3 (.int .i64 0)).put 4 (.slice none 0 0))
        have HB9 := Lib.hid (((((HB8.out.setCell (p := ⟨w.heap.size, 0, none⟩) (Nat.le_refl _) (.int .i64 0)).setCell (p := ⟨w.heap.size, 1, none⟩) (Nat.le_refl _) (.string { data := #[] })).setCell (p := ⟨w.heap.size, 2, none⟩) (Nat.le_refl _) (.int .i64 0)).setCell (p := ⟨w.heap.size, 3, none⟩) (Nat.le_refl _) (.int .i64 0)).setCell (p := ⟨w.heap.size, 4, none⟩) (Nat.le_refl _) (.slice none 0 0))
        clear zb
        go_wp2_with fail
        clear zb0 fb0 zb1 fb1 zb2 fb2 zb3 fb3 zb4 fb4
        generalize (((((v2.setCell ⟨w.heap.size, 0, none⟩ (.int .i64 0)).setCell ⟨w.heap.size, 1, none⟩ (.string { data := #[] })).setCell ⟨w.heap.size, 2, none⟩ (.int .i64 0)).setCell ⟨w.heap.size, 3, none⟩ (.int .i64 0)).setCell ⟨w.heap.size, 4, none⟩ (.slice none 0 0)) = W9 at *
        have q0 := X9.out.cell 0
        have q1 := X9.out.cell 1
        have q2 := X9.out.cell 2
        have q3 := X9.out.cell 3
        have q4 := X9.out.cell 4
        simp at q0 q1 q2 q3 q4
        refine bodyPost_ret (v := .tuple #[.agg #[.int .i64 0, .string { data := #[] }, .int .i64 0, .int .i64 0, .slice none 0 0], .int .i64 4]) (by simp [results, Tryz.results37, go_sem, q0, q1, q2, q3, q4]) rfl ?_
        exact ⟨.inl ⟨HX.out, rfl⟩, HB9.out⟩
      | true =>
      obtain ⟨t, ut, hzt, ht⟩ := HTY.out.1 rfl
      have HN := Lib.hid (show (logs ++ [(pb, t)]).length = k + 1 ∧ listP 32 partP R4 = addP (logs ++ [(pb, t)]) (manyP partP (cn - (k + 1)) P2) ∧ ∀ y ∈ logs ++ [(pb, t)], y.1.length ≤ 24 from ⟨by rw [List.length_append, HL.out.1]; rfl, by rw [HL.out.2.1]; exact manyP_next hlt logs (partP_3 HB24.out ut), fun y hy => by
        rcases List.mem_append.1 hy with hy | hy
        · exact HL.out.2.2 y hy
        · rw [List.mem_singleton] at hy
          subst hy
          have := HPB.out; simp only; omega⟩)
      subst hzt
      obtain ⟨_, _, ee, hls, _⟩ := own_ls HOB2.out HPB.out.1
      cases ee
      have hcv := conv_ls v2 pa pl pc pb HPB.out.1 hls.rd
      obtain ⟨ps, hps⟩ : ∃ s, strOfNums pb = s := ⟨_, rfl⟩
      rw [hps] at hcv
      have HPS := Lib.hid hps
      have y4 := HI2.out.bd.cell 4
      simp at y4
      have hp2 := HP2.out
      unfold PartsO at hp2
      rw [HL.out.1] at hp2
      have HQ2 := Lib.hid hp2
      have HAL := Lib.hid (show Below (D + 1) v2 (v2.alloc (.cells #[.string ps, .int .i64 (t : Int)] 76)) from (Below.refl _ v2).alloc HZ2.out _)
      have hzd := HZ2.out
      have hld := HI2.out.bd.lt
      clear hls hps ut hp2 HP2
      go_wp2_with (at_builtin; refine wpList_append_own _ rfl (.tmp 100) (.tmp 105) 70 rfl (D + 1) 76 i0 (.agg #[.string { data := #[] }, .int .i64 0]) 2 24 Tryz.underlying70 hi hz0 hz1 hz2 rfl (by decide) _ k (pcells logs) rfl (HQ2.out.alloc _) ⟨v2.heap.size, 0, none⟩ 1 1 [.string ps, .int .i64 (t : Int)] rfl rfl (by intro j u hj; match j, hj with | 0, hj => (simp at hj; subst hj; simp [Addr.add, go_sem]) | 1, hj => (simp at hj; subst hj; simp [Addr.add, go_sem]) | j + 2, hj => simp at hj) (by intro u hu; simp at hu; rcases hu with rfl | rfl <;> rfl) (by unfold maxLen; omega) (by omega) (by simp; omega) ?_)
      intro v6 w9 hown6 hgrow6 _
      have b6 : Below (D + 1) v2 w9 := HAL.out.grown hgrow6 (by simp; omega) (fun j hj => (HQ2.out.lt j hj).1)
      obtain ⟨a6, c6, hv6⟩ := own_form hown6
      subst hv6
      have hI6 := HI2.out.far b6
      have y5 := hI6.bd.cell 4
      have f5 := hI6.bd.frozen 4
      simp at y5
      have hIn := hI6.put 4 (.slice a6 (k + 1) c6)
      simp at hIn
      have HIN := Lib.hid hIn
      have HPN := Lib.hid (show PartsO (w9.setCell ⟨D, 4, none⟩ (.slice a6 (k + 1) c6)) (D + 1) (logs ++ [(pb, t)]) (.slice a6 (k + 1) c6) from (PartsO.snoc (x := (pb, t)) HL.out.1 (by rw [HPS.out]; exact hown6)).oth (by omega) (oth_set _ _ _ _))
      have HZN := Lib.hid (show D + 1 ≤ (w9.setCell ⟨D, 4, none⟩ (.slice a6 (k + 1) c6)).heap.size by simp; exact Nat.le_trans HZ2.out b6.size)
      clear hown6 hgrow6 hI6 hIn b6 y4 hcv
      go_wp2_with fail
      clear y5 f5
      generalize w9.setCell ⟨D, 4, none⟩ (.slice a6 (k + 1) c6) = WN at *
      go_roundw
      case rel => exact ⟨k + 1, logs ++ [(pb, t)], P2, a6, c6, by omega, by go_num, HN, HPN, HIN, HZN⟩
      case measure => simp [intOf]; omega
    · have d1 : ¬ (k : Int) < (cn : Int) := by omega
      have HYES := Lib.hid (show manP R0 = some (⟨g, nb, e, f, logs⟩, Rk) from man_yes HU1.out HU2.out HU3.out HU4.out (by rw [HL.out.2.1, show cn - k = 0 by omega]; simp [manyP, addP]))
      obtain ⟨m, hm⟩ : ∃ m, Rk.length = m := ⟨_, rfl⟩
      have HLF := Lib.hid (leftq_law HI.out.rd m hm)
      have HM := Lib.hid hm
      clear hm
      by_cases hm0 : 0 < m
      · have d2 : (0 : Int) < (m : Int) := by omega
        have HX := Lib.hid (rmanP_1 (L := L) (readP_2 (by rw [HR0.out]; exact HYES.out) (fun h => by have := HM.out; rw [h] at this; simp at this; omega)))
        go_upto_if 115 with (first | (go_at_call 90; refine HLF.out.mono ?_; rintro r v1 ⟨rfl, hb6⟩; have HI6 := Lib.hid (HI.out.below hb6); clear hb6))
        have HB8 := Lib.hid HI6.out.bel
        have BX := Lib.hid HI6.out.bx
        have zb := BX.out
        have zb0 := zb.cell 0
        have fb0 := zb.frozen 0
        have zb1 := zb.cell 1
        have fb1 := zb.frozen 1
        have zb2 := zb.cell 2
        have fb2 := zb.frozen 2
        have zb3 := zb.cell 3
        have fb3 := zb.frozen 3
        have zb4 := zb.cell 4
        have fb4 := zb.frozen 4
        simp only [List.getElem?_toArray, List.getElem?_cons_zero, List.getElem?_cons_succ] at zb0 zb1 zb2 zb3 zb4
        have X9 := Lib.hid (((((zb.put 0 (.int .i64 0)).put 1 (.string { data := #[] })).put 2 (.int .i64 0)).put 3 (.int .i64 0)).put 4 (.slice none 0 0))
        have HB9 := Lib.hid (((((HB8.out.setCell (p := ⟨w.heap.size, 0, none⟩) (Nat.le_refl _) (.int .i64 0)).setCell (p := ⟨w.heap.size, 1, none⟩) (Nat.le_refl _) (.string { data := #[] })).setCell (p := ⟨w.heap.size, 2, none⟩) (Nat.le_refl _) (.int .i64 0)).setCell (p := ⟨w.heap.size, 3, none⟩) (Nat.le_refl _) (.int .i64 0)).setCell (p := ⟨w.heap.size, 4, none⟩) (Nat.le_refl _) (.slice none 0 0))
        clear zb
        go_wp2_with fail
        clear zb0 fb0 zb1 fb1 zb2 fb2 zb3 fb3 zb4 fb4
        generalize (((((v1.setCell ⟨w.heap.size, 0, none⟩ (.int .i64 0)).setCell ⟨w.heap.size, 1, none⟩ (.string { data := #[] })).setCell ⟨w.heap.size, 2, none⟩ (.int .i64 0)).setCell ⟨w.heap.size, 3, none⟩ (.int .i64 0)).setCell ⟨w.heap.size, 4, none⟩ (.slice none 0 0)) = W9 at *
        have q0 := X9.out.cell 0
        have q1 := X9.out.cell 1
        have q2 := X9.out.cell 2
        have q3 := X9.out.cell 3
        have q4 := X9.out.cell 4
        simp at q0 q1 q2 q3 q4
        refine bodyPost_ret (v := .tuple #[.agg #[.int .i64 0, .string { data := #[] }, .int .i64 0, .int .i64 0, .slice none 0 0], .int .i64 4]) (by simp [results, Tryz.results37, go_sem, q0, q1, q2, q3, q4]) rfl ?_
        exact ⟨.inl ⟨HX.out, rfl⟩, HB9.out⟩
      have d2 : ¬ (0 : Int) < (m : Int) := by omega
      have HRE := Lib.hid (show readP (manP (onlyL L)) = some ⟨g, nb, e, f, logs⟩ from readP_3 (by rw [HR0.out, HYES.out, List.length_eq_zero_iff.1 (show Rk.length = 0 by rw [HM.out]; omega)]))
      obtain ⟨mb, hmb⟩ : ∃ b, mnB ⟨g, nb, e, f, logs⟩ = b := ⟨_, rfl⟩
      have HMB := Lib.hid hmb
      have HMA := Lib.hid (fun W (b : Below wr.heap.size wr W) => (show Calls Tryz.prog 43 #[.agg #[.int .i64 (g : Int), .string st, .int .i64 (e : Int), .int .i64 (f : Int), .slice va k vc]] W fun r w' => r = .returned (.bool mb) ∧ Below W.heap.size W w' by
        obtain ⟨hk2, h2, h3⟩ := (HP.out.below b).lies
        have hl := HL.out.1
        have := rman_law (g : Int) (e : Int) (f : Int) st va (logs.map lpN) k vc (by rw [← HNB.out.1, strOfNums_size]; unfold maxLen; have := HNB.out; omega) (fun x hx => by
          obtain ⟨y, hy, rfl⟩ := List.mem_map.1 hx
          show (strOfNums y.1).size ≤ maxLen
          rw [strOfNums_size]
          have := HL.out.2.2 y hy
          unfold maxLen; omega) (by rw [List.length_map, hl]) (by omega) W h3
        have e1 : manB (g : Int) (e : Int) (f : Int) st (logs.map lpN) = mb := by rw [← HMB.out, ← HNB.out.1]; rfl
        rw [e1] at this
        exact this))
      clear hmb
      go_upto_if 115 with (first | (go_at_call 90; refine HLF.out.mono ?_; rintro r v1 ⟨rfl, hb6⟩; have HI6 := Lib.hid (HI.out.below hb6); have HMC := Lib.hid (HMA.out _ hb6); have HB6 := Lib.hid hb6; clear hb6; have y0 := HI6.out.bd.cell 0; have y1 := HI6.out.bd.cell 1; have y2 := HI6.out.bd.cell 2; have y3 := HI6.out.bd.cell 3; have y4 := HI6.out.bd.cell 4; simp at y0 y1 y2 y3 y4) | (go_at_call 43; refine HMC.out.mono ?_; rintro r v2 ⟨rfl, hb7⟩; have HI7 := Lib.hid (HI6.out.below hb7); have HP7 := Lib.hid (HP.out.below (step_below HB6.out hb7)); clear hb7))
      clear y0 y1 y2 y3 y4
      cases mb with
      | false =>
        have HX := Lib.hid (rmanP_2 HRE.out HMB.out)
        have HB8 := Lib.hid HI7.out.bel
        have BX := Lib.hid HI7.out.bx
        have zb := BX.out
        have zb0 := zb.cell 0
        have fb0 := zb.frozen 0
        have zb1 := zb.cell 1
        have fb1 := zb.frozen 1
        have zb2 := zb.cell 2
        have fb2 := zb.frozen 2
        have zb3 := zb.cell 3
        have fb3 := zb.frozen 3
        have zb4 := zb.cell 4
        have fb4 := zb.frozen 4
        simp only [List.getElem?_toArray, List.getElem?_cons_zero, List.getElem?_cons_succ] at zb0 zb1 zb2 zb3 zb4
        have X9 := Lib.hid (((((zb.put 0 (.int .i64 0)).put 1 (.string { data := #[] })).put 2 (.int .i64 0)).put 3 (.int .i64 0)).put 4 (.slice none 0 0))
        have HB9 := Lib.hid (((((HB8.out.setCell (p := ⟨w.heap.size, 0, none⟩) (Nat.le_refl _) (.int .i64 0)).setCell (p := ⟨w.heap.size, 1, none⟩) (Nat.le_refl _) (.string { data := #[] })).setCell (p := ⟨w.heap.size, 2, none⟩) (Nat.le_refl _) (.int .i64 0)).setCell (p := ⟨w.heap.size, 3, none⟩) (Nat.le_refl _) (.int .i64 0)).setCell (p := ⟨w.heap.size, 4, none⟩) (Nat.le_refl _) (.slice none 0 0))
        clear zb
        go_wp2_with fail
        clear zb0 fb0 zb1 fb1 zb2 fb2 zb3 fb3 zb4 fb4
        generalize (((((v2.setCell ⟨w.heap.size, 0, none⟩ (.int .i64 0)).setCell ⟨w.heap.size, 1, none⟩ (.string { data := #[] })).setCell ⟨w.heap.size, 2, none⟩ (.int .i64 0)).setCell ⟨w.heap.size, 3, none⟩ (.int .i64 0)).setCell ⟨w.heap.size, 4, none⟩ (.slice none 0 0)) = W9 at *
        have q0 := X9.out.cell 0
        have q1 := X9.out.cell 1
        have q2 := X9.out.cell 2
        have q3 := X9.out.cell 3
        have q4 := X9.out.cell 4
        simp at q0 q1 q2 q3 q4
        refine bodyPost_ret (v := .tuple #[.agg #[.int .i64 0, .string { data := #[] }, .int .i64 0, .int .i64 0, .slice none 0 0], .int .i64 4]) (by simp [results, Tryz.results37, go_sem, q0, q1, q2, q3, q4]) rfl ?_
        exact ⟨.inl ⟨HX.out, rfl⟩, HB9.out⟩
      | true =>
        have HX := Lib.hid (rmanP_3 HRE.out HMB.out)
        have HB8 := Lib.hid HI7.out.bel
        have BX := Lib.hid HI7.out.bx
        have y0 := HI7.out.bd.cell 0
        have y1 := HI7.out.bd.cell 1
        have y2 := HI7.out.bd.cell 2
        have y3 := HI7.out.bd.cell 3
        have y4 := HI7.out.bd.cell 4
        simp at y0 y1 y2 y3 y4
        have HDL := Lib.hid (show w.heap.size < D + 1 by have := HI7.out.l1; have := HI7.out.l2; omega)
        have HPZ := Lib.hid (HP7.out.oth HDL.out (oth_trans (oth_set v2 w.heap.size 0 (.int .i64 (g : Int))) (oth_trans (oth_set _ _ 1 (.string st)) (oth_trans (oth_set _ _ 2 (.int .i64 (e : Int))) (oth_trans (oth_set _ _ 3 (.int .i64 (f : Int))) (oth_set _ _ 4 (.slice va k vc)))))))
        have zb := BX.out
        have zb0 := zb.cell 0
        have fb0 := zb.frozen 0
        have zb1 := zb.cell 1
        have fb1 := zb.frozen 1
        have zb2 := zb.cell 2
        have fb2 := zb.frozen 2
        have zb3 := zb.cell 3
        have fb3 := zb.frozen 3
        have zb4 := zb.cell 4
        have fb4 := zb.frozen 4
        simp only [List.getElem?_toArray, List.getElem?_cons_zero, List.getElem?_cons_succ] at zb0 zb1 zb2 zb3 zb4
        have X9 := Lib.hid (((((zb.put 0 (.int .i64 (g : Int))).put 1 (.string st)).put 2 (.int .i64 (e : Int))).put 3 (.int .i64 (f : Int))).put 4 (.slice va k vc))
        have HB9 := Lib.hid (((((HB8.out.setCell (p := ⟨w.heap.size, 0, none⟩) (Nat.le_refl _) (.int .i64 (g : Int))).setCell (p := ⟨w.heap.size, 1, none⟩) (Nat.le_refl _) (.string st)).setCell (p := ⟨w.heap.size, 2, none⟩) (Nat.le_refl _) (.int .i64 (e : Int))).setCell (p := ⟨w.heap.size, 3, none⟩) (Nat.le_refl _) (.int .i64 (f : Int))).setCell (p := ⟨w.heap.size, 4, none⟩) (Nat.le_refl _) (.slice va k vc))
        clear zb
        go_wp2_with fail
        clear zb0 fb0 zb1 fb1 zb2 fb2 zb3 fb3 zb4 fb4
        generalize (((((v2.setCell ⟨w.heap.size, 0, none⟩ (.int .i64 (g : Int))).setCell ⟨w.heap.size, 1, none⟩ (.string st)).setCell ⟨w.heap.size, 2, none⟩ (.int .i64 (e : Int))).setCell ⟨w.heap.size, 3, none⟩ (.int .i64 (f : Int))).setCell ⟨w.heap.size, 4, none⟩ (.slice va k vc)) = W9 at *
        have q0 := X9.out.cell 0
        have q1 := X9.out.cell 1
        have q2 := X9.out.cell 2
        have q3 := X9.out.cell 3
        have q4 := X9.out.cell 4
        simp at q0 q1 q2 q3 q4
        refine bodyPost_ret (v := .tuple #[.agg #[.int .i64 (g : Int), .string st, .int .i64 (e : Int), .int .i64 (f : Int), .slice va k vc], .int .i64 0]) (by simp [results, Tryz.results37, go_sem, q0, q1, q2, q3, q4]) rfl ?_
        exact ⟨.inr ⟨_, _, HX.out, rfl, va, vc, by rw [← HL.out.1, HNB.out.1], by simp only; rw [HL.out.1]; exact HPZ.out.base (Nat.le_of_lt HDL.out)⟩, HB9.out⟩
end Go.Proofs.YtglkndoghnblcaaGreat
namespace Go.Proofs.YtglkndoghnblcaaGreat
open Go.ChangeShapes Go.WideShapes Go.ChangeAt Go.RowKit
set_option linter.unusedVariables false
set_option linter.unusedSimpArgs false
/-- Bytes that are answered. -/
def LsB (w : World) (L : List Int) (e : Ending) (w' : World) : Prop := ∃ a c, e = .returned (.slice a L.length c) ∧ Ls .u8 w' a c L ∧ Below w.heap.size w w'
set_option maxRecDepth 100000 in
set_option maxHeartbeats 4000000 in
/-- The document's PutDurable (44). -/
theorem rputdur_own (e s : Nat) (he : e ≤ 2147483647) (hs : s ≤ 16777215) (w : World) :
    Calls Tryz.prog 44 #[.agg #[.int .i64 (e : Int), .int .i64 (s : Int)]] w (LsB w (frameL (tidW e s))) := by
  have t1 := numW_ten e (by omega)
  have t2 := numW_ten s (by omega)
  have HBY := Lib.hid (tidW_byt e s)
  unfold tidW at HBY ⊢
  go_enter Tryz.func44, Tryz.ntmps44
  go_upto_region 1 with (fail)
  obtain ⟨W1, hW0⟩ : ∃ W0, w.alloc (.cells #[.int .i64 (e : Int), .int .i64 (s : Int)] 74) = W0 := ⟨_, rfl⟩
  have hb0 : Below w.heap.size w W1 := by rw [← hW0]; exact bl1 _ _
  have bx : BoxC W1 w.heap.size #[.int .i64 (e : Int), .int .i64 (s : Int)] 74 := by rw [← hW0]; exact BoxC.new w _ 74
  rw [hW0]
  clear hW0
  have HB0 := Lib.hid hb0
  have HZ0 := Lib.hid hb0.size
  have FQ := Lib.hid (fun X (b : Below W1.heap.size W1 X) => (⟨(bx.below b).cell 0, (bx.below b).cell 1⟩ : X.cell? ⟨w.heap.size, 0, none⟩ = some (.int .i64 (e : Int)) ∧ X.cell? ⟨w.heap.size, 1, none⟩ = some (.int .i64 (s : Int))))
  clear hb0 bx
  rename_i KK hKK
  refine Code.wp_mono (Q := Exit.then KK (fun _ _ _ => False)) (fun e a' w' h => by cases e <;> first | exact h | exact h.elim) ?_
  refine wp_region_held_drew (S := (fun X => Below W1.heap.size W1 X)) (by kernel_rfl) ((Below.refl _ _).drew) (fun hHeld => ?_)
  refine tp 0 ?_ rfl (.inl ⟨by rfl, ?_⟩) ?_
  rotate_left
  · intro W hSw; go_simp; try with_reducible rfl
  refine tp 1 ?_ rfl (.inl ⟨by rfl, ?_⟩) ?_
  rotate_left
  · intro W hSw; obtain ⟨z0, z1⟩ := FQ.out W hSw; go_simp; try with_reducible rfl
  refine tp 3 ?_ rfl (.inl ⟨by rfl, ?_⟩) ?_
  rotate_left
  · intro W hSw; go_simp; try with_reducible rfl
  refine tp 4 ?_ rfl (.inl ⟨by rfl, ?_⟩) ?_
  rotate_left
  · intro W hSw; obtain ⟨z0, z1⟩ := FQ.out W hSw; go_simp; try with_reducible rfl
  refine wpAnyH_ready (rs := [2]) (by kernel_rfl) (by simp) ?_
  refine AllReadyH.cons (o := { dst := some 5, op := Op.call { callee := Callee.value (Operand.func 73), args := #[Operand.tmp 4], argTypes := #[2] }, type := 22, pos := "ref.go:350", after := #[{ on := 1, ground := Ground.data }], guard := none }) rfl (fun K hK => ?_) AllReadyH.nil
  go_simp
  refine (rnumber15_own e (by omega) _).mono ?_; rintro e9 w3 ⟨a3, c3, rfl, ho3, hl3, hb3⟩; have HA := Lib.hid (own_base (b := W1.heap.size) hHeld.size ho3)
  go_wp2_with fail
  refine hK.out _ _ (step_below hHeld hb3) (fun hHeldn => ?_)
  clear hK K hHeld; have hHeld := hHeldn; clear hHeldn
  clear ho3 hl3 hb3
  try simp only [Act.put, List.setIfInBounds_toArray, List.set_cons_zero, List.set_cons_succ]
  refine wpAnyH_ready (rs := [5]) (by kernel_rfl) (by simp) ?_
  refine AllReadyH.cons (o := { dst := some 8, op := Op.call { callee := Callee.value (Operand.func 73), args := #[Operand.tmp 7], argTypes := #[2] }, type := 22, pos := "ref.go:350", after := #[{ on := 4, ground := Ground.data }, { on := 2, ground := Ground.chain }], guard := none }) rfl (fun K hK => ?_) AllReadyH.nil
  go_simp
  refine (rnumber15_own s (by omega) _).mono ?_; rintro e9 w4 ⟨a4, c4, rfl, ho4, hl4, hb4⟩; have HC := Lib.hid hl4.ls; have HA2 := Lib.hid (own_below HA.out hb4)
  go_wp2_with fail
  refine hK.out _ _ (step_below hHeld hb4) (fun hHeldn => ?_)
  clear hK K hHeld; have hHeld := hHeldn; clear hHeldn
  clear ho4 hl4 hb4
  try simp only [Act.put, List.setIfInBounds_toArray, List.set_cons_zero, List.set_cons_succ]
  refine wpAnyH_ready (rs := [6]) (by kernel_rfl) (by simp) ?_
  refine AllReadyH.cons (o := { dst := some 9, op := Op.call { callee := Callee.builtin Builtin.append, args := #[Operand.tmp 5, Operand.tmp 8], argTypes := #[22, 22] }, type := 22, pos := "ref.go:350", after := #[{ on := 2, ground := Ground.data }, { on := 5, ground := Ground.data }, { on := 5, ground := Ground.chain }], guard := none }) rfl (fun K hK => ?_) AllReadyH.nil
  refine step_append_ls eltB rfl _ _ rfl W1.heap.size W1 hHeld _ ((numW e).length) (iv .u8 (numW e)) rfl HA2.out _ _ ((numW s).length) (numW s) rfl rfl HC.out (by omega) hHeld.size ?_
  intro v5 X5 ho5 hb5 hg5
  rw [← iv_append] at ho5
  have HP5 := Lib.hid ho5
  clear ho5 hg5
  refine hK.out _ _ hb5 (fun hHeldn => ?_)
  clear hK K hHeld; have hHeld := hHeldn; clear hHeldn hb5
  obtain ⟨a5, c5, hv5⟩ := own_form HP5.out
  subst hv5
  obtain ⟨_, _, e5, hl5, _⟩ := own_ls HP5.out (by rw [List.length_append])
  cases e5
  have HL5 := Lib.hid hl5
  clear hl5
  try simp only [Act.put, List.setIfInBounds_toArray, List.set_cons_zero, List.set_cons_succ]
  refine wpAnyH_ready (rs := [7]) (by kernel_rfl) (by simp) ?_
  refine AllReadyH.cons (o := { dst := some 10, op := Op.call { callee := Callee.value (Operand.func 16), args := #[Operand.tmp 9], argTypes := #[22] }, type := 22, pos := "ref.go:350", after := #[{ on := 6, ground := Ground.data }, { on := 6, ground := Ground.chain }], guard := none }) rfl (fun K hK => ?_) AllReadyH.nil
  go_simp
  refine (rframe_own a5 (numW e ++ numW s) ((numW e).length + (numW s).length) c5 (by rw [List.length_append]) (by omega) HBY.out _ HL5.out).mono ?_; rintro e9 w6 ⟨a6, c6, rfl, ho6, hl6, hb6⟩; have HL6 := Lib.hid hl6.ls
  go_wp2_with fail
  refine hK.out _ _ (step_below hHeld hb6) (fun hHeldn => ?_)
  clear hK K hHeld; have hHeld := hHeldn; clear hHeldn
  clear ho6 hl6 hb6
  try simp only [Act.put, List.setIfInBounds_toArray, List.set_cons_zero, List.set_cons_succ]
  refine tp 8 ?_ rfl (.inl ⟨by rfl, ?_⟩) ?_
  rotate_left
  · intro W hSw; go_simp; try with_reducible rfl
  refine wpAnyH_done (by kernel_rfl) ?_ _
  skip
  refine hKK _ _ ?_
  have HBA := Lib.hid (step_below HB0.out hHeld)
  clear hKK hHeld HA HA2 HC
  go_wp2_with fail
  go_ret
  exact ⟨a6, c6, rfl, HL6.out, HBA.out⟩
end Go.Proofs.YtglkndoghnblcaaGreat
namespace Go.Proofs.YtglkndoghnblcaaGreat
open Go.ChangeShapes Go.WideShapes Go.ChangeAt Go.RowKit
set_option linter.unusedVariables false
set_option linter.unusedSimpArgs false
/-- The document's Durable (42). -/
theorem rdurable_law (e s : Int) (w : World) : Calls Tryz.prog 42 #[.agg #[.int .i64 e, .int .i64 s]] w fun r w' => r = .returned (.bool (durB e s)) ∧ Below w.heap.size w w' := by
  unfold durB inB
  have hb : Below w.heap.size w (w.alloc (.cells #[.int .i64 e, .int .i64 s] 74)) := bl1 _ _
  have HBX := Lib.hid hb
  clear hb
  by_cases h1 : 1 ≤ e
  · by_cases h2 : e ≤ 2147483647
    · by_cases h3 : 0 ≤ s
      · by_cases h4 : s ≤ 16777215
        · rw [decide_eq_true ⟨h1, h2⟩, decide_eq_true ⟨h3, h4⟩]
          go_enter Tryz.func42, Tryz.ntmps42
          go_wp2
          go_ret
          exact ⟨rfl, HBX.out⟩
        · rw [decide_eq_true ⟨h1, h2⟩, decide_eq_false (fun h => h4 h.2)]
          go_enter Tryz.func42, Tryz.ntmps42
          go_wp2
          go_ret
          exact ⟨rfl, HBX.out⟩
      · rw [decide_eq_true ⟨h1, h2⟩, decide_eq_false (fun h => h3 h.1)]
        go_enter Tryz.func42, Tryz.ntmps42
        go_wp2
        go_ret
        exact ⟨rfl, HBX.out⟩
    · rw [decide_eq_false (fun h => h2 h.2), Bool.false_and]
      go_enter Tryz.func42, Tryz.ntmps42
      go_wp2
      go_ret
      exact ⟨rfl, HBX.out⟩
  · rw [decide_eq_false (fun h => h1 h.1), Bool.false_and]
    go_enter Tryz.func42, Tryz.ntmps42
    go_wp2
    go_ret
    exact ⟨rfl, HBX.out⟩
set_option maxRecDepth 100000 in
set_option maxHeartbeats 4000000 in
/-- The document's ReadDurable (40). -/
theorem rreaddur_law (a : Option Addr) (L : List Int) (n cap : Nat) (hn : L.length = n) (hn2 : n ≤ 1000000) (hB : Byt L) (w : World) (hL : Ls .u8 w a cap L) :
    Calls Tryz.prog 40 #[.slice a n cap] w fun r w' => r = .returned (durV (rdurP L)) ∧ Below w.heap.size w w' := by
  have HSG := Lib.hid (fun W (b : Below w.heap.size w W) => single_law a L n cap hn hn2 hB W (hL.below b))
  clear hn hB hL
  go_enter Tryz.func40, Tryz.ntmps40
  go_upto_region 1 with (fail)
  obtain ⟨W1, hW1⟩ : ∃ W1, w.alloc (.cells #[.int .i64 0, .int .i64 0] 74) = W1 := ⟨_, rfl⟩
  have hb1 : Below w.heap.size w W1 := by rw [← hW1]; exact bl1 _ _
  have x0 : BoxC W1 w.heap.size #[.int .i64 0, .int .i64 0] 74 := by rw [← hW1]; exact BoxC.new _ _ _
  try rw [hW1]
  clear hW1
  have HO1 := Lib.hid (HSG.out _ hb1)
  have HB1 := Lib.hid hb1
  have HX0 := Lib.hid x0
  clear hb1 x0 HSG
  go_wp2_with fail
  refine HO1.out.mono ?_
  rintro r w2 ⟨⟨ho, rfl⟩ | ⟨B, hB, rfl, hr⟩, b2⟩
  · have HX := Lib.hid (show rdurP L = none from rdurP_1 (by rw [ho]; rfl))
    have HB2 := Lib.hid (step_below HB1.out b2)
    have BX := Lib.hid (HX0.out.below b2)
    clear ho b2 HO1
    have zb := BX.out
    have zb0 := zb.cell 0
    have fb0 := zb.frozen 0
    have zb1 := zb.cell 1
    have fb1 := zb.frozen 1
    simp only [List.getElem?_toArray, List.getElem?_cons_zero, List.getElem?_cons_succ] at zb0 zb1
    have X9 := Lib.hid ((zb.put 0 (.int .i64 0)).put 1 (.int .i64 0))
    have HB9 := Lib.hid ((HB2.out.setCell (p := ⟨w.heap.size, 0, none⟩) (Nat.le_refl _) (.int .i64 0)).setCell (p := ⟨w.heap.size, 1, none⟩) (Nat.le_refl _) (.int .i64 0))
    clear zb
    go_wp2_with fail
    clear zb0 fb0 zb1 fb1
    generalize ((w2.setCell ⟨w.heap.size, 0, none⟩ (.int .i64 0)).setCell ⟨w.heap.size, 1, none⟩ (.int .i64 0)) = W9 at *
    have q0 := X9.out.cell 0
    have q1 := X9.out.cell 1
    simp at q0 q1
    refine bodyPost_ret (v := .tuple #[.agg #[.int .i64 0, .int .i64 0], .int .i64 4]) (by simp [results, Tryz.results40, go_sem, q0, q1]) rfl ?_
    exact ⟨by rw [HX.out]; rfl, HB9.out⟩
  have hI := BxI.new HB1.out HX0.out b2 hB hr
  have HI := Lib.hid hI
  clear b2 hB hr HO1 HX0 hI
  obtain ⟨R0, hR0⟩ : ∃ R, onlyL L = R := ⟨_, rfl⟩
  have HR0 := Lib.hid hR0
  rw [hR0] at HI
  clear hR0
  go_upto_region 5 with (fail)
  generalize w2.alloc (.cells #[.int .i64 0, .int .i64 0] 74) = W3 at *
  generalize w2.heap.size = D at *
  go_wp2_with fail
  refine (smallb_law HI.out.rd 2147483647 (by decide)).mono ?_
  rintro r w4 ⟨z1, k1, R1, rfl, hr1, g1, y1, n1⟩
  have hI := HI.out.step g1 hr1
  have HY1 := Lib.hid (And.intro y1 n1)
  have x0 := hI.bd.cell 0
  have f0 := hI.bd.frozen 0
  simp at x0
  have HI4 := Lib.hid (hI.put 0 (.int .i64 z1))
  clear hr1 g1 y1 n1 hI HI
  go_upto_region 7 with (fail)
  clear x0 f0
  generalize w4.setCell ⟨D, 0, none⟩ (.int .i64 z1) = W4 at *
  go_wp2_with fail
  refine (smallb_law HI4.out.rd 16777215 (by decide)).mono ?_
  rintro r w5 ⟨z2, k2, R2, rfl, hr1, g1, y1, n1⟩
  have hI := HI4.out.step g1 hr1
  have HY2 := Lib.hid (And.intro y1 n1)
  have x0 := hI.bd.cell 1
  have f0 := hI.bd.frozen 1
  simp at x0
  have HI5 := Lib.hid (hI.put 1 (.int .i64 z2))
  clear hr1 g1 y1 n1 hI HI4
  go_upto_region 8 with (fail)
  clear x0 f0
  generalize w5.setCell ⟨D, 1, none⟩ (.int .i64 z2) = W5 at *
  have HB5 := Lib.hid HI5.out.bel
  have BX := Lib.hid HI5.out.bx
  cases k1 with
  | false =>
    have HX := Lib.hid (show rdurP L = none from rdurP_1 (by rw [HR0.out]; unfold durP; rw [HY1.out.2 rfl]; rfl))
    have zb := BX.out
    have zb0 := zb.cell 0
    have fb0 := zb.frozen 0
    have zb1 := zb.cell 1
    have fb1 := zb.frozen 1
    simp only [List.getElem?_toArray, List.getElem?_cons_zero, List.getElem?_cons_succ] at zb0 zb1
    have X9 := Lib.hid ((zb.put 0 (.int .i64 0)).put 1 (.int .i64 0))
    have HB9 := Lib.hid ((HB5.out.setCell (p := ⟨w.heap.size, 0, none⟩) (Nat.le_refl _) (.int .i64 0)).setCell (p := ⟨w.heap.size, 1, none⟩) (Nat.le_refl _) (.int .i64 0))
    clear zb
    go_wp2_with fail
    clear zb0 fb0 zb1 fb1
    generalize ((W5.setCell ⟨w.heap.size, 0, none⟩ (.int .i64 0)).setCell ⟨w.heap.size, 1, none⟩ (.int .i64 0)) = W9 at *
    have q0 := X9.out.cell 0
    have q1 := X9.out.cell 1
    simp at q0 q1
    refine bodyPost_ret (v := .tuple #[.agg #[.int .i64 0, .int .i64 0], .int .i64 4]) (by simp [results, Tryz.results40, go_sem, q0, q1]) rfl ?_
    exact ⟨by rw [HX.out]; rfl, HB9.out⟩
  | true =>
  obtain ⟨x1, u1, hz1, _⟩ := HY1.out.1 rfl
  cases k2 with
  | false =>
    have HX := Lib.hid (show rdurP L = none from rdurP_1 (by rw [HR0.out]; unfold durP; rw [u1]; simp only; rw [HY2.out.2 rfl]; rfl))
    clear u1
    have zb := BX.out
    have zb0 := zb.cell 0
    have fb0 := zb.frozen 0
    have zb1 := zb.cell 1
    have fb1 := zb.frozen 1
    simp only [List.getElem?_toArray, List.getElem?_cons_zero, List.getElem?_cons_succ] at zb0 zb1
    have X9 := Lib.hid ((zb.put 0 (.int .i64 0)).put 1 (.int .i64 0))
    have HB9 := Lib.hid ((HB5.out.setCell (p := ⟨w.heap.size, 0, none⟩) (Nat.le_refl _) (.int .i64 0)).setCell (p := ⟨w.heap.size, 1, none⟩) (Nat.le_refl _) (.int .i64 0))
    clear zb
    go_wp2_with fail
    clear zb0 fb0 zb1 fb1
    generalize ((W5.setCell ⟨w.heap.size, 0, none⟩ (.int .i64 0)).setCell ⟨w.heap.size, 1, none⟩ (.int .i64 0)) = W9 at *
    have q0 := X9.out.cell 0
    have q1 := X9.out.cell 1
    simp at q0 q1
    refine bodyPost_ret (v := .tuple #[.agg #[.int .i64 0, .int .i64 0], .int .i64 4]) (by simp [results, Tryz.results40, go_sem, q0, q1]) rfl ?_
    exact ⟨by rw [HX.out]; rfl, HB9.out⟩
  | true =>
  obtain ⟨x2, u2, hz2, _⟩ := HY2.out.1 rfl
  have HD := Lib.hid (show durP (onlyL L) = some ((x1, x2), R2) by rw [HR0.out]; unfold durP; rw [u1]; simp only; rw [u2])
  clear u1 u2 BX HB5
  subst hz1 hz2
  obtain ⟨m, hm⟩ : ∃ m, R2.length = m := ⟨_, rfl⟩
  have HLF := Lib.hid (leftq_law HI5.out.rd m hm)
  by_cases hm0 : 0 < m
  · have d1 : (0 : Int) < (m : Int) := by omega
    have HX := Lib.hid (show rdurP L = none from rdurP_1 (readP_2 HD.out (fun h => by rw [h] at hm; simp at hm; omega)))
    clear hm
    go_upto_if 44 with (first | (go_at_call 90; refine HLF.out.mono ?_; rintro r w6 ⟨rfl, hb6⟩; have HI6 := Lib.hid (HI5.out.below hb6); clear hb6))
    have HB6 := Lib.hid HI6.out.bel
    have BX := Lib.hid HI6.out.bx
    have zb := BX.out
    have zb0 := zb.cell 0
    have fb0 := zb.frozen 0
    have zb1 := zb.cell 1
    have fb1 := zb.frozen 1
    simp only [List.getElem?_toArray, List.getElem?_cons_zero, List.getElem?_cons_succ] at zb0 zb1
    have X9 := Lib.hid ((zb.put 0 (.int .i64 0)).put 1 (.int .i64 0))
    have HB9 := Lib.hid ((HB6.out.setCell (p := ⟨w.heap.size, 0, none⟩) (Nat.le_refl _) (.int .i64 0)).setCell (p := ⟨w.heap.size, 1, none⟩) (Nat.le_refl _) (.int .i64 0))
    clear zb
    go_wp2_with fail
    clear zb0 fb0 zb1 fb1
    generalize ((w6.setCell ⟨w.heap.size, 0, none⟩ (.int .i64 0)).setCell ⟨w.heap.size, 1, none⟩ (.int .i64 0)) = W9 at *
    have q0 := X9.out.cell 0
    have q1 := X9.out.cell 1
    simp at q0 q1
    refine bodyPost_ret (v := .tuple #[.agg #[.int .i64 0, .int .i64 0], .int .i64 4]) (by simp [results, Tryz.results40, go_sem, q0, q1]) rfl ?_
    exact ⟨by rw [HX.out]; rfl, HB9.out⟩
  have d1 : ¬ (0 : Int) < (m : Int) := by omega
  have HRE := Lib.hid (show readP (durP (onlyL L)) = some (x1, x2) from readP_3 (by rw [HD.out, List.length_eq_zero_iff.1 (show R2.length = 0 by omega)]))
  obtain ⟨db, hdb⟩ : ∃ b, durB (x1 : Int) (x2 : Int) = b := ⟨_, rfl⟩
  have HDU := Lib.hid (fun W => rdurable_law (x1 : Int) (x2 : Int) W)
  rw [hdb] at HDU
  have HDB := Lib.hid hdb
  clear hm hdb
  go_upto_if 44 with (first | (go_at_call 90; refine HLF.out.mono ?_; rintro r w6 ⟨rfl, hb6⟩; have HI6 := Lib.hid (HI5.out.below hb6); clear hb6; have y0 := HI6.out.bd.cell 0; have y1 := HI6.out.bd.cell 1; simp at y0 y1) | (go_at_call 42; refine (HDU.out _).mono ?_; rintro r w7 ⟨rfl, hb7⟩; have HI7 := Lib.hid (HI6.out.below hb7); clear hb7))
  clear y0 y1
  have HB7 := Lib.hid HI7.out.bel
  have BX := Lib.hid HI7.out.bx
  cases db with
  | false =>
    have HX := Lib.hid (rdurP_2 HRE.out HDB.out)
    have zb := BX.out
    have zb0 := zb.cell 0
    have fb0 := zb.frozen 0
    have zb1 := zb.cell 1
    have fb1 := zb.frozen 1
    simp only [List.getElem?_toArray, List.getElem?_cons_zero, List.getElem?_cons_succ] at zb0 zb1
    have X9 := Lib.hid ((zb.put 0 (.int .i64 0)).put 1 (.int .i64 0))
    have HB9 := Lib.hid ((HB7.out.setCell (p := ⟨w.heap.size, 0, none⟩) (Nat.le_refl _) (.int .i64 0)).setCell (p := ⟨w.heap.size, 1, none⟩) (Nat.le_refl _) (.int .i64 0))
    clear zb
    go_wp2_with fail
    clear zb0 fb0 zb1 fb1
    generalize ((w7.setCell ⟨w.heap.size, 0, none⟩ (.int .i64 0)).setCell ⟨w.heap.size, 1, none⟩ (.int .i64 0)) = W9 at *
    have q0 := X9.out.cell 0
    have q1 := X9.out.cell 1
    simp at q0 q1
    refine bodyPost_ret (v := .tuple #[.agg #[.int .i64 0, .int .i64 0], .int .i64 4]) (by simp [results, Tryz.results40, go_sem, q0, q1]) rfl ?_
    exact ⟨by rw [HX.out]; rfl, HB9.out⟩
  | true =>
    have HX := Lib.hid (rdurP_3 HRE.out HDB.out)
    have y0 := HI7.out.bd.cell 0
    have y1 := HI7.out.bd.cell 1
    simp at y0 y1
    have zb := BX.out
    have zb0 := zb.cell 0
    have fb0 := zb.frozen 0
    have zb1 := zb.cell 1
    have fb1 := zb.frozen 1
    simp only [List.getElem?_toArray, List.getElem?_cons_zero, List.getElem?_cons_succ] at zb0 zb1
    have X9 := Lib.hid ((zb.put 0 (.int .i64 (x1 : Int))).put 1 (.int .i64 (x2 : Int)))
    have HB9 := Lib.hid ((HB7.out.setCell (p := ⟨w.heap.size, 0, none⟩) (Nat.le_refl _) (.int .i64 (x1 : Int))).setCell (p := ⟨w.heap.size, 1, none⟩) (Nat.le_refl _) (.int .i64 (x2 : Int)))
    clear zb
    go_wp2_with fail
    clear zb0 fb0 zb1 fb1
    generalize ((w7.setCell ⟨w.heap.size, 0, none⟩ (.int .i64 (x1 : Int))).setCell ⟨w.heap.size, 1, none⟩ (.int .i64 (x2 : Int))) = W9 at *
    have q0 := X9.out.cell 0
    have q1 := X9.out.cell 1
    simp at q0 q1
    refine bodyPost_ret (v := .tuple #[.agg #[.int .i64 (x1 : Int), .int .i64 (x2 : Int)], .int .i64 0]) (by simp [results, Tryz.results40, go_sem, q0, q1]) rfl ?_
    exact ⟨by rw [HX.out]; rfl, HB9.out⟩
end Go.Proofs.YtglkndoghnblcaaGreat
namespace Go.Proofs.YtglkndoghnblcaaGreat
open Go.ChangeShapes Go.WideShapes Go.ChangeAt Go.RowKit
set_option linter.unusedVariables false
set_option linter.unusedSimpArgs false
set_option maxRecDepth 100000 in
set_option maxHeartbeats 4000000 in
/-- The document's PutManifest (45). -/
theorem rputman_law (g e f : Nat) (nm : ByteArray) (a : Option Addr) (xs : List LpV) (n cap : Nat) (hok : MnOk (g : Int) (e : Int) (f : Int) nm xs) (hn : xs.length = n) (w : World) (hR : LpsR w a xs) :
    Calls Tryz.prog 45 #[.agg #[.int .i64 (g : Int), .string nm, .int .i64 (e : Int), .int .i64 (f : Int), .slice a n cap]] w (LsB w (frameL (mnW g e f nm xs))) := by
  have HOK := Lib.hid hok
  have hg := hok.g2
  have he := hok.e2
  have hf := hok.f2
  have hn32 : n ≤ 32 := by rw [← hn]; exact hok.l
  have t1 := numW_ten g (by omega)
  have t2 := numW_ten e (by omega)
  have t3 := numW_ten f (by omega)
  have t4 := bytesW_len (byts nm) (by rw [byts_len]; have := hok.n; omega)
  have t5 : (byts nm).length ≤ 24 := by rw [byts_len]; exact hok.n
  have t6 := numW_ten n (by omega)
  have HR := Lib.hid hR
  have HN := Lib.hid hn
  clear hok hR hn
  go_enter Tryz.func45, Tryz.ntmps45
  go_upto_region 1 with (fail)
  obtain ⟨W1, hW0⟩ : ∃ W0, w.alloc (.cells #[.int .i64 (g : Int), .string nm, .int .i64 (e : Int), .int .i64 (f : Int), .slice a n cap] 72) = W0 := ⟨_, rfl⟩
  have hb0 : Below w.heap.size w W1 := by rw [← hW0]; exact bl1 _ _
  have bx : BoxC W1 w.heap.size #[.int .i64 (g : Int), .string nm, .int .i64 (e : Int), .int .i64 (f : Int), .slice a n cap] 72 := by rw [← hW0]; exact BoxC.new w _ 72
  try rw [hW0]
  clear hW0
  have HB0 := Lib.hid hb0
  have FQ := Lib.hid (fun X (b : Below W1.heap.size W1 X) => (⟨(bx.below b).cell 0, (bx.below b).cell 1, (bx.below b).cell 2, (bx.below b).cell 3, (bx.below b).cell 4⟩ : X.cell? ⟨w.heap.size, 0, none⟩ = some (.int .i64 (g : Int)) ∧ X.cell? ⟨w.heap.size, 1, none⟩ = some (.string nm) ∧ X.cell? ⟨w.heap.size, 2, none⟩ = some (.int .i64 (e : Int)) ∧ X.cell? ⟨w.heap.size, 3, none⟩ = some (.int .i64 (f : Int)) ∧ X.cell? ⟨w.heap.size, 4, none⟩ = some (.slice a n cap)))
  clear hb0 bx
  go_cut [3] (fun v wx => ∃ (l : Nat) (pa : Option Addr) (pc : Nat), v = .slice pa l pc ∧ Hid ((numW g ++ bytesW (byts nm)).length = l) ∧ Hid (wx.ownsRow W1.heap.size 5 1 (.slice pa l pc) l (iv .u8 (numW g ++ bytesW (byts nm)))) ∧ Hid (Below W1.heap.size W1 wx))
  case first =>
    rename_i JJ KK hJJ hKK
    refine Code.wp_mono (Q := Exit.then KK (fun _ _ _ => False)) (fun e a' w' h => by cases e <;> first | exact h | exact h.elim) ?_
    refine wp_region_held_drew (S := (fun X => Below W1.heap.size W1 X)) (by kernel_rfl) ((Below.refl _ _).drew) (fun hHeld => ?_)
    refine tp 0 ?_ rfl (.inl ⟨by rfl, ?_⟩) ?_
    rotate_left
    · intro W hSw; go_simp; try with_reducible rfl
    refine tp 1 ?_ rfl (.inl ⟨by rfl, ?_⟩) ?_
    rotate_left
    · intro W hSw; obtain ⟨z0, z1, z2, z3, z4⟩ := FQ.out W hSw; go_simp; try with_reducible rfl
    refine tp 3 ?_ rfl (.inl ⟨by rfl, ?_⟩) ?_
    rotate_left
    · intro W hSw; go_simp; try with_reducible rfl
    refine tp 4 ?_ rfl (.inl ⟨by rfl, ?_⟩) ?_
    rotate_left
    · intro W hSw; obtain ⟨z0, z1, z2, z3, z4⟩ := FQ.out W hSw; go_simp; try with_reducible rfl
    refine wpAnyH_ready (rs := [2, 5]) (by kernel_rfl) (by simp) ?_
    refine AllReadyH.cons (o := { dst := some 7, op := Op.call { callee := Callee.value (Operand.func 73), args := #[Operand.tmp 6], argTypes := #[2] }, type := 22, pos := "ref.go:294", after := #[{ on := 1, ground := Ground.data }], guard := none }) rfl (fun K hK => ?_) ?_
    · skip
      go_simp
      refine (rnumber15_own g (by omega) _).mono ?_; rintro e9 w3 ⟨a3, c3, rfl, ho3, hl3, hb3⟩; have HA := Lib.hid (own_base (b := W1.heap.size) hHeld.size ho3)
      go_wp2_with fail
      refine hK.out _ _ (step_below hHeld hb3) (fun hHeldn => ?_)
      clear hK K hHeld; have hHeld := hHeldn; clear hHeldn
      clear ho3 hl3 hb3
      try simp only [Act.put, List.setIfInBounds_toArray, List.set_cons_zero, List.set_cons_succ]
      refine wpAnyH_ready (rs := [5]) (by kernel_rfl) (by simp) ?_
      refine AllReadyH.cons (o := { dst := some 10, op := Op.convert 9 22 (Operand.tmp 9), type := 22, pos := "ref.go:294", after := #[{ on := 4, ground := Ground.data }], guard := none }) rfl (fun K hK => ?_) AllReadyH.nil
      go_simp
      rw [conv_str]
      refine hK.out _ _ (hHeld.trans ((bytes_below _ _).mono hHeld.size)) (fun hHeldn => ?_)
      clear hK K; have HSX := Lib.hid (str_ls_of hHeldn)
      have HAX := Lib.hid (own_below HA.out (bytes_below _ nm))
      have hHeld := hHeldn; clear hHeldn
      try simp only [Act.put, List.setIfInBounds_toArray, List.set_cons_zero, List.set_cons_succ]
      refine wpAnyH_ready (rs := [6]) (by kernel_rfl) (by simp) ?_
      refine AllReadyH.cons (o := { dst := some 11, op := Op.call { callee := Callee.value (Operand.func 74), args := #[Operand.tmp 10], argTypes := #[22] }, type := 22, pos := "ref.go:294", after := #[{ on := 5, ground := Ground.data }, { on := 2, ground := Ground.chain }], guard := none }) rfl (fun K hK => ?_) AllReadyH.nil
      go_simp
      refine (rbytes_own _ (byts nm) nm.size _ (byts_len nm) (by have := HOK.out.n; omega) _ HSX.out).mono ?_; rintro e9 w4 ⟨a4, c4, rfl, ho4, hl4, hb4⟩; have HC := Lib.hid hl4.ls; have HA2 := Lib.hid (own_below HAX.out hb4)
      go_wp2_with fail
      refine hK.out _ _ (step_below hHeld hb4) (fun hHeldn => ?_)
      clear hK K hHeld; have hHeld := hHeldn; clear hHeldn
      clear ho4 hl4 hb4
      try simp only [Act.put, List.setIfInBounds_toArray, List.set_cons_zero, List.set_cons_succ]
      refine wpAnyH_ready (rs := [7]) (by kernel_rfl) (by simp) ?_
      refine AllReadyH.cons (o := { dst := some 12, op := Op.call { callee := Callee.builtin Builtin.append, args := #[Operand.tmp 7, Operand.tmp 11], argTypes := #[22, 22] }, type := 22, pos := "ref.go:294", after := #[{ on := 2, ground := Ground.data }, { on := 6, ground := Ground.data }, { on := 6, ground := Ground.chain }], guard := none }) rfl (fun K hK => ?_) AllReadyH.nil
      refine step_append_ls eltB rfl _ _ rfl W1.heap.size W1 hHeld _ ((numW g).length) (iv .u8 (numW g)) rfl HA2.out _ _ ((bytesW (byts nm)).length) (bytesW (byts nm)) rfl rfl HC.out (by omega) hHeld.size ?_
      intro v5 X5 ho5 hb5 hg5
      rw [← iv_append] at ho5
      have HP5 := Lib.hid ho5
      clear ho5 hg5
      refine hK.out _ _ hb5 (fun hHeldn => ?_)
      clear hK K hHeld; have hHeld := hHeldn; clear hHeldn hb5
      try simp only [Act.put, List.setIfInBounds_toArray, List.set_cons_zero, List.set_cons_succ]
      refine tp 8 ?_ rfl (.inl ⟨by rfl, ?_⟩) ?_
      rotate_left
      · intro W hSw; go_simp; try with_reducible rfl
      refine wpAnyH_done (by kernel_rfl) ?_ _
      refine hKK _ _ ?_
      obtain ⟨a5, c5, hv5⟩ := own_form HP5.out
      subst hv5
      go_meet
      exact ⟨_, a5, c5, rfl, Lib.hid (by rw [List.length_append]), HP5, Lib.hid hHeld⟩
    refine AllReadyH.cons (o := { dst := some 10, op := Op.convert 9 22 (Operand.tmp 9), type := 22, pos := "ref.go:294", after := #[{ on := 4, ground := Ground.data }], guard := none }) rfl (fun K hK => ?_) AllReadyH.nil
    go_simp
    rw [conv_str]
    refine hK.out _ _ (hHeld.trans ((bytes_below _ _).mono hHeld.size)) (fun hHeldn => ?_)
    clear hK K; have HSX := Lib.hid (str_ls_of hHeldn)
    have hHeld := hHeldn; clear hHeldn
    try simp only [Act.put, List.setIfInBounds_toArray, List.set_cons_zero, List.set_cons_succ]
    refine wpAnyH_ready (rs := [2]) (by kernel_rfl) (by simp) ?_
    refine AllReadyH.cons (o := { dst := some 7, op := Op.call { callee := Callee.value (Operand.func 73), args := #[Operand.tmp 6], argTypes := #[2] }, type := 22, pos := "ref.go:294", after := #[{ on := 1, ground := Ground.data }], guard := none }) rfl (fun K hK => ?_) AllReadyH.nil
    go_simp
    refine (rnumber15_own g (by omega) _).mono ?_; rintro e9 w3 ⟨a3, c3, rfl, ho3, hl3, hb3⟩; have HA := Lib.hid (own_base (b := W1.heap.size) hHeld.size ho3); have HSY := Lib.hid (HSX.out.below hb3)
    go_wp2_with fail
    refine hK.out _ _ (step_below hHeld hb3) (fun hHeldn => ?_)
    clear hK K hHeld; have hHeld := hHeldn; clear hHeldn
    clear ho3 hl3 hb3
    try simp only [Act.put, List.setIfInBounds_toArray, List.set_cons_zero, List.set_cons_succ]
    refine wpAnyH_ready (rs := [6]) (by kernel_rfl) (by simp) ?_
    refine AllReadyH.cons (o := { dst := some 11, op := Op.call { callee := Callee.value (Operand.func 74), args := #[Operand.tmp 10], argTypes := #[22] }, type := 22, pos := "ref.go:294", after := #[{ on := 5, ground := Ground.data }, { on := 2, ground := Ground.chain }], guard := none }) rfl (fun K hK => ?_) AllReadyH.nil
    go_simp
    refine (rbytes_own _ (byts nm) nm.size _ (byts_len nm) (by have := HOK.out.n; omega) _ HSY.out).mono ?_; rintro e9 w4 ⟨a4, c4, rfl, ho4, hl4, hb4⟩; have HC := Lib.hid hl4.ls; have HA2 := Lib.hid (own_below HA.out hb4)
    go_wp2_with fail
    refine hK.out _ _ (step_below hHeld hb4) (fun hHeldn => ?_)
    clear hK K hHeld; have hHeld := hHeldn; clear hHeldn
    clear ho4 hl4 hb4
    try simp only [Act.put, List.setIfInBounds_toArray, List.set_cons_zero, List.set_cons_succ]
    refine wpAnyH_ready (rs := [7]) (by kernel_rfl) (by simp) ?_
    refine AllReadyH.cons (o := { dst := some 12, op := Op.call { callee := Callee.builtin Builtin.append, args := #[Operand.tmp 7, Operand.tmp 11], argTypes := #[22, 22] }, type := 22, pos := "ref.go:294", after := #[{ on := 2, ground := Ground.data }, { on := 6, ground := Ground.data }, { on := 6, ground := Ground.chain }], guard := none }) rfl (fun K hK => ?_) AllReadyH.nil
    refine step_append_ls eltB rfl _ _ rfl W1.heap.size W1 hHeld _ ((numW g).length) (iv .u8 (numW g)) rfl HA2.out _ _ ((bytesW (byts nm)).length) (bytesW (byts nm)) rfl rfl HC.out (by omega) hHeld.size ?_
    intro v5 X5 ho5 hb5 hg5
    rw [← iv_append] at ho5
    have HP5 := Lib.hid ho5
    clear ho5 hg5
    refine hK.out _ _ hb5 (fun hHeldn => ?_)
    clear hK K hHeld; have hHeld := hHeldn; clear hHeldn hb5
    try simp only [Act.put, List.setIfInBounds_toArray, List.set_cons_zero, List.set_cons_succ]
    refine tp 8 ?_ rfl (.inl ⟨by rfl, ?_⟩) ?_
    rotate_left
    · intro W hSw; go_simp; try with_reducible rfl
    refine wpAnyH_done (by kernel_rfl) ?_ _
    refine hKK _ _ ?_
    obtain ⟨a5, c5, hv5⟩ := own_form HP5.out
    subst hv5
    go_meet
    exact ⟨_, a5, c5, rfl, Lib.hid (by rw [List.length_append]), HP5, Lib.hid hHeld⟩
  case rest =>
  obtain ⟨l1, pa, pc, rfl, HL1, HP1, HBW⟩ := hcut
  obtain ⟨P1, hP1⟩ : ∃ P, numW g ++ bytesW (byts nm) = P := ⟨_, rfl⟩
  have HE1 := Lib.hid hP1
  rw [hP1] at HL1 HP1
  have hl1 : l1 ≤ 44 := by rw [← HL1.out, ← hP1, List.length_append]; omega
  clear hP1
  go_upto_region 2 with (fail)
  go_cut [3] (fun v wx => ∃ (l : Nat) (pa : Option Addr) (pc : Nat), v = .slice pa l pc ∧ Hid (((P1 ++ numW e) ++ numW f).length = l) ∧ Hid (wx.ownsRow W1.heap.size 5 1 (.slice pa l pc) l (iv .u8 ((P1 ++ numW e) ++ numW f))) ∧ Hid (Below W1.heap.size W1 wx))
  case first =>
    rename_i JJ KK hJJ hKK
    refine Code.wp_mono (Q := Exit.then KK (fun _ _ _ => False)) (fun e a' w' h => by cases e <;> first | exact h | exact h.elim) ?_
    refine wp_region_held_drew (S := (fun X => Below W1.heap.size W1 X)) (by kernel_rfl) (HBW.out.drew) (fun hHeld => ?_)
    refine tp 0 ?_ rfl (.inl ⟨by rfl, ?_⟩) ?_
    rotate_left
    · intro W hSw; go_simp; try with_reducible rfl
    refine tp 1 ?_ rfl (.inl ⟨by rfl, ?_⟩) ?_
    rotate_left
    · intro W hSw; go_simp; try with_reducible rfl
    refine tp 2 ?_ rfl (.inl ⟨by rfl, ?_⟩) ?_
    rotate_left
    · intro W hSw; obtain ⟨z0, z1, z2, z3, z4⟩ := FQ.out W hSw; go_simp; try with_reducible rfl
    refine tp 5 ?_ rfl (.inl ⟨by rfl, ?_⟩) ?_
    rotate_left
    · intro W hSw; go_simp; try with_reducible rfl
    refine tp 6 ?_ rfl (.inl ⟨by rfl, ?_⟩) ?_
    rotate_left
    · intro W hSw; obtain ⟨z0, z1, z2, z3, z4⟩ := FQ.out W hSw; go_simp; try with_reducible rfl
    refine wpAnyH_ready (rs := [3]) (by kernel_rfl) (by simp) ?_
    refine AllReadyH.cons (o := { dst := some 16, op := Op.call { callee := Callee.value (Operand.func 73), args := #[Operand.tmp 15], argTypes := #[2] }, type := 22, pos := "ref.go:295", after := #[{ on := 2, ground := Ground.data }], guard := none }) rfl (fun K hK => ?_) AllReadyH.nil
    go_simp
    refine (rnumber15_own e (by omega) _).mono ?_; rintro e9 w3 ⟨a3, c3, rfl, ho3, hl3, hb3⟩; have HA := Lib.hid hl3.ls; have HPB := Lib.hid (own_below HP1.out.drew hb3)
    go_wp2_with fail
    refine hK.out _ _ (step_below hHeld hb3) (fun hHeldn => ?_)
    clear hK K hHeld; have hHeld := hHeldn; clear hHeldn
    clear ho3 hl3 hb3
    try simp only [Act.put, List.setIfInBounds_toArray, List.set_cons_zero, List.set_cons_succ]
    refine wpAnyH_ready (rs := [4]) (by kernel_rfl) (by simp) ?_
    refine AllReadyH.cons (o := { dst := some 17, op := Op.call { callee := Callee.builtin Builtin.append, args := #[Operand.tmp 13, Operand.tmp 16], argTypes := #[22, 22] }, type := 22, pos := "ref.go:295", after := #[{ on := 0, ground := Ground.data }, { on := 3, ground := Ground.data }, { on := 3, ground := Ground.chain }], guard := none }) rfl (fun K hK => ?_) AllReadyH.nil
    refine step_append_ls eltB rfl _ _ rfl W1.heap.size W1 hHeld _ (l1) (iv .u8 P1) rfl HPB.out _ _ ((numW e).length) (numW e) rfl rfl HA.out (by omega) hHeld.size ?_
    intro v7 X7 ho7 hb7 hg7
    rw [← iv_append] at ho7
    have HP7 := Lib.hid ho7
    clear ho7 hg7
    refine hK.out _ _ hb7 (fun hHeldn => ?_)
    clear hK K hHeld; have hHeld := hHeldn; clear hHeldn hb7
    try simp only [Act.put, List.setIfInBounds_toArray, List.set_cons_zero, List.set_cons_succ]
    refine wpAnyH_ready (rs := [7]) (by kernel_rfl) (by simp) ?_
    refine AllReadyH.cons (o := { dst := some 20, op := Op.call { callee := Callee.value (Operand.func 73), args := #[Operand.tmp 19], argTypes := #[2] }, type := 22, pos := "ref.go:295", after := #[{ on := 6, ground := Ground.data }, { on := 4, ground := Ground.chain }], guard := none }) rfl (fun K hK => ?_) AllReadyH.nil
    go_simp
    refine (rnumber15_own f (by omega) _).mono ?_; rintro e9 w4 ⟨a4, c4, rfl, ho4, hl4, hb4⟩; have HC := Lib.hid hl4.ls; have HPC := Lib.hid (own_below HP7.out hb4)
    go_wp2_with fail
    refine hK.out _ _ (step_below hHeld hb4) (fun hHeldn => ?_)
    clear hK K hHeld; have hHeld := hHeldn; clear hHeldn
    clear ho4 hl4 hb4
    try simp only [Act.put, List.setIfInBounds_toArray, List.set_cons_zero, List.set_cons_succ]
    refine wpAnyH_ready (rs := [8]) (by kernel_rfl) (by simp) ?_
    refine AllReadyH.cons (o := { dst := some 21, op := Op.call { callee := Callee.builtin Builtin.append, args := #[Operand.tmp 17, Operand.tmp 20], argTypes := #[22, 22] }, type := 22, pos := "ref.go:295", after := #[{ on := 4, ground := Ground.data }, { on := 7, ground := Ground.data }, { on := 7, ground := Ground.chain }], guard := none }) rfl (fun K hK => ?_) AllReadyH.nil
    refine step_append_ls eltB rfl _ _ rfl W1.heap.size W1 hHeld _ (l1 + (numW e).length) (iv .u8 (P1 ++ numW e)) rfl HPC.out _ _ ((numW f).length) (numW f) rfl rfl HC.out (by omega) hHeld.size ?_
    intro v8 X8 ho8 hb8 hg8
    rw [← iv_append] at ho8
    have HP8 := Lib.hid ho8
    clear ho8 hg8
    refine hK.out _ _ hb8 (fun hHeldn => ?_)
    clear hK K hHeld; have hHeld := hHeldn; clear hHeldn hb8
    try simp only [Act.put, List.setIfInBounds_toArray, List.set_cons_zero, List.set_cons_succ]
    refine tp 9 ?_ rfl (.inl ⟨by rfl, ?_⟩) ?_
    rotate_left
    · intro W hSw; go_simp; try with_reducible rfl
    refine wpAnyH_done (by kernel_rfl) ?_ _
    refine hKK _ _ ?_
    obtain ⟨a5, c5, hv5⟩ := own_form HP8.out
    subst hv5
    go_meet
    exact ⟨_, a5, c5, rfl, Lib.hid (show ((P1 ++ numW e) ++ numW f).length = _ by rw [List.length_append, List.length_append, HL1.out]), HP8, Lib.hid hHeld⟩
  case rest =>
  clear HBW HP1
  obtain ⟨l2, pa, pc, rfl, HL2, HP2, HBW⟩ := hcut
  obtain ⟨P2, hP2⟩ : ∃ P, (P1 ++ numW e) ++ numW f = P := ⟨_, rfl⟩
  have HE2 := Lib.hid hP2
  rw [hP2] at HL2 HP2
  have hl2 : l2 ≤ 64 := by rw [← HL2.out, ← hP2, List.length_append, List.length_append, HL1.out]; omega
  obtain ⟨z0, z1, z2, z3, z4⟩ := FQ.out _ HBW.out
  clear hP2
  go_wp2_with fail
  refine (rnumber15_own n (by omega) _).mono ?_
  rintro r w2 ⟨a2, c2, rfl, ho2, hl2', hb2⟩
  have HLN := Lib.hid hl2'.ls
  have HP2' := Lib.hid (own_below HP2.out hb2)
  have HB2 := Lib.hid (step_below HBW.out hb2)
  have hs2 := HB2.out.size
  clear ho2 hl2' hb2 z0 z1 z2 z3 z4
  go_upto_region 4 with (at_builtin; refine append_ls eltB rfl (.tmp 22) (.tmp 26) rfl W1.heap.size _ l2 (iv .u8 P2) rfl HP2'.out _ _ (numW n).length (numW n) rfl rfl HLN.out (by omega) hs2 ?_)
  intro v3 w3 ho3 hg3
  rw [← iv_append] at ho3
  have HP3 := Lib.hid ho3
  have HB3 := Lib.hid (HB2.out.grown hg3 hs2 (fun j hj => (HP2'.out.lt j hj).1))
  obtain ⟨l3, hl3⟩ : ∃ l, l2 + (numW n).length = l := ⟨_, rfl⟩
  obtain ⟨P3, hP3⟩ : ∃ P, P2 ++ numW n = P := ⟨_, rfl⟩
  have HE3 := Lib.hid (And.intro hP3 (show P3.length = l3 by rw [← hP3, ← hl3, List.length_append, HL2.out]))
  have hl32 : l3 ≤ 74 := by rw [← hl3]; omega
  rw [hl3, hP3] at HP3
  clear ho3 hg3 hl3 hP3 HB2 HP2' HLN
  go_wp2_with fail
  go_loopw [3, 4] (fun v i wr => ∃ (k lk : Nat), k ≤ n ∧ i = .int .i64 (k : Int) ∧ lk ≤ l3 + k * 60 ∧ Hid (l3 + ((xs.take k).map lpW).flatten.length = lk) ∧ Hid (wr.ownsRow W1.heap.size 5 1 v lk (iv .u8 (P3 ++ ((xs.take k).map lpW).flatten))) ∧ Hid (Below W1.heap.size W1 wr)) (fun _ i _ => n - (intOf i).toNat)
  case atStart => exact ⟨0, l3, by omega, rfl, by omega, Lib.hid (by simp), Lib.hid (by simpa using HP3.out), HB3⟩
  case round =>
    clear HP3 HB3
    obtain ⟨k, lk, hk, rfl, hlk, HLK, HPK, HBW⟩ := hrel
    obtain ⟨z0, z1, z2, z3, z4⟩ := FQ.out _ HBW.out
    by_cases hlt : k < n
    · have dl : (k : Int) < (n : Int) := by omega
      obtain ⟨x, hx⟩ : ∃ x, xs[k]? = some x := ⟨_, List.getElem?_eq_getElem (by rw [HN.out]; exact hlt)⟩
      have hxo := HOK.out.all x (List.mem_of_getElem? hx)
      have HFX := Lib.hid (fun W (b : Below W1.heap.size W1 W) => (HR.out.below (step_below HB0.out b)) k x hx)
      obtain ⟨b, off, rfl, _, _⟩ := HFX.out _ HBW.out
      have HNX := Lib.hid (show ((xs.take (k + 1)).map lpW).flatten = ((xs.take k).map lpW).flatten ++ (bytesW (byts x.1) ++ numW x.2.toNat) by rw [flat_take lpW xs k x hx]; rfl)
      obtain ⟨xt, hxt⟩ : ∃ t : Nat, x.2 = (t : Int) := ⟨x.2.toNat, by omega⟩
      obtain ⟨xn, hxn⟩ : ∃ s, x.1 = s := ⟨_, rfl⟩
      rw [hxt, hxn] at hxo HNX
      rw [Int.toNat_natCast] at HNX
      have FX := Lib.hid (fun W (b' : Below W1.heap.size W1 W) => (show W.cell? ⟨w.heap.size, 0, none⟩ = some (.int .i64 (g : Int)) ∧ W.cell? ⟨w.heap.size, 1, none⟩ = some (.string nm) ∧ W.cell? ⟨w.heap.size, 2, none⟩ = some (.int .i64 (e : Int)) ∧ W.cell? ⟨w.heap.size, 3, none⟩ = some (.int .i64 (f : Int)) ∧ W.cell? ⟨w.heap.size, 4, none⟩ = some (.slice (some ⟨b, off, none⟩) n cap) ∧ W.cell? ⟨b, off + k * 2, none⟩ = some (.string xn) ∧ W.cell? ⟨b, off + k * 2 + 1, none⟩ = some (.int .i64 (xt : Int)) by
        obtain ⟨y0, y1, y2, y3, y4⟩ := FQ.out W b'
        obtain ⟨b2, o2, e2, q0, q1⟩ := HFX.out W b'
        cases e2
        rw [hxn] at q0
        rw [hxt] at q1
        exact ⟨y0, y1, y2, y3, y4, q0, q1⟩))
      have t7 := bytesW_len (byts xn) (by rw [byts_len]; omega)
      have t8 : (byts xn).length ≤ 24 := by rw [byts_len]; omega
      have t9 := numW_ten xt (by omega)
      obtain ⟨PK, hPK⟩ : ∃ P, P3 ++ ((xs.take k).map lpW).flatten = P := ⟨_, rfl⟩
      have HPE := Lib.hid hPK
      rw [hPK] at HPK
      have hk32 : k ≤ 32 := by omega
      have hxs : xn.size ≤ 24 := hxo.1
      have hxt2 : xt ≤ 16777215 := by omega
      clear hx hxt hxn HFX hPK hxo
      go_upto_region 7 with (fail)
      rename_i KK hKK
      refine Code.wp_mono (Q := Exit.then KK (fun _ _ _ => False)) (fun e a' w' h => by cases e <;> first | exact h | exact h.elim) ?_
      refine wp_region_held_drew (S := (fun X => Below W1.heap.size W1 X)) (by kernel_rfl) (HBW.out.drew) (fun hHeld => ?_)
      refine tp 0 ?_ rfl (.inl ⟨by rfl, ?_⟩) ?_
      rotate_left
      · intro W hSw; go_simp; try with_reducible rfl
      refine tp 1 ?_ rfl (.inl ⟨by rfl, ?_⟩) ?_
      rotate_left
      · intro W hSw; go_simp; try with_reducible rfl
      refine tp 2 ?_ rfl (.inl ⟨by rfl, ?_⟩) ?_
      rotate_left
      · intro W hSw; obtain ⟨z0, z1, z2, z3, z4, c0, c1⟩ := FX.out W hSw; go_simp; try with_reducible rfl
      refine tp 3 ?_ rfl (.inl ⟨by rfl, ?_⟩) ?_
      rotate_left
      · intro W hSw; go_simp; try with_reducible rfl
      refine tp 4 ?_ rfl (.inl ⟨by rfl, ?_⟩) ?_
      rotate_left
      · intro W hSw; go_simp; try with_reducible rfl
      refine tp 5 ?_ rfl (.inl ⟨by rfl, ?_⟩) ?_
      rotate_left
      · intro W hSw; go_simp; try with_reducible rfl
      refine tp 6 ?_ rfl (.inl ⟨by rfl, ?_⟩) ?_
      rotate_left
      · intro W hSw; obtain ⟨z0, z1, z2, z3, z4, c0, c1⟩ := FX.out W hSw; go_simp; try with_reducible rfl
      refine tp 10 ?_ rfl (.inl ⟨by rfl, ?_⟩) ?_
      rotate_left
      · intro W hSw; go_simp; try with_reducible rfl
      refine tp 11 ?_ rfl (.inl ⟨by rfl, ?_⟩) ?_
      rotate_left
      · intro W hSw; obtain ⟨z0, z1, z2, z3, z4, c0, c1⟩ := FX.out W hSw; go_simp; try with_reducible rfl
      refine tp 12 ?_ rfl (.inl ⟨by rfl, ?_⟩) ?_
      rotate_left
      · intro W hSw; go_simp; try with_reducible rfl
      refine tp 13 ?_ rfl (.inl ⟨by rfl, ?_⟩) ?_
      rotate_left
      · intro W hSw; go_simp; try with_reducible rfl
      refine tp 14 ?_ rfl (.inl ⟨by rfl, ?_⟩) ?_
      rotate_left
      · intro W hSw; go_simp; try with_reducible rfl
      refine tp 15 ?_ rfl (.inl ⟨by rfl, ?_⟩) ?_
      rotate_left
      · intro W hSw; obtain ⟨z0, z1, z2, z3, z4, c0, c1⟩ := FX.out W hSw; go_simp; try with_reducible rfl
      refine wpAnyH_ready (rs := [7]) (by kernel_rfl) (by simp) ?_
      refine AllReadyH.cons (o := { dst := some 42, op := Op.convert 9 22 (Operand.tmp 41), type := 22, pos := "ref.go:298", after := #[{ on := 6, ground := Ground.data }], guard := none }) rfl (fun K hK => ?_) AllReadyH.nil
      go_simp
      rw [conv_str]
      refine hK.out _ _ (hHeld.trans ((bytes_below _ _).mono hHeld.size)) (fun hHeldn => ?_)
      clear hK K; have HSX := Lib.hid (str_ls_of hHeldn); have HPA := Lib.hid (own_below HPK.out.drew (bytes_below _ xn)); have hHeld := hHeldn; clear hHeldn
      try simp only [Act.put, List.setIfInBounds_toArray, List.set_cons_zero, List.set_cons_succ]
      refine wpAnyH_ready (rs := [8]) (by kernel_rfl) (by simp) ?_
      refine AllReadyH.cons (o := { dst := some 43, op := Op.call { callee := Callee.value (Operand.func 74), args := #[Operand.tmp 42], argTypes := #[22] }, type := 22, pos := "ref.go:298", after := #[{ on := 7, ground := Ground.data }], guard := none }) rfl (fun K hK => ?_) AllReadyH.nil
      go_simp
      refine (rbytes_own _ (byts xn) xn.size _ (byts_len xn) (by omega) _ HSX.out).mono ?_; rintro e9 w3 ⟨a3, c3, rfl, ho3, hl3, hb3⟩; have HA := Lib.hid hl3.ls; have HPB := Lib.hid (own_below HPA.out hb3)
      go_wp2_with fail
      refine hK.out _ _ (step_below hHeld hb3) (fun hHeldn => ?_)
      clear hK K hHeld; have hHeld := hHeldn; clear hHeldn
      clear ho3 hl3 hb3
      try simp only [Act.put, List.setIfInBounds_toArray, List.set_cons_zero, List.set_cons_succ]
      refine wpAnyH_ready (rs := [9]) (by kernel_rfl) (by simp) ?_
      refine AllReadyH.cons (o := { dst := some 44, op := Op.call { callee := Callee.builtin Builtin.append, args := #[Operand.tmp 35, Operand.tmp 43], argTypes := #[22, 22] }, type := 22, pos := "ref.go:298", after := #[{ on := 0, ground := Ground.data }, { on := 8, ground := Ground.data }, { on := 8, ground := Ground.chain }], guard := none }) rfl (fun K hK => ?_) AllReadyH.nil
      refine step_append_ls eltB rfl _ _ rfl W1.heap.size W1 hHeld _ (lk) (iv .u8 PK) rfl HPB.out _ _ ((bytesW (byts xn)).length) (bytesW (byts xn)) rfl rfl HA.out (by omega) hHeld.size ?_
      intro v7 X7 ho7 hb7 hg7
      rw [← iv_append] at ho7
      have HP7 := Lib.hid ho7
      clear ho7 hg7
      refine hK.out _ _ hb7 (fun hHeldn => ?_)
      clear hK K hHeld; have hHeld := hHeldn; clear hHeldn hb7
      try simp only [Act.put, List.setIfInBounds_toArray, List.set_cons_zero, List.set_cons_succ]
      refine wpAnyH_ready (rs := [16]) (by kernel_rfl) (by simp) ?_
      refine AllReadyH.cons (o := { dst := some 51, op := Op.call { callee := Callee.value (Operand.func 73), args := #[Operand.tmp 50], argTypes := #[2] }, type := 22, pos := "ref.go:298", after := #[{ on := 15, ground := Ground.data }, { on := 9, ground := Ground.chain }], guard := none }) rfl (fun K hK => ?_) AllReadyH.nil
      go_simp
      refine (rnumber15_own xt (by omega) _).mono ?_; rintro e9 w4 ⟨a4, c4, rfl, ho4, hl4, hb4⟩; have HC := Lib.hid hl4.ls; have HPC := Lib.hid (own_below HP7.out hb4)
      go_wp2_with fail
      refine hK.out _ _ (step_below hHeld hb4) (fun hHeldn => ?_)
      clear hK K hHeld; have hHeld := hHeldn; clear hHeldn
      clear ho4 hl4 hb4
      try simp only [Act.put, List.setIfInBounds_toArray, List.set_cons_zero, List.set_cons_succ]
      refine wpAnyH_ready (rs := [17]) (by kernel_rfl) (by simp) ?_
      refine AllReadyH.cons (o := { dst := some 52, op := Op.call { callee := Callee.builtin Builtin.append, args := #[Operand.tmp 44, Operand.tmp 51], argTypes := #[22, 22] }, type := 22, pos := "ref.go:298", after := #[{ on := 9, ground := Ground.data }, { on := 16, ground := Ground.data }, { on := 16, ground := Ground.chain }], guard := none }) rfl (fun K hK => ?_) AllReadyH.nil
      refine step_append_ls eltB rfl _ _ rfl W1.heap.size W1 hHeld _ (lk + (bytesW (byts xn)).length) (iv .u8 (PK ++ bytesW (byts xn))) rfl HPC.out _ _ ((numW xt).length) (numW xt) rfl rfl HC.out (by omega) hHeld.size ?_
      intro v8 X8 ho8 hb8 hg8
      rw [← iv_append] at ho8
      have HP8 := Lib.hid ho8
      clear ho8 hg8
      refine hK.out _ _ hb8 (fun hHeldn => ?_)
      clear hK K hHeld; have hHeld := hHeldn; clear hHeldn hb8
      try simp only [Act.put, List.setIfInBounds_toArray, List.set_cons_zero, List.set_cons_succ]
      refine tp 18 ?_ rfl (.inl ⟨by rfl, ?_⟩) ?_
      rotate_left
      · intro W hSw; go_simp; try with_reducible rfl
      refine wpAnyH_done (by kernel_rfl) ?_ _
      skip
      refine hKK _ _ ?_
      have HB8 := Lib.hid hHeld
      clear hKK hHeld z0 z1 z2 z3 z4
      go_wp2_with fail
      go_roundw
      case rel =>
        refine ⟨k + 1, lk + (bytesW (byts xn)).length + (numW xt).length, by omega, by go_num, by omega, Lib.hid ?_, Lib.hid ?_, HB8⟩
        · rw [HNX.out, List.length_append, List.length_append, ← HLK.out]; omega
        · rw [HNX.out, ← List.append_assoc, ← List.append_assoc, HPE.out]; exact HP8.out
      case measure => simp [intOf]; omega
    · have dl : ¬ (k : Int) < (n : Int) := by omega
      obtain rfl : k = n := by omega
      obtain ⟨pa, pc, hv⟩ := own_form HPK.out
      subst hv
      have HML := Lib.hid (show P3 ++ ((xs.take k).map lpW).flatten = mnW g e f nm xs by
        rw [← HN.out, List.take_length, ← HE3.out.1, ← HE2.out, ← HE1.out, ← HN.out]
        unfold mnW putL
        simp only [List.append_assoc])
      have hlen : (mnW g e f nm xs).length = lk := by rw [← HML.out, List.length_append, HE3.out.2, HLK.out]
      have hmb : Byt (mnW g e f nm xs) := by
        unfold mnW
        exact Byt.append (numW_byt _) (Byt.append (bytesW_byt (byts_byt _)) (Byt.append (numW_byt _) (Byt.append (numW_byt _) (putL_byt fun x _ => lpW_byt x))))
      rw [HML.out] at HPK
      obtain ⟨_, _, ee, hll, _⟩ := own_ls HPK.out hlen
      cases ee
      have HFR := Lib.hid (rframe_own pa (mnW g e f nm xs) lk pc hlen (by omega) hmb wr hll)
      clear hll hmb hlen
      go_wp2_with fail
      refine HFR.out.mono ?_
      rintro r w5 ⟨a5, c5, rfl, _, hl5, hb5⟩
      have HF5 := Lib.hid (And.intro hl5.ls (step_below (step_below HB0.out HBW.out) hb5))
      clear hl5 hb5
      go_wp2_with fail
      go_ret
      exact ⟨a5, c5, rfl, HF5.out.1, HF5.out.2⟩
end Go.Proofs.YtglkndoghnblcaaGreat
namespace Go.Proofs.YtglkndoghnblcaaGreat
open Go.ChangeShapes Go.WideShapes Go.ChangeAt Go.RowKit
set_option linter.unusedVariables false
set_option linter.unusedSimpArgs false
/-- What is written, or refused. -/
def PmX (b : Bool) (P : List Int) (w' : World) (xa : Option Addr) (xl xc : Nat) (er : Int) : Prop := (b = true ∧ er = 0 ∧ P.length = xl ∧ 1 ≤ xl ∧ xl ≤ 10000 ∧ Ls .u8 w' xa xc P) ∨ (b = false ∧ er = 2 ∧ xl = 0)
theorem PmX.below {b : Bool} {P : List Int} {w w' : World} {xa : Option Addr} {xl xc : Nat} {er : Int} (h : PmX b P w xa xl xc er) (hb : Below w.heap.size w w') : PmX b P w' xa xl xc er := by
  rcases h with ⟨h1, h2, h3, h4, h5, h6⟩ | h
  · exact .inl ⟨h1, h2, h3, h4, h5, h6.below hb⟩
  · exact .inr h
def PutB (b : Bool) (P : List Int) (w : World) (r : Ending) (w' : World) : Prop := ∃ (xa : Option Addr) (xl xc : Nat) (er : Int), r = .returned (.tuple #[.slice xa xl xc, .int .i64 er]) ∧ PmX b P w' xa xl xc er ∧ Below w.heap.size w w'
theorem putmanb_law (g e f : Int) (nm : ByteArray) (a : Option Addr) (xs : List LpV) (n cap : Nat) (hs : nm.size ≤ maxLen) (hsx : ∀ x ∈ xs, x.1.size ≤ maxLen) (hn : xs.length = n) (hn2 : n ≤ 1000000) (hnc : n ≤ cap) (w : World) (hR : LpsR w a xs) :
    Calls Tryz.prog 35 #[.agg #[.int .i64 g, .string nm, .int .i64 e, .int .i64 f, .slice a n cap]] w (PutB (manB g e f nm xs) (frameL (mnW g.toNat e.toNat f.toNat nm xs)) w) := by
  refine (putman_law g e f nm a xs n cap hs hsx hn hn2 hnc w hR).mono ?_
  rintro r w' ⟨⟨hb, rfl⟩ | ⟨hb, a', c', rfl, _, hl⟩, hw⟩
  · exact ⟨none, 0, 0, 2, rfl, .inr ⟨hb, rfl, rfl⟩, hw⟩
  · refine ⟨a', _, c', 0, rfl, .inl ⟨hb, rfl, frameL_len _, by omega, ?_, hl⟩, hw⟩
    have hok := man_ok hb
    have := (mnW_len g.toNat e.toNat f.toNat nm xs (by rw [show ((g.toNat : Nat) : Int) = g by have := hok.g1; omega, show ((e.toNat : Nat) : Int) = e by have := hok.e1; omega, show ((f.toNat : Nat) : Int) = f by have := hok.e1; have := hok.f1; omega]; exact hok)).2
    omega
theorem putdurb_law (g e : Int) (w : World) : Calls Tryz.prog 38 #[.agg #[.int .i64 g, .int .i64 e]] w (PutB (durB g e) (frameL (tidW g.toNat e.toNat)) w) := by
  refine (putdur_law g e w).mono ?_
  rintro r w' ⟨⟨hb, rfl⟩ | ⟨hb, a', c', rfl, _, hl⟩, hw⟩
  · exact ⟨none, 0, 0, 2, rfl, .inr ⟨hb, rfl, rfl⟩, hw⟩
  · refine ⟨a', _, c', 0, rfl, .inl ⟨hb, rfl, frameL_len _, by omega, ?_, hl⟩, hw⟩
    unfold durB at hb
    rw [Bool.and_eq_true, inB_iff, inB_iff] at hb
    have := (tidW_len g.toNat e.toNat (by omega) (by omega)).2
    omega
/-- What a manifest that is read is. -/
structure MnT where
  g : Int
  nm : ByteArray
  e : Int
  f : Int
  xs : List LpV
  er : Int
def mnT : Option Mn → MnT
  | some x => ⟨(x.g : Int), strOfNums x.nm, (x.e : Int), (x.f : Int), x.logs.map lpN, 0⟩
  | none => ⟨0, { data := #[] }, 0, 0, [], 4⟩
theorem mnT_len {L : List Int} (hb : Byt L) : (mnT (rmanP L)).xs.length ≤ 32 := by
  cases h : rmanP L with
  | none => exact Nat.zero_le _
  | some x =>
    obtain ⟨h1, _, _⟩ := rmanP_inv hb h
    exact (man_ok h1).l
def RmT (w : World) (x : MnT) (r : Ending) (w' : World) : Prop := ∃ (a : Option Addr) (n c : Nat), r = .returned (.tuple #[.agg #[.int .i64 x.g, .string x.nm, .int .i64 x.e, .int .i64 x.f, .slice a n c], .int .i64 x.er]) ∧ x.xs.length = n ∧ LpsR w' a x.xs ∧ Below w.heap.size w w'
theorem RmT.of {w : World} {o : Option Mn} {r : Ending} {w' : World} (h : RmnR w o r w') : RmT w (mnT o) r w' := by
  rcases h with ⟨⟨rfl, rfl⟩ | ⟨x, v, rfl, rfl, hm⟩, hw⟩
  · exact ⟨none, 0, 0, rfl, rfl, fun k x hx => by simp [mnT] at hx, hw⟩
  · obtain ⟨a, c, rfl, hp⟩ := hm
    obtain ⟨_, _, hl⟩ := hp.lies
    exact ⟨a, x.logs.length, c, rfl, by simp [mnT], hl, hw⟩
end Go.Proofs.YtglkndoghnblcaaGreat
