/- Names of logs and of checkpoints. -/
import Derived.Test.YtglkndoghnblcaaGreatDoorOkb
import Derived.Test.YtglkndoghnblcaaGreatDoorShelf
import Derived.Lib.AppendIntMem
import Derived.Lib.Hide
namespace Go.Proofs.YtglkndoghnblcaaGreatDoor
open Go.ChangeShapes Go.WideShapes Go.ChangeAt Go.RowKit
set_option linter.unusedVariables false
set_option linter.unusedSimpArgs false
/-- The table that the digits' writing reads. -/
def TabW (W : World) : Prop := Lib.TabIs Tryz.prog W "internal/strconv.uint64pow10" .u64 Lib.pow10Tab
theorem TabW.below {W W' : World} (h : TabW W) (b : Below W.heap.size W W') : TabW W' := Lib.tabBelow_of_tabIs h W' b
theorem below_grow (w : World) (k : Nat) (os : Array Obj) : Below w.heap.size w (Sort.grow (w.drewN k) os) :=
  ⟨rfl, rfl, rfl, Lib.size_grow w k os, fun j hj => by simp [Sort.grow, World.drewN, Array.getElem?_append, hj]⟩
def fmtS (n : Int) : ByteArray := ⟨(Lib.itoa n).toArray⟩
theorem dig_len : ∀ (k n : Nat), n < 10 ^ (k + 1) → (Lib.decDigits n).length ≤ k + 1
  | 0, n, h => by rw [Lib.decDigits, dif_pos (by simpa using h)]; simp
  | k + 1, n, h => by
    by_cases h9 : n < 10
    · rw [Lib.decDigits, dif_pos h9]; simp
    · rw [Lib.decDigits, dif_neg h9]
      have := dig_len k (n / 10) (by rw [Nat.pow_succ] at h; omega)
      simp; omega
theorem fmtS_size {n : Int} (h0 : 0 ≤ n) (h1 : n ≤ 2147483647) : (fmtS n).size ≤ 10 := by
  show (Lib.itoa n).toArray.size ≤ 10
  unfold Lib.itoa
  rw [if_neg (by omega)]
  have := dig_len 9 n.toNat (by omega)
  have e : n.toNat = n.natAbs := by omega
  simp only [List.size_toArray]
  first | exact this | (rw [← e]; exact this) | (rw [e] at this; exact this)
theorem fmt_law (n : Int) (h0 : 0 ≤ n) (h1 : n ≤ 2147483647) (w : World) (ht : TabW w) : Calls Tryz.prog 36 #[.int .i64 n, .int .i64 10] w fun e w' => e = .returned (.string (fmtS n)) ∧ Below w.heap.size w w' :=
  (Tryz.strconv_FormatInt_10 n (by omega) (by omega) w ht).mono fun _ _ ⟨a, k, os, b⟩ => ⟨a, by rw [b]; exact below_grow w k os⟩
theorem itoa_law (n : Int) (h0 : 0 ≤ n) (h1 : n ≤ 2147483647) (w : World) (ht : TabW w) : Calls Tryz.prog 37 #[.int .i64 n] w fun e w' => e = .returned (.string (fmtS n)) ∧ Below w.heap.size w w' :=
  (Tryz.strconv_Itoa n (by omega) (by omega) w ht).mono fun _ _ ⟨a, k, os, b⟩ => ⟨a, by rw [b]; exact below_grow w k os⟩
/-- A name of two numbers. -/
def nmS (p : ByteArray) (g l : Int) : ByteArray := p ++ fmtS g ++ ⟨#[46]⟩ ++ fmtS l
theorem nmS_eq (p : ByteArray) (g l : Int) : nmS p g l = p ++ fmtS g ++ ⟨#[46]⟩ ++ fmtS l := rfl
theorem nm_sizes {g l : Int} (h0 : 1 ≤ g) (h1 : g ≤ 2147483647) (h2 : 0 ≤ l) (h3 : l ≤ 2147483647) (k : Nat) (hk : k ≤ 10 := by decide) : ¬ 9223372036854775807 < k + (fmtS g).size ∧ ¬ 9223372036854775807 < k + (fmtS g).size + 1 ∧ ¬ 9223372036854775807 < k + (fmtS g).size + 1 + (fmtS l).size := by
  have q1 := fmtS_size (n := g) (by omega) h1
  have q2 := fmtS_size h2 h3
  omega
theorem inB_iff {x lo hi : Int} : inB x lo hi = true ↔ lo ≤ x ∧ x ≤ hi := by unfold inB; exact decide_eq_true_iff
theorem nmS_size (p : ByteArray) (g l : Int) : True := trivial
def lnS (g l : Int) : ByteArray := if inB g 1 2147483647 && inB l 0 1 then nmS ⟨#[108, 111, 103, 46]⟩ g l else ⟨#[]⟩
def lnE (g l : Int) : Int := if inB g 1 2147483647 && inB l 0 1 then 0 else 2
def cnS (g l : Int) : ByteArray := if inB g 1 2147483647 && inB l 0 16777215 then nmS ⟨#[99, 104, 101, 99, 107, 46]⟩ g l else ⟨#[]⟩
def cnE (g l : Int) : Int := if inB g 1 2147483647 && inB l 0 16777215 then 0 else 2
set_option maxRecDepth 100000 in
set_option maxHeartbeats 4000000 in
theorem logname_law (g l : Int) (w : World) (ht : TabW w) : Calls Tryz.prog 6 #[.int .i64 g, .int .i64 l] w fun r w' => r = .returned (.tuple #[.string (lnS g l), .int .i64 (lnE g l)]) ∧ Below w.heap.size w w' := by
  have HT := Lib.hid ht
  have HV := Lib.hid (nmS_size ⟨#[108, 111, 103, 46]⟩ g l)
  unfold lnS lnE
  have H1 := Lib.hid (fun W => within_law g 1 2147483647 W)
  have H2 := Lib.hid (fun W => within_law l 0 1 W)
  obtain ⟨b1, hb1⟩ : ∃ b, inB g 1 2147483647 = b := ⟨_, rfl⟩
  obtain ⟨b2, hb2⟩ : ∃ b, inB l 0 1 = b := ⟨_, rfl⟩
  rw [hb1] at H1
  rw [hb2] at H2
  rw [hb1, hb2]
  cases b1 with
  | false =>
    clear hb1 hb2 ht
    go_enter Tryz.func6, Tryz.ntmps6
    go_wp2_with fail
    refine (H1.out _).mono ?_; rintro r w1 ⟨rfl, rfl⟩
    go_wp2_with fail
    go_ret2
    exact ⟨rfl, Below.refl _ _⟩
  | true =>
    cases b2 with
    | false =>
      clear hb1 hb2 ht
      go_enter Tryz.func6, Tryz.ntmps6
      go_wp2_with fail
      refine (H1.out _).mono ?_; rintro r w1 ⟨rfl, rfl⟩
      go_wp2_with fail
      refine (H2.out _).mono ?_; rintro r w1 ⟨rfl, rfl⟩
      go_wp2_with fail
      go_ret2
      exact ⟨rfl, Below.refl _ _⟩
    | true =>
      have hg := inB_iff.1 hb1
      have hl := inB_iff.1 hb2
      obtain ⟨m1, m2, m3⟩ := nm_sizes hg.1 hg.2 hl.1 (show l ≤ 2147483647 by omega) (4)
      have HG := Lib.hid (fun W (b : Below w.heap.size w W) => fmt_law g (by omega) hg.2 W (HT.out.below b))
      have HL := Lib.hid (fun W (b : Below w.heap.size w W) => itoa_law l hl.1 (by omega) W (HT.out.below b))
      have HE := Lib.hid (nmS_eq ⟨#[108, 111, 103, 46]⟩ g l)
      generalize fmtS g = D at m1 m2 m3 HG HE
      generalize fmtS l = F at m3 HL HE
      clear hb1 hb2 ht hg hl
      go_enter Tryz.func6, Tryz.ntmps6
      go_wp2_with fail
      refine (H1.out _).mono ?_; rintro r w1 ⟨rfl, rfl⟩
      go_wp2_with fail
      refine (H2.out _).mono ?_; rintro r w1 ⟨rfl, rfl⟩
      go_wp2_with fail
      refine (HG.out _ (Below.refl _ _)).mono ?_; rintro r w3 ⟨rfl, hb3⟩
      have HB3 := Lib.hid hb3
      clear hb3
      go_wp2_with fail
      refine (HL.out _ HB3.out).mono ?_; rintro r w4 ⟨rfl, hb4⟩
      have HB4 := Lib.hid (step_below HB3.out hb4)
      clear hb4
      go_wp2_with fail
      go_ret2
      exact ⟨by rw [HE.out]; rfl, HB4.out⟩
set_option maxRecDepth 100000 in
set_option maxHeartbeats 4000000 in
theorem checkname_law (g l : Int) (w : World) (ht : TabW w) : Calls Tryz.prog 8 #[.int .i64 g, .int .i64 l] w fun r w' => r = .returned (.tuple #[.string (cnS g l), .int .i64 (cnE g l)]) ∧ Below w.heap.size w w' := by
  have HT := Lib.hid ht
  have HV := Lib.hid (nmS_size ⟨#[99, 104, 101, 99, 107, 46]⟩ g l)
  unfold cnS cnE
  have H1 := Lib.hid (fun W => within_law g 1 2147483647 W)
  have H2 := Lib.hid (fun W => within_law l 0 16777215 W)
  obtain ⟨b1, hb1⟩ : ∃ b, inB g 1 2147483647 = b := ⟨_, rfl⟩
  obtain ⟨b2, hb2⟩ : ∃ b, inB l 0 16777215 = b := ⟨_, rfl⟩
  rw [hb1] at H1
  rw [hb2] at H2
  rw [hb1, hb2]
  cases b1 with
  | false =>
    clear hb1 hb2 ht
    go_enter Tryz.func8, Tryz.ntmps8
    go_wp2_with fail
    refine (H1.out _).mono ?_; rintro r w1 ⟨rfl, rfl⟩
    go_wp2_with fail
    go_ret2
    exact ⟨rfl, Below.refl _ _⟩
  | true =>
    cases b2 with
    | false =>
      clear hb1 hb2 ht
      go_enter Tryz.func8, Tryz.ntmps8
      go_wp2_with fail
      refine (H1.out _).mono ?_; rintro r w1 ⟨rfl, rfl⟩
      go_wp2_with fail
      refine (H2.out _).mono ?_; rintro r w1 ⟨rfl, rfl⟩
      go_wp2_with fail
      go_ret2
      exact ⟨rfl, Below.refl _ _⟩
    | true =>
      have hg := inB_iff.1 hb1
      have hl := inB_iff.1 hb2
      obtain ⟨m1, m2, m3⟩ := nm_sizes hg.1 hg.2 hl.1 (show l ≤ 2147483647 by omega) (6)
      have HG := Lib.hid (fun W (b : Below w.heap.size w W) => fmt_law g (by omega) hg.2 W (HT.out.below b))
      have HL := Lib.hid (fun W (b : Below w.heap.size w W) => fmt_law l hl.1 (by omega) W (HT.out.below b))
      have HE := Lib.hid (nmS_eq ⟨#[99, 104, 101, 99, 107, 46]⟩ g l)
      generalize fmtS g = D at m1 m2 m3 HG HE
      generalize fmtS l = F at m3 HL HE
      clear hb1 hb2 ht hg hl
      go_enter Tryz.func8, Tryz.ntmps8
      go_wp2_with fail
      refine (H1.out _).mono ?_; rintro r w1 ⟨rfl, rfl⟩
      go_wp2_with fail
      refine (H2.out _).mono ?_; rintro r w1 ⟨rfl, rfl⟩
      go_wp2_with fail
      refine (HG.out _ (Below.refl _ _)).mono ?_; rintro r w3 ⟨rfl, hb3⟩
      have HB3 := Lib.hid hb3
      clear hb3
      go_wp2_with fail
      refine (HL.out _ HB3.out).mono ?_; rintro r w4 ⟨rfl, hb4⟩
      have HB4 := Lib.hid (step_below HB3.out hb4)
      clear hb4
      go_wp2_with fail
      go_ret2
      exact ⟨by rw [HE.out]; rfl, HB4.out⟩
set_option maxRecDepth 100000 in
set_option maxHeartbeats 4000000 in
theorem rlogname_law (g l : Int) (w : World) (ht : TabW w) : Calls Tryz.prog 7 #[.int .i64 g, .int .i64 l] w fun r w' => r = .returned (.tuple #[.string (lnS g l), .int .i64 (lnE g l)]) ∧ Below w.heap.size w w' := by
  have HT := Lib.hid ht
  have HNO := Lib.hid (fun (h : (inB g 1 2147483647 && inB l 0 1) = false) => (show lnS g l = ⟨#[]⟩ ∧ lnE g l = 2 by unfold lnS lnE; rw [h]; exact ⟨rfl, rfl⟩))
  clear ht
  by_cases h1 : g < 1
  · have HX := Lib.hid (HNO.out (by unfold inB; rw [decide_eq_false (by omega)]; rfl))
    clear HT
    go_enter Tryz.func7, Tryz.ntmps7
    go_wp2_with fail
    go_ret2
    exact ⟨by rw [HX.out.1, HX.out.2]; rfl, Below.refl _ _⟩
  by_cases h2 : 2147483647 < g
  · have HX := Lib.hid (HNO.out (by unfold inB; rw [decide_eq_false (by omega)]; rfl))
    clear HT
    go_enter Tryz.func7, Tryz.ntmps7
    go_wp2_with fail
    go_ret2
    exact ⟨by rw [HX.out.1, HX.out.2]; rfl, Below.refl _ _⟩
  by_cases h3 : l < 0
  · have HX := Lib.hid (HNO.out (by unfold inB; rw [decide_eq_false (p := 0 ≤ l ∧ _) (by omega), Bool.and_false]))
    clear HT
    go_enter Tryz.func7, Tryz.ntmps7
    go_wp2_with fail
    go_ret2
    exact ⟨by rw [HX.out.1, HX.out.2]; rfl, Below.refl _ _⟩
  by_cases h4 : (2 : Int) ≤ l
  · have HX := Lib.hid (HNO.out (by unfold inB; rw [decide_eq_false (p := 0 ≤ l ∧ _) (by omega), Bool.and_false]))
    clear HT
    go_enter Tryz.func7, Tryz.ntmps7
    go_wp2_with fail
    go_ret2
    exact ⟨by rw [HX.out.1, HX.out.2]; rfl, Below.refl _ _⟩
  have HX := Lib.hid (show lnS g l = nmS ⟨#[108, 111, 103, 46]⟩ g l ∧ lnE g l = 0 by unfold lnS lnE inB; rw [decide_eq_true (by omega), decide_eq_true (by omega)]; exact ⟨rfl, rfl⟩)
  obtain ⟨m1, m2, m3⟩ := nm_sizes (show 1 ≤ g by omega) (show g ≤ 2147483647 by omega) (show 0 ≤ l by omega) (show l ≤ 2147483647 by omega) (4)
  have HG := Lib.hid (fun W (b : Below w.heap.size w W) => fmt_law g (by omega) (by omega) W (HT.out.below b))
  have HL := Lib.hid (fun W (b : Below w.heap.size w W) => itoa_law l (by omega) (by omega) W (HT.out.below b))
  have HE := Lib.hid (nmS_eq ⟨#[108, 111, 103, 46]⟩ g l)
  generalize fmtS g = D at m1 m2 m3 HG HE
  generalize fmtS l = F at m3 HL HE
  go_enter Tryz.func7, Tryz.ntmps7
  go_wp2_with fail
  refine (HG.out _ (Below.refl _ _)).mono ?_; rintro r w3 ⟨rfl, hb3⟩
  have HB3 := Lib.hid hb3
  clear hb3
  go_wp2_with fail
  refine (HL.out _ HB3.out).mono ?_; rintro r w4 ⟨rfl, hb4⟩
  have HB4 := Lib.hid (step_below HB3.out hb4)
  clear hb4
  go_wp2_with fail
  go_ret2
  exact ⟨by rw [HX.out.1, HX.out.2, HE.out]; rfl, HB4.out⟩
set_option maxRecDepth 100000 in
set_option maxHeartbeats 4000000 in
theorem rcheckname_law (g l : Int) (w : World) (ht : TabW w) : Calls Tryz.prog 9 #[.int .i64 g, .int .i64 l] w fun r w' => r = .returned (.tuple #[.string (cnS g l), .int .i64 (cnE g l)]) ∧ Below w.heap.size w w' := by
  have HT := Lib.hid ht
  have HNO := Lib.hid (fun (h : (inB g 1 2147483647 && inB l 0 16777215) = false) => (show cnS g l = ⟨#[]⟩ ∧ cnE g l = 2 by unfold cnS cnE; rw [h]; exact ⟨rfl, rfl⟩))
  clear ht
  by_cases h1 : g < 1
  · have HX := Lib.hid (HNO.out (by unfold inB; rw [decide_eq_false (by omega)]; rfl))
    clear HT
    go_enter Tryz.func9, Tryz.ntmps9
    go_wp2_with fail
    go_ret2
    exact ⟨by rw [HX.out.1, HX.out.2]; rfl, Below.refl _ _⟩
  by_cases h2 : 2147483647 < g
  · have HX := Lib.hid (HNO.out (by unfold inB; rw [decide_eq_false (by omega)]; rfl))
    clear HT
    go_enter Tryz.func9, Tryz.ntmps9
    go_wp2_with fail
    go_ret2
    exact ⟨by rw [HX.out.1, HX.out.2]; rfl, Below.refl _ _⟩
  by_cases h3 : l < 0
  · have HX := Lib.hid (HNO.out (by unfold inB; rw [decide_eq_false (p := 0 ≤ l ∧ _) (by omega), Bool.and_false]))
    clear HT
    go_enter Tryz.func9, Tryz.ntmps9
    go_wp2_with fail
    go_ret2
    exact ⟨by rw [HX.out.1, HX.out.2]; rfl, Below.refl _ _⟩
  by_cases h4 : (16777215 : Int) < l
  · have HX := Lib.hid (HNO.out (by unfold inB; rw [decide_eq_false (p := 0 ≤ l ∧ _) (by omega), Bool.and_false]))
    clear HT
    go_enter Tryz.func9, Tryz.ntmps9
    go_wp2_with fail
    go_ret2
    exact ⟨by rw [HX.out.1, HX.out.2]; rfl, Below.refl _ _⟩
  have HX := Lib.hid (show cnS g l = nmS ⟨#[99, 104, 101, 99, 107, 46]⟩ g l ∧ cnE g l = 0 by unfold cnS cnE inB; rw [decide_eq_true (by omega), decide_eq_true (by omega)]; exact ⟨rfl, rfl⟩)
  obtain ⟨m1, m2, m3⟩ := nm_sizes (show 1 ≤ g by omega) (show g ≤ 2147483647 by omega) (show 0 ≤ l by omega) (show l ≤ 2147483647 by omega) (6)
  have HG := Lib.hid (fun W (b : Below w.heap.size w W) => fmt_law g (by omega) (by omega) W (HT.out.below b))
  have HL := Lib.hid (fun W (b : Below w.heap.size w W) => fmt_law l (by omega) (by omega) W (HT.out.below b))
  have HE := Lib.hid (nmS_eq ⟨#[99, 104, 101, 99, 107, 46]⟩ g l)
  generalize fmtS g = D at m1 m2 m3 HG HE
  generalize fmtS l = F at m3 HL HE
  go_enter Tryz.func9, Tryz.ntmps9
  go_wp2_with fail
  refine (HG.out _ (Below.refl _ _)).mono ?_; rintro r w3 ⟨rfl, hb3⟩
  have HB3 := Lib.hid hb3
  clear hb3
  go_wp2_with fail
  refine (HL.out _ HB3.out).mono ?_; rintro r w4 ⟨rfl, hb4⟩
  have HB4 := Lib.hid (step_below HB3.out hb4)
  clear hb4
  go_wp2_with fail
  go_ret2
  exact ⟨by rw [HX.out.1, HX.out.2, HE.out]; rfl, HB4.out⟩
end Go.Proofs.YtglkndoghnblcaaGreatDoor
