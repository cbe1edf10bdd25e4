/- The document's own functions of layer 7, by contracts; the walks of the laws. -/
import Derived.Test.YtfdboihfgpibcaaDoorKnown
import Derived.Deep.QuietTactic
import Derived.BigQuiet
namespace Go.Proofs.YtfdboihfgpibcaaDoor
open Go.ChangeShapes Go.WideShapes Go.ChangeAt Go.RowKit
open TM

theorem bcell {W w1 : World} (hb : Below W.heap.size W w1) : (∀ b o, b < W.heap.size → w1.cell? ⟨b, o, none⟩ = W.cell? ⟨b, o, none⟩) ∧ (∀ b o, b < W.heap.size → w1.frozen? ⟨b, o, none⟩ = W.frozen? ⟨b, o, none⟩) :=
  ⟨fun b o h => hb.cell (p := ⟨b, o, none⟩) h, fun b o h => hb.frozen (p := ⟨b, o, none⟩) h⟩
theorem known_at {w W : World} {m : Int} (hm : w.cell? ⟨1, 0, none⟩ = some (.int .i64 m)) (hB : Below w.heap.size w W) :
    Calls Tryd.prog 11 #[] W fun e w' => e = .returned (.bool true) ∧ Below W.heap.size W w' :=
  known_any W m ((hB.cell (p := ⟨1, 0, none⟩) (block_lt_of_cell hm)).trans hm)
theorem qsame {P : Program} {f : FuncId} {args : Array Value} {w : World} {v : Value} (h : Calls P f args w fun e w' => e = .returned v ∧ w = w') : Calls P f args w fun e w' => e = .returned v ∧ w' = w :=
  h.mono fun _ _ ⟨a, b⟩ => ⟨a, b.symm⟩
theorem quiet_add_same {P : Program} {f : FuncId} {args : Array Value} {w : World} {a n : Nat} {v : Value}
    (h : Calls P f args (w.drewN (a + n)) fun e w' => e = .returned v ∧ w' = w.drewN (a + n)) :
    Calls P f args (w.drewN (a + n)) fun e w'' => e = .returned v ∧ ∃ m, w'' = w.drewN (a + m) :=
  h.mono fun _ _ ⟨he, hm⟩ => ⟨he, n, hm⟩
theorem bit1 (x : Int) : (x % 2 == 1) = bitB x 1 := by unfold bitB; rw [Int.ediv_one]; rfl
theorem bitk (x k : Int) : (x / k % 2 == 1) = bitB x k := rfl
theorem may_lt {x : Int} (h : mayB x = true) : x < 288230376151711744 := by unfold mayB at h; simpa using h
theorem may_ge {x : Int} (h : mayB x = false) : ¬ x < 288230376151711744 := by unfold mayB at h; simpa using h

theorem refOf_any (x : Int) (h0 : 0 ≤ x) (h1 : x < 18446744073709551616) (w : World) :
    Calls Tryd.prog 19 #[.int .u64 x] w fun e w' => e = .returned (.tuple #[.agg #[.int .i64 (epV x), .int .i64 (nuV x), .bool (bitB x 1), .bool (bitB x 2), .bool (bitB x 4)], .bool (mayB x)]) ∧ Below w.heap.size w w' := by
  have q1 := bit1 x
  have q2 := bitk x 2
  have q4 := bitk x 4
  have q5 : x / 17179869184 % 16777216 = epV x := rfl
  have q6 : x / 8 % 2147483648 = nuV x := rfl
  have q7 : decide (x / 17179869184 ≤ 16777215) = mayB x := by unfold mayB; rw [Bool.eq_iff_iff]; simp only [decide_eq_true_eq]; omega
  have r5 : 0 ≤ epV x ∧ epV x ≤ 16777215 := by unfold epV; omega
  have r6 : 0 ≤ nuV x ∧ nuV x ≤ 2147483647 := by unfold nuV; omega
  have Q := Lib.hid q7; clear q7
  go_enter Tryd.func19, Tryd.ntmps19
  go_wp2
  refine bodyPost_ret (v := .tuple #[.agg #[.int .i64 (epV x), .int .i64 (nuV x), .bool (bitB x 1), .bool (bitB x 2), .bool (bitB x 4)], .bool (decide (x / 17179869184 ≤ 16777215))]) (by simp [results, Tryd.results19, go_sem]) rfl ⟨by rw [Q.out], ?_⟩
  exact ((Below.refl _ _).alloc (Nat.le_refl _) _).alloc (by simp) _

theorem to_any (e n : Int) (l d a : Bool) (h0 : 0 ≤ e) (h1 : e ≤ 16777215) (k0 : 0 ≤ n) (k1 : n ≤ 2147483647) (w : World) :
    Calls Tryd.prog 12 #[.agg #[.int .i64 e, .int .i64 n, .bool l, .bool d, .bool a]] w fun r w' => r = .returned (.int .u64 (wordV e n + b2i l + 2 * b2i d + 4 * b2i a)) ∧ Below w.heap.size w w' := by
  cases l <;> cases d <;> cases a
  all_goals
    go_enter Tryd.func12, Tryd.ntmps12
    go_wp2
    go_ret
    exact ⟨ret_int (by unfold wordV; simp [b2i]; try omega), (Below.refl _ _).alloc (Nat.le_refl _) _⟩
theorem to_bare (e n v : Int) (h0 : 0 ≤ e) (h1 : e ≤ 16777215) (k0 : 0 ≤ n) (k1 : n ≤ 2147483647) (hv : wordV e n = v) (w : World) :
    Calls Tryd.prog 12 #[.agg #[.int .i64 e, .int .i64 n, .bool false, .bool false, .bool false]] w fun r w' => r = .returned (.int .u64 v) ∧ Below w.heap.size w w' :=
  (to_any e n false false false h0 h1 k0 k1 w).mono fun _ _ ⟨a, b⟩ => ⟨by rw [a]; exact ret_int (by simp [b2i]; exact hv), b⟩

theorem word_facts (e n : Int) (h0 : 0 ≤ e) (h1 : e ≤ 16777215) (k0 : 0 ≤ n) (k1 : n ≤ 2147483647) : 0 ≤ wordV e n ∧ wordV e n < 18446744073709551616 ∧ epV (wordV e n) = e ∧ nuV (wordV e n) = n ∧ mayB (wordV e n) = true ∧ bitB (wordV e n) 1 = false ∧ bitB (wordV e n) 2 = false ∧ bitB (wordV e n) 4 = false := by
  unfold wordV epV nuV mayB bitB
  simp only [decide_eq_true_eq, decide_eq_false_iff_not]
  omega

/-! TidWords. -/
theorem words_bad (e n : Int) (h : e < 0 ∨ 16777215 < e ∨ n < 0 ∨ 2147483647 < n) (w : World) (m : Int) (hm : w.cell? ⟨1, 0, none⟩ = some (.int .i64 m)) :
    Calls Tryd.prog 3 #[.int .i64 e, .int .i64 n] w fun e w' => e = .returned (.bool true) ∧ Below w.heap.size w w' := by
  have H := Lib.hid hm; clear hm
  have HB := Lib.hid h
  rcases (show e < 0 ∨ (0 ≤ e ∧ 16777215 < e) ∨ (0 ≤ e ∧ e ≤ 16777215 ∧ n < 0) ∨ (0 ≤ e ∧ e ≤ 16777215 ∧ 0 ≤ n ∧ 2147483647 < n) from by omega) with a | ⟨a, b⟩ | ⟨a, b, c⟩ | ⟨a, b, c, d⟩
  all_goals clear h
  · go_enter Tryd.func3, Tryd.ntmps3
    go_wp2_with fail
    refine (word_bad _ _ HB.out _).mono ?_; rintro e w' ⟨rfl, rfl⟩
    go_wp2_with fail
    refine (known_at H.out (Below.refl _ _)).mono ?_; rintro e W1 ⟨rfl, B1⟩
    go_wp2_with fail
    go_ret
    exact ⟨rfl, B1⟩
  · go_enter Tryd.func3, Tryd.ntmps3
    go_wp2_with fail
    refine (word_bad _ _ HB.out _).mono ?_; rintro e w' ⟨rfl, rfl⟩
    go_wp2_with fail
    refine (known_at H.out (Below.refl _ _)).mono ?_; rintro e W1 ⟨rfl, B1⟩
    go_wp2_with fail
    go_ret
    exact ⟨rfl, B1⟩
  · go_enter Tryd.func3, Tryd.ntmps3
    go_wp2_with fail
    refine (word_bad _ _ HB.out _).mono ?_; rintro e w' ⟨rfl, rfl⟩
    go_wp2_with fail
    refine (known_at H.out (Below.refl _ _)).mono ?_; rintro e W1 ⟨rfl, B1⟩
    go_wp2_with fail
    go_ret
    exact ⟨rfl, B1⟩
  · go_enter Tryd.func3, Tryd.ntmps3
    go_wp2_with fail
    refine (word_bad _ _ HB.out _).mono ?_; rintro e w' ⟨rfl, rfl⟩
    go_wp2_with fail
    refine (known_at H.out (Below.refl _ _)).mono ?_; rintro e W1 ⟨rfl, B1⟩
    go_wp2_with fail
    go_ret
    exact ⟨rfl, B1⟩

theorem words_ok (e n : Int) (h0 : 0 ≤ e) (h1 : e ≤ 16777215) (k0 : 0 ≤ n) (k1 : n ≤ 2147483647) (w : World) (m : Int) (hm : w.cell? ⟨1, 0, none⟩ = some (.int .i64 m)) :
    Calls Tryd.prog 3 #[.int .i64 e, .int .i64 n] w fun e w' => e = .returned (.bool true) ∧ Below w.heap.size w w' := by
  have H := Lib.hid hm; clear hm
  obtain ⟨f0, f1, f2, f3, f4, f5, f6, f7⟩ := word_facts e n h0 h1 k0 k1
  go_enter Tryd.func3, Tryd.ntmps3
  go_wp2_with fail
  refine (word_ok _ _ h0 h1 k0 k1 _).mono ?_; rintro e w' ⟨rfl, rfl⟩
  have a0 := (Below.refl w.heap.size w).alloc (Nat.le_refl _) (.cells #[.int .i64 e, .int .i64 n, .bool false, .bool false, .bool false] 28)
  go_wp2_with fail
  refine (to_bare _ _ _ h0 h1 k0 k1 rfl _).mono ?_; rintro e W1 ⟨rfl, B1⟩
  replace B1 := a0.trans (B1.mono (by simp)); clear a0
  go_wp2_with fail
  refine (epoch_any _ f0 f1 _).mono ?_; rintro e w' ⟨rfl, rfl⟩
  go_wp2_with fail
  refine (number_any _ f0 f1 _).mono ?_; rintro e w' ⟨rfl, rfl⟩
  go_wp2_with fail
  refine (may_any _ f0 f1 _).mono ?_; rintro e w' ⟨rfl, rfl⟩
  go_wp2_with fail
  refine (locked_any _ f0 f1 _).mono ?_; rintro e w' ⟨rfl, rfl⟩
  go_wp2_with fail
  refine (dead_any _ f0 f1 _).mono ?_; rintro e w' ⟨rfl, rfl⟩
  go_wp2_with fail
  refine (absent_any _ f0 f1 _).mono ?_; rintro e w' ⟨rfl, rfl⟩
  go_wp2_with fail
  refine (known_at H.out B1).mono ?_; rintro e W2 ⟨rfl, B2⟩
  replace B2 := step_below B1 B2; clear B1
  go_wp2_with fail
  go_ret
  exact ⟨rfl, B2⟩

theorem words_law (e n : Int) (w : World) (m : Int) (hm : w.cell? ⟨1, 0, none⟩ = some (.int .i64 m)) :
    Calls Tryd.prog 3 #[.int .i64 e, .int .i64 n] w fun e w' => e = .returned (.bool true) ∧ Below w.heap.size w w' := by
  by_cases h : e < 0 ∨ 16777215 < e ∨ n < 0 ∨ 2147483647 < n
  · exact words_bad e n h w m hm
  · exact words_ok e n (by omega) (by omega) (by omega) (by omega) w m hm

end Go.Proofs.YtfdboihfgpibcaaDoor
