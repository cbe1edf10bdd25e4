/- The functions of layer 7, each by a contract. -/
import Derived.Test.YtfdboihfgpibcaaDoorRows
import Derived.Test.YtfdboihfgpibcaaDoorMath
import Derived.WalkKit
import Derived.ProofKit
import Derived.Outline
import Derived.WalkLawsBesides
import Derived.WalkSpells
import Derived.Lib.Hide
import Derived.Below
import Derived.WalkSmall
import Derived.Laws.Rows
namespace Go.Proofs.YtfdboihfgpibcaaDoor
open Go.ChangeShapes Go.WideShapes Go.ChangeAt Go.RowKit
open TM

theorem ret_bool {a b : Bool} (h : a = b) : Ending.returned (.bool a) = .returned (.bool b) := by rw [h]
theorem ret_int {k : IntKind} {a b : Int} (h : a = b) : Ending.returned (.int k a) = .returned (.int k b) := by rw [h]
theorem ret_two {k l : IntKind} {a b c d : Int} (h : a = b) (h' : c = d) : Ending.returned (.tuple #[.int k a, .int l c]) = .returned (.tuple #[.int k b, .int l d]) := by rw [h, h']
theorem step_below {w a b : World} (h : Below w.heap.size w a) (k : Below a.heap.size a b) : Below w.heap.size w b := h.trans (k.mono h.size)

theorem epoch_any (x : Int) (h0 : 0 ≤ x) (h1 : x < 18446744073709551616) (w : World) : Calls Tryd.prog 13 #[.int .u64 x] w fun e w' => e = .returned (.int .i64 (epV x)) ∧ w = w' := by
  have hv : bits .and .u64 (x / 17179869184) 16777215 = epV x := and16777215 _ (by omega) (by omega)
  have hb : 0 ≤ epV x ∧ epV x < 16777216 := by unfold epV; omega
  go_enter Tryd.func13, Tryd.ntmps13
  go_wp2
  go_ret
  exact ⟨rfl, rfl⟩
theorem number_any (x : Int) (h0 : 0 ≤ x) (h1 : x < 18446744073709551616) (w : World) : Calls Tryd.prog 14 #[.int .u64 x] w fun e w' => e = .returned (.int .i64 (nuV x)) ∧ w = w' := by
  have hv : bits .and .u64 (x / 8) 2147483647 = nuV x := and2147483647 _ (by omega) (by omega)
  have hb : 0 ≤ nuV x ∧ nuV x < 2147483648 := by unfold nuV; omega
  go_enter Tryd.func14, Tryd.ntmps14
  go_wp2
  go_ret
  exact ⟨rfl, rfl⟩
theorem may_any (x : Int) (h0 : 0 ≤ x) (h1 : x < 18446744073709551616) (w : World) : Calls Tryd.prog 15 #[.int .u64 x] w fun e w' => e = .returned (.bool (mayB x)) ∧ w = w' := by
  go_enter Tryd.func15, Tryd.ntmps15
  go_wp2
  go_ret
  exact ⟨ret_bool (by unfold mayB; rw [Bool.eq_iff_iff]; simp only [beq_iff_eq, decide_eq_true_eq]; omega), rfl⟩
theorem locked_any (x : Int) (h0 : 0 ≤ x) (h1 : x < 18446744073709551616) (w : World) : Calls Tryd.prog 16 #[.int .u64 x] w fun e w' => e = .returned (.bool (bitB x 1)) ∧ w = w' := by
  have hv := Lib.hid (bits_pos x 1 ((and1 x h0 h1).trans (by omega)) (by decide))
  go_enter Tryd.func16, Tryd.ntmps16
  go_wp2
  go_ret
  exact ⟨ret_bool hv.out, rfl⟩
theorem dead_any (x : Int) (h0 : 0 ≤ x) (h1 : x < 18446744073709551616) (w : World) : Calls Tryd.prog 17 #[.int .u64 x] w fun e w' => e = .returned (.bool (bitB x 2)) ∧ w = w' := by
  have hv := Lib.hid (bits_pos x 2 (and2 x h0 h1) (by decide))
  go_enter Tryd.func17, Tryd.ntmps17
  go_wp2
  go_ret
  exact ⟨ret_bool hv.out, rfl⟩
theorem absent_any (x : Int) (h0 : 0 ≤ x) (h1 : x < 18446744073709551616) (w : World) : Calls Tryd.prog 18 #[.int .u64 x] w fun e w' => e = .returned (.bool (bitB x 4)) ∧ w = w' := by
  have hv := Lib.hid (bits_pos x 4 (and4 x h0 h1) (by decide))
  go_enter Tryd.func18, Tryd.ntmps18
  go_wp2
  go_ret
  exact ⟨ret_bool hv.out, rfl⟩
theorem bare_any (x : Int) (h0 : 0 ≤ x) (h1 : x < 18446744073709551616) (w : World) : Calls Tryd.prog 20 #[.int .u64 x] w fun e w' => e = .returned (.int .u64 (bareV x)) ∧ w = w' := by
  have hv : bits .andNot .u64 x 7 = bareV x := by rw [not7 x h0 h1, and7 x h0 h1]; rfl
  go_enter Tryd.func20, Tryd.ntmps20
  go_wp2
  go_ret
  exact ⟨ret_int rfl, rfl⟩

theorem word_bad (e n : Int) (h : e < 0 ∨ 16777215 < e ∨ n < 0 ∨ 2147483647 < n) (w : World) :
    Calls Tryd.prog 10 #[.int .i64 e, .int .i64 n] w fun e w' => e = .returned (.tuple #[.int .u64 0, .int .i64 2]) ∧ w = w' := by
  by_cases a : e < 0
  · go_enter Tryd.func10, Tryd.ntmps10
    go_wp2
    go_ret2
    exact ⟨rfl, rfl⟩
  · by_cases b : 16777215 < e
    · go_enter Tryd.func10, Tryd.ntmps10
      go_wp2
      go_ret2
      exact ⟨rfl, rfl⟩
    · by_cases c : n < 0
      · go_enter Tryd.func10, Tryd.ntmps10
        go_wp2
        go_ret2
        exact ⟨rfl, rfl⟩
      · have d : 2147483647 < n := by omega
        go_enter Tryd.func10, Tryd.ntmps10
        go_wp2
        go_ret2
        exact ⟨rfl, rfl⟩
theorem word_ok (e n : Int) (h0 : 0 ≤ e) (h1 : e ≤ 16777215) (k0 : 0 ≤ n) (k1 : n ≤ 2147483647) (w : World) :
    Calls Tryd.prog 10 #[.int .i64 e, .int .i64 n] w fun r w' => r = .returned (.tuple #[.int .u64 (wordV e n), .int .i64 0]) ∧ w = w' := by
  have hv := Lib.hid (word_or e n h0 h1 k0 k1)
  go_enter Tryd.func10, Tryd.ntmps10
  go_wp2
  go_ret2
  exact ⟨ret_two hv.out rfl, rfl⟩

theorem less_any (x y : Int) (h0 : 0 ≤ x) (h1 : x < 18446744073709551616) (k0 : 0 ≤ y) (k1 : y < 18446744073709551616) (w : World) :
    Calls Tryd.prog 24 #[.int .u64 x, .int .u64 y] w fun e w' => e = .returned (.bool (lessB x y)) ∧ w = w' := by
  by_cases c : epV x = epV y
  · have c' : (epV x != epV y) = false := by simp [c]
    have E := Lib.hid (show lessB x y = decide (nuV x < nuV y) by unfold lessB; rw [if_pos c])
    clear c
    go_enter Tryd.func24, Tryd.ntmps24
    go_wp2_with fail
    refine (epoch_any x h0 h1 _).mono ?_; rintro e w' ⟨rfl, rfl⟩
    go_wp2_with fail
    refine (epoch_any y k0 k1 _).mono ?_; rintro e w' ⟨rfl, rfl⟩
    go_wp2_with fail
    refine (number_any x h0 h1 _).mono ?_; rintro e w' ⟨rfl, rfl⟩
    go_wp2_with fail
    refine (number_any y k0 k1 _).mono ?_; rintro e w' ⟨rfl, rfl⟩
    go_wp2_with fail
    go_ret
    exact ⟨ret_bool E.out.symm, rfl⟩
  · have c' : (epV x != epV y) = true := by simp [c]
    have E := Lib.hid (show lessB x y = decide (epV x < epV y) by unfold lessB; rw [if_neg c])
    clear c
    go_enter Tryd.func24, Tryd.ntmps24
    go_wp2_with fail
    refine (epoch_any x h0 h1 _).mono ?_; rintro e w' ⟨rfl, rfl⟩
    go_wp2_with fail
    refine (epoch_any y k0 k1 _).mono ?_; rintro e w' ⟨rfl, rfl⟩
    go_wp2_with fail
    refine (epoch_any x h0 h1 _).mono ?_; rintro e w' ⟨rfl, rfl⟩
    go_wp2_with fail
    refine (epoch_any y k0 k1 _).mono ?_; rintro e w' ⟨rfl, rfl⟩
    go_wp2_with fail
    go_ret
    exact ⟨ret_bool E.out.symm, rfl⟩

theorem next_arg (x : Int) (h0 : 0 ≤ x) (h1 : x < 18446744073709551616) (hm : mayB x = false) (w : World) :
    Calls Tryd.prog 22 #[.int .u64 x] w fun e w' => e = .returned (.tuple #[.int .u64 0, .int .i64 2]) ∧ w = w' := by
  go_enter Tryd.func22, Tryd.ntmps22
  go_wp2_with (go_at_call 15; refine (may_any _ h0 h1 _).mono ?_; rintro e w' ⟨rfl, rfl⟩)
  go_ret2
  exact ⟨rfl, rfl⟩
theorem next_full (x : Int) (h0 : 0 ≤ x) (h1 : x < 18446744073709551616) (hm : mayB x = true) (hn : nuV x = 2147483647) (w : World) :
    Calls Tryd.prog 22 #[.int .u64 x] w fun e w' => e = .returned (.tuple #[.int .u64 0, .int .i64 5]) ∧ w = w' := by
  go_enter Tryd.func22, Tryd.ntmps22
  go_wp2_with (first | (go_at_call 15; refine (may_any _ h0 h1 _).mono ?_; rintro e w' ⟨rfl, rfl⟩) | (go_at_call 14; refine (number_any _ h0 h1 _).mono ?_; rintro e w' ⟨rfl, rfl⟩))
  go_ret2
  exact ⟨rfl, rfl⟩
theorem next_ok (x : Int) (h0 : 0 ≤ x) (h1 : x < 18446744073709551616) (hm : mayB x = true) (hn : ¬ nuV x = 2147483647) (w : World) :
    Calls Tryd.prog 22 #[.int .u64 x] w fun e w' => e = .returned (.tuple #[.int .u64 (bareV x + 8), .int .i64 0]) ∧ w = w' := by
  have hb : (nuV x == 2147483647) = false := by simp [hn]
  have hl : x < 288230376151711744 := by unfold mayB at hm; simpa using hm
  have h2 : 0 ≤ bareV x ∧ bareV x ≤ x := by unfold bareV; omega
  clear hn
  go_enter Tryd.func22, Tryd.ntmps22
  go_wp2_with (first | (go_at_call 15; refine (may_any _ h0 h1 _).mono ?_; rintro e w' ⟨rfl, rfl⟩) | (go_at_call 14; refine (number_any _ h0 h1 _).mono ?_; rintro e w' ⟨rfl, rfl⟩) | (go_at_call 20; refine (bare_any _ h0 h1 _).mono ?_; rintro e w' ⟨rfl, rfl⟩))
  go_ret2
  exact ⟨rfl, rfl⟩
theorem advance_arg (x : Int) (h0 : 0 ≤ x) (h1 : x < 18446744073709551616) (hm : mayB x = false) (w : World) :
    Calls Tryd.prog 23 #[.int .u64 x] w fun e w' => e = .returned (.tuple #[.int .u64 0, .int .i64 2]) ∧ w = w' := by
  go_enter Tryd.func23, Tryd.ntmps23
  go_wp2_with (go_at_call 15; refine (may_any _ h0 h1 _).mono ?_; rintro e w' ⟨rfl, rfl⟩)
  go_ret2
  exact ⟨rfl, rfl⟩
theorem advance_full (x : Int) (h0 : 0 ≤ x) (h1 : x < 18446744073709551616) (hm : mayB x = true) (hn : epV x = 16777215) (w : World) :
    Calls Tryd.prog 23 #[.int .u64 x] w fun e w' => e = .returned (.tuple #[.int .u64 0, .int .i64 5]) ∧ w = w' := by
  go_enter Tryd.func23, Tryd.ntmps23
  go_wp2_with (first | (go_at_call 15; refine (may_any _ h0 h1 _).mono ?_; rintro e w' ⟨rfl, rfl⟩) | (go_at_call 13; refine (epoch_any _ h0 h1 _).mono ?_; rintro e w' ⟨rfl, rfl⟩))
  go_ret2
  exact ⟨rfl, rfl⟩
theorem advance_ok (x : Int) (h0 : 0 ≤ x) (h1 : x < 18446744073709551616) (hm : mayB x = true) (hn : ¬ epV x = 16777215) (w : World) :
    Calls Tryd.prog 23 #[.int .u64 x] w fun e w' => e = .returned (.tuple #[.int .u64 (bareV x + 17179869184), .int .i64 0]) ∧ w = w' := by
  have hb : (epV x == 16777215) = false := by simp [hn]
  have hl : x < 288230376151711744 := by unfold mayB at hm; simpa using hm
  have h2 : 0 ≤ bareV x ∧ bareV x ≤ x := by unfold bareV; omega
  clear hn
  go_enter Tryd.func23, Tryd.ntmps23
  go_wp2_with (first | (go_at_call 15; refine (may_any _ h0 h1 _).mono ?_; rintro e w' ⟨rfl, rfl⟩) | (go_at_call 13; refine (epoch_any _ h0 h1 _).mono ?_; rintro e w' ⟨rfl, rfl⟩) | (go_at_call 20; refine (bare_any _ h0 h1 _).mono ?_; rintro e w' ⟨rfl, rfl⟩))
  go_ret2
  exact ⟨rfl, rfl⟩

/-! with: the bits one behind the other. -/
def wk (x : Int) (l d a : Bool) : Nat → Int
  | 0 => bareV x
  | 1 => bareV x + b2i l
  | 2 => bareV x + b2i l + 2 * b2i d
  | _ => bareV x + b2i l + 2 * b2i d + 4 * b2i a
theorem with_any (x : Int) (h0 : 0 ≤ x) (h1 : x < 18446744073709551616) (l d a : Bool) (w : World) :
    Calls Tryd.prog 21 #[.int .u64 x, .bool l, .bool d, .bool a] w fun e w' => e = .returned (.int .u64 (withV x l d a)) ∧ w = w' := by
  have i0 : ∀ w, (Instr.index 41 (.agg #[.bool l, .bool d, .bool a]) (.int .i64 0)).run Tryd.prog w = .ok (.bool l) w := fun _ => by kernel_rfl
  have i1 : ∀ w, (Instr.index 41 (.agg #[.bool l, .bool d, .bool a]) (.int .i64 1)).run Tryd.prog w = .ok (.bool d) w := fun _ => by kernel_rfl
  have i2 : ∀ w, (Instr.index 41 (.agg #[.bool l, .bool d, .bool a]) (.int .i64 2)).run Tryd.prog w = .ok (.bool a) w := fun _ => by kernel_rfl
  have p0 : 0 ≤ bareV x ∧ bareV x % 8 = 0 ∧ bareV x < 18446744073709551616 := by unfold bareV; omega
  have o1 : Hid (bits .or .u64 (bareV x) 1 = bareV x + 1) := Lib.hid (by rw [or1 _ p0.1 p0.2.2, and1 _ p0.1 p0.2.2]; omega)
  have q1 := b2i_bd l
  have o2 : Hid (bits .or .u64 (bareV x + b2i l) 2 = bareV x + b2i l + 2) := Lib.hid (by rw [or2 _ (by omega) (by omega), and2 _ (by omega) (by omega)]; omega)
  have q2 := b2i_bd d
  have o3 : Hid (bits .or .u64 (bareV x + b2i l + 2 * b2i d) 4 = bareV x + b2i l + 2 * b2i d + 4) := Lib.hid (by rw [or4 _ (by omega) (by omega), and4 _ (by omega) (by omega)]; omega)
  clear p0 q1 q2
  go_enter Tryd.func21, Tryd.ntmps21
  go_wp2_with (go_at_call 20; refine (bare_any _ h0 h1 _).mono ?_; rintro e w' ⟨rfl, rfl⟩)
  go_loop [0, 17] (fun v i => ∃ k : Nat, k ≤ 3 ∧ i = .int .i64 k ∧ v = .int .u64 (wk x l d a k)) (fun _ i => 3 - (intOf i).toNat)
  case atStart => exact ⟨0, by omega, rfl, rfl⟩
  case round =>
    obtain ⟨k, hk, rfl, rfl⟩ := hrel
    rcases (show k = 0 ∨ k = 1 ∨ k = 2 ∨ k = 3 from by omega) with rfl | rfl | rfl | rfl
    · cases l
      all_goals
        go_wp2
        go_round
        case rel => exact ⟨1, by omega, rfl, by first | rfl | (show Value.int .u64 (bits .or .u64 (bareV x) 1) = _; rw [o1.out]; rfl) | (show Value.int .u64 (bareV x) = _; simp [wk, b2i])⟩
        case measure => simp [intOf]
    · cases d
      all_goals
        go_wp2
        go_round
        case rel => exact ⟨2, by omega, rfl, by first | rfl | (show Value.int .u64 (bits .or .u64 (bareV x + b2i l) 2) = _; rw [o2.out]; rfl) | (show Value.int .u64 (bareV x + b2i l) = _; simp [wk, b2i])⟩
        case measure => simp [intOf]
    · cases a
      all_goals
        go_wp2
        go_round
        case rel => exact ⟨3, by omega, rfl, by first | rfl | (show Value.int .u64 (bits .or .u64 (bareV x + b2i l + 2 * b2i d) 4) = _; rw [o3.out]; rfl) | (show Value.int .u64 (bareV x + b2i l + 2 * b2i d) = _; simp [wk, b2i])⟩
        case measure => simp [intOf]
    · go_wp2
      go_ret
      exact ⟨ret_int rfl, rfl⟩

end Go.Proofs.YtfdboihfgpibcaaDoor
