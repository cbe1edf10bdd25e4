/- The functions of layer 10, each by a contract: what it returns, by sums, quotients and rests. -/
import Derived.Test.YtleodeoopckfjaaRows
import Derived.Test.YtleodeoopckfjaaMath
import Derived.WalkKit
import Derived.ProofKit
import Derived.Outline
import Derived.WalkLawsBesides
import Derived.Deep.QuietTactic
import Derived.BigQuiet
import Derived.Lib.Hide
import Derived.Below
import Derived.WalkSmall
namespace Go.Proofs.Ytleodeoopckfjaa
open Go.ChangeShapes Go.WideShapes Go.ChangeAt Go.RowKit
open VM

theorem ret_bool {a b : Bool} (h : a = b) : Ending.returned (.bool a) = .returned (.bool b) := by rw [h]
theorem ret_int {k : IntKind} {a b : Int} (h : a = b) : Ending.returned (.int k a) = .returned (.int k b) := by rw [h]
theorem ret_two {k l : IntKind} {a b c d : Int} (h : a = b) (h' : c = d) : Ending.returned (.tuple #[.int k a, .int l c]) = .returned (.tuple #[.int k b, .int l d]) := by rw [h, h']

theorem may_any (x : Int) (h0 : 0 ≤ x) (h1 : x < 18446744073709551616) (w : World) :
    Calls Try.prog 9 #[.int .u64 x] w fun e w' => e = .returned (.bool (mayB x)) ∧ w = w' := by
  go_enter Try.func9, Try.ntmps9
  go_wp2
  go_ret
  exact ⟨ret_bool (may_eq x h0 h1), rfl⟩

theorem lawmay_any (x : Int) (h0 : 0 ≤ x) (h1 : x < 18446744073709551616) (w : World) :
    Calls Try.prog 10 #[.int .u64 x] w fun e w' => e = .returned (.bool (mayB x)) ∧ w = w' := by
  by_cases a : x < 72057594037927936
  · go_enter Try.func10, Try.ntmps10
    go_wp2
    go_ret
    exact ⟨ret_bool (by unfold mayB; rw [Bool.eq_iff_iff]; simp only [beq_iff_eq, Bool.and_eq_true, decide_eq_true_eq]; omega), rfl⟩
  · go_enter Try.func10, Try.ntmps10
    go_wp2
    go_ret
    exact ⟨ret_bool (by unfold mayB; rw [decide_eq_false (show ¬ x < 72057594037927936 by omega)]; rfl), rfl⟩

theorem still_any (x : Int) (h0 : 0 ≤ x) (h1 : x < 18446744073709551616) (w : World) :
    Calls Try.prog 11 #[.int .u64 x] w fun e w' => e = .returned (.bool (stillB x)) ∧ w = w' := by
  go_enter Try.func11, Try.ntmps11
  go_wp2
  go_ret
  exact ⟨ret_bool (still_eq x h0 h1), rfl⟩

theorem bit_any (x k : Int) (h0 : 0 ≤ x) (h1 : x < 18446744073709551616) (k0 : 1 ≤ k) (k1 : k < 18446744073709551616) (w : World) :
    Calls Try.prog 12 #[.int .u64 x, .int .u64 k] w fun e w' => e = .returned (.bool (bitB x k)) ∧ w = w' := by
  have hq0 : 0 ≤ x / k := Int.ediv_nonneg h0 (by omega)
  have hq1 : x / k ≤ x := Int.ediv_le_self _ h0
  go_enter Try.func12, Try.ntmps12
  go_wp2
  go_ret
  refine ⟨ret_bool ?_, rfl⟩
  unfold bitB
  rw [Bool.eq_iff_iff]
  simp

theorem has_any (x y : Int) (w : World) :
    Calls Try.prog 13 #[.int .u64 x, .int .u64 y] w fun e w' => e = .returned (.bool (bits .and .u64 x y == y)) ∧ w = w' := by
  go_enter Try.func13, Try.ntmps13
  go_wp2
  go_ret
  exact ⟨rfl, rfl⟩

theorem inserts_any (x : Int) (h0 : 0 ≤ x) (h1 : x < 18446744073709551616) (w : World) :
    Calls Try.prog 14 #[.int .u64 x] w fun e w' => e = .returned (.int .i64 (x / 256 % 65536)) ∧ w = w' := by
  go_enter Try.func14, Try.ntmps14
  go_wp2
  go_ret
  exact ⟨ret_int (by rw [inserts_eq x h0 h1]; exact IntWalk.wrap64_in _ (by omega)), rfl⟩

theorem splits_any (x : Int) (h0 : 0 ≤ x) (h1 : x < 18446744073709551616) (w : World) :
    Calls Try.prog 15 #[.int .u64 x] w fun e w' => e = .returned (.int .i64 (x / 16777216 % 4294967296)) ∧ w = w' := by
  go_enter Try.func15, Try.ntmps15
  go_wp2
  go_ret
  exact ⟨ret_int (by rw [splits_eq x h0 h1]; exact IntWalk.wrap64_in _ (by omega)), rfl⟩

theorem root_any (x : Int) (b : Bool) (h0 : 0 ≤ x) (h1 : x < 18446744073709551616) (w : World) :
    Calls Try.prog 16 #[.int .u64 x, .bool b] w fun e w' => e = .returned (.int .u64 (rootV x b)) ∧ w = w' := by
  cases b
  · go_enter Try.func16, Try.ntmps16
    go_wp2
    go_ret
    exact ⟨ret_int (by rw [not16 x h0 h1, and16 x h0 h1]; rfl), rfl⟩
  · go_enter Try.func16, Try.ntmps16
    go_wp2
    go_ret
    exact ⟨ret_int (by rw [or16 x h0 h1, and16 x h0 h1]; rfl), rfl⟩

theorem new_any (r b : Bool) (w : World) :
    Calls Try.prog 8 #[.bool r, .bool b] w fun e w' => e = .returned (.int .u64 ((if r then 16 else 0) + if b then 32 else 0)) ∧ w = w' := by
  cases r <;> cases b
  all_goals
    go_enter Try.func8, Try.ntmps8
    go_wp2_with (go_at_call 16; refine (root_any _ _ (by decide) (by decide) _).mono ?_; rintro e w' ⟨rfl, rfl⟩)
    go_ret
    exact ⟨ret_int (by decide), rfl⟩

theorem gone_any (x : Int) (h0 : 0 ≤ x) (h1 : x < 18446744073709551616) (w : World) :
    Calls Try.prog 17 #[.int .u64 x] w fun e w' => e = .returned (.int .u64 (goneV x)) ∧ w = w' := by
  go_enter Try.func17, Try.ntmps17
  go_wp2
  go_ret
  exact ⟨ret_int (by rw [or8 x h0 h1, and8 x h0 h1]; rfl), rfl⟩

theorem got_ok (x : Int) (w : World) :
    Calls Try.prog 19 #[.int .u64 x, .int .i64 0] w fun e w' => e = .returned (.int .u64 x) ∧ w = w' := by
  go_enter Try.func19, Try.ntmps19
  go_wp2
  go_ret
  exact ⟨rfl, rfl⟩

theorem got_bad (x y : Int) (h : 1 ≤ y) (h' : y ≤ 11) (w : World) :
    Calls Try.prog 19 #[.int .u64 x, .int .i64 y] w fun e w' => e = .returned (.int .u64 (9223372036854775808 + y)) ∧ w = w' := by
  go_enter Try.func19, Try.ntmps19
  go_wp2
  go_ret
  exact ⟨rfl, rfl⟩

theorem same_any (x y : Int) (h0 : 0 ≤ x) (h1 : x < 18446744073709551616) (k0 : 0 ≤ y) (k1 : y < 18446744073709551616) (w : World) :
    Calls Try.prog 25 #[.int .u64 x, .int .u64 y] w fun e w' => e = .returned (.bool (sameB x y)) ∧ w = w' := by
  go_enter Try.func25, Try.ntmps25
  go_wp2
  go_ret
  exact ⟨ret_bool (same_eq x y h0 h1 k0 k1), rfl⟩

theorem moved_any (x y : Int) (h0 : 0 ≤ x) (h1 : x < 18446744073709551616) (k0 : 0 ≤ y) (k1 : y < 18446744073709551616) (w : World) :
    Calls Try.prog 26 #[.int .u64 x, .int .u64 y] w fun e w' => e = .returned (.bool (movedB x y)) ∧ w = w' := by
  have e8 := xor8 x y h0 h1 k0 k1
  by_cases a : x / 16777216 % 4294967296 = y / 16777216 % 4294967296
  · have ha : (x / 16777216 % 4294967296 != y / 16777216 % 4294967296) = false := by simp [a]
    have H := Lib.hid a; clear a
    have E := Lib.hid e8; clear e8
    go_enter Try.func26, Try.ntmps26
    go_wp2_with fail
    refine (splits_any _ h0 h1 _).mono ?_; rintro e w' ⟨rfl, rfl⟩
    go_wp2_with fail
    refine (splits_any _ k0 k1 _).mono ?_; rintro e w' ⟨rfl, rfl⟩
    go_wp2_with fail
    go_ret
    exact ⟨ret_bool (by rw [E.out]; unfold movedB; have h := H.out; simp [h]), rfl⟩
  · have ha : (x / 16777216 % 4294967296 != y / 16777216 % 4294967296) = true := by simp [a]
    have H := Lib.hid a; clear a
    clear e8
    go_enter Try.func26, Try.ntmps26
    go_wp2_with fail
    refine (splits_any _ h0 h1 _).mono ?_; rintro e w' ⟨rfl, rfl⟩
    go_wp2_with fail
    refine (splits_any _ k0 k1 _).mono ?_; rintro e w' ⟨rfl, rfl⟩
    go_wp2_with fail
    go_ret
    exact ⟨ret_bool (by unfold movedB; rw [decide_eq_true (H.out)]; rfl), rfl⟩

theorem ask_arg (x : Int) (b : Bool) (f : Value) (h0 : 0 ≤ x) (h1 : x < 18446744073709551616) (hm : mayB x = false) (w : World) :
    Calls Try.prog 27 #[.int .u64 x, .bool b, f] w fun e w' => e = .returned (.tuple #[.int .u64 0, .int .i64 2]) ∧ w = w' := by
  go_enter Try.func27, Try.ntmps27
  go_wp2_with (go_at_call 9; refine (may_any _ h0 h1 _).mono ?_; rintro e w' ⟨rfl, rfl⟩)
  go_ret2
  exact ⟨rfl, rfl⟩

theorem ask_state (x : Int) (b : Bool) (f : Value) (h0 : 0 ≤ x) (h1 : x < 18446744073709551616) (hm : mayB x = true) (hb : (x % 2 == 1) = !b) (w : World) :
    Calls Try.prog 27 #[.int .u64 x, .bool b, f] w fun e w' => e = .returned (.tuple #[.int .u64 0, .int .i64 9]) ∧ w = w' := by
  have ha := and1 x h0 h1
  cases b
  all_goals
    simp only [Bool.not_false, Bool.not_true] at hb
    go_enter Try.func27, Try.ntmps27
    go_wp2_with (first | (go_at_call 9; refine (may_any _ h0 h1 _).mono ?_; rintro e w' ⟨rfl, rfl⟩) | (go_at_call 13; refine (has_any _ _ _).mono ?_; rintro e w' ⟨rfl, rfl⟩))
    go_ret2
    exact ⟨rfl, rfl⟩

theorem lock_arg (x : Int) (h0 : 0 ≤ x) (h1 : x < 18446744073709551616) (hm : mayB x = false) (w : World) :
    Calls Try.prog 20 #[.int .u64 x] w fun e w' => e = .returned (.tuple #[.int .u64 0, .int .i64 2]) ∧ Below w.heap.size w w' := by
  go_enter Try.func20, Try.ntmps20
  go_wp2_with (go_at_call 27; refine (ask_arg x _ _ h0 h1 hm _).mono ?_; rintro e w' ⟨rfl, rfl⟩)
  go_ret2
  exact ⟨rfl, (Below.refl _ _).alloc (Nat.le_refl _) _⟩

theorem lock_state (x : Int) (h0 : 0 ≤ x) (h1 : x < 18446744073709551616) (hm : mayB x = true) (hb : x % 2 = 1) (w : World) :
    Calls Try.prog 20 #[.int .u64 x] w fun e w' => e = .returned (.tuple #[.int .u64 0, .int .i64 9]) ∧ Below w.heap.size w w' := by
  have hb' : (x % 2 == 1) = !false := by simp [hb]
  clear hb
  have HB := Lib.hid hb'; clear hb'
  go_enter Try.func20, Try.ntmps20
  go_wp2_with (go_at_call 27; refine (ask_state x _ _ h0 h1 hm HB.out _).mono ?_; rintro e w' ⟨rfl, rfl⟩)
  go_ret2
  exact ⟨rfl, (Below.refl _ _).alloc (Nat.le_refl _) _⟩

theorem lock_ok (x : Int) (h0 : 0 ≤ x) (h1 : x < 18446744073709551616) (hm : mayB x = true) (hb : x % 2 = 0) (w : World) :
    Calls Try.prog 20 #[.int .u64 x] w fun e w' => e = .returned (.tuple #[.int .u64 (x + 1), .int .i64 0]) ∧ Below w.heap.size w w' := by
  have ha : bits .and .u64 x 1 = 0 := (and1 x h0 h1).trans hb
  have hv : bits .or .u64 x 1 = x + 1 := by rw [or1 x h0 h1, ha]; omega
  clear hb
  go_enter Try.func20, Try.ntmps20
  go_wp2_with (first | (go_at_call 9; refine (may_any _ h0 h1 _).mono ?_; rintro e w' ⟨rfl, rfl⟩) | (go_at_call 13; refine (has_any _ _ _).mono ?_; rintro e w' ⟨rfl, rfl⟩) | go_in)
  go_ret2
  exact ⟨rfl, (Below.refl _ _).alloc (Nat.le_refl _) _⟩

theorem insert_arg (x : Int) (h0 : 0 ≤ x) (h1 : x < 18446744073709551616) (hm : mayB x = false) (w : World) :
    Calls Try.prog 21 #[.int .u64 x] w fun e w' => e = .returned (.tuple #[.int .u64 0, .int .i64 2]) ∧ Below w.heap.size w w' := by
  go_enter Try.func21, Try.ntmps21
  go_wp2_with (go_at_call 27; refine (ask_arg x _ _ h0 h1 hm _).mono ?_; rintro e w' ⟨rfl, rfl⟩)
  go_ret2
  exact ⟨rfl, (Below.refl _ _).alloc (Nat.le_refl _) _⟩

theorem insert_state (x : Int) (h0 : 0 ≤ x) (h1 : x < 18446744073709551616) (hm : mayB x = true) (hb : x % 2 = 0) (w : World) :
    Calls Try.prog 21 #[.int .u64 x] w fun e w' => e = .returned (.tuple #[.int .u64 0, .int .i64 9]) ∧ Below w.heap.size w w' := by
  have hb' : (x % 2 == 1) = !true := by simp [hb]
  clear hb
  have HB := Lib.hid hb'; clear hb'
  go_enter Try.func21, Try.ntmps21
  go_wp2_with (go_at_call 27; refine (ask_state x _ _ h0 h1 hm HB.out _).mono ?_; rintro e w' ⟨rfl, rfl⟩)
  go_ret2
  exact ⟨rfl, (Below.refl _ _).alloc (Nat.le_refl _) _⟩

theorem insert_ok (x : Int) (h0 : 0 ≤ x) (h1 : x < 18446744073709551616) (hm : mayB x = true) (hb : x % 2 = 1) (w : World) :
    Calls Try.prog 21 #[.int .u64 x] w fun e w' => e = .returned (.tuple #[.int .u64 (x + 2 - x / 2 % 2 * 2), .int .i64 0]) ∧ Below w.heap.size w w' := by
  have ha : bits .and .u64 x 1 = 1 := (and1 x h0 h1).trans hb
  have hv : bits .or .u64 x 2 = x + 2 - x / 2 % 2 * 2 := by rw [or2 x h0 h1, and2 x h0 h1]
  clear hb
  have HV := Lib.hid hv; clear hv
  go_enter Try.func21, Try.ntmps21
  go_wp2_with (first | (go_at_call 9; refine (may_any _ h0 h1 _).mono ?_; rintro e w' ⟨rfl, rfl⟩) | (go_at_call 13; refine (has_any _ _ _).mono ?_; rintro e w' ⟨rfl, rfl⟩) | go_in)
  go_ret2
  exact ⟨ret_two HV.out rfl, (Below.refl _ _).alloc (Nat.le_refl _) _⟩

theorem split_arg (x : Int) (h0 : 0 ≤ x) (h1 : x < 18446744073709551616) (hm : mayB x = false) (w : World) :
    Calls Try.prog 22 #[.int .u64 x] w fun e w' => e = .returned (.tuple #[.int .u64 0, .int .i64 2]) ∧ Below w.heap.size w w' := by
  go_enter Try.func22, Try.ntmps22
  go_wp2_with (go_at_call 27; refine (ask_arg x _ _ h0 h1 hm _).mono ?_; rintro e w' ⟨rfl, rfl⟩)
  go_ret2
  exact ⟨rfl, (Below.refl _ _).alloc (Nat.le_refl _) _⟩

theorem split_state (x : Int) (h0 : 0 ≤ x) (h1 : x < 18446744073709551616) (hm : mayB x = true) (hb : x % 2 = 0) (w : World) :
    Calls Try.prog 22 #[.int .u64 x] w fun e w' => e = .returned (.tuple #[.int .u64 0, .int .i64 9]) ∧ Below w.heap.size w w' := by
  have hb' : (x % 2 == 1) = !true := by simp [hb]
  clear hb
  have HB := Lib.hid hb'; clear hb'
  go_enter Try.func22, Try.ntmps22
  go_wp2_with (go_at_call 27; refine (ask_state x _ _ h0 h1 hm HB.out _).mono ?_; rintro e w' ⟨rfl, rfl⟩)
  go_ret2
  exact ⟨rfl, (Below.refl _ _).alloc (Nat.le_refl _) _⟩

theorem split_ok (x : Int) (h0 : 0 ≤ x) (h1 : x < 18446744073709551616) (hm : mayB x = true) (hb : x % 2 = 1) (w : World) :
    Calls Try.prog 22 #[.int .u64 x] w fun e w' => e = .returned (.tuple #[.int .u64 (x + 4 - x / 4 % 2 * 4), .int .i64 0]) ∧ Below w.heap.size w w' := by
  have ha : bits .and .u64 x 1 = 1 := (and1 x h0 h1).trans hb
  have hv : bits .or .u64 x 4 = x + 4 - x / 4 % 2 * 4 := by rw [or4 x h0 h1, and4 x h0 h1]
  clear hb
  have HV := Lib.hid hv; clear hv
  go_enter Try.func22, Try.ntmps22
  go_wp2_with (first | (go_at_call 9; refine (may_any _ h0 h1 _).mono ?_; rintro e w' ⟨rfl, rfl⟩) | (go_at_call 13; refine (has_any _ _ _).mono ?_; rintro e w' ⟨rfl, rfl⟩) | go_in)
  go_ret2
  exact ⟨ret_two HV.out rfl, (Below.refl _ _).alloc (Nat.le_refl _) _⟩

theorem unlock_arg (x : Int) (h0 : 0 ≤ x) (h1 : x < 18446744073709551616) (hm : mayB x = false) (w : World) :
    Calls Try.prog 23 #[.int .u64 x] w fun e w' => e = .returned (.tuple #[.int .u64 0, .int .i64 2]) ∧ Below w.heap.size w w' := by
  go_enter Try.func23, Try.ntmps23
  go_wp2_with (go_at_call 27; refine (ask_arg x _ _ h0 h1 hm _).mono ?_; rintro e w' ⟨rfl, rfl⟩)
  go_ret2
  exact ⟨rfl, (Below.refl _ _).alloc (Nat.le_refl _) _⟩

theorem unlock_state (x : Int) (h0 : 0 ≤ x) (h1 : x < 18446744073709551616) (hm : mayB x = true) (hb : x % 2 = 0) (w : World) :
    Calls Try.prog 23 #[.int .u64 x] w fun e w' => e = .returned (.tuple #[.int .u64 0, .int .i64 9]) ∧ Below w.heap.size w w' := by
  have hb' : (x % 2 == 1) = !true := by simp [hb]
  clear hb
  have HB := Lib.hid hb'; clear hb'
  go_enter Try.func23, Try.ntmps23
  go_wp2_with (go_at_call 27; refine (ask_state x _ _ h0 h1 hm HB.out _).mono ?_; rintro e w' ⟨rfl, rfl⟩)
  go_ret2
  exact ⟨rfl, (Below.refl _ _).alloc (Nat.le_refl _) _⟩

theorem count8 (x : Int) (h0 : 0 ≤ x) (h1 : x < 18446744073709551616) (w : World) :
    Calls Try.prog 32 #[.int .u64 x, .int .i64 8, .int .u64 65535] w fun e w' => e = .returned (.int .u64 (count8V x)) ∧ ∃ n, w' = w.drewN n := by
  have g1 : 0 ≤ bits .and .u64 (x / 256 + 1) 65535 ∧ bits .and .u64 (x / 256 + 1) 65535 ≤ 65535 := by rw [and65535 _ (by omega) (by omega)]; omega
  have E := Lib.hid (count8_eq x h0 h1)
  go_enter Try.func32, Try.ntmps32
  go_wp2
  go_quiet (fail)
  go_wp2
  go_ret
  exact ⟨ret_int E.out, _, rfl⟩

theorem count24 (x : Int) (h0 : 0 ≤ x) (h1 : x < 18446744073709551616) (w : World) :
    Calls Try.prog 32 #[.int .u64 x, .int .i64 24, .int .u64 4294967295] w fun e w' => e = .returned (.int .u64 (count24V x)) ∧ ∃ n, w' = w.drewN n := by
  have g1 : 0 ≤ bits .and .u64 (x / 16777216 + 1) 4294967295 ∧ bits .and .u64 (x / 16777216 + 1) 4294967295 ≤ 4294967295 := by rw [and4294967295 _ (by omega) (by omega)]; omega
  have E := Lib.hid (count24_eq x h0 h1)
  go_enter Try.func32, Try.ntmps32
  go_wp2
  go_quiet (fail)
  go_wp2
  go_ret
  exact ⟨ret_int E.out, _, rfl⟩


theorem lawunlocked_11f (x : Int) (h0 : 0 ≤ x) (h1 : x < 18446744073709551616) (hb : x % 2 = 1) (a4 : x / 4 % 2 = 1) (a2 : x / 2 % 2 = 1) (c : x / 16777216 % 4294967296 = 4294967295) (w : World) :
    Calls Try.prog 24 #[.int .u64 x] w fun e w' => e = .returned (.int .u64 (unlockedV x)) ∧ w = w' := by
  have b4 : bitB x 4 = true := by unfold bitB; rw [a4]; rfl
  have b2 : bitB x 2 = true := by unfold bitB; rw [a2]; rfl
  have g : 7 ≤ x := by omega
  have c' : (x - 1 - 2 - 4) / 16777216 % 4294967296 = 4294967295 := by omega
  have g2 : 72057594021150720 ≤ x - 1 - 2 - 4 := by omega
  clear c
  have E : Hid (unlockedV x = _) := Lib.hid (show unlockedV x = x - 1 - 2 - 4 - 72057594021150720 by unfold unlockedV; simp only [a4, a2]; simp; omega)
  clear a4 a2 hb
  go_enter Try.func24, Try.ntmps24
  go_wp2_with (go_at_call 12; refine (bit_any _ _ h0 h1 (by decide) (by decide) _).mono ?_; rintro e w' ⟨rfl, rfl⟩)
  go_ret
  exact ⟨ret_int E.out.symm, rfl⟩

theorem lawunlocked_11n (x : Int) (h0 : 0 ≤ x) (h1 : x < 18446744073709551616) (hb : x % 2 = 1) (a4 : x / 4 % 2 = 1) (a2 : x / 2 % 2 = 1) (hm : x < 72057594037927936) (c : ¬ x / 16777216 % 4294967296 = 4294967295) (w : World) :
    Calls Try.prog 24 #[.int .u64 x] w fun e w' => e = .returned (.int .u64 (unlockedV x)) ∧ w = w' := by
  have b4 : bitB x 4 = true := by unfold bitB; rw [a4]; rfl
  have b2 : bitB x 2 = true := by unfold bitB; rw [a2]; rfl
  have g : 7 ≤ x := by omega
  have c' : ¬ (x - 1 - 2 - 4) / 16777216 % 4294967296 = 4294967295 := by omega
  have g2 : x - 1 - 2 - 4 + 16777216 < 18446744073709551616 := by omega
  clear c
  have E : Hid (unlockedV x = _) := Lib.hid (show unlockedV x = x - 1 - 2 - 4 + 16777216 by unfold unlockedV; simp only [a4, a2]; simp; omega)
  clear a4 a2 hb
  go_enter Try.func24, Try.ntmps24
  go_wp2_with (go_at_call 12; refine (bit_any _ _ h0 h1 (by decide) (by decide) _).mono ?_; rintro e w' ⟨rfl, rfl⟩)
  go_ret
  exact ⟨ret_int E.out.symm, rfl⟩

theorem lawunlocked_10f (x : Int) (h0 : 0 ≤ x) (h1 : x < 18446744073709551616) (hb : x % 2 = 1) (a4 : x / 4 % 2 = 1) (a2 : x / 2 % 2 = 0) (c : x / 16777216 % 4294967296 = 4294967295) (w : World) :
    Calls Try.prog 24 #[.int .u64 x] w fun e w' => e = .returned (.int .u64 (unlockedV x)) ∧ w = w' := by
  have b4 : bitB x 4 = true := by unfold bitB; rw [a4]; rfl
  have b2 : bitB x 2 = false := by unfold bitB; rw [a2]; rfl
  have g : 5 ≤ x := by omega
  have c' : (x - 1 - 4) / 16777216 % 4294967296 = 4294967295 := by omega
  have g2 : 72057594021150720 ≤ x - 1 - 4 := by omega
  clear c
  have E : Hid (unlockedV x = _) := Lib.hid (show unlockedV x = x - 1 - 4 - 72057594021150720 by unfold unlockedV; simp only [a4, a2]; simp; omega)
  clear a4 a2 hb
  go_enter Try.func24, Try.ntmps24
  go_wp2_with (go_at_call 12; refine (bit_any _ _ h0 h1 (by decide) (by decide) _).mono ?_; rintro e w' ⟨rfl, rfl⟩)
  go_ret
  exact ⟨ret_int E.out.symm, rfl⟩

theorem lawunlocked_10n (x : Int) (h0 : 0 ≤ x) (h1 : x < 18446744073709551616) (hb : x % 2 = 1) (a4 : x / 4 % 2 = 1) (a2 : x / 2 % 2 = 0) (hm : x < 72057594037927936) (c : ¬ x / 16777216 % 4294967296 = 4294967295) (w : World) :
    Calls Try.prog 24 #[.int .u64 x] w fun e w' => e = .returned (.int .u64 (unlockedV x)) ∧ w = w' := by
  have b4 : bitB x 4 = true := by unfold bitB; rw [a4]; rfl
  have b2 : bitB x 2 = false := by unfold bitB; rw [a2]; rfl
  have g : 5 ≤ x := by omega
  have c' : ¬ (x - 1 - 4) / 16777216 % 4294967296 = 4294967295 := by omega
  have g2 : x - 1 - 4 + 16777216 < 18446744073709551616 := by omega
  clear c
  have E : Hid (unlockedV x = _) := Lib.hid (show unlockedV x = x - 1 - 4 + 16777216 by unfold unlockedV; simp only [a4, a2]; simp; omega)
  clear a4 a2 hb
  go_enter Try.func24, Try.ntmps24
  go_wp2_with (go_at_call 12; refine (bit_any _ _ h0 h1 (by decide) (by decide) _).mono ?_; rintro e w' ⟨rfl, rfl⟩)
  go_ret
  exact ⟨ret_int E.out.symm, rfl⟩

theorem lawunlocked_01f (x : Int) (h0 : 0 ≤ x) (h1 : x < 18446744073709551616) (hb : x % 2 = 1) (a4 : x / 4 % 2 = 0) (a2 : x / 2 % 2 = 1) (c : x / 256 % 65536 = 65535) (w : World) :
    Calls Try.prog 24 #[.int .u64 x] w fun e w' => e = .returned (.int .u64 (unlockedV x)) ∧ w = w' := by
  have b4 : bitB x 4 = false := by unfold bitB; rw [a4]; rfl
  have b2 : bitB x 2 = true := by unfold bitB; rw [a2]; rfl
  have g : 3 ≤ x := by omega
  have c' : (x - 1 - 2) / 256 % 65536 = 65535 := by omega
  have g2 : 16776960 ≤ x - 1 - 2 := by omega
  clear c
  have E : Hid (unlockedV x = _) := Lib.hid (show unlockedV x = x - 1 - 2 - 16776960 by unfold unlockedV; simp only [a4, a2]; simp; omega)
  clear a4 a2 hb
  go_enter Try.func24, Try.ntmps24
  go_wp2_with (go_at_call 12; refine (bit_any _ _ h0 h1 (by decide) (by decide) _).mono ?_; rintro e w' ⟨rfl, rfl⟩)
  go_ret
  exact ⟨ret_int E.out.symm, rfl⟩

theorem lawunlocked_01n (x : Int) (h0 : 0 ≤ x) (h1 : x < 18446744073709551616) (hb : x % 2 = 1) (a4 : x / 4 % 2 = 0) (a2 : x / 2 % 2 = 1) (hm : x < 72057594037927936) (c : ¬ x / 256 % 65536 = 65535) (w : World) :
    Calls Try.prog 24 #[.int .u64 x] w fun e w' => e = .returned (.int .u64 (unlockedV x)) ∧ w = w' := by
  have b4 : bitB x 4 = false := by unfold bitB; rw [a4]; rfl
  have b2 : bitB x 2 = true := by unfold bitB; rw [a2]; rfl
  have g : 3 ≤ x := by omega
  have c' : ¬ (x - 1 - 2) / 256 % 65536 = 65535 := by omega
  have g2 : x - 1 - 2 + 256 < 18446744073709551616 := by omega
  clear c
  have E : Hid (unlockedV x = _) := Lib.hid (show unlockedV x = x - 1 - 2 + 256 by unfold unlockedV; simp only [a4, a2]; simp; omega)
  clear a4 a2 hb
  go_enter Try.func24, Try.ntmps24
  go_wp2_with (go_at_call 12; refine (bit_any _ _ h0 h1 (by decide) (by decide) _).mono ?_; rintro e w' ⟨rfl, rfl⟩)
  go_ret
  exact ⟨ret_int E.out.symm, rfl⟩

theorem lawunlocked_00 (x : Int) (h0 : 0 ≤ x) (h1 : x < 18446744073709551616) (hb : x % 2 = 1) (a4 : x / 4 % 2 = 0) (a2 : x / 2 % 2 = 0) (w : World) :
    Calls Try.prog 24 #[.int .u64 x] w fun e w' => e = .returned (.int .u64 (unlockedV x)) ∧ w = w' := by
  have b4 : bitB x 4 = false := by unfold bitB; rw [a4]; rfl
  have b2 : bitB x 2 = false := by unfold bitB; rw [a2]; rfl
  have g : 1 ≤ x := by omega
  have E : Hid (unlockedV x = _) := Lib.hid (show unlockedV x = x - 1 by unfold unlockedV; simp only [a4, a2]; simp; omega)
  clear a4 a2 hb
  go_enter Try.func24, Try.ntmps24
  go_wp2_with (go_at_call 12; refine (bit_any _ _ h0 h1 (by decide) (by decide) _).mono ?_; rintro e w' ⟨rfl, rfl⟩)
  go_ret
  exact ⟨ret_int E.out.symm, rfl⟩


theorem may_lt {x : Int} (h : mayB x = true) : x < 72057594037927936 := by
  unfold mayB at h
  simp only [Bool.and_eq_true, decide_eq_true_eq] at h
  exact h.1
theorem may_mk {x : Int} (h : x < 72057594037927936) (h' : x / 64 % 4 = 0) : mayB x = true := by
  unfold mayB
  simp only [Bool.and_eq_true, decide_eq_true_eq]
  exact ⟨h, h'⟩
theorem may_mod {x : Int} (h : mayB x = true) : x / 64 % 4 = 0 := by
  unfold mayB at h
  simp only [Bool.and_eq_true, decide_eq_true_eq] at h
  exact h.2

theorem lawunlocked_any (x : Int) (h0 : 0 ≤ x) (h1 : x < 18446744073709551616) (hm : mayB x = true) (hb : x % 2 = 1) (w : World) :
    Calls Try.prog 24 #[.int .u64 x] w fun e w' => e = .returned (.int .u64 (unlockedV x)) ∧ w = w' := by
  have hl := may_lt hm
  rcases (show (x / 4 % 2 = 1 ∧ x / 2 % 2 = 1) ∨ (x / 4 % 2 = 1 ∧ x / 2 % 2 = 0) ∨ (x / 4 % 2 = 0 ∧ x / 2 % 2 = 1) ∨ (x / 4 % 2 = 0 ∧ x / 2 % 2 = 0) from by omega) with ⟨a, b⟩ | ⟨a, b⟩ | ⟨a, b⟩ | ⟨a, b⟩
  · by_cases c : x / 16777216 % 4294967296 = 4294967295
    · exact lawunlocked_11f x h0 h1 hb a b c w
    · exact lawunlocked_11n x h0 h1 hb a b hl c w
  · by_cases c : x / 16777216 % 4294967296 = 4294967295
    · exact lawunlocked_10f x h0 h1 hb a b c w
    · exact lawunlocked_10n x h0 h1 hb a b hl c w
  · by_cases c : x / 256 % 65536 = 65535
    · exact lawunlocked_01f x h0 h1 hb a b c w
    · exact lawunlocked_01n x h0 h1 hb a b hl c w
  · exact lawunlocked_00 x h0 h1 hb a b w

theorem unlock_s (x : Int) (h0 : 0 ≤ x) (h1 : x < 18446744073709551616) (hm : mayB x = true) (hb : x % 2 = 1) (a4 : x / 4 % 2 = 1) (w : World) :
    Calls Try.prog 23 #[.int .u64 x] w fun e w' => e = .returned (.tuple #[.int .u64 (unlockedV x), .int .i64 0]) ∧ Below w.heap.size w w' := by
  have ha : bits .and .u64 x 1 = 1 := (and1 x h0 h1).trans hb
  have hv : bits .andNot .u64 x 7 = x - x % 8 := by rw [not7 x h0 h1, and7 x h0 h1]
  have g0 : 0 ≤ x - x % 8 := by omega
  have g1 : x - x % 8 < 18446744073709551616 := by omega
  have k4 : bits .and .u64 x 4 = 4 := by rw [and4 x h0 h1, a4]; rfl
  have E : Hid (unlockedV x = count24V (x - x % 8)) := Lib.hid (by rw [cases_unlocked, if_pos a4])
  clear hb a4
  go_enter Try.func23, Try.ntmps23
  go_wp2_with (first | (go_at_call 9; refine (may_any _ h0 h1 _).mono ?_; rintro e w' ⟨rfl, rfl⟩) | (go_at_call 13; refine (has_any _ _ _).mono ?_; rintro e w' ⟨rfl, rfl⟩) | (go_at_call 32; refine (count24 _ g0 g1 _).mono ?_; rintro e w' ⟨rfl, nc, rfl⟩) | go_in)
  go_ret2
  exact ⟨ret_two E.out.symm rfl, below_drewN ((Below.refl _ _).alloc (Nat.le_refl _) _) _⟩

theorem unlock_i (x : Int) (h0 : 0 ≤ x) (h1 : x < 18446744073709551616) (hm : mayB x = true) (hb : x % 2 = 1) (a4 : x / 4 % 2 = 0) (a2 : x / 2 % 2 = 1) (w : World) :
    Calls Try.prog 23 #[.int .u64 x] w fun e w' => e = .returned (.tuple #[.int .u64 (unlockedV x), .int .i64 0]) ∧ Below w.heap.size w w' := by
  have ha : bits .and .u64 x 1 = 1 := (and1 x h0 h1).trans hb
  have hv : bits .andNot .u64 x 7 = x - x % 8 := by rw [not7 x h0 h1, and7 x h0 h1]
  have g0 : 0 ≤ x - x % 8 := by omega
  have g1 : x - x % 8 < 18446744073709551616 := by omega
  have k4 : bits .and .u64 x 4 = 0 := by rw [and4 x h0 h1, a4]; rfl
  have k2 : bits .and .u64 x 2 = 2 := by rw [and2 x h0 h1, a2]; rfl
  have E : Hid (unlockedV x = count8V (x - x % 8)) := Lib.hid (by rw [cases_unlocked, if_neg (by omega), if_pos a2])
  clear hb a4 a2
  go_enter Try.func23, Try.ntmps23
  go_wp2_with (first | (go_at_call 9; refine (may_any _ h0 h1 _).mono ?_; rintro e w' ⟨rfl, rfl⟩) | (go_at_call 13; refine (has_any _ _ _).mono ?_; rintro e w' ⟨rfl, rfl⟩) | (go_at_call 32; refine (count8 _ g0 g1 _).mono ?_; rintro e w' ⟨rfl, nc, rfl⟩) | go_in)
  go_ret2
  exact ⟨ret_two E.out.symm rfl, below_drewN ((Below.refl _ _).alloc (Nat.le_refl _) _) _⟩

theorem unlock_n (x : Int) (h0 : 0 ≤ x) (h1 : x < 18446744073709551616) (hm : mayB x = true) (hb : x % 2 = 1) (a4 : x / 4 % 2 = 0) (a2 : x / 2 % 2 = 0) (w : World) :
    Calls Try.prog 23 #[.int .u64 x] w fun e w' => e = .returned (.tuple #[.int .u64 (unlockedV x), .int .i64 0]) ∧ Below w.heap.size w w' := by
  have ha : bits .and .u64 x 1 = 1 := (and1 x h0 h1).trans hb
  have hv : bits .andNot .u64 x 7 = x - x % 8 := by rw [not7 x h0 h1, and7 x h0 h1]
  have g0 : 0 ≤ x - x % 8 := by omega
  have g1 : x - x % 8 < 18446744073709551616 := by omega
  have k4 : bits .and .u64 x 4 = 0 := by rw [and4 x h0 h1, a4]; rfl
  have k2 : bits .and .u64 x 2 = 0 := by rw [and2 x h0 h1, a2]; rfl
  have E : Hid (unlockedV x = x - x % 8) := Lib.hid (by rw [cases_unlocked, if_neg (by omega), if_neg (by omega)])
  clear hb a4 a2
  go_enter Try.func23, Try.ntmps23
  go_wp2_with (first | (go_at_call 9; refine (may_any _ h0 h1 _).mono ?_; rintro e w' ⟨rfl, rfl⟩) | (go_at_call 13; refine (has_any _ _ _).mono ?_; rintro e w' ⟨rfl, rfl⟩) | go_in)
  go_ret2
  exact ⟨ret_two E.out.symm rfl, ((Below.refl _ _).alloc (Nat.le_refl _) _)⟩

theorem unlock_ok (x : Int) (h0 : 0 ≤ x) (h1 : x < 18446744073709551616) (hm : mayB x = true) (hb : x % 2 = 1) (w : World) :
    Calls Try.prog 23 #[.int .u64 x] w fun e w' => e = .returned (.tuple #[.int .u64 (unlockedV x), .int .i64 0]) ∧ Below w.heap.size w w' := by
  rcases (show x / 4 % 2 = 1 ∨ (x / 4 % 2 = 0 ∧ x / 2 % 2 = 1) ∨ (x / 4 % 2 = 0 ∧ x / 2 % 2 = 0) from by omega) with a | ⟨a, b⟩ | ⟨a, b⟩
  · exact unlock_s x h0 h1 hm hb a w
  · exact unlock_i x h0 h1 hm hb a b w
  · exact unlock_n x h0 h1 hm hb a b w

theorem unlocked_may {x : Int} (h0 : 0 ≤ x) (hm : mayB x = true) : mayB (unlockedV x) = true ∧ 0 ≤ unlockedV x ∧ unlockedV x < 72057594037927936 ∧ unlockedV x % 8 = 0 := by
  have a := may_lt hm
  have b := may_mod hm
  have c : 0 ≤ unlockedV x ∧ unlockedV x < 72057594037927936 ∧ unlockedV x / 64 % 4 = 0 ∧ unlockedV x % 8 = 0 := by
    unfold unlockedV
    split
    · split <;> omega
    · split
      · split <;> omega
      · omega
  exact ⟨may_mk c.2.1 c.2.2.1, c.1, c.2.1, c.2.2.2⟩

end Go.Proofs.Ytleodeoopckfjaa
