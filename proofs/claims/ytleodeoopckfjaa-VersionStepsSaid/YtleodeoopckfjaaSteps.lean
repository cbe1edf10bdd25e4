/- The walk of 'VersionSteps': it returns true, whatever its argument. -/
import Derived.Test.YtleodeoopckfjaaKnown
namespace Go.Proofs.Ytleodeoopckfjaa
open Go.ChangeShapes Go.WideShapes Go.ChangeAt Go.RowKit
open VM

theorem bit1_hid (x : Int) : bitB x 1 = decide (x % 2 = 1) := by unfold bitB; rw [Int.ediv_one]

theorem steps_arg (x : Int) (h0 : 0 ≤ x) (h1 : x < 18446744073709551616) (hm : mayB x = false) (w : World) :
    Calls Try.prog 4 #[.int .u64 x] w fun e w' => e = .returned (.bool true) ∧ Below w.heap.size w w' := by
  have G2 : Hid (∀ w : World, Calls Try.prog 19 #[.int .u64 0, .int .i64 2] w fun e w' => e = .returned (.int .u64 9223372036854775810) ∧ w = w') := Lib.hid fun w => got_bad 0 2 (by decide) (by decide) w
  go_enter Try.func4, Try.ntmps4
  go_wp2_with fail
  refine (lock_arg _ h0 h1 hm _).mono ?_; rintro e W1 ⟨rfl, B1⟩
  go_wp2_with fail
  refine (G2.out _).mono ?_; rintro e w' ⟨rfl, rfl⟩
  go_wp2_with fail
  refine (insert_arg _ h0 h1 hm _).mono ?_; rintro e W2 ⟨rfl, B2⟩
  replace B2 := step_below B1 B2; clear B1
  go_wp2_with fail
  refine (G2.out _).mono ?_; rintro e w' ⟨rfl, rfl⟩
  go_wp2_with fail
  refine (split_arg _ h0 h1 hm _).mono ?_; rintro e W3 ⟨rfl, B3⟩
  replace B3 := step_below B2 B3; clear B2
  go_wp2_with fail
  refine (G2.out _).mono ?_; rintro e w' ⟨rfl, rfl⟩
  go_wp2_with fail
  refine (unlock_arg _ h0 h1 hm _).mono ?_; rintro e W4 ⟨rfl, B4⟩
  replace B4 := step_below B3 B4; clear B3
  go_wp2_with fail
  refine (G2.out _).mono ?_; rintro e w' ⟨rfl, rfl⟩
  go_wp2_with fail
  refine (lawmay_any _ h0 h1 _).mono ?_; rintro e w' ⟨rfl, rfl⟩
  go_wp2_with fail
  refine (known_any _).mono ?_; rintro e W5 ⟨rfl, B5⟩
  replace B5 := step_below B4 B5; clear B4
  go_wp2_with fail
  go_ret
  exact ⟨rfl, B5⟩

theorem steps_open (x : Int) (h0 : 0 ≤ x) (h1 : x < 18446744073709551616) (hm : mayB x = true) (hb : x % 2 = 0) (w : World) :
    Calls Try.prog 4 #[.int .u64 x] w fun e w' => e = .returned (.bool true) ∧ Below w.heap.size w w' := by
  have G9 : Hid (∀ w : World, Calls Try.prog 19 #[.int .u64 0, .int .i64 9] w fun e w' => e = .returned (.int .u64 9223372036854775817) ∧ w = w') := Lib.hid fun w => got_bad 0 9 (by decide) (by decide) w
  have hl := may_lt hm
  have hx := may_mod hm
  have m1 : mayB (x + 1) = true := may_mk (by omega) (by omega)
  have p1 : (x + 1) % 2 = 1 := by omega
  have b1 : bitB x 1 = false := by rw [bit1_hid, hb]; rfl
  have HB := Lib.hid hb; have P1 := Lib.hid p1; clear hb p1 hx
  have g0 : 0 ≤ x + 1 := by omega
  have g1 : x + 1 < 18446744073709551616 := by omega
  go_enter Try.func4, Try.ntmps4
  go_wp2_with fail
  refine (lock_ok _ h0 h1 hm HB.out _).mono ?_; rintro e W1 ⟨rfl, B1⟩
  go_wp2_with fail
  refine (got_ok _ _).mono ?_; rintro e w' ⟨rfl, rfl⟩
  go_wp2_with fail
  refine (insert_state _ h0 h1 hm HB.out _).mono ?_; rintro e W2 ⟨rfl, B2⟩
  replace B2 := step_below B1 B2; clear B1
  go_wp2_with fail
  refine (G9.out _).mono ?_; rintro e w' ⟨rfl, rfl⟩
  go_wp2_with fail
  refine (split_state _ h0 h1 hm HB.out _).mono ?_; rintro e W3 ⟨rfl, B3⟩
  replace B3 := step_below B2 B3; clear B2
  go_wp2_with fail
  refine (G9.out _).mono ?_; rintro e w' ⟨rfl, rfl⟩
  go_wp2_with fail
  refine (unlock_state _ h0 h1 hm HB.out _).mono ?_; rintro e W4 ⟨rfl, B4⟩
  replace B4 := step_below B3 B4; clear B3
  go_wp2_with fail
  refine (G9.out _).mono ?_; rintro e w' ⟨rfl, rfl⟩
  go_wp2_with fail
  refine (lawmay_any _ h0 h1 _).mono ?_; rintro e w' ⟨rfl, rfl⟩
  go_wp2_with fail
  refine (bit_any _ _ h0 h1 (by decide) (by decide) _).mono ?_; rintro e w' ⟨rfl, rfl⟩
  go_wp2_with fail
  refine (unlock_ok _ g0 g1 m1 P1.out _).mono ?_; rintro e W5 ⟨rfl, B5⟩
  replace B5 := step_below B4 B5; clear B4
  go_wp2_with fail
  refine (got_ok _ _).mono ?_; rintro e w' ⟨rfl, rfl⟩
  go_wp2_with fail
  refine (lawunlocked_any _ g0 g1 m1 P1.out _).mono ?_; rintro e w' ⟨rfl, rfl⟩
  go_wp2_with fail
  refine (known_any _).mono ?_; rintro e W6 ⟨rfl, B6⟩
  replace B6 := step_below B5 B6; clear B5
  go_wp2_with fail
  go_ret
  exact ⟨rfl, B6⟩

theorem steps_00 (x : Int) (h0 : 0 ≤ x) (h1 : x < 18446744073709551616) (hm : mayB x = true) (hb : x % 2 = 1) (a2 : x / 2 % 2 = 0) (a4 : x / 4 % 2 = 0) (w : World) :
    Calls Try.prog 4 #[.int .u64 x] w fun e w' => e = .returned (.bool true) ∧ Below w.heap.size w w' := by
  have G9 : Hid (∀ w : World, Calls Try.prog 19 #[.int .u64 0, .int .i64 9] w fun e w' => e = .returned (.int .u64 9223372036854775817) ∧ w = w') := Lib.hid fun w => got_bad 0 9 (by decide) (by decide) w
  have hl := may_lt hm
  have mu := (unlocked_may h0 hm).1
  have u0 := (unlocked_may h0 hm).2.1
  have u1 : unlockedV x < 18446744073709551616 := by have := (unlocked_may h0 hm).2.2.1; omega
  have b1 : bitB x 1 = true := by rw [bit1_hid, hb]; rfl
  have b2 : bitB x 2 = false := by unfold bitB; rw [a2]; rfl
  have b4 : bitB x 4 = false := by unfold bitB; rw [a4]; rfl
  have I : Hid (x + 2 - x / 2 % 2 * 2 = x + 2) := Lib.hid (by omega)
  have S : Hid (x + 4 - x / 4 % 2 * 4 = x + 4) := Lib.hid (by omega)
  have HB := Lib.hid hb; clear hb a2 a4
  go_enter Try.func4, Try.ntmps4
  go_wp2_with fail
  refine (lock_state _ h0 h1 hm HB.out _).mono ?_; rintro e W1 ⟨rfl, B1⟩
  go_wp2_with fail
  refine (G9.out _).mono ?_; rintro e w' ⟨rfl, rfl⟩
  go_wp2_with fail
  refine (two_lit (insert_ok _ h0 h1 hm HB.out _) I.out).mono ?_; rintro e W2 ⟨rfl, B2⟩
  replace B2 := step_below B1 B2; clear B1
  go_wp2_with fail
  refine (got_ok _ _).mono ?_; rintro e w' ⟨rfl, rfl⟩
  go_wp2_with fail
  refine (two_lit (split_ok _ h0 h1 hm HB.out _) S.out).mono ?_; rintro e W3 ⟨rfl, B3⟩
  replace B3 := step_below B2 B3; clear B2
  go_wp2_with fail
  refine (got_ok _ _).mono ?_; rintro e w' ⟨rfl, rfl⟩
  go_wp2_with fail
  refine (unlock_ok _ h0 h1 hm HB.out _).mono ?_; rintro e W4 ⟨rfl, B4⟩
  replace B4 := step_below B3 B4; clear B3
  go_wp2_with fail
  refine (got_ok _ _).mono ?_; rintro e w' ⟨rfl, rfl⟩
  go_wp2_with fail
  refine (lawmay_any _ h0 h1 _).mono ?_; rintro e w' ⟨rfl, rfl⟩
  go_wp2_with fail
  refine (bit_any _ _ h0 h1 (by decide) (by decide) _).mono ?_; rintro e w' ⟨rfl, rfl⟩
  go_wp2_with fail
  refine (bit_any _ _ h0 h1 (by decide) (by decide) _).mono ?_; rintro e w' ⟨rfl, rfl⟩
  go_wp2_with fail
  refine (bit_any _ _ h0 h1 (by decide) (by decide) _).mono ?_; rintro e w' ⟨rfl, rfl⟩
  go_wp2_with fail
  refine (lawunlocked_any _ h0 h1 hm HB.out _).mono ?_; rintro e w' ⟨rfl, rfl⟩
  go_wp2_with fail
  refine (lawmay_any _ u0 u1 _).mono ?_; rintro e w' ⟨rfl, rfl⟩
  go_wp2_with fail
  refine (known_any _).mono ?_; rintro e W5 ⟨rfl, B5⟩
  replace B5 := step_below B4 B5; clear B4
  go_wp2_with fail
  go_ret
  exact ⟨rfl, B5⟩

theorem steps_01 (x : Int) (h0 : 0 ≤ x) (h1 : x < 18446744073709551616) (hm : mayB x = true) (hb : x % 2 = 1) (a2 : x / 2 % 2 = 0) (a4 : x / 4 % 2 = 1) (w : World) :
    Calls Try.prog 4 #[.int .u64 x] w fun e w' => e = .returned (.bool true) ∧ Below w.heap.size w w' := by
  have G9 : Hid (∀ w : World, Calls Try.prog 19 #[.int .u64 0, .int .i64 9] w fun e w' => e = .returned (.int .u64 9223372036854775817) ∧ w = w') := Lib.hid fun w => got_bad 0 9 (by decide) (by decide) w
  have hl := may_lt hm
  have mu := (unlocked_may h0 hm).1
  have u0 := (unlocked_may h0 hm).2.1
  have u1 : unlockedV x < 18446744073709551616 := by have := (unlocked_may h0 hm).2.2.1; omega
  have b1 : bitB x 1 = true := by rw [bit1_hid, hb]; rfl
  have b2 : bitB x 2 = false := by unfold bitB; rw [a2]; rfl
  have b4 : bitB x 4 = true := by unfold bitB; rw [a4]; rfl
  have I : Hid (x + 2 - x / 2 % 2 * 2 = x + 2) := Lib.hid (by omega)
  have S : Hid (x + 4 - x / 4 % 2 * 4 = x) := Lib.hid (by omega)
  have HB := Lib.hid hb; clear hb a2 a4
  go_enter Try.func4, Try.ntmps4
  go_wp2_with fail
  refine (lock_state _ h0 h1 hm HB.out _).mono ?_; rintro e W1 ⟨rfl, B1⟩
  go_wp2_with fail
  refine (G9.out _).mono ?_; rintro e w' ⟨rfl, rfl⟩
  go_wp2_with fail
  refine (two_lit (insert_ok _ h0 h1 hm HB.out _) I.out).mono ?_; rintro e W2 ⟨rfl, B2⟩
  replace B2 := step_below B1 B2; clear B1
  go_wp2_with fail
  refine (got_ok _ _).mono ?_; rintro e w' ⟨rfl, rfl⟩
  go_wp2_with fail
  refine (two_lit (split_ok _ h0 h1 hm HB.out _) S.out).mono ?_; rintro e W3 ⟨rfl, B3⟩
  replace B3 := step_below B2 B3; clear B2
  go_wp2_with fail
  refine (got_ok _ _).mono ?_; rintro e w' ⟨rfl, rfl⟩
  go_wp2_with fail
  refine (unlock_ok _ h0 h1 hm HB.out _).mono ?_; rintro e W4 ⟨rfl, B4⟩
  replace B4 := step_below B3 B4; clear B3
  go_wp2_with fail
  refine (got_ok _ _).mono ?_; rintro e w' ⟨rfl, rfl⟩
  go_wp2_with fail
  refine (lawmay_any _ h0 h1 _).mono ?_; rintro e w' ⟨rfl, rfl⟩
  go_wp2_with fail
  refine (bit_any _ _ h0 h1 (by decide) (by decide) _).mono ?_; rintro e w' ⟨rfl, rfl⟩
  go_wp2_with fail
  refine (bit_any _ _ h0 h1 (by decide) (by decide) _).mono ?_; rintro e w' ⟨rfl, rfl⟩
  go_wp2_with fail
  refine (bit_any _ _ h0 h1 (by decide) (by decide) _).mono ?_; rintro e w' ⟨rfl, rfl⟩
  go_wp2_with fail
  refine (lawunlocked_any _ h0 h1 hm HB.out _).mono ?_; rintro e w' ⟨rfl, rfl⟩
  go_wp2_with fail
  refine (lawmay_any _ u0 u1 _).mono ?_; rintro e w' ⟨rfl, rfl⟩
  go_wp2_with fail
  refine (known_any _).mono ?_; rintro e W5 ⟨rfl, B5⟩
  replace B5 := step_below B4 B5; clear B4
  go_wp2_with fail
  go_ret
  exact ⟨rfl, B5⟩

theorem steps_10 (x : Int) (h0 : 0 ≤ x) (h1 : x < 18446744073709551616) (hm : mayB x = true) (hb : x % 2 = 1) (a2 : x / 2 % 2 = 1) (a4 : x / 4 % 2 = 0) (w : World) :
    Calls Try.prog 4 #[.int .u64 x] w fun e w' => e = .returned (.bool true) ∧ Below w.heap.size w w' := by
  have G9 : Hid (∀ w : World, Calls Try.prog 19 #[.int .u64 0, .int .i64 9] w fun e w' => e = .returned (.int .u64 9223372036854775817) ∧ w = w') := Lib.hid fun w => got_bad 0 9 (by decide) (by decide) w
  have hl := may_lt hm
  have mu := (unlocked_may h0 hm).1
  have u0 := (unlocked_may h0 hm).2.1
  have u1 : unlockedV x < 18446744073709551616 := by have := (unlocked_may h0 hm).2.2.1; omega
  have b1 : bitB x 1 = true := by rw [bit1_hid, hb]; rfl
  have b2 : bitB x 2 = true := by unfold bitB; rw [a2]; rfl
  have b4 : bitB x 4 = false := by unfold bitB; rw [a4]; rfl
  have I : Hid (x + 2 - x / 2 % 2 * 2 = x) := Lib.hid (by omega)
  have S : Hid (x + 4 - x / 4 % 2 * 4 = x + 4) := Lib.hid (by omega)
  have HB := Lib.hid hb; clear hb a2 a4
  go_enter Try.func4, Try.ntmps4
  go_wp2_with fail
  refine (lock_state _ h0 h1 hm HB.out _).mono ?_; rintro e W1 ⟨rfl, B1⟩
  go_wp2_with fail
  refine (G9.out _).mono ?_; rintro e w' ⟨rfl, rfl⟩
  go_wp2_with fail
  refine (two_lit (insert_ok _ h0 h1 hm HB.out _) I.out).mono ?_; rintro e W2 ⟨rfl, B2⟩
  replace B2 := step_below B1 B2; clear B1
  go_wp2_with fail
  refine (got_ok _ _).mono ?_; rintro e w' ⟨rfl, rfl⟩
  go_wp2_with fail
  refine (two_lit (split_ok _ h0 h1 hm HB.out _) S.out).mono ?_; rintro e W3 ⟨rfl, B3⟩
  replace B3 := step_below B2 B3; clear B2
  go_wp2_with fail
  refine (got_ok _ _).mono ?_; rintro e w' ⟨rfl, rfl⟩
  go_wp2_with fail
  refine (unlock_ok _ h0 h1 hm HB.out _).mono ?_; rintro e W4 ⟨rfl, B4⟩
  replace B4 := step_below B3 B4; clear B3
  go_wp2_with fail
  refine (got_ok _ _).mono ?_; rintro e w' ⟨rfl, rfl⟩
  go_wp2_with fail
  refine (lawmay_any _ h0 h1 _).mono ?_; rintro e w' ⟨rfl, rfl⟩
  go_wp2_with fail
  refine (bit_any _ _ h0 h1 (by decide) (by decide) _).mono ?_; rintro e w' ⟨rfl, rfl⟩
  go_wp2_with fail
  refine (bit_any _ _ h0 h1 (by decide) (by decide) _).mono ?_; rintro e w' ⟨rfl, rfl⟩
  go_wp2_with fail
  refine (bit_any _ _ h0 h1 (by decide) (by decide) _).mono ?_; rintro e w' ⟨rfl, rfl⟩
  go_wp2_with fail
  refine (lawunlocked_any _ h0 h1 hm HB.out _).mono ?_; rintro e w' ⟨rfl, rfl⟩
  go_wp2_with fail
  refine (lawmay_any _ u0 u1 _).mono ?_; rintro e w' ⟨rfl, rfl⟩
  go_wp2_with fail
  refine (known_any _).mono ?_; rintro e W5 ⟨rfl, B5⟩
  replace B5 := step_below B4 B5; clear B4
  go_wp2_with fail
  go_ret
  exact ⟨rfl, B5⟩

theorem steps_11 (x : Int) (h0 : 0 ≤ x) (h1 : x < 18446744073709551616) (hm : mayB x = true) (hb : x % 2 = 1) (a2 : x / 2 % 2 = 1) (a4 : x / 4 % 2 = 1) (w : World) :
    Calls Try.prog 4 #[.int .u64 x] w fun e w' => e = .returned (.bool true) ∧ Below w.heap.size w w' := by
  have G9 : Hid (∀ w : World, Calls Try.prog 19 #[.int .u64 0, .int .i64 9] w fun e w' => e = .returned (.int .u64 9223372036854775817) ∧ w = w') := Lib.hid fun w => got_bad 0 9 (by decide) (by decide) w
  have hl := may_lt hm
  have mu := (unlocked_may h0 hm).1
  have u0 := (unlocked_may h0 hm).2.1
  have u1 : unlockedV x < 18446744073709551616 := by have := (unlocked_may h0 hm).2.2.1; omega
  have b1 : bitB x 1 = true := by rw [bit1_hid, hb]; rfl
  have b2 : bitB x 2 = true := by unfold bitB; rw [a2]; rfl
  have b4 : bitB x 4 = true := by unfold bitB; rw [a4]; rfl
  have I : Hid (x + 2 - x / 2 % 2 * 2 = x) := Lib.hid (by omega)
  have S : Hid (x + 4 - x / 4 % 2 * 4 = x) := Lib.hid (by omega)
  have HB := Lib.hid hb; clear hb a2 a4
  go_enter Try.func4, Try.ntmps4
  go_wp2_with fail
  refine (lock_state _ h0 h1 hm HB.out _).mono ?_; rintro e W1 ⟨rfl, B1⟩
  go_wp2_with fail
  refine (G9.out _).mono ?_; rintro e w' ⟨rfl, rfl⟩
  go_wp2_with fail
  refine (two_lit (insert_ok _ h0 h1 hm HB.out _) I.out).mono ?_; rintro e W2 ⟨rfl, B2⟩
  replace B2 := step_below B1 B2; clear B1
  go_wp2_with fail
  refine (got_ok _ _).mono ?_; rintro e w' ⟨rfl, rfl⟩
  go_wp2_with fail
  refine (two_lit (split_ok _ h0 h1 hm HB.out _) S.out).mono ?_; rintro e W3 ⟨rfl, B3⟩
  replace B3 := step_below B2 B3; clear B2
  go_wp2_with fail
  refine (got_ok _ _).mono ?_; rintro e w' ⟨rfl, rfl⟩
  go_wp2_with fail
  refine (unlock_ok _ h0 h1 hm HB.out _).mono ?_; rintro e W4 ⟨rfl, B4⟩
  replace B4 := step_below B3 B4; clear B3
  go_wp2_with fail
  refine (got_ok _ _).mono ?_; rintro e w' ⟨rfl, rfl⟩
  go_wp2_with fail
  refine (lawmay_any _ h0 h1 _).mono ?_; rintro e w' ⟨rfl, rfl⟩
  go_wp2_with fail
  refine (bit_any _ _ h0 h1 (by decide) (by decide) _).mono ?_; rintro e w' ⟨rfl, rfl⟩
  go_wp2_with fail
  refine (bit_any _ _ h0 h1 (by decide) (by decide) _).mono ?_; rintro e w' ⟨rfl, rfl⟩
  go_wp2_with fail
  refine (bit_any _ _ h0 h1 (by decide) (by decide) _).mono ?_; rintro e w' ⟨rfl, rfl⟩
  go_wp2_with fail
  refine (lawunlocked_any _ h0 h1 hm HB.out _).mono ?_; rintro e w' ⟨rfl, rfl⟩
  go_wp2_with fail
  refine (lawmay_any _ u0 u1 _).mono ?_; rintro e w' ⟨rfl, rfl⟩
  go_wp2_with fail
  refine (known_any _).mono ?_; rintro e W5 ⟨rfl, B5⟩
  replace B5 := step_below B4 B5; clear B4
  go_wp2_with fail
  go_ret
  exact ⟨rfl, B5⟩

theorem steps_law (x : Int) (bx : 0 ≤ x ∧ x ≤ 18446744073709551615) (w : World) :
    Calls Try.prog 4 #[.int .u64 x] w fun e w' => e = .returned (.bool true) ∧ Below w.heap.size w w' := by
  have h0 := bx.1
  have h1 : x < 18446744073709551616 := by omega
  cases hm : mayB x
  · exact steps_arg x h0 h1 hm w
  · rcases (show x % 2 = 0 ∨ x % 2 = 1 from by omega) with hb | hb
    · exact steps_open x h0 h1 hm hb w
    · rcases (show x / 2 % 2 = 0 ∨ x / 2 % 2 = 1 from by omega) with a | a <;> rcases (show x / 4 % 2 = 0 ∨ x / 4 % 2 = 1 from by omega) with b | b
      · exact steps_00 x h0 h1 hm hb a b w
      · exact steps_01 x h0 h1 hm hb a b w
      · exact steps_10 x h0 h1 hm hb a b w
      · exact steps_11 x h0 h1 hm hb a b w

end Go.Proofs.Ytleodeoopckfjaa
