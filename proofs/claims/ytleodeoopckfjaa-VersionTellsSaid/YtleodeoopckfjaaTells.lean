/- The walk of 'VersionTells': it returns true, whatever its arguments. -/
import Derived.Test.YtleodeoopckfjaaKnown
namespace Go.Proofs.Ytleodeoopckfjaa
open Go.ChangeShapes Go.WideShapes Go.ChangeAt Go.RowKit
open VM

def hasUpto (x y : Int) (k : Nat) : Bool := decide (∀ i < k, y / 2 ^ i % 2 = 1 → x / 2 ^ i % 2 = 1)
theorem hasUpto_zero (x y : Int) : hasUpto x y 0 = true := by unfold hasUpto; simp
theorem hasUpto_keep (x y : Int) (k : Nat) (h : ¬ (y / 2 ^ k % 2 = 1 ∧ ¬ x / 2 ^ k % 2 = 1)) : hasUpto x y (k + 1) = hasUpto x y k := by
  unfold hasUpto
  rw [Bool.eq_iff_iff]
  simp only [decide_eq_true_eq]
  constructor
  · exact fun g i hi => g i (by omega)
  · intro g i hi e
    by_cases c : i = k
    · subst c
      by_cases d : x / 2 ^ i % 2 = 1
      · exact d
      · exact absurd ⟨e, d⟩ h
    · exact g i (by omega) e
theorem hasUpto_lost (x y : Int) (k : Nat) (h : y / 2 ^ k % 2 = 1) (h' : ¬ x / 2 ^ k % 2 = 1) : hasUpto x y (k + 1) = false := by
  unfold hasUpto
  rw [decide_eq_false_iff_not]
  intro g
  exact h' (g k (by omega) h)
theorem pow_bd (k : Nat) (h : k < 64) : (1 : Int) ≤ 2 ^ k ∧ (2 : Int) ^ k < 18446744073709551616 := by
  have a : (2 : Nat) ^ k < 2 ^ 64 := Nat.pow_lt_pow_right (by decide) h
  have b : 0 < (2 : Nat) ^ k := Nat.two_pow_pos k
  have c : (2 : Int) ^ k = ((2 ^ k : Nat) : Int) := by push_cast; rfl
  rw [c]
  omega


set_option maxRecDepth 20000 in
set_option maxHeartbeats 1000000 in
theorem tells_000 (x y : Int) (h0 : 0 ≤ x) (h1 : x < 18446744073709551616) (k0 : 0 ≤ y) (k1 : y < 18446744073709551616) (c2 : x / 2 % 2 = 0) (w : World) :
    Calls Try.prog 3 #[.int .u64 x, .bool false, .bool false, .int .u64 y] w fun e w' => e = .returned (.bool true) ∧ Below w.heap.size w w' := by
  have g2 : bitB x 2 = false := by unfold bitB; rw [c2]; rfl
  have st : stillB x = !bitB x 4 := by
    unfold stillB bitB
    rw [decide_eq_true (show x / 2 % 2 = 0 by omega)]
    rw [Bool.eq_iff_iff]; simp; omega
  have HQ : Hid ((bits .and .u64 x y == y) = hasUpto x y 64) := has_eq x y h0 h1 k0 k1
  have hasC : Hid (∀ w : World, Calls Try.prog 13 #[.int .u64 x, .int .u64 y] w fun e w' => e = .returned (.bool (hasUpto x y 64)) ∧ w = w') := Lib.hid fun w => by rw [← HQ.out]; exact has_any x y w
  clear c2 HQ
  go_enter Try.func3, Try.ntmps3
  go_wp2_with fail
  refine (new_any false false _).mono ?_; rintro e w' ⟨rfl, rfl⟩
  go_wp2_with fail
  refine (may_any _ h0 h1 _).mono ?_; rintro e w' ⟨rfl, rfl⟩
  go_wp2_with fail
  refine (lawmay_any _ h0 h1 _).mono ?_; rintro e w' ⟨rfl, rfl⟩
  go_wp2_with fail
  refine (still_any _ h0 h1 _).mono ?_; rintro e w' ⟨rfl, rfl⟩
  go_wp2_with fail
  refine (bit_any _ _ h0 h1 (by decide) (by decide) _).mono ?_; rintro e w' ⟨rfl, rfl⟩
  go_wp2_with fail
  refine (bit_any _ _ h0 h1 (by decide) (by decide) _).mono ?_; rintro e w' ⟨rfl, rfl⟩
  go_wp2_with fail
  go_loop [10, 11] (fun t i => ∃ k : Nat, k ≤ 64 ∧ i = .int .i64 k ∧ t = .bool (hasUpto x y k)) (fun _ i => 64 - (intOf i).toNat)
  case atStart => exact ⟨0, by omega, rfl, by rw [hasUpto_zero]⟩
  case round =>
    obtain ⟨k, hk, rfl, rfl⟩ := hrel
    by_cases hlt : k < 64
    · have pb := pow_bd k hlt
      cases gy : bitB y (2 ^ k)
      · have H : Hid (hasUpto x y (k + 1) = hasUpto x y k) := Lib.hid (hasUpto_keep x y k (fun h => by unfold bitB at gy; simp at gy; omega))
        go_wp2_with (go_at_call 12; refine (bit_any _ _ k0 k1 pb.1 pb.2 _).mono ?_; rintro e w' ⟨rfl, rfl⟩)
        go_round
        case rel => exact ⟨k + 1, by omega, by go_num, by rw [H.out]⟩
        case measure => simp [intOf]; omega
      · cases gx : bitB x (2 ^ k)
        · have H : Hid (hasUpto x y (k + 1) = false) := Lib.hid (hasUpto_lost x y k (by unfold bitB at gy; simpa using gy) (by unfold bitB at gx; simp at gx; omega))
          go_wp2_with fail
          refine (bit_any _ _ k0 k1 pb.1 pb.2 _).mono ?_; rintro e w' ⟨rfl, rfl⟩
          go_wp2_with fail
          refine (bit_any _ _ h0 h1 pb.1 pb.2 _).mono ?_; rintro e w' ⟨rfl, rfl⟩
          go_wp2_with fail
          go_round
          case rel => exact ⟨k + 1, by omega, by go_num, by rw [H.out]⟩
          case measure => simp [intOf]; omega
        · have H : Hid (hasUpto x y (k + 1) = hasUpto x y k) := Lib.hid (hasUpto_keep x y k (fun h => by unfold bitB at gx; simp at gx; omega))
          go_wp2_with fail
          refine (bit_any _ _ k0 k1 pb.1 pb.2 _).mono ?_; rintro e w' ⟨rfl, rfl⟩
          go_wp2_with fail
          refine (bit_any _ _ h0 h1 pb.1 pb.2 _).mono ?_; rintro e w' ⟨rfl, rfl⟩
          go_wp2_with fail
          go_round
          case rel => exact ⟨k + 1, by omega, by go_num, by rw [H.out]⟩
          case measure => simp [intOf]; omega
    · obtain rfl : k = 64 := by omega
      go_wp2_with fail
      refine (hasC.out _).mono ?_; rintro e w' ⟨rfl, rfl⟩
      go_wp2_with fail
      refine (inserts_any _ h0 h1 _).mono ?_; rintro e w' ⟨rfl, rfl⟩
      go_wp2_with fail
      refine (splits_any _ h0 h1 _).mono ?_; rintro e w' ⟨rfl, rfl⟩
      rcases (show x / 16 % 2 = 0 ∨ x / 16 % 2 = 1 from by omega) with c16 | c16 <;> rcases (show x / 8 % 2 = 0 ∨ x / 8 % 2 = 1 from by omega) with c8 | c8
      all_goals
        have g16 : bitB x 16 = decide (x / 16 % 2 = 1) := rfl
        have g8 : bitB x 8 = decide (x / 8 % 2 = 1) := rfl
        rw [c16] at g16
        rw [c8] at g8
        simp at g16 g8
        have rt : rootV x true = x + 16 - x / 16 % 2 * 16 := rfl
        have rf : rootV x false = x - x / 16 % 2 * 16 := rfl
        have gg : goneV x = x + 8 - x / 8 % 2 * 8 := rfl
        rw [c16] at rt rf
        rw [c8] at gg
        simp at rt rf gg
        have hle : x / 16 % 2 * 16 ≤ x := by omega
        have hu : x + 16 - x / 16 % 2 * 16 ≤ 18446744073709551615 := by omega
        have hu' : x + 8 - x / 8 % 2 * 8 ≤ 18446744073709551615 := by omega
        rw [c16] at hle hu
        rw [c8] at hu'
        simp only [Int.zero_mul, Int.one_mul, Int.sub_zero] at hle hu hu'
        clear c16 c8
        go_wp2_with (first | (go_at_call 12; refine (bit_any _ _ h0 h1 (by decide) (by decide) _).mono ?_; rintro e w' ⟨rfl, rfl⟩) | (go_at_call 16; refine (root_any _ _ h0 h1 _).mono ?_; rintro e w' ⟨rfl, rfl⟩) | (go_at_call 17; refine (gone_any _ h0 h1 _).mono ?_; rintro e w' ⟨rfl, rfl⟩) | (go_at_call 18; refine (known_any _).mono ?_; rintro e W1 ⟨rfl, B1⟩))
        go_ret
        exact ⟨rfl, B1⟩

set_option maxRecDepth 20000 in
set_option maxHeartbeats 1000000 in
theorem tells_001 (x y : Int) (h0 : 0 ≤ x) (h1 : x < 18446744073709551616) (k0 : 0 ≤ y) (k1 : y < 18446744073709551616) (c2 : x / 2 % 2 = 1) (w : World) :
    Calls Try.prog 3 #[.int .u64 x, .bool false, .bool false, .int .u64 y] w fun e w' => e = .returned (.bool true) ∧ Below w.heap.size w w' := by
  have g2 : bitB x 2 = true := by unfold bitB; rw [c2]; rfl
  have st : stillB x = false := by
    unfold stillB
    rw [decide_eq_false (show ¬ x / 2 % 2 = 0 by omega)]
    rfl
  have HQ : Hid ((bits .and .u64 x y == y) = hasUpto x y 64) := has_eq x y h0 h1 k0 k1
  have hasC : Hid (∀ w : World, Calls Try.prog 13 #[.int .u64 x, .int .u64 y] w fun e w' => e = .returned (.bool (hasUpto x y 64)) ∧ w = w') := Lib.hid fun w => by rw [← HQ.out]; exact has_any x y w
  clear c2 HQ
  go_enter Try.func3, Try.ntmps3
  go_wp2_with fail
  refine (new_any false false _).mono ?_; rintro e w' ⟨rfl, rfl⟩
  go_wp2_with fail
  refine (may_any _ h0 h1 _).mono ?_; rintro e w' ⟨rfl, rfl⟩
  go_wp2_with fail
  refine (lawmay_any _ h0 h1 _).mono ?_; rintro e w' ⟨rfl, rfl⟩
  go_wp2_with fail
  refine (still_any _ h0 h1 _).mono ?_; rintro e w' ⟨rfl, rfl⟩
  go_wp2_with fail
  refine (bit_any _ _ h0 h1 (by decide) (by decide) _).mono ?_; rintro e w' ⟨rfl, rfl⟩
  go_wp2_with fail
  go_loop [10, 11] (fun t i => ∃ k : Nat, k ≤ 64 ∧ i = .int .i64 k ∧ t = .bool (hasUpto x y k)) (fun _ i => 64 - (intOf i).toNat)
  case atStart => exact ⟨0, by omega, rfl, by rw [hasUpto_zero]⟩
  case round =>
    obtain ⟨k, hk, rfl, rfl⟩ := hrel
    by_cases hlt : k < 64
    · have pb := pow_bd k hlt
      cases gy : bitB y (2 ^ k)
      · have H : Hid (hasUpto x y (k + 1) = hasUpto x y k) := Lib.hid (hasUpto_keep x y k (fun h => by unfold bitB at gy; simp at gy; omega))
        go_wp2_with (go_at_call 12; refine (bit_any _ _ k0 k1 pb.1 pb.2 _).mono ?_; rintro e w' ⟨rfl, rfl⟩)
        go_round
        case rel => exact ⟨k + 1, by omega, by go_num, by rw [H.out]⟩
        case measure => simp [intOf]; omega
      · cases gx : bitB x (2 ^ k)
        · have H : Hid (hasUpto x y (k + 1) = false) := Lib.hid (hasUpto_lost x y k (by unfold bitB at gy; simpa using gy) (by unfold bitB at gx; simp at gx; omega))
          go_wp2_with fail
          refine (bit_any _ _ k0 k1 pb.1 pb.2 _).mono ?_; rintro e w' ⟨rfl, rfl⟩
          go_wp2_with fail
          refine (bit_any _ _ h0 h1 pb.1 pb.2 _).mono ?_; rintro e w' ⟨rfl, rfl⟩
          go_wp2_with fail
          go_round
          case rel => exact ⟨k + 1, by omega, by go_num, by rw [H.out]⟩
          case measure => simp [intOf]; omega
        · have H : Hid (hasUpto x y (k + 1) = hasUpto x y k) := Lib.hid (hasUpto_keep x y k (fun h => by unfold bitB at gx; simp at gx; omega))
          go_wp2_with fail
          refine (bit_any _ _ k0 k1 pb.1 pb.2 _).mono ?_; rintro e w' ⟨rfl, rfl⟩
          go_wp2_with fail
          refine (bit_any _ _ h0 h1 pb.1 pb.2 _).mono ?_; rintro e w' ⟨rfl, rfl⟩
          go_wp2_with fail
          go_round
          case rel => exact ⟨k + 1, by omega, by go_num, by rw [H.out]⟩
          case measure => simp [intOf]; omega
    · obtain rfl : k = 64 := by omega
      go_wp2_with fail
      refine (hasC.out _).mono ?_; rintro e w' ⟨rfl, rfl⟩
      go_wp2_with fail
      refine (inserts_any _ h0 h1 _).mono ?_; rintro e w' ⟨rfl, rfl⟩
      go_wp2_with fail
      refine (splits_any _ h0 h1 _).mono ?_; rintro e w' ⟨rfl, rfl⟩
      rcases (show x / 16 % 2 = 0 ∨ x / 16 % 2 = 1 from by omega) with c16 | c16 <;> rcases (show x / 8 % 2 = 0 ∨ x / 8 % 2 = 1 from by omega) with c8 | c8
      all_goals
        have g16 : bitB x 16 = decide (x / 16 % 2 = 1) := rfl
        have g8 : bitB x 8 = decide (x / 8 % 2 = 1) := rfl
        rw [c16] at g16
        rw [c8] at g8
        simp at g16 g8
        have rt : rootV x true = x + 16 - x / 16 % 2 * 16 := rfl
        have rf : rootV x false = x - x / 16 % 2 * 16 := rfl
        have gg : goneV x = x + 8 - x / 8 % 2 * 8 := rfl
        rw [c16] at rt rf
        rw [c8] at gg
        simp at rt rf gg
        have hle : x / 16 % 2 * 16 ≤ x := by omega
        have hu : x + 16 - x / 16 % 2 * 16 ≤ 18446744073709551615 := by omega
        have hu' : x + 8 - x / 8 % 2 * 8 ≤ 18446744073709551615 := by omega
        rw [c16] at hle hu
        rw [c8] at hu'
        simp only [Int.zero_mul, Int.one_mul, Int.sub_zero] at hle hu hu'
        clear c16 c8
        go_wp2_with (first | (go_at_call 12; refine (bit_any _ _ h0 h1 (by decide) (by decide) _).mono ?_; rintro e w' ⟨rfl, rfl⟩) | (go_at_call 16; refine (root_any _ _ h0 h1 _).mono ?_; rintro e w' ⟨rfl, rfl⟩) | (go_at_call 17; refine (gone_any _ h0 h1 _).mono ?_; rintro e w' ⟨rfl, rfl⟩) | (go_at_call 18; refine (known_any _).mono ?_; rintro e W1 ⟨rfl, B1⟩))
        go_ret
        exact ⟨rfl, B1⟩

set_option maxRecDepth 20000 in
set_option maxHeartbeats 1000000 in
theorem tells_010 (x y : Int) (h0 : 0 ≤ x) (h1 : x < 18446744073709551616) (k0 : 0 ≤ y) (k1 : y < 18446744073709551616) (c2 : x / 2 % 2 = 0) (w : World) :
    Calls Try.prog 3 #[.int .u64 x, .bool false, .bool true, .int .u64 y] w fun e w' => e = .returned (.bool true) ∧ Below w.heap.size w w' := by
  have g2 : bitB x 2 = false := by unfold bitB; rw [c2]; rfl
  have st : stillB x = !bitB x 4 := by
    unfold stillB bitB
    rw [decide_eq_true (show x / 2 % 2 = 0 by omega)]
    rw [Bool.eq_iff_iff]; simp; omega
  have HQ : Hid ((bits .and .u64 x y == y) = hasUpto x y 64) := has_eq x y h0 h1 k0 k1
  have hasC : Hid (∀ w : World, Calls Try.prog 13 #[.int .u64 x, .int .u64 y] w fun e w' => e = .returned (.bool (hasUpto x y 64)) ∧ w = w') := Lib.hid fun w => by rw [← HQ.out]; exact has_any x y w
  clear c2 HQ
  go_enter Try.func3, Try.ntmps3
  go_wp2_with fail
  refine (new_any false true _).mono ?_; rintro e w' ⟨rfl, rfl⟩
  go_wp2_with fail
  refine (may_any _ h0 h1 _).mono ?_; rintro e w' ⟨rfl, rfl⟩
  go_wp2_with fail
  refine (lawmay_any _ h0 h1 _).mono ?_; rintro e w' ⟨rfl, rfl⟩
  go_wp2_with fail
  refine (still_any _ h0 h1 _).mono ?_; rintro e w' ⟨rfl, rfl⟩
  go_wp2_with fail
  refine (bit_any _ _ h0 h1 (by decide) (by decide) _).mono ?_; rintro e w' ⟨rfl, rfl⟩
  go_wp2_with fail
  refine (bit_any _ _ h0 h1 (by decide) (by decide) _).mono ?_; rintro e w' ⟨rfl, rfl⟩
  go_wp2_with fail
  go_loop [10, 11] (fun t i => ∃ k : Nat, k ≤ 64 ∧ i = .int .i64 k ∧ t = .bool (hasUpto x y k)) (fun _ i => 64 - (intOf i).toNat)
  case atStart => exact ⟨0, by omega, rfl, by rw [hasUpto_zero]⟩
  case round =>
    obtain ⟨k, hk, rfl, rfl⟩ := hrel
    by_cases hlt : k < 64
    · have pb := pow_bd k hlt
      cases gy : bitB y (2 ^ k)
      · have H : Hid (hasUpto x y (k + 1) = hasUpto x y k) := Lib.hid (hasUpto_keep x y k (fun h => by unfold bitB at gy; simp at gy; omega))
        go_wp2_with (go_at_call 12; refine (bit_any _ _ k0 k1 pb.1 pb.2 _).mono ?_; rintro e w' ⟨rfl, rfl⟩)
        go_round
        case rel => exact ⟨k + 1, by omega, by go_num, by rw [H.out]⟩
        case measure => simp [intOf]; omega
      · cases gx : bitB x (2 ^ k)
        · have H : Hid (hasUpto x y (k + 1) = false) := Lib.hid (hasUpto_lost x y k (by unfold bitB at gy; simpa using gy) (by unfold bitB at gx; simp at gx; omega))
          go_wp2_with fail
          refine (bit_any _ _ k0 k1 pb.1 pb.2 _).mono ?_; rintro e w' ⟨rfl, rfl⟩
          go_wp2_with fail
          refine (bit_any _ _ h0 h1 pb.1 pb.2 _).mono ?_; rintro e w' ⟨rfl, rfl⟩
          go_wp2_with fail
          go_round
          case rel => exact ⟨k + 1, by omega, by go_num, by rw [H.out]⟩
          case measure => simp [intOf]; omega
        · have H : Hid (hasUpto x y (k + 1) = hasUpto x y k) := Lib.hid (hasUpto_keep x y k (fun h => by unfold bitB at gx; simp at gx; omega))
          go_wp2_with fail
          refine (bit_any _ _ k0 k1 pb.1 pb.2 _).mono ?_; rintro e w' ⟨rfl, rfl⟩
          go_wp2_with fail
          refine (bit_any _ _ h0 h1 pb.1 pb.2 _).mono ?_; rintro e w' ⟨rfl, rfl⟩
          go_wp2_with fail
          go_round
          case rel => exact ⟨k + 1, by omega, by go_num, by rw [H.out]⟩
          case measure => simp [intOf]; omega
    · obtain rfl : k = 64 := by omega
      go_wp2_with fail
      refine (hasC.out _).mono ?_; rintro e w' ⟨rfl, rfl⟩
      go_wp2_with fail
      refine (inserts_any _ h0 h1 _).mono ?_; rintro e w' ⟨rfl, rfl⟩
      go_wp2_with fail
      refine (splits_any _ h0 h1 _).mono ?_; rintro e w' ⟨rfl, rfl⟩
      rcases (show x / 16 % 2 = 0 ∨ x / 16 % 2 = 1 from by omega) with c16 | c16 <;> rcases (show x / 8 % 2 = 0 ∨ x / 8 % 2 = 1 from by omega) with c8 | c8
      all_goals
        have g16 : bitB x 16 = decide (x / 16 % 2 = 1) := rfl
        have g8 : bitB x 8 = decide (x / 8 % 2 = 1) := rfl
        rw [c16] at g16
        rw [c8] at g8
        simp at g16 g8
        have rt : rootV x true = x + 16 - x / 16 % 2 * 16 := rfl
        have rf : rootV x false = x - x / 16 % 2 * 16 := rfl
        have gg : goneV x = x + 8 - x / 8 % 2 * 8 := rfl
        rw [c16] at rt rf
        rw [c8] at gg
        simp at rt rf gg
        have hle : x / 16 % 2 * 16 ≤ x := by omega
        have hu : x + 16 - x / 16 % 2 * 16 ≤ 18446744073709551615 := by omega
        have hu' : x + 8 - x / 8 % 2 * 8 ≤ 18446744073709551615 := by omega
        rw [c16] at hle hu
        rw [c8] at hu'
        simp only [Int.zero_mul, Int.one_mul, Int.sub_zero] at hle hu hu'
        clear c16 c8
        go_wp2_with (first | (go_at_call 12; refine (bit_any _ _ h0 h1 (by decide) (by decide) _).mono ?_; rintro e w' ⟨rfl, rfl⟩) | (go_at_call 16; refine (root_any _ _ h0 h1 _).mono ?_; rintro e w' ⟨rfl, rfl⟩) | (go_at_call 17; refine (gone_any _ h0 h1 _).mono ?_; rintro e w' ⟨rfl, rfl⟩) | (go_at_call 18; refine (known_any _).mono ?_; rintro e W1 ⟨rfl, B1⟩))
        go_ret
        exact ⟨rfl, B1⟩

set_option maxRecDepth 20000 in
set_option maxHeartbeats 1000000 in
theorem tells_011 (x y : Int) (h0 : 0 ≤ x) (h1 : x < 18446744073709551616) (k0 : 0 ≤ y) (k1 : y < 18446744073709551616) (c2 : x / 2 % 2 = 1) (w : World) :
    Calls Try.prog 3 #[.int .u64 x, .bool false, .bool true, .int .u64 y] w fun e w' => e = .returned (.bool true) ∧ Below w.heap.size w w' := by
  have g2 : bitB x 2 = true := by unfold bitB; rw [c2]; rfl
  have st : stillB x = false := by
    unfold stillB
    rw [decide_eq_false (show ¬ x / 2 % 2 = 0 by omega)]
    rfl
  have HQ : Hid ((bits .and .u64 x y == y) = hasUpto x y 64) := has_eq x y h0 h1 k0 k1
  have hasC : Hid (∀ w : World, Calls Try.prog 13 #[.int .u64 x, .int .u64 y] w fun e w' => e = .returned (.bool (hasUpto x y 64)) ∧ w = w') := Lib.hid fun w => by rw [← HQ.out]; exact has_any x y w
  clear c2 HQ
  go_enter Try.func3, Try.ntmps3
  go_wp2_with fail
  refine (new_any false true _).mono ?_; rintro e w' ⟨rfl, rfl⟩
  go_wp2_with fail
  refine (may_any _ h0 h1 _).mono ?_; rintro e w' ⟨rfl, rfl⟩
  go_wp2_with fail
  refine (lawmay_any _ h0 h1 _).mono ?_; rintro e w' ⟨rfl, rfl⟩
  go_wp2_with fail
  refine (still_any _ h0 h1 _).mono ?_; rintro e w' ⟨rfl, rfl⟩
  go_wp2_with fail
  refine (bit_any _ _ h0 h1 (by decide) (by decide) _).mono ?_; rintro e w' ⟨rfl, rfl⟩
  go_wp2_with fail
  go_loop [10, 11] (fun t i => ∃ k : Nat, k ≤ 64 ∧ i = .int .i64 k ∧ t = .bool (hasUpto x y k)) (fun _ i => 64 - (intOf i).toNat)
  case atStart => exact ⟨0, by omega, rfl, by rw [hasUpto_zero]⟩
  case round =>
    obtain ⟨k, hk, rfl, rfl⟩ := hrel
    by_cases hlt : k < 64
    · have pb := pow_bd k hlt
      cases gy : bitB y (2 ^ k)
      · have H : Hid (hasUpto x y (k + 1) = hasUpto x y k) := Lib.hid (hasUpto_keep x y k (fun h => by unfold bitB at gy; simp at gy; omega))
        go_wp2_with (go_at_call 12; refine (bit_any _ _ k0 k1 pb.1 pb.2 _).mono ?_; rintro e w' ⟨rfl, rfl⟩)
        go_round
        case rel => exact ⟨k + 1, by omega, by go_num, by rw [H.out]⟩
        case measure => simp [intOf]; omega
      · cases gx : bitB x (2 ^ k)
        · have H : Hid (hasUpto x y (k + 1) = false) := Lib.hid (hasUpto_lost x y k (by unfold bitB at gy; simpa using gy) (by unfold bitB at gx; simp at gx; omega))
          go_wp2_with fail
          refine (bit_any _ _ k0 k1 pb.1 pb.2 _).mono ?_; rintro e w' ⟨rfl, rfl⟩
          go_wp2_with fail
          refine (bit_any _ _ h0 h1 pb.1 pb.2 _).mono ?_; rintro e w' ⟨rfl, rfl⟩
          go_wp2_with fail
          go_round
          case rel => exact ⟨k + 1, by omega, by go_num, by rw [H.out]⟩
          case measure => simp [intOf]; omega
        · have H : Hid (hasUpto x y (k + 1) = hasUpto x y k) := Lib.hid (hasUpto_keep x y k (fun h => by unfold bitB at gx; simp at gx; omega))
          go_wp2_with fail
          refine (bit_any _ _ k0 k1 pb.1 pb.2 _).mono ?_; rintro e w' ⟨rfl, rfl⟩
          go_wp2_with fail
          refine (bit_any _ _ h0 h1 pb.1 pb.2 _).mono ?_; rintro e w' ⟨rfl, rfl⟩
          go_wp2_with fail
          go_round
          case rel => exact ⟨k + 1, by omega, by go_num, by rw [H.out]⟩
          case measure => simp [intOf]; omega
    · obtain rfl : k = 64 := by omega
      go_wp2_with fail
      refine (hasC.out _).mono ?_; rintro e w' ⟨rfl, rfl⟩
      go_wp2_with fail
      refine (inserts_any _ h0 h1 _).mono ?_; rintro e w' ⟨rfl, rfl⟩
      go_wp2_with fail
      refine (splits_any _ h0 h1 _).mono ?_; rintro e w' ⟨rfl, rfl⟩
      rcases (show x / 16 % 2 = 0 ∨ x / 16 % 2 = 1 from by omega) with c16 | c16 <;> rcases (show x / 8 % 2 = 0 ∨ x / 8 % 2 = 1 from by omega) with c8 | c8
      all_goals
        have g16 : bitB x 16 = decide (x / 16 % 2 = 1) := rfl
        have g8 : bitB x 8 = decide (x / 8 % 2 = 1) := rfl
        rw [c16] at g16
        rw [c8] at g8
        simp at g16 g8
        have rt : rootV x true = x + 16 - x / 16 % 2 * 16 := rfl
        have rf : rootV x false = x - x / 16 % 2 * 16 := rfl
        have gg : goneV x = x + 8 - x / 8 % 2 * 8 := rfl
        rw [c16] at rt rf
        rw [c8] at gg
        simp at rt rf gg
        have hle : x / 16 % 2 * 16 ≤ x := by omega
        have hu : x + 16 - x / 16 % 2 * 16 ≤ 18446744073709551615 := by omega
        have hu' : x + 8 - x / 8 % 2 * 8 ≤ 18446744073709551615 := by omega
        rw [c16] at hle hu
        rw [c8] at hu'
        simp only [Int.zero_mul, Int.one_mul, Int.sub_zero] at hle hu hu'
        clear c16 c8
        go_wp2_with (first | (go_at_call 12; refine (bit_any _ _ h0 h1 (by decide) (by decide) _).mono ?_; rintro e w' ⟨rfl, rfl⟩) | (go_at_call 16; refine (root_any _ _ h0 h1 _).mono ?_; rintro e w' ⟨rfl, rfl⟩) | (go_at_call 17; refine (gone_any _ h0 h1 _).mono ?_; rintro e w' ⟨rfl, rfl⟩) | (go_at_call 18; refine (known_any _).mono ?_; rintro e W1 ⟨rfl, B1⟩))
        go_ret
        exact ⟨rfl, B1⟩

set_option maxRecDepth 20000 in
set_option maxHeartbeats 1000000 in
theorem tells_100 (x y : Int) (h0 : 0 ≤ x) (h1 : x < 18446744073709551616) (k0 : 0 ≤ y) (k1 : y < 18446744073709551616) (c2 : x / 2 % 2 = 0) (w : World) :
    Calls Try.prog 3 #[.int .u64 x, .bool true, .bool false, .int .u64 y] w fun e w' => e = .returned (.bool true) ∧ Below w.heap.size w w' := by
  have g2 : bitB x 2 = false := by unfold bitB; rw [c2]; rfl
  have st : stillB x = !bitB x 4 := by
    unfold stillB bitB
    rw [decide_eq_true (show x / 2 % 2 = 0 by omega)]
    rw [Bool.eq_iff_iff]; simp; omega
  have HQ : Hid ((bits .and .u64 x y == y) = hasUpto x y 64) := has_eq x y h0 h1 k0 k1
  have hasC : Hid (∀ w : World, Calls Try.prog 13 #[.int .u64 x, .int .u64 y] w fun e w' => e = .returned (.bool (hasUpto x y 64)) ∧ w = w') := Lib.hid fun w => by rw [← HQ.out]; exact has_any x y w
  clear c2 HQ
  go_enter Try.func3, Try.ntmps3
  go_wp2_with fail
  refine (new_any true false _).mono ?_; rintro e w' ⟨rfl, rfl⟩
  go_wp2_with fail
  refine (may_any _ h0 h1 _).mono ?_; rintro e w' ⟨rfl, rfl⟩
  go_wp2_with fail
  refine (lawmay_any _ h0 h1 _).mono ?_; rintro e w' ⟨rfl, rfl⟩
  go_wp2_with fail
  refine (still_any _ h0 h1 _).mono ?_; rintro e w' ⟨rfl, rfl⟩
  go_wp2_with fail
  refine (bit_any _ _ h0 h1 (by decide) (by decide) _).mono ?_; rintro e w' ⟨rfl, rfl⟩
  go_wp2_with fail
  refine (bit_any _ _ h0 h1 (by decide) (by decide) _).mono ?_; rintro e w' ⟨rfl, rfl⟩
  go_wp2_with fail
  go_loop [10, 11] (fun t i => ∃ k : Nat, k ≤ 64 ∧ i = .int .i64 k ∧ t = .bool (hasUpto x y k)) (fun _ i => 64 - (intOf i).toNat)
  case atStart => exact ⟨0, by omega, rfl, by rw [hasUpto_zero]⟩
  case round =>
    obtain ⟨k, hk, rfl, rfl⟩ := hrel
    by_cases hlt : k < 64
    · have pb := pow_bd k hlt
      cases gy : bitB y (2 ^ k)
      · have H : Hid (hasUpto x y (k + 1) = hasUpto x y k) := Lib.hid (hasUpto_keep x y k (fun h => by unfold bitB at gy; simp at gy; omega))
        go_wp2_with (go_at_call 12; refine (bit_any _ _ k0 k1 pb.1 pb.2 _).mono ?_; rintro e w' ⟨rfl, rfl⟩)
        go_round
        case rel => exact ⟨k + 1, by omega, by go_num, by rw [H.out]⟩
        case measure => simp [intOf]; omega
      · cases gx : bitB x (2 ^ k)
        · have H : Hid (hasUpto x y (k + 1) = false) := Lib.hid (hasUpto_lost x y k (by unfold bitB at gy; simpa using gy) (by unfold bitB at gx; simp at gx; omega))
          go_wp2_with fail
          refine (bit_any _ _ k0 k1 pb.1 pb.2 _).mono ?_; rintro e w' ⟨rfl, rfl⟩
          go_wp2_with fail
          refine (bit_any _ _ h0 h1 pb.1 pb.2 _).mono ?_; rintro e w' ⟨rfl, rfl⟩
          go_wp2_with fail
          go_round
          case rel => exact ⟨k + 1, by omega, by go_num, by rw [H.out]⟩
          case measure => simp [intOf]; omega
        · have H : Hid (hasUpto x y (k + 1) = hasUpto x y k) := Lib.hid (hasUpto_keep x y k (fun h => by unfold bitB at gx; simp at gx; omega))
          go_wp2_with fail
          refine (bit_any _ _ k0 k1 pb.1 pb.2 _).mono ?_; rintro e w' ⟨rfl, rfl⟩
          go_wp2_with fail
          refine (bit_any _ _ h0 h1 pb.1 pb.2 _).mono ?_; rintro e w' ⟨rfl, rfl⟩
          go_wp2_with fail
          go_round
          case rel => exact ⟨k + 1, by omega, by go_num, by rw [H.out]⟩
          case measure => simp [intOf]; omega
    · obtain rfl : k = 64 := by omega
      go_wp2_with fail
      refine (hasC.out _).mono ?_; rintro e w' ⟨rfl, rfl⟩
      go_wp2_with fail
      refine (inserts_any _ h0 h1 _).mono ?_; rintro e w' ⟨rfl, rfl⟩
      go_wp2_with fail
      refine (splits_any _ h0 h1 _).mono ?_; rintro e w' ⟨rfl, rfl⟩
      rcases (show x / 16 % 2 = 0 ∨ x / 16 % 2 = 1 from by omega) with c16 | c16 <;> rcases (show x / 8 % 2 = 0 ∨ x / 8 % 2 = 1 from by omega) with c8 | c8
      all_goals
        have g16 : bitB x 16 = decide (x / 16 % 2 = 1) := rfl
        have g8 : bitB x 8 = decide (x / 8 % 2 = 1) := rfl
        rw [c16] at g16
        rw [c8] at g8
        simp at g16 g8
        have rt : rootV x true = x + 16 - x / 16 % 2 * 16 := rfl
        have rf : rootV x false = x - x / 16 % 2 * 16 := rfl
        have gg : goneV x = x + 8 - x / 8 % 2 * 8 := rfl
        rw [c16] at rt rf
        rw [c8] at gg
        simp at rt rf gg
        have hle : x / 16 % 2 * 16 ≤ x := by omega
        have hu : x + 16 - x / 16 % 2 * 16 ≤ 18446744073709551615 := by omega
        have hu' : x + 8 - x / 8 % 2 * 8 ≤ 18446744073709551615 := by omega
        rw [c16] at hle hu
        rw [c8] at hu'
        simp only [Int.zero_mul, Int.one_mul, Int.sub_zero] at hle hu hu'
        clear c16 c8
        go_wp2_with (first | (go_at_call 12; refine (bit_any _ _ h0 h1 (by decide) (by decide) _).mono ?_; rintro e w' ⟨rfl, rfl⟩) | (go_at_call 16; refine (root_any _ _ h0 h1 _).mono ?_; rintro e w' ⟨rfl, rfl⟩) | (go_at_call 17; refine (gone_any _ h0 h1 _).mono ?_; rintro e w' ⟨rfl, rfl⟩) | (go_at_call 18; refine (known_any _).mono ?_; rintro e W1 ⟨rfl, B1⟩))
        go_ret
        exact ⟨rfl, B1⟩

set_option maxRecDepth 20000 in
set_option maxHeartbeats 1000000 in
theorem tells_101 (x y : Int) (h0 : 0 ≤ x) (h1 : x < 18446744073709551616) (k0 : 0 ≤ y) (k1 : y < 18446744073709551616) (c2 : x / 2 % 2 = 1) (w : World) :
    Calls Try.prog 3 #[.int .u64 x, .bool true, .bool false, .int .u64 y] w fun e w' => e = .returned (.bool true) ∧ Below w.heap.size w w' := by
  have g2 : bitB x 2 = true := by unfold bitB; rw [c2]; rfl
  have st : stillB x = false := by
    unfold stillB
    rw [decide_eq_false (show ¬ x / 2 % 2 = 0 by omega)]
    rfl
  have HQ : Hid ((bits .and .u64 x y == y) = hasUpto x y 64) := has_eq x y h0 h1 k0 k1
  have hasC : Hid (∀ w : World, Calls Try.prog 13 #[.int .u64 x, .int .u64 y] w fun e w' => e = .returned (.bool (hasUpto x y 64)) ∧ w = w') := Lib.hid fun w => by rw [← HQ.out]; exact has_any x y w
  clear c2 HQ
  go_enter Try.func3, Try.ntmps3
  go_wp2_with fail
  refine (new_any true false _).mono ?_; rintro e w' ⟨rfl, rfl⟩
  go_wp2_with fail
  refine (may_any _ h0 h1 _).mono ?_; rintro e w' ⟨rfl, rfl⟩
  go_wp2_with fail
  refine (lawmay_any _ h0 h1 _).mono ?_; rintro e w' ⟨rfl, rfl⟩
  go_wp2_with fail
  refine (still_any _ h0 h1 _).mono ?_; rintro e w' ⟨rfl, rfl⟩
  go_wp2_with fail
  refine (bit_any _ _ h0 h1 (by decide) (by decide) _).mono ?_; rintro e w' ⟨rfl, rfl⟩
  go_wp2_with fail
  go_loop [10, 11] (fun t i => ∃ k : Nat, k ≤ 64 ∧ i = .int .i64 k ∧ t = .bool (hasUpto x y k)) (fun _ i => 64 - (intOf i).toNat)
  case atStart => exact ⟨0, by omega, rfl, by rw [hasUpto_zero]⟩
  case round =>
    obtain ⟨k, hk, rfl, rfl⟩ := hrel
    by_cases hlt : k < 64
    · have pb := pow_bd k hlt
      cases gy : bitB y (2 ^ k)
      · have H : Hid (hasUpto x y (k + 1) = hasUpto x y k) := Lib.hid (hasUpto_keep x y k (fun h => by unfold bitB at gy; simp at gy; omega))
        go_wp2_with (go_at_call 12; refine (bit_any _ _ k0 k1 pb.1 pb.2 _).mono ?_; rintro e w' ⟨rfl, rfl⟩)
        go_round
        case rel => exact ⟨k + 1, by omega, by go_num, by rw [H.out]⟩
        case measure => simp [intOf]; omega
      · cases gx : bitB x (2 ^ k)
        · have H : Hid (hasUpto x y (k + 1) = false) := Lib.hid (hasUpto_lost x y k (by unfold bitB at gy; simpa using gy) (by unfold bitB at gx; simp at gx; omega))
          go_wp2_with fail
          refine (bit_any _ _ k0 k1 pb.1 pb.2 _).mono ?_; rintro e w' ⟨rfl, rfl⟩
          go_wp2_with fail
          refine (bit_any _ _ h0 h1 pb.1 pb.2 _).mono ?_; rintro e w' ⟨rfl, rfl⟩
          go_wp2_with fail
          go_round
          case rel => exact ⟨k + 1, by omega, by go_num, by rw [H.out]⟩
          case measure => simp [intOf]; omega
        · have H : Hid (hasUpto x y (k + 1) = hasUpto x y k) := Lib.hid (hasUpto_keep x y k (fun h => by unfold bitB at gx; simp at gx; omega))
          go_wp2_with fail
          refine (bit_any _ _ k0 k1 pb.1 pb.2 _).mono ?_; rintro e w' ⟨rfl, rfl⟩
          go_wp2_with fail
          refine (bit_any _ _ h0 h1 pb.1 pb.2 _).mono ?_; rintro e w' ⟨rfl, rfl⟩
          go_wp2_with fail
          go_round
          case rel => exact ⟨k + 1, by omega, by go_num, by rw [H.out]⟩
          case measure => simp [intOf]; omega
    · obtain rfl : k = 64 := by omega
      go_wp2_with fail
      refine (hasC.out _).mono ?_; rintro e w' ⟨rfl, rfl⟩
      go_wp2_with fail
      refine (inserts_any _ h0 h1 _).mono ?_; rintro e w' ⟨rfl, rfl⟩
      go_wp2_with fail
      refine (splits_any _ h0 h1 _).mono ?_; rintro e w' ⟨rfl, rfl⟩
      rcases (show x / 16 % 2 = 0 ∨ x / 16 % 2 = 1 from by omega) with c16 | c16 <;> rcases (show x / 8 % 2 = 0 ∨ x / 8 % 2 = 1 from by omega) with c8 | c8
      all_goals
        have g16 : bitB x 16 = decide (x / 16 % 2 = 1) := rfl
        have g8 : bitB x 8 = decide (x / 8 % 2 = 1) := rfl
        rw [c16] at g16
        rw [c8] at g8
        simp at g16 g8
        have rt : rootV x true = x + 16 - x / 16 % 2 * 16 := rfl
        have rf : rootV x false = x - x / 16 % 2 * 16 := rfl
        have gg : goneV x = x + 8 - x / 8 % 2 * 8 := rfl
        rw [c16] at rt rf
        rw [c8] at gg
        simp at rt rf gg
        have hle : x / 16 % 2 * 16 ≤ x := by omega
        have hu : x + 16 - x / 16 % 2 * 16 ≤ 18446744073709551615 := by omega
        have hu' : x + 8 - x / 8 % 2 * 8 ≤ 18446744073709551615 := by omega
        rw [c16] at hle hu
        rw [c8] at hu'
        simp only [Int.zero_mul, Int.one_mul, Int.sub_zero] at hle hu hu'
        clear c16 c8
        go_wp2_with (first | (go_at_call 12; refine (bit_any _ _ h0 h1 (by decide) (by decide) _).mono ?_; rintro e w' ⟨rfl, rfl⟩) | (go_at_call 16; refine (root_any _ _ h0 h1 _).mono ?_; rintro e w' ⟨rfl, rfl⟩) | (go_at_call 17; refine (gone_any _ h0 h1 _).mono ?_; rintro e w' ⟨rfl, rfl⟩) | (go_at_call 18; refine (known_any _).mono ?_; rintro e W1 ⟨rfl, B1⟩))
        go_ret
        exact ⟨rfl, B1⟩

set_option maxRecDepth 20000 in
set_option maxHeartbeats 1000000 in
theorem tells_110 (x y : Int) (h0 : 0 ≤ x) (h1 : x < 18446744073709551616) (k0 : 0 ≤ y) (k1 : y < 18446744073709551616) (c2 : x / 2 % 2 = 0) (w : World) :
    Calls Try.prog 3 #[.int .u64 x, .bool true, .bool true, .int .u64 y] w fun e w' => e = .returned (.bool true) ∧ Below w.heap.size w w' := by
  have g2 : bitB x 2 = false := by unfold bitB; rw [c2]; rfl
  have st : stillB x = !bitB x 4 := by
    unfold stillB bitB
    rw [decide_eq_true (show x / 2 % 2 = 0 by omega)]
    rw [Bool.eq_iff_iff]; simp; omega
  have HQ : Hid ((bits .and .u64 x y == y) = hasUpto x y 64) := has_eq x y h0 h1 k0 k1
  have hasC : Hid (∀ w : World, Calls Try.prog 13 #[.int .u64 x, .int .u64 y] w fun e w' => e = .returned (.bool (hasUpto x y 64)) ∧ w = w') := Lib.hid fun w => by rw [← HQ.out]; exact has_any x y w
  clear c2 HQ
  go_enter Try.func3, Try.ntmps3
  go_wp2_with fail
  refine (new_any true true _).mono ?_; rintro e w' ⟨rfl, rfl⟩
  go_wp2_with fail
  refine (may_any _ h0 h1 _).mono ?_; rintro e w' ⟨rfl, rfl⟩
  go_wp2_with fail
  refine (lawmay_any _ h0 h1 _).mono ?_; rintro e w' ⟨rfl, rfl⟩
  go_wp2_with fail
  refine (still_any _ h0 h1 _).mono ?_; rintro e w' ⟨rfl, rfl⟩
  go_wp2_with fail
  refine (bit_any _ _ h0 h1 (by decide) (by decide) _).mono ?_; rintro e w' ⟨rfl, rfl⟩
  go_wp2_with fail
  refine (bit_any _ _ h0 h1 (by decide) (by decide) _).mono ?_; rintro e w' ⟨rfl, rfl⟩
  go_wp2_with fail
  go_loop [10, 11] (fun t i => ∃ k : Nat, k ≤ 64 ∧ i = .int .i64 k ∧ t = .bool (hasUpto x y k)) (fun _ i => 64 - (intOf i).toNat)
  case atStart => exact ⟨0, by omega, rfl, by rw [hasUpto_zero]⟩
  case round =>
    obtain ⟨k, hk, rfl, rfl⟩ := hrel
    by_cases hlt : k < 64
    · have pb := pow_bd k hlt
      cases gy : bitB y (2 ^ k)
      · have H : Hid (hasUpto x y (k + 1) = hasUpto x y k) := Lib.hid (hasUpto_keep x y k (fun h => by unfold bitB at gy; simp at gy; omega))
        go_wp2_with (go_at_call 12; refine (bit_any _ _ k0 k1 pb.1 pb.2 _).mono ?_; rintro e w' ⟨rfl, rfl⟩)
        go_round
        case rel => exact ⟨k + 1, by omega, by go_num, by rw [H.out]⟩
        case measure => simp [intOf]; omega
      · cases gx : bitB x (2 ^ k)
        · have H : Hid (hasUpto x y (k + 1) = false) := Lib.hid (hasUpto_lost x y k (by unfold bitB at gy; simpa using gy) (by unfold bitB at gx; simp at gx; omega))
          go_wp2_with fail
          refine (bit_any _ _ k0 k1 pb.1 pb.2 _).mono ?_; rintro e w' ⟨rfl, rfl⟩
          go_wp2_with fail
          refine (bit_any _ _ h0 h1 pb.1 pb.2 _).mono ?_; rintro e w' ⟨rfl, rfl⟩
          go_wp2_with fail
          go_round
          case rel => exact ⟨k + 1, by omega, by go_num, by rw [H.out]⟩
          case measure => simp [intOf]; omega
        · have H : Hid (hasUpto x y (k + 1) = hasUpto x y k) := Lib.hid (hasUpto_keep x y k (fun h => by unfold bitB at gx; simp at gx; omega))
          go_wp2_with fail
          refine (bit_any _ _ k0 k1 pb.1 pb.2 _).mono ?_; rintro e w' ⟨rfl, rfl⟩
          go_wp2_with fail
          refine (bit_any _ _ h0 h1 pb.1 pb.2 _).mono ?_; rintro e w' ⟨rfl, rfl⟩
          go_wp2_with fail
          go_round
          case rel => exact ⟨k + 1, by omega, by go_num, by rw [H.out]⟩
          case measure => simp [intOf]; omega
    · obtain rfl : k = 64 := by omega
      go_wp2_with fail
      refine (hasC.out _).mono ?_; rintro e w' ⟨rfl, rfl⟩
      go_wp2_with fail
      refine (inserts_any _ h0 h1 _).mono ?_; rintro e w' ⟨rfl, rfl⟩
      go_wp2_with fail
      refine (splits_any _ h0 h1 _).mono ?_; rintro e w' ⟨rfl, rfl⟩
      rcases (show x / 16 % 2 = 0 ∨ x / 16 % 2 = 1 from by omega) with c16 | c16 <;> rcases (show x / 8 % 2 = 0 ∨ x / 8 % 2 = 1 from by omega) with c8 | c8
      all_goals
        have g16 : bitB x 16 = decide (x / 16 % 2 = 1) := rfl
        have g8 : bitB x 8 = decide (x / 8 % 2 = 1) := rfl
        rw [c16] at g16
        rw [c8] at g8
        simp at g16 g8
        have rt : rootV x true = x + 16 - x / 16 % 2 * 16 := rfl
        have rf : rootV x false = x - x / 16 % 2 * 16 := rfl
        have gg : goneV x = x + 8 - x / 8 % 2 * 8 := rfl
        rw [c16] at rt rf
        rw [c8] at gg
        simp at rt rf gg
        have hle : x / 16 % 2 * 16 ≤ x := by omega
        have hu : x + 16 - x / 16 % 2 * 16 ≤ 18446744073709551615 := by omega
        have hu' : x + 8 - x / 8 % 2 * 8 ≤ 18446744073709551615 := by omega
        rw [c16] at hle hu
        rw [c8] at hu'
        simp only [Int.zero_mul, Int.one_mul, Int.sub_zero] at hle hu hu'
        clear c16 c8
        go_wp2_with (first | (go_at_call 12; refine (bit_any _ _ h0 h1 (by decide) (by decide) _).mono ?_; rintro e w' ⟨rfl, rfl⟩) | (go_at_call 16; refine (root_any _ _ h0 h1 _).mono ?_; rintro e w' ⟨rfl, rfl⟩) | (go_at_call 17; refine (gone_any _ h0 h1 _).mono ?_; rintro e w' ⟨rfl, rfl⟩) | (go_at_call 18; refine (known_any _).mono ?_; rintro e W1 ⟨rfl, B1⟩))
        go_ret
        exact ⟨rfl, B1⟩

set_option maxRecDepth 20000 in
set_option maxHeartbeats 1000000 in
theorem tells_111 (x y : Int) (h0 : 0 ≤ x) (h1 : x < 18446744073709551616) (k0 : 0 ≤ y) (k1 : y < 18446744073709551616) (c2 : x / 2 % 2 = 1) (w : World) :
    Calls Try.prog 3 #[.int .u64 x, .bool true, .bool true, .int .u64 y] w fun e w' => e = .returned (.bool true) ∧ Below w.heap.size w w' := by
  have g2 : bitB x 2 = true := by unfold bitB; rw [c2]; rfl
  have st : stillB x = false := by
    unfold stillB
    rw [decide_eq_false (show ¬ x / 2 % 2 = 0 by omega)]
    rfl
  have HQ : Hid ((bits .and .u64 x y == y) = hasUpto x y 64) := has_eq x y h0 h1 k0 k1
  have hasC : Hid (∀ w : World, Calls Try.prog 13 #[.int .u64 x, .int .u64 y] w fun e w' => e = .returned (.bool (hasUpto x y 64)) ∧ w = w') := Lib.hid fun w => by rw [← HQ.out]; exact has_any x y w
  clear c2 HQ
  go_enter Try.func3, Try.ntmps3
  go_wp2_with fail
  refine (new_any true true _).mono ?_; rintro e w' ⟨rfl, rfl⟩
  go_wp2_with fail
  refine (may_any _ h0 h1 _).mono ?_; rintro e w' ⟨rfl, rfl⟩
  go_wp2_with fail
  refine (lawmay_any _ h0 h1 _).mono ?_; rintro e w' ⟨rfl, rfl⟩
  go_wp2_with fail
  refine (still_any _ h0 h1 _).mono ?_; rintro e w' ⟨rfl, rfl⟩
  go_wp2_with fail
  refine (bit_any _ _ h0 h1 (by decide) (by decide) _).mono ?_; rintro e w' ⟨rfl, rfl⟩
  go_wp2_with fail
  go_loop [10, 11] (fun t i => ∃ k : Nat, k ≤ 64 ∧ i = .int .i64 k ∧ t = .bool (hasUpto x y k)) (fun _ i => 64 - (intOf i).toNat)
  case atStart => exact ⟨0, by omega, rfl, by rw [hasUpto_zero]⟩
  case round =>
    obtain ⟨k, hk, rfl, rfl⟩ := hrel
    by_cases hlt : k < 64
    · have pb := pow_bd k hlt
      cases gy : bitB y (2 ^ k)
      · have H : Hid (hasUpto x y (k + 1) = hasUpto x y k) := Lib.hid (hasUpto_keep x y k (fun h => by unfold bitB at gy; simp at gy; omega))
        go_wp2_with (go_at_call 12; refine (bit_any _ _ k0 k1 pb.1 pb.2 _).mono ?_; rintro e w' ⟨rfl, rfl⟩)
        go_round
        case rel => exact ⟨k + 1, by omega, by go_num, by rw [H.out]⟩
        case measure => simp [intOf]; omega
      · cases gx : bitB x (2 ^ k)
        · have H : Hid (hasUpto x y (k + 1) = false) := Lib.hid (hasUpto_lost x y k (by unfold bitB at gy; simpa using gy) (by unfold bitB at gx; simp at gx; omega))
          go_wp2_with fail
          refine (bit_any _ _ k0 k1 pb.1 pb.2 _).mono ?_; rintro e w' ⟨rfl, rfl⟩
          go_wp2_with fail
          refine (bit_any _ _ h0 h1 pb.1 pb.2 _).mono ?_; rintro e w' ⟨rfl, rfl⟩
          go_wp2_with fail
          go_round
          case rel => exact ⟨k + 1, by omega, by go_num, by rw [H.out]⟩
          case measure => simp [intOf]; omega
        · have H : Hid (hasUpto x y (k + 1) = hasUpto x y k) := Lib.hid (hasUpto_keep x y k (fun h => by unfold bitB at gx; simp at gx; omega))
          go_wp2_with fail
          refine (bit_any _ _ k0 k1 pb.1 pb.2 _).mono ?_; rintro e w' ⟨rfl, rfl⟩
          go_wp2_with fail
          refine (bit_any _ _ h0 h1 pb.1 pb.2 _).mono ?_; rintro e w' ⟨rfl, rfl⟩
          go_wp2_with fail
          go_round
          case rel => exact ⟨k + 1, by omega, by go_num, by rw [H.out]⟩
          case measure => simp [intOf]; omega
    · obtain rfl : k = 64 := by omega
      go_wp2_with fail
      refine (hasC.out _).mono ?_; rintro e w' ⟨rfl, rfl⟩
      go_wp2_with fail
      refine (inserts_any _ h0 h1 _).mono ?_; rintro e w' ⟨rfl, rfl⟩
      go_wp2_with fail
      refine (splits_any _ h0 h1 _).mono ?_; rintro e w' ⟨rfl, rfl⟩
      rcases (show x / 16 % 2 = 0 ∨ x / 16 % 2 = 1 from by omega) with c16 | c16 <;> rcases (show x / 8 % 2 = 0 ∨ x / 8 % 2 = 1 from by omega) with c8 | c8
      all_goals
        have g16 : bitB x 16 = decide (x / 16 % 2 = 1) := rfl
        have g8 : bitB x 8 = decide (x / 8 % 2 = 1) := rfl
        rw [c16] at g16
        rw [c8] at g8
        simp at g16 g8
        have rt : rootV x true = x + 16 - x / 16 % 2 * 16 := rfl
        have rf : rootV x false = x - x / 16 % 2 * 16 := rfl
        have gg : goneV x = x + 8 - x / 8 % 2 * 8 := rfl
        rw [c16] at rt rf
        rw [c8] at gg
        simp at rt rf gg
        have hle : x / 16 % 2 * 16 ≤ x := by omega
        have hu : x + 16 - x / 16 % 2 * 16 ≤ 18446744073709551615 := by omega
        have hu' : x + 8 - x / 8 % 2 * 8 ≤ 18446744073709551615 := by omega
        rw [c16] at hle hu
        rw [c8] at hu'
        simp only [Int.zero_mul, Int.one_mul, Int.sub_zero] at hle hu hu'
        clear c16 c8
        go_wp2_with (first | (go_at_call 12; refine (bit_any _ _ h0 h1 (by decide) (by decide) _).mono ?_; rintro e w' ⟨rfl, rfl⟩) | (go_at_call 16; refine (root_any _ _ h0 h1 _).mono ?_; rintro e w' ⟨rfl, rfl⟩) | (go_at_call 17; refine (gone_any _ h0 h1 _).mono ?_; rintro e w' ⟨rfl, rfl⟩) | (go_at_call 18; refine (known_any _).mono ?_; rintro e W1 ⟨rfl, B1⟩))
        go_ret
        exact ⟨rfl, B1⟩

theorem tells_law (x : Int) (r b : Bool) (y : Int) (bx : 0 ≤ x ∧ x ≤ 18446744073709551615) (by' : 0 ≤ y ∧ y ≤ 18446744073709551615) (w : World) :
    Calls Try.prog 3 #[.int .u64 x, .bool r, .bool b, .int .u64 y] w fun e w' => e = .returned (.bool true) ∧ Below w.heap.size w w' := by
  have h1 : x < 18446744073709551616 := by omega
  have k1 : y < 18446744073709551616 := by omega
  rcases (show x / 2 % 2 = 0 ∨ x / 2 % 2 = 1 from by omega) with c | c <;> cases r <;> cases b
  · exact tells_000 x y bx.1 h1 by'.1 k1 c w
  · exact tells_010 x y bx.1 h1 by'.1 k1 c w
  · exact tells_100 x y bx.1 h1 by'.1 k1 c w
  · exact tells_110 x y bx.1 h1 by'.1 k1 c w
  · exact tells_001 x y bx.1 h1 by'.1 k1 c w
  · exact tells_011 x y bx.1 h1 by'.1 k1 c w
  · exact tells_101 x y bx.1 h1 by'.1 k1 c w
  · exact tells_111 x y bx.1 h1 by'.1 k1 c w

end Go.Proofs.Ytleodeoopckfjaa
