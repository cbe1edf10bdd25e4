/- The walks of the laws of layer 10: each returns true, whatever its arguments. -/
import Derived.Test.YtleodeoopckfjaaKnown
namespace Go.Proofs.Ytleodeoopckfjaa
open Go.ChangeShapes Go.WideShapes Go.ChangeAt Go.RowKit
open VM

theorem moved_same (x y : Int) (c : x / 16777216 % 4294967296 = y / 16777216 % 4294967296) : movedB x y = (bitB x 8 != bitB y 8) := by
  unfold movedB bitB
  rw [Bool.eq_iff_iff]
  simp [c]
  omega
theorem moved_other (x y : Int) (c : ¬ x / 16777216 % 4294967296 = y / 16777216 % 4294967296) : movedB x y = true := by
  unfold movedB
  simp [c]
theorem bit1_of (x : Int) : bitB x 1 = decide (x % 2 = 1) := by unfold bitB; rw [Int.ediv_one]

theorem same_0000 (x y : Int) (h0 : 0 ≤ x) (h1 : x < 18446744073709551616) (k0 : 0 ≤ y) (k1 : y < 18446744073709551616) (px : x % 2 = 0) (py : y % 2 = 0) (c : ¬ x / 16777216 % 4294967296 = y / 16777216 % 4294967296) (s : ¬ x / 2 = y / 2) (w : World) :
    Calls Try.prog 5 #[.int .u64 x, .int .u64 y] w fun e w' => e = .returned (.bool true) ∧ Below w.heap.size w w' := by
  have b1 : bitB x 1 = false := by rw [bit1_of, px]; rfl
  have b2 : bitB y 1 = false := by rw [bit1_of, py]; rfl
  have hS : sameB x y = false := by unfold sameB; rw [decide_eq_false s]
  have hM := moved_other x y c
  have sb : (x == y) = false := by simp; omega
  clear px py s
  go_enter Try.func5, Try.ntmps5
  go_wp2_with fail
  refine (bit_any _ _ h0 h1 (by decide) (by decide) _).mono ?_; rintro e w' ⟨rfl, rfl⟩
  go_wp2_with fail
  refine (bit_any _ _ k0 k1 (by decide) (by decide) _).mono ?_; rintro e w' ⟨rfl, rfl⟩
  go_wp2_with fail
  refine (same_any _ _ h0 h1 k0 k1 _).mono ?_; rintro e w' ⟨rfl, rfl⟩
  go_wp2_with fail
  refine (moved_any _ _ h0 h1 k0 k1 _).mono ?_; rintro e w' ⟨rfl, rfl⟩
  go_wp2_with fail
  refine (known_any _).mono ?_; rintro e W1 ⟨rfl, B1⟩
  go_wp2_with fail
  go_ret
  exact ⟨rfl, B1⟩

theorem same_0010 (x y : Int) (h0 : 0 ≤ x) (h1 : x < 18446744073709551616) (k0 : 0 ≤ y) (k1 : y < 18446744073709551616) (px : x % 2 = 0) (py : y % 2 = 0) (c : x / 16777216 % 4294967296 = y / 16777216 % 4294967296) (s : ¬ x / 2 = y / 2) (w : World) :
    Calls Try.prog 5 #[.int .u64 x, .int .u64 y] w fun e w' => e = .returned (.bool true) ∧ Below w.heap.size w w' := by
  have b1 : bitB x 1 = false := by rw [bit1_of, px]; rfl
  have b2 : bitB y 1 = false := by rw [bit1_of, py]; rfl
  have hS : sameB x y = false := by unfold sameB; rw [decide_eq_false s]
  have hM := moved_same x y c
  have sb : (x == y) = false := by simp; omega
  have c1 : x / 16777216 % 4294967296 ≤ y / 16777216 % 4294967296 := by omega
  have c2 : y / 16777216 % 4294967296 ≤ x / 16777216 % 4294967296 := by omega
  clear c px py s
  go_enter Try.func5, Try.ntmps5
  go_wp2_with fail
  refine (bit_any _ _ h0 h1 (by decide) (by decide) _).mono ?_; rintro e w' ⟨rfl, rfl⟩
  go_wp2_with fail
  refine (bit_any _ _ k0 k1 (by decide) (by decide) _).mono ?_; rintro e w' ⟨rfl, rfl⟩
  go_wp2_with fail
  refine (bit_any _ _ h0 h1 (by decide) (by decide) _).mono ?_; rintro e w' ⟨rfl, rfl⟩
  go_wp2_with fail
  refine (bit_any _ _ k0 k1 (by decide) (by decide) _).mono ?_; rintro e w' ⟨rfl, rfl⟩
  go_wp2_with fail
  refine (same_any _ _ h0 h1 k0 k1 _).mono ?_; rintro e w' ⟨rfl, rfl⟩
  go_wp2_with fail
  refine (moved_any _ _ h0 h1 k0 k1 _).mono ?_; rintro e w' ⟨rfl, rfl⟩
  go_wp2_with fail
  refine (known_any _).mono ?_; rintro e W1 ⟨rfl, B1⟩
  go_wp2_with fail
  go_ret
  exact ⟨rfl, B1⟩

theorem same_0011 (x y : Int) (h0 : 0 ≤ x) (h1 : x < 18446744073709551616) (k0 : 0 ≤ y) (k1 : y < 18446744073709551616) (px : x % 2 = 0) (py : y % 2 = 0) (c : x / 16777216 % 4294967296 = y / 16777216 % 4294967296) (s : x / 2 = y / 2) (w : World) :
    Calls Try.prog 5 #[.int .u64 x, .int .u64 y] w fun e w' => e = .returned (.bool true) ∧ Below w.heap.size w w' := by
  have b1 : bitB x 1 = false := by rw [bit1_of, px]; rfl
  have b2 : bitB y 1 = false := by rw [bit1_of, py]; rfl
  have hS : sameB x y = true := by unfold sameB; rw [decide_eq_true s]
  have hM := moved_same x y c
  obtain rfl : x = y := by omega
  clear c px py s
  go_enter Try.func5, Try.ntmps5
  go_wp2_with fail
  refine (bit_any _ _ h0 h1 (by decide) (by decide) _).mono ?_; rintro e w' ⟨rfl, rfl⟩
  go_wp2_with fail
  refine (bit_any _ _ h0 h1 (by decide) (by decide) _).mono ?_; rintro e w' ⟨rfl, rfl⟩
  go_wp2_with fail
  refine (bit_any _ _ h0 h1 (by decide) (by decide) _).mono ?_; rintro e w' ⟨rfl, rfl⟩
  go_wp2_with fail
  refine (bit_any _ _ h0 h1 (by decide) (by decide) _).mono ?_; rintro e w' ⟨rfl, rfl⟩
  go_wp2_with fail
  refine (same_any _ _ h0 h1 h0 h1 _).mono ?_; rintro e w' ⟨rfl, rfl⟩
  go_wp2_with fail
  refine (moved_any _ _ h0 h1 h0 h1 _).mono ?_; rintro e w' ⟨rfl, rfl⟩
  go_wp2_with fail
  refine (known_any _).mono ?_; rintro e W1 ⟨rfl, B1⟩
  go_wp2_with fail
  go_ret
  exact ⟨rfl, B1⟩

theorem same_0100 (x y : Int) (h0 : 0 ≤ x) (h1 : x < 18446744073709551616) (k0 : 0 ≤ y) (k1 : y < 18446744073709551616) (px : x % 2 = 0) (py : y % 2 = 1) (c : ¬ x / 16777216 % 4294967296 = y / 16777216 % 4294967296) (s : ¬ x / 2 = y / 2) (w : World) :
    Calls Try.prog 5 #[.int .u64 x, .int .u64 y] w fun e w' => e = .returned (.bool true) ∧ Below w.heap.size w w' := by
  have b1 : bitB x 1 = false := by rw [bit1_of, px]; rfl
  have b2 : bitB y 1 = true := by rw [bit1_of, py]; rfl
  have hS : sameB x y = false := by unfold sameB; rw [decide_eq_false s]
  have hM := moved_other x y c
  have p2 : 1 ≤ y := by omega
  have sb : (x == y - 1) = false := by simp; omega
  clear px py s
  go_enter Try.func5, Try.ntmps5
  go_wp2_with fail
  refine (bit_any _ _ h0 h1 (by decide) (by decide) _).mono ?_; rintro e w' ⟨rfl, rfl⟩
  go_wp2_with fail
  refine (bit_any _ _ k0 k1 (by decide) (by decide) _).mono ?_; rintro e w' ⟨rfl, rfl⟩
  go_wp2_with fail
  refine (same_any _ _ h0 h1 k0 k1 _).mono ?_; rintro e w' ⟨rfl, rfl⟩
  go_wp2_with fail
  refine (moved_any _ _ h0 h1 k0 k1 _).mono ?_; rintro e w' ⟨rfl, rfl⟩
  go_wp2_with fail
  refine (known_any _).mono ?_; rintro e W1 ⟨rfl, B1⟩
  go_wp2_with fail
  go_ret
  exact ⟨rfl, B1⟩

theorem same_0110 (x y : Int) (h0 : 0 ≤ x) (h1 : x < 18446744073709551616) (k0 : 0 ≤ y) (k1 : y < 18446744073709551616) (px : x % 2 = 0) (py : y % 2 = 1) (c : x / 16777216 % 4294967296 = y / 16777216 % 4294967296) (s : ¬ x / 2 = y / 2) (w : World) :
    Calls Try.prog 5 #[.int .u64 x, .int .u64 y] w fun e w' => e = .returned (.bool true) ∧ Below w.heap.size w w' := by
  have b1 : bitB x 1 = false := by rw [bit1_of, px]; rfl
  have b2 : bitB y 1 = true := by rw [bit1_of, py]; rfl
  have hS : sameB x y = false := by unfold sameB; rw [decide_eq_false s]
  have hM := moved_same x y c
  have p2 : 1 ≤ y := by omega
  have sb : (x == y - 1) = false := by simp; omega
  have c1 : x / 16777216 % 4294967296 ≤ y / 16777216 % 4294967296 := by omega
  have c2 : y / 16777216 % 4294967296 ≤ x / 16777216 % 4294967296 := by omega
  clear c px py s
  go_enter Try.func5, Try.ntmps5
  go_wp2_with fail
  refine (bit_any _ _ h0 h1 (by decide) (by decide) _).mono ?_; rintro e w' ⟨rfl, rfl⟩
  go_wp2_with fail
  refine (bit_any _ _ k0 k1 (by decide) (by decide) _).mono ?_; rintro e w' ⟨rfl, rfl⟩
  go_wp2_with fail
  refine (bit_any _ _ h0 h1 (by decide) (by decide) _).mono ?_; rintro e w' ⟨rfl, rfl⟩
  go_wp2_with fail
  refine (bit_any _ _ k0 k1 (by decide) (by decide) _).mono ?_; rintro e w' ⟨rfl, rfl⟩
  go_wp2_with fail
  refine (same_any _ _ h0 h1 k0 k1 _).mono ?_; rintro e w' ⟨rfl, rfl⟩
  go_wp2_with fail
  refine (moved_any _ _ h0 h1 k0 k1 _).mono ?_; rintro e w' ⟨rfl, rfl⟩
  go_wp2_with fail
  refine (known_any _).mono ?_; rintro e W1 ⟨rfl, B1⟩
  go_wp2_with fail
  go_ret
  exact ⟨rfl, B1⟩

theorem same_0111 (x y : Int) (h0 : 0 ≤ x) (h1 : x < 18446744073709551616) (k0 : 0 ≤ y) (k1 : y < 18446744073709551616) (px : x % 2 = 0) (py : y % 2 = 1) (c : x / 16777216 % 4294967296 = y / 16777216 % 4294967296) (s : x / 2 = y / 2) (w : World) :
    Calls Try.prog 5 #[.int .u64 x, .int .u64 y] w fun e w' => e = .returned (.bool true) ∧ Below w.heap.size w w' := by
  have b1 : bitB x 1 = false := by rw [bit1_of, px]; rfl
  have b2 : bitB y 1 = true := by rw [bit1_of, py]; rfl
  have hS : sameB x y = true := by unfold sameB; rw [decide_eq_true s]
  have hM := moved_same x y c
  have p2 : 1 ≤ y := by omega
  have sb : (x == y - 1) = true := by simp; omega
  have SB := Lib.hid sb; clear sb
  have c1 : x / 16777216 % 4294967296 ≤ y / 16777216 % 4294967296 := by omega
  have c2 : y / 16777216 % 4294967296 ≤ x / 16777216 % 4294967296 := by omega
  clear c px py s
  go_enter Try.func5, Try.ntmps5
  go_wp2_with fail
  refine (bit_any _ _ h0 h1 (by decide) (by decide) _).mono ?_; rintro e w' ⟨rfl, rfl⟩
  go_wp2_with fail
  refine (bit_any _ _ k0 k1 (by decide) (by decide) _).mono ?_; rintro e w' ⟨rfl, rfl⟩
  go_wp2_with fail
  refine (bit_any _ _ h0 h1 (by decide) (by decide) _).mono ?_; rintro e w' ⟨rfl, rfl⟩
  go_wp2_with fail
  refine (bit_any _ _ k0 k1 (by decide) (by decide) _).mono ?_; rintro e w' ⟨rfl, rfl⟩
  go_wp2_with fail
  refine (same_any _ _ h0 h1 k0 k1 _).mono ?_; rintro e w' ⟨rfl, rfl⟩
  have SB' := SB.out
  go_wp2_with fail
  refine (moved_any _ _ h0 h1 k0 k1 _).mono ?_; rintro e w' ⟨rfl, rfl⟩
  go_wp2_with fail
  refine (known_any _).mono ?_; rintro e W1 ⟨rfl, B1⟩
  go_wp2_with fail
  go_ret
  exact ⟨rfl, B1⟩

theorem same_1000 (x y : Int) (h0 : 0 ≤ x) (h1 : x < 18446744073709551616) (k0 : 0 ≤ y) (k1 : y < 18446744073709551616) (px : x % 2 = 1) (py : y % 2 = 0) (c : ¬ x / 16777216 % 4294967296 = y / 16777216 % 4294967296) (s : ¬ x / 2 = y / 2) (w : World) :
    Calls Try.prog 5 #[.int .u64 x, .int .u64 y] w fun e w' => e = .returned (.bool true) ∧ Below w.heap.size w w' := by
  have b1 : bitB x 1 = true := by rw [bit1_of, px]; rfl
  have b2 : bitB y 1 = false := by rw [bit1_of, py]; rfl
  have hS : sameB x y = false := by unfold sameB; rw [decide_eq_false s]
  have hM := moved_other x y c
  have p1 : 1 ≤ x := by omega
  have sb : (x - 1 == y) = false := by simp; omega
  clear px py s
  go_enter Try.func5, Try.ntmps5
  go_wp2_with fail
  refine (bit_any _ _ h0 h1 (by decide) (by decide) _).mono ?_; rintro e w' ⟨rfl, rfl⟩
  go_wp2_with fail
  refine (bit_any _ _ k0 k1 (by decide) (by decide) _).mono ?_; rintro e w' ⟨rfl, rfl⟩
  go_wp2_with fail
  refine (same_any _ _ h0 h1 k0 k1 _).mono ?_; rintro e w' ⟨rfl, rfl⟩
  go_wp2_with fail
  refine (moved_any _ _ h0 h1 k0 k1 _).mono ?_; rintro e w' ⟨rfl, rfl⟩
  go_wp2_with fail
  refine (known_any _).mono ?_; rintro e W1 ⟨rfl, B1⟩
  go_wp2_with fail
  go_ret
  exact ⟨rfl, B1⟩

theorem same_1010 (x y : Int) (h0 : 0 ≤ x) (h1 : x < 18446744073709551616) (k0 : 0 ≤ y) (k1 : y < 18446744073709551616) (px : x % 2 = 1) (py : y % 2 = 0) (c : x / 16777216 % 4294967296 = y / 16777216 % 4294967296) (s : ¬ x / 2 = y / 2) (w : World) :
    Calls Try.prog 5 #[.int .u64 x, .int .u64 y] w fun e w' => e = .returned (.bool true) ∧ Below w.heap.size w w' := by
  have b1 : bitB x 1 = true := by rw [bit1_of, px]; rfl
  have b2 : bitB y 1 = false := by rw [bit1_of, py]; rfl
  have hS : sameB x y = false := by unfold sameB; rw [decide_eq_false s]
  have hM := moved_same x y c
  have p1 : 1 ≤ x := by omega
  have sb : (x - 1 == y) = false := by simp; omega
  have c1 : x / 16777216 % 4294967296 ≤ y / 16777216 % 4294967296 := by omega
  have c2 : y / 16777216 % 4294967296 ≤ x / 16777216 % 4294967296 := by omega
  clear c px py s
  go_enter Try.func5, Try.ntmps5
  go_wp2_with fail
  refine (bit_any _ _ h0 h1 (by decide) (by decide) _).mono ?_; rintro e w' ⟨rfl, rfl⟩
  go_wp2_with fail
  refine (bit_any _ _ k0 k1 (by decide) (by decide) _).mono ?_; rintro e w' ⟨rfl, rfl⟩
  go_wp2_with fail
  refine (bit_any _ _ h0 h1 (by decide) (by decide) _).mono ?_; rintro e w' ⟨rfl, rfl⟩
  go_wp2_with fail
  refine (bit_any _ _ k0 k1 (by decide) (by decide) _).mono ?_; rintro e w' ⟨rfl, rfl⟩
  go_wp2_with fail
  refine (same_any _ _ h0 h1 k0 k1 _).mono ?_; rintro e w' ⟨rfl, rfl⟩
  go_wp2_with fail
  refine (moved_any _ _ h0 h1 k0 k1 _).mono ?_; rintro e w' ⟨rfl, rfl⟩
  go_wp2_with fail
  refine (known_any _).mono ?_; rintro e W1 ⟨rfl, B1⟩
  go_wp2_with fail
  go_ret
  exact ⟨rfl, B1⟩

theorem same_1011 (x y : Int) (h0 : 0 ≤ x) (h1 : x < 18446744073709551616) (k0 : 0 ≤ y) (k1 : y < 18446744073709551616) (px : x % 2 = 1) (py : y % 2 = 0) (c : x / 16777216 % 4294967296 = y / 16777216 % 4294967296) (s : x / 2 = y / 2) (w : World) :
    Calls Try.prog 5 #[.int .u64 x, .int .u64 y] w fun e w' => e = .returned (.bool true) ∧ Below w.heap.size w w' := by
  have b1 : bitB x 1 = true := by rw [bit1_of, px]; rfl
  have b2 : bitB y 1 = false := by rw [bit1_of, py]; rfl
  have hS : sameB x y = true := by unfold sameB; rw [decide_eq_true s]
  have hM := moved_same x y c
  have p1 : 1 ≤ x := by omega
  have sb : (x - 1 == y) = true := by simp; omega
  have SB := Lib.hid sb; clear sb
  have c1 : x / 16777216 % 4294967296 ≤ y / 16777216 % 4294967296 := by omega
  have c2 : y / 16777216 % 4294967296 ≤ x / 16777216 % 4294967296 := by omega
  clear c px py s
  go_enter Try.func5, Try.ntmps5
  go_wp2_with fail
  refine (bit_any _ _ h0 h1 (by decide) (by decide) _).mono ?_; rintro e w' ⟨rfl, rfl⟩
  go_wp2_with fail
  refine (bit_any _ _ k0 k1 (by decide) (by decide) _).mono ?_; rintro e w' ⟨rfl, rfl⟩
  go_wp2_with fail
  refine (bit_any _ _ h0 h1 (by decide) (by decide) _).mono ?_; rintro e w' ⟨rfl, rfl⟩
  go_wp2_with fail
  refine (bit_any _ _ k0 k1 (by decide) (by decide) _).mono ?_; rintro e w' ⟨rfl, rfl⟩
  go_wp2_with fail
  refine (same_any _ _ h0 h1 k0 k1 _).mono ?_; rintro e w' ⟨rfl, rfl⟩
  have SB' := SB.out
  go_wp2_with fail
  refine (moved_any _ _ h0 h1 k0 k1 _).mono ?_; rintro e w' ⟨rfl, rfl⟩
  go_wp2_with fail
  refine (known_any _).mono ?_; rintro e W1 ⟨rfl, B1⟩
  go_wp2_with fail
  go_ret
  exact ⟨rfl, B1⟩

theorem same_1100 (x y : Int) (h0 : 0 ≤ x) (h1 : x < 18446744073709551616) (k0 : 0 ≤ y) (k1 : y < 18446744073709551616) (px : x % 2 = 1) (py : y % 2 = 1) (c : ¬ x / 16777216 % 4294967296 = y / 16777216 % 4294967296) (s : ¬ x / 2 = y / 2) (w : World) :
    Calls Try.prog 5 #[.int .u64 x, .int .u64 y] w fun e w' => e = .returned (.bool true) ∧ Below w.heap.size w w' := by
  have b1 : bitB x 1 = true := by rw [bit1_of, px]; rfl
  have b2 : bitB y 1 = true := by rw [bit1_of, py]; rfl
  have hS : sameB x y = false := by unfold sameB; rw [decide_eq_false s]
  have hM := moved_other x y c
  have p1 : 1 ≤ x := by omega
  have p2 : 1 ≤ y := by omega
  have sb : (x - 1 == y - 1) = false := by simp; omega
  clear px py s
  go_enter Try.func5, Try.ntmps5
  go_wp2_with fail
  refine (bit_any _ _ h0 h1 (by decide) (by decide) _).mono ?_; rintro e w' ⟨rfl, rfl⟩
  go_wp2_with fail
  refine (bit_any _ _ k0 k1 (by decide) (by decide) _).mono ?_; rintro e w' ⟨rfl, rfl⟩
  go_wp2_with fail
  refine (same_any _ _ h0 h1 k0 k1 _).mono ?_; rintro e w' ⟨rfl, rfl⟩
  go_wp2_with fail
  refine (moved_any _ _ h0 h1 k0 k1 _).mono ?_; rintro e w' ⟨rfl, rfl⟩
  go_wp2_with fail
  refine (known_any _).mono ?_; rintro e W1 ⟨rfl, B1⟩
  go_wp2_with fail
  go_ret
  exact ⟨rfl, B1⟩

theorem same_1110 (x y : Int) (h0 : 0 ≤ x) (h1 : x < 18446744073709551616) (k0 : 0 ≤ y) (k1 : y < 18446744073709551616) (px : x % 2 = 1) (py : y % 2 = 1) (c : x / 16777216 % 4294967296 = y / 16777216 % 4294967296) (s : ¬ x / 2 = y / 2) (w : World) :
    Calls Try.prog 5 #[.int .u64 x, .int .u64 y] w fun e w' => e = .returned (.bool true) ∧ Below w.heap.size w w' := by
  have b1 : bitB x 1 = true := by rw [bit1_of, px]; rfl
  have b2 : bitB y 1 = true := by rw [bit1_of, py]; rfl
  have hS : sameB x y = false := by unfold sameB; rw [decide_eq_false s]
  have hM := moved_same x y c
  have p1 : 1 ≤ x := by omega
  have p2 : 1 ≤ y := by omega
  have sb : (x - 1 == y - 1) = false := by simp; omega
  have c1 : x / 16777216 % 4294967296 ≤ y / 16777216 % 4294967296 := by omega
  have c2 : y / 16777216 % 4294967296 ≤ x / 16777216 % 4294967296 := by omega
  clear c px py s
  go_enter Try.func5, Try.ntmps5
  go_wp2_with fail
  refine (bit_any _ _ h0 h1 (by decide) (by decide) _).mono ?_; rintro e w' ⟨rfl, rfl⟩
  go_wp2_with fail
  refine (bit_any _ _ k0 k1 (by decide) (by decide) _).mono ?_; rintro e w' ⟨rfl, rfl⟩
  go_wp2_with fail
  refine (bit_any _ _ h0 h1 (by decide) (by decide) _).mono ?_; rintro e w' ⟨rfl, rfl⟩
  go_wp2_with fail
  refine (bit_any _ _ k0 k1 (by decide) (by decide) _).mono ?_; rintro e w' ⟨rfl, rfl⟩
  go_wp2_with fail
  refine (same_any _ _ h0 h1 k0 k1 _).mono ?_; rintro e w' ⟨rfl, rfl⟩
  go_wp2_with fail
  refine (moved_any _ _ h0 h1 k0 k1 _).mono ?_; rintro e w' ⟨rfl, rfl⟩
  go_wp2_with fail
  refine (known_any _).mono ?_; rintro e W1 ⟨rfl, B1⟩
  go_wp2_with fail
  go_ret
  exact ⟨rfl, B1⟩

theorem same_1111 (x y : Int) (h0 : 0 ≤ x) (h1 : x < 18446744073709551616) (k0 : 0 ≤ y) (k1 : y < 18446744073709551616) (px : x % 2 = 1) (py : y % 2 = 1) (c : x / 16777216 % 4294967296 = y / 16777216 % 4294967296) (s : x / 2 = y / 2) (w : World) :
    Calls Try.prog 5 #[.int .u64 x, .int .u64 y] w fun e w' => e = .returned (.bool true) ∧ Below w.heap.size w w' := by
  have b1 : bitB x 1 = true := by rw [bit1_of, px]; rfl
  have b2 : bitB y 1 = true := by rw [bit1_of, py]; rfl
  have hS : sameB x y = true := by unfold sameB; rw [decide_eq_true s]
  have hM := moved_same x y c
  have p1 : 1 ≤ x := by omega
  have p2 : 1 ≤ y := by omega
  obtain rfl : x = y := by omega
  clear c px py s
  go_enter Try.func5, Try.ntmps5
  go_wp2_with fail
  refine (bit_any _ _ h0 h1 (by decide) (by decide) _).mono ?_; rintro e w' ⟨rfl, rfl⟩
  go_wp2_with fail
  refine (bit_any _ _ h0 h1 (by decide) (by decide) _).mono ?_; rintro e w' ⟨rfl, rfl⟩
  go_wp2_with fail
  refine (bit_any _ _ h0 h1 (by decide) (by decide) _).mono ?_; rintro e w' ⟨rfl, rfl⟩
  go_wp2_with fail
  refine (bit_any _ _ h0 h1 (by decide) (by decide) _).mono ?_; rintro e w' ⟨rfl, rfl⟩
  go_wp2_with fail
  refine (same_any _ _ h0 h1 h0 h1 _).mono ?_; rintro e w' ⟨rfl, rfl⟩
  go_wp2_with fail
  refine (moved_any _ _ h0 h1 h0 h1 _).mono ?_; rintro e w' ⟨rfl, rfl⟩
  go_wp2_with fail
  refine (known_any _).mono ?_; rintro e W1 ⟨rfl, B1⟩
  go_wp2_with fail
  go_ret
  exact ⟨rfl, B1⟩

theorem same_walk (x y : Int) (h0 : 0 ≤ x) (h1 : x < 18446744073709551616) (k0 : 0 ≤ y) (k1 : y < 18446744073709551616) (w : World) :
    Calls Try.prog 5 #[.int .u64 x, .int .u64 y] w fun e w' => e = .returned (.bool true) ∧ Below w.heap.size w w' := by
  rcases (show x % 2 = 0 ∨ x % 2 = 1 from by omega) with px | px <;> rcases (show y % 2 = 0 ∨ y % 2 = 1 from by omega) with py | py
  all_goals
    by_cases c : x / 16777216 % 4294967296 = y / 16777216 % 4294967296 <;> by_cases s : x / 2 = y / 2
    all_goals first | exact same_0000 x y h0 h1 k0 k1 px py c s w | exact same_0010 x y h0 h1 k0 k1 px py c s w | exact same_0011 x y h0 h1 k0 k1 px py c s w | exact same_0100 x y h0 h1 k0 k1 px py c s w | exact same_0110 x y h0 h1 k0 k1 px py c s w | exact same_0111 x y h0 h1 k0 k1 px py c s w | exact same_1000 x y h0 h1 k0 k1 px py c s w | exact same_1010 x y h0 h1 k0 k1 px py c s w | exact same_1011 x y h0 h1 k0 k1 px py c s w | exact same_1100 x y h0 h1 k0 k1 px py c s w | exact same_1110 x y h0 h1 k0 k1 px py c s w | exact same_1111 x y h0 h1 k0 k1 px py c s w | (exfalso; omega)

theorem same_law (x y : Int) (bx : 0 ≤ x ∧ x ≤ 18446744073709551615) (by' : 0 ≤ y ∧ y ≤ 18446744073709551615) (w : World) :
    Calls Try.prog 5 #[.int .u64 x, .int .u64 y] w fun e w' => e = .returned (.bool true) ∧ Below w.heap.size w w' :=
  same_walk x y bx.1 (by omega) by'.1 (by omega) w

end Go.Proofs.Ytleodeoopckfjaa
