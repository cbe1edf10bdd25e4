/- The functions of layer 8 that compare and ask, each by a contract. -/
import Derived.Test.YtkgcbhpgkcfkhaaK8f
namespace Go.Proofs.Ytkgcbhpgkcfkhaa.K8
open Go.ChangeShapes Go.WideShapes Go.ChangeAt Go.RowKit
open SM
set_option linter.unusedVariables false
set_option linter.unusedSimpArgs false

def cmpV (a b : Int) : Int := if a < b then -1 else if b < a then 1 else 0

theorem isnan33 (a : Int) (w : World) : Calls Try.prog 113 #[.int .u64 a] w fun e w' => e = .returned (.bool false) ∧ w = w' := by
  go_enter Try.func113, Try.ntmps113
  go_wp2
  go_ret
  exact ⟨rfl, rfl⟩
theorem cmp30 (a b : Int) (w : World) : Calls Try.prog 110 #[.int .u64 a, .int .u64 b] w fun e w' => e = .returned (.int .i64 (cmpV a b)) ∧ w = w' := by
  rcases (show a < b ∨ a = b ∨ b < a from by omega) with h | h | h
  · go_enter Try.func110, Try.ntmps110
    go_wp2_with fail
    refine (isnan33 _ _).mono ?_; rintro e w' ⟨rfl, rfl⟩
    go_wp2_with fail
    refine (isnan33 _ _).mono ?_; rintro e w' ⟨rfl, rfl⟩
    go_wp2_with fail
    go_ret
    exact ⟨ret_int (by simp [cmpV, h]), rfl⟩
  · subst h
    go_enter Try.func110, Try.ntmps110
    go_wp2_with fail
    refine (isnan33 _ _).mono ?_; rintro e w' ⟨rfl, rfl⟩
    go_wp2_with fail
    refine (isnan33 _ _).mono ?_; rintro e w' ⟨rfl, rfl⟩
    go_wp2_with fail
    go_ret
    exact ⟨ret_int (by simp [cmpV]), rfl⟩
  · have h' : ¬ a < b := by omega
    go_enter Try.func110, Try.ntmps110
    go_wp2_with fail
    refine (isnan33 _ _).mono ?_; rintro e w' ⟨rfl, rfl⟩
    go_wp2_with fail
    refine (isnan33 _ _).mono ?_; rintro e w' ⟨rfl, rfl⟩
    go_wp2_with fail
    go_ret
    exact ⟨ret_int (by simp [cmpV, h, h']), rfl⟩

theorem isnan34 (a : Int) (w : World) : Calls Try.prog 114 #[.int .i64 a] w fun e w' => e = .returned (.bool false) ∧ w = w' := by
  go_enter Try.func114, Try.ntmps114
  go_wp2
  go_ret
  exact ⟨rfl, rfl⟩
theorem cmp31 (a b : Int) (w : World) : Calls Try.prog 111 #[.int .i64 a, .int .i64 b] w fun e w' => e = .returned (.int .i64 (cmpV a b)) ∧ w = w' := by
  rcases (show a < b ∨ a = b ∨ b < a from by omega) with h | h | h
  · go_enter Try.func111, Try.ntmps111
    go_wp2_with fail
    refine (isnan34 _ _).mono ?_; rintro e w' ⟨rfl, rfl⟩
    go_wp2_with fail
    refine (isnan34 _ _).mono ?_; rintro e w' ⟨rfl, rfl⟩
    go_wp2_with fail
    go_ret
    exact ⟨ret_int (by simp [cmpV, h]), rfl⟩
  · subst h
    go_enter Try.func111, Try.ntmps111
    go_wp2_with fail
    refine (isnan34 _ _).mono ?_; rintro e w' ⟨rfl, rfl⟩
    go_wp2_with fail
    refine (isnan34 _ _).mono ?_; rintro e w' ⟨rfl, rfl⟩
    go_wp2_with fail
    go_ret
    exact ⟨ret_int (by simp [cmpV]), rfl⟩
  · have h' : ¬ a < b := by omega
    go_enter Try.func111, Try.ntmps111
    go_wp2_with fail
    refine (isnan34 _ _).mono ?_; rintro e w' ⟨rfl, rfl⟩
    go_wp2_with fail
    refine (isnan34 _ _).mono ?_; rintro e w' ⟨rfl, rfl⟩
    go_wp2_with fail
    go_ret
    exact ⟨ret_int (by simp [cmpV, h, h']), rfl⟩

def cmpS (x m y n : Int) : Int := if cmpV x y ≠ 0 then cmpV x y else cmpV m n
theorem compare_law (x m y n : Int) (w : World) : Calls Try.prog 102 #[.agg #[.int .u64 x, .int .i64 m], .agg #[.int .u64 y, .int .i64 n]] w fun e w' => e = .returned (.int .i64 (cmpS x m y n)) ∧ Below w.heap.size w w' := by
  by_cases h : cmpV x y = 0
  · go_enter Try.func102, Try.ntmps102
    go_wp2_with fail
    refine (cmp30 _ _ _).mono ?_; rintro e w' ⟨rfl, rfl⟩
    go_wp2_with fail
    refine (cmp31 _ _ _).mono ?_; rintro e w' ⟨rfl, rfl⟩
    go_wp2_with fail
    go_ret
    exact ⟨ret_int (by simp [cmpS, h]), ((Below.refl _ _).alloc (Nat.le_refl _) _).alloc (by simp) _⟩
  · go_enter Try.func102, Try.ntmps102
    go_wp2_with fail
    refine (cmp30 _ _ _).mono ?_; rintro e w' ⟨rfl, rfl⟩
    go_wp2_with fail
    go_ret
    exact ⟨ret_int (by simp [cmpS, h]), ((Below.refl _ _).alloc (Nat.le_refl _) _).alloc (by simp) _⟩

end Go.Proofs.Ytkgcbhpgkcfkhaa.K8
