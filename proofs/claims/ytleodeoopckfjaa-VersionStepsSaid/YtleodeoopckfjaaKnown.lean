/- The chapter's rows hold: 'known' returns true. -/
import Derived.Test.YtleodeoopckfjaaFns
namespace Go.Proofs.Ytleodeoopckfjaa
open Go.ChangeShapes Go.WideShapes Go.ChangeAt Go.RowKit
open VM

theorem step_below {w a b : World} (h : Below w.heap.size w a) (k : Below a.heap.size a b) : Below w.heap.size w b := h.trans (k.mono h.size)

theorem two_lit {P : Program} {f : FuncId} {args : Array Value} {w : World} {k l : IntKind} {a b c : Int} (h : Calls P f args w fun e w' => e = .returned (.tuple #[.int k a, .int l c]) ∧ Below w.heap.size w w') (e : a = b) :
    Calls P f args w fun e w' => e = .returned (.tuple #[.int k b, .int l c]) ∧ Below w.heap.size w w' := by rw [← e]; exact h

theorem known_any (w : World) : Calls Try.prog 18 #[] w fun e w' => e = .returned (.bool true) ∧ Below w.heap.size w w' := by
  have got9 : ∀ w : World, Calls Try.prog 19 #[.int .u64 0, .int .i64 9] w fun e w' => e = .returned (.int .u64 9223372036854775817) ∧ w = w' := fun w => got_bad 0 9 (by decide) (by decide) w
  have got2 : ∀ w : World, Calls Try.prog 19 #[.int .u64 0, .int .i64 2] w fun e w' => e = .returned (.int .u64 9223372036854775810) ∧ w = w' := fun w => got_bad 0 2 (by decide) (by decide) w
  have G9 := Lib.hid got9; clear got9
  have G2 := Lib.hid got2; clear got2
  go_enter Try.func18, Try.ntmps18
  go_wp2_with fail
  refine (new_any true true _).mono ?_; rintro e w' ⟨rfl, rfl⟩
  go_wp2_with fail
  refine (two_lit (lock_ok 48 (by decide) (by decide) (by decide) (by decide) _) (b := 49) rfl).mono ?_; rintro e w1 ⟨rfl, b1⟩
  go_wp2_with fail
  refine (got_ok _ _).mono ?_; rintro e w' ⟨rfl, rfl⟩
  go_wp2_with fail
  refine (two_lit (unlock_ok 49 (by decide) (by decide) (by decide) (by decide) _) (b := 48) (by decide)).mono ?_; rintro e w2 ⟨rfl, b2⟩
  replace b2 := step_below b1 b2; clear b1
  go_wp2_with fail
  refine (got_ok _ _).mono ?_; rintro e w' ⟨rfl, rfl⟩
  go_wp2_with fail
  refine (two_lit (unlock_ok 51 (by decide) (by decide) (by decide) (by decide) _) (b := 304) (by decide)).mono ?_; rintro e w3 ⟨rfl, b3⟩
  replace b3 := step_below b2 b3; clear b2
  go_wp2_with fail
  refine (got_ok _ _).mono ?_; rintro e w' ⟨rfl, rfl⟩
  go_wp2_with fail
  refine (two_lit (unlock_ok 53 (by decide) (by decide) (by decide) (by decide) _) (b := 16777264) (by decide)).mono ?_; rintro e w4 ⟨rfl, b4⟩
  replace b4 := step_below b3 b4; clear b3
  go_wp2_with fail
  refine (got_ok _ _).mono ?_; rintro e w' ⟨rfl, rfl⟩
  go_wp2_with fail
  refine (lock_state 49 (by decide) (by decide) (by decide) (by decide) _).mono ?_; rintro e w5 ⟨rfl, b5⟩
  replace b5 := step_below b4 b5; clear b4
  go_wp2_with fail
  refine (G9.out _).mono ?_; rintro e w' ⟨rfl, rfl⟩
  go_wp2_with fail
  refine (insert_state 48 (by decide) (by decide) (by decide) (by decide) _).mono ?_; rintro e w6 ⟨rfl, b6⟩
  replace b6 := step_below b5 b6; clear b5
  go_wp2_with fail
  refine (G9.out _).mono ?_; rintro e w' ⟨rfl, rfl⟩
  go_wp2_with fail
  refine (unlock_state 48 (by decide) (by decide) (by decide) (by decide) _).mono ?_; rintro e w7 ⟨rfl, b7⟩
  replace b7 := step_below b6 b7; clear b6
  go_wp2_with fail
  refine (G9.out _).mono ?_; rintro e w' ⟨rfl, rfl⟩
  go_wp2_with fail
  refine (lock_arg 64 (by decide) (by decide) (by decide) _).mono ?_; rintro e w8 ⟨rfl, b8⟩
  replace b8 := step_below b7 b8; clear b7
  go_wp2_with fail
  refine (G2.out _).mono ?_; rintro e w' ⟨rfl, rfl⟩
  have s1 : sameB 48 49 = true := by decide
  have m1 : movedB 48 304 = false := by decide
  have m2 : movedB 48 56 = true := by decide
  go_wp2_with fail
  refine (same_any 48 49 (by decide) (by decide) (by decide) (by decide) _).mono ?_; rintro e w' ⟨rfl, rfl⟩
  go_wp2_with fail
  refine (moved_any 48 304 (by decide) (by decide) (by decide) (by decide) _).mono ?_; rintro e w' ⟨rfl, rfl⟩
  go_wp2_with fail
  refine (moved_any 48 56 (by decide) (by decide) (by decide) (by decide) _).mono ?_; rintro e w' ⟨rfl, rfl⟩
  go_wp2_with fail
  go_ret
  exact ⟨rfl, b8⟩

end Go.Proofs.Ytleodeoopckfjaa
