/- The walk of TidOrder. -/
import Derived.Test.YtfdboihfgpibcaaDoorLaws3
set_option linter.unusedVariables false
namespace Go.Proofs.YtfdboihfgpibcaaDoor
open Go.ChangeShapes Go.WideShapes Go.ChangeAt Go.RowKit
open TM

theorem less_self (x : Int) : lessB x x = false := by unfold lessB; simp
theorem less_trans {x y z : Int} (h : lessB x y = true) (k : lessB y z = true) : lessB x z = true := by
  unfold lessB at *
  split at h <;> split at k <;> split <;> simp only [decide_eq_true_eq] at * <;> omega
theorem less_ep {x y : Int} (h : epV x < epV y) : lessB x y = true ∧ lessB y x = false := by
  unfold lessB; rw [if_neg (by omega), if_neg (by omega), decide_eq_true_eq, decide_eq_false_iff_not]; omega
theorem less_nu {x y : Int} (h : epV x = epV y) (h' : nuV x < nuV y) : lessB x y = true ∧ lessB y x = false := by
  unfold lessB; rw [if_pos h, if_pos h.symm, decide_eq_true_eq, decide_eq_false_iff_not]; omega
theorem less_not {x y : Int} (h : epV x = epV y) (h' : ¬ nuV x < nuV y) : lessB x y = false := by
  unfold lessB; rw [if_pos h, decide_eq_false_iff_not]; omega

set_option maxRecDepth 100000 in
set_option maxHeartbeats 1000000 in
theorem order_lt0 (a b c : Int) (ha0 : 0 ≤ a) (ha1 : a < 18446744073709551616) (hb0 : 0 ≤ b) (hb1 : b < 18446744073709551616) (hc0 : 0 ≤ c) (hc1 : c < 18446744073709551616) (he : epV a < epV b) (hbc : lessB b c = false) (w : World) (m : Int) (hm : w.cell? ⟨1, 0, none⟩ = some (.int .i64 m)) :
    Calls Tryd.prog 6 #[.int .u64 a, .int .u64 b, .int .u64 c] w fun e w' => e = .returned (.bool true) ∧ Below w.heap.size w w' := by
  have H := Lib.hid hm; clear hm
  have ls := less_self a
  have l1 := (less_ep he).1
  have l2 := (less_ep he).2

  go_enter Tryd.func6, Tryd.ntmps6
  go_wp2_with fail
  refine (refOf_any _ ha0 ha1 _).mono ?_; rintro e W1 ⟨rfl, B1⟩
  go_wp2_with fail
  refine (refOf_any _ hb0 hb1 _).mono ?_; rintro e W2 ⟨rfl, B2⟩
  obtain ⟨hcc, _⟩ := bcell B2
  have hz : W1.heap.size < W2.heap.size := by have := B2.size; simp at this; omega
  replace B2 := alloc_below (step_below (alloc_below B1 _) B2) (.cells #[.int .i64 (epV b), .int .i64 (nuV b), .bool (bitB b 1), .bool (bitB b 2), .bool (bitB b 4)] 28)
  go_wp2_with fail
  refine (less_any _ _ ha0 ha1 hb0 hb1 _).mono ?_; rintro e w' ⟨rfl, rfl⟩
  go_wp2_with fail
  refine (less_any _ _ ha0 ha1 ha0 ha1 _).mono ?_; rintro e w' ⟨rfl, rfl⟩
  go_wp2_with fail
  refine (less_any _ _ ha0 ha1 hb0 hb1 _).mono ?_; rintro e w' ⟨rfl, rfl⟩
  go_wp2_with fail
  refine (less_any _ _ hb0 hb1 ha0 ha1 _).mono ?_; rintro e w' ⟨rfl, rfl⟩
  go_wp2_with fail
  refine (less_any _ _ ha0 ha1 hb0 hb1 _).mono ?_; rintro e w' ⟨rfl, rfl⟩
  go_wp2_with fail
  refine (less_any _ _ hb0 hb1 hc0 hc1 _).mono ?_; rintro e w' ⟨rfl, rfl⟩
  go_wp2_with fail
  refine (known_at H.out B2).mono ?_; rintro e WK ⟨rfl, BK⟩
  replace BK := step_below B2 BK
  go_wp2_with fail
  go_ret
  exact ⟨rfl, BK⟩

set_option maxRecDepth 100000 in
set_option maxHeartbeats 1000000 in
theorem order_lt1 (a b c : Int) (ha0 : 0 ≤ a) (ha1 : a < 18446744073709551616) (hb0 : 0 ≤ b) (hb1 : b < 18446744073709551616) (hc0 : 0 ≤ c) (hc1 : c < 18446744073709551616) (he : epV a < epV b) (hbc : lessB b c = true) (w : World) (m : Int) (hm : w.cell? ⟨1, 0, none⟩ = some (.int .i64 m)) :
    Calls Tryd.prog 6 #[.int .u64 a, .int .u64 b, .int .u64 c] w fun e w' => e = .returned (.bool true) ∧ Below w.heap.size w w' := by
  have H := Lib.hid hm; clear hm
  have ls := less_self a
  have l1 := (less_ep he).1
  have l2 := (less_ep he).2
  have lac := less_trans l1 hbc
  go_enter Tryd.func6, Tryd.ntmps6
  go_wp2_with fail
  refine (refOf_any _ ha0 ha1 _).mono ?_; rintro e W1 ⟨rfl, B1⟩
  go_wp2_with fail
  refine (refOf_any _ hb0 hb1 _).mono ?_; rintro e W2 ⟨rfl, B2⟩
  obtain ⟨hcc, _⟩ := bcell B2
  have hz : W1.heap.size < W2.heap.size := by have := B2.size; simp at this; omega
  replace B2 := alloc_below (step_below (alloc_below B1 _) B2) (.cells #[.int .i64 (epV b), .int .i64 (nuV b), .bool (bitB b 1), .bool (bitB b 2), .bool (bitB b 4)] 28)
  go_wp2_with fail
  refine (less_any _ _ ha0 ha1 hb0 hb1 _).mono ?_; rintro e w' ⟨rfl, rfl⟩
  go_wp2_with fail
  refine (less_any _ _ ha0 ha1 ha0 ha1 _).mono ?_; rintro e w' ⟨rfl, rfl⟩
  go_wp2_with fail
  refine (less_any _ _ ha0 ha1 hb0 hb1 _).mono ?_; rintro e w' ⟨rfl, rfl⟩
  go_wp2_with fail
  refine (less_any _ _ hb0 hb1 ha0 ha1 _).mono ?_; rintro e w' ⟨rfl, rfl⟩
  go_wp2_with fail
  refine (less_any _ _ ha0 ha1 hb0 hb1 _).mono ?_; rintro e w' ⟨rfl, rfl⟩
  go_wp2_with fail
  refine (less_any _ _ hb0 hb1 hc0 hc1 _).mono ?_; rintro e w' ⟨rfl, rfl⟩
  go_wp2_with fail
  refine (less_any _ _ ha0 ha1 hc0 hc1 _).mono ?_; rintro e w' ⟨rfl, rfl⟩
  go_wp2_with fail
  refine (known_at H.out B2).mono ?_; rintro e WK ⟨rfl, BK⟩
  replace BK := step_below B2 BK
  go_wp2_with fail
  go_ret
  exact ⟨rfl, BK⟩

set_option maxRecDepth 100000 in
set_option maxHeartbeats 1000000 in
theorem order_eqlt0 (a b c : Int) (ha0 : 0 ≤ a) (ha1 : a < 18446744073709551616) (hb0 : 0 ≤ b) (hb1 : b < 18446744073709551616) (hc0 : 0 ≤ c) (hc1 : c < 18446744073709551616) (he : epV a = epV b) (hn : nuV a < nuV b) (hbc : lessB b c = false) (w : World) (m : Int) (hm : w.cell? ⟨1, 0, none⟩ = some (.int .i64 m)) :
    Calls Tryd.prog 6 #[.int .u64 a, .int .u64 b, .int .u64 c] w fun e w' => e = .returned (.bool true) ∧ Below w.heap.size w w' := by
  have H := Lib.hid hm; clear hm
  have ls := less_self a
  have l1 := (less_nu he hn).1
  have l2 := (less_nu he hn).2
  have e1 : epV a ≤ epV b := by omega
  have e2 : epV b ≤ epV a := by omega
  have e3 : (epV a == epV b) = true := by simp [he]

  clear he
  go_enter Tryd.func6, Tryd.ntmps6
  go_wp2_with fail
  refine (refOf_any _ ha0 ha1 _).mono ?_; rintro e W1 ⟨rfl, B1⟩
  go_wp2_with fail
  refine (refOf_any _ hb0 hb1 _).mono ?_; rintro e W2 ⟨rfl, B2⟩
  obtain ⟨hcc, _⟩ := bcell B2
  have hz : W1.heap.size < W2.heap.size := by have := B2.size; simp at this; omega
  replace B2 := alloc_below (step_below (alloc_below B1 _) B2) (.cells #[.int .i64 (epV b), .int .i64 (nuV b), .bool (bitB b 1), .bool (bitB b 2), .bool (bitB b 4)] 28)
  go_wp2_with fail
  refine (less_any _ _ ha0 ha1 hb0 hb1 _).mono ?_; rintro e w' ⟨rfl, rfl⟩
  go_wp2_with fail
  refine (less_any _ _ ha0 ha1 ha0 ha1 _).mono ?_; rintro e w' ⟨rfl, rfl⟩
  go_wp2_with fail
  refine (less_any _ _ ha0 ha1 hb0 hb1 _).mono ?_; rintro e w' ⟨rfl, rfl⟩
  go_wp2_with fail
  refine (less_any _ _ hb0 hb1 ha0 ha1 _).mono ?_; rintro e w' ⟨rfl, rfl⟩
  go_wp2_with fail
  refine (less_any _ _ ha0 ha1 hb0 hb1 _).mono ?_; rintro e w' ⟨rfl, rfl⟩
  go_wp2_with fail
  refine (less_any _ _ hb0 hb1 hc0 hc1 _).mono ?_; rintro e w' ⟨rfl, rfl⟩
  go_wp2_with fail
  refine (known_at H.out B2).mono ?_; rintro e WK ⟨rfl, BK⟩
  replace BK := step_below B2 BK
  go_wp2_with fail
  go_ret
  exact ⟨rfl, BK⟩

set_option maxRecDepth 100000 in
set_option maxHeartbeats 1000000 in
theorem order_eqlt1 (a b c : Int) (ha0 : 0 ≤ a) (ha1 : a < 18446744073709551616) (hb0 : 0 ≤ b) (hb1 : b < 18446744073709551616) (hc0 : 0 ≤ c) (hc1 : c < 18446744073709551616) (he : epV a = epV b) (hn : nuV a < nuV b) (hbc : lessB b c = true) (w : World) (m : Int) (hm : w.cell? ⟨1, 0, none⟩ = some (.int .i64 m)) :
    Calls Tryd.prog 6 #[.int .u64 a, .int .u64 b, .int .u64 c] w fun e w' => e = .returned (.bool true) ∧ Below w.heap.size w w' := by
  have H := Lib.hid hm; clear hm
  have ls := less_self a
  have l1 := (less_nu he hn).1
  have l2 := (less_nu he hn).2
  have e1 : epV a ≤ epV b := by omega
  have e2 : epV b ≤ epV a := by omega
  have e3 : (epV a == epV b) = true := by simp [he]
  have lac := less_trans l1 hbc
  clear he
  go_enter Tryd.func6, Tryd.ntmps6
  go_wp2_with fail
  refine (refOf_any _ ha0 ha1 _).mono ?_; rintro e W1 ⟨rfl, B1⟩
  go_wp2_with fail
  refine (refOf_any _ hb0 hb1 _).mono ?_; rintro e W2 ⟨rfl, B2⟩
  obtain ⟨hcc, _⟩ := bcell B2
  have hz : W1.heap.size < W2.heap.size := by have := B2.size; simp at this; omega
  replace B2 := alloc_below (step_below (alloc_below B1 _) B2) (.cells #[.int .i64 (epV b), .int .i64 (nuV b), .bool (bitB b 1), .bool (bitB b 2), .bool (bitB b 4)] 28)
  go_wp2_with fail
  refine (less_any _ _ ha0 ha1 hb0 hb1 _).mono ?_; rintro e w' ⟨rfl, rfl⟩
  go_wp2_with fail
  refine (less_any _ _ ha0 ha1 ha0 ha1 _).mono ?_; rintro e w' ⟨rfl, rfl⟩
  go_wp2_with fail
  refine (less_any _ _ ha0 ha1 hb0 hb1 _).mono ?_; rintro e w' ⟨rfl, rfl⟩
  go_wp2_with fail
  refine (less_any _ _ hb0 hb1 ha0 ha1 _).mono ?_; rintro e w' ⟨rfl, rfl⟩
  go_wp2_with fail
  refine (less_any _ _ ha0 ha1 hb0 hb1 _).mono ?_; rintro e w' ⟨rfl, rfl⟩
  go_wp2_with fail
  refine (less_any _ _ hb0 hb1 hc0 hc1 _).mono ?_; rintro e w' ⟨rfl, rfl⟩
  go_wp2_with fail
  refine (less_any _ _ ha0 ha1 hc0 hc1 _).mono ?_; rintro e w' ⟨rfl, rfl⟩
  go_wp2_with fail
  refine (known_at H.out B2).mono ?_; rintro e WK ⟨rfl, BK⟩
  replace BK := step_below B2 BK
  go_wp2_with fail
  go_ret
  exact ⟨rfl, BK⟩

set_option maxRecDepth 100000 in
set_option maxHeartbeats 1000000 in
theorem order_eqge (a b c : Int) (ha0 : 0 ≤ a) (ha1 : a < 18446744073709551616) (hb0 : 0 ≤ b) (hb1 : b < 18446744073709551616) (hc0 : 0 ≤ c) (hc1 : c < 18446744073709551616) (he : epV a = epV b) (hn : ¬ nuV a < nuV b) (w : World) (m : Int) (hm : w.cell? ⟨1, 0, none⟩ = some (.int .i64 m)) :
    Calls Tryd.prog 6 #[.int .u64 a, .int .u64 b, .int .u64 c] w fun e w' => e = .returned (.bool true) ∧ Below w.heap.size w w' := by
  have H := Lib.hid hm; clear hm
  have ls := less_self a
  have l1 := less_not he hn
  have e1 : epV a ≤ epV b := by omega
  have e2 : epV b ≤ epV a := by omega
  have e3 : (epV a == epV b) = true := by simp [he]

  clear he
  go_enter Tryd.func6, Tryd.ntmps6
  go_wp2_with fail
  refine (refOf_any _ ha0 ha1 _).mono ?_; rintro e W1 ⟨rfl, B1⟩
  go_wp2_with fail
  refine (refOf_any _ hb0 hb1 _).mono ?_; rintro e W2 ⟨rfl, B2⟩
  obtain ⟨hcc, _⟩ := bcell B2
  have hz : W1.heap.size < W2.heap.size := by have := B2.size; simp at this; omega
  replace B2 := alloc_below (step_below (alloc_below B1 _) B2) (.cells #[.int .i64 (epV b), .int .i64 (nuV b), .bool (bitB b 1), .bool (bitB b 2), .bool (bitB b 4)] 28)
  go_wp2_with fail
  refine (less_any _ _ ha0 ha1 hb0 hb1 _).mono ?_; rintro e w' ⟨rfl, rfl⟩
  go_wp2_with fail
  refine (less_any _ _ ha0 ha1 ha0 ha1 _).mono ?_; rintro e w' ⟨rfl, rfl⟩
  go_wp2_with fail
  refine (less_any _ _ ha0 ha1 hb0 hb1 _).mono ?_; rintro e w' ⟨rfl, rfl⟩
  go_wp2_with fail
  refine (less_any _ _ ha0 ha1 hb0 hb1 _).mono ?_; rintro e w' ⟨rfl, rfl⟩
  go_wp2_with fail
  refine (known_at H.out B2).mono ?_; rintro e WK ⟨rfl, BK⟩
  replace BK := step_below B2 BK
  go_wp2_with fail
  go_ret
  exact ⟨rfl, BK⟩

set_option maxRecDepth 100000 in
set_option maxHeartbeats 1000000 in
theorem order_gt (a b c : Int) (ha0 : 0 ≤ a) (ha1 : a < 18446744073709551616) (hb0 : 0 ≤ b) (hb1 : b < 18446744073709551616) (hc0 : 0 ≤ c) (hc1 : c < 18446744073709551616) (he : epV b < epV a) (w : World) (m : Int) (hm : w.cell? ⟨1, 0, none⟩ = some (.int .i64 m)) :
    Calls Tryd.prog 6 #[.int .u64 a, .int .u64 b, .int .u64 c] w fun e w' => e = .returned (.bool true) ∧ Below w.heap.size w w' := by
  have H := Lib.hid hm; clear hm
  have ls := less_self a
  have l1 := (less_ep he).2
  have e3 : (epV a == epV b) = false := by simp; omega
  have e4 : ¬ epV a < epV b := by omega

  go_enter Tryd.func6, Tryd.ntmps6
  go_wp2_with fail
  refine (refOf_any _ ha0 ha1 _).mono ?_; rintro e W1 ⟨rfl, B1⟩
  go_wp2_with fail
  refine (refOf_any _ hb0 hb1 _).mono ?_; rintro e W2 ⟨rfl, B2⟩
  obtain ⟨hcc, _⟩ := bcell B2
  have hz : W1.heap.size < W2.heap.size := by have := B2.size; simp at this; omega
  replace B2 := alloc_below (step_below (alloc_below B1 _) B2) (.cells #[.int .i64 (epV b), .int .i64 (nuV b), .bool (bitB b 1), .bool (bitB b 2), .bool (bitB b 4)] 28)
  go_wp2_with fail
  refine (less_any _ _ ha0 ha1 hb0 hb1 _).mono ?_; rintro e w' ⟨rfl, rfl⟩
  go_wp2_with fail
  refine (less_any _ _ ha0 ha1 ha0 ha1 _).mono ?_; rintro e w' ⟨rfl, rfl⟩
  go_wp2_with fail
  refine (less_any _ _ ha0 ha1 hb0 hb1 _).mono ?_; rintro e w' ⟨rfl, rfl⟩
  go_wp2_with fail
  refine (less_any _ _ ha0 ha1 hb0 hb1 _).mono ?_; rintro e w' ⟨rfl, rfl⟩
  go_wp2_with fail
  refine (known_at H.out B2).mono ?_; rintro e WK ⟨rfl, BK⟩
  replace BK := step_below B2 BK
  go_wp2_with fail
  go_ret
  exact ⟨rfl, BK⟩

theorem order_law (a b c : Int) (ba : 0 ≤ a ∧ a ≤ 18446744073709551615) (bb : 0 ≤ b ∧ b ≤ 18446744073709551615) (bc : 0 ≤ c ∧ c ≤ 18446744073709551615) (w : World) (m : Int) (hm : w.cell? ⟨1, 0, none⟩ = some (.int .i64 m)) :
    Calls Tryd.prog 6 #[.int .u64 a, .int .u64 b, .int .u64 c] w fun e w' => e = .returned (.bool true) ∧ Below w.heap.size w w' := by
  have ha1 : a < 18446744073709551616 := by omega
  have hb1 : b < 18446744073709551616 := by omega
  have hc1 : c < 18446744073709551616 := by omega
  rcases (show epV a < epV b ∨ (epV a = epV b ∧ nuV a < nuV b) ∨ (epV a = epV b ∧ ¬ nuV a < nuV b) ∨ epV b < epV a from by omega) with h | ⟨h, k⟩ | ⟨h, k⟩ | h
  · cases l : lessB b c
    · exact order_lt0 a b c ba.1 ha1 bb.1 hb1 bc.1 hc1 h l w m hm
    · exact order_lt1 a b c ba.1 ha1 bb.1 hb1 bc.1 hc1 h l w m hm
  · cases l : lessB b c
    · exact order_eqlt0 a b c ba.1 ha1 bb.1 hb1 bc.1 hc1 h k l w m hm
    · exact order_eqlt1 a b c ba.1 ha1 bb.1 hb1 bc.1 hc1 h k l w m hm
  · exact order_eqge a b c ba.1 ha1 bb.1 hb1 bc.1 hc1 h k w m hm
  · exact order_gt a b c ba.1 ha1 bb.1 hb1 bc.1 hc1 h w m hm

end Go.Proofs.YtfdboihfgpibcaaDoor
