/- The walks of TidBits, TidNext, TidOrder. -/
import Derived.Test.YtfdboihfgpibcaaDoorLaws
namespace Go.Proofs.YtfdboihfgpibcaaDoor
open Go.ChangeShapes Go.WideShapes Go.ChangeAt Go.RowKit
open TM

set_option maxHeartbeats 1000000 in
theorem bits_000 (x : Int) (h0 : 0 ≤ x) (h1 : x < 18446744073709551616) (w : World) (m : Int) (hm : w.cell? ⟨1, 0, none⟩ = some (.int .i64 m)) :
    Calls Tryd.prog 4 #[.int .u64 x, .bool false, .bool false, .bool false] w fun e w' => e = .returned (.bool true) ∧ Below w.heap.size w w' := by
  have hsz : 1 < w.heap.size := block_lt_of_cell hm
  have H := Lib.hid hm; clear hm
  have hb : bareV x = x / 8 * 8 := by unfold bareV; omega
  have hw : withV x false false false = x / 8 * 8 := by unfold withV; simp [b2i]; omega
  have hu : x / 8 * 8 ≤ 18446744073709551615 := by omega
  go_enter Tryd.func4, Tryd.ntmps4
  go_wp2_with fail
  refine (refOf_any _ h0 h1 _).mono ?_; rintro e W1 ⟨rfl, B1⟩
  go_wp2_with fail
  go_quiet ((first | (go_at_call 15; first | exact Calls.quiet_of_same (qsame (may_any _ h0 h1 _)) | exact quiet_add_same (qsame (may_any _ h0 h1 _))) | (go_at_call 13; first | exact Calls.quiet_of_same (qsame (epoch_any _ h0 h1 _)) | exact quiet_add_same (qsame (epoch_any _ h0 h1 _))) | (go_at_call 14; first | exact Calls.quiet_of_same (qsame (number_any _ h0 h1 _)) | exact quiet_add_same (qsame (number_any _ h0 h1 _))) | (go_at_call 16; first | exact Calls.quiet_of_same (qsame (locked_any _ h0 h1 _)) | exact quiet_add_same (qsame (locked_any _ h0 h1 _))) | (go_at_call 17; first | exact Calls.quiet_of_same (qsame (dead_any _ h0 h1 _)) | exact quiet_add_same (qsame (dead_any _ h0 h1 _))) | (go_at_call 18; first | exact Calls.quiet_of_same (qsame (absent_any _ h0 h1 _)) | exact quiet_add_same (qsame (absent_any _ h0 h1 _)))))
  have B2 := below_drewN (B1.alloc B1.size (.cells #[.int .i64 (epV x), .int .i64 (nuV x), .bool (bitB x 1), .bool (bitB x 2), .bool (bitB x 4)] 28)) nq
  go_wp2_with fail
  refine (bare_any _ h0 h1 _).mono ?_; rintro e w' ⟨rfl, rfl⟩
  go_wp2_with fail
  refine (with_any _ h0 h1 _ _ _ _).mono ?_; rintro e w' ⟨rfl, rfl⟩
  go_wp2_with fail
  refine (known_at H.out B2).mono ?_; rintro e W3 ⟨rfl, B3⟩
  replace B3 := step_below B2 B3; clear B2 B1
  go_wp2_with fail
  go_ret
  exact ⟨rfl, B3⟩

set_option maxHeartbeats 1000000 in
theorem bits_001 (x : Int) (h0 : 0 ≤ x) (h1 : x < 18446744073709551616) (w : World) (m : Int) (hm : w.cell? ⟨1, 0, none⟩ = some (.int .i64 m)) :
    Calls Tryd.prog 4 #[.int .u64 x, .bool false, .bool false, .bool true] w fun e w' => e = .returned (.bool true) ∧ Below w.heap.size w w' := by
  have hsz : 1 < w.heap.size := block_lt_of_cell hm
  have H := Lib.hid hm; clear hm
  have hb : bareV x = x / 8 * 8 := by unfold bareV; omega
  have hw : withV x false false true = x / 8 * 8 + 4 := by unfold withV; simp [b2i]; omega
  have hu : x / 8 * 8 + 4 ≤ 18446744073709551615 := by omega
  go_enter Tryd.func4, Tryd.ntmps4
  go_wp2_with fail
  refine (refOf_any _ h0 h1 _).mono ?_; rintro e W1 ⟨rfl, B1⟩
  go_wp2_with fail
  go_quiet ((first | (go_at_call 15; first | exact Calls.quiet_of_same (qsame (may_any _ h0 h1 _)) | exact quiet_add_same (qsame (may_any _ h0 h1 _))) | (go_at_call 13; first | exact Calls.quiet_of_same (qsame (epoch_any _ h0 h1 _)) | exact quiet_add_same (qsame (epoch_any _ h0 h1 _))) | (go_at_call 14; first | exact Calls.quiet_of_same (qsame (number_any _ h0 h1 _)) | exact quiet_add_same (qsame (number_any _ h0 h1 _))) | (go_at_call 16; first | exact Calls.quiet_of_same (qsame (locked_any _ h0 h1 _)) | exact quiet_add_same (qsame (locked_any _ h0 h1 _))) | (go_at_call 17; first | exact Calls.quiet_of_same (qsame (dead_any _ h0 h1 _)) | exact quiet_add_same (qsame (dead_any _ h0 h1 _))) | (go_at_call 18; first | exact Calls.quiet_of_same (qsame (absent_any _ h0 h1 _)) | exact quiet_add_same (qsame (absent_any _ h0 h1 _)))))
  have B2 := below_drewN (B1.alloc B1.size (.cells #[.int .i64 (epV x), .int .i64 (nuV x), .bool (bitB x 1), .bool (bitB x 2), .bool (bitB x 4)] 28)) nq
  go_wp2_with fail
  refine (bare_any _ h0 h1 _).mono ?_; rintro e w' ⟨rfl, rfl⟩
  go_wp2_with fail
  refine (with_any _ h0 h1 _ _ _ _).mono ?_; rintro e w' ⟨rfl, rfl⟩
  go_wp2_with fail
  refine (known_at H.out B2).mono ?_; rintro e W3 ⟨rfl, B3⟩
  replace B3 := step_below B2 B3; clear B2 B1
  go_wp2_with fail
  go_ret
  exact ⟨rfl, B3⟩

set_option maxHeartbeats 1000000 in
theorem bits_010 (x : Int) (h0 : 0 ≤ x) (h1 : x < 18446744073709551616) (w : World) (m : Int) (hm : w.cell? ⟨1, 0, none⟩ = some (.int .i64 m)) :
    Calls Tryd.prog 4 #[.int .u64 x, .bool false, .bool true, .bool false] w fun e w' => e = .returned (.bool true) ∧ Below w.heap.size w w' := by
  have hsz : 1 < w.heap.size := block_lt_of_cell hm
  have H := Lib.hid hm; clear hm
  have hb : bareV x = x / 8 * 8 := by unfold bareV; omega
  have hw : withV x false true false = x / 8 * 8 + 2 := by unfold withV; simp [b2i]; omega
  have hu : x / 8 * 8 + 2 ≤ 18446744073709551615 := by omega
  go_enter Tryd.func4, Tryd.ntmps4
  go_wp2_with fail
  refine (refOf_any _ h0 h1 _).mono ?_; rintro e W1 ⟨rfl, B1⟩
  go_wp2_with fail
  go_quiet ((first | (go_at_call 15; first | exact Calls.quiet_of_same (qsame (may_any _ h0 h1 _)) | exact quiet_add_same (qsame (may_any _ h0 h1 _))) | (go_at_call 13; first | exact Calls.quiet_of_same (qsame (epoch_any _ h0 h1 _)) | exact quiet_add_same (qsame (epoch_any _ h0 h1 _))) | (go_at_call 14; first | exact Calls.quiet_of_same (qsame (number_any _ h0 h1 _)) | exact quiet_add_same (qsame (number_any _ h0 h1 _))) | (go_at_call 16; first | exact Calls.quiet_of_same (qsame (locked_any _ h0 h1 _)) | exact quiet_add_same (qsame (locked_any _ h0 h1 _))) | (go_at_call 17; first | exact Calls.quiet_of_same (qsame (dead_any _ h0 h1 _)) | exact quiet_add_same (qsame (dead_any _ h0 h1 _))) | (go_at_call 18; first | exact Calls.quiet_of_same (qsame (absent_any _ h0 h1 _)) | exact quiet_add_same (qsame (absent_any _ h0 h1 _)))))
  have B2 := below_drewN (B1.alloc B1.size (.cells #[.int .i64 (epV x), .int .i64 (nuV x), .bool (bitB x 1), .bool (bitB x 2), .bool (bitB x 4)] 28)) nq
  go_wp2_with fail
  refine (bare_any _ h0 h1 _).mono ?_; rintro e w' ⟨rfl, rfl⟩
  go_wp2_with fail
  refine (with_any _ h0 h1 _ _ _ _).mono ?_; rintro e w' ⟨rfl, rfl⟩
  go_wp2_with fail
  refine (known_at H.out B2).mono ?_; rintro e W3 ⟨rfl, B3⟩
  replace B3 := step_below B2 B3; clear B2 B1
  go_wp2_with fail
  go_ret
  exact ⟨rfl, B3⟩

set_option maxHeartbeats 1000000 in
theorem bits_011 (x : Int) (h0 : 0 ≤ x) (h1 : x < 18446744073709551616) (w : World) (m : Int) (hm : w.cell? ⟨1, 0, none⟩ = some (.int .i64 m)) :
    Calls Tryd.prog 4 #[.int .u64 x, .bool false, .bool true, .bool true] w fun e w' => e = .returned (.bool true) ∧ Below w.heap.size w w' := by
  have hsz : 1 < w.heap.size := block_lt_of_cell hm
  have H := Lib.hid hm; clear hm
  have hb : bareV x = x / 8 * 8 := by unfold bareV; omega
  have hw : withV x false true true = x / 8 * 8 + 2 + 4 := by unfold withV; simp [b2i]; omega
  have hu : x / 8 * 8 + 2 + 4 ≤ 18446744073709551615 := by omega
  go_enter Tryd.func4, Tryd.ntmps4
  go_wp2_with fail
  refine (refOf_any _ h0 h1 _).mono ?_; rintro e W1 ⟨rfl, B1⟩
  go_wp2_with fail
  go_quiet ((first | (go_at_call 15; first | exact Calls.quiet_of_same (qsame (may_any _ h0 h1 _)) | exact quiet_add_same (qsame (may_any _ h0 h1 _))) | (go_at_call 13; first | exact Calls.quiet_of_same (qsame (epoch_any _ h0 h1 _)) | exact quiet_add_same (qsame (epoch_any _ h0 h1 _))) | (go_at_call 14; first | exact Calls.quiet_of_same (qsame (number_any _ h0 h1 _)) | exact quiet_add_same (qsame (number_any _ h0 h1 _))) | (go_at_call 16; first | exact Calls.quiet_of_same (qsame (locked_any _ h0 h1 _)) | exact quiet_add_same (qsame (locked_any _ h0 h1 _))) | (go_at_call 17; first | exact Calls.quiet_of_same (qsame (dead_any _ h0 h1 _)) | exact quiet_add_same (qsame (dead_any _ h0 h1 _))) | (go_at_call 18; first | exact Calls.quiet_of_same (qsame (absent_any _ h0 h1 _)) | exact quiet_add_same (qsame (absent_any _ h0 h1 _)))))
  have B2 := below_drewN (B1.alloc B1.size (.cells #[.int .i64 (epV x), .int .i64 (nuV x), .bool (bitB x 1), .bool (bitB x 2), .bool (bitB x 4)] 28)) nq
  go_wp2_with fail
  refine (bare_any _ h0 h1 _).mono ?_; rintro e w' ⟨rfl, rfl⟩
  go_wp2_with fail
  refine (with_any _ h0 h1 _ _ _ _).mono ?_; rintro e w' ⟨rfl, rfl⟩
  go_wp2_with fail
  refine (known_at H.out B2).mono ?_; rintro e W3 ⟨rfl, B3⟩
  replace B3 := step_below B2 B3; clear B2 B1
  go_wp2_with fail
  go_ret
  exact ⟨rfl, B3⟩

set_option maxHeartbeats 1000000 in
theorem bits_100 (x : Int) (h0 : 0 ≤ x) (h1 : x < 18446744073709551616) (w : World) (m : Int) (hm : w.cell? ⟨1, 0, none⟩ = some (.int .i64 m)) :
    Calls Tryd.prog 4 #[.int .u64 x, .bool true, .bool false, .bool false] w fun e w' => e = .returned (.bool true) ∧ Below w.heap.size w w' := by
  have hsz : 1 < w.heap.size := block_lt_of_cell hm
  have H := Lib.hid hm; clear hm
  have hb : bareV x = x / 8 * 8 := by unfold bareV; omega
  have hw : withV x true false false = x / 8 * 8 + 1 := by unfold withV; simp [b2i]; omega
  have hu : x / 8 * 8 + 1 ≤ 18446744073709551615 := by omega
  go_enter Tryd.func4, Tryd.ntmps4
  go_wp2_with fail
  refine (refOf_any _ h0 h1 _).mono ?_; rintro e W1 ⟨rfl, B1⟩
  go_wp2_with fail
  go_quiet ((first | (go_at_call 15; first | exact Calls.quiet_of_same (qsame (may_any _ h0 h1 _)) | exact quiet_add_same (qsame (may_any _ h0 h1 _))) | (go_at_call 13; first | exact Calls.quiet_of_same (qsame (epoch_any _ h0 h1 _)) | exact quiet_add_same (qsame (epoch_any _ h0 h1 _))) | (go_at_call 14; first | exact Calls.quiet_of_same (qsame (number_any _ h0 h1 _)) | exact quiet_add_same (qsame (number_any _ h0 h1 _))) | (go_at_call 16; first | exact Calls.quiet_of_same (qsame (locked_any _ h0 h1 _)) | exact quiet_add_same (qsame (locked_any _ h0 h1 _))) | (go_at_call 17; first | exact Calls.quiet_of_same (qsame (dead_any _ h0 h1 _)) | exact quiet_add_same (qsame (dead_any _ h0 h1 _))) | (go_at_call 18; first | exact Calls.quiet_of_same (qsame (absent_any _ h0 h1 _)) | exact quiet_add_same (qsame (absent_any _ h0 h1 _)))))
  have B2 := below_drewN (B1.alloc B1.size (.cells #[.int .i64 (epV x), .int .i64 (nuV x), .bool (bitB x 1), .bool (bitB x 2), .bool (bitB x 4)] 28)) nq
  go_wp2_with fail
  refine (bare_any _ h0 h1 _).mono ?_; rintro e w' ⟨rfl, rfl⟩
  go_wp2_with fail
  refine (with_any _ h0 h1 _ _ _ _).mono ?_; rintro e w' ⟨rfl, rfl⟩
  go_wp2_with fail
  refine (known_at H.out B2).mono ?_; rintro e W3 ⟨rfl, B3⟩
  replace B3 := step_below B2 B3; clear B2 B1
  go_wp2_with fail
  go_ret
  exact ⟨rfl, B3⟩

set_option maxHeartbeats 1000000 in
theorem bits_101 (x : Int) (h0 : 0 ≤ x) (h1 : x < 18446744073709551616) (w : World) (m : Int) (hm : w.cell? ⟨1, 0, none⟩ = some (.int .i64 m)) :
    Calls Tryd.prog 4 #[.int .u64 x, .bool true, .bool false, .bool true] w fun e w' => e = .returned (.bool true) ∧ Below w.heap.size w w' := by
  have hsz : 1 < w.heap.size := block_lt_of_cell hm
  have H := Lib.hid hm; clear hm
  have hb : bareV x = x / 8 * 8 := by unfold bareV; omega
  have hw : withV x true false true = x / 8 * 8 + 1 + 4 := by unfold withV; simp [b2i]; omega
  have hu : x / 8 * 8 + 1 + 4 ≤ 18446744073709551615 := by omega
  go_enter Tryd.func4, Tryd.ntmps4
  go_wp2_with fail
  refine (refOf_any _ h0 h1 _).mono ?_; rintro e W1 ⟨rfl, B1⟩
  go_wp2_with fail
  go_quiet ((first | (go_at_call 15; first | exact Calls.quiet_of_same (qsame (may_any _ h0 h1 _)) | exact quiet_add_same (qsame (may_any _ h0 h1 _))) | (go_at_call 13; first | exact Calls.quiet_of_same (qsame (epoch_any _ h0 h1 _)) | exact quiet_add_same (qsame (epoch_any _ h0 h1 _))) | (go_at_call 14; first | exact Calls.quiet_of_same (qsame (number_any _ h0 h1 _)) | exact quiet_add_same (qsame (number_any _ h0 h1 _))) | (go_at_call 16; first | exact Calls.quiet_of_same (qsame (locked_any _ h0 h1 _)) | exact quiet_add_same (qsame (locked_any _ h0 h1 _))) | (go_at_call 17; first | exact Calls.quiet_of_same (qsame (dead_any _ h0 h1 _)) | exact quiet_add_same (qsame (dead_any _ h0 h1 _))) | (go_at_call 18; first | exact Calls.quiet_of_same (qsame (absent_any _ h0 h1 _)) | exact quiet_add_same (qsame (absent_any _ h0 h1 _)))))
  have B2 := below_drewN (B1.alloc B1.size (.cells #[.int .i64 (epV x), .int .i64 (nuV x), .bool (bitB x 1), .bool (bitB x 2), .bool (bitB x 4)] 28)) nq
  go_wp2_with fail
  refine (bare_any _ h0 h1 _).mono ?_; rintro e w' ⟨rfl, rfl⟩
  go_wp2_with fail
  refine (with_any _ h0 h1 _ _ _ _).mono ?_; rintro e w' ⟨rfl, rfl⟩
  go_wp2_with fail
  refine (known_at H.out B2).mono ?_; rintro e W3 ⟨rfl, B3⟩
  replace B3 := step_below B2 B3; clear B2 B1
  go_wp2_with fail
  go_ret
  exact ⟨rfl, B3⟩

set_option maxHeartbeats 1000000 in
theorem bits_110 (x : Int) (h0 : 0 ≤ x) (h1 : x < 18446744073709551616) (w : World) (m : Int) (hm : w.cell? ⟨1, 0, none⟩ = some (.int .i64 m)) :
    Calls Tryd.prog 4 #[.int .u64 x, .bool true, .bool true, .bool false] w fun e w' => e = .returned (.bool true) ∧ Below w.heap.size w w' := by
  have hsz : 1 < w.heap.size := block_lt_of_cell hm
  have H := Lib.hid hm; clear hm
  have hb : bareV x = x / 8 * 8 := by unfold bareV; omega
  have hw : withV x true true false = x / 8 * 8 + 1 + 2 := by unfold withV; simp [b2i]; omega
  have hu : x / 8 * 8 + 1 + 2 ≤ 18446744073709551615 := by omega
  go_enter Tryd.func4, Tryd.ntmps4
  go_wp2_with fail
  refine (refOf_any _ h0 h1 _).mono ?_; rintro e W1 ⟨rfl, B1⟩
  go_wp2_with fail
  go_quiet ((first | (go_at_call 15; first | exact Calls.quiet_of_same (qsame (may_any _ h0 h1 _)) | exact quiet_add_same (qsame (may_any _ h0 h1 _))) | (go_at_call 13; first | exact Calls.quiet_of_same (qsame (epoch_any _ h0 h1 _)) | exact quiet_add_same (qsame (epoch_any _ h0 h1 _))) | (go_at_call 14; first | exact Calls.quiet_of_same (qsame (number_any _ h0 h1 _)) | exact quiet_add_same (qsame (number_any _ h0 h1 _))) | (go_at_call 16; first | exact Calls.quiet_of_same (qsame (locked_any _ h0 h1 _)) | exact quiet_add_same (qsame (locked_any _ h0 h1 _))) | (go_at_call 17; first | exact Calls.quiet_of_same (qsame (dead_any _ h0 h1 _)) | exact quiet_add_same (qsame (dead_any _ h0 h1 _))) | (go_at_call 18; first | exact Calls.quiet_of_same (qsame (absent_any _ h0 h1 _)) | exact quiet_add_same (qsame (absent_any _ h0 h1 _)))))
  have B2 := below_drewN (B1.alloc B1.size (.cells #[.int .i64 (epV x), .int .i64 (nuV x), .bool (bitB x 1), .bool (bitB x 2), .bool (bitB x 4)] 28)) nq
  go_wp2_with fail
  refine (bare_any _ h0 h1 _).mono ?_; rintro e w' ⟨rfl, rfl⟩
  go_wp2_with fail
  refine (with_any _ h0 h1 _ _ _ _).mono ?_; rintro e w' ⟨rfl, rfl⟩
  go_wp2_with fail
  refine (known_at H.out B2).mono ?_; rintro e W3 ⟨rfl, B3⟩
  replace B3 := step_below B2 B3; clear B2 B1
  go_wp2_with fail
  go_ret
  exact ⟨rfl, B3⟩

set_option maxHeartbeats 1000000 in
theorem bits_111 (x : Int) (h0 : 0 ≤ x) (h1 : x < 18446744073709551616) (w : World) (m : Int) (hm : w.cell? ⟨1, 0, none⟩ = some (.int .i64 m)) :
    Calls Tryd.prog 4 #[.int .u64 x, .bool true, .bool true, .bool true] w fun e w' => e = .returned (.bool true) ∧ Below w.heap.size w w' := by
  have hsz : 1 < w.heap.size := block_lt_of_cell hm
  have H := Lib.hid hm; clear hm
  have hb : bareV x = x / 8 * 8 := by unfold bareV; omega
  have hw : withV x true true true = x / 8 * 8 + 1 + 2 + 4 := by unfold withV; simp [b2i]; omega
  have hu : x / 8 * 8 + 1 + 2 + 4 ≤ 18446744073709551615 := by omega
  go_enter Tryd.func4, Tryd.ntmps4
  go_wp2_with fail
  refine (refOf_any _ h0 h1 _).mono ?_; rintro e W1 ⟨rfl, B1⟩
  go_wp2_with fail
  go_quiet ((first | (go_at_call 15; first | exact Calls.quiet_of_same (qsame (may_any _ h0 h1 _)) | exact quiet_add_same (qsame (may_any _ h0 h1 _))) | (go_at_call 13; first | exact Calls.quiet_of_same (qsame (epoch_any _ h0 h1 _)) | exact quiet_add_same (qsame (epoch_any _ h0 h1 _))) | (go_at_call 14; first | exact Calls.quiet_of_same (qsame (number_any _ h0 h1 _)) | exact quiet_add_same (qsame (number_any _ h0 h1 _))) | (go_at_call 16; first | exact Calls.quiet_of_same (qsame (locked_any _ h0 h1 _)) | exact quiet_add_same (qsame (locked_any _ h0 h1 _))) | (go_at_call 17; first | exact Calls.quiet_of_same (qsame (dead_any _ h0 h1 _)) | exact quiet_add_same (qsame (dead_any _ h0 h1 _))) | (go_at_call 18; first | exact Calls.quiet_of_same (qsame (absent_any _ h0 h1 _)) | exact quiet_add_same (qsame (absent_any _ h0 h1 _)))))
  have B2 := below_drewN (B1.alloc B1.size (.cells #[.int .i64 (epV x), .int .i64 (nuV x), .bool (bitB x 1), .bool (bitB x 2), .bool (bitB x 4)] 28)) nq
  go_wp2_with fail
  refine (bare_any _ h0 h1 _).mono ?_; rintro e w' ⟨rfl, rfl⟩
  go_wp2_with fail
  refine (with_any _ h0 h1 _ _ _ _).mono ?_; rintro e w' ⟨rfl, rfl⟩
  go_wp2_with fail
  refine (known_at H.out B2).mono ?_; rintro e W3 ⟨rfl, B3⟩
  replace B3 := step_below B2 B3; clear B2 B1
  go_wp2_with fail
  go_ret
  exact ⟨rfl, B3⟩

theorem bits_law (x : Int) (l d a : Bool) (bx : 0 ≤ x ∧ x ≤ 18446744073709551615) (w : World) (m : Int) (hm : w.cell? ⟨1, 0, none⟩ = some (.int .i64 m)) :
    Calls Tryd.prog 4 #[.int .u64 x, .bool l, .bool d, .bool a] w fun e w' => e = .returned (.bool true) ∧ Below w.heap.size w w' := by
  have h1 : x < 18446744073709551616 := by omega
  cases l <;> cases d <;> cases a
  · exact bits_000 x bx.1 h1 w m hm
  · exact bits_001 x bx.1 h1 w m hm
  · exact bits_010 x bx.1 h1 w m hm
  · exact bits_011 x bx.1 h1 w m hm
  · exact bits_100 x bx.1 h1 w m hm
  · exact bits_101 x bx.1 h1 w m hm
  · exact bits_110 x bx.1 h1 w m hm
  · exact bits_111 x bx.1 h1 w m hm

end Go.Proofs.YtfdboihfgpibcaaDoor
