/- The walks of TidNext, TidOrder. -/
import Derived.Test.YtfdboihfgpibcaaDoorLaws
namespace Go.Proofs.YtfdboihfgpibcaaDoor
open Go.ChangeShapes Go.WideShapes Go.ChangeAt Go.RowKit
open TM

theorem next_facts (x : Int) (h0 : 0 ≤ x) (h1 : x < 18446744073709551616) (hm : mayB x = true) (hn : ¬ nuV x = 2147483647) : ∃ n, bareV x + 8 = n ∧ wordV (epV x) (nuV x + 1) = n ∧ 0 ≤ n ∧ n < 18446744073709551616 ∧ lessB x n = true ∧ lessB n x = false := by
  have hl := may_lt hm
  refine ⟨bareV x + 8, rfl, ?_, ?_, ?_, ?_, ?_⟩
  · unfold wordV bareV epV nuV; unfold nuV at hn; omega
  · unfold bareV; omega
  · unfold bareV; omega
  · have e : epV x = epV (bareV x + 8) := by unfold epV bareV; unfold nuV at hn; omega
    unfold lessB; rw [if_pos e, decide_eq_true_eq]; unfold nuV bareV; unfold nuV at hn; omega
  · have e : epV (bareV x + 8) = epV x := by unfold epV bareV; unfold nuV at hn; omega
    unfold lessB; rw [if_pos e, decide_eq_false_iff_not]; unfold nuV bareV; unfold nuV at hn; omega
theorem adv_facts (x : Int) (h0 : 0 ≤ x) (h1 : x < 18446744073709551616) (hm : mayB x = true) (hn : ¬ epV x = 16777215) : ∃ a, bareV x + 17179869184 = a ∧ wordV (epV x + 1) (nuV x) = a ∧ 0 ≤ a ∧ a < 18446744073709551616 ∧ lessB x a = true := by
  have hl := may_lt hm
  refine ⟨bareV x + 17179869184, rfl, ?_, ?_, ?_, ?_⟩
  · unfold wordV bareV epV nuV; omega
  · unfold bareV; omega
  · unfold bareV; omega
  · have e : epV (bareV x + 17179869184) = epV x + 1 := by unfold epV bareV; unfold epV at hn; omega
    unfold lessB; rw [e, if_neg (by omega), decide_eq_true_eq]; omega
theorem alloc_below {w W : World} (h : Below w.heap.size w W) (o : Obj) : Below w.heap.size w (W.alloc o) := h.alloc h.size o
theorem bd (x : Int) : 0 ≤ epV x ∧ epV x ≤ 16777215 ∧ 0 ≤ nuV x ∧ nuV x ≤ 2147483647 := by unfold epV nuV; omega
theorem two_lit {P : Program} {f : FuncId} {args : Array Value} {w : World} {k l : IntKind} {a b c : Int} (h : Calls P f args w fun e w' => e = .returned (.tuple #[.int k a, .int l c]) ∧ w = w') (e : a = b) :
    Calls P f args w fun e w' => e = .returned (.tuple #[.int k b, .int l c]) ∧ w = w' := by rw [← e]; exact h

set_option maxRecDepth 100000 in
set_option maxHeartbeats 1000000 in
theorem nx_arg (x : Int) (h0 : 0 ≤ x) (h1 : x < 18446744073709551616) (hy : mayB x = false) (w : World) (m : Int) (hm : w.cell? ⟨1, 0, none⟩ = some (.int .i64 m)) :
    Calls Tryd.prog 5 #[.int .u64 x] w fun e w' => e = .returned (.bool true) ∧ Below w.heap.size w w' := by
  have hsz : 1 < w.heap.size := block_lt_of_cell hm
  have H := Lib.hid hm; clear hm
  obtain ⟨p0, p1, p2, p3⟩ := bd x
  go_enter Tryd.func5, Tryd.ntmps5
  go_wp2_with fail
  refine (refOf_any _ h0 h1 _).mono ?_; rintro e W1 ⟨rfl, B1⟩
  go_wp2_with fail
  refine (next_arg _ h0 h1 hy _).mono ?_; rintro e w' ⟨rfl, rfl⟩
  go_wp2_with fail
  refine (advance_arg _ h0 h1 hy _).mono ?_; rintro e w' ⟨rfl, rfl⟩
  go_wp2_with fail
  refine (known_at H.out (alloc_below B1 _)).mono ?_; rintro e WK ⟨rfl, BK⟩
  replace BK := step_below (alloc_below B1 _) BK
  go_wp2_with fail
  go_ret
  exact ⟨ret_bool (by rfl), BK⟩

set_option maxRecDepth 100000 in
set_option maxHeartbeats 1000000 in
theorem nx_11 (x : Int) (h0 : 0 ≤ x) (h1 : x < 18446744073709551616) (hy : mayB x = true) (hn : nuV x = 2147483647) (he : epV x = 16777215) (w : World) (m : Int) (hm : w.cell? ⟨1, 0, none⟩ = some (.int .i64 m)) :
    Calls Tryd.prog 5 #[.int .u64 x] w fun e w' => e = .returned (.bool true) ∧ Below w.heap.size w w' := by
  have hsz : 1 < w.heap.size := block_lt_of_cell hm
  have H := Lib.hid hm; clear hm
  obtain ⟨p0, p1, p2, p3⟩ := bd x
  have HN := Lib.hid hn; have HE := Lib.hid he; clear hn he
  have hn2 : (nuV x == 2147483647) = true := by rw [HN.out]; rfl
  have he2 : (epV x == 16777215) = true := by rw [HE.out]; rfl
  have he3 : 16777215 ≤ epV x := by rw [HE.out]; exact Int.le_refl _
  go_enter Tryd.func5, Tryd.ntmps5
  go_wp2_with fail
  refine (refOf_any _ h0 h1 _).mono ?_; rintro e W1 ⟨rfl, B1⟩
  go_wp2_with fail
  refine (next_full _ h0 h1 hy HN.out _).mono ?_; rintro e w' ⟨rfl, rfl⟩
  go_wp2_with fail
  refine (advance_full _ h0 h1 hy HE.out _).mono ?_; rintro e w' ⟨rfl, rfl⟩
  go_wp2_with fail
  refine (known_at H.out (alloc_below B1 _)).mono ?_; rintro e WK ⟨rfl, BK⟩
  replace BK := step_below (alloc_below B1 _) BK
  go_wp2_with fail
  go_ret
  exact ⟨ret_bool (by rfl), BK⟩

set_option maxRecDepth 100000 in
set_option maxHeartbeats 1000000 in
theorem nx_10 (x : Int) (h0 : 0 ≤ x) (h1 : x < 18446744073709551616) (hy : mayB x = true) (hn : nuV x = 2147483647) (he : ¬ epV x = 16777215) (w : World) (m : Int) (hm : w.cell? ⟨1, 0, none⟩ = some (.int .i64 m)) :
    Calls Tryd.prog 5 #[.int .u64 x] w fun e w' => e = .returned (.bool true) ∧ Below w.heap.size w w' := by
  have hsz : 1 < w.heap.size := block_lt_of_cell hm
  have H := Lib.hid hm; clear hm
  obtain ⟨p0, p1, p2, p3⟩ := bd x
  obtain ⟨a, ea, wa, a0, a1, la⟩ := adv_facts x h0 h1 hy he
  have EA := Lib.hid ea; have WA := Lib.hid wa; clear ea wa
  have eb : (epV x == 16777215) = false := by simp [he]
  have eb2 : epV x < 16777215 := by omega
  have q4 : epV x + 1 ≤ 16777215 := by omega
  have HN := Lib.hid hn; have HE := Lib.hid he; clear hn he
  have hn2 : (nuV x == 2147483647) = true := by rw [HN.out]; rfl
  go_enter Tryd.func5, Tryd.ntmps5
  go_wp2_with fail
  refine (refOf_any _ h0 h1 _).mono ?_; rintro e W1 ⟨rfl, B1⟩
  go_wp2_with fail
  refine (next_full _ h0 h1 hy HN.out _).mono ?_; rintro e w' ⟨rfl, rfl⟩
  go_wp2_with fail
  refine (two_lit (advance_ok _ h0 h1 hy HE.out _) EA.out).mono ?_; rintro e w' ⟨rfl, rfl⟩
  go_wp2_with fail
  refine (to_bare _ _ _ (by omega) q4 p2 p3 WA.out _).mono ?_; rintro e W3 ⟨rfl, B3⟩
  have A3 := step_below (alloc_below (alloc_below B1 _) _) B3; clear B3
  go_wp2_with fail
  refine (less_any _ _ h0 h1 a0 a1 _).mono ?_; rintro e w' ⟨rfl, rfl⟩
  go_wp2_with fail
  refine (known_at H.out A3).mono ?_; rintro e WK ⟨rfl, BK⟩
  replace BK := step_below A3 BK
  go_wp2_with fail
  go_ret
  exact ⟨ret_bool (by rfl), BK⟩

set_option maxRecDepth 100000 in
set_option maxHeartbeats 1000000 in
theorem nx_01 (x : Int) (h0 : 0 ≤ x) (h1 : x < 18446744073709551616) (hy : mayB x = true) (hn : ¬ nuV x = 2147483647) (he : epV x = 16777215) (w : World) (m : Int) (hm : w.cell? ⟨1, 0, none⟩ = some (.int .i64 m)) :
    Calls Tryd.prog 5 #[.int .u64 x] w fun e w' => e = .returned (.bool true) ∧ Below w.heap.size w w' := by
  have hsz : 1 < w.heap.size := block_lt_of_cell hm
  have H := Lib.hid hm; clear hm
  obtain ⟨p0, p1, p2, p3⟩ := bd x
  obtain ⟨n, en, wn, n0, n1, ln, nl⟩ := next_facts x h0 h1 hy hn
  have EN := Lib.hid en; have WN := Lib.hid wn; clear en wn
  have nb : (nuV x == 2147483647) = false := by simp [hn]
  have q3 : nuV x + 1 ≤ 2147483647 := by omega
  have HN := Lib.hid hn; have HE := Lib.hid he; clear hn he
  have he2 : (epV x == 16777215) = true := by rw [HE.out]; rfl
  have he3 : 16777215 ≤ epV x := by rw [HE.out]; exact Int.le_refl _
  go_enter Tryd.func5, Tryd.ntmps5
  go_wp2_with fail
  refine (refOf_any _ h0 h1 _).mono ?_; rintro e W1 ⟨rfl, B1⟩
  go_wp2_with fail
  refine (two_lit (next_ok _ h0 h1 hy HN.out _) EN.out).mono ?_; rintro e w' ⟨rfl, rfl⟩
  go_wp2_with fail
  refine (advance_full _ h0 h1 hy HE.out _).mono ?_; rintro e w' ⟨rfl, rfl⟩
  go_wp2_with fail
  refine (to_bare _ _ _ p0 p1 (by omega) q3 WN.out _).mono ?_; rintro e W2 ⟨rfl, B2⟩
  obtain ⟨hcc, _⟩ := bcell B2
  have hz : W1.heap.size < W2.heap.size := by have := B2.size; simp at this; omega
  have A2 := step_below (alloc_below (alloc_below B1 _) _) B2; clear B2
  go_wp2_with fail
  refine (less_any _ _ h0 h1 n0 n1 _).mono ?_; rintro e w' ⟨rfl, rfl⟩
  go_wp2_with fail
  refine (less_any _ _ n0 n1 h0 h1 _).mono ?_; rintro e w' ⟨rfl, rfl⟩
  go_wp2_with fail
  refine (known_at H.out A2).mono ?_; rintro e WK ⟨rfl, BK⟩
  replace BK := step_below A2 BK
  go_wp2_with fail
  go_ret
  exact ⟨ret_bool (by rfl), BK⟩

set_option maxRecDepth 100000 in
set_option maxHeartbeats 1000000 in
theorem nx_00 (x : Int) (h0 : 0 ≤ x) (h1 : x < 18446744073709551616) (hy : mayB x = true) (hn : ¬ nuV x = 2147483647) (he : ¬ epV x = 16777215) (w : World) (m : Int) (hm : w.cell? ⟨1, 0, none⟩ = some (.int .i64 m)) :
    Calls Tryd.prog 5 #[.int .u64 x] w fun e w' => e = .returned (.bool true) ∧ Below w.heap.size w w' := by
  have hsz : 1 < w.heap.size := block_lt_of_cell hm
  have H := Lib.hid hm; clear hm
  obtain ⟨p0, p1, p2, p3⟩ := bd x
  obtain ⟨n, en, wn, n0, n1, ln, nl⟩ := next_facts x h0 h1 hy hn
  have EN := Lib.hid en; have WN := Lib.hid wn; clear en wn
  have nb : (nuV x == 2147483647) = false := by simp [hn]
  have q3 : nuV x + 1 ≤ 2147483647 := by omega
  obtain ⟨a, ea, wa, a0, a1, la⟩ := adv_facts x h0 h1 hy he
  have EA := Lib.hid ea; have WA := Lib.hid wa; clear ea wa
  have eb : (epV x == 16777215) = false := by simp [he]
  have eb2 : epV x < 16777215 := by omega
  have q4 : epV x + 1 ≤ 16777215 := by omega
  have HN := Lib.hid hn; have HE := Lib.hid he; clear hn he
  go_enter Tryd.func5, Tryd.ntmps5
  go_wp2_with fail
  refine (refOf_any _ h0 h1 _).mono ?_; rintro e W1 ⟨rfl, B1⟩
  go_wp2_with fail
  refine (two_lit (next_ok _ h0 h1 hy HN.out _) EN.out).mono ?_; rintro e w' ⟨rfl, rfl⟩
  go_wp2_with fail
  refine (two_lit (advance_ok _ h0 h1 hy HE.out _) EA.out).mono ?_; rintro e w' ⟨rfl, rfl⟩
  go_wp2_with fail
  refine (to_bare _ _ _ p0 p1 (by omega) q3 WN.out _).mono ?_; rintro e W2 ⟨rfl, B2⟩
  obtain ⟨hcc, _⟩ := bcell B2
  have hz : W1.heap.size < W2.heap.size := by have := B2.size; simp at this; omega
  have A2 := step_below (alloc_below (alloc_below B1 _) _) B2; clear B2
  go_wp2_with fail
  refine (less_any _ _ h0 h1 n0 n1 _).mono ?_; rintro e w' ⟨rfl, rfl⟩
  go_wp2_with fail
  refine (less_any _ _ n0 n1 h0 h1 _).mono ?_; rintro e w' ⟨rfl, rfl⟩
  go_wp2_with fail
  refine (to_bare _ _ _ (by omega) q4 p2 p3 WA.out _).mono ?_; rintro e W3 ⟨rfl, B3⟩
  have A3 := step_below (alloc_below A2 _) B3; clear B3
  go_wp2_with fail
  refine (less_any _ _ h0 h1 a0 a1 _).mono ?_; rintro e w' ⟨rfl, rfl⟩
  go_wp2_with fail
  refine (known_at H.out A3).mono ?_; rintro e WK ⟨rfl, BK⟩
  replace BK := step_below A3 BK
  go_wp2_with fail
  go_ret
  exact ⟨ret_bool (by rfl), BK⟩

theorem next_law (x : Int) (bx : 0 ≤ x ∧ x ≤ 18446744073709551615) (w : World) (m : Int) (hm : w.cell? ⟨1, 0, none⟩ = some (.int .i64 m)) :
    Calls Tryd.prog 5 #[.int .u64 x] w fun e w' => e = .returned (.bool true) ∧ Below w.heap.size w w' := by
  have h1 : x < 18446744073709551616 := by omega
  cases hy : mayB x
  · exact nx_arg x bx.1 h1 hy w m hm
  · by_cases hn : nuV x = 2147483647 <;> by_cases he : epV x = 16777215
    · exact nx_11 x bx.1 h1 hy hn he w m hm
    · exact nx_10 x bx.1 h1 hy hn he w m hm
    · exact nx_01 x bx.1 h1 hy hn he w m hm
    · exact nx_00 x bx.1 h1 hy hn he w m hm

end Go.Proofs.YtfdboihfgpibcaaDoor
