/- The walks of TidBack, TidApart. -/
import Derived.Test.YtfdboihfgpibcaaDoorLaws3
import Derived.Deep.QuietTactic
import Derived.BigQuiet
namespace Go.Proofs.YtfdboihfgpibcaaDoor
open Go.ChangeShapes Go.WideShapes Go.ChangeAt Go.RowKit
open TM

theorem eqarr (d : Nat) (e n f k : Int) (w : World) : (Op.equalIn (d + 1 + 1) 43 (.agg #[.int .i64 e, .int .i64 n]) (.agg #[.int .i64 f, .int .i64 k])).run Tryd.prog w = .ok (e == f && n == k) w := by
  have p0 : ∀ a b w, (part 2 #[.int .i64 a, .int .i64 b] 0).run Tryd.prog w = .ok (.int .i64 a) w := fun _ _ _ => by kernel_rfl
  have p1 : ∀ a b w, (part 2 #[.int .i64 a, .int .i64 b] 1).run Tryd.prog w = .ok (.int .i64 b) w := fun _ _ _ => by kernel_rfl
  have s2 : ∀ w, (sizeOf 2).run Tryd.prog w = .ok 1 w := fun _ => by kernel_rfl
  have q : ∀ a b w, (Op.equalIn (d + 1) 2 (.int .i64 a) (.int .i64 b)).run Tryd.prog w = .ok (a == b) w := fun a b w => run_equalIn_int w d 2 .i64 .i64 a b Tryd.underlying2
  rw [Op.equalIn]
  simp only [Sem.run_bind, run_underlying Tryd.underlying43, Result.andThen_ok, s2]
  cases h1 : e == f <;> cases h2 : n == k <;> simp [h1, h2, Sem.run_bind, Result.andThen_ok, List.range', List.forIn_cons, List.forIn_nil, p0, p1, q, Sem.run_pure]
theorem with_to (x v : Int) (l d a : Bool) (h0 : 0 ≤ x) (h1 : x < 18446744073709551616) (hv : withV x l d a = v) (w : World) :
    Calls Tryd.prog 21 #[.int .u64 x, .bool l, .bool d, .bool a] w fun e w' => e = .returned (.int .u64 v) ∧ w = w' := by
  rw [← hv]; exact with_any x h0 h1 l d a w
theorem with_facts (x : Int) (l d a : Bool) (h0 : 0 ≤ x) (h1 : x < 18446744073709551616) : 0 ≤ withV x l d a ∧ withV x l d a < 18446744073709551616 ∧ bitB (withV x l d a) 1 = l ∧ bitB (withV x l d a) 2 = d ∧ bitB (withV x l d a) 4 = a ∧
    epV (withV x l d a) = epV x ∧ nuV (withV x l d a) = nuV x ∧ mayB (withV x l d a) = mayB x ∧ bareV (withV x l d a) = bareV x ∧ withV (withV x l d a) l d a = withV x l d a := by
  have b1 := b2i_bd l
  have b2 := b2i_bd d
  have b3 := b2i_bd a
  refine ⟨by unfold withV; omega, by unfold withV; omega, ?_, ?_, ?_, by unfold withV epV; omega, by unfold withV nuV; omega, ?_, by unfold withV bareV; omega, by unfold withV; omega⟩
  · cases l <;> (unfold bitB withV; simp only [b2i, decide_eq_true_eq]; simp; omega)
  · cases d <;> (unfold bitB withV; simp only [b2i, decide_eq_true_eq]; unfold b2i at b1 b3; simp; omega)
  · cases a <;> (unfold bitB withV; simp only [b2i, decide_eq_true_eq]; unfold b2i at b1 b2; simp; omega)
  · unfold mayB withV; rw [Bool.eq_iff_iff]; simp only [decide_eq_true_eq]; omega


set_option maxRecDepth 100000 in
set_option maxHeartbeats 1000000 in
theorem back_walk (x : Int) (a0 a1 a2 b0 b1 b2 : Bool) (h0 : 0 ≤ x) (h1 : x < 18446744073709551616) (w : World) (m : Int) (hm : w.cell? ⟨1, 0, none⟩ = some (.int .i64 m)) :
    Calls Tryd.prog 7 #[.int .u64 x, .agg #[.bool a0, .bool a1, .bool a2], .agg #[.bool b0, .bool b1, .bool b2]] w fun e w' => e = .returned (.bool true) ∧ Below w.heap.size w w' := by
  have H := Lib.hid hm; clear hm
  obtain ⟨y0, y1, _, _, _, y5, y6, y7, y8, _⟩ := with_facts x a0 a1 a2 h0 h1
  obtain ⟨z0, z1, z2, z3, z4, z5, z6, z7, z8, z9⟩ := with_facts (withV x a0 a1 a2) b0 b1 b2 y0 y1
  rw [y5] at z5
  rw [y6] at z6
  rw [y7] at z7
  rw [y8] at z8
  have z10 : bareV (bareV x) = bareV x := by unfold bareV; omega
  have x0 : 0 ≤ bareV x := by unfold bareV; omega
  have x1 : bareV x < 18446744073709551616 := by unfold bareV; omega
  clear y5 y6 y7 y8
  go_enter Tryd.func7, Tryd.ntmps7
  go_wp2_with fail
  go_quiet ((first | (go_at_call 21; first | exact Calls.quiet_of_same (qsame (with_any _ (by assumption) (by assumption) _ _ _ _)) | exact quiet_add_same (qsame (with_any _ (by assumption) (by assumption) _ _ _ _)))))
  go_wp2_with fail
  go_quiet ((first | (go_at_call 16; first | exact Calls.quiet_of_same (qsame (locked_any _ (by assumption) (by assumption) _)) | exact quiet_add_same (qsame (locked_any _ (by assumption) (by assumption) _))) | (go_at_call 17; first | exact Calls.quiet_of_same (qsame (dead_any _ (by assumption) (by assumption) _)) | exact quiet_add_same (qsame (dead_any _ (by assumption) (by assumption) _))) | (go_at_call 18; first | exact Calls.quiet_of_same (qsame (absent_any _ (by assumption) (by assumption) _)) | exact quiet_add_same (qsame (absent_any _ (by assumption) (by assumption) _)))))
  go_wp2_with fail
  refine (epoch_any _ (by assumption) (by assumption) _).mono ?_; rintro e w' ⟨rfl, rfl⟩
  go_wp2_with fail
  refine (epoch_any _ (by assumption) (by assumption) _).mono ?_; rintro e w' ⟨rfl, rfl⟩
  go_wp2_with fail
  refine (number_any _ (by assumption) (by assumption) _).mono ?_; rintro e w' ⟨rfl, rfl⟩
  go_wp2_with fail
  refine (number_any _ (by assumption) (by assumption) _).mono ?_; rintro e w' ⟨rfl, rfl⟩
  go_wp2_with fail
  refine (may_any _ (by assumption) (by assumption) _).mono ?_; rintro e w' ⟨rfl, rfl⟩
  go_wp2_with fail
  refine (may_any _ (by assumption) (by assumption) _).mono ?_; rintro e w' ⟨rfl, rfl⟩
  go_wp2_with fail
  refine (bare_any _ (by assumption) (by assumption) _).mono ?_; rintro e w' ⟨rfl, rfl⟩
  go_wp2_with fail
  refine (bare_any _ (by assumption) (by assumption) _).mono ?_; rintro e w' ⟨rfl, rfl⟩
  go_wp2_with fail
  refine (bare_any _ (by assumption) (by assumption) _).mono ?_; rintro e w' ⟨rfl, rfl⟩
  go_wp2_with fail
  refine (bare_any _ (by assumption) (by assumption) _).mono ?_; rintro e w' ⟨rfl, rfl⟩
  go_wp2_with fail
  refine (bare_any _ (by assumption) (by assumption) _).mono ?_; rintro e w' ⟨rfl, rfl⟩
  go_wp2_with fail
  refine (locked_any _ (by assumption) (by assumption) _).mono ?_; rintro e w' ⟨rfl, rfl⟩
  go_wp2_with fail
  refine (dead_any _ (by assumption) (by assumption) _).mono ?_; rintro e w' ⟨rfl, rfl⟩
  go_wp2_with fail
  refine (absent_any _ (by assumption) (by assumption) _).mono ?_; rintro e w' ⟨rfl, rfl⟩
  go_wp2_with fail
  refine (with_any _ (by assumption) (by assumption) _ _ _ _).mono ?_; rintro e w' ⟨rfl, rfl⟩
  go_wp2_with fail
  refine (known_at H.out (below_drewN (alloc_below (alloc_below (Below.refl _ _) _) _) _)).mono ?_; rintro e WK ⟨rfl, BK⟩
  replace BK := step_below (below_drewN (alloc_below (alloc_below (Below.refl _ _) _) _) _) BK
  go_wp2_with fail
  go_ret
  exact ⟨ret_bool (by first | rfl | (simp; omega)), BK⟩

theorem apart_00 (e n f k : Int) (he : e < 0 ∨ 16777215 < e ∨ n < 0 ∨ 2147483647 < n) (hf : f < 0 ∨ 16777215 < f ∨ k < 0 ∨ 2147483647 < k) (w : World) (m : Int) (hm : w.cell? ⟨1, 0, none⟩ = some (.int .i64 m)) :
    Calls Tryd.prog 8 #[.agg #[.int .i64 e, .int .i64 n], .agg #[.int .i64 f, .int .i64 k]] w fun r w' => r = .returned (.bool true) ∧ Below w.heap.size w w' := by
  have H := Lib.hid hm; clear hm
  have HE := Lib.hid he; have HF := Lib.hid hf; clear he hf
  go_enter Tryd.func8, Tryd.ntmps8
  go_wp2_with fail
  refine (word_bad _ _ HE.out _).mono ?_; rintro e w' ⟨rfl, rfl⟩
  go_wp2_with fail
  refine (word_bad _ _ HF.out _).mono ?_; rintro e w' ⟨rfl, rfl⟩
  go_wp2_with fail
  refine (known_at H.out (alloc_below (alloc_below (Below.refl _ _) _) _)).mono ?_; rintro e WK ⟨rfl, BK⟩
  replace BK := step_below (alloc_below (alloc_below (Below.refl _ _) _) _) BK
  go_wp2_with fail
  go_ret
  exact ⟨ret_bool (by first | rfl | (simp; omega)), BK⟩

theorem apart_01 (e n f k : Int) (he : e < 0 ∨ 16777215 < e ∨ n < 0 ∨ 2147483647 < n) (hf : 0 ≤ f ∧ f ≤ 16777215 ∧ 0 ≤ k ∧ k ≤ 2147483647) (w : World) (m : Int) (hm : w.cell? ⟨1, 0, none⟩ = some (.int .i64 m)) :
    Calls Tryd.prog 8 #[.agg #[.int .i64 e, .int .i64 n], .agg #[.int .i64 f, .int .i64 k]] w fun r w' => r = .returned (.bool true) ∧ Below w.heap.size w w' := by
  have H := Lib.hid hm; clear hm
  have HE := Lib.hid he; have HF := Lib.hid hf; clear he hf
  go_enter Tryd.func8, Tryd.ntmps8
  go_wp2_with fail
  refine (word_bad _ _ HE.out _).mono ?_; rintro e w' ⟨rfl, rfl⟩
  go_wp2_with fail
  refine (word_ok _ _ HF.out.1 HF.out.2.1 HF.out.2.2.1 HF.out.2.2.2 _).mono ?_; rintro e w' ⟨rfl, rfl⟩
  go_wp2_with fail
  refine (known_at H.out (alloc_below (alloc_below (Below.refl _ _) _) _)).mono ?_; rintro e WK ⟨rfl, BK⟩
  replace BK := step_below (alloc_below (alloc_below (Below.refl _ _) _) _) BK
  go_wp2_with fail
  go_ret
  exact ⟨ret_bool (by first | rfl | (simp; omega)), BK⟩

theorem apart_10 (e n f k : Int) (he : 0 ≤ e ∧ e ≤ 16777215 ∧ 0 ≤ n ∧ n ≤ 2147483647) (hf : f < 0 ∨ 16777215 < f ∨ k < 0 ∨ 2147483647 < k) (w : World) (m : Int) (hm : w.cell? ⟨1, 0, none⟩ = some (.int .i64 m)) :
    Calls Tryd.prog 8 #[.agg #[.int .i64 e, .int .i64 n], .agg #[.int .i64 f, .int .i64 k]] w fun r w' => r = .returned (.bool true) ∧ Below w.heap.size w w' := by
  have H := Lib.hid hm; clear hm
  have HE := Lib.hid he; have HF := Lib.hid hf; clear he hf
  go_enter Tryd.func8, Tryd.ntmps8
  go_wp2_with fail
  refine (word_ok _ _ HE.out.1 HE.out.2.1 HE.out.2.2.1 HE.out.2.2.2 _).mono ?_; rintro e w' ⟨rfl, rfl⟩
  go_wp2_with fail
  refine (word_bad _ _ HF.out _).mono ?_; rintro e w' ⟨rfl, rfl⟩
  go_wp2_with fail
  refine (known_at H.out (alloc_below (alloc_below (Below.refl _ _) _) _)).mono ?_; rintro e WK ⟨rfl, BK⟩
  replace BK := step_below (alloc_below (alloc_below (Below.refl _ _) _) _) BK
  go_wp2_with fail
  go_ret
  exact ⟨ret_bool (by first | rfl | (simp; omega)), BK⟩

set_option maxRecDepth 100000 in
set_option maxHeartbeats 1000000 in
theorem apart_oka (e n f k : Int) (he : 0 ≤ e ∧ e ≤ 16777215 ∧ 0 ≤ n ∧ n ≤ 2147483647) (hf : 0 ≤ f ∧ f ≤ 16777215 ∧ 0 ≤ k ∧ k ≤ 2147483647) (c1 : e < f) (w : World) (m : Int) (hm : w.cell? ⟨1, 0, none⟩ = some (.int .i64 m)) :
    Calls Tryd.prog 8 #[.agg #[.int .i64 e, .int .i64 n], .agg #[.int .i64 f, .int .i64 k]] w fun r w' => r = .returned (.bool true) ∧ Below w.heap.size w w' := by
  have H := Lib.hid hm; clear hm
  obtain ⟨f0, f1, f2, f3, f4, f5, f6, f7⟩ := word_facts e n he.1 he.2.1 he.2.2.1 he.2.2.2
  obtain ⟨g0, g1, g2, g3, g4, g5, g6, g7⟩ := word_facts f k hf.1 hf.2.1 hf.2.2.1 hf.2.2.2
  clear f4 f5 f6 f7 g4 g5 g6 g7
  have q1 : (wordV e n == wordV f k) = false := by unfold wordV; simp; omega
  have q2 : decide (wordV e n < wordV f k) = true := by unfold wordV; simp; omega
  have q3 : lessB (wordV e n) (wordV f k) = true := by unfold lessB; rw [f2, f3, g2, g3]; split <;> simp <;> omega
  have q4 : (e == f) = false := by simp; omega
  have q5 : (e == f && n == k) = false := by rw [Bool.eq_iff_iff]; simp; omega
  have heq : ∀ W, (Op.equalIn 10000 43 (.agg #[.int .i64 e, .int .i64 n]) (.agg #[.int .i64 f, .int .i64 k])).run Tryd.prog W = .ok false W := fun W => (eqarr 9998 e n f k W).trans (by rw [q5])
  clear q5
  clear f2 f3 g2 g3
  have HE := Lib.hid he; have HF := Lib.hid hf; clear he hf
  go_enter Tryd.func8, Tryd.ntmps8
  go_wp2_with fail
  refine (word_ok _ _ HE.out.1 HE.out.2.1 HE.out.2.2.1 HE.out.2.2.2 _).mono ?_; rintro e w' ⟨rfl, rfl⟩
  go_wp2_with fail
  refine (word_ok _ _ HF.out.1 HF.out.2.1 HF.out.2.2.1 HF.out.2.2.2 _).mono ?_; rintro e w' ⟨rfl, rfl⟩
  go_wp2_with fail
  refine (less_any _ _ f0 f1 g0 g1 _).mono ?_; rintro e w' ⟨rfl, rfl⟩
  go_wp2_with fail
  refine (known_at H.out (alloc_below (alloc_below (Below.refl _ _) _) _)).mono ?_; rintro e WK ⟨rfl, BK⟩
  replace BK := step_below (alloc_below (alloc_below (Below.refl _ _) _) _) BK
  go_wp2_with fail
  go_ret
  exact ⟨ret_bool (by first | rfl | (simp; omega)), BK⟩

set_option maxRecDepth 100000 in
set_option maxHeartbeats 1000000 in
theorem apart_okb (e n f k : Int) (he : 0 ≤ e ∧ e ≤ 16777215 ∧ 0 ≤ n ∧ n ≤ 2147483647) (hf : 0 ≤ f ∧ f ≤ 16777215 ∧ 0 ≤ k ∧ k ≤ 2147483647) (c1 : e = f) (c2 : n < k) (w : World) (m : Int) (hm : w.cell? ⟨1, 0, none⟩ = some (.int .i64 m)) :
    Calls Tryd.prog 8 #[.agg #[.int .i64 e, .int .i64 n], .agg #[.int .i64 f, .int .i64 k]] w fun r w' => r = .returned (.bool true) ∧ Below w.heap.size w w' := by
  have H := Lib.hid hm; clear hm
  obtain ⟨f0, f1, f2, f3, f4, f5, f6, f7⟩ := word_facts e n he.1 he.2.1 he.2.2.1 he.2.2.2
  obtain ⟨g0, g1, g2, g3, g4, g5, g6, g7⟩ := word_facts f k hf.1 hf.2.1 hf.2.2.1 hf.2.2.2
  clear f4 f5 f6 f7 g4 g5 g6 g7
  have q1 : (wordV e n == wordV f k) = false := by unfold wordV; simp; omega
  have q2 : decide (wordV e n < wordV f k) = true := by unfold wordV; simp; omega
  have q3 : lessB (wordV e n) (wordV f k) = true := by unfold lessB; rw [f2, f3, g2, g3]; split <;> simp <;> omega
  have q4 : (e == f) = true := by simp; omega
  have q5 : (e == f && n == k) = false := by rw [Bool.eq_iff_iff]; simp; omega
  have heq : ∀ W, (Op.equalIn 10000 43 (.agg #[.int .i64 e, .int .i64 n]) (.agg #[.int .i64 f, .int .i64 k])).run Tryd.prog W = .ok false W := fun W => (eqarr 9998 e n f k W).trans (by rw [q5])
  clear q5
  clear f2 f3 g2 g3
  have HE := Lib.hid he; have HF := Lib.hid hf; clear he hf
  have HC := Lib.hid c1; clear c1
  have c3 : e ≤ f := by rw [HC.out]; exact Int.le_refl _
  have c4 : f ≤ e := by rw [HC.out]; exact Int.le_refl _
  go_enter Tryd.func8, Tryd.ntmps8
  go_wp2_with fail
  refine (word_ok _ _ HE.out.1 HE.out.2.1 HE.out.2.2.1 HE.out.2.2.2 _).mono ?_; rintro e w' ⟨rfl, rfl⟩
  go_wp2_with fail
  refine (word_ok _ _ HF.out.1 HF.out.2.1 HF.out.2.2.1 HF.out.2.2.2 _).mono ?_; rintro e w' ⟨rfl, rfl⟩
  go_wp2_with fail
  refine (less_any _ _ f0 f1 g0 g1 _).mono ?_; rintro e w' ⟨rfl, rfl⟩
  go_wp2_with fail
  refine (known_at H.out (alloc_below (alloc_below (Below.refl _ _) _) _)).mono ?_; rintro e WK ⟨rfl, BK⟩
  replace BK := step_below (alloc_below (alloc_below (Below.refl _ _) _) _) BK
  go_wp2_with fail
  go_ret
  exact ⟨ret_bool (by first | rfl | (simp; omega)), BK⟩

set_option maxRecDepth 100000 in
set_option maxHeartbeats 1000000 in
theorem apart_okc (e n f k : Int) (he : 0 ≤ e ∧ e ≤ 16777215 ∧ 0 ≤ n ∧ n ≤ 2147483647) (hf : 0 ≤ f ∧ f ≤ 16777215 ∧ 0 ≤ k ∧ k ≤ 2147483647) (c1 : e = f) (c2 : n = k) (w : World) (m : Int) (hm : w.cell? ⟨1, 0, none⟩ = some (.int .i64 m)) :
    Calls Tryd.prog 8 #[.agg #[.int .i64 e, .int .i64 n], .agg #[.int .i64 f, .int .i64 k]] w fun r w' => r = .returned (.bool true) ∧ Below w.heap.size w w' := by
  have H := Lib.hid hm; clear hm
  obtain ⟨f0, f1, f2, f3, f4, f5, f6, f7⟩ := word_facts e n he.1 he.2.1 he.2.2.1 he.2.2.2
  obtain ⟨g0, g1, g2, g3, g4, g5, g6, g7⟩ := word_facts f k hf.1 hf.2.1 hf.2.2.1 hf.2.2.2
  clear f4 f5 f6 f7 g4 g5 g6 g7
  have q1 : (wordV e n == wordV f k) = true := by unfold wordV; simp; omega
  have q2 : decide (wordV e n < wordV f k) = false := by unfold wordV; simp; omega
  have q3 : lessB (wordV e n) (wordV f k) = false := by unfold lessB; rw [f2, f3, g2, g3]; split <;> simp <;> omega
  have q4 : (e == f) = true := by simp; omega
  have q5 : (e == f && n == k) = true := by rw [Bool.eq_iff_iff]; simp; omega
  have heq : ∀ W, (Op.equalIn 10000 43 (.agg #[.int .i64 e, .int .i64 n]) (.agg #[.int .i64 f, .int .i64 k])).run Tryd.prog W = .ok true W := fun W => (eqarr 9998 e n f k W).trans (by rw [q5])
  clear q5
  clear f2 f3 g2 g3
  have HE := Lib.hid he; have HF := Lib.hid hf; clear he hf
  have HC := Lib.hid c1; clear c1
  have c3 : e ≤ f := by rw [HC.out]; exact Int.le_refl _
  have c4 : f ≤ e := by rw [HC.out]; exact Int.le_refl _
  have HD := Lib.hid c2; clear c2
  have c5 : n ≤ k := by rw [HD.out]; exact Int.le_refl _
  have c6 : k ≤ n := by rw [HD.out]; exact Int.le_refl _
  go_enter Tryd.func8, Tryd.ntmps8
  go_wp2_with fail
  refine (word_ok _ _ HE.out.1 HE.out.2.1 HE.out.2.2.1 HE.out.2.2.2 _).mono ?_; rintro e w' ⟨rfl, rfl⟩
  go_wp2_with fail
  refine (word_ok _ _ HF.out.1 HF.out.2.1 HF.out.2.2.1 HF.out.2.2.2 _).mono ?_; rintro e w' ⟨rfl, rfl⟩
  go_wp2_with fail
  refine (less_any _ _ f0 f1 g0 g1 _).mono ?_; rintro e w' ⟨rfl, rfl⟩
  go_wp2_with fail
  refine (known_at H.out (alloc_below (alloc_below (Below.refl _ _) _) _)).mono ?_; rintro e WK ⟨rfl, BK⟩
  replace BK := step_below (alloc_below (alloc_below (Below.refl _ _) _) _) BK
  go_wp2_with fail
  go_ret
  exact ⟨ret_bool (by first | rfl | (simp; omega)), BK⟩

set_option maxRecDepth 100000 in
set_option maxHeartbeats 1000000 in
theorem apart_okd (e n f k : Int) (he : 0 ≤ e ∧ e ≤ 16777215 ∧ 0 ≤ n ∧ n ≤ 2147483647) (hf : 0 ≤ f ∧ f ≤ 16777215 ∧ 0 ≤ k ∧ k ≤ 2147483647) (c1 : e = f) (c2 : k < n) (w : World) (m : Int) (hm : w.cell? ⟨1, 0, none⟩ = some (.int .i64 m)) :
    Calls Tryd.prog 8 #[.agg #[.int .i64 e, .int .i64 n], .agg #[.int .i64 f, .int .i64 k]] w fun r w' => r = .returned (.bool true) ∧ Below w.heap.size w w' := by
  have H := Lib.hid hm; clear hm
  obtain ⟨f0, f1, f2, f3, f4, f5, f6, f7⟩ := word_facts e n he.1 he.2.1 he.2.2.1 he.2.2.2
  obtain ⟨g0, g1, g2, g3, g4, g5, g6, g7⟩ := word_facts f k hf.1 hf.2.1 hf.2.2.1 hf.2.2.2
  clear f4 f5 f6 f7 g4 g5 g6 g7
  have q1 : (wordV e n == wordV f k) = false := by unfold wordV; simp; omega
  have q2 : decide (wordV e n < wordV f k) = false := by unfold wordV; simp; omega
  have q3 : lessB (wordV e n) (wordV f k) = false := by unfold lessB; rw [f2, f3, g2, g3]; split <;> simp <;> omega
  have q4 : (e == f) = true := by simp; omega
  have q5 : (e == f && n == k) = false := by rw [Bool.eq_iff_iff]; simp; omega
  have heq : ∀ W, (Op.equalIn 10000 43 (.agg #[.int .i64 e, .int .i64 n]) (.agg #[.int .i64 f, .int .i64 k])).run Tryd.prog W = .ok false W := fun W => (eqarr 9998 e n f k W).trans (by rw [q5])
  clear q5
  clear f2 f3 g2 g3
  have HE := Lib.hid he; have HF := Lib.hid hf; clear he hf
  have HC := Lib.hid c1; clear c1
  have c3 : e ≤ f := by rw [HC.out]; exact Int.le_refl _
  have c4 : f ≤ e := by rw [HC.out]; exact Int.le_refl _
  go_enter Tryd.func8, Tryd.ntmps8
  go_wp2_with fail
  refine (word_ok _ _ HE.out.1 HE.out.2.1 HE.out.2.2.1 HE.out.2.2.2 _).mono ?_; rintro e w' ⟨rfl, rfl⟩
  go_wp2_with fail
  refine (word_ok _ _ HF.out.1 HF.out.2.1 HF.out.2.2.1 HF.out.2.2.2 _).mono ?_; rintro e w' ⟨rfl, rfl⟩
  go_wp2_with fail
  refine (less_any _ _ f0 f1 g0 g1 _).mono ?_; rintro e w' ⟨rfl, rfl⟩
  go_wp2_with fail
  refine (known_at H.out (alloc_below (alloc_below (Below.refl _ _) _) _)).mono ?_; rintro e WK ⟨rfl, BK⟩
  replace BK := step_below (alloc_below (alloc_below (Below.refl _ _) _) _) BK
  go_wp2_with fail
  go_ret
  exact ⟨ret_bool (by first | rfl | (simp; omega)), BK⟩

set_option maxRecDepth 100000 in
set_option maxHeartbeats 1000000 in
theorem apart_oke (e n f k : Int) (he : 0 ≤ e ∧ e ≤ 16777215 ∧ 0 ≤ n ∧ n ≤ 2147483647) (hf : 0 ≤ f ∧ f ≤ 16777215 ∧ 0 ≤ k ∧ k ≤ 2147483647) (c1 : f < e) (w : World) (m : Int) (hm : w.cell? ⟨1, 0, none⟩ = some (.int .i64 m)) :
    Calls Tryd.prog 8 #[.agg #[.int .i64 e, .int .i64 n], .agg #[.int .i64 f, .int .i64 k]] w fun r w' => r = .returned (.bool true) ∧ Below w.heap.size w w' := by
  have H := Lib.hid hm; clear hm
  obtain ⟨f0, f1, f2, f3, f4, f5, f6, f7⟩ := word_facts e n he.1 he.2.1 he.2.2.1 he.2.2.2
  obtain ⟨g0, g1, g2, g3, g4, g5, g6, g7⟩ := word_facts f k hf.1 hf.2.1 hf.2.2.1 hf.2.2.2
  clear f4 f5 f6 f7 g4 g5 g6 g7
  have q1 : (wordV e n == wordV f k) = false := by unfold wordV; simp; omega
  have q2 : decide (wordV e n < wordV f k) = false := by unfold wordV; simp; omega
  have q3 : lessB (wordV e n) (wordV f k) = false := by unfold lessB; rw [f2, f3, g2, g3]; split <;> simp <;> omega
  have q4 : (e == f) = false := by simp; omega
  have q5 : (e == f && n == k) = false := by rw [Bool.eq_iff_iff]; simp; omega
  have heq : ∀ W, (Op.equalIn 10000 43 (.agg #[.int .i64 e, .int .i64 n]) (.agg #[.int .i64 f, .int .i64 k])).run Tryd.prog W = .ok false W := fun W => (eqarr 9998 e n f k W).trans (by rw [q5])
  clear q5
  clear f2 f3 g2 g3
  have HE := Lib.hid he; have HF := Lib.hid hf; clear he hf
  go_enter Tryd.func8, Tryd.ntmps8
  go_wp2_with fail
  refine (word_ok _ _ HE.out.1 HE.out.2.1 HE.out.2.2.1 HE.out.2.2.2 _).mono ?_; rintro e w' ⟨rfl, rfl⟩
  go_wp2_with fail
  refine (word_ok _ _ HF.out.1 HF.out.2.1 HF.out.2.2.1 HF.out.2.2.2 _).mono ?_; rintro e w' ⟨rfl, rfl⟩
  go_wp2_with fail
  refine (less_any _ _ f0 f1 g0 g1 _).mono ?_; rintro e w' ⟨rfl, rfl⟩
  go_wp2_with fail
  refine (known_at H.out (alloc_below (alloc_below (Below.refl _ _) _) _)).mono ?_; rintro e WK ⟨rfl, BK⟩
  replace BK := step_below (alloc_below (alloc_below (Below.refl _ _) _) _) BK
  go_wp2_with fail
  go_ret
  exact ⟨ret_bool (by first | rfl | (simp; omega)), BK⟩

theorem apart_law (e n f k : Int) (w : World) (m : Int) (hm : w.cell? ⟨1, 0, none⟩ = some (.int .i64 m)) :
    Calls Tryd.prog 8 #[.agg #[.int .i64 e, .int .i64 n], .agg #[.int .i64 f, .int .i64 k]] w fun r w' => r = .returned (.bool true) ∧ Below w.heap.size w w' := by
  by_cases he : 0 ≤ e ∧ e ≤ 16777215 ∧ 0 ≤ n ∧ n ≤ 2147483647 <;> by_cases hf : 0 ≤ f ∧ f ≤ 16777215 ∧ 0 ≤ k ∧ k ≤ 2147483647
  · rcases (show e < f ∨ (e = f ∧ n < k) ∨ (e = f ∧ n = k) ∨ (e = f ∧ k < n) ∨ f < e from by omega) with c | ⟨c, c2⟩ | ⟨c, c2⟩ | ⟨c, c2⟩ | c
    · exact apart_oka e n f k he hf c w m hm
    · exact apart_okb e n f k he hf c c2 w m hm
    · exact apart_okc e n f k he hf c c2 w m hm
    · exact apart_okd e n f k he hf c c2 w m hm
    · exact apart_oke e n f k he hf c w m hm
  · exact apart_10 e n f k he (by omega) w m hm
  · exact apart_01 e n f k (by omega) hf w m hm
  · exact apart_00 e n f k (by omega) (by omega) w m hm

theorem back_law (x : Int) (a0 a1 a2 b0 b1 b2 : Bool) (bx : 0 ≤ x ∧ x ≤ 18446744073709551615) (w : World) (m : Int) (hm : w.cell? ⟨1, 0, none⟩ = some (.int .i64 m)) :
    Calls Tryd.prog 7 #[.int .u64 x, .agg #[.bool a0, .bool a1, .bool a2], .agg #[.bool b0, .bool b1, .bool b2]] w fun e w' => e = .returned (.bool true) ∧ Below w.heap.size w w' :=
  back_walk x a0 a1 a2 b0 b1 b2 bx.1 (by omega) w m hm

end Go.Proofs.YtfdboihfgpibcaaDoor
