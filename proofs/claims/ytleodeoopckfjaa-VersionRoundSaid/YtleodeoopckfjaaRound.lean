/- The walk of 'VersionRound': it returns true, whatever its argument. -/
import Derived.Test.YtleodeoopckfjaaKnown
namespace Go.Proofs.Ytleodeoopckfjaa
open Go.ChangeShapes Go.WideShapes Go.ChangeAt Go.RowKit
open VM

theorem round_arg (x : Int) (h0 : 0 ≤ x) (h1 : x < 18446744073709551616) (hm : mayB x = false) (w : World) :
    Calls Try.prog 6 #[.int .u64 x] w fun e w' => e = .returned (.bool true) ∧ Below w.heap.size w w' := by
  go_enter Try.func6, Try.ntmps6
  go_wp2_with fail
  with_reducible refine (lock_arg _ h0 h1 hm _).mono ?_; rintro e W1 ⟨rfl, B1⟩
  go_wp2_with fail
  with_reducible refine (known_any _).mono ?_; rintro e W2 ⟨rfl, B2⟩
  replace B2 := step_below B1 B2; clear B1
  go_wp2_with fail
  go_ret
  exact ⟨rfl, B2⟩

theorem round_state (x : Int) (h0 : 0 ≤ x) (h1 : x < 18446744073709551616) (hm : mayB x = true) (hb : x % 2 = 1) (w : World) :
    Calls Try.prog 6 #[.int .u64 x] w fun e w' => e = .returned (.bool true) ∧ Below w.heap.size w w' := by
  have HB := Lib.hid hb; clear hb
  go_enter Try.func6, Try.ntmps6
  go_wp2_with fail
  with_reducible refine (lock_state _ h0 h1 hm HB.out _).mono ?_; rintro e W1 ⟨rfl, B1⟩
  go_wp2_with fail
  with_reducible refine (known_any _).mono ?_; rintro e W2 ⟨rfl, B2⟩
  replace B2 := step_below B1 B2; clear B1
  go_wp2_with fail
  go_ret
  exact ⟨rfl, B2⟩

theorem and56 (x : Int) (h0 : 0 ≤ x) (h1 : x < 18446744073709551616) : bits .and .u64 x 56 = x / 8 % 8 * 8 := by
  have := iand x h0 h1 56 8 8 3 3 (by decide) (by decide) (by decide) (by decide)
  omega

/-- What the split word, unlocked, is like. -/
theorem split_facts (x : Int) (h0 : 0 ≤ x) (hm : mayB x = true) (hb : x % 2 = 0) :
    ∃ i s W : Int, x + 1 + 2 - (x + 1) / 2 % 2 * 2 = i ∧ 0 ≤ i ∧ i < 18446744073709551616 ∧ mayB i = true ∧ i % 2 = 1 ∧ i + 4 - i / 4 % 2 * 4 = s ∧ unlockedV s = W ∧ 0 ≤ s ∧ s < 18446744073709551616 ∧ mayB s = true ∧ s % 2 = 1 ∧ 0 ≤ W ∧ W < 18446744073709551616 ∧ stillB W = true ∧
      bits .and .u64 W 1 = 0 ∧ (bits .and .u64 W 56 != bits .and .u64 x 56) = false ∧ W / 256 % 65536 ≤ x / 256 % 65536 ∧ x / 256 % 65536 ≤ W / 256 % 65536 := by
  have a := may_lt hm
  have b := may_mod hm
  obtain ⟨i, hi⟩ : ∃ i, x + 1 + 2 - (x + 1) / 2 % 2 * 2 = i := ⟨_, rfl⟩
  obtain ⟨s, hs⟩ : ∃ s, i + 4 - i / 4 % 2 * 4 = s := ⟨_, rfl⟩
  have mi : mayB i = true := may_mk (by omega) (by omega)
  have c : mayB s = true := may_mk (by omega) (by omega)
  have d := unlocked_may (x := s) (by omega) c
  have e : unlockedV s / 8 % 8 = x / 8 % 8 ∧ unlockedV s / 256 % 65536 = x / 256 % 65536 := by
    have s4 : s / 4 % 2 = 1 := by omega
    have q1 : s / 8 = x / 8 := by omega
    rw [cases_unlocked, if_pos s4]
    unfold count24V
    split <;> omega
  generalize hW : unlockedV s = W at d e
  refine ⟨i, s, W, hi, by omega, by omega, mi, by omega, hs, hW, by omega, by omega, c, by omega, by omega, by omega, ?_, ?_, ?_, by omega, by omega⟩
  · unfold stillB
    rw [decide_eq_true (show W / 2 % 2 = 0 by omega), decide_eq_true (show W / 4 % 2 = 0 by omega)]; rfl
  · rw [and1 W (by omega) (by omega)]; omega
  · rw [and56 W (by omega) (by omega), and56 x (by omega) (by omega), e.1]; simp

theorem root_root (x : Int) : rootV (rootV x true) false = rootV x false := by
  unfold rootV; simp; omega
theorem gone_gone (x : Int) : goneV (goneV x) = goneV x := by
  unfold goneV; omega
theorem root_bd (x : Int) (b : Bool) (h0 : 0 ≤ x) (h1 : x < 18446744073709551616) : 0 ≤ rootV x b ∧ rootV x b < 18446744073709551616 := by
  unfold rootV; cases b <;> simp <;> omega
theorem gone_bd (x : Int) (h0 : 0 ≤ x) (h1 : x < 18446744073709551616) : 0 ≤ goneV x ∧ goneV x < 18446744073709551616 := by
  unfold goneV; omega

theorem round_1 (x : Int) (h0 : 0 ≤ x) (h1 : x < 18446744073709551616) (hm : mayB x = true) (hb : x % 2 = 0) (a2 : x / 2 % 2 = 1) (w : World) :
    Calls Try.prog 6 #[.int .u64 x] w fun e w' => e = .returned (.bool true) ∧ Below w.heap.size w w' := by
  obtain ⟨i, s, W, ei, i0, i1, mi, pi, es, eW, s0, s1, ms, ps, Wa, Wb, wst, w1, w56, wi1, wi2⟩ := split_facts x h0 hm hb
  have hl := may_lt hm
  have hx := may_mod hm
  have m1 : mayB (x + 1) = true := may_mk (by omega) (by omega)
  have p1 : (x + 1) % 2 = 1 := by omega
  have U : Hid (∀ w : World, Calls Try.prog 23 #[.int .u64 s] w fun e w' => e = .returned (.tuple #[.int .u64 W, .int .i64 0]) ∧ Below w.heap.size w w') := Lib.hid fun w => two_lit (unlock_ok s s0 s1 ms ps w) eW
  have b2 : bitB x 2 = true := by unfold bitB; rw [a2]; rfl
  have rr := root_root x
  have gg := gone_gone x
  have rb := root_bd x true h0 h1
  have gb := gone_bd x h0 h1
  have HB := Lib.hid hb; have P1 := Lib.hid p1; have PI := Lib.hid pi; have ES := Lib.hid es; have EI := Lib.hid ei
  clear hb p1 ps es eW ei pi hx a2
  have g0 : 0 ≤ x + 1 := by omega
  have g1 : x + 1 < 18446744073709551616 := by omega
  go_enter Try.func6, Try.ntmps6
  go_wp2_with fail
  with_reducible refine (lock_ok _ h0 h1 hm HB.out _).mono ?_; rintro e W1 ⟨rfl, B1⟩
  go_wp2_with fail
  with_reducible refine (unlock_ok _ g0 g1 m1 P1.out _).mono ?_; rintro e W2 ⟨rfl, B2⟩
  replace B2 := step_below B1 B2; clear B1
  go_wp2_with fail
  with_reducible refine (two_lit (insert_ok _ g0 g1 m1 P1.out _) EI.out).mono ?_; rintro e W3 ⟨rfl, B3⟩
  replace B3 := step_below B2 B3; clear B2
  go_wp2_with fail
  with_reducible refine (two_lit (split_ok _ i0 i1 mi PI.out _) ES.out).mono ?_; rintro e W4 ⟨rfl, B4⟩
  replace B4 := step_below B3 B4; clear B3
  go_wp2_with fail
  with_reducible refine (U.out _).mono ?_; rintro e W5 ⟨rfl, B5⟩
  replace B5 := step_below B4 B5; clear B4
  go_wp2_with fail
  with_reducible refine (still_any _ Wa Wb _).mono ?_; rintro e w' ⟨rfl, rfl⟩
  go_wp2_with fail
  with_reducible refine (has_any _ _ _).mono ?_; rintro e w' ⟨rfl, rfl⟩
  go_wp2_with fail
  with_reducible refine (inserts_any _ Wa Wb _).mono ?_; rintro e w' ⟨rfl, rfl⟩
  go_wp2_with fail
  with_reducible refine (inserts_any _ h0 h1 _).mono ?_; rintro e w' ⟨rfl, rfl⟩
  go_wp2_with fail
  with_reducible refine (bit_any _ _ h0 h1 (by decide) (by decide) _).mono ?_; rintro e w' ⟨rfl, rfl⟩
  go_wp2_with fail
  with_reducible refine (root_any _ _ h0 h1 _).mono ?_; rintro e w' ⟨rfl, rfl⟩
  go_wp2_with fail
  with_reducible refine (root_any _ _ rb.1 rb.2 _).mono ?_; rintro e w' ⟨rfl, rfl⟩
  go_wp2_with fail
  with_reducible refine (root_any _ _ h0 h1 _).mono ?_; rintro e w' ⟨rfl, rfl⟩
  go_wp2_with fail
  with_reducible refine (gone_any _ h0 h1 _).mono ?_; rintro e w' ⟨rfl, rfl⟩
  go_wp2_with fail
  with_reducible refine (gone_any _ gb.1 gb.2 _).mono ?_; rintro e w' ⟨rfl, rfl⟩
  go_wp2_with fail
  with_reducible refine (gone_any _ h0 h1 _).mono ?_; rintro e w' ⟨rfl, rfl⟩
  go_wp2_with fail
  with_reducible refine (known_any _).mono ?_; rintro e W6 ⟨rfl, B6⟩
  replace B6 := step_below B5 B6; clear B5
  go_wp2_with fail
  go_ret
  exact ⟨rfl, B6⟩

theorem round_01 (x : Int) (h0 : 0 ≤ x) (h1 : x < 18446744073709551616) (hm : mayB x = true) (hb : x % 2 = 0) (a2 : x / 2 % 2 = 0) (a4 : x / 4 % 2 = 1) (w : World) :
    Calls Try.prog 6 #[.int .u64 x] w fun e w' => e = .returned (.bool true) ∧ Below w.heap.size w w' := by
  obtain ⟨i, s, W, ei, i0, i1, mi, pi, es, eW, s0, s1, ms, ps, Wa, Wb, wst, w1, w56, wi1, wi2⟩ := split_facts x h0 hm hb
  have hl := may_lt hm
  have hx := may_mod hm
  have m1 : mayB (x + 1) = true := may_mk (by omega) (by omega)
  have p1 : (x + 1) % 2 = 1 := by omega
  have U : Hid (∀ w : World, Calls Try.prog 23 #[.int .u64 s] w fun e w' => e = .returned (.tuple #[.int .u64 W, .int .i64 0]) ∧ Below w.heap.size w w') := Lib.hid fun w => two_lit (unlock_ok s s0 s1 ms ps w) eW
  have b2 : bitB x 2 = false := by unfold bitB; rw [a2]; rfl
  have b4 : bitB x 4 = true := by unfold bitB; rw [a4]; rfl
  have rr := root_root x
  have gg := gone_gone x
  have rb := root_bd x true h0 h1
  have gb := gone_bd x h0 h1
  have HB := Lib.hid hb; have P1 := Lib.hid p1; have PI := Lib.hid pi; have ES := Lib.hid es; have EI := Lib.hid ei
  clear hb p1 ps es eW ei pi hx a2 a4
  have g0 : 0 ≤ x + 1 := by omega
  have g1 : x + 1 < 18446744073709551616 := by omega
  go_enter Try.func6, Try.ntmps6
  go_wp2_with fail
  with_reducible refine (lock_ok _ h0 h1 hm HB.out _).mono ?_; rintro e W1 ⟨rfl, B1⟩
  go_wp2_with fail
  with_reducible refine (unlock_ok _ g0 g1 m1 P1.out _).mono ?_; rintro e W2 ⟨rfl, B2⟩
  replace B2 := step_below B1 B2; clear B1
  go_wp2_with fail
  with_reducible refine (two_lit (insert_ok _ g0 g1 m1 P1.out _) EI.out).mono ?_; rintro e W3 ⟨rfl, B3⟩
  replace B3 := step_below B2 B3; clear B2
  go_wp2_with fail
  with_reducible refine (two_lit (split_ok _ i0 i1 mi PI.out _) ES.out).mono ?_; rintro e W4 ⟨rfl, B4⟩
  replace B4 := step_below B3 B4; clear B3
  go_wp2_with fail
  with_reducible refine (U.out _).mono ?_; rintro e W5 ⟨rfl, B5⟩
  replace B5 := step_below B4 B5; clear B4
  go_wp2_with fail
  with_reducible refine (still_any _ Wa Wb _).mono ?_; rintro e w' ⟨rfl, rfl⟩
  go_wp2_with fail
  with_reducible refine (has_any _ _ _).mono ?_; rintro e w' ⟨rfl, rfl⟩
  go_wp2_with fail
  with_reducible refine (inserts_any _ Wa Wb _).mono ?_; rintro e w' ⟨rfl, rfl⟩
  go_wp2_with fail
  with_reducible refine (inserts_any _ h0 h1 _).mono ?_; rintro e w' ⟨rfl, rfl⟩
  go_wp2_with fail
  with_reducible refine (bit_any _ _ h0 h1 (by decide) (by decide) _).mono ?_; rintro e w' ⟨rfl, rfl⟩
  go_wp2_with fail
  with_reducible refine (bit_any _ _ h0 h1 (by decide) (by decide) _).mono ?_; rintro e w' ⟨rfl, rfl⟩
  go_wp2_with fail
  with_reducible refine (root_any _ _ h0 h1 _).mono ?_; rintro e w' ⟨rfl, rfl⟩
  go_wp2_with fail
  with_reducible refine (root_any _ _ rb.1 rb.2 _).mono ?_; rintro e w' ⟨rfl, rfl⟩
  go_wp2_with fail
  with_reducible refine (root_any _ _ h0 h1 _).mono ?_; rintro e w' ⟨rfl, rfl⟩
  go_wp2_with fail
  with_reducible refine (gone_any _ h0 h1 _).mono ?_; rintro e w' ⟨rfl, rfl⟩
  go_wp2_with fail
  with_reducible refine (gone_any _ gb.1 gb.2 _).mono ?_; rintro e w' ⟨rfl, rfl⟩
  go_wp2_with fail
  with_reducible refine (gone_any _ h0 h1 _).mono ?_; rintro e w' ⟨rfl, rfl⟩
  go_wp2_with fail
  with_reducible refine (known_any _).mono ?_; rintro e W6 ⟨rfl, B6⟩
  replace B6 := step_below B5 B6; clear B5
  go_wp2_with fail
  go_ret
  exact ⟨rfl, B6⟩

theorem round_00 (x : Int) (h0 : 0 ≤ x) (h1 : x < 18446744073709551616) (hm : mayB x = true) (hb : x % 2 = 0) (a2 : x / 2 % 2 = 0) (a4 : x / 4 % 2 = 0) (w : World) :
    Calls Try.prog 6 #[.int .u64 x] w fun e w' => e = .returned (.bool true) ∧ Below w.heap.size w w' := by
  obtain ⟨i, s, W, ei, i0, i1, mi, pi, es, eW, s0, s1, ms, ps, Wa, Wb, wst, w1, w56, wi1, wi2⟩ := split_facts x h0 hm hb
  have hl := may_lt hm
  have hx := may_mod hm
  have m1 : mayB (x + 1) = true := may_mk (by omega) (by omega)
  have p1 : (x + 1) % 2 = 1 := by omega
  have U : Hid (∀ w : World, Calls Try.prog 23 #[.int .u64 s] w fun e w' => e = .returned (.tuple #[.int .u64 W, .int .i64 0]) ∧ Below w.heap.size w w') := Lib.hid fun w => two_lit (unlock_ok s s0 s1 ms ps w) eW
  have b2 : bitB x 2 = false := by unfold bitB; rw [a2]; rfl
  have b4 : bitB x 4 = false := by unfold bitB; rw [a4]; rfl
  have E1 : Hid (unlockedV (x + 1) = x) := Lib.hid (by rw [cases_unlocked, if_neg (by omega), if_neg (by omega)]; omega)
  have rr := root_root x
  have gg := gone_gone x
  have rb := root_bd x true h0 h1
  have gb := gone_bd x h0 h1
  have HB := Lib.hid hb; have P1 := Lib.hid p1; have PI := Lib.hid pi; have ES := Lib.hid es; have EI := Lib.hid ei
  clear hb p1 ps es eW ei pi hx a2 a4
  have g0 : 0 ≤ x + 1 := by omega
  have g1 : x + 1 < 18446744073709551616 := by omega
  go_enter Try.func6, Try.ntmps6
  go_wp2_with fail
  with_reducible refine (lock_ok _ h0 h1 hm HB.out _).mono ?_; rintro e W1 ⟨rfl, B1⟩
  go_wp2_with fail
  with_reducible refine (two_lit (unlock_ok _ g0 g1 m1 P1.out _) E1.out).mono ?_; rintro e W2 ⟨rfl, B2⟩
  replace B2 := step_below B1 B2; clear B1
  go_wp2_with fail
  with_reducible refine (two_lit (insert_ok _ g0 g1 m1 P1.out _) EI.out).mono ?_; rintro e W3 ⟨rfl, B3⟩
  replace B3 := step_below B2 B3; clear B2
  go_wp2_with fail
  with_reducible refine (two_lit (split_ok _ i0 i1 mi PI.out _) ES.out).mono ?_; rintro e W4 ⟨rfl, B4⟩
  replace B4 := step_below B3 B4; clear B3
  go_wp2_with fail
  with_reducible refine (U.out _).mono ?_; rintro e W5 ⟨rfl, B5⟩
  replace B5 := step_below B4 B5; clear B4
  go_wp2_with fail
  with_reducible refine (still_any _ Wa Wb _).mono ?_; rintro e w' ⟨rfl, rfl⟩
  go_wp2_with fail
  with_reducible refine (has_any _ _ _).mono ?_; rintro e w' ⟨rfl, rfl⟩
  go_wp2_with fail
  with_reducible refine (inserts_any _ Wa Wb _).mono ?_; rintro e w' ⟨rfl, rfl⟩
  go_wp2_with fail
  with_reducible refine (inserts_any _ h0 h1 _).mono ?_; rintro e w' ⟨rfl, rfl⟩
  go_wp2_with fail
  with_reducible refine (bit_any _ _ h0 h1 (by decide) (by decide) _).mono ?_; rintro e w' ⟨rfl, rfl⟩
  go_wp2_with fail
  with_reducible refine (bit_any _ _ h0 h1 (by decide) (by decide) _).mono ?_; rintro e w' ⟨rfl, rfl⟩
  go_wp2_with fail
  with_reducible refine (root_any _ _ h0 h1 _).mono ?_; rintro e w' ⟨rfl, rfl⟩
  go_wp2_with fail
  with_reducible refine (root_any _ _ rb.1 rb.2 _).mono ?_; rintro e w' ⟨rfl, rfl⟩
  go_wp2_with fail
  with_reducible refine (root_any _ _ h0 h1 _).mono ?_; rintro e w' ⟨rfl, rfl⟩
  go_wp2_with fail
  with_reducible refine (gone_any _ h0 h1 _).mono ?_; rintro e w' ⟨rfl, rfl⟩
  go_wp2_with fail
  with_reducible refine (gone_any _ gb.1 gb.2 _).mono ?_; rintro e w' ⟨rfl, rfl⟩
  go_wp2_with fail
  with_reducible refine (gone_any _ h0 h1 _).mono ?_; rintro e w' ⟨rfl, rfl⟩
  go_wp2_with fail
  with_reducible refine (known_any _).mono ?_; rintro e W6 ⟨rfl, B6⟩
  replace B6 := step_below B5 B6; clear B5
  go_wp2_with fail
  go_ret
  exact ⟨rfl, B6⟩

theorem round_law (x : Int) (bx : 0 ≤ x ∧ x ≤ 18446744073709551615) (w : World) :
    Calls Try.prog 6 #[.int .u64 x] w fun e w' => e = .returned (.bool true) ∧ Below w.heap.size w w' := by
  have h0 := bx.1
  have h1 : x < 18446744073709551616 := by omega
  cases hm : mayB x
  · exact round_arg x h0 h1 hm w
  · rcases (show x % 2 = 1 ∨ x % 2 = 0 from by omega) with hb | hb
    · exact round_state x h0 h1 hm hb w
    · rcases (show x / 2 % 2 = 0 ∨ x / 2 % 2 = 1 from by omega) with a | a
      · rcases (show x / 4 % 2 = 0 ∨ x / 4 % 2 = 1 from by omega) with b | b
        · exact round_00 x h0 h1 hm hb a b w
        · exact round_01 x h0 h1 hm hb a b w
      · exact round_1 x h0 h1 hm hb a w

end Go.Proofs.Ytleodeoopckfjaa
