/- What is put in stands at its place: the law's walk. -/
import Derived.Test.YtochdmdojcfceaaBack
namespace Go.Proofs.Ytochdmdojcfceaa
open Go.ChangeShapes Go.WideShapes Go.ChangeAt Go.RowKit Go.Shelf
open PM
set_option linter.unusedVariables false
set_option linter.unusedSimpArgs false

theorem word_of (p : Int) (h0 : 0 ≤ p) (h1 : p < 18446744073709551616) : ∃ n l, Wrd n l ∧ p = ((enc (n :: l) : Nat) : Int) := by
  obtain ⟨q, rfl⟩ : ∃ q : Nat, p = q := ⟨p.toNat, by omega⟩
  refine ⟨q % 16, dig 15 (q / 16), ⟨Nat.mod_lt _ (by omega), dig_length _ _, dig_dig _ _⟩, ?_⟩
  have := enc_dig 15 (q / 16) (by have : (18446744073709551616 : Nat) = 16 * 16 ^ 15 := by decide
                                  omega)
  rw [enc, this]; omega
theorem insV_bad {n : Nat} {l : List Nat} {i width : Int} (h : (insV n l i width).2.2 ≠ 0) : ∃ e : Int, insV n l i width = (0, 0, e) ∧ e ≠ 0 := by
  unfold insV at h ⊢
  split
  · split
    · exact ⟨5, rfl, by decide⟩
    · rename_i h1 h2
      rw [if_pos h1, if_neg h2] at h
      exact absurd rfl h
  · exact ⟨2, rfl, by decide⟩
theorem insV_ok {n : Nat} {l : List Nat} {i width : Int} (h : (insV n l i width).2.2 = 0) :
    okB l = true ∧ 3 ≤ width ∧ width ≤ 15 ∧ 0 ≤ i ∧ i ≤ n ∧ (n : Int) < width ∧ insV n l i width = (enc ((n + 1) :: mvd l n i.toNat), l.getD n 0, 0) := by
  unfold insV at h ⊢
  split at h
  · rename_i h1
    split at h
    · exact absurd h (by decide)
    · rename_i h2
      rw [if_pos h1, if_neg h2]
      exact ⟨h1.1, h1.2.1, h1.2.2.1, h1.2.2.2.1, h1.2.2.2.2, by omega, rfl⟩
  · exact absurd h (by decide)

set_option maxRecDepth 100000 in
set_option maxHeartbeats 1000000 in
theorem ins_refused (n : Nat) (l : List Nat) (i width : Int) (h : Wrd n l) (hb : (insV n l i width).2.2 ≠ 0) (w : World) :
    Calls Try.prog 5 #[.int .u64 ((enc (n :: l) : Nat) : Int), .int .i64 i, .int .i64 width] w fun e w' => e = .returned (.bool true) ∧ Below w.heap.size w w' := by
  obtain ⟨e, he, hne⟩ := insV_bad hb
  have c_ins := Lib.hid (fun w => ins_at n l i width 0 0 e he h w)
  have t : (e != 0) = true := by simpa using hne
  clear hb he hne
  go_enter Try.func5, Try.ntmps5
  go_wp2_with fail
  refine (c_ins.out _).mono ?_; rintro e' W1 ⟨rfl, B1⟩
  go_wp2_with fail
  refine (num_law _ _).mono ?_; rintro e w' ⟨rfl, rfl⟩
  go_wp2_with fail
  refine (known_law _).mono ?_; rintro e W9 ⟨rfl, B9⟩
  go_wp2
  go_ret
  exact ⟨rfl, step_below B1 B9⟩

theorem getD_take (l : List Nat) (n k : Nat) (h : k < n) : (l.take n).getD k 0 = l.getD k 0 := by simp [List.getD, List.getElem?_take, h]

set_option maxRecDepth 100000 in
set_option maxHeartbeats 4000000 in
theorem ins_taken (n : Nat) (l : List Nat) (j : Nat) (width : Int) (h : Wrd n l) (ho : okB l = true) (h3 : 3 ≤ width) (h15 : width ≤ 15) (hj : j ≤ n) (hn : (n : Int) < width) (hv : insV n l j width = (enc ((n + 1) :: mvd l n j), l.getD n 0, 0)) (w : World) :
    Calls Try.prog 5 #[.int .u64 ((enc (n :: l) : Nat) : Int), .int .i64 (j : Int), .int .i64 width] w fun e w' => e = .returned (.bool true) ∧ Below w.heap.size w w' := by
  have hn15 : n < 15 := by omega
  have hj15 : j < 15 := by omega
  have hw2 : Wrd (n + 1) (mvd l n j) := ⟨by omega, (mvd_wrd h n j hn15 hj15).len, (mvd_wrd h n j hn15 hj15).dig⟩
  have hok2 := mvd_ok (m := n + 1) h ho (i := n) (j := j) hn15 hj15 (by omega)
  have hc : cV n l = n := by unfold cV; rw [if_pos ho]
  have hc2 : cV (n + 1) (mvd l n j) = n + 1 := by unfold cV; rw [if_pos hok2]
  have hg := fun k => mvd_get h n j k hn15 hj15
  obtain ⟨m, hm⟩ : ∃ m, mvd l n j = m := ⟨_, rfl⟩
  have hback : mvd m j n = l := by rw [← hm]; exact mvd_back h n j hn15 hj15
  rw [hm] at hw2 hok2 hc2 hg hv
  obtain ⟨d, hd⟩ : ∃ d, l.getD n 0 = d := ⟨_, rfl⟩
  rw [hd] at hv hg
  have hmd : m.getD j 0 = d := by rw [hg]; simp
  have hu : usV n l = l.take n := by rw [usV_take n l h, hc]
  have hu2 : usV (n + 1) m = m.take (n + 1) := by rw [usV_take _ m hw2, hc2]
  obtain ⟨a, ha⟩ : ∃ a, l.take n = a := ⟨_, rfl⟩
  obtain ⟨b, hb⟩ : ∃ b, m.take (n + 1) = b := ⟨_, rfl⟩
  have hal : a.length = n := by rw [← ha]; simp [h.len]; omega
  have hbl : b.length = n + 1 := by rw [← hb]; simp [hw2.len]; omega
  have hbg : ∀ k, k < n + 1 → b.getD k 0 = m.getD k 0 := fun k hk => by rw [← hb]; exact getD_take m _ k hk
  have hag : ∀ k, k < n → a.getD k 0 = l.getD k 0 := fun k hk => by rw [← ha]; exact getD_take l _ k hk
  rw [ha] at hu
  rw [hb] at hu2
  have hrem : remV (n + 1) m j = (enc (n :: l), d, 0) := by
    unfold remV
    rw [if_pos ⟨hok2, by omega, by omega⟩, Int.toNat_natCast, Nat.add_sub_cancel, hback, hmd]
  have hfr : frV n l = l.drop n := by unfold frV; rw [if_pos ho]
  obtain ⟨f, hf⟩ : ∃ f, l.drop n = f := ⟨_, rfl⟩
  have hf0 : f.getD 0 0 = d := by rw [← hf, ← hd]; simp [List.getD]
  have hfl : f.length = 15 - n := by rw [← hf]; simp [h.len]
  rw [hf] at hfr
  obtain ⟨q, hq⟩ : ∃ q, f.length = q := ⟨_, rfl⟩
  have hq0 : 0 < q := by omega
  have HAT := Lib.hid (fun k (hk : k < n + 1) w => (show Calls Try.prog 12 #[.int .u64 ((enc ((n + 1) :: m) : Nat) : Int), .int .i64 (k : Int)] w fun e w' => e = .returned (.tuple #[.int .i64 ((b.getD k 0 : Nat) : Int), .int .i64 0]) ∧ Below w.heap.size w w' from by
    have := At_law (n + 1) m k hw2 w
    rw [atV, if_pos ⟨by omega, by rw [hc2]; omega⟩, Int.toNat_natCast] at this
    rw [hbg k hk]
    exact this))
  have HEQ := Lib.hid (fun k (hk : k < n + 1) => (show b.getD k 0 = (if k < j then a.getD k 0 else if k = j then d else a.getD (k - 1) 0) from by
    rw [hbg k hk, hg k]
    by_cases h1 : k < j
    · rw [if_pos h1, if_pos h1, if_pos (by omega), hag k (by omega)]
    · rw [if_neg h1, if_neg h1]
      by_cases h2 : k = j
      · rw [if_pos h2, if_pos h2]
      · rw [if_neg h2, if_neg h2, if_pos (by omega), hag (k - 1) (by omega)]))
  have c_ins := Lib.hid (fun w => ins_at n l j width _ d 0 hv h w)
  have c_u1 := Lib.hid (fun w => used_rd n l a hu h w)
  have c_u2 := Lib.hid (fun w => used_rd (n + 1) m b hu2 hw2 w)
  have c_rem := Lib.hid (fun w => rem_at (n + 1) m j _ d 0 hrem hw2 w)
  have c_free := Lib.hid (fun w => free_rd n l f hfr h w)
  rw [hal] at c_u1
  rw [hbl] at c_u2
  rw [hq] at c_free
  have HAL := Lib.hid hal
  have HBL := Lib.hid hbl
  have HF0 := Lib.hid hf0
  have HQ := Lib.hid hq
  obtain ⟨P, hP⟩ : ∃ P, ((enc (n :: l) : Nat) : Int) = P := ⟨_, rfl⟩
  obtain ⟨R, hR⟩ : ∃ R, ((enc ((n + 1) :: m) : Nat) : Int) = R := ⟨_, rfl⟩
  rw [hP] at c_ins c_u1 c_rem c_free ⊢
  rw [hR] at c_ins c_u2 c_rem HAT
  have hni : (n : Int) ≤ 14 := by omega
  have hji : (j : Int) ≤ (n : Int) := by omega
  clear hm hback hmd hu hu2 ha hb hal hbl hbg hag hrem hfr hf hf0 hfl hq hd hg hc hc2 hv hP hR ho hok2
  go_enter Try.func5, Try.ntmps5
  go_wp2_with fail
  refine (c_ins.out _).mono ?_; rintro e W1 ⟨rfl, B1⟩
  go_wp2_with fail
  refine (num_law _ _).mono ?_; rintro e w' ⟨rfl, rfl⟩
  go_wp2_with fail
  refine (c_u1.out _).mono ?_; rintro e W2 ⟨a1, k1, rfl, _, r1, _, _, B2⟩
  replace B2 := step_below B1 B2
  have R1 := Lib.hid r1
  clear B1 r1
  go_wp2_with fail
  refine (c_u2.out _).mono ?_; rintro e W3 ⟨a2, k2, rfl, _, r2, _, _, B3⟩
  replace R1 := Lib.hid (R1.out.below B3)
  replace B3 := step_below B2 B3
  have R2 := Lib.hid r2
  clear B2 r2
  go_wp2_with fail
  go_loopw [12] (fun i wr => ∃ k : Nat, k ≤ n + 1 ∧ i = .int .i64 k ∧ Below W3.heap.size W3 wr ∧ Below w.heap.size w wr) (fun i _ => n + 1 - (intOf i).toNat)
  case atStart => exact ⟨0, by omega, rfl, Below.refl _ _, B3⟩
  case round =>
    clear B3
    obtain ⟨k, hk, rfl, B1, B⟩ := hrel
    by_cases hlt : k < n + 1
    · have hkl : (k : Int) < (n : Int) + 1 := by omega
      have hkl2 : (k : Int) < ((n + 1 : Nat) : Int) := by omega
      have heq := HEQ.out k hlt
      have c_at := Lib.hid (HAT.out k hlt wr)
      obtain ⟨x, hx⟩ : ∃ x, b.getD k 0 = x := ⟨_, rfl⟩
      rw [hx] at c_at heq
      have HEK := Lib.hid heq
      have HX := Lib.hid hx
      clear heq hx
      go_wp2_with fail
      refine c_at.out.mono ?_; rintro e W4 ⟨rfl, B4⟩
      replace B := step_below B B4
      replace B1 := step_below B1 B4
      clear c_at B4
      obtain ⟨b2, o2, e2, c2⟩ := R2.out.below B1 k (by rw [ints_length, HBL.out]; exact hlt)
      rw [ints_get _ _ (by rw [HBL.out]; exact hlt), HX.out] at c2
      subst e2
      go_wp2_with fail
      rcases (show k < j ∨ k = j ∨ j < k from by omega) with q | q | q
      · have heq := HEK.out
        rw [if_pos q] at heq
        obtain ⟨b1, o1, e1, c1⟩ := R1.out.below B1 k (by rw [ints_length, HAL.out]; omega)
        rw [ints_get _ _ (by rw [HAL.out]; omega), ← heq] at c1
        subst e1
        have hkn : (k : Int) < (n : Int) := by omega
        have t1 : (k : Int) < (j : Int) := by omega
        have t2 : ((k : Int) == (j : Int)) = false := by rw [beq_eq_false_iff_ne]; omega
        have t3 : ¬ (j : Int) < (k : Int) := by omega
        have t4 : decide (j < k) = false := by simp; omega
        have t0 : ((x : Int) != (x : Int)) = false := by simp
        clear heq q
        go_quiet ((go_at_call 21; exact Calls.quiet_of_same ((num_law _ _).mono fun _ _ ⟨a, b⟩ => ⟨a, b.symm⟩)))
        go_wp2_with fail
        go_roundw
        case rel => exact ⟨k + 1, by omega, by go_num, below_drewN B1 _, below_drewN B _⟩
        case measure => simp [intOf]; omega
      · have heq := HEK.out
        subst q
        rw [if_neg (by omega), if_pos rfl] at heq
        subst heq
        have t1 : decide ((k : Int) < (k : Int)) = false := by simp
        have t2 : ((k : Int) == (k : Int)) = true := by simp
        have t0 : ((x : Int) != (x : Int)) = false := by simp
        go_quiet ((go_at_call 21; exact Calls.quiet_of_same ((num_law _ _).mono fun _ _ ⟨a, b⟩ => ⟨a, b.symm⟩)))
        go_wp2_with fail
        go_roundw
        case rel => exact ⟨k + 1, by omega, by go_num, below_drewN B1 _, below_drewN B _⟩
        case measure => simp [intOf]; omega
      · have heq := HEK.out
        rw [if_neg (by omega), if_neg (by omega)] at heq
        obtain ⟨b1, o1, e1, c1⟩ := R1.out.below B1 (k - 1) (by rw [ints_length, HAL.out]; omega)
        rw [ints_get _ _ (by rw [HAL.out]; omega), ← heq] at c1
        subst e1
        have hkn : (k : Int) - 1 < (n : Int) := by omega
        have hk0 : (0 : Int) ≤ (k : Int) - 1 := by omega
        have hk1 : (1 : Int) ≤ (k : Int) := by omega
        have t1 : ¬ (k : Int) < (j : Int) := by omega
        have t2 : ((k : Int) == (j : Int)) = false := by rw [beq_eq_false_iff_ne]; omega
        have t3 : (j : Int) < (k : Int) := by omega
        have t4 : decide (j < k) = true := by simp; omega
        have t6 : decide (k < j) = false := by simp; omega
        have t0 : ((x : Int) != (x : Int)) = false := by simp
        have hw1 : IntKind.i64.wrap ((k : Int) - 1) = (k : Int) - 1 := IntWalk.i64_in _ (by omega)
        have hkk : ((k : Int) - 1).toNat = k - 1 := by omega
        clear heq q
        go_quiet ((go_at_call 21; exact Calls.quiet_of_same ((num_law _ _).mono fun _ _ ⟨a, b⟩ => ⟨a, b.symm⟩)))
        clear hw1 hkk
        go_wp2_with fail
        go_roundw
        case rel => exact ⟨k + 1, by omega, by go_num, below_drewN B1 _, below_drewN B _⟩
        case measure => simp [intOf]; omega
    · have hkl : ¬ (k : Int) < (n : Int) + 1 := by omega
      have hq0i : (0 : Int) < (q : Int) := by omega
      go_wp2_with fail
      refine (c_rem.out _).mono ?_; rintro e W4 ⟨rfl, B4⟩
      replace B4 := step_below B B4
      clear B B1
      go_wp2_with fail
      refine (num_law _ _).mono ?_; rintro e w' ⟨rfl, rfl⟩
      go_wp2_with fail
      refine (c_free.out _).mono ?_; rintro e W5 ⟨fa, fc, rfl, _, hfr, hsome, B5⟩
      obtain ⟨g, rfl⟩ := hsome hq0
      obtain ⟨b1, o1, e1, c1⟩ := hfr 0 (by rw [ints_length, HQ.out]; exact hq0)
      cases e1
      rw [ints_get _ _ (by rw [HQ.out]; exact hq0), HF0.out] at c1
      simp only [Nat.add_zero] at c1
      replace B5 := step_below B4 B5
      clear B4 hfr hsome
      go_wp2_with fail
      refine (known_law _).mono ?_; rintro e W9 ⟨rfl, B9⟩
      go_wp2
      go_ret
      exact ⟨rfl, step_below B5 B9⟩

theorem ins_law (p : Int) (i width : Int) (h0 : 0 ≤ p) (h1 : p < 18446744073709551616) (w : World) :
    Calls Try.prog 5 #[.int .u64 p, .int .i64 i, .int .i64 width] w fun e w' => e = .returned (.bool true) ∧ Below w.heap.size w w' := by
  obtain ⟨n, l, h, rfl⟩ := word_of p h0 h1
  by_cases hb : (insV n l i width).2.2 = 0
  · obtain ⟨g1, g2, g3, g4, g5, g6, g7⟩ := insV_ok hb
    obtain ⟨j, rfl⟩ : ∃ j : Nat, i = j := ⟨i.toNat, by omega⟩
    exact ins_taken n l j width h g1 g2 g3 (by omega) g6 g7 w
  · exact ins_refused n l i width h hb w
end Go.Proofs.Ytochdmdojcfceaa
