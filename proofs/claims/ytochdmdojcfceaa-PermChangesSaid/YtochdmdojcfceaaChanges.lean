/- What changes a perm makes of any word what the chapter says: the law's walk. -/
import Derived.Test.YtochdmdojcfceaaRefI
import Derived.Test.YtochdmdojcfceaaRefJ
import Derived.Test.YtochdmdojcfceaaRefK
import Derived.Test.YtochdmdojcfceaaRefL
namespace Go.Proofs.Ytochdmdojcfceaa
open Go.ChangeShapes Go.WideShapes Go.ChangeAt Go.RowKit Go.Shelf
open PM
set_option linter.unusedVariables false
set_option linter.unusedSimpArgs false

theorem rins_at (n : Nat) (l : List Nat) (i width : Int) (a d : Nat) (e : Int) (he : insV n l i width = (a, d, e)) (h : Wrd n l) (w : World) :
    Calls Try.prog 26 #[.int .u64 ((enc (n :: l) : Nat) : Int), .int .i64 i, .int .i64 width] w fun r w' => r = .returned (.tuple #[.int .u64 (a : Nat), .int .i64 (d : Nat), .int .i64 e]) ∧ Below w.heap.size w w' := by
  have hn := h.n16
  unfold insV at he
  by_cases hg : okB l = true ∧ 3 ≤ width ∧ width ≤ 15 ∧ 0 ≤ i ∧ i ≤ n
  · rw [if_pos hg] at he
    obtain ⟨ho, h3, h15, h0, hin⟩ := hg
    by_cases hw : width ≤ n
    · rw [if_pos hw] at he
      simp only [Prod.mk.injEq] at he
      obtain ⟨rfl, rfl, rfl⟩ := he
      exact rins_bad n l i width 5 (.inr ⟨ho, .inr (.inr (.inr (.inr ⟨by omega, by omega, by omega, by omega, hw, rfl⟩)))⟩) h w
    · rw [if_neg hw] at he
      simp only [Prod.mk.injEq] at he
      obtain ⟨rfl, rfl, rfl⟩ := he
      obtain ⟨k, rfl⟩ : ∃ k : Nat, i = k := ⟨i.toNat, by omega⟩
      have := rins_ok n k l width h ho (by omega) h3 h15 (by omega) w
      simpa using this
  · rw [if_neg hg] at he
    simp only [Prod.mk.injEq] at he
    obtain ⟨rfl, rfl, rfl⟩ := he
    refine rins_bad n l i width 2 ?_ h w
    cases ho : okB l
    · exact .inl ⟨rfl, rfl⟩
    · refine .inr ⟨rfl, ?_⟩
      rcases (show i < 0 ∨ (¬ i < 0 ∧ (n : Int) < i) ∨ (¬ i < 0 ∧ ¬ (n : Int) < i ∧ width < 3) ∨ (¬ i < 0 ∧ ¬ (n : Int) < i ∧ ¬ width < 3 ∧ 15 < width) from by
        apply Decidable.byContradiction; intro hh; exact hg ⟨ho, by omega, by omega, by omega, by omega⟩) with q | ⟨q1, q⟩ | ⟨q1, q2, q⟩ | ⟨q1, q2, q3, q⟩
      · exact .inl ⟨q, rfl⟩
      · exact .inr (.inl ⟨q1, q, rfl⟩)
      · exact .inr (.inr (.inl ⟨q1, q2, q, rfl⟩))
      · exact .inr (.inr (.inr (.inl ⟨q1, q2, q3, q, rfl⟩)))
theorem rrem_at (n : Nat) (l : List Nat) (i : Int) (a d : Nat) (e : Int) (he : remV n l i = (a, d, e)) (h : Wrd n l) (w : World) :
    Calls Try.prog 28 #[.int .u64 ((enc (n :: l) : Nat) : Int), .int .i64 i] w fun r w' => r = .returned (.tuple #[.int .u64 (a : Nat), .int .i64 (d : Nat), .int .i64 e]) ∧ Below w.heap.size w w' := by
  have hn := h.n16
  unfold remV at he
  by_cases hg : okB l = true ∧ 0 ≤ i ∧ i < n
  · rw [if_pos hg] at he
    obtain ⟨ho, h0, hin⟩ := hg
    simp only [Prod.mk.injEq] at he
    obtain ⟨rfl, rfl, rfl⟩ := he
    obtain ⟨k, rfl⟩ : ∃ k : Nat, i = k := ⟨i.toNat, by omega⟩
    have := rrem_ok n k l h ho (by omega) w
    simpa using this
  · rw [if_neg hg] at he
    simp only [Prod.mk.injEq] at he
    obtain ⟨rfl, rfl, rfl⟩ := he
    refine rrem_bad n l i 2 ?_ h w
    cases ho : okB l
    · exact .inl ⟨rfl, rfl⟩
    · refine .inr ⟨rfl, ?_⟩
      rcases (show i < 0 ∨ (¬ i < 0 ∧ (n : Int) ≤ i) from by
        apply Decidable.byContradiction; intro hh; exact hg ⟨ho, by omega, by omega⟩) with q | ⟨q1, q⟩
      · exact .inl ⟨q, rfl⟩
      · exact .inr ⟨q1, q, rfl⟩
theorem okB_n15 {n : Nat} {l : List Nat} (h : Wrd n l) : n ≤ 15 := by have := h.n16; omega
theorem rcut_at (n : Nat) (l c : List Nat) (k : Int) (q : Nat) (er : Int) (hv : cutV n l k = (q, c, er)) (h : Wrd n l) (w : World) :
    Calls Try.prog 30 #[.int .u64 ((enc (n :: l) : Nat) : Int), .int .i64 k] w fun e w' => ∃ a cap, e = .returned (.tuple #[.int .u64 (q : Nat), .slice a c.length cap, .int .i64 er]) ∧ Rd w' a (ints c) ∧ Below w.heap.size w w' := by
  have hn := h.n16
  unfold cutV at hv
  by_cases hg : okB l = true ∧ 0 ≤ k ∧ k ≤ n
  · rw [if_pos hg] at hv
    obtain ⟨ho, h0, hin⟩ := hg
    have hc : cV n l = n := by rw [cV, if_pos ho]
    rw [usV_take n l h, hc] at hv
    simp only [Prod.mk.injEq] at hv
    obtain ⟨rfl, rfl, rfl⟩ := hv
    obtain ⟨j, rfl⟩ : ∃ j : Nat, k = j := ⟨k.toNat, by omega⟩
    have hl : ((l.take n).drop j).length = n - j := by have := h.len; simp; omega
    have := rcut_ok n j l h ho (by omega) (by omega) w
    rw [Int.toNat_natCast, hl]
    exact this
  · rw [if_neg hg] at hv
    simp only [Prod.mk.injEq] at hv
    obtain ⟨rfl, rfl, rfl⟩ := hv
    refine (rcut_bad n l k 2 ?_ h w).mono fun e w' ⟨h1, h2⟩ => ⟨none, 0, h1, Rd.nil _ _, h2⟩
    cases ho : okB l
    · exact .inl ⟨rfl, rfl⟩
    · refine .inr ⟨rfl, ?_⟩
      rcases (show k < 0 ∨ (¬ k < 0 ∧ (n : Int) < k) from by
        apply Decidable.byContradiction; intro hh; exact hg ⟨ho, by omega, by omega⟩) with q | ⟨q1, q⟩
      · exact .inl ⟨q, rfl⟩
      · exact .inr ⟨q1, q, rfl⟩

set_option maxRecDepth 100000 in
set_option maxHeartbeats 2000000 in
theorem changes_word (n : Nat) (l : List Nat) (i width : Int) (h : Wrd n l) (w : World) :
    Calls Try.prog 4 #[.int .u64 ((enc (n :: l) : Nat) : Int), .int .i64 i, .int .i64 width] w fun e w' => e = .returned (.bool true) ∧ Below w.heap.size w w' := by
  obtain ⟨⟨a1, d1, e1⟩, v1⟩ : ∃ x, insV n l i width = x := ⟨_, rfl⟩
  obtain ⟨⟨a2, d2, e2⟩, v2⟩ : ∃ x, remV n l i = x := ⟨_, rfl⟩
  obtain ⟨⟨a3, c3, e3⟩, v3⟩ : ∃ x, cutV n l i = x := ⟨_, rfl⟩
  have I1 := Lib.hid (ins_at n l i width a1 d1 e1 v1 h)
  have I2 := Lib.hid (rins_at n l i width a1 d1 e1 v1 h)
  have R1 := Lib.hid (rem_at n l i a2 d2 e2 v2 h)
  have R2 := Lib.hid (rrem_at n l i a2 d2 e2 v2 h)
  have hcl : c3.length ≤ 15 := by
    unfold cutV at v3
    by_cases hg : okB l = true ∧ 0 ≤ i ∧ i ≤ n
    · rw [if_pos hg] at v3
      simp only [Prod.mk.injEq] at v3
      rw [← v3.2.1, List.length_drop, usV_length]
      have := cV_le h
      omega
    · rw [if_neg hg] at v3
      simp only [Prod.mk.injEq] at v3
      rw [← v3.2.1]; simp
  have C1 := cut_at n l c3 i a3 e3 v3 h
  have C2 := rcut_at n l c3 i a3 e3 v3 h
  have hli := Lib.hid (ints_length c3)
  obtain ⟨m, hm⟩ : ∃ m, c3.length = m := ⟨_, rfl⟩
  rw [hm] at C1 C2 hcl hli
  replace C1 := Lib.hid C1
  replace C2 := Lib.hid C2
  clear v1 v2 v3 hm h
  go_enter Try.func4, Try.ntmps4
  go_wp2_with fail
  refine (I1.out _).mono ?_; rintro e w1 ⟨rfl, B⟩
  go_wp2_with fail
  refine (I2.out _).mono ?_; rintro e w2 ⟨rfl, B2⟩
  replace B := step_below B B2
  clear B2
  go_wp2_with fail
  refine (R1.out _).mono ?_; rintro e w3 ⟨rfl, B3⟩
  replace B := step_below B B3
  clear B3
  go_wp2_with fail
  refine (R2.out _).mono ?_; rintro e w4 ⟨rfl, B4⟩
  replace B := step_below B B4
  clear B4
  go_wp2_with fail
  refine (C1.out _).mono ?_; rintro e w5 ⟨b1, k1, rfl, r1, B5⟩
  replace B := step_below B B5
  replace r1 := Lib.hid r1
  clear B5
  go_wp2_with fail
  refine (C2.out _).mono ?_; rintro e w6 ⟨b2, k2, rfl, r2, B6⟩
  replace B := step_below B B6
  replace r1 := Lib.hid (r1.out.below B6)
  replace r2 := Lib.hid r2
  clear B6
  go_wp2_with fail
  refine (num_law _ _).mono ?_; rintro e w' ⟨rfl, rfl⟩
  go_wp2_with fail
  refine (num_law _ _).mono ?_; rintro e w' ⟨rfl, rfl⟩
  go_wp2_with fail
  refine (same_rd _ _ (ints c3) m _ _ hli.out (by omega) _ r1.out r2.out).mono ?_; rintro e w7 ⟨rfl, B7⟩
  replace B := step_below B B7
  clear B7
  go_wp2_with fail
  refine (num_law _ _).mono ?_; rintro e w' ⟨rfl, rfl⟩
  go_wp2_with fail
  refine (known_law _).mono ?_; rintro e w8 ⟨rfl, B8⟩
  replace B := step_below B B8
  clear B8
  go_wp2_with fail
  go_ret
  exact ⟨rfl, B⟩
theorem changes_law (p i width : Int) (h0 : 0 ≤ p) (h1 : p < 18446744073709551616) (w : World) :
    Calls Try.prog 4 #[.int .u64 p, .int .i64 i, .int .i64 width] w fun e w' => e = .returned (.bool true) ∧ Below w.heap.size w w' := by
  obtain ⟨n, l, h, rfl⟩ := word_of p h0 h1
  exact changes_word n l i width h w
end Go.Proofs.Ytochdmdojcfceaa
