/- The reference's slices, by contracts. -/
import Derived.Test.YtjclhoibmoehiaaOrder
namespace Go.Proofs.Ytjclhoibmoehiaa
open Go.ChangeShapes Go.WideShapes Go.ChangeAt Go.RowKit
open SM
set_option linter.unusedVariables false
set_option linter.unusedSimpArgs false

def dv (x : Int) : Nat → Int
  | 0 => x
  | k + 1 => dv x k / 256
theorem dv_bd (x : Int) (h0 : 0 ≤ x) (h1 : x < 18446744073709551616) : ∀ k, 0 ≤ dv x k ∧ dv x k < 18446744073709551616
  | 0 => ⟨h0, h1⟩
  | k + 1 => by have := dv_bd x h0 h1 k; simp only [dv]; omega
theorem dv_pow (x : Int) (k : Nat) (h : k < 8) : dv x (7 - k) % 256 = bytV x k := by
  unfold bytV
  rcases lt8 h with rfl | rfl | rfl | rfl | rfl | rfl | rfl | rfl <;> simp [dv] <;> omega

theorem byteat_law (x : Int) (k : Nat) (hk : k < 8) (h0 : 0 ≤ x) (h1 : x < 18446744073709551616) (w : World) :
    Calls Try.prog 29 #[.int .u64 x, .int .i64 k] w fun e w' => e = .returned (.int .u8 (bytV x k)) ∧ w = w' := by
  have hki : (k : Int) < 8 := by omega
  have hkk : 7 - (k : Int) = ((7 - k : Nat) : Int) := by omega
  have HK := Lib.hid hkk
  clear hkk
  go_enter Try.func29, Try.ntmps29
  go_wp2_with fail
  go_loop [0, 5] (fun v i => ∃ m : Nat, m ≤ 7 - k ∧ i = .int .i64 m ∧ v = .int .u64 (dv x m)) (fun _ i => 7 - k - (intOf i).toNat)
  case atStart => exact ⟨0, by omega, rfl, rfl⟩
  case round =>
    obtain ⟨m, hm, rfl, rfl⟩ := hrel
    have hd := dv_bd x h0 h1 m
    have hd0 := hd.1
    have hd1 := hd.2
    by_cases hlt : m < 7 - k
    · have hmi : (m : Int) < 7 - (k : Int) := by omega
      have mb : (m : Int) ≤ 7 := by omega
      go_wp2_with fail
      go_round
      case rel => exact ⟨m + 1, by omega, by go_num, rfl⟩
      case measure => simp [intOf]; omega
    · have e : m = 7 - k := by omega
      have hmi : ¬ (m : Int) < 7 - (k : Int) := by omega
      have E := Lib.hid e
      clear e
      go_wp2_with fail
      go_ret
      refine ⟨ret_int ?_, rfl⟩
      rw [← dv_pow x k hk, ← E.out]

theorem may_bytes (x : Int) (k : Nat) (hk : k < 8) (h0 : 0 ≤ x) (h1 : x < 18446744073709551616) : mayV x k = true ↔ ∀ j, k ≤ j → j < 8 → bytV x j = 0 := by
  constructor
  · intro h j hj hj8
    have := may_low x k (by omega) h0 h1 h
    unfold bytV
    rcases lt8 hk with rfl | rfl | rfl | rfl | rfl | rfl | rfl | rfl <;> rcases lt8 hj8 with rfl | rfl | rfl | rfl | rfl | rfl | rfl | rfl <;> first | omega | (simp at this ⊢; omega)
  · intro h
    have e7 := h 7 (by omega) (by omega)
    have hh : x % 2 ^ (64 - 8 * k) = 0 := by
      unfold bytV at h e7
      rcases lt8 hk with rfl | rfl | rfl | rfl | rfl | rfl | rfl | rfl
      · have e0 := h 0 (by omega) (by omega); have e1 := h 1 (by omega) (by omega); have e2 := h 2 (by omega) (by omega); have e3 := h 3 (by omega) (by omega); have e4 := h 4 (by omega) (by omega); have e5 := h 5 (by omega) (by omega); have e6 := h 6 (by omega) (by omega); simp at *; omega
      · have e1 := h 1 (by omega) (by omega); have e2 := h 2 (by omega) (by omega); have e3 := h 3 (by omega) (by omega); have e4 := h 4 (by omega) (by omega); have e5 := h 5 (by omega) (by omega); have e6 := h 6 (by omega) (by omega); simp at *; omega
      · have e2 := h 2 (by omega) (by omega); have e3 := h 3 (by omega) (by omega); have e4 := h 4 (by omega) (by omega); have e5 := h 5 (by omega) (by omega); have e6 := h 6 (by omega) (by omega); simp at *; omega
      · have e3 := h 3 (by omega) (by omega); have e4 := h 4 (by omega) (by omega); have e5 := h 5 (by omega) (by omega); have e6 := h 6 (by omega) (by omega); simp at *; omega
      · have e4 := h 4 (by omega) (by omega); have e5 := h 5 (by omega) (by omega); have e6 := h 6 (by omega) (by omega); simp at *; omega
      · have e5 := h 5 (by omega) (by omega); have e6 := h 6 (by omega) (by omega); simp at *; omega
      · have e6 := h 6 (by omega) (by omega); simp at *; omega
      · simp at *; omega
    unfold mayV
    rcases lt8 hk with rfl | rfl | rfl | rfl | rfl | rfl | rfl | rfl <;> simp [shlV, IntKind.wrap_u64] at hh ⊢ <;> omega

theorem refmay_neg (x n : Int) (h : n < 0) (w : World) : Calls Try.prog 20 #[.agg #[.int .u64 x, .int .i64 n]] w fun e w' => e = .returned (.bool false) ∧ Below w.heap.size w w' := by
  go_enter Try.func20, Try.ntmps20
  go_wp2_with fail
  go_ret
  exact ⟨rfl, (Below.refl _ _).alloc (Nat.le_refl _) _⟩
theorem refmay_big (x n : Int) (h : 9 < n) (w : World) : Calls Try.prog 20 #[.agg #[.int .u64 x, .int .i64 n]] w fun e w' => e = .returned (.bool false) ∧ Below w.heap.size w w' := by
  have h0 : 0 ≤ n := by omega
  go_enter Try.func20, Try.ntmps20
  go_wp2_with fail
  go_ret
  exact ⟨rfl, (Below.refl _ _).alloc (Nat.le_refl _) _⟩

theorem refmay_in (x : Int) (n : Nat) (h9 : n ≤ 9) (hx : 0 ≤ x) (hx1 : x < 18446744073709551616) (w : World) : Calls Try.prog 20 #[.agg #[.int .u64 x, .int .i64 n]] w fun e w' => e = .returned (.bool (mayV x n)) ∧ Below w.heap.size w w' := by
  have h0 : 0 ≤ (n : Int) := by omega
  have hn : (n : Int) ≤ 9 := by omega
  go_enter Try.func20, Try.ntmps20
  go_wp2_with fail
  go_loop [3] (fun i => ∃ m : Nat, n ≤ m ∧ m ≤ 9 ∧ (n ≤ 8 → m ≤ 8) ∧ i = .int .i64 m ∧ (∀ j, n ≤ j → j < m → j < 8 → bytV x j = 0)) (fun i => 9 - (intOf i).toNat)
  case atStart => exact ⟨n, by omega, by omega, by omega, rfl, fun j h1 h2 => absurd h1 (by omega)⟩
  case round =>
    obtain ⟨m, hm0, hm, hm8, rfl, hz⟩ := hrel
    have HZ := Lib.hid hz
    clear hz
    by_cases hlt : m < 8
    · have hmi : (m : Int) < 8 := by omega
      by_cases q : bytV x m = 0
      · have t1 : (bytV x m != 0) = false := by simpa using q
        have Q := Lib.hid q
        clear q
        go_wp2_with fail
        refine (byteat_law x m hlt hx hx1 _).mono ?_; rintro e w' ⟨rfl, rfl⟩
        go_wp2_with fail
        go_round
        case rel => exact ⟨m + 1, by omega, by omega, by omega, by go_num, fun j h1 h2 h3 => by
          rcases (show j < m ∨ j = m from by omega) with h' | rfl
          · exact HZ.out j h1 h' h3
          · exact Q.out⟩
        case measure => simp [intOf]; omega
      · have t1 : (bytV x m != 0) = true := by simpa using q
        have Q := Lib.hid q
        clear q
        go_wp2_with fail
        refine (byteat_law x m hlt hx hx1 _).mono ?_; rintro e w' ⟨rfl, rfl⟩
        go_wp2_with fail
        go_ret
        refine ⟨ret_bool ?_, (Below.refl _ _).alloc (Nat.le_refl _) _⟩
        cases hb : mayV x n
        · rfl
        · exact absurd ((may_bytes x n (by omega) hx hx1).1 hb m hm0 hlt) Q.out
    · have hmi : ¬ (m : Int) < 8 := by omega
      go_wp2_with fail
      go_ret
      refine ⟨ret_bool ?_, (Below.refl _ _).alloc (Nat.le_refl _) _⟩
      by_cases h8 : n < 8
      · exact ((may_bytes x n h8 hx hx1).2 fun j h1 h2 => HZ.out j h1 (by omega) h2).symm
      · unfold mayV; simp; omega
theorem refmay_any (x n : Int) (hx : 0 ≤ x) (hx1 : x < 18446744073709551616) (w : World) : Calls Try.prog 20 #[.agg #[.int .u64 x, .int .i64 n]] w fun e w' => e = .returned (.bool (mayV x n)) ∧ Below w.heap.size w w' := by
  rcases (show n < 0 ∨ 9 < n ∨ (0 ≤ n ∧ n ≤ 9) from by omega) with h | h | h
  · rw [show mayV x n = false from by simp [mayV]; omega]; exact refmay_neg x n h w
  · rw [show mayV x n = false from by simp [mayV]; omega]; exact refmay_big x n h w
  · obtain ⟨k, rfl⟩ : ∃ k : Nat, n = k := ⟨n.toNat, by omega⟩
    exact refmay_in x k (by omega) hx hx1 w

theorem refcompare_law (x m y n : Int) (w : World) : Calls Try.prog 22 #[.agg #[.int .u64 x, .int .i64 m], .agg #[.int .u64 y, .int .i64 n]] w fun e w' => e = .returned (.int .i64 (cmpS x m y n)) ∧ Below w.heap.size w w' := by
  rcases (show x < y ∨ (x = y ∧ m < n) ∨ (x = y ∧ n < m) ∨ (x = y ∧ m = n) ∨ (y < x) from by omega) with h | ⟨h, h2⟩ | ⟨h, h2⟩ | ⟨h, h2⟩ | h
  · go_enter Try.func22, Try.ntmps22
    go_wp2_with fail
    go_ret
    exact ⟨ret_int (by simp [cmpS, cmpV, h]), ((Below.refl _ _).alloc (Nat.le_refl _) _).alloc (by simp) _⟩
  · subst h
    go_enter Try.func22, Try.ntmps22
    go_wp2_with fail
    go_ret
    exact ⟨ret_int (by simp [cmpS, cmpV, h2]), ((Below.refl _ _).alloc (Nat.le_refl _) _).alloc (by simp) _⟩
  · subst h
    have h3 : ¬ m < n := by omega
    go_enter Try.func22, Try.ntmps22
    go_wp2_with fail
    go_ret
    exact ⟨ret_int (by simp [cmpS, cmpV, h2]; omega), ((Below.refl _ _).alloc (Nat.le_refl _) _).alloc (by simp) _⟩
  · subst h h2
    go_enter Try.func22, Try.ntmps22
    go_wp2_with fail
    go_ret
    exact ⟨ret_int (by simp [cmpS, cmpV]), ((Below.refl _ _).alloc (Nat.le_refl _) _).alloc (by simp) _⟩
  · have h3 : ¬ x < y := by omega
    have t1 : (x == y) = false := by rw [beq_eq_false_iff_ne]; omega
    go_enter Try.func22, Try.ntmps22
    go_wp2_with fail
    go_ret
    exact ⟨ret_int (by have q : ¬ x < y := by omega
                       simp [cmpS, cmpV, h, if_neg q]), ((Below.refl _ _).alloc (Nat.le_refl _) _).alloc (by simp) _⟩

theorem refbytes_bad (x n : Int) (hx : 0 ≤ x) (hx1 : x < 18446744073709551616) (h : mayV x n = false) (w : World) :
    Calls Try.prog 18 #[.agg #[.int .u64 x, .int .i64 n]] w fun e w' => e = .returned (.tuple #[.slice none 0 0, .int .i64 2]) ∧ Below w.heap.size w w' := by
  go_enter Try.func18, Try.ntmps18
  go_wp2_with fail
  refine (refmay_any _ _ hx hx1 _).mono ?_; rintro e W1 ⟨rfl, B1⟩
  rw [h]
  go_wp2
  go_ret2
  exact ⟨rfl, ((Below.refl _ _).alloc (Nat.le_refl _) _).trans (B1.mono (by simp))⟩

def isMin (n : Int) (m : Nat) : Prop := ∀ k : Nat, (k < m ↔ (k : Int) < min n 8)
set_option maxHeartbeats 1000000 in
theorem refbytes_any (x n : Int) (hx : 0 ≤ x) (hx1 : x < 18446744073709551616) (h : mayV x n = true) (w : World) :
    Calls Try.prog 18 #[.agg #[.int .u64 x, .int .i64 n]] w fun e w' => ∃ v, e = .returned (.tuple #[v, .int .i64 0]) ∧ w'.ownsRow (w.heap.size + 1) 5 1 v (bl n) (bytL x (bl n)) ∧ Below w.heap.size w w' := by
  have hn0 : 0 ≤ n ∧ n ≤ 9 := by unfold mayV at h; simp at h; omega
  have hn1 := hn0.1
  have hn9 := hn0.2
  have hb8 : bl n ≤ 8 := by unfold bl; omega
  have hlow : n ≤ 8 → (bl n : Int) = n := by unfold bl; omega
  have hhigh : 8 < n → bl n = 8 := by unfold bl; omega
  clear hn0
  obtain ⟨i0, hi, hz0, hz1, hz2⟩ := info_parts info5
  go_enter Try.func18, Try.ntmps18
  go_wp2_with fail
  refine (refmay_any _ _ hx hx1 _).mono ?_; rintro e W1 ⟨rfl, B1⟩
  rw [h]
  have C0 := (B1.cell (p := ⟨w.heap.size, 0, none⟩) (by simp)).trans (show _ = some (.int .u64 x) from by simp [go_sem])
  have C1 := (B1.cell (p := ⟨w.heap.size, 1, none⟩) (by simp)).trans (show _ = some (.int .i64 n) from by simp [go_sem])
  have S1 := B1.size
  simp only [World.size_alloc] at S1 B1
  have B : Below w.heap.size w W1 := ((Below.refl _ _).alloc (Nat.le_refl _) _).trans (B1.mono (by simp))
  clear B1 h
  go_wp2_with fail
  go_loopw [4, 5] (fun v i wr => ∃ k : Nat, k ≤ bl n ∧ i = .int .i64 k ∧ wr.ownsRow (w.heap.size + 1) 5 1 v k (bytL x k) ∧ wr.cell? ⟨w.heap.size, 0, none⟩ = some (.int .u64 x) ∧ wr.cell? ⟨w.heap.size, 1, none⟩ = some (.int .i64 n) ∧ Below w.heap.size w wr ∧ w.heap.size + 1 ≤ wr.heap.size) (fun _ i _ => bl n - (intOf i).toNat)
  case atStart => exact ⟨0, by omega, rfl, World.ownsRow_nil _ _ _ _, C0, C1, B, S1⟩
  case round =>
    clear C0 C1 S1 B
    obtain ⟨k, hk, rfl, hown, C0, C1, B, S1⟩ := hrel
    by_cases hlt : k < bl n
    · have hk8 : (k : Int) < 8 := by omega
      have hkn : (k : Int) < n := by omega
      have HL := Lib.hid hlow
      have HH := Lib.hid hhigh
      have hk8n : k < 8 := by omega
      clear hlow hhigh
      rcases (show n ≤ 8 ∨ 8 < n from by omega) with h8 | h8
      all_goals
        go_wp2_with fail
        refine (byteat_law x k hk8n hx hx1 _).mono ?_; rintro e w' ⟨rfl, rfl⟩
        go_wp2_with (at_builtin; refine wpList_append_own _ rfl _ _ 22 rfl (w.heap.size + 1) 5 i0 (.int .u8 0) 1 1 Try.underlying22 hi hz0 hz1 hz2 rfl (by decide) _ _ _ rfl (hown.alloc _) ⟨wr.heap.size, 0, none⟩ 1 1 [.int .u8 (bytV x k)] rfl rfl (by intro j u hj; match j, hj with | 0, hj => (simp at hj; subst hj; simp [Addr.add, go_sem])) (by intro u hu; simp at hu; subst hu; rfl) (by unfold maxLen; omega) (by omega) (by simp; omega) ?_)
        intro v' w1 hown' hgrow _
        obtain ⟨R1, R2⟩ := rel_app S1 (by omega) hown B hgrow
        have C0' := R1 _ _ _ (by omega) C0
        have C1' := R1 _ _ _ (by omega) C1
        have S1' : w.heap.size + 1 ≤ w1.heap.size := by have := hgrow.size; simp at this; omega
        rw [← bytL_succ] at hown'
        clear hgrow hown R1 C0 C1 B
        go_wp2_with fail
        go_roundw
        case rel => exact ⟨k + 1, by omega, by go_num, hown', C0', C1', R2, S1'⟩
        case measure => simp [intOf]; omega
    · have e : k = bl n := by omega
      rw [e] at hown
      rcases (show n ≤ 8 ∨ 8 < n from by omega) with h8 | h8
      · have hkn : ¬ (k : Int) < n := by have := hlow h8; omega
        have E := Lib.hid e
        clear e hlow hhigh
        go_wp2_with fail
        go_ret2
        exact ⟨_, rfl, hown, B⟩
      · have hkn : ¬ (k : Int) < 8 := by have := hhigh h8; omega
        have E := Lib.hid e
        clear e hlow hhigh
        go_wp2_with fail
        go_ret2
        exact ⟨_, rfl, hown, B⟩
end Go.Proofs.Ytjclhoibmoehiaa
