/- The functions of layer 8 that compare and ask, each by a contract. -/
import Derived.Test.YtjclhoibmoehiaaFns
namespace Go.Proofs.Ytjclhoibmoehiaa
open Go.ChangeShapes Go.WideShapes Go.ChangeAt Go.RowKit
open SM
set_option linter.unusedVariables false
set_option linter.unusedSimpArgs false

theorem num_law (x : Int) (w : World) : Calls Try.prog 11 #[.int .i64 x] w fun e w' => e = .returned (.int .i64 x) ∧ w = w' := by
  go_enter Try.func11, Try.ntmps11
  go_wp2
  go_ret
  exact ⟨rfl, rfl⟩

def cmpV (a b : Int) : Int := if a < b then -1 else if b < a then 1 else 0

theorem isnan33 (a : Int) (w : World) : Calls Try.prog 33 #[.int .u64 a] w fun e w' => e = .returned (.bool false) ∧ w = w' := by
  go_enter Try.func33, Try.ntmps33
  go_wp2
  go_ret
  exact ⟨rfl, rfl⟩
theorem cmp30 (a b : Int) (w : World) : Calls Try.prog 30 #[.int .u64 a, .int .u64 b] w fun e w' => e = .returned (.int .i64 (cmpV a b)) ∧ w = w' := by
  rcases (show a < b ∨ a = b ∨ b < a from by omega) with h | h | h
  · go_enter Try.func30, Try.ntmps30
    go_wp2_with fail
    refine (isnan33 _ _).mono ?_; rintro e w' ⟨rfl, rfl⟩
    go_wp2_with fail
    refine (isnan33 _ _).mono ?_; rintro e w' ⟨rfl, rfl⟩
    go_wp2_with fail
    go_ret
    exact ⟨ret_int (by simp [cmpV, h]), rfl⟩
  · subst h
    go_enter Try.func30, Try.ntmps30
    go_wp2_with fail
    refine (isnan33 _ _).mono ?_; rintro e w' ⟨rfl, rfl⟩
    go_wp2_with fail
    refine (isnan33 _ _).mono ?_; rintro e w' ⟨rfl, rfl⟩
    go_wp2_with fail
    go_ret
    exact ⟨ret_int (by simp [cmpV]), rfl⟩
  · have h' : ¬ a < b := by omega
    go_enter Try.func30, Try.ntmps30
    go_wp2_with fail
    refine (isnan33 _ _).mono ?_; rintro e w' ⟨rfl, rfl⟩
    go_wp2_with fail
    refine (isnan33 _ _).mono ?_; rintro e w' ⟨rfl, rfl⟩
    go_wp2_with fail
    go_ret
    exact ⟨ret_int (by simp [cmpV, h, h']), rfl⟩

theorem isnan34 (a : Int) (w : World) : Calls Try.prog 34 #[.int .i64 a] w fun e w' => e = .returned (.bool false) ∧ w = w' := by
  go_enter Try.func34, Try.ntmps34
  go_wp2
  go_ret
  exact ⟨rfl, rfl⟩
theorem cmp31 (a b : Int) (w : World) : Calls Try.prog 31 #[.int .i64 a, .int .i64 b] w fun e w' => e = .returned (.int .i64 (cmpV a b)) ∧ w = w' := by
  rcases (show a < b ∨ a = b ∨ b < a from by omega) with h | h | h
  · go_enter Try.func31, Try.ntmps31
    go_wp2_with fail
    refine (isnan34 _ _).mono ?_; rintro e w' ⟨rfl, rfl⟩
    go_wp2_with fail
    refine (isnan34 _ _).mono ?_; rintro e w' ⟨rfl, rfl⟩
    go_wp2_with fail
    go_ret
    exact ⟨ret_int (by simp [cmpV, h]), rfl⟩
  · subst h
    go_enter Try.func31, Try.ntmps31
    go_wp2_with fail
    refine (isnan34 _ _).mono ?_; rintro e w' ⟨rfl, rfl⟩
    go_wp2_with fail
    refine (isnan34 _ _).mono ?_; rintro e w' ⟨rfl, rfl⟩
    go_wp2_with fail
    go_ret
    exact ⟨ret_int (by simp [cmpV]), rfl⟩
  · have h' : ¬ a < b := by omega
    go_enter Try.func31, Try.ntmps31
    go_wp2_with fail
    refine (isnan34 _ _).mono ?_; rintro e w' ⟨rfl, rfl⟩
    go_wp2_with fail
    refine (isnan34 _ _).mono ?_; rintro e w' ⟨rfl, rfl⟩
    go_wp2_with fail
    go_ret
    exact ⟨ret_int (by simp [cmpV, h, h']), rfl⟩

def cmpS (x m y n : Int) : Int := if cmpV x y ≠ 0 then cmpV x y else cmpV m n
theorem compare_law (x m y n : Int) (w : World) : Calls Try.prog 21 #[.agg #[.int .u64 x, .int .i64 m], .agg #[.int .u64 y, .int .i64 n]] w fun e w' => e = .returned (.int .i64 (cmpS x m y n)) ∧ Below w.heap.size w w' := by
  by_cases h : cmpV x y = 0
  · go_enter Try.func21, Try.ntmps21
    go_wp2_with fail
    refine (cmp30 _ _ _).mono ?_; rintro e w' ⟨rfl, rfl⟩
    go_wp2_with fail
    refine (cmp31 _ _ _).mono ?_; rintro e w' ⟨rfl, rfl⟩
    go_wp2_with fail
    go_ret
    exact ⟨ret_int (by simp [cmpS, h]), ((Below.refl _ _).alloc (Nat.le_refl _) _).alloc (by simp) _⟩
  · go_enter Try.func21, Try.ntmps21
    go_wp2_with fail
    refine (cmp30 _ _ _).mono ?_; rintro e w' ⟨rfl, rfl⟩
    go_wp2_with fail
    go_ret
    exact ⟨ret_int (by simp [cmpS, h]), ((Below.refl _ _).alloc (Nat.le_refl _) _).alloc (by simp) _⟩

def shlV (x : Int) (k : Nat) : Int := IntKind.u64.wrap (x * 2 ^ k)
theorem may_fin (k : Nat) (h : k < 8) (y : Int) : (decide (8 ≤ (k : Int)) || (y == 0)) = decide (y = 0) := by
  rw [decide_eq_false (show ¬ 8 ≤ (k : Int) from by omega), Bool.false_or]; by_cases h0 : y = 0 <;> simp [h0]
def mayV (x n : Int) : Bool := decide (0 ≤ n) && (decide (n ≤ 9) && (decide (8 ≤ n) || decide (shlV x (8 * n.toNat) = 0)))
theorem may_neg (x n : Int) (h : n < 0) (w : World) : Calls Try.prog 19 #[.agg #[.int .u64 x, .int .i64 n]] w fun e w' => e = .returned (.bool false) ∧ Below w.heap.size w w' := by
  go_enter Try.func19, Try.ntmps19
  go_wp2
  go_ret
  exact ⟨rfl, (Below.refl _ _).alloc (Nat.le_refl _) _⟩
theorem may_big (x n : Int) (h : 9 < n) (w : World) : Calls Try.prog 19 #[.agg #[.int .u64 x, .int .i64 n]] w fun e w' => e = .returned (.bool false) ∧ Below w.heap.size w w' := by
  have h0 : 0 ≤ n := by omega
  go_enter Try.func19, Try.ntmps19
  go_wp2
  go_ret
  exact ⟨rfl, (Below.refl _ _).alloc (Nat.le_refl _) _⟩
theorem may_eight (x n : Int) (h : 8 ≤ n) (h9 : n ≤ 9) (w : World) : Calls Try.prog 19 #[.agg #[.int .u64 x, .int .i64 n]] w fun e w' => e = .returned (.bool true) ∧ Below w.heap.size w w' := by
  have h0 : 0 ≤ n := by omega
  go_enter Try.func19, Try.ntmps19
  go_wp2
  go_ret
  exact ⟨rfl, (Below.refl _ _).alloc (Nat.le_refl _) _⟩
theorem may_few (x : Int) (k : Nat) (h : k < 8) (hx : 0 ≤ x) (hx1 : x < 18446744073709551616) (w : World) : Calls Try.prog 19 #[.agg #[.int .u64 x, .int .i64 k]] w fun e w' => e = .returned (.bool (decide (shlV x (8 * k) = 0))) ∧ Below w.heap.size w w' := by
  have h8 : (k : Int) < 8 := by omega
  have h9 : (k : Int) ≤ 9 := by omega
  go_enter Try.func19, Try.ntmps19
  go_wp2
  go_ret
  exact ⟨ret_bool (may_fin k h _), (Below.refl _ _).alloc (Nat.le_refl _) _⟩

theorem may_any (x n : Int) (hx : 0 ≤ x) (hx1 : x < 18446744073709551616) (w : World) : Calls Try.prog 19 #[.agg #[.int .u64 x, .int .i64 n]] w fun e w' => e = .returned (.bool (mayV x n)) ∧ Below w.heap.size w w' := by
  rcases (show n < 0 ∨ 9 < n ∨ (8 ≤ n ∧ n ≤ 9) ∨ (0 ≤ n ∧ n < 8) from by omega) with h | h | h | h
  · rw [show mayV x n = false from by simp [mayV]; omega]; exact may_neg x n h w
  · rw [show mayV x n = false from by simp [mayV]; omega]; exact may_big x n h w
  · rw [show mayV x n = true from by simp [mayV, h.1, h.2]; omega]; exact may_eight x n h.1 h.2 w
  · obtain ⟨k, rfl⟩ : ∃ k : Nat, n = k := ⟨n.toNat, by omega⟩
    rw [show mayV x k = decide (shlV x (8 * k) = 0) from by simp [mayV, show (k : Int) ≤ 9 from by omega, show ¬ (8 : Int) ≤ k from by omega]]
    exact may_few x k (by omega) hx hx1 w

def bytV (x : Int) (i : Nat) : Int := x / 2 ^ (56 - 8 * i) % 256
def bytL (x : Int) (k : Nat) : List Value := (List.range k).map fun i => .int .u8 (bytV x i)
theorem bytL_succ (x : Int) (k : Nat) : bytL x (k + 1) = bytL x k ++ [.int .u8 (bytV x k)] := by simp [bytL, List.range_succ]
theorem info5 : (Try.prog.info? 5).map (fun i => (i.zero, i.size, i.bytes)) = some (some (.int .u8 0), 1, 1) := by kernel_rfl

theorem bytes_bad (x n : Int) (hx : 0 ≤ x) (hx1 : x < 18446744073709551616) (h : mayV x n = false) (w : World) :
    Calls Try.prog 17 #[.agg #[.int .u64 x, .int .i64 n]] w fun e w' => e = .returned (.tuple #[.slice none 0 0, .int .i64 2]) ∧ Below w.heap.size w w' := by
  go_enter Try.func17, Try.ntmps17
  go_wp2_with fail
  refine (may_any _ _ hx hx1 _).mono ?_; rintro e W1 ⟨rfl, B1⟩
  rw [h]
  go_wp2
  go_ret2
  exact ⟨rfl, ((Below.refl _ _).alloc (Nat.le_refl _) _).trans (B1.mono (by simp))⟩


theorem rel_app {base n k : Nat} {w wr w1 : World} {e : TypeId} {v : Value} {xs : List Value} {o : Obj} (hb : base ≤ wr.heap.size) (hn : n ≤ base) (hown : wr.ownsRow base e 1 v k xs) (hnx : Below n w wr) (hgrow : (wr.alloc o).grownBy w1 v.ownBlock) :
    (∀ j i c, j < base → wr.cell? ⟨j, i, none⟩ = some c → w1.cell? ⟨j, i, none⟩ = some c) ∧ Below n w w1 := by
  have hne : ∀ j, j < base → some j ≠ v.ownBlock := fun j hj h => by have := hown.lt j h.symm; omega
  exact ⟨fun j i c hj hc => hgrow.cell ((World.cell?_alloc_past _ _ _ (by show j < _; omega)).trans hc) (hne j hj),
    (hnx.alloc (Nat.le_trans hn hb) o).grown hgrow (by simp; omega) (fun j hj => by have := (hown.lt j hj).1; omega)⟩


set_option maxHeartbeats 1000000 in
theorem bytes_few (x : Int) (k9 : Nat) (hx : 0 ≤ x) (hx1 : x < 18446744073709551616) (h8 : k9 < 8) (h : mayV x k9 = true) (w : World) :
    Calls Try.prog 17 #[.agg #[.int .u64 x, .int .i64 k9]] w fun e w' => ∃ v, e = .returned (.tuple #[v, .int .i64 0]) ∧ w'.ownsRow (w.heap.size + 1) 5 1 v k9 (bytL x k9) ∧ Below w.heap.size w w' := by
  have h8i : (k9 : Int) < 8 := by omega
  obtain ⟨i0, hi, hz0, hz1, hz2⟩ := info_parts info5
  go_enter Try.func17, Try.ntmps17
  go_wp2_with fail
  refine (may_any _ _ hx hx1 _).mono ?_; rintro e W1 ⟨rfl, B1⟩
  rw [h]
  have C0 := (B1.cell (p := ⟨w.heap.size, 0, none⟩) (by simp)).trans (show _ = some (.int .u64 x) from by simp [go_sem])
  have C1 := (B1.cell (p := ⟨w.heap.size, 1, none⟩) (by simp)).trans (show _ = some (.int .i64 k9) from by simp [go_sem])
  have S1 := B1.size
  simp only [World.size_alloc] at S1 B1
  have B : Below w.heap.size w W1 := ((Below.refl _ _).alloc (Nat.le_refl _) _).trans (B1.mono (by simp))
  clear B1 h
  go_wp2_with fail
  go_loopw [4, 12] (fun v i wr => ∃ k : Nat, k ≤ k9 ∧ i = .int .i64 k ∧ wr.ownsRow (w.heap.size + 1) 5 1 v k (bytL x k) ∧ wr.cell? ⟨w.heap.size, 0, none⟩ = some (.int .u64 x) ∧ Below w.heap.size w wr ∧ w.heap.size + 1 ≤ wr.heap.size) (fun _ i _ => k9 - (intOf i).toNat)
  case atStart => exact ⟨0, by omega, rfl, World.ownsRow_nil _ _ _ _, C0, B, S1⟩
  case round =>
    clear C0 C1 S1 B
    obtain ⟨k, hk, rfl, hown, C0, B, S1⟩ := hrel
    by_cases hlt : k < k9
    · have hkl : (k : Int) < k9 := by omega
      have hk8 : k < 8 := by omega
      go_wp2_with (at_builtin; refine wpList_append_own _ rfl _ _ 22 rfl (w.heap.size + 1) 5 i0 (.int .u8 0) 1 1 Try.underlying22 hi hz0 hz1 hz2 rfl (by decide) _ _ _ rfl (hown.alloc _) ⟨wr.heap.size, 0, none⟩ 1 1 [.int .u8 (bytV x k)] ?r1 rfl ?c1 ?c2 ?c3 ?c4 ?c5 ?_)
      case r1 => rfl
      case c1 =>
        intro j u hj
        match j, hj with
        | 0, hj => simp at hj; subst hj; simp [Addr.add, bytV, go_sem]
      case c2 => intro u hu; simp at hu; subst hu; rfl
      case c3 => unfold maxLen; omega
      case c4 => omega
      case c5 => simp; omega
      · intro v' w1 hown' hgrow _
        obtain ⟨R1, R2⟩ := rel_app S1 (by omega) hown B hgrow
        have C0' := R1 _ _ _ (by omega) C0
        have S1' : w.heap.size + 1 ≤ w1.heap.size := by have := hgrow.size; simp at this; omega
        rw [← bytL_succ] at hown'
        clear hgrow hown R1 C0 B
        go_wp2
        go_roundw
        case rel => exact ⟨k + 1, by omega, by go_num, hown', C0', R2, S1'⟩
        case measure => simp [intOf]; omega
    · obtain rfl : k = k9 := by omega
      go_wp2
      go_ret2
      exact ⟨_, rfl, hown, B⟩

set_option maxHeartbeats 1000000 in
theorem bytes_eight (x : Int) (hx : 0 ≤ x) (hx1 : x < 18446744073709551616)  (h : mayV x 8 = true) (w : World) :
    Calls Try.prog 17 #[.agg #[.int .u64 x, .int .i64 8]] w fun e w' => ∃ v, e = .returned (.tuple #[v, .int .i64 0]) ∧ w'.ownsRow (w.heap.size + 1) 5 1 v 8 (bytL x 8) ∧ Below w.heap.size w w' := by
  obtain ⟨i0, hi, hz0, hz1, hz2⟩ := info_parts info5
  go_enter Try.func17, Try.ntmps17
  go_wp2_with fail
  refine (may_any _ _ hx hx1 _).mono ?_; rintro e W1 ⟨rfl, B1⟩
  rw [h]
  have C0 := (B1.cell (p := ⟨w.heap.size, 0, none⟩) (by simp)).trans (show _ = some (.int .u64 x) from by simp [go_sem])
  have C1 := (B1.cell (p := ⟨w.heap.size, 1, none⟩) (by simp)).trans (show _ = some (.int .i64 8) from by simp [go_sem])
  have S1 := B1.size
  simp only [World.size_alloc] at S1 B1
  have B : Below w.heap.size w W1 := ((Below.refl _ _).alloc (Nat.le_refl _) _).trans (B1.mono (by simp))
  clear B1 h
  go_wp2_with fail
  go_loopw [4, 12] (fun v i wr => ∃ k : Nat, k ≤ 8 ∧ i = .int .i64 k ∧ wr.ownsRow (w.heap.size + 1) 5 1 v k (bytL x k) ∧ wr.cell? ⟨w.heap.size, 0, none⟩ = some (.int .u64 x) ∧ Below w.heap.size w wr ∧ w.heap.size + 1 ≤ wr.heap.size) (fun _ i _ => 8 - (intOf i).toNat)
  case atStart => exact ⟨0, by omega, rfl, World.ownsRow_nil _ _ _ _, C0, B, S1⟩
  case round =>
    clear C0 C1 S1 B
    obtain ⟨k, hk, rfl, hown, C0, B, S1⟩ := hrel
    by_cases hlt : k < 8
    · have hkl : (k : Int) < 8 := by omega
      have hk8 : k < 8 := by omega
      go_wp2_with (at_builtin; refine wpList_append_own _ rfl _ _ 22 rfl (w.heap.size + 1) 5 i0 (.int .u8 0) 1 1 Try.underlying22 hi hz0 hz1 hz2 rfl (by decide) _ _ _ rfl (hown.alloc _) ⟨wr.heap.size, 0, none⟩ 1 1 [.int .u8 (bytV x k)] ?r1 rfl ?c1 ?c2 ?c3 ?c4 ?c5 ?_)
      case r1 => rfl
      case c1 =>
        intro j u hj
        match j, hj with
        | 0, hj => simp at hj; subst hj; simp [Addr.add, bytV, go_sem]
      case c2 => intro u hu; simp at hu; subst hu; rfl
      case c3 => unfold maxLen; omega
      case c4 => omega
      case c5 => simp; omega
      · intro v' w1 hown' hgrow _
        obtain ⟨R1, R2⟩ := rel_app S1 (by omega) hown B hgrow
        have C0' := R1 _ _ _ (by omega) C0
        have S1' : w.heap.size + 1 ≤ w1.heap.size := by have := hgrow.size; simp at this; omega
        rw [← bytL_succ] at hown'
        clear hgrow hown R1 C0 B
        go_wp2
        go_roundw
        case rel => exact ⟨k + 1, by omega, by go_num, hown', C0', R2, S1'⟩
        case measure => simp [intOf]; omega
    · obtain rfl : k = 8 := by omega
      go_wp2
      go_ret2
      exact ⟨_, rfl, hown, B⟩

set_option maxHeartbeats 1000000 in
theorem bytes_nine (x : Int) (hx : 0 ≤ x) (hx1 : x < 18446744073709551616)  (h : mayV x 9 = true) (w : World) :
    Calls Try.prog 17 #[.agg #[.int .u64 x, .int .i64 9]] w fun e w' => ∃ v, e = .returned (.tuple #[v, .int .i64 0]) ∧ w'.ownsRow (w.heap.size + 1) 5 1 v 8 (bytL x 8) ∧ Below w.heap.size w w' := by
  obtain ⟨i0, hi, hz0, hz1, hz2⟩ := info_parts info5
  go_enter Try.func17, Try.ntmps17
  go_wp2_with fail
  refine (may_any _ _ hx hx1 _).mono ?_; rintro e W1 ⟨rfl, B1⟩
  rw [h]
  have C0 := (B1.cell (p := ⟨w.heap.size, 0, none⟩) (by simp)).trans (show _ = some (.int .u64 x) from by simp [go_sem])
  have C1 := (B1.cell (p := ⟨w.heap.size, 1, none⟩) (by simp)).trans (show _ = some (.int .i64 9) from by simp [go_sem])
  have S1 := B1.size
  simp only [World.size_alloc] at S1 B1
  have B : Below w.heap.size w W1 := ((Below.refl _ _).alloc (Nat.le_refl _) _).trans (B1.mono (by simp))
  clear B1 h
  go_wp2_with fail
  go_loopw [4, 12] (fun v i wr => ∃ k : Nat, k ≤ 8 ∧ i = .int .i64 k ∧ wr.ownsRow (w.heap.size + 1) 5 1 v k (bytL x k) ∧ wr.cell? ⟨w.heap.size, 0, none⟩ = some (.int .u64 x) ∧ Below w.heap.size w wr ∧ w.heap.size + 1 ≤ wr.heap.size) (fun _ i _ => 8 - (intOf i).toNat)
  case atStart => exact ⟨0, by omega, rfl, World.ownsRow_nil _ _ _ _, C0, B, S1⟩
  case round =>
    clear C0 C1 S1 B
    obtain ⟨k, hk, rfl, hown, C0, B, S1⟩ := hrel
    by_cases hlt : k < 8
    · have hkl : (k : Int) < 8 := by omega
      have hk8 : k < 8 := by omega
      go_wp2_with (at_builtin; refine wpList_append_own _ rfl _ _ 22 rfl (w.heap.size + 1) 5 i0 (.int .u8 0) 1 1 Try.underlying22 hi hz0 hz1 hz2 rfl (by decide) _ _ _ rfl (hown.alloc _) ⟨wr.heap.size, 0, none⟩ 1 1 [.int .u8 (bytV x k)] ?r1 rfl ?c1 ?c2 ?c3 ?c4 ?c5 ?_)
      case r1 => rfl
      case c1 =>
        intro j u hj
        match j, hj with
        | 0, hj => simp at hj; subst hj; simp [Addr.add, bytV, go_sem]
      case c2 => intro u hu; simp at hu; subst hu; rfl
      case c3 => unfold maxLen; omega
      case c4 => omega
      case c5 => simp; omega
      · intro v' w1 hown' hgrow _
        obtain ⟨R1, R2⟩ := rel_app S1 (by omega) hown B hgrow
        have C0' := R1 _ _ _ (by omega) C0
        have S1' : w.heap.size + 1 ≤ w1.heap.size := by have := hgrow.size; simp at this; omega
        rw [← bytL_succ] at hown'
        clear hgrow hown R1 C0 B
        go_wp2
        go_roundw
        case rel => exact ⟨k + 1, by omega, by go_num, hown', C0', R2, S1'⟩
        case measure => simp [intOf]; omega
    · obtain rfl : k = 8 := by omega
      go_wp2
      go_ret2
      exact ⟨_, rfl, hown, B⟩

def bl (n : Int) : Nat := min n.toNat 8
theorem bytes_any (x n : Int) (hx : 0 ≤ x) (hx1 : x < 18446744073709551616) (h : mayV x n = true) (w : World) :
    Calls Try.prog 17 #[.agg #[.int .u64 x, .int .i64 n]] w fun e w' => ∃ v, e = .returned (.tuple #[v, .int .i64 0]) ∧ w'.ownsRow (w.heap.size + 1) 5 1 v (bl n) (bytL x (bl n)) ∧ Below w.heap.size w w' := by
  have hn : 0 ≤ n ∧ n ≤ 9 := by unfold mayV at h; simp at h; omega
  rcases (show n < 8 ∨ n = 8 ∨ n = 9 from by omega) with h8 | rfl | rfl
  · obtain ⟨k, rfl⟩ : ∃ k : Nat, n = k := ⟨n.toNat, by omega⟩
    rw [show bl (k : Int) = k from by unfold bl; omega]
    exact bytes_few x k hx hx1 (by omega) h w
  · exact bytes_eight x hx hx1 h w
  · exact bytes_nine x hx hx1 h w

end Go.Proofs.Ytjclhoibmoehiaa
