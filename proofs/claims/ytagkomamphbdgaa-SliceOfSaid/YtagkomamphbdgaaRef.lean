/- The reference of layer 8: how many slices, and which: by contracts. -/
import Derived.Test.YtagkomamphbdgaaIter
namespace Go.Proofs.Ytagkomamphbdgaa
open Go.ChangeShapes Go.WideShapes Go.ChangeAt Go.RowKit
open SM
set_option linter.unusedVariables false
set_option linter.unusedSimpArgs false

/-- The reference's word behind i rounds. -/
def rw8 (f : Nat → Int) (len : Nat) : Nat → Int
  | 0 => 0
  | i + 1 => IntKind.u64.wrap (rw8 f len i * 256) + (if i < len then f i else 0)
theorem rw8_bd (f : Nat → Int) (hf : Fits f) (len : Nat) : ∀ i, i ≤ 8 → 0 ≤ rw8 f len i ∧ rw8 f len i < 2 ^ (8 * i) := by
  intro i
  induction i with
  | zero => intro _; simp [rw8]
  | succ i ih =>
    intro h
    have a := ih (by omega)
    have b := hf i
    have c : 0 ≤ (if i < len then f i else 0) ∧ (if i < len then f i else 0) ≤ 255 := by split <;> omega
    simp only [rw8, IntKind.wrap_u64]
    rcases lt8 (show i < 8 by omega) with rfl | rfl | rfl | rfl | rfl | rfl | rfl | rfl <;> simp only [Nat.reduceMul, Nat.reduceAdd, Int.reducePow] at a ⊢ <;> omega
theorem rw8_wrap (f : Nat → Int) (hf : Fits f) (len i : Nat) (h : i < 8) : IntKind.u64.wrap (rw8 f len i * 256) = rw8 f len i * 256 := by
  have a := rw8_bd f hf len i (by omega)
  rw [IntKind.wrap_u64]
  rcases lt8 h with rfl | rfl | rfl | rfl | rfl | rfl | rfl | rfl <;> simp only [Nat.reduceMul, Int.reducePow] at a ⊢ <;> omega
theorem rw8_wd (f : Nat → Int) (hf : Fits f) (len : Nat) : rw8 f len 8 = wd f (min len 8) := by
  have e : ∀ i, i < 8 → rw8 f len (i + 1) = rw8 f len i * 256 + (if i < len then f i else 0) := fun i h => by rw [rw8, rw8_wrap f hf len i h]
  rw [e 7 (by omega), e 6 (by omega), e 5 (by omega), e 4 (by omega), e 3 (by omega), e 2 (by omega), e 1 (by omega), e 0 (by omega)]
  simp only [rw8]
  rcases (show len = 0 ∨ len = 1 ∨ len = 2 ∨ len = 3 ∨ len = 4 ∨ len = 5 ∨ len = 6 ∨ len = 7 ∨ 8 ≤ len from by omega) with h | h | h | h | h | h | h | h | h
  all_goals first
    | (subst h; simp [wd]; try omega)
    | (rw [Nat.min_eq_right h]; simp [wd, show 0 < len from by omega, show 1 < len from by omega, show 2 < len from by omega, show 3 < len from by omega, show 4 < len from by omega, show 5 < len from by omega, show 6 < len from by omega, show 7 < len from by omega]; try omega)

theorem refcount (a : Option Addr) (len cap : Nat) (hl : len ≤ 1048576) (w : World) :
    Calls Try.prog 13 #[.slice a len cap] w fun e w' => e = .returned (.int .i64 (cnt len)) ∧ w = w' := by
  go_enter Try.func13, Try.ntmps13
  go_wp2_with fail
  go_loopw [3] (fun i wr => ∃ k : Nat, 1 ≤ k ∧ k ≤ cnt len ∧ i = .int .i64 k ∧ wr = w) (fun i _ => cnt len - (intOf i).toNat)
  case atStart =>
    refine ⟨1, by omega, by unfold cnt; omega, ?_⟩
    first | exact ⟨rfl, rfl⟩ | trivial | simp
  case round =>
    obtain ⟨k, h1, hk, rfl, rfl⟩ := hrel
    have HKK := Lib.hid hk
    have hb : k ≤ 131073 := by unfold cnt at hk; omega
    have hb2 : (k : Int) ≤ 131073 := by omega
    have hb3 : (0 : Int) ≤ 8 * (k : Int) := by omega
    have hb4 : 8 * (k : Int) ≤ 1048584 := by omega
    have hb5 : (len : Int) ≤ 1048576 := by omega
    clear hb hk
    by_cases hlt : k < cnt len
    · have hq : 8 * (k : Int) < (len : Int) := by unfold cnt at hlt; omega
      go_wp2
      go_roundw
      case rel => exact ⟨k + 1, by omega, by omega, by go_num, by first | rfl | trivial⟩
      case measure => simp [intOf]; omega
    · have hq : ¬ 8 * (k : Int) < (len : Int) := by unfold cnt at hlt; omega
      have hk := HKK.out
      obtain rfl : k = cnt len := by omega
      go_wp2
      go_ret
      exact ⟨rfl, rfl⟩

theorem refof_neg (a : Option Addr) (len cap : Nat) (i : Int) (hi : i < 0) (w : World) :
    Calls Try.prog 10 #[.slice a len cap, .int .i64 i] w fun e w' => e = .returned (.tuple #[.agg #[.int .u64 0, .int .i64 0], .int .i64 2]) ∧ Below w.heap.size w w' := by
  go_enter Try.func10, Try.ntmps10
  go_wp2
  refine bodyPost_ret (v := .tuple #[.agg #[.int .u64 0, .int .i64 0], .int .i64 2]) (by simp [results, Try.results10, go_sem]) rfl ⟨rfl, ?_⟩
  exact (Below.refl _ _).alloc (Nat.le_refl _) _
theorem refof_big (a : Option Addr) (len cap : Nat) (i : Int) (hl : len ≤ 1048576) (hi : cnt len ≤ i) (w : World) :
    Calls Try.prog 10 #[.slice a len cap, .int .i64 i] w fun e w' => e = .returned (.tuple #[.agg #[.int .u64 0, .int .i64 0], .int .i64 2]) ∧ Below w.heap.size w w' := by
  have h0 : 0 ≤ i := by omega
  go_enter Try.func10, Try.ntmps10
  go_wp2_with fail
  refine (refcount _ _ _ hl _).mono ?_; rintro e w' ⟨rfl, rfl⟩
  go_wp2
  refine bodyPost_ret (v := .tuple #[.agg #[.int .u64 0, .int .i64 0], .int .i64 2]) (by simp [results, Try.results10, go_sem]) rfl ⟨rfl, ?_⟩
  exact (Below.refl _ _).alloc (Nat.le_refl _) _

set_option maxHeartbeats 1000000 in
theorem refof_ok (b off len cap : Nat) (f : Nat → Int) (i : Nat) (hl : len ≤ 1048576) (hlc : len ≤ cap) (w : World) (hf : Fits f) (hc : Bts w (some ⟨b, off, none⟩) len f) (h0 : 0 < len) (hi : i < cnt len) :
    Calls Try.prog 10 #[.slice (some ⟨b, off, none⟩) len cap, .int .i64 i] w fun e w' => e = .returned (.tuple #[.agg #[.int .u64 (slW f len i), .int .i64 (slL len i : Nat)], .int .i64 0]) ∧ Below w.heap.size w w' := by
  have hs : 8 * i < len := by unfold cnt at hi; omega
  have hcap : ¬ cap = 8 * i := by omega
  have hi' : (i : Int) < (cnt len : Int) := by omega
  have k1 : 8 * (i : Int) ≤ (len : Int) := by omega
  have k2 : (len : Int) ≤ (cap : Int) := by omega
  have HC := Lib.hid (hc.from (8 * i)); clear hc
  have HF := Lib.hid (hf.from (8 * i)); clear hf
  have hn1 : decide (cnt len ≤ i) = false := by simp; omega
  have hn2 : decide ((i : Int) < 0) = false := by simp
  rw [show slW f len i = rw8 (fun j => f (8 * i + j)) (len - 8 * i) 8 from (rw8_wd _ HF.out _).symm]
  rcases (show len - 8 * i ≤ 9 ∨ 9 < len - 8 * i from by omega) with h9 | h9
  · rw [show ((slL len i : Nat) : Int) = ((len - 8 * i : Nat) : Int) from by unfold slL; omega]
    have k3 : ((len - 8 * i : Nat) : Int) ≤ 9 := by omega
    go_enter Try.func10, Try.ntmps10
    go_wp2_with fail
    refine (refcount _ _ _ (by omega) _).mono ?_; rintro e w' ⟨rfl, rfl⟩
    go_wp2_with fail
    go_loopw [8] (fun j wr => ∃ k d : Nat, k ≤ 8 ∧ j = .int .i64 k ∧ wr = ((w.alloc (.cells #[.int .u64 0, .int .i64 0] 26)).alloc (.cells #[.int .u64 (rw8 (fun j => f (8 * i + j)) (len - 8 * i) k), .int .i64 ((len - 8 * i : Nat) : Int)] 26)).drewN d) (fun j _ => 8 - (intOf j).toNat)
    case atStart => exact ⟨0, 0, by omega, rfl, rfl⟩
    case round =>
      obtain ⟨k, d, hk, rfl, rfl⟩ := hrel
      by_cases hlt : k < 8
      · have hkl : (k : Int) < 8 := by omega
        have hW := Lib.hid (show IntKind.u64.wrap (rw8 (fun j => f (8 * i + j)) (len - 8 * i) k * 256) = rw8 (fun j => f (8 * i + j)) (len - 8 * i) k * 256 from rw8_wrap _ HF.out _ k hlt)
        have hN := Lib.hid (show rw8 (fun j => f (8 * i + j)) (len - 8 * i) (k + 1) = IntKind.u64.wrap (rw8 (fun j => f (8 * i + j)) (len - 8 * i) k * 256) + (if k < len - 8 * i then f (8 * i + k) else 0) from rfl)
        by_cases hin : k < len - 8 * i
        · obtain ⟨b', off', ea, hcell⟩ := HC.out k hin
          cases ea
          have hbb : b < w.heap.size := block_lt_of_cell hcell
          have hil : (k : Int) < ((len - 8 * i : Nat) : Int) := by omega
          go_wp2_with fail
          rw [set_new _ _ _ _ _ _ _ (by simp)]
          have hbd := rw8_bd _ HF.out (len - 8 * i) (k + 1) (by omega)
          have hv : IntKind.u64.wrap (IntKind.u64.wrap (rw8 (fun j => f (8 * i + j)) (len - 8 * i) k * 256) + IntKind.u64.wrap (f (8 * i + k))) = rw8 (fun j => f (8 * i + j)) (len - 8 * i) (k + 1) := by
            have hp : rw8 (fun j => f (8 * i + j)) (len - 8 * i) (k + 1) < 18446744073709551616 := by
              have h2 := hbd.2
              rcases lt8 hlt with h | h | h | h | h | h | h | h <;> subst h <;> simp only [Nat.reduceMul, Nat.reduceAdd, Int.reducePow] at h2 ⊢ <;> omega
            have hn := hN.out
            rw [if_pos hin] at hn
            have hfk := HF.out k
            simp only at hfk
            rw [wraps_u64 (f (8 * i + k)) hfk.1 (by omega), ← hn]
            exact wraps_u64 _ hbd.1 (by omega)
          have HV := Lib.hid hv
          clear hbd hv
          go_region
          rw [HV.out]
          rw [set_new _ _ _ _ _ _ _ (by simp)]
          go_wp2
          go_roundw
          case rel => exact ⟨k + 1, d + 1, by omega, by go_num, rfl⟩
          case measure => simp [intOf]; omega
        · have hil : ¬ (k : Int) < ((len - 8 * i : Nat) : Int) := by omega
          go_wp2_with fail
          rw [set_new _ _ _ _ _ _ _ (by simp)]
          replace hN := hN.out
          rw [if_neg hin, Int.add_zero] at hN
          go_roundw
          case rel => exact ⟨k + 1, d, by omega, by go_num, by rw [hN]⟩
          case measure => simp [intOf]; omega
      · obtain rfl : k = 8 := by omega
        go_wp2_with fail
        refine bodyPost_ret (v := .tuple #[.agg #[.int .u64 (rw8 (fun j => f (8 * i + j)) (len - 8 * i) 8), .int .i64 ((len - 8 * i : Nat) : Int)], .int .i64 0]) (by simp [results, Try.results10, go_sem]) rfl ⟨rfl, ?_⟩
        exact ((below_drewN (((Below.refl _ _).alloc (Nat.le_refl _) _).alloc (by simp) _) _).setCell (Nat.le_refl _) _).setCell (Nat.le_refl _) _
  · rw [show ((slL len i : Nat) : Int) = 9 from by unfold slL; omega]
    have k3 : 9 < ((len - 8 * i : Nat) : Int) := by omega
    clear h9
    go_enter Try.func10, Try.ntmps10
    go_wp2_with fail
    refine (refcount _ _ _ (by omega) _).mono ?_; rintro e w' ⟨rfl, rfl⟩
    go_wp2_with fail
    clear k3
    go_loopw [8] (fun j wr => ∃ k d : Nat, k ≤ 8 ∧ j = .int .i64 k ∧ wr = ((w.alloc (.cells #[.int .u64 0, .int .i64 0] 26)).alloc (.cells #[.int .u64 (rw8 (fun j => f (8 * i + j)) (len - 8 * i) k), .int .i64 9] 26)).drewN d) (fun j _ => 8 - (intOf j).toNat)
    case atStart => exact ⟨0, 0, by omega, rfl, rfl⟩
    case round =>
      obtain ⟨k, d, hk, rfl, rfl⟩ := hrel
      by_cases hlt : k < 8
      · have hkl : (k : Int) < 8 := by omega
        have hW := Lib.hid (show IntKind.u64.wrap (rw8 (fun j => f (8 * i + j)) (len - 8 * i) k * 256) = rw8 (fun j => f (8 * i + j)) (len - 8 * i) k * 256 from rw8_wrap _ HF.out _ k hlt)
        have hN := Lib.hid (show rw8 (fun j => f (8 * i + j)) (len - 8 * i) (k + 1) = IntKind.u64.wrap (rw8 (fun j => f (8 * i + j)) (len - 8 * i) k * 256) + (if k < len - 8 * i then f (8 * i + k) else 0) from rfl)
        by_cases hin : k < len - 8 * i
        · obtain ⟨b', off', ea, hcell⟩ := HC.out k hin
          cases ea
          have hbb : b < w.heap.size := block_lt_of_cell hcell
          have hil : (k : Int) < ((len - 8 * i : Nat) : Int) := by omega
          go_wp2_with fail
          rw [set_new _ _ _ _ _ _ _ (by simp)]
          have hbd := rw8_bd _ HF.out (len - 8 * i) (k + 1) (by omega)
          have hv : IntKind.u64.wrap (IntKind.u64.wrap (rw8 (fun j => f (8 * i + j)) (len - 8 * i) k * 256) + IntKind.u64.wrap (f (8 * i + k))) = rw8 (fun j => f (8 * i + j)) (len - 8 * i) (k + 1) := by
            have hp : rw8 (fun j => f (8 * i + j)) (len - 8 * i) (k + 1) < 18446744073709551616 := by
              have h2 := hbd.2
              rcases lt8 hlt with h | h | h | h | h | h | h | h <;> subst h <;> simp only [Nat.reduceMul, Nat.reduceAdd, Int.reducePow] at h2 ⊢ <;> omega
            have hn := hN.out
            rw [if_pos hin] at hn
            have hfk := HF.out k
            simp only at hfk
            rw [wraps_u64 (f (8 * i + k)) hfk.1 (by omega), ← hn]
            exact wraps_u64 _ hbd.1 (by omega)
          have HV := Lib.hid hv
          clear hbd hv
          go_region
          rw [HV.out]
          rw [set_new _ _ _ _ _ _ _ (by simp)]
          go_wp2
          go_roundw
          case rel => exact ⟨k + 1, d + 1, by omega, by go_num, rfl⟩
          case measure => simp [intOf]; omega
        · have hil : ¬ (k : Int) < ((len - 8 * i : Nat) : Int) := by omega
          go_wp2_with fail
          rw [set_new _ _ _ _ _ _ _ (by simp)]
          replace hN := hN.out
          rw [if_neg hin, Int.add_zero] at hN
          go_roundw
          case rel => exact ⟨k + 1, d, by omega, by go_num, by rw [hN]⟩
          case measure => simp [intOf]; omega
      · obtain rfl : k = 8 := by omega
        go_wp2_with fail
        refine bodyPost_ret (v := .tuple #[.agg #[.int .u64 (rw8 (fun j => f (8 * i + j)) (len - 8 * i) 8), .int .i64 9], .int .i64 0]) (by simp [results, Try.results10, go_sem]) rfl ⟨rfl, ?_⟩
        exact ((below_drewN (((Below.refl _ _).alloc (Nat.le_refl _) _).alloc (by simp) _) _).setCell (Nat.le_refl _) _).setCell (Nat.le_refl _) _

theorem rw8_zero (f : Nat → Int) : ∀ k, rw8 f 0 k = 0
  | 0 => rfl
  | k + 1 => by rw [rw8, rw8_zero f k]; simp [IntKind.wrap_u64]
set_option maxHeartbeats 1000000 in
theorem refof_zero (a : Option Addr) (cap : Nat) (w : World) :
    Calls Try.prog 10 #[.slice a 0 cap, .int .i64 0] w fun e w' => e = .returned (.tuple #[.agg #[.int .u64 0, .int .i64 0], .int .i64 0]) ∧ Below w.heap.size w w' := by
  have hcap : (0 : Int) ≤ (cap : Int) := by omega
  have hc1 : cnt 0 = 1 := rfl
  go_enter Try.func10, Try.ntmps10
  go_wp2_with fail
  refine (refcount _ 0 _ (by omega) _).mono ?_; rintro e w' ⟨rfl, rfl⟩
  rw [hc1]
  go_wp2_with fail
  all_goals go_loopw [8] (fun j wr => ∃ k : Nat, k ≤ 8 ∧ j = .int .i64 k ∧ wr = ((w.alloc (.cells #[.int .u64 0, .int .i64 0] 26)).alloc (.cells #[.int .u64 0, .int .i64 0] 26)).drewN 0) (fun j _ => 8 - (intOf j).toNat)
  all_goals first
    | exact ⟨0, by omega, rfl, rfl⟩
    | (obtain ⟨k, hk, rfl, rfl⟩ := hrel
       by_cases hlt : k < 8
       · have hkl : (k : Int) < 8 := by omega
         have hil : ¬ (k : Int) < 0 := by omega
         go_wp2_with fail
         first
           | (rw [set_new _ _ _ _ _ _ _ (by simp)]; go_roundw; (case rel => exact ⟨k + 1, by omega, by go_num, rfl⟩); (case measure => simp [intOf]; omega))
           | (go_roundw; (case rel => exact ⟨k + 1, by omega, by go_num, by rw [set_new _ _ _ _ _ _ _ (by simp)]⟩); (case measure => simp [intOf]; omega))
       · obtain rfl : k = 8 := by omega
         go_wp2_with fail
         refine bodyPost_ret (v := .tuple #[.agg #[.int .u64 0, .int .i64 0], .int .i64 0]) (by simp [results, Try.results10, go_sem]) rfl ⟨rfl, ?_⟩
         exact ((below_drewN (((Below.refl _ _).alloc (Nat.le_refl _) _).alloc (by simp) _) _).setCell (Nat.le_refl _) _).setCell (Nat.le_refl _) _)

theorem refof_any (a : Option Addr) (len cap : Nat) (f : Nat → Int) (i : Nat) (hl : len ≤ 1048576) (hlc : len ≤ cap) (w : World) (hf : Fits f) (hc : Bts w a len f) :
    Calls Try.prog 10 #[.slice a len cap, .int .i64 i] w fun e w' => e = .returned (.tuple #[.agg #[.int .u64 (ofV f len i).1, .int .i64 (ofV f len i).2.1], .int .i64 (ofV f len i).2.2]) ∧ Below w.heap.size w w' := by
  by_cases hi : i < cnt len
  · by_cases h0 : len = 0
    · subst h0
      obtain rfl : i = 0 := by simp [cnt] at hi; omega
      simp only [ofV, hi, if_true]
      exact refof_zero a cap w
    · simp only [ofV, hi, if_true]
      obtain ⟨b, off, rfl, _⟩ := hc 0 (by omega)
      exact refof_ok b off len cap f i hl hlc w hf hc (by omega) hi
  · simp only [ofV, hi, if_false]
    exact refof_big a len cap i hl (by omega) w

end Go.Proofs.Ytagkomamphbdgaa
