/- The functions of layer 8, each by a contract. -/
import Derived.Test.YtkgcbhpgkcfkhaaRows
import Derived.Test.YtkgcbhpgkcfkhaaK8m
import Derived.WalkKit
import Derived.ProofKit
import Derived.Outline
import Derived.WalkLawsBesides
import Derived.WalkSpells
import Derived.Lib.Hide
import Derived.Below
import Derived.WalkSmall
import Derived.BigRegion
import Derived.Laws.Rows
namespace Go.Proofs.Ytkgcbhpgkcfkhaa.K8
open Go.ChangeShapes Go.WideShapes Go.ChangeAt Go.RowKit
open SM
set_option linter.unusedVariables false
set_option linter.unusedSimpArgs false

theorem ret_bool {a b : Bool} (h : a = b) : Ending.returned (.bool a) = .returned (.bool b) := by rw [h]
theorem ret_int {k : IntKind} {a b : Int} (h : a = b) : Ending.returned (.int k a) = .returned (.int k b) := by rw [h]
theorem step_below {w a b : World} (h : Below w.heap.size w a) (k : Below a.heap.size a b) : Below w.heap.size w b := h.trans (k.mono h.size)

/-- What a walk is told of bytes that lie somewhere: the k-th of them is 'f k'. -/
def Bts (w : World) (a : Option Addr) (len : Nat) (f : Nat → Int) : Prop := ∀ k < len, ∃ b off, a = some ⟨b, off, none⟩ ∧ w.cell? ⟨b, off + k, none⟩ = some (.int .u8 (f k))
theorem Bts.below {w w' : World} {a : Option Addr} {len : Nat} {f : Nat → Int} (h : Bts w a len f) (hb : Below w.heap.size w w') : Bts w' a len f := fun k hk => by
  obtain ⟨b, off, e, hc⟩ := h k hk
  exact ⟨b, off, e, (hb.cell (p := ⟨b, off + k, none⟩) (block_lt_of_cell hc)).trans hc⟩
def Fits (f : Nat → Int) : Prop := ∀ i, 0 ≤ f i ∧ f i ≤ 255

def cnt (len : Nat) : Nat := (max len 1 - 1) / 8 + 1
theorem count_any (a : Option Addr) (len cap : Nat) (hl : len ≤ 1152921504606846976) (w : World) :
    Calls Try.prog 108 #[.slice a len cap] w fun e w' => e = .returned (.int .i64 (cnt len)) ∧ w = w' := by
  by_cases h : len < 1
  · obtain rfl : len = 0 := by omega
    go_enter Try.func108, Try.ntmps108
    go_wp2
    go_ret
    exact ⟨rfl, rfl⟩
  · have h' : (1 : Int) ≤ (len : Int) := by omega
    go_enter Try.func108, Try.ntmps108
    go_wp2
    go_ret
    exact ⟨ret_int (by unfold cnt; rw [Nat.max_eq_left (by omega)]; omega), rfl⟩

theorem set_new (X : World) (c0 c1 v : Value) (t : TypeId) (d : Nat) (b : Nat) (hb : b = X.heap.size) : ((X.alloc (.cells #[c0, c1] t)).drewN d).setCell ⟨b, 0, none⟩ v = (X.alloc (.cells #[v, c1] t)).drewN d := by
  show ((X.alloc (.cells #[c0, c1] t)).setCell ⟨b, 0, none⟩ v).drewN d = _
  rw [World.setCell_alloc_at _ _ _ _ _ hb]
  rfl

set_option maxHeartbeats 1000000 in
theorem of_long (a : Option Addr) (len cap : Nat) (f : Nat → Int) (hl : len ≤ 1152921504606846976) (hlc : len ≤ cap) (w : World) (hf : Fits f) (hc : Bts w a len f) (h8 : 10 ≤ len) :
    Calls Try.prog 109 #[.slice a len cap] w fun e w' => e = .returned (.agg #[.int .u64 (wd f 8), .int .i64 9]) ∧ Below w.heap.size w w' := by
  have HC := Lib.hid hc; clear hc
  have HF := Lib.hid hf; clear hf
  have hi : (9 : Int) < (len : Int) := by omega
  have hi' : (8 : Int) < (len : Int) := by omega
  go_enter Try.func109, Try.ntmps109
  go_wp2
  go_loopw [16] (fun i wr => ∃ k d : Nat, k ≤ 8 ∧ i = .int .i64 k ∧ wr = ((w.alloc (.cells #[.int .u64 0, .int .i64 0] 151)).alloc (.cells #[.int .u64 (wd f k), .int .i64 9] 151)).drewN d) (fun i _ => 8 - (intOf i).toNat)
  case atStart => exact ⟨0, 0, by omega, rfl, rfl⟩
  case round =>
    obtain ⟨k, d, hk, rfl, rfl⟩ := hrel
    by_cases hlt : k < 8
    · obtain ⟨b, off, ea, hcell⟩ := HC.out k (by omega)
      have hb : b < w.heap.size := block_lt_of_cell hcell
      have hv := Lib.hid (wd_put f HF.out k (by omega))
      clear HC
      subst ea
      have hkl : (k : Int) < 8 := by omega
      have hk8 : k < 8 := by omega
      go_wp2
      go_region
      rw [hv.out]
      rw [set_new _ _ _ _ _ _ _ (by simp)]
      go_wp2
      go_roundw
      case rel => exact ⟨k + 1, d + 1, by omega, by go_num, rfl⟩
      case measure => simp [intOf]; omega
    · obtain rfl : k = 8 := by omega
      go_wp2
      refine bodyPost_ret (v := .agg #[.int .u64 (wd f 8), .int .i64 9]) (by simp [results, Try.results109, go_sem]) rfl ⟨rfl, ?_⟩
      exact ((below_drewN (((Below.refl _ _).alloc (Nat.le_refl _) _).alloc (by simp) _) _).setCell (Nat.le_refl _) _).setCell (Nat.le_refl _) _

set_option maxHeartbeats 1000000 in
theorem of_nine (a : Option Addr) (cap : Nat) (f : Nat → Int) (hlc : 9 ≤ cap) (w : World) (hf : Fits f) (hc : Bts w a 9 f)  :
    Calls Try.prog 109 #[.slice a 9 cap] w fun e w' => e = .returned (.agg #[.int .u64 (wd f 8), .int .i64 9]) ∧ Below w.heap.size w w' := by
  have HC := Lib.hid hc; clear hc
  have HF := Lib.hid hf; clear hf
  go_enter Try.func109, Try.ntmps109
  go_wp2
  go_loopw [16] (fun i wr => ∃ k d : Nat, k ≤ 8 ∧ i = .int .i64 k ∧ wr = ((w.alloc (.cells #[.int .u64 0, .int .i64 0] 151)).alloc (.cells #[.int .u64 (wd f k), .int .i64 9] 151)).drewN d) (fun i _ => 8 - (intOf i).toNat)
  case atStart => exact ⟨0, 0, by omega, rfl, rfl⟩
  case round =>
    obtain ⟨k, d, hk, rfl, rfl⟩ := hrel
    by_cases hlt : k < 8
    · obtain ⟨b, off, ea, hcell⟩ := HC.out k (by omega)
      have hb : b < w.heap.size := block_lt_of_cell hcell
      have hv := Lib.hid (wd_put f HF.out k (by omega))
      clear HC
      subst ea
      have hkl : (k : Int) < 8 := by omega
      have hk8 : k < 8 := by omega
      go_wp2
      go_region
      rw [hv.out]
      rw [set_new _ _ _ _ _ _ _ (by simp)]
      go_wp2
      go_roundw
      case rel => exact ⟨k + 1, d + 1, by omega, by go_num, rfl⟩
      case measure => simp [intOf]; omega
    · obtain rfl : k = 8 := by omega
      go_wp2
      refine bodyPost_ret (v := .agg #[.int .u64 (wd f 8), .int .i64 9]) (by simp [results, Try.results109, go_sem]) rfl ⟨rfl, ?_⟩
      exact ((below_drewN (((Below.refl _ _).alloc (Nat.le_refl _) _).alloc (by simp) _) _).setCell (Nat.le_refl _) _).setCell (Nat.le_refl _) _

set_option maxHeartbeats 1000000 in
theorem of_eight (a : Option Addr) (cap : Nat) (f : Nat → Int) (hlc : 8 ≤ cap) (w : World) (hf : Fits f) (hc : Bts w a 8 f)  :
    Calls Try.prog 109 #[.slice a 8 cap] w fun e w' => e = .returned (.agg #[.int .u64 (wd f 8), .int .i64 8]) ∧ Below w.heap.size w w' := by
  have HC := Lib.hid hc; clear hc
  have HF := Lib.hid hf; clear hf
  go_enter Try.func109, Try.ntmps109
  go_wp2
  go_loopw [16] (fun i wr => ∃ k d : Nat, k ≤ 8 ∧ i = .int .i64 k ∧ wr = ((w.alloc (.cells #[.int .u64 0, .int .i64 0] 151)).alloc (.cells #[.int .u64 (wd f k), .int .i64 8] 151)).drewN d) (fun i _ => 8 - (intOf i).toNat)
  case atStart => exact ⟨0, 0, by omega, rfl, rfl⟩
  case round =>
    obtain ⟨k, d, hk, rfl, rfl⟩ := hrel
    by_cases hlt : k < 8
    · obtain ⟨b, off, ea, hcell⟩ := HC.out k (by omega)
      have hb : b < w.heap.size := block_lt_of_cell hcell
      have hv := Lib.hid (wd_put f HF.out k (by omega))
      clear HC
      subst ea
      have hkl : (k : Int) < 8 := by omega
      have hk8 : k < 8 := by omega
      go_wp2
      go_region
      rw [hv.out]
      rw [set_new _ _ _ _ _ _ _ (by simp)]
      go_wp2
      go_roundw
      case rel => exact ⟨k + 1, d + 1, by omega, by go_num, rfl⟩
      case measure => simp [intOf]; omega
    · obtain rfl : k = 8 := by omega
      go_wp2
      refine bodyPost_ret (v := .agg #[.int .u64 (wd f 8), .int .i64 8]) (by simp [results, Try.results109, go_sem]) rfl ⟨rfl, ?_⟩
      exact ((below_drewN (((Below.refl _ _).alloc (Nat.le_refl _) _).alloc (by simp) _) _).setCell (Nat.le_refl _) _).setCell (Nat.le_refl _) _

set_option maxHeartbeats 1000000 in
theorem of_short (a : Option Addr) (len cap : Nat) (f : Nat → Int) (hl : len ≤ 1152921504606846976) (hlc : len ≤ cap) (w : World) (hf : Fits f) (hc : Bts w a len f) (h8 : len < 8) :
    Calls Try.prog 109 #[.slice a len cap] w fun e w' => e = .returned (.agg #[.int .u64 (wd f len), .int .i64 len]) ∧ Below w.heap.size w w' := by
  have HC := Lib.hid hc; clear hc
  have HF := Lib.hid hf; clear hf
  have hi : (len : Int) < 8 := by omega
  go_enter Try.func109, Try.ntmps109
  go_wp2
  go_loopw [16] (fun i wr => ∃ k d : Nat, k ≤ len ∧ i = .int .i64 k ∧ wr = ((w.alloc (.cells #[.int .u64 0, .int .i64 0] 151)).alloc (.cells #[.int .u64 (wd f k), .int .i64 len] 151)).drewN d) (fun i _ => len - (intOf i).toNat)
  case atStart => exact ⟨0, 0, by omega, rfl, rfl⟩
  case round =>
    obtain ⟨k, d, hk, rfl, rfl⟩ := hrel
    by_cases hlt : k < len
    · obtain ⟨b, off, ea, hcell⟩ := HC.out k (by omega)
      have hb : b < w.heap.size := block_lt_of_cell hcell
      have hv := Lib.hid (wd_put f HF.out k (by omega))
      clear HC
      subst ea
      have hkl : (k : Int) < len := by omega
      have hk8 : k < 8 := by omega
      go_wp2
      go_region
      rw [hv.out]
      rw [set_new _ _ _ _ _ _ _ (by simp)]
      go_wp2
      go_roundw
      case rel => exact ⟨k + 1, d + 1, by omega, by go_num, rfl⟩
      case measure => simp [intOf]; omega
    · obtain rfl : k = len := by omega
      go_wp2
      refine bodyPost_ret (v := .agg #[.int .u64 (wd f k), .int .i64 k]) (by simp [results, Try.results109, go_sem]) rfl ⟨rfl, ?_⟩
      exact ((below_drewN (((Below.refl _ _).alloc (Nat.le_refl _) _).alloc (by simp) _) _).setCell (Nat.le_refl _) _).setCell (Nat.le_refl _) _

theorem of_any (a : Option Addr) (len cap : Nat) (f : Nat → Int) (hl : len ≤ 1152921504606846976) (hlc : len ≤ cap) (w : World) (hf : Fits f) (hc : Bts w a len f) :
    Calls Try.prog 109 #[.slice a len cap] w fun e w' => e = .returned (.agg #[.int .u64 (wd f (min len 8)), .int .i64 (min len 9 : Nat)]) ∧ Below w.heap.size w w' := by
  rcases (show len < 8 ∨ len = 8 ∨ len = 9 ∨ 10 ≤ len from by omega) with h | rfl | rfl | h
  · rw [show min len 8 = len from by omega, show min len 9 = len from by omega]; exact of_short a len cap f hl hlc w hf hc h
  · exact of_eight a cap f hlc w hf hc
  · exact of_nine a cap f hlc w hf hc
  · rw [show min len 8 = 8 from by omega, show min len 9 = 9 from by omega]; exact of_long a len cap f hl hlc w hf hc h

theorem Bts.from {w : World} {b off : Nat} {len : Nat} {f : Nat → Int} (h : Bts w (some ⟨b, off, none⟩) len f) (s : Nat) : Bts w (some ⟨b, off + s, none⟩) (len - s) (fun k => f (s + k)) := fun k hk => by
  obtain ⟨b', off', e, hc⟩ := h (s + k) (by omega)
  cases e
  exact ⟨b, off + s, rfl, by rw [Nat.add_assoc]; exact hc⟩
theorem Fits.from {f : Nat → Int} (h : Fits f) (s : Nat) : Fits (fun k => f (s + k)) := fun i => h (s + i)

theorem bcell {W w1 : World} (hb : Below W.heap.size W w1) : (∀ b o, b < W.heap.size → w1.cell? ⟨b, o, none⟩ = W.cell? ⟨b, o, none⟩) ∧ (∀ b o, b < W.heap.size → w1.frozen? ⟨b, o, none⟩ = W.frozen? ⟨b, o, none⟩) :=
  ⟨fun b o h => hb.cell (p := ⟨b, o, none⟩) h, fun b o h => hb.frozen (p := ⟨b, o, none⟩) h⟩

def slW (f : Nat → Int) (len i : Nat) : Int := wd (fun k => f (8 * i + k)) (min (len - 8 * i) 8)
def slL (len i : Nat) : Nat := min (len - 8 * i) 9

theorem Of_neg (a : Option Addr) (len cap : Nat) (i : Int) (hi : i < 0) (_hi0 : -9223372036854775808 ≤ i) (w : World) :
    Calls Try.prog 101 #[.slice a len cap, .int .i64 i] w fun e w' => e = .returned (.tuple #[.agg #[.int .u64 0, .int .i64 0], .int .i64 2]) ∧ Below w.heap.size w w' := by
  go_enter Try.func101, Try.ntmps101
  go_wp2
  refine bodyPost_ret (v := .tuple #[.agg #[.int .u64 0, .int .i64 0], .int .i64 2]) (by simp [results, Try.results101, go_sem]) rfl ⟨rfl, ?_⟩
  exact (Below.refl _ _).alloc (Nat.le_refl _) _

theorem Of_big (a : Option Addr) (len cap : Nat) (i : Int) (hl : len ≤ 1152921504606846976) (hi : cnt len ≤ i) (w : World) :
    Calls Try.prog 101 #[.slice a len cap, .int .i64 i] w fun e w' => e = .returned (.tuple #[.agg #[.int .u64 0, .int .i64 0], .int .i64 2]) ∧ Below w.heap.size w w' := by
  have h0 : 0 ≤ i := by omega
  go_enter Try.func101, Try.ntmps101
  go_wp2_with (go_at_call 108; refine (count_any _ _ _ hl _).mono ?_; rintro e w' ⟨rfl, rfl⟩)
  refine bodyPost_ret (v := .tuple #[.agg #[.int .u64 0, .int .i64 0], .int .i64 2]) (by simp [results, Try.results101, go_sem]) rfl ⟨rfl, ?_⟩
  exact (Below.refl _ _).alloc (Nat.le_refl _) _

theorem Of_ok (a : Option Addr) (len cap : Nat) (f : Nat → Int) (i : Nat) (hl : len ≤ 1152921504606846976) (hlc : len ≤ cap) (w : World) (hf : Fits f) (hc : Bts w a len f) (h0 : 0 < len) (hi : i < cnt len) :
    Calls Try.prog 101 #[.slice a len cap, .int .i64 i] w fun e w' => e = .returned (.tuple #[.agg #[.int .u64 (slW f len i), .int .i64 (slL len i : Nat)], .int .i64 0]) ∧ Below w.heap.size w w' := by
  obtain ⟨b, off, ea, _⟩ := hc 0 h0
  subst ea
  have hs : 8 * i < len := by unfold cnt at hi; omega
  have hcap : ¬ cap = 8 * i := by omega
  have hi' : (i : Int) < (cnt len : Int) := by omega
  have k1 : 8 * (i : Int) ≤ (len : Int) := by omega
  have k2 : (len : Int) ≤ (cap : Int) := by omega
  have HC := Lib.hid ((hc.from (8 * i)).below ((Below.refl _ _).alloc (Nat.le_refl _) (.cells #[.int .u64 0, .int .i64 0] 151))); clear hc
  have HF := Lib.hid (hf.from (8 * i)); clear hf
  go_enter Try.func101, Try.ntmps101
  go_wp2_with (go_at_call 108; refine (count_any _ _ _ hl _).mono ?_; rintro e w' ⟨rfl, rfl⟩)
  refine (of_any _ _ _ _ (by omega) (by omega) _ HF.out HC.out).mono ?_
  rintro e W1 ⟨rfl, B1⟩
  obtain ⟨hcc, hff⟩ := bcell B1
  have hz : w.heap.size < W1.heap.size := by have := B1.size; simp at this; omega
  go_wp2
  refine bodyPost_ret (v := .tuple #[.agg #[.int .u64 (slW f len i), .int .i64 (slL len i : Nat)], .int .i64 0]) (by simp [results, Try.results101, go_sem, slW, slL, hcc]) rfl ⟨rfl, ?_⟩
  exact ((((Below.refl _ _).alloc (Nat.le_refl _) _).trans (B1.mono (by simp))).setCell (Nat.le_refl _) _).setCell (Nat.le_refl _) _

end Go.Proofs.Ytkgcbhpgkcfkhaa.K8
