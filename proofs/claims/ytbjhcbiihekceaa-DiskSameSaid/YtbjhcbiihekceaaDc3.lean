/- Disks: the reference's MayName; num. -/
import Derived.Test.YtbjhcbiihekceaaDc2
namespace Go.Proofs.Ytbjhcbiihekceaa
open Go.ChangeShapes Go.WideShapes Go.ChangeAt Go.RowKit Go.Maps
set_option linter.unusedVariables false
set_option linter.unusedSimpArgs false
theorem dnum_law (k : Int) (w : World) : Calls Try.prog 14 #[.int .i64 k] w fun e w' => e = .returned (.int .i64 k) ∧ w = w' := by
  go_enter Try.func14, Try.ntmps14
  go_wp2
  go_ret
  exact ⟨rfl, rfl⟩
set_option maxHeartbeats 1000000 in
/-- MayName of the reference (28). -/
theorem rmay_law (s : ByteArray) (hs : s.size ≤ maxLen) (w : World) : Calls Try.prog 28 #[.string s] w fun e w' => e = .returned (.bool (mayB s)) ∧ w = w' := by
  unfold maxLen at hs
  by_cases h1 : s.size < 1
  · have HF := Lib.hid (show mayB s = false by unfold mayB; rw [decide_eq_false (by omega), Bool.false_and])
    have h2 : (s.size : Int) < 1 := by omega
    go_enter Try.func28, Try.ntmps28
    go_wp2
    go_ret
    exact ⟨ret_bool HF.out.symm, rfl⟩
  by_cases h2 : 24 < s.size
  · have HF := Lib.hid (show mayB s = false by unfold mayB; rw [decide_eq_false (by omega), Bool.false_and])
    have h3 : ¬ (s.size : Int) < 1 := by omega
    have h4 : (24 : Int) < (s.size : Int) := by omega
    go_enter Try.func28, Try.ntmps28
    go_wp2
    go_ret
    exact ⟨ret_bool HF.out.symm, rfl⟩
  have HM := Lib.hid (show mayB s = s.data.toList.all okC by unfold mayB; rw [decide_eq_true ⟨by omega, by omega⟩, Bool.true_and])
  have h3 : ¬ (s.size : Int) < 1 := by omega
  have h4 : ¬ (24 : Int) < (s.size : Int) := by omega
  have h5 : s.size ≤ 24 := by omega
  clear h1 h2
  go_enter Try.func28, Try.ntmps28
  go_wp2
  go_loop [3] (fun i => ∃ k : Nat, k ≤ s.size ∧ i = .int .i64 (k : Int) ∧ Hid ((s.data.toList.take k).all okC = true)) (fun i => s.size - (intOf i).toNat)
  case atStart => exact ⟨0, Nat.zero_le _, rfl, Lib.hid (by simp)⟩
  case round =>
    obtain ⟨k, hk, rfl, HA⟩ := hrel
    by_cases hlt : k < s.size
    · have HS := Lib.hid (all_snoc s k hlt)
      have hlt2 : (k : Int) < (s.size : Int) := by omega
      by_cases hc : 33 ≤ s[k].toNat ∧ s[k].toNat ≤ 126
      · have hc1 := hc.1
        have hc2 := hc.2
        have HC := Lib.hid (show okC s[k] = true from decide_eq_true hc)
        clear hc
        go_wp2
        go_round
        case rel => exact ⟨k + 1, by omega, by go_num, Lib.hid (by rw [HS.out, HA.out, HC.out]; rfl)⟩
        case measure => simp [intOf]; omega
      · have HF := Lib.hid (show mayB s = false by
          rw [HM.out]
          have hc' : okC s[k] = false := decide_eq_false hc
          rw [← Bool.not_eq_true, List.all_eq_true]
          intro ha
          have := ha s[k] (by
            have : s[k] = s.data.toList[k]'(by simpa using hlt) := rfl
            rw [this]; exact List.getElem_mem _)
          rw [hc'] at this; cases this)
        by_cases hc1 : s[k].toNat < 33
        · clear hc
          go_wp2
          go_ret
          exact ⟨ret_bool HF.out.symm, rfl⟩
        · have hc2 : 126 < s[k].toNat := by omega
          have hc3 : 33 ≤ s[k].toNat := by omega
          clear hc hc1
          go_wp2
          go_ret
          exact ⟨ret_bool HF.out.symm, rfl⟩
    · obtain rfl : k = s.size := by omega
      have hlt2 : ¬ (s.size : Int) < (s.size : Int) := by omega
      have HT := Lib.hid (show mayB s = true by rw [HM.out]; have := HA.out; rwa [List.take_of_length_le (by simp)] at this)
      go_wp2
      go_ret
      exact ⟨ret_bool HT.out.symm, rfl⟩
end Go.Proofs.Ytbjhcbiihekceaa
