/- Disks: which names may be; what one is in memory. -/
import Derived.Test.YtbjhcbiihekceaaGen
import Derived.Maps.Own
import Derived.Maps.OwnOps
import Derived.Maps.OwnSet
import Derived.Maps.RangeWalk
import Derived.RangeFuncBox
import Derived.Deep.MidRow
import Derived.Deep.WholeRow
namespace Go.Proofs.Ytbjhcbiihekceaa
open Go.ChangeShapes Go.WideShapes Go.ChangeAt Go.RowKit Go.Maps
set_option linter.unusedVariables false
set_option linter.unusedSimpArgs false
/-- May a file have that name? -/
def okC (c : UInt8) : Bool := decide (33 ≤ c.toNat ∧ c.toNat ≤ 126)
def mayB (s : ByteArray) : Bool := decide (1 ≤ s.size ∧ s.size ≤ 24) && s.data.toList.all okC
theorem all_snoc (s : ByteArray) (k : Nat) (h : k < s.size) : (s.data.toList.take (k + 1)).all okC = ((s.data.toList.take k).all okC && okC s[k]) := by
  rw [show s.data.toList.take (k + 1) = s.data.toList.take k ++ [s[k]] from by rw [List.take_succ_eq_append_getElem (by simpa using h)]; rfl]
  simp
set_option maxHeartbeats 1000000 in
theorem may_law (s : ByteArray) (hs : s.size ≤ maxLen) (w : World) : Calls Try.prog 61 #[.string s] w fun e w' => e = .returned (.bool (mayB s)) ∧ w = w' := by
  unfold maxLen at hs
  by_cases h : 1 ≤ s.size ∧ s.size ≤ 24
  · have h1 := h.1
    have h2 := h.2
    have HM := Lib.hid (show mayB s = s.data.toList.all okC by unfold mayB; rw [decide_eq_true h, Bool.true_and])
    have d1 : decide ((s.size : Int) ≤ 24) = true := decide_eq_true (by omega)
    clear h
    go_enter Try.func61, Try.ntmps61
    go_wp2
    go_step3
    go_wp2_with fail
    go_step3
    go_wp2_with fail
    go_loop [3, 4] (fun b i => ∃ k : Nat, k ≤ s.size ∧ b = .bool true ∧ i = .int .i64 (k : Int) ∧ Hid ((s.data.toList.take k).all okC = true)) (fun _ i => s.size - (intOf i).toNat)
    case atStart => exact ⟨0, Nat.zero_le _, rfl, rfl, Lib.hid (by simp)⟩
    case round =>
      obtain ⟨k, hk, rfl, rfl, HA⟩ := hrel
      by_cases hlt : k < s.size
      · have HS := Lib.hid (all_snoc s k hlt)
        by_cases hc : 33 ≤ s[k].toNat ∧ s[k].toNat ≤ 126
        · have hc1 := hc.1
          have hc2 := hc.2
          have HC := Lib.hid (show okC s[k] = true from decide_eq_true hc)
          clear hc
          go_wp2
          go_round
          case rel => exact ⟨k + 1, by omega, rfl, by go_num, Lib.hid (by rw [HS.out, HA.out, HC.out]; rfl)⟩
          case measure => simp [intOf]; omega
        · have HF := Lib.hid (show mayB s = false by
            rw [HM.out]
            have hc' : okC s[k] = false := decide_eq_false hc
            rw [← Bool.not_eq_true, List.all_eq_true]
            intro ha
            have := ha s[k] (by
              have : s[k] = s.data.toList[k]'(by simpa using hlt) := rfl
              rw [this]; exact List.getElem_mem _)
            rw [hc'] at this; cases this)
          by_cases hc1 : s[k].toNat < 33
          · clear hc
            go_wp2
            go_ret
            exact ⟨ret_bool HF.out.symm, rfl⟩
          · have hc2 : 126 < s[k].toNat := by omega
            have hc3 : 33 ≤ s[k].toNat := by omega
            clear hc hc1
            go_wp2
            go_ret
            exact ⟨ret_bool HF.out.symm, rfl⟩
      · obtain rfl : k = s.size := by omega
        have HT := Lib.hid (show mayB s = true by rw [HM.out]; have := HA.out; rwa [List.take_of_length_le (by simp)] at this)
        go_wp2
        go_ret
        exact ⟨ret_bool HT.out.symm, rfl⟩
  · have HF := Lib.hid (show mayB s = false by unfold mayB; rw [decide_eq_false h, Bool.false_and])
    by_cases h1 : 1 ≤ s.size
    · have d1 : decide ((s.size : Int) ≤ 24) = false := decide_eq_false (by omega)
      clear h
      go_enter Try.func61, Try.ntmps61
      go_wp2
      go_step3
      go_wp2_with fail
      go_step3
      go_wp2_with fail
      go_loop [3, 4] (fun b i => b = .bool false ∧ i = .int .i64 0) (fun _ _ => 0)
      case atStart => exact ⟨rfl, rfl⟩
      case round =>
        obtain ⟨rfl, rfl⟩ := hrel
        go_wp2
        go_ret
        exact ⟨ret_bool HF.out.symm, rfl⟩
    · have h2 : s.size = 0 := by omega
      have d0 : decide (1 ≤ (s.size : Int)) = false := decide_eq_false (by omega)
      have h3 : ¬ (1 ≤ (s.size : Int)) := by omega
      clear h h1 h2
      go_enter Try.func61, Try.ntmps61
      go_wp2
      go_step3
      go_wp2_with fail
      go_step3
      go_wp2_with fail
      go_loop [3, 4] (fun b i => b = .bool false ∧ i = .int .i64 0) (fun _ _ => 0)
      case atStart => exact ⟨rfl, rfl⟩
      case round =>
        obtain ⟨rfl, rfl⟩ := hrel
        go_wp2
        go_ret
        exact ⟨ret_bool HF.out.symm, rfl⟩
end Go.Proofs.Ytbjhcbiihekceaa
