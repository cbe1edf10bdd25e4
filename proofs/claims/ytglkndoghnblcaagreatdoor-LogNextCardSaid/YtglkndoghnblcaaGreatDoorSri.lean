/- The document's MayName. -/
import Derived.Test.YtglkndoghnblcaaGreatDoorOke
namespace Go.Proofs.YtglkndoghnblcaaGreatDoor
open Go.ChangeShapes Go.WideShapes Go.ChangeAt Go.RowKit
set_option linter.unusedVariables false
set_option linter.unusedSimpArgs false
set_option maxRecDepth 100000 in
set_option maxHeartbeats 4000000 in
/-- The document's MayName (109). -/
theorem rmayname_law (s : ByteArray) (hs : s.size ≤ maxLen) (w : World) : Calls Tryz.prog 12 #[.string s] w fun e w' => e = .returned (.bool (mayB s)) ∧ w' = w := by
  unfold maxLen at hs
  by_cases h1 : s.size < 1
  · have d1 : (s.size : Int) < 1 := by omega
    have HX := Lib.hid (show mayB s = false by
      unfold mayB inB
      rw [decide_eq_false (by omega), Bool.false_and])
    go_enter Tryz.func12, Tryz.ntmps12
    go_wp2_with fail
    go_ret
    exact ⟨by rw [HX.out]; rfl, rfl⟩
  have d1 : ¬ (s.size : Int) < 1 := by omega
  by_cases h2 : 24 < s.size
  · have d2 : (24 : Int) < (s.size : Int) := by omega
    have HX := Lib.hid (show mayB s = false by
      unfold mayB inB
      rw [decide_eq_false (by omega), Bool.false_and])
    clear h1
    go_enter Tryz.func12, Tryz.ntmps12
    go_wp2_with fail
    go_ret
    exact ⟨by rw [HX.out]; rfl, rfl⟩
  have d2 : ¬ (24 : Int) < (s.size : Int) := by omega
  have H0 := Lib.hid (show okN s 0 = true by unfold okN inB; rw [decide_eq_true (by omega)]; simp)
  clear h1 h2
  go_enter Tryz.func12, Tryz.ntmps12
  go_wp2_with fail
  go_loopw [3] (fun i wr => ∃ k : Nat, k ≤ s.size ∧ i = .int .i64 (k : Int) ∧ Hid (okN s k = true) ∧ wr = w) (fun i _ => s.size - (intOf i).toNat)
  case atStart => exact ⟨0, by omega, rfl, H0, rfl⟩
  case round =>
    obtain ⟨k, hk, rfl, HK, rfl⟩ := hrel
    by_cases hlt : k < s.size
    · have d3 : (k : Int) < (s.size : Int) := by omega
      have HN := Lib.hid (okN_next s k hlt)
      obtain ⟨c, hc⟩ : ∃ c, s[k].toNat = c := ⟨_, rfl⟩
      have HC := Lib.hid hc
      by_cases hc1 : c < 33
      · have d4 : (c : Int) < 33 := by omega
        have HX := Lib.hid (show mayB s = false by
          have : ∀ d, okN s (k + 1 + d) = false := fun d => by
            unfold okN
            have h1 : okN s (k + 1) = false := by rw [HN.out, HK.out]; unfold okC; rw [HC.out]; simp; omega
            unfold okN at h1
            rw [List.take_add, List.all_append]
            cases hi : inB (s.size : Int) 1 24 with
            | false => rfl
            | true => rw [hi] at h1; simp only [Bool.true_and] at h1; rw [h1]; rfl
          rw [← okN_all, show s.size = k + 1 + (s.size - (k + 1)) by omega]
          exact this _)
        go_wp2_with fail
        go_ret
        exact ⟨by rw [HX.out]; rfl, rfl⟩
      · have d4 : ¬ (c : Int) < 33 := by omega
        by_cases hc2 : 126 < c
        · have d5 : (126 : Int) < (c : Int) := by omega
          have HX := Lib.hid (show mayB s = false by
            have : ∀ d, okN s (k + 1 + d) = false := fun d => by
              unfold okN
              have h1 : okN s (k + 1) = false := by rw [HN.out, HK.out]; unfold okC; rw [HC.out]; simp; omega
              unfold okN at h1
              rw [List.take_add, List.all_append]
              cases hi : inB (s.size : Int) 1 24 with
              | false => rfl
              | true => rw [hi] at h1; simp only [Bool.true_and] at h1; rw [h1]; rfl
            rw [← okN_all, show s.size = k + 1 + (s.size - (k + 1)) by omega]
            exact this _)
          go_wp2_with fail
          go_ret
          exact ⟨by rw [HX.out]; rfl, rfl⟩
        · have d5 : ¬ (126 : Int) < (c : Int) := by omega
          have HNX := Lib.hid (show okN s (k + 1) = true by rw [HN.out, HK.out]; unfold okC; rw [HC.out]; simp; omega)
          go_wp2_with fail
          go_roundw
          case rel => exact ⟨k + 1, by omega, by go_num, HNX, by first | rfl | trivial⟩
          case measure => simp [intOf]; omega
    · have d3 : ¬ (k : Int) < (s.size : Int) := by omega
      obtain rfl : k = s.size := by omega
      have HX := Lib.hid (show mayB s = true by rw [← okN_all]; exact HK.out)
      go_wp2_with fail
      go_ret
      exact ⟨by rw [HX.out]; rfl, rfl⟩
theorem okM_no {g e f : Int} {nm : ByteArray} {xs : List LpV} {k : Nat} (h : okM g e f nm xs k = false) : ∀ d, okM g e f nm xs (k + d) = false
  | 0 => h
  | d + 1 => by
    show okM g e f nm xs ((k + d) + 1) = false
    cases hx : xs[k + d]? with
    | none =>
      show (match xs[k + d]? with | some x => _ | none => okM g e f nm xs (k + d)) = false
      rw [hx]
      exact okM_no h d
    | some x => rw [okM_next hx, okM_no h d, Bool.false_and]
theorem manB_no {g e f : Int} {nm : ByteArray} {xs : List LpV} {k : Nat} (hk : k ≤ xs.length) (h : okM g e f nm xs k = false) : manB g e f nm xs = false := by
  unfold manB
  rw [show xs.length = k + (xs.length - k) by omega]
  exact okM_no h _
theorem mayB_none {s : ByteArray} (h : s.toList.isEmpty = true) : mayB s = false := by
  have h0 : s.size = 0 := by
    have := List.isEmpty_iff.1 h
    rw [ByteArray.toList_eq] at this
    have h2 := congrArg List.length this
    simpa using h2
  unfold mayB inB
  rw [decide_eq_false (by omega), Bool.false_and]
end Go.Proofs.YtglkndoghnblcaaGreatDoor
