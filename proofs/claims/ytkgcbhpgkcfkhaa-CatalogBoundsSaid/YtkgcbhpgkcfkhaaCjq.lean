/- Jobs by the reference: which may be. -/
import Derived.Test.YtkgcbhpgkcfkhaaCja
namespace Go.Proofs.Ytkgcbhpgkcfkhaa
open Go.ChangeShapes Go.WideShapes Go.ChangeAt Go.RowKit
set_option linter.unusedVariables false
set_option linter.unusedSimpArgs false

set_option maxRecDepth 100000 in
set_option maxHeartbeats 4000000 in
theorem qcheck_law (j : Job) (w : World) (hj : JobAt w j) :
    Calls Try.prog 37 #[.agg #[.int .i64 j.w, .int .i64 j.l, .int .i64 j.d, .int .i64 j.c, .int .i64 j.k, .int .i64 j.e, .slice j.a j.n j.cap]] w fun r w' => r = .returned (.int .i64 (chkV j)) ∧ Below w.heap.size w w' := by
  have HJ := Lib.hid hj
  have hle := hj.le
  have hli : (j.n : Int) ≤ 1000000 := by omega
  clear hj
  go_enter Try.func37, Try.ntmps37
  go_upto_region 1 with (fail)
  have hb := BoxC.new w #[.int .i64 j.w, .int .i64 j.l, .int .i64 j.d, .int .i64 j.c, .int .i64 j.k, .int .i64 j.e, .slice j.a j.n j.cap] 53
  have B1 : Below w.heap.size w (w.alloc (.cells #[.int .i64 j.w, .int .i64 j.l, .int .i64 j.d, .int .i64 j.c, .int .i64 j.k, .int .i64 j.e, .slice j.a j.n j.cap] 53)) := (Below.refl _ _).alloc (Nat.le_refl _) _
  generalize w.alloc (.cells #[.int .i64 j.w, .int .i64 j.l, .int .i64 j.d, .int .i64 j.c, .int .i64 j.k, .int .i64 j.e, .slice j.a j.n j.cap] 53) = W1 at hb B1 ⊢
  have c0 := hb.cell 0
  have c1 := hb.cell 1
  have c2 := hb.cell 2
  have c3 := hb.cell 3
  have c4 := hb.cell 4
  have c5 := hb.cell 5
  have c6 := hb.cell 6
  simp only [List.getElem?_toArray, List.getElem?_cons_zero, List.getElem?_cons_succ] at c0 c1 c2 c3 c4 c5 c6
  have HB1 := Lib.hid B1
  clear hb B1
  have HF := Lib.hid (show gB j = false → chkV j = 2 from fun h => by rw [chkV, okB, gB_and, h]; rfl)
  by_cases h0 : j.w < 1
  · go_wp2_with fail
    go_ret
    exact ⟨by rw [HF.out (decide_eq_false (by omega))]; rfl, HB1.out⟩
  by_cases h1 : 4 < j.w
  · go_wp2_with fail
    go_ret
    exact ⟨by rw [HF.out (decide_eq_false (by omega))]; rfl, HB1.out⟩
  by_cases h2 : j.l < 1
  · go_wp2_with fail
    go_ret
    exact ⟨by rw [HF.out (decide_eq_false (by omega))]; rfl, HB1.out⟩
  by_cases h3 : 2 < j.l
  · go_wp2_with fail
    go_ret
    exact ⟨by rw [HF.out (decide_eq_false (by omega))]; rfl, HB1.out⟩
  by_cases h4 : j.w < j.l
  · go_wp2_with fail
    go_ret
    exact ⟨by rw [HF.out (decide_eq_false (by omega))]; rfl, HB1.out⟩
  by_cases h5 : j.d < 3
  · go_wp2_with fail
    go_ret
    exact ⟨by rw [HF.out (decide_eq_false (by omega))]; rfl, HB1.out⟩
  by_cases h6 : 15 < j.d
  · go_wp2_with fail
    go_ret
    exact ⟨by rw [HF.out (decide_eq_false (by omega))]; rfl, HB1.out⟩
  by_cases h7 : j.c < 1024
  · go_wp2_with fail
    go_ret
    exact ⟨by rw [HF.out (decide_eq_false (by omega))]; rfl, HB1.out⟩
  by_cases h8 : 65536 < j.c
  · go_wp2_with fail
    go_ret
    exact ⟨by rw [HF.out (decide_eq_false (by omega))]; rfl, HB1.out⟩
  by_cases h9 : j.k < 1024
  · go_wp2_with fail
    go_ret
    exact ⟨by rw [HF.out (decide_eq_false (by omega))]; rfl, HB1.out⟩
  by_cases h10 : 1048576 < j.k
  · go_wp2_with fail
    go_ret
    exact ⟨by rw [HF.out (decide_eq_false (by omega))]; rfl, HB1.out⟩
  by_cases h11 : j.e < 1
  · go_wp2_with fail
    go_ret
    exact ⟨by rw [HF.out (decide_eq_false (by omega))]; rfl, HB1.out⟩
  by_cases h12 : 100 < j.e
  · go_wp2_with fail
    go_ret
    exact ⟨by rw [HF.out (decide_eq_false (by omega))]; rfl, HB1.out⟩
  have HG := Lib.hid (show gB j = true from decide_eq_true (by omega))
  by_cases hn : 1 ≤ j.n ∧ j.n ≤ 4
  · have n1 : ¬ (j.n : Int) < 1 := by omega
    have n2 : ¬ (4 : Int) < (j.n : Int) := by omega
    have HH := Lib.hid (show hB j = true by rw [gB_and, HG.out, inB]; simp; omega)
    go_wp2_with fail
    go_loopw [3] (fun i wr => ∃ k : Nat, k ≤ j.n ∧ i = .int .i64 (k : Int) ∧ Hid (tB (j.T.take k) = true) ∧ W1 = wr) (fun i _ => j.n - (intOf i).toNat)
    case atStart => exact ⟨0, by omega, rfl, Lib.hid (by simp [tB]), rfl⟩
    case round =>
      obtain ⟨k, hk, rfl, htk, rfl⟩ := hrel
      by_cases hlt : k < j.n
      · have hkl : (k : Int) < (j.n : Int) := by omega
        obtain ⟨b1, o1, ea, d1⟩ := (HJ.out.ls.below HB1.out).get k (by rw [HJ.out.len]; exact hlt)
        rw [ea] at c6
        obtain ⟨x, hx⟩ : ∃ x, j.T.getD k 0 = x := ⟨_, rfl⟩
        rw [hx] at d1
        have HN := Lib.hid (show tB (j.T.take (k + 1)) = inB x 0 2 by rw [tB_take (by rw [HJ.out.len]; exact hlt), htk.out, hx]; rfl)
        have HO := Lib.hid (show inB x 0 2 = false → chkV j = 2 from fun h => by rw [chkV, okB, tB_no (k := k) (by rw [HJ.out.len]; exact hlt) (by rw [hx]; exact h)]; simp)
        clear hx ea
        by_cases q1 : x < 0
        · go_wp2_with fail
          try rw [Exit.noGoto_ret]
          go_ret
          exact ⟨by rw [HO.out (decide_eq_false (by omega))]; rfl, HB1.out⟩
        · by_cases q2 : 2 < x
          · go_wp2_with fail
            try rw [Exit.noGoto_ret]
            go_ret
            exact ⟨by rw [HO.out (decide_eq_false (by omega))]; rfl, HB1.out⟩
          · go_wp2_with fail
            go_roundw
            case rel => exact ⟨k + 1, by omega, by go_num, Lib.hid (by rw [HN.out]; exact decide_eq_true (by omega)), trivial⟩
            case measure => simp [intOf]; omega
      · have hkl : ¬ (k : Int) < (j.n : Int) := by omega
        have HO := Lib.hid (show chkV j = 0 by
          have := htk.out
          rw [List.take_of_length_le (by rw [HJ.out.len]; omega)] at this
          rw [chkV, okB, HH.out, this]; rfl)
        go_wp2_with fail
        go_ret
        exact ⟨by rw [HO.out]; rfl, HB1.out⟩
  · have HO := Lib.hid (show chkV j = 2 by
      have : inB j.n 1 4 = false := decide_eq_false (by omega)
      rw [chkV, okB, gB_and, this]; simp)
    by_cases n1 : (j.n : Int) < 1
    · go_wp2_with fail
      go_ret
      exact ⟨by rw [HO.out]; rfl, HB1.out⟩
    · have n2 : (4 : Int) < (j.n : Int) := by omega
      go_wp2_with fail
      go_ret
      exact ⟨by rw [HO.out]; rfl, HB1.out⟩
end Go.Proofs.Ytkgcbhpgkcfkhaa
