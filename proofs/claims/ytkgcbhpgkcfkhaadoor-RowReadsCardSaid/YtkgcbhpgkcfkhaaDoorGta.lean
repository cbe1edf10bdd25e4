/- Whatever is read: numbers of more than one byte, by contracts. -/
import Derived.Test.YtkgcbhpgkcfkhaaDoorRed
namespace Go.Proofs.YtkgcbhpgkcfkhaaDoor
open Go.ChangeShapes Go.WideShapes Go.ChangeAt Go.RowKit
set_option linter.unusedVariables false
set_option linter.unusedSimpArgs false

theorem or_bd (x y : Int) (x0 : 0 ≤ x) (x1 : x ≤ 18446744073709551615) (y0 : 0 ≤ y) (y1 : y ≤ 18446744073709551615) : 0 ≤ bits .or .u64 x y ∧ bits .or .u64 x y ≤ 18446744073709551615 ∧ y ≤ bits .or .u64 x y := by
  obtain ⟨a, rfl⟩ : ∃ a : Nat, x = a := ⟨x.toNat, by omega⟩
  obtain ⟨b, rfl⟩ : ∃ b : Nat, y = b := ⟨y.toNat, by omega⟩
  rw [u64_or_nat a b (by omega) (by omega)]
  have h1 : a ||| b < 2 ^ 64 := Nat.or_lt_two_pow (by omega) (by omega)
  have h2 : b ≤ a ||| b := Nat.right_le_or
  omega
theorem wrap_bd (x : Int) : 0 ≤ IntKind.u64.wrap x ∧ IntKind.u64.wrap x ≤ 18446744073709551615 := by rw [IntKind.wrap_u64]; omega
theorem and128 : ∀ c : Fin 256, bits .and .u8 ((c.val : Nat) : Int) 128 = if c.val < 128 then 0 else 128 := by decide +kernel
theorem top_bit (cb : Int) (h0 : 0 ≤ cb) (h1 : cb ≤ 255) : (cb < 128 → (bits .and .u8 cb 128 == 0) = true) ∧ (128 ≤ cb → (bits .and .u8 cb 128 == 0) = false) := by
  obtain ⟨n, rfl⟩ : ∃ n : Nat, cb = n := ⟨cb.toNat, by omega⟩
  have := and128 ⟨n, by omega⟩
  simp only at this
  constructor
  · intro h; rw [this, if_pos (by omega)]; rfl
  · intro h; rw [this, if_neg (by omega)]; rfl
theorem last_ge (x cb : Int) (k : Nat) (x0 : 0 ≤ x) (x1 : x ≤ 18446744073709551615) (hk : 0 < k) (hk9 : k ≤ 9) (h0 : 0 < cb) (h1 : cb < 128) (h9 : k = 9 → cb ≤ 1) :
    128 ≤ bits .or .u64 x (IntKind.u64.wrap (IntKind.u64.wrap (bits .and .u8 cb 127) * 2 ^ (7 * k))) := by
  obtain ⟨n, rfl⟩ : ∃ n : Nat, cb = n := ⟨cb.toNat, by omega⟩
  have hb := bits127 ⟨n, by omega⟩
  simp only at hb
  rw [hb, show IntKind.u64.wrap (n : Int) = n by rw [IntKind.wrap_u64]; omega]
  have hw : 128 ≤ IntKind.u64.wrap ((n : Int) * 2 ^ (7 * k)) := by
    rw [IntKind.wrap_u64]
    rcases (show k = 1 ∨ k = 2 ∨ k = 3 ∨ k = 4 ∨ k = 5 ∨ k = 6 ∨ k = 7 ∨ k = 8 ∨ k = 9 by omega) with rfl | rfl | rfl | rfl | rfl | rfl | rfl | rfl | rfl
    all_goals simp only [Nat.reduceMul, Int.reducePow]
    all_goals omega
  have hbd := wrap_bd ((n : Int) * 2 ^ (7 * k))
  have := or_bd x _ x0 x1 hbd.1 hbd.2
  omega
set_option maxRecDepth 100000 in
set_option maxHeartbeats 4000000 in
theorem number_multi {W : World} {B : Nat} {ad : Option Addr} {cap n : Nat} {L : List Int} {p : Nat} (h : Rdr W B ad cap n L p) (hn : n ≤ 1000000) (hB : Byt L) (hp : p < n) (h1 : 128 ≤ L.getD p 0) :
    Calls Tryd.prog 57 #[.pointer (some ⟨B, 0, none⟩)] W fun r w' => (r = .returned (.tuple #[.int .u64 0, .int .i64 4]) ∨ ∃ v : Int, 128 ≤ v ∧ v ≤ 18446744073709551615 ∧ r = .returned (.tuple #[.int .u64 v, .int .i64 0])) ∧ (∃ q, Rdr w' B ad cap n L q) ∧ W.grownBy w' (some B) := by
  have c0 := h.c0
  have c1 := h.c1
  have f1 := h.f1
  have H := Lib.hid h
  have hi : (n : Int) ≤ 1000000 := by omega
  have hj : (p : Int) ≤ (n : Int) := by omega
  obtain ⟨a', c', s', l'⟩ := h.here.lo eltB n p h.len (by omega)
  obtain ⟨m, hm⟩ : ∃ m, n - p = m := ⟨_, rfl⟩
  rw [hm] at s'
  have hlm : (L.drop p).length = m := by rw [List.length_drop, h.len, hm]
  have HB := Lib.hid (hB.drop p)
  have HC := Lib.hid (show 128 ≤ (L.drop p).getD 0 0 by simpa [List.getD, List.getElem?_drop] using h1)
  have HLM := Lib.hid hlm
  have HL' := Lib.hid l'
  have HM := Lib.hid hm
  have hpn := Lib.hid hp
  have hmi : (m : Int) ≤ 1000000 := by omega
  clear h hm h1 l' hp hlm hB
  generalize L.drop p = D at *
  go_enter Tryd.func57, Tryd.ntmps57
  go_wp2_with fail
  go_step3
  go_wp2_with fail
  refine (none_law H.out).mono ?_; rintro e w' ⟨rfl, rfl⟩
  go_wp2_with fail
  go_step3
  go_wp2_with fail
  go_quiet (fail)
  go_wp2_with fail
  go_loopw [4, 19] (fun v i wr => ∃ (k : Nat) (x : Int), k ≤ m ∧ k ≤ 9 ∧ v = .int .u64 x ∧ i = .int .i64 (k : Int) ∧ Hid (0 ≤ x ∧ x ≤ 18446744073709551615) ∧ Below W.heap.size W wr) (fun _ i _ => m - (intOf i).toNat)
  case atStart => exact ⟨0, 0, by omega, by omega, rfl, rfl, Lib.hid (by omega), below_drewN (Below.refl _ _) _⟩
  case round =>
    obtain ⟨k, x, hk, hk9, rfl, rfl, hx, BW⟩ := hrel
    by_cases hlt : k < m
    · have hkl : (k : Int) < (m : Int) := by omega
      obtain ⟨b1, o1, e1, d1⟩ := HL'.out.get k (by rw [HLM.out]; exact hlt)
      have d2 := (BW.cell (p := ⟨b1, o1 + k, none⟩) (World.block_lt_of_cell? W _ d1)).trans d1
      obtain ⟨cb0, cb1⟩ := HB.out.get k (by rw [HLM.out]; exact hlt)
      obtain ⟨cb, hcb⟩ : ∃ cb, D.getD k 0 = cb := ⟨_, rfl⟩
      rw [hcb] at d2 cb0 cb1
      have HCB := Lib.hid hcb
      have HR := H.out.below BW
      have r1 := HR.c1
      have g1 := HR.f1
      have HH := Lib.hid HR
      have BB := Lib.hid BW
      clear hcb d1 c0 c1 f1 HR BW
      obtain ⟨tb1, tb2⟩ := top_bit cb cb0 cb1
      have hob := or_bd x _ hx.out.1 hx.out.2 (wrap_bd (IntKind.u64.wrap (bits .and .u8 cb 127) * 2 ^ (7 * k))).1 (wrap_bd (IntKind.u64.wrap (bits .and .u8 cb 127) * 2 ^ (7 * k))).2
      have hlg := fun a b c d e => last_ge x cb k hx.out.1 hx.out.2 a b c d e
      obtain ⟨y, hy⟩ : ∃ y, bits .or .u64 x (IntKind.u64.wrap (IntKind.u64.wrap (bits .and .u8 cb 127) * 2 ^ (7 * k))) = y := ⟨_, rfl⟩
      rw [hy] at hob hlg
      have HOB := Lib.hid hob
      have hk9i : (k : Int) ≤ 9 := by omega
      subst e1
      clear hob
      by_cases hz : 0 < k ∧ cb = 0
      · have k1 : (0 : Int) < (k : Int) := by omega
        have k2 : (cb == 0) = true := by simp; omega
        clear tb1 tb2 hlg hy hz
        go_wp2_with fail
        try rw [Exit.noGoto_ret]
        go_ret2
        exact ⟨.inl rfl, ⟨_, HH.out⟩, oth_below B BB.out⟩
      by_cases h9 : k = 9 ∧ 1 < cb
      · have k1 : (0 : Int) < (k : Int) := by omega
        have k2 : (cb == 0) = false := by simp; omega
        have k3 : ((k : Int) == 9) = true := by simp; omega
        have k4 : (1 : Int) < cb := by omega
        clear tb1 tb2 hlg hy hz h9
        go_wp2_with fail
        try rw [Exit.noGoto_ret]
        go_ret2
        exact ⟨.inl rfl, ⟨_, HH.out⟩, oth_below B BB.out⟩
      by_cases hk0 : k = 0
      · have h128 : 128 ≤ cb := by have h1 := HC.out; have h2 := HCB.out; rw [hk0] at h2; omega
        have tb := tb2 h128
        subst hk0
        rw [Nat.add_zero] at d2
        have hkl0 : (0 : Int) < (m : Int) := by omega
        clear tb1 tb2 hlg hz h9 h128 hy hkl hk9i
        go_wp2_with fail
        go_roundw
        case rel =>
          refine ⟨1, _, by omega, by omega, rfl, by go_num, Lib.hid ?_, BB.out⟩
          exact ⟨(or_bd _ _ hx.out.1 hx.out.2 (wrap_bd _).1 (wrap_bd _).2).1, (or_bd _ _ hx.out.1 hx.out.2 (wrap_bd _).1 (wrap_bd _).2).2.1⟩
        case measure => simp [intOf]; omega
      have k1 : (0 : Int) < (k : Int) := by omega
      have k2 : (cb == 0) = false := by simp; omega
      by_cases h128 : cb < 128
      · have tb := tb1 h128
        have HY := Lib.hid (hlg (by omega) (by omega) (by omega) h128 (by omega))
        have hpa : (p : Int) + ((k : Int) + 1) = ((p + k + 1 : Nat) : Int) := by omega
        have hp2 : IntKind.i64.wrap ((p : Int) + ((k : Int) + 1)) = (p : Int) + ((k : Int) + 1) := by rw [IntKind.wrap_i64]; omega
        have hp3 : IntKind.i64.wrap ((k : Int) + 1) = (k : Int) + 1 := by rw [IntKind.wrap_i64]; omega
        have hmv := Lib.hid (HH.out.move (p + k + 1) (by have := HM.out; omega))
        have HPA := Lib.hid hpa
        clear hpa
        by_cases h99 : k = 9
        · have k3 : ((k : Int) == 9) = true := by simp; omega
          have k4 : ¬ (1 : Int) < cb := by omega
          clear tb1 tb2 hlg hz h9 h99 h128
          go_wp2_with fail
          try rw [Exit.noGoto_ret]
          go_ret2
          have h5 := hmv.out
          rw [← HPA.out] at h5
          exact ⟨.inr ⟨y, HY.out, HOB.out.2.1, rfl⟩, ⟨_, h5⟩, oth_trans (oth_below B BB.out) (oth_set _ _ _ _)⟩
        · have k3 : ((k : Int) == 9) = false := by simp; omega
          clear tb1 tb2 hlg hz h9 h99 h128
          go_wp2_with fail
          try rw [Exit.noGoto_ret]
          go_ret2
          have h5 := hmv.out
          rw [← HPA.out] at h5
          exact ⟨.inr ⟨y, HY.out, HOB.out.2.1, rfl⟩, ⟨_, h5⟩, oth_trans (oth_below B BB.out) (oth_set _ _ _ _)⟩
      · have tb := tb2 (by omega)
        have h99 : k < 9 := by omega
        have k3 : ((k : Int) == 9) = false := by simp; omega
        clear tb1 tb2 hlg hz h9 h128
        go_wp2_with fail
        go_roundw
        case rel => exact ⟨k + 1, y, by omega, by omega, rfl, by go_num, Lib.hid ⟨HOB.out.1, HOB.out.2.1⟩, BB.out⟩
        case measure => simp [intOf]; omega
    · have hkl : ¬ (k : Int) < (m : Int) := by omega
      have HH := Lib.hid (H.out.below BW)
      have BB := Lib.hid BW
      clear c0 c1 f1 BW
      go_wp2_with fail
      try rw [Exit.noGoto_ret]
      go_ret2
      exact ⟨.inl rfl, ⟨_, HH.out⟩, oth_below B BB.out⟩
end Go.Proofs.YtkgcbhpgkcfkhaaDoor
