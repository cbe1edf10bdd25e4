/- The reference's reader, by contracts. -/
import Derived.Test.YtkgcbhpgkcfkhaaDoorGof
namespace Go.Proofs.YtkgcbhpgkcfkhaaDoor
open Go.ChangeShapes Go.WideShapes Go.ChangeAt Go.RowKit
set_option linter.unusedVariables false
set_option linter.unusedSimpArgs false

/-- A reader of the reference's, in its block. -/
structure Rdq (W : World) (B : Nat) (ad : Option Addr) (cap n : Nat) (L : List Int) (at_ : Nat) : Prop where
  len : L.length = n
  c0 : W.cell? ⟨B, 0, none⟩ = some (.slice ad n cap)
  c1 : W.cell? ⟨B, 1, none⟩ = some (.int .i64 (at_ : Int))
  f1 : W.frozen? ⟨B, 1, none⟩ = false
  ls : ∀ W', (0 < n → ∀ k b off, ad = some ⟨b, off, none⟩ → W'.cell? ⟨b, off + k, none⟩ = W.cell? ⟨b, off + k, none⟩) → Ls .u8 W' ad cap L
  le : at_ ≤ n
  apart : 0 < n → ∀ b off, ad = some ⟨b, off, none⟩ → b < B
theorem Rdq.lt {W : World} {B : Nat} {ad : Option Addr} {cap n : Nat} {L : List Int} {p : Nat} (h : Rdq W B ad cap n L p) : B < W.heap.size := World.block_lt_of_cell? W _ h.c0
theorem Rdq.here {W : World} {B : Nat} {ad : Option Addr} {cap n : Nat} {L : List Int} {p : Nat} (h : Rdq W B ad cap n L p) : Ls .u8 W ad cap L := h.ls W fun _ _ _ _ _ => rfl
theorem Rdq.below1 {W W' : World} {B : Nat} {ad : Option Addr} {cap n : Nat} {L : List Int} {p : Nat} (h : Rdq W B ad cap n L p) (b : Below (B + 1) W W') : Rdq W' B ad cap n L p := by
  have hl : B < B + 1 := by omega
  refine ⟨h.len, (b.cell (p := ⟨B, 0, none⟩) hl).trans h.c0, (b.cell (p := ⟨B, 1, none⟩) hl).trans h.c1, (b.frozen (p := ⟨B, 1, none⟩) hl).trans h.f1, fun W2 h2 => ?_, h.le, h.apart⟩
  refine h.ls W2 fun h0 k b' off e => ?_
  rw [h2 h0 k b' off e]
  exact b.cell (p := ⟨b', off + k, none⟩) (by have := h.apart h0 b' off e; simp; omega)
theorem Rdq.below {W W' : World} {B : Nat} {ad : Option Addr} {cap n : Nat} {L : List Int} {p : Nat} (h : Rdq W B ad cap n L p) (b : Below W.heap.size W W') : Rdq W' B ad cap n L p := h.below1 (b.mono h.lt)
theorem Rdq.move {W : World} {B : Nat} {ad : Option Addr} {cap n : Nat} {L : List Int} {p : Nat} (h : Rdq W B ad cap n L p) (q : Nat) (hq : q ≤ n) : Rdq (W.setCell ⟨B, 1, none⟩ (.int .i64 (q : Int))) B ad cap n L q := by
  refine ⟨h.len, ?_, World.cell?_setCell_same W _ _ h.c1, by rw [World.frozen?_setCell]; exact h.f1, fun W2 h2 => ?_, hq, h.apart⟩
  · rw [World.cell?_setCell_other W ⟨B, 1, none⟩ ⟨B, 0, none⟩ _ (fun q => by simp at q)]; exact h.c0
  · refine h.ls W2 fun h0 k b' off e => ?_
    rw [h2 h0 k b' off e]
    have := h.apart h0 b' off e
    exact World.cell?_setCell_other W ⟨B, 1, none⟩ ⟨b', off + k, none⟩ _ (fun q => by simp at q <;> omega)
theorem Rdq.drewN {W : World} {B : Nat} {ad : Option Addr} {cap n : Nat} {L : List Int} {p : Nat} (h : Rdq W B ad cap n L p) (m : Nat) : Rdq (W.drewN m) B ad cap n L p := h.below (below_drewN (Below.refl _ _) _)
set_option maxHeartbeats 1000000 in
theorem qleft_law {W : World} {B : Nat} {ad : Option Addr} {cap n : Nat} {L : List Int} {p : Nat} (h : Rdq W B ad cap n L p) (hn : n ≤ 1000000) :
    Calls Tryd.prog 30 #[.pointer (some ⟨B, 0, none⟩)] W fun r w' => r = .returned (.int .i64 ((n - p : Nat) : Int)) ∧ Below W.heap.size W w' := by
  have c0 := h.c0
  have c1 := h.c1
  have hle := h.le
  have H := Lib.hid h
  have hi : (n : Int) ≤ 1000000 := by omega
  have hj : (p : Int) ≤ (n : Int) := by omega
  have e : ((n - p : Nat) : Int) = (n : Int) - (p : Int) := by omega
  rw [e]
  clear h e hle
  go_enter Tryd.func30, Tryd.ntmps30
  go_wp2_with fail
  go_quiet (fail)
  go_wp2_with fail
  go_ret
  exact ⟨rfl, below_drewN (Below.refl _ _) _⟩
/-- One more group of seven bits. -/
theorem grp (x cb : Int) (k : Nat) (x0 : 0 ≤ x) (x1 : x < 2 ^ (7 * k)) (hk : k ≤ 9) (h0 : 0 ≤ cb) (h1 : cb ≤ 255) (h9 : k = 9 → cb ≤ 1) :
    ∃ y : Int, IntKind.u64.wrap (cb % 128 * 2 ^ (7 * k)) = y ∧ IntKind.u64.wrap (x + y) = x + y ∧ 0 ≤ x + y ∧ x + y ≤ 18446744073709551615 ∧ (k < 9 → x + y < 2 ^ (7 * (k + 1))) ∧ (0 < cb → cb < 128 → 0 < k → 128 ≤ x + y) ∧ (k = 0 → x + y = cb % 128) := by
  have h99 : k ≤ 8 ∨ cb ≤ 1 := by
    by_cases e : k = 9
    · exact .inr (h9 e)
    · exact .inl (by omega)
  clear h9
  refine ⟨_, rfl, ?_⟩
  simp only [IntKind.wrap_u64]
  rcases (show k = 0 ∨ k = 1 ∨ k = 2 ∨ k = 3 ∨ k = 4 ∨ k = 5 ∨ k = 6 ∨ k = 7 ∨ k = 8 ∨ k = 9 by omega) with rfl | rfl | rfl | rfl | rfl | rfl | rfl | rfl | rfl | rfl
  all_goals simp only [Nat.reduceMul, Nat.reduceAdd, Int.reducePow, Nat.mul_zero, Int.pow_zero] at *
  all_goals omega
/-- What a number that is read is. -/
def QN (L : List Int) (B : Nat) (ad : Option Addr) (cap n p : Nat) (r : Ending) (w' : World) : Prop :=
  (p < n ∧ L.getD p 0 < 128 ∧ r = .returned (.tuple #[.int .u64 (L.getD p 0), .int .i64 0]) ∧ Rdq w' B ad cap n L (p + 1)) ∨
  ((p = n ∨ 128 ≤ L.getD p 0) ∧ r = .returned (.tuple #[.int .u64 0, .int .i64 4]) ∧ Rdq w' B ad cap n L p) ∨
  (p < n ∧ 128 ≤ L.getD p 0 ∧ ∃ v : Int, 128 ≤ v ∧ v ≤ 18446744073709551615 ∧ r = .returned (.tuple #[.int .u64 v, .int .i64 0]) ∧ ∃ q, Rdq w' B ad cap n L q)
set_option maxRecDepth 100000 in
set_option maxHeartbeats 4000000 in
theorem qnumber {W : World} {B : Nat} {ad : Option Addr} {cap n : Nat} {L : List Int} {p : Nat} (h : Rdq W B ad cap n L p) (hn : n ≤ 1000000) (hB : Byt L) :
    Calls Tryd.prog 28 #[.pointer (some ⟨B, 0, none⟩)] W fun r w' => QN L B ad cap n p r w' ∧ W.grownBy w' (some B) := by
  have H := Lib.hid h
  have HB := Lib.hid hB
  have hni : (n : Int) ≤ 1000000 := by omega
  have hpn := h.le
  have hpi : (p : Int) ≤ (n : Int) := by omega
  clear h hB
  go_enter Tryd.func28, Tryd.ntmps28
  go_wp2_with fail
  go_loopw [4, 5] (fun v i wr => ∃ (k : Nat) (x : Int), k ≤ 10 ∧ p + k ≤ n ∧ v = .int .u64 x ∧ i = .int .i64 (k : Int) ∧ Hid (0 ≤ x ∧ (k ≤ 9 → x < 2 ^ (7 * k)) ∧ (k = 0 → x = 0) ∧ (0 < k → 128 ≤ L.getD p 0)) ∧ Below W.heap.size W wr) (fun _ i _ => 10 - (intOf i).toNat)
  case atStart => exact ⟨0, 0, by omega, by omega, rfl, rfl, Lib.hid ⟨by omega, fun _ => by simp, fun _ => rfl, fun h => absurd h (by omega)⟩, Below.refl _ _⟩
  case round =>
    obtain ⟨k, x, hk, hkn, rfl, rfl, hx, BW⟩ := hrel
    have hR := H.out.below BW
    have e0 := hR.c0
    have e1 := hR.c1
    have hki : (k : Int) ≤ 10 := by omega
    have hkni : (p : Int) + (k : Int) ≤ (n : Int) := by omega
    have hw1 : IntKind.i64.wrap ((p : Int) + (k : Int)) = (p : Int) + (k : Int) := by rw [IntKind.wrap_i64]; omega
    have hw0 : 0 ≤ (p : Int) + (k : Int) := by omega
    have hw2 : ((p : Int) + (k : Int)).toNat = p + k := by omega
    by_cases hlt : k < 10 ∧ p + k < n
    · obtain ⟨hk10, hpk⟩ := hlt
      have g1 : (k : Int) < 10 := by omega
      have g2 : (p : Int) + (k : Int) < (n : Int) := by omega
      have g3 : decide ((k : Int) < 10) = true := by simpa using g1
      obtain ⟨b1, o1, ea, d1⟩ := hR.here.get (p + k) (by rw [hR.len]; exact hpk)
      subst ea
      obtain ⟨cb0, cb1⟩ := HB.out.get (p + k) (by rw [hR.len]; exact hpk)
      obtain ⟨cb, hcb⟩ : ∃ cb, L.getD (p + k) 0 = cb := ⟨_, rfl⟩
      rw [hcb] at d1 cb0 cb1
      have HCB := Lib.hid hcb
      have HR := Lib.hid hR
      have BB := Lib.hid BW
      clear hcb hR BW
      have r1 := HR.out.c1
      have g1' := HR.out.f1
      have hk9i : (k : Int) ≤ 9 := by omega
      have hk9i : (k : Int) ≤ 9 := by omega
      by_cases hz : 0 < k ∧ cb = 0
      · have k1 : (0 : Int) < (k : Int) := by omega
        have k2 : (cb == 0) = true := by simp; omega
        have k3 : ¬ (1 : Int) < cb := by omega
        have HK := Lib.hid (hx.out.2.2.2 hz.1)
        clear hz
        obtain ⟨bb, hbb⟩ : ∃ bb, ((k : Int) == 9) = bb := ⟨_, rfl⟩
        cases bb
        all_goals
          go_wp2_with fail
          go_quiet (fail)
          go_wp2_with fail
          go_quiet (fail)
          go_wp2_with fail
          try rw [Exit.noGoto_ret]
          go_ret2
          exact ⟨.inr (.inl ⟨.inr HK.out, rfl, HR.out.drewN _⟩), oth_below B (below_drewN BB.out _)⟩
      by_cases h9 : k = 9 ∧ 1 < cb
      · have k1 : (0 : Int) < (k : Int) := by omega
        have k2 : (cb == 0) = false := by simp; omega
        have k3 : ((k : Int) == 9) = true := by simp; omega
        have k4 : (1 : Int) < cb := by omega
        have HK := Lib.hid (hx.out.2.2.2 (by omega))
        clear hz h9
        go_wp2_with fail
        go_quiet (fail)
        go_wp2_with fail
        go_quiet (fail)
        go_wp2_with fail
        try rw [Exit.noGoto_ret]
        go_ret2
        exact ⟨.inr (.inl ⟨.inr HK.out, rfl, HR.out.drewN _⟩), oth_below B (below_drewN BB.out _)⟩
      obtain ⟨y, y1, y2, y3, y4, y5, y6, y7⟩ := grp x cb k hx.out.1 (hx.out.2.1 (by omega)) (by omega) cb0 cb1 (fun e => by omega)
      have HY5 := Lib.hid y5
      have HY6 := Lib.hid y6
      have HY7 := Lib.hid y7
      clear y5 y6 y7
      have hp2 : IntKind.i64.wrap ((p : Int) + (k : Int) + 1) = (p : Int) + (k : Int) + 1 := by rw [IntKind.wrap_i64]; omega
      have hp3 : IntKind.i64.wrap ((k : Int) + 1) = (k : Int) + 1 := by rw [IntKind.wrap_i64]; omega
      have HPA := Lib.hid (show (p : Int) + (k : Int) + 1 = ((p + k + 1 : Nat) : Int) by omega)
      have hmv := Lib.hid (fun w (hr : Rdq w B (some ⟨b1, o1, none⟩) cap n L p) => hr.move (p + k + 1) (by omega))
      have hK0 := Lib.hid (show k = 0 → cb = L.getD p 0 from fun e => by have := HCB.out; rw [e] at this; exact this.symm)
      have h70 : (0 : Int) ≤ 7 * (k : Int) := by omega
      have h7k : (7 * (k : Int)).toNat = 7 * k := by omega
      have h7w : IntKind.i64.wrap (7 * (k : Int)) = 7 * (k : Int) := by rw [IntKind.wrap_i64]; omega
      have K := Lib.hid (show (k = 0 ∧ ¬ (0 : Int) < (k : Int) ∧ ((k : Int) == 9) = false) ∨ (0 < k ∧ k < 9 ∧ (0 : Int) < (k : Int) ∧ (cb == 0) = false ∧ ((k : Int) == 9) = false) ∨ (k = 9 ∧ (0 : Int) < (k : Int) ∧ (cb == 0) = false ∧ ((k : Int) == 9) = true ∧ ¬ (1 : Int) < cb) by
        by_cases e0 : k = 0
        · left; exact ⟨e0, by omega, by simp; omega⟩
        · have hc : (cb == 0) = false := by simp; exact fun h => hz ⟨by omega, h⟩
          right
          by_cases e9 : k = 9
          · right; exact ⟨e9, by omega, hc, by simp; omega, fun h => h9 ⟨e9, h⟩⟩
          · left; exact ⟨by omega, by omega, by omega, hc, by simp; omega⟩)
      by_cases h128 : cb < 128
      · have HF := Lib.hid (show (k = 0 ∧ L.getD p 0 < 128 ∧ L.getD p 0 = x + y) ∨ (0 < k ∧ 128 ≤ L.getD p 0 ∧ 128 ≤ x + y) from by
          by_cases e : k = 0
          · left
            have h1 := hK0.out e
            have h2 := HY7.out e
            exact ⟨e, by omega, by rw [← h1, h2]; omega⟩
          · right
            have h1 := hx.out.2.2.2 (by omega)
            have : cb ≠ 0 := fun h0 => hz ⟨by omega, h0⟩
            exact ⟨by omega, h1, HY6.out (by omega) h128 (by omega)⟩)
        have HF2 := Lib.hid (show ∀ w', Rdq w' B (some ⟨b1, o1, none⟩) cap n L (p + k + 1) → QN L B (some ⟨b1, o1, none⟩) cap n p (.returned (.tuple #[.int .u64 (x + y), .int .i64 0])) w' from fun w' hr => by
          rcases HF.out with ⟨rfl, h1, h2⟩ | ⟨h0, h1, h2⟩
          · exact .inl ⟨by omega, h1, by rw [h2], hr⟩
          · exact .inr (.inr ⟨by omega, h1, _, h2, y4, rfl, _, hr⟩))
        clear hz h9
        rcases K.out with ⟨q0, q1, q2⟩ | ⟨q0, q00, q1, q2, q3⟩ | ⟨q0, q1, q2, q3, q4⟩
        all_goals
          try clear q0
          try clear q00
          go_wp2_with fail
          go_quiet (fail)
          go_wp2_with fail
          go_quiet (fail)
          go_wp2_with fail
          try rw [Exit.noGoto_ret]
          go_ret2
          refine ⟨HF2.out _ ?_, oth_trans (oth_below B (below_drewN BB.out _)) (oth_set _ _ _ _)⟩
          rw [HPA.out]
          exact hmv.out _ (HR.out.drewN _)
      · clear hz h9
        rcases K.out with ⟨q0, q1, q2⟩ | ⟨q0, q00, q1, q2, q3⟩ | ⟨q0, q1, q2, q3, q4⟩
        · have HI := Lib.hid (show 0 ≤ x + y ∧ (k + 1 ≤ 9 → x + y < 2 ^ (7 * (k + 1))) ∧ (k + 1 = 0 → x + y = 0) ∧ (0 < k + 1 → 128 ≤ L.getD p 0) from ⟨y3, fun _ => HY5.out (by omega), fun h => absurd h (by omega), fun _ => by have := hK0.out q0; omega⟩)
          clear q0
          go_wp2_with fail
          go_quiet (fail)
          go_wp2_with fail
          go_quiet (fail)
          go_wp2_with fail
          go_roundw
          case rel => exact ⟨k + 1, x + y, by omega, by omega, rfl, by go_num, HI, below_drewN BB.out _⟩
          case measure => simp [intOf]; omega
        · have HI := Lib.hid (show 0 ≤ x + y ∧ (k + 1 ≤ 9 → x + y < 2 ^ (7 * (k + 1))) ∧ (k + 1 = 0 → x + y = 0) ∧ (0 < k + 1 → 128 ≤ L.getD p 0) from ⟨y3, fun _ => HY5.out (by omega), fun h => absurd h (by omega), fun _ => hx.out.2.2.2 (by omega)⟩)
          clear q0 q00
          go_wp2_with fail
          go_quiet (fail)
          go_wp2_with fail
          go_quiet (fail)
          go_wp2_with fail
          go_roundw
          case rel => exact ⟨k + 1, x + y, by omega, by omega, rfl, by go_num, HI, below_drewN BB.out _⟩
          case measure => simp [intOf]; omega
        · exact absurd h128 (by omega)
    · have HR := Lib.hid hR
      have BB := Lib.hid BW
      have HP := Lib.hid (show p = n ∨ 128 ≤ L.getD p 0 by
        by_cases e : k = 0
        · left; omega
        · right; exact hx.out.2.2.2 (by omega))
      clear hR BW
      by_cases h10 : k < 10
      · have g1 : (k : Int) < 10 := by omega
        have g2 : ¬ (p : Int) + (k : Int) < (n : Int) := by omega
        have g3 : decide ((k : Int) < 10) = true := by simpa using g1
        clear hlt
        go_wp2_with fail
        go_quiet (fail)
        go_wp2_with fail
        try rw [Exit.noGoto_ret]
        go_ret2
        exact ⟨.inr (.inl ⟨HP.out, rfl, HR.out.drewN _⟩), oth_below B (below_drewN BB.out _)⟩
      · have g1 : ¬ (k : Int) < 10 := by omega
        have g3 : decide ((k : Int) < 10) = false := by simpa using g1
        clear hlt
        go_wp2_with fail
        go_quiet (fail)
        go_wp2_with fail
        try rw [Exit.noGoto_ret]
        go_ret2
        exact ⟨.inr (.inl ⟨HP.out, rfl, HR.out.drewN _⟩), oth_below B (below_drewN BB.out _)⟩
end Go.Proofs.YtkgcbhpgkcfkhaaDoor
