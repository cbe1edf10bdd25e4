/- The reference's May, Number, Bytes, by contracts; the size of a row bounds its fields. -/
import Derived.Test.YtkgcbhpgkcfkhaaSiz
import Derived.ProofKit
namespace Go.Proofs.Ytkgcbhpgkcfkhaa
open Go.ChangeShapes Go.WideShapes Go.ChangeAt Go.RowKit
set_option linter.unusedVariables false
set_option linter.unusedSimpArgs false

def SzC (r : Ending) (R : List P1) (n : Nat) : Prop := ∃ s : Nat, r = .returned (.int .i64 (s : Int)) ∧ n ≤ s ∧ (s ≤ 9000 → ∀ p ∈ R, p.bs.length ≤ 9000)
set_option maxRecDepth 100000 in
set_option maxHeartbeats 1000000 in
theorem sizes_law (a : Option Addr) (R : List P1) (n cap : Nat) (hn : R.length = n) (w : World) (hR : RdR w a R) :
    Calls Try.prog 12 #[.slice a n cap] w fun r w' => SzC r R n ∧ w = w' := by
  have HR := Lib.hid hR
  have HN := Lib.hid hn
  clear hR hn
  go_enter Try.func12, Try.ntmps12
  go_wp2_with fail
  go_loopw [3, 4] (fun x i wr => ∃ k s : Nat, k ≤ n ∧ i = .int .i64 k ∧ x = .int .i64 s ∧ n ≤ s ∧ (s ≤ 9000 → ∀ j < k, ∀ p, R[j]? = some p → p.bs.length ≤ 9000) ∧ w = wr) (fun _ i _ => n - (intOf i).toNat)
  case atStart => exact ⟨0, n, by omega, rfl, rfl, by omega, fun _ j hj => absurd hj (by omega), rfl⟩
  case round =>
    obtain ⟨k, s, hk, rfl, rfl, hs, hpre, rfl⟩ := hrel
    have HP := Lib.hid hpre
    clear hpre
    by_cases hlt : k < n
    · have hkl : (k : Int) < (n : Int) := by omega
      by_cases hs2 : s < 1048576
      · have hsl : (s : Int) < 1048576 := by omega
        have hs9 : (s : Int) ≤ 1048576 := by omega
        obtain ⟨p, hp⟩ : ∃ p, R[k]? = some p := ⟨_, List.getElem?_eq_getElem (by rw [HN.out]; exact hlt)⟩
        obtain ⟨b1, o1, e1, c1, l1⟩ := HR.out k p hp
        subst e1
        have c2 : w.cell? ⟨b1, o1 + k, none⟩ = some (.slice p.ad p.bs.length p.cap) := c1
        obtain ⟨m, hm⟩ : ∃ m, p.bs.length = m := ⟨_, rfl⟩
        rw [hm] at c2
        have HM := Lib.hid hm
        have HPP := Lib.hid hp
        clear c1 hp hm l1
        by_cases hm2 : m < 1048576
        · have hml : (m : Int) < 1048576 := by omega
          have HX := Lib.hid (show s + m ≤ 9000 → ∀ j < k + 1, ∀ p, R[j]? = some p → p.bs.length ≤ 9000 from fun h => jstep (HP.out (by omega)) (fun p' hp' => by have := HPP.out; rw [hp'] at this; cases this; have := HM.out; omega))
          go_wp2_with fail
          go_roundw
          case rel => exact ⟨k + 1, s + m, by omega, by go_num, by go_num, by omega, HX.out, trivial⟩
          case measure => simp [intOf]; omega
        · have hml : ¬ (m : Int) < 1048576 := by omega
          have HX := Lib.hid (show s + 1048576 ≤ 9000 → ∀ j < k + 1, ∀ p, R[j]? = some p → p.bs.length ≤ 9000 from fun h => absurd h (by omega))
          go_wp2_with fail
          go_roundw
          case rel => exact ⟨k + 1, s + 1048576, by omega, by go_num, by go_num, by omega, HX.out, trivial⟩
          case measure => simp [intOf]; omega
      · have hsl : ¬ (s : Int) < 1048576 := by omega
        have HX := Lib.hid (show s ≤ 9000 → ∀ p ∈ R, p.bs.length ≤ 9000 from fun h => absurd h (by omega))
        go_wp2_with fail
        go_ret
        exact ⟨⟨s, rfl, hs, HX.out⟩, rfl⟩
    · have hkl : ¬ (k : Int) < (n : Int) := by omega
      have HX := Lib.hid (show s ≤ 9000 → ∀ p ∈ R, p.bs.length ≤ 9000 from fun h p hp => by
        obtain ⟨j, hj, e⟩ := List.mem_iff_getElem.1 hp
        exact HP.out h j (by have := HN.out; omega) p (by rw [List.getElem?_eq_getElem hj, e]))
      go_wp2_with fail
      go_ret
      exact ⟨⟨s, rfl, hs, HX.out⟩, rfl⟩
theorem mayR_no {R : List P1} (h : allB R = false) : mayR R = false := by simp [mayR, h]
theorem mayR_big {R : List P1} {n : Nat} (hn : R.length = n) (h : 3 < n) : mayR R = false := by
  have : mayR R ≠ true := fun e => by have := ((mayR_iff R).1 e).2.2; omega
  simpa using this
theorem mayR_none {R : List P1} {n : Nat} (hn : R.length = n) (h : n < 1) : mayR R = false := by
  have : mayR R ≠ true := fun e => by have := ((mayR_iff R).1 e).2.1; omega
  simpa using this
set_option maxRecDepth 100000 in
set_option maxHeartbeats 1000000 in
theorem refmay_law (a : Option Addr) (R : List P1) (n cap : Nat) (hn : R.length = n) (w : World) (hR : RdR w a R) :
    Calls Try.prog 19 #[.slice a n cap] w fun r w' => r = .returned (.bool (mayR R)) ∧ w = w' := by
  have HR := Lib.hid hR
  have HN := Lib.hid hn
  clear hR hn
  go_enter Try.func19, Try.ntmps19
  go_wp2_with fail
  go_loopw [3] (fun i wr => ∃ k : Nat, k ≤ n ∧ k ≤ 4 ∧ i = .int .i64 k ∧ (∀ j < k, ∀ p, R[j]? = some p → p.bs.length ≤ 24) ∧ w = wr) (fun i _ => n - (intOf i).toNat)
  case atStart => exact ⟨0, by omega, by omega, rfl, fun j hj => absurd hj (by omega), rfl⟩
  case round =>
    obtain ⟨k, hk, hk4, rfl, hpre, rfl⟩ := hrel
    have HP := Lib.hid hpre
    clear hpre
    by_cases hlt : k < n
    · have hkl : (k : Int) < (n : Int) := by omega
      by_cases h4 : k < 4
      · have hk4l : (k : Int) < 4 := by omega
        obtain ⟨p, hp⟩ : ∃ p, R[k]? = some p := ⟨_, List.getElem?_eq_getElem (by rw [HN.out]; exact hlt)⟩
        obtain ⟨b1, o1, e1, c1, l1⟩ := HR.out k p hp
        subst e1
        have c2 : w.cell? ⟨b1, o1 + k, none⟩ = some (.slice p.ad p.bs.length p.cap) := c1
        obtain ⟨m, hm⟩ : ∃ m, p.bs.length = m := ⟨_, rfl⟩
        rw [hm] at c2
        have HM := Lib.hid hm
        have HPP := Lib.hid hp
        clear c1 hp hm l1
        by_cases hm2 : 24 < m
        · have hml : (24 : Int) < (m : Int) := by omega
          have HA := Lib.hid (mayR_no (allB_not HPP.out (by rw [HM.out]; omega)))
          go_wp2_with fail
          go_ret
          exact ⟨ret_bool HA.out.symm, rfl⟩
        · have hml : ¬ (24 : Int) < (m : Int) := by omega
          go_wp2_with fail
          go_roundw
          case rel => exact ⟨k + 1, by omega, by omega, by go_num, jstep HP.out (fun p' hp' => by have := HPP.out; rw [hp'] at this; cases this; have := HM.out; omega), trivial⟩
          case measure => simp [intOf]; omega
      · have hk4l : ¬ (k : Int) < 4 := by omega
        have HA := Lib.hid (mayR_big HN.out (by omega))
        have h1 : (1 : Int) ≤ (n : Int) := by omega
        have h3 : ¬ (n : Int) ≤ 3 := by omega
        go_wp2_with fail
        go_ret
        exact ⟨ret_bool HA.out.symm, rfl⟩
    · have hkl : ¬ (k : Int) < (n : Int) := by omega
      by_cases h1 : 1 ≤ n
      · have h1i : (1 : Int) ≤ (n : Int) := by omega
        by_cases h3 : n ≤ 3
        · have h3i : (n : Int) ≤ 3 := by omega
          have HA := Lib.hid (show mayR R = true from (mayR_iff R).2 ⟨fun p hp => by
            obtain ⟨j, hj, e⟩ := List.mem_iff_getElem.1 hp
            exact HP.out j (by have := HN.out; omega) p (by rw [List.getElem?_eq_getElem hj, e]), by have := HN.out; omega, by have := HN.out; omega⟩)
          go_wp2_with fail
          go_ret
          exact ⟨ret_bool HA.out.symm, rfl⟩
        · have h3i : ¬ (n : Int) ≤ 3 := by omega
          have HA := Lib.hid (mayR_big HN.out (by omega))
          go_wp2_with fail
          go_ret
          exact ⟨ret_bool HA.out.symm, rfl⟩
      · have h1i : ¬ (1 : Int) ≤ (n : Int) := by omega
        have HA := Lib.hid (mayR_none HN.out (by omega))
        go_wp2_with fail
        go_ret
        exact ⟨ret_bool HA.out.symm, rfl⟩
set_option maxRecDepth 100000 in
set_option maxHeartbeats 1000000 in
theorem rnumber_own (n : Nat) (h : n ≤ 127) (w : World) :
    Calls Try.prog 71 #[.int .u64 (n : Int)] w fun r w' => ∃ a' c', r = .returned (.slice a' 1 c') ∧ w'.ownsRow w.heap.size 5 1 (.slice a' 1 c') 1 (iv .u8 [(n : Int)]) ∧ Below w.heap.size w w' := by
  have hi : ¬ (127 : Int) < (n : Int) := by omega
  have hj : (n : Int) ≤ 127 := by omega
  go_enter Try.func71, Try.ntmps71
  go_wp2_with fail
  go_loopw [0, 3] (fun p v wr => p = .int .u64 (n : Int) ∧ v = .slice none 0 0 ∧ wr = w) (fun _ _ _ => 0)
  case atStart => exact ⟨rfl, rfl, rfl⟩
  case round =>
    obtain ⟨rfl, rfl, rfl⟩ := hrel
    go_wp2_with (at_builtin; refine append_ls eltB rfl (.tmp 15) (.tmp 18) rfl wr.heap.size (.slice none 0 0) 0 [] rfl (World.ownsRow_nil _ _ _ _) _ _ 1 [(n : Int)] rfl rfl (ls_new .u8 _ [(n : Int)] _ _ _ rfl 1 rfl) (by omega) (by simp) ?_)
    intro v2 w2 hown2 hgrow2
    have B2 := ((Below.refl wr.heap.size wr).alloc (Nat.le_refl _) _).grown hgrow2 (by simp) (fun j hj => by cases hj)
    have hown3 : w2.ownsRow wr.heap.size 5 1 v2 1 (iv .u8 [(n : Int)]) := hown2
    obtain ⟨a', c', rfl, _, _⟩ := own_ls hown3 rfl
    have HO := Lib.hid hown3
    clear hown2 hgrow2 hown3
    go_wp2_with fail
    go_ret
    exact ⟨a', c', rfl, HO.out, B2⟩
set_option maxRecDepth 100000 in
set_option maxHeartbeats 1000000 in
theorem rwbytes_law (a : Option Addr) (L : List Int) (n cap : Nat) (hL : L.length = n) (hn : n ≤ 127) (w : World) (hA : Ls .u8 w a cap L) :
    Calls Try.prog 72 #[.slice a n cap] w fun r w' => ∃ a' c', r = .returned (.slice a' (n + 1) c') ∧ Ls .u8 w' a' c' (wbytesL L) ∧ Below w.heap.size w w' := by
  have HA := Lib.hid hA
  have HL := Lib.hid hL
  have hni : (n : Int) ≤ 127 := by omega
  clear hA hL
  go_enter Try.func72, Try.ntmps72
  go_wp2_with fail
  refine (rnumber_own n hn _).mono ?_; rintro e w1 ⟨a1, c1, rfl, o1, B1⟩
  have hs1 := B1.size
  have HO1 := Lib.hid o1
  clear o1
  go_wp2_with (at_builtin; refine append_ls eltB rfl (.tmp 6) (.tmp 7) rfl w.heap.size _ 1 (iv .u8 [(n : Int)]) rfl HO1.out _ _ n L HL.out rfl (HA.out.below B1) (by omega) hs1 ?_)
  intro v2 w2 hown2 hgrow2
  rw [← iv_append] at hown2
  have B2 := B1.grown hgrow2 hs1 (fun j hj => (HO1.out.lt j hj).1)
  obtain ⟨a', c', rfl, l', _⟩ := own_ls hown2 (by simp [HL.out]; omega)
  have l2 : Ls .u8 w2 a' c' (wbytesL L) := by rw [wbytesL, HL.out]; exact l'
  have e1 : 1 + n = n + 1 := by omega
  have HL2 := Lib.hid l2
  clear hown2 hgrow2 l' l2
  rw [e1]
  go_wp2_with fail
  go_ret
  exact ⟨a', c', rfl, HL2.out, B2⟩
set_option maxRecDepth 100000 in
set_option maxHeartbeats 2000000 in
theorem refbytes_law (a : Option Addr) (R : List P1) (n cap : Nat) (hn : R.length = n) (hm : mayR R = true) (w : World) (hR : RdR w a R) :
    Calls Try.prog 26 #[.slice a n cap] w fun r w' => (∃ a' c', r = .returned (.slice a' (rbytesL R).length c') ∧ Ls .u8 w' a' c' (rbytesL R)) ∧ Below w.heap.size w w' := by
  obtain ⟨hs, _, hn3⟩ := (mayR_iff R).1 hm
  rw [hn] at hn3
  have HR := Lib.hid hR
  have HN := Lib.hid hn
  have HS := Lib.hid hs
  have HT := Lib.hid (manyL_len R hs)
  have hni : (n : Int) ≤ 3 := by omega
  clear hR hn hs hm
  go_enter Try.func26, Try.ntmps26
  go_wp2_with fail
  refine (rnumber_own n (by omega) _).mono ?_; rintro e w1 ⟨a1, c1, rfl, o1, B1⟩
  have O1 : w1.ownsRow w.heap.size 5 1 (.slice a1 1 c1) (1 + (manyL (R.take 0)).length) (iv .u8 ((n : Int) :: manyL (R.take 0))) := o1
  have HO1 := Lib.hid O1
  clear o1 O1
  go_wp2_with fail
  go_loopw [3, 4] (fun v i wr => ∃ k : Nat, k ≤ n ∧ i = .int .i64 k ∧ wr.ownsRow w.heap.size 5 1 v (1 + (manyL (R.take k)).length) (iv .u8 ((n : Int) :: manyL (R.take k))) ∧ Below w.heap.size w wr) (fun _ i _ => n - (intOf i).toNat)
  case atStart => exact ⟨0, by omega, rfl, HO1.out, B1⟩
  case round =>
    clear HO1 B1
    obtain ⟨k, hk, rfl, hown, B⟩ := hrel
    by_cases hlt : k < n
    · have hkl : (k : Int) < (n : Int) := by omega
      obtain ⟨p, hp⟩ : ∃ p, R[k]? = some p := ⟨_, List.getElem?_eq_getElem (by rw [HN.out]; exact hlt)⟩
      obtain ⟨b1, o1, e1, c1, l1⟩ := HR.out.below B k p hp
      subst e1
      have hF2 := manyL_succ R k p hp
      have hle := manyL_take_le R (k + 1)
      have hps := HS.out p (List.mem_of_getElem? hp)
      have hT := HT.out
      rw [HN.out] at hT
      rw [hF2, List.length_append] at hle
      obtain ⟨pa, pc, pb⟩ := p
      simp only at l1 hF2 hle hps
      have c2 : wr.cell? ⟨b1, o1 + k, none⟩ = some (.slice pa pb.length pc) := c1
      obtain ⟨q, hq⟩ : ∃ q, pb.length = q := ⟨_, rfl⟩
      have hwl : (wbytesL pb).length = q + 1 := by rw [← hq]; rfl
      rw [hq] at c2 hps
      obtain ⟨F, hF⟩ : ∃ F, manyL (R.take k) = F := ⟨_, rfl⟩
      rw [hF] at hown hF2 hle
      obtain ⟨m, hm⟩ : ∃ m, F.length = m := ⟨_, rfl⟩
      rw [hm] at hown hle
      rw [hwl] at hle
      have HF2 := Lib.hid hF2
      have HM := Lib.hid hm
      have HQ := Lib.hid hq
      have HWL := Lib.hid hwl
      have HLE := Lib.hid (show m + (q + 1) ≤ 75 by omega)
      have HPS := Lib.hid hps
      have HOWN := Lib.hid hown
      have HL1 := Lib.hid l1
      have hs1 := B.size
      clear c1 hp hF hF2 hm hq hle hown hT hps hwl l1
      go_wp2_with fail
      refine (rwbytes_law pa pb q pc HQ.out (by have := HPS.out; omega) _ HL1.out).mono ?_
      rintro e w2 ⟨a2, c3, rfl, l2, B2⟩
      have hown2 : w2.ownsRow w.heap.size 5 1 _ (1 + m) (iv .u8 ((n : Int) :: F)) := own_kept HOWN.out B2
      have B3 := step_below B B2
      have hs2 := B3.size
      have HO2 := Lib.hid hown2
      clear hown2 HOWN B B2 c2
      go_wp2_with (at_builtin; refine append_ls eltB rfl (.tmp 15) (.tmp 20) rfl w.heap.size _ (1 + m) (iv .u8 ((n : Int) :: F)) rfl HO2.out _ _ (q + 1) (wbytesL pb) HWL.out rfl l2 (by have := HLE.out; omega) hs2 ?_)
      intro v2 w3 hown3 hgrow3
      rw [← iv_append] at hown3
      have B4 := B3.grown hgrow3 hs2 (fun j hj => (HO2.out.lt j hj).1)
      have HOWN3 := Lib.hid hown3
      clear hown3 hgrow3
      go_wp2_with fail
      go_roundw
      case rel => exact ⟨k + 1, by omega, by go_num, by rw [HF2.out, List.length_append, HM.out, HWL.out, ← Nat.add_assoc]; exact HOWN3.out, B4⟩
      case measure => simp [intOf]; omega
    · have hkl : ¬ (k : Int) < (n : Int) := by omega
      have e : k = n := by omega
      subst e
      rw [List.take_of_length_le (by rw [HN.out]; exact Nat.le_refl _)] at hown
      have hrl : (k : Int) :: manyL R = rbytesL R := by rw [rbytesL, HN.out]
      have hrn : 1 + (manyL R).length = (rbytesL R).length := by rw [← hrl, List.length_cons]; omega
      rw [hrl, hrn] at hown
      obtain ⟨a', c', rfl, l', _⟩ := own_ls hown rfl
      obtain ⟨m, hm⟩ : ∃ m, (rbytesL R).length = m := ⟨_, rfl⟩
      rw [hm]
      have HM := Lib.hid hm
      clear hown hrl hrn hm
      go_wp2_with fail
      go_ret
      exact ⟨⟨a', c', by rw [HM.out]; rfl, l'⟩, B⟩
end Go.Proofs.Ytkgcbhpgkcfkhaa
