/- The size of a row, and rows compared by the reference, by contracts. -/
import Derived.Test.YtkgcbhpgkcfkhaaSam
import Derived.ProofKit
import Derived.BigQuiet
namespace Go.Proofs.Ytkgcbhpgkcfkhaa
open Go.ChangeShapes Go.WideShapes Go.ChangeAt Go.RowKit
set_option linter.unusedVariables false
set_option linter.unusedSimpArgs false

def SzB (r : Ending) (n : Nat) : Prop := ∃ s : Nat, r = .returned (.int .i64 (s : Int)) ∧ n ≤ s
set_option maxRecDepth 100000 in
set_option maxHeartbeats 1000000 in
theorem size_law (a : Option Addr) (R : List P1) (n cap : Nat) (hn : R.length = n) (w : World) (hR : RdR w a R) :
    Calls Try.prog 12 #[.slice a n cap] w fun r w' => SzB r n ∧ w = w' := by
  have HR := Lib.hid hR
  have HN := Lib.hid hn
  clear hR hn
  go_enter Try.func12, Try.ntmps12
  go_wp2_with fail
  go_loopw [3, 4] (fun x i wr => ∃ k s : Nat, k ≤ n ∧ i = .int .i64 k ∧ x = .int .i64 s ∧ n ≤ s ∧ w = wr) (fun _ i _ => n - (intOf i).toNat)
  case atStart => exact ⟨0, n, by omega, rfl, rfl, by omega, rfl⟩
  case round =>
    obtain ⟨k, s, hk, rfl, rfl, hs, rfl⟩ := hrel
    by_cases hlt : k < n
    · have hkl : (k : Int) < (n : Int) := by omega
      by_cases hs2 : s < 1048576
      · have hsl : (s : Int) < 1048576 := by omega
        have hs9 : (s : Int) ≤ 1048576 := by omega
        obtain ⟨p, hp⟩ : ∃ p, R[k]? = some p := ⟨_, List.getElem?_eq_getElem (by rw [HN.out]; exact hlt)⟩
        obtain ⟨b1, o1, e1, c1, l1⟩ := HR.out k p hp
        subst e1
        have c2 : w.cell? ⟨b1, o1 + k, none⟩ = some (.slice p.ad p.bs.length p.cap) := c1
        obtain ⟨m, hm⟩ : ∃ m, p.bs.length = m := ⟨_, rfl⟩
        rw [hm] at c2
        clear c1 hp hm l1
        by_cases hm2 : m < 1048576
        · have hml : (m : Int) < 1048576 := by omega
          go_wp2_with fail
          go_roundw
          case rel => exact ⟨k + 1, s + m, by omega, by go_num, by go_num, by omega, trivial⟩
          case measure => simp [intOf]; omega
        · have hml : ¬ (m : Int) < 1048576 := by omega
          go_wp2_with fail
          go_roundw
          case rel => exact ⟨k + 1, s + 1048576, by omega, by go_num, by go_num, by omega, trivial⟩
          case measure => simp [intOf]; omega
      · have hsl : ¬ (s : Int) < 1048576 := by omega
        go_wp2_with fail
        go_ret
        exact ⟨⟨s, rfl, hs⟩, rfl⟩
    · have hkl : ¬ (k : Int) < (n : Int) := by omega
      go_wp2_with fail
      go_ret
      exact ⟨⟨s, rfl, hs⟩, rfl⟩
theorem eqB_take {R S : List P1} {n : Nat} (hn : R.length = n) (hm : S.length = n) (h : ∀ j < n, ∀ p q, R[j]? = some p → S[j]? = some q → p.bs = q.bs) : eqB R S = true := decide_eq_true (by
  apply List.ext_getElem
  · simp [hn, hm]
  · intro i h1 h2
    simp at h1 h2
    simp
    exact h i (by omega) _ _ (List.getElem?_eq_getElem h1) (List.getElem?_eq_getElem h2))
theorem eqB_not {R S : List P1} {k : Nat} {p q : P1} (hp : R[k]? = some p) (hq : S[k]? = some q) (h : p.bs ≠ q.bs) : eqB R S = false := decide_eq_false fun e => h (by
  have := congrArg (fun l : List (List Int) => l[k]?) e
  simpa [hp, hq] using this)
theorem Ls.drewN {K : IntKind} {W : World} {a : Option Addr} {cap : Nat} {L : List Int} (h : Ls K W a cap L) {n : Nat} : Ls K (W.drewN n) a cap L := ⟨h.rd, h.nl, h.le⟩
theorem below_drewN {m : Nat} {w W : World} (h : Below m w W) (n : Nat) : Below m w (W.drewN n) := ⟨h.os, h.tape, h.output, h.size, h.block⟩
set_option maxRecDepth 100000 in
set_option maxHeartbeats 1000000 in
theorem rsame_law (a b : Option Addr) (R S : List P1) (n m ca cb : Nat) (hn : R.length = n) (hm : S.length = m) (hn3 : n ≤ 1000000) (bR : ∀ p ∈ R, Byt p.bs) (bS : ∀ p ∈ S, Byt p.bs) (w : World) (hR : RdR w a R) (hS : RdR w b S) :
    Calls Try.prog 22 #[.slice a n ca, .slice b m cb] w fun r w' => r = .returned (.bool (eqB R S)) ∧ Below w.heap.size w w' := by
  by_cases h : n = m
  · subst h
    have HR := Lib.hid hR
    have HS := Lib.hid hS
    have HN := Lib.hid hn
    have HM := Lib.hid hm
    have BR := Lib.hid bR
    have BS := Lib.hid bS
    clear hR hn hS hm bR bS
    go_enter Try.func22, Try.ntmps22
    go_wp2_with fail
    go_loopw [5] (fun i wr => ∃ k : Nat, k ≤ n ∧ i = .int .i64 k ∧ (∀ j < k, ∀ p q, R[j]? = some p → S[j]? = some q → p.bs = q.bs) ∧ Below w.heap.size w wr) (fun i _ => n - (intOf i).toNat)
    case atStart => exact ⟨0, by omega, rfl, fun j hj => absurd hj (by omega), Below.refl _ _⟩
    case round =>
      obtain ⟨k, hk, rfl, hpre, B0⟩ := hrel
      have HP := Lib.hid hpre
      have BB := Lib.hid B0
      clear hpre B0
      by_cases hlt : k < n
      · have hkl : (k : Int) < (n : Int) := by omega
        have hk9 : (k : Int) ≤ 1000000 := by omega
        obtain ⟨p, hp⟩ : ∃ p, R[k]? = some p := ⟨_, List.getElem?_eq_getElem (by rw [HN.out]; exact hlt)⟩
        obtain ⟨q, hq⟩ : ∃ q, S[k]? = some q := ⟨_, List.getElem?_eq_getElem (by rw [HM.out]; exact hlt)⟩
        obtain ⟨b1, o1, e1, c1, l1⟩ := HR.out.below BB.out k p hp
        obtain ⟨b2, o2, e2, c2, l2⟩ := HS.out.below BB.out k q hq
        subst e1 e2
        have q1 : ∀ n, (convert 24 9 (.slice p.ad p.bs.length p.cap)).run Try.prog (wr.drewN n) = .ok (.string (strOfNums p.bs)) (wr.drewN n) := fun n => kc2 (wr.drewN n) p.ad p.bs.length p.cap p.bs rfl l1.drewN
        have q2 : ∀ n, (convert 24 9 (.slice q.ad q.bs.length q.cap)).run Try.prog (wr.drewN n) = .ok (.string (strOfNums q.bs)) (wr.drewN n) := fun n => kc2 (wr.drewN n) q.ad q.bs.length q.cap q.bs rfl l2.drewN
        have d1 : wr.cell? ⟨b1, o1 + k, none⟩ = some (.slice p.ad p.bs.length p.cap) := c1
        have d2 : wr.cell? ⟨b2, o2 + k, none⟩ = some (.slice q.ad q.bs.length q.cap) := c2
        have BP := Lib.hid (BR.out p (List.mem_of_getElem? hp))
        have BQ := Lib.hid (BS.out q (List.mem_of_getElem? hq))
        have HPP := Lib.hid hp
        have HQQ := Lib.hid hq
        clear c1 c2 hp hq l1 l2
        by_cases hle : p.bs = q.bs
        · rw [← hle] at q2 d2
          have HLE := Lib.hid hle
          clear hle
          go_wp2_with fail
          go_quiet (fail)
          go_wp2_with fail
          go_roundw
          case rel => exact ⟨k + 1, by omega, by go_num, jstep HP.out (fun p' q' hp' hq' => by have h1 := HPP.out; have h2 := HQQ.out; rw [hp'] at h1; rw [hq'] at h2; cases h1; cases h2; exact HLE.out), below_drewN BB.out _⟩
          case measure => simp [intOf]; omega
        · have hs : ((strOfNums p.bs).toList == (strOfNums q.bs).toList) = false := by
            rw [beq_eq_false_iff_ne]
            intro e
            rw [Lib.strOfNums_toList, Lib.strOfNums_toList] at e
            exact hle (str_inj BP.out BQ.out (ByteArray.ext (Array.toList_inj.1 (by rw [strOfNums_data, strOfNums_data]; exact e))))
          have HA := Lib.hid (eqB_not HPP.out HQQ.out hle)
          clear hle
          go_wp2_with fail
          go_quiet (fail)
          go_wp2_with fail
          go_ret
          exact ⟨ret_bool HA.out.symm, below_drewN BB.out _⟩
      · have hkl : ¬ (k : Int) < (n : Int) := by omega
        have HA := Lib.hid (eqB_take HN.out HM.out (fun j hj => HP.out j (by omega)))
        go_wp2_with fail
        go_ret
        exact ⟨ret_bool HA.out.symm, BB.out⟩
  · have hne : ((n : Int) != (m : Int)) = true := by simp; omega
    rw [eqB_len (by omega)]
    clear h hn hm bR bS hR hS
    go_enter Try.func22, Try.ntmps22
    go_wp2_with fail
    go_ret
    exact ⟨rfl, Below.refl _ _⟩
end Go.Proofs.Ytkgcbhpgkcfkhaa
