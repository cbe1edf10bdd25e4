/- Two lists of entries compared by the reference, by contracts. -/
import Derived.Test.YtkgcbhpgkcfkhaaCje
import Derived.Test.YtkgcbhpgkcfkhaaSiz
import Derived.BigQuiet
namespace Go.Proofs.Ytkgcbhpgkcfkhaa
open Go.ChangeShapes Go.WideShapes Go.ChangeAt Go.RowKit Go.Shelf
set_option linter.unusedVariables false
set_option linter.unusedSimpArgs false

def enB (A B : List E1) : Bool := decide (enS A = enS B)
theorem enB_len {A B : List E1} (h : A.length ≠ B.length) : enB A B = false := decide_eq_false fun e => h (by simpa [enS] using congrArg List.length e)
theorem enB_take {A B : List E1} {n : Nat} (hn : A.length = n) (hm : B.length = n) (h : ∀ j < n, ∀ p q, A[j]? = some p → B[j]? = some q → p.1 = q.1 ∧ p.2.bs = q.2.bs) : enB A B = true := decide_eq_true (by
  apply List.ext_getElem
  · simp [enS, hn, hm]
  · intro i h1 h2
    simp [enS] at h1 h2
    simp [enS]
    exact h i (by omega) _ _ (List.getElem?_eq_getElem h1) (List.getElem?_eq_getElem h2))
theorem enB_not {A B : List E1} {k : Nat} {p q : E1} (hp : A[k]? = some p) (hq : B[k]? = some q) (h : ¬ (p.1 = q.1 ∧ p.2.bs = q.2.bs)) : enB A B = false := decide_eq_false fun e => h (by
  have := congrArg (fun l : List (Int × List Int) => l[k]?) e
  simpa [enS, hp, hq] using this)
theorem jstepE {A B : List E1} {k : Nat} (h : ∀ j < k, ∀ p q, A[j]? = some p → B[j]? = some q → p.1 = q.1 ∧ p.2.bs = q.2.bs) (hk : ∀ p q, A[k]? = some p → B[k]? = some q → p.1 = q.1 ∧ p.2.bs = q.2.bs) : ∀ j < k + 1, ∀ p q, A[j]? = some p → B[j]? = some q → p.1 = q.1 ∧ p.2.bs = q.2.bs := fun j hj => by
  by_cases e : j = k
  · subst e; exact hk
  · exact h j (by omega)
set_option maxRecDepth 100000 in
set_option maxHeartbeats 2000000 in
theorem sameentries_law (a b : Option Addr) (A B : List E1) (n m ca cb : Nat) (hn : A.length = n) (hm : B.length = m) (hn3 : n ≤ 1000000) (bA : ∀ p ∈ A, Byt p.2.bs) (bB : ∀ p ∈ B, Byt p.2.bs) (w : World) (hA : EnR w a A) (hB : EnR w b B) :
    Calls Try.prog 47 #[.slice a n ca, .slice b m cb] w fun r w' => r = .returned (.bool (enB A B)) ∧ Below w.heap.size w w' := by
  by_cases h : n = m
  · subst h
    have HA := Lib.hid hA
    have HB := Lib.hid hB
    have HN := Lib.hid hn
    have HM := Lib.hid hm
    have BA := Lib.hid bA
    have BB' := Lib.hid bB
    clear hA hn hB hm bA bB
    go_enter Try.func47, Try.ntmps47
    go_wp2_with fail
    go_loopw [5] (fun i wr => ∃ k : Nat, k ≤ n ∧ i = .int .i64 k ∧ (∀ j < k, ∀ p q, A[j]? = some p → B[j]? = some q → p.1 = q.1 ∧ p.2.bs = q.2.bs) ∧ Below w.heap.size w wr) (fun i _ => n - (intOf i).toNat)
    case atStart => exact ⟨0, by omega, rfl, fun j hj => absurd hj (by omega), Below.refl _ _⟩
    case round =>
      obtain ⟨k, hk, rfl, hpre, B0⟩ := hrel
      have HP := Lib.hid hpre
      have BB := Lib.hid B0
      clear hpre B0
      by_cases hlt : k < n
      · have hkl : (k : Int) < (n : Int) := by omega
        have hk9 : (k : Int) ≤ 1000000 := by omega
        obtain ⟨p, hp⟩ : ∃ p, A[k]? = some p := ⟨_, List.getElem?_eq_getElem (by rw [HN.out]; exact hlt)⟩
        obtain ⟨q, hq⟩ : ∃ q, B[k]? = some q := ⟨_, List.getElem?_eq_getElem (by rw [HM.out]; exact hlt)⟩
        obtain ⟨b1, o1, e1, c1, g1, l1⟩ := HA.out.below BB.out k p hp
        obtain ⟨b2, o2, e2, c2, g2, l2⟩ := HB.out.below BB.out k q hq
        obtain ⟨pt, pv⟩ := p
        obtain ⟨qt, qv⟩ := q
        subst e1 e2
        have q1 : ∀ n, (convert 24 9 (.slice pv.ad pv.bs.length pv.cap)).run Try.prog (wr.drewN n) = .ok (.string (strOfNums pv.bs)) (wr.drewN n) := fun n => kc2 (wr.drewN n) pv.ad pv.bs.length pv.cap pv.bs rfl l1.drewN
        have q2 : ∀ n, (convert 24 9 (.slice qv.ad qv.bs.length qv.cap)).run Try.prog (wr.drewN n) = .ok (.string (strOfNums qv.bs)) (wr.drewN n) := fun n => kc2 (wr.drewN n) qv.ad qv.bs.length qv.cap qv.bs rfl l2.drewN
        have d1 : wr.cell? ⟨b1, o1 + k * 2, none⟩ = some (.int .i64 pt) := c1
        have d2 : wr.cell? ⟨b2, o2 + k * 2, none⟩ = some (.int .i64 qt) := c2
        have d3 : wr.cell? ⟨b1, o1 + k * 2 + 1, none⟩ = some (.slice pv.ad pv.bs.length pv.cap) := g1
        have d4 : wr.cell? ⟨b2, o2 + k * 2 + 1, none⟩ = some (.slice qv.ad qv.bs.length qv.cap) := g2
        have BP := Lib.hid (BA.out _ (List.mem_of_getElem? hp))
        have BQ := Lib.hid (BB'.out _ (List.mem_of_getElem? hq))
        have HPP := Lib.hid hp
        have HQQ := Lib.hid hq
        clear c1 c2 g1 g2 hp hq l1 l2
        by_cases ht : pt = qt
        · subst ht
          have hpq : (pt != pt) = false := by simp
          by_cases hle : pv.bs = qv.bs
          · rw [← hle] at q2 d4
            have HLE := Lib.hid hle
            clear hle
            go_wp2_with fail
            go_quiet (fail)
            go_wp2_with fail
            go_roundw
            case rel => exact ⟨k + 1, by omega, by go_num, jstepE HP.out (fun p' q' hp' hq' => by have h1 := HPP.out; have h2 := HQQ.out; rw [hp'] at h1; rw [hq'] at h2; cases h1; cases h2; exact ⟨rfl, HLE.out⟩), below_drewN BB.out _⟩
            case measure => simp [intOf]; omega
          · have hs : ((strOfNums pv.bs).toList == (strOfNums qv.bs).toList) = false := by
              rw [beq_eq_false_iff_ne]
              intro e
              rw [Lib.strOfNums_toList, Lib.strOfNums_toList] at e
              exact hle (str_inj BP.out BQ.out (ByteArray.ext (Array.toList_inj.1 (by rw [strOfNums_data, strOfNums_data]; exact e))))
            have HF := Lib.hid (enB_not HPP.out HQQ.out (fun e => hle e.2))
            clear hle
            go_wp2_with fail
            go_quiet (fail)
            go_wp2_with fail
            go_ret
            exact ⟨ret_bool HF.out.symm, below_drewN BB.out _⟩
        · have hpq : (pt != qt) = true := by simpa using ht
          have HF := Lib.hid (enB_not HPP.out HQQ.out (fun e => ht e.1))
          clear ht
          go_wp2_with fail
          go_quiet (fail)
          go_wp2_with fail
          go_ret
          exact ⟨ret_bool HF.out.symm, below_drewN BB.out _⟩
      · have hkl : ¬ (k : Int) < (n : Int) := by omega
        have HF := Lib.hid (enB_take HN.out HM.out (fun j hj => HP.out j (by omega)))
        go_wp2_with fail
        go_ret
        exact ⟨ret_bool HF.out.symm, BB.out⟩
  · have hne : ((n : Int) != (m : Int)) = true := by simp; omega
    rw [enB_len (by omega)]
    clear h hn hm bA bB hA hB
    go_enter Try.func47, Try.ntmps47
    go_wp2_with fail
    go_ret
    exact ⟨rfl, Below.refl _ _⟩
end Go.Proofs.Ytkgcbhpgkcfkhaa
