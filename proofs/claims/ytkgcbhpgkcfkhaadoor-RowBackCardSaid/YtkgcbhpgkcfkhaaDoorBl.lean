/- less. -/
import Derived.Test.YtkgcbhpgkcfkhaaDoorBw
import Derived.Lib.Bytes
namespace Go.Proofs.YtkgcbhpgkcfkhaaDoor
open Go.ChangeShapes Go.WideShapes Go.ChangeAt Go.RowKit
set_option linter.unusedVariables false
set_option linter.unusedSimpArgs false
theorem str_ne {A B : List Int} (bA : Byt A) (bB : Byt B) (h : A ≠ B) : ((strOfNums A).toList == (strOfNums B).toList) = false := by
  rw [beq_eq_false_iff_ne]
  intro e
  rw [Lib.strOfNums_toList, Lib.strOfNums_toList] at e
  exact h (str_inj bA bB (ByteArray.ext (Array.toList_inj.1 (by rw [strOfNums_data, strOfNums_data]; exact e))))
theorem bytes_less : ∀ {A B : List Int}, Byt A → Byt B → Op.bytesLess (Lib.bytesOf A) (Lib.bytesOf B) = decide (lexC A B = -1)
  | [], [], _, _ => by simp [Lib.bytesOf, Op.bytesLess, lexC]
  | [], _ :: _, _, _ => by simp [Lib.bytesOf, Op.bytesLess, lexC]
  | _ :: _, [], _, _ => by simp [Lib.bytesOf, Op.bytesLess, lexC]
  | x :: a, y :: b, hA, hB => by
    have hx := hA x (by simp)
    have hy := hB y (by simp)
    have ih := bytes_less (A := a) (B := b) (fun z hz => hA z (by simp [hz])) (fun z hz => hB z (by simp [hz]))
    have ux : (UInt8.ofNat x.toNat).toNat = x.toNat := by simp; omega
    have uy : (UInt8.ofNat y.toNat).toNat = y.toNat := by simp; omega
    have h1 : (UInt8.ofNat x.toNat < UInt8.ofNat y.toNat) ↔ x < y := by rw [UInt8.lt_iff_toNat_lt, ux, uy]; omega
    have h2 : (UInt8.ofNat y.toNat < UInt8.ofNat x.toNat) ↔ y < x := by rw [UInt8.lt_iff_toNat_lt, ux, uy]; omega
    unfold Lib.bytesOf at ih ⊢
    rw [List.map_cons, List.map_cons, Op.bytesLess]
    simp only [lexC]
    by_cases c : x < y
    · simp [h1.2 c, c]
    · by_cases d : y < x
      · have e : ¬ UInt8.ofNat x.toNat = UInt8.ofNat y.toNat := fun e => by have := h2.2 d; rw [e] at this; exact absurd this (UInt8.lt_irrefl _)
        simp [c, d, e, h1]
      · obtain rfl : x = y := by omega
        rw [ih]
        simp
set_option maxRecDepth 100000 in
theorem less_law (a b : Option Addr) (A B : List Int) (n m ca cb : Nat) (hA : A.length = n) (hB : B.length = m) (bA : Byt A) (bB : Byt B) (w : World) (lA : Ls .u8 w a ca A) (lB : Ls .u8 w b cb B) :
    Calls Tryd.prog 19 #[.slice a n ca, .slice b m cb] w fun r w' => r = .returned (.int .i64 (lexC A B)) ∧ w = w' := by
  have kA := conv_ls w a n ca A hA lA.rd
  have kB := conv_ls w b m cb B hB lB.rd
  have hl : Op.bytesLess (strOfNums A).toList (strOfNums B).toList = decide (lexC A B = -1) := by
    rw [Lib.strOfNums_toList, Lib.strOfNums_toList]; exact bytes_less bA bB
  rcases lexC_three A B with h | h | h
  · rw [h] at hl ⊢
    clear hA hB lA lB
    go_enter Tryd.func19, Tryd.ntmps19
    go_wp2_with fail
    go_ret
    exact ⟨rfl, rfl⟩
  · rw [h] at hl ⊢
    obtain rfl := lexC_zero h
    have he : ((strOfNums A).toList == (strOfNums A).toList) = true := beq_self_eq_true _
    clear hA hB lA lB
    go_enter Tryd.func19, Tryd.ntmps19
    go_wp2_with fail
    go_ret
    exact ⟨rfl, rfl⟩
  · rw [h] at hl ⊢
    have he := str_ne bA bB (fun e => by rw [e, lexC_self] at h; omega)
    clear hA hB lA lB
    go_enter Tryd.func19, Tryd.ntmps19
    go_wp2_with fail
    go_ret
    exact ⟨rfl, rfl⟩
end Go.Proofs.YtkgcbhpgkcfkhaaDoor
