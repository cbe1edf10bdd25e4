/- The words of bytes that were read from words: the same. -/
import Derived.Test.YtkgcbhpgkcfkhaaDoorBw
namespace Go.Proofs.YtkgcbhpgkcfkhaaDoor
set_option linter.unusedVariables false
set_option linter.unusedSimpArgs false

theorem up (x : Int) (h0 : 0 ≤ x) (h1 : x ≤ 18446744073709551615) : x / 2 ^ 56 % 256 * 72057594037927936 + x / 2 ^ 48 % 256 * 281474976710656 + x / 2 ^ 40 % 256 * 1099511627776 + x / 2 ^ 32 % 256 * 4294967296 + x / 2 ^ 24 % 256 * 16777216 + x / 2 ^ 16 % 256 * 65536 + x / 2 ^ 8 % 256 * 256 + x / 2 ^ 0 % 256 = x := by omega
theorem headB_get (U : List Int) (h : HeadT U) (i : Nat) (hi : i < 8 * (U.length - 1)) : (headB U).getD i 0 = unb U i := by
  obtain ⟨h1, h2, h3, h4, h5⟩ := h
  unfold headB
  rw [getD_take]
  by_cases hn : i < (U.getD 0 0).toNat
  · rw [if_pos hn, unL_get _ _ _ hi]
  · rw [if_neg hn]
    have := h5 (i - (U.getD 0 0).toNat)
    have e : ∀ (M : List Int) (m : Nat), m ≤ i → (M.drop m).getD (i - m) 0 = M.getD i 0 := fun M m hm => by
      simp only [List.getD, List.getElem?_drop]
      rw [show m + (i - m) = i by omega]
    rw [e _ _ (by omega), unL_get _ _ _ hi] at this
    exact this.symm
theorem headB_length (U : List Int) (h : HeadT U) : (headB U).length = (U.getD 0 0).toNat := by
  obtain ⟨h1, h2, h3, h4, h5⟩ := h
  unfold headB
  rw [List.length_take, unL_length]
  omega
theorem words_back (U : List Int) (hU : ∀ x ∈ U, 0 ≤ x ∧ x ≤ 18446744073709551615) (h : HeadT U) : wordsL (headB U) = U := by
  have hl := headB_length U h
  have hg := headB_get U h
  obtain ⟨h1, h2, h3, h4, h5⟩ := h
  have hU2 : ∀ i < U.length, 0 ≤ U.getD i 0 ∧ U.getD i 0 ≤ 18446744073709551615 := fun i hi => by
    rw [show U.getD i 0 = U[i] by simp [List.getD, List.getElem?_eq_getElem hi]]
    exact hU _ (List.getElem_mem _)
  refine list_getD (by rw [wordsL_length, hl]; exact h4.symm) fun i hi => ?_
  rw [wordsL_length, hl] at hi
  rcases Nat.eq_zero_or_pos i with rfl | hp
  · rw [words_head, hl]
    have := hU2 0 (by omega)
    omega
  · obtain ⟨j, rfl⟩ : ∃ j, i = 1 + j := ⟨i - 1, by omega⟩
    rw [words_get _ j (by rw [hl]; omega)]
    have hx := hU2 (1 + j) (by omega)
    have e := fun r (hr : r < 8) => hg (8 * j + r) (by omega)
    have u := fun r (hr : r < 8) => show unb U (8 * j + r) = U.getD (1 + j) 0 / 2 ^ (56 - 8 * r) % 256 by
      unfold unb
      rw [show (8 * j + r) / 8 = j by omega, show (8 * j + r) % 8 = r by omega]
    unfold wv
    have := up _ hx.1 hx.2
    rw [← this]
    have e0 := (e 0 (by omega)).trans (u 0 (by omega))
    simp only [Nat.add_zero, Nat.mul_zero, Nat.sub_zero] at e0
    have e1 := (e 1 (by omega)).trans (u 1 (by omega))
    have e2 := (e 2 (by omega)).trans (u 2 (by omega))
    have e3 := (e 3 (by omega)).trans (u 3 (by omega))
    have e4 := (e 4 (by omega)).trans (u 4 (by omega))
    have e5 := (e 5 (by omega)).trans (u 5 (by omega))
    have e6 := (e 6 (by omega)).trans (u 6 (by omega))
    have e7 := (e 7 (by omega)).trans (u 7 (by omega))
    rw [e0, e1, e2, e3, e4, e5, e6, e7]
/-- What the reference asks of words. -/
theorem of_iff (U : List Int) (hU : ∀ x ∈ U, 0 ≤ x ∧ x ≤ 18446744073709551615) (L : List Int) (hL : L = headB U) (hB : Byt L) (h80 : L.length ≤ 80) : wordsL L = U ↔ HeadT U :=
  ⟨fun h => by have := (words_headT L hB h80).1; rwa [h] at this, fun h => by rw [hL]; exact words_back U hU h⟩
end Go.Proofs.YtkgcbhpgkcfkhaaDoor
