/- Words give their bytes back. -/
import Derived.Test.YtkgcbhpgkcfkhaaDoorBm
namespace Go.Proofs.YtkgcbhpgkcfkhaaDoor
set_option linter.unusedVariables false
set_option linter.unusedSimpArgs false

theorem words_get (L : List Int) (j : Nat) (hj : j < (L.length + 7) / 8) : (wordsL L).getD (1 + j) 0 = wv L j := by
  simp only [wordsL, List.getD, List.getElem?_map]
  rw [List.getElem?_eq_getElem (by simp; omega)]
  simp [mw]
theorem words_head (L : List Int) : (wordsL L).getD 0 0 = (L.length : Int) := by
  simp only [wordsL, List.getD, List.getElem?_map]
  rw [List.getElem?_eq_getElem (by simp; omega)]
  simp [mw]
theorem dg (x0 x1 x2 x3 x4 x5 x6 x7 : Int) (b0 : 0 ≤ x0 ∧ x0 ≤ 255) (b1 : 0 ≤ x1 ∧ x1 ≤ 255) (b2 : 0 ≤ x2 ∧ x2 ≤ 255) (b3 : 0 ≤ x3 ∧ x3 ≤ 255) (b4 : 0 ≤ x4 ∧ x4 ≤ 255) (b5 : 0 ≤ x5 ∧ x5 ≤ 255) (b6 : 0 ≤ x6 ∧ x6 ≤ 255) (b7 : 0 ≤ x7 ∧ x7 ≤ 255) (N : Int)
    (hN : N = x0 * 72057594037927936 + x1 * 281474976710656 + x2 * 1099511627776 + x3 * 4294967296 + x4 * 16777216 + x5 * 65536 + x6 * 256 + x7) :
    N / 2 ^ 56 % 256 = x0 ∧ N / 2 ^ 48 % 256 = x1 ∧ N / 2 ^ 40 % 256 = x2 ∧ N / 2 ^ 32 % 256 = x3 ∧ N / 2 ^ 24 % 256 = x4 ∧ N / 2 ^ 16 % 256 = x5 ∧ N / 2 ^ 8 % 256 = x6 ∧ N / 2 ^ 0 % 256 = x7 := by
  refine ⟨?_, ?_, ?_, ?_, ?_, ?_, ?_, ?_⟩ <;> omega
theorem unb_words (L : List Int) (hB : Byt L) (i : Nat) (hi : i < 8 * ((L.length + 7) / 8)) : unb (wordsL L) i = L.getD i 0 := by
  obtain ⟨j, r, hr, rfl⟩ : ∃ j r, r < 8 ∧ i = 8 * j + r := ⟨i / 8, i % 8, by omega, by omega⟩
  have B := fun q => getD_byt hB (8 * j + q)
  obtain ⟨d0, d1, d2, d3, d4, d5, d6, d7⟩ := dg _ _ _ _ _ _ _ _ (B 0) (B 1) (B 2) (B 3) (B 4) (B 5) (B 6) (B 7) (wv L j) rfl
  unfold unb
  rw [show (8 * j + r) / 8 = j by omega, words_get L j (by omega), show (8 * j + r) % 8 = r by omega]
  rcases lt8 hr with rfl | rfl | rfl | rfl | rfl | rfl | rfl | rfl
  · exact d0
  · exact d1
  · exact d2
  · exact d3
  · exact d4
  · exact d5
  · exact d6
  · exact d7
theorem list_getD {a b : List Int} (hl : a.length = b.length) (h : ∀ i < a.length, a.getD i 0 = b.getD i 0) : a = b := by
  apply List.ext_getElem hl
  intro i hi hi2
  have := h i hi
  simpa [List.getD, List.getElem?_eq_getElem hi, List.getElem?_eq_getElem hi2] using this
theorem getD_ge (L : List Int) (i : Nat) (h : L.length ≤ i) : L.getD i 0 = 0 := by simp [List.getD, List.getElem?_eq_none h]
/-- The words of at most 80 bytes have a good head, and their bytes are those. -/
theorem words_headT (L : List Int) (hB : Byt L) (h80 : L.length ≤ 80) : HeadT (wordsL L) ∧ headB (wordsL L) = L := by
  have hn : ((wordsL L).getD 0 0).toNat = L.length := by rw [words_head]; omega
  have hl := wordsL_length L
  have hu : 8 * ((wordsL L).length - 1) = 8 * ((L.length + 7) / 8) := by rw [hl]; omega
  refine ⟨⟨by omega, by omega, by rw [words_head]; omega, by rw [hn]; exact hl, fun i => ?_⟩, ?_⟩
  · rw [hn, hu]
    by_cases hi : L.length + i < 8 * ((L.length + 7) / 8)
    · have e : ((unL (wordsL L) (8 * ((L.length + 7) / 8))).drop L.length).getD i 0 = (unL (wordsL L) (8 * ((L.length + 7) / 8))).getD (L.length + i) 0 := by simp [List.getD]
      rw [e, unL_get _ _ _ hi, unb_words L hB _ hi, getD_ge _ _ (by omega)]
    · exact getD_ge _ _ (by rw [List.length_drop, unL_length]; omega)
  · unfold headB
    rw [hn, hu]
    refine list_getD (by rw [List.length_take, unL_length]; omega) fun i hi => ?_
    rw [List.length_take, unL_length] at hi
    rw [getD_take, if_pos (by omega), unL_get _ _ _ (by omega), unb_words L hB _ (by omega)]
end Go.Proofs.YtkgcbhpgkcfkhaaDoor
