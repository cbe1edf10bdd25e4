/- Places that are moved: plain facts on lists. -/
import Derived.Test.YtochdmdojcfceaaKnown
namespace Go.Proofs.Ytochdmdojcfceaa
open PM
set_option linter.unusedVariables false
set_option linter.unusedSimpArgs false

theorem good_of {m : List Nat} (h : ∀ x ∈ m, x < 15) (hn : m.Nodup) : Good m := fun i hi => by
  have e : m.getD i 0 = m[i] := by simp [List.getD, List.getElem?_eq_getElem hi]
  rw [e]
  refine ⟨h _ (List.getElem_mem hi), fun hm => ?_⟩
  obtain ⟨j, hj, e2⟩ := List.getElem_of_mem hm
  simp at hj
  rw [List.getElem_take] at e2
  rw [List.Nodup, List.pairwise_iff_getElem] at hn
  exact hn j i (by omega) hi (by omega) e2
theorem ok_good {l : List Nat} (hl : l.length = 15) : Ok l ↔ Good l := by unfold Ok Good; rw [hl]
theorem okB_of {n : Nat} {l : List Nat} (h : Wrd n l) (hlt : ∀ x ∈ l, x < 15) (hn : l.Nodup) : okB l = true := (okB_iff l).2 ((ok_good h.len).2 (good_of hlt hn))
theorem okB_lt {n : Nat} {l : List Nat} (h : Wrd n l) (ho : okB l = true) : (∀ x ∈ l, x < 15) ∧ l.Nodup := by
  have := (ok_good h.len).1 ((okB_iff l).1 ho)
  exact ⟨this.lt, this.nodup⟩

theorem out_perm {l : List Nat} {i : Nat} (h : i < l.length) : (l.getD i 0 :: out l i).Perm l := by
  have e : l = l.take i ++ l[i] :: l.drop (i + 1) := by
    rw [← List.drop_eq_getElem_cons h, List.take_append_drop]
  have e2 : l.getD i 0 = l[i] := by simp [List.getD, List.getElem?_eq_getElem h]
  rw [e2]
  unfold out
  conv => rhs; rw [e]
  exact List.perm_middle.symm
theorem put_perm (l : List Nat) (j d : Nat) : (put l j d).Perm (d :: l) := by
  unfold put
  have := @List.perm_middle _ d (l.take j) (l.drop j)
  rwa [List.take_append_drop] at this
theorem mvd_perm {l : List Nat} {i : Nat} (h : i < l.length) (j : Nat) : (mvd l i j).Perm l := (put_perm _ _ _).trans (out_perm h)
theorem mvd_ok {n m : Nat} {l : List Nat} (h : Wrd n l) (ho : okB l = true) {i j : Nat} (hi : i < 15) (hj : j < 15) (hm : m < 16) : okB (mvd l i j) = true := by
  have hp := mvd_perm (l := l) (i := i) (by rw [h.len]; exact hi) j
  obtain ⟨h1, h2⟩ := okB_lt h ho
  exact okB_of (mvd_wrd h i j hi hj) (fun x hx => h1 x (hp.mem_iff.1 hx)) (hp.nodup_iff.2 h2)

theorem out_get (l : List Nat) (i k : Nat) (hi : i ≤ l.length) : (out l i).getD k 0 = if k < i then l.getD k 0 else l.getD (k + 1) 0 := by
  unfold out
  by_cases h : k < i
  · rw [if_pos h]
    simp only [List.getD]
    rw [List.getElem?_append_left (by simp; omega), List.getElem?_take, if_pos h]
  · rw [if_neg h]
    simp only [List.getD]
    rw [List.getElem?_append_right (by simp; omega), List.getElem?_drop]
    congr 2
    simp; omega
theorem put_get (l : List Nat) (j d k : Nat) (hj : j ≤ l.length) : (put l j d).getD k 0 = if k < j then l.getD k 0 else if k = j then d else l.getD (k - 1) 0 := by
  unfold put
  by_cases h : k < j
  · rw [if_pos h]
    simp only [List.getD]
    rw [List.getElem?_append_left (by simp; omega), List.getElem?_take, if_pos h]
  · rw [if_neg h]
    simp only [List.getD]
    rw [List.getElem?_append_right (by simp; omega)]
    have e : k - (l.take j).length = k - j := by simp; omega
    rw [e]
    by_cases h2 : k = j
    · subst h2; simp
    · rw [if_neg h2]
      obtain ⟨m, rfl⟩ : ∃ m, k = j + m + 1 := ⟨k - j - 1, by omega⟩
      rw [show j + m + 1 - j = m + 1 from by omega, List.getElem?_cons_succ, List.getElem?_drop, show j + m + 1 - 1 = j + m from by omega]
theorem mvd_get {n : Nat} {l : List Nat} (h : Wrd n l) (i j k : Nat) (hi : i < 15) (hj : j < 15) : (mvd l i j).getD k 0 = if k < j then (if k < i then l.getD k 0 else l.getD (k + 1) 0) else if k = j then l.getD i 0 else (if k - 1 < i then l.getD (k - 1) 0 else l.getD k 0) := by
  unfold mvd
  have ho := out_length (l := l) (i := i) (by rw [h.len]; exact hi)
  have hl := h.len
  rw [put_get _ _ _ _ (by omega)]
  by_cases h1 : k < j
  · rw [if_pos h1, if_pos h1, out_get _ _ _ (by omega)]
  · rw [if_neg h1, if_neg h1]
    by_cases h2 : k = j
    · rw [if_pos h2, if_pos h2]
    · rw [if_neg h2, if_neg h2, out_get _ _ _ (by omega), show k - 1 + 1 = k from by omega]
theorem ext15 {n m : Nat} {a b : List Nat} (ha : Wrd n a) (hb : Wrd m b) (h : ∀ k < 15, a.getD k 0 = b.getD k 0) : a = b := by
  refine List.ext_getElem (by rw [ha.len, hb.len]) fun k h1 h2 => ?_
  have := h k (by rw [← ha.len]; exact h1)
  simpa [List.getD, List.getElem?_eq_getElem h1, List.getElem?_eq_getElem h2] using this
theorem mvd_back {n : Nat} {l : List Nat} (h : Wrd n l) (i j : Nat) (hi : i < 15) (hj : j < 15) : mvd (mvd l i j) j i = l := by
  have h2 := mvd_wrd h i j hi hj
  refine ext15 (mvd_wrd h2 j i hj hi) h fun k hk => ?_
  rw [mvd_get h2 j i k hj hi, mvd_get h i j _ hi hj, mvd_get h i j _ hi hj, mvd_get h i j _ hi hj, mvd_get h i j _ hi hj]
  repeat' split
  all_goals first | rfl | (congr 1; omega) | omega
end Go.Proofs.Ytochdmdojcfceaa
