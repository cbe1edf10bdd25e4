/- The order of entries. -/
import Derived.Test.YtkgcbhpgkcfkhaaDoorGbc
namespace Go.Proofs.YtkgcbhpgkcfkhaaDoor
set_option linter.unusedVariables false
set_option linter.unusedSimpArgs false

def lexC : List Int → List Int → Int
  | [], [] => 0
  | [], _ :: _ => -1
  | _ :: _, [] => 1
  | x :: a, y :: b => if x < y then -1 else if y < x then 1 else lexC a b
theorem lexC_cons (x : Int) (a b : List Int) : lexC (x :: a) (x :: b) = lexC a b := by simp [lexC]
theorem lexC_same (p a b : List Int) : lexC (p ++ a) (p ++ b) = lexC a b := by
  induction p with
  | nil => rfl
  | cons x p ih => rw [List.cons_append, List.cons_append, lexC_cons, ih]
theorem lexC_lt {x y : Int} (h : x < y) (a b : List Int) : lexC (x :: a) (y :: b) = -1 := by simp [lexC, h]
theorem lexC_gt {x y : Int} (h : y < x) (a b : List Int) : lexC (x :: a) (y :: b) = 1 := by simp [lexC, h, show ¬ x < y by omega]
theorem lexC_self (a : List Int) : lexC a a = 0 := by
  have := lexC_same a [] []
  simpa [lexC] using this
theorem lexC_zero : ∀ {a b : List Int}, lexC a b = 0 → a = b
  | [], [], _ => rfl
  | [], _ :: _, h => by simp [lexC] at h
  | _ :: _, [], h => by simp [lexC] at h
  | x :: a, y :: b, h => by
    simp only [lexC] at h
    split at h
    · omega
    · split at h
      · omega
      · rw [show x = y by omega, lexC_zero h]
theorem lexC_three (a b : List Int) : lexC a b = -1 ∨ lexC a b = 0 ∨ lexC a b = 1 := by
  induction a generalizing b with
  | nil => cases b <;> simp [lexC]
  | cons x a ih =>
    cases b with
    | nil => simp [lexC]
    | cons y b =>
      simp only [lexC]
      split
      · exact .inl rfl
      · split
        · exact .inr (.inr rfl)
        · exact ih b
theorem lexC_anti (a b : List Int) : lexC b a = - lexC a b := by
  induction a generalizing b with
  | nil => cases b <;> simp [lexC]
  | cons x a ih =>
    cases b with
    | nil => simp [lexC]
    | cons y b =>
      simp only [lexC]
      split
      · rw [if_neg (by omega)]
      · split
        · rfl
        · exact ih b
theorem esc_lt {x y : Int} (h : x < y) (hx : 0 ≤ x) (a b : List Int) : lexC (esc x ++ a) (esc y ++ b) = -1 := by
  unfold esc
  rw [if_neg (show ¬ y = 0 by omega)]
  split
  · exact lexC_lt (by omega) _ _
  · exact lexC_lt h _ _
theorem esc_gt {x y : Int} (h : y < x) (hy : 0 ≤ y) (a b : List Int) : lexC (esc x ++ a) (esc y ++ b) = 1 := by
  rw [lexC_anti, esc_lt h hy]; rfl
theorem end_esc {x : Int} (hx : 0 ≤ x) (a b : List Int) : lexC ([0, 1] ++ a) (esc x ++ b) = -1 := by
  unfold esc
  split
  · simp [lexC]
  · exact lexC_lt (by omega) _ _
theorem esc_end {x : Int} (hx : 0 ≤ x) (a b : List Int) : lexC (esc x ++ a) ([0, 1] ++ b) = 1 := by
  rw [lexC_anti, end_esc hx]; rfl
/-- Entries compare as their fields, those of one field as their keys. -/
theorem entry_order : ∀ (f g k l : List Int), (∀ x ∈ f, 0 ≤ x) → (∀ x ∈ g, 0 ≤ x) → lexC (entryL f k) (entryL g l) = if lexC f g = 0 then lexC k l else lexC f g
  | [], [], k, l, _, _ => by
    unfold entryL frontL
    rw [show lexC [] [] = 0 from rfl, if_pos rfl, lexC_same, lexC_same]
  | [], y :: g, k, l, _, hg => by
    unfold entryL
    rw [show lexC [] (y :: g) = -1 from rfl, if_neg (by omega), frontL, frontL, List.nil_append, List.append_assoc]
    exact end_esc (hg y (by simp)) _ _
  | x :: f, [], k, l, hf, _ => by
    unfold entryL
    rw [show lexC (x :: f) [] = 1 from rfl, if_neg (by omega), frontL, frontL, List.nil_append, List.append_assoc]
    exact esc_end (hf x (by simp)) _ _
  | x :: f, y :: g, k, l, hf, hg => by
    have hx := hf x (by simp)
    have hy := hg y (by simp)
    by_cases h1 : x < y
    · rw [lexC_lt h1, if_neg (by omega)]
      unfold entryL
      rw [frontL, frontL, List.append_assoc, List.append_assoc]
      exact esc_lt h1 hx _ _
    · by_cases h2 : y < x
      · rw [lexC_gt h2, if_neg (by omega)]
        unfold entryL
        rw [frontL, frontL, List.append_assoc, List.append_assoc]
        exact esc_gt h2 hy _ _
      · have : x = y := by omega
        subst this
        rw [lexC_cons]
        have ih := entry_order f g k l (fun z hz => hf z (by simp [hz])) (fun z hz => hg z (by simp [hz]))
        unfold entryL at ih ⊢
        rw [frontL, frontL, List.append_assoc, List.append_assoc, lexC_same]
        exact ih
/-- An entry of a field that begins so is not below the front. -/
theorem begins_front (g t k : List Int) : 0 ≤ lexC (entryL (g ++ t) k) (frontL g) := by
  unfold entryL
  rw [frontL_append, List.append_assoc, show frontL g = frontL g ++ [] by simp, List.append_assoc, List.nil_append, lexC_same]
  cases h : frontL t ++ ([0, 1] ++ k) with
  | nil => simp [lexC]
  | cons x a => simp [lexC]
/-- Those of lesser fields that begin otherwise are below it. -/
theorem apart_front : ∀ (f g k : List Int), (∀ x ∈ f, 0 ≤ x) → (∀ x ∈ g, 0 ≤ x) → ¬ g <+: f → lexC (entryL f k) (frontL g) = lexC f g
  | _, [], _, _, _, h => absurd (List.nil_prefix) h
  | [], y :: g, k, _, hg, _ => by
    unfold entryL
    rw [frontL, frontL, List.nil_append, end_esc (hg y (by simp))]; rfl
  | x :: f, y :: g, k, hf, hg, h => by
    have hx := hf x (by simp)
    have hy := hg y (by simp)
    by_cases h1 : x < y
    · rw [lexC_lt h1]
      unfold entryL
      rw [frontL, frontL, List.append_assoc]
      exact esc_lt h1 hx _ _
    · by_cases h2 : y < x
      · rw [lexC_gt h2]
        unfold entryL
        rw [frontL, frontL, List.append_assoc]
        exact esc_gt h2 hy _ _
      · have : x = y := by omega
        subst this
        rw [lexC_cons]
        have ih := apart_front f g k (fun z hz => hf z (by simp [hz])) (fun z hz => hg z (by simp [hz])) (fun hp => h (by
          obtain ⟨t, ht⟩ := hp
          exact ⟨t, by rw [List.cons_append, ht]⟩))
        unfold entryL at ih ⊢
        rw [frontL, frontL, List.append_assoc, lexC_same]
        exact ih
/-- An entry is taken apart into what it was made of. -/
theorem split_entry : ∀ (f p k : List Int), (p ++ f).length ≤ 24 → mayK k.length = true → 1 ≤ k.length → splitL p (entryL f k) = some (p ++ f, k)
  | [], p, k, hl, hk, h1 => by
    simp only [entryL, frontL, List.nil_append, List.cons_append, splitL, if_true, List.append_nil] at hl ⊢
    rw [if_pos ⟨hl, hk⟩]
  | x :: f, p, k, hl, hk, h1 => by
    have ih := split_entry f (p ++ [x]) k (by simpa using hl) hk h1
    have e : entryL (x :: f) k = esc x ++ entryL f k := by simp [entryL, frontL]
    rw [e]
    unfold esc
    split
    · rename_i h0
      subst h0
      simp only [List.cons_append, List.nil_append, splitL, if_true, show ¬ (255 : Int) = 1 by decide, if_false]
      rw [ih]; simp
    · rename_i h0
      obtain ⟨y, s, hy⟩ : ∃ y s, entryL f k = y :: s := by
        cases h : entryL f k with
        | nil => have := congrArg List.length h; simp [entryL] at this
        | cons y s => exact ⟨y, s, rfl⟩
      rw [hy, List.cons_append, List.nil_append, splitL, if_neg h0, ← hy, ih]; simp
/-- What was taken apart is put together so again. -/
theorem split_back : ∀ (n : Nat) (L p a b : List Int), L.length ≤ n → splitL p L = some (a, b) → ∃ f, a = p ++ f ∧ L = entryL f b ∧ a.length ≤ 24 ∧ mayK b.length = true
  | _, [], p, a, b, _, h => by simp [splitL] at h
  | _, [_], p, a, b, _, h => by simp [splitL] at h
  | 0, _ :: _ :: _, _, _, _, hn, _ => by simp at hn
  | n + 1, x :: y :: s, p, a, b, hn, h => by
    rw [splitL] at h
    split at h
    · rename_i hx
      subst hx
      split at h
      · rename_i hy
        subst hy
        split at h
        · rename_i hc
          cases h
          exact ⟨[], by simp, by simp [entryL, frontL], hc.1, hc.2⟩
        · cases h
      · split at h
        · rename_i hy
          subst hy
          obtain ⟨f, h1, h2, h3, h4⟩ := split_back n s (p ++ [0]) a b (by simp at hn; omega) h
          exact ⟨0 :: f, by rw [h1]; simp, by rw [h2]; simp [entryL, frontL, esc], h3, h4⟩
        · cases h
    · rename_i hx
      obtain ⟨f, h1, h2, h3, h4⟩ := split_back n (y :: s) (p ++ [x]) a b (by simp at hn ⊢; omega) h
      exact ⟨x :: f, by rw [h1]; simp, by rw [h2]; simp [entryL, frontL, esc, hx], h3, h4⟩
end Go.Proofs.YtkgcbhpgkcfkhaaDoor
