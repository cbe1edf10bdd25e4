/- Keys and their slices as orders: plain arithmetic. -/
import Derived.Test.YtkgcbhpgkcfkhaaK8k
namespace Go.Proofs.Ytkgcbhpgkcfkhaa.K8
open SM
set_option linter.unusedVariables false
set_option linter.unusedSimpArgs false

theorem cmpV_anti (a b : Int) : cmpV a b = -cmpV b a := by unfold cmpV; split <;> split <;> omega
theorem cmpV_zero (a b : Int) : cmpV a b = 0 ↔ a = b := by unfold cmpV; split <;> (try split) <;> omega
theorem cmpS_anti (x m y n : Int) : cmpS y n x m = -cmpS x m y n := by
  unfold cmpS; rw [cmpV_anti y x, cmpV_anti n m]; split <;> split <;> omega
theorem cmpS_zero (x m y n : Int) : cmpS x m y n = 0 ↔ x = y ∧ m = n := by
  unfold cmpS
  have h := cmpV_zero x y
  have k := cmpV_zero m n
  by_cases e : cmpV x y = 0
  · rw [if_neg (by simpa using e)]; exact ⟨fun q => ⟨h.1 e, k.1 q⟩, fun q => k.2 q.2⟩
  · rw [if_pos e]; exact ⟨fun q => absurd q e, fun q => absurd (h.2 q.1) e⟩
def pad (f : Nat → Int) (m i : Nat) : Int := if i < m then f i else 0
theorem pad_fits {f : Nat → Int} (h : Fits f) (m : Nat) : Fits (pad f m) := fun i => by
  have := h i; unfold pad; split <;> omega
theorem wd_congr (f g : Nat → Int) : ∀ k, (∀ i < k, f i = g i) → wd f k = wd g k
  | 0, _ => rfl
  | k + 1, h => by rw [wd, wd, wd_congr f g k fun i hi => h i (by omega), h k (by omega)]
theorem wd_pad_ge (f : Nat → Int) (m : Nat) : ∀ d, wd (pad f m) (m + d) = wd f m
  | 0 => wd_congr _ _ _ fun i hi => by unfold pad; rw [if_pos (by omega)]
  | d + 1 => by rw [← Nat.add_assoc, wd, wd_pad_ge f m d]; unfold pad; rw [if_neg (by omega)]; omega
theorem wd_pad (f : Nat → Int) (m : Nat) (h : m ≤ 8) : wd f m = wd (pad f m) 8 := by
  have := wd_pad_ge f m (8 - m)
  rw [show m + (8 - m) = 8 from by omega] at this
  exact this.symm
theorem wd_lt (p q : Nat → Int) (hp : Fits p) (hq : Fits q) (d : Nat) (hd : d < 8) (he : ∀ i < d, p i = q i) (hl : p d < q d) : wd p 8 < wd q 8 := by
  have a := hp 0; have a1 := hp 1; have a2 := hp 2; have a3 := hp 3; have a4 := hp 4; have a5 := hp 5; have a6 := hp 6; have a7 := hp 7
  have b := hq 0; have b1 := hq 1; have b2 := hq 2; have b3 := hq 3; have b4 := hq 4; have b5 := hq 5; have b6 := hq 6; have b7 := hq 7
  rcases lt8 hd with rfl | rfl | rfl | rfl | rfl | rfl | rfl | rfl
  · simp [wd]; omega
  · have e0 := he 0 (by omega); simp [wd]; omega
  · have e0 := he 0 (by omega); have e1 := he 1 (by omega); simp [wd]; omega
  · have e0 := he 0 (by omega); have e1 := he 1 (by omega); have e2 := he 2 (by omega); simp [wd]; omega
  · have e0 := he 0 (by omega); have e1 := he 1 (by omega); have e2 := he 2 (by omega); have e3 := he 3 (by omega); simp [wd]; omega
  · have e0 := he 0 (by omega); have e1 := he 1 (by omega); have e2 := he 2 (by omega); have e3 := he 3 (by omega); have e4 := he 4 (by omega); simp [wd]; omega
  · have e0 := he 0 (by omega); have e1 := he 1 (by omega); have e2 := he 2 (by omega); have e3 := he 3 (by omega); have e4 := he 4 (by omega); have e5 := he 5 (by omega); simp [wd]; omega
  · have e0 := he 0 (by omega); have e1 := he 1 (by omega); have e2 := he 2 (by omega); have e3 := he 3 (by omega); have e4 := he 4 (by omega); have e5 := he 5 (by omega); have e6 := he 6 (by omega); simp [wd]; omega
theorem first_diff (p q : Nat → Int) : ∀ n, (∀ i < n, p i = q i) ∨ ∃ d, d < n ∧ (∀ i < d, p i = q i) ∧ p d ≠ q d
  | 0 => .inl fun i hi => absurd hi (by omega)
  | n + 1 => by
    rcases first_diff p q n with h | ⟨d, h1, h2, h3⟩
    · by_cases e : p n = q n
      · exact .inl fun i hi => by
          rcases (show i < n ∨ i = n from by omega) with h' | rfl
          · exact h i h'
          · exact e
      · exact .inr ⟨n, by omega, h, e⟩
    · exact .inr ⟨d, by omega, h2, h3⟩
theorem cmp_words (p q : Nat → Int) (hp : Fits p) (hq : Fits q) (d : Nat) (hd : d < 8) (he : ∀ i < d, p i = q i) (hl : p d ≠ q d) : cmpV (wd p 8) (wd q 8) = cmpV (p d) (q d) := by
  rcases (show p d < q d ∨ q d < p d from by omega) with h | h
  · have := wd_lt p q hp hq d hd he h
    unfold cmpV; rw [if_pos this, if_pos h]
  · have := wd_lt q p hq hp d hd (fun i hi => (he i hi).symm) h
    unfold cmpV; rw [if_neg (by omega), if_pos this, if_neg (by omega), if_pos h]
theorem words_eq (p q : Nat → Int) (hp : Fits p) (hq : Fits q) (h : wd p 8 = wd q 8) : ∀ i < 8, p i = q i := by
  rcases first_diff p q 8 with e | ⟨d, h1, h2, h3⟩
  · exact e
  · rcases (show p d < q d ∨ q d < p d from by omega) with k | k
    · have := wd_lt p q hp hq d h1 h2 k; omega
    · have := wd_lt q p hq hp d h1 (fun i hi => (h2 i hi).symm) k; omega

/-- How two keys compare: by the first bytes that differ, else by their lengths. -/
def Lex (fa : Nat → Int) (la : Nat) (fb : Nat → Int) (lb : Nat) (r : Int) : Prop :=
  (∃ d, d < la ∧ d < lb ∧ (∀ i < d, fa i = fb i) ∧ fa d ≠ fb d ∧ r = cmpV (fa d) (fb d)) ∨ ((∀ i, i < la → i < lb → fa i = fb i) ∧ r = cmpV la lb)
theorem Lex.unique {fa fb : Nat → Int} {la lb : Nat} {r s : Int} (h : Lex fa la fb lb r) (k : Lex fa la fb lb s) : r = s := by
  rcases h with ⟨d, h1, h2, h3, h4, rfl⟩ | ⟨h1, rfl⟩ <;> rcases k with ⟨e, k1, k2, k3, k4, rfl⟩ | ⟨k1, rfl⟩
  · rcases (show d < e ∨ e < d ∨ d = e from by omega) with q | q | rfl
    · exact absurd (k3 d q) h4
    · exact absurd (h3 e q) k4
    · rfl
  · exact absurd (k1 d h1 h2) h4
  · exact absurd (h1 e k1 k2) k4
  · rfl
/-- The slices i of both go on, and are the same. -/
def Both (fa : Nat → Int) (la : Nat) (fb : Nat → Int) (lb i : Nat) : Prop := 8 * i + 8 < la ∧ 8 * i + 8 < lb ∧ ∀ k < 8, fa (8 * i + k) = fb (8 * i + k)
def Sh (fa : Nat → Int) (la : Nat) (fb : Nat → Int) (lb n : Nat) : Prop := (∀ i < n, Both fa la fb lb i) ∧ ¬ Both fa la fb lb n
theorem Both.symm {fa fb : Nat → Int} {la lb i : Nat} (h : Both fa la fb lb i) : Both fb lb fa la i := ⟨h.2.1, h.1, fun k hk => (h.2.2 k hk).symm⟩
theorem Sh.symm {fa fb : Nat → Int} {la lb n : Nat} (h : Sh fa la fb lb n) : Sh fb lb fa la n := ⟨fun i hi => (h.1 i hi).symm, fun k => h.2 k.symm⟩
theorem Sh.unique {fa fb : Nat → Int} {la lb n m : Nat} (h : Sh fa la fb lb n) (k : Sh fa la fb lb m) : n = m := by
  rcases (show n < m ∨ m < n ∨ n = m from by omega) with q | q | q
  · exact absurd (k.1 n q) h.2
  · exact absurd (h.1 m q) k.2
  · exact q
theorem Sh.exists (fa fb : Nat → Int) (la lb : Nat) : ∃ n, Sh fa la fb lb n := by
  have key : ∀ m, (∀ i < m, Both fa la fb lb i) ∨ ∃ n, Sh fa la fb lb n := by
    intro m
    induction m with
    | zero => exact .inl fun i hi => absurd hi (by omega)
    | succ m ih =>
      rcases ih with h | h
      · by_cases e : Both fa la fb lb m
        · exact .inl fun i hi => by
            rcases (show i < m ∨ i = m from by omega) with h' | rfl
            · exact h i h'
            · exact e
        · exact .inr ⟨m, h, e⟩
      · exact .inr h
  rcases key (la + 1) with h | h
  · exact absurd (h la (by omega)).1 (by omega)
  · exact h
theorem Sh.lt {fa fb : Nat → Int} {la lb n : Nat} (h : Sh fa la fb lb n) : n < cnt la ∧ 8 * n ≤ la ∧ (0 < n → 8 * n < la) := by
  rcases (show n = 0 ∨ 0 < n from by omega) with rfl | hn
  · refine ⟨by unfold cnt; omega, by omega, by omega⟩
  · have := (h.1 (n - 1) (by omega)).1
    refine ⟨?_, by omega, by omega⟩
    unfold cnt
    have : max la 1 = la := by omega
    rw [this]; omega
theorem Sh.pre {fa fb : Nat → Int} {la lb n : Nat} (h : Sh fa la fb lb n) : ∀ i < 8 * n, fa i = fb i := fun i hi => by
  have := (h.1 (i / 8) (by omega)).2.2 (i % 8) (by omega)
  rwa [show 8 * (i / 8) + i % 8 = i from by omega] at this
theorem slW_pad (f : Nat → Int) (len i : Nat) : slW f len i = wd (pad (fun k => f (8 * i + k)) (min (len - 8 * i) 8)) 8 := by
  unfold slW; exact wd_pad _ _ (by omega)

/-- What the slices at the first place that is not shared tell of the keys. -/
theorem slice_lex (fa fb : Nat → Int) (hfa : Fits fa) (hfb : Fits fb) (la lb n : Nat) (h : Sh fa la fb lb n) : Lex fa la fb lb (cmpS (slW fa la n) (slL la n : Nat) (slW fb lb n) (slL lb n : Nat)) := by
  have hpre := h.pre
  have ha := h.lt.2.1
  have hb := h.symm.lt.2.1
  rw [slW_pad fa la n, slW_pad fb lb n]
  have hp := pad_fits (hfa.from (8 * n)) (min (la - 8 * n) 8)
  have hq := pad_fits (hfb.from (8 * n)) (min (lb - 8 * n) 8)
  have hpv : ∀ k, k < la - 8 * n → k < 8 → pad (fun k => fa (8 * n + k)) (min (la - 8 * n) 8) k = fa (8 * n + k) := fun k h1 h2 => by unfold pad; rw [if_pos (by omega)]
  have hqv : ∀ k, k < lb - 8 * n → k < 8 → pad (fun k => fb (8 * n + k)) (min (lb - 8 * n) 8) k = fb (8 * n + k) := fun k h1 h2 => by unfold pad; rw [if_pos (by omega)]
  have hpz : ∀ k, la - 8 * n ≤ k → pad (fun k => fa (8 * n + k)) (min (la - 8 * n) 8) k = 0 := fun k h1 => by unfold pad; rw [if_neg (by omega)]
  have hqz : ∀ k, lb - 8 * n ≤ k → pad (fun k => fb (8 * n + k)) (min (lb - 8 * n) 8) k = 0 := fun k h1 => by unfold pad; rw [if_neg (by omega)]
  generalize pad (fun k => fa (8 * n + k)) (min (la - 8 * n) 8) = p at *
  generalize pad (fun k => fb (8 * n + k)) (min (lb - 8 * n) 8) = q at *
  rcases first_diff p q 8 with e | ⟨d, h1, h2, h3⟩
  · have ew : wd p 8 = wd q 8 := wd_congr _ _ _ e
    have hnot : ¬ (8 * n + 8 < la ∧ 8 * n + 8 < lb) := fun hh => h.2 ⟨hh.1, hh.2, fun k hk => by
      rw [← hpv k (by omega) hk, ← hqv k (by omega) hk]; exact e k hk⟩
    refine .inr ⟨fun i h1 h2 => ?_, ?_⟩
    · by_cases hi : i < 8 * n
      · exact hpre i hi
      · have := e (i - 8 * n) (by omega)
        rw [hpv _ (by omega) (by omega), hqv _ (by omega) (by omega)] at this
        rwa [show 8 * n + (i - 8 * n) = i from by omega] at this
    · rw [ew]
      unfold cmpS cmpV slL
      simp only [Int.lt_irrefl, if_false, ne_eq, not_true, if_true]
      repeat' split
      all_goals omega
  · have ec := cmp_words p q hp hq d h1 h2 h3
    have ep := hp d
    have eq := hq d
    have e0 : cmpV (p d) (q d) ≠ 0 := fun z => h3 ((cmpV_zero _ _).1 z)
    have es : cmpS (wd p 8) (slL la n : Nat) (wd q 8) (slL lb n : Nat) = cmpV (p d) (q d) := by
      unfold cmpS; rw [ec, if_pos e0]
    rw [es]
    by_cases da : d < la - 8 * n
    · by_cases db : d < lb - 8 * n
      · refine .inl ⟨8 * n + d, by omega, by omega, fun i hi => ?_, ?_, ?_⟩
        · by_cases hi' : i < 8 * n
          · exact hpre i hi'
          · have := h2 (i - 8 * n) (by omega)
            rw [hpv _ (by omega) (by omega), hqv _ (by omega) (by omega)] at this
            rwa [show 8 * n + (i - 8 * n) = i from by omega] at this
        · rw [← hpv d da h1, ← hqv d db h1]; exact h3
        · rw [← hpv d da h1, ← hqv d db h1]
      · have z := hqz d (by omega)
        refine .inr ⟨fun i i1 i2 => ?_, ?_⟩
        · by_cases hi' : i < 8 * n
          · exact hpre i hi'
          · have := h2 (i - 8 * n) (by omega)
            rw [hpv _ (by omega) (by omega), hqv _ (by omega) (by omega)] at this
            rwa [show 8 * n + (i - 8 * n) = i from by omega] at this
        · unfold cmpV
          repeat' split
          all_goals omega
    · have z := hpz d (by omega)
      have db : d < lb - 8 * n := by
        apply Decidable.byContradiction; intro hh
        exact h3 (z.trans (hqz d (by omega)).symm)
      refine .inr ⟨fun i i1 i2 => ?_, ?_⟩
      · by_cases hi' : i < 8 * n
        · exact hpre i hi'
        · have := h2 (i - 8 * n) (by omega)
          rw [hpv _ (by omega) (by omega), hqv _ (by omega) (by omega)] at this
          rwa [show 8 * n + (i - 8 * n) = i from by omega] at this
      · unfold cmpV
        repeat' split
        all_goals omega

theorem ofV_ok (f : Nat → Int) (len i : Nat) (h : i < cnt len) : ofV f len i = (slW f len i, ((slL len i : Nat) : Int), 0) := by rw [ofV, if_pos h]
theorem both_slice {fa fb : Nat → Int} {la lb i : Nat} (h : Both fa la fb lb i) : i < cnt la ∧ i < cnt lb ∧ slW fa la i = slW fb lb i ∧ slL la i = 9 ∧ slL lb i = 9 := by
  obtain ⟨h1, h2, h3⟩ := h
  refine ⟨by unfold cnt; omega, by unfold cnt; omega, ?_, by unfold slL; omega, by unfold slL; omega⟩
  unfold slW
  rw [show min (la - 8 * i) 8 = 8 from by omega, show min (lb - 8 * i) 8 = 8 from by omega]
  exact wd_congr _ _ _ h3
theorem slice_both {fa fb : Nat → Int} (hfa : Fits fa) (hfb : Fits fb) {la lb i : Nat} (h9 : slL la i = 9) (k9 : slL lb i = 9) (e : slW fa la i = slW fb lb i) : Both fa la fb lb i := by
  have a : 8 * i + 8 < la := by unfold slL at h9; omega
  have b : 8 * i + 8 < lb := by unfold slL at k9; omega
  refine ⟨a, b, ?_⟩
  unfold slW at e
  rw [show min (la - 8 * i) 8 = 8 from by omega, show min (lb - 8 * i) 8 = 8 from by omega] at e
  exact words_eq _ _ (hfa.from _) (hfb.from _) e
theorem upto_mem {f : Nat → Int} {len k : Nat} {x : Sl} (h : x ∈ upto f len k) : ∃ i < k, x = (i, slW f len i, ((slL len i : Nat) : Int)) := by
  obtain ⟨i, hi, rfl⟩ := List.mem_map.1 h
  exact ⟨i, List.mem_range.1 hi, rfl⟩
theorem sh_goes {fa fb : Nat → Int} {la lb n : Nat} (h : Sh fa la fb lb n) : ∀ x ∈ upto fa la n, goes fb lb x := fun x hx => by
  obtain ⟨i, hi, rfl⟩ := upto_mem hx
  obtain ⟨_, h2, h3, h4, h5⟩ := both_slice (h.1 i hi)
  simp only [goes, othV, ofV_ok _ _ _ h2]
  exact ⟨(cmpS_zero _ _ _ _).2 ⟨h3, by rw [h4, h5]⟩, trivial⟩
theorem ckV_sh (fa fb : Nat → Int) (hfa : Fits fa) (hfb : Fits fb) (la lb n : Nat) (h : Sh fa la fb lb n) : ckV fb lb (upto fa la (cnt la)) = cmpS (slW fa la n) (slL la n : Nat) (slW fb lb n) (slL lb n : Nat) := by
  by_cases hg : goes fb lb (n, slW fa la n, ((slL la n : Nat) : Int))
  · have hg' := hg
    simp only [goes, othV, ofV_ok _ _ _ h.symm.lt.1] at hg'
    obtain ⟨z, _⟩ := hg'
    rw [z]
    have e := (cmpS_zero _ _ _ _).1 z
    have hc : cnt la = n + 1 := by
      have hn := h.lt.1
      apply Decidable.byContradiction; intro hh
      have k9 : slL la n = 9 := by unfold slL; unfold cnt at hh hn; omega
      exact h.2 (slice_both hfa hfb k9 (by have := e.2; omega) e.1)
    refine ckV_all fb lb _ fun x hx => ?_
    rw [hc, upto_succ] at hx
    rcases List.mem_append.1 hx with hx | hx
    · exact sh_goes h x hx
    · simp only [List.mem_singleton] at hx; subst hx; exact hg
  · obtain ⟨t, et⟩ := upto_pre fa la (n + 1) (cnt la) h.lt.1
    rw [et, upto_succ, ckV_stop fb lb _ t hg _ (sh_goes h)]
    simp only [othV, ofV_ok _ _ _ h.symm.lt.1]

theorem ckV_eq (fa fb : Nat → Int) (hfa : Fits fa) (hfb : Fits fb) (la lb : Nat) : ckV fb lb (upto fa la (cnt la)) = 0 ↔ la = lb ∧ ∀ i < la, fa i = fb i := by
  obtain ⟨n, h⟩ := Sh.exists fa fb la lb
  have hL := slice_lex fa fb hfa hfb la lb n h
  rw [ckV_sh fa fb hfa hfb la lb n h]
  constructor
  · intro e
    rw [e] at hL
    rcases hL with ⟨d, h1, h2, h3, h4, h5⟩ | ⟨h1, h5⟩
    · exact absurd ((cmpV_zero _ _).1 h5.symm) h4
    · have := (cmpV_zero _ _).1 h5.symm
      exact ⟨by omega, fun i hi => h1 i hi (by omega)⟩
  · rintro ⟨rfl, e⟩
    exact hL.unique (.inr ⟨fun i hi _ => e i hi, ((cmpV_zero _ _).2 rfl).symm⟩)
end Go.Proofs.Ytkgcbhpgkcfkhaa.K8
