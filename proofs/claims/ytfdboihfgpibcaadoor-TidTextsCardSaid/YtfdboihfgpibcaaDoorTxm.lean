/- Texts of words: plain lists of bytes. No Go in sight. -/
import Derived.Lib.ItoaNum
import Derived.Lib.ParseIntB
import Derived.Lib.IndexMore
import Derived.Lib.IndexBytes
import Derived.Lib.IndexLaws
import Derived.Lib.SlTrimSet
import Derived.Lib.Bytealg
namespace Go.Proofs.YtfdboihfgpibcaaDoor.TX
open Go.Lib
set_option linter.unusedVariables false
set_option linter.unusedSimpArgs false

def dig (c : UInt8) : Prop := 48 ≤ c.toNat ∧ c.toNat ≤ 57
instance (c : UInt8) : Decidable (dig c) := inferInstanceAs (Decidable (48 ≤ c.toNat ∧ c.toNat ≤ 57))
theorem dig_of {k : Nat} (h : k < 10) : dig (UInt8.ofNat (48 + k)) := by
  unfold dig
  simp only [UInt8.toNat_ofNat']
  omega
theorem toNat_of {k : Nat} (h : k < 10) : (UInt8.ofNat (48 + k)).toNat = 48 + k := by
  simp only [UInt8.toNat_ofNat']
  omega
theorem head_app {l m : List UInt8} (h : l ≠ []) : (l ++ m).head? = l.head? := by cases l with
  | nil => exact absurd rfl h
  | cons => rfl
theorem dec_small {n : Nat} (h : n < 10) : decDigits n = [UInt8.ofNat (48 + n)] := by rw [decDigits, dif_pos h]
theorem dec_big {n : Nat} (h : ¬ n < 10) : decDigits n = decDigits (n / 10) ++ [UInt8.ofNat (48 + n % 10)] := by rw [decDigits, dif_neg h]
theorem dec_dig (n : Nat) : ∀ c ∈ decDigits n, dig c := by
  induction n using Nat.strongRecOn with
  | _ n ih =>
    intro c hc
    by_cases h : n < 10
    · rw [dec_small h, List.mem_singleton] at hc; subst hc; exact dig_of h
    · rw [dec_big h] at hc
      rcases List.mem_append.1 hc with hc | hc
      · exact ih (n / 10) (by omega) c hc
      · rw [List.mem_singleton] at hc; subst hc; exact dig_of (by omega)
theorem dec_ne (n : Nat) : decDigits n ≠ [] := by
  by_cases h : n < 10
  · rw [dec_small h]; simp
  · rw [dec_big h]; simp
def valF (acc : Nat) (l : List UInt8) : Nat := l.foldl (fun a c => a * 10 + (c.toNat - 48)) acc
theorem valF_append (acc : Nat) (a b : List UInt8) : valF acc (a ++ b) = valF (valF acc a) b := by simp [valF]
theorem valF_one (acc : Nat) (c : UInt8) : valF acc [c] = acc * 10 + (c.toNat - 48) := rfl
theorem valF_ge : ∀ (l : List UInt8) (acc : Nat), acc ≤ valF acc l
  | [], acc => Nat.le_refl _
  | c :: r, acc => by
    have := valF_ge r (acc * 10 + (c.toNat - 48))
    show acc ≤ valF (acc * 10 + (c.toNat - 48)) r
    omega
theorem val_dec (n : Nat) : valF 0 (decDigits n) = n := by
  induction n using Nat.strongRecOn with
  | _ n ih =>
    by_cases h : n < 10
    · rw [dec_small h, valF_one, toNat_of h]; omega
    · rw [dec_big h, valF_append, ih (n / 10) (by omega), valF_one, toNat_of (by omega)]; omega
theorem dec_inj {n m : Nat} (h : decDigits n = decDigits m) : n = m := by
  have := congrArg (valF 0) h
  rwa [val_dec, val_dec] at this
theorem dec_head {n : Nat} (h : ¬ n < 10) : (decDigits n).head? ≠ some 48 := by
  induction n using Nat.strongRecOn with
  | _ n ih =>
    rw [dec_big h]
    by_cases h2 : n / 10 < 10
    · rw [dec_small h2]
      simp only [List.cons_append, List.head?_cons, ne_eq, Option.some.injEq]
      intro e
      have := congrArg UInt8.toNat e
      rw [toNat_of h2] at this
      simp at this
      omega
    · have hn := dec_ne (n / 10)
      rw [head_app hn]
      exact ih (n / 10) (by omega) h2
theorem dec_val : ∀ (k : Nat) (l : List UInt8), l.length = k → (∀ c ∈ l, dig c) → l ≠ [] → (l.length = 1 ∨ l.head? ≠ some 48) → decDigits (valF 0 l) = l := by
  intro k
  induction k with
  | zero => intro l hk _ hne; exact absurd (List.length_eq_zero_iff.1 hk) hne
  | succ k ih =>
    intro l hk hd hne h0
    obtain ⟨r, c, rfl⟩ : ∃ r c, l = r ++ [c] := ⟨l.dropLast, l.getLast hne, (List.dropLast_concat_getLast hne).symm⟩
    have hc := hd c (by simp)
    have hc2 : UInt8.ofNat (48 + (c.toNat - 48)) = c := by
      apply UInt8.toNat_inj.1
      rw [toNat_of (by unfold dig at hc; omega)]
      unfold dig at hc; omega
    have hlt : c.toNat - 48 < 10 := by unfold dig at hc; omega
    rw [valF_append, valF_one]
    by_cases hr : r = []
    · subst hr
      simp only [valF, List.foldl_nil, Nat.zero_mul, Nat.zero_add, List.nil_append]
      rw [dec_small hlt, hc2]
    · have hrl : r.length = k := by simp at hk; exact hk
      have hr1 : 1 ≤ r.length := List.length_pos_iff.2 hr
      have hh : r.head? ≠ some 48 := by
        rcases h0 with h0 | h0
        · simp at h0; exact absurd h0 hr
        · rwa [head_app hr] at h0
      have hv := ih r hrl (fun c hc => hd c (by simp [hc])) hr (.inr hh)
      have hpos : 1 ≤ valF 0 r := by
        cases r with
        | nil => exact absurd rfl hr
        | cons x s =>
          have hx := hd x (by simp)
          have : x.toNat ≠ 48 := fun e => hh (by rw [List.head?_cons, show x = 48 from UInt8.toNat_inj.1 (by rw [e]; rfl)])
          have h1 := valF_ge s (0 * 10 + (x.toNat - 48))
          show 1 ≤ valF (0 * 10 + (x.toNat - 48)) s
          unfold dig at hx
          omega
      rw [dec_big (by omega), show (valF 0 r * 10 + (c.toNat - 48)) / 10 = valF 0 r by omega, show (valF 0 r * 10 + (c.toNat - 48)) % 10 = c.toNat - 48 by omega, hv, hc2]
theorem dec_len : ∀ (k n : Nat), n < 10 ^ (k + 1) → (decDigits n).length ≤ k + 1
  | 0, n, h => by rw [dec_small (by simpa using h)]; simp
  | k + 1, n, h => by
    by_cases h9 : n < 10
    · rw [dec_small h9]; simp
    · rw [dec_big h9]
      have := dec_len k (n / 10) (by rw [Nat.pow_succ] at h; omega)
      simp; omega
theorem parseM_dec (M : Nat) (hM : M ≤ 18446744073709551615) : ∀ (l : List UInt8) (acc : Nat), (∀ c ∈ l, dig c) → valF acc l ≤ M → parseUintM M acc l = .ok (valF acc l)
  | [], acc, _, _ => rfl
  | c :: r, acc, hd, hv => by
    have hc : 48 ≤ c.toNat ∧ c.toNat ≤ 57 := hd c (by simp)
    have h1 : valF acc (c :: r) = valF (acc * 10 + (c.toNat - 48)) r := rfl
    rw [h1] at hv
    have h2 := valF_ge r (acc * 10 + (c.toNat - 48))
    rw [parseUintM, if_pos hc, if_neg (by omega), if_neg (by omega), h1]
    exact parseM_dec M hM r _ (fun c hc => hd c (by simp [hc])) hv
theorem parse_dec (n : Nat) (h : n < 9223372036854775808) : parseIntB 64 (decDigits n) = .ok (n : Int) := by
  obtain ⟨c, r, e⟩ : ∃ c r, decDigits n = c :: r := by
    cases h : decDigits n with
    | nil => exact absurd h (dec_ne n)
    | cons c r => exact ⟨c, r, rfl⟩
  have hc : dig c := dec_dig n c (by rw [e]; simp)
  have hp : parseUintB 64 (c :: r) = .ok n := by
    rw [← e]
    unfold parseUintB
    rw [if_neg (dec_ne n), parseM_dec _ (by decide) _ _ (dec_dig n) (by rw [val_dec]; omega), val_dec]
  unfold dig at hc
  rw [e]
  unfold parseIntB
  simp only
  rw [if_neg (by omega), hp]
  simp only
  rw [if_neg (by omega), if_neg (by omega), if_neg (by omega)]

/-- The signs behind a number. -/
def sfx (l d a : Bool) : List UInt8 := (if l then [76] else []) ++ ((if d then [68] else []) ++ (if a then [65] else []))
def bodyL (e n : Nat) : List UInt8 := decDigits e ++ 46 :: decDigits n
def textL (e n : Nat) (l d a : Bool) : List UInt8 := bodyL e n ++ sfx l d a

theorem ndig {c : UInt8} (h : dig c) : c ≠ 76 ∧ c ≠ 68 ∧ c ≠ 65 ∧ c ≠ 46 := by
  unfold dig at h
  refine ⟨?_, ?_, ?_, ?_⟩ <;> (rintro rfl; simp at h)
theorem body_last (e n : Nat) : ∃ X t, bodyL e n = X ++ [t] ∧ t ≠ 76 ∧ t ≠ 68 ∧ t ≠ 65 := by
  have hne := dec_ne n
  refine ⟨decDigits e ++ 46 :: (decDigits n).dropLast, (decDigits n).getLast hne, ?_, ?_⟩
  · unfold bodyL
    rw [List.append_assoc, List.cons_append, List.dropLast_concat_getLast hne]
  · have := ndig (dec_dig n _ (List.getLast_mem hne))
    exact ⟨this.1, this.2.1, this.2.2.1⟩
theorem body_mem {e n : Nat} {c : UInt8} (h : c ∈ bodyL e n) : dig c ∨ c = 46 := by
  unfold bodyL at h
  rcases List.mem_append.1 h with h | h
  · exact .inl (dec_dig e c h)
  · rcases List.mem_cons.1 h with rfl | h
    · exact .inr rfl
    · exact .inl (dec_dig n c h)
theorem has_iff (L : List UInt8) (c : UInt8) : decide (0 ≤ indexByte L c) = decide (c ∈ L) := by
  rw [Bool.eq_iff_iff]
  simp only [decide_eq_true_eq]
  constructor
  · intro h
    obtain ⟨o, ho⟩ := Int.eq_ofNat_of_zero_le h
    have := (indexByte_some ho).1
    exact List.mem_of_getElem? this
  · intro h
    have hg := indexByte_ge L c
    rcases Int.lt_or_le (indexByte L c) 0 with hl | hl
    · have := indexByte_none (show indexByte L c = -1 by omega)
      obtain ⟨k, hk⟩ := List.mem_iff_getElem?.1 h
      exact absurd hk (this k)
    · exact hl
theorem has_sfx (e n : Nat) (l d a : Bool) (c : UInt8) (hc : ¬ dig c) (h46 : c ≠ 46) : decide (0 ≤ indexByte (textL e n l d a) c) = decide (c ∈ sfx l d a) := by
  rw [has_iff]
  rw [Bool.eq_iff_iff]
  simp only [decide_eq_true_eq]
  unfold textL
  rw [List.mem_append]
  refine ⟨fun h => h.elim (fun h => ?_) id, .inr⟩
  rcases body_mem h with h | h
  · exact absurd h hc
  · exact absurd h h46
theorem has_l (e n : Nat) (l d a : Bool) : decide (0 ≤ indexByte (textL e n l d a) 76) = l := by
  rw [has_sfx e n l d a 76 (by unfold dig; simp) (by decide)]
  cases l <;> cases d <;> cases a <;> decide
theorem has_d (e n : Nat) (l d a : Bool) : decide (0 ≤ indexByte (textL e n l d a) 68) = d := by
  rw [has_sfx e n l d a 68 (by unfold dig; simp) (by decide)]
  cases l <;> cases d <;> cases a <;> decide
theorem has_a (e n : Nat) (l d a : Bool) : decide (0 ≤ indexByte (textL e n l d a) 65) = a := by
  rw [has_sfx e n l d a 65 (by unfold dig; simp) (by decide)]
  cases l <;> cases d <;> cases a <;> decide
theorem trim_sfx (e n : Nat) (l d a : Bool) : trimRightS (textL e n l d a) [76, 68, 65] = bodyL e n := by
  obtain ⟨X, t, hX, h1, h2, h3⟩ := body_last e n
  have ht : [76, 68, 65].contains t = false := by
    rw [Bool.eq_false_iff]
    intro h
    have := List.contains_iff_mem.1 h
    simp [h1, h2, h3] at this
  unfold textL trimRightS
  rw [List.reverse_append, List.dropWhile_append_of_pos (by
    intro c hc
    rw [List.mem_reverse] at hc
    revert hc
    cases l <;> cases d <;> cases a <;> simp [sfx] <;> (intro hc; first | (rcases hc with rfl | rfl | rfl) | (rcases hc with rfl | rfl) | subst hc) <;> decide), hX]
  rw [List.reverse_append, List.reverse_singleton, List.singleton_append, List.dropWhile_cons_of_neg (by rw [ht]; decide)]
  simp
theorem cut_body (e n : Nat) : cut (bodyL e n) [46] = (decDigits e, decDigits n, true) := by
  have h46 : ∀ k, k < (decDigits e).length → (bodyL e n)[k]? ≠ some 46 := fun k hk h => by
    unfold bodyL at h
    rw [List.getElem?_append_left hk] at h
    exact (ndig (dec_dig e _ (List.mem_of_getElem? h))).2.2.2 rfl
  have hat : (bodyL e n)[(decDigits e).length]? = some 46 := by
    unfold bodyL
    rw [List.getElem?_append_right (Nat.le_refl _)]
    simp
  have hi : indexByte (bodyL e n) 46 = ((decDigits e).length : Nat) := by
    have hm : (46 : UInt8) ∈ bodyL e n := List.mem_of_getElem? hat
    have h0 : 0 ≤ indexByte (bodyL e n) 46 := by
      have := has_iff (bodyL e n) 46
      rw [Bool.eq_iff_iff] at this
      simpa using this.2 (by simpa using hm)
    obtain ⟨o, ho⟩ := Int.eq_ofNat_of_zero_le h0
    obtain ⟨g1, g2⟩ := indexByte_some ho
    rw [ho]
    congr 1
    rcases Nat.lt_trichotomy o (decDigits e).length with h | h | h
    · exact absurd g1 (h46 o h)
    · exact h
    · exact absurd hat (g2 _ h)
  unfold cut
  rw [index_one, hi, if_pos (by omega)]
  have e1 : (bodyL e n).take (decDigits e).length = decDigits e := by unfold bodyL; simp
  have e2 : (bodyL e n).drop ((decDigits e).length + 1) = decDigits n := by
    unfold bodyL
    rw [← List.drop_drop, List.drop_left]
    simp
  simp only [Int.toNat_natCast, List.length_singleton, e1, e2]

/-- What the reference takes off at the end. -/
def stp (L : List UInt8) (c : UInt8) (E : Nat) : Nat := if 0 < E ∧ L[E - 1]? = some c then E - 1 else E
def stB (L : List UInt8) (c : UInt8) (E : Nat) : Bool := decide (0 < E ∧ L[E - 1]? = some c)
theorem stp_le (L : List UInt8) (c : UInt8) (E : Nat) : stp L c E ≤ E := by unfold stp; split <;> omega
theorem stp_take (L : List UInt8) (c : UInt8) (E : Nat) (hE : E ≤ L.length) : L.take E = L.take (stp L c E) ++ (if stB L c E then [c] else []) := by
  unfold stp stB
  by_cases h : 0 < E ∧ L[E - 1]? = some c
  · rw [if_pos h]
    simp only [h, and_self, decide_true, if_true]
    obtain ⟨k, rfl⟩ : ∃ k, E = k + 1 := ⟨E - 1, by omega⟩
    have h2 := h.2
    rw [Nat.add_sub_cancel] at h2 ⊢
    rw [List.take_add_one, h2]
    rfl
  · rw [if_neg h, decide_eq_false h]; simp
def eA (L : List UInt8) : Nat := stp L 65 L.length
def eD (L : List UInt8) : Nat := stp L 68 (eA L)
def eL (L : List UInt8) : Nat := stp L 76 (eD L)
def bA (L : List UInt8) : Bool := stB L 65 L.length
def bD (L : List UInt8) : Bool := stB L 68 (eA L)
def bL (L : List UInt8) : Bool := stB L 76 (eD L)
theorem e_le (L : List UInt8) : eL L ≤ L.length ∧ eD L ≤ L.length ∧ eA L ≤ L.length := by
  have h1 := stp_le L 65 L.length
  have h2 := stp_le L 68 (eA L)
  have h3 := stp_le L 76 (eD L)
  unfold eL eD eA at *
  omega
theorem recon (L : List UInt8) : L = L.take (eL L) ++ sfx (bL L) (bD L) (bA L) := by
  obtain ⟨h1, h2, h3⟩ := e_le L
  have a1 := stp_take L 65 L.length (Nat.le_refl _)
  have a2 := stp_take L 68 (eA L) h3
  have a3 := stp_take L 76 (eD L) h2
  rw [List.take_length] at a1
  calc L = L.take (eA L) ++ (if bA L then [65] else []) := a1
    _ = (L.take (eD L) ++ (if bD L then [68] else [])) ++ (if bA L then [65] else []) := by
      show L.take (eA L) ++ _ = _
      rw [a2]; rfl
    _ = ((L.take (eL L) ++ (if bL L then [76] else [])) ++ (if bD L then [68] else [])) ++ (if bA L then [65] else []) := by
      show (L.take (eD L) ++ _) ++ _ = _
      rw [a3]; rfl
    _ = L.take (eL L) ++ sfx (bL L) (bD L) (bA L) := by unfold sfx; simp only [List.append_assoc]
theorem stp_hit (X : List UInt8) (Y : List UInt8) (c : UInt8) : stp ((X ++ [c]) ++ Y) c (X.length + 1) = X.length ∧ stB ((X ++ [c]) ++ Y) c (X.length + 1) = true := by
  have h : 0 < X.length + 1 ∧ ((X ++ [c]) ++ Y)[X.length + 1 - 1]? = some c := ⟨by omega, by simp⟩
  unfold stp stB
  rw [if_pos h, decide_eq_true h]
  exact ⟨by omega, rfl⟩
theorem stp_miss (X : List UInt8) (Y : List UInt8) (t c : UInt8) (h : t ≠ c) : stp ((X ++ [t]) ++ Y) c (X.length + 1) = X.length + 1 ∧ stB ((X ++ [t]) ++ Y) c (X.length + 1) = false := by
  have h : ¬ (0 < X.length + 1 ∧ ((X ++ [t]) ++ Y)[X.length + 1 - 1]? = some c) := by
    rintro ⟨_, h2⟩
    simp at h2
    exact h h2
  unfold stp stB
  rw [if_neg h, decide_eq_false h]
  exact ⟨rfl, rfl⟩
theorem stp_any (Z Y : List UInt8) (c : UInt8) (b : Bool) (hz : ∃ X t, Z = X ++ [t] ∧ t ≠ c) (E : Nat) (hE : E = (Z ++ (if b then [c] else [])).length) :
    stp ((Z ++ (if b then [c] else [])) ++ Y) c E = Z.length ∧ stB ((Z ++ (if b then [c] else [])) ++ Y) c E = b := by
  cases b with
  | true =>
    simp only [if_true] at hE ⊢
    rw [List.length_append] at hE
    subst hE
    exact stp_hit Z Y c
  | false =>
    obtain ⟨X, t, rfl, ht⟩ := hz
    simp only [Bool.false_eq_true, if_false, List.append_nil] at hE ⊢
    rw [List.length_append] at hE ⊢
    subst hE
    exact stp_miss X Y t c ht
theorem text_strip (e n : Nat) (l d a : Bool) (L : List UInt8) (hL : L = textL e n l d a) : eL L = (bodyL e n).length ∧ bL L = l ∧ bD L = d ∧ bA L = a := by
  obtain ⟨X, t, hX, h1, h2, h3⟩ := body_last e n
  have e1 : L = ((bodyL e n ++ (if l then [76] else [])) ++ (if d then [68] else [])) ++ (if a then [65] else []) := by rw [hL]; unfold textL sfx; simp only [List.append_assoc]
  have z1 : ∃ X t, bodyL e n ++ (if l then [76] else []) = X ++ [t] ∧ t ≠ 68 ∧ t ≠ 65 := by
    cases l with
    | true => exact ⟨bodyL e n, 76, rfl, by decide, by decide⟩
    | false => exact ⟨X, t, by simp [hX], h2, h3⟩
  have z2 : ∃ X t, (bodyL e n ++ (if l then [76] else [])) ++ (if d then [68] else []) = X ++ [t] ∧ t ≠ 65 := by
    cases d with
    | true => exact ⟨_, 68, rfl, by decide⟩
    | false =>
      obtain ⟨X, t, h, _, h65⟩ := z1
      exact ⟨X, t, by simpa using h, h65⟩
  have s1 := stp_any ((bodyL e n ++ (if l then [76] else [])) ++ (if d then [68] else [])) [] 65 a z2 L.length (by rw [e1])
  rw [List.append_nil, ← e1] at s1
  have s2 := stp_any (bodyL e n ++ (if l then [76] else [])) (if a then [65] else []) 68 d (by obtain ⟨X, t, h, h68, _⟩ := z1; exact ⟨X, t, h, h68⟩) (eA L) s1.1
  rw [← e1] at s2
  have s3 := stp_any (bodyL e n) ((if d then [68] else []) ++ (if a then [65] else [])) 76 l ⟨X, t, hX, h1⟩ (eD L) s2.1
  rw [← List.append_assoc, ← e1] at s3
  exact ⟨s3.1, s3.2, s2.2, s1.2⟩
/-- Where the dot is, what stands ahead of it and behind. -/
theorem text_dot (e n : Nat) (l d a : Bool) (L : List UInt8) (hL : L = textL e n l d a) :
    L[(decDigits e).length]? = some 46 ∧ (decDigits e).length < eL L ∧ (∀ k, k < (decDigits e).length → L[k]? ≠ some 46) ∧ L.take (decDigits e).length = decDigits e ∧ (L.take (eL L)).drop ((decDigits e).length + 1) = decDigits n := by
  have hE := (text_strip e n l d a L hL).1
  have hb : (bodyL e n).length = (decDigits e).length + 1 + (decDigits n).length := by unfold bodyL; simp; omega
  have hL2 : L = decDigits e ++ (46 :: decDigits n ++ sfx l d a) := by rw [hL]; unfold textL bodyL; simp
  refine ⟨?_, by omega, fun k hk h => ?_, ?_, ?_⟩
  · rw [hL2, List.getElem?_append_right (Nat.le_refl _)]; simp
  · rw [hL2, List.getElem?_append_left hk] at h
    exact (ndig (dec_dig e _ (List.mem_of_getElem? h))).2.2.2 rfl
  · rw [hL2]; simp
  · rw [hE, hL]
    unfold textL
    rw [List.take_left]
    unfold bodyL
    rw [← List.drop_drop, List.drop_left]
    simp
/-- What is no number of digits as they are written. -/
def numV (l : List UInt8) : Option Nat := if l ≠ [] ∧ l.length ≤ 12 ∧ (l.length = 1 ∨ l.head? ≠ some 48) ∧ (∀ c ∈ l, dig c) then some (valF 0 l) else none
theorem numV_dec (n : Nat) (h : n < 10 ^ 12) : numV (decDigits n) = some n := by
  have h1 : (decDigits n).length = 1 ∨ (decDigits n).head? ≠ some 48 := by
    by_cases h9 : n < 10
    · left; rw [dec_small h9]; rfl
    · right; exact dec_head h9
  unfold numV
  rw [if_pos ⟨dec_ne n, dec_len 11 n h, h1, dec_dig n⟩, val_dec]
theorem numV_some {l : List UInt8} {v : Nat} (h : numV l = some v) : decDigits v = l := by
  unfold numV at h
  split at h
  · rename_i hc
    cases h
    exact dec_val _ l rfl hc.2.2.2 hc.1 hc.2.2.1
  · cases h
theorem valF_lt : ∀ (l : List UInt8) (acc : Nat), (∀ c ∈ l, dig c) → valF acc l < (acc + 1) * 10 ^ l.length
  | [], acc, _ => by simp [valF]
  | c :: r, acc, hd => by
    have hc : 48 ≤ c.toNat ∧ c.toNat ≤ 57 := hd c (by simp)
    have h := valF_lt r (acc * 10 + (c.toNat - 48)) (fun c hc => hd c (by simp [hc]))
    show valF (acc * 10 + (c.toNat - 48)) r < _
    rw [List.length_cons, Nat.pow_succ]
    calc valF (acc * 10 + (c.toNat - 48)) r < (acc * 10 + (c.toNat - 48) + 1) * 10 ^ r.length := h
      _ ≤ ((acc + 1) * 10) * 10 ^ r.length := Nat.mul_le_mul_right _ (by omega)
      _ = (acc + 1) * (10 ^ r.length * 10) := by rw [Nat.mul_assoc, Nat.mul_comm 10]
/-- The text is one: put together again. -/
theorem text_of (L : List UInt8) (k e n : Nat) (hk : k < eL L) (h46 : L[k]? = some 46) (he : numV (L.take k) = some e) (hn : numV ((L.take (eL L)).drop (k + 1)) = some n) : L = textL e n (bL L) (bD L) (bA L) := by
  have h1 := numV_some he
  have h2 := numV_some hn
  have hl := (e_le L).1
  have hb : L.take (eL L) = bodyL e n := by
    unfold bodyL
    rw [h1, h2]
    have h3 : L.take k = (L.take (eL L)).take k := by rw [List.take_take, Nat.min_eq_left (by omega)]
    have h4 : (L.take (eL L))[k]? = some 46 := by rw [List.getElem?_take, if_pos hk, h46]
    obtain ⟨hk2, h5⟩ := List.getElem?_eq_some_iff.1 h4
    rw [h3]
    conv => lhs; rw [← List.take_append_drop k (L.take (eL L))]
    congr 1
    rw [List.drop_eq_getElem_cons hk2, h5]
  conv => lhs; rw [recon L]
  unfold textL
  rw [hb]
end Go.Proofs.YtfdboihfgpibcaaDoor.TX
