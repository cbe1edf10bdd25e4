/- The document's own reading of digits, by contracts. -/
import Derived.Test.YtfdboihfgpibcaaDoorTxb
namespace Go.Proofs.YtfdboihfgpibcaaDoor
open Go.ChangeShapes Go.WideShapes Go.ChangeAt Go.RowKit
open TM
set_option linter.unusedVariables false
set_option linter.unusedSimpArgs false

/-- What the reference's number tells of a text. -/
def numI (L : List UInt8) : Int := match TX.numV L with | some v => (v : Int) | none => -1
def NuI (L : List UInt8) (i : Nat) (a : Int) : Prop := a = (TX.valF 0 (L.take i) : Nat) ∧ ∀ c ∈ L.take i, TX.dig c
theorem NuI.bd {L : List UInt8} {i : Nat} {a : Int} (h : NuI L i a) (hi : i ≤ 12) : 0 ≤ a ∧ a ≤ 1000000000000 := by
  have h1 := TX.valF_lt (L.take i) 0 h.2
  have h2 : (L.take i).length ≤ 12 := by rw [List.length_take]; omega
  have h3 : 10 ^ (L.take i).length ≤ 10 ^ 12 := Nat.pow_le_pow_right (by decide) h2
  have h4 := h.1
  omega
theorem NuI.step {L : List UInt8} {i : Nat} {a : Int} (h : NuI L i a) (c : UInt8) (hc : L[i]? = some c) (hd : TX.dig c) : NuI L (i + 1) (10 * a + ((c.toNat : Int) - 48)) := by
  have e : L.take (i + 1) = L.take i ++ [c] := by rw [List.take_add_one, hc]; rfl
  refine ⟨?_, ?_⟩
  · rw [e, TX.valF_append, TX.valF_one, h.1]
    unfold TX.dig at hd
    omega
  · rw [e]
    intro d hm
    rcases List.mem_append.1 hm with hm | hm
    · exact h.2 d hm
    · rw [List.mem_singleton] at hm; subst hm; exact hd
theorem NuI.fin {L : List UInt8} {a : Int} (h : NuI L L.length a) (h1 : 1 ≤ L.length) (h2 : L.length ≤ 12) (hh : L.length = 1 ∨ L.head? ≠ some 48) : numI L = a := by
  have hd := h.2
  rw [List.take_length] at hd
  unfold numI TX.numV
  rw [if_pos ⟨fun e => by subst e; simp at h1, h2, hh, hd⟩]
  simp only
  rw [h.1, List.take_length]
theorem numI_no {L : List UInt8} (h : L = [] ∨ 12 < L.length ∨ (¬ L.length = 1 ∧ L.head? = some 48) ∨ ∃ (i : Nat) (c : UInt8), L[i]? = some c ∧ ¬ TX.dig c) : numI L = -1 := by
  unfold numI TX.numV
  rw [if_neg ?_]
  rintro ⟨h1, h2, h3, h4⟩
  rcases h with h | h | h | ⟨i, c, hi, hc⟩
  · exact h1 h
  · omega
  · rcases h3 with h3 | h3
    · exact h.1 h3
    · exact h3 h.2
  · exact hc (h4 c (List.mem_of_getElem? hi))
theorem getB (s : ByteArray) (i : Nat) (h : i < s.size) : s.data.toList[i]? = some s[i] := by
  have h2 : i < s.data.toList.length := by simpa using h
  rw [List.getElem?_eq_getElem h2]
  rfl
set_option maxRecDepth 4000 in
set_option maxHeartbeats 1000000 in
theorem refnum_any (s : ByteArray) (n : Nat) (hn : s.size = n) (hn9 : n ≤ 9000) (L : List UInt8) (hL : L = s.data.toList) (w : World) : Calls Tryd.prog 36 #[.string s] w fun e w' => e = .returned (.int .i64 (numI L)) ∧ w = w' := by
  have hl : L.length = n := by rw [hL, ← hn, Lib.size_eq]
  by_cases h1n : n = 0
  · subst h1n
    have hR : numI L = -1 := numI_no (.inl (List.length_eq_zero_iff.1 hl))
    rw [hR]
    clear hR hL hl
    go_enter Tryd.func36, Tryd.ntmps36
    go_wp2_with fail
    go_ret
    exact ⟨rfl, rfl⟩
  by_cases hn12 : 12 < n
  · have hR : numI L = -1 := numI_no (.inr (.inl (by omega)))
    rw [hR]
    clear hR hL hl
    have h1 : ((n : Int) == 0) = false := by simp; omega
    have h2 : (12 : Int) < (n : Int) := by omega
    go_enter Tryd.func36, Tryd.ntmps36
    go_wp2_with fail
    go_ret
    exact ⟨rfl, rfl⟩
  have hs0 : 0 < s.size := by omega
  obtain ⟨x0, hx0⟩ : ∃ x : Nat, s[0].toNat = x := ⟨_, rfl⟩
  have hg0 := getB s 0 hs0
  rw [← hL] at hg0
  have h1 : ((n : Int) == 0) = false := by simp; omega
  have h2 : ¬ (12 : Int) < (n : Int) := by omega
  have h0 : 0 < n := by omega
  have hni : (n : Int) ≤ 12 := by omega
  have hh48 : L.head? = some 48 ↔ x0 = 48 := by
    rw [List.head?_eq_getElem?, hg0, ← hx0]
    constructor
    · intro e; rw [Option.some.inj e]; rfl
    · intro e; rw [show s[0] = 48 from UInt8.toNat_inj.1 (by rw [e]; rfl)]
  by_cases hz : x0 = 48 ∧ 1 < n
  · have hR : numI L = -1 := numI_no (.inr (.inr (.inl ⟨by omega, hh48.2 hz.1⟩)))
    rw [hR]
    have hz1 : ((x0 : Int) == 48) = true := by simp; omega
    have hz2 : (1 : Int) < (n : Int) := by omega
    clear hR hL hl hh48 hg0 hz hni hn12 h1n
    go_enter Tryd.func36, Tryd.ntmps36
    go_wp2_with fail
    all_goals first | (go_ret; exact ⟨rfl, rfl⟩) | skip
  have HF := Lib.hid (fun (a : Int) (h : NuI L n a) => NuI.fin (hl ▸ h) (by omega) (by omega) (by
    by_cases e : n = 1
    · left; omega
    · right; intro h48; exact hz ⟨hh48.1 h48, by omega⟩))
  have HNO := Lib.hid (fun (i : Nat) (c : UInt8) (h : L[i]? = some c) (hd : ¬ TX.dig c) => numI_no (L := L) (.inr (.inr (.inr ⟨i, c, h, hd⟩))))
  have HG := Lib.hid (fun (i : Nat) (h : i < s.size) => show L[i]? = some s[i] by rw [hL]; exact getB s i h)
  have HX0 := Lib.hid hx0
  have hb : ((x0 : Int) == 48) = false ∨ (((x0 : Int) == 48) = true ∧ ¬ (1 : Int) < (n : Int)) := by
    by_cases e : x0 = 48
    · right; exact ⟨by simp; omega, by omega⟩
    · left; simp; omega
  clear hL hl hh48 hg0 hz hn12 h1n
  generalize numI L = R at *
  have HB := Lib.hid hb
  clear hb
  go_enter Tryd.func36, Tryd.ntmps36
  rcases HB.out with hb | ⟨hb, hb2⟩
  all_goals go_wp2_with fail
  all_goals go_loopw [3, 4] (fun a i wr => ∃ (k : Nat) (v : Int), k ≤ n ∧ a = .int .i64 v ∧ i = .int .i64 (k : Int) ∧ Hid (NuI L k v) ∧ w = wr) (fun _ i _ => n - (intOf i).toNat)
  all_goals first
    | exact ⟨0, 0, by omega, rfl, rfl, Lib.hid ⟨by simp [TX.valF], by simp⟩, rfl⟩
    | skip
  all_goals
    obtain ⟨k, v, hk, rfl, rfl, hI, rfl⟩ := hrel
    by_cases hlt : k < n
    · have hkl : (k : Int) < (n : Int) := by omega
      have hks : k < s.size := by omega
      obtain ⟨x, hx⟩ : ∃ x : Nat, s[k].toNat = x := ⟨_, rfl⟩
      have hx255 : x ≤ 255 := by have := s[k].toNat_lt; omega
      have HXK := Lib.hid hx
      obtain ⟨v0, v1⟩ := hI.out.bd (by omega)
      by_cases hd : 48 ≤ x ∧ x ≤ 57
      · have d1 : ¬ (x : Int) < 48 := by omega
        have d2 : ¬ (57 : Int) < (x : Int) := by omega
        have d3 : wrap64 (10 * v) = 10 * v := by unfold wrap64; omega
        have d4 : wrap64 (10 * v + ((x : Int) - 48)) = 10 * v + ((x : Int) - 48) := by unfold wrap64; omega
        have d5 : IntKind.u8.wrap ((x : Int) - 48) = (x : Int) - 48 := by rw [IntKind.wrap_u8]; omega
        have HD := Lib.hid hd
        have HV := Lib.hid (And.intro v0 v1)
        clear hd v0 v1 hx255 hx0
        go_wp2_with fail
        go_roundw
        case rel =>
          have hst := hI.out.step s[k] (HG.out k hks) (by unfold TX.dig; rw [HXK.out]; exact HD.out)
          rw [HXK.out] at hst
          exact ⟨k + 1, _, by omega, rfl, by go_num, Lib.hid (by rw [d4]; exact hst), by trivial⟩
        case measure => simp [intOf]; omega
      · have hR : R = -1 := HNO.out k s[k] (HG.out k hks) (by unfold TX.dig; rw [hx]; exact hd)
        subst hR
        by_cases d1 : x < 48
        · have d2 : (x : Int) < 48 := by omega
          clear v0 v1 hx255 hx0 hd
          go_wp2_with fail
          try rw [Exit.noGoto_ret]
          go_ret
          exact ⟨rfl, rfl⟩
        · have d2 : ¬ (x : Int) < 48 := by omega
          have d3 : (57 : Int) < (x : Int) := by omega
          clear v0 v1 hx255 hx0 hd
          go_wp2_with fail
          try rw [Exit.noGoto_ret]
          go_ret
          exact ⟨rfl, rfl⟩
    · have hkl : ¬ (k : Int) < (n : Int) := by omega
      have hkn : k = n := by omega
      have hR : R = v := HF.out v (hkn ▸ hI.out)
      subst hR
      go_wp2_with fail
      go_ret
      exact ⟨rfl, rfl⟩
end Go.Proofs.YtfdboihfgpibcaaDoor
