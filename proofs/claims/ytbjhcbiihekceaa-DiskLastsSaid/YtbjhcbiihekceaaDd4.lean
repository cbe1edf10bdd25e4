/- Disks: DiskNames: what its loop keeps. -/
import Derived.Test.YtbjhcbiihekceaaDd3
import Derived.SliceStrings
import Derived.ProofKit
import Derived.OpenShut
namespace Go.Proofs.Ytbjhcbiihekceaa
open Go.ChangeShapes Go.WideShapes Go.ChangeAt Go.RowKit Go.Maps
set_option linter.unusedVariables false
set_option linter.unusedSimpArgs false
theorem less_of {a b : ByteArray} (h : bytesBefore a.data.toList b.data.toList = true) : Op.bytesLess a.toList b.toList = true := by
  rw [ByteArray.toList_eq, ByteArray.toList_eq]
  have e : ∀ x y : List UInt8, bytesBefore x y = Op.bytesLess x y := fun x => by
    induction x with
    | nil => intro y; cases y <;> rfl
    | cons a r ih => intro y; cases y with
      | nil => rfl
      | cons b s => show (a < b || (a == b && bytesBefore r s)) = (a < b || (a == b && Op.bytesLess r s)); rw [ih]
  rw [← e]; exact h
theorem DC.rise {W : World} {p bm room : Nat} {C : List CF} {O : Nat → Prop} (h : DC W p bm room C O) : C.Pairwise fun c d => bytesBefore c.1.data.toList d.1.data.toList = true := by
  obtain ⟨L, h1, rfl, _⟩ := h
  exact core_rise h1
theorem DC.apart {W : World} {p bm room : Nat} {C : List CF} {O : Nat → Prop} (h : DC W p bm room C O) : C.Pairwise fun c d => c.1 ≠ d.1 := h.rise.imp fun {c d} hb e => by
  rw [e, Go.WideAt.bytes_irrefl] at hb; cases hb
theorem DC.few {W : World} {p bm room : Nat} {C : List CF} {O : Nat → Prop} (h : DC W p bm room C O) : C.length ≤ 64 := by
  obtain ⟨L, h1, rfl, _⟩ := h
  rw [List.length_map]; exact h1.ok.few
theorem cFind_none {C : List CF} {s : ByteArray} : cFind C s = none ↔ ∀ c ∈ C, c.1 ≠ s := by
  unfold cFind
  simp
theorem cFind_some {C : List CF} {s : ByteArray} {c : CF} (h : cFind C s = some c) : c ∈ C ∧ c.1 = s := ⟨List.mem_of_find?_eq_some h, by simpa using List.find?_some h⟩
theorem cDel_none {C : List CF} {s : ByteArray} (h : cFind C s = none) : cDel s C = C := List.filter_eq_self.2 fun c hc => by simp [cFind_none.1 h c hc]
theorem cIns_perm (c : CF) : ∀ C : List CF, (cIns c C).Perm (c :: C)
  | [] => List.Perm.refl _
  | g :: r => by
    unfold cIns
    split
    · exact List.Perm.refl _
    · exact ((cIns_perm c r).cons g).trans (List.Perm.swap c g r)
theorem mem_cIns {c x : CF} {C : List CF} : x ∈ cIns c C ↔ x = c ∨ x ∈ C := by rw [(cIns_perm c C).mem_iff, List.mem_cons]
theorem mem_cDel {s : ByteArray} {x : CF} {C : List CF} : x ∈ cDel s C ↔ x ∈ C ∧ x.1 ≠ s := by simp [cDel]
theorem mem_cPut {c x : CF} {C : List CF} : x ∈ cPut c C ↔ x = c ∨ (x ∈ C ∧ x.1 ≠ c.1) := by rw [cPut, mem_cIns, mem_cDel]
theorem cDel_len {C : List CF} {s : ByteArray} (hp : C.Pairwise fun c d => c.1 ≠ d.1) {c : CF} (h : cFind C s = some c) : (cDel s C).length + 1 = C.length := by
  induction C with
  | nil => cases h
  | cons g r ih =>
    obtain ⟨h1, h2⟩ := List.pairwise_cons.1 hp
    by_cases e : g.1 = s
    · have : cDel s (g :: r) = r := by
        unfold cDel
        rw [List.filter_cons, if_neg (by simp [e])]
        exact List.filter_eq_self.2 fun x hx => by
          have := h1 x hx
          simp; intro e2; exact this (e.trans e2.symm)
      rw [this, List.length_cons]
    · have h3 : cFind r s = some c := by
        unfold cFind at h ⊢
        rwa [List.find?_cons_of_neg (by simp [e])] at h
      have : cDel s (g :: r) = g :: cDel s r := by
        unfold cDel
        rw [List.filter_cons, if_pos (by simp [e])]
      rw [this, List.length_cons, List.length_cons, ih h2 h3]
theorem cPut_len_in {C : List CF} {c d : CF} (hp : C.Pairwise fun c d => c.1 ≠ d.1) (h : cFind C c.1 = some d) : (cPut c C).length = C.length := by
  unfold cPut
  rw [(cIns_perm _ _).length_eq, List.length_cons, cDel_len hp h]
theorem cPut_len_out {C : List CF} {c : CF} (h : cFind C c.1 = none) : (cPut c C).length = C.length + 1 := by
  unfold cPut
  rw [(cIns_perm _ _).length_eq, List.length_cons, cDel_none h]
theorem find_cPut {C : List CF} {c : CF} : (cFind (cPut c C) c.1).isNone = false := by
  cases h : cFind (cPut c C) c.1 with
  | some x => rfl
  | none => exact absurd rfl (cFind_none.1 h c (mem_cPut.2 (Or.inl rfl)))
/-- All files are without bytes. -/
def Bare (C : List CF) : Prop := ∀ c ∈ C, c.2.1 = []
theorem Bare.sum {C : List CF} (h : Bare C) : cSum C = 0 := by
  unfold cSum
  induction C with
  | nil => rfl
  | cons g r ih =>
    rw [List.map_cons, List.sum_cons, ih fun c hc => h c (by simp [hc]), h g (by simp)]; rfl
/-- One round of DiskNames: what the calls answer. -/
theorem names_round {C : List CF} (s : ByteArray) (hp : C.Pairwise fun c d => c.1 ≠ d.1) (hb : Bare C) :
    (mayB s = false ∧ oneE C s = 2 ∧ appE 1024 C s 0 = 2 ∧ appC 1024 C s [] = C) ∨
    (mayB s = true ∧ oneE C s = 0 ∧ appE 1024 C s 0 = 0 ∧ Bare (appC 1024 C s []) ∧ (appC 1024 C s []).length = C.length) ∨
    (mayB s = true ∧ oneE C s = 6 ∧ C.length = 64 ∧ appE 1024 C s 0 = 5 ∧ appC 1024 C s [] = C) ∨
    (mayB s = true ∧ oneE C s = 6 ∧ C.length ≠ 64 ∧ appE 1024 C s 0 = 0 ∧ oneE (appC 1024 C s []) s = 0 ∧ Bare (appC 1024 C s []) ∧ (appC 1024 C s []).length = C.length + 1) := by
  have hs := hb.sum
  cases hm : mayB s with
  | false =>
    have e2 : appE 1024 C s 0 = 2 := by unfold appE; rw [if_pos hm]
    refine Or.inl ⟨rfl, by unfold oneE; rw [if_pos hm], e2, ?_⟩
    unfold appC
    rw [if_neg]
    show ¬ appE 1024 C s 0 = 0
    rw [e2]; decide
  | true =>
    right
    have hb2 : ∀ c : CF, c.2.1 = [] → Bare (cPut c C) := fun c hc x hx => by
      rcases mem_cPut.1 hx with rfl | hx
      · exact hc
      · exact hb x hx.1
    cases hf : cFind C s with
    | some c =>
      left
      have e0 : appE 1024 C s 0 = 0 := by unfold appE; rw [if_neg (by rw [hm]; simp), if_neg (by omega), if_neg (by rw [hf]; simp)]
      have eo : cOld C s = c := by unfold cOld; rw [hf]; rfl
      have ec : appC 1024 C s [] = cPut (s, c.2.1 ++ [], c.2.2) C := by
        unfold appC
        rw [eo, if_pos]
        exact e0
      have hc := cFind_some hf
      refine ⟨rfl, by unfold oneE; rw [if_neg (by rw [hm]; simp), if_neg (by rw [hf]; simp)], e0, ?_, ?_⟩
      · rw [ec]; exact hb2 _ (by simp [hb c hc.1])
      · rw [ec]; exact cPut_len_in (c := (s, c.2.1 ++ [], c.2.2)) hp hf
    | none =>
      right
      have e6 : oneE C s = 6 := by unfold oneE; rw [if_neg (by rw [hm]; simp), if_pos (by rw [hf]; rfl)]
      by_cases hl : C.length = 64
      · left
        have e5 : appE 1024 C s 0 = 5 := by unfold appE; rw [if_neg (by rw [hm]; simp), if_neg (by omega), if_pos ⟨by rw [hf]; rfl, hl⟩]
        refine ⟨rfl, e6, hl, e5, ?_⟩
        unfold appC
        rw [if_neg]
        show ¬ appE 1024 C s 0 = 0
        rw [e5]; decide
      · right
        have e0 : appE 1024 C s 0 = 0 := by unfold appE; rw [if_neg (by rw [hm]; simp), if_neg (by omega), if_neg (fun h => hl h.2)]
        have ec : appC 1024 C s [] = cPut (s, [], 0) C := by
          unfold appC cOld
          rw [hf, if_pos]
          · rfl
          · exact e0
        refine ⟨rfl, e6, hl, e0, ?_, ?_, ?_⟩
        · rw [ec]
          unfold oneE
          rw [if_neg (by rw [hm]; simp), if_neg]
          rw [show cFind (cPut (s, [], 0) C) s = cFind (cPut (s, [], 0) C) ((s, [], 0) : CF).1 from rfl, find_cPut]; simp
        · rw [ec]; exact hb2 _ rfl
        · rw [ec]; exact cPut_len_out (c := (s, [], 0)) hf
theorem one_after {C : List CF} (s : ByteArray) (hm : mayB s = true) (h1 : oneE C s = 0) (h2 : appE 1024 C s 0 = 0) : oneE (appC 1024 C s []) s = 0 := by
  have ec : appC 1024 C s [] = cPut (s, (cOld C s).2.1 ++ [], (cOld C s).2.2) C := by
    unfold appC
    rw [if_pos]
    exact h2
  rw [ec]
  unfold oneE
  rw [if_neg (by rw [hm]; simp), if_neg]
  rw [show cFind (cPut (s, (cOld C s).2.1 ++ [], (cOld C s).2.2) C) s = cFind (cPut (s, (cOld C s).2.1 ++ [], (cOld C s).2.2) C) ((s, (cOld C s).2.1 ++ [], (cOld C s).2.2) : CF).1 from rfl, find_cPut]; simp
/-- Strings in a row that came in. -/
def StrsAt (W : World) (a : Option Addr) (ss : List ByteArray) : Prop := ∀ k s, ss[k]? = some s → ∃ b off, a = some ⟨b, off, none⟩ ∧ W.cell? ⟨b, off + k, none⟩ = some (.string s)
theorem StrsAt.below {W W' : World} {a : Option Addr} {ss : List ByteArray} (h : StrsAt W a ss) (b : Below W.heap.size W W') : StrsAt W' a ss := fun k s hk => by
  obtain ⟨bb, o, rfl, h1⟩ := h k s hk
  exact ⟨bb, o, rfl, (b.cell (cell_lt h1)).trans h1⟩
theorem strs_in {H : Type} {enc : TypeId × Value → H} {W : World} {base : Nat} {a : Option Addr} {len cap : Nat} {d : DataW H} {ps : List MemPlace} (h : DataW.Trod enc Try.prog W base (fun _ => true) true 45 (.slice a len cap) d ps) :
    ∃ ss : List ByteArray, ss.length = len ∧ StrsAt W a ss ∧ (∀ s ∈ ss, s.size ≤ maxLen) ∧ len ≤ maxLen := by
  obtain ⟨fuel, hf⟩ := h
  rcases open_strings Try.underlying45 Try.underlying9 (by kernel_rfl) hf with ⟨hcs, _⟩ | ⟨x, l, c, ss, hcs, _, hl, hm, hlen, _, hcell, hsz⟩
  · simp [Value.cells] at hcs
    obtain ⟨rfl, rfl, rfl⟩ := hcs
    exact ⟨[], rfl, fun k s hk => by simp at hk, by simp, Nat.zero_le _⟩
  · simp [Value.cells] at hcs
    obtain ⟨rfl, rfl, rfl⟩ := hcs
    simp only [if_true] at hlen
    refine ⟨ss.take len, by rw [List.length_take]; omega, fun k s hk => ?_, fun s hs => hsz s (List.mem_of_mem_take hs), by omega⟩
    rw [List.getElem?_take] at hk
    split at hk
    · rename_i hlt
      obtain ⟨b, off, spot⟩ := x
      have hc := hcell k (by omega)
      have hspot : spot = none := by simpa [Addr.add] using World.cell?_spot (hcell 0 (by omega))
      subst hspot
      rw [addr_add] at hc
      have e : ss.getD k ByteArray.empty = s := by rw [List.getD_eq_getElem?_getD, hk]; rfl
      rw [e] at hc
      exact ⟨b, off, rfl, hc⟩
    · cases hk
end Go.Proofs.Ytbjhcbiihekceaa
