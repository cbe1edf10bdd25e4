/- Disks: a copy has just the same; the file behind a name. -/
import Derived.Test.YtbjhcbiihekceaaDc1
namespace Go.Proofs.Ytbjhcbiihekceaa
open Go.ChangeShapes Go.WideShapes Go.ChangeAt Go.RowKit Go.Maps
set_option linter.unusedVariables false
set_option linter.unusedSimpArgs false
theorem sorted_ext {α : Type} {R : α → α → Prop} (hi : ∀ a, ¬ R a a) (ht : ∀ a b c, R a b → R b c → R a c) : ∀ {l m : List α}, l.Pairwise R → m.Pairwise R → (∀ x, x ∈ l ↔ x ∈ m) → l = m
  | [], [], _, _, _ => rfl
  | a :: r, [], _, _, h => absurd ((h a).1 (by simp)) (by simp)
  | [], b :: s, _, _, h => absurd ((h b).2 (by simp)) (by simp)
  | a :: r, b :: s, hl, hm, h => by
    obtain ⟨l1, l2⟩ := List.pairwise_cons.1 hl
    obtain ⟨m1, m2⟩ := List.pairwise_cons.1 hm
    have hab : a = b := by
      rcases List.mem_cons.1 ((h a).1 (by simp)) with e | e
      · exact e
      · rcases List.mem_cons.1 ((h b).2 (by simp)) with e2 | e2
        · exact e2.symm
        · exact absurd (ht _ _ _ (l1 b e2) (m1 a e)) (hi a)
    subst hab
    have : r = s := sorted_ext hi ht l2 m2 fun x => by
      constructor
      · intro hx
        rcases List.mem_cons.1 ((h x).1 (by simp [hx])) with e | e
        · subst e; exact absurd (l1 x hx) (hi x)
        · exact e
      · intro hx
        rcases List.mem_cons.1 ((h x).2 (by simp [hx])) with e | e
        · subst e; exact absurd (m1 x hx) (hi x)
        · exact e
    rw [this]
theorem core_rise {W : World} {p bm room : Nat} {L : List Fil} (h : Dk W p bm room L) : (L.map core).Pairwise fun c d => bytesBefore c.1.data.toList d.1.data.toList = true := by
  rw [List.pairwise_map]
  exact h.rise.imp fun {f g} hb => hb
theorem core_eq {W W' : World} {p bm p' bm' room room' : Nat} {A B : List Fil} (ha : Dk W p bm room A) (hb : Dk W' p' bm' room' B) (h : ∀ c, c ∈ A.map core ↔ c ∈ B.map core) : A.map core = B.map core :=
  sorted_ext (R := fun c d : ByteArray × List Int × Nat => bytesBefore c.1.data.toList d.1.data.toList = true) (fun a => by rw [Go.WideAt.bytes_irrefl]; simp) (fun a b c h1 h2 => bytes_trans _ _ _ h1 h2) (core_rise ha) (core_rise hb) h
/-- Copy (55): what the new disk has, is what the old one has. -/
theorem dcopy_same {w : World} {p bm room : Nat} {L : List Fil} (h : Dk w p bm room L) : Calls Try.prog 55 #[.pointer (some ⟨p, 0, none⟩)] w fun e w' => ∃ Lc, e = .returned (.pointer (some ⟨w.heap.size + 1, 0, none⟩)) ∧ Dk w' (w.heap.size + 1) w.heap.size room Lc ∧ Lc.map core = L.map core ∧ (∀ k, Own (w.heap.size + 1) w.heap.size Lc k → w.heap.size ≤ k) ∧ Below w.heap.size w w' :=
  (dcopy_law h).mono fun e w' ⟨Lc, h1, h2, h3, h4, h5⟩ => ⟨Lc, h1, h2, core_eq h2 h h3, h4, h5⟩
theorem look_core {A B : List Fil} (h : A.map core = B.map core) (s : ByteArray) : (look A s).map core = (look B s).map core := by
  have e : ∀ L : List Fil, (look L s).map core = (L.map core).find? fun c => decide (c.1 = s) := fun L => by
    unfold look
    rw [List.find?_map]
    rfl
  rw [e, e, h]
end Go.Proofs.Ytbjhcbiihekceaa
