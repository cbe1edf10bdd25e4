/- Disks: two of the same files, the program's and the document's. -/
import Derived.Test.YtbjhcbiihekceaaDg2
namespace Go.Proofs.Ytbjhcbiihekceaa
open Go.ChangeShapes Go.WideShapes Go.ChangeAt Go.RowKit Go.Maps Go.Shelf
set_option linter.unusedVariables false
set_option linter.unusedSimpArgs false
/-- Two disks, in blocks of S, apart from one another. -/
def Two (W : World) (p bm q room : Nat) (C C' : List CF) (S : Nat → Prop) : Prop := ∃ O O' : Nat → Prop, DC W p bm room C O ∧ RDC W q room C' O' ∧ (∀ k, O k → ¬ O' k) ∧ (∀ k, O k → S k) ∧ ∀ k, O' k → S k
theorem Two.off {W W' : World} {p bm q room : Nat} {C C' : List CF} {S T : Nat → Prop} (h : Two W p bm q room C C' S) (o : Off T W W') (hT : ∀ k, k < W.heap.size → S k → ¬ T k) : Two W' p bm q room C C' S := by
  obtain ⟨O, O', a, b, c, d, e⟩ := h
  exact ⟨O, O', a.off o fun k hk h => hT k hk (d k h), b.off o fun k hk h => hT k hk (e k h), c, d, e⟩
theorem Two.below {W W' : World} {p bm q room : Nat} {C C' : List CF} {S : Nat → Prop} (h : Two W p bm q room C C' S) (b : Below W.heap.size W W') : Two W' p bm q room C C' S := h.off (Off.of (S := fun _ => False) b) fun _ _ _ h => h
theorem Two.sub {W : World} {p bm q room : Nat} {C C' : List CF} {S S' : Nat → Prop} (h : Two W p bm q room C C' S) (hs : ∀ k, k < W.heap.size → S k → S' k) : Two W p bm q room C C' S' := by
  obtain ⟨O, O', a, b, c, d, e⟩ := h
  exact ⟨fun k => O k ∧ k < W.heap.size, fun k => O' k ∧ k < W.heap.size, a.mono fun k hk h => ⟨hk, h⟩, b.mono fun k hk h => ⟨hk, h⟩, fun k h h' => c k h.1 h'.1, fun k h => hs k h.2 (d k h.1), fun k h => hs k h.2 (e k h.1)⟩
theorem Two.fine {W : World} {p bm q room : Nat} {C C' : List CF} {S : Nat → Prop} (h : Two W p bm q room C C' S) : Fine room C := by
  obtain ⟨O, O', a, _⟩ := h
  exact a.fine
theorem Two.ex {W : World} {p bm q room : Nat} {C C' : List CF} {S : Nat → Prop} (h : Two W p bm q room C C' S) : ∃ O, DC W p bm room C O := by
  obtain ⟨O, O', a, _⟩ := h
  exact ⟨O, a⟩
theorem Two.ex' {W : World} {p bm q room : Nat} {C C' : List CF} {S : Nat → Prop} (h : Two W p bm q room C C' S) : ∃ O, RDC W q room C' O := by
  obtain ⟨O, O', a, b, _⟩ := h
  exact ⟨O', b⟩
/-- A call to the program's. -/
theorem Two.l {w : World} {p bm q room : Nat} {C C' C1 : List CF} {S : Nat → Prop} (h : Two w p bm q room C C' S) (hS : ∀ k, w.heap.size ≤ k → S k) {f : FuncId} {args : Array Value} {R : Ending → Prop}
    (hc : ∀ O : Nat → Prop, DC w p bm room C O → Calls Try.prog f args w fun e w' => R e ∧ Aft w w' p bm room C1 O) : Calls Try.prog f args w fun e w' => R e ∧ Two w' p bm q room C1 C' S ∧ Off S w w' := by
  obtain ⟨O, O', a, b, c, d, e⟩ := h
  refine (hc (fun k => O k ∧ k < w.heap.size) (a.mono fun k hk h => ⟨hk, h⟩)).mono ?_
  rintro x w' ⟨hx, h1, h2⟩
  refine ⟨hx, ⟨_, fun k => O' k ∧ k < w.heap.size, h1, (b.mono fun k hk h => ⟨hk, h⟩).off h2 fun k hk h h' => c k h'.1 h.1, fun k hk h' => ?_, fun k hk => ?_, fun k hk => e k hk.1⟩, h2.mono fun k hk => d k hk.1⟩
  · rcases hk with hk | hk
    · exact c k hk.1 h'.1
    · omega
  · rcases hk with hk | hk
    · exact d k hk.1
    · exact hS k hk
theorem RDC.box_in {W : World} {q room : Nat} {C : List CF} {O : Nat → Prop} (h : RDC W q room C O) : O q := by
  obtain ⟨L, a, cap, h1, _, h3⟩ := h
  exact h3 q (Or.inl rfl)
theorem RDC.box_lt {W : World} {q room : Nat} {C : List CF} {O : Nat → Prop} (h : RDC W q room C O) : q < W.heap.size := by
  obtain ⟨L, a, cap, h1, _, h3⟩ := h
  exact h1.box.lt
/-- A call to the document's. -/
theorem Two.r {w : World} {p bm q room : Nat} {C C' C1 : List CF} {S : Nat → Prop} (h : Two w p bm q room C C' S) (hS : ∀ k, w.heap.size ≤ k → S k) {f : FuncId} {args : Array Value} {R : Ending → Prop}
    (hc : ∀ O : Nat → Prop, RDC w q room C' O → Calls Try.prog f args w fun e w' => R e ∧ AftR w w' q room C1 O) : Calls Try.prog f args w fun e w' => R e ∧ Two w' p bm q room C C1 S ∧ Off S w w' := by
  obtain ⟨O, O', a, b, c, d, e⟩ := h
  have hq := b.box_in
  refine (hc (fun k => O' k ∧ k < w.heap.size) (b.mono fun k hk h => ⟨hk, h⟩)).mono ?_
  rintro x w' ⟨hx, h1, h2⟩
  refine ⟨hx, ⟨fun k => O k ∧ k < w.heap.size, _, (a.mono fun k hk h => ⟨hk, h⟩).off h2 fun k hk h h' => c k h.1 (h' ▸ hq), h1, fun k hk h' => ?_, fun k hk => d k hk.1, fun k hk => ?_⟩, h2.mono fun k hk => hk ▸ e q hq⟩
  · rcases h' with h' | h'
    · exact c k hk.1 h'.1
    · omega
  · rcases hk with hk | hk
    · exact e k hk.1
    · exact hS k hk
end Go.Proofs.Ytbjhcbiihekceaa
