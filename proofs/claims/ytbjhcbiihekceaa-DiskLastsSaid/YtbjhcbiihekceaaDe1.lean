/- A range over a function whose elements lie in memory that the function has made itself: what is known of the element is handed to the body. -/
import Derived.Test.YtbjhcbiihekceaaDd1
import Derived.RangeFuncNested
namespace Go.Proofs.Ytbjhcbiihekceaa
open Go.RowKit
set_option linter.unusedVariables false
set_option linter.unusedSimpArgs false
variable {F : Fence} {n : Nat} {P : Program}
/-- An iterator hands over N elements, one behind the other; where the k-th is handed over, Px k x holds of the world; between two rounds Kp is wanted. -/
def SeqX {α : Type} (F : Fence) (n : Nat) (P : Program) (g : Nat) (lb : Array Value) (encs : α → Array Value) (Kp : World → World → Prop) (Px : Nat → α → World → Prop) (N : Nat) (w : World) : Prop :=
  ∀ (l : Nat) (J Jx : Nat → World → Prop) (W : World), Below w.heap.size w W → AbidesFrom W.heap.size J → AbidesFrom W.heap.size Jx →
    (∀ k x W1, k < N → J k W1 → Px k x W1 → YieldAt F (n - 1) P l (encs x) W1 fun e W' => (e = .returned (.bool true) ∧ J (k + 1) W' ∧ Kp W1 W') ∨ (e = .returned (.bool false) ∧ Jx k W')) →
    J 0 W → CallsIn F n P g (#[.func (.yield l) #[] #[]] ++ lb) W fun e W' => (∃ v, e = .returned v) ∧ (J N W' ∨ ∃ k, k < N ∧ Jx k W')
/-- How a round is left: it goes on, or the caller returns. -/
def postX (B : Nat) (Kp : World → World → Prop) (I Ix : Nat → World → Prop) (k : Nat) (W : World) : Exit → Act → World → Prop
  | .normal, _, W' => KeepsFrom B W W' ∧ Kp W W' ∧ I (k + 1) W'
  | .ret, _, W' => KeepsFrom B W W' ∧ Ix k W'
  | _, _, _ => False
/-- The loop's record, at l, while it is so; the block of what was laid by, at d. -/
def RecAt (l d : Nat) (r : Loop) (W : World) : Prop := W.heap[l]? = some (.loop r) ∧ W.heap[d]? = some (.deferred (some []))
theorem RecAt.keeps {l d : Nat} {r : Loop} {B : Nat} {W W' : World} (h : RecAt l d r W) (k : KeepsFrom B W W') (hl : B ≤ l) (hd : B ≤ d) : RecAt l d r W' := ⟨k.same _ _ hl h.1 rfl, k.same _ _ hd h.2 rfl⟩
theorem RecAt.put {l d : Nat} {r : Loop} {W : World} (h : RecAt l d r W) (hne : d ≠ l) (r' : Loop) : RecAt l d r' (W.putObj l (.loop r')) := ⟨World.putObj_heap_same (Array.getElem?_eq_some_iff.1 h.1).1, (World.putObj_heap_other hne).trans h.2⟩
theorem RecAt.abides {l d : Nat} {r : Loop} {A B : World} {row : Option Nat} (h : RecAt l d r A) (hg : A.grownBy B row) (hr : ∀ j, row = some j → ∃ o : Obj, A.heap[j]? = some o ∧ o.isWalk = true) : RecAt l d r B :=
  ⟨(grownBy_keeps hg hr h.1 rfl).trans h.1, (grownBy_keeps hg hr h.2 rfl).trans h.2⟩
/-- The statement 'range over a function'. -/
theorem wp_range_x {α : Type} {g : Operand} {ps : Array Tmp} {assign body : Code} {Q : Exit → Act → World → Prop} {a : Act} {w : World}
    (hro : F.round = none) (h1 : 1 ≤ n) {gf : Nat} {lb : Array Value} (hg : a.eval g = .func (.func gf) #[] lb) (hFg : F.fn gf) (eg : ∀ args w, (callFunc gf args).run P w = .ok (.enter gf args) w)
    {encs : α → Array Value} {Kp : World → World → Prop} {Px : Nat → α → World → Prop} {N : Nat} (hseq : SeqX F (n - 1) P gf lb encs Kp Px N w)
    (hKt : ∀ {A B C : World}, Kp A B → Kp B C → Kp A C) (hKb : ∀ (W : World) (l : Nat) (o o' : Obj), w.heap.size ≤ l → W.heap[l]? = some o → o.isCells = false → o.isWalk = false → Kp W (W.putObj l o'))
    (hPb : ∀ (k : Nat) (x : α) (W : World) (l : Nat) (o o' : Obj), w.heap.size ≤ l → W.heap[l]? = some o → o.isCells = false → o.isWalk = false → Px k x W → Px k x (W.putObj l o')) (hps : ∀ x, (encs x).size = ps.size)
    (I Ix : Nat → World → Prop) (hI : OwnFrom w.heap.size I) (hIx : OwnFrom w.heap.size Ix) (h0 : I 0 w) (Ax : α → Act → World → Prop) (hAx : ∀ x a', OwnFrom w.heap.size (fun (_ : Unit) W => Ax x a' W))
    (hassign : ∀ (l k : Nat) (x : α) (W : World) (K : Act → World → Prop), k < N → I k W → Px k x W → (∀ a' W', KeepsFrom w.heap.size W W' → Kp W W' → I k W' → Px k x W' → Ax x a' W' → K a' W') →
      assign.wpIn (F.inRound l) (n - 1 - 1) P (Exit.then K (fun _ _ _ => False)) { tmps := (ps.zip (encs x)).foldl (fun t (p, v) => t.setIfInBounds p v) a.tmps, defers := [] } W)
    (hbody : ∀ (l k : Nat) (x : α) (a' : Act) (W : World), k < N → I k W → Px k x W → Ax x a' W → body.wpIn (F.inRound l) (n - 1 - 1) P (postX w.heap.size Kp I Ix k W) a' W)
    (hdone : ∀ (D : Nat) (W : World), w.heap.size ≤ D → I N W → W.heap[D]? = some (.deferred (some [])) → Q .normal { a with defers := { target := .collected D, args := #[] } :: a.defers } W)
    (hstop : ∀ (D k : Nat) (W : World), w.heap.size ≤ D → k < N → Ix k W → W.heap[D]? = some (.deferred (some [])) → Code.ret.wpIn F n P Q { a with defers := { target := .collected D, args := #[] } :: a.defers } W) :
    (Code.rangeFunc g ps assign body).wpIn F n P Q a w := by
  refine wpIn_rangeFunc fun fn hfn => ?_
  rw [hro]
  obtain ⟨d, hd⟩ : ∃ d, w.heap.size = d := ⟨_, rfl⟩
  obtain ⟨mk, hmk⟩ : ∃ mk : LoopState → Option Code → Loop, mk = fun st pe => { state := st, pending := pe, fn, tmps := a.tmps, params := ps, assign, body, defers := d } := ⟨_, rfl⟩
  obtain ⟨V, hV⟩ : ∃ V, (w.alloc (.deferred (some []))).alloc (.loop (mk .ready none)) = V := ⟨_, rfl⟩
  have hsz : V.heap.size = d + 2 := by rw [← hV, ← hd]; simp
  have hrec : RecAt (d + 1) d (mk .ready none) V := by
    rw [← hV, ← hd]
    refine ⟨?_, (Below.heap_alloc _ _ _ (by simp)).trans (World.alloc_heap_new w _)⟩
    have := World.alloc_heap_new (w.alloc (.deferred (some []))) (.loop (mk .ready none))
    rwa [World.size_alloc] at this
  have hIV : I 0 V := by rw [← hV]; exact hI.alloc _ (hI.alloc _ h0)
  have hbV : Below w.heap.size w V := by rw [← hV]; exact (((Below.refl _ w).alloc (Nat.le_refl _) _).alloc (by simp) _)
  have hent : (Instr.enterLoop fn a.tmps ps assign body none).run P w = .ok (d + 1, [{ target := .collected d, args := #[] }]) V := by
    rw [← hV, hmk, ← hd]; exact run_enterLoop_outer _ _ _ _ _
  rw [hd] at hI hIx hAx hKb hPb hassign hbody hdone hstop
  clear hV
  refine ⟨d + 1, [{ target := .collected d, args := #[] }], V, { target := .fn (.func gf) lb, args := #[.func (.yield (d + 1)) #[] #[]] }, V, gf, #[.func (.yield (d + 1)) #[] #[]] ++ lb, V, hent, ?_, ?_, ?_, fun _ => h1, ?_⟩
  · simp only [resolve, hg]
    simp [go_sem]
  · intro f' hf'
    simp [Target.leads] at hf'
    subst hf'
    exact hFg
  · simp [invoke, go_sem, eg]
  have walk : ∀ {A : World} {row : Option Nat}, (∀ r, row = some r → V.heap.size ≤ r ∧ ∃ o : Obj, A.heap[r]? = some o ∧ o.isWalk = true) → (∀ r, row = some r → d ≤ r ∧ ∃ o : Obj, A.heap[r]? = some o ∧ o.isCells = false) :=
    fun hr r e => by
      obtain ⟨hB, o, ho, hw⟩ := hr r e
      exact ⟨by omega, o, ho, Obj.not_cells_of_walk hw⟩
  refine (hseq (d + 1) (fun k W => I k W ∧ RecAt (d + 1) d (mk .ready none) W) (fun k W => Ix k W ∧ RecAt (d + 1) d (mk .done (some .ret)) W) V hbV
    (fun s A B row hs hg' hr => ⟨hI s A B row hs.1 hg' (walk hr), hs.2.abides hg' fun r e => (hr r e).2⟩)
    (fun s A B row hs hg' hr => ⟨hIx s A B row hs.1 hg' (walk hr), hs.2.abides hg' fun r e => (hr r e).2⟩) ?_ ⟨hIV, hrec⟩).mono ?_
  · rintro k x W hk ⟨hi, hr⟩ hpx
    have hy := run_yield (P := P) (args := encs x) hr.1 (by rw [hmk]; exact hps x)
    rw [hmk] at hy
    refine ⟨fn, _, assign, body, hy, roundIn_of_wpIn hfn (hassign _ k x W _ hk hi hpx ?_)⟩
    intro a' W2 hkf hkp hi2 hpx2 hax
    have hr2 := hr.keeps hkf (by omega) (Nat.le_refl _)
    refine ⟨_, run_beginRound hr2.1 (by rw [hmk]), ?_⟩
    have hr3 := hr2.put (by omega) { mk .ready none with state := .busy }
    have hkp3 := hKb W2 (d + 1) _ (.loop { mk .ready none with state := .busy }) (by omega) hr2.1 rfl rfl
    refine wpIn_mono (hbody (d + 1) k x a' _ hk (hI.putObj _ hi2 (by omega) hr2.1 rfl) (hPb k x W2 (d + 1) _ _ (by omega) hr2.1 rfl rfl hpx2) ((hAx x a').putObj (s := ()) _ hax (by omega) hr2.1 rfl)) ?_
    have ending : ∀ (jump : Option Code) (W3 : World), RecAt (d + 1) d { mk .ready none with state := .busy } W3 → (Instr.endRound (d + 1) jump).run P W3 = .ok (.bool jump.isNone) (W3.putObj (d + 1) (.loop (mk (if jump.isNone then .ready else .done) jump))) := fun jump W3 h3 => by
      have hl3 := h3.1
      have := run_endRound (P := P) jump hl3
      rw [hmk] at this ⊢
      exact this
    rintro e a3 W3 hp
    cases e with
    | normal =>
      obtain ⟨k3, kp3, i3⟩ := hp
      have h3 := hr3.keeps k3 (by omega) (Nat.le_refl _)
      exact ⟨_, _, ending none W3 h3, Or.inl ⟨rfl, ⟨hI.putObj _ i3 (by omega) h3.1 rfl, h3.put (by omega) _⟩, hKt hkp (hKt hkp3 (hKt kp3 (hKb W3 (d + 1) _ _ (by omega) h3.1 rfl rfl)))⟩⟩
    | ret =>
      obtain ⟨k3, i3⟩ := hp
      have h3 := hr3.keeps k3 (by omega) (Nat.le_refl _)
      exact ⟨_, _, ending (some .ret) W3 h3, Or.inr ⟨rfl, hIx.putObj _ i3 (by omega) h3.1 rfl, h3.put (by omega) _⟩⟩
    | exit id => exact hp.elim
    | goto t => exact hp.elim
    | panic ch => exact hp.elim
    | outgrown => exact hp.elim
  · rintro e W2 ⟨⟨v, rfl⟩, (⟨hi, hr⟩ | ⟨k, hk, hi, hr⟩)⟩
    · refine ⟨none, _, by have := run_endLoop (P := P) hr.1 (by rw [hmk]; simp); rw [hmk] at this; exact this, ?_⟩
      exact hdone _ _ (Nat.le_refl _) (hI.putObj _ hi (by omega) hr.1 rfl) ((World.putObj_heap_other (by omega)).trans hr.2)
    · refine ⟨some .ret, _, by have := run_endLoop (P := P) hr.1 (by rw [hmk]; simp); rw [hmk] at this; exact this, ?_⟩
      exact hstop _ k _ (Nat.le_refl _) hk (hIx.putObj _ hi (by omega) hr.1 rfl) ((World.putObj_heap_other (by omega)).trans hr.2)
/-- .., where the assignment leaves the world alone. -/
theorem wp_range_x1 {α : Type} {g : Operand} {ps : Array Tmp} {assign body : Code} {Q : Exit → Act → World → Prop} {a : Act} {w : World}
    (hro : F.round = none) (h1 : 1 ≤ n) {gf : Nat} {lb : Array Value} (hg : a.eval g = .func (.func gf) #[] lb) (hFg : F.fn gf) (eg : ∀ args w, (callFunc gf args).run P w = .ok (.enter gf args) w)
    {encs : α → Array Value} {Kp : World → World → Prop} {Px : Nat → α → World → Prop} {N : Nat} (hseq : SeqX F (n - 1) P gf lb encs Kp Px N w)
    (hKt : ∀ {A B C : World}, Kp A B → Kp B C → Kp A C) (hKr : ∀ A, Kp A A) (hKb : ∀ (W : World) (l : Nat) (o o' : Obj), w.heap.size ≤ l → W.heap[l]? = some o → o.isCells = false → o.isWalk = false → Kp W (W.putObj l o'))
    (hPb : ∀ (k : Nat) (x : α) (W : World) (l : Nat) (o o' : Obj), w.heap.size ≤ l → W.heap[l]? = some o → o.isCells = false → o.isWalk = false → Px k x W → Px k x (W.putObj l o')) (hps : ∀ x, (encs x).size = ps.size)
    (I Ix : Nat → World → Prop) (hI : OwnFrom w.heap.size I) (hIx : OwnFrom w.heap.size Ix) (h0 : I 0 w) (a1 : α → Act)
    (hassign : ∀ (l : Nat) (x : α) (W : World) (K : Act → World → Prop), K (a1 x) W → assign.wpIn (F.inRound l) (n - 1 - 1) P (Exit.then K (fun _ _ _ => False)) { tmps := (ps.zip (encs x)).foldl (fun t (p, v) => t.setIfInBounds p v) a.tmps, defers := [] } W)
    (hbody : ∀ (l k : Nat) (x : α) (W : World), k < N → I k W → Px k x W → body.wpIn (F.inRound l) (n - 1 - 1) P (postX w.heap.size Kp I Ix k W) (a1 x) W)
    (hdone : ∀ (D : Nat) (W : World), w.heap.size ≤ D → I N W → W.heap[D]? = some (.deferred (some [])) → Q .normal { a with defers := { target := .collected D, args := #[] } :: a.defers } W)
    (hstop : ∀ (D k : Nat) (W : World), w.heap.size ≤ D → k < N → Ix k W → W.heap[D]? = some (.deferred (some [])) → Code.ret.wpIn F n P Q { a with defers := { target := .collected D, args := #[] } :: a.defers } W) :
    (Code.rangeFunc g ps assign body).wpIn F n P Q a w :=
  wp_range_x hro h1 hg hFg eg hseq (fun h k => hKt h k) hKb hPb hps I Ix hI hIx h0 (fun x a' _ => a' = a1 x) (fun _ _ _ _ _ _ hs _ _ => hs)
    (fun l k x W K _ hi hp hK => hassign l x W K (hK _ _ (KeepsFrom.refl _ _) (hKr W) hi hp rfl)) (fun l k x a' W hk hi hp e => by subst e; exact hbody l k x W hk hi hp) hdone hstop
end Go.Proofs.Ytbjhcbiihekceaa
