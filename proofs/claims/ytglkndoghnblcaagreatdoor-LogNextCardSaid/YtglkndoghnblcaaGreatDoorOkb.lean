/- known: the chapter's rows. Part 2. -/
import Derived.Test.YtglkndoghnblcaaGreatDoorOka
import Derived.RangeFuncNested
import Derived.Lib.BytesEntry
import Derived.Lib.Bytealg
import Derived.Laws.Externs
namespace Go.Proofs.YtglkndoghnblcaaGreatDoor
open Go.ChangeShapes Go.WideShapes Go.ChangeAt Go.RowKit
set_option linter.unusedVariables false
set_option linter.unusedSimpArgs false
section
variable {F : Fence} {n : Nat} {P : Program}
/-- An iterator hands over N elements, one behind the other; where the k-th is handed over, Px k x holds of the world; between two rounds Kp is wanted. -/
def SeqX {α : Type} (F : Fence) (n : Nat) (P : Program) (g : Nat) (lb : Array Value) (encs : α → Array Value) (Kp : World → World → Prop) (Px : Nat → α → World → Prop) (N : Nat) (w : World) : Prop :=
  ∀ (l : Nat) (J Jx : Nat → World → Prop) (W : World), Below w.heap.size w W → AbidesFrom W.heap.size J → AbidesFrom W.heap.size Jx →
    (∀ k x W1, k < N → J k W1 → Px k x W1 → YieldAt F (n - 1) P l (encs x) W1 fun e W' => (e = .returned (.bool true) ∧ J (k + 1) W' ∧ Kp W1 W') ∨ (e = .returned (.bool false) ∧ Jx k W')) →
    J 0 W → CallsIn F n P g (#[.func (.yield l) #[] #[]] ++ lb) W fun e W' => (∃ v, e = .returned v) ∧ (J N W' ∨ ∃ k, k < N ∧ Jx k W')
/-- How a round is left: it goes on, or the caller returns. -/
def postX (B : Nat) (Kp : World → World → Prop) (I Ix : Nat → World → Prop) (k : Nat) (W : World) : Exit → Act → World → Prop
  | .normal, _, W' => KeepsFrom B W W' ∧ Kp W W' ∧ I (k + 1) W'
  | .ret, _, W' => KeepsFrom B W W' ∧ Ix k W'
  | _, _, _ => False
/-- The loop's record, at l, while it is so; the block of what was laid by, at d. -/
def RecAt (l d : Nat) (r : Loop) (W : World) : Prop := W.heap[l]? = some (.loop r) ∧ W.heap[d]? = some (.deferred (some []))
theorem RecAt.keeps {l d : Nat} {r : Loop} {B : Nat} {W W' : World} (h : RecAt l d r W) (k : KeepsFrom B W W') (hl : B ≤ l) (hd : B ≤ d) : RecAt l d r W' := ⟨k.same _ _ hl h.1 rfl, k.same _ _ hd h.2 rfl⟩
theorem RecAt.put {l d : Nat} {r : Loop} {W : World} (h : RecAt l d r W) (hne : d ≠ l) (r' : Loop) : RecAt l d r' (W.putObj l (.loop r')) := ⟨World.putObj_heap_same (Array.getElem?_eq_some_iff.1 h.1).1, (World.putObj_heap_other hne).trans h.2⟩
theorem RecAt.abides {l d : Nat} {r : Loop} {A B : World} {row : Option Nat} (h : RecAt l d r A) (hg : A.grownBy B row) (hr : ∀ j, row = some j → ∃ o : Obj, A.heap[j]? = some o ∧ o.isWalk = true) : RecAt l d r B :=
  ⟨(grownBy_keeps hg hr h.1 rfl).trans h.1, (grownBy_keeps hg hr h.2 rfl).trans h.2⟩
/-- The statement 'range over a function'. -/
theorem wp_range_x {α : Type} {g : Operand} {ps : Array Tmp} {assign body : Code} {Q : Exit → Act → World → Prop} {a : Act} {w : World}
    (hro : F.round = none) (h1 : 1 ≤ n) {gf : Nat} {lb : Array Value} (hg : a.eval g = .func (.func gf) #[] lb) (hFg : F.fn gf) (eg : ∀ args w, (callFunc gf args).run P w = .ok (.enter gf args) w)
    {encs : α → Array Value} {Kp : World → World → Prop} {Px : Nat → α → World → Prop} {N : Nat} (hseq : SeqX F (n - 1) P gf lb encs Kp Px N w)
    (hKt : ∀ {A B C : World}, Kp A B → Kp B C → Kp A C) (hKb : ∀ (W : World) (l : Nat) (o o' : Obj), w.heap.size ≤ l → W.heap[l]? = some o → o.isCells = false → o.isWalk = false → Kp W (W.putObj l o'))
    (hPb : ∀ (k : Nat) (x : α) (W : World) (l : Nat) (o o' : Obj), w.heap.size ≤ l → W.heap[l]? = some o → o.isCells = false → o.isWalk = false → Px k x W → Px k x (W.putObj l o')) (hps : ∀ x, (encs x).size = ps.size)
    (I Ix : Nat → World → Prop) (hI : OwnFrom w.heap.size I) (hIx : OwnFrom w.heap.size Ix) (h0 : I 0 w) (Ax : α → Act → World → Prop) (hAx : ∀ x a', OwnFrom w.heap.size (fun (_ : Unit) W => Ax x a' W))
    (hassign : ∀ (l k : Nat) (x : α) (W : World) (K : Act → World → Prop), k < N → I k W → Px k x W → (∀ a' W', KeepsFrom w.heap.size W W' → Kp W W' → I k W' → Px k x W' → Ax x a' W' → K a' W') →
      assign.wpIn (F.inRound l) (n - 1 - 1) P (Exit.then K (fun _ _ _ => False)) { tmps := (ps.zip (encs x)).foldl (fun t (p, v) => t.setIfInBounds p v) a.tmps, defers := [] } W)
    (hbody : ∀ (l k : Nat) (x : α) (a' : Act) (W : World), k < N → I k W → Px k x W → Ax x a' W → body.wpIn (F.inRound l) (n - 1 - 1) P (postX w.heap.size Kp I Ix k W) a' W)
    (hdone : ∀ (D : Nat) (W : World), w.heap.size ≤ D → I N W → W.heap[D]? = some (.deferred (some [])) → Q .normal { a with defers := { target := .collected D, args := #[] } :: a.defers } W)
    (hstop : ∀ (D k : Nat) (W : World), w.heap.size ≤ D → k < N → Ix k W → W.heap[D]? = some (.deferred (some [])) → Code.ret.wpIn F n P Q { a with defers := { target := .collected D, args := #[] } :: a.defers } W) :
    (Code.rangeFunc g ps assign body).wpIn F n P Q a w := by
  refine wpIn_rangeFunc fun fn hfn => ?_
  rw [hro]
  obtain ⟨d, hd⟩ : ∃ d, w.heap.size = d := ⟨_, rfl⟩
  obtain ⟨mk, hmk⟩ : ∃ mk : LoopState → Option Code → Loop, mk = fun st pe => { state := st, pending := pe, fn, tmps := a.tmps, params := ps, assign, body, defers := d } := ⟨_, rfl⟩
  obtain ⟨V, hV⟩ : ∃ V, (w.alloc (.deferred (some []))).alloc (.loop (mk .ready none)) = V := ⟨_, rfl⟩
  have hsz : V.heap.size = d + 2 := by rw [← hV, ← hd]; simp
  have hrec : RecAt (d + 1) d (mk .ready none) V := by
    rw [← hV, ← hd]
    refine ⟨?_, (Below.heap_alloc _ _ _ (by simp)).trans (World.alloc_heap_new w _)⟩
    have := World.alloc_heap_new (w.alloc (.deferred (some []))) (.loop (mk .ready none))
    rwa [World.size_alloc] at this
  have hIV : I 0 V := by rw [← hV]; exact hI.alloc _ (hI.alloc _ h0)
  have hbV : Below w.heap.size w V := by rw [← hV]; exact (((Below.refl _ w).alloc (Nat.le_refl _) _).alloc (by simp) _)
  have hent : (Instr.enterLoop fn a.tmps ps assign body none).run P w = .ok (d + 1, [{ target := .collected d, args := #[] }]) V := by
    rw [← hV, hmk, ← hd]; exact run_enterLoop_outer _ _ _ _ _
  rw [hd] at hI hIx hAx hKb hPb hassign hbody hdone hstop
  clear hV
  refine ⟨d + 1, [{ target := .collected d, args := #[] }], V, { target := .fn (.func gf) lb, args := #[.func (.yield (d + 1)) #[] #[]] }, V, gf, #[.func (.yield (d + 1)) #[] #[]] ++ lb, V, hent, ?_, ?_, ?_, fun _ => h1, ?_⟩
  · simp only [resolve, hg]
    simp [go_sem]
  · intro f' hf'
    simp [Target.leads] at hf'
    subst hf'
    exact hFg
  · simp [invoke, go_sem, eg]
  have walk : ∀ {A : World} {row : Option Nat}, (∀ r, row = some r → V.heap.size ≤ r ∧ ∃ o : Obj, A.heap[r]? = some o ∧ o.isWalk = true) → (∀ r, row = some r → d ≤ r ∧ ∃ o : Obj, A.heap[r]? = some o ∧ o.isCells = false) :=
    fun hr r e => by
      obtain ⟨hB, o, ho, hw⟩ := hr r e
      exact ⟨by omega, o, ho, Obj.not_cells_of_walk hw⟩
  refine (hseq (d + 1) (fun k W => I k W ∧ RecAt (d + 1) d (mk .ready none) W) (fun k W => Ix k W ∧ RecAt (d + 1) d (mk .done (some .ret)) W) V hbV
    (fun s A B row hs hg' hr => ⟨hI s A B row hs.1 hg' (walk hr), hs.2.abides hg' fun r e => (hr r e).2⟩)
    (fun s A B row hs hg' hr => ⟨hIx s A B row hs.1 hg' (walk hr), hs.2.abides hg' fun r e => (hr r e).2⟩) ?_ ⟨hIV, hrec⟩).mono ?_
  · rintro k x W hk ⟨hi, hr⟩ hpx
    have hy := run_yield (P := P) (args := encs x) hr.1 (by rw [hmk]; exact hps x)
    rw [hmk] at hy
    refine ⟨fn, _, assign, body, hy, roundIn_of_wpIn hfn (hassign _ k x W _ hk hi hpx ?_)⟩
    intro a' W2 hkf hkp hi2 hpx2 hax
    have hr2 := hr.keeps hkf (by omega) (Nat.le_refl _)
    refine ⟨_, run_beginRound hr2.1 (by rw [hmk]), ?_⟩
    have hr3 := hr2.put (by omega) { mk .ready none with state := .busy }
    have hkp3 := hKb W2 (d + 1) _ (.loop { mk .ready none with state := .busy }) (by omega) hr2.1 rfl rfl
    refine wpIn_mono (hbody (d + 1) k x a' _ hk (hI.putObj _ hi2 (by omega) hr2.1 rfl) (hPb k x W2 (d + 1) _ _ (by omega) hr2.1 rfl rfl hpx2) ((hAx x a').putObj (s := ()) _ hax (by omega) hr2.1 rfl)) ?_
    have ending : ∀ (jump : Option Code) (W3 : World), RecAt (d + 1) d { mk .ready none with state := .busy } W3 → (Instr.endRound (d + 1) jump).run P W3 = .ok (.bool jump.isNone) (W3.putObj (d + 1) (.loop (mk (if jump.isNone then .ready else .done) jump))) := fun jump W3 h3 => by
      have hl3 := h3.1
      have := run_endRound (P := P) jump hl3
      rw [hmk] at this ⊢
      exact this
    rintro e a3 W3 hp
    cases e with
    | normal =>
      obtain ⟨k3, kp3, i3⟩ := hp
      have h3 := hr3.keeps k3 (by omega) (Nat.le_refl _)
      exact ⟨_, _, ending none W3 h3, Or.inl ⟨rfl, ⟨hI.putObj _ i3 (by omega) h3.1 rfl, h3.put (by omega) _⟩, hKt hkp (hKt hkp3 (hKt kp3 (hKb W3 (d + 1) _ _ (by omega) h3.1 rfl rfl)))⟩⟩
    | ret =>
      obtain ⟨k3, i3⟩ := hp
      have h3 := hr3.keeps k3 (by omega) (Nat.le_refl _)
      exact ⟨_, _, ending (some .ret) W3 h3, Or.inr ⟨rfl, hIx.putObj _ i3 (by omega) h3.1 rfl, h3.put (by omega) _⟩⟩
    | exit id => exact hp.elim
    | goto t => exact hp.elim
    | panic ch => exact hp.elim
    | outgrown => exact hp.elim
  · rintro e W2 ⟨⟨v, rfl⟩, (⟨hi, hr⟩ | ⟨k, hk, hi, hr⟩)⟩
    · refine ⟨none, _, by have := run_endLoop (P := P) hr.1 (by rw [hmk]; simp); rw [hmk] at this; exact this, ?_⟩
      exact hdone _ _ (Nat.le_refl _) (hI.putObj _ hi (by omega) hr.1 rfl) ((World.putObj_heap_other (by omega)).trans hr.2)
    · refine ⟨some .ret, _, by have := run_endLoop (P := P) hr.1 (by rw [hmk]; simp); rw [hmk] at this; exact this, ?_⟩
      exact hstop _ k _ (Nat.le_refl _) hk (hIx.putObj _ hi (by omega) hr.1 rfl) ((World.putObj_heap_other (by omega)).trans hr.2)
/-- .., where the assignment leaves the world alone. -/
theorem wp_range_x1 {α : Type} {g : Operand} {ps : Array Tmp} {assign body : Code} {Q : Exit → Act → World → Prop} {a : Act} {w : World}
    (hro : F.round = none) (h1 : 1 ≤ n) {gf : Nat} {lb : Array Value} (hg : a.eval g = .func (.func gf) #[] lb) (hFg : F.fn gf) (eg : ∀ args w, (callFunc gf args).run P w = .ok (.enter gf args) w)
    {encs : α → Array Value} {Kp : World → World → Prop} {Px : Nat → α → World → Prop} {N : Nat} (hseq : SeqX F (n - 1) P gf lb encs Kp Px N w)
    (hKt : ∀ {A B C : World}, Kp A B → Kp B C → Kp A C) (hKr : ∀ A, Kp A A) (hKb : ∀ (W : World) (l : Nat) (o o' : Obj), w.heap.size ≤ l → W.heap[l]? = some o → o.isCells = false → o.isWalk = false → Kp W (W.putObj l o'))
    (hPb : ∀ (k : Nat) (x : α) (W : World) (l : Nat) (o o' : Obj), w.heap.size ≤ l → W.heap[l]? = some o → o.isCells = false → o.isWalk = false → Px k x W → Px k x (W.putObj l o')) (hps : ∀ x, (encs x).size = ps.size)
    (I Ix : Nat → World → Prop) (hI : OwnFrom w.heap.size I) (hIx : OwnFrom w.heap.size Ix) (h0 : I 0 w) (a1 : α → Act)
    (hassign : ∀ (l : Nat) (x : α) (W : World) (K : Act → World → Prop), K (a1 x) W → assign.wpIn (F.inRound l) (n - 1 - 1) P (Exit.then K (fun _ _ _ => False)) { tmps := (ps.zip (encs x)).foldl (fun t (p, v) => t.setIfInBounds p v) a.tmps, defers := [] } W)
    (hbody : ∀ (l k : Nat) (x : α) (W : World), k < N → I k W → Px k x W → body.wpIn (F.inRound l) (n - 1 - 1) P (postX w.heap.size Kp I Ix k W) (a1 x) W)
    (hdone : ∀ (D : Nat) (W : World), w.heap.size ≤ D → I N W → W.heap[D]? = some (.deferred (some [])) → Q .normal { a with defers := { target := .collected D, args := #[] } :: a.defers } W)
    (hstop : ∀ (D k : Nat) (W : World), w.heap.size ≤ D → k < N → Ix k W → W.heap[D]? = some (.deferred (some [])) → Code.ret.wpIn F n P Q { a with defers := { target := .collected D, args := #[] } :: a.defers } W) :
    (Code.rangeFunc g ps assign body).wpIn F n P Q a w :=
  wp_range_x hro h1 hg hFg eg hseq (fun h k => hKt h k) hKb hPb hps I Ix hI hIx h0 (fun x a' _ => a' = a1 x) (fun _ _ _ _ _ _ hs _ _ => hs)
    (fun l k x W K _ hi hp hK => hassign l x W K (hK _ _ (KeepsFrom.refl _ _) (hKr W) hi hp rfl)) (fun l k x a' W hk hi hp e => by subst e; exact hbody l k x W hk hi hp) hdone hstop
end
theorem BoxC.kept {W W' : World} {row : Option Nat} {B : Nat} {cs : Array Value} {t : TypeId} (h : BoxC W B cs t) (hg : W.grownBy W' row) (hne : some B ≠ row) : BoxC W' B cs t := (hg.block B h.lt hne).trans h
theorem BoxC.own {W W' : World} {row : Option Nat} {B : Nat} {cs : Array Value} {t : TypeId} (h : BoxC W B cs t) (hg : W.grownBy W' row) (hr : ∀ r, row = some r → ∃ o : Obj, W.heap[r]? = some o ∧ o.isCells = false) : BoxC W' B cs t :=
  h.kept hg fun e => by
    obtain ⟨o, ho, hc⟩ := hr B e.symm
    rw [show W.heap[B]? = _ from h] at ho
    cases ho
    cases hc
/-- A row of bytes. -/
def isB : Obj → Bool
  | .cells _ 5 _ => true
  | _ => false
theorem isB_cells {o : Obj} (h : isB o = true) : o.isCells = true := by
  unfold isB at h
  split at h
  · rfl
  · cases h
/-- What lies from base on, and is a row of bytes, lies as it lay. -/
structure KpB (base : Nat) (A B : World) : Prop where
  os : B.os = A.os
  tape : B.tape = A.tape
  output : B.output = A.output
  size : A.heap.size ≤ B.heap.size
  same : ∀ (k : Nat) (o : Obj), base ≤ k → A.heap[k]? = some o → isB o = true → B.heap[k]? = some o
theorem KpB.refl (base : Nat) (A : World) : KpB base A A := ⟨rfl, rfl, rfl, Nat.le_refl _, fun _ _ _ h _ => h⟩
theorem KpB.trans {base : Nat} {A B C : World} (h : KpB base A B) (k : KpB base B C) : KpB base A C :=
  ⟨k.os.trans h.os, k.tape.trans h.tape, k.output.trans h.output, Nat.le_trans h.size k.size, fun i o hb hi ho => k.same i o hb (h.same i o hb hi ho) ho⟩
theorem KpB.below {base : Nat} {A B : World} (h : Below A.heap.size A B) : KpB base A B :=
  ⟨h.os, h.tape, h.output, h.size, fun k o _ hk _ => (h.block k (Array.getElem?_eq_some_iff.1 hk).1).trans hk⟩
theorem KpB.put {base : Nat} (W : World) (l : Nat) (o o' : Obj) (_ : base ≤ l) (h : W.heap[l]? = some o) (hc : o.isCells = false) (hw : o.isWalk = false) : KpB base W (W.putObj l o') :=
  ⟨rfl, rfl, rfl, by simp, fun k x _ hk hx => by
    refine (World.putObj_heap_other fun e => ?_).trans hk
    subst e
    rw [h] at hk
    cases hk
    rw [isB_cells hx] at hc; cases hc⟩
theorem KpB.set {base : Nat} (W : World) (p : Addr) (v : Value) (hp : p.block < base) : KpB base W (W.setCell p v) :=
  ⟨rfl, rfl, rfl, by simp, fun k o hb hk _ => (Below.heap_setCell W p v k (by omega)).trans hk⟩
/-- A row of another kind may grow. -/
theorem KpB.grow {base : Nat} {A B : World} {row : Option Nat} (h : A.grownBy B row) (hr : ∀ r, row = some r → ∃ o : Obj, A.heap[r]? = some o ∧ isB o = false) : KpB base A B :=
  ⟨h.os, h.tape, h.output, h.size, fun k o _ hk hx => (h.block k (Array.getElem?_eq_some_iff.1 hk).1 fun e => by
    obtain ⟨o', ho', hx'⟩ := hr k e.symm
    rw [hk] at ho'
    cases ho'
    rw [hx] at hx'; cases hx').trans hk⟩
/-- Bytes in a row from base on. -/
structure Lsb (base : Nat) (W : World) (a : Option Addr) (cap : Nat) (L : List Int) : Prop where
  ls : Ls .u8 W a cap L
  at_ : ∀ b, a = some b → 0 < L.length → base ≤ b.block ∧ ∃ o : Obj, W.heap[b.block]? = some o ∧ isB o = true
theorem Lsb.kp {base : Nat} {A B : World} {a : Option Addr} {cap : Nat} {L : List Int} (h : Lsb base A a cap L) (k : KpB base A B) : Lsb base B a cap L := by
  by_cases h0 : 0 < L.length
  · refine ⟨⟨fun i hi => ?_, h.ls.nl, h.ls.le⟩, fun b e h1 => ?_⟩
    · obtain ⟨b, off, e, hc⟩ := h.ls.rd i hi
      obtain ⟨hb, o, ho, hx⟩ := h.at_ _ e h0
      have : B.heap[b]? = A.heap[b]? := by rw [k.same b o hb ho hx]; exact ho.symm
      exact ⟨b, off, e, (World.cell?_of_block (w := A) this).trans hc⟩
    · obtain ⟨hb, o, ho, hx⟩ := h.at_ b e h1
      exact ⟨hb, o, k.same _ o hb ho hx, hx⟩
  · exact ⟨⟨fun i hi => absurd hi (by omega), h.ls.nl, h.ls.le⟩, fun b e h1 => absurd h1 h0⟩
theorem own_lsb {W : World} {base n : Nat} {v : Value} {L : List Int} (h : W.ownsRow base 5 1 v n (iv .u8 L)) (hn : L.length = n) : ∃ a cap, v = .slice a n cap ∧ Lsb base W a cap L := by
  obtain ⟨a, cap, e, hl, _⟩ := own_ls h hn
  refine ⟨a, cap, e, hl, fun b hb h0 => ?_⟩
  subst e hb
  rcases h.2 with ⟨hv, _⟩ | ⟨g, c2, cur, hv, hg, hc, _⟩
  · cases hv
  · cases hv
    exact ⟨hg, _, hc, rfl⟩
theorem Lsb.lo {base : Nat} {W : World} {a : Option Addr} {cap : Nat} {L : List Int} (h : Lsb base W a cap L) (n i : Nat) (hn : L.length = n) (hi : i ≤ n) :
    ∃ a' c', (∀ W', (Instr.slice 54 (.slice a n cap) (some (.int .i64 (i : Int))) .none .none).run Tryz.prog W' = .ok (.slice a' (n - i) c') W') ∧ Lsb base W a' c' (L.drop i) := by
  have hle := h.ls.le
  obtain ⟨a2, c2, h1, h2⟩ := Ls.lo eltB h.ls n i hn hi
  have h3 : (∀ W', (Instr.slice 54 (.slice a n cap) (some (.int .i64 (i : Int))) .none .none).run Tryz.prog W' = .ok (.slice (if cap = i then a else a.map (·.add (i * 1))) (n - i) (cap - i)) W') := fun W' => by
    subst hn
    obtain ⟨i0, hi0, hz0, hz1, hz2⟩ := info_parts eltB.inf
    have hel : Tryz.prog.elem 54 = 5 := by simp [Program.elem, eltB.ut]
    rw [run_slice_l (P := Tryz.prog) (w := W') 54 a L.length cap (by rw [hel]; exact eltB.ut) .i64 i (by omega) (by omega)]
    have hs : ((sizeOf (Tryz.prog.elem 54)).run Tryz.prog W') = .ok 1 W' := by rw [hel]; simp [sizeOf, typeInfo, hi0, hz1]
    rw [hs]
    rfl
  have e := (h1 W).symm.trans (h3 W)
  injection e with e _
  injection e with e1 e2 e3
  refine ⟨a2, c2, h1, h2, fun b hb h0 => ?_⟩
  rw [hb] at e1
  have h4 : 0 < L.length := by rw [List.length_drop] at h0; omega
  cases a with
  | none =>
    exfalso
    by_cases hc : cap = i
    · rw [if_pos hc] at e1; cases e1
    · rw [if_neg hc] at e1; cases e1
  | some a =>
    have hx := h.at_ a rfl h4
    have hbk : b.block = a.block := by
      by_cases hc : cap = i
      · rw [if_pos hc] at e1; cases e1; rfl
      · rw [if_neg hc] at e1
        injection e1 with e1
        rw [e1]
        unfold Addr.add
        split <;> rfl
    rw [hbk]
    exact hx
end Go.Proofs.YtglkndoghnblcaaGreatDoor
namespace Go.Proofs.YtglkndoghnblcaaGreatDoor
open Go.ChangeShapes Go.WideShapes Go.ChangeAt Go.RowKit
set_option linter.unusedVariables false
set_option linter.unusedSimpArgs false
theorem numW_ten (n : Nat) (hn : n < 18446744073709551616) : (numW n).length ≤ 10 := numW_len 9 n (Nat.lt_trans hn (by decide))
theorem or128 : ∀ c : Fin 256, bits .or .u8 ((c.val : Nat) : Int) 128 = ((c.val % 128 + 128 : Nat) : Int) := by decide +kernel

set_option maxRecDepth 100000 in
set_option maxHeartbeats 4000000 in
/-- Number (116). -/
theorem number_own (n : Nat) (hn : n < 18446744073709551616) (w : World) :
    Calls Tryz.prog 98 #[.int .u64 (n : Int)] w fun e w' => ∃ a c, e = .returned (.slice a (numW n).length c) ∧ w'.ownsRow w.heap.size 5 1 (.slice a (numW n).length c) (numW n).length (iv .u8 (numW n)) ∧ Lsb w.heap.size w' a c (numW n) ∧ Below w.heap.size w w' := by
  have HT := Lib.hid (numW_ten n hn)
  go_enter Tryz.func98, Tryz.ntmps98
  go_wp2_with fail
  go_loopw [0, 3] (fun p v wr => ∃ (m : Nat) (F : List Int), p = .int .u64 (m : Int) ∧ m ≤ n ∧ Hid (numW n = F ++ numW m) ∧ wr.ownsRow w.heap.size 5 1 v F.length (iv .u8 F) ∧ Below w.heap.size w wr) (fun p _ _ => (intOf p).toNat)
  case atStart => exact ⟨n, [], rfl, Nat.le_refl _, Lib.hid rfl, World.ownsRow_nil _ _ _ _, Below.refl _ _⟩
  case round =>
    obtain ⟨m, F, rfl, hmn, HE, hown, B⟩ := hrel
    have HO := Lib.hid hown
    have HB := Lib.hid B
    have hs1 := B.size
    have hF : F.length ≤ 10 := by
      have := HT.out
      rw [HE.out, List.length_append] at this
      omega
    clear hown B
    obtain ⟨fl, hfl⟩ : ∃ fl, F.length = fl := ⟨_, rfl⟩
    rw [hfl] at HO hF
    have HFL := Lib.hid hfl
    clear hfl
    by_cases hbig : 127 < m
    · have d1 : (127 : Int) < (m : Int) := by omega
      obtain ⟨x, hx⟩ : ∃ x, m % 128 + 128 = x := ⟨_, rfl⟩
      have HX := Lib.hid (show numW n = (F ++ [(x : Int)]) ++ numW (m / 128) by rw [HE.out, numW_big (by omega), hx]; simp)
      have hw1 : IntKind.u8.wrap (m : Int) = ((m % 256 : Nat) : Int) := by rw [IntKind.wrap_u8, Int.natCast_emod]; rfl
      obtain ⟨y, hy⟩ : ∃ y, m % 256 = y := ⟨_, rfl⟩
      have hor : bits .or .u8 (y : Int) 128 = (x : Int) := by
        have := or128 ⟨y, by omega⟩
        rw [show y % 128 + 128 = x by omega] at this
        exact this
      rw [hy] at hw1
      clear hy
      clear hx HE
      go_wp2_with (at_builtin; refine append_ls eltB rfl (.tmp 6) (.tmp 10) rfl w.heap.size _ fl (iv .u8 F) rfl (HO.out.alloc _) _ _ 1 [(x : Int)] rfl rfl (ls_new .u8 _ [(x : Int)] _ _ _ rfl 1 rfl) (by omega) (by rw [World.size_alloc]; omega) ?_; intro v2 w2 hown2 hgrow2; rw [← iv_append] at hown2; have HO2 := Lib.hid hown2; have HB2 := Lib.hid ((HB.out.alloc hs1 _).grown hgrow2 (by rw [World.size_alloc]; omega) (fun j hj => (HO.out.lt j hj).1)); clear hown2 hgrow2)
      go_roundw
      case rel => exact ⟨m / 128, F ++ [(x : Int)], by first | rfl | (congr 1; omega) | go_num, by omega, HX, by rw [List.length_append, HFL.out]; exact HO2.out, HB2.out⟩
      case measure => simp [intOf]; omega
    · have d1 : ¬ (127 : Int) < (m : Int) := by omega
      have hw : IntKind.u8.wrap (m : Int) = (m : Int) := by rw [IntKind.wrap_u8]; omega
      have HX := Lib.hid (show numW n = F ++ [(m : Int)] by rw [HE.out, numW_small (by omega)])
      clear HE
      go_wp2_with (at_builtin; refine append_ls eltB rfl (.tmp 14) (.tmp 17) rfl w.heap.size _ fl (iv .u8 F) rfl (HO.out.alloc _) _ _ 1 [(m : Int)] rfl rfl (ls_new .u8 _ [(m : Int)] _ _ _ rfl 1 rfl) (by omega) (by rw [World.size_alloc]; omega) ?_; intro v2 w2 hown2 hgrow2; rw [← iv_append, ← HX.out] at hown2; have HB2 := Lib.hid ((HB.out.alloc hs1 _).grown hgrow2 (by rw [World.size_alloc]; omega) (fun j hj => (HO.out.lt j hj).1)); have hle : fl + 1 = (numW n).length := (by rw [HX.out, List.length_append, HFL.out]; rfl); rw [hle] at hown2; obtain ⟨a', c', hv, hl'⟩ := own_lsb hown2 rfl; subst hv; have HO2 := Lib.hid (And.intro hown2 hl'); clear hown2 hgrow2 hle hl')
      go_ret
      exact ⟨a', c', rfl, HO2.out.1, HO2.out.2, HB2.out⟩

set_option maxRecDepth 100000 in
set_option maxHeartbeats 4000000 in
/-- The document's Number (132). -/
theorem rnumber_own (n : Nat) (hn : n < 18446744073709551616) (w : World) :
    Calls Tryz.prog 121 #[.int .u64 (n : Int)] w fun e w' => ∃ a c, e = .returned (.slice a (numW n).length c) ∧ w'.ownsRow w.heap.size 5 1 (.slice a (numW n).length c) (numW n).length (iv .u8 (numW n)) ∧ Lsb w.heap.size w' a c (numW n) ∧ Below w.heap.size w w' := by
  have HT := Lib.hid (numW_ten n hn)
  go_enter Tryz.func121, Tryz.ntmps121
  go_wp2_with fail
  go_loopw [0, 3] (fun p v wr => ∃ (m : Nat) (F : List Int), p = .int .u64 (m : Int) ∧ m ≤ n ∧ Hid (numW n = F ++ numW m) ∧ wr.ownsRow w.heap.size 5 1 v F.length (iv .u8 F) ∧ Below w.heap.size w wr) (fun p _ _ => (intOf p).toNat)
  case atStart => exact ⟨n, [], rfl, Nat.le_refl _, Lib.hid rfl, World.ownsRow_nil _ _ _ _, Below.refl _ _⟩
  case round =>
    obtain ⟨m, F, rfl, hmn, HE, hown, B⟩ := hrel
    have HO := Lib.hid hown
    have HB := Lib.hid B
    have hs1 := B.size
    have hF : F.length ≤ 10 := by
      have := HT.out
      rw [HE.out, List.length_append] at this
      omega
    clear hown B
    obtain ⟨fl, hfl⟩ : ∃ fl, F.length = fl := ⟨_, rfl⟩
    rw [hfl] at HO hF
    have HFL := Lib.hid hfl
    clear hfl
    by_cases hbig : 127 < m
    · have d1 : (127 : Int) < (m : Int) := by omega
      obtain ⟨x, hx⟩ : ∃ x, m % 128 + 128 = x := ⟨_, rfl⟩
      have HX := Lib.hid (show numW n = (F ++ [(x : Int)]) ++ numW (m / 128) by rw [HE.out, numW_big (by omega), hx]; simp)
      have e3 : (m : Int).tmod 128 = (m : Int) % 128 := Int.tmod_eq_emod_of_nonneg (by omega)
      have e4 : (m : Int).tdiv 128 = (m : Int) / 128 := Int.tdiv_eq_ediv_of_nonneg (by omega)
      have hw0 : IntKind.u64.wrap ((m : Int) % 128) = (m : Int) % 128 := by rw [IntKind.wrap_u64]; omega
      have hw1 : IntKind.u64.wrap ((m : Int) % 128 + 128) = (x : Int) := by rw [IntKind.wrap_u64]; omega
      have hw2 : IntKind.u8.wrap (x : Int) = (x : Int) := by rw [IntKind.wrap_u8]; omega
      have hw3 : IntKind.u64.wrap ((m : Int) / 128) = (m : Int) / 128 := by rw [IntKind.wrap_u64]; omega
      clear hx HE
      go_wp2_with (at_builtin; refine append_ls eltB rfl (.tmp 6) (.tmp 11) rfl w.heap.size _ fl (iv .u8 F) rfl (HO.out.alloc _) _ _ 1 [(x : Int)] rfl rfl (ls_new .u8 _ [(x : Int)] _ _ _ rfl 1 rfl) (by omega) (by rw [World.size_alloc]; omega) ?_; intro v2 w2 hown2 hgrow2; rw [← iv_append] at hown2; have HO2 := Lib.hid hown2; have HB2 := Lib.hid ((HB.out.alloc hs1 _).grown hgrow2 (by rw [World.size_alloc]; omega) (fun j hj => (HO.out.lt j hj).1)); clear hown2 hgrow2)
      go_roundw
      case rel => exact ⟨m / 128, F ++ [(x : Int)], by first | rfl | (congr 1; omega) | go_num, by omega, HX, by rw [List.length_append, HFL.out]; exact HO2.out, HB2.out⟩
      case measure => simp [intOf]; omega
    · have d1 : ¬ (127 : Int) < (m : Int) := by omega
      have hw : IntKind.u8.wrap (m : Int) = (m : Int) := by rw [IntKind.wrap_u8]; omega
      have HX := Lib.hid (show numW n = F ++ [(m : Int)] by rw [HE.out, numW_small (by omega)])
      clear HE
      go_wp2_with (at_builtin; refine append_ls eltB rfl (.tmp 15) (.tmp 18) rfl w.heap.size _ fl (iv .u8 F) rfl (HO.out.alloc _) _ _ 1 [(m : Int)] rfl rfl (ls_new .u8 _ [(m : Int)] _ _ _ rfl 1 rfl) (by omega) (by rw [World.size_alloc]; omega) ?_; intro v2 w2 hown2 hgrow2; rw [← iv_append, ← HX.out] at hown2; have HB2 := Lib.hid ((HB.out.alloc hs1 _).grown hgrow2 (by rw [World.size_alloc]; omega) (fun j hj => (HO.out.lt j hj).1)); have hle : fl + 1 = (numW n).length := (by rw [HX.out, List.length_append, HFL.out]; rfl); rw [hle] at hown2; obtain ⟨a', c', hv, hl'⟩ := own_lsb hown2 rfl; subst hv; have HO2 := Lib.hid (And.intro hown2 hl'); clear hown2 hgrow2 hle hl')
      go_ret
      exact ⟨a', c', rfl, HO2.out.1, HO2.out.2, HB2.out⟩
end Go.Proofs.YtglkndoghnblcaaGreatDoor
namespace Go.Proofs.YtglkndoghnblcaaGreatDoor
open Go.ChangeShapes Go.WideShapes Go.ChangeAt Go.RowKit
set_option linter.unusedVariables false
set_option linter.unusedSimpArgs false
theorem own_lsb' {W : World} {base n c : Nat} {a : Option Addr} {L : List Int} (h : W.ownsRow base 5 1 (.slice a n c) n (iv .u8 L)) (hn : L.length = n) : Lsb base W a c L := by
  obtain ⟨a2, c2, e, h2⟩ := own_lsb h hn
  cases e
  exact h2
/-- A result: bytes in a row of the callee's own. -/
def OwnB (w : World) (L : List Int) (e : Ending) (w' : World) : Prop := ∃ a c, e = .returned (.slice a L.length c) ∧ w'.ownsRow w.heap.size 5 1 (.slice a L.length c) L.length (iv .u8 L) ∧ Lsb w.heap.size w' a c L ∧ Below w.heap.size w w'
theorem OwnB.mk {w w' : World} {L : List Int} {a : Option Addr} {n c : Nat} (h : w'.ownsRow w.heap.size 5 1 (.slice a n c) n (iv .u8 L)) (hn : L.length = n) (hb : Below w.heap.size w w') : OwnB w L (.returned (.slice a n c)) w' := by
  subst hn
  exact ⟨a, c, rfl, h, own_lsb' h rfl, hb⟩
theorem bytesW_byt {b : List Int} (h : Byt b) : Byt (bytesW b) := fun x hx => by
  rcases List.mem_append.1 hx with h1 | h1
  · exact numW_byt _ x h1
  · exact h x h1
theorem bytesW_len (b : List Int) (h : b.length ≤ 1000000) : (bytesW b).length ≤ b.length + 10 := by
  unfold bytesW
  rw [List.length_append]
  have := numW_ten b.length (by omega)
  omega
theorem putnumber_own (n : Nat) (hn : n < 9223372036854775808) (w : World) : Calls Tryz.prog 60 #[.int .i64 (n : Int)] w (OwnB w (numW n)) := by
  have hw : IntKind.u64.wrap (n : Int) = (n : Int) := by rw [IntKind.wrap_u64]; omega
  go_enter Tryz.func60, Tryz.ntmps60
  go_wp2_with fail
  refine (number_own n (by omega) _).mono ?_
  rintro e w1 ⟨a, c, rfl, ho, hl, hb⟩
  have HX := Lib.hid (And.intro ho (And.intro hl hb))
  clear ho hl hb
  go_wp2_with fail
  go_ret
  exact OwnB.mk HX.out.1 rfl HX.out.2.2
theorem rnumber15_own (n : Nat) (hn : n < 9223372036854775808) (w : World) : Calls Tryz.prog 75 #[.int .i64 (n : Int)] w (OwnB w (numW n)) := by
  have hw : IntKind.u64.wrap (n : Int) = (n : Int) := by rw [IntKind.wrap_u64]; omega
  go_enter Tryz.func75, Tryz.ntmps75
  go_wp2_with fail
  refine (rnumber_own n (by omega) _).mono ?_
  rintro e w1 ⟨a, c, rfl, ho, hl, hb⟩
  have HX := Lib.hid (And.intro ho (And.intro hl hb))
  clear ho hl hb
  go_wp2_with fail
  go_ret
  exact OwnB.mk HX.out.1 rfl HX.out.2.2
theorem flag_own (b : Bool) (w : World) : Calls Tryz.prog 99 #[.bool b] w (OwnB w [if b then 1 else 0]) := by
  cases b with
  | true =>
    go_enter Tryz.func99, Tryz.ntmps99
    go_wp2_with fail
    go_ret
    exact OwnB.mk (World.ownsRow_lit w #[.int .u8 1] 1 (Nat.le_refl _) (by decide) rfl) rfl ((Below.refl _ _).alloc (Nat.le_refl _) _)
  | false =>
    go_enter Tryz.func99, Tryz.ntmps99
    go_wp2_with fail
    go_ret
    exact OwnB.mk (World.ownsRow_lit w #[.int .u8 0] 1 (Nat.le_refl _) (by decide) rfl) rfl ((Below.refl _ _).alloc (Nat.le_refl _) _)
set_option maxRecDepth 100000 in
set_option maxHeartbeats 4000000 in
/-- Bytes (80). -/
theorem bytes_own (a : Option Addr) (L : List Int) (n cap : Nat) (hn : L.length = n) (hn2 : n ≤ 1000000) (w : World) (hL : Ls .u8 w a cap L) : Calls Tryz.prog 61 #[.slice a n cap] w (OwnB w (bytesW L)) := by
  have HN := Lib.hid (And.intro hn hL)
  have hw : IntKind.u64.wrap (n : Int) = (n : Int) := by rw [IntKind.wrap_u64]; omega
  have h10 := numW_ten n (by omega)
  clear hn hL
  go_enter Tryz.func61, Tryz.ntmps61
  go_wp2_with fail
  refine (number_own n (by omega) _).mono ?_
  rintro e w1 ⟨a1, c1, rfl, ho, hl, hb⟩
  have HX := Lib.hid (And.intro hl.ls hb)
  clear ho hl hb
  have hfl : flat [⟨a1, c1, numW n⟩, ⟨a, cap, L⟩] = bytesW L := by unfold flat bytesW; rw [HN.out.1]; simp
  have hlen : (bytesW L).length = (numW n).length + n := by unfold bytesW; rw [HN.out.1, List.length_append, HN.out.1]
  have hRR := rdR_new w1 [⟨a1, c1, numW n⟩, ⟨a, cap, L⟩] #[.slice a1 (numW n).length c1, .slice a n cap] 54 (0, 0) (by simp only [List.map_cons, List.map_nil, P1.v, HN.out.1]) (by
    intro p hp
    simp only [List.mem_cons, List.not_mem_nil, or_false] at hp
    rcases hp with rfl | rfl
    · exact HX.out.1
    · exact HN.out.2.below HX.out.2)
  have hj := join_own (some ⟨w1.heap.size, 0, none⟩) _ 2 2 rfl (by omega) (by rw [hfl, hlen]; omega) _ hRR
  rw [hfl] at hj
  have HJ := Lib.hid hj
  clear hj hRR hfl hlen h10
  obtain ⟨q, hq⟩ : ∃ q, (numW n).length = q := ⟨_, rfl⟩
  rw [hq] at HJ ⊢
  clear hq
  go_wp2_with fail
  refine HJ.out.mono ?_
  rintro e w4 ⟨a4, c4, rfl, hl4, ho4, hb4⟩
  have hb34 : Below w1.heap.size w1 w4 := step_below ((Below.refl _ _).alloc (Nat.le_refl _) _) hb4
  have HY := Lib.hid (And.intro (own_base (b := w.heap.size) (by rw [World.size_alloc]; exact Nat.le_succ_of_le HX.out.2.size) ho4) (step_below HX.out.2 hb34))
  clear hl4 ho4 hb4 hb34 HJ
  go_wp2_with fail
  go_ret
  exact OwnB.mk HY.out.1 rfl HY.out.2
set_option maxRecDepth 100000 in
set_option maxHeartbeats 4000000 in
/-- The document's Bytes (74). -/
theorem rbytes_own (a : Option Addr) (L : List Int) (n cap : Nat) (hn : L.length = n) (hn2 : n ≤ 1000000) (w : World) (hL : Ls .u8 w a cap L) : Calls Tryz.prog 76 #[.slice a n cap] w (OwnB w (bytesW L)) := by
  have HN := Lib.hid (And.intro hn hL)
  have hw : IntKind.u64.wrap (n : Int) = (n : Int) := by rw [IntKind.wrap_u64]; omega
  have h10 := numW_ten n (by omega)
  clear hn hL
  go_enter Tryz.func76, Tryz.ntmps76
  go_wp2_with fail
  refine (rnumber_own n (by omega) _).mono ?_
  rintro e w1 ⟨a1, c1, rfl, ho, hl, hb⟩
  have HX := Lib.hid (And.intro ho hb)
  clear ho hl hb
  have HLEN := Lib.hid (show (bytesW L).length = (numW n).length + n by unfold bytesW; rw [HN.out.1, List.length_append, HN.out.1])
  have HAP := Lib.hid (show iv .u8 (numW n) ++ iv .u8 L = iv .u8 (bytesW L) by rw [← iv_append]; unfold bytesW; rw [HN.out.1])
  obtain ⟨q, hq⟩ : ∃ q, (numW n).length = q := ⟨_, rfl⟩
  obtain ⟨X, hX⟩ : ∃ X, iv .u8 (numW n) = X := ⟨_, rfl⟩
  rw [hq] at HX HLEN h10 ⊢
  rw [hX] at HX HAP
  have hs1 := HX.out.2.size
  clear hq hX
  go_wp2_with (at_builtin; refine append_ls eltB rfl (.tmp 6) (.tmp 7) rfl w.heap.size _ q X rfl HX.out.1 _ _ n L HN.out.1 rfl (HN.out.2.below HX.out.2) (by omega) hs1 ?_; intro v2 w2 hown2 hgrow2; rw [HAP.out, ← HLEN.out] at hown2; have HB2 := Lib.hid (HX.out.2.grown hgrow2 hs1 (fun j hj => (HX.out.1.lt j hj).1)); obtain ⟨a', c', hv, hl'⟩ := own_lsb hown2 rfl; subst hv; have HO2 := Lib.hid hown2; clear hown2 hgrow2 hl')
  go_ret
  exact OwnB.mk HO2.out rfl HB2.out
end Go.Proofs.YtglkndoghnblcaaGreatDoor
namespace Go.Proofs.YtglkndoghnblcaaGreatDoor
open Go.ChangeShapes Go.WideShapes Go.ChangeAt Go.RowKit
set_option linter.unusedVariables false
set_option linter.unusedSimpArgs false
theorem eltI : Elt .i64 144 3 8 := ⟨Tryz.underlying144, by kernel_rfl, by decide⟩
def allB (R : List P1) : Bool := R.all fun p => decide (p.bs.length ≤ 24)
theorem allB_iff (R : List P1) : allB R = true ↔ ∀ p ∈ R, p.bs.length ≤ 24 := by simp [allB]
theorem allB_not {R : List P1} {k : Nat} {p : P1} (h : R[k]? = some p) (hp : ¬ p.bs.length ≤ 24) : allB R = false := by
  cases hb : allB R
  · rfl
  · exact absurd ((allB_iff R).1 hb p (List.mem_of_getElem? h)) hp
theorem may1_law (i : Int) (a : Option Addr) (n cap : Nat) (w : World) : Calls Tryz.prog 147 #[.int .i64 i, .slice a n cap] w fun r w' => r = .returned (.tuple #[.int .i64 0, .bool (decide (n ≤ 24))]) ∧ w = w' := by
  have h := mayfield_law a n cap w
  go_enter Tryz.func147, Tryz.ntmps147
  go_wp2_with fail
  refine h.mono ?_; rintro e w' ⟨rfl, rfl⟩
  go_wp2_with fail
  go_ret2
  exact ⟨rfl, rfl⟩
set_option maxRecDepth 100000 in
set_option maxHeartbeats 2000000 in
theorem eachmay_law (a : Option Addr) (R : List P1) (n cap : Nat) (hn : R.length = n) (hn3 : n ≤ 1000000) (w : World) (hR : RdR w a R) :
    Calls Tryz.prog 146 #[.slice a n cap, .func (.func 147) #[] #[]] w fun r w' => (∃ v, r = .returned (.tuple #[v, .bool (allB R)])) ∧ Below w.heap.size w w' := by
  have HR := Lib.hid hR
  have HN := Lib.hid hn
  clear hR hn
  go_enter Tryz.func146, Tryz.ntmps146
  go_wp2_with fail
  go_loopw [6, 13] (fun v i wr => ∃ k : Nat, k ≤ n ∧ i = .int .i64 k ∧ wr.ownsRow w.heap.size 3 1 v k (iv .i64 (List.replicate k 0)) ∧ (∀ j < k, ∀ p, R[j]? = some p → p.bs.length ≤ 24) ∧ Below w.heap.size w wr) (fun _ i _ => n - (intOf i).toNat)
  case atStart => exact ⟨0, by omega, rfl, World.ownsRow_nil _ _ _ _, fun j hj => absurd hj (by omega), Below.refl _ _⟩
  case round =>
    obtain ⟨k, hk, rfl, hown, hpre, B⟩ := hrel
    have HP := Lib.hid hpre
    clear hpre
    by_cases hlt : k < n
    · have hkl : (k : Int) < (n : Int) := by omega
      obtain ⟨p, hp⟩ : ∃ p, R[k]? = some p := ⟨_, List.getElem?_eq_getElem (by rw [HN.out]; exact hlt)⟩
      obtain ⟨b1, o1, e1, c1, l1⟩ := HR.out.below B k p hp
      subst e1
      have c2 : wr.cell? ⟨b1, o1 + k, none⟩ = some (.slice p.ad p.bs.length p.cap) := c1
      have HPP := Lib.hid hp
      obtain ⟨q, hq⟩ : ∃ q, p.bs.length = q := ⟨_, rfl⟩
      rw [hq] at c2
      have HQ := Lib.hid hq
      have hs1 := B.size
      clear c1 hp hq l1
      by_cases hle : q ≤ 24
      · have h1 := may1_law (k : Int) p.ad q p.cap wr
        rw [decide_eq_true hle] at h1
        have H1 := Lib.hid h1
        have HLE := Lib.hid hle
        have HOWN := Lib.hid hown
        clear h1 hle hown
        go_wp2_with fail
        refine H1.out.mono ?_; rintro e w' ⟨rfl, rfl⟩
        go_wp2_with (at_builtin; refine append_ls eltI rfl (.tmp 28) (.tmp 30) rfl w.heap.size _ k (iv .i64 (List.replicate k 0)) rfl (HOWN.out.alloc _) _ _ 1 [0] rfl rfl (ls_new .i64 _ [0] _ _ _ rfl 1 rfl) (by omega) (by simp; omega) ?_)
        intro v2 w3 hown3 hgrow3
        rw [← iv_append, show List.replicate k (0 : Int) ++ [0] = List.replicate (k + 1) 0 from (List.replicate_succ' ..).symm] at hown3
        have B4 := (B.alloc hs1 _).grown hgrow3 (by simp; omega) (fun j hj => (HOWN.out.lt j hj).1)
        have HOWN3 := Lib.hid hown3
        clear hown3 hgrow3
        go_wp2_with fail
        go_roundw
        case rel => exact ⟨k + 1, by omega, by go_num, HOWN3.out, jstep HP.out (fun p' hp' => by have := HPP.out; rw [hp'] at this; cases this; rw [HQ.out]; exact HLE.out), B4⟩
        case measure => simp [intOf]; omega
      · have h1 := may1_law (k : Int) p.ad q p.cap wr
        rw [decide_eq_false hle] at h1
        have H1 := Lib.hid h1
        have HA := Lib.hid (allB_not HPP.out (by rw [HQ.out]; exact hle))
        clear h1 hle hown
        go_wp2_with fail
        refine H1.out.mono ?_; rintro e w' ⟨rfl, rfl⟩
        go_wp2_with fail
        go_ret2
        exact ⟨⟨_, by rw [HA.out]; rfl⟩, B⟩
    · have hkl : ¬ (k : Int) < (n : Int) := by omega
      have HA := Lib.hid (show allB R = true from (allB_iff R).2 fun p hp => by
        obtain ⟨j, hj, e⟩ := List.mem_iff_getElem.1 hp
        exact HP.out j (by have := HN.out; omega) p (by rw [List.getElem?_eq_getElem hj, e]))
      clear hown
      go_wp2_with fail
      go_ret2
      exact ⟨⟨_, by rw [HA.out]; rfl⟩, B⟩
def mayR (R : List P1) : Bool := allB R && decide (1 ≤ R.length ∧ R.length ≤ 3)
set_option maxRecDepth 100000 in
set_option maxHeartbeats 1000000 in
theorem mayr_law (a : Option Addr) (R : List P1) (n cap : Nat) (hn : R.length = n) (hn3 : n ≤ 1000000) (w : World) (hR : RdR w a R) :
    Calls Tryz.prog 119 #[.slice a n cap] w fun r w' => r = .returned (.bool (mayR R)) ∧ Below w.heap.size w w' := by
  have h := eachmay_law a R n cap hn hn3 w hR
  have H := Lib.hid h
  unfold mayR
  rw [hn]
  clear h
  cases hb : allB R
  · rw [hb] at H
    clear hb
    go_enter Tryz.func119, Tryz.ntmps119
    go_wp2_with fail
    refine H.out.mono ?_; rintro e w' ⟨⟨v, rfl⟩, B⟩
    go_wp2_with fail
    go_ret
    exact ⟨rfl, B⟩
  · rw [hb] at H
    clear hb
    rcases (show n < 1 ∨ (1 ≤ n ∧ n ≤ 3) ∨ (1 ≤ n ∧ ¬ n ≤ 3) by omega) with q | ⟨q1, q2⟩ | ⟨q1, q2⟩
    · rw [decide_eq_false (by omega)]
      have hi : ¬ (1 : Int) ≤ (n : Int) := by omega
      go_enter Tryz.func119, Tryz.ntmps119
      go_wp2_with fail
      refine H.out.mono ?_; rintro e w' ⟨⟨v, rfl⟩, B⟩
      go_wp2_with fail
      go_ret
      exact ⟨rfl, B⟩
    · rw [decide_eq_true (by omega)]
      have hi : (1 : Int) ≤ (n : Int) := by omega
      have hj : (n : Int) ≤ 3 := by omega
      go_enter Tryz.func119, Tryz.ntmps119
      go_wp2_with fail
      refine H.out.mono ?_; rintro e w' ⟨⟨v, rfl⟩, B⟩
      go_wp2_with fail
      go_ret
      exact ⟨rfl, B⟩
    · rw [decide_eq_false (by omega)]
      have hi : (1 : Int) ≤ (n : Int) := by omega
      have hj : ¬ (n : Int) ≤ 3 := by omega
      go_enter Tryz.func119, Tryz.ntmps119
      go_wp2_with fail
      refine H.out.mono ?_; rintro e w' ⟨⟨v, rfl⟩, B⟩
      go_wp2_with fail
      go_ret
      exact ⟨ret_bool (by simp; omega), B⟩
theorem mayR_iff (R : List P1) : mayR R = true ↔ (∀ p ∈ R, p.bs.length ≤ 24) ∧ 1 ≤ R.length ∧ R.length ≤ 3 := by
  rw [mayR, Bool.and_eq_true, allB_iff, decide_eq_true_eq]
end Go.Proofs.YtglkndoghnblcaaGreatDoor
namespace Go.Proofs.YtglkndoghnblcaaGreatDoor
open Go.ChangeShapes Go.WideShapes Go.ChangeAt Go.RowKit
set_option linter.unusedVariables false
set_option linter.unusedSimpArgs false
/-- A list's form. -/
def putL {α : Type} (put : α → List Int) (xs : List α) : List Int := numW xs.length ++ (xs.map put).flatten
theorem putL_len {α : Type} (put : α → List Int) (xs : List α) : (putL put xs).length = (numW xs.length).length + (xs.map put).flatten.length := by unfold putL; rw [List.length_append]
theorem flat_take {α : Type} (put : α → List Int) (xs : List α) (k : Nat) (x : α) (h : xs[k]? = some x) : ((xs.take (k + 1)).map put).flatten = ((xs.take k).map put).flatten ++ put x := by
  rw [List.take_add_one, h]
  simp
theorem flat_le {α : Type} (put : α → List Int) (xs : List α) (k : Nat) : ((xs.take k).map put).flatten.length ≤ (xs.map put).flatten.length := by
  have : (xs.map put).flatten = ((xs.take k).map put).flatten ++ ((xs.drop k).map put).flatten := by rw [← List.flatten_append, ← List.map_append, List.take_append_drop]
  rw [this, List.length_append]; omega
set_option maxRecDepth 100000 in
theorem hnf33 (f : Fn) (c1 c2 : Array Value) (w : World) : (binOp .eql 81 (.func f c1 c2) .nilFunc).run Tryz.prog w = .ok (.bool false) w := by
  first | rfl | simp [binOp, run_underlying Tryz.underlying81] | simp [binOp, Op.equal, run_underlying Tryz.underlying81, go_sem]
def bsW (p : P1) : List Int := bytesW p.bs

set_option maxRecDepth 100000 in
set_option maxHeartbeats 4000000 in
/-- Put of a row (165). -/
theorem putrow_own (a : Option Addr) (R : List P1) (n cap : Nat) (hn : R.length = n) (hn2 : n ≤ 1000000) (ht : (putL bsW R).length ≤ 1048576) (w : World) (hR : RdR w a R)
    (hF : ∀ (k : Nat) (x : P1), R[k]? = some x → ∀ W, Below w.heap.size w W → Calls Tryz.prog 61 #[.slice x.ad x.bs.length x.cap] W (OwnB W (bsW x))) :
    Calls Tryz.prog 149 #[.slice a n cap, .func (.func 61) #[] #[]] w fun e w' => ∃ a' c', e = .returned (.tuple #[.slice a' (putL bsW R).length c', .int .i64 0]) ∧ w'.ownsRow w.heap.size 5 1 (.slice a' (putL bsW R).length c') (putL bsW R).length (iv .u8 (putL bsW R)) ∧ Lsb w.heap.size w' a' c' (putL bsW R) ∧ Below w.heap.size w w' := by
  have HR := Lib.hid hR
  have HN := Lib.hid hn
  have HF := Lib.hid hF
  have HT := Lib.hid (show (numW n).length + (R.map bsW).flatten.length ≤ 1048576 by rw [← hn, ← putL_len]; exact ht)
  have hw : IntKind.u64.wrap (n : Int) = (n : Int) := by rw [IntKind.wrap_u64]; omega
  have hnf := fun W => hnf33 (.func 61) #[] #[] W
  clear hR hF ht hn
  go_enter Tryz.func149, Tryz.ntmps149
  go_wp2_with fail
  refine (number_own n (by omega) _).mono ?_
  rintro e w1 ⟨a1, c1, rfl, ho, hl, hb⟩
  have HO1 := Lib.hid ho
  have HB1 := Lib.hid hb
  clear ho hl hb hnf
  obtain ⟨q, hq⟩ : ∃ q, (numW n).length = q := ⟨_, rfl⟩
  have HQ := Lib.hid hq
  rw [hq] at HO1 HT ⊢
  clear hq
  go_wp2_with fail
  go_loopw [6, 8, 17] (fun v x i wr => ∃ k : Nat, k ≤ n ∧ i = .int .i64 (k : Int) ∧ wr.ownsRow w.heap.size 5 1 v (q + ((R.take k).map bsW).flatten.length) (iv .u8 (numW n ++ ((R.take k).map bsW).flatten)) ∧ Below w.heap.size w wr) (fun _ _ i _ => n - (intOf i).toNat)
  case atStart => exact ⟨0, by omega, rfl, by simpa using HO1.out, HB1.out⟩
  case round =>
    clear HO1 HB1
    obtain ⟨k, hk, rfl, hown, B⟩ := hrel
    have HO := Lib.hid hown
    have HB := Lib.hid B
    have hs1 := B.size
    clear hown
    by_cases hlt : k < n
    · have hkl : (k : Int) < (n : Int) := by omega
      obtain ⟨x, hx⟩ : ∃ x, R[k]? = some x := ⟨_, List.getElem?_eq_getElem (by rw [HN.out]; exact hlt)⟩
      obtain ⟨b1, o1, e1, cc1, l1⟩ := HR.out.below B k x hx
      subst e1
      have cc2 : wr.cell? ⟨b1, o1 + k, none⟩ = some (.slice x.ad x.bs.length x.cap) := cc1
      clear cc1 l1
      have HC := Lib.hid (HF.out k x hx wr B)
      have HS := Lib.hid (flat_take bsW R k x hx)
      have HLE := Lib.hid (show ((R.take k).map bsW).flatten.length + (bsW x).length ≤ (R.map bsW).flatten.length by rw [← List.length_append, ← flat_take bsW R k x hx]; exact flat_le bsW R (k + 1))
      obtain ⟨F, hF⟩ : ∃ F, ((R.take k).map bsW).flatten = F := ⟨_, rfl⟩
      obtain ⟨X, hX⟩ : ∃ X, bsW x = X := ⟨_, rfl⟩
      rw [hF] at HO HS HLE
      rw [hX] at HC HS HLE
      obtain ⟨fl, hfl⟩ : ∃ fl, F.length = fl := ⟨_, rfl⟩
      obtain ⟨xl, hxl⟩ : ∃ xl, X.length = xl := ⟨_, rfl⟩
      have HXL := Lib.hid (And.intro hfl hxl)
      rw [hfl] at HO HLE
      rw [hxl] at HLE
      have hsum : q + fl + xl ≤ 1048576 := by have := HT.out; have := HLE.out; omega
      clear hx hF hX hfl hxl B
      go_wp2_with fail
      refine HC.out.mono ?_
      rintro e w2 ⟨a2, c2, rfl, ho2, hl2, hb2⟩
      have HL2 := Lib.hid hl2.ls
      have HO2 := Lib.hid (show w2.ownsRow w.heap.size 5 1 _ _ _ from HO.out.kept (grown_of_below hb2) (by cases hv : Value.ownBlock _ with | none => exact Or.inl rfl | some b => exact Or.inr (fun e => by cases e)))
      have HB2 := Lib.hid (step_below HB.out hb2)
      have hs2 := HB2.out.size
      rw [HXL.out.2]
      clear ho2 hl2 hb2 HO
      go_wp2_with (at_builtin; refine append_ls eltB rfl (.tmp 21) (.tmp 24) rfl w.heap.size _ (q + fl) (iv .u8 (numW n ++ F)) rfl HO2.out _ _ xl X HXL.out.2 rfl HL2.out hsum hs2 ?_; intro v2 w3 hown2 hgrow2; rw [← iv_append, List.append_assoc] at hown2; have HO3 := Lib.hid hown2; have HB3 := Lib.hid (HB2.out.grown hgrow2 hs2 (fun j hj => (HO2.out.lt j hj).1)); clear hown2 hgrow2)
      go_roundw
      case rel => exact ⟨k + 1, by omega, by go_num, by rw [HS.out, List.length_append, HXL.out.1, HXL.out.2, ← Nat.add_assoc]; exact HO3.out, HB3.out⟩
      case measure => simp [intOf]; omega
    · have hkl : ¬ (k : Int) < (n : Int) := by omega
      obtain rfl : k = n := by omega
      have hPL : numW k ++ ((R.take k).map bsW).flatten = putL bsW R := by
        unfold putL
        rw [HN.out, List.take_of_length_le (by rw [HN.out]; exact Nat.le_refl _)]
      have hLL : q + ((R.take k).map bsW).flatten.length = (putL bsW R).length := by rw [← hPL, List.length_append, HQ.out]
      have HO4 := HO.out
      rw [hPL, hLL] at HO4
      obtain ⟨a', c', hv, hl'⟩ := own_lsb HO4 rfl
      subst hv
      have HX := Lib.hid (And.intro HO4 hl')
      clear hPL hLL HO4 hl' HO B
      obtain ⟨pl, hpl⟩ : ∃ pl, (putL bsW R).length = pl := ⟨_, rfl⟩
      rw [hpl]
      have HPL := Lib.hid hpl
      clear hpl
      go_wp2_with fail
      go_ret2
      exact ⟨a', c', by rw [HPL.out]; rfl, HX.out.1, HX.out.2, HB.out⟩
end Go.Proofs.YtglkndoghnblcaaGreatDoor
namespace Go.Proofs.YtglkndoghnblcaaGreatDoor
open Go.ChangeShapes Go.WideShapes Go.ChangeAt Go.RowKit
set_option linter.unusedVariables false
set_option linter.unusedSimpArgs false
theorem bytesrow_own (a : Option Addr) (R : List P1) (n cap : Nat) (hn : R.length = n) (hm : mayR R = true) (w : World) (hR : RdR w a R) :
    Calls Tryz.prog 120 #[.slice a n cap] w fun e w' => ∃ a' c', e = .returned (.tuple #[.slice a' (putL bsW R).length c', .int .i64 0]) ∧ Lsb w.heap.size w' a' c' (putL bsW R) ∧ Below w.heap.size w w' := by
  obtain ⟨m1, m2, m3⟩ := (mayR_iff R).1 hm
  have h := mayr_law a R n cap hn (by omega) w hR
  rw [hm] at h
  have H := Lib.hid h
  have hfl : (R.map bsW).flatten.length ≤ 1000 := by
    match R, m3, m1 with
    | [], _, _ => simp
    | [p], _, m1 => simp only [List.map_cons, List.map_nil, List.flatten_cons, List.flatten_nil, List.length_append, List.length_nil]; have := m1 p (by simp); have := bytesW_len p.bs (by omega); unfold bsW; omega
    | [p, q], _, m1 => simp only [List.map_cons, List.map_nil, List.flatten_cons, List.flatten_nil, List.length_append, List.length_nil]; have := m1 p (by simp); have := bytesW_len p.bs (by omega); have := m1 q (by simp); have := bytesW_len q.bs (by omega); unfold bsW; omega
    | [p, q, r], _, m1 => simp only [List.map_cons, List.map_nil, List.flatten_cons, List.flatten_nil, List.length_append, List.length_nil]; have := m1 p (by simp); have := bytesW_len p.bs (by omega); have := m1 q (by simp); have := bytesW_len q.bs (by omega); have := m1 r (by simp); have := bytesW_len r.bs (by omega); unfold bsW; omega
  have hpl : (putL bsW R).length ≤ 1048576 := by
    rw [putL_len]; have := numW_ten R.length (by omega); omega
  have HP := Lib.hid (fun W (b : Below w.heap.size w W) => putrow_own a R n cap hn (by omega) hpl W (hR.below b) (fun k x hx W' b' => by
    have hl := ((hR.below b).below b') k x hx
    obtain ⟨b1, o1, e1, _, l1⟩ := hl
    exact bytes_own x.ad x.bs x.bs.length x.cap rfl (Nat.le_trans (m1 x (List.mem_of_getElem? hx)) (by omega)) W' l1))
  clear h hm hn hR m1 m2 m3 hfl hpl
  go_enter Tryz.func120, Tryz.ntmps120
  go_wp2_with fail
  refine H.out.mono ?_; rintro e w1 ⟨rfl, B⟩
  go_wp2_with fail
  refine (HP.out w1 B).mono ?_
  rintro e w2 ⟨a2, c2, rfl, ho, hl, hb⟩
  have HX := Lib.hid (And.intro hl (step_below B hb))
  have HB := Lib.hid B.size
  clear ho hl hb B
  go_wp2_with fail
  go_ret2
  exact ⟨a2, c2, rfl, ⟨HX.out.1.ls, fun b e h => ⟨Nat.le_trans HB.out (HX.out.1.at_ b e h).1, (HX.out.1.at_ b e h).2⟩⟩, HX.out.2⟩
/-- putRow (81). -/
theorem putrow81_own (a : Option Addr) (R : List P1) (n cap : Nat) (hn : R.length = n) (hm : mayR R = true) (hpl : (putL bsW R).length ≤ 1000000) (w : World) (hR : RdR w a R) :
    Calls Tryz.prog 73 #[.slice a n cap] w (OwnB w (bytesW (putL bsW R))) := by
  have H := Lib.hid (bytesrow_own a R n cap hn hm w hR)
  clear hn hm hR
  go_enter Tryz.func73, Tryz.ntmps73
  go_wp2_with fail
  refine H.out.mono ?_
  rintro e w1 ⟨a1, c1, rfl, hl, hb⟩
  have HX := Lib.hid (And.intro hl.ls hb)
  clear hl hb
  obtain ⟨X, hX⟩ : ∃ X, putL bsW R = X := ⟨_, rfl⟩
  rw [hX] at HX hpl ⊢
  have HXX := Lib.hid hX
  clear hX
  go_wp2_with fail
  refine (bytes_own a1 X X.length c1 rfl hpl w1 HX.out.1).mono ?_
  rintro e w2 ⟨a2, c2, rfl, ho, hl, hb⟩
  have HY := Lib.hid (And.intro (own_base (b := w.heap.size) HX.out.2.size ho) (step_below HX.out.2 hb))
  clear ho hl hb
  go_wp2_with fail
  go_ret
  obtain rfl := HXX.out
  exact OwnB.mk HY.out.1 rfl HY.out.2
def tidW (e s : Nat) : List Int := numW e ++ numW s
set_option maxRecDepth 100000 in
set_option maxHeartbeats 4000000 in
/-- putTID (57). -/
theorem puttid_own (e s : Nat) (he : e < 9223372036854775808) (hs : s < 9223372036854775808) (w : World) : Calls Tryz.prog 53 #[.agg #[.int .i64 (e : Int), .int .i64 (s : Int)]] w (OwnB w (tidW e s)) := by
  go_enter Tryz.func53, Tryz.ntmps53
  go_wp2_with fail
  obtain ⟨W0, hW0⟩ : ∃ W0, w.alloc (.cells #[.int .i64 (e : Int), .int .i64 (s : Int)] 23) = W0 := ⟨_, rfl⟩
  have hb0 : Below w.heap.size w W0 := by rw [← hW0]; exact bl1 _ _
  have bx : BoxC W0 w.heap.size #[.int .i64 (e : Int), .int .i64 (s : Int)] 23 := by rw [← hW0]; exact BoxC.new w _ 23
  rw [hW0]
  clear hW0
  have HB0 := Lib.hid hb0
  have HS0 := Lib.hid hb0.size
  have FQ := Lib.hid (fun X (b : Below W0.heap.size W0 X) => (⟨(bx.below b).cell 0, (bx.below b).cell 1⟩ : X.cell? ⟨w.heap.size, 0, none⟩ = some (.int .i64 (e : Int)) ∧ X.cell? ⟨w.heap.size, 1, none⟩ = some (.int .i64 (s : Int))))
  clear hb0 bx
  rename_i KK hKK
  refine Code.wp_mono (Q := Exit.then KK (fun _ _ _ => False)) (fun e a' w' h => by cases e <;> first | exact h | exact h.elim) ?_
  refine wp_region_held_drew (S := (fun X => Below W0.heap.size W0 X)) (by kernel_rfl) ((Below.refl _ _).drew) (fun hHeld => ?_)
  refine tp 0 ?_ rfl (.inl ⟨by rfl, ?_⟩) ?_
  rotate_left
  · intro W hSw; go_simp; try with_reducible rfl
  refine tp 1 ?_ rfl (.inl ⟨by rfl, ?_⟩) ?_
  rotate_left
  · intro W hSw; obtain ⟨z0, z1⟩ := FQ.out W hSw; go_simp; try with_reducible rfl
  refine tp 3 ?_ rfl (.inl ⟨by rfl, ?_⟩) ?_
  rotate_left
  · intro W hSw; go_simp; try with_reducible rfl
  refine tp 4 ?_ rfl (.inl ⟨by rfl, ?_⟩) ?_
  rotate_left
  · intro W hSw; obtain ⟨z0, z1⟩ := FQ.out W hSw; go_simp; try with_reducible rfl
  refine a1 2 rfl (fun K hK => ?_)
  go_simp
  refine (putnumber_own e he _).mono ?_; rintro e9 w3 ⟨a3, c3, rfl, ho3, hl3, hb3⟩; have HA := Lib.hid hl3.ls
  go_wp2_with fail
  refine hK.out _ _ (step_below hHeld hb3) (fun hHeldn => ?_)
  clear hK K hHeld; have hHeld := hHeldn; clear hHeldn
  clear ho3 hl3 hb3
  try simp only [Act.put, List.setIfInBounds_toArray, List.set_cons_zero, List.set_cons_succ]
  refine a1 5 rfl (fun K hK => ?_)
  go_simp
  refine (putnumber_own s hs _).mono ?_; rintro e9 w4 ⟨a4, c4, rfl, ho4, hl4, hb4⟩; have HC := Lib.hid hl4.ls; have HB4 := Lib.hid hb4
  go_wp2_with fail
  refine hK.out _ _ (step_below hHeld hb4) (fun hHeldn => ?_)
  clear hK K hHeld; have hHeld := hHeldn; clear hHeldn
  clear ho4 hl4 hb4
  have hfl : flat [⟨a3, c3, numW e⟩, ⟨a4, c4, numW s⟩] = tidW e s := (by simp [flat, tidW]); have hRR := rdR_new w4 [⟨a3, c3, numW e⟩, ⟨a4, c4, numW s⟩] #[.slice a3 (numW e).length c3, .slice a4 (numW s).length c4] 54 (0, 0) (by simp only [List.map_cons, List.map_nil, P1.v]) (by intro p hp; simp only [List.mem_cons, List.not_mem_nil, or_false] at hp; rcases hp with rfl | rfl; exact (HA.out.below HB4.out); exact HC.out); have hj := join_own (some ⟨w4.heap.size, 0, none⟩) _ 2 2 rfl (by omega) (by rw [hfl]; unfold tidW; rw [List.length_append]; have := numW_ten e (by omega); have := numW_ten s (by omega); omega) _ hRR; rw [hfl] at hj; have HJ := Lib.hid hj; clear hj hRR hfl
  try simp only [Act.put, List.setIfInBounds_toArray, List.set_cons_zero, List.set_cons_succ]
  refine a1 6 rfl (fun K hK => ?_)
  go_simp
  refine hK.out _ _ (hHeld.alloc hHeld.size _) (fun hHeldn => ?_)
  clear hK K hHeld; have hHeld := hHeldn; clear hHeldn
  try simp only [Act.put, List.setIfInBounds_toArray, List.set_cons_zero, List.set_cons_succ]
  refine a1 7 rfl (fun K hK => ?_)
  go_simp
  refine (HJ.out).mono ?_; rintro e9 w5 ⟨a5, c5, rfl, hl5, ho5, hb5⟩; have HO5 := Lib.hid (own_base (b := w.heap.size) (by rw [World.size_alloc]; have := hHeld.size; rw [World.size_alloc] at this; have := HS0.out; omega) ho5)
  go_wp2_with fail
  refine hK.out _ _ (step_below hHeld hb5) (fun hHeldn => ?_)
  clear hK K hHeld; have hHeld := hHeldn; clear hHeldn
  clear ho5 hl5 hb5
  try simp only [Act.put, List.setIfInBounds_toArray, List.set_cons_zero, List.set_cons_succ]
  refine tp 8 ?_ rfl (.inl ⟨by rfl, ?_⟩) ?_
  rotate_left
  · intro W hSw; go_simp; try with_reducible rfl
  refine wpAnyH_done (by kernel_rfl) ?_ _
  skip
  refine hKK _ _ ?_
  have HBN := Lib.hid (step_below HB0.out hHeld)
  clear hKK hHeld FQ
  go_wp2_with fail
  go_ret
  exact OwnB.mk HO5.out rfl HBN.out
end Go.Proofs.YtglkndoghnblcaaGreatDoor
namespace Go.Proofs.YtglkndoghnblcaaGreatDoor
open Go.ChangeShapes Go.WideShapes Go.ChangeAt Go.RowKit
set_option linter.unusedVariables false
set_option linter.unusedSimpArgs false
theorem own_below {w w' : World} {base n size : Nat} {e : TypeId} {v : Value} {xs : List Value} (h : w.ownsRow base e size v n xs) (b : Below w.heap.size w w') : w'.ownsRow base e size v n xs :=
  h.kept (grown_of_below b) (by cases hv : v.ownBlock with | none => exact Or.inl rfl | some b => exact Or.inr (fun e => by cases e))
/-- A write, as it lies. -/
structure WtP where
  tab : Int
  ka : Option Addr
  kc : Nat
  key : List Int
  ra : Option Addr
  rc : Nat
  R : List P1
def WtP.v (x : WtP) : Value := .agg #[.int .i64 x.tab, .slice x.ka x.key.length x.kc, .slice x.ra x.R.length x.rc]
structure WtOk (W : World) (x : WtP) : Prop where
  ls : Ls .u8 W x.ka x.kc x.key
  row : RdR W x.ra x.R
  kb : Byt x.key
  rb : ∀ p ∈ x.R, Byt p.bs
theorem WtOk.below {W W' : World} {x : WtP} (h : WtOk W x) (b : Below W.heap.size W W') : WtOk W' x := ⟨h.ls.below b, h.row.below b, h.kb, h.rb⟩
/-- Writes in a row. -/
def WtsR (W : World) (a : Option Addr) (xs : List WtP) : Prop := ∀ (k : Nat) (x : WtP), xs[k]? = some x → ∃ b off, a = some ⟨b, off, none⟩ ∧ W.cell? ⟨b, off + k * 3, none⟩ = some (.int .i64 x.tab) ∧ W.cell? ⟨b, off + k * 3 + 1, none⟩ = some (.slice x.ka x.key.length x.kc) ∧ W.cell? ⟨b, off + k * 3 + 2, none⟩ = some (.slice x.ra x.R.length x.rc) ∧ WtOk W x
theorem WtsR.below {W W' : World} {a : Option Addr} {xs : List WtP} (h : WtsR W a xs) (hb : Below W.heap.size W W') : WtsR W' a xs := fun k x hx => by
  obtain ⟨b, off, e, c0, c1, c2, ok⟩ := h k x hx
  exact ⟨b, off, e, (hb.cell (cell_lt c0)).trans c0, (hb.cell (cell_lt c1)).trans c1, (hb.cell (cell_lt c2)).trans c2, ok.below hb⟩
/-- Its form. -/
def wtW (x : WtP) : List Int := (numW x.tab.toNat ++ (bytesW x.key ++ [if decide (0 < x.R.length) then 1 else 0])) ++ (if 0 < x.R.length then bytesW (putL bsW x.R) else [])
set_option maxRecDepth 100000 in
set_option maxHeartbeats 4000000 in
/-- putWrite (56). -/
theorem putwrite_own (x : WtP) (t : Nat) (ht : x.tab = (t : Int)) (ht2 : t ≤ 1000000) (hkl : x.key.length ≤ 32) (hm : x.R.length = 0 ∨ mayR x.R = true) (hpl : (putL bsW x.R).length ≤ 1000) (w : World) (hok : WtOk w x) :
    Calls Tryz.prog 52 #[x.v] w (OwnB w (wtW x)) := by
  have HK := Lib.hid (And.intro hok.ls hok.row)
  have HM := Lib.hid hm
  have HT := Lib.hid ht
  have HPL := Lib.hid hpl
  obtain ⟨b, hb⟩ : ∃ b, decide (0 < x.R.length) = b := ⟨_, rfl⟩
  have HBB := Lib.hid hb
  obtain ⟨rl, hrl⟩ : ∃ rl, x.R.length = rl := ⟨_, rfl⟩
  have HRL := Lib.hid hrl
  obtain ⟨kl, hklx⟩ : ∃ kl, x.key.length = kl := ⟨_, rfl⟩
  have HKL := Lib.hid hklx
  unfold WtP.v
  rw [ht]
  rw [hrl] at hb
  have hb2 : decide ((0 : Int) < (rl : Int)) = b := by rw [← hb]; simp
  rw [hrl]
  clear hok hm ht hrl hklx hpl
  go_enter Tryz.func52, Tryz.ntmps52
  go_wp2_with fail
  obtain ⟨W0, hW0⟩ : ∃ W0, w.alloc (.cells #[.int .i64 (t : Int), .slice x.ka x.key.length x.kc, .slice x.ra rl x.rc] 86) = W0 := ⟨_, rfl⟩
  have hb0 : Below w.heap.size w W0 := by rw [← hW0]; exact bl1 _ _
  have bx : BoxC W0 w.heap.size #[.int .i64 (t : Int), .slice x.ka x.key.length x.kc, .slice x.ra rl x.rc] 86 := by rw [← hW0]; exact BoxC.new w _ 86
  rw [hW0]
  clear hW0
  have hFb : wtW x = (numW t ++ (bytesW x.key ++ [if b = true then 1 else 0])) ++ (if b = true then bytesW (putL bsW x.R) else []) := by
    unfold wtW
    rw [HT.out, HBB.out, Int.toNat_natCast]
    congr 1
    rw [← HBB.out]
    by_cases h0 : 0 < x.R.length
    · rw [if_pos h0, decide_eq_true h0]; rfl
    · rw [if_neg h0, decide_eq_false h0]; rfl
  have HFB := Lib.hid hFb
  obtain ⟨F, hF⟩ : ∃ F, numW t ++ (bytesW x.key ++ [if b = true then 1 else 0]) = F := ⟨_, rfl⟩
  have hFl : F.length ≤ 1000 := by
    rw [← hF, List.length_append, List.length_append]
    have := numW_ten t (by omega)
    have := bytesW_len x.key (by omega)
    simp
    omega
  rw [hF] at HFB
  have HFF := Lib.hid hF
  obtain ⟨fl, hfl⟩ : ∃ fl, F.length = fl := ⟨_, rfl⟩
  have HFL := Lib.hid hfl
  rw [hfl] at hFl
  clear hFb hF hfl
  have HB0 := Lib.hid hb0
  have HS0 := Lib.hid hb0.size
  have FQ := Lib.hid (fun X (b : Below W0.heap.size W0 X) => (⟨(bx.below b).cell 0, (bx.below b).cell 1, (bx.below b).cell 2⟩ : X.cell? ⟨w.heap.size, 0, none⟩ = some (.int .i64 (t : Int)) ∧ X.cell? ⟨w.heap.size, 1, none⟩ = some (.slice x.ka x.key.length x.kc) ∧ X.cell? ⟨w.heap.size, 2, none⟩ = some (.slice x.ra rl x.rc)))
  clear hb0 bx
  rename_i KK hKK
  refine Code.wp_mono (Q := Exit.then KK (fun _ _ _ => False)) (fun e a' w' h => by cases e <;> first | exact h | exact h.elim) ?_
  refine wp_region_held_drew (S := (fun X => Below W0.heap.size W0 X)) (by kernel_rfl) ((Below.refl _ _).drew) (fun hHeld => ?_)
  refine tp 0 ?_ rfl (.inl ⟨by rfl, ?_⟩) ?_
  rotate_left
  · intro W hSw; go_simp; try with_reducible rfl
  refine tp 1 ?_ rfl (.inl ⟨by rfl, ?_⟩) ?_
  rotate_left
  · intro W hSw; obtain ⟨z0, z1, z2⟩ := FQ.out W hSw; go_simp; try with_reducible rfl
  refine tp 3 ?_ rfl (.inl ⟨by rfl, ?_⟩) ?_
  rotate_left
  · intro W hSw; go_simp; try with_reducible rfl
  refine tp 4 ?_ rfl (.inl ⟨by rfl, ?_⟩) ?_
  rotate_left
  · intro W hSw; obtain ⟨z0, z1, z2⟩ := FQ.out W hSw; go_simp; try with_reducible rfl
  refine tp 6 ?_ rfl (.inl ⟨by rfl, ?_⟩) ?_
  rotate_left
  · intro W hSw; go_simp; try with_reducible rfl
  refine tp 7 ?_ rfl (.inl ⟨by rfl, ?_⟩) ?_
  rotate_left
  · intro W hSw; obtain ⟨z0, z1, z2⟩ := FQ.out W hSw; go_simp; try with_reducible rfl
  refine tp 8 ?_ rfl (.inl ⟨by rfl, ?_⟩) ?_
  rotate_left
  · intro W hSw; go_simp; try with_reducible rfl
  refine tp 9 ?_ rfl (.inl ⟨by rfl, ?_⟩) ?_
  rotate_left
  · intro W hSw; go_simp; try with_reducible rfl
  refine a1 2 rfl (fun K hK => ?_)
  go_simp
  refine (putnumber_own t (by omega) _).mono ?_; rintro e9 w3 ⟨a3, c3, rfl, ho3, hl3, hb3⟩; have HA := Lib.hid hl3.ls
  go_wp2_with fail
  refine hK.out _ _ (step_below hHeld hb3) (fun hHeldn => ?_)
  clear hK K hHeld; have hHeld := hHeldn; clear hHeldn
  clear ho3 hl3 hb3
  try simp only [Act.put, List.setIfInBounds_toArray, List.set_cons_zero, List.set_cons_succ]
  refine a1 5 rfl (fun K hK => ?_)
  go_simp
  refine (bytes_own x.ka x.key x.key.length x.kc rfl (by omega) _ (HK.out.1.below (step_below HB0.out hHeld))).mono ?_; rintro e9 w4 ⟨a4, c4, rfl, ho4, hl4, hb4⟩; have HC := Lib.hid hl4.ls; have HB4 := Lib.hid hb4
  go_wp2_with fail
  refine hK.out _ _ (step_below hHeld hb4) (fun hHeldn => ?_)
  clear hK K hHeld; have hHeld := hHeldn; clear hHeldn
  clear ho4 hl4 hb4
  try simp only [Act.put, List.setIfInBounds_toArray, List.set_cons_zero, List.set_cons_succ]
  refine a1 10 rfl (fun K hK => ?_)
  go_simp
  refine (flag_own b _).mono ?_; rintro e9 w5 ⟨a5, c5, rfl, ho5, hl5, hb5⟩; have HE := Lib.hid hl5.ls; have HB5 := Lib.hid hb5
  go_wp2_with fail
  refine hK.out _ _ (step_below hHeld hb5) (fun hHeldn => ?_)
  clear hK K hHeld; have hHeld := hHeldn; clear hHeldn
  clear ho5 hl5 hb5
  have hfl : flat [⟨a3, c3, numW t⟩, ⟨a4, c4, bytesW x.key⟩, ⟨a5, c5, [if b then 1 else 0]⟩] = F := (by rw [← HFF.out]; simp [flat]); have hRR := rdR_new w5 [⟨a3, c3, numW t⟩, ⟨a4, c4, bytesW x.key⟩, ⟨a5, c5, [if b then 1 else 0]⟩] #[.slice a3 (numW t).length c3, .slice a4 (bytesW x.key).length c4, .slice a5 [if b then (1 : Int) else 0].length c5] 54 (0, 0) (by simp only [List.map_cons, List.map_nil, P1.v]) (by intro p hp; simp only [List.mem_cons, List.not_mem_nil, or_false] at hp; rcases hp with rfl | rfl | rfl; exact ((HA.out.below HB4.out).below HB5.out); exact (HC.out.below HB5.out); exact HE.out); have hj := join_own (some ⟨w5.heap.size, 0, none⟩) _ 3 3 rfl (by omega) (by rw [hfl, HFL.out]; omega) _ hRR; rw [hfl, HFL.out] at hj; have HJ := Lib.hid hj; clear hj hRR hfl
  try simp only [Act.put, List.setIfInBounds_toArray, List.set_cons_zero, List.set_cons_succ]
  refine a1 11 rfl (fun K hK => ?_)
  go_simp
  refine hK.out _ _ (hHeld.alloc hHeld.size _) (fun hHeldn => ?_)
  clear hK K hHeld; have hHeld := hHeldn; clear hHeldn
  try simp only [Act.put, List.setIfInBounds_toArray, List.set_cons_zero, List.set_cons_succ]
  refine a1 12 rfl (fun K hK => ?_)
  go_simp
  refine (HJ.out).mono ?_; rintro e9 w6 ⟨a6, c6, rfl, hl6, ho6, hb6⟩; have HO6 := Lib.hid (own_base (b := w.heap.size) (by rw [World.size_alloc]; have := hHeld.size; rw [World.size_alloc] at this; have := HS0.out; omega) ho6)
  go_wp2_with fail
  refine hK.out _ _ (step_below hHeld hb6) (fun hHeldn => ?_)
  clear hK K hHeld; have hHeld := hHeldn; clear hHeldn
  clear ho6 hl6 hb6
  try simp only [Act.put, List.setIfInBounds_toArray, List.set_cons_zero, List.set_cons_succ]
  refine tp 13 ?_ rfl (.inl ⟨by rfl, ?_⟩) ?_
  rotate_left
  · intro W hSw; go_simp; try with_reducible rfl
  refine wpAnyH_done (by kernel_rfl) ?_ _
  skip
  refine hKK _ _ ?_
  have HBN := Lib.hid (step_below HB0.out hHeld)
  have z2 := (FQ.out _ hHeld).2.2
  clear hKK hHeld FQ HJ HA HC HE HB4 HB5
  cases b with
  | false =>
    have d1 : ¬ (0 : Int) < (rl : Int) := by simpa using hb2
    have HE := Lib.hid (show wtW x = F by rw [HFB.out]; simp)
    clear hb hb2
    go_wp2_with fail
    go_ret
    rw [HE.out]
    exact OwnB.mk HO6.out HFL.out HBN.out
  | true =>
    have d1 : (0 : Int) < (rl : Int) := by simpa using hb2
    have HE := Lib.hid (show wtW x = F ++ bytesW (putL bsW x.R) by rw [HFB.out]; simp)
    have HMR := Lib.hid (show mayR x.R = true from HM.out.resolve_left (by rw [HRL.out]; omega))
    clear hb hb2
    go_wp2_with fail
    refine (putrow81_own x.ra x.R rl x.rc HRL.out HMR.out (by have := HPL.out; omega) _ (HK.out.2.below HBN.out)).mono ?_
    rintro e w7 ⟨a7, c7, rfl, ho7, hl7, hb7⟩
    have hx7 := bytesW_len (putL bsW x.R) (by have := HPL.out; omega)
    have hp7 := HPL.out
    obtain ⟨X, hX⟩ : ∃ X, bytesW (putL bsW x.R) = X := ⟨_, rfl⟩
    rw [hX] at hl7 hx7 HE
    rw [hX]
    obtain ⟨xl, hxl⟩ : ∃ xl, X.length = xl := ⟨_, rfl⟩
    have HXL := Lib.hid hxl
    rw [hxl] at hx7
    rw [hxl]
    have HL7 := Lib.hid hl7.ls
    have HO7 := Lib.hid (own_below HO6.out hb7)
    have HB7 := Lib.hid (step_below HBN.out hb7)
    have hs7 := HB7.out.size
    have hbd : fl + xl ≤ 1048576 := by omega
    clear ho7 hl7 hb7 hX hxl hx7 hp7 HO6
    go_wp2_with (at_builtin; refine append_ls eltB rfl (.tmp 21) (.tmp 24) rfl w.heap.size _ fl (iv .u8 F) rfl HO7.out _ _ xl X HXL.out rfl HL7.out hbd hs7 ?_; intro v2 w8 hown2 hgrow2; rw [← iv_append, ← HE.out] at hown2; have HB8 := Lib.hid (HB7.out.grown hgrow2 hs7 (fun j hj => (HO7.out.lt j hj).1)); have hle : fl + xl = (wtW x).length := (by rw [HE.out, List.length_append, HFL.out, HXL.out]); rw [hle] at hown2; obtain ⟨a', c', hv, hl'⟩ := own_lsb hown2 rfl; subst hv; have HO8 := Lib.hid hown2; clear hown2 hgrow2 hl' hle)
    go_ret
    exact OwnB.mk HO8.out rfl HB8.out
end Go.Proofs.YtglkndoghnblcaaGreatDoor
namespace Go.Proofs.YtglkndoghnblcaaGreatDoor
open Go.ChangeShapes Go.WideShapes Go.ChangeAt Go.RowKit
set_option linter.unusedVariables false
set_option linter.unusedSimpArgs false
set_option maxRecDepth 100000 in
theorem hnf111 (f : Fn) (c1 c2 : Array Value) (w : World) : (binOp .eql 103 (.func f c1 c2) .nilFunc).run Tryz.prog w = .ok (.bool false) w := by
  first | rfl | simp [binOp, run_underlying Tryz.underlying103] | simp [binOp, Op.equal, run_underlying Tryz.underlying103, go_sem]

set_option maxRecDepth 100000 in
set_option maxHeartbeats 4000000 in
/-- Put of writes (55). -/
theorem putwrites_own (a : Option Addr) (R : List WtP) (n cap : Nat) (hn : R.length = n) (hn2 : n ≤ 1000000) (ht : (putL wtW R).length ≤ 1048576) (w : World) (hR : WtsR w a R)
    (hF : ∀ (k : Nat) (x : WtP), R[k]? = some x → ∀ W, Below w.heap.size w W → Calls Tryz.prog 52 #[.agg #[.int .i64 x.tab, .slice x.ka x.key.length x.kc, .slice x.ra x.R.length x.rc]] W (OwnB W (wtW x))) :
    Calls Tryz.prog 51 #[.slice a n cap, .func (.func 52) #[] #[]] w fun e w' => ∃ a' c', e = .returned (.tuple #[.slice a' (putL wtW R).length c', .int .i64 0]) ∧ w'.ownsRow w.heap.size 5 1 (.slice a' (putL wtW R).length c') (putL wtW R).length (iv .u8 (putL wtW R)) ∧ Lsb w.heap.size w' a' c' (putL wtW R) ∧ Below w.heap.size w w' := by
  have HR := Lib.hid hR
  have HN := Lib.hid hn
  have HF := Lib.hid hF
  have HT := Lib.hid (show (numW n).length + (R.map wtW).flatten.length ≤ 1048576 by rw [← hn, ← putL_len]; exact ht)
  have hw : IntKind.u64.wrap (n : Int) = (n : Int) := by rw [IntKind.wrap_u64]; omega
  have hnf := fun W => hnf111 (.func 52) #[] #[] W
  clear hR hF ht hn
  go_enter Tryz.func51, Tryz.ntmps51
  go_wp2_with fail
  refine (number_own n (by omega) _).mono ?_
  rintro e w1 ⟨a1, c1, rfl, ho, hl, hb⟩
  have HO1 := Lib.hid ho
  have HB1 := Lib.hid hb
  clear ho hl hb hnf
  obtain ⟨q, hq⟩ : ∃ q, (numW n).length = q := ⟨_, rfl⟩
  have HQ := Lib.hid hq
  rw [hq] at HO1 HT ⊢
  clear hq
  go_wp2_with fail
  go_loopw [6, 8, 17] (fun v x i wr => ∃ k : Nat, k ≤ n ∧ i = .int .i64 (k : Int) ∧ wr.ownsRow w.heap.size 5 1 v (q + ((R.take k).map wtW).flatten.length) (iv .u8 (numW n ++ ((R.take k).map wtW).flatten)) ∧ Below w.heap.size w wr) (fun _ _ i _ => n - (intOf i).toNat)
  case atStart => exact ⟨0, by omega, rfl, by simpa using HO1.out, HB1.out⟩
  case round =>
    clear HO1 HB1
    obtain ⟨k, hk, rfl, hown, B⟩ := hrel
    have HO := Lib.hid hown
    have HB := Lib.hid B
    have hs1 := B.size
    clear hown
    by_cases hlt : k < n
    · have hkl : (k : Int) < (n : Int) := by omega
      obtain ⟨x, hx⟩ : ∃ x, R[k]? = some x := ⟨_, List.getElem?_eq_getElem (by rw [HN.out]; exact hlt)⟩
      obtain ⟨b1, o1, e1, cc0, cc1, cc2, ok⟩ := HR.out.below B k x hx
      subst e1
      clear ok
      have HC := Lib.hid (fun W b => HF.out k x hx W b)
      have HS := Lib.hid (flat_take wtW R k x hx)
      have HLE := Lib.hid (show ((R.take k).map wtW).flatten.length + (wtW x).length ≤ (R.map wtW).flatten.length by rw [← List.length_append, ← flat_take wtW R k x hx]; exact flat_le wtW R (k + 1))
      obtain ⟨F, hF⟩ : ∃ F, ((R.take k).map wtW).flatten = F := ⟨_, rfl⟩
      obtain ⟨X, hX⟩ : ∃ X, wtW x = X := ⟨_, rfl⟩
      rw [hF] at HO HS HLE
      have HXX := Lib.hid hX
      rw [hX] at HS HLE
      obtain ⟨fl, hfl⟩ : ∃ fl, F.length = fl := ⟨_, rfl⟩
      obtain ⟨xl, hxl⟩ : ∃ xl, X.length = xl := ⟨_, rfl⟩
      have HXL := Lib.hid (And.intro hfl hxl)
      rw [hfl] at HO HLE
      rw [hxl] at HLE
      have hsum : q + fl + xl ≤ 1048576 := by have := HT.out; have := HLE.out; omega
      clear hx hF hX hfl hxl B
      go_wp2_with fail
      refine (HC.out _ (HB.out.alloc hs1 _)).mono ?_
      rintro e w2 ⟨a2, c2, rfl, ho2, hl2, hb2⟩
      rw [HXX.out] at hl2 ⊢
      have HL2 := Lib.hid hl2.ls
      have HO2 := Lib.hid (show w2.ownsRow w.heap.size 5 1 _ _ _ from own_below (HO.out.alloc _) hb2)
      have HB2 := Lib.hid (step_below (HB.out.alloc hs1 _) hb2)
      have hs2 := HB2.out.size
      rw [HXL.out.2]
      clear ho2 hl2 hb2 HO
      go_wp2_with (at_builtin; refine append_ls eltB rfl (.tmp 21) (.tmp 24) rfl w.heap.size _ (q + fl) (iv .u8 (numW n ++ F)) rfl HO2.out _ _ xl X HXL.out.2 rfl HL2.out hsum hs2 ?_; intro v2 w3 hown2 hgrow2; rw [← iv_append, List.append_assoc] at hown2; have HO3 := Lib.hid hown2; have HB3 := Lib.hid (HB2.out.grown hgrow2 hs2 (fun j hj => (HO2.out.lt j hj).1)); clear hown2 hgrow2)
      go_roundw
      case rel => exact ⟨k + 1, by omega, by go_num, by rw [HS.out, List.length_append, HXL.out.1, HXL.out.2, ← Nat.add_assoc]; exact HO3.out, HB3.out⟩
      case measure => simp [intOf]; omega
    · have hkl : ¬ (k : Int) < (n : Int) := by omega
      obtain rfl : k = n := by omega
      have hPL : numW k ++ ((R.take k).map wtW).flatten = putL wtW R := by
        unfold putL
        rw [HN.out, List.take_of_length_le (by rw [HN.out]; exact Nat.le_refl _)]
      have hLL : q + ((R.take k).map wtW).flatten.length = (putL wtW R).length := by rw [← hPL, List.length_append, HQ.out]
      have HO4 := HO.out
      rw [hPL, hLL] at HO4
      obtain ⟨a', c', hv, hl'⟩ := own_lsb HO4 rfl
      subst hv
      have HX := Lib.hid (And.intro HO4 hl')
      clear hPL hLL HO4 hl' HO B
      obtain ⟨pl, hpl⟩ : ∃ pl, (putL wtW R).length = pl := ⟨_, rfl⟩
      rw [hpl]
      have HPL := Lib.hid hpl
      clear hpl
      go_wp2_with fail
      go_ret2
      exact ⟨a', c', by rw [HPL.out]; rfl, HX.out.1, HX.out.2, HB.out⟩
end Go.Proofs.YtglkndoghnblcaaGreatDoor
namespace Go.Proofs.YtglkndoghnblcaaGreatDoor
open Go.ChangeShapes Go.WideShapes Go.ChangeAt Go.RowKit
set_option linter.unusedVariables false
set_option linter.unusedSimpArgs false
/-- Two lists of bytes compared. -/
def cmpI : List Int → List Int → Int
  | [], [] => 0
  | [], _ :: _ => -1
  | _ :: _, [] => 1
  | a :: r, b :: s => if a < b then -1 else if b < a then 1 else cmpI r s
theorem u8_lt {x y : Int} (hx : 0 ≤ x ∧ x ≤ 255) (hy : 0 ≤ y ∧ y ≤ 255) : UInt8.ofNat x.toNat < UInt8.ofNat y.toNat ↔ x < y := by
  rw [UInt8.lt_iff_toNat_lt, UInt8.toNat_ofNat', UInt8.toNat_ofNat']
  omega
theorem cmp_bytes : ∀ {a b : List Int}, Byt a → Byt b → Lib.compareBytes (Lib.bytesOf a) (Lib.bytesOf b) = cmpI a b
  | [], [], _, _ => rfl
  | [], _ :: _, _, _ => rfl
  | _ :: _, [], _, _ => rfl
  | x :: r, y :: s, ha, hb => by
    have hx := ha x (by simp)
    have hy := hb y (by simp)
    have ih := cmp_bytes (a := r) (b := s) (fun z hz => ha z (by simp [hz])) (fun z hz => hb z (by simp [hz]))
    show (if UInt8.ofNat x.toNat < UInt8.ofNat y.toNat then (-1 : Int) else if UInt8.ofNat y.toNat < UInt8.ofNat x.toNat then 1 else Lib.compareBytes (Lib.bytesOf r) (Lib.bytesOf s)) = if x < y then -1 else if y < x then 1 else cmpI r s
    rw [ih]
    by_cases h1 : x < y
    · rw [if_pos ((u8_lt hx hy).2 h1), if_pos h1]
    · rw [if_neg (fun h => h1 ((u8_lt hx hy).1 h)), if_neg h1]
      by_cases h2 : y < x
      · rw [if_pos ((u8_lt hy hx).2 h2), if_pos h2]
      · rw [if_neg (fun h => h2 ((u8_lt hy hx).1 h)), if_neg h2]
def inB (x lo hi : Int) : Bool := decide (lo ≤ x ∧ x ≤ hi)
/-- within (64). -/
theorem within_law (x lo hi : Int) (w : World) : Calls Tryz.prog 35 #[.int .i64 x, .int .i64 lo, .int .i64 hi] w fun e w' => e = .returned (.bool (inB x lo hi)) ∧ w = w' := by
  unfold inB
  by_cases h1 : lo ≤ x
  · by_cases h2 : x ≤ hi
    · rw [decide_eq_true ⟨h1, h2⟩]
      go_enter Tryz.func35, Tryz.ntmps35
      go_wp2
      go_ret
      exact ⟨rfl, rfl⟩
    · rw [decide_eq_false (fun h => h2 h.2)]
      go_enter Tryz.func35, Tryz.ntmps35
      go_wp2
      go_ret
      exact ⟨rfl, rfl⟩
  · rw [decide_eq_false (fun h => h1 h.1)]
    go_enter Tryz.func35, Tryz.ntmps35
    go_wp2
    go_ret
    exact ⟨rfl, rfl⟩
def tidB (e s : Int) : Bool := inB e 1 16777215 && inB s 1 2147483647
/-- mayTID (63). -/
theorem maytid_law (e s : Int) (w : World) : Calls Tryz.prog 94 #[.agg #[.int .i64 e, .int .i64 s]] w fun r w' => r = .returned (.bool (tidB e s)) ∧ Below w.heap.size w w' := by
  unfold tidB
  have H1 := Lib.hid (fun W => within_law e 1 16777215 W)
  have H2 := Lib.hid (fun W => within_law s 1 2147483647 W)
  obtain ⟨b1, hb1⟩ : ∃ b, inB e 1 16777215 = b := ⟨_, rfl⟩
  obtain ⟨b2, hb2⟩ : ∃ b, inB s 1 2147483647 = b := ⟨_, rfl⟩
  rw [hb1] at H1 ⊢
  rw [hb2] at H2 ⊢
  clear hb1 hb2
  cases b1 with
  | true =>
    go_enter Tryz.func94, Tryz.ntmps94
    go_wp2_with fail
    refine (H1.out _).mono ?_; rintro r w' ⟨rfl, rfl⟩
    go_wp2_with fail
    refine (H2.out _).mono ?_; rintro r w' ⟨rfl, rfl⟩
    go_wp2_with fail
    go_ret
    exact ⟨by simp, (Below.refl _ _).alloc (Nat.le_refl _) _⟩
  | false =>
    go_enter Tryz.func94, Tryz.ntmps94
    go_wp2_with fail
    refine (H1.out _).mono ?_; rintro r w' ⟨rfl, rfl⟩
    go_wp2_with fail
    go_ret
    exact ⟨by simp, (Below.refl _ _).alloc (Nat.le_refl _) _⟩
def cmpN (x y : Int) : Int := if x < y then -1 else if y < x then 1 else 0
theorem isnan_law (x : Int) (w : World) : Calls Tryz.prog 134 #[.int .i64 x] w fun e w' => e = .returned (.bool false) ∧ w = w' := by
  have h : (x != x) = false := by simp
  go_enter Tryz.func134, Tryz.ntmps134
  go_wp2
  go_ret
  exact ⟨rfl, rfl⟩
/-- cmp.Compare at int (66). -/
theorem compare_law (x y : Int) (w : World) : Calls Tryz.prog 96 #[.int .i64 x, .int .i64 y] w fun e w' => e = .returned (.int .i64 (cmpN x y)) ∧ w = w' := by
  unfold cmpN
  rcases (show x < y ∨ (¬ x < y ∧ y < x) ∨ (¬ x < y ∧ ¬ y < x) by omega) with h | ⟨h1, h2⟩ | ⟨h1, h2⟩
  · rw [if_pos h]
    go_enter Tryz.func96, Tryz.ntmps96
    go_wp2_with fail
    refine (isnan_law x _).mono ?_; rintro e w' ⟨rfl, rfl⟩
    go_wp2_with fail
    refine (isnan_law y _).mono ?_; rintro e w' ⟨rfl, rfl⟩
    go_wp2_with fail
    go_ret
    exact ⟨rfl, rfl⟩
  · rw [if_neg h1, if_pos h2]
    go_enter Tryz.func96, Tryz.ntmps96
    go_wp2_with fail
    refine (isnan_law x _).mono ?_; rintro e w' ⟨rfl, rfl⟩
    go_wp2_with fail
    refine (isnan_law y _).mono ?_; rintro e w' ⟨rfl, rfl⟩
    go_wp2_with fail
    go_ret
    exact ⟨rfl, rfl⟩
  · rw [if_neg h1, if_neg h2]
    go_enter Tryz.func96, Tryz.ntmps96
    go_wp2_with fail
    refine (isnan_law x _).mono ?_; rintro e w' ⟨rfl, rfl⟩
    go_wp2_with fail
    refine (isnan_law y _).mono ?_; rintro e w' ⟨rfl, rfl⟩
    go_wp2_with fail
    go_ret
    exact ⟨rfl, rfl⟩
theorem load_ls (w : World) (a : Option Addr) (n cap : Nat) (L : List Int) (hn : L.length = n) (hL : Rd .u8 w a L) : (Extern.Bytes.bytesOf (.slice a n cap)).run Tryz.prog w = .ok ⟨(Lib.bytesOf L).toArray⟩ w := by
  subst hn
  cases a with
  | none =>
    have h0 : L = [] := by
      cases L with
      | nil => rfl
      | cons x r => obtain ⟨b, off, e, _⟩ := hL 0 (by simp); cases e
    subst h0
    rfl
  | some a =>
    have := Lib.run_loadBytesX (P := Tryz.prog) (w := w) L a .empty (fun j x hj => by
      obtain ⟨hlt, rfl⟩ := List.getElem?_eq_some_iff.1 hj
      obtain ⟨b, off, e, hc⟩ := hL j hlt
      cases e
      rw [addr_add]
      rw [hc]; simp [List.getD, List.getElem?_eq_getElem hlt])
    simpa [Extern.Bytes.bytesOf] using this
/-- bytealg.Compare (128). -/
theorem alg_run (w : World) (a b : Option Addr) (n m ca cb : Nat) (L M : List Int) (hn : L.length = n) (hm : M.length = m) (hL : Rd .u8 w a L) (hM : Rd .u8 w b M) (hb : Byt L) (hc : Byt M) :
    (callFunc 135 #[.slice a n ca, .slice b m cb]).run Tryz.prog w = .ok (.value (.int .i64 (cmpI L M))) w := by
  rw [run_callFunc_extern Tryz.func135 (by kernel_rfl) (by kernel_rfl) (by kernel_rfl) (e := Extern.BytealgCompare.compare) (by kernel_rfl)]
  have h : (Extern.BytealgCompare.compare #[.slice a n ca, .slice b m cb]).run Tryz.prog w = .ok (.int .i64 (cmpI L M)) w := by
    change Sem.run Tryz.prog (do pure (goInt (Extern.BytealgCompare.cmp (← Extern.Bytes.bytesOf (.slice a n ca)) (← Extern.Bytes.bytesOf (.slice b m cb))))) w = _
    rw [Sem.run_bind, load_ls w a n ca L hn hL]
    simp only [Result.andThen]
    rw [Sem.run_bind, load_ls w b m cb M hm hM]
    simp only [Result.andThen, Sem.run_pure, Lib.cmp_eq]
    rw [cmp_bytes hb hc]
    rfl
  rw [h]
  rfl
/-- bytes.Compare (67). -/
theorem bcompare_law (w : World) (a b : Option Addr) (n m ca cb : Nat) (L M : List Int) (hn : L.length = n) (hm : M.length = m) (hL : Rd .u8 w a L) (hM : Rd .u8 w b M) (hb : Byt L) (hc : Byt M) :
    Calls Tryz.prog 97 #[.slice a n ca, .slice b m cb] w fun e w' => e = .returned (.int .i64 (cmpI L M)) ∧ w = w' := by
  have h := alg_run w a b n m ca cb L M hn hm hL hM hb hc
  clear hn hm hL hM hb hc
  go_enter Tryz.func97, Tryz.ntmps97
  go_wp2
  go_ret
  exact ⟨rfl, rfl⟩
end Go.Proofs.YtglkndoghnblcaaGreatDoor
namespace Go.Proofs.YtglkndoghnblcaaGreatDoor
open Go.ChangeShapes Go.WideShapes Go.ChangeAt Go.RowKit
set_option linter.unusedVariables false
set_option linter.unusedSimpArgs false
def orV (x y : Int) : Int := if x = 0 then y else x
set_option maxRecDepth 100000 in
set_option maxHeartbeats 4000000 in
/-- cmp.Or of two numbers (65). -/
theorem or_law (B : Nat) (x y : Int) (w : World) (hx : w.cell? ⟨B, 0, none⟩ = some (.int .i64 x)) (hy : w.cell? ⟨B, 1, none⟩ = some (.int .i64 y)) :
    Calls Tryz.prog 38 #[.slice (some ⟨B, 0, none⟩) 2 2] w fun e w' => e = .returned (.int .i64 (orV x y)) ∧ w = w' := by
  unfold orV
  by_cases h0 : x = 0
  · subst h0
    rw [if_pos rfl]
    go_enter Tryz.func38, Tryz.ntmps38
    go_wp2_with fail
    go_loopw [5, 8] (fun c i wr => ∃ k : Nat, k ≤ 2 ∧ i = .int .i64 (k : Int) ∧ w = wr ∧ (k = 2 → y = 0)) (fun _ i _ => 2 - (intOf i).toNat)
    case atStart => exact ⟨0, by omega, rfl, rfl, fun h => by omega⟩
    case round =>
      obtain ⟨k, hk, rfl, rfl, hz⟩ := hrel
      rcases (show k = 0 ∨ k = 1 ∨ k = 2 by omega) with rfl | rfl | rfl
      · clear hz
        go_wp2_with fail
        go_roundw
        case rel => exact ⟨1, by omega, by first | rfl | trivial | go_num, by first | rfl | trivial, fun h => by omega⟩
        case measure => simp [intOf]
      · clear hz
        by_cases hy0 : y = 0
        · subst hy0
          go_wp2_with fail
          go_roundw
          case rel => exact ⟨2, by omega, by first | rfl | trivial | go_num, by first | rfl | trivial, by simp⟩
          case measure => simp [intOf]
        · go_wp2_with fail
          go_ret
          exact ⟨rfl, rfl⟩
      · obtain rfl := hz rfl
        clear hz
        go_wp2_with fail
        go_ret
        exact ⟨rfl, rfl⟩
  · rw [if_neg h0]
    go_enter Tryz.func38, Tryz.ntmps38
    go_wp2_with fail
    go_loopw [5, 8] (fun c i wr => i = .int .i64 0 ∧ w = wr) (fun _ i _ => 0)
    case atStart => exact ⟨rfl, rfl⟩
    case round =>
      obtain ⟨rfl, rfl⟩ := hrel
      go_wp2_with fail
      go_ret
      exact ⟨rfl, rfl⟩
/-- May it be a write? -/
def wtB (x : WtP) : Bool := inB x.tab 0 3 && (mayK x.key.length && (decide (x.R.length = 0) || mayR x.R))
set_option maxRecDepth 100000 in
set_option maxHeartbeats 4000000 in
/-- MayWrite (25). -/
theorem maywrite_law (x : WtP) (hr : x.R.length ≤ 1000000) (w : World) (hok : WtOk w x) :
    Calls Tryz.prog 95 #[.agg #[.int .i64 x.tab, .slice x.ka x.key.length x.kc, .slice x.ra x.R.length x.rc]] w fun e w' => e = .returned (.bool (wtB x)) ∧ Below w.heap.size w w' := by
  have HOK := Lib.hid hok
  unfold wtB
  obtain ⟨t, ht⟩ : ∃ t, x.tab = t := ⟨_, rfl⟩
  obtain ⟨kl, hkl⟩ : ∃ kl, x.key.length = kl := ⟨_, rfl⟩
  obtain ⟨rl, hrl⟩ : ∃ rl, x.R.length = rl := ⟨_, rfl⟩
  have HRL := Lib.hid hrl
  rw [hrl] at hr
  have HRR := Lib.hid hr
  rw [ht, hkl, hrl]
  have H1 := Lib.hid (fun W => within_law t 0 3 W)
  have H2 := Lib.hid (fun W => maykey_law x.ka kl x.kc W)
  have H3 := Lib.hid (fun W (b : Below w.heap.size w W) => mayr_law x.ra x.R rl x.rc HRL.out HRR.out W (HOK.out.row.below b))
  obtain ⟨b1, hb1⟩ : ∃ b, inB t 0 3 = b := ⟨_, rfl⟩
  obtain ⟨b2, hb2⟩ : ∃ b, mayK kl = b := ⟨_, rfl⟩
  obtain ⟨b3, hb3⟩ : ∃ b, mayR x.R = b := ⟨_, rfl⟩
  rw [hb1] at H1 ⊢
  rw [hb2] at H2 ⊢
  rw [hb3] at H3 ⊢
  clear hb1 hb2 hb3 ht hkl hrl hok hr
  cases b1 with
  | false =>
    go_enter Tryz.func95, Tryz.ntmps95
    go_wp2_with fail
    refine (H1.out _).mono ?_; rintro r w' ⟨rfl, rfl⟩
    go_wp2_with fail
    go_ret
    exact ⟨by simp, (Below.refl _ _).alloc (Nat.le_refl _) _⟩
  | true =>
    cases b2 with
    | false =>
      go_enter Tryz.func95, Tryz.ntmps95
      go_wp2_with fail
      refine (H1.out _).mono ?_; rintro r w' ⟨rfl, rfl⟩
      go_wp2_with fail
      refine (H2.out _).mono ?_; rintro r w' ⟨rfl, rfl⟩
      go_wp2_with fail
      go_ret
      exact ⟨by simp, (Below.refl _ _).alloc (Nat.le_refl _) _⟩
    | true =>
      by_cases h0 : rl = 0
      · have e0 : ((rl : Int) == 0) = true := by simp; omega
        have e1 : (rl == 0) = true := by simp; omega
        rw [decide_eq_true h0]
        go_enter Tryz.func95, Tryz.ntmps95
        go_wp2_with fail
        refine (H1.out _).mono ?_; rintro r w' ⟨rfl, rfl⟩
        go_wp2_with fail
        refine (H2.out _).mono ?_; rintro r w' ⟨rfl, rfl⟩
        go_wp2_with fail
        go_ret
        exact ⟨by simp, (Below.refl _ _).alloc (Nat.le_refl _) _⟩
      · have e0 : ((rl : Int) == 0) = false := by simp; omega
        have e1 : (rl == 0) = false := by simp; omega
        rw [decide_eq_false h0]
        go_enter Tryz.func95, Tryz.ntmps95
        go_wp2_with fail
        refine (H1.out _).mono ?_; rintro r w' ⟨rfl, rfl⟩
        go_wp2_with fail
        refine (H2.out _).mono ?_; rintro r w' ⟨rfl, rfl⟩
        go_wp2_with fail
        refine (H3.out _ (bl1 _ _)).mono ?_; rintro r w2 ⟨rfl, hb⟩
        have HB := Lib.hid (step_below (bl1 w _) hb)
        clear hb
        go_wp2_with fail
        go_ret
        exact ⟨by simp, HB.out⟩
end Go.Proofs.YtglkndoghnblcaaGreatDoor
namespace Go.Proofs.YtglkndoghnblcaaGreatDoor
open Go.ChangeShapes Go.WideShapes Go.ChangeAt Go.RowKit
set_option linter.unusedVariables false
set_option linter.unusedSimpArgs false
/-- May so many first ones be a transaction's? -/
def okK (e s : Int) (xs : List WtP) : Nat → Bool
  | 0 => tidB e s && inB (xs.length : Int) 1 16
  | k + 1 => match xs[k]? with
    | some x => (okK e s xs k && wtB x) && (if k = 0 then true else match xs[k - 1]? with
      | some l => decide (orV (cmpN l.tab x.tab) (cmpI l.key x.key) < 0)
      | none => true)
    | none => okK e s xs k
def txB (e s : Int) (xs : List WtP) : Bool := okK e s xs xs.length
theorem okK_first {e s : Int} {xs : List WtP} {x : WtP} (h : xs[0]? = some x) : okK e s xs 1 = (okK e s xs 0 && wtB x) := by
  show (match xs[0]? with | some x => (okK e s xs 0 && wtB x) && (if (0 : Nat) = 0 then true else _) | none => okK e s xs 0) = _
  rw [h]
  simp
theorem okK_next {e s : Int} {xs : List WtP} {x l : WtP} {k : Nat} (hk : 0 < k) (h : xs[k]? = some x) (hl : xs[k - 1]? = some l) : okK e s xs (k + 1) = ((okK e s xs k && wtB x) && decide (orV (cmpN l.tab x.tab) (cmpI l.key x.key) < 0)) := by
  show (match xs[k]? with | some x => (okK e s xs k && wtB x) && (if k = 0 then true else match xs[k - 1]? with | some l => decide (orV (cmpN l.tab x.tab) (cmpI l.key x.key) < 0) | none => true) | none => okK e s xs k) = _
  rw [h]
  simp only
  rw [if_neg (by omega), hl]
set_option maxRecDepth 100000 in
set_option maxHeartbeats 4000000 in
/-- MayTxn (23). -/
theorem maytxn_law (e s : Int) (a : Option Addr) (xs : List WtP) (n cap : Nat) (hn : xs.length = n) (hn2 : n ≤ 1000000) (hrl : ∀ x ∈ xs, x.R.length ≤ 1000000) (w : World) (hR : WtsR w a xs) :
    Calls Tryz.prog 50 #[.agg #[.int .i64 e, .int .i64 s, .slice a n cap]] w fun r w' => r = .returned (.bool (txB e s xs)) ∧ Below w.heap.size w w' := by
  have HR := Lib.hid hR
  have HN := Lib.hid (And.intro hn hrl)
  have HT := Lib.hid (fun W => maytid_law e s W)
  have HW := Lib.hid (fun W => within_law (n : Int) 1 16 W)
  obtain ⟨b1, hb1⟩ : ∃ b, tidB e s = b := ⟨_, rfl⟩
  obtain ⟨b2, hb2⟩ : ∃ b, inB (n : Int) 1 16 = b := ⟨_, rfl⟩
  have HB12 := Lib.hid (show okK e s xs 0 = (b1 && b2) by show (tidB e s && inB (xs.length : Int) 1 16) = _; rw [hn, hb1, hb2])
  rw [hb1] at HT
  rw [hb2] at HW
  clear hb1 hb2 hn hrl hR
  go_enter Tryz.func50, Tryz.ntmps50
  go_upto_region 1 with (fail)
  obtain ⟨W0, hW0⟩ : ∃ W0, w.alloc (.cells #[.int .i64 e, .int .i64 s, .slice a n cap] 62) = W0 := ⟨_, rfl⟩
  have hb0 : Below w.heap.size w W0 := by rw [← hW0]; exact bl1 _ _
  have bx : BoxC W0 w.heap.size #[.int .i64 e, .int .i64 s, .slice a n cap] 62 := by rw [← hW0]; exact BoxC.new w _ 62
  try rw [hW0]
  clear hW0
  have z0 := bx.cell 0
  have z1 := bx.cell 1
  have z2 := bx.cell 2
  simp only [List.getElem?_toArray, List.getElem?_cons_zero, List.getElem?_cons_succ] at z0 z1 z2
  go_cut [3] (fun v wx => v = .bool (b1 && b2) ∧ Hid (Below W0.heap.size W0 wx))
  case first =>
    cases b1 with
    | true =>
      go_wp2_with fail
      refine (HT.out _).mono ?_; rintro r w1 ⟨rfl, hb1⟩
      have HB1 := Lib.hid hb1
      have z2' := (hb1.cell (cell_lt z2)).trans z2
      clear hb1 z0 z1 z2
      go_wp2_with fail
      refine (HW.out _).mono ?_; rintro r w2 ⟨rfl, rfl⟩
      go_wp2_with fail
      go_meet
      exact ⟨by simp, HB1⟩
    | false =>
      go_wp2_with fail
      refine (HT.out _).mono ?_; rintro r w1 ⟨rfl, hb1⟩
      have HB1 := Lib.hid hb1
      clear hb1 z0 z1 z2
      go_wp2_with fail
      go_meet
      exact ⟨by simp, HB1⟩
  case rest =>
    obtain ⟨rfl, HBC⟩ := hcut
    rw [← HB12.out]
    have HBX := Lib.hid (bx.below HBC.out)
    have HB0 := Lib.hid (step_below hb0 HBC.out)
    have hcn := HBX.out.cell 2
    simp only [List.getElem?_toArray, List.getElem?_cons_zero, List.getElem?_cons_succ] at hcn
    clear z0 z1 z2 hb0 bx HT HW HB12 HBC
    go_wp2_with fail
    go_loopw [3, 4, 5, 6, 19] (fun v i p q j wr => ∃ k : Nat, k ≤ n ∧ v = .bool (okK e s xs k) ∧ j = .int .i64 (k : Int) ∧ Hid (Below wc.heap.size wc wr)) (fun _ _ _ _ j _ => n - (intOf j).toNat)
    case atStart => exact ⟨0, Nat.zero_le _, rfl, rfl, Lib.hid (Below.refl _ _)⟩
    case round =>
      obtain ⟨k, hk, rfl, rfl, HBW⟩ := hrel
      obtain ⟨okv, hokv⟩ : ∃ b, okK e s xs k = b := ⟨_, rfl⟩
      have HOKV := Lib.hid hokv
      rw [hokv]
      clear hokv hcn
      have HWR := Lib.hid (step_below HB0.out HBW.out)
      by_cases hlt : k < n
      · have d1 : (k : Int) < (n : Int) := by omega
        obtain ⟨x, hx⟩ : ∃ x, xs[k]? = some x := ⟨_, List.getElem?_eq_getElem (by rw [HN.out.1]; exact hlt)⟩
        have HX := Lib.hid (And.intro hx (HN.out.2 x (List.mem_of_getElem? hx)))
        obtain ⟨bb, off, rfl, c0, c1, c2, ok⟩ := (HR.out.below HWR.out) k x hx
        have HOK := Lib.hid ok
        clear hx ok
        go_upto_region 5 with (fail)
        obtain ⟨W1, hW1⟩ : ∃ W1, wr.alloc (.cells #[.int .i64 x.tab, .slice x.ka x.key.length x.kc, .slice x.ra x.R.length x.rc] 86) = W1 := ⟨_, rfl⟩
        have hb1 : Below wr.heap.size wr W1 := by rw [← hW1]; exact bl1 _ _
        have bw : BoxC W1 wr.heap.size #[.int .i64 x.tab, .slice x.ka x.key.length x.kc, .slice x.ra x.R.length x.rc] 86 := by rw [← hW1]; exact BoxC.new wr _ 86
        have y0 := bw.cell 0
        have y1 := bw.cell 1
        have y2 := bw.cell 2
        simp only [List.getElem?_toArray, List.getElem?_cons_zero, List.getElem?_cons_succ] at y0 y1 y2
        try rw [hW1]
        clear hW1 c0 c1 c2
        have HB1 := Lib.hid (step_below HBW.out hb1)
        have HWR1 := Lib.hid (step_below HWR.out hb1)
        have HBWX := Lib.hid bw
        have HOK1 := Lib.hid (HOK.out.below hb1)
        clear hb1 bw
        go_cut [3] (fun v wx => v = .bool (okv && wtB x) ∧ Hid (Below W1.heap.size W1 wx))
        case first =>
          cases okv with
          | true =>
            go_wp2_with fail
            refine (maywrite_law x HX.out.2 W1 HOK1.out).mono ?_; rintro r w2 ⟨rfl, hb2⟩
            have HB2 := Lib.hid hb2
            clear hb2 y0 y1 y2
            go_wp2_with fail
            go_meet
            exact ⟨by simp, HB2⟩
          | false =>
            clear y0 y1 y2
            go_wp2_with fail
            go_meet
            exact ⟨by simp, Lib.hid (Below.refl _ _)⟩
        case rest =>
          obtain ⟨rfl, HB5⟩ := hcut
          obtain ⟨okw, hokw⟩ : ∃ b, (okv && wtB x) = b := ⟨_, rfl⟩
          rw [hokw]
          have HOKW := Lib.hid hokw
          have HBC := Lib.hid (step_below HB1.out HB5.out)
          have HWC := Lib.hid (step_below HWR1.out HB5.out)
          have HBWC := Lib.hid (HBWX.out.below HB5.out)
          have HOKC := Lib.hid (HOK1.out.below HB5.out)
          clear y0 y1 y2 HB1 HWR1 HBWX HOK1 HB5 hokw HOK HBW HWR
          by_cases hk0 : k = 0
          · have d0 : ¬ (0 : Int) < (k : Int) := by omega
            have HNX := Lib.hid (show okK e s xs (k + 1) = okw by
              subst hk0
              rw [okK_first HX.out.1, HOKV.out, HOKW.out])
            go_wp2_with fail
            go_roundw
            case rel => exact ⟨k + 1, by omega, by rw [HNX.out], by go_num, HBC⟩
            case measure => simp [intOf]; omega
          · have d0 : (0 : Int) < (k : Int) := by omega
            obtain ⟨l, hl⟩ : ∃ l, xs[k - 1]? = some l := ⟨_, List.getElem?_eq_getElem (by rw [HN.out.1]; omega)⟩
            obtain ⟨bb2, off2, hbo, c0, c1, c2, ok⟩ := (HR.out.below HWC.out) (k - 1) l hl
            have HNX := Lib.hid (show okK e s xs (k + 1) = (okw && decide (orV (cmpN l.tab x.tab) (cmpI l.key x.key) < 0)) by
              rw [okK_next (by omega) HX.out.1 hl, HOKV.out, HOKW.out])
            cases hbo
            have HOL := Lib.hid ok
            have hwk : IntKind.i64.wrap ((k : Int) - 1) = ((k - 1 : Nat) : Int) := by rw [IntKind.wrap_i64] <;> omega
            obtain ⟨k1, hk1⟩ : ∃ k1, k - 1 = k1 := ⟨_, rfl⟩
            rw [hk1] at hwk c0 c1 c2
            have dk1 : (k1 : Int) < (n : Int) := by omega
            have z2 := (HBX.out.below HBC.out).cell 2
            simp only [List.getElem?_toArray, List.getElem?_cons_zero, List.getElem?_cons_succ] at z2
            clear hl ok hk1
            go_wp2_with fail
            rename_i KK hKK hk00
            obtain ⟨W2, hW2⟩ : ∃ W2, wc.alloc (.cells #[.int .i64 l.tab, .slice l.ka l.key.length l.kc, .slice l.ra l.R.length l.rc] 86) = W2 := ⟨_, rfl⟩
            have hb2 : Below wc.heap.size wc W2 := by rw [← hW2]; exact bl1 _ _
            have bl : BoxC W2 wc.heap.size #[.int .i64 l.tab, .slice l.ka l.key.length l.kc, .slice l.ra l.R.length l.rc] 86 := by rw [← hW2]; exact BoxC.new wc _ 86
            have bw2 := HBWC.out.below hb2
            have FQ := Lib.hid (fun X (b : Below W2.heap.size W2 X) => (⟨(bl.below b).cell 0, (bl.below b).cell 1, (bw2.below b).cell 0, (bw2.below b).cell 1⟩ : X.cell? ⟨wc.heap.size, 0, none⟩ = some (.int .i64 l.tab) ∧ X.cell? ⟨wc.heap.size, 1, none⟩ = some (.slice l.ka l.key.length l.kc) ∧ X.cell? ⟨wr.heap.size, 0, none⟩ = some (.int .i64 x.tab) ∧ X.cell? ⟨wr.heap.size, 1, none⟩ = some (.slice x.ka x.key.length x.kc)))
            have HLX := Lib.hid (And.intro (HOL.out.below hb2) (HOKC.out.below hb2))
            have HB2 := Lib.hid (step_below HBC.out hb2)
            try rw [hW2]
            clear hW2 hb2 bl bw2 c0 c1 c2 z2 HOL HOKC HBWC HBC HWC
            cases okw with
            | true =>
              refine Code.wp_mono (Q := Exit.then KK (fun _ _ _ => False)) (fun e a' w' h => by cases e <;> first | exact h | exact h.elim) ?_
              refine wp_region_held_drew (S := (fun X => Below W2.heap.size W2 X)) (by kernel_rfl) ((Below.refl _ _).drew) (fun hHeld => ?_)
              refine tp 0 ?_ rfl (.inl ⟨by rfl, ?_⟩) ?_
              rotate_left
              · intro W hSw; go_simp; try with_reducible rfl
              refine tp 1 ?_ rfl (.inl ⟨by rfl, ?_⟩) ?_
              rotate_left
              · intro W hSw; go_simp; try with_reducible rfl
              refine tp 2 ?_ rfl (.inl ⟨by rfl, ?_⟩) ?_
              rotate_left
              · intro W hSw; go_simp; try with_reducible rfl
              refine tp 3 ?_ rfl (.inl ⟨by rfl, ?_⟩) ?_
              rotate_left
              · intro W hSw; obtain ⟨z0, z1, z2, z3⟩ := FQ.out W hSw; go_simp; try with_reducible rfl
              refine tp 4 ?_ rfl (.inl ⟨by rfl, ?_⟩) ?_
              rotate_left
              · intro W hSw; go_simp; try with_reducible rfl
              refine tp 5 ?_ rfl (.inl ⟨by rfl, ?_⟩) ?_
              rotate_left
              · intro W hSw; obtain ⟨z0, z1, z2, z3⟩ := FQ.out W hSw; go_simp; try with_reducible rfl
              refine tp 7 ?_ rfl (.inl ⟨by rfl, ?_⟩) ?_
              rotate_left
              · intro W hSw; go_simp; try with_reducible rfl
              refine tp 8 ?_ rfl (.inl ⟨by rfl, ?_⟩) ?_
              rotate_left
              · intro W hSw; obtain ⟨z0, z1, z2, z3⟩ := FQ.out W hSw; go_simp; try with_reducible rfl
              refine tp 9 ?_ rfl (.inl ⟨by rfl, ?_⟩) ?_
              rotate_left
              · intro W hSw; go_simp; try with_reducible rfl
              refine tp 10 ?_ rfl (.inl ⟨by rfl, ?_⟩) ?_
              rotate_left
              · intro W hSw; obtain ⟨z0, z1, z2, z3⟩ := FQ.out W hSw; go_simp; try with_reducible rfl
              refine a1 6 rfl (fun K hK => ?_)
              go_simp
              refine (compare_law l.tab x.tab _).mono ?_; rintro e9 w3 ⟨rfl, rfl⟩
              go_wp2_with fail
              refine hK.out _ _ (hHeld) (fun hHeldn => ?_)
              clear hK K hHeld; have hHeld := hHeldn; clear hHeldn
              try simp only [Act.put, List.setIfInBounds_toArray, List.set_cons_zero, List.set_cons_succ]
              refine a1 11 rfl (fun K hK => ?_)
              go_simp
              refine (bcompare_law _ l.ka x.ka l.key.length x.key.length l.kc x.kc l.key x.key rfl rfl ((HLX.out.1.ls.below hHeld).rd) ((HLX.out.2.ls.below hHeld).rd) HLX.out.1.kb HLX.out.2.kb).mono ?_; rintro e9 w4 ⟨rfl, rfl⟩
              go_wp2_with fail
              refine hK.out _ _ (hHeld) (fun hHeldn => ?_)
              clear hK K hHeld; have hHeld := hHeldn; clear hHeldn
              try simp only [Act.put, List.setIfInBounds_toArray, List.set_cons_zero, List.set_cons_succ]
              refine a1 12 rfl (fun K hK => ?_)
              go_simp
              refine hK.out _ _ (hHeld.alloc hHeld.size _) (fun hHeldn => ?_)
              clear hK K hHeld; have hHeld := hHeldn; clear hHeldn
              try simp only [Act.put, List.setIfInBounds_toArray, List.set_cons_zero, List.set_cons_succ]
              refine a1 13 rfl (fun K hK => ?_)
              go_simp
              refine (or_law _ (cmpN l.tab x.tab) (cmpI l.key x.key) _ (by simp [go_sem]) (by simp [go_sem])).mono ?_; rintro e9 w5 ⟨rfl, rfl⟩
              go_wp2_with fail
              refine hK.out _ _ (hHeld) (fun hHeldn => ?_)
              clear hK K hHeld; have hHeld := hHeldn; clear hHeldn
              try simp only [Act.put, List.setIfInBounds_toArray, List.set_cons_zero, List.set_cons_succ]
              refine tp 14 ?_ rfl (.inl ⟨by rfl, ?_⟩) ?_
              rotate_left
              · intro W hSw; go_simp; try with_reducible rfl
              refine tp 15 ?_ rfl (.inl ⟨by rfl, ?_⟩) ?_
              rotate_left
              · intro W hSw; go_simp; try with_reducible rfl
              refine tp 16 ?_ rfl (.inl ⟨by rfl, ?_⟩) ?_
              rotate_left
              · intro W hSw; go_simp; try with_reducible rfl
              refine wpAnyH_done (by kernel_rfl) ?_ _
              skip
              refine hKK _ _ ?_
              have HBN := Lib.hid (step_below HB2.out hHeld)
              clear hKK hHeld FQ
              go_wp2_with fail
              go_roundw
              case rel => exact ⟨k + 1, by omega, by rw [HNX.out]; simp, by go_num, HBN⟩
              case measure => simp [intOf]; omega
            | false =>
              refine Code.wp_mono (Q := Exit.then KK (fun _ _ _ => False)) (fun e a' w' h => by cases e <;> first | exact h | exact h.elim) ?_
              refine wp_region_held_drew (S := (fun X => Below W2.heap.size W2 X)) (by kernel_rfl) ((Below.refl _ _).drew) (fun hHeld => ?_)
              refine tp 0 ?_ rfl (.inl ⟨by rfl, ?_⟩) ?_
              rotate_left
              · intro W hSw; go_simp; try with_reducible rfl
              refine tp 1 ?_ rfl (.inl ⟨by rfl, ?_⟩) ?_
              rotate_left
              · intro W hSw; go_simp; try with_reducible rfl
              refine tn 2 rfl ?_
              refine tn 3 rfl ?_
              refine tn 4 rfl ?_
              refine tn 5 rfl ?_
              refine tn 6 rfl ?_
              refine tn 7 rfl ?_
              refine tn 8 rfl ?_
              refine tn 9 rfl ?_
              refine tn 10 rfl ?_
              refine tn 11 rfl ?_
              refine tn 12 rfl ?_
              refine tn 13 rfl ?_
              refine tn 14 rfl ?_
              refine tp 15 ?_ rfl (.inl ⟨by rfl, ?_⟩) ?_
              rotate_left
              · intro W hSw; go_simp; try with_reducible rfl
              refine tp 16 ?_ rfl (.inl ⟨by rfl, ?_⟩) ?_
              rotate_left
              · intro W hSw; go_simp; try with_reducible rfl
              refine wpAnyH_done (by kernel_rfl) ?_ _
              skip
              refine hKK _ _ ?_
              have HBN := Lib.hid (step_below HB2.out hHeld)
              clear hKK hHeld FQ
              go_wp2_with fail
              go_roundw
              case rel => exact ⟨k + 1, by omega, by rw [HNX.out]; simp, by go_num, HBN⟩
              case measure => simp [intOf]; omega
      · have d1 : ¬ (k : Int) < (n : Int) := by omega
        obtain rfl : k = n := by omega
        have HE := Lib.hid (show txB e s xs = okv by unfold txB; rw [HN.out.1, HOKV.out])
        go_wp2_with fail
        go_ret
        exact ⟨by rw [HE.out]; rfl, HWR.out⟩
end Go.Proofs.YtglkndoghnblcaaGreatDoor
