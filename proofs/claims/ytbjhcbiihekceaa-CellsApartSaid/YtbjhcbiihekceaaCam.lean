/- Arenas: what one is in memory; words. -/
import Derived.Test.YtbjhcbiihekceaaRows
import Derived.WalkKit
import Derived.WalkMore
import Derived.ProofKit
import Derived.Outline
import Derived.WalkLawsBesides
import Derived.WalkSpells
import Derived.Lib.Hide
import Derived.Below
import Derived.WalkSmall
import Derived.BigRegion
import Derived.Laws.Rows
import Derived.Laws.OwnMore
import Derived.Deep.QuietTactic
import Derived.BigQuiet
import Derived.Deep.RegionHeld3
import Derived.StillTailTactics
import Derived.RangeFuncBox
import Derived.Deep.MidRow
import Derived.Deep.WholeRow
import Derived.Maps.Own
import Derived.Maps.OwnOps
import Derived.Maps.OwnSet
import Derived.Maps.RangeWalk
namespace Go.Proofs.Ytbjhcbiihekceaa
open Go.ChangeShapes Go.WideShapes Go.ChangeAt Go.RowKit Go.Maps
set_option linter.unusedVariables false
set_option linter.unusedSimpArgs false

theorem ret_bool {a b : Bool} (h : a = b) : Ending.returned (.bool a) = .returned (.bool b) := by rw [h]
theorem step_below {w a b : World} (h : Below w.heap.size w a) (k : Below a.heap.size a b) : Below w.heap.size w b := h.trans (k.mono h.size)
theorem bl1 (X : World) (o : Obj) : Below X.heap.size X (X.alloc o) := (Below.refl _ _).alloc (Nat.le_refl _) o
/-- A block of cells. -/
def BoxC (W : World) (B : Nat) (cs : Array Value) (t : TypeId) : Prop := W.heap[B]? = some (.cells cs t (0, 0))
theorem BoxC.below {W W' : World} {B : Nat} {cs : Array Value} {t : TypeId} (h : BoxC W B cs t) (hb : Below W.heap.size W W') : BoxC W' B cs t := (hb.block B (Array.getElem?_eq_some_iff.1 h).1).trans h
theorem BoxC.lt {W : World} {B : Nat} {cs : Array Value} {t : TypeId} (h : BoxC W B cs t) : B < W.heap.size := (Array.getElem?_eq_some_iff.1 h).1
theorem BoxC.cell {W : World} {B : Nat} {cs : Array Value} {t : TypeId} (h : BoxC W B cs t) (i : Nat) : W.cell? ⟨B, i, none⟩ = cs[i]? := by simp [World.cell?, show W.heap[B]? = _ from h]
theorem BoxC.frozen {W : World} {B : Nat} {cs : Array Value} {t : TypeId} (h : BoxC W B cs t) (i : Nat) : W.frozen? ⟨B, i, none⟩ = false := by simp [World.frozen?, show W.heap[B]? = _ from h]
theorem BoxC.new (W : World) (cs : Array Value) (t : TypeId) : BoxC (W.alloc (.cells cs t)) W.heap.size cs t := World.alloc_heap_new _ _
theorem BoxC.alloc {W : World} {B : Nat} {cs : Array Value} {t : TypeId} (h : BoxC W B cs t) (o : Obj) : BoxC (W.alloc o) B cs t := h.below (bl1 W o)
theorem BoxC.oth {W : World} {B B' i : Nat} {cs : Array Value} {t : TypeId} {v : Value} (hne : B' ≠ B) (h : BoxC W B cs t) : BoxC (W.setCell ⟨B', i, none⟩ v) B cs t := by
  show (W.heap.modify B' _)[B]? = _
  rw [Array.getElem?_modify, if_neg hne]
  exact h
theorem BoxC.put {W : World} {B : Nat} {t : TypeId} {cs : Array Value} (i : Nat) (v : Value) (h : BoxC W B cs t) : BoxC (W.setCell ⟨B, i, none⟩ v) B (cs.setIfInBounds i v) t := by
  obtain ⟨hlt, hk⟩ := Array.getElem?_eq_some_iff.1 h
  show (W.heap.modify B _)[B]? = _
  rw [Array.getElem?_eq_getElem (by rw [Array.size_modify]; exact hlt), Array.getElem_modify_self, hk]
  simp
/-- A row of n cells: words f, taken g. -/
def cellsA (n : Nat) (f : Nat → Int) (g : Nat → Bool) : Array Value := (Array.range (n * 2)).map fun j => if j % 2 = 0 then .int .u64 (f (j / 2)) else .bool (g (j / 2))
theorem cellsA_word (n : Nat) (f : Nat → Int) (g : Nat → Bool) (i : Nat) (h : i < n) : (cellsA n f g)[i * 2]? = some (.int .u64 (f i)) := by
  have e : (i * 2) / 2 = i := by omega
  simp [cellsA, show i * 2 < n * 2 by omega, e]
theorem cellsA_tak (n : Nat) (f : Nat → Int) (g : Nat → Bool) (i : Nat) (h : i < n) : (cellsA n f g)[i * 2 + 1]? = some (.bool (g i)) := by
  have e : (i * 2 + 1) / 2 = i := by omega
  have e2 : (i * 2 + 1) % 2 = 1 := by omega
  simp [cellsA, show i * 2 + 1 < n * 2 by omega, e, e2]
def upd {α : Type} (f : Nat → α) (i : Nat) (x : α) : Nat → α := fun k => if k = i then x else f k
theorem upd_same {α : Type} (f : Nat → α) (i : Nat) (x : α) : upd f i x i = x := if_pos rfl
theorem upd_oth {α : Type} (f : Nat → α) {i k : Nat} (h : k ≠ i) (x : α) : upd f i x k = f k := if_neg h
theorem cellsA_putw (n : Nat) (f : Nat → Int) (g : Nat → Bool) (i : Nat) (x : Int) : (cellsA n f g).setIfInBounds (i * 2) (.int .u64 x) = cellsA n (upd f i x) g := by
  apply Array.ext
  · simp [cellsA]
  · intro j h1 h2
    have hj : j < n * 2 := by simpa [cellsA] using h2
    rw [Array.getElem_setIfInBounds (by simpa [cellsA] using hj)]
    simp only [cellsA, Array.getElem_map, Array.getElem_range]
    by_cases e : i * 2 = j
    · subst e
      rw [if_pos rfl, if_pos (by omega), show i * 2 / 2 = i by omega, upd_same]
    · rw [if_neg e]
      by_cases e2 : j % 2 = 0
      · rw [if_pos e2, if_pos e2, upd_oth _ (by omega)]
      · rw [if_neg e2, if_neg e2]
theorem cellsA_putt (n : Nat) (f : Nat → Int) (g : Nat → Bool) (i : Nat) (x : Bool) : (cellsA n f g).setIfInBounds (i * 2 + 1) (.bool x) = cellsA n f (upd g i x) := by
  apply Array.ext
  · simp [cellsA]
  · intro j h1 h2
    have hj : j < n * 2 := by simpa [cellsA] using h2
    rw [Array.getElem_setIfInBounds (by simpa [cellsA] using hj)]
    simp only [cellsA, Array.getElem_map, Array.getElem_range]
    by_cases e : i * 2 + 1 = j
    · subst e
      rw [if_pos rfl, if_neg (by omega), show (i * 2 + 1) / 2 = i by omega, upd_same]
    · rw [if_neg e]
      by_cases e2 : j % 2 = 0
      · rw [if_pos e2, if_pos e2]
      · rw [if_neg e2, if_neg e2, upd_oth _ (by omega)]
theorem cellsA_zero (n : Nat) : madeCells #[.int .u64 0, .bool false] (n * 2) = cellsA n (fun _ => 0) (fun _ => false) := by
  unfold madeCells cellsA
  apply Array.map_congr_left
  intro j hj
  by_cases e : j % 2 = 0
  · simp [e]
  · have e1 : j % 2 = 1 := by omega
    simp [e1]
/-- Nothing is changed but the blocks of S, and new ones. -/
structure Off (S : Nat → Prop) (W W' : World) : Prop where
  os : W'.os = W.os
  tape : W'.tape = W.tape
  output : W'.output = W.output
  size : W.heap.size ≤ W'.heap.size
  block : ∀ k, k < W.heap.size → ¬ S k → W'.heap[k]? = W.heap[k]?
theorem Off.of {S : Nat → Prop} {W W' : World} (h : Below W.heap.size W W') : Off S W W' := ⟨h.os, h.tape, h.output, h.size, fun k hk _ => h.block k hk⟩
theorem Off.refl (S : Nat → Prop) (W : World) : Off S W W := Off.of (Below.refl _ _)
theorem Off.trans {S : Nat → Prop} {W W' W'' : World} (h : Off S W W') (k : Off S W' W'') : Off S W W'' :=
  ⟨k.os.trans h.os, k.tape.trans h.tape, k.output.trans h.output, Nat.le_trans h.size k.size, fun i hi hs => (k.block i (Nat.lt_of_lt_of_le hi h.size) hs).trans (h.block i hi hs)⟩
theorem Off.then {S : Nat → Prop} {W W' W'' : World} (h : Off S W W') (k : Below W'.heap.size W' W'') : Off S W W'' := h.trans (Off.of k)
theorem Off.mono {S T : Nat → Prop} {W W' : World} (h : Off S W W') (hs : ∀ k, S k → T k) : Off T W W' := ⟨h.os, h.tape, h.output, h.size, fun k hk hn => h.block k hk fun e => hn (hs k e)⟩
theorem Off.set {S : Nat → Prop} {W W' : World} (h : Off S W W') (p : Addr) (hp : S p.block) (v : Value) : Off S W (W'.setCell p v) := by
  refine h.trans ⟨rfl, rfl, rfl, by simp, fun k hk hn => Below.heap_setCell _ _ _ k fun e => hn (e ▸ hp)⟩
theorem Off.below {S : Nat → Prop} {B : Nat} {w W W' : World} (h : Below B w W) (k : Off S W W') (hB : B ≤ W.heap.size) (hs : ∀ k, S k → B ≤ k) : Below B w W' :=
  ⟨k.os.trans h.os, k.tape.trans h.tape, k.output.trans h.output, Nat.le_trans h.size k.size, fun i hi => (k.block i (Nat.lt_of_lt_of_le hi hB) fun e => by have := hs i e; omega).trans (h.block i hi)⟩
theorem Off.box {S : Nat → Prop} {W W' : World} (h : Off S W W') {B : Nat} {cs : Array Value} {t : TypeId} (hb : BoxC W B cs t) (hn : ¬ S B) : BoxC W' B cs t := (h.block B hb.lt hn).trans hb
theorem Off.map {S : Nat → Prop} {W W' : World} (h : Off S W W') {H : Type} {P : Program} {k : TypeId} {R : Value → Option (DataW H × List MemPlace)} {b n : Nat} {D : DataW H} (hm : W.ownsMap P k R b n D) (hn : ¬ S b) : W'.ownsMap P k R b n D := by
  have hl := hm.lt
  obtain ⟨es, c, hb, r⟩ := hm
  exact ⟨es, c, (h.block b hl hn).trans hb, r⟩
theorem Off.of_map {S : Nat → Prop} {W W' : World} {b : Nat} (h : W.grownBy W' (some b)) (hs : S b) : Off S W W' := ⟨h.os, h.tape, h.output, h.size, fun k hk hn => h.block k hk (fun e => hn (by cases e; exact hs))⟩
theorem info146 : (Try.prog.info? 146).map (fun i => (i.zero, i.size, i.bytes)) = some (some (.agg #[.int .u64 0, .bool false]), 2, 16) := by kernel_rfl
theorem mk_cells (n : Nat) (hn : n ≤ 65536) (w : World) : (Instr.makeSlice 132 (.int .i64 (n : Int)) (.int .i64 (n : Int))).run Try.prog w = .ok (.slice (some ⟨w.heap.size, 0, none⟩) n n) (w.alloc (.cells (cellsA n (fun _ => 0) (fun _ => false)) 146)) := by
  obtain ⟨i0, hi, hz0, hz1, hz2⟩ := info_parts info146
  have hr := run_make (P := Try.prog) w 132 146 i0 _ Try.underlying132 hi hz0 .i64 .i64 n n (by omega) (Int.le_refl _) (by rw [hz2]; omega) (by omega)
  simp only [Int.toNat_natCast] at hr
  rw [hr, hz1, show (Value.agg #[.int .u64 0, .bool false]).cells = #[.int .u64 0, .bool false] from rfl, cellsA_zero]
theorem law62 : Keyed Try.prog 62 := int_keyed Try.underlying62
theorem zero3 (w : World) : (zeroValue 3).run Try.prog w = .ok (.int .i64 0) w := by kernel_rfl
/-- An arena: block p has it, block bc its n cells, block bm its pieces. -/
structure Ar (W : World) (p bc bm n m : Nat) (f : Nat → Int) (g : Nat → Bool) (D : DataW Unit) : Prop where
  box : BoxC W p #[.slice (some ⟨bc, 0, none⟩) n n, .map (some bm)] 135
  row : BoxC W bc (cellsA n f g) 146
  map : W.ownsMap Try.prog 62 (plainElem Try.prog 3) bm m D
  lo : 1024 ≤ n
  hi : n ≤ 65536
theorem Ar.below {W W' : World} {p bc bm n m : Nat} {f : Nat → Int} {g : Nat → Bool} {D : DataW Unit} (h : Ar W p bc bm n m f g D) (b : Below W.heap.size W W') : Ar W' p bc bm n m f g D :=
  ⟨h.box.below b, h.row.below b, (Off.of (S := fun _ => False) b).map h.map (fun h => h), h.lo, h.hi⟩
theorem Ar.off {S : Nat → Prop} {W W' : World} {p bc bm n m : Nat} {f : Nat → Int} {g : Nat → Bool} {D : DataW Unit} (h : Ar W p bc bm n m f g D) (o : Off S W W') (h1 : ¬ S p) (h2 : ¬ S bc) (h3 : ¬ S bm) : Ar W' p bc bm n m f g D :=
  ⟨o.box h.box h1, o.box h.row h2, o.map h.map h3, h.lo, h.hi⟩
theorem Ar.ne1 {W : World} {p bc bm n m : Nat} {f : Nat → Int} {g : Nat → Bool} {D : DataW Unit} (h : Ar W p bc bm n m f g D) : p ≠ bc := fun e => by
  have h1 := h.box
  have h2 := h.row
  subst e
  have := h1.symm.trans h2
  simp at this
theorem Ar.ne2 {W : World} {p bc bm n m : Nat} {f : Nat → Int} {g : Nat → Bool} {D : DataW Unit} (h : Ar W p bc bm n m f g D) : p ≠ bm := fun e => by
  have h1 := h.box
  obtain ⟨es, c, h2, _⟩ := h.map
  subst e
  have := h1.symm.trans h2
  simp at this
theorem Ar.ne3 {W : World} {p bc bm n m : Nat} {f : Nat → Int} {g : Nat → Bool} {D : DataW Unit} (h : Ar W p bc bm n m f g D) : bc ≠ bm := fun e => by
  have h1 := h.row
  obtain ⟨es, c, h2, _⟩ := h.map
  subst e
  have := h1.symm.trans h2
  simp at this
theorem Ar.c0 {W : World} {p bc bm n m : Nat} {f : Nat → Int} {g : Nat → Bool} {D : DataW Unit} (h : Ar W p bc bm n m f g D) : W.cell? ⟨p, 0, none⟩ = some (.slice (some ⟨bc, 0, none⟩) n n) := h.box.cell 0
theorem Ar.c1 {W : World} {p bc bm n m : Nat} {f : Nat → Int} {g : Nat → Bool} {D : DataW Unit} (h : Ar W p bc bm n m f g D) : W.cell? ⟨p, 1, none⟩ = some (.map (some bm)) := h.box.cell 1
theorem Ar.w {W : World} {p bc bm n m : Nat} {f : Nat → Int} {g : Nat → Bool} {D : DataW Unit} (h : Ar W p bc bm n m f g D) {i : Nat} (hi : i < n) : W.cell? ⟨bc, i * 2, none⟩ = some (.int .u64 (f i)) := by rw [h.row.cell, cellsA_word n f g i hi]
theorem Ar.t {W : World} {p bc bm n m : Nat} {f : Nat → Int} {g : Nat → Bool} {D : DataW Unit} (h : Ar W p bc bm n m f g D) {i : Nat} (hi : i < n) : W.cell? ⟨bc, i * 2 + 1, none⟩ = some (.bool (g i)) := by rw [h.row.cell, cellsA_tak n f g i hi]
theorem Ar.setw {W : World} {p bc bm n m : Nat} {f : Nat → Int} {g : Nat → Bool} {D : DataW Unit} (h : Ar W p bc bm n m f g D) (i : Nat) (x : Int) : Ar (W.setCell ⟨bc, i * 2, none⟩ (.int .u64 x)) p bc bm n m (upd f i x) g D :=
  ⟨h.box.oth h.ne1.symm, by have := h.row.put (i * 2) (.int .u64 x); rwa [cellsA_putw] at this, ((Off.refl (fun k => k = bc) W).set ⟨bc, i * 2, none⟩ rfl _).map h.map (fun e => h.ne3 e.symm), h.lo, h.hi⟩
theorem Ar.sett {W : World} {p bc bm n m : Nat} {f : Nat → Int} {g : Nat → Bool} {D : DataW Unit} (h : Ar W p bc bm n m f g D) (i : Nat) (x : Bool) : Ar (W.setCell ⟨bc, i * 2 + 1, none⟩ (.bool x)) p bc bm n m f (upd g i x) D :=
  ⟨h.box.oth h.ne1.symm, by have := h.row.put (i * 2 + 1) (.bool x); rwa [cellsA_putt] at this, ((Off.refl (fun k => k = bc) W).set ⟨bc, i * 2 + 1, none⟩ rfl _).map h.map (fun e => h.ne3 e.symm), h.lo, h.hi⟩
theorem Ar.nz {W : World} {p bc bm n m : Nat} {f : Nat → Int} {g : Nat → Bool} {D : DataW Unit} (h : Ar W p bc bm n m f g D) : ((n : Int) == 0) = false := by have := h.lo; simp; omega
end Go.Proofs.Ytbjhcbiihekceaa
