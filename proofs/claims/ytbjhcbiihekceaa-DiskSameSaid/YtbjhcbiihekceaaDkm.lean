/- Disks: what one is in memory. -/
import Derived.Test.YtbjhcbiihekceaaDka
namespace Go.Proofs.Ytbjhcbiihekceaa
open Go.ChangeShapes Go.WideShapes Go.ChangeAt Go.RowKit Go.Maps
set_option linter.unusedVariables false
set_option linter.unusedSimpArgs false
theorem bl1 (X : World) (o : Obj) : Below X.heap.size X (X.alloc o) := (Below.refl _ _).alloc (Nat.le_refl _) o
/-- A block of cells. -/
def BoxC (W : World) (B : Nat) (cs : Array Value) (t : TypeId) : Prop := W.heap[B]? = some (.cells cs t (0, 0))
theorem BoxC.below {W W' : World} {B : Nat} {cs : Array Value} {t : TypeId} (h : BoxC W B cs t) (hb : Below W.heap.size W W') : BoxC W' B cs t := (hb.block B (Array.getElem?_eq_some_iff.1 h).1).trans h
theorem BoxC.lt {W : World} {B : Nat} {cs : Array Value} {t : TypeId} (h : BoxC W B cs t) : B < W.heap.size := (Array.getElem?_eq_some_iff.1 h).1
theorem BoxC.cell {W : World} {B : Nat} {cs : Array Value} {t : TypeId} (h : BoxC W B cs t) (i : Nat) : W.cell? ⟨B, i, none⟩ = cs[i]? := by simp [World.cell?, show W.heap[B]? = _ from h]
theorem BoxC.frozen {W : World} {B : Nat} {cs : Array Value} {t : TypeId} (h : BoxC W B cs t) (i : Nat) : W.frozen? ⟨B, i, none⟩ = false := by simp [World.frozen?, show W.heap[B]? = _ from h]
theorem BoxC.new (W : World) (cs : Array Value) (t : TypeId) : BoxC (W.alloc (.cells cs t)) W.heap.size cs t := World.alloc_heap_new _ _
theorem BoxC.alloc {W : World} {B : Nat} {cs : Array Value} {t : TypeId} (h : BoxC W B cs t) (o : Obj) : BoxC (W.alloc o) B cs t := h.below (bl1 W o)
theorem BoxC.oth {W : World} {B B' i : Nat} {cs : Array Value} {t : TypeId} {v : Value} (hne : B' ≠ B) (h : BoxC W B cs t) : BoxC (W.setCell ⟨B', i, none⟩ v) B cs t := by
  show (W.heap.modify B' _)[B]? = _
  rw [Array.getElem?_modify, if_neg hne]
  exact h
theorem BoxC.put {W : World} {B : Nat} {t : TypeId} {cs : Array Value} (i : Nat) (v : Value) (h : BoxC W B cs t) : BoxC (W.setCell ⟨B, i, none⟩ v) B (cs.setIfInBounds i v) t := by
  obtain ⟨hlt, hk⟩ := Array.getElem?_eq_some_iff.1 h
  show (W.heap.modify B _)[B]? = _
  rw [Array.getElem?_eq_getElem (by rw [Array.size_modify]; exact hlt), Array.getElem_modify_self, hk]
  simp
/-- Nothing is changed but the blocks of S, and new ones. -/
structure Off (S : Nat → Prop) (W W' : World) : Prop where
  os : W'.os = W.os
  tape : W'.tape = W.tape
  output : W'.output = W.output
  size : W.heap.size ≤ W'.heap.size
  block : ∀ k, k < W.heap.size → ¬ S k → W'.heap[k]? = W.heap[k]?
theorem Off.of {S : Nat → Prop} {W W' : World} (h : Below W.heap.size W W') : Off S W W' := ⟨h.os, h.tape, h.output, h.size, fun k hk _ => h.block k hk⟩
theorem Off.refl (S : Nat → Prop) (W : World) : Off S W W := Off.of (Below.refl _ _)
theorem Off.trans {S : Nat → Prop} {W W' W'' : World} (h : Off S W W') (k : Off S W' W'') : Off S W W'' :=
  ⟨k.os.trans h.os, k.tape.trans h.tape, k.output.trans h.output, Nat.le_trans h.size k.size, fun i hi hs => (k.block i (Nat.lt_of_lt_of_le hi h.size) hs).trans (h.block i hi hs)⟩
theorem Off.then {S : Nat → Prop} {W W' W'' : World} (h : Off S W W') (k : Below W'.heap.size W' W'') : Off S W W'' := h.trans (Off.of k)
theorem Off.mono {S T : Nat → Prop} {W W' : World} (h : Off S W W') (hs : ∀ k, S k → T k) : Off T W W' := ⟨h.os, h.tape, h.output, h.size, fun k hk hn => h.block k hk fun e => hn (hs k e)⟩
theorem Off.set {S : Nat → Prop} {W W' : World} (h : Off S W W') (p : Addr) (hp : S p.block) (v : Value) : Off S W (W'.setCell p v) := by
  refine h.trans ⟨rfl, rfl, rfl, by simp, fun k hk hn => Below.heap_setCell _ _ _ k fun e => hn (e ▸ hp)⟩
theorem Off.below {S : Nat → Prop} {B : Nat} {w W W' : World} (h : Below B w W) (k : Off S W W') (hB : B ≤ W.heap.size) (hs : ∀ k, S k → B ≤ k) : Below B w W' :=
  ⟨k.os.trans h.os, k.tape.trans h.tape, k.output.trans h.output, Nat.le_trans h.size k.size, fun i hi => (k.block i (Nat.lt_of_lt_of_le hi hB) fun e => by have := hs i e; omega).trans (h.block i hi)⟩
theorem Off.box {S : Nat → Prop} {W W' : World} (h : Off S W W') {B : Nat} {cs : Array Value} {t : TypeId} (hb : BoxC W B cs t) (hn : ¬ S B) : BoxC W' B cs t := (h.block B hb.lt hn).trans hb
theorem Off.map {S : Nat → Prop} {W W' : World} (h : Off S W W') {H : Type} {P : Program} {k : TypeId} {R : Value → Option (DataW H × List MemPlace)} {b n : Nat} {D : DataW H} (hm : W.ownsMap P k R b n D) (hn : ¬ S b) : W'.ownsMap P k R b n D := by
  have hl := hm.lt
  obtain ⟨es, c, hb, r⟩ := hm
  exact ⟨es, c, (h.block b hl hn).trans hb, r⟩
theorem Off.of_map {S : Nat → Prop} {W W' : World} {b : Nat} (h : W.grownBy W' (some b)) (hs : S b) : Off S W W' := ⟨h.os, h.tape, h.output, h.size, fun k hk hn => h.block k hk (fun e => hn (by cases e; exact hs))⟩

theorem law9 : Keyed Try.prog 9 := string_keyed Try.underlying9
/-- A file's value. -/
def fv (a : Option Addr) (n c l : Nat) : Value := .agg #[.slice a n c, .int .i64 l]
open Classical in
/-- How a file reads: as itself. -/
noncomputable def RF (v : Value) : Option (DataW Value × List MemPlace) := if ∃ a n c l, v = fv a n c l then some (.held v, []) else none
theorem RF_fv (a : Option Addr) (n c l : Nat) : RF (fv a n c l) = some (.held (fv a n c l), []) := if_pos ⟨a, n, c, l, rfl⟩
theorem RF_inv {v : Value} {z : DataW Value × List MemPlace} (h : RF v = some z) : (∃ a n c l, v = fv a n c l) ∧ z = (.held v, []) := by
  unfold RF at h
  split at h
  · rename_i hx
    exact ⟨hx, by cases h; rfl⟩
  · cases h
/-- A file: its name, its bytes, where they lie, how many last. -/
structure Fil where
  nm : ByteArray
  bs : List Int
  ad : Option Addr
  cap : Nat
  last : Nat
def Fil.v (f : Fil) : Value := fv f.ad f.bs.length f.cap f.last
def Fil.key (f : Fil) : Lit := .string f.nm.data.toList
def Fil.ent (f : Fil) : Lit × DataW Value := (f.key, .held f.v)
def dOf (L : List Fil) : DataW Value := .map (L.map Fil.ent)
theorem key_of (s : ByteArray) (hs : s.size ≤ maxLen) : keyOf Try.prog 9 (.string s) = some (.string s.data.toList) := by
  simp [keyOf, Try.underlying9, mapKey, hs]
theorem key_same (f : Fil) (s : ByteArray) : f.key.sameKey (.string s.data.toList) = decide (f.nm = s) := by
  have h : (f.nm.data.toList == s.data.toList) = decide (f.nm = s) := by
    rw [Bool.eq_iff_iff]; simp
    constructor
    · intro e; exact ByteArray.ext (by simpa using e)
    · intro e; rw [e]
  simpa [Fil.key, Lit.sameKey] using h
/-- The file of that name. -/
def look (L : List Fil) (s : ByteArray) : Option Fil := L.find? fun f => decide (f.nm = s)
theorem at_dOf (L : List Fil) (s : ByteArray) (z : DataW Value) : (dOf L).atKey (.string s.data.toList) z = match look L s with | some f => .held f.v | none => z := by
  unfold dOf DataW.atKey look
  simp only [List.find?_map]
  have : ((fun p : Lit × DataW Value => p.1.sameKey (.string s.data.toList)) ∘ Fil.ent) = fun f => decide (f.nm = s) := funext fun f => key_same f s
  rw [this]
  cases List.find? (fun f => decide (f.nm = s)) L <;> rfl
theorem has_dOf (L : List Fil) (s : ByteArray) : Maps.has (dOf L) (.string s.data.toList) = (look L s).isSome := by
  unfold dOf look
  rw [Maps.has_eq, List.any_map]
  have : ((fun p : Lit × DataW Value => p.1.sameKey (.string s.data.toList)) ∘ Fil.ent) = fun f => decide (f.nm = s) := funext fun f => key_same f s
  rw [this, Bool.eq_iff_iff, List.find?_isSome]; simp
/-- A file more, where its name belongs. -/
def insL (f : Fil) : List Fil → List Fil
  | [] => [f]
  | g :: r => if f.key.before g.key then f :: g :: r else g :: insL f r
def delL (s : ByteArray) (L : List Fil) : List Fil := L.filter fun f => !decide (f.nm = s)
def putL (f : Fil) (L : List Fil) : List Fil := insL f (delL f.nm L)
theorem map_insL (f : Fil) : ∀ L, (insL f L).map Fil.ent = DataW.insert f.ent (L.map Fil.ent)
  | [] => rfl
  | g :: r => by
    show (if f.key.before g.key then f :: g :: r else g :: insL f r).map Fil.ent = if f.key.before g.key then f.ent :: g.ent :: r.map Fil.ent else g.ent :: DataW.insert f.ent (r.map Fil.ent)
    split
    · rfl
    · rw [List.map_cons, map_insL f r]
theorem map_delL (s : ByteArray) (L : List Fil) : (L.map Fil.ent).filter (fun p => !p.1.sameKey (.string s.data.toList)) = (delL s L).map Fil.ent := by
  unfold delL
  rw [List.filter_map]
  have : ((fun p : Lit × DataW Value => !p.1.sameKey (.string s.data.toList)) ∘ Fil.ent) = fun f => !decide (f.nm = s) := funext fun f => congrArg (!·) (key_same f s)
  rw [this]
theorem put_dOf (L : List Fil) (f : Fil) : (dOf L).put (.string f.nm.data.toList) (.held f.v) = dOf (putL f L) := by
  show DataW.map (DataW.insert f.ent ((L.map Fil.ent).filter _)) = _
  rw [map_delL, ← map_insL]
  rfl
theorem del_dOf (L : List Fil) (s : ByteArray) : (dOf L).del (.string s.data.toList) = dOf (delL s L) := congrArg DataW.map (map_delL s L)
theorem mem_insL {f x : Fil} : ∀ {L : List Fil}, x ∈ insL f L ↔ x = f ∨ x ∈ L
  | [] => by simp [insL]
  | g :: r => by
    unfold insL
    split
    · simp
    · simp [mem_insL (L := r), or_left_comm]
theorem mem_delL {s : ByteArray} {x : Fil} {L : List Fil} : x ∈ delL s L ↔ x ∈ L ∧ x.nm ≠ s := by simp [delL]
theorem mem_putL {f x : Fil} {L : List Fil} : x ∈ putL f L ↔ x = f ∨ (x ∈ L ∧ x.nm ≠ f.nm) := by rw [putL, mem_insL, mem_delL]
theorem look_mem {L : List Fil} {s : ByteArray} {f : Fil} (h : look L s = some f) : f ∈ L ∧ f.nm = s := ⟨List.mem_of_find?_eq_some h, by simpa using List.find?_some h⟩
theorem size_dOf (L : List Fil) : Maps.size (dOf L) = L.length := by simp [dOf, Maps.size]
theorem ownsMap_exact {H : Type} {W : World} {P : Program} {k : TypeId} {R : Value → Option (DataW H × List MemPlace)} {b n : Nat} {D : DataW H} (h : W.ownsMap P k R b n D) : W.ownsMap P k R b (Maps.size D) D := by
  obtain ⟨es, c, hb, F, hs, rfl⟩ := h
  exact ⟨es, c, hb, F, by simp [Maps.size, length_sorted], rfl⟩
/-- The block in which a file's bytes lie, where it has any room. -/
def Fil.blk (f : Fil) : Option Nat := if f.cap = 0 then none else f.ad.map (·.block)
/-- A file's bytes, as they lie. -/
def RowAt (W : World) (f : Fil) : Prop :=
  (f.cap = 0 ∧ f.bs = []) ∨ (0 < f.cap ∧ ∃ g cur, f.ad = some ⟨g, 0, none⟩ ∧ W.heap[g]? = some (.cells cur 5 (0, 0)) ∧ f.bs.length ≤ f.cap ∧ f.cap ≤ cur.size ∧ f.cap ≤ maxLen ∧ cur.toList.take f.bs.length = iv .u8 f.bs)
/-- The blocks that are a disk's. -/
def Own (p bm : Nat) (L : List Fil) (k : Nat) : Prop := k = p ∨ k = bm ∨ ∃ f ∈ L, f.blk = some k
/-- The rows' laws of a list of files. -/
structure Fls (room : Nat) (L : List Fil) : Prop where
  apart : L.Pairwise fun f g => f.blk = none ∨ f.blk ≠ g.blk
  nms : ∀ f ∈ L, mayB f.nm = true
  byt : ∀ f ∈ L, Byt f.bs
  lasts : ∀ f ∈ L, f.last ≤ f.bs.length
  used : (L.map fun f => f.bs.length).sum ≤ room
  few : L.length ≤ 64
/-- A disk: block p has it, block bm its files. -/
structure Dk (W : World) (p bm room : Nat) (L : List Fil) : Prop where
  box : BoxC W p #[.int .i64 room, .map (some bm)] 94
  map : W.ownsMap Try.prog 9 RF bm L.length (dOf L)
  rows : ∀ f ∈ L, RowAt W f
  ok : Fls room L
  lo : 1024 ≤ room
  hi : room ≤ 1048576
theorem RowAt.off {S : Nat → Prop} {W W' : World} {f : Fil} (h : RowAt W f) (o : Off S W W') (hn : ∀ k, f.blk = some k → ¬ S k) : RowAt W' f := by
  rcases h with h | ⟨hc, g, cur, ha, hg, r⟩
  · exact Or.inl h
  · have hb : f.blk = some g := by unfold Fil.blk; rw [if_neg (by omega), ha]; rfl
    exact Or.inr ⟨hc, g, cur, ha, (o.block g (Array.getElem?_eq_some_iff.1 hg).1 (hn g hb)).trans hg, r⟩
theorem RowAt.lt {W : World} {f : Fil} (h : RowAt W f) {k : Nat} (hk : f.blk = some k) : k < W.heap.size := by
  rcases h with ⟨h, _⟩ | ⟨hc, g, cur, ha, hg, r⟩
  · unfold Fil.blk at hk; rw [if_pos h] at hk; cases hk
  · have hb : f.blk = some g := by unfold Fil.blk; rw [if_neg (by omega), ha]; rfl
    rw [hb] at hk; cases hk
    exact (Array.getElem?_eq_some_iff.1 hg).1
theorem Dk.off {S : Nat → Prop} {W W' : World} {p bm room : Nat} {L : List Fil} (h : Dk W p bm room L) (o : Off S W W') (hn : ∀ k, Own p bm L k → ¬ S k) : Dk W' p bm room L :=
  ⟨o.box h.box (hn p (Or.inl rfl)), o.map h.map (hn bm (Or.inr (Or.inl rfl))), fun f hf => (h.rows f hf).off o fun k hk => hn k (Or.inr (Or.inr ⟨f, hf, hk⟩)), h.ok, h.lo, h.hi⟩
theorem Dk.below {W W' : World} {p bm room : Nat} {L : List Fil} (h : Dk W p bm room L) (b : Below W.heap.size W W') : Dk W' p bm room L := h.off (Off.of (S := fun _ => False) b) fun _ _ h => h
theorem Dk.lt {W : World} {p bm room : Nat} {L : List Fil} (h : Dk W p bm room L) {k : Nat} (hk : Own p bm L k) : k < W.heap.size := by
  rcases hk with rfl | rfl | ⟨f, hf, hk⟩
  · exact h.box.lt
  · exact h.map.lt
  · exact (h.rows f hf).lt hk
theorem Dk.c0 {W : World} {p bm room : Nat} {L : List Fil} (h : Dk W p bm room L) : W.cell? ⟨p, 0, none⟩ = some (.int .i64 room) := h.box.cell 0
theorem Dk.c1 {W : World} {p bm room : Nat} {L : List Fil} (h : Dk W p bm room L) : W.cell? ⟨p, 1, none⟩ = some (.map (some bm)) := h.box.cell 1
theorem Dk.nz {W : World} {p bm room : Nat} {L : List Fil} (h : Dk W p bm room L) : ((room : Int) == 0) = false := by have := h.lo; simp; omega
/-- Is there none? (58) -/
theorem dnone_law {w : World} {p bm room : Nat} {L : List Fil} (h : Dk w p bm room L) : Calls Try.prog 58 #[.pointer (some ⟨p, 0, none⟩)] w fun e w' => e = .returned (.bool false) ∧ w = w' := by
  have h0 := h.c0
  have h1 := h.nz
  clear h
  go_enter Try.func58, Try.ntmps58
  go_wp2
  go_ret
  exact ⟨rfl, rfl⟩
/-- Room (24). -/
theorem droom_law {w : World} {p bm room : Nat} {L : List Fil} (h : Dk w p bm room L) : Calls Try.prog 24 #[.pointer (some ⟨p, 0, none⟩)] w fun e w' => e = .returned (.int .i64 room) ∧ w = w' := by
  have h0 := h.c0
  have HH := Lib.hid h
  clear h
  go_enter Try.func24, Try.ntmps24
  go_wp2_with (go_at_call 58; refine (dnone_law HH.out).mono ?_; rintro e w' ⟨rfl, rfl⟩)
  go_ret
  exact ⟨rfl, rfl⟩
/-- New (12). -/
theorem dnew_law (room : Nat) (h1 : 1024 ≤ room) (h2 : room ≤ 1048576) (w : World) : Calls Try.prog 12 #[.int .i64 room] w fun e w' => e = .returned (.tuple #[.pointer (some ⟨w.heap.size + 1, 0, none⟩), .int .i64 0]) ∧ Dk w' (w.heap.size + 1) w.heap.size room [] ∧ Below w.heap.size w w' := by
  have hmm := @run_makeMap Try.prog
  go_enter Try.func12, Try.ntmps12
  go_wp2
  go_ret2
  refine ⟨rfl, ⟨?_, ?_, by simp, ⟨List.Pairwise.nil, by simp, by simp, by simp, by simp, by simp⟩, h1, h2⟩, step_below (bl1 _ _) (bl1 _ _)⟩
  · have := BoxC.new (w.alloc (.map #[] 0)) #[.int .i64 room, .map (some w.heap.size)] 94
    simpa using this
  · exact (World.ownsMap_made w Try.prog 9 RF).alloc _
theorem dnew_bad (N : Int) (h1 : N < 1024 ∨ 1048576 < N) (w : World) : Calls Try.prog 12 #[.int .i64 N] w fun e w' => e = .returned (.tuple #[.pointer none, .int .i64 2]) ∧ w = w' := by
  by_cases h : N < 1024
  · clear h1
    go_enter Try.func12, Try.ntmps12
    go_wp2
    go_ret2
    exact ⟨rfl, rfl⟩
  · have h2 : 1048576 < N := by omega
    have h3 : ¬ N < 1024 := h
    clear h h1
    go_enter Try.func12, Try.ntmps12
    go_wp2
    go_ret2
    exact ⟨rfl, rfl⟩
end Go.Proofs.Ytbjhcbiihekceaa
