/- Part of the proof that ModelApplies holds for every input: writes that are done on tables leave them as the document says. Part 4. -/
import Derived.Test.YthmofoldmdafoaaGreatSvc
set_option linter.unusedVariables false
set_option linter.unusedSimpArgs false
set_option maxRecDepth 100000
set_option maxHeartbeats 4000000
namespace Go.Proofs.YthmofoldmdafoaaGreat
open Go.ChangeShapes Go.WideShapes Go.ChangeAt Go.RowKit
open Go.Lib (hid)
open Go.Proofs.Tryz
section
open Go.Maps
structure Off (S : Nat -> Prop) (W W' : World) : Prop where
 os : W'.os = W.os
 tape : W'.tape = W.tape
 output : W'.output = W.output
 size : W.heap.size <= W'.heap.size
 block : ∀ k, k < W.heap.size -> ¬ S k -> W'.heap[k]? = W.heap[k]?
theorem Off.of {S : Nat -> Prop} {W W' : World} (h : Below W.heap.size W W') : Off S W W' := ⟨h.os, h.tape, h.output, h.size, fun k hk _ => h.block k hk⟩
theorem Off.refl (S : Nat -> Prop) (W : World) : Off S W W := Off.of (Below.refl _ _)
theorem Off.trans {S : Nat -> Prop} {W W' W'' : World} (h : Off S W W') (k : Off S W' W'') : Off S W W'' :=
 ⟨k.os.trans h.os, k.tape.trans h.tape, k.output.trans h.output, Nat.le_trans h.size k.size, fun i hi hs => (k.block i (Nat.lt_of_lt_of_le hi h.size) hs).trans (h.block i hi hs)⟩
theorem Off.then {S : Nat -> Prop} {W W' W'' : World} (h : Off S W W') (k : Below W'.heap.size W' W'') : Off S W W'' := h.trans (Off.of k)
theorem Off.mono {S T : Nat -> Prop} {W W' : World} (h : Off S W W') (hs : ∀ k, S k -> T k) : Off T W W' := ⟨h.os, h.tape, h.output, h.size, fun k hk hn => h.block k hk fun e => hn (hs k e)⟩
theorem Off.set {S : Nat -> Prop} {W W' : World} (h : Off S W W') (p : Addr) (hp : S p.block) (v : Value) : Off S W (W'.setCell p v) := by
 refine h.trans ⟨rfl, rfl, rfl, by simp, fun k hk hn => Below.heap_setCell _ _ _ k fun e => hn (e ▸ hp)⟩
theorem Off.below {S : Nat -> Prop} {B : Nat} {w W W' : World} (h : Below B w W) (k : Off S W W') (hB : B <= W.heap.size) (hs : ∀ k, S k -> B <= k) : Below B w W' :=
 ⟨k.os.trans h.os, k.tape.trans h.tape, k.output.trans h.output, Nat.le_trans h.size k.size, fun i hi => (k.block i (Nat.lt_of_lt_of_le hi hB) fun e => by have := hs i e; omega).trans (h.block i hi)⟩
theorem Off.box {S : Nat -> Prop} {W W' : World} (h : Off S W W') {B : Nat} {cs : Array Value} {t : TypeId} (hb : zg_ W B cs t) (hn : ¬ S B) : zg_ W' B cs t := (h.block B hb.lt hn).trans hb
theorem Off.map {S : Nat -> Prop} {W W' : World} (h : Off S W W') {H : Type} {P : Program} {k : TypeId} {R : Value -> Option (DataW H × List MemPlace)} {b n : Nat} {D : DataW H} (hm : W.ownsMap P k R b n D) (hn : ¬ S b) : W'.ownsMap P k R b n D := by
 have hl := hm.lt
 obtain ⟨es, c, hb, r⟩ := hm
 exact ⟨es, c, (h.block b hl hn).trans hb, r⟩
theorem Off.of_map {S : Nat -> Prop} {W W' : World} {b : Nat} (h : W.grownBy W' (some b)) (hs : S b) : Off S W W' := ⟨h.os, h.tape, h.output, h.size, fun k hk hn => h.block k hk (fun e => hn (by cases e; exact hs))⟩
theorem Off.drew {S : Nat -> Prop} {W W' : World} (h : Off S W W') : Off S W W'.drew := h.then (Below.refl _ _).drew
def zs_ (S : Nat -> Prop) (W : World) (P : World -> Prop) : Prop := ∀ W', Off S W W' -> P W'
theorem zs_.now {S : Nat -> Prop} {W : World} {P : World -> Prop} (h : zs_ S W P) : P W := h W (Off.refl S W)
theorem zs_.step {S S' : Nat -> Prop} {W W' : World} {P : World -> Prop} (h : zs_ S W P) (o : Off S W W') (hs : ∀ k, S' k -> S k ∨ W.heap.size <= k) : zs_ S' W' P := fun W'' o' =>
 h W'' ⟨o'.os.trans o.os, o'.tape.trans o.tape, o'.output.trans o.output, Nat.le_trans o.size o'.size, fun k hk hn => (o'.block k (Nat.lt_of_lt_of_le hk o.size) fun e => (hs k e).elim hn (fun hh => by omega)).trans (o.block k hk hn)⟩
theorem zs_.off {S : Nat -> Prop} {W W' : World} {P : World -> Prop} (h : zs_ S W P) (o : Off S W W') : zs_ S W' P := h.step o fun _ hk => .inl hk
theorem zs_.below {S : Nat -> Prop} {W W' : World} {P : World -> Prop} (h : zs_ S W P) (b : Below W.heap.size W W') : zs_ S W' P := h.off (Off.of b)
theorem zs_.mono {S : Nat -> Prop} {W : World} {P Q : World -> Prop} (h : zs_ S W P) (hq : ∀ W, P W -> Q W) : zs_ S W Q := fun W' o => hq W' (h W' o)
theorem zs_.less {S S' : Nat -> Prop} {W : World} {P : World -> Prop} (h : zs_ S W P) (hs : ∀ k, S' k -> S k) : zs_ S' W P := fun W' o => h W' (o.mono hs)
theorem zm_ {S : Nat -> Prop} {W W' : World} {base n size : Nat} {e : TypeId} {v : Value} {xs : List Value} (h : W.ownsRow base e size v n xs) (o : Off S W W') (hs : ∀ k, S k -> k < base) : W'.ownsRow base e size v n xs :=
 ⟨h.1, h.2.imp id fun ⟨g, cap, cur, e0, hb, hg, r⟩ => ⟨g, cap, cur, e0, hb, (o.block g (Array.getElem?_eq_some_iff.1 hg).1 fun e => by have := hs g e; omega).trans hg, r⟩⟩
theorem law9 : Keyed prog 9 := string_keyed underlying9
def RF (v : Value) : Option (DataW Value × List MemPlace) := some (.held v, [])
theorem RF_inv {v : Value} {z : DataW Value × List MemPlace} (h : RF v = some z) : z = (.held v, []) := by unfold RF at h; cases h; rfl
def kL (K : List Int) : Lit := .string (strOfNums K).data.toList
section
variable {α : Type} (val : α -> Value)
def entM (x : List Int × α) : Lit × DataW Value := (kL x.1, .held (val x.2))
def mOf (L : List (List Int × α)) : DataW Value := .map (L.map (entM val))
end
theorem key_of (s : ByteArray) (hs : s.size <= maxLen) : keyOf prog 9 (.string s) = some (.string s.data.toList) := by
 simp [keyOf, underlying9, mapKey, hs]
theorem xk_ (K : List Int) : (strOfNums K).size = K.length := by
 have := congrArg List.length (yQ_ K)
 rw [ByteArray.toList_eq, List.length_map] at this
 simpa using this
theorem keyK {K : List Int} (h : K.length <= maxLen) : keyOf prog 9 (.string (strOfNums K)) = some (kL K) := key_of _ (by rw [xk_]; exact h)
theorem qo_ {A B : List Int} (ha : Byt A) (hb : Byt B) : (kL A).sameKey (kL B) = decide (A = B) := by
 have h : ((strOfNums A).data.toList == (strOfNums B).data.toList) = decide (A = B) := by
  rw [Bool.eq_iff_iff]; simp
  constructor
  ·intro e; exact qh_ ha hb (ByteArray.ext (by simpa using e))
  ·intro e; rw [e]
 simpa [kL, Lit.sameKey] using h
theorem bb_op : ∀ x y : List UInt8, bytesBefore x y = Op.bytesLess x y := fun x => by
 induction x with
 | nil => intro y; cases y <;> rfl
 | cons a r ih => intro y; cases y with
  | nil => rfl
  | cons b s => show (a < b || (a == b && bytesBefore r s)) = (a < b || (a == b && Op.bytesLess r s)); rw [ih]
theorem q2_ {A B : List Int} (ha : Byt A) (hb : Byt B) : (kL A).before (kL B) = ltL A B := by
 rw [← yi_ ha hb]
 show bytesBefore _ _ = _
 rw [bb_op, ByteArray.toList_eq, ByteArray.toList_eq]
section
variable {α : Type} {val : α -> Value}
def KByt (L : List (List Int × α)) : Prop := ∀ x ∈ L, Byt x.1
def z1_ (L : List (List Int × α)) (K : List Int) : Option α := (L.find? fun x => decide (x.1 = K)).map Prod.snd
def qb_ (L : List (List Int × α)) (K : List Int) (o : Option α) : List (List Int × α) := L.filter (fun p => ltL p.1 K) ++ ((o.toList.map fun r => (K, r)) ++ L.filter (fun p => ltL K p.1))
theorem at_mOf {L : List (List Int × α)} (hL : KByt L) {K : List Int} (hK : Byt K) (z : DataW Value) : (mOf val L).atKey (kL K) z = match z1_ L K with | some v => .held (val v) | none => z := by
 unfold mOf DataW.atKey z1_
 simp only [List.find?_map]
 have : ∀ L : List (List Int × α), KByt L -> List.find? ((fun p : Lit × DataW Value => p.1.sameKey (kL K)) ∘ entM val) L = List.find? (fun x => decide (x.1 = K)) L := fun L => by
  induction L with
  | nil => intro _; rfl
  | cons x L ih =>
   intro h
   rw [List.find?_cons, List.find?_cons, ih fun y hy => h y (List.mem_cons_of_mem _ hy)]
   show (match (kL x.1).sameKey (kL K) with | true => some x | false => _) = _
   rw [qo_ (h x (List.mem_cons_self ..)) hK]
   rfl
 rw [this L hL]
 cases List.find? (fun x => decide (x.1 = K)) L <;> rfl
theorem has_mOf {L : List (List Int × α)} (hL : KByt L) {K : List Int} (hK : Byt K) : Maps.has (mOf val L) (kL K) = (z1_ L K).isSome := by
 unfold mOf z1_
 rw [Maps.has_eq, List.any_map, Bool.eq_iff_iff, Option.isSome_map, List.find?_isSome, List.any_eq_true]
 constructor
 ·rintro ⟨x, hx, h⟩
  refine ⟨x, hx, ?_⟩
  have : (kL x.1).sameKey (kL K) = true := h
  rwa [qo_ (hL x hx) hK] at this
 ·rintro ⟨x, hx, h⟩
  refine ⟨x, hx, ?_⟩
  show (kL x.1).sameKey (kL K) = true
  rwa [qo_ (hL x hx) hK]
theorem KByt.set {L : List (List Int × α)} (h : KByt L) {K : List Int} (hK : Byt K) (o : Option α) : KByt (qb_ L K o) := fun x hx => by
 unfold qb_ at hx
 simp only [List.mem_append, List.mem_filter, List.mem_map] at hx
 rcases hx with ⟨hx, _⟩ | ⟨r, _, rfl⟩ | ⟨hx, _⟩
 ·exact h x hx
 ·exact hK
 ·exact h x hx
theorem ins_mOf {K : List Int} (hK : Byt K) (v : α) : ∀ {L : List (List Int × α)}, KByt L -> Ris Prod.fst L -> DataW.insert (entM val (K, v)) ((L.filter fun p => !decide (p.1 = K)).map (entM val)) = (L.filter (fun p => ltL p.1 K) ++ ([(K, v)] ++ L.filter (fun p => ltL K p.1))).map (entM val)
 | [], _, _ => rfl
 | x :: L, hb, hr => by
  obtain ⟨h1, h2⟩ := List.pairwise_cons.1 hr
  have bx := hb x (List.mem_cons_self ..)
  have bL : KByt L := fun y hy => hb y (List.mem_cons_of_mem _ hy)
  have ih := ins_mOf hK v bL h2
  by_cases e : x.1 = K
  ·exact Xb63
  ·cases hl : ltL x.1 K
   ·have hg : ltL K x.1 = true := x3_ hl (Ne.symm e)
    have f1 : L.filter (fun p => ltL p.1 K) = [] := by
     exact Xb119
    have f2 : L.filter (fun p => ltL K p.1) = L := by
     rw [List.filter_eq_self]; intro y hy; exact zF_ hg (h1 y hy)
    have f3 : L.filter (fun p => !decide (p.1 = K)) = L := by
     rw [List.filter_eq_self]; intro y hy
     have := qY_ (zF_ hg (h1 y hy)); simp [Ne.symm this]
    rw [List.filter_cons_of_pos (by simp [e]), List.filter_cons_of_neg (by simp [hl]), List.filter_cons_of_pos (by simp [hg]), f1, f2, f3, List.map_cons]
    show (if (kL K).before (kL x.1) then _ else _) = _
    rw [q2_ hK bx, hg]; rfl
   ·have hg := yC_ hl
    rw [List.filter_cons_of_pos (by simp [e]), List.filter_cons_of_pos (by simp [hl]), List.filter_cons_of_neg (by simp [hg]), List.map_cons]
    show (if (kL K).before (kL x.1) then _ else _) = _
    rw [q2_ hK bx, hg, if_neg Xt5, ih]; rfl
theorem Qc_ {K : List Int} (hK : Byt K) : ∀ {L : List (List Int × α)}, KByt L -> (L.map (entM val)).filter (fun p => !p.1.sameKey (kL K)) = (L.filter fun p => !decide (p.1 = K)).map (entM val)
 | [], _ => rfl
 | x :: L, hb => by
  have ih := Qc_ hK (L := L) fun y hy => hb y (List.mem_cons_of_mem _ hy)
  have hs : (entM val x).1.sameKey (kL K) = decide (x.1 = K) := qo_ (hb x (List.mem_cons_self ..)) hK
  rw [List.map_cons, List.filter_cons, List.filter_cons, ih, hs]
  split <;> simp
theorem ne_lt {K : List Int} : ∀ {L : List (List Int × α)}, Ris Prod.fst L -> (L.filter fun p => !decide (p.1 = K)) = L.filter (fun p => ltL p.1 K) ++ L.filter (fun p => ltL K p.1)
 | [], _ => rfl
 | x :: L, hr => by
  obtain ⟨h1, h2⟩ := List.pairwise_cons.1 hr
  have ih := ne_lt (K := K) h2
  by_cases e : x.1 = K
  ·exact Xb63
  ·cases hl : ltL x.1 K
   ·have hg : ltL K x.1 = true := x3_ hl (Ne.symm e)
    have f1 : L.filter (fun p => ltL p.1 K) = [] := by
     exact Xb119
    rw [List.filter_cons_of_pos (by simp [e]), List.filter_cons_of_neg (by simp [hl]), List.filter_cons_of_pos (by simp [hg]), ih, f1]; rfl
   ·have hg := yC_ hl
    rw [List.filter_cons_of_pos (by simp [e]), List.filter_cons_of_pos (by simp [hl]), List.filter_cons_of_neg (by simp [hg]), ih]; rfl
theorem put_mOf {L : List (List Int × α)} (hL : KByt L) (hr : Ris Prod.fst L) {K : List Int} (hK : Byt K) (v : α) : (mOf val L).put (kL K) (.held (val v)) = mOf val (qb_ L K (some v)) := by
 show DataW.map (DataW.insert (entM val (K, v)) ((L.map (entM val)).filter _)) = _
 rw [show (L.map (entM val)).filter (fun p => !p.1.sameKey (kL K)) = _ from Qc_ hK hL, ins_mOf hK v hL hr]
 rfl
theorem del_mOf {L : List (List Int × α)} (hL : KByt L) (hr : Ris Prod.fst L) {K : List Int} (hK : Byt K) : (mOf val L).del (kL K) = mOf val (qb_ L K none) := by
 show DataW.map ((L.map (entM val)).filter _) = _
 rw [show (L.map (entM val)).filter (fun p => !p.1.sameKey (kL K)) = _ from Qc_ hK hL, ne_lt hr]
 rfl
theorem xl_ (L : List (List Int × α)) : Maps.size (mOf val L) = L.length := by simp [mOf, Maps.size]
theorem yT_ {L : List (List Int × α)} {K : List Int} {o : Option α} {p : List Int × α} : p ∈ qb_ L K o ↔ (p ∈ L /\ p.1 ≠ K) ∨ (p.1 = K /\ o = some p.2) := by
 unfold qb_
 simp only [List.mem_append, List.mem_filter, List.mem_map]
 constructor
 ·rintro (⟨h, l⟩ | ⟨r, h, rfl⟩ | ⟨h, l⟩)
  ·exact .inl ⟨h, qY_ l⟩
  ·exact .inr ⟨rfl, by simpa using h⟩
  ·exact .inl ⟨h, (qY_ l).symm⟩
 ·rintro (⟨h, n⟩ | ⟨e, h⟩)
  ·cases l : ltL p.1 K
   ·exact .inr (.inr ⟨h, x3_ l (Ne.symm n)⟩)
   ·exact .inl ⟨h, rfl⟩
  ·exact .inr (.inl ⟨p.2, by simp [h], by rw [← e]⟩)
theorem setM_ok {L : List (List Int × α)} (h : Ris Prod.fst L) (K : List Int) (o : Option α) : Ris Prod.fst (qb_ L K o) := by
 unfold qb_
 refine List.pairwise_append.2 ⟨h.filter _, List.pairwise_append.2 ⟨?_, h.filter _, ?_⟩, ?_⟩
 ·cases o <;> simp
 ·intro a ha b hb
  obtain ⟨r, _, rfl⟩ := List.mem_map.1 ha
  exact (List.mem_filter.1 hb).2
 ·intro a ha b hb
  have ha := (List.mem_filter.1 ha).2
  rcases List.mem_append.1 hb with hb | hb
  ·obtain ⟨r, _, rfl⟩ := List.mem_map.1 hb
   exact ha
  ·exact zF_ ha (List.mem_filter.1 hb).2
theorem yn_ {L : List (List Int × α)} (h : Ris Prod.fst L) {K : List Int} {r : α} : z1_ L K = some r ↔ (K, r) ∈ L := by
 induction L with
 | nil => simp [z1_]
 | cons p t ih =>
  obtain ⟨h1, h2⟩ := List.pairwise_cons.1 h
  unfold z1_
  rw [List.find?_cons]
  by_cases e : p.1 = K
  ·rw [show decide (p.1 = K) = true by simp [e]]
   constructor
   ·exact Xb115
   ·exact Xb95
  ·rw [show decide (p.1 = K) = false by simp [e]]
   constructor
   ·intro hh; exact List.mem_cons_of_mem _ ((ih h2).1 hh)
   ·exact Xb106
theorem q5_ {L : List (List Int × α)} {K : List Int} : z1_ L K = none ↔ ∀ p ∈ L, p.1 ≠ K := by
 unfold z1_
 rw [Option.map_eq_none_iff, List.find?_eq_none]
 simp
theorem getM_set {L : List (List Int × α)} (h : Ris Prod.fst L) (K : List Int) (o : Option α) (j : List Int) : z1_ (qb_ L K o) j = if j = K then o else z1_ L j := by
 by_cases e : j = K
 ·subst e
  rw [if_pos rfl]
  cases o with
  | none =>
   rw [q5_]; intro p hp; rcases yT_.1 hp with hp | hp
   ·exact hp.2
   ·cases hp.2
  | some r => rw [yn_ (setM_ok h _ _)]; exact yT_.2 (.inr ⟨rfl, rfl⟩)
 ·rw [if_neg e]
  cases hg : z1_ L j with
  | some x => exact (yn_ (setM_ok h _ _)).2 (yT_.2 (.inl ⟨(yn_ h).1 hg, e⟩))
  | none =>
   rw [q5_] at hg ⊢
   intro p hp
   rcases yT_.1 hp with hp | hp
   ·exact hg p hp.1
   ·rw [hp.1]; exact fun e' => e e'.symm
structure Mp (W : World) (b : Nat) (val : α -> Value) (L : List (List Int × α)) : Prop where
 own : W.ownsMap prog 9 RF b L.length (mOf val L)
 byt : KByt L
theorem xY_ {H : Type} {W : World} {P : Program} {k : TypeId} {R : Value -> Option (DataW H × List MemPlace)} {b n : Nat} {D : DataW H} (h : W.ownsMap P k R b n D) : W.ownsMap P k R b (Maps.size D) D := by
 obtain ⟨es, c, hb, F, hs, rfl⟩ := h
 exact ⟨es, c, hb, F, by simp [Maps.size, length_sorted], rfl⟩
theorem Mp.apart {W : World} {b : Nat} {L : List (List Int × α)} (h : Mp W b val L) : L.Pairwise fun f g => kL f.1 ≠ kL g.1 := by
 obtain ⟨es, e, hp⟩ := h.own.tidy law9
 have : es = L.map (entM val) := by unfold mOf at e; cases e; rfl
 subst this
 rw [List.pairwise_map] at hp
 exact hp
theorem Mp.ris {W : World} {b : Nat} {L : List (List Int × α)} (h : Mp W b val L) : Ris Prod.fst L := by
 have ha := h.apart
 obtain ⟨es, c, hb, F, hs, hD⟩ := h.own
 have e : L.map (entM val) = (es.toList.map (Go.WideElems.rg prog 9 RF)).foldr DataW.insert [] := by unfold mOf at hD; injection hD
 have hp := sorted_perm (es.toList.map (Go.WideElems.rg (H := Value) prog 9 RF))
 rw [← e] at hp
 have hk : Go.ChangeMaps.StrKeys (es.toList.map (Go.WideElems.rg prog 9 RF)) := fun q hq => by
  obtain ⟨f, hf, rfl⟩ := List.mem_map.1 (hp.mem_iff.2 hq)
  exact ⟨_, rfl⟩
 have hne : (es.toList.map (Go.WideElems.rg prog 9 RF)).Pairwise (fun p q => p.1 ≠ q.1) := (hp.pairwise_iff (fun {_ _} h => Ne.symm h)).1 (List.pairwise_map.2 ha)
 have := Go.ChangeMaps.sorted_sorted _ hk hne
 rw [← e, List.pairwise_map] at this
 refine List.Pairwise.imp_of_mem (fun {x y} hx hy hb => ?_) this
 have := q2_ (h.byt x hx) (h.byt y hy)
 rw [← this]; exact hb
theorem Mp.lt {W : World} {b : Nat} {L : List (List Int × α)} (h : Mp W b val L) : b < W.heap.size := h.own.lt
theorem Mp.off {S : Nat -> Prop} {W W' : World} {b : Nat} {L : List (List Int × α)} (h : Mp W b val L) (o : Off S W W') (hn : ¬ S b) : Mp W' b val L := ⟨o.map h.own hn, h.byt⟩
theorem Mp.below {W W' : World} {b : Nat} {L : List (List Int × α)} (h : Mp W b val L) (o : Below W.heap.size W W') : Mp W' b val L := h.off (S := fun _ => False) (Off.of o) fun h => h
theorem Mp.new (w : World) (val : α -> Value) : Mp (w.alloc (.map #[] 0)) w.heap.size val [] := ⟨World.ownsMap_made w prog 9 RF, fun x hx => by simp at hx⟩
theorem Mp.put {W : World} {b n : Nat} {L : List (List Int × α)} (h : Mp W b val L) {K : List Int} (hK : Byt K) (v : α) {W' : World} (hm : W'.ownsMap prog 9 RF b n ((mOf val L).put (kL K) (.held (val v)))) : Mp W' b val (qb_ L K (some v)) := by
 rw [put_mOf h.byt h.ris hK] at hm
 have := xY_ hm
 rw [xl_] at this
 exact ⟨this, h.byt.set hK _⟩
theorem Mp.del {W : World} {b n : Nat} {L : List (List Int × α)} (h : Mp W b val L) {K : List Int} (hK : Byt K) {W' : World} (hm : W'.ownsMap prog 9 RF b n ((mOf val L).del (kL K))) : Mp W' b val (qb_ L K none) := by
 rw [del_mOf h.byt h.ris hK] at hm
 have := xY_ hm
 rw [xl_] at this
 exact ⟨this, h.byt.set hK _⟩
theorem Mp.look {W : World} {b t e : Nat} {L : List (List Int × α)} (h : Mp W b val L) (ht : prog.underlying t = some (.map 9 e)) {z : Value} (hz : (zeroValue e).run prog W = .ok z W) {K : List Int} (hK : Byt K) (hn : K.length <= maxLen) :
  (Instr.lookup t (.map (some b)) (.string (strOfNums K)) true).run prog W = .ok (.tuple #[((z1_ L K).map val).getD z, .bool (z1_ L K).isSome]) W := by
 obtain ⟨v, ps, hr, hv⟩ := h.own.look_ok law9 ht hz (zd := .held z) (zp := []) rfl (keyK hn)
 rw [has_mOf h.byt hK] at hr
 rw [at_mOf h.byt hK] at hv
 have e2 := RF_inv hv
 have : ((z1_ L K).map val).getD z = v := by
  have := (Prod.mk.inj e2).1
  revert this
  cases z1_ L K <;> intro this <;> simpa using this
 rw [this]
 exact hr
end
end
section
open Go.Shelf
attribute [local go_sem] Oper.semAt_some
end
theorem xn_ (j : Job) (w : World) (hj : yd_ w j) :
  Calls prog 38 #[.agg #[.int .i64 j.w, .int .i64 j.l, .int .i64 j.d, .int .i64 j.c, .int .i64 j.k, .int .i64 j.e, .slice j.a j.n j.cap]] w fun r w' => r = .returned (.int .i64 (qf_ j)) /\ Below w.heap.size w w' := by
 have HJ := hid hj
 have hle := hj.le
 have hli : (j.n : Int) <= 1000000 := by omega
 clear hj
 go_enter func38, ntmps38
 go_upto_region 1 with (fail)
 have hb := zg_.new w #[.int .i64 j.w, .int .i64 j.l, .int .i64 j.d, .int .i64 j.c, .int .i64 j.k, .int .i64 j.e, .slice j.a j.n j.cap] 24
 have B1 : Below w.heap.size w (w.alloc (.cells #[.int .i64 j.w, .int .i64 j.l, .int .i64 j.d, .int .i64 j.c, .int .i64 j.k, .int .i64 j.e, .slice j.a j.n j.cap] 24)) := (Below.refl _ _).alloc (Nat.le_refl _) _
 generalize w.alloc (.cells #[.int .i64 j.w, .int .i64 j.l, .int .i64 j.d, .int .i64 j.c, .int .i64 j.k, .int .i64 j.e, .slice j.a j.n j.cap] 24) = W1 at hb B1 ⊢
 have c0 := hb.cell 0
 have c1 := hb.cell 1
 have c2 := hb.cell 2
 have c3 := hb.cell 3
 have c4 := hb.cell 4
 have c5 := hb.cell 5
 have c6 := hb.cell 6
 simp only [gtA, gtB, gtC] at c0 c1 c2 c3 c4 c5 c6
 have HB1 := hid B1
 clear hb B1
 have HF := hid (show gB j = false -> qf_ j = 2 from fun h => by rw [qf_, okB, gB_and, h]; rfl)
 by_cases h0 : j.w < 1
 ·exact Xb17
 by_cases h1 : 4 < j.w
 ·exact Xb17
 by_cases h2 : j.l < 1
 ·exact Xb17
 by_cases h3 : 2 < j.l
 ·exact Xb17
 by_cases h4 : j.w < j.l
 ·exact Xb17
 by_cases h5 : j.d < 3
 ·exact Xb17
 by_cases h6 : 15 < j.d
 ·exact Xb17
 by_cases h7 : j.c < 1024
 ·exact Xb17
 by_cases h8 : 65536 < j.c
 ·exact Xb17
 by_cases h9 : j.k < 1024
 ·exact Xb17
 by_cases h10 : 1048576 < j.k
 ·exact Xb17
 by_cases h11 : j.e < 1
 ·exact Xb17
 by_cases h12 : 100 < j.e
 ·exact Xb17
 have HG := hid (show gB j = true from decide_eq_true Xt0)
 by_cases hn : 1 <= j.n /\ j.n <= 4
 ·have n1 : ¬ (j.n : Int) < 1 := by omega
  have n2 : ¬ (4 : Int) < (j.n : Int) := by omega
  have HH := hid (show hB j = true by rw [gB_and, HG.out, inB]; simp; omega)
  go_wp2_with fail
  go_loopw [3] (fun i wr => ∃ k : Nat, k <= j.n /\ i = .int .i64 (k : Int) /\ Hid (tB (j.T.take k) = true) /\ W1 = wr) (fun i _ => j.n - (intOf i).toNat)
  case atStart => exact ⟨0, by omega, rfl, hid (by simp [tB]), rfl⟩
  case round =>
   obtain ⟨k, hk, rfl, htk, rfl⟩ := hrel
   by_cases hlt : k < j.n
   ·have hkl : (k : Int) < (j.n : Int) := by omega
    obtain ⟨b1, o1, ea, d1⟩ := (HJ.out.ls.below HB1.out).get k Xt54
    rw [ea] at c6
    obtain ⟨x, hx⟩ := gtx (j.T.getD k 0)
    rw [hx] at d1
    have HN := hid (show tB (j.T.take (k + 1)) = inB x 0 2 by rw [tB_take Xt54, htk.out, hx]; rfl)
    have HO := hid (show inB x 0 2 = false -> qf_ j = 2 from fun h => by rw [qf_, okB, tB_no (k := k) Xt54 (by rw [hx]; exact h)]; simp)
    clear hx ea
    by_cases q1 : x < 0
    ·exact Xb101
    ·by_cases q2 : 2 < x
     ·exact Xb101
     ·go_wp2_with fail
      go_roundw
      case rel => exact ⟨k + 1, by omega, by go_num, hid (by rw [HN.out]; exact decide_eq_true Xt0), trivial⟩
      case measure => simp [intOf]; omega
   ·have hkl : ¬ (k : Int) < (j.n : Int) := by omega
    have HO := hid (show qf_ j = 0 by
     have := htk.out
     rw [List.take_of_length_le (by rw [HJ.out.len]; omega)] at this
     rw [qf_, okB, HH.out, this]; rfl)
    exact Xb86
 ·have HO := hid (show qf_ j = 2 by
   have : inB j.n 1 4 = false := decide_eq_false Xt0
   rw [qf_, okB, gB_and, this]; simp)
  by_cases n1 : (j.n : Int) < 1
  ·exact Xb86
  ·have n2 : (4 : Int) < (j.n : Int) := by omega
   exact Xb86
section
open Go.Shelf
def trV (j : Job) (a b : Int) : Int × Int × Int × Bool := zO_ (fun x : Tr => decide (x.2.1 = a /\ x.2.2 = b)) (idx 0 (z9_ j))
def ofV (j : Job) (a : Int) : Int × Int × Int × Bool := zO_ (fun x : Tr => decide ((x.1 : Int) = a)) (idx 0 (z9_ j))
theorem jH_ {p : Tr -> Bool} : ∀ {l : List Tr}, (zO_ p l).2.2.2 = false -> zO_ p l = (0, 0, 0, false)
 | [], _ => rfl
 | x :: r, h => by
  rw [zO_] at h ⊢
  by_cases e : p x = true
  ·rw [if_pos e] at h; cases h
  ·rw [if_neg e] at h ⊢; exact jH_ h
theorem qA_ (j : Job) (a b : Int) (w : World) (hj : yd_ w j) :
  Calls prog 85 #[.agg #[.int .i64 j.w, .int .i64 j.l, .int .i64 j.d, .int .i64 j.c, .int .i64 j.k, .int .i64 j.e, .slice j.a j.n j.cap], .int .i64 a, .int .i64 b] w fun r w' => r = .returned (.tuple #[.int .i64 (trV j a b).1, .int .i64 (if (trV j a b).2.2.2 then 0 else 2)]) /\ Below w.heap.size w w' := by
 have HJ := hid hj
 have HT := hid (fun (W : World) (P1 P2 : Nat) (h : yd_ W j) (h1 : Boxed W P1 3 (.int .i64 a)) (h2 : Boxed W P2 3 (.int .i64 b)) => QY_ j a b P1 P2 W h h1 h2)
 rw [show zO_ (fun x : Tr => decide (x.2.1 = a /\ x.2.2 = b)) (idx 0 (z9_ j)) = trV j a b from rfl] at HT
 have HZ := hid (show (trV j a b).2.2.2 = false -> trV j a b = (0, 0, 0, false) from fun h => jH_ h)
 clear hj
 generalize trV j a b = V at HT HZ ⊢
 obtain ⟨k, t, i, ok⟩ := V
 simp only at HT HZ ⊢
 have BW : Below w.heap.size w (((w.alloc (.cells #[.int .i64 j.w, .int .i64 j.l, .int .i64 j.d, .int .i64 j.c, .int .i64 j.k, .int .i64 j.e, .slice j.a j.n j.cap] 24)).alloc (.cells #[.int .i64 a] 3)).alloc (.cells #[.int .i64 b] 3)) := (((Below.refl _ w).alloc (Nat.le_refl _) _).alloc Xt5 _).alloc Xt7 _
 have b1 := (Boxed.new (w.alloc (.cells #[.int .i64 j.w, .int .i64 j.l, .int .i64 j.d, .int .i64 j.c, .int .i64 j.k, .int .i64 j.e, .slice j.a j.n j.cap] 24)) 3 (.int .i64 a)).alloc (.cells #[.int .i64 b] 3)
 have b2 := Boxed.new ((w.alloc (.cells #[.int .i64 j.w, .int .i64 j.l, .int .i64 j.d, .int .i64 j.c, .int .i64 j.k, .int .i64 j.e, .slice j.a j.n j.cap] 24)).alloc (.cells #[.int .i64 a] 3)) 3 (.int .i64 b)
 simp only [World.size_alloc] at b1 b2
 have HW := hid (HT.out _ _ _ (HJ.out.below BW) b1 b2)
 have HBW := hid BW
 clear HT b1 b2 BW
 cases ok
 ·obtain rfl : k = 0 := by have := HZ.out rfl; simp at this; exact this.1
  simp only [Bool.false_eq_true, ↓reduceIte]
  exact Xb59
 ·simp only [↓reduceIte]
  exact Xb59
def nv (l : List (Int × Int)) : List Value := l.flatMap fun p => [.int .i64 p.1, .int .i64 p.2]
theorem nv_append (a b : List (Int × Int)) : nv (a ++ b) = nv a ++ nv b := by simp [nv]
theorem nv_at (l : List (Int × Int)) : ∀ (k : Nat) (p : Int × Int), l[k]? = some p -> (nv l)[k * 2]? = some (.int .i64 p.1) /\ (nv l)[k * 2 + 1]? = some (.int .i64 p.2) := by
 induction l with
 | nil => intro k p h; simp at h
 | cons q r ih =>
  intro k p h
  cases k with
  | zero => simp at h; subst h; simp [nv]
  | succ k =>
   have h' : r[k]? = some p := by simpa using h
   have := ih k p h'
   simp only [nv, List.flatMap_cons, List.cons_append, List.nil_append] at this ⊢
   rw [show (k + 1) * 2 = k * 2 + 1 + 1 by omega]
   simpa using this
theorem info66 : (prog.info? 184).map (fun i => (i.zero, i.size, i.bytes)) = some (some (.agg #[.int .i64 0, .int .i64 0]), 2, 16) := by kernel_rfl
def NmR (W : World) (a : Option Addr) (l : List (Int × Int)) : Prop := ∀ (k : Nat) (p : Int × Int), l[k]? = some p -> ∃ b off, a = some ⟨b, off, none⟩ /\ W.cell? ⟨b, off + k * 2, none⟩ = some (.int .i64 p.1) /\ W.cell? ⟨b, off + k * 2 + 1, none⟩ = some (.int .i64 p.2)
theorem own_nmr {w : World} {base n : Nat} {v : Value} {l : List (Int × Int)} (h : w.ownsRow base 184 2 v n (nv l)) (hn : l.length = n) : ∃ a cap, v = .slice a n cap /\ NmR w a l := by
 have h' := h
 rcases h.2 with ⟨e, h0⟩ | ⟨g, cap, cur, rfl, hg, _, hc, _⟩
 ·exact Xb104
 ·refine ⟨_, cap, rfl, fun k p hp => ⟨g, 0, rfl, ?_, ?_⟩⟩
  ·have hk := (List.getElem?_eq_some_iff.1 hp).1
   rw [Nat.zero_add, h'.cellAt (k * 2) Xt0]
   exact (nv_at l k p hp).1
  ·have hk := (List.getElem?_eq_some_iff.1 hp).1
   rw [Nat.zero_add, h'.cellAt (k * 2 + 1) Xt0]
   exact (nv_at l k p hp).2
theorem qnamed_law (j : Job) (w : World) (hj : yd_ w j) :
  Calls prog 153 #[.agg #[.int .i64 j.w, .int .i64 j.l, .int .i64 j.d, .int .i64 j.c, .int .i64 j.k, .int .i64 j.e, .slice j.a j.n j.cap]] w fun r w' => (∃ v, r = .returned v /\ w'.ownsRow w.heap.size 184 2 v (z9_ j).length (nv (z9_ j))) /\ Below w.heap.size w w' := by
 obtain ⟨i0, hi, hz0, hz1, hz2⟩ := info_parts info66
 have HJ := hid hj
 have hle := hj.le
 have hlen := hid hj.len
 clear hj
 go_enter func153, ntmps153
 go_upto_region 2 with (fail)
 have hb := zg_.new w #[.int .i64 j.w, .int .i64 j.l, .int .i64 j.d, .int .i64 j.c, .int .i64 j.k, .int .i64 j.e, .slice j.a j.n j.cap] 24
 have hB1 : Below w.heap.size w (w.alloc (.cells #[.int .i64 j.w, .int .i64 j.l, .int .i64 j.d, .int .i64 j.c, .int .i64 j.k, .int .i64 j.e, .slice j.a j.n j.cap] 24)) := (Below.refl _ _).alloc (Nat.le_refl _) _
 have hsz : (w.alloc (.cells #[.int .i64 j.w, .int .i64 j.l, .int .i64 j.d, .int .i64 j.c, .int .i64 j.k, .int .i64 j.e, .slice j.a j.n j.cap] 24)).heap.size = w.heap.size + 1 := by simp
 generalize w.alloc (.cells #[.int .i64 j.w, .int .i64 j.l, .int .i64 j.d, .int .i64 j.c, .int .i64 j.k, .int .i64 j.e, .slice j.a j.n j.cap] 24) = W1 at hb hB1 hsz ⊢
 have c0 := hb.cell 0
 have c1 := hb.cell 1
 have c2 := hb.cell 2
 have c3 := hb.cell 3
 have c4 := hb.cell 4
 have c5 := hb.cell 5
 have c6 := hb.cell 6
 simp only [gtA, gtB, gtC] at c0 c1 c2 c3 c4 c5 c6
 have C6 := hid c6
 have HB1 := hid hB1
 have HSZ := hid hsz
 clear hb hB1 hsz
 go_wp2_with fail
 refine (xn_ j _ (HJ.out.below HB1.out)).mono ?_
 rintro e W2 ⟨rfl, B2⟩
 have HB2 := hid (show Below (w.heap.size + 1) W1 W2 by rw [← HSZ.out]; exact B2)
 clear B2 c0 c1 c2 c3 c4 c5 c6
 have hfin : ∀ wr, Below (w.heap.size + 1) W1 wr -> Below w.heap.size w wr := fun wr h => HB1.out.trans (h.mono Xt0)
 have HFIN := hid hfin
 clear hfin
 cases hok : okB j
 ·have hnm := hid (qG_ hok)
  rw [chk_no hok]
  clear hok
  go_wp2_with fail
  go_ret
  exact ⟨⟨_, rfl, by rw [hnm.out]; exact World.ownsRow_nil _ _ _ _⟩, HFIN.out _ HB2.out⟩
 ·have hnm := hid (xq_ hok)
  have hT := hid (jg_ hok)
  have hn4 := (okB_n hok).2
  have hn4i : (j.n : Int) <= 4 := by omega
  rw [chk_ok hok]
  clear hok
  go_wp2_with fail
  go_loopw [3, 4] (fun v i wr => ∃ k : Nat, k <= j.n /\ i = .int .i64 (k : Int) /\ wr.ownsRow (w.heap.size + 1) 184 2 v (nmL 0 (j.T.take k)).length (nv (nmL 0 (j.T.take k))) /\ Below (w.heap.size + 1) W1 wr) (fun _ i _ => j.n - (intOf i).toNat)
  case atStart => exact ⟨0, by omega, rfl, World.ownsRow_nil _ _ _ _, HB2.out⟩
  case round =>
   clear HB2
   obtain ⟨k, hk, rfl, hown, hK⟩ := hrel
   have c6 := (hK.cell (p := ⟨w.heap.size, 6, none⟩) Xt5).trans C6.out
   by_cases hlt : k < j.n
   ·have hkl : (k : Int) < (j.n : Int) := by omega
    have hkT : k < j.T.length := by rw [hlen.out]; exact hlt
    obtain ⟨hx0, hx2⟩ := hT.out k hkT
    obtain ⟨x, hx⟩ : ∃ x : Nat, j.T.getD k 0 = (x : Int) := ⟨(j.T.getD k 0).toNat, by omega⟩
    have hx2 : x <= 2 := by omega
    have hx2i : (x : Int) <= 2 := by omega
    have HX := hid hx
    have e0 := nmP_zero j.T k
    rw [← e0] at hown
    have HO := hid hown
    have HK := hid hK
    clear hx hkT e0 hown hK
    go_wp2_with fail
    go_loopw [3, 5] (fun v i wr => ∃ m : Nat, m <= x + 1 /\ i = .int .i64 ((m : Int) - 1) /\ wr.ownsRow (w.heap.size + 1) 184 2 v (nmP j.T k m).length (nv (nmP j.T k m)) /\ Below (w.heap.size + 1) W1 wr) (fun _ i _ => 5 - (intOf i + 1).toNat)
    case atStart => exact ⟨0, by omega, rfl, HO.out, HK.out⟩
    case round =>
     clear HO HK c6
     obtain ⟨m, hm, rfl, hown, hK⟩ := hrel
     have c6 := (hK.cell (p := ⟨w.heap.size, 6, none⟩) Xt5).trans C6.out
     obtain ⟨b1, o1, ea, d1⟩ := (HJ.out.ls.below (HFIN.out _ hK)).get k Xt72
     rw [HX.out] at d1
     rw [ea] at c6
     clear ea
     have hsz : w.heap.size + 1 <= wr.heap.size := by rw [← HSZ.out]; have := hK.size; rw [HSZ.out] at this ⊢; omega
     by_cases hmx : m < x + 1
     ·have hml : (m : Int) - 1 < (x : Int) := by omega
      have hq12 : (nmP j.T k m).length <= 20 := by
       exact Xb124
      have hL : (nmP j.T k (m + 1)).length = (nmP j.T k m).length + 1 := by rw [xp_]; simp
      have hV : nv (nmP j.T k (m + 1)) = nv (nmP j.T k m) ++ [.int .i64 (k : Int), .int .i64 ((m : Int) - 1)] := by rw [xp_, nv_append]; rfl
      obtain ⟨q, hq⟩ := gtx ((nmP j.T k m).length)
      rw [hq] at hown hL hq12
      have HL := hid hL
      have HV := hid hV
      have HO := hid hown
      have HK := hid hK
      clear hq hL hV hown hK
      go_wp2_with (at_builtin; refine wpList_append_own _ rfl (.tmp 26) (.tmp 30) 229 rfl (w.heap.size + 1) 184 i0 (.agg #[.int .i64 0, .int .i64 0]) 2 16 underlying229 hi hz0 hz1 hz2 rfl Xt4 _ q (nv (nmP j.T k m)) rfl (HO.out.alloc _) ⟨wr.heap.size, 0, none⟩ 1 1 [.int .i64 (k : Int), .int .i64 ((m : Int) - 1)] rfl rfl (cell_two_new _ _ _ _) (by intro u hu; simp at hu; rcases hu with rfl | rfl <;> rfl) Xt15 Xt0 Xt7 ?_)
      intro v4 w4 hown4 hgrow4 _
      rw [← HV.out, ← HL.out] at hown4
      have b4 : Below (w.heap.size + 1) W1 w4 := HK.out.trans (((Below.refl _ wr).alloc hsz _).grown hgrow4 Xt7 (fun j hj => (HO.out.lt j hj).1))
      have HO4 := hid hown4
      have HB4 := hid b4
      clear hown4 hgrow4 b4
      go_wp2_with fail
      go_roundw
      case rel => exact ⟨m + 1, by omega, by first | go_num | (congr 1; omega), HO4.out, HB4.out⟩
      case measure => simp [intOf]; omega
     ·have hml : ¬ (m : Int) - 1 < (x : Int) := by omega
      have hme : m = x + 1 := by omega
      have hnx := j1_ j.T k Xt72
      rw [HX.out, show ((x : Int) + 1).toNat = x + 1 by omega, ← hme] at hnx
      rw [hnx] at hown
      have HO := hid hown
      have HK := hid hK
      clear hnx hme hown hK
      go_wp2_with fail
      go_roundw
      case rel => exact ⟨k + 1, by omega, by go_num, HO.out, HK.out⟩
      case measure => simp [intOf]; omega
   ·have hkl : ¬ (k : Int) < (j.n : Int) := by omega
    have HE := hid (show wr.ownsRow w.heap.size 184 2 _ (z9_ j).length (nv (z9_ j)) by
     rw [List.take_of_length_le Xt84] at hown
     rw [hnm.out]; exact xZ_ Xt0 hown)
    have HK := hid hK
    clear hown hK
    go_wp2_with fail
    go_ret
    exact ⟨⟨_, rfl, HE.out⟩, HFIN.out _ HK.out⟩
theorem idx_split (l : List (Int × Int)) (k : Nat) (q : Int × Int) (h : l[k]? = some q) : idx 0 l = idx 0 (l.take k) ++ [(k, q.1, q.2)] ++ idx (k + 1) (l.drop (k + 1)) := by
 obtain ⟨hk, e⟩ := List.getElem?_eq_some_iff.1 h
 have e1 : l = l.take k ++ (q :: l.drop (k + 1)) := by rw [← e, ← List.drop_eq_getElem_cons hk, List.take_append_drop]
 conv => lhs; rw [e1]
 rw [qp_, idx, List.length_take, Nat.min_eq_left Xt0, Nat.zero_add]
 simp
theorem j9_ : ∀ (l : List (Int × Int)) (s : Nat) (x : Tr), x ∈ idx s l -> ∃ i, l[i]? = some (x.2.1, x.2.2) /\ x.1 = s + i
 | [], s, x, h => by simp [idx] at h
 | p :: r, s, x, h => by
  rcases List.mem_cons.1 h with e | h
  ·subst e; exact ⟨0, by simp, by simp⟩
  ·obtain ⟨i, h1, h2⟩ := j9_ r (s + 1) x h
   exact ⟨i + 1, by simpa using h1, by omega⟩
theorem trV_at (j : Job) (a b : Int) (k : Nat) (h : (z9_ j)[k]? = some (a, b)) (hno : ∀ i < k, (z9_ j)[i]? ≠ some (a, b)) : trV j a b = ((k : Int), a, b, true) := by
 unfold trV
 rw [idx_split _ _ _ h]
 refine xK_ Xt5 fun y hy => ?_
 obtain ⟨i, h1, h2⟩ := j9_ _ _ _ hy
 rw [decide_eq_false_iff_not]
 rintro ⟨e1, e2⟩
 rw [e1, e2] at h1
 rw [List.getElem?_take] at h1
 split at h1
 ·exact hno i Xt0 h1
 ·cases h1
theorem trV_none (j : Job) (a b : Int) (hno : ∀ i < (z9_ j).length, (z9_ j)[i]? ≠ some (a, b)) : trV j a b = (0, 0, 0, false) := by
 unfold trV
 refine xL_ fun y hy => ?_
 obtain ⟨i, h1, h2⟩ := j9_ _ _ _ hy
 rw [decide_eq_false_iff_not]
 rintro ⟨e1, e2⟩
 rw [e1, e2] at h1
 exact hno i (List.getElem?_eq_some_iff.1 h1).1 h1
theorem QG_ (j : Job) (a b : Int) (w : World) (hj : yd_ w j) :
  Calls prog 132 #[.agg #[.int .i64 j.w, .int .i64 j.l, .int .i64 j.d, .int .i64 j.c, .int .i64 j.k, .int .i64 j.e, .slice j.a j.n j.cap], .int .i64 a, .int .i64 b] w fun r w' => r = .returned (.tuple #[.int .i64 (trV j a b).1, .int .i64 (if (trV j a b).2.2.2 then 0 else 2)]) /\ Below w.heap.size w w' := by
 have HJ := hid hj
 have hnl := QM_ j (by have := hj.len; omega)
 have HA := hid (trV_at j a b)
 have HN := hid (trV_none j a b)
 clear hj
 have hQ := hid (fun (k : Nat) (h : trV j a b = ((k : Int), a, b, true)) => show Value.tuple #[.int .i64 (k : Int), .int .i64 0] = .tuple #[.int .i64 (trV j a b).1, .int .i64 (if (trV j a b).2.2.2 then 0 else 2)] by rw [h]; rfl)
 have hQ0 := hid (fun (h : trV j a b = (0, 0, 0, false)) => show Value.tuple #[.int .i64 0, .int .i64 2] = .tuple #[.int .i64 (trV j a b).1, .int .i64 (if (trV j a b).2.2.2 then 0 else 2)] by rw [h]; rfl)
 obtain ⟨T, hT⟩ := gtx (Value.tuple #[.int .i64 (trV j a b).1, .int .i64 (if (trV j a b).2.2.2 then 0 else 2)])
 rw [hT] at hQ hQ0 ⊢
 clear hT
 go_enter func132, ntmps132
 go_wp2_with fail
 have hB1 : Below w.heap.size w (w.alloc (.cells #[.int .i64 j.w, .int .i64 j.l, .int .i64 j.d, .int .i64 j.c, .int .i64 j.k, .int .i64 j.e, .slice j.a j.n j.cap] 24)) := (Below.refl _ _).alloc (Nat.le_refl _) _
 generalize w.alloc (.cells #[.int .i64 j.w, .int .i64 j.l, .int .i64 j.d, .int .i64 j.c, .int .i64 j.k, .int .i64 j.e, .slice j.a j.n j.cap] 24) = W1 at hB1 ⊢
 refine (qnamed_law j _ (HJ.out.below hB1)).mono ?_
 rintro e W2 ⟨⟨v, rfl, hown⟩, B2⟩
 obtain ⟨la, lc, rfl, hR⟩ := own_nmr hown rfl
 have HB2 := hid (za_ hB1 B2)
 have HR := hid hR
 clear hown B2 hB1 hR
 generalize z9_ j = l at HR hnl HA HN
 obtain ⟨n, hn⟩ := gtx (l.length)
 rw [hn] at hnl HN ⊢
 have HLN := hid hn
 have hni : (n : Int) <= 12 := by omega
 clear hn
 go_wp2_with fail
 go_loopw [9] (fun i wr => ∃ k : Nat, k <= n /\ i = .int .i64 (k : Int) /\ Hid (∀ i < k, l[i]? ≠ some (a, b)) /\ wr = W2) (fun i _ => n - (intOf i).toNat)
 case atStart => exact ⟨0, by omega, rfl, hid (fun i hi => absurd hi Xt0), rfl⟩
 case round =>
  obtain ⟨k, hk, rfl, hno, rfl⟩ := hrel
  by_cases hlt : k < n
  ·have hkl : (k : Int) < (n : Int) := by omega
   obtain ⟨p, hp⟩ : ∃ p, l[k]? = some p := ⟨_, List.getElem?_eq_getElem Xt74⟩
   obtain ⟨b1, o1, ea, d0, d1⟩ := HR.out k p hp
   obtain ⟨x, y⟩ := p
   simp only at d0 d1
   have HP := hid hp
   subst ea
   clear hp
   by_cases q1 : x = a
   ·have t1 : (x == a) = true := by simpa using q1
    by_cases q2 : y = b
    ·have t2 : (y == b) = true := by simpa using q2
     have HV := hid (HA.out k (by rw [HP.out, q1, q2]) hno.out)
     clear q1 q2
     go_wp2_with fail
     try rw [Exit.noGoto_ret]
     go_ret2
     exact ⟨congrArg Ending.returned (hQ.out k HV.out), HB2.out⟩
    ·have t2 : (y == b) = false := by simpa using q2
     have HN2 := hid (show ∀ i < k + 1, l[i]? ≠ some (a, b) from jstep hno.out (by rw [HP.out]; intro h; simp at h; exact q2 h.2))
     clear q1 q2
     exact Xb91
   ·have t1 : (x == a) = false := by simpa using q1
    have HN2 := hid (show ∀ i < k + 1, l[i]? ≠ some (a, b) from jstep hno.out (by rw [HP.out]; intro h; simp at h; exact q1 h.1))
    clear q1
    exact Xb91
  ·have hkl : ¬ (k : Int) < (n : Int) := by omega
   have HV := hid (HN.out (fun i hi => hno.out i Xt0))
   go_wp2_with fail
   try rw [Exit.noGoto_ret]
   go_ret2
   exact ⟨congrArg Ending.returned (hQ0.out HV.out), HB2.out⟩
end
end Go.Proofs.YthmofoldmdafoaaGreat
