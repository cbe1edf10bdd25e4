/- CellsApart: pieces that are kept. -/
import Derived.Test.YtbjhcbiihekceaaCws
import Derived.Deep.CutBlock
namespace Go.Proofs.Ytbjhcbiihekceaa
open Go.ChangeShapes Go.WideShapes Go.ChangeAt Go.RowKit Go.Maps
set_option linter.unusedVariables false
set_option linter.unusedSimpArgs false
theorem own_apart {w : World} {b1 b2 n m s1 s2 : Nat} {e1 e2 : TypeId} {v u : Value} {xs ys : List Value} (h : w.ownsRow b1 e1 s1 v n xs) (k : w.ownsRow b2 e2 s2 u m ys) (hne : e1 ≠ e2) : v.ownBlock = none ∨ v.ownBlock ≠ u.ownBlock := by
  rcases h.2 with ⟨rfl, _⟩ | ⟨g, cap, cur, rfl, _, hg, _⟩
  · exact .inl rfl
  · refine .inr fun e => ?_
    rcases k.2 with ⟨rfl, _⟩ | ⟨g2, cap2, cur2, rfl, _, hg2, _⟩
    · cases e
    · have e' : g = g2 := by simpa [Value.ownBlock] using e
      subst e'
      rw [hg] at hg2
      simp at hg2
      exact hne hg2.2
/-- A piece that is kept: its cells are taken, its last word tells its size. -/
def PcOk (n : Nat) (F : Nat → Int) (G : Nat → Bool) (x : Nat × Nat) : Prop := 64 ≤ x.1 ∧ 1 ≤ x.2 ∧ x.2 ≤ 256 ∧ x.1 + x.2 ≤ n ∧ (∀ j, x.1 ≤ j → j < x.1 + x.2 → G j = true) ∧ F (x.1 + x.2 - 1) = (x.2 : Int)
def uA (P : List (Nat × Nat)) : List Value := P.map fun x => Value.int .u64 (x.1 : Int)
def uM (P : List (Nat × Nat)) : List Value := P.map fun x => Value.int .i64 (x.2 : Int)
theorem uA_snoc (P : List (Nat × Nat)) (x : Nat × Nat) : uA (P ++ [x]) = uA P ++ [.int .u64 (x.1 : Int)] := by simp [uA]
theorem uM_snoc (P : List (Nat × Nat)) (x : Nat × Nat) : uM (P ++ [x]) = uM P ++ [.int .i64 (x.2 : Int)] := by simp [uM]
theorem apart_of {n a S : Nat} {F : Nat → Int} {G : Nat → Bool} {x : Nat × Nat} (hx : PcOk n F G x) (hr : Room G n S a) (hS : 1 ≤ S) : a + S ≤ x.1 ∨ x.1 + x.2 ≤ a := by
  by_cases h1 : a + S ≤ x.1
  · exact Or.inl h1
  · refine Or.inr (Nat.le_of_not_lt fun h2 => ?_)
    have e1 := hr.2.2 (max a x.1) (by omega) (by have := hx.2.1; omega)
    have e2 := hx.2.2.2.2.1 (max a x.1) (by omega) (by have := hx.2.1; omega)
    rw [e1] at e2
    cases e2
/-- Words laid behind each other, each its place and one. -/
def stp (F : Nat → Int) (a k : Nat) : Nat → Int := fun j => if a ≤ j ∧ j < a + k then ((j - a + 1 : Nat) : Int) else F j
theorem stp_zero (F : Nat → Int) (a : Nat) : stp F a 0 = F := funext fun j => if_neg (by omega)
theorem stp_succ (F : Nat → Int) (a k : Nat) : stp F a (k + 1) = upd (stp F a k) (a + k) ((k : Int) + 1) := funext fun j => by
  show (if a ≤ j ∧ j < a + (k + 1) then ((j - a + 1 : Nat) : Int) else F j) = if j = a + k then (k : Int) + 1 else (if a ≤ j ∧ j < a + k then ((j - a + 1 : Nat) : Int) else F j)
  by_cases e : j = a + k
  · subst e; rw [if_pos (by omega), if_pos rfl]; omega
  · rw [if_neg e]
    by_cases h : a ≤ j ∧ j < a + k
    · rw [if_pos h, if_pos (by omega)]
    · rw [if_neg h, if_neg (by omega)]
theorem stp_out (F : Nat → Int) (a k j : Nat) (h : j < a ∨ a + k ≤ j) : stp F a k j = F j := if_neg (by omega)
theorem stp_last (F : Nat → Int) (a k : Nat) (h : 1 ≤ k) : stp F a k (a + k - 1) = k := by
  unfold stp
  rw [if_pos (by omega)]
  omega
theorem fill_out {α : Type} (F : Nat → α) (a k : Nat) (x : α) (j : Nat) (h : j < a ∨ a + k ≤ j) : fill F a k x j = F j := if_neg (by omega)
theorem fill_in {α : Type} (F : Nat → α) (a k : Nat) (x : α) (j : Nat) (h1 : a ≤ j) (h2 : j < a + k) : fill F a k x j = x := if_pos ⟨h1, h2⟩
theorem PcOk.move {n a S : Nat} {F F' : Nat → Int} {G G' : Nat → Bool} {x : Nat × Nat} (hx : PcOk n F G x) (h : a + S ≤ x.1 ∨ x.1 + x.2 ≤ a) (hF : ∀ j, j < a ∨ a + S ≤ j → F' j = F j) (hG : ∀ j, j < a ∨ a + S ≤ j → G' j = G j) : PcOk n F' G' x :=
  ⟨hx.1, hx.2.1, hx.2.2.1, hx.2.2.2.1, fun j h1 h2 => by rw [hG j (by omega)]; exact hx.2.2.2.2.1 j h1 h2, by rw [hF _ (by have := hx.2.1; omega)]; exact hx.2.2.2.2.2⟩
theorem PcOk.new {n a S : Nat} {F0 : Nat → Int} {G0 : Nat → Bool} (hr : Room G0 n S a) (h1 : 1 ≤ S) (h2 : S ≤ 256) : PcOk n (stp (fill F0 a S 0) a S) (fill G0 a S true) (a, S) :=
  ⟨hr.1, h1, h2, hr.2.1, fun j h1 h2 => fill_in _ _ _ _ _ h1 h2, stp_last _ _ _ h1⟩
/-- Where a row of the call's own lies. -/
theorem own_form {w : World} {base L : Nat} {e : TypeId} {v : Value} {xs : List Value} (h : w.ownsRow base e 1 v L xs) : ∃ a cap, v = .slice a L cap ∧ ∀ i, i < L → ∃ g, a = some ⟨g, 0, none⟩ ∧ base ≤ g ∧ w.cell? ⟨g, i, none⟩ = xs[i]? := by
  have hl := h.1
  rcases h.2 with ⟨rfl, rfl⟩ | ⟨g, cap, cur, rfl, hb, hg, h2, _, hs, ht⟩
  · exact ⟨none, 0, rfl, fun i hi => by omega⟩
  · refine ⟨_, _, rfl, fun i hi => ⟨g, rfl, hb, ?_⟩⟩
    have hB : BoxC w g cur e := hg
    rw [hB.cell, ← ht, List.getElem?_take, if_pos (by omega)]
    simp
theorem own_off {S : Nat → Prop} {w w' : World} {base L : Nat} {e : TypeId} {v : Value} {xs : List Value} (h : w.ownsRow base e 1 v L xs) (o : Off S w w') (hS : ∀ k, S k → k < base) : w'.ownsRow base e 1 v L xs := by
  refine ⟨h.1, h.2.imp id fun ⟨g, cap, cur, e1, e2, e3, r⟩ => ⟨g, cap, cur, e1, e2, ?_, r⟩⟩
  exact (o.block g (Array.getElem?_eq_some_iff.1 e3).1 (fun hs => by have := hS g hs; omega)).trans e3
/-- What stands ahead of round k. -/
structure St (w : World) (n k : Nat) (vA vM : Value) (P : List (Nat × Nat)) (m : Nat) (F : Nat → Int) (G : Nat → Bool) (D : DataW Unit) (W : World) : Prop where
  ar : Ar W (w.heap.size + 1 + 1) w.heap.size (w.heap.size + 1) n m F G D
  mle : m ≤ k
  bel : Below w.heap.size w W
  rA : W.ownsRow (w.heap.size + 3) 62 1 vA P.length (uA P)
  rM : W.ownsRow (w.heap.size + 3) 3 1 vM P.length (uM P)
  pk : P.length ≤ k
  ok : ∀ x ∈ P, PcOk n F G x
def bcm (w : World) : Nat → Prop := fun j => j = w.heap.size ∨ j = w.heap.size + 1
theorem St.off {w W W' : World} {n k m m' : Nat} {vA vM : Value} {P : List (Nat × Nat)} {F F' : Nat → Int} {G G' : Nat → Bool} {D D' : DataW Unit} (h : St w n k vA vM P m F G D W) (a : Ar W' (w.heap.size + 1 + 1) w.heap.size (w.heap.size + 1) n m' F' G' D') (o : Off (fun j => j = w.heap.size ∨ j = w.heap.size + 1) W W') (k' : Nat) (hk : k ≤ k') (hm : m' ≤ k') (hok : ∀ x ∈ P, PcOk n F' G' x) : St w n k' vA vM P m' F' G' D' W' :=
  ⟨a, hm, o.below h.bel h.bel.size (fun k e => by omega), own_off h.rA o (fun k e => by omega), own_off h.rM o (fun k e => by omega), Nat.le_trans h.pk hk, hok⟩
theorem St.below {w W W' : World} {n k m : Nat} {vA vM : Value} {P : List (Nat × Nat)} {F : Nat → Int} {G : Nat → Bool} {D : DataW Unit} (h : St w n k vA vM P m F G D W) (b : Below W.heap.size W W') (k' : Nat) (hk : k ≤ k') : St w n k' vA vM P m F G D W' :=
  h.off (h.ar.below b) (Off.of b) k' hk (Nat.le_trans h.mle hk) h.ok

theorem load_at {W : World} {p bc bm n m : Nat} {f : Nat → Int} {g : Nat → Bool} {D : DataW Unit} (h : Ar W p bc bm n m f g D) (i : Nat) (I v : Int) (hI : I = i) (hi : i < n) (hv : f i = v) : Calls Try.prog 35 #[.pointer (some ⟨p, 0, none⟩), .int .u64 I] W fun e w' => e = .returned (.tuple #[.int .u64 v, .int .i64 0]) ∧ Ar w' p bc bm n m f g D ∧ Below W.heap.size W w' := by
  subst hI hv
  exact (load_law h i hi).mono fun e w' h' => ⟨h'.1, h.below h'.2, h'.2⟩
theorem taken_at {W : World} {p bc bm n m : Nat} {f : Nat → Int} {g : Nat → Bool} {D : DataW Unit} (h : Ar W p bc bm n m f g D) (i : Nat) (I : Int) (b : Bool) (hI : I = i) (hi : i < n) (hb : g i = b) : Calls Try.prog 36 #[.pointer (some ⟨p, 0, none⟩), .int .u64 I] W fun e w' => e = .returned (.bool b) ∧ W = w' := by
  subst hI hb
  refine (taken_law h i).mono fun e w' h' => ⟨?_, h'.2⟩
  rw [h'.1, decide_eq_true hi, Bool.true_and]
theorem store_at {W : World} {p bc bm n m : Nat} {f : Nat → Int} {g : Nat → Bool} {D : DataW Unit} (h : Ar W p bc bm n m f g D) (i : Nat) (I x : Int) (hI : I = i) (hi : i < n) : Calls Try.prog 37 #[.pointer (some ⟨p, 0, none⟩), .int .u64 I, .int .u64 x] W fun e w' => e = .returned (.int .i64 0) ∧ Ar w' p bc bm n m (upd f i x) g D ∧ Off (fun k => k = bc) W w' := by
  subst hI
  exact store_law h i hi x

theorem ar_grown {W W' : World} {p bc bm n m : Nat} {f : Nat → Int} {g : Nat → Bool} {D : DataW Unit} {row : Option Nat} (h : Ar W p bc bm n m f g D) (hg : W.grownBy W' row) (hr : ∀ j, row = some j → j ≠ p ∧ j ≠ bc ∧ j ≠ bm) : Ar W' p bc bm n m f g D :=
  h.off (S := fun j => row = some j) ⟨hg.os, hg.tape, hg.output, hg.size, fun k hk hn => hg.block k hk (fun e => hn e.symm)⟩ (fun e => (hr _ e).1 rfl) (fun e => (hr _ e).2.1 rfl) (fun e => (hr _ e).2.2 rfl)

theorem own_cell {w : World} {base L cap : Nat} {e : TypeId} {a : Option Addr} {xs : List Value} (h : w.ownsRow base e 1 (.slice a L cap) L xs) (i : Nat) (hi : i < L) : ∃ g, a = some ⟨g, 0, none⟩ ∧ w.cell? ⟨g, i, none⟩ = xs[i]? := by
  obtain ⟨a', cap', e, hc⟩ := own_form h
  cases e
  obtain ⟨g, e, _, h'⟩ := hc i hi
  exact ⟨g, e, h'⟩
end Go.Proofs.Ytbjhcbiihekceaa
