/- known: the chapter's rows. Part 1. -/
import Derived.OrdersHeld
import Derived.Deep.RegionHeld
import Derived.KernelRfl
import Derived.Test.YtglkndoghnblcaaGreatDoorRows
import Derived.WalkKit
import Derived.WalkMore
import Derived.ProofKit
import Derived.Outline
import Derived.WalkLawsBesides
import Derived.WalkSpells
import Derived.Lib.Hide
import Derived.Below
import Derived.WalkSmall
import Derived.BigRegion
import Derived.Laws.Rows
import Derived.Laws.BytesArg
import Derived.Laws.Concat
import Derived.Laws.OwnMore
import Derived.Deep.QuietTactic
import Derived.BigQuiet
import Derived.Deep.RegionHeld3
import Derived.StillTailTactics
import Derived.Laws.BitsAllLaws
import Derived.Deep.CutBlock
import Derived.Deep.DeepCutAuto
import Derived.RangeFuncBox
import Derived.Deep.MidRow
import Derived.Deep.WholeRow
namespace Go.Proofs.YtglkndoghnblcaaGreatDoor
/-- Take number 'i' first (OrdersHeld's move, its side conditions found by themselves). -/
theorem tk {P : Program} {ops : Array Oper} {Q : Exit → Act → World → Prop} {md : Region.Mode} {S : World → Prop} (i : Nat) (v : Value) {oi : Oper} {fuel : Nat} {listed : Array Bool} {a : Act} {w : World}
    (hi : (ops.toList.drop i).head? = some oi) (hy : YieldsIf P ops S oi v a)
    (h : wpAnyH P md ops Q S fuel (listed.setIfInBounds i true) (a.put oi.dst v) w)
    (hb : (Region.noSelect ops && Region.free md ops listed i && (Region.ready md ops listed).contains i) = true := by kernel_rfl)
    (hQ : ∀ c a w, Q (.panic c) (a.put oi.dst v) w → Q (.panic c) a w := by intro _ _ _ h; exact h) (hS : S w := by assumption) : wpAnyH P md ops Q S (fuel + 1) listed a w := by
  simp only [Bool.and_eq_true] at hb
  exact wpAnyH_take (oi := oi) (by simpa [List.head?_drop] using hi) hb.1.1 hb.1.2 hb.2 hQ hy hS h
/-- Take number 'i' first; the frame behind it is written out. -/
theorem tp {P : Program} {ops : Array Oper} {Q : Exit → Act → World → Prop} {md : Region.Mode} {S : World → Prop} (i : Nat) (v : Value) {oi : Oper} {fuel : Nat} {listed : Array Bool} {a a' : Act} {w : World}
    (hi : (ops.toList.drop i).head? = some oi) (hy : YieldsIf P ops S oi v a)
    (h : wpAnyH P md ops Q S fuel (listed.setIfInBounds i true) a' w)
    (ha : a' = a.put oi.dst v := by (simp only [Act.put, List.setIfInBounds_toArray, List.set_cons_zero, List.set_cons_succ]; rfl))
    (hb : (Region.noSelect ops && Region.free md ops listed i && (Region.ready md ops listed).contains i) = true := by kernel_rfl)
    (hQ : ∀ c a w, Q (.panic c) (a.put oi.dst v) w → Q (.panic c) a w := by intro _ _ _ h; exact h) (hS : S w := by assumption) : wpAnyH P md ops Q S (fuel + 1) listed a w := tk i v hi hy (ha ▸ h) hb hQ hS
/-- Number 'i' is not wanted: what it gives is undefined. -/
theorem tn {P : Program} {ops : Array Oper} {Q : Exit → Act → World → Prop} {md : Region.Mode} {S : World → Prop} (i : Nat) {oi : Oper} {fuel : Nat} {listed : Array Bool} {a a' : Act} {w : World}
    (hi : (ops.toList.drop i).head? = some oi) (h : wpAnyH P md ops Q S fuel (listed.setIfInBounds i true) a' w)
    (hy : YieldsIf P ops S oi undef a := by exact .inr ⟨by rfl, rfl⟩)
    (ha : a' = a.put oi.dst undef := by (simp only [Act.put, List.setIfInBounds_toArray, List.set_cons_zero, List.set_cons_succ]; rfl))
    (hb : (Region.noSelect ops && Region.free md ops listed i && (Region.ready md ops listed).contains i) = true := by kernel_rfl)
    (hQ : ∀ c a w, Q (.panic c) (a.put oi.dst undef) w → Q (.panic c) a w := by intro _ _ _ h; exact h) (hS : S w := by assumption) : wpAnyH P md ops Q S (fuel + 1) listed a w := tp i undef hi hy h ha hb hQ hS
/-- One that is ready. -/
theorem ar {P : Program} {ops : Array Oper} {Q : Exit → Act → World → Prop} {md : Region.Mode} {S : World → Prop} {fuel : Nat} {listed : Array Bool} {a : Act} {w : World} {i : Nat} {o : Oper} {rs : List Nat}
    (ho : (ops.toList.drop i).head? = some o)
    (h : ∀ (K' : Act → World → Prop), Shut (∀ (a : Act) (w : World), S w → (S w → wpAnyH P md ops Q S fuel (listed.setIfInBounds i true) a w) → K' a w) → if Region.wanted o (yielded ops a.tmps) = true then Oper.wp P o a w K' Q else K' (a.put o.dst undef) w)
    (t : AllReadyH P md ops Q S fuel listed a w rs) : AllReadyH P md ops Q S fuel listed a w (i :: rs) := AllReadyH.cons (by simpa [List.head?_drop] using ho) h t
/-- Just one is ready. -/
theorem a1 {P : Program} {ops : Array Oper} {Q : Exit → Act → World → Prop} {md : Region.Mode} {S : World → Prop} {fuel : Nat} {listed : Array Bool} {a : Act} {w : World} (i : Nat) {o : Oper}
    (ho : (ops.toList.drop i).head? = some o)
    (h : ∀ (K' : Act → World → Prop), Shut (∀ (a : Act) (w : World), S w → (S w → wpAnyH P md ops Q S fuel (listed.setIfInBounds i true) a w) → K' a w) → if Region.wanted o (yielded ops a.tmps) = true then Oper.wp P o a w K' Q else K' (a.put o.dst undef) w)
    (hr : Region.ready md ops listed = [i] := by kernel_rfl) : wpAnyH P md ops Q S (fuel + 1) listed a w := wpAnyH_ready hr (by simp) (ar ho h AllReadyH.nil)
end Go.Proofs.YtglkndoghnblcaaGreatDoor
namespace Go.Proofs.YtglkndoghnblcaaGreatDoor
open Go.ChangeShapes Go.WideShapes Go.ChangeAt Go.RowKit
set_option linter.unusedVariables false
set_option linter.unusedSimpArgs false

theorem ret_bool {a b : Bool} (h : a = b) : Ending.returned (.bool a) = .returned (.bool b) := by rw [h]
theorem step_below {w a b : World} (h : Below w.heap.size w a) (k : Below a.heap.size a b) : Below w.heap.size w b := h.trans (k.mono h.size)
theorem grown_of_below {w w' : World} (h : Below w.heap.size w w') : w.grownBy w' none := ⟨h.os, h.tape, h.output, h.size, fun k hk _ => h.block k hk⟩
theorem jstep {P : Nat → Prop} {k : Nat} (h : ∀ j < k, P j) (hk : P k) : ∀ j < k + 1, P j := fun j hj => by
  rcases (show j < k ∨ j = k from by omega) with h' | rfl
  · exact h j h'
  · exact hk
theorem addr_add (b off j : Nat) : (⟨b, off, none⟩ : Addr).add j = ⟨b, off + j, none⟩ := by
  unfold Addr.add
  by_cases h : j = 0 <;> simp [h]
theorem cell_new (w : World) (cs : Array Value) (t : TypeId) (fr : Nat × Nat) (k : Nat) : (w.alloc (.cells cs t fr)).cell? ⟨w.heap.size, k, none⟩ = cs[k]? := by
  have h := heap_alloc_new w (.cells cs t fr)
  simp only [World.cell?]
  rw [h]
  simp

def iv (K : IntKind) (L : List Int) : List Value := L.map fun x => .int K x
theorem iv_append (K : IntKind) (a b : List Int) : iv K (a ++ b) = iv K a ++ iv K b := by simp [iv]
theorem iv_one (K : IntKind) (L : List Int) : ∀ u ∈ iv K L, u.oneCell' = true := fun u hu => by
  simp only [iv, List.mem_map] at hu; obtain ⟨x, _, rfl⟩ := hu; rfl
/-- A list of numbers that lies somewhere. -/
def Rd (K : IntKind) (W : World) (a : Option Addr) (L : List Int) : Prop := ∀ k < L.length, ∃ b off, a = some ⟨b, off, none⟩ ∧ W.cell? ⟨b, off + k, none⟩ = some (.int K (L.getD k 0))
theorem Rd.below {K : IntKind} {W W' : World} {a : Option Addr} {L : List Int} (h : Rd K W a L) (hb : Below W.heap.size W W') : Rd K W' a L := fun k hk => by
  obtain ⟨b, off, e, hc⟩ := h k hk
  exact ⟨b, off, e, (hb.cell (p := ⟨b, off + k, none⟩) (World.block_lt_of_cell? W _ hc)).trans hc⟩
theorem Rd.nil (K : IntKind) (W : World) (a : Option Addr) : Rd K W a [] := fun k hk => absurd hk (by simp)
theorem Rd.take {K : IntKind} {W : World} {a : Option Addr} {L : List Int} (h : Rd K W a L) (k : Nat) : Rd K W a (L.take k) := fun j hj => by
  have hj' : j < k ∧ j < L.length := by simp at hj; omega
  obtain ⟨b, off, e, hc⟩ := h j hj'.2
  exact ⟨b, off, e, by rw [hc]; simp [List.getD, List.getElem?_take, hj'.1]⟩
theorem Rd.drop {K : IntKind} {W : World} {b off : Nat} {L : List Int} (h : Rd K W (some ⟨b, off, none⟩) L) (s : Nat) : Rd K W (some ⟨b, off + s, none⟩) (L.drop s) := fun k hk => by
  have hk' : s + k < L.length := by simp at hk; omega
  obtain ⟨b', off', e, hc⟩ := h (s + k) hk'
  cases e
  refine ⟨b, off + s, rfl, ?_⟩
  rw [Nat.add_assoc, hc]
  simp [List.getD, List.getElem?_drop]
/-- A list of numbers, as a slice of it lies. -/
structure Ls (K : IntKind) (W : World) (a : Option Addr) (cap : Nat) (L : List Int) : Prop where
  rd : Rd K W a L
  nl : a = none → L = [] ∧ cap = 0
  le : L.length ≤ cap
theorem Ls.below {K : IntKind} {W W' : World} {a : Option Addr} {cap : Nat} {L : List Int} (h : Ls K W a cap L) (hb : Below W.heap.size W W') : Ls K W' a cap L := ⟨h.rd.below hb, h.nl, h.le⟩
theorem Ls.drew {K : IntKind} {W : World} {a : Option Addr} {cap : Nat} {L : List Int} (h : Ls K W a cap L) : Ls K W.drew a cap L := ⟨h.rd, h.nl, h.le⟩
theorem Ls.nul (K : IntKind) (W : World) : Ls K W .none 0 [] := ⟨Rd.nil _ _ _, fun _ => ⟨rfl, rfl⟩, Nat.le_refl _⟩
theorem Ls.get {K : IntKind} {W : World} {a : Option Addr} {cap : Nat} {L : List Int} (h : Ls K W a cap L) (k : Nat) (hk : k < L.length) : ∃ b off, a = some ⟨b, off, none⟩ ∧ W.cell? ⟨b, off + k, none⟩ = some (.int K (L.getD k 0)) := h.rd k hk
/-- A slice's type, its element's. -/
structure Elt (K : IntKind) (t e : TypeId) (bs : Nat) : Prop where
  ut : Tryz.prog.underlying t = some (.slice e)
  inf : (Tryz.prog.info? e).map (fun i => (i.zero, i.size, i.bytes)) = some (some (.int K 0), 1, bs)
  small : bs ≤ 8
theorem eltB : Elt .u8 54 5 1 := ⟨Tryz.underlying54, by kernel_rfl, by decide⟩
theorem own_ls {K : IntKind} {w : World} {base n : Nat} {e : TypeId} {v : Value} {L : List Int} (h : w.ownsRow base e 1 v n (iv K L)) (hn : L.length = n) : ∃ a cap, v = .slice a n cap ∧ Ls K w a cap L ∧ (0 < n → ∃ g, a = some ⟨g, 0, .none⟩ ∧ base ≤ g) := by
  have h' := h
  rcases h.2 with ⟨e, h0⟩ | ⟨g, cap, cur, rfl, hg, _, hc, _⟩
  · have : L = [] := List.length_eq_zero_iff.1 (by omega)
    subst this h0
    exact ⟨.none, 0, e, Ls.nul _ _, fun h => absurd h (by simp)⟩
  · refine ⟨_, cap, rfl, ⟨fun k hk => ⟨g, 0, rfl, ?_⟩, fun e => (by cases e), by omega⟩, fun _ => ⟨g, rfl, hg⟩⟩
    rw [Nat.zero_add, h'.cellAt k (by omega)]
    simp [iv, List.getD, hk]
theorem rd_new (K : IntKind) (w : World) (L : List Int) (cs : Array Value) (t : TypeId) (fr : Nat × Nat) (h : cs = (iv K L).toArray) : Rd K (w.alloc (.cells cs t fr)) (some ⟨w.heap.size, 0, none⟩) L := fun k hk =>
  ⟨_, _, rfl, by rw [cell_new, Nat.zero_add, h]; simp [iv, List.getD, List.getElem?_eq_getElem hk]⟩
theorem ls_new (K : IntKind) (w : World) (L : List Int) (cs : Array Value) (t : TypeId) (fr : Nat × Nat) (h : cs = (iv K L).toArray) (n : Nat) (hn : L.length = n) : Ls K (w.alloc (.cells cs t fr)) (some ⟨w.heap.size, 0, none⟩) n L := ⟨rd_new K w L cs t fr h, fun e => (by cases e), by omega⟩

theorem run_append_ls {K : IntKind} {t e : TypeId} {bs : Nat} (E : Elt K t e bs) (w : World) (ty : TypeId) (base : Nat) (v : Value) (n : Nat) (xs : List Value) (hown : w.ownsRow base e 1 v n xs)
    (ad : Option Addr) (c len : Nat) (L : List Int) (hlen : L.length = len) (hL : Ls K w ad c L) (hb : n + len ≤ 1048576) (hbase : base ≤ w.heap.size) :
    ∃ v' w', (Builtin.append_ #[t, t] ty #[v, .slice ad len c]).run Tryz.prog w = .ok v' w' ∧ w'.ownsRow base e 1 v' (n + len) (xs ++ iv K L) ∧ w.grownBy w' v.ownBlock := by
  subst hlen
  obtain ⟨i0, hi, hz0, hz1, hz2⟩ := info_parts E.inf
  have hsm := E.small
  rcases ad with _ | ad
  · obtain ⟨rfl, rfl⟩ := hL.nl rfl
    exact ⟨v, w, run_append_owned_none (P := Tryz.prog) (w := w) base t ty e i0 1 E.ut hi v n xs hown, by simpa [iv] using hown, ⟨rfl, rfl, rfl, Nat.le_refl _, fun _ _ _ => rfl⟩⟩
  · obtain ⟨v', w', h1, h2, h3, _⟩ := run_append_own (P := Tryz.prog) w base t ty e i0 (.int K 0) 1 bs E.ut hi hz0 hz1 hz2 rfl (by decide) v n xs hown ad L.length c (iv K L) (by simp [iv]) (by
      intro j u hj
      have hjl : j < L.length := by have := (List.getElem?_eq_some_iff.1 hj).1; simpa [iv] using this
      obtain ⟨b, off, e, hc⟩ := hL.rd j hjl
      cases e
      have hu : u = .int K (L.getD j 0) := by
        simp [iv, hjl] at hj
        rw [← hj]; simp [List.getD, List.getElem?_eq_getElem hjl]
      rw [hu, addr_add]
      exact hc) (iv_one K L) (by unfold maxLen; omega) (Nat.le_trans (Nat.mul_le_mul hb hsm) (by decide)) hbase
    exact ⟨v', w', h1, h2, h3⟩
/-- An append of a list that is read, nil or not: in a straight walk, and in a region. -/
theorem wp_append_ls {K : IntKind} {t e : TypeId} {bs : Nat} (E : Elt K t e bs) {o : Oper} {a : Act} {w : World} {Kt : Act → World → Prop} {Q : Exit → Act → World → Prop} (s x : Operand)
    (ho : o.op = .call { callee := .builtin .append, args := #[s, x], argTypes := #[t, t] })
    (base : Nat) (v : Value) (n : Nat) (xs : List Value) (hs : a.eval s = v) (hown : w.ownsRow base e 1 v n xs)
    (ad : Option Addr) (c len : Nat) (L : List Int) (hlen : L.length = len) (hx : a.eval x = .slice ad len c) (hL : Ls K w ad c L)
    (hb : n + len ≤ 1048576) (hbase : base ≤ w.heap.size)
    (h : ∀ v' w', w'.ownsRow base e 1 v' (n + len) (xs ++ iv K L) → w.grownBy w' v.ownBlock → Kt (a.put o.dst v') w') :
    Oper.wp Tryz.prog o a w Kt Q := by
  obtain ⟨v', w', h1, h2, h3⟩ := run_append_ls E w o.type base v n xs hown ad c len L hlen hL hb hbase
  unfold Oper.wp execOp
  simp only [ho, resolve, invoke, builtin, Sem.run_bind, Sem.run_pure, Result.andThen_ok, List.map_toArray, List.map_cons, List.map_nil, hs, hx, h1]
  exact h v' w' h2 h3
theorem append_ls {K : IntKind} {t e : TypeId} {bs : Nat} (E : Elt K t e bs) {ops : Array Oper} {rest : List Oper} {o : Oper} {a : Act} {w : World} {Q : Exit → Act → World → Prop} (hgd : o.guard = none) (s x : Operand)
    (ho : o.op = .call { callee := .builtin .append, args := #[s, x], argTypes := #[t, t] })
    (base : Nat) (v : Value) (n : Nat) (xs : List Value) (hs : a.eval s = v) (hown : w.ownsRow base e 1 v n xs)
    (ad : Option Addr) (c len : Nat) (L : List Int) (hlen : L.length = len) (hx : a.eval x = .slice ad len c) (hL : Ls K w ad c L)
    (hb : n + len ≤ 1048576) (hbase : base ≤ w.heap.size)
    (h : ∀ v' w', w'.ownsRow base e 1 v' (n + len) (xs ++ iv K L) → w.grownBy w' v.ownBlock → wpList Tryz.prog ops Q rest (a.put o.dst v') w') :
    wpList Tryz.prog ops Q (o :: rest) a w :=
  wpList_plain hgd fun Kt hK => wp_append_ls E s x ho base v n xs hs hown ad c len L hlen hx hL hb hbase fun v' w' h1 h2 => hK _ _ (h v' w' h1 h2)
theorem step_append_ls {K : IntKind} {t e : TypeId} {bs : Nat} (E : Elt K t e bs) {ops : Array Oper} {o : Oper} {a : Act} {w : World} {Kt : Act → World → Prop} {Q : Exit → Act → World → Prop} {Z : Prop} (hgd : o.guard = none) (s x : Operand)
    (ho : o.op = .call { callee := .builtin .append, args := #[s, x], argTypes := #[t, t] })
    (base : Nat) (w0 : World) (hB0 : Below base w0 w) (v : Value) (n : Nat) (xs : List Value) (hs : a.eval s = v) (hown : w.ownsRow base e 1 v n xs)
    (ad : Option Addr) (c len : Nat) (L : List Int) (hlen : L.length = len) (hx : a.eval x = .slice ad len c) (hL : Ls K w ad c L)
    (hb : n + len ≤ 1048576) (hbase : base ≤ w.heap.size)
    (h : ∀ v' w', w'.ownsRow base e 1 v' (n + len) (xs ++ iv K L) → Below base w0 w' → w.grownBy w' v.ownBlock → Kt (a.put o.dst v') w') :
    if Region.wanted o (yielded ops a.tmps) = true then Oper.wp Tryz.prog o a w Kt Q else Z := by
  have hw : Region.wanted o (yielded ops a.tmps) = true := by simp [Region.wanted, hgd]
  rw [if_pos hw]
  exact wp_append_ls E s x ho base v n xs hs hown ad c len L hlen hx hL hb hbase fun v' w' h1 h2 => h v' w' h1 (hB0.grown h2 hbase (fun j hj => (hown.lt j hj).1)) h2
/-- A part of a list. -/
theorem Ls.hi {K : IntKind} {t e : TypeId} {bs : Nat} (E : Elt K t e bs) {W : World} {a : Option Addr} {cap : Nat} {L : List Int} (h : Ls K W a cap L) (n i : Nat) (hn : L.length = n) (hi : i ≤ n) :
    ∃ a' c', (∀ W', (Instr.slice t (.slice a n cap) .none (some (.int .i64 (i : Int))) .none).run Tryz.prog W' = .ok (.slice a' i c') W') ∧ Ls K W a' c' (L.take i) := by
  subst hn
  have hle := h.le
  refine ⟨a, cap, fun W' => ?_, ⟨h.rd.take i, fun e => by rw [(h.nl e).1]; exact ⟨by simp, (h.nl e).2⟩, by rw [List.length_take]; omega⟩⟩
  obtain ⟨i0, hi0, hz0, hz1, hz2⟩ := info_parts E.inf
  have hel : Tryz.prog.elem t = e := by simp [Program.elem, E.ut]
  rw [run_slice_h (P := Tryz.prog) (w := W') t a L.length cap (by rw [hel]; exact E.ut) .i64 i (by omega) (by omega)]
  have hs : ((sizeOf (Tryz.prog.elem t)).run Tryz.prog W') = .ok 1 W' := by rw [hel]; simp [sizeOf, typeInfo, hi0, hz1]
  rw [hs]
  cases a <;> simp [sliced, Result.andThen, Addr.add]
theorem Ls.lo {K : IntKind} {t e : TypeId} {bs : Nat} (E : Elt K t e bs) {W : World} {a : Option Addr} {cap : Nat} {L : List Int} (h : Ls K W a cap L) (n i : Nat) (hn : L.length = n) (hi : i ≤ n) :
    ∃ a' c', (∀ W', (Instr.slice t (.slice a n cap) (some (.int .i64 (i : Int))) .none .none).run Tryz.prog W' = .ok (.slice a' (n - i) c') W') ∧ Ls K W a' c' (L.drop i) := by
  subst hn
  have hle := h.le
  obtain ⟨i0, hi0, hz0, hz1, hz2⟩ := info_parts E.inf
  have hel : Tryz.prog.elem t = e := by simp [Program.elem, E.ut]
  refine ⟨if cap = i then a else a.map (·.add (i * 1)), cap - i, fun W' => ?_, ?_, ?_, by rw [List.length_drop]; omega⟩
  · rw [run_slice_l (P := Tryz.prog) (w := W') t a L.length cap (by rw [hel]; exact E.ut) .i64 i (by omega) (by omega)]
    have hs : ((sizeOf (Tryz.prog.elem t)).run Tryz.prog W') = .ok 1 W' := by rw [hel]; simp [sizeOf, typeInfo, hi0, hz1]
    rw [hs]
    rfl
  · by_cases hz : L.length = i
    · rw [List.drop_of_length_le (by omega)]; exact Rd.nil _ _ _
    · obtain ⟨b, off, e, _⟩ := h.rd 0 (by omega)
      subst e
      have hd := h.rd.drop i
      rw [if_neg (by omega)]
      by_cases h0 : i = 0
      · subst h0; simpa [Addr.add] using hd
      · simpa [Addr.add, h0] using hd
  · intro e
    have ha : a = .none := by
      by_cases hc : cap = i
      · rwa [if_pos hc] at e
      · rw [if_neg hc] at e; simpa using e
    obtain ⟨h1, h2⟩ := h.nl ha
    rw [h1, h2]; simp
/-- Bytes as a string. -/
theorem conv_ls (w : World) (a : Option Addr) (n cap : Nat) (L : List Int) (hn : L.length = n) (h : Rd .u8 w a L) : (convert 54 9 (.slice a n cap)).run Tryz.prog w = .ok (.string (strOfNums L)) w := by
  subst hn
  by_cases h0 : L.length = 0
  · have : L = [] := List.length_eq_zero_iff.1 h0
    subst this
    simp only [List.length_nil]
    cases a with
    | none => exact run_convert_bytes_nil w 54 5 Tryz.underlying54 Tryz.underlying5 0 cap 9 Tryz.underlying9
    | some a =>
      rw [run_convert_bytes_string w 54 9 5 _ 0 cap Tryz.underlying54 Tryz.underlying5 Tryz.underlying9, run_bytesToString w a 0 cap [] (run_loadCells_list w a [] (fun j v hj => by simp at hj))]
      rfl
  · obtain ⟨b, off, rfl, _⟩ := h 0 (by omega)
    refine run_convert_bytes_arg w 54 5 Tryz.underlying54 Tryz.underlying5 b off _ cap L rfl (fun i hi => ?_) 9 Tryz.underlying9
    obtain ⟨b', off', e, hc⟩ := h i hi
    cases e
    exact hc
def Byt (L : List Int) : Prop := ∀ x ∈ L, 0 ≤ x ∧ x ≤ 255
theorem str_inj {a b : List Int} (ha : Byt a) (hb : Byt b) (h : strOfNums a = strOfNums b) : a = b := by
  have h1 : (strOfNums a).data.toList = (strOfNums b).data.toList := by rw [h]
  rw [strOfNums_data, strOfNums_data] at h1
  have hinj : ∀ (l m : List Int), Byt l → Byt m → (l.map fun n => UInt8.ofNat n.toNat) = (m.map fun n => UInt8.ofNat n.toNat) → l = m := by
    intro l
    induction l with
    | nil => intro m _ _ h; cases m with
      | nil => rfl
      | cons => simp at h
    | cons x r ih => intro m hl hm h; cases m with
      | nil => simp at h
      | cons y s =>
        simp only [List.map_cons, List.cons.injEq] at h
        have hx := hl x (by simp)
        have hy := hm y (by simp)
        have e : x.toNat = y.toNat := by
          have := congrArg UInt8.toNat h.1
          simp only [UInt8.toNat_ofNat'] at this
          omega
        rw [show x = y by omega, ih s (fun z hz => hl z (by simp [hz])) (fun z hz => hm z (by simp [hz])) h.2]
  exact hinj a b ha hb h1
theorem Byt.append {a b : List Int} (ha : Byt a) (hb : Byt b) : Byt (a ++ b) := fun x hx => (List.mem_append.1 hx).elim (ha x) (hb x)
theorem Byt.take {a : List Int} (ha : Byt a) (k : Nat) : Byt (a.take k) := fun x hx => ha x (List.mem_of_mem_take hx)
theorem Byt.drop {a : List Int} (ha : Byt a) (k : Nat) : Byt (a.drop k) := fun x hx => ha x (List.mem_of_mem_drop hx)
theorem Byt.get {a : List Int} (ha : Byt a) (k : Nat) (hk : k < a.length) : 0 ≤ a.getD k 0 ∧ a.getD k 0 ≤ 255 := by
  rw [show a.getD k 0 = a[k] by simp [List.getD, List.getElem?_eq_getElem hk]]; exact ha _ (List.getElem_mem hk)
end Go.Proofs.YtglkndoghnblcaaGreatDoor
namespace Go.Proofs.YtglkndoghnblcaaGreatDoor
set_option linter.unusedVariables false
set_option linter.unusedSimpArgs false
/-- A number's form. -/
def numW (n : Nat) : List Int := if h : n ≤ 127 then [(n : Int)] else ((n % 128 + 128 : Nat) : Int) :: numW (n / 128)
termination_by n
decreasing_by omega
theorem numW_small {n : Nat} (h : n ≤ 127) : numW n = [(n : Int)] := by rw [numW, dif_pos h]
theorem numW_big {n : Nat} (h : ¬ n ≤ 127) : numW n = ((n % 128 + 128 : Nat) : Int) :: numW (n / 128) := by rw [numW, dif_neg h]
/-- A number that is read from place k on: the number, and behind which place it ends. -/
def numR : Nat → Nat → List Int → Option (Nat × Nat)
  | _, _, [] => none
  | k, acc, c :: r => if (k = 9 ∧ 1 < c) ∨ (0 < k ∧ c = 0) then none else if c < 128 then some (acc + c.toNat * 128 ^ k, k + 1) else numR (k + 1) (acc + (c.toNat - 128) * 128 ^ k) r
theorem numW_byt (n : Nat) : ∀ x ∈ numW n, 0 ≤ x ∧ x ≤ 255 := by
  induction n using Nat.strongRecOn with
  | ind n ih =>
    by_cases h : n ≤ 127
    · rw [numW_small h]; intro x hx; rw [List.mem_singleton] at hx; subst hx; omega
    · rw [numW_big h]
      intro x hx
      rcases List.mem_cons.1 hx with rfl | hx
      · omega
      · exact ih (n / 128) (by omega) x hx
theorem numW_ne (n : Nat) : numW n ≠ [] := by
  by_cases h : n ≤ 127
  · rw [numW_small h]; simp
  · rw [numW_big h]; simp
theorem numW_len (k : Nat) : ∀ n, n < 128 ^ (k + 1) → (numW n).length ≤ k + 1 := by
  induction k with
  | zero => intro n hn; rw [numW_small (by omega)]; simp
  | succ k ih =>
    intro n hn
    by_cases h : n ≤ 127
    · rw [numW_small h]; simp
    · rw [numW_big h, List.length_cons]
      have := ih (n / 128) (by
        rw [Nat.pow_succ] at hn
        exact Nat.div_lt_of_lt_mul (by rw [Nat.mul_comm]; exact hn))
      omega
/-- What is read was written so. -/
theorem numR_inv : ∀ (L : List Int) (k acc v j : Nat), (∀ x ∈ L, 0 ≤ x ∧ x ≤ 255) → numR k acc L = some (v, j) → ∃ n, v = acc + n * 128 ^ k ∧ j = k + (numW n).length ∧ numW n = L.take (j - k) ∧ (0 < k → 0 < n) ∧ k < j ∧ j - k ≤ L.length := by
  intro L
  induction L with
  | nil => intro k acc v j _ h; cases h
  | cons c r ih =>
    intro k acc v j hb h
    have hc := hb c (by simp)
    unfold numR at h
    split at h
    · cases h
    · rename_i hno
      split at h
      · rename_i hlt
        cases h
        refine ⟨c.toNat, rfl, ?_, ?_, by omega, by omega, by simp⟩
        · rw [numW_small (by omega)]; simp
        · rw [numW_small (by omega), show k + 1 - k = 1 by omega]
          simp; omega
      · rename_i hge
        obtain ⟨n, h1, h2, h3, h4, h5, h6⟩ := ih (k + 1) _ v j (fun x hx => hb x (by simp [hx])) h
        have hn := h4 (by omega)
        have hm : ¬ (128 * n + (c.toNat - 128)) ≤ 127 := by omega
        have ed : (128 * n + (c.toNat - 128)) / 128 = n := by omega
        have em : (128 * n + (c.toNat - 128)) % 128 = c.toNat - 128 := by omega
        refine ⟨128 * n + (c.toNat - 128), ?_, ?_, ?_, by omega, by omega, by simp; omega⟩
        · rw [h1, Nat.add_mul, Nat.pow_succ]
          rw [show n * (128 ^ k * 128) = 128 * n * 128 ^ k by rw [Nat.mul_comm (128 ^ k) 128, ← Nat.mul_assoc, Nat.mul_comm n 128]]
          omega
        · rw [numW_big hm, ed, List.length_cons, h2]; omega
        · rw [numW_big hm, ed, em, show j - k = (j - (k + 1)) + 1 by omega, List.take_succ_cons, h3]
          rw [show ((c.toNat - 128 + 128 : Nat) : Int) = c by omega]
theorem numR_bd : ∀ (L : List Int) (k acc v j : Nat), (∀ x ∈ L, 0 ≤ x ∧ x ≤ 255) → k ≤ 9 → acc < 128 ^ k → numR k acc L = some (v, j) → v < 18446744073709551616 ∧ j ≤ 10 := by
  intro L
  induction L with
  | nil => intro k acc v j _ _ _ h; cases h
  | cons c r ih =>
    intro k acc v j hb hk ha h
    have hc := hb c (by simp)
    unfold numR at h
    split at h
    · cases h
    · rename_i hno
      split at h
      · rename_i hlt
        cases h
        refine ⟨?_, by omega⟩
        by_cases e : k = 9
        · subst e
          have h1 : c.toNat ≤ 1 := by omega
          have e9 : (128 : Nat) ^ 9 = 9223372036854775808 := by decide
          rw [e9] at ha ⊢
          have : c.toNat * 9223372036854775808 ≤ 1 * 9223372036854775808 := Nat.mul_le_mul_right _ h1
          omega
        · have h8 : 128 ^ k ≤ 128 ^ 8 := Nat.pow_le_pow_right (by decide) (by omega)
          have : c.toNat * 128 ^ k ≤ 127 * 128 ^ 8 := Nat.mul_le_mul (by omega) h8
          have e8 : (128 : Nat) ^ 8 = 72057594037927936 := by decide
          rw [e8] at h8 this
          omega
      · rename_i hge
        have hk9 : k ≠ 9 := fun e => hno (Or.inl ⟨e, by omega⟩)
        refine ih (k + 1) _ v j (fun x hx => hb x (by simp [hx])) (by omega) ?_ h
        rw [Nat.pow_succ]
        have : (c.toNat - 128) * 128 ^ k ≤ 127 * 128 ^ k := Nat.mul_le_mul_right _ (by omega)
        omega
end Go.Proofs.YtglkndoghnblcaaGreatDoor
namespace Go.Proofs.YtglkndoghnblcaaGreatDoor
set_option linter.unusedVariables false
set_option linter.unusedSimpArgs false
def bytesW (b : List Int) : List Int := numW b.length ++ b
/-- A number up to a greatest one is read: it, and what is behind it. -/
def upP (most : Nat) (L : List Int) : Option (Nat × List Int) :=
  match numR 0 0 L with
  | some (v, j) => if v ≤ most then some (v, L.drop j) else none
  | none => none
/-- Bytes, at most so many. -/
def bytesP (most : Nat) (L : List Int) : Option (List Int × List Int) :=
  match upP most L with
  | some (n, r) => if n ≤ r.length then some (r.take n, r.drop n) else none
  | none => none
def flagP : List Int → Option (Bool × List Int)
  | [] => none
  | c :: r => if c ≤ 1 then some (decide (c = 1), r) else none
/-- So many things, of which one reads each. -/
def manyP {α : Type} (one : List Int → Option (α × List Int)) : Nat → List Int → Option (List α × List Int)
  | 0, L => some ([], L)
  | n + 1, L => match one L with
    | some (x, r) => match manyP one n r with
      | some (xs, r') => some (x :: xs, r')
      | none => none
    | none => none
def listP {α : Type} (most : Nat) (one : List Int → Option (α × List Int)) (L : List Int) : Option (List α × List Int) :=
  match upP most L with
  | some (n, r) => manyP one n r
  | none => none
theorem upP_inv {most v : Nat} {L r : List Int} (hb : ∀ x ∈ L, 0 ≤ x ∧ x ≤ 255) (h : upP most L = some (v, r)) : v ≤ most ∧ L = numW v ++ r := by
  unfold upP at h
  cases hn : numR 0 0 L with
  | none => rw [hn] at h; cases h
  | some p =>
    obtain ⟨u, j⟩ := p
    rw [hn] at h
    simp only at h
    split at h
    · rename_i hle
      cases h
      obtain ⟨n, h1, h2, h3, _, _, _⟩ := numR_inv L 0 0 _ j hb hn
      have e : n = v := by simpa using h1.symm
      subst e
      refine ⟨hle, ?_⟩
      have e3 : numW n = L.take j := by simpa using h3
      rw [e3, List.take_append_drop]
    · cases h
theorem upP_rest {most v : Nat} {L r : List Int} (hb : ∀ x ∈ L, 0 ≤ x ∧ x ≤ 255) (h : upP most L = some (v, r)) : ∀ x ∈ r, 0 ≤ x ∧ x ≤ 255 := by
  obtain ⟨_, e⟩ := upP_inv hb h
  intro x hx
  exact hb x (by rw [e]; simp [hx])
theorem bytesP_inv {most : Nat} {L b r : List Int} (hb : ∀ x ∈ L, 0 ≤ x ∧ x ≤ 255) (h : bytesP most L = some (b, r)) : b.length ≤ most ∧ L = bytesW b ++ r := by
  unfold bytesP at h
  cases hn : upP most L with
  | none => rw [hn] at h; cases h
  | some p =>
    obtain ⟨u, s⟩ := p
    rw [hn] at h
    simp only at h
    split at h
    · rename_i hle
      cases h
      obtain ⟨h1, h2⟩ := upP_inv hb hn
      have el : (s.take u).length = u := by rw [List.length_take]; omega
      unfold bytesW
      rw [el]
      exact ⟨h1, by rw [List.append_assoc, List.take_append_drop]; exact h2⟩
    · cases h
theorem flagP_inv {L r : List Int} {f : Bool} (hb : ∀ x ∈ L, 0 ≤ x ∧ x ≤ 255) (h : flagP L = some (f, r)) : L = (if f then 1 else 0) :: r := by
  cases L with
  | nil => cases h
  | cons c s =>
    have hc := hb c (by simp)
    simp only [flagP] at h
    by_cases hc1 : c ≤ 1
    · rw [if_pos hc1] at h
      cases h
      by_cases e : c = 1
      · simp [e]
      · have : c = 0 := by omega
        simp [this]
    · rw [if_neg hc1] at h
      cases h
end Go.Proofs.YtglkndoghnblcaaGreatDoor
namespace Go.Proofs.YtglkndoghnblcaaGreatDoor
set_option linter.unusedVariables false
set_option linter.unusedSimpArgs false
/-- The rule of one bit. -/
def hf (s : Nat) : Nat := if s % 2 = 1 then (s / 2) ^^^ 2197175160 else s / 2
def hf4 (s : Nat) : Nat := hf (hf (hf (hf s)))
def hf8 (s : Nat) : Nat := hf4 (hf4 s)
theorem hf_xor (a b : Nat) : hf (a ^^^ b) = hf a ^^^ hf b := by
  have h1 : (a ^^^ b) / 2 = a / 2 ^^^ b / 2 := Nat.xor_div_two
  have h2 : (a ^^^ b) % 2 = (a + b) % 2 := by
    have h := Nat.xor_mod_two_eq_one (a := a) (b := b)
    rcases Nat.mod_two_eq_zero_or_one a with ha | ha <;> rcases Nat.mod_two_eq_zero_or_one b with hb | hb <;> rcases Nat.mod_two_eq_zero_or_one (a ^^^ b) with hx | hx <;> simp only [ha, hb, hx] at h <;> first | omega | simp at h
  unfold hf
  rw [h1, h2]
  rcases Nat.mod_two_eq_zero_or_one a with ha | ha <;> rcases Nat.mod_two_eq_zero_or_one b with hb | hb
  · rw [if_neg (by omega), if_neg (by omega), if_neg (by omega)]
  · rw [if_pos (by omega), if_neg (by omega), if_pos (by omega), Nat.xor_assoc]
  · rw [if_pos (by omega), if_pos (by omega), if_neg (by omega)]
    rw [Nat.xor_assoc, Nat.xor_comm (b / 2), ← Nat.xor_assoc]
  · rw [if_neg (by omega), if_pos (by omega), if_pos (by omega)]
    rw [Nat.xor_assoc, Nat.xor_comm 2197175160 (b / 2 ^^^ 2197175160), Nat.xor_assoc, Nat.xor_self, Nat.xor_zero]
theorem hf4_xor (a b : Nat) : hf4 (a ^^^ b) = hf4 a ^^^ hf4 b := by unfold hf4; simp only [hf_xor]
theorem hf_two (k : Nat) : hf (2 * k) = k := by
  unfold hf
  rw [if_neg (by omega)]; omega
theorem hf4_16 (q : Nat) : hf4 (16 * q) = q := by
  unfold hf4
  rw [show 16 * q = 2 * (2 * (2 * (2 * q))) by omega, hf_two, hf_two, hf_two, hf_two]
theorem split16 (s : Nat) : s = 16 * (s / 16) ^^^ s % 16 := by
  apply Nat.eq_of_testBit_eq
  intro i
  rw [Nat.testBit_xor]
  rw [show (16 : Nat) = 2 ^ 4 from rfl, Nat.testBit_two_pow_mul, Nat.testBit_mod_two_pow, Nat.testBit_div_two_pow]
  by_cases hi : i < 4
  · simp [hi, show ¬ 4 ≤ i by omega]
  · have : 4 ≤ i := by omega
    simp [hi, this]
theorem nib (s : Nat) : s / 16 ^^^ hf4 (s % 16) = hf4 s := by
  conv => rhs; rw [split16 s]
  rw [hf4_xor, hf4_16]
theorem hf_lt {s : Nat} (h : s < 4294967296) : hf s < 4294967296 := by
  unfold hf
  split
  · exact Nat.xor_lt_two_pow (n := 32) (by omega) (by decide)
  · omega
theorem hf4_lt {s : Nat} (h : s < 4294967296) : hf4 s < 4294967296 := hf_lt (hf_lt (hf_lt (hf_lt h)))
theorem hf8_lt {s : Nat} (h : s < 4294967296) : hf8 s < 4294967296 := hf4_lt (hf4_lt h)
/-- The register behind these bytes. -/
def crcR (s : Nat) (L : List Int) : Nat := L.foldl (fun s c => hf8 (s ^^^ c.toNat)) s
/-- The sum of bytes. -/
def crcV (L : List Int) : Nat := crcR (0 ^^^ 4294967295) L ^^^ 4294967295
theorem crcR_snoc (s : Nat) (L : List Int) (c : Int) : crcR s (L ++ [c]) = hf8 (crcR s L ^^^ c.toNat) := by
  unfold crcR
  rw [List.foldl_append]; rfl
theorem crcR_lt {s : Nat} (h : s < 4294967296) : ∀ {L : List Int}, (∀ x ∈ L, 0 ≤ x ∧ x ≤ 255) → crcR s L < 4294967296 := by
  intro L
  induction L generalizing s with
  | nil => intro _; exact h
  | cons c r ih =>
    intro hb
    have hc := hb c (by simp)
    exact ih (hf8_lt (Nat.xor_lt_two_pow (n := 32) h (by omega))) fun x hx => hb x (by simp [hx])
theorem crcV_lt {L : List Int} (hb : ∀ x ∈ L, 0 ≤ x ∧ x ≤ 255) : crcV L < 4294967296 := Nat.xor_lt_two_pow (n := 32) (crcR_lt (by decide) hb) (by decide)
end Go.Proofs.YtglkndoghnblcaaGreatDoor
namespace Go.Proofs.YtglkndoghnblcaaGreatDoor
set_option linter.unusedVariables false
set_option linter.unusedSimpArgs false
/-- Four bytes, the highest first. -/
def be4 (n : Nat) : List Int := [((n / 16777216 % 256 : Nat) : Int), ((n / 65536 % 256 : Nat) : Int), ((n / 256 % 256 : Nat) : Int), ((n % 256 : Nat) : Int)]
def de4 (B : List Int) : Nat := (((B.getD 0 0).toNat * 256 + (B.getD 1 0).toNat) * 256 + (B.getD 2 0).toNat) * 256 + (B.getD 3 0).toNat
theorem be4_len (n : Nat) : (be4 n).length = 4 := rfl
theorem be4_byt (n : Nat) : ∀ x ∈ be4 n, 0 ≤ x ∧ x ≤ 255 := by
  intro x hx
  simp only [be4, List.mem_cons, List.not_mem_nil, or_false] at hx
  rcases hx with rfl | rfl | rfl | rfl <;> omega
theorem de4_be4 {n : Nat} (h : n < 4294967296) (r : List Int) : de4 (be4 n ++ r) = n := by
  unfold de4 be4
  simp only [List.cons_append, List.getD_cons_zero, List.getD_cons_succ, Int.toNat_natCast]
  omega
theorem getD_byt {B : List Int} (hb : ∀ x ∈ B, 0 ≤ x ∧ x ≤ 255) (i : Nat) : 0 ≤ B.getD i 0 ∧ B.getD i 0 ≤ 255 := by
  rw [List.getD_eq_getElem?_getD]
  cases h : B[i]? with
  | none => simp
  | some x => exact hb x (List.mem_of_getElem? h)
theorem de4_lt {B : List Int} (hb : ∀ x ∈ B, 0 ≤ x ∧ x ≤ 255) : de4 B < 4294967296 := by
  have h0 := getD_byt hb 0
  have h1 := getD_byt hb 1
  have h2 := getD_byt hb 2
  have h3 := getD_byt hb 3
  unfold de4
  omega
/-- Four bytes are those of their number. -/
theorem be4_de4 {B : List Int} (hb : ∀ x ∈ B, 0 ≤ x ∧ x ≤ 255) (hl : 4 ≤ B.length) : be4 (de4 B) = B.take 4 := by
  match B, hl with
  | a :: b :: c :: d :: r, _ =>
    have h0 := hb a (by simp)
    have h1 := hb b (by simp)
    have h2 := hb c (by simp)
    have h3 := hb d (by simp)
    unfold be4 de4
    simp only [List.getD_cons_zero, List.getD_cons_succ, List.take_succ_cons, List.take_zero]
    congr 1
    · omega
    · congr 1
      · omega
      · congr 1
        · omega
        · congr 1
          omega
/-- A payload's frame. -/
def frameL (P : List Int) : List Int := be4 P.length ++ (be4 (crcV P) ++ P)
theorem frameL_len (P : List Int) : (frameL P).length = 8 + P.length := by
  unfold frameL
  simp only [List.length_append, be4_len]; omega
/-- How long the payload of the frame is that the bytes begin with. -/
def lenL (B : List Int) : Nat := de4 B
def bodyL (B : List Int) : List Int := (B.drop 8).take (lenL B)
/-- Do the bytes begin with a whole frame? -/
def isL (B : List Int) : Bool := decide (8 ≤ B.length ∧ 1 ≤ lenL B ∧ lenL B ≤ 4096 ∧ lenL B ≤ B.length - 8 ∧ crcV (bodyL B) = de4 (B.drop 4))
theorem isL_iff {B : List Int} : isL B = true ↔ 8 ≤ B.length ∧ 1 ≤ lenL B ∧ lenL B ≤ 4096 ∧ lenL B ≤ B.length - 8 ∧ crcV (bodyL B) = de4 (B.drop 4) := by
  unfold isL
  exact decide_eq_true_iff
theorem bodyL_len {B : List Int} (h : isL B = true) : (bodyL B).length = lenL B := by
  have := isL_iff.1 h
  unfold bodyL
  rw [List.length_take, List.length_drop]
  omega
/-- The payloads of the frames that the bytes begin with. -/
def framesL (B : List Int) : List (List Int) := if h : isL B = true then bodyL B :: framesL (B.drop (8 + lenL B)) else []
termination_by B.length
decreasing_by
  have := isL_iff.1 h
  rw [List.length_drop]
  omega
theorem framesL_yes {B : List Int} (h : isL B = true) : framesL B = bodyL B :: framesL (B.drop (8 + lenL B)) := by rw [framesL, dif_pos h]
theorem framesL_no {B : List Int} (h : isL B = false) : framesL B = [] := by rw [framesL, dif_neg (by rw [h]; decide)]
def wholeL (B : List Int) : Nat := ((framesL B).map fun p => 8 + p.length).sum
/-- A whole frame is read. -/
theorem isL_frame {P : List Int} (hp : ∀ x ∈ P, 0 ≤ x ∧ x ≤ 255) (h1 : 1 ≤ P.length) (h2 : P.length ≤ 4096) (r : List Int) : isL (frameL P ++ r) = true ∧ bodyL (frameL P ++ r) = P ∧ lenL (frameL P ++ r) = P.length := by
  have e1 : lenL (frameL P ++ r) = P.length := by
    unfold lenL frameL
    rw [List.append_assoc]
    exact de4_be4 (by omega) _
  have e2 : bodyL (frameL P ++ r) = P := by
    unfold bodyL
    rw [e1]
    unfold frameL
    rw [← List.append_assoc, List.append_assoc, List.drop_append_of_le_length (by simp [be4_len])]
    rw [List.drop_of_length_le (by simp [be4_len]), List.nil_append]
    simp
  refine ⟨isL_iff.2 ⟨?_, ?_, ?_, ?_, ?_⟩, e2, e1⟩
  · rw [List.length_append, frameL_len]; omega
  · rw [e1]; exact h1
  · rw [e1]; exact h2
  · rw [e1, List.length_append, frameL_len]; omega
  · rw [e2]
    unfold frameL
    rw [List.append_assoc, show (4 : Nat) = (be4 P.length).length from rfl, List.drop_left, List.append_assoc]
    exact (de4_be4 (crcV_lt hp) _).symm
theorem framesL_frame {P : List Int} (hp : ∀ x ∈ P, 0 ≤ x ∧ x ≤ 255) (h1 : 1 ≤ P.length) (h2 : P.length ≤ 4096) (r : List Int) : framesL (frameL P ++ r) = P :: framesL r := by
  obtain ⟨a, b, c⟩ := isL_frame hp h1 h2 r
  rw [framesL_yes a, b, c, ← frameL_len, List.drop_left]
/-- What is read was written so. -/
theorem isL_inv {B : List Int} (hb : ∀ x ∈ B, 0 ≤ x ∧ x ≤ 255) (h : isL B = true) : B = frameL (bodyL B) ++ B.drop (8 + lenL B) := by
  have hl := bodyL_len h
  obtain ⟨h1, h2, h3, h4, h5⟩ := isL_iff.1 h
  unfold frameL
  rw [hl, h5]
  have e1 : be4 (lenL B) = B.take 4 := be4_de4 hb (by omega)
  have e2 : be4 (de4 (B.drop 4)) = (B.drop 4).take 4 := be4_de4 (fun x hx => hb x (List.mem_of_mem_drop hx)) (by rw [List.length_drop]; omega)
  rw [e1, e2]
  unfold bodyL
  have e3 : B.drop (8 + lenL B) = (B.drop 8).drop (lenL B) := by rw [List.drop_drop]
  have e4 : B.drop 8 = (B.drop 4).drop 4 := by rw [List.drop_drop]
  rw [e3, List.append_assoc, List.append_assoc, List.take_append_drop, e4, List.take_append_drop, List.take_append_drop]
end Go.Proofs.YtglkndoghnblcaaGreatDoor
namespace Go.Proofs.YtglkndoghnblcaaGreatDoor
open Go.ChangeShapes Go.WideShapes Go.ChangeAt Go.RowKit
set_option linter.unusedVariables false
set_option linter.unusedSimpArgs false
theorem cell_lt {W : World} {p : Addr} {v : Value} (h : W.cell? p = some v) : p.block < W.heap.size := World.block_lt_of_cell? W _ h
theorem bl1 (X : World) (o : Obj) : Below X.heap.size X (X.alloc o) := (Below.refl _ _).alloc (Nat.le_refl _) o
/-- A block of cells. -/
def BoxC (W : World) (B : Nat) (cs : Array Value) (t : TypeId) : Prop := W.heap[B]? = some (.cells cs t (0, 0))
theorem BoxC.below {W W' : World} {B : Nat} {cs : Array Value} {t : TypeId} (h : BoxC W B cs t) (hb : Below W.heap.size W W') : BoxC W' B cs t := (hb.block B (Array.getElem?_eq_some_iff.1 h).1).trans h
theorem BoxC.lt {W : World} {B : Nat} {cs : Array Value} {t : TypeId} (h : BoxC W B cs t) : B < W.heap.size := (Array.getElem?_eq_some_iff.1 h).1
theorem BoxC.cell {W : World} {B : Nat} {cs : Array Value} {t : TypeId} (h : BoxC W B cs t) (i : Nat) : W.cell? ⟨B, i, none⟩ = cs[i]? := by simp [World.cell?, show W.heap[B]? = _ from h]
theorem BoxC.frozen {W : World} {B : Nat} {cs : Array Value} {t : TypeId} (h : BoxC W B cs t) (i : Nat) : W.frozen? ⟨B, i, none⟩ = false := by simp [World.frozen?, show W.heap[B]? = _ from h]
theorem BoxC.new (W : World) (cs : Array Value) (t : TypeId) : BoxC (W.alloc (.cells cs t)) W.heap.size cs t := World.alloc_heap_new _ _
theorem BoxC.alloc {W : World} {B : Nat} {cs : Array Value} {t : TypeId} (h : BoxC W B cs t) (o : Obj) : BoxC (W.alloc o) B cs t := h.below (bl1 W o)
theorem BoxC.oth {W : World} {B B' i : Nat} {cs : Array Value} {t : TypeId} {v : Value} (hne : B' ≠ B) (h : BoxC W B cs t) : BoxC (W.setCell ⟨B', i, none⟩ v) B cs t := by
  show (W.heap.modify B' _)[B]? = _
  rw [Array.getElem?_modify, if_neg hne]
  exact h
theorem BoxC.put {W : World} {B : Nat} {t : TypeId} {cs : Array Value} (i : Nat) (v : Value) (h : BoxC W B cs t) : BoxC (W.setCell ⟨B, i, none⟩ v) B (cs.setIfInBounds i v) t := by
  obtain ⟨hlt, hk⟩ := Array.getElem?_eq_some_iff.1 h
  show (W.heap.modify B _)[B]? = _
  rw [Array.getElem?_eq_getElem (by rw [Array.size_modify]; exact hlt), Array.getElem_modify_self, hk]
  simp
/-- Nothing is changed but the blocks of S, and new ones. -/
structure Off (S : Nat → Prop) (W W' : World) : Prop where
  os : W'.os = W.os
  tape : W'.tape = W.tape
  output : W'.output = W.output
  size : W.heap.size ≤ W'.heap.size
  block : ∀ k, k < W.heap.size → ¬ S k → W'.heap[k]? = W.heap[k]?
theorem Off.below {S : Nat → Prop} {B : Nat} {w W W' : World} (h : Below B w W) (k : Off S W W') (hB : B ≤ W.heap.size) (hs : ∀ k, S k → B ≤ k) : Below B w W' :=
  ⟨k.os.trans h.os, k.tape.trans h.tape, k.output.trans h.output, Nat.le_trans h.size k.size, fun i hi => (k.block i (Nat.lt_of_lt_of_le hi hB) fun e => by have := hs i e; omega).trans (h.block i hi)⟩
end Go.Proofs.YtglkndoghnblcaaGreatDoor
namespace Go.Proofs.YtglkndoghnblcaaGreatDoor
open Go.ChangeShapes Go.WideShapes Go.ChangeAt Go.RowKit
set_option linter.unusedVariables false
set_option linter.unusedSimpArgs false
theorem u32x (a b : Nat) (ha : a < 4294967296) (hb : b < 4294967296) : bits .xor .u32 (a : Int) (b : Int) = ((a ^^^ b : Nat) : Int) := u32_xor_nat a b ha hb
theorem and1_32 (s : Nat) (hs : s < 4294967296) : bits .and .u32 (s : Int) 1 = ((s % 2 : Nat) : Int) := by
  have := u32_and_nat s 1 hs (by decide)
  rw [show s &&& 1 = s % 2 from Nat.and_one_is_mod s] at this
  exact this
theorem and15_32 (s : Nat) (hs : s < 4294967296) : bits .and .u32 (s : Int) 15 = ((s % 16 : Nat) : Int) := by
  have := u32_and_nat s 15 hs (by decide)
  rw [show s &&& 15 = s % 16 from Nat.and_two_pow_sub_one_eq_mod s 4] at this
  exact this
/-- half (173). -/
theorem half_law (s : Nat) (hs : s < 4294967296) (w : World) : Calls Tryz.prog 160 #[.int .u32 (s : Int)] w fun e w' => e = .returned (.int .u32 ((hf s : Nat) : Int)) ∧ w = w' := by
  have h1 := and1_32 s hs
  have hx := u32x (s / 2) 2197175160 (by omega) (by decide)
  rw [show ((s / 2 : Nat) : Int) = (s : Int) / 2 by omega] at hx
  obtain ⟨v, hv⟩ : ∃ v, hf s = v := ⟨_, rfl⟩
  rcases Nat.mod_two_eq_zero_or_one s with h2 | h2
  · rw [h2] at h1
    have hv2 : (s : Int) / 2 = (v : Int) := by rw [← hv]; unfold hf; rw [if_neg (by omega)]; omega
    rw [hv]
    clear hx hv h2 hs
    go_enter Tryz.func160, Tryz.ntmps160
    go_wp2
    go_ret
    exact ⟨rfl, rfl⟩
  · rw [h2] at h1
    have hv2 : bits .xor .u32 ((s : Int) / 2) 2197175160 = (v : Int) := by
      rw [← hv]; unfold hf; rw [if_pos h2]
      exact hx
    rw [hv]
    clear hx hv h2 hs
    go_enter Tryz.func160, Tryz.ntmps160
    go_wp2
    go_ret
    exact ⟨rfl, rfl⟩
def hfn : Nat → Nat → Nat
  | 0, s => s
  | k + 1, s => hf (hfn k s)
theorem hfn_lt {s : Nat} (h : s < 4294967296) : ∀ k, hfn k s < 4294967296
  | 0 => h
  | k + 1 => hf_lt (hfn_lt h k)
set_option maxRecDepth 100000 in
set_option maxHeartbeats 4000000 in
/-- step (153): eight bits of the document's register. -/
theorem rstep_law (s : Nat) (hs : s < 4294967296) (w : World) : Calls Tryz.prog 93 #[.int .u32 (s : Int)] w fun e w' => e = .returned (.int .u32 ((hf8 s : Nat) : Int)) ∧ w = w' := by
  go_enter Tryz.func93, Tryz.ntmps93
  go_wp2
  go_loopw [0, 3] (fun v i wr => ∃ k : Nat, k ≤ 8 ∧ v = .int .u32 ((hfn k s : Nat) : Int) ∧ i = .int .i64 (k : Int) ∧ w = wr) (fun _ i _ => 8 - (intOf i).toNat)
  case atStart => exact ⟨0, by omega, rfl, rfl, rfl⟩
  case round =>
    obtain ⟨k, hk, rfl, rfl, rfl⟩ := hrel
    obtain ⟨u, hu⟩ : ∃ u, hfn k s = u := ⟨_, rfl⟩
    have hu2 : u < 4294967296 := by rw [← hu]; exact hfn_lt hs k
    by_cases hlt : k < 8
    · have d1 : (k : Int) < 8 := by omega
      have HN := Lib.hid (show hfn (k + 1) s = hf u by rw [← hu]; rfl)
      have hx := u32x (u / 2) 2197175160 (by omega) (by decide)
      rw [show ((u / 2 : Nat) : Int) = (u : Int) / 2 by omega] at hx
      obtain ⟨v, hv⟩ : ∃ v, hf u = v := ⟨_, rfl⟩
      have HN2 := Lib.hid (HN.out.trans hv)
      rw [hu]
      have e2 : (u : Int).tdiv 2 = (u : Int) / 2 := Int.tdiv_eq_ediv_of_nonneg (by omega)
      have e3 : (u : Int).tmod 2 = (u : Int) % 2 := Int.tmod_eq_emod_of_nonneg (by omega)
      rcases Nat.mod_two_eq_zero_or_one u with h2 | h2
      · have hm : (u : Int) % 2 = 0 := by omega
        have hv2 : (u : Int) / 2 = (v : Int) := by rw [← hv]; unfold hf; rw [if_neg (by omega)]; omega
        have hw : IntKind.u32.wrap (u : Int) = (u : Int) := by rw [IntKind.wrap_u32]; omega
        have hw2 : IntKind.u32.wrap (v : Int) = (v : Int) := by rw [IntKind.wrap_u32]; omega
        clear hx hv h2 hu HN
        go_wp2_with fail
        go_roundw
        case rel => exact ⟨k + 1, by omega, by rw [HN2.out], by go_num, by first | rfl | trivial⟩
        case measure => simp [intOf]; omega
      · have hm : (u : Int) % 2 = 1 := by omega
        have hw3 : IntKind.u32.wrap ((u : Int) / 2) = (u : Int) / 2 := by rw [IntKind.wrap_u32]; omega
        have hv2 : bits .xor .u32 ((u : Int) / 2) 2197175160 = (v : Int) := by
          rw [← hv]; unfold hf; rw [if_pos h2]
          exact hx
        clear hx hv h2 hu HN
        go_wp2_with fail
        go_roundw
        case rel => exact ⟨k + 1, by omega, by rw [HN2.out], by go_num, by first | rfl | trivial⟩
        case measure => simp [intOf]; omega
    · have d1 : ¬ (k : Int) < 8 := by omega
      obtain rfl : k = 8 := by omega
      have HE := Lib.hid (show hf8 s = u from hu)
      rw [hu]
      clear hu
      go_wp2_with fail
      go_ret
      exact ⟨HE.out ▸ rfl, rfl⟩
end Go.Proofs.YtglkndoghnblcaaGreatDoor
namespace Go.Proofs.YtglkndoghnblcaaGreatDoor
open Go.ChangeShapes Go.WideShapes Go.ChangeAt Go.RowKit
set_option linter.unusedVariables false
set_option linter.unusedSimpArgs false
section
variable {P : Program}
theorem box_loadVar {W : World} {B n : Nat} {e : TypeId} {cs : Array Value} {t : TypeId} (h : BoxC W B cs t) (hu : P.underlying t = some (.array n e)) (hi : (P.info? t).map (·.size) = some cs.size) : (loadVar t ⟨B, 0, none⟩).run P W = .ok (.agg cs) W :=
  run_loadVar_row W B t t cs (0, 0) _ h hu rfl hi
end
theorem BoxC.row' {W : World} {B : Nat} {cs c' : Array Value} {t : TypeId} (h : BoxC W B cs t) : BoxC (W.setRow B c') B c' t := setRow_heap W B cs c' t (0, 0) h
theorem off_row0 {S : Nat → Prop} {W : World} {B : Nat} (hB : S B) (c' : Array Value) : Off S W (W.setRow B c') := by
  refine ⟨rfl, rfl, rfl, ?_, fun k hk hn => ?_⟩
  · show W.heap.size ≤ (W.heap.modify B _).size
    simp
  · show (W.heap.modify B _)[k]? = _
    rw [Array.getElem?_modify, if_neg]
    intro e; exact hn (e ▸ hB)
theorem off_row' {W : World} (B : Nat) (c' : Array Value) : Off (fun k => k = B) W (W.setRow B c') := off_row0 (S := fun k => k = B) rfl c'
theorem BoxC.range {W : World} {B : Nat} {cs : Array Value} {t : TypeId} (h : BoxC W B cs t) : W.rangeAt B 0 cs.toList := fun j v hv => by
  rw [Nat.zero_add, h.cell]
  simpa using hv
theorem BoxC.there {W : World} {B : Nat} {cs : Array Value} {t : TypeId} (h : BoxC W B cs t) : W.there B 0 cs.size := fun j hj => by
  rw [Nat.zero_add]
  exact ⟨by rw [h.cell]; simp [hj], h.frozen j⟩
section
variable {P : Program}
theorem cells_row {W : World} {B : Nat} {cs c' : Array Value} {t : TypeId} (h : BoxC W B cs t) (hi : (P.info? t).map (·.size) = some c'.size) (ho : cs.size = c'.size) (h1 : c'.all (·.oneCell') = true) : W.setCells B 0 c'.toList = W.setRow B c' := by
  have e1 := run_storeVar_row (P := P) W B t t cs c' h hi ho h1
  have e2 := run_storeVar_mid (P := P) W B 0 t c' (by rw [← ho]; exact h.there) hi h1
  rw [e1] at e2
  injection e2 with _ e
  exact e.symm
theorem wpList_load_box {ops : Array Oper} {rest : List Oper} {op : Oper} {a : Act} {w : World} {Q : Exit → Act → World → Prop} (hgd : op.guard = none) (ty : TypeId) (x : Operand) (ho : op.op = .load ty x)
    (B n : Nat) (e : TypeId) (hx : a.eval x = .pointer (some ⟨B, 0, none⟩)) (cs : Array Value) (hb : BoxC w B cs ty) (hu : P.underlying ty = some (.array n e)) (hi : (P.info? ty).map (·.size) = some cs.size)
    (h : wpList P ops Q rest (a.put op.dst (.agg cs)) w) : wpList P ops Q (op :: rest) a w :=
  wpList_load_mid hgd ty x ho B 0 hx cs.toList _ hb.range hu rfl (by rw [hi]; simp) (by simpa using h)
theorem wpList_store_box {ops : Array Oper} {rest : List Oper} {op : Oper} {a : Act} {w : World} {Q : Exit → Act → World → Prop} (hgd : op.guard = none) (ty : TypeId) (x y : Operand) (ho : op.op = .store ty x y)
    (B : Nat) (cs c' : Array Value) (hx : a.eval x = .pointer (some ⟨B, 0, none⟩)) (hy : a.eval y = .agg c') (hb : BoxC w B cs ty) (hi : (P.info? ty).map (·.size) = some c'.size) (hs : cs.size = c'.size) (h1 : c'.all (·.oneCell') = true)
    (h : ∀ W, BoxC W B c' ty → Off (fun k => k = B) w W → W.heap.size = w.heap.size → wpList P ops Q rest (a.put op.dst undef) W) : wpList P ops Q (op :: rest) a w := by
  refine wpList_store_mid hgd ty x y ho B 0 c' hx hy (by rw [← hs]; exact hb.there) hi h1 ?_
  rw [cells_row hb hi hs h1]
  refine h _ hb.row' (off_row' B c') ?_
  show (w.heap.modify B _).size = _
  simp
end
end Go.Proofs.YtglkndoghnblcaaGreatDoor
namespace Go.Proofs.YtglkndoghnblcaaGreatDoor
open Go.ChangeShapes Go.WideShapes Go.ChangeAt Go.RowKit
set_option linter.unusedVariables false
set_option linter.unusedSimpArgs false
/-- The table: of so many places told. -/
def tabK (k : Nat) : Array Value := ((List.range 16).map fun i => Value.int .u32 ((if i < k then hf4 i else 0 : Nat) : Int)).toArray
def tabV : Array Value := tabK 16
theorem tabK_zero : tabK 0 = #[.int .u32 0, .int .u32 0, .int .u32 0, .int .u32 0, .int .u32 0, .int .u32 0, .int .u32 0, .int .u32 0, .int .u32 0, .int .u32 0, .int .u32 0, .int .u32 0, .int .u32 0, .int .u32 0, .int .u32 0, .int .u32 0] := by rfl
theorem tabK_at {k i : Nat} (hi : i < 16) : (tabK k)[i]? = some (.int .u32 ((if i < k then hf4 i else 0 : Nat) : Int)) := by
  unfold tabK
  simp [hi]
theorem tabK_set {k : Nat} (hk : k < 16) : (tabK k).setIfInBounds k (.int .u32 ((hf4 k : Nat) : Int)) = tabK (k + 1) := by
  apply Array.ext'
  apply List.ext_getElem?
  intro i
  unfold tabK
  simp only [Array.toList_setIfInBounds, List.getElem?_set, List.getElem?_map, List.length_map, List.length_range]
  by_cases e : k = i
  · subst e
    rw [if_pos rfl, if_pos hk, List.getElem?_range hk]
    simp
  · rw [if_neg e]
    by_cases hi : i < 16
    · rw [List.getElem?_range hi]
      simp only [Option.map_some]
      congr 3
      by_cases h1 : i < k
      · rw [if_pos h1, if_pos (by omega)]
      · rw [if_neg h1, if_neg (by omega)]
    · rw [List.getElem?_eq_none (by simp; omega)]; rfl
set_option maxRecDepth 100000 in
set_option maxHeartbeats 4000000 in
/-- table (154). -/
theorem table_law (w : World) : Calls Tryz.prog 133 #[] w fun e w' => e = .returned (.agg tabV) ∧ Below w.heap.size w w' := by
  go_enter Tryz.func133, Tryz.ntmps133
  go_wp2
  rw [← tabK_zero]
  obtain ⟨W0, hW0⟩ : ∃ W0, (w.alloc (.cells (tabK 0) 191)).alloc (.cells (tabK 0) 191) = W0 := ⟨_, rfl⟩
  have hb0 : Below w.heap.size w W0 := by rw [← hW0]; exact ((Below.refl _ w).alloc (Nat.le_refl _) _).alloc (by simp) _
  have bA : BoxC W0 w.heap.size (tabK 0) 191 := by rw [← hW0]; exact (BoxC.new w _ 191).alloc _
  have bB : BoxC W0 (w.heap.size + 1) (tabK 0) 191 := by
    rw [← hW0]; have := BoxC.new (w.alloc (.cells (tabK 0) 191)) (tabK 0) 191; simpa using this
  rw [hW0]
  clear hW0
  go_loopw [2, 3, 4] (fun a b i wr => ∃ k : Nat, k ≤ 16 ∧ i = .int .i64 (k : Int) ∧ BoxC wr w.heap.size (tabK 0) 191 ∧ BoxC wr (w.heap.size + 1) (tabK k) 191 ∧ Below w.heap.size w wr) (fun _ _ i _ => 16 - (intOf i).toNat)
  case atStart => exact ⟨0, by omega, rfl, bA, bB, hb0⟩
  case round =>
    clear bA bB hb0
    obtain ⟨k, hk, rfl, bA, bB, hbw⟩ := hrel
    have HA := Lib.hid bA
    have HB := Lib.hid bB
    have HW := Lib.hid hbw
    by_cases hlt : k < 16
    · have d1 : (k : Int) < 16 := by omega
      have hw : IntKind.u32.wrap (k : Int) = (k : Int) := by rw [IntKind.wrap_u32]; omega
      clear bA bB hbw
      go_wp2_with fail
      go_loopw [3, 9] (fun b i wr2 => ∃ j : Nat, j ≤ 4 ∧ b = .int .u32 ((hfn j k : Nat) : Int) ∧ i = .int .i64 (j : Int) ∧ wr = wr2) (fun _ i _ => 4 - (intOf i).toNat)
      case atStart => exact ⟨0, by omega, rfl, rfl, rfl⟩
      case round =>
        obtain ⟨j, hj, rfl, rfl, rfl⟩ := hrel
        obtain ⟨u, hu⟩ : ∃ u, hfn j k = u := ⟨_, rfl⟩
        have hu2 : u < 4294967296 := by rw [← hu]; exact hfn_lt (by omega) j
        rw [hu]
        by_cases hl2 : j < 4
        · have d2 : (j : Int) < 4 := by omega
          have HN := Lib.hid (show hfn (j + 1) k = hf u by rw [← hu]; rfl)
          clear hu
          go_wp2_with fail
          refine (half_law u hu2 _).mono ?_
          rintro e w' ⟨rfl, rfl⟩
          go_wp2_with fail
          go_roundw
          case rel => exact ⟨j + 1, by omega, by rw [HN.out], by go_num, by first | rfl | trivial⟩
          case measure => simp [intOf]; omega
        · have d2 : ¬ (j : Int) < 4 := by omega
          obtain rfl : j = 4 := by omega
          have HS := Lib.hid (show (tabK k).setIfInBounds k (.int .u32 (u : Int)) = tabK (k + 1) by rw [← hu]; exact tabK_set hlt)
          have c1 : wr.cell? ⟨w.heap.size + 1, k, none⟩ = some (.int .u32 0) := by rw [HB.out.cell, tabK_at hlt, if_neg (by omega)]; rfl
          have c2 := HB.out.frozen k
          clear hu
          go_wp2_with fail
          go_roundw
          case rel => exact ⟨k + 1, by omega, by go_num, HA.out.oth (by omega), HS.out ▸ HB.out.put k _, HW.out.setCell (p := ⟨w.heap.size + 1, k, none⟩) (by simp) _⟩
          case measure => simp [intOf]; omega
    · have d1 : ¬ (k : Int) < 16 := by omega
      obtain rfl : k = 16 := by omega
      have HB2 := Lib.hid (show BoxC wr (w.heap.size + 1) tabV 191 from bB)
      clear bA bB hbw HB
      go_wp2_with (first
        | (refine wpList_load_box rfl 191 (.tmp 1) rfl (w.heap.size + 1) 16 57 rfl tabV HB2.out Tryz.underlying191 (by kernel_rfl) ?_)
        | (refine wpList_store_box rfl 191 (.tmp 0) (.tmp 18) rfl w.heap.size (tabK 0) tabV rfl rfl HA.out (by kernel_rfl) rfl (by kernel_rfl) ?_; intro W2 hb2 ho2 hs2; have HX := Lib.hid (And.intro hb2 (Off.below HW.out ho2 HW.out.size (fun k e => by omega))); clear hb2 ho2 hs2))
      have hl2v := box_loadVar (P := Tryz.prog) HX.out.1 Tryz.underlying191 (by kernel_rfl)
      refine bodyPost_ret (v := .agg tabV) (by simp [results, Tryz.f133]; exact hl2v) rfl ?_
      exact ⟨rfl, HX.out.2⟩
end Go.Proofs.YtglkndoghnblcaaGreatDoor
namespace Go.Proofs.YtglkndoghnblcaaGreatDoor
open Go.ChangeShapes Go.WideShapes Go.ChangeAt Go.RowKit
set_option linter.unusedVariables false
set_option linter.unusedSimpArgs false
theorem take_snoc' {L : List Int} {k : Nat} (h : k < L.length) : L.take (k + 1) = L.take k ++ [L.getD k 0] := by
  rw [List.take_add_one, List.getD_eq_getElem?_getD, List.getElem?_eq_getElem h]; rfl
theorem crcR_take (s : Nat) {L : List Int} {k : Nat} (h : k < L.length) : crcR s (L.take (k + 1)) = hf8 (crcR s (L.take k) ^^^ (L.getD k 0).toNat) := by
  rw [take_snoc' h, crcR_snoc]
theorem crcR_bd {s : Nat} (h : s < 4294967296) {L : List Int} (hB : Byt L) (k : Nat) : crcR s (L.take k) < 4294967296 := crcR_lt h fun x hx => hB x (List.mem_of_mem_take hx)
theorem nib_bits (u j : Nat) (hu : u < 4294967296) (hj : u % 16 = j) : bits .xor .u32 ((u : Int) / 16) ((hf4 j : Nat) : Int) = ((hf4 u : Nat) : Int) := by
  have := u32x (u / 16) (hf4 j) (by omega) (hf4_lt (by omega))
  rw [← hj, nib u] at this
  rw [← hj, ← this]
  congr 1
theorem tab_cell {W : World} {B j : Nat} (h : BoxC W B tabV 191) (hj : j < 16) : W.cell? ⟨B, j, none⟩ = some (.int .u32 ((hf4 j : Nat) : Int)) := by
  rw [h.cell]
  have := tabK_at (k := 16) hj
  rw [if_pos hj] at this
  exact this
set_option maxRecDepth 100000 in
set_option maxHeartbeats 4000000 in
/-- More (112). -/
theorem more_law (s : Nat) (hs : s < 4294967296) (a : Option Addr) (L : List Int) (n cap : Nat) (hn : L.length = n) (hn2 : n ≤ 1000000) (hB : Byt L) (w : World) (hL : Rd .u8 w a L) :
    Calls Tryz.prog 92 #[.int .u32 (s : Int), .slice a n cap] w fun e w' => e = .returned (.int .u32 ((crcR (s ^^^ 4294967295) L ^^^ 4294967295 : Nat) : Int)) ∧ Below w.heap.size w w' := by
  have HN := Lib.hid (And.intro hn (And.intro hB hL))
  have e0 : bits .xor .u32 (s : Int) 4294967295 = ((s ^^^ 4294967295 : Nat) : Int) := u32x s 4294967295 hs (by decide)
  obtain ⟨s1, hs1⟩ : ∃ s1, s ^^^ 4294967295 = s1 := ⟨_, rfl⟩
  have hs2 : s1 < 4294967296 := by rw [← hs1]; exact Nat.xor_lt_two_pow (n := 32) hs (by decide)
  rw [hs1] at e0 ⊢
  have HS := Lib.hid (And.intro hs2 hs)
  obtain ⟨r, hr⟩ : ∃ r, crcR s1 L = r := ⟨_, rfl⟩
  have hr2 : r < 4294967296 := by rw [← hr]; exact crcR_lt hs2 hB
  have e9 : bits .xor .u32 (r : Int) 4294967295 = ((r ^^^ 4294967295 : Nat) : Int) := u32x r 4294967295 hr2 (by decide)
  have HRR := Lib.hid hr
  rw [hr]
  obtain ⟨r2, hr3⟩ : ∃ r2, r ^^^ 4294967295 = r2 := ⟨_, rfl⟩
  rw [hr3] at e9 ⊢
  clear hs1 hs2 hr hr2 hr3 hs hn hB hL
  go_enter Tryz.func92, Tryz.ntmps92
  go_wp2_with fail
  refine (table_law _).mono ?_
  rintro e w1 ⟨rfl, hb1⟩
  have HB1 := Lib.hid hb1
  clear hb1
  go_wp2_with (refine wpList_store_box rfl 191 (.tmp 5) (.tmp 8) rfl _ _ tabV rfl rfl (BoxC.new _ _ _) (by kernel_rfl) rfl (by kernel_rfl) ?_; intro W2 hb2 ho2 hs2; have HX := Lib.hid (And.intro hb2 (Off.below ((HB1.out).alloc HB1.out.size _) ho2 (by rw [World.size_alloc]; exact Nat.le_succ_of_le HB1.out.size) (fun k e => by rw [e]; exact HB1.out.size))); clear hb2 ho2 hs2)
  go_loopw [0, 7, 13] (fun v c i wr => ∃ k : Nat, k ≤ n ∧ v = .int .u32 ((crcR s1 (L.take k) : Nat) : Int) ∧ i = .int .i64 (k : Int) ∧ W2 = wr) (fun _ _ i _ => n - (intOf i).toNat)
  case atStart => exact ⟨0, Nat.zero_le _, rfl, rfl, rfl⟩
  case round =>
    obtain ⟨k, hk, rfl, rfl, rfl⟩ := hrel
    obtain ⟨u, hu⟩ : ∃ u, crcR s1 (L.take k) = u := ⟨_, rfl⟩
    have hu2 : u < 4294967296 := by rw [← hu]; exact crcR_bd HS.out.1 HN.out.2.1 k
    rw [hu]
    by_cases hlt : k < n
    · have d1 : (k : Int) < (n : Int) := by omega
      obtain ⟨b, off, rfl, c0⟩ := (HN.out.2.2.below HX.out.2) k (by rw [HN.out.1]; exact hlt)
      have hx := getD_byt HN.out.2.1 k
      obtain ⟨x, hxx⟩ : ∃ x : Nat, L.getD k 0 = (x : Int) := ⟨(L.getD k 0).toNat, by omega⟩
      rw [hxx] at c0 hx
      have HC := Lib.hid (show crcR s1 (L.take (k + 1)) = hf8 (u ^^^ x) by rw [crcR_take s1 (by rw [HN.out.1]; exact hlt), hu, hxx]; rfl)
      have hw : IntKind.u32.wrap (x : Int) = (x : Int) := by rw [IntKind.wrap_u32]; omega
      have e1 := u32x u x hu2 (by omega)
      obtain ⟨u1, hu1⟩ : ∃ u1, u ^^^ x = u1 := ⟨_, rfl⟩
      have hu12 : u1 < 4294967296 := by rw [← hu1]; exact Nat.xor_lt_two_pow (n := 32) hu2 (by omega)
      rw [hu1] at e1
      obtain ⟨j1, hj1⟩ : ∃ j, u1 % 16 = j := ⟨_, rfl⟩
      have j1l : j1 < 16 := by omega
      have j1i : (j1 : Int) < 16 := by omega
      have e2 := and15_32 u1 hu12
      have e3 := nib_bits u1 j1 hu12 hj1
      have c1 := tab_cell HX.out.1 j1l
      have hu22 : hf4 u1 < 4294967296 := hf4_lt hu12
      have HC2 := Lib.hid (show hf8 (u ^^^ x) = hf4 (hf4 u1) by rw [hu1]; rfl)
      rw [hj1] at e2
      obtain ⟨u2, hu2'⟩ : ∃ v, hf4 u1 = v := ⟨_, rfl⟩
      rw [hu2'] at e3 hu22
      obtain ⟨j2, hj2⟩ : ∃ j, u2 % 16 = j := ⟨_, rfl⟩
      have j2l : j2 < 16 := by omega
      have j2i : (j2 : Int) < 16 := by omega
      have e4 := and15_32 u2 hu22
      have e5 := nib_bits u2 j2 hu22 hj2
      have c2 := tab_cell HX.out.1 j2l
      rw [hj2] at e4
      have HC3 := Lib.hid (show crcR s1 (L.take (k + 1)) = hf4 u2 by rw [HC.out, HC2.out, hu2'])
      obtain ⟨t1, ht1⟩ : ∃ t, hf4 j1 = t := ⟨_, rfl⟩
      obtain ⟨t2, ht2⟩ : ∃ t, hf4 j2 = t := ⟨_, rfl⟩
      obtain ⟨u3, hu3⟩ : ∃ t, hf4 u2 = t := ⟨_, rfl⟩
      have HC4 := Lib.hid (show crcR s1 (L.take (k + 1)) = u3 by rw [HC3.out, hu3])
      rw [ht1] at e3 c1
      rw [ht2] at e5 c2
      rw [hu3] at e5
      clear HC HC2 HC3 ht1 ht2 hu3 hj1 hj2 hu1 hu2' hu hxx
      go_wp2_with fail
      go_roundw
      case rel => exact ⟨k + 1, by omega, by rw [HC4.out], by go_num, by first | rfl | trivial⟩
      case measure => simp [intOf]; omega
    · have d1 : ¬ (k : Int) < (n : Int) := by omega
      have HE := Lib.hid (show u = r by rw [← hu, ← HRR.out, List.take_of_length_le (by rw [HN.out.1]; omega)])
      obtain rfl := HE.out
      clear hu
      go_wp2_with fail
      go_ret
      exact ⟨rfl, HX.out.2⟩
set_option maxRecDepth 100000 in
set_option maxHeartbeats 4000000 in
/-- The document's More (111). -/
theorem rmore_law (s : Nat) (hs : s < 4294967296) (a : Option Addr) (L : List Int) (n cap : Nat) (hn : L.length = n) (hn2 : n ≤ 1000000) (hB : Byt L) (w : World) (hL : Rd .u8 w a L) :
    Calls Tryz.prog 49 #[.int .u32 (s : Int), .slice a n cap] w fun e w' => e = .returned (.int .u32 ((crcR (s ^^^ 4294967295) L ^^^ 4294967295 : Nat) : Int)) ∧ w = w' := by
  have HN := Lib.hid (And.intro hn (And.intro hB hL))
  have e0 : bits .xor .u32 (s : Int) 4294967295 = ((s ^^^ 4294967295 : Nat) : Int) := u32x s 4294967295 hs (by decide)
  obtain ⟨s1, hs1⟩ : ∃ s1, s ^^^ 4294967295 = s1 := ⟨_, rfl⟩
  have hs2 : s1 < 4294967296 := by rw [← hs1]; exact Nat.xor_lt_two_pow (n := 32) hs (by decide)
  rw [hs1] at e0 ⊢
  have HS := Lib.hid (And.intro hs2 hs)
  obtain ⟨r, hr⟩ : ∃ r, crcR s1 L = r := ⟨_, rfl⟩
  have hr2 : r < 4294967296 := by rw [← hr]; exact crcR_lt hs2 hB
  have e9 : bits .xor .u32 (r : Int) 4294967295 = ((r ^^^ 4294967295 : Nat) : Int) := u32x r 4294967295 hr2 (by decide)
  have HRR := Lib.hid hr
  rw [hr]
  obtain ⟨r2, hr3⟩ : ∃ r2, r ^^^ 4294967295 = r2 := ⟨_, rfl⟩
  rw [hr3] at e9 ⊢
  clear hs1 hs2 hr hr2 hr3 hs hn hB hL
  go_enter Tryz.func49, Tryz.ntmps49
  go_wp2_with fail
  go_loopw [5, 6] (fun v i wr => ∃ k : Nat, k ≤ n ∧ v = .int .u32 ((crcR s1 (L.take k) : Nat) : Int) ∧ i = .int .i64 (k : Int) ∧ w = wr) (fun _ i _ => n - (intOf i).toNat)
  case atStart => exact ⟨0, Nat.zero_le _, rfl, rfl, rfl⟩
  case round =>
    obtain ⟨k, hk, rfl, rfl, rfl⟩ := hrel
    obtain ⟨u, hu⟩ : ∃ u, crcR s1 (L.take k) = u := ⟨_, rfl⟩
    have hu2 : u < 4294967296 := by rw [← hu]; exact crcR_bd HS.out.1 HN.out.2.1 k
    rw [hu]
    by_cases hlt : k < n
    · have d1 : (k : Int) < (n : Int) := by omega
      obtain ⟨b, off, rfl, c0⟩ := HN.out.2.2 k (by rw [HN.out.1]; exact hlt)
      have hx := getD_byt HN.out.2.1 k
      obtain ⟨x, hxx⟩ : ∃ x : Nat, L.getD k 0 = (x : Int) := ⟨(L.getD k 0).toNat, by omega⟩
      rw [hxx] at c0 hx
      have HC := Lib.hid (show crcR s1 (L.take (k + 1)) = hf8 (u ^^^ x) by rw [crcR_take s1 (by rw [HN.out.1]; exact hlt), hu, hxx]; rfl)
      have hw : IntKind.u32.wrap (x : Int) = (x : Int) := by rw [IntKind.wrap_u32]; omega
      have e1 := u32x u x hu2 (by omega)
      obtain ⟨u1, hu1⟩ : ∃ u1, u ^^^ x = u1 := ⟨_, rfl⟩
      have hu12 : u1 < 4294967296 := by rw [← hu1]; exact Nat.xor_lt_two_pow (n := 32) hu2 (by omega)
      rw [hu1] at e1
      have HC2 := Lib.hid (show crcR s1 (L.take (k + 1)) = hf8 u1 by rw [HC.out, hu1])
      clear HC hu1 hu hxx
      go_wp2_with fail
      refine (rstep_law u1 hu12 _).mono ?_
      rintro e w' ⟨rfl, rfl⟩
      go_wp2_with fail
      go_roundw
      case rel => exact ⟨k + 1, by omega, by rw [HC2.out], by go_num, by first | rfl | trivial⟩
      case measure => simp [intOf]; omega
    · have d1 : ¬ (k : Int) < (n : Int) := by omega
      have HE := Lib.hid (show u = r by rw [← hu, ← HRR.out, List.take_of_length_le (by rw [HN.out.1]; omega)])
      obtain rfl := HE.out
      clear hu
      go_wp2_with fail
      go_ret
      exact ⟨rfl, rfl⟩
/-- The document's Sum (47). -/
theorem rsum_law (a : Option Addr) (L : List Int) (n cap : Nat) (hn : L.length = n) (hn2 : n ≤ 1000000) (hB : Byt L) (w : World) (hL : Rd .u8 w a L) :
    Calls Tryz.prog 22 #[.slice a n cap] w fun e w' => e = .returned (.int .u32 ((crcV L : Nat) : Int)) ∧ w = w' := by
  have HN := Lib.hid (rmore_law 0 (by decide) a L n cap hn hn2 hB w hL)
  clear hn hn2 hB hL
  go_enter Tryz.func22, Tryz.ntmps22
  go_wp2_with fail
  refine HN.out.mono ?_
  rintro e w' ⟨rfl, rfl⟩
  go_wp2_with fail
  go_ret
  exact ⟨rfl, rfl⟩
end Go.Proofs.YtglkndoghnblcaaGreatDoor
namespace Go.Proofs.YtglkndoghnblcaaGreatDoor
open Go.ChangeShapes Go.WideShapes Go.ChangeAt Go.RowKit
set_option linter.unusedVariables false
set_option linter.unusedSimpArgs false
theorem num_law (e : Int) (w : World) : Calls Tryz.prog 10 #[.int .i64 e] w fun r w' => r = .returned (.int .i64 e) ∧ w = w' := by
  go_enter Tryz.func10, Tryz.ntmps10
  go_wp2
  go_ret
  exact ⟨rfl, rfl⟩
theorem mayfield_law (a : Option Addr) (n cap : Nat) (w : World) : Calls Tryz.prog 148 #[.slice a n cap] w fun r w' => r = .returned (.bool (decide (n ≤ 24))) ∧ w = w' := by
  by_cases h : n ≤ 24
  · rw [decide_eq_true h]
    have hi : (n : Int) ≤ 24 := by omega
    go_enter Tryz.func148, Tryz.ntmps148
    go_wp2
    go_ret
    exact ⟨rfl, rfl⟩
  · rw [decide_eq_false h]
    have hi : ¬ (n : Int) ≤ 24 := by omega
    go_enter Tryz.func148, Tryz.ntmps148
    go_wp2
    go_ret
    exact ⟨rfl, rfl⟩
def mayK (n : Nat) : Bool := decide (1 ≤ n ∧ n ≤ 32)
theorem maykey_law (a : Option Addr) (n cap : Nat) (w : World) : Calls Tryz.prog 118 #[.slice a n cap] w fun r w' => r = .returned (.bool (mayK n)) ∧ w = w' := by
  unfold mayK
  rcases (show n < 1 ∨ (1 ≤ n ∧ n ≤ 32) ∨ (1 ≤ n ∧ ¬ n ≤ 32) by omega) with h | ⟨h1, h2⟩ | ⟨h1, h2⟩
  · rw [decide_eq_false (by omega)]
    have hi : ¬ (1 : Int) ≤ (n : Int) := by omega
    go_enter Tryz.func118, Tryz.ntmps118
    go_wp2
    go_ret
    exact ⟨rfl, rfl⟩
  · rw [decide_eq_true (by omega)]
    have hi : (1 : Int) ≤ (n : Int) := by omega
    have hj : (n : Int) ≤ 32 := by omega
    go_enter Tryz.func118, Tryz.ntmps118
    go_wp2
    go_ret
    exact ⟨rfl, rfl⟩
  · rw [decide_eq_false (by omega)]
    have hi : (1 : Int) ≤ (n : Int) := by omega
    have hj : ¬ (n : Int) ≤ 32 := by omega
    go_enter Tryz.func118, Tryz.ntmps118
    go_wp2
    go_ret
    exact ⟨rfl, rfl⟩

/-- A slice of bytes, as it lies. -/
structure P1 where
  ad : Option Addr
  cap : Nat
  bs : List Int
def P1.v (p : P1) : Value := .slice p.ad p.bs.length p.cap
/-- A list of them that lies somewhere. -/
def RdR (W : World) (a : Option Addr) (R : List P1) : Prop := ∀ k p, R[k]? = some p → ∃ b off, a = some ⟨b, off, none⟩ ∧ W.cell? ⟨b, off + k, none⟩ = some p.v ∧ Ls .u8 W p.ad p.cap p.bs
theorem RdR.below {W W' : World} {a : Option Addr} {R : List P1} (h : RdR W a R) (hb : Below W.heap.size W W') : RdR W' a R := fun k p hp => by
  obtain ⟨b, off, e, hc, hl⟩ := h k p hp
  exact ⟨b, off, e, (hb.cell (p := ⟨b, off + k, none⟩) (World.block_lt_of_cell? W _ hc)).trans hc, hl.below hb⟩
theorem RdR.nil (W : World) (a : Option Addr) : RdR W a [] := fun k p h => by simp at h
theorem rdR_new (w : World) (R : List P1) (cs : Array Value) (t : TypeId) (fr : Nat × Nat) (h : cs = (R.map P1.v).toArray) (hl : ∀ p ∈ R, Ls .u8 w p.ad p.cap p.bs) : RdR (w.alloc (.cells cs t fr)) (some ⟨w.heap.size, 0, none⟩) R := fun k p hp => by
  refine ⟨_, _, rfl, by rw [cell_new, Nat.zero_add, h]; simp [hp], (hl p (List.mem_of_getElem? hp)).below ((Below.refl _ _).alloc (Nat.le_refl _) _)⟩
def flat (R : List P1) : List Int := (R.map P1.bs).flatten
theorem flat_take_succ (R : List P1) (k : Nat) (p : P1) (h : R[k]? = some p) : flat (R.take (k + 1)) = flat (R.take k) ++ p.bs := by
  unfold flat
  rw [List.take_add_one, h]
  simp
theorem flat_take_le (R : List P1) (k : Nat) : (flat (R.take k)).length ≤ (flat R).length := by
  have : flat R = flat (R.take k) ++ flat (R.drop k) := by unfold flat; rw [← List.flatten_append, ← List.map_append, List.take_append_drop]
  rw [this, List.length_append]; omega

set_option maxRecDepth 100000 in
set_option maxHeartbeats 2000000 in
theorem join_own (a : Option Addr) (R : List P1) (n cap : Nat) (hn : R.length = n) (hn2 : n ≤ 1048576) (ht : (flat R).length ≤ 1048576) (w : World) (hR : RdR w a R) :
    Calls Tryz.prog 46 #[.slice a n cap] w fun r w' => ∃ a' c', r = .returned (.slice a' (flat R).length c') ∧ Ls .u8 w' a' c' (flat R) ∧ w'.ownsRow w.heap.size 5 1 (.slice a' (flat R).length c') (flat R).length (iv .u8 (flat R)) ∧ Below w.heap.size w w' := by
  have HR := Lib.hid hR
  have HN := Lib.hid hn
  have HT := Lib.hid ht
  clear hR hn ht
  go_enter Tryz.func46, Tryz.ntmps46
  go_wp2_with fail
  go_loopw [3, 8] (fun v i wr => ∃ k : Nat, k ≤ n ∧ i = .int .i64 k ∧ wr.ownsRow w.heap.size 5 1 v (flat (R.take k)).length (iv .u8 (flat (R.take k))) ∧ Below w.heap.size w wr) (fun _ i _ => n - (intOf i).toNat)
  case atStart => exact ⟨0, by omega, rfl, World.ownsRow_nil _ _ _ _, Below.refl _ _⟩
  case round =>
    obtain ⟨k, hk, rfl, hown, B⟩ := hrel
    by_cases hlt : k < n
    · have hkl : (k : Int) < (n : Int) := by omega
      obtain ⟨p, hp⟩ : ∃ p, R[k]? = some p := ⟨_, List.getElem?_eq_getElem (by rw [HN.out]; exact hlt)⟩
      obtain ⟨b1, o1, e1, c1, l1⟩ := HR.out.below B k p hp
      subst e1
      have hF2 := flat_take_succ R k p hp
      have hle := Nat.le_trans (flat_take_le R (k + 1)) HT.out
      rw [hF2, List.length_append] at hle
      obtain ⟨pa, pc, pb⟩ := p
      simp only at l1 hF2 hle
      have c2 : wr.cell? ⟨b1, o1 + k, none⟩ = some (.slice pa pb.length pc) := c1
      obtain ⟨q, hq⟩ : ∃ q, pb.length = q := ⟨_, rfl⟩
      rw [hq] at c2 hle
      obtain ⟨F, hF⟩ : ∃ F, flat (R.take k) = F := ⟨_, rfl⟩
      rw [hF] at hown hF2 hle
      obtain ⟨m, hm⟩ : ∃ m, F.length = m := ⟨_, rfl⟩
      rw [hm] at hown hle
      have HF2 := Lib.hid hF2
      have HM := Lib.hid hm
      have HQ := Lib.hid hq
      have HLE := Lib.hid hle
      have HOWN := Lib.hid hown
      have hs1 := B.size
      clear c1 hp hF hF2 hm hq hle hown
      go_wp2_with (at_builtin; refine append_ls eltB rfl (.tmp 12) (.tmp 13) rfl w.heap.size _ m (iv .u8 F) rfl HOWN.out _ _ q pb HQ.out rfl l1 HLE.out hs1 ?_)
      intro v2 w2 hown2 hgrow2
      rw [← iv_append] at hown2
      have B2 := B.grown hgrow2 hs1 (fun j hj => (HOWN.out.lt j hj).1)
      have HOWN2 := Lib.hid hown2
      clear hown2 hgrow2
      go_wp2_with fail
      go_roundw
      case rel => exact ⟨k + 1, by omega, by go_num, by rw [HF2.out, List.length_append, HM.out, HQ.out]; exact HOWN2.out, B2⟩
      case measure => simp [intOf]; omega
    · have hkl : ¬ (k : Int) < (n : Int) := by omega
      have e : k = n := by omega
      subst e
      rw [List.take_of_length_le (by rw [HN.out]; exact Nat.le_refl _)] at hown
      obtain ⟨a', c', rfl, l', fr⟩ := own_ls hown rfl
      have FR := Lib.hid hown
      clear hown fr
      obtain ⟨m, hm⟩ : ∃ m, (flat R).length = m := ⟨_, rfl⟩
      rw [hm]
      have HM := Lib.hid hm
      clear hm
      go_wp2_with fail
      go_ret
      exact ⟨a', c', by rw [HM.out]; rfl, l', FR.out, B⟩
def upto1 (r k : Nat) : Nat := if k = 0 then 0 else r
set_option maxRecDepth 100000 in
set_option maxHeartbeats 4000000 in
/-- Sum (51) of one text. -/
theorem sum1_law (B : Nat) (a : Option Addr) (L : List Int) (n cap : Nat) (hn : L.length = n) (hn2 : n ≤ 1000000) (hB : Byt L) (w : World) (hL : Rd .u8 w a L) (hc : w.cell? ⟨B, 0, none⟩ = some (.slice a n cap)) :
    Calls Tryz.prog 48 #[.slice (some ⟨B, 0, none⟩) 1 1] w fun e w' => e = .returned (.int .u32 ((crcV L : Nat) : Int)) ∧ Below w.heap.size w w' := by
  have HM := Lib.hid (more_law 0 (by decide) a L n cap hn hn2 hB w hL)
  obtain ⟨r, hr⟩ : ∃ r, crcV L = r := ⟨_, rfl⟩
  have HR := Lib.hid (show crcR (0 ^^^ 4294967295) L ^^^ 4294967295 = r from hr)
  rw [hr]
  clear hn hn2 hB hL hr
  go_enter Tryz.func48, Tryz.ntmps48
  go_wp2_with fail
  go_loopw [3, 5, 8] (fun v c i wr => ∃ k : Nat, k ≤ 1 ∧ v = .int .u32 ((upto1 r k : Nat) : Int) ∧ i = .int .i64 (k : Int) ∧ Below w.heap.size w wr ∧ (k = 0 → w = wr)) (fun _ _ i _ => 1 - (intOf i).toNat)
  case atStart => exact ⟨0, by omega, rfl, rfl, Below.refl _ _, fun _ => rfl⟩
  case round =>
    obtain ⟨k, hk, rfl, rfl, hb, hw⟩ := hrel
    rcases (show k = 0 ∨ k = 1 by omega) with rfl | rfl
    · obtain rfl := hw rfl
      rw [show ((upto1 r 0 : Nat) : Int) = 0 from rfl]
      clear hb hw
      go_wp2_with fail
      refine HM.out.mono ?_
      rintro e w' ⟨rfl, hb⟩
      rw [HR.out]
      go_wp2_with fail
      go_roundw
      case rel => exact ⟨1, by omega, rfl, by go_num, hb, fun h => by omega⟩
      case measure => simp [intOf]
    · have HB := Lib.hid hb
      rw [show ((upto1 r 1 : Nat) : Int) = (r : Int) from rfl]
      clear hb hw
      go_wp2_with fail
      go_ret
      exact ⟨rfl, HB.out⟩
set_option maxRecDepth 100000 in
set_option maxHeartbeats 4000000 in
/-- Holds (156). -/
theorem holds_law (a : Option Addr) (L : List Int) (n cap : Nat) (hn : L.length = n) (hn2 : n ≤ 1000000) (hB : Byt L) (w : World) (hL : Rd .u8 w a L) (s : Nat) (b : Bool) (hb : decide (crcV L = s) = b) :
    Calls Tryz.prog 137 #[.slice a n cap, .int .u32 (s : Int)] w fun e w' => e = .returned (.bool b) ∧ Below w.heap.size w w' := by
  obtain ⟨r, hr⟩ : ∃ r, crcV L = r := ⟨_, rfl⟩
  rw [hr] at hb
  have HS := Lib.hid (show Calls Tryz.prog 48 #[.slice (some ⟨w.heap.size, 0, none⟩) 1 1] (w.alloc (.cells #[.slice a n cap] 54)) _ from sum1_law w.heap.size a L n cap hn hn2 hB (w.alloc (.cells #[.slice a n cap] 54)) (hL.below ((Below.refl _ _).alloc (Nat.le_refl _) _)) (by simp [go_sem]))
  have HRR := Lib.hid hr
  clear hn hn2 hB hL hr
  have h2 : ((r : Int) == (s : Int)) = b := by
    rw [← hb]
    by_cases e : r = s
    · rw [e]; simp
    · rw [decide_eq_false e]; simp; omega
  have h3 : (r == s) = b := by
    rw [← hb]
    by_cases e : r = s
    · rw [e]; simp
    · rw [decide_eq_false e]; simpa using e
  clear hb
  go_enter Tryz.func137, Tryz.ntmps137
  go_wp2_with fail
  refine HS.out.mono ?_
  rintro e w' ⟨rfl, hb⟩
  rw [HRR.out]
  have HB := Lib.hid (step_below ((Below.refl _ _).alloc (Nat.le_refl _) _) hb)
  clear hb
  go_wp2_with fail
  go_ret
  exact ⟨rfl, HB.out⟩
end Go.Proofs.YtglkndoghnblcaaGreatDoor
namespace Go.Proofs.YtglkndoghnblcaaGreatDoor
open Go.ChangeShapes Go.WideShapes Go.ChangeAt Go.RowKit
set_option linter.unusedVariables false
set_option linter.unusedSimpArgs false
theorem Ls.mid {K : IntKind} {t e : TypeId} {bs : Nat} (E : Elt K t e bs) {W : World} {a : Option Addr} {cap : Nat} {L : List Int} (h : Ls K W a cap L) (n i j : Nat) (hn : L.length = n) (hij : i ≤ j) (hj : j ≤ n) :
    ∃ a' c', (∀ W', (Instr.slice t (.slice a n cap) (some (.int .i64 (i : Int))) (some (.int .i64 (j : Int))) .none).run Tryz.prog W' = .ok (.slice a' (j - i) c') W') ∧ Ls K W a' c' ((L.drop i).take (j - i)) := by
  subst hn
  have hle := h.le
  obtain ⟨i0, hi0, hz0, hz1, hz2⟩ := info_parts E.inf
  have hel : Tryz.prog.elem t = e := by simp [Program.elem, E.ut]
  refine ⟨if cap = i then a else a.map (·.add (i * 1)), cap - i, fun W' => ?_, ?_, ?_, by rw [List.length_take, List.length_drop]; omega⟩
  · rw [run_slice_lh (P := Tryz.prog) (w := W') t a L.length cap (by rw [hel]; exact E.ut) .i64 .i64 i j (by omega) (by omega) (by omega)]
    have hs : ((sizeOf (Tryz.prog.elem t)).run Tryz.prog W') = .ok 1 W' := by rw [hel]; simp [sizeOf, typeInfo, hi0, hz1]
    rw [hs]
    rfl
  · by_cases hz : L.length = i
    · rw [List.drop_of_length_le (by omega)]; simpa using Rd.nil _ _ _
    · obtain ⟨b, off, e, _⟩ := h.rd 0 (by omega)
      subst e
      have hd := (h.rd.drop i).take (j - i)
      rw [if_neg (by omega)]
      by_cases h0 : i = 0
      · subst h0; simpa [Addr.add] using hd
      · simpa [Addr.add, h0] using hd
  · intro e
    have ha : a = .none := by
      by_cases hc : cap = i
      · rwa [if_pos hc] at e
      · rw [if_neg hc] at e; simpa using e
    obtain ⟨h1, h2⟩ := h.nl ha
    rw [h1, h2]; simp
theorem own_oth {w w' : World} {base n size B : Nat} {e : TypeId} {v : Value} {xs : List Value} (h : w.ownsRow base e size v n xs) (hB : B < base) (hg : w.grownBy w' (some B)) : w'.ownsRow base e size v n xs := by
  refine h.kept hg ?_
  rcases h.2 with ⟨rfl, _⟩ | ⟨g, cap, cur, rfl, hgg, _⟩
  · exact .inl rfl
  · refine .inr fun e => ?_
    have e' : g = B := by simpa [Value.ownBlock] using e
    omega
theorem own_base {w : World} {b b' n size : Nat} {e : TypeId} {v : Value} {xs : List Value} (hb : b ≤ b') (h : w.ownsRow b' e size v n xs) : w.ownsRow b e size v n xs :=
  ⟨h.1, h.2.imp id fun ⟨g, cap, cur, e1, e2, e3⟩ => ⟨g, cap, cur, e1, Nat.le_trans hb e2, e3⟩⟩
theorem own_apart {w : World} {b1 b2 n m s1 s2 : Nat} {e1 e2 : TypeId} {v u : Value} {xs ys : List Value} (h : w.ownsRow b1 e1 s1 v n xs) (k : w.ownsRow b2 e2 s2 u m ys) (hne : e1 ≠ e2) : v.ownBlock = none ∨ v.ownBlock ≠ u.ownBlock := by
  rcases h.2 with ⟨rfl, _⟩ | ⟨g, cap, cur, rfl, _, hg, _⟩
  · exact .inl rfl
  · refine .inr fun e => ?_
    rcases k.2 with ⟨rfl, _⟩ | ⟨g2, cap2, cur2, rfl, _, hg2, _⟩
    · cases e
    · have e' : g = g2 := by simpa [Value.ownBlock] using e
      subst e'
      rw [hg] at hg2
      simp at hg2
      exact hne hg2.2

/-- The number of the first k bytes. -/
def deK (B : List Int) : Nat → Nat
  | 0 => 0
  | k + 1 => deK B k * 256 + (B.getD k 0).toNat
theorem deK_four (B : List Int) : deK B 4 = de4 B := by simp [deK, de4]
theorem deK_lt {B : List Int} (hb : Byt B) : ∀ k, deK B k < 256 ^ k
  | 0 => by simp [deK]
  | k + 1 => by
    have h1 := deK_lt hb k
    have h2 := getD_byt hb k
    have : deK B (k + 1) = deK B k * 256 + (B.getD k 0).toNat := rfl
    rw [this, Nat.pow_succ]
    omega
theorem or_add {u x : Nat} (hx : x < 256) : u * 256 ||| x = u * 256 + x := by
  have := Nat.two_pow_add_eq_or_of_lt (i := 8) (b := x) (by simpa using hx) u
  rw [Nat.mul_comm u 256]
  exact this.symm
set_option maxRecDepth 100000 in
set_option maxHeartbeats 4000000 in
/-- number (155). -/
theorem fournum_law (a : Option Addr) (L : List Int) (n cap : Nat) (hn : L.length = n) (h4 : 4 ≤ n) (hn2 : n ≤ 1000000) (hB : Byt L) (w : World) (hL : Ls .u8 w a cap L) :
    Calls Tryz.prog 136 #[.slice a n cap] w fun e w' => e = .returned (.int .u32 ((de4 L : Nat) : Int)) ∧ w = w' := by
  obtain ⟨a2, c2, hsl, hl2⟩ := Ls.hi eltB hL n 4 hn h4
  have hi4 : (L.take 4).length = 4 := by rw [List.length_take]; omega
  have HL := Lib.hid hl2
  have HB := Lib.hid (And.intro hB hn)
  have h5 : (4 : Int) ≤ (n : Int) := by omega
  have hsl2 : ∀ W', (Instr.slice 54 (.slice a n cap) none (some (.int .i64 4)) none).run Tryz.prog W' = .ok (.slice a2 4 c2) W' := hsl
  clear hL hB hn hsl hl2
  go_enter Tryz.func136, Tryz.ntmps136
  go_wp2_with fail
  go_loopw [3, 5, 9] (fun v c i wr => ∃ k : Nat, k ≤ 4 ∧ v = .int .u32 ((deK L k : Nat) : Int) ∧ i = .int .i64 (k : Int) ∧ w = wr) (fun _ _ i _ => 4 - (intOf i).toNat)
  case atStart => exact ⟨0, by omega, rfl, rfl, rfl⟩
  case round =>
    obtain ⟨k, hk, rfl, rfl, rfl⟩ := hrel
    obtain ⟨u, hu⟩ : ∃ u, deK L k = u := ⟨_, rfl⟩
    rw [hu]
    by_cases hlt : k < 4
    · have d1 : (k : Int) < 4 := by omega
      obtain ⟨b, off, rfl, c0⟩ := HL.out.rd k (by rw [hi4]; exact hlt)
      have hg : (L.take 4).getD k 0 = L.getD k 0 := by simp [List.getD, List.getElem?_take, hlt]
      rw [hg] at c0
      have hx := getD_byt HB.out.1 k
      obtain ⟨x, hxx⟩ : ∃ x : Nat, L.getD k 0 = (x : Int) := ⟨(L.getD k 0).toNat, by omega⟩
      have hu3 : u < 16777216 := by
        rw [← hu]
        have := deK_lt HB.out.1 k
        have h3 : 256 ^ k ≤ 256 ^ 3 := Nat.pow_le_pow_right (by decide) (by omega)
        omega
      have HC := Lib.hid (show deK L (k + 1) = u * 256 + x by rw [← hu]; show deK L k * 256 + (L.getD k 0).toNat = _; rw [hxx]; rfl)
      rw [hxx] at c0 hx
      have hw : IntKind.u32.wrap (x : Int) = (x : Int) := by rw [IntKind.wrap_u32]; omega
      have hw2 : IntKind.u32.wrap ((u : Int) * 256) = (u : Int) * 256 := by rw [IntKind.wrap_u32]; omega
      have e1 : bits .or .u32 ((u : Int) * 256) (x : Int) = ((u * 256 + x : Nat) : Int) := by
        have := u32_or_nat (u * 256) x (by omega) (by omega)
        rw [or_add (by omega)] at this
        rw [← this]; push_cast; rfl
      clear hu hxx hg
      go_wp2_with fail
      go_roundw
      case rel => exact ⟨k + 1, by omega, by rw [HC.out]; first | rfl | (push_cast; rfl), by go_num, by first | rfl | trivial⟩
      case measure => simp [intOf]; omega
    · have d1 : ¬ (k : Int) < 4 := by omega
      obtain rfl : k = 4 := by omega
      have HE := Lib.hid (show de4 L = u by rw [← deK_four, hu])
      clear hu
      go_wp2_with fail
      go_ret
      exact ⟨HE.out ▸ rfl, rfl⟩
end Go.Proofs.YtglkndoghnblcaaGreatDoor
namespace Go.Proofs.YtglkndoghnblcaaGreatDoor
open Go.ChangeShapes Go.WideShapes Go.ChangeAt Go.RowKit
set_option linter.unusedVariables false
set_option linter.unusedSimpArgs false
/-- A word's byte at place k. -/
def byK (n k : Nat) : Nat := n / 2 ^ (8 * (3 - k)) % 256
theorem be4_take {n k : Nat} (hk : k < 4) : (be4 n).take (k + 1) = (be4 n).take k ++ [((byK n k : Nat) : Int)] := by
  rcases (show k = 0 ∨ k = 1 ∨ k = 2 ∨ k = 3 by omega) with rfl | rfl | rfl | rfl <;> unfold byK be4 <;> simp
theorem byK_lt (n k : Nat) : byK n k < 256 := Nat.mod_lt _ (by decide)
set_option maxRecDepth 100000 in
set_option maxHeartbeats 4000000 in
/-- word (50). -/
theorem word_own (n : Nat) (hn : n < 4294967296) (w : World) :
    Calls Tryz.prog 47 #[.int .u32 (n : Int)] w fun e w' => ∃ a c, e = .returned (.slice a 4 c) ∧ w'.ownsRow w.heap.size 5 1 (.slice a 4 c) 4 (iv .u8 (be4 n)) ∧ Below w.heap.size w w' := by
  go_enter Tryz.func47, Tryz.ntmps47
  go_wp2_with fail
  go_loopw [3, 4] (fun v i wr => ∃ k : Nat, k ≤ 4 ∧ i = .int .i64 (3 - (k : Int)) ∧ wr.ownsRow w.heap.size 5 1 v k (iv .u8 ((be4 n).take k)) ∧ Below w.heap.size w wr) (fun _ i _ => (intOf i + 1).toNat)
  case atStart => exact ⟨0, by omega, rfl, World.ownsRow_nil _ _ _ _, Below.refl _ _⟩
  case round =>
    obtain ⟨k, hk, rfl, hown, B⟩ := hrel
    have HO := Lib.hid hown
    have HB := Lib.hid B
    clear hown B
    by_cases hlt : k < 4
    · have d1 : (0 : Int) ≤ 3 - (k : Int) := by omega
      obtain ⟨x, hx⟩ : ∃ x, byK n k = x := ⟨_, rfl⟩
      have hx2 : x < 256 := by rw [← hx]; exact byK_lt n k
      have HX := Lib.hid (show (be4 n).take (k + 1) = (be4 n).take k ++ [(x : Int)] by rw [← hx]; exact be4_take hlt)
      have e1 : IntKind.i64.wrap (8 * (3 - (k : Int))) = 8 * (3 - (k : Int)) := by rw [IntKind.wrap_i64] <;> omega
      obtain ⟨u, hu⟩ : ∃ u, n / 2 ^ (8 * (3 - k)) = u := ⟨_, rfl⟩
      have d2 : (0 : Int) ≤ 8 * (3 - (k : Int)) := by omega
      have d3 : 8 * (3 - (k : Int)) ≤ 32 := by omega
      have e2 : (n : Int) / 2 ^ (8 * (3 - (k : Int))).toNat = (u : Int) := by
        rw [show (8 * (3 - (k : Int))).toNat = 8 * (3 - k) by omega, ← hu]
        push_cast
        rfl
      have e3 : IntKind.u8.wrap (u : Int) = (x : Int) := by
        rw [IntKind.wrap_u8]
        have : u % 256 = x := by rw [← hu]; exact hx
        omega
      clear hx hu
      obtain ⟨F, hF⟩ : ∃ F, (be4 n).take k = F := ⟨_, rfl⟩
      rw [hF] at HO HX
      have hs1 := HB.out.size
      go_wp2_with (at_builtin; refine append_ls eltB rfl (.tmp 9) (.tmp 15) rfl w.heap.size _ k (iv .u8 F) rfl (HO.out.alloc _) _ _ 1 [(x : Int)] rfl rfl (ls_new .u8 _ [(x : Int)] _ _ _ rfl 1 rfl) (by omega) (by rw [World.size_alloc]; omega) ?_; intro v2 w2 hown2 hgrow2; rw [← iv_append] at hown2; have HO2 := Lib.hid hown2; have HB2 := Lib.hid ((HB.out.alloc hs1 _).grown hgrow2 (by rw [World.size_alloc]; omega) (fun j hj => (HO.out.lt j hj).1)); clear hown2 hgrow2)
      go_roundw
      case rel => exact ⟨k + 1, by omega, by rw [show (3 : Int) - ((k + 1 : Nat) : Int) = 3 - (k : Int) - 1 by omega], by rw [HX.out]; exact HO2.out, HB2.out⟩
      case measure => simp [intOf]; omega
    · have d1 : ¬ (0 : Int) ≤ 3 - (k : Int) := by omega
      obtain rfl : k = 4 := by omega
      obtain ⟨a, c, rfl, _, _⟩ := own_ls HO.out rfl
      go_wp2_with fail
      go_ret
      exact ⟨a, c, rfl, HO.out, HB.out⟩
end Go.Proofs.YtglkndoghnblcaaGreatDoor
namespace Go.Proofs.YtglkndoghnblcaaGreatDoor
open Go.ChangeShapes Go.WideShapes Go.ChangeAt Go.RowKit
set_option linter.unusedVariables false
set_option linter.unusedSimpArgs false
/-- What first answers. -/
def FirR (w : World) (L : List Int) (e : Ending) (w' : World) : Prop := ∃ a' m c', e = .returned (.tuple #[.slice a' m c', .bool (isL L)]) ∧ (isL L = true → m = lenL L ∧ Ls .u8 w' a' c' (bodyL L)) ∧ Below w.heap.size w w'
theorem FirR.no {w : World} {L : List Int} {a' : Option Addr} {m c' : Nat} {w' : World} (h : isL L = false) (b : Below w.heap.size w w') : FirR w L (.returned (.tuple #[.slice a' m c', .bool false])) w' := ⟨a', m, c', by rw [h], (fun h' => absurd (h.symm.trans h') (by decide)), b⟩
theorem isL_no {L : List Int} (h : ¬ (8 ≤ L.length ∧ 1 ≤ lenL L ∧ lenL L ≤ 4096 ∧ lenL L ≤ L.length - 8)) : isL L = false := by
  cases hi : isL L with
  | false => rfl
  | true =>
    obtain ⟨h1, h2, h3, h4, _⟩ := isL_iff.1 hi
    exact absurd ⟨h1, h2, h3, h4⟩ h
set_option maxRecDepth 100000 in
set_option maxHeartbeats 4000000 in
/-- first (115). -/
theorem first_law (a : Option Addr) (L : List Int) (n cap : Nat) (hn : L.length = n) (hn2 : n ≤ 1000000) (hB : Byt L) (w : World) (hL : Ls .u8 w a cap L) :
    Calls Tryz.prog 102 #[.slice a n cap] w (FirR w L) := by
  by_cases h8 : n < 8
  · have HN := Lib.hid (isL_no (L := L) (by rw [hn]; omega))
    have d1 : (n : Int) < 8 := by omega
    clear hn hB hL
    go_enter Tryz.func102, Tryz.ntmps102
    go_wp2_with fail
    go_ret2
    exact FirR.no HN.out (Below.refl _ _)
  · have d1 : ¬ (n : Int) < 8 := by omega
    have HF := Lib.hid (fournum_law a L n cap hn (by omega) hn2 hB w hL)
    obtain ⟨d, hd⟩ : ∃ d, de4 L = d := ⟨_, rfl⟩
    have hdl : d < 4294967296 := by rw [← hd]; exact de4_lt hB
    have HD := Lib.hid hd
    have HN := Lib.hid (And.intro hn (And.intro hB hL))
    have hwc : IntKind.i64.wrap (d : Int) = (d : Int) := by rw [IntKind.wrap_i64] <;> omega
    have hws : IntKind.i64.wrap ((n : Int) - 8) = (n : Int) - 8 := by rw [IntKind.wrap_i64] <;> omega
    clear hn hB hL hd
    by_cases z0 : d = 0
    · subst z0
      have HI := Lib.hid (isL_no (L := L) (by unfold lenL; rw [HD.out]; omega))
      go_enter Tryz.func102, Tryz.ntmps102
      go_wp2_with fail
      refine HF.out.mono ?_; rintro e w' ⟨rfl, rfl⟩
      rw [HD.out]
      go_wp2_with fail
      go_ret2
      exact FirR.no HI.out (Below.refl _ _)
    · by_cases z1 : 4096 < d
      · have e0 : ((d : Int) == 0) = false := by simp; omega
        have e0' : (d == 0) = false := by simp; omega
        have e1 : (4096 : Int) < (d : Int) := by omega
        have HI := Lib.hid (isL_no (L := L) (by unfold lenL; rw [HD.out]; omega))
        go_enter Tryz.func102, Tryz.ntmps102
        go_wp2_with fail
        refine HF.out.mono ?_; rintro e w' ⟨rfl, rfl⟩
        rw [HD.out]
        go_wp2_with fail
        go_ret2
        exact FirR.no HI.out (Below.refl _ _)
      · have e0 : ((d : Int) == 0) = false := by simp; omega
        have e0' : (d == 0) = false := by simp; omega
        have e1 : ¬ (4096 : Int) < (d : Int) := by omega
        by_cases z2 : n - 8 < d
        · have e2 : (n : Int) - 8 < (d : Int) := by omega
          have HI := Lib.hid (isL_no (L := L) (by unfold lenL; rw [HD.out, HN.out.1]; omega))
          go_enter Tryz.func102, Tryz.ntmps102
          go_wp2_with fail
          refine HF.out.mono ?_; rintro e w' ⟨rfl, rfl⟩
          rw [HD.out]
          go_wp2_with fail
          go_ret2
          exact FirR.no HI.out (Below.refl _ _)
        · have e2 : ¬ (n : Int) - 8 < (d : Int) := by omega
          obtain ⟨a2, c2, hs2, hl2⟩ := Ls.mid eltB HN.out.2.2 n 8 (8 + d) HN.out.1 (by omega) (by omega)
          rw [show 8 + d - 8 = d by omega] at hs2 hl2
          obtain ⟨a3, c3, hs3, hl3⟩ := Ls.lo eltB HN.out.2.2 n 4 HN.out.1 (by omega)
          have hs2' : ∀ W', (Instr.slice 54 (.slice a n cap) (some (.int .i64 8)) (some (.int .i64 (8 + (d : Int)))) none).run Tryz.prog W' = .ok (.slice a2 d c2) W' := fun W' => by
            have := hs2 W'
            rw [show ((8 + d : Nat) : Int) = 8 + (d : Int) by omega] at this
            exact this
          have hs3' : ∀ W', (Instr.slice 54 (.slice a n cap) (some (.int .i64 4)) none none).run Tryz.prog W' = .ok (.slice a3 (n - 4) c3) W' := hs3
          have hwa : IntKind.i64.wrap (8 + (d : Int)) = 8 + (d : Int) := by rw [IntKind.wrap_i64] <;> omega
          have hb3 : Byt (L.drop 4) := fun x hx => HN.out.2.1 x (List.mem_of_mem_drop hx)
          have hb2 : Byt (bodyL L) := fun x hx => HN.out.2.1 x (List.mem_of_mem_drop (List.mem_of_mem_take hx))
          have hbl : (bodyL L).length = d := by unfold bodyL lenL; rw [HD.out, List.length_take, List.length_drop, HN.out.1]; omega
          have hl2' : Ls .u8 w a2 c2 (bodyL L) := by unfold bodyL lenL; rw [HD.out]; exact hl2
          have HF3 := Lib.hid (fournum_law a3 (L.drop 4) (n - 4) c3 (by rw [List.length_drop, HN.out.1]) (by omega) (by omega) hb3 w hl3)
          have HH := Lib.hid (holds_law a2 (bodyL L) d c2 hbl (by omega) hb2 w hl2'.rd (de4 (L.drop 4)) (isL L) (by
            unfold isL
            rw [HN.out.1]
            unfold lenL
            rw [HD.out]
            apply decide_eq_decide.2
            constructor
            · intro h; exact ⟨by omega, by omega, by omega, by omega, h⟩
            · intro h; exact h.2.2.2.2))
          have HL2 := Lib.hid hl2'
          clear hs2 hs3 hl2 hl3 hb3 hb2 hbl hl2'
          go_enter Tryz.func102, Tryz.ntmps102
          go_wp2_with fail
          refine HF.out.mono ?_; rintro e w' ⟨rfl, rfl⟩
          rw [HD.out]
          go_wp2_with fail
          refine HF3.out.mono ?_; rintro e w' ⟨rfl, rfl⟩
          go_wp2_with fail
          refine HH.out.mono ?_; rintro e w' ⟨rfl, hb⟩
          have HBW := Lib.hid hb
          clear hb
          go_wp2_with fail
          go_ret2
          exact ⟨a2, d, c2, rfl, fun _ => ⟨by unfold lenL; rw [HD.out], HL2.out.below HBW.out⟩, HBW.out⟩
end Go.Proofs.YtglkndoghnblcaaGreatDoor
namespace Go.Proofs.YtglkndoghnblcaaGreatDoor
open Go.ChangeShapes Go.WideShapes Go.ChangeAt Go.RowKit
set_option linter.unusedVariables false
set_option linter.unusedSimpArgs false
theorem frameL_byt {P : List Int} (h : Byt P) : Byt (frameL P) := by
  intro x hx
  unfold frameL at hx
  rcases List.mem_append.1 hx with h1 | h1
  · exact be4_byt _ x h1
  · rcases List.mem_append.1 h1 with h2 | h2
    · exact be4_byt _ x h2
    · exact h x h2
/-- What Frame answers. -/
def FrmR (w : World) (P : List Int) (e : Ending) (w' : World) : Prop :=
  (P.length = 0 ∧ e = .returned (.tuple #[.slice none 0 0, .int .i64 2]) ∧ w = w') ∨ (4096 < P.length ∧ e = .returned (.tuple #[.slice none 0 0, .int .i64 3]) ∧ w = w') ∨
    (1 ≤ P.length ∧ P.length ≤ 4096 ∧ ∃ a' c', e = .returned (.tuple #[.slice a' (8 + P.length) c', .int .i64 0]) ∧ w'.ownsRow w.heap.size 5 1 (.slice a' (8 + P.length) c') (8 + P.length) (iv .u8 (frameL P)) ∧ Ls .u8 w' a' c' (frameL P) ∧ Below w.heap.size w w')
set_option maxRecDepth 100000 in
set_option maxHeartbeats 4000000 in
/-- Frame (11). -/
theorem frame_law (a : Option Addr) (P : List Int) (n cap : Nat) (hn : P.length = n) (hn2 : n ≤ 1000000) (hB : Byt P) (w : World) (hL : Ls .u8 w a cap P) :
    Calls Tryz.prog 21 #[.slice a n cap] w (FrmR w P) := by
  have HN := Lib.hid (And.intro hn (And.intro hB hL))
  clear hn hB hL
  by_cases h0 : n = 0
  · have e0 : ((n : Int) == 0) = true := by simp; omega
    have e0' : (n == 0) = true := by simp; omega
    have HR := Lib.hid (show P.length = 0 by rw [HN.out.1]; exact h0)
    clear h0
    go_enter Tryz.func21, Tryz.ntmps21
    go_wp2_with fail
    go_ret2
    exact Or.inl ⟨HR.out, rfl, rfl⟩
  · have e0 : ((n : Int) == 0) = false := by simp; omega
    have e0' : (n == 0) = false := by simp; omega
    by_cases h1 : 4096 < n
    · have e1 : (4096 : Int) < (n : Int) := by omega
      have HR := Lib.hid (show 4096 < P.length by rw [HN.out.1]; exact h1)
      go_enter Tryz.func21, Tryz.ntmps21
      go_wp2_with fail
      go_ret2
      exact Or.inr (Or.inl ⟨HR.out, rfl, rfl⟩)
    · have e1 : ¬ (4096 : Int) < (n : Int) := by omega
      have hw : IntKind.u32.wrap (n : Int) = (n : Int) := by rw [IntKind.wrap_u32]; omega
      obtain ⟨s, hs⟩ : ∃ s, crcV P = s := ⟨_, rfl⟩
      have HS := Lib.hid hs
      have hsl : s < 4294967296 := by rw [← hs]; exact crcV_lt HN.out.2.1
      clear hs
      go_enter Tryz.func21, Tryz.ntmps21
      go_wp2_with fail
      refine (word_own n (by omega) _).mono ?_
      rintro e w1 ⟨a1, c1, rfl, ho1, hb1⟩
      have HB1 := Lib.hid hb1
      have HO1 := Lib.hid ho1
      clear hb1 ho1
      go_wp2_with fail
      refine (sum1_law w1.heap.size a P n cap HN.out.1 hn2 HN.out.2.1 _ (HN.out.2.2.rd.below (HB1.out.alloc HB1.out.size _)) (by simp [go_sem])).mono ?_
      rintro e w2 ⟨rfl, hb2⟩
      rw [HS.out]
      have hb12 : Below w1.heap.size w1 w2 := step_below ((Below.refl _ _).alloc (Nat.le_refl _) _) hb2
      obtain ⟨x1, y1, hxy, hl1, _⟩ := own_ls HO1.out rfl
      cases hxy
      have HL1 := Lib.hid (hl1.below hb12)
      have HB2 := Lib.hid (step_below HB1.out hb12)
      clear hb2 hb12 HO1 HB1
      go_wp2_with fail
      refine (word_own s hsl _).mono ?_
      rintro e w3 ⟨a3, c3, rfl, ho3, hb3⟩
      obtain ⟨x3, y3, hxy3, hl3, _⟩ := own_ls ho3 rfl
      cases hxy3
      have HL3 := Lib.hid (And.intro (HL1.out.below hb3) hl3)
      have HB3 := Lib.hid (step_below HB2.out hb3)
      clear hb3 ho3 hl3 HL1 HB2
      have hfl : flat [⟨a1, c1, be4 n⟩, ⟨a3, c3, be4 s⟩, ⟨a, cap, P⟩] = frameL P := by unfold flat frameL; rw [HN.out.1, HS.out]; simp
      have hlen : (frameL P).length = 8 + n := by rw [frameL_len, HN.out.1]
      have hRR := rdR_new w3 [⟨a1, c1, be4 n⟩, ⟨a3, c3, be4 s⟩, ⟨a, cap, P⟩] #[.slice a1 4 c1, .slice a3 4 c3, .slice a n cap] 54 (0, 0) (by simp only [List.map_cons, List.map_nil, P1.v, HN.out.1, be4_len]) (by
        intro p hp
        simp only [List.mem_cons, List.not_mem_nil, or_false] at hp
        rcases hp with rfl | rfl | rfl
        · exact HL3.out.1
        · exact HL3.out.2
        · exact HN.out.2.2.below HB3.out)
      have hj := join_own (some ⟨w3.heap.size, 0, none⟩) _ 3 3 rfl (by omega) (by rw [hfl, hlen]; omega) _ hRR
      rw [hfl, hlen] at hj
      have HJ := Lib.hid hj
      clear hj hRR hfl hlen HL3
      go_wp2_with fail
      refine HJ.out.mono ?_
      rintro e w4 ⟨a4, c4, rfl, hl4, ho4, hb4⟩
      have hb34 : Below w3.heap.size w3 w4 := step_below ((Below.refl _ _).alloc (Nat.le_refl _) _) hb4
      have HX := Lib.hid (And.intro hl4 (And.intro (own_base (by rw [World.size_alloc]; exact Nat.le_succ_of_le HB3.out.size) ho4) (step_below HB3.out hb34)))
      clear hl4 ho4 hb4 hb34 HJ HB3
      go_wp2_with fail
      go_ret2
      refine Or.inr (Or.inr ⟨by rw [HN.out.1]; omega, by rw [HN.out.1]; omega, a4, c4, ?_⟩)
      rw [HN.out.1]
      exact ⟨rfl, HX.out.2.1, HX.out.1, HX.out.2.2⟩
theorem byK_wrap (n m : Nat) : IntKind.u8.wrap ((n : Int) / (m : Int)) = ((n / m % 256 : Nat) : Int) := by
  rw [IntKind.wrap_u8, Int.natCast_emod, Int.natCast_ediv]
  rfl
set_option maxRecDepth 100000 in
set_option maxHeartbeats 4000000 in
/-- The document's word (52). -/
theorem rword_law (n : Nat) (hn : n < 4294967296) (w : World) :
    Calls Tryz.prog 74 #[.int .u32 (n : Int)] w fun e w' => e = .returned (.slice (some ⟨w.heap.size, 0, none⟩) 4 4) ∧ w'.ownsRow w.heap.size 5 1 (.slice (some ⟨w.heap.size, 0, none⟩) 4 4) 4 (iv .u8 (be4 n)) ∧ Below w.heap.size w w' := by
  have e1 : IntKind.u8.wrap ((n : Int) / 16777216) = ((n / 16777216 % 256 : Nat) : Int) := byK_wrap n 16777216
  have e2 : IntKind.u8.wrap ((n : Int) / 65536) = ((n / 65536 % 256 : Nat) : Int) := byK_wrap n 65536
  have e3 : IntKind.u8.wrap ((n : Int) / 256) = ((n / 256 % 256 : Nat) : Int) := byK_wrap n 256
  have e4 : IntKind.u8.wrap (n : Int) = ((n % 256 : Nat) : Int) := by rw [IntKind.wrap_u8, Int.natCast_emod]; rfl
  obtain ⟨x1, h1⟩ : ∃ x, n / 16777216 % 256 = x := ⟨_, rfl⟩
  obtain ⟨x2, h2⟩ : ∃ x, n / 65536 % 256 = x := ⟨_, rfl⟩
  obtain ⟨x3, h3⟩ : ∃ x, n / 256 % 256 = x := ⟨_, rfl⟩
  obtain ⟨x4, h4⟩ : ∃ x, n % 256 = x := ⟨_, rfl⟩
  have HX := Lib.hid (show be4 n = [(x1 : Int), (x2 : Int), (x3 : Int), (x4 : Int)] by unfold be4; rw [h1, h2, h3, h4])
  rw [h1] at e1
  rw [h2] at e2
  rw [h3] at e3
  rw [h4] at e4
  clear h1 h2 h3 h4
  go_enter Tryz.func74, Tryz.ntmps74
  go_wp2_with fail
  go_ret
  refine ⟨rfl, ?_, (Below.refl _ _).alloc (Nat.le_refl _) _⟩
  rw [HX.out]
  exact World.ownsRow_lit w #[.int .u8 (x1 : Int), .int .u8 (x2 : Int), .int .u8 (x3 : Int), .int .u8 (x4 : Int)] 4 (Nat.le_refl _) (by decide) rfl
end Go.Proofs.YtglkndoghnblcaaGreatDoor
