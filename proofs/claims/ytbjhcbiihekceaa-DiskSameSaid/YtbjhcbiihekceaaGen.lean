/- Lists of numbers that lie somewhere, and what is put behind them: plain laws. -/
import Derived.Test.YtbjhcbiihekceaaRows
import Derived.WalkKit
import Derived.WalkMore
import Derived.ProofKit
import Derived.Outline
import Derived.WalkLawsBesides
import Derived.WalkSpells
import Derived.Lib.Hide
import Derived.Below
import Derived.WalkSmall
import Derived.BigRegion
import Derived.Laws.Rows
import Derived.Laws.BytesArg
import Derived.Laws.Concat
import Derived.Laws.OwnMore
import Derived.Deep.QuietTactic
import Derived.BigQuiet
import Derived.Deep.RegionHeld3
import Derived.StillTailTactics
namespace Go.Proofs.Ytbjhcbiihekceaa
open Go.ChangeShapes Go.WideShapes Go.ChangeAt Go.RowKit
set_option linter.unusedVariables false
set_option linter.unusedSimpArgs false

theorem ret_bool {a b : Bool} (h : a = b) : Ending.returned (.bool a) = .returned (.bool b) := by rw [h]
theorem ret_int {k : IntKind} {a b : Int} (h : a = b) : Ending.returned (.int k a) = .returned (.int k b) := by rw [h]
theorem step_below {w a b : World} (h : Below w.heap.size w a) (k : Below a.heap.size a b) : Below w.heap.size w b := h.trans (k.mono h.size)
theorem grown_of_below {w w' : World} (h : Below w.heap.size w w') : w.grownBy w' none := ⟨h.os, h.tape, h.output, h.size, fun k hk _ => h.block k hk⟩
theorem jstep {P : Nat → Prop} {k : Nat} (h : ∀ j < k, P j) (hk : P k) : ∀ j < k + 1, P j := fun j hj => by
  rcases (show j < k ∨ j = k from by omega) with h' | rfl
  · exact h j h'
  · exact hk
theorem addr_add (b off j : Nat) : (⟨b, off, none⟩ : Addr).add j = ⟨b, off + j, none⟩ := by
  unfold Addr.add
  by_cases h : j = 0 <;> simp [h]
theorem cell_new (w : World) (cs : Array Value) (t : TypeId) (fr : Nat × Nat) (k : Nat) : (w.alloc (.cells cs t fr)).cell? ⟨w.heap.size, k, none⟩ = cs[k]? := by
  have h := heap_alloc_new w (.cells cs t fr)
  simp only [World.cell?]
  rw [h]
  simp

def iv (K : IntKind) (L : List Int) : List Value := L.map fun x => .int K x
theorem iv_append (K : IntKind) (a b : List Int) : iv K (a ++ b) = iv K a ++ iv K b := by simp [iv]
theorem iv_length (K : IntKind) (a : List Int) : (iv K a).length = a.length := by simp [iv]
theorem iv_one (K : IntKind) (L : List Int) : ∀ u ∈ iv K L, u.oneCell' = true := fun u hu => by
  simp only [iv, List.mem_map] at hu; obtain ⟨x, _, rfl⟩ := hu; rfl
/-- A list of numbers that lies somewhere. -/
def Rd (K : IntKind) (W : World) (a : Option Addr) (L : List Int) : Prop := ∀ k < L.length, ∃ b off, a = some ⟨b, off, none⟩ ∧ W.cell? ⟨b, off + k, none⟩ = some (.int K (L.getD k 0))
theorem Rd.below {K : IntKind} {W W' : World} {a : Option Addr} {L : List Int} (h : Rd K W a L) (hb : Below W.heap.size W W') : Rd K W' a L := fun k hk => by
  obtain ⟨b, off, e, hc⟩ := h k hk
  exact ⟨b, off, e, (hb.cell (p := ⟨b, off + k, none⟩) (World.block_lt_of_cell? W _ hc)).trans hc⟩
theorem Rd.nil (K : IntKind) (W : World) (a : Option Addr) : Rd K W a [] := fun k hk => absurd hk (by simp)
theorem Rd.take {K : IntKind} {W : World} {a : Option Addr} {L : List Int} (h : Rd K W a L) (k : Nat) : Rd K W a (L.take k) := fun j hj => by
  have hj' : j < k ∧ j < L.length := by simp at hj; omega
  obtain ⟨b, off, e, hc⟩ := h j hj'.2
  exact ⟨b, off, e, by rw [hc]; simp [List.getD, List.getElem?_take, hj'.1]⟩
theorem Rd.drop {K : IntKind} {W : World} {b off : Nat} {L : List Int} (h : Rd K W (some ⟨b, off, none⟩) L) (s : Nat) : Rd K W (some ⟨b, off + s, none⟩) (L.drop s) := fun k hk => by
  have hk' : s + k < L.length := by simp at hk; omega
  obtain ⟨b', off', e, hc⟩ := h (s + k) hk'
  cases e
  refine ⟨b, off + s, rfl, ?_⟩
  rw [Nat.add_assoc, hc]
  simp [List.getD, List.getElem?_drop]
/-- A list of numbers, as a slice of it lies. -/
structure Ls (K : IntKind) (W : World) (a : Option Addr) (cap : Nat) (L : List Int) : Prop where
  rd : Rd K W a L
  nl : a = none → L = [] ∧ cap = 0
  le : L.length ≤ cap
theorem Ls.below {K : IntKind} {W W' : World} {a : Option Addr} {cap : Nat} {L : List Int} (h : Ls K W a cap L) (hb : Below W.heap.size W W') : Ls K W' a cap L := ⟨h.rd.below hb, h.nl, h.le⟩
theorem Ls.drew {K : IntKind} {W : World} {a : Option Addr} {cap : Nat} {L : List Int} (h : Ls K W a cap L) : Ls K W.drew a cap L := ⟨h.rd, h.nl, h.le⟩
theorem Ls.nul (K : IntKind) (W : World) : Ls K W .none 0 [] := ⟨Rd.nil _ _ _, fun _ => ⟨rfl, rfl⟩, Nat.le_refl _⟩
theorem Ls.get {K : IntKind} {W : World} {a : Option Addr} {cap : Nat} {L : List Int} (h : Ls K W a cap L) (k : Nat) (hk : k < L.length) : ∃ b off, a = some ⟨b, off, none⟩ ∧ W.cell? ⟨b, off + k, none⟩ = some (.int K (L.getD k 0)) := h.rd k hk
/-- A slice's type, its element's. -/
structure Elt (K : IntKind) (t e : TypeId) (bs : Nat) : Prop where
  ut : Try.prog.underlying t = some (.slice e)
  inf : (Try.prog.info? e).map (fun i => (i.zero, i.size, i.bytes)) = some (some (.int K 0), 1, bs)
  small : bs ≤ 8
theorem eltB : Elt .u8 34 5 1 := ⟨Try.underlying34, by kernel_rfl, by decide⟩
theorem own_ls {K : IntKind} {w : World} {base n : Nat} {e : TypeId} {v : Value} {L : List Int} (h : w.ownsRow base e 1 v n (iv K L)) (hn : L.length = n) : ∃ a cap, v = .slice a n cap ∧ Ls K w a cap L ∧ (0 < n → ∃ g, a = some ⟨g, 0, .none⟩ ∧ base ≤ g) := by
  have h' := h
  rcases h.2 with ⟨e, h0⟩ | ⟨g, cap, cur, rfl, hg, _, hc, _⟩
  · have : L = [] := List.length_eq_zero_iff.1 (by omega)
    subst this h0
    exact ⟨.none, 0, e, Ls.nul _ _, fun h => absurd h (by simp)⟩
  · refine ⟨_, cap, rfl, ⟨fun k hk => ⟨g, 0, rfl, ?_⟩, fun e => (by cases e), by omega⟩, fun _ => ⟨g, rfl, hg⟩⟩
    rw [Nat.zero_add, h'.cellAt k (by omega)]
    simp [iv, List.getD, hk]
theorem own_kept {w w' : World} {base n size : Nat} {e : TypeId} {v : Value} {xs : List Value} (h : w.ownsRow base e size v n xs) (hb : Below w.heap.size w w') : w'.ownsRow base e size v n xs :=
  h.kept (grown_of_below hb) (by cases hv : v.ownBlock <;> simp)
theorem rd_new (K : IntKind) (w : World) (L : List Int) (cs : Array Value) (t : TypeId) (fr : Nat × Nat) (h : cs = (iv K L).toArray) : Rd K (w.alloc (.cells cs t fr)) (some ⟨w.heap.size, 0, none⟩) L := fun k hk =>
  ⟨_, _, rfl, by rw [cell_new, Nat.zero_add, h]; simp [iv, List.getD, List.getElem?_eq_getElem hk]⟩
theorem ls_new (K : IntKind) (w : World) (L : List Int) (cs : Array Value) (t : TypeId) (fr : Nat × Nat) (h : cs = (iv K L).toArray) (n : Nat) (hn : L.length = n) : Ls K (w.alloc (.cells cs t fr)) (some ⟨w.heap.size, 0, none⟩) n L := ⟨rd_new K w L cs t fr h, fun e => (by cases e), by omega⟩

theorem run_append_ls {K : IntKind} {t e : TypeId} {bs : Nat} (E : Elt K t e bs) (w : World) (ty : TypeId) (base : Nat) (v : Value) (n : Nat) (xs : List Value) (hown : w.ownsRow base e 1 v n xs)
    (ad : Option Addr) (c len : Nat) (L : List Int) (hlen : L.length = len) (hL : Ls K w ad c L) (hb : n + len ≤ 1048576) (hbase : base ≤ w.heap.size) :
    ∃ v' w', (Builtin.append_ #[t, t] ty #[v, .slice ad len c]).run Try.prog w = .ok v' w' ∧ w'.ownsRow base e 1 v' (n + len) (xs ++ iv K L) ∧ w.grownBy w' v.ownBlock := by
  subst hlen
  obtain ⟨i0, hi, hz0, hz1, hz2⟩ := info_parts E.inf
  have hsm := E.small
  rcases ad with _ | ad
  · obtain ⟨rfl, rfl⟩ := hL.nl rfl
    exact ⟨v, w, run_append_owned_none (P := Try.prog) (w := w) base t ty e i0 1 E.ut hi v n xs hown, by simpa [iv] using hown, ⟨rfl, rfl, rfl, Nat.le_refl _, fun _ _ _ => rfl⟩⟩
  · obtain ⟨v', w', h1, h2, h3, _⟩ := run_append_own (P := Try.prog) w base t ty e i0 (.int K 0) 1 bs E.ut hi hz0 hz1 hz2 rfl (by decide) v n xs hown ad L.length c (iv K L) (by simp [iv]) (by
      intro j u hj
      have hjl : j < L.length := by have := (List.getElem?_eq_some_iff.1 hj).1; simpa [iv] using this
      obtain ⟨b, off, e, hc⟩ := hL.rd j hjl
      cases e
      have hu : u = .int K (L.getD j 0) := by
        simp [iv, hjl] at hj
        rw [← hj]; simp [List.getD, List.getElem?_eq_getElem hjl]
      rw [hu, addr_add]
      exact hc) (iv_one K L) (by unfold maxLen; omega) (Nat.le_trans (Nat.mul_le_mul hb hsm) (by decide)) hbase
    exact ⟨v', w', h1, h2, h3⟩
/-- An append of a list that is read, nil or not: in a straight walk, and in a region. -/
theorem wp_append_ls {K : IntKind} {t e : TypeId} {bs : Nat} (E : Elt K t e bs) {o : Oper} {a : Act} {w : World} {Kt : Act → World → Prop} {Q : Exit → Act → World → Prop} (s x : Operand)
    (ho : o.op = .call { callee := .builtin .append, args := #[s, x], argTypes := #[t, t] })
    (base : Nat) (v : Value) (n : Nat) (xs : List Value) (hs : a.eval s = v) (hown : w.ownsRow base e 1 v n xs)
    (ad : Option Addr) (c len : Nat) (L : List Int) (hlen : L.length = len) (hx : a.eval x = .slice ad len c) (hL : Ls K w ad c L)
    (hb : n + len ≤ 1048576) (hbase : base ≤ w.heap.size)
    (h : ∀ v' w', w'.ownsRow base e 1 v' (n + len) (xs ++ iv K L) → w.grownBy w' v.ownBlock → Kt (a.put o.dst v') w') :
    Oper.wp Try.prog o a w Kt Q := by
  obtain ⟨v', w', h1, h2, h3⟩ := run_append_ls E w o.type base v n xs hown ad c len L hlen hL hb hbase
  unfold Oper.wp execOp
  simp only [ho, resolve, invoke, builtin, Sem.run_bind, Sem.run_pure, Result.andThen_ok, List.map_toArray, List.map_cons, List.map_nil, hs, hx, h1]
  exact h v' w' h2 h3
theorem append_ls {K : IntKind} {t e : TypeId} {bs : Nat} (E : Elt K t e bs) {ops : Array Oper} {rest : List Oper} {o : Oper} {a : Act} {w : World} {Q : Exit → Act → World → Prop} (hgd : o.guard = none) (s x : Operand)
    (ho : o.op = .call { callee := .builtin .append, args := #[s, x], argTypes := #[t, t] })
    (base : Nat) (v : Value) (n : Nat) (xs : List Value) (hs : a.eval s = v) (hown : w.ownsRow base e 1 v n xs)
    (ad : Option Addr) (c len : Nat) (L : List Int) (hlen : L.length = len) (hx : a.eval x = .slice ad len c) (hL : Ls K w ad c L)
    (hb : n + len ≤ 1048576) (hbase : base ≤ w.heap.size)
    (h : ∀ v' w', w'.ownsRow base e 1 v' (n + len) (xs ++ iv K L) → w.grownBy w' v.ownBlock → wpList Try.prog ops Q rest (a.put o.dst v') w') :
    wpList Try.prog ops Q (o :: rest) a w :=
  wpList_plain hgd fun Kt hK => wp_append_ls E s x ho base v n xs hs hown ad c len L hlen hx hL hb hbase fun v' w' h1 h2 => hK _ _ (h v' w' h1 h2)
theorem step_append_ls {K : IntKind} {t e : TypeId} {bs : Nat} (E : Elt K t e bs) {ops : Array Oper} {o : Oper} {a : Act} {w : World} {Kt : Act → World → Prop} {Q : Exit → Act → World → Prop} {Z : Prop} (hgd : o.guard = none) (s x : Operand)
    (ho : o.op = .call { callee := .builtin .append, args := #[s, x], argTypes := #[t, t] })
    (base : Nat) (w0 : World) (hB0 : Below base w0 w) (v : Value) (n : Nat) (xs : List Value) (hs : a.eval s = v) (hown : w.ownsRow base e 1 v n xs)
    (ad : Option Addr) (c len : Nat) (L : List Int) (hlen : L.length = len) (hx : a.eval x = .slice ad len c) (hL : Ls K w ad c L)
    (hb : n + len ≤ 1048576) (hbase : base ≤ w.heap.size)
    (h : ∀ v' w', w'.ownsRow base e 1 v' (n + len) (xs ++ iv K L) → Below base w0 w' → w.grownBy w' v.ownBlock → Kt (a.put o.dst v') w') :
    if Region.wanted o (yielded ops a.tmps) = true then Oper.wp Try.prog o a w Kt Q else Z := by
  have hw : Region.wanted o (yielded ops a.tmps) = true := by simp [Region.wanted, hgd]
  rw [if_pos hw]
  exact wp_append_ls E s x ho base v n xs hs hown ad c len L hlen hx hL hb hbase fun v' w' h1 h2 => h v' w' h1 (hB0.grown h2 hbase (fun j hj => (hown.lt j hj).1)) h2
/-- A part of a list. -/
theorem Ls.hi {K : IntKind} {t e : TypeId} {bs : Nat} (E : Elt K t e bs) {W : World} {a : Option Addr} {cap : Nat} {L : List Int} (h : Ls K W a cap L) (n i : Nat) (hn : L.length = n) (hi : i ≤ n) :
    ∃ a' c', (∀ W', (Instr.slice t (.slice a n cap) .none (some (.int .i64 (i : Int))) .none).run Try.prog W' = .ok (.slice a' i c') W') ∧ Ls K W a' c' (L.take i) := by
  subst hn
  have hle := h.le
  refine ⟨a, cap, fun W' => ?_, ⟨h.rd.take i, fun e => by rw [(h.nl e).1]; exact ⟨by simp, (h.nl e).2⟩, by rw [List.length_take]; omega⟩⟩
  obtain ⟨i0, hi0, hz0, hz1, hz2⟩ := info_parts E.inf
  have hel : Try.prog.elem t = e := by simp [Program.elem, E.ut]
  rw [run_slice_h (P := Try.prog) (w := W') t a L.length cap (by rw [hel]; exact E.ut) .i64 i (by omega) (by omega)]
  have hs : ((sizeOf (Try.prog.elem t)).run Try.prog W') = .ok 1 W' := by rw [hel]; simp [sizeOf, typeInfo, hi0, hz1]
  rw [hs]
  cases a <;> simp [sliced, Result.andThen, Addr.add]
theorem Ls.lo {K : IntKind} {t e : TypeId} {bs : Nat} (E : Elt K t e bs) {W : World} {a : Option Addr} {cap : Nat} {L : List Int} (h : Ls K W a cap L) (n i : Nat) (hn : L.length = n) (hi : i ≤ n) :
    ∃ a' c', (∀ W', (Instr.slice t (.slice a n cap) (some (.int .i64 (i : Int))) .none .none).run Try.prog W' = .ok (.slice a' (n - i) c') W') ∧ Ls K W a' c' (L.drop i) := by
  subst hn
  have hle := h.le
  obtain ⟨i0, hi0, hz0, hz1, hz2⟩ := info_parts E.inf
  have hel : Try.prog.elem t = e := by simp [Program.elem, E.ut]
  refine ⟨if cap = i then a else a.map (·.add (i * 1)), cap - i, fun W' => ?_, ?_, ?_, by rw [List.length_drop]; omega⟩
  · rw [run_slice_l (P := Try.prog) (w := W') t a L.length cap (by rw [hel]; exact E.ut) .i64 i (by omega) (by omega)]
    have hs : ((sizeOf (Try.prog.elem t)).run Try.prog W') = .ok 1 W' := by rw [hel]; simp [sizeOf, typeInfo, hi0, hz1]
    rw [hs]
    rfl
  · by_cases hz : L.length = i
    · rw [List.drop_of_length_le (by omega)]; exact Rd.nil _ _ _
    · obtain ⟨b, off, e, _⟩ := h.rd 0 (by omega)
      subst e
      have hd := h.rd.drop i
      rw [if_neg (by omega)]
      by_cases h0 : i = 0
      · subst h0; simpa [Addr.add] using hd
      · simpa [Addr.add, h0] using hd
  · intro e
    have ha : a = .none := by
      by_cases hc : cap = i
      · rwa [if_pos hc] at e
      · rw [if_neg hc] at e; simpa using e
    obtain ⟨h1, h2⟩ := h.nl ha
    rw [h1, h2]; simp
/-- Bytes as a string. -/
theorem conv_ls (w : World) (a : Option Addr) (n cap : Nat) (L : List Int) (hn : L.length = n) (h : Rd .u8 w a L) : (convert 34 9 (.slice a n cap)).run Try.prog w = .ok (.string (strOfNums L)) w := by
  subst hn
  by_cases h0 : L.length = 0
  · have : L = [] := List.length_eq_zero_iff.1 h0
    subst this
    simp only [List.length_nil]
    cases a with
    | none => exact run_convert_bytes_nil w 34 5 Try.underlying34 Try.underlying5 0 cap 9 Try.underlying9
    | some a =>
      rw [run_convert_bytes_string w 34 9 5 _ 0 cap Try.underlying34 Try.underlying5 Try.underlying9, run_bytesToString w a 0 cap [] (run_loadCells_list w a [] (fun j v hj => by simp at hj))]
      rfl
  · obtain ⟨b, off, rfl, _⟩ := h 0 (by omega)
    refine run_convert_bytes_arg w 34 5 Try.underlying34 Try.underlying5 b off _ cap L rfl (fun i hi => ?_) 9 Try.underlying9
    obtain ⟨b', off', e, hc⟩ := h i hi
    cases e
    exact hc
theorem str_append (a b : List Int) : strOfNums (a ++ b) = strOfNums a ++ strOfNums b := by
  apply ByteArray.ext
  simp [strOfNums, ByteArray.data_append]
def Byt (L : List Int) : Prop := ∀ x ∈ L, 0 ≤ x ∧ x ≤ 255
theorem str_inj {a b : List Int} (ha : Byt a) (hb : Byt b) (h : strOfNums a = strOfNums b) : a = b := by
  have h1 : (strOfNums a).data.toList = (strOfNums b).data.toList := by rw [h]
  rw [strOfNums_data, strOfNums_data] at h1
  have hinj : ∀ (l m : List Int), Byt l → Byt m → (l.map fun n => UInt8.ofNat n.toNat) = (m.map fun n => UInt8.ofNat n.toNat) → l = m := by
    intro l
    induction l with
    | nil => intro m _ _ h; cases m with
      | nil => rfl
      | cons => simp at h
    | cons x r ih => intro m hl hm h; cases m with
      | nil => simp at h
      | cons y s =>
        simp only [List.map_cons, List.cons.injEq] at h
        have hx := hl x (by simp)
        have hy := hm y (by simp)
        have e : x.toNat = y.toNat := by
          have := congrArg UInt8.toNat h.1
          simp only [UInt8.toNat_ofNat'] at this
          omega
        rw [show x = y by omega, ih s (fun z hz => hl z (by simp [hz])) (fun z hz => hm z (by simp [hz])) h.2]
  exact hinj a b ha hb h1
theorem Byt.append {a b : List Int} (ha : Byt a) (hb : Byt b) : Byt (a ++ b) := fun x hx => (List.mem_append.1 hx).elim (ha x) (hb x)
theorem Byt.take {a : List Int} (ha : Byt a) (k : Nat) : Byt (a.take k) := fun x hx => ha x (List.mem_of_mem_take hx)
theorem Byt.drop {a : List Int} (ha : Byt a) (k : Nat) : Byt (a.drop k) := fun x hx => ha x (List.mem_of_mem_drop hx)
theorem Byt.get {a : List Int} (ha : Byt a) (k : Nat) (hk : k < a.length) : 0 ≤ a.getD k 0 ∧ a.getD k 0 ≤ 255 := by
  rw [show a.getD k 0 = a[k] by simp [List.getD, List.getElem?_eq_getElem hk]]; exact ha _ (List.getElem_mem hk)
theorem take_succ (L : List Int) (k : Nat) (hk : k < L.length) : L.take (k + 1) = L.take k ++ [L.getD k 0] := by
  rw [List.take_succ_eq_append_getElem hk]
  congr 2
  simp [List.getD, List.getElem?_eq_getElem hk]

/-- A row of numbers that came in. -/
def IsRow (k : IntKind) (w : World) (a : Option Addr) (len cap : Nat) (zs : List Int) : Prop :=
  (a = none ∧ len = 0 ∧ cap = 0 ∧ zs = []) ∨
  ∃ x, a = some x ∧ len ≤ cap ∧ cap ≤ maxLen ∧ zs.length = cap ∧ (∀ i, i < zs.length → w.cell? (x.add i) = some (.int k (zs.getD i 0))) ∧ ∀ n ∈ zs, (Lit.int k n).wf = true
theorem IsRow.ls {K : IntKind} {w : World} {a : Option Addr} {len cap : Nat} {zs : List Int} (h : IsRow K w a len cap zs) : Ls K w a cap (zs.take len) ∧ (zs.take len).length = len := by
  rcases h with ⟨rfl, rfl, rfl, rfl⟩ | ⟨y, rfl, hlc, _, hz, hcell, _⟩
  · exact ⟨Ls.nul _ _, rfl⟩
  · have hl : (zs.take len).length = len := by rw [List.length_take]; omega
    refine ⟨⟨fun k hk => ?_, fun e => (by cases e), by omega⟩, hl⟩
    have hk' : k < len ∧ k < zs.length := by simp at hk; omega
    obtain ⟨b, off, spot⟩ := y
    have hc0 := hcell 0 (by omega)
    have hspot : spot = none := by simpa [Addr.add] using World.cell?_spot hc0
    subst hspot
    have hc := hcell k hk'.2
    rw [addr_add] at hc
    exact ⟨b, off, rfl, by rw [hc]; simp [List.getD, List.getElem?_take, hk'.1]⟩
theorem IsRow.byt {w : World} {a : Option Addr} {len cap : Nat} {zs : List Int} (h : IsRow .u8 w a len cap zs) : Byt (zs.take len) := by
  rcases h with ⟨_, rfl, _, rfl⟩ | ⟨y, rfl, hlc, _, hz, hcell, hw⟩
  · intro x hx; simp at hx
  · intro x hx
    have := hw x (List.mem_of_mem_take hx)
    simpa [Lit.wf, IntKind.min, IntKind.max, IntKind.signed, IntKind.bits] using this
theorem IsRow.max {K : IntKind} {w : World} {a : Option Addr} {len cap : Nat} {zs : List Int} (h : IsRow K w a len cap zs) : len ≤ maxLen := by
  rcases h with ⟨_, rfl, _, _⟩ | ⟨y, rfl, hlc, h2, _⟩
  · exact Nat.zero_le _
  · omega
end Go.Proofs.Ytbjhcbiihekceaa
