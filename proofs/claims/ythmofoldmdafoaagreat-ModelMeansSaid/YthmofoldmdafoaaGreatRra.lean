/- ModelReads: a transaction that reads alone writes nothing, and is answered the same again and again; for every input. Part 1. -/
import Derived.Test.YthmofoldmdafoaaGreatRows
import Derived.WalkKit
import Derived.WalkMore
import Derived.ProofKit
import Derived.Outline
import Derived.WalkLawsBesides
import Derived.WalkSpells
import Derived.Lib.Hide
import Derived.Below
import Derived.WalkSmall
import Derived.BigRegion
import Derived.Laws.Rows
import Derived.Laws.BytesArg
import Derived.Laws.Concat
import Derived.Laws.OwnMore
import Derived.Deep.QuietTactic
import Derived.BigQuiet
import Derived.Deep.RegionHeld3
import Derived.StillTailTactics
import Derived.Deep.Matrix
import Derived.OpenShut
import Derived.Lib.Bytes
import Derived.Lib.SliceRun
import Derived.Laws.BitsAllLaws
import Derived.IntWalk
import Derived.Deep.DeepCutAuto
import Derived.Deep.CutBlock
import Derived.OrdersHeld
import Derived.Deep.RegionHeld
import Derived.KernelRfl
import Derived.Lib.SlBytesConst
import Derived.Deep.CutRange
import Derived.RangeFuncBox
import Derived.RangeFuncNested
import Derived.RangeFuncBound
import Derived.RangeFuncCalls
import Derived.RangeFuncLeaves
import Derived.Shelf.Abstract
import Derived.Shelf.RegionOpen
import Derived.OwnWalkIn
import Derived.TacticsInMore
import Derived.LoopNIn
import Derived.LoopIn
namespace Go.Proofs.YthmofoldmdafoaaGreat
/-- Take number 'i' first (OrdersHeld's move, its side conditions found by themselves). -/
theorem tk {P : Program} {ops : Array Oper} {Q : Exit → Act → World → Prop} {md : Region.Mode} {S : World → Prop} (i : Nat) (v : Value) {oi : Oper} {fuel : Nat} {listed : Array Bool} {a : Act} {w : World}
    (hi : (ops.toList.drop i).head? = some oi) (hy : YieldsIf P ops S oi v a)
    (h : wpAnyH P md ops Q S fuel (listed.setIfInBounds i true) (a.put oi.dst v) w)
    (hb : (Region.noSelect ops && Region.free md ops listed i && (Region.ready md ops listed).contains i) = true := by kernel_rfl)
    (hQ : ∀ c a w, Q (.panic c) (a.put oi.dst v) w → Q (.panic c) a w := by intro _ _ _ h; exact h) (hS : S w := by assumption) : wpAnyH P md ops Q S (fuel + 1) listed a w := by
  simp only [Bool.and_eq_true] at hb
  exact wpAnyH_take (oi := oi) (by simpa [List.head?_drop] using hi) hb.1.1 hb.1.2 hb.2 hQ hy hS h
/-- Take number 'i' first; the frame behind it is written out. -/
theorem tp {P : Program} {ops : Array Oper} {Q : Exit → Act → World → Prop} {md : Region.Mode} {S : World → Prop} (i : Nat) (v : Value) {oi : Oper} {fuel : Nat} {listed : Array Bool} {a a' : Act} {w : World}
    (hi : (ops.toList.drop i).head? = some oi) (hy : YieldsIf P ops S oi v a)
    (h : wpAnyH P md ops Q S fuel (listed.setIfInBounds i true) a' w)
    (ha : a' = a.put oi.dst v := by (simp only [Act.put, List.setIfInBounds_toArray, List.set_cons_zero, List.set_cons_succ]; rfl))
    (hb : (Region.noSelect ops && Region.free md ops listed i && (Region.ready md ops listed).contains i) = true := by kernel_rfl)
    (hQ : ∀ c a w, Q (.panic c) (a.put oi.dst v) w → Q (.panic c) a w := by intro _ _ _ h; exact h) (hS : S w := by assumption) : wpAnyH P md ops Q S (fuel + 1) listed a w := tk i v hi hy (ha ▸ h) hb hQ hS
end Go.Proofs.YthmofoldmdafoaaGreat
namespace Go.Proofs.YthmofoldmdafoaaGreat
open Go.ChangeShapes Go.WideShapes Go.ChangeAt Go.RowKit
set_option linter.unusedVariables false
set_option linter.unusedSimpArgs false

theorem ret_bool {a b : Bool} (h : a = b) : Ending.returned (.bool a) = .returned (.bool b) := by rw [h]
theorem step_below {w a b : World} (h : Below w.heap.size w a) (k : Below a.heap.size a b) : Below w.heap.size w b := h.trans (k.mono h.size)
theorem grown_of_below {w w' : World} (h : Below w.heap.size w w') : w.grownBy w' none := ⟨h.os, h.tape, h.output, h.size, fun k hk _ => h.block k hk⟩
theorem jstep {P : Nat → Prop} {k : Nat} (h : ∀ j < k, P j) (hk : P k) : ∀ j < k + 1, P j := fun j hj => by
  rcases (show j < k ∨ j = k from by omega) with h' | rfl
  · exact h j h'
  · exact hk
theorem addr_add (b off j : Nat) : (⟨b, off, none⟩ : Addr).add j = ⟨b, off + j, none⟩ := by
  unfold Addr.add
  by_cases h : j = 0 <;> simp [h]
theorem cell_new (w : World) (cs : Array Value) (t : TypeId) (fr : Nat × Nat) (k : Nat) : (w.alloc (.cells cs t fr)).cell? ⟨w.heap.size, k, none⟩ = cs[k]? := by
  have h := heap_alloc_new w (.cells cs t fr)
  simp only [World.cell?]
  rw [h]
  simp

def iv (K : IntKind) (L : List Int) : List Value := L.map fun x => .int K x
theorem iv_append (K : IntKind) (a b : List Int) : iv K (a ++ b) = iv K a ++ iv K b := by simp [iv]
theorem iv_one (K : IntKind) (L : List Int) : ∀ u ∈ iv K L, u.oneCell' = true := fun u hu => by
  simp only [iv, List.mem_map] at hu; obtain ⟨x, _, rfl⟩ := hu; rfl
/-- A list of numbers that lies somewhere. -/
def Rd (K : IntKind) (W : World) (a : Option Addr) (L : List Int) : Prop := ∀ k < L.length, ∃ b off, a = some ⟨b, off, none⟩ ∧ W.cell? ⟨b, off + k, none⟩ = some (.int K (L.getD k 0))
theorem Rd.below {K : IntKind} {W W' : World} {a : Option Addr} {L : List Int} (h : Rd K W a L) (hb : Below W.heap.size W W') : Rd K W' a L := fun k hk => by
  obtain ⟨b, off, e, hc⟩ := h k hk
  exact ⟨b, off, e, (hb.cell (p := ⟨b, off + k, none⟩) (World.block_lt_of_cell? W _ hc)).trans hc⟩
theorem Rd.nil (K : IntKind) (W : World) (a : Option Addr) : Rd K W a [] := fun k hk => absurd hk (by simp)
/-- A list of numbers, as a slice of it lies. -/
structure Ls (K : IntKind) (W : World) (a : Option Addr) (cap : Nat) (L : List Int) : Prop where
  rd : Rd K W a L
  nl : a = none → L = [] ∧ cap = 0
  le : L.length ≤ cap
theorem Ls.below {K : IntKind} {W W' : World} {a : Option Addr} {cap : Nat} {L : List Int} (h : Ls K W a cap L) (hb : Below W.heap.size W W') : Ls K W' a cap L := ⟨h.rd.below hb, h.nl, h.le⟩
theorem Ls.nul (K : IntKind) (W : World) : Ls K W .none 0 [] := ⟨Rd.nil _ _ _, fun _ => ⟨rfl, rfl⟩, Nat.le_refl _⟩
theorem Ls.get {K : IntKind} {W : World} {a : Option Addr} {cap : Nat} {L : List Int} (h : Ls K W a cap L) (k : Nat) (hk : k < L.length) : ∃ b off, a = some ⟨b, off, none⟩ ∧ W.cell? ⟨b, off + k, none⟩ = some (.int K (L.getD k 0)) := h.rd k hk
/-- A slice's type, its element's. -/
structure Elt (K : IntKind) (t e : TypeId) (bs : Nat) : Prop where
  ut : Tryz.prog.underlying t = some (.slice e)
  inf : (Tryz.prog.info? e).map (fun i => (i.zero, i.size, i.bytes)) = some (some (.int K 0), 1, bs)
  small : bs ≤ 8
theorem eltB : Elt .u8 42 5 1 := ⟨Tryz.underlying42, by kernel_rfl, by decide⟩
theorem own_ls {K : IntKind} {w : World} {base n : Nat} {e : TypeId} {v : Value} {L : List Int} (h : w.ownsRow base e 1 v n (iv K L)) (hn : L.length = n) : ∃ a cap, v = .slice a n cap ∧ Ls K w a cap L ∧ (0 < n → ∃ g, a = some ⟨g, 0, .none⟩ ∧ base ≤ g) := by
  have h' := h
  rcases h.2 with ⟨e, h0⟩ | ⟨g, cap, cur, rfl, hg, _, hc, _⟩
  · have : L = [] := List.length_eq_zero_iff.1 (by omega)
    subst this h0
    exact ⟨.none, 0, e, Ls.nul _ _, fun h => absurd h (by simp)⟩
  · refine ⟨_, cap, rfl, ⟨fun k hk => ⟨g, 0, rfl, ?_⟩, fun e => (by cases e), by omega⟩, fun _ => ⟨g, rfl, hg⟩⟩
    rw [Nat.zero_add, h'.cellAt k (by omega)]
    simp [iv, List.getD, hk]
theorem own_kept {w w' : World} {base n size : Nat} {e : TypeId} {v : Value} {xs : List Value} (h : w.ownsRow base e size v n xs) (hb : Below w.heap.size w w') : w'.ownsRow base e size v n xs :=
  h.kept (grown_of_below hb) (by cases hv : v.ownBlock <;> simp)
theorem rd_new (K : IntKind) (w : World) (L : List Int) (cs : Array Value) (t : TypeId) (fr : Nat × Nat) (h : cs = (iv K L).toArray) : Rd K (w.alloc (.cells cs t fr)) (some ⟨w.heap.size, 0, none⟩) L := fun k hk =>
  ⟨_, _, rfl, by rw [cell_new, Nat.zero_add, h]; simp [iv, List.getD, List.getElem?_eq_getElem hk]⟩
theorem ls_new (K : IntKind) (w : World) (L : List Int) (cs : Array Value) (t : TypeId) (fr : Nat × Nat) (h : cs = (iv K L).toArray) (n : Nat) (hn : L.length = n) : Ls K (w.alloc (.cells cs t fr)) (some ⟨w.heap.size, 0, none⟩) n L := ⟨rd_new K w L cs t fr h, fun e => (by cases e), by omega⟩

theorem run_append_ls {K : IntKind} {t e : TypeId} {bs : Nat} (E : Elt K t e bs) (w : World) (ty : TypeId) (base : Nat) (v : Value) (n : Nat) (xs : List Value) (hown : w.ownsRow base e 1 v n xs)
    (ad : Option Addr) (c len : Nat) (L : List Int) (hlen : L.length = len) (hL : Ls K w ad c L) (hb : n + len ≤ 1048576) (hbase : base ≤ w.heap.size) :
    ∃ v' w', (Builtin.append_ #[t, t] ty #[v, .slice ad len c]).run Tryz.prog w = .ok v' w' ∧ w'.ownsRow base e 1 v' (n + len) (xs ++ iv K L) ∧ w.grownBy w' v.ownBlock := by
  subst hlen
  obtain ⟨i0, hi, hz0, hz1, hz2⟩ := info_parts E.inf
  have hsm := E.small
  rcases ad with _ | ad
  · obtain ⟨rfl, rfl⟩ := hL.nl rfl
    exact ⟨v, w, run_append_owned_none (P := Tryz.prog) (w := w) base t ty e i0 1 E.ut hi v n xs hown, by simpa [iv] using hown, ⟨rfl, rfl, rfl, Nat.le_refl _, fun _ _ _ => rfl⟩⟩
  · obtain ⟨v', w', h1, h2, h3, _⟩ := run_append_own (P := Tryz.prog) w base t ty e i0 (.int K 0) 1 bs E.ut hi hz0 hz1 hz2 rfl (by decide) v n xs hown ad L.length c (iv K L) (by simp [iv]) (by
      intro j u hj
      have hjl : j < L.length := by have := (List.getElem?_eq_some_iff.1 hj).1; simpa [iv] using this
      obtain ⟨b, off, e, hc⟩ := hL.rd j hjl
      cases e
      have hu : u = .int K (L.getD j 0) := by
        simp [iv, hjl] at hj
        rw [← hj]; simp [List.getD, List.getElem?_eq_getElem hjl]
      rw [hu, addr_add]
      exact hc) (iv_one K L) (by unfold maxLen; omega) (Nat.le_trans (Nat.mul_le_mul hb hsm) (by decide)) hbase
    exact ⟨v', w', h1, h2, h3⟩
/-- An append of a list that is read, nil or not: in a straight walk, and in a region. -/
theorem wp_append_ls {K : IntKind} {t e : TypeId} {bs : Nat} (E : Elt K t e bs) {o : Oper} {a : Act} {w : World} {Kt : Act → World → Prop} {Q : Exit → Act → World → Prop} (s x : Operand)
    (ho : o.op = .call { callee := .builtin .append, args := #[s, x], argTypes := #[t, t] })
    (base : Nat) (v : Value) (n : Nat) (xs : List Value) (hs : a.eval s = v) (hown : w.ownsRow base e 1 v n xs)
    (ad : Option Addr) (c len : Nat) (L : List Int) (hlen : L.length = len) (hx : a.eval x = .slice ad len c) (hL : Ls K w ad c L)
    (hb : n + len ≤ 1048576) (hbase : base ≤ w.heap.size)
    (h : ∀ v' w', w'.ownsRow base e 1 v' (n + len) (xs ++ iv K L) → w.grownBy w' v.ownBlock → Kt (a.put o.dst v') w') :
    Oper.wp Tryz.prog o a w Kt Q := by
  obtain ⟨v', w', h1, h2, h3⟩ := run_append_ls E w o.type base v n xs hown ad c len L hlen hL hb hbase
  unfold Oper.wp execOp
  simp only [ho, resolve, invoke, builtin, Sem.run_bind, Sem.run_pure, Result.andThen_ok, List.map_toArray, List.map_cons, List.map_nil, hs, hx, h1]
  exact h v' w' h2 h3
theorem append_ls {K : IntKind} {t e : TypeId} {bs : Nat} (E : Elt K t e bs) {ops : Array Oper} {rest : List Oper} {o : Oper} {a : Act} {w : World} {Q : Exit → Act → World → Prop} (hgd : o.guard = none) (s x : Operand)
    (ho : o.op = .call { callee := .builtin .append, args := #[s, x], argTypes := #[t, t] })
    (base : Nat) (v : Value) (n : Nat) (xs : List Value) (hs : a.eval s = v) (hown : w.ownsRow base e 1 v n xs)
    (ad : Option Addr) (c len : Nat) (L : List Int) (hlen : L.length = len) (hx : a.eval x = .slice ad len c) (hL : Ls K w ad c L)
    (hb : n + len ≤ 1048576) (hbase : base ≤ w.heap.size)
    (h : ∀ v' w', w'.ownsRow base e 1 v' (n + len) (xs ++ iv K L) → w.grownBy w' v.ownBlock → wpList Tryz.prog ops Q rest (a.put o.dst v') w') :
    wpList Tryz.prog ops Q (o :: rest) a w :=
  wpList_plain hgd fun Kt hK => wp_append_ls E s x ho base v n xs hs hown ad c len L hlen hx hL hb hbase fun v' w' h1 h2 => hK _ _ (h v' w' h1 h2)
/-- Bytes as a string. -/
theorem conv_ls (w : World) (a : Option Addr) (n cap : Nat) (L : List Int) (hn : L.length = n) (h : Rd .u8 w a L) : (convert 42 9 (.slice a n cap)).run Tryz.prog w = .ok (.string (strOfNums L)) w := by
  subst hn
  by_cases h0 : L.length = 0
  · have : L = [] := List.length_eq_zero_iff.1 h0
    subst this
    simp only [List.length_nil]
    cases a with
    | none => exact run_convert_bytes_nil w 42 5 Tryz.underlying42 Tryz.underlying5 0 cap 9 Tryz.underlying9
    | some a =>
      rw [run_convert_bytes_string w 42 9 5 _ 0 cap Tryz.underlying42 Tryz.underlying5 Tryz.underlying9, run_bytesToString w a 0 cap [] (run_loadCells_list w a [] (fun j v hj => by simp at hj))]
      rfl
  · obtain ⟨b, off, rfl, _⟩ := h 0 (by omega)
    refine run_convert_bytes_arg w 42 5 Tryz.underlying42 Tryz.underlying5 b off _ cap L rfl (fun i hi => ?_) 9 Tryz.underlying9
    obtain ⟨b', off', e, hc⟩ := h i hi
    cases e
    exact hc
def Byt (L : List Int) : Prop := ∀ x ∈ L, 0 ≤ x ∧ x ≤ 255
theorem str_inj {a b : List Int} (ha : Byt a) (hb : Byt b) (h : strOfNums a = strOfNums b) : a = b := by
  have h1 : (strOfNums a).data.toList = (strOfNums b).data.toList := by rw [h]
  rw [strOfNums_data, strOfNums_data] at h1
  have hinj : ∀ (l m : List Int), Byt l → Byt m → (l.map fun n => UInt8.ofNat n.toNat) = (m.map fun n => UInt8.ofNat n.toNat) → l = m := by
    intro l
    induction l with
    | nil => intro m _ _ h; cases m with
      | nil => rfl
      | cons => simp at h
    | cons x r ih => intro m hl hm h; cases m with
      | nil => simp at h
      | cons y s =>
        simp only [List.map_cons, List.cons.injEq] at h
        have hx := hl x (by simp)
        have hy := hm y (by simp)
        have e : x.toNat = y.toNat := by
          have := congrArg UInt8.toNat h.1
          simp only [UInt8.toNat_ofNat'] at this
          omega
        rw [show x = y by omega, ih s (fun z hz => hl z (by simp [hz])) (fun z hz => hm z (by simp [hz])) h.2]
  exact hinj a b ha hb h1
theorem Byt.append {a b : List Int} (ha : Byt a) (hb : Byt b) : Byt (a ++ b) := fun x hx => (List.mem_append.1 hx).elim (ha x) (hb x)
theorem Byt.get {a : List Int} (ha : Byt a) (k : Nat) (hk : k < a.length) : 0 ≤ a.getD k 0 ∧ a.getD k 0 ≤ 255 := by
  rw [show a.getD k 0 = a[k] by simp [List.getD, List.getElem?_eq_getElem hk]]; exact ha _ (List.getElem_mem hk)
theorem take_succ (L : List Int) (k : Nat) (hk : k < L.length) : L.take (k + 1) = L.take k ++ [L.getD k 0] := by
  rw [List.take_succ_eq_append_getElem hk]
  congr 2
  simp [List.getD, List.getElem?_eq_getElem hk]

/-- A row of numbers that came in. -/
def IsRow (k : IntKind) (w : World) (a : Option Addr) (len cap : Nat) (zs : List Int) : Prop :=
  (a = none ∧ len = 0 ∧ cap = 0 ∧ zs = []) ∨
  ∃ x, a = some x ∧ len ≤ cap ∧ cap ≤ maxLen ∧ zs.length = cap ∧ (∀ i, i < zs.length → w.cell? (x.add i) = some (.int k (zs.getD i 0))) ∧ ∀ n ∈ zs, (Lit.int k n).wf = true
theorem IsRow.ls {K : IntKind} {w : World} {a : Option Addr} {len cap : Nat} {zs : List Int} (h : IsRow K w a len cap zs) : Ls K w a cap (zs.take len) ∧ (zs.take len).length = len := by
  rcases h with ⟨rfl, rfl, rfl, rfl⟩ | ⟨y, rfl, hlc, _, hz, hcell, _⟩
  · exact ⟨Ls.nul _ _, rfl⟩
  · have hl : (zs.take len).length = len := by rw [List.length_take]; omega
    refine ⟨⟨fun k hk => ?_, fun e => (by cases e), by omega⟩, hl⟩
    have hk' : k < len ∧ k < zs.length := by simp at hk; omega
    obtain ⟨b, off, spot⟩ := y
    have hc0 := hcell 0 (by omega)
    have hspot : spot = none := by simpa [Addr.add] using World.cell?_spot hc0
    subst hspot
    have hc := hcell k hk'.2
    rw [addr_add] at hc
    exact ⟨b, off, rfl, by rw [hc]; simp [List.getD, List.getElem?_take, hk'.1]⟩
end Go.Proofs.YthmofoldmdafoaaGreat
namespace Go.Proofs.YthmofoldmdafoaaGreat
open Go.ChangeShapes Go.WideShapes Go.ChangeAt Go.RowKit
set_option linter.unusedVariables false
set_option linter.unusedSimpArgs false

theorem mayfield_law (a : Option Addr) (n cap : Nat) (w : World) : Calls Tryz.prog 89 #[.slice a n cap] w fun r w' => r = .returned (.bool (decide (n ≤ 24))) ∧ w = w' := by
  by_cases h : n ≤ 24
  · rw [decide_eq_true h]
    have hi : (n : Int) ≤ 24 := by omega
    go_enter Tryz.func89, Tryz.ntmps89
    go_wp2
    go_ret
    exact ⟨rfl, rfl⟩
  · rw [decide_eq_false h]
    have hi : ¬ (n : Int) ≤ 24 := by omega
    go_enter Tryz.func89, Tryz.ntmps89
    go_wp2
    go_ret
    exact ⟨rfl, rfl⟩
def mayK (n : Nat) : Bool := decide (1 ≤ n ∧ n ≤ 32)
theorem maykey_law (a : Option Addr) (n cap : Nat) (w : World) : Calls Tryz.prog 53 #[.slice a n cap] w fun r w' => r = .returned (.bool (mayK n)) ∧ w = w' := by
  unfold mayK
  rcases (show n < 1 ∨ (1 ≤ n ∧ n ≤ 32) ∨ (1 ≤ n ∧ ¬ n ≤ 32) by omega) with h | ⟨h1, h2⟩ | ⟨h1, h2⟩
  · rw [decide_eq_false (by omega)]
    have hi : ¬ (1 : Int) ≤ (n : Int) := by omega
    go_enter Tryz.func53, Tryz.ntmps53
    go_wp2
    go_ret
    exact ⟨rfl, rfl⟩
  · rw [decide_eq_true (by omega)]
    have hi : (1 : Int) ≤ (n : Int) := by omega
    have hj : (n : Int) ≤ 32 := by omega
    go_enter Tryz.func53, Tryz.ntmps53
    go_wp2
    go_ret
    exact ⟨rfl, rfl⟩
  · rw [decide_eq_false (by omega)]
    have hi : (1 : Int) ≤ (n : Int) := by omega
    have hj : ¬ (n : Int) ≤ 32 := by omega
    go_enter Tryz.func53, Tryz.ntmps53
    go_wp2
    go_ret
    exact ⟨rfl, rfl⟩

def esc (x : Int) : List Int := if x = 0 then [0, 255] else [x]
def frontL : List Int → List Int
  | [] => []
  | x :: r => esc x ++ frontL r
theorem frontL_append : ∀ a b : List Int, frontL (a ++ b) = frontL a ++ frontL b
  | [], _ => rfl
  | x :: r, b => by simp only [List.cons_append, frontL, frontL_append r b, List.append_assoc]
theorem frontL_one (x : Int) : frontL [x] = esc x := by simp [frontL]
theorem frontL_len : ∀ a : List Int, (frontL a).length ≤ 2 * a.length
  | [] => by simp [frontL]
  | x :: r => by
    have := frontL_len r
    simp only [frontL, List.length_append, List.length_cons, esc]
    split <;> simp <;> omega
set_option maxRecDepth 100000 in
set_option maxHeartbeats 2000000 in
theorem front_ok (a : Option Addr) (L : List Int) (n cap : Nat) (hL : L.length = n) (hn : n ≤ 24) (w : World) (hR : Ls .u8 w a cap L) :
    Calls Tryz.prog 164 #[.slice a n cap] w fun r w' => ∃ a' c', r = .returned (.tuple #[.slice a' (frontL L).length c', .int .i64 0]) ∧ Ls .u8 w' a' c' (frontL L) ∧ Below w.heap.size w w' := by
  have h := mayfield_law a n cap w
  rw [decide_eq_true hn] at h
  have HR := Lib.hid hR
  have HL := Lib.hid hL
  clear hR hL
  go_enter Tryz.func164, Tryz.ntmps164
  go_wp2_with fail
  go_step3
  go_wp2_with fail
  refine h.mono ?_; rintro e w' ⟨rfl, rfl⟩
  clear h
  go_wp2_with fail
  go_step3
  go_wp2_with fail
  go_loopw [4, 12] (fun v i wr => ∃ k : Nat, k ≤ n ∧ i = .int .i64 k ∧ wr.ownsRow w.heap.size 5 1 v (frontL (L.take k)).length (iv .u8 (frontL (L.take k))) ∧ Below w.heap.size w wr) (fun _ i _ => n - (intOf i).toNat)
  case atStart => exact ⟨0, by omega, rfl, World.ownsRow_nil _ _ _ _, Below.refl _ _⟩
  case round =>
    obtain ⟨k, hk, rfl, hown, B⟩ := hrel
    by_cases hlt : k < n
    · have hkl : (k : Int) < (n : Int) := by omega
      have hkL : k < L.length := by rw [HL.out]; exact hlt
      obtain ⟨b1, o1, e1, c1⟩ := (HR.out.below B).get k hkL
      subst e1
      have hs1 := B.size
      have hts := take_succ L k hkL
      have hfl := frontL_len (L.take k)
      rw [List.length_take] at hfl
      obtain ⟨x, hx⟩ : ∃ x, L.getD k 0 = x := ⟨_, rfl⟩
      rw [hx] at hts c1
      obtain ⟨F, hF⟩ : ∃ F, frontL (L.take k) = F := ⟨_, rfl⟩
      have hF2 : frontL (L.take (k + 1)) = F ++ esc x := by rw [hts, frontL_append, hF, frontL_one]
      rw [hF] at hown hfl
      obtain ⟨m, hm⟩ : ∃ m, F.length = m := ⟨_, rfl⟩
      rw [hm] at hown hfl
      have HF2 := Lib.hid hF2
      have HM := Lib.hid hm
      have hm48 := Lib.hid (show m ≤ 48 by omega)
      have HOWN := Lib.hid hown
      clear hts hx hF hF2 hm hfl hown
      by_cases q : x = 0
      · have t1 : (x != 0) = false := by simpa using q
        have HQ := Lib.hid (show esc x = [x] ++ [255] by rw [q]; rfl)
        clear q
        go_wp2_with (at_builtin; refine append_ls eltB rfl (.tmp 16) (.tmp 18) rfl w.heap.size _ m (iv .u8 F) rfl (HOWN.out.alloc _) _ _ 1 [x] rfl rfl (ls_new .u8 _ [x] _ _ _ rfl 1 rfl) (by have := hm48.out; omega) (by simp; omega) ?_)
        intro v2 w2 hown2 hgrow2
        rw [← iv_append] at hown2
        have B2 := (B.alloc hs1 _).grown hgrow2 (by simp; omega) (fun j hj => (HOWN.out.lt j hj).1)
        have hs2 := B2.size
        have HOWN2 := Lib.hid hown2
        clear hown2 hgrow2
        go_wp2_with (at_builtin; refine append_ls eltB rfl (.tmp 22) (.tmp 23) rfl w.heap.size v2 (m + 1) (iv .u8 (F ++ [x])) rfl (HOWN2.out.alloc _) _ _ 1 [255] rfl rfl (ls_new .u8 _ [255] _ _ _ rfl 1 rfl) (by have := hm48.out; omega) (by simp; omega) ?_)
        intro v3 w3 hown3 hgrow3
        rw [← iv_append] at hown3
        have B3 := (B2.alloc hs2 _).grown hgrow3 (by simp; omega) (fun j hj => (HOWN2.out.lt j hj).1)
        have HOWN3 := Lib.hid hown3
        clear hown3 hgrow3
        go_wp2_with fail
        go_roundw
        case rel => exact ⟨k + 1, by omega, by go_num, by rw [HF2.out, HQ.out, ← List.append_assoc, List.length_append, List.length_append, HM.out]; exact HOWN3.out, B3⟩
        case measure => simp [intOf]; omega
      · have t1 : (x != 0) = true := by simpa using q
        have HQ := Lib.hid (show esc x = [x] by rw [esc, if_neg q])
        clear q
        go_wp2_with (at_builtin; refine append_ls eltB rfl (.tmp 16) (.tmp 18) rfl w.heap.size _ m (iv .u8 F) rfl (HOWN.out.alloc _) _ _ 1 [x] rfl rfl (ls_new .u8 _ [x] _ _ _ rfl 1 rfl) (by have := hm48.out; omega) (by simp; omega) ?_)
        intro v2 w2 hown2 hgrow2
        rw [← iv_append] at hown2
        have B2 := (B.alloc hs1 _).grown hgrow2 (by simp; omega) (fun j hj => (HOWN.out.lt j hj).1)
        have hs2 := B2.size
        have HOWN2 := Lib.hid hown2
        clear hown2 hgrow2
        go_wp2_with fail
        go_roundw
        case rel => exact ⟨k + 1, by omega, by go_num, by rw [HF2.out, HQ.out, List.length_append, HM.out]; exact HOWN2.out, B2⟩
        case measure => simp [intOf]; omega
    · have hkl : ¬ (k : Int) < (n : Int) := by omega
      have e : k = n := by omega
      subst e
      rw [List.take_of_length_le (by rw [HL.out]; exact Nat.le_refl _)] at hown
      obtain ⟨a', c', rfl, l', _⟩ := own_ls hown rfl
      clear hown
      obtain ⟨m, hm⟩ : ∃ m, (frontL L).length = m := ⟨_, rfl⟩
      rw [hm]
      have HM := Lib.hid hm
      clear hm
      go_wp2_with fail
      try rw [Exit.noGoto_ret]
      go_ret2
      exact ⟨a', c', by rw [HM.out]; rfl, l', B⟩

/-- A slice of bytes, as it lies. -/
structure P1 where
  ad : Option Addr
  cap : Nat
  bs : List Int
def P1.v (p : P1) : Value := .slice p.ad p.bs.length p.cap
/-- A list of them that lies somewhere. -/
def RdR (W : World) (a : Option Addr) (R : List P1) : Prop := ∀ k p, R[k]? = some p → ∃ b off, a = some ⟨b, off, none⟩ ∧ W.cell? ⟨b, off + k, none⟩ = some p.v ∧ Ls .u8 W p.ad p.cap p.bs
theorem RdR.below {W W' : World} {a : Option Addr} {R : List P1} (h : RdR W a R) (hb : Below W.heap.size W W') : RdR W' a R := fun k p hp => by
  obtain ⟨b, off, e, hc, hl⟩ := h k p hp
  exact ⟨b, off, e, (hb.cell (p := ⟨b, off + k, none⟩) (World.block_lt_of_cell? W _ hc)).trans hc, hl.below hb⟩
theorem RdR.nil (W : World) (a : Option Addr) : RdR W a [] := fun k p h => by simp at h
theorem rdR_new (w : World) (R : List P1) (cs : Array Value) (t : TypeId) (fr : Nat × Nat) (h : cs = (R.map P1.v).toArray) (hl : ∀ p ∈ R, Ls .u8 w p.ad p.cap p.bs) : RdR (w.alloc (.cells cs t fr)) (some ⟨w.heap.size, 0, none⟩) R := fun k p hp => by
  refine ⟨_, _, rfl, by rw [cell_new, Nat.zero_add, h]; simp [hp], (hl p (List.mem_of_getElem? hp)).below ((Below.refl _ _).alloc (Nat.le_refl _) _)⟩
def flat (R : List P1) : List Int := (R.map P1.bs).flatten
theorem flat_take_succ (R : List P1) (k : Nat) (p : P1) (h : R[k]? = some p) : flat (R.take (k + 1)) = flat (R.take k) ++ p.bs := by
  unfold flat
  rw [List.take_add_one, h]
  simp
theorem flat_take_le (R : List P1) (k : Nat) : (flat (R.take k)).length ≤ (flat R).length := by
  have : flat R = flat (R.take k) ++ flat (R.drop k) := by unfold flat; rw [← List.flatten_append, ← List.map_append, List.take_append_drop]
  rw [this, List.length_append]; omega

set_option maxRecDepth 100000 in
set_option maxHeartbeats 2000000 in
theorem join_own (a : Option Addr) (R : List P1) (n cap : Nat) (hn : R.length = n) (hn2 : n ≤ 1048576) (ht : (flat R).length ≤ 1048576) (w : World) (hR : RdR w a R) :
    Calls Tryz.prog 165 #[.slice a n cap] w fun r w' => ∃ a' c', r = .returned (.slice a' (flat R).length c') ∧ Ls .u8 w' a' c' (flat R) ∧ w'.ownsRow w.heap.size 5 1 (.slice a' (flat R).length c') (flat R).length (iv .u8 (flat R)) ∧ Below w.heap.size w w' := by
  have HR := Lib.hid hR
  have HN := Lib.hid hn
  have HT := Lib.hid ht
  clear hR hn ht
  go_enter Tryz.func165, Tryz.ntmps165
  go_wp2_with fail
  go_loopw [3, 8] (fun v i wr => ∃ k : Nat, k ≤ n ∧ i = .int .i64 k ∧ wr.ownsRow w.heap.size 5 1 v (flat (R.take k)).length (iv .u8 (flat (R.take k))) ∧ Below w.heap.size w wr) (fun _ i _ => n - (intOf i).toNat)
  case atStart => exact ⟨0, by omega, rfl, World.ownsRow_nil _ _ _ _, Below.refl _ _⟩
  case round =>
    obtain ⟨k, hk, rfl, hown, B⟩ := hrel
    by_cases hlt : k < n
    · have hkl : (k : Int) < (n : Int) := by omega
      obtain ⟨p, hp⟩ : ∃ p, R[k]? = some p := ⟨_, List.getElem?_eq_getElem (by rw [HN.out]; exact hlt)⟩
      obtain ⟨b1, o1, e1, c1, l1⟩ := HR.out.below B k p hp
      subst e1
      have hF2 := flat_take_succ R k p hp
      have hle := Nat.le_trans (flat_take_le R (k + 1)) HT.out
      rw [hF2, List.length_append] at hle
      obtain ⟨pa, pc, pb⟩ := p
      simp only at l1 hF2 hle
      have c2 : wr.cell? ⟨b1, o1 + k, none⟩ = some (.slice pa pb.length pc) := c1
      obtain ⟨q, hq⟩ : ∃ q, pb.length = q := ⟨_, rfl⟩
      rw [hq] at c2 hle
      obtain ⟨F, hF⟩ : ∃ F, flat (R.take k) = F := ⟨_, rfl⟩
      rw [hF] at hown hF2 hle
      obtain ⟨m, hm⟩ : ∃ m, F.length = m := ⟨_, rfl⟩
      rw [hm] at hown hle
      have HF2 := Lib.hid hF2
      have HM := Lib.hid hm
      have HQ := Lib.hid hq
      have HLE := Lib.hid hle
      have HOWN := Lib.hid hown
      have hs1 := B.size
      clear c1 hp hF hF2 hm hq hle hown
      go_wp2_with (at_builtin; refine append_ls eltB rfl (.tmp 12) (.tmp 13) rfl w.heap.size _ m (iv .u8 F) rfl HOWN.out _ _ q pb HQ.out rfl l1 HLE.out hs1 ?_)
      intro v2 w2 hown2 hgrow2
      rw [← iv_append] at hown2
      have B2 := B.grown hgrow2 hs1 (fun j hj => (HOWN.out.lt j hj).1)
      have HOWN2 := Lib.hid hown2
      clear hown2 hgrow2
      go_wp2_with fail
      go_roundw
      case rel => exact ⟨k + 1, by omega, by go_num, by rw [HF2.out, List.length_append, HM.out, HQ.out]; exact HOWN2.out, B2⟩
      case measure => simp [intOf]; omega
    · have hkl : ¬ (k : Int) < (n : Int) := by omega
      have e : k = n := by omega
      subst e
      rw [List.take_of_length_le (by rw [HN.out]; exact Nat.le_refl _)] at hown
      obtain ⟨a', c', rfl, l', fr⟩ := own_ls hown rfl
      have FR := Lib.hid hown
      clear hown fr
      obtain ⟨m, hm⟩ : ∃ m, (flat R).length = m := ⟨_, rfl⟩
      rw [hm]
      have HM := Lib.hid hm
      clear hm
      go_wp2_with fail
      go_ret
      exact ⟨a', c', by rw [HM.out]; rfl, l', FR.out, B⟩
def entryL (f k : List Int) : List Int := frontL f ++ ([0, 1] ++ k)
end Go.Proofs.YthmofoldmdafoaaGreat
namespace Go.Proofs.YthmofoldmdafoaaGreat
open Go.ChangeShapes Go.WideShapes Go.ChangeAt Go.RowKit
set_option linter.unusedVariables false
set_option linter.unusedSimpArgs false

theorem eltI : Elt .i64 22 3 8 := ⟨Tryz.underlying22, by kernel_rfl, by decide⟩
def allB (R : List P1) : Bool := R.all fun p => decide (p.bs.length ≤ 24)
theorem allB_iff (R : List P1) : allB R = true ↔ ∀ p ∈ R, p.bs.length ≤ 24 := by simp [allB]
theorem allB_not {R : List P1} {k : Nat} {p : P1} (h : R[k]? = some p) (hp : ¬ p.bs.length ≤ 24) : allB R = false := by
  cases hb : allB R
  · rfl
  · exact absurd ((allB_iff R).1 hb p (List.mem_of_getElem? h)) hp
theorem may1_law (i : Int) (a : Option Addr) (n cap : Nat) (w : World) : Calls Tryz.prog 88 #[.int .i64 i, .slice a n cap] w fun r w' => r = .returned (.tuple #[.int .i64 0, .bool (decide (n ≤ 24))]) ∧ w = w' := by
  have h := mayfield_law a n cap w
  go_enter Tryz.func88, Tryz.ntmps88
  go_wp2_with fail
  refine h.mono ?_; rintro e w' ⟨rfl, rfl⟩
  go_wp2_with fail
  go_ret2
  exact ⟨rfl, rfl⟩
set_option maxRecDepth 100000 in
set_option maxHeartbeats 2000000 in
theorem eachmay_law (a : Option Addr) (R : List P1) (n cap : Nat) (hn : R.length = n) (hn3 : n ≤ 1000000) (w : World) (hR : RdR w a R) :
    Calls Tryz.prog 87 #[.slice a n cap, .func (.func 88) #[] #[]] w fun r w' => (∃ v, r = .returned (.tuple #[v, .bool (allB R)])) ∧ Below w.heap.size w w' := by
  have HR := Lib.hid hR
  have HN := Lib.hid hn
  clear hR hn
  go_enter Tryz.func87, Tryz.ntmps87
  go_wp2_with fail
  go_loopw [6, 13] (fun v i wr => ∃ k : Nat, k ≤ n ∧ i = .int .i64 k ∧ wr.ownsRow w.heap.size 3 1 v k (iv .i64 (List.replicate k 0)) ∧ (∀ j < k, ∀ p, R[j]? = some p → p.bs.length ≤ 24) ∧ Below w.heap.size w wr) (fun _ i _ => n - (intOf i).toNat)
  case atStart => exact ⟨0, by omega, rfl, World.ownsRow_nil _ _ _ _, fun j hj => absurd hj (by omega), Below.refl _ _⟩
  case round =>
    obtain ⟨k, hk, rfl, hown, hpre, B⟩ := hrel
    have HP := Lib.hid hpre
    clear hpre
    by_cases hlt : k < n
    · have hkl : (k : Int) < (n : Int) := by omega
      obtain ⟨p, hp⟩ : ∃ p, R[k]? = some p := ⟨_, List.getElem?_eq_getElem (by rw [HN.out]; exact hlt)⟩
      obtain ⟨b1, o1, e1, c1, l1⟩ := HR.out.below B k p hp
      subst e1
      have c2 : wr.cell? ⟨b1, o1 + k, none⟩ = some (.slice p.ad p.bs.length p.cap) := c1
      have HPP := Lib.hid hp
      obtain ⟨q, hq⟩ : ∃ q, p.bs.length = q := ⟨_, rfl⟩
      rw [hq] at c2
      have HQ := Lib.hid hq
      have hs1 := B.size
      clear c1 hp hq l1
      by_cases hle : q ≤ 24
      · have h1 := may1_law (k : Int) p.ad q p.cap wr
        rw [decide_eq_true hle] at h1
        have H1 := Lib.hid h1
        have HLE := Lib.hid hle
        have HOWN := Lib.hid hown
        clear h1 hle hown
        go_wp2_with fail
        refine H1.out.mono ?_; rintro e w' ⟨rfl, rfl⟩
        go_wp2_with (at_builtin; refine append_ls eltI rfl (.tmp 28) (.tmp 30) rfl w.heap.size _ k (iv .i64 (List.replicate k 0)) rfl (HOWN.out.alloc _) _ _ 1 [0] rfl rfl (ls_new .i64 _ [0] _ _ _ rfl 1 rfl) (by omega) (by simp; omega) ?_)
        intro v2 w3 hown3 hgrow3
        rw [← iv_append, show List.replicate k (0 : Int) ++ [0] = List.replicate (k + 1) 0 from (List.replicate_succ' ..).symm] at hown3
        have B4 := (B.alloc hs1 _).grown hgrow3 (by simp; omega) (fun j hj => (HOWN.out.lt j hj).1)
        have HOWN3 := Lib.hid hown3
        clear hown3 hgrow3
        go_wp2_with fail
        go_roundw
        case rel => exact ⟨k + 1, by omega, by go_num, HOWN3.out, jstep HP.out (fun p' hp' => by have := HPP.out; rw [hp'] at this; cases this; rw [HQ.out]; exact HLE.out), B4⟩
        case measure => simp [intOf]; omega
      · have h1 := may1_law (k : Int) p.ad q p.cap wr
        rw [decide_eq_false hle] at h1
        have H1 := Lib.hid h1
        have HA := Lib.hid (allB_not HPP.out (by rw [HQ.out]; exact hle))
        clear h1 hle hown
        go_wp2_with fail
        refine H1.out.mono ?_; rintro e w' ⟨rfl, rfl⟩
        go_wp2_with fail
        go_ret2
        exact ⟨⟨_, by rw [HA.out]; rfl⟩, B⟩
    · have hkl : ¬ (k : Int) < (n : Int) := by omega
      have HA := Lib.hid (show allB R = true from (allB_iff R).2 fun p hp => by
        obtain ⟨j, hj, e⟩ := List.mem_iff_getElem.1 hp
        exact HP.out j (by have := HN.out; omega) p (by rw [List.getElem?_eq_getElem hj, e]))
      clear hown
      go_wp2_with fail
      go_ret2
      exact ⟨⟨_, by rw [HA.out]; rfl⟩, B⟩
def mayR (R : List P1) : Bool := allB R && decide (1 ≤ R.length ∧ R.length ≤ 3)
set_option maxRecDepth 100000 in
set_option maxHeartbeats 1000000 in
theorem mayr_law (a : Option Addr) (R : List P1) (n cap : Nat) (hn : R.length = n) (hn3 : n ≤ 1000000) (w : World) (hR : RdR w a R) :
    Calls Tryz.prog 54 #[.slice a n cap] w fun r w' => r = .returned (.bool (mayR R)) ∧ Below w.heap.size w w' := by
  have h := eachmay_law a R n cap hn hn3 w hR
  have H := Lib.hid h
  unfold mayR
  rw [hn]
  clear h
  cases hb : allB R
  · rw [hb] at H
    clear hb
    go_enter Tryz.func54, Tryz.ntmps54
    go_wp2_with fail
    refine H.out.mono ?_; rintro e w' ⟨⟨v, rfl⟩, B⟩
    go_wp2_with fail
    go_ret
    exact ⟨rfl, B⟩
  · rw [hb] at H
    clear hb
    rcases (show n < 1 ∨ (1 ≤ n ∧ n ≤ 3) ∨ (1 ≤ n ∧ ¬ n ≤ 3) by omega) with q | ⟨q1, q2⟩ | ⟨q1, q2⟩
    · rw [decide_eq_false (by omega)]
      have hi : ¬ (1 : Int) ≤ (n : Int) := by omega
      go_enter Tryz.func54, Tryz.ntmps54
      go_wp2_with fail
      refine H.out.mono ?_; rintro e w' ⟨⟨v, rfl⟩, B⟩
      go_wp2_with fail
      go_ret
      exact ⟨rfl, B⟩
    · rw [decide_eq_true (by omega)]
      have hi : (1 : Int) ≤ (n : Int) := by omega
      have hj : (n : Int) ≤ 3 := by omega
      go_enter Tryz.func54, Tryz.ntmps54
      go_wp2_with fail
      refine H.out.mono ?_; rintro e w' ⟨⟨v, rfl⟩, B⟩
      go_wp2_with fail
      go_ret
      exact ⟨rfl, B⟩
    · rw [decide_eq_false (by omega)]
      have hi : (1 : Int) ≤ (n : Int) := by omega
      have hj : ¬ (n : Int) ≤ 3 := by omega
      go_enter Tryz.func54, Tryz.ntmps54
      go_wp2_with fail
      refine H.out.mono ?_; rintro e w' ⟨⟨v, rfl⟩, B⟩
      go_wp2_with fail
      go_ret
      exact ⟨ret_bool (by simp; omega), B⟩
theorem mayR_iff (R : List P1) : mayR R = true ↔ (∀ p ∈ R, p.bs.length ≤ 24) ∧ 1 ≤ R.length ∧ R.length ≤ 3 := by
  rw [mayR, Bool.and_eq_true, allB_iff, decide_eq_true_eq]
end Go.Proofs.YthmofoldmdafoaaGreat
namespace Go.Proofs.YthmofoldmdafoaaGreat
open Go.ChangeShapes Go.WideShapes Go.ChangeAt Go.RowKit
set_option linter.unusedVariables false
set_option linter.unusedSimpArgs false

section
variable {H : Type} {enc : TypeId × Value → H} {w : World} {base : Nat} {held : Bool} {d : DataW H} {ps : List MemPlace}
end

theorem kc2 (w : World) (a : Option Addr) (n cap : Nat) (L : List Int) (hn : L.length = n) (h : Ls .u8 w a cap L) : (convert 42 9 (.slice a n cap)).run Tryz.prog w = .ok (.string (strOfNums L)) w := conv_ls w a n cap L hn h.rd
theorem equal_law (a b : Option Addr) (L M : List Int) (n m ca cb : Nat) (hL : L.length = n) (hM : M.length = m) (bL : Byt L) (bM : Byt M) (w : World) (hA : Ls .u8 w a ca L) (hB : Ls .u8 w b cb M) :
    Calls Tryz.prog 94 #[.slice a n ca, .slice b m cb] w fun r w' => r = .returned (.bool (decide (L = M))) ∧ w = w' := by
  have q1 := kc2 w a n ca L hL hA
  have q2 := kc2 w b m cb M hM hB
  by_cases h : L = M
  · rw [decide_eq_true h]
    rw [← h] at q2
    clear h hL hM bL bM hA hB
    go_enter Tryz.func94, Tryz.ntmps94
    go_wp2
    go_ret
    exact ⟨rfl, rfl⟩
  · rw [decide_eq_false h]
    have hs : ((strOfNums L).toList == (strOfNums M).toList) = false := by
      rw [beq_eq_false_iff_ne]
      intro e
      rw [Lib.strOfNums_toList, Lib.strOfNums_toList] at e
      exact h (str_inj bL bM (ByteArray.ext (Array.toList_inj.1 (by rw [strOfNums_data, strOfNums_data]; exact e))))
    generalize strOfNums L = sL at q1 hs
    generalize strOfNums M = sM at q2 hs
    clear h hL hM bL bM hA hB
    go_enter Tryz.func94, Tryz.ntmps94
    go_wp2
    go_ret
    exact ⟨rfl, rfl⟩
theorem same1_law (i : Nat) (a : Option Addr) (L : List Int) (n cap : Nat) (hL : L.length = n) (bL : Byt L) (B : Nat) (S : List P1) (bad : Option Addr) (bn bc : Nat) (hS : S.length = bn) (q : P1) (hq : S[i]? = some q) (bq : Byt q.bs) (w : World) (hA : Ls .u8 w a cap L) (hB : RdR w bad S) (hb : w.cell? ⟨B, 0, none⟩ = some (.slice bad bn bc)) (hi : i ≤ 1000000) :
    Calls Tryz.prog 93 #[.int .i64 (i : Int), .slice a n cap, .pointer (some ⟨B, 0, none⟩)] w fun r w' => r = .returned (.tuple #[.int .i64 0, .bool (decide (L = q.bs))]) ∧ w = w' := by
  obtain ⟨b1, o1, rfl, c1, l1⟩ := hB i q hq
  have h := Lib.hid (equal_law a q.ad L q.bs n q.bs.length cap q.cap hL rfl bL bq w hA l1)
  have c2 : w.cell? ⟨b1, o1 + i, none⟩ = some (.slice q.ad q.bs.length q.cap) := c1
  have hil : (i : Int) < (bn : Int) := by have := (List.getElem?_eq_some_iff.1 hq).1; omega
  obtain ⟨m, hm⟩ : ∃ m, q.bs.length = m := ⟨_, rfl⟩
  rw [hm] at h c2
  clear c1 hm hq hB hS l1 hA hL
  go_enter Tryz.func93, Tryz.ntmps93
  go_wp2_with fail
  refine h.out.mono ?_; rintro e w' ⟨rfl, rfl⟩
  go_wp2_with fail
  go_ret2
  exact ⟨rfl, rfl⟩
def eqB (R S : List P1) : Bool := decide (R.map P1.bs = S.map P1.bs)
set_option maxRecDepth 100000 in
set_option maxHeartbeats 2000000 in
theorem eachsame_law (a : Option Addr) (R S : List P1) (n cap B : Nat) (bad : Option Addr) (bc : Nat) (hn : R.length = n) (hS : S.length = n) (hn3 : n ≤ 1000000) (bR : ∀ p ∈ R, Byt p.bs) (bS : ∀ p ∈ S, Byt p.bs) (w : World) (hR : RdR w a R) (hB : RdR w bad S) (hb : w.cell? ⟨B, 0, none⟩ = some (.slice bad n bc)) :
    Calls Tryz.prog 87 #[.slice a n cap, .func (.func 93) #[] #[.pointer (some ⟨B, 0, none⟩)]] w fun r w' => (∃ v, r = .returned (.tuple #[v, .bool (eqB R S)])) ∧ Below w.heap.size w w' := by
  have HR := Lib.hid hR
  have HS := Lib.hid hB
  have HN := Lib.hid hn
  have HM := Lib.hid hS
  have hbl := World.block_lt_of_cell? w _ hb
  have HBC := Lib.hid (fun W (bl : Below w.heap.size w W) => ((bl.cell (p := ⟨B, 0, none⟩) hbl).trans hb : W.cell? ⟨B, 0, none⟩ = some (.slice bad n bc)))
  have BR := Lib.hid bR
  have BS := Lib.hid bS
  clear hR hB hn hS hb bR bS hbl
  go_enter Tryz.func87, Tryz.ntmps87
  go_wp2_with fail
  go_loopw [6, 13] (fun v i wr => ∃ k : Nat, k ≤ n ∧ i = .int .i64 k ∧ wr.ownsRow w.heap.size 3 1 v k (iv .i64 (List.replicate k 0)) ∧ (∀ j < k, ∀ p q, R[j]? = some p → S[j]? = some q → p.bs = q.bs) ∧ Below w.heap.size w wr) (fun _ i _ => n - (intOf i).toNat)
  case atStart => exact ⟨0, by omega, rfl, World.ownsRow_nil _ _ _ _, fun j hj => absurd hj (by omega), Below.refl _ _⟩
  case round =>
    obtain ⟨k, hk, rfl, hown, hpre, B0⟩ := hrel
    have HP := Lib.hid hpre
    clear hpre
    by_cases hlt : k < n
    · have hkl : (k : Int) < (n : Int) := by omega
      obtain ⟨p, hp⟩ : ∃ p, R[k]? = some p := ⟨_, List.getElem?_eq_getElem (by rw [HN.out]; exact hlt)⟩
      obtain ⟨q, hq⟩ : ∃ q, S[k]? = some q := ⟨_, List.getElem?_eq_getElem (by rw [HM.out]; exact hlt)⟩
      obtain ⟨b1, o1, e1, c1, l1⟩ := HR.out.below B0 k p hp
      subst e1
      have c2 : wr.cell? ⟨b1, o1 + k, none⟩ = some (.slice p.ad p.bs.length p.cap) := c1
      have h1 := same1_law k p.ad p.bs p.bs.length p.cap rfl (BR.out p (List.mem_of_getElem? hp)) B S bad n bc HM.out q hq (BS.out q (List.mem_of_getElem? hq)) wr l1 (HS.out.below B0) (HBC.out _ B0) (by omega)
      have HPP := Lib.hid hp
      have HQQ := Lib.hid hq
      obtain ⟨m, hm⟩ : ∃ m, p.bs.length = m := ⟨_, rfl⟩
      rw [hm] at c2 h1
      have hs1 := B0.size
      clear c1 hp hq hm l1
      by_cases hle : p.bs = q.bs
      · rw [decide_eq_true hle] at h1
        have H1 := Lib.hid h1
        have HLE := Lib.hid hle
        have HOWN := Lib.hid hown
        clear h1 hle hown
        go_wp2_with fail
        refine H1.out.mono ?_; rintro e w' ⟨rfl, rfl⟩
        go_wp2_with (at_builtin; refine append_ls eltI rfl (.tmp 28) (.tmp 30) rfl w.heap.size _ k (iv .i64 (List.replicate k 0)) rfl (HOWN.out.alloc _) _ _ 1 [0] rfl rfl (ls_new .i64 _ [0] _ _ _ rfl 1 rfl) (by omega) (by simp; omega) ?_)
        intro v2 w3 hown3 hgrow3
        rw [← iv_append, show List.replicate k (0 : Int) ++ [0] = List.replicate (k + 1) 0 from (List.replicate_succ' ..).symm] at hown3
        have B4 := (B0.alloc hs1 _).grown hgrow3 (by simp; omega) (fun j hj => (HOWN.out.lt j hj).1)
        have HOWN3 := Lib.hid hown3
        clear hown3 hgrow3
        go_wp2_with fail
        go_roundw
        case rel => exact ⟨k + 1, by omega, by go_num, HOWN3.out, jstep HP.out (fun p' q' hp' hq' => by have h1 := HPP.out; have h2 := HQQ.out; rw [hp'] at h1; rw [hq'] at h2; cases h1; cases h2; exact HLE.out), B4⟩
        case measure => simp [intOf]; omega
      · rw [decide_eq_false hle] at h1
        have H1 := Lib.hid h1
        have HA := Lib.hid (show eqB R S = false from decide_eq_false fun e => hle (by
          have := congrArg (fun l : List (List Int) => l[k]?) e
          simpa [HPP.out, HQQ.out] using this))
        clear h1 hle hown
        go_wp2_with fail
        refine H1.out.mono ?_; rintro e w' ⟨rfl, rfl⟩
        go_wp2_with fail
        go_ret2
        exact ⟨⟨_, by rw [HA.out]; rfl⟩, B0⟩
    · have hkl : ¬ (k : Int) < (n : Int) := by omega
      have HA := Lib.hid (show eqB R S = true from decide_eq_true (by
        apply List.ext_getElem
        · simp [HN.out, HM.out]
        · intro i h1 h2
          simp at h1 h2
          simp
          exact HP.out i (by have := HN.out; omega) _ _ (List.getElem?_eq_getElem h1) (List.getElem?_eq_getElem h2)))
      clear hown
      go_wp2_with fail
      go_ret2
      exact ⟨⟨_, by rw [HA.out]; rfl⟩, B0⟩
theorem eqB_len {R S : List P1} (h : R.length ≠ S.length) : eqB R S = false := decide_eq_false fun e => h (by simpa using congrArg List.length e)
set_option maxRecDepth 100000 in
set_option maxHeartbeats 1000000 in
theorem same_law (a b : Option Addr) (R S : List P1) (n m ca cb : Nat) (hn : R.length = n) (hm : S.length = m) (hn3 : n ≤ 1000000) (bR : ∀ p ∈ R, Byt p.bs) (bS : ∀ p ∈ S, Byt p.bs) (w : World) (hR : RdR w a R) (hS : RdR w b S) :
    Calls Tryz.prog 65 #[.slice a n ca, .slice b m cb] w fun r w' => r = .returned (.bool (eqB R S)) ∧ Below w.heap.size w w' := by
  by_cases h : n = m
  · subst h
    have b0 : Below w.heap.size w (w.alloc (.cells #[.slice b n cb] 50)) := (Below.refl _ _).alloc (Nat.le_refl _) _
    have hc : (w.alloc (.cells #[.slice b n cb] 50)).cell? ⟨w.heap.size, 0, none⟩ = some (.slice b n cb) := by rw [cell_new]; rfl
    have h := Lib.hid (eachsame_law a R S n ca w.heap.size b cb hn hm hn3 bR bS _ (hR.below b0) (hS.below b0) hc)
    have hmf : ∀ (fn : Fn) (first cap : Array Value) (w : World), (Instr.makeFunc fn first cap).run Tryz.prog w = .ok (.func fn first cap) w := fun _ _ _ _ => rfl
    have B0 := Lib.hid b0
    clear hn hm bR bS hR hS b0 hc
    go_enter Tryz.func65, Tryz.ntmps65
    go_wp2_with fail
    refine h.out.mono ?_; rintro e w' ⟨⟨v, rfl⟩, B⟩
    go_wp2_with fail
    go_ret
    exact ⟨rfl, step_below B0.out B⟩
  · have hne : ((n : Int) != (m : Int)) = true := by simp; omega
    rw [eqB_len (by omega)]
    clear h hn hm bR bS hR hS
    go_enter Tryz.func65, Tryz.ntmps65
    go_wp2_with fail
    go_ret
    exact ⟨rfl, (Below.refl _ _).alloc (Nat.le_refl _) _⟩
end Go.Proofs.YthmofoldmdafoaaGreat
namespace Go.Proofs.YthmofoldmdafoaaGreat
open Go.ChangeShapes Go.WideShapes Go.ChangeAt Go.RowKit
set_option linter.unusedVariables false
set_option linter.unusedSimpArgs false

theorem eqB_take {R S : List P1} {n : Nat} (hn : R.length = n) (hm : S.length = n) (h : ∀ j < n, ∀ p q, R[j]? = some p → S[j]? = some q → p.bs = q.bs) : eqB R S = true := decide_eq_true (by
  apply List.ext_getElem
  · simp [hn, hm]
  · intro i h1 h2
    simp at h1 h2
    simp
    exact h i (by omega) _ _ (List.getElem?_eq_getElem h1) (List.getElem?_eq_getElem h2))
theorem eqB_not {R S : List P1} {k : Nat} {p q : P1} (hp : R[k]? = some p) (hq : S[k]? = some q) (h : p.bs ≠ q.bs) : eqB R S = false := decide_eq_false fun e => h (by
  have := congrArg (fun l : List (List Int) => l[k]?) e
  simpa [hp, hq] using this)
theorem Ls.drewN {K : IntKind} {W : World} {a : Option Addr} {cap : Nat} {L : List Int} (h : Ls K W a cap L) {n : Nat} : Ls K (W.drewN n) a cap L := ⟨h.rd, h.nl, h.le⟩
theorem below_drewN {m : Nat} {w W : World} (h : Below m w W) (n : Nat) : Below m w (W.drewN n) := ⟨h.os, h.tape, h.output, h.size, h.block⟩
set_option maxRecDepth 100000 in
set_option maxHeartbeats 1000000 in
theorem rsame_law (a b : Option Addr) (R S : List P1) (n m ca cb : Nat) (hn : R.length = n) (hm : S.length = m) (hn3 : n ≤ 1000000) (bR : ∀ p ∈ R, Byt p.bs) (bS : ∀ p ∈ S, Byt p.bs) (w : World) (hR : RdR w a R) (hS : RdR w b S) :
    Calls Tryz.prog 20 #[.slice a n ca, .slice b m cb] w fun r w' => r = .returned (.bool (eqB R S)) ∧ Below w.heap.size w w' := by
  by_cases h : n = m
  · subst h
    have HR := Lib.hid hR
    have HS := Lib.hid hS
    have HN := Lib.hid hn
    have HM := Lib.hid hm
    have BR := Lib.hid bR
    have BS := Lib.hid bS
    clear hR hn hS hm bR bS
    go_enter Tryz.func20, Tryz.ntmps20
    go_wp2_with fail
    go_loopw [5] (fun i wr => ∃ k : Nat, k ≤ n ∧ i = .int .i64 k ∧ (∀ j < k, ∀ p q, R[j]? = some p → S[j]? = some q → p.bs = q.bs) ∧ Below w.heap.size w wr) (fun i _ => n - (intOf i).toNat)
    case atStart => exact ⟨0, by omega, rfl, fun j hj => absurd hj (by omega), Below.refl _ _⟩
    case round =>
      obtain ⟨k, hk, rfl, hpre, B0⟩ := hrel
      have HP := Lib.hid hpre
      have BB := Lib.hid B0
      clear hpre B0
      by_cases hlt : k < n
      · have hkl : (k : Int) < (n : Int) := by omega
        have hk9 : (k : Int) ≤ 1000000 := by omega
        obtain ⟨p, hp⟩ : ∃ p, R[k]? = some p := ⟨_, List.getElem?_eq_getElem (by rw [HN.out]; exact hlt)⟩
        obtain ⟨q, hq⟩ : ∃ q, S[k]? = some q := ⟨_, List.getElem?_eq_getElem (by rw [HM.out]; exact hlt)⟩
        obtain ⟨b1, o1, e1, c1, l1⟩ := HR.out.below BB.out k p hp
        obtain ⟨b2, o2, e2, c2, l2⟩ := HS.out.below BB.out k q hq
        subst e1 e2
        have q1 : ∀ n, (convert 42 9 (.slice p.ad p.bs.length p.cap)).run Tryz.prog (wr.drewN n) = .ok (.string (strOfNums p.bs)) (wr.drewN n) := fun n => kc2 (wr.drewN n) p.ad p.bs.length p.cap p.bs rfl l1.drewN
        have q2 : ∀ n, (convert 42 9 (.slice q.ad q.bs.length q.cap)).run Tryz.prog (wr.drewN n) = .ok (.string (strOfNums q.bs)) (wr.drewN n) := fun n => kc2 (wr.drewN n) q.ad q.bs.length q.cap q.bs rfl l2.drewN
        have d1 : wr.cell? ⟨b1, o1 + k, none⟩ = some (.slice p.ad p.bs.length p.cap) := c1
        have d2 : wr.cell? ⟨b2, o2 + k, none⟩ = some (.slice q.ad q.bs.length q.cap) := c2
        have BP := Lib.hid (BR.out p (List.mem_of_getElem? hp))
        have BQ := Lib.hid (BS.out q (List.mem_of_getElem? hq))
        have HPP := Lib.hid hp
        have HQQ := Lib.hid hq
        clear c1 c2 hp hq l1 l2
        by_cases hle : p.bs = q.bs
        · rw [← hle] at q2 d2
          have HLE := Lib.hid hle
          clear hle
          go_wp2_with fail
          go_quiet (fail)
          go_wp2_with fail
          go_roundw
          case rel => exact ⟨k + 1, by omega, by go_num, jstep HP.out (fun p' q' hp' hq' => by have h1 := HPP.out; have h2 := HQQ.out; rw [hp'] at h1; rw [hq'] at h2; cases h1; cases h2; exact HLE.out), below_drewN BB.out _⟩
          case measure => simp [intOf]; omega
        · have hs : ((strOfNums p.bs).toList == (strOfNums q.bs).toList) = false := by
            rw [beq_eq_false_iff_ne]
            intro e
            rw [Lib.strOfNums_toList, Lib.strOfNums_toList] at e
            exact hle (str_inj BP.out BQ.out (ByteArray.ext (Array.toList_inj.1 (by rw [strOfNums_data, strOfNums_data]; exact e))))
          have HA := Lib.hid (eqB_not HPP.out HQQ.out hle)
          clear hle
          go_wp2_with fail
          go_quiet (fail)
          go_wp2_with fail
          go_ret
          exact ⟨ret_bool HA.out.symm, below_drewN BB.out _⟩
      · have hkl : ¬ (k : Int) < (n : Int) := by omega
        have HA := Lib.hid (eqB_take HN.out HM.out (fun j hj => HP.out j (by omega)))
        go_wp2_with fail
        go_ret
        exact ⟨ret_bool HA.out.symm, BB.out⟩
  · have hne : ((n : Int) != (m : Int)) = true := by simp; omega
    rw [eqB_len (by omega)]
    clear h hn hm bR bS hR hS
    go_enter Tryz.func20, Tryz.ntmps20
    go_wp2_with fail
    go_ret
    exact ⟨rfl, Below.refl _ _⟩
end Go.Proofs.YthmofoldmdafoaaGreat
namespace Go.Proofs.YthmofoldmdafoaaGreat
open Go.ChangeShapes Go.WideShapes Go.ChangeAt Go.RowKit
set_option linter.unusedVariables false
set_option linter.unusedSimpArgs false

set_option maxRecDepth 100000 in
set_option maxHeartbeats 1000000 in
theorem clone_law (a : Option Addr) (L : List Int) (n cap : Nat) (hL : L.length = n) (hn : n ≤ 1000000) (w : World) (hA : Ls .u8 w a cap L) :
    Calls Tryz.prog 92 #[.slice a n cap] w fun r w' => ∃ a' c', r = .returned (.slice a' n c') ∧ Ls .u8 w' a' c' L ∧ Below w.heap.size w w' := by
  have HA := Lib.hid hA
  have HL := Lib.hid hL
  rcases a with _ | a
  · obtain ⟨rfl, rfl⟩ := hA.nl rfl
    simp only [List.length_nil] at hL
    subst hL
    have hsn : ∀ W, (binOp .eql 42 (.slice none 0 0) (.slice none 0 0)).run Tryz.prog W = .ok (.bool true) W := fun W => Lib.run_eql_slice_nil W 42 5 none 0 0 0 0 Tryz.underlying42
    clear hA
    go_enter Tryz.func92, Tryz.ntmps92
    go_wp2_with fail
    go_ret
    exact ⟨none, 0, rfl, Ls.nul _ _, Below.refl _ _⟩
  · clear hA hL
    have hsn : ∀ W, (binOp .eql 42 (.slice (some a) n cap) (.slice none 0 0)).run Tryz.prog W = .ok (.bool false) W := fun W => Lib.run_eql_slice_nil W 42 5 (some a) n cap 0 0 Tryz.underlying42
    go_enter Tryz.func92, Tryz.ntmps92
    go_wp2_with (at_builtin; refine append_ls eltB rfl (.tmp 5) (.tmp 6) rfl w.heap.size _ 0 [] rfl (World.ownsRow_lit w #[] 0 (Nat.le_refl _) (by decide) rfl) _ _ n L HL.out rfl (HA.out.below ((Below.refl _ _).alloc (Nat.le_refl _) _)) (by omega) (by simp) ?_)
    intro v2 w2 hown2 hgrow2
    have B2 := ((Below.refl w.heap.size w).alloc (Nat.le_refl _) _).grown hgrow2 (by simp) (fun j hj => by simp [Value.ownBlock] at hj; omega)
    obtain ⟨a', c', rfl, l', _⟩ := own_ls hown2 HL.out
    clear hown2 hgrow2
    go_wp2_with fail
    go_ret
    exact ⟨a', c', rfl, l', B2⟩

def splitL : List Int → List Int → Option (List Int × List Int)
  | _, [] => none
  | _, [_] => none
  | f, x :: y :: s => if x = 0 then (if y = 1 then (if f.length ≤ 24 ∧ mayK s.length = true then some (f, s) else none) else if y = 255 then splitL (f ++ [0]) s else none) else splitL (f ++ [x]) (y :: s)
def spV (o : Option (List Int × List Int)) : List Int × List Int × Int := match o with
  | some (f, k) => (f, k, 0)
  | none => ([], [], 4)
def splitV (L : List Int) : List Int × List Int × Int := spV (splitL [] L)

end Go.Proofs.YthmofoldmdafoaaGreat
namespace Go.Proofs.YthmofoldmdafoaaGreat
open Go.ChangeShapes Go.WideShapes Go.ChangeAt Go.RowKit
set_option linter.unusedVariables false
set_option linter.unusedSimpArgs false

def wv (B : List Int) (j : Nat) : Int := B.getD (8 * j) 0 * 72057594037927936 + B.getD (8 * j + 1) 0 * 281474976710656 + B.getD (8 * j + 2) 0 * 1099511627776 + B.getD (8 * j + 3) 0 * 4294967296 + B.getD (8 * j + 4) 0 * 16777216 + B.getD (8 * j + 5) 0 * 65536 + B.getD (8 * j + 6) 0 * 256 + B.getD (8 * j + 7) 0
/-- The words so far: how many bytes, then these. -/
def mw (n : Nat) (L : List Int) (k j : Nat) : Int := if j = 0 then (n : Int) else wv (L.take k) (j - 1)
structure Mw (W : World) (g n c : Nat) (L : List Int) (k : Nat) : Prop where
  cell : ∀ j < 1 + c, W.cell? ⟨g, j, none⟩ = some (.int .u64 (mw n L k j))
  free : ∀ j < 1 + c, W.frozen? ⟨g, j, none⟩ = false
end Go.Proofs.YthmofoldmdafoaaGreat
namespace Go.Proofs.YthmofoldmdafoaaGreat
open Go.ChangeShapes Go.WideShapes Go.ChangeAt Go.RowKit
set_option linter.unusedVariables false
set_option linter.unusedSimpArgs false

/-- A reader in its block. -/
structure Rdr (W : World) (B : Nat) (ad : Option Addr) (cap n : Nat) (L : List Int) (at_ : Nat) : Prop where
  len : L.length = n
  c0 : W.cell? ⟨B, 0, none⟩ = some (.slice ad n cap)
  c1 : W.cell? ⟨B, 1, none⟩ = some (.int .i64 (at_ : Int))
  c2 : W.cell? ⟨B, 2, none⟩ = some (.bool true)
  f0 : W.frozen? ⟨B, 0, none⟩ = false
  f1 : W.frozen? ⟨B, 1, none⟩ = false
  f2 : W.frozen? ⟨B, 2, none⟩ = false
  ls : ∀ W', (∀ k b off, ad = some ⟨b, off, none⟩ → W'.cell? ⟨b, off + k, none⟩ = W.cell? ⟨b, off + k, none⟩) → Ls .u8 W' ad cap L
  le : at_ ≤ n
  apart : ∀ b off, ad = some ⟨b, off, none⟩ → b < B
end Go.Proofs.YthmofoldmdafoaaGreat
namespace Go.Proofs.YthmofoldmdafoaaGreat
open Go.ChangeShapes Go.WideShapes Go.ChangeAt Go.RowKit
set_option linter.unusedVariables false
set_option linter.unusedSimpArgs false

theorem own_base {w : World} {b b' n size : Nat} {e : TypeId} {v : Value} {xs : List Value} (hb : b ≤ b') (h : w.ownsRow b' e size v n xs) : w.ownsRow b e size v n xs :=
  ⟨h.1, h.2.imp id fun ⟨g, cap, cur, e1, e2, e3⟩ => ⟨g, cap, cur, e1, Nat.le_trans hb e2, e3⟩⟩
theorem own_apart {w : World} {b1 b2 n m s1 s2 : Nat} {e1 e2 : TypeId} {v u : Value} {xs ys : List Value} (h : w.ownsRow b1 e1 s1 v n xs) (k : w.ownsRow b2 e2 s2 u m ys) (hne : e1 ≠ e2) : v.ownBlock = none ∨ v.ownBlock ≠ u.ownBlock := by
  rcases h.2 with ⟨rfl, _⟩ | ⟨g, cap, cur, rfl, _, hg, _⟩
  · exact .inl rfl
  · refine .inr fun e => ?_
    rcases k.2 with ⟨rfl, _⟩ | ⟨g2, cap2, cur2, rfl, _, hg2, _⟩
    · cases e
    · have e' : g = g2 := by simpa [Value.ownBlock] using e
      subst e'
      rw [hg] at hg2
      simp at hg2
      exact hne hg2.2
end Go.Proofs.YthmofoldmdafoaaGreat
namespace Go.Proofs.YthmofoldmdafoaaGreat
open Go.ChangeShapes Go.WideShapes Go.ChangeAt Go.RowKit
set_option linter.unusedVariables false
set_option linter.unusedSimpArgs false

def ClB (L : List Int) (n : Nat) (w : World) (r : Ending) (w' : World) : Prop := ∃ a' c', r = .returned (.slice a' n c') ∧ w'.ownsRow w.heap.size 5 1 (.slice a' n c') n (iv .u8 L)
set_option maxRecDepth 100000 in
set_option maxHeartbeats 1000000 in
theorem clone_own (a : Option Addr) (L : List Int) (n cap : Nat) (hL : L.length = n) (hn : n ≤ 1000000) (w : World) (hA : Ls .u8 w a cap L) :
    Calls Tryz.prog 92 #[.slice a n cap] w fun r w' => ClB L n w r w' ∧ Below w.heap.size w w' := by
  have HA := Lib.hid hA
  have HL := Lib.hid hL
  rcases a with _ | a
  · obtain ⟨rfl, rfl⟩ := hA.nl rfl
    simp only [List.length_nil] at hL
    subst hL
    have hsn : ∀ W, (binOp .eql 42 (.slice none 0 0) (.slice none 0 0)).run Tryz.prog W = .ok (.bool true) W := fun W => Lib.run_eql_slice_nil W 42 5 none 0 0 0 0 Tryz.underlying42
    clear hA
    go_enter Tryz.func92, Tryz.ntmps92
    go_wp2_with fail
    go_ret
    exact ⟨⟨none, 0, rfl, World.ownsRow_nil _ _ _ _⟩, Below.refl _ _⟩
  · clear hA hL
    have hsn : ∀ W, (binOp .eql 42 (.slice (some a) n cap) (.slice none 0 0)).run Tryz.prog W = .ok (.bool false) W := fun W => Lib.run_eql_slice_nil W 42 5 (some a) n cap 0 0 Tryz.underlying42
    go_enter Tryz.func92, Tryz.ntmps92
    go_wp2_with (at_builtin; refine append_ls eltB rfl (.tmp 5) (.tmp 6) rfl w.heap.size _ 0 [] rfl (World.ownsRow_lit w #[] 0 (Nat.le_refl _) (by decide) rfl) _ _ n L HL.out rfl (HA.out.below ((Below.refl _ _).alloc (Nat.le_refl _) _)) (by omega) (by simp) ?_)
    intro v2 w2 hown2 hgrow2
    have B2 := ((Below.refl w.heap.size w).alloc (Nat.le_refl _) _).grown hgrow2 (by simp) (fun j hj => by simp [Value.ownBlock] at hj; omega)
    obtain ⟨a', c', rfl, l', _⟩ := own_ls hown2 HL.out
    have H2 := Lib.hid hown2
    clear hown2 hgrow2
    go_wp2_with fail
    go_ret
    exact ⟨⟨a', c', rfl, by simpa using H2.out⟩, B2⟩
def CbB (L : List Int) (n : Nat) (w : World) (r : Ending) (w' : World) : Prop := ∃ a' c', r = .returned (.tuple #[.slice a' n c', .bool true]) ∧ w'.ownsRow w.heap.size 5 1 (.slice a' n c') n (iv .u8 L)
set_option maxRecDepth 100000 in
set_option maxHeartbeats 1000000 in
theorem copy1_law (i : Int) (a : Option Addr) (L : List Int) (n cap : Nat) (hL : L.length = n) (hn : n ≤ 1000000) (w : World) (hA : Ls .u8 w a cap L) :
    Calls Tryz.prog 91 #[.int .i64 i, .slice a n cap] w fun r w' => CbB L n w r w' ∧ Below w.heap.size w w' := by
  have H := Lib.hid (clone_own a L n cap hL hn w hA)
  clear hL hA
  go_enter Tryz.func91, Tryz.ntmps91
  go_wp2_with fail
  refine H.out.mono ?_; rintro e w' ⟨⟨a', c', rfl, o'⟩, B⟩
  go_wp2_with fail
  go_ret2
  exact ⟨⟨a', c', rfl, o'⟩, B⟩
/-- A row that is copied so far. -/
structure CpR (base : Nat) (R : List P1) (k : Nat) (v : Value) (W : World) : Prop where
  ex : ∃ R' : List P1, R'.map P1.bs = (R.take k).map P1.bs ∧ W.ownsRow base 42 1 v k (R'.map P1.v) ∧ ∀ p ∈ R', W.ownsRow base 5 1 p.v p.bs.length (iv .u8 p.bs)
theorem CpR.nil (base : Nat) (R : List P1) (W : World) : CpR base R 0 (.slice none 0 0) W := ⟨[], rfl, World.ownsRow_nil _ _ _ _, fun p hp => by simp at hp⟩
theorem CpR.below {base k : Nat} {R : List P1} {v : Value} {W W' : World} (h : CpR base R k v W) (hb : Below W.heap.size W W') : CpR base R k v W' := by
  obtain ⟨R', h1, h2, h3⟩ := h.ex
  exact ⟨R', h1, own_kept h2 hb, fun p hp => own_kept (h3 p hp) hb⟩
theorem cpR_next {base k : Nat} {R : List P1} {v v4 : Value} {w3 w4 : World} {o : Obj} (R' : List P1) (h1 : R'.map P1.bs = (R.take k).map P1.bs) (h2 : w3.ownsRow base 42 1 v k (R'.map P1.v)) (h3 : ∀ p ∈ R', w3.ownsRow base 5 1 p.v p.bs.length (iv .u8 p.bs)) (p : P1) (hp : R[k]? = some p) (m : Nat) (hm : p.bs.length = m) (a1 : Option Addr) (c1 : Nat) (ho : w3.ownsRow base 5 1 (.slice a1 m c1) m (iv .u8 p.bs))
    (h4 : w4.ownsRow base 42 1 v4 (k + 1) (R'.map P1.v ++ [.slice a1 m c1])) (hg : (w3.alloc o).grownBy w4 v.ownBlock) : CpR base R (k + 1) v4 w4 := by
  subst hm
  have keep : ∀ (x : Value) (m : Nat) (xs : List Value), w3.ownsRow base 5 1 x m xs → w4.ownsRow base 5 1 x m xs := fun x m xs hx => (hx.alloc _).kept hg (own_apart hx h2 (by decide))
  refine ⟨R' ++ [⟨a1, c1, p.bs⟩], ?_, ?_, fun q hq => ?_⟩
  · rw [List.map_append, h1, List.take_add_one, hp]; simp
  · rw [List.map_append]; exact h4
  · rcases List.mem_append.1 hq with hq | hq
    · exact keep _ _ _ (h3 q hq)
    · simp at hq
      subst hq
      exact keep _ _ _ ho
theorem cinfo24 : (Tryz.prog.info? 42).map (fun i => (i.zero, i.size, i.bytes)) = some (some (.slice none 0 0), 1, 24) := by kernel_rfl
def EcB (base : Nat) (R : List P1) (n : Nat) (r : Ending) (w' : World) : Prop := ∃ v, r = .returned (.tuple #[v, .bool true]) ∧ CpR base R n v w'
set_option maxRecDepth 100000 in
set_option maxHeartbeats 2000000 in
theorem eachcopy_law (a : Option Addr) (R : List P1) (n cap : Nat) (hn : R.length = n) (hn3 : n ≤ 9000) (hl : ∀ p ∈ R, p.bs.length ≤ 9000) (w : World) (hR : RdR w a R) :
    Calls Tryz.prog 90 #[.slice a n cap, .func (.func 91) #[] #[]] w fun r w' => EcB w.heap.size R n r w' ∧ Below w.heap.size w w' := by
  have HR := Lib.hid hR
  have HN := Lib.hid hn
  have HLL := Lib.hid hl
  clear hR hn hl
  obtain ⟨i0, hi, hz0, hz1, hz2⟩ := info_parts cinfo24
  go_enter Tryz.func90, Tryz.ntmps90
  go_wp2_with fail
  go_loopw [6, 13] (fun v i wr => ∃ k : Nat, k ≤ n ∧ i = .int .i64 k ∧ CpR w.heap.size R k v wr ∧ Below w.heap.size w wr) (fun _ i _ => n - (intOf i).toNat)
  case atStart => exact ⟨0, by omega, rfl, CpR.nil _ _ _, Below.refl _ _⟩
  case round =>
    obtain ⟨k, hk, rfl, hc, B⟩ := hrel
    by_cases hlt : k < n
    · have hkl : (k : Int) < (n : Int) := by omega
      obtain ⟨p, hp⟩ : ∃ p, R[k]? = some p := ⟨_, List.getElem?_eq_getElem (by rw [HN.out]; exact hlt)⟩
      obtain ⟨b1, o1, e1, c1, l1⟩ := HR.out.below B k p hp
      subst e1
      have c2 : wr.cell? ⟨b1, o1 + k, none⟩ = some (.slice p.ad p.bs.length p.cap) := c1
      have HPP := Lib.hid hp
      have hp9 := HLL.out p (List.mem_of_getElem? hp)
      obtain ⟨q, hq⟩ : ∃ q, p.bs.length = q := ⟨_, rfl⟩
      rw [hq] at c2 hp9
      have HQ := Lib.hid hq
      have hs1 := B.size
      have H1 := Lib.hid (copy1_law (k : Int) p.ad p.bs q p.cap hq (by omega) wr l1)
      have HC := Lib.hid hc
      clear c1 hp hq l1 hc
      go_wp2_with fail
      refine H1.out.mono ?_; rintro e w3 ⟨⟨a1, c1, rfl, ho⟩, B3⟩
      obtain ⟨R', r1, r2, r3⟩ := (HC.out.below B3).ex
      have HO := Lib.hid (own_base hs1 ho)
      have R1 := Lib.hid r1
      have R2 := Lib.hid r2
      have R3 := Lib.hid r3
      have hs3 : w.heap.size ≤ w3.heap.size := Nat.le_trans hs1 B3.size
      clear ho r1 r2 r3 HC H1
      go_wp2_with (at_builtin; refine wpList_append_own _ rfl (.tmp 28) (.tmp 30) 49 rfl w.heap.size 42 i0 (.slice none 0 0) 1 24 Tryz.underlying49 hi hz0 hz1 hz2 rfl (by decide) _ k (R'.map P1.v) rfl (R2.out.alloc _) ⟨w3.heap.size, 0, none⟩ 1 1 [.slice a1 q c1] rfl rfl (by intro j u hj; match j, hj with | 0, hj => (simp at hj; subst hj; simp [Addr.add, go_sem])) (by intro u hu; simp at hu; subst hu; rfl) (by unfold maxLen; omega) (by omega) (by simp; omega) ?_)
      intro v4 w4 hown4 hgrow4 _
      have b4 : Below w.heap.size w3 w4 := ((Below.refl _ w3).alloc hs3 _).grown hgrow4 (by simp; omega) (fun j hj => (R2.out.lt j hj).1)
      have HT4 := Lib.hid (cpR_next R' R1.out R2.out R3.out p HPP.out q HQ.out a1 c1 HO.out hown4 hgrow4)
      have HB4 := Lib.hid ((step_below B B3).trans b4)
      clear b4 hown4 hgrow4 B3 B
      go_wp2_with fail
      go_roundw
      case rel => exact ⟨k + 1, by omega, by go_num, HT4.out, HB4.out⟩
      case measure => simp [intOf]; omega
    · have hkl : ¬ (k : Int) < (n : Int) := by omega
      obtain rfl : k = n := by omega
      have HC := Lib.hid hc
      clear hc
      go_wp2_with fail
      go_ret2
      exact ⟨⟨_, rfl, HC.out⟩, B⟩
def RcB (base : Nat) (R : List P1) (n : Nat) (r : Ending) (w' : World) : Prop := ∃ v, r = .returned v ∧ CpR base R n v w'
set_option maxRecDepth 100000 in
set_option maxHeartbeats 1000000 in
theorem rowcopy_law (a : Option Addr) (R : List P1) (n cap : Nat) (hn : R.length = n) (hn3 : n ≤ 9000) (hl : ∀ p ∈ R, p.bs.length ≤ 9000) (w : World) (hR : RdR w a R) :
    Calls Tryz.prog 55 #[.slice a n cap] w fun r w' => RcB w.heap.size R n r w' ∧ Below w.heap.size w w' := by
  have H := Lib.hid (eachcopy_law a R n cap hn hn3 hl w hR)
  clear hn hl hR
  go_enter Tryz.func55, Tryz.ntmps55
  go_wp2_with fail
  refine H.out.mono ?_; rintro e w' ⟨⟨v, rfl, hc⟩, B⟩
  have HC := Lib.hid hc
  clear hc
  go_wp2_with fail
  go_ret
  exact ⟨⟨_, rfl, HC.out⟩, B⟩
end Go.Proofs.YthmofoldmdafoaaGreat
namespace Go.Proofs.YthmofoldmdafoaaGreat
set_option linter.unusedVariables false
set_option linter.unusedSimpArgs false
/-- Bytes ahead of others, as strings are. -/
def ltL : List Int → List Int → Bool
  | [], [] => false
  | [], _ :: _ => true
  | _ :: _, [] => false
  | a :: x, b :: y => decide (a < b) || (decide (a = b) && ltL x y)
theorem ltL_irr : ∀ x, ltL x x = false
  | [] => rfl
  | a :: x => by simp [ltL, ltL_irr x]
theorem ltL_trans : ∀ {x y z : List Int}, ltL x y = true → ltL y z = true → ltL x z = true
  | [], [], z, h, _ => by cases h
  | [], b :: y, [], _, h => by simp [ltL] at h
  | [], b :: y, c :: z, _, _ => rfl
  | a :: x, [], z, h, _ => by simp [ltL] at h
  | a :: x, b :: y, [], _, h => by simp [ltL] at h
  | a :: x, b :: y, c :: z, h, k => by
    simp only [ltL, Bool.or_eq_true, Bool.and_eq_true, decide_eq_true_eq] at h k ⊢
    rcases h with h | ⟨h, h'⟩ <;> rcases k with k | ⟨k, k'⟩
    · exact .inl (by omega)
    · exact .inl (by omega)
    · exact .inl (by omega)
    · exact .inr ⟨by omega, ltL_trans h' k'⟩
theorem ltL_total : ∀ {x y : List Int}, ltL x y = false → ltL y x = false → x = y
  | [], [], _, _ => rfl
  | [], b :: y, h, _ => by simp [ltL] at h
  | a :: x, [], _, h => by simp [ltL] at h
  | a :: x, b :: y, h, k => by
    simp only [ltL, Bool.or_eq_false_iff, Bool.and_eq_false_iff, decide_eq_false_iff_not] at h k
    have e : a = b := by omega
    subst e
    rw [ltL_total (h.2.resolve_left (fun n => n rfl)) (k.2.resolve_left (fun n => n rfl))]
theorem ltL_asym {x y : List Int} (h : ltL x y = true) : ltL y x = false := by
  cases k : ltL y x
  · rfl
  · have := ltL_trans h k; rw [ltL_irr] at this; cases this
theorem ltL_ne {x y : List Int} (h : ltL x y = true) : x ≠ y := fun e => by subst e; rw [ltL_irr] at h; cases h
/-- A key and its row. -/
abbrev Pr := List Int × List (List Int)
/-- Keys rise. -/
def Ris {α : Type} (key : α → List Int) : List α → Prop := List.Pairwise fun a b => ltL (key a) (key b) = true
abbrev TabOk (t : List Pr) : Prop := Ris Prod.fst t
/-- The row that a key has. -/
def getT (t : List Pr) (k : List Int) : Option (List (List Int)) := (t.find? fun p => decide (p.1 = k)).map Prod.snd
/-- A key has a row, or none. -/
def setT (t : List Pr) (k : List Int) (r : List (List Int)) : List Pr := t.filter (fun p => ltL p.1 k) ++ ((if r = [] then [] else [(k, r)]) ++ t.filter (fun p => ltL k p.1))
theorem mem_setT {t : List Pr} {k : List Int} {r : List (List Int)} {p : Pr} : p ∈ setT t k r ↔ (p ∈ t ∧ p.1 ≠ k) ∨ (p = (k, r) ∧ r ≠ []) := by
  unfold setT
  simp only [List.mem_append, List.mem_filter]
  constructor
  · rintro (⟨h, l⟩ | h | ⟨h, l⟩)
    · exact .inl ⟨h, ltL_ne l⟩
    · split at h
      · simp at h
      · next hr => exact .inr ⟨by simpa using h, hr⟩
    · exact .inl ⟨h, (ltL_ne l).symm⟩
  · rintro (⟨h, n⟩ | ⟨rfl, hr⟩)
    · cases l : ltL p.1 k
      · cases g : ltL k p.1
        · exact absurd (ltL_total l g) n
        · exact .inr (.inr ⟨h, rfl⟩)
      · exact .inl ⟨h, rfl⟩
    · exact .inr (.inl (by rw [if_neg hr]; simp))
theorem setT_ok {t : List Pr} (h : TabOk t) (k : List Int) (r : List (List Int)) : TabOk (setT t k r) := by
  unfold setT
  refine List.pairwise_append.2 ⟨h.filter _, List.pairwise_append.2 ⟨?_, h.filter _, ?_⟩, ?_⟩
  · split <;> simp
  · intro a ha b hb
    split at ha
    · simp at ha
    · have ha : a = (k, r) := by simpa using ha
      subst ha
      exact (List.mem_filter.1 hb).2
  · intro a ha b hb
    have ha := (List.mem_filter.1 ha).2
    rcases List.mem_append.1 hb with hb | hb
    · split at hb
      · simp at hb
      · have hb : b = (k, r) := by simpa using hb
        subst hb
        exact ha
    · exact ltL_trans ha (List.mem_filter.1 hb).2
/-- Rising lists with the same members are the same. -/
theorem ris_ext {α : Type} {key : α → List Int} : ∀ {a b : List α}, Ris key a → Ris key b → (∀ x, x ∈ a ↔ x ∈ b) → a = b
  | [], [], _, _, _ => rfl
  | [], y :: b, _, _, h => absurd ((h y).2 (List.mem_cons_self ..)) (by simp)
  | x :: a, [], _, _, h => absurd ((h x).1 (List.mem_cons_self ..)) (by simp)
  | x :: a, y :: b, ha, hb, h => by
    have ha' := List.pairwise_cons.1 ha
    have hb' := List.pairwise_cons.1 hb
    have exy : x = y := by
      rcases List.mem_cons.1 ((h x).1 (List.mem_cons_self ..)) with e | e
      · exact e
      · rcases List.mem_cons.1 ((h y).2 (List.mem_cons_self ..)) with e2 | e2
        · exact e2.symm
        · have h1 := hb'.1 x e
          have h2 := ha'.1 y e2
          rw [ltL_asym h1] at h2; cases h2
    subst exy
    have hx : ∀ z, z ∈ a → z ≠ x := fun z hz e => by subst e; have := ha'.1 z hz; rw [ltL_irr] at this; cases this
    have hy : ∀ z, z ∈ b → z ≠ x := fun z hz e => by subst e; have := hb'.1 z hz; rw [ltL_irr] at this; cases this
    rw [ris_ext ha'.2 hb'.2 (fun z => ⟨fun hz => (List.mem_cons.1 ((h z).1 (List.mem_cons_of_mem _ hz))).resolve_left (hx z hz), fun hz => (List.mem_cons.1 ((h z).2 (List.mem_cons_of_mem _ hz))).resolve_left (hy z hz)⟩)]
theorem getT_some {t : List Pr} (h : TabOk t) {k : List Int} {r : List (List Int)} : getT t k = some r ↔ (k, r) ∈ t := by
  induction t with
  | nil => simp [getT]
  | cons p t ih =>
    obtain ⟨h1, h2⟩ := List.pairwise_cons.1 h
    unfold getT
    rw [List.find?_cons]
    by_cases e : p.1 = k
    · rw [show decide (p.1 = k) = true by simp [e]]
      constructor
      · intro hh
        have hh : p.2 = r := by simpa using hh
        rw [← e, ← hh]; exact List.mem_cons_self ..
      · intro hh
        rcases List.mem_cons.1 hh with hh | hh
        · rw [← hh]; rfl
        · have := h1 _ hh
          rw [e, ltL_irr] at this; cases this
    · rw [show decide (p.1 = k) = false by simp [e]]
      constructor
      · intro hh; exact List.mem_cons_of_mem _ ((ih h2).1 hh)
      · intro hh
        rcases List.mem_cons.1 hh with hh | hh
        · exact absurd (by rw [← hh]) e
        · exact (ih h2).2 hh
theorem getT_none {t : List Pr} {k : List Int} : getT t k = none ↔ ∀ p ∈ t, p.1 ≠ k := by
  unfold getT
  rw [Option.map_eq_none_iff, List.find?_eq_none]
  simp
theorem getT_set {t : List Pr} (h : TabOk t) (k : List Int) (r : List (List Int)) (j : List Int) : getT (setT t k r) j = if j = k then (if r = [] then none else some r) else getT t j := by
  by_cases e : j = k
  · subst e
    rw [if_pos rfl]
    by_cases hr : r = []
    · rw [if_pos hr, getT_none]
      intro p hp
      rcases mem_setT.1 hp with hp | hp
      · exact hp.2
      · exact absurd hr hp.2
    · rw [if_neg hr, getT_some (setT_ok h _ _)]
      exact mem_setT.2 (.inr ⟨rfl, hr⟩)
  · rw [if_neg e]
    cases hg : getT t j with
    | some x => exact (getT_some (setT_ok h _ _)).2 (mem_setT.2 (.inl ⟨(getT_some h).1 hg, e⟩))
    | none =>
      rw [getT_none] at hg ⊢
      intro p hp
      rcases mem_setT.1 hp with hp | hp
      · exact hg p hp.1
      · rw [hp.1]; exact fun e' => e e'.symm
end Go.Proofs.YthmofoldmdafoaaGreat
namespace Go.Proofs.YthmofoldmdafoaaGreat
set_option linter.unusedVariables false
set_option linter.unusedSimpArgs false
/-- Two that are not less than each other have one key. -/
theorem ltL_or {x y : List Int} (h : ltL x y = false) (hne : y ≠ x) : ltL y x = true := by
  cases k : ltL y x
  · exact absurd (ltL_total k h) hne
  · rfl
/-- A list in which no one is greater than a later one, and no two have one key, rises. -/
theorem ris_of_le {α : Type} {key : α → List Int} : ∀ {l : List α}, (l.Pairwise fun a b => ltL (key b) (key a) = false) → (l.Pairwise fun a b => key a ≠ key b) → Ris key l
  | [], _, _ => List.Pairwise.nil
  | x :: l, h, k => by
    obtain ⟨h1, h2⟩ := List.pairwise_cons.1 h
    obtain ⟨k1, k2⟩ := List.pairwise_cons.1 k
    exact List.pairwise_cons.2 ⟨fun y hy => ltL_or (h1 y hy) (k1 y hy), ris_of_le h2 k2⟩
/-- Two orderings of one list, both rising. -/
theorem ris_perm {α : Type} {key : α → List Int} {a b : List α} (ha : Ris key a) (hb : Ris key b) (h : a.Perm b) : a = b := ris_ext ha hb fun x => h.mem_iff
/-- A rising list has each key once. -/
theorem ris_apart {α : Type} {key : α → List Int} {l : List α} (h : Ris key l) : l.Pairwise fun a b => key a ≠ key b := h.imp fun h => ltL_ne h
theorem apart_perm {α : Type} {key : α → List Int} {a b : List α} (h : a.Perm b) (k : a.Pairwise fun a b => key a ≠ key b) : b.Pairwise fun a b => key a ≠ key b :=
  (h.pairwise_iff (R := fun a b => key a ≠ key b) (fun h e => h e.symm)).1 k
end Go.Proofs.YthmofoldmdafoaaGreat
namespace Go.Proofs.YthmofoldmdafoaaGreat
open Go.ChangeShapes Go.WideShapes Go.ChangeAt Go.RowKit
set_option linter.unusedVariables false
set_option linter.unusedSimpArgs false
/-- A pair as it lies. -/
structure PrV where
  ka : Option Addr
  kc : Nat
  K : List Int
  ra : Option Addr
  rc : Nat
  R : List P1
def prC (x : PrV) : Pr := (x.K, x.R.map P1.bs)
/-- Pairs of bytes alone, rows not too long. -/
structure PrOk (x : PrV) : Prop where
  kb : Byt x.K
  rb : ∀ p ∈ x.R, Byt p.bs
  rn : x.R.length ≤ 1000000
def PairsR (W : World) (a : Option Addr) (L : List PrV) : Prop := ∀ (k : Nat) (x : PrV), L[k]? = some x → ∃ b off, a = some ⟨b, off, none⟩ ∧ W.cell? ⟨b, off + k * 2, none⟩ = some (.slice x.ka x.K.length x.kc) ∧ W.cell? ⟨b, off + k * 2 + 1, none⟩ = some (.slice x.ra x.R.length x.rc) ∧ Ls .u8 W x.ka x.kc x.K ∧ RdR W x.ra x.R
theorem PairsR.below {W W' : World} {a : Option Addr} {L : List PrV} (h : PairsR W a L) (hb : Below W.heap.size W W') : PairsR W' a L := fun k x hx => by
  obtain ⟨b, off, e, c0, c1, l, r⟩ := h k x hx
  exact ⟨b, off, e, (hb.cell (World.block_lt_of_cell? W _ c0)).trans c0, (hb.cell (World.block_lt_of_cell? W _ c1)).trans c1, l.below hb, r.below hb⟩
theorem map_at_ne {α β : Type} {f : α → β} {L M : List α} {k : Nat} {x y : α} (hx : L[k]? = some x) (hy : M[k]? = some y) (h : f x ≠ f y) : L.map f ≠ M.map f := fun e => by
  have e1 : (L.map f)[k]? = (M.map f)[k]? := by rw [e]
  rw [List.getElem?_map, List.getElem?_map, hx, hy] at e1
  exact h (by simpa using e1)
set_option maxRecDepth 100000 in
set_option maxHeartbeats 4000000 in
/-- The document's SamePairs (73). -/
theorem rsamepairs_law (a b : Option Addr) (L M : List PrV) (n m ca cb : Nat) (hn : L.length = n) (hm : M.length = m) (hn2 : n ≤ 1000000) (hm2 : m ≤ 1000000) (okL : ∀ x ∈ L, PrOk x) (okM : ∀ x ∈ M, PrOk x) (w : World) (hA : PairsR w a L) (hB : PairsR w b M) :
    Calls Tryz.prog 73 #[.slice a n ca, .slice b m cb] w fun r w' => r = .returned (.bool (decide (L.map prC = M.map prC))) ∧ Below w.heap.size w w' := by
  have HR := Lib.hid (And.intro hA hB)
  have HN := Lib.hid (And.intro hn hm)
  have HOK := Lib.hid (And.intro okL okM)
  have hni : (n : Int) ≤ 1000000 := by omega
  have hmi : (m : Int) ≤ 1000000 := by omega
  clear hA hB hn hm okL okM
  by_cases hnm : n = m
  · subst hnm
    have e4 : ((n : Int) != (n : Int)) = false := by simp
    go_enter Tryz.func73, Tryz.ntmps73
    go_wp2_with fail
    clear e4
    go_loopw [5] (fun i wr => ∃ k : Nat, k ≤ n ∧ i = .int .i64 (k : Int) ∧ Hid ((L.take k).map prC = (M.take k).map prC) ∧ Hid (Below w.heap.size w wr)) (fun i _ => n - (intOf i).toNat)
    case atStart => exact ⟨0, by omega, rfl, Lib.hid rfl, Lib.hid (Below.refl _ _)⟩
    case round =>
      obtain ⟨k, hk, rfl, HE, HBW⟩ := hrel
      by_cases hlt : k < n
      · have d1 : (k : Int) < (n : Int) := by omega
        obtain ⟨x, hx⟩ : ∃ x, L[k]? = some x := ⟨_, List.getElem?_eq_getElem (by rw [HN.out.1]; exact hlt)⟩
        obtain ⟨y, hy⟩ : ∃ y, M[k]? = some y := ⟨_, List.getElem?_eq_getElem (by rw [HN.out.2]; exact hlt)⟩
        obtain ⟨b1, o1, ea, c0, c1, lx, rx⟩ := (HR.out.1.below HBW.out) k x hx
        subst ea
        obtain ⟨b2, o2, eb, e0, e1, ly, ry⟩ := (HR.out.2.below HBW.out) k y hy
        subst eb
        have okx := HOK.out.1 x (List.mem_of_getElem? hx)
        have oky := HOK.out.2 y (List.mem_of_getElem? hy)
        have HXY := Lib.hid (And.intro hx hy)
        have HRS := Lib.hid (fun W (b : Below wr.heap.size wr W) => rsame_law x.ra y.ra x.R y.R x.R.length y.R.length x.rc y.rc rfl rfl okx.rn okx.rb oky.rb W (rx.below b) (ry.below b))
        obtain ⟨q, hq⟩ : ∃ q, eqB x.R y.R = q := ⟨_, rfl⟩
        rw [hq] at HRS
        have HKB := Lib.hid (And.intro okx.kb oky.kb)
        have HQ := Lib.hid hq
        have HPC := Lib.hid (show prC x = (x.K, x.R.map P1.bs) ∧ prC y = (y.K, y.R.map P1.bs) from ⟨rfl, rfl⟩)
        obtain ⟨XK, hXK⟩ : ∃ t, x.K = t := ⟨_, rfl⟩
        obtain ⟨xkn, hxkn⟩ : ∃ t, XK.length = t := ⟨_, rfl⟩
        obtain ⟨xka, hxka⟩ : ∃ t, x.ka = t := ⟨_, rfl⟩
        obtain ⟨xkc, hxkc⟩ : ∃ t, x.kc = t := ⟨_, rfl⟩
        obtain ⟨xrn, hxrn⟩ : ∃ t, x.R.length = t := ⟨_, rfl⟩
        obtain ⟨xra, hxra⟩ : ∃ t, x.ra = t := ⟨_, rfl⟩
        obtain ⟨xrc, hxrc⟩ : ∃ t, x.rc = t := ⟨_, rfl⟩
        obtain ⟨YK, hYK⟩ : ∃ t, y.K = t := ⟨_, rfl⟩
        obtain ⟨ykn, hykn⟩ : ∃ t, YK.length = t := ⟨_, rfl⟩
        obtain ⟨yka, hyka⟩ : ∃ t, y.ka = t := ⟨_, rfl⟩
        obtain ⟨ykc, hykc⟩ : ∃ t, y.kc = t := ⟨_, rfl⟩
        obtain ⟨yrn, hyrn⟩ : ∃ t, y.R.length = t := ⟨_, rfl⟩
        obtain ⟨yra, hyra⟩ : ∃ t, y.ra = t := ⟨_, rfl⟩
        obtain ⟨yrc, hyrc⟩ : ∃ t, y.rc = t := ⟨_, rfl⟩
        rw [hxka, hXK, hxkn, hxkc] at c0
        rw [hxra, hxrn, hxrc] at c1
        rw [hyka, hYK, hykn, hykc] at e0
        rw [hyra, hyrn, hyrc] at e1
        rw [hxra, hyra, hxrn, hyrn, hxrc, hyrc] at HRS
        rw [hxka, hXK, hxkc] at lx
        rw [hyka, hYK, hykc] at ly
        rw [hXK, hYK] at HKB HPC
        have HKX := Lib.hid (And.intro hxkn lx)
        have HKY := Lib.hid (And.intro hykn ly)
        have HX5 := Lib.hid (fun W (b : Below wr.heap.size wr W) => (⟨(b.cell (World.block_lt_of_cell? wr _ c0)).trans c0, (b.cell (World.block_lt_of_cell? wr _ c1)).trans c1⟩ : W.cell? ⟨b1, o1 + k * 2, none⟩ = some (.slice xka xkn xkc) ∧ W.cell? ⟨b1, o1 + k * 2 + 1, none⟩ = some (.slice xra xrn xrc)))
        have HY5 := Lib.hid (fun W (b : Below wr.heap.size wr W) => (⟨(b.cell (World.block_lt_of_cell? wr _ e0)).trans e0, (b.cell (World.block_lt_of_cell? wr _ e1)).trans e1⟩ : W.cell? ⟨b2, o2 + k * 2, none⟩ = some (.slice yka ykn ykc) ∧ W.cell? ⟨b2, o2 + k * 2 + 1, none⟩ = some (.slice yra yrn yrc)))
        clear c0 c1 e0 e1 lx ly rx ry okx oky hx hy hq hXK hxkn hxka hxkc hxrn hxra hxrc hYK hykn hyka hykc hyrn hyra hyrc
        by_cases hkk : XK = YK
        · have HKK := Lib.hid hkk
          have hne : ((strOfNums XK).toList != (strOfNums YK).toList) = false := by rw [hkk]; simp
          have hnp : (strOfNums XK).toList = (strOfNums YK).toList := by rw [hkk]
          clear hkk
          go_upto_region 6 with (fail)
          rename_i KK hKK
          refine Code.wp_mono (Q := Exit.then KK (fun _ _ _ => False)) (fun e a' w' h => by cases e <;> first | exact h | exact h.elim) ?_
          refine wp_region_held_drew (S := (fun X => Below wr.heap.size wr X)) (by kernel_rfl) ((Below.refl _ _).drew) (fun hHeld => ?_)
          refine tp 0 ?_ rfl (.inl ⟨by rfl, ?_⟩) ?_
          rotate_left
          · intro W hSw; go_simp; try with_reducible rfl
          refine tp 1 ?_ rfl (.inl ⟨by rfl, ?_⟩) ?_
          rotate_left
          · intro W hSw; go_simp; try with_reducible rfl
          refine tp 2 ?_ rfl (.inl ⟨by rfl, ?_⟩) ?_
          rotate_left
          · intro W hSw; go_simp; try with_reducible rfl
          refine tp 3 ?_ rfl (.inl ⟨by rfl, ?_⟩) ?_
          rotate_left
          · intro W hSw; go_simp; try with_reducible rfl
          refine tp 4 ?_ rfl (.inl ⟨by rfl, ?_⟩) ?_
          rotate_left
          · intro W hSw; obtain ⟨c0, c1⟩ := HX5.out W hSw; go_simp; try with_reducible rfl
          refine tp 5 ?_ rfl (.inl ⟨by rfl, ?_⟩) ?_
          rotate_left
          · intro W hSw; have hcv := conv_ls W xka xkn xkc XK HKX.out.1 (HKX.out.2.below hSw).rd; go_simp; try with_reducible rfl
          refine tp 6 ?_ rfl (.inl ⟨by rfl, ?_⟩) ?_
          rotate_left
          · intro W hSw; go_simp; try with_reducible rfl
          refine tp 7 ?_ rfl (.inl ⟨by rfl, ?_⟩) ?_
          rotate_left
          · intro W hSw; go_simp; try with_reducible rfl
          refine tp 8 ?_ rfl (.inl ⟨by rfl, ?_⟩) ?_
          rotate_left
          · intro W hSw; go_simp; try with_reducible rfl
          refine tp 9 ?_ rfl (.inl ⟨by rfl, ?_⟩) ?_
          rotate_left
          · intro W hSw; go_simp; try with_reducible rfl
          refine tp 10 ?_ rfl (.inl ⟨by rfl, ?_⟩) ?_
          rotate_left
          · intro W hSw; obtain ⟨e0, e1⟩ := HY5.out W hSw; go_simp; try with_reducible rfl
          refine tp 11 ?_ rfl (.inl ⟨by rfl, ?_⟩) ?_
          rotate_left
          · intro W hSw; have hcv := conv_ls W yka ykn ykc YK HKY.out.1 (HKY.out.2.below hSw).rd; go_simp; try with_reducible rfl
          refine tp 12 (.bool false) rfl (.inl ⟨by rfl, ?_⟩) ?_
          · intro W hSw; go_simp; try (first | exact hnp | rfl | (simp only [hne]; done) | (simp [hne]; done))
          refine tp 13 (.bool false) rfl (.inl ⟨by rfl, ?_⟩) ?_
          · intro W hSw; go_simp; try (first | exact hnp | rfl | (simp only [hne]; done) | (simp [hne]; done))
          refine tp 14 ?_ rfl (.inl ⟨by rfl, ?_⟩) ?_
          rotate_left
          · intro W hSw; go_simp; try with_reducible rfl
          refine tp 15 ?_ rfl (.inl ⟨by rfl, ?_⟩) ?_
          rotate_left
          · intro W hSw; go_simp; try with_reducible rfl
          refine tp 16 ?_ rfl (.inl ⟨by rfl, ?_⟩) ?_
          rotate_left
          · intro W hSw; go_simp; try with_reducible rfl
          refine tp 17 ?_ rfl (.inl ⟨by rfl, ?_⟩) ?_
          rotate_left
          · intro W hSw; go_simp; try with_reducible rfl
          refine tp 18 ?_ rfl (.inl ⟨by rfl, ?_⟩) ?_
          rotate_left
          · intro W hSw; obtain ⟨c0, c1⟩ := HX5.out W hSw; go_simp; try with_reducible rfl
          refine tp 19 ?_ rfl (.inl ⟨by rfl, ?_⟩) ?_
          rotate_left
          · intro W hSw; go_simp; try with_reducible rfl
          refine tp 20 ?_ rfl (.inl ⟨by rfl, ?_⟩) ?_
          rotate_left
          · intro W hSw; go_simp; try with_reducible rfl
          refine tp 21 ?_ rfl (.inl ⟨by rfl, ?_⟩) ?_
          rotate_left
          · intro W hSw; go_simp; try with_reducible rfl
          refine tp 22 ?_ rfl (.inl ⟨by rfl, ?_⟩) ?_
          rotate_left
          · intro W hSw; go_simp; try with_reducible rfl
          refine tp 23 ?_ rfl (.inl ⟨by rfl, ?_⟩) ?_
          rotate_left
          · intro W hSw; obtain ⟨e0, e1⟩ := HY5.out W hSw; go_simp; try with_reducible rfl
          refine wpAnyH_ready (rs := [24]) (by kernel_rfl) (by simp) ?_
          refine AllReadyH.cons (o := { dst := some 41, op := Op.call { callee := Callee.value (Operand.func 20), args := #[Operand.tmp 35, Operand.tmp 40], argTypes := #[50, 50] }, type := 4, pos := "ref.go:229", after := #[{ on := 18, ground := Ground.data }, { on := 23, ground := Ground.data }, { on := 13, ground := Ground.chain }, { on := 13, ground := Ground.guard }], guard := some (13, false) }) rfl (fun K hK => ?_) AllReadyH.nil
          go_simp
          refine (HRS.out _ hHeld).mono ?_; rintro e9 w9 ⟨rfl, hb9⟩
          go_wp2_with fail
          refine hK.out _ _ (step_below hHeld hb9) (fun hHeldn => ?_)
          clear hK K hHeld; have hHeld := hHeldn; clear hHeldn
          clear hb9
          try simp only [Act.put, List.setIfInBounds_toArray, List.set_cons_zero, List.set_cons_succ]
          refine tp 25 ?_ rfl (.inl ⟨by rfl, ?_⟩) ?_
          rotate_left
          · intro W hSw; go_simp; try with_reducible rfl
          refine tp 26 ?_ rfl (.inl ⟨by rfl, ?_⟩) ?_
          rotate_left
          · intro W hSw; go_simp; try with_reducible rfl
          refine wpAnyH_done (by kernel_rfl) ?_ _
          skip
          refine hKK _ _ ?_
          have HB9 := Lib.hid (step_below HBW.out hHeld)
          clear hHeld hne hnp
          cases q
          · have HV := Lib.hid (show decide (L.map prC = M.map prC) = false by
              rw [decide_eq_false_iff_not]
              refine map_at_ne HXY.out.1 HXY.out.2 ?_
              rw [HPC.out.1, HPC.out.2]
              intro e9
              have := HQ.out
              unfold eqB at this
              rw [decide_eq_false_iff_not] at this
              exact this (Prod.mk.inj e9).2)
            go_wp2_with fail
            go_ret
            exact ⟨by rw [HV.out]; rfl, HB9.out⟩
          · have HEN := Lib.hid (show (L.take (k + 1)).map prC = (M.take (k + 1)).map prC by
              rw [List.take_add_one, List.take_add_one, HXY.out.1, HXY.out.2, List.map_append, List.map_append, HE.out]
              have hr := HQ.out
              unfold eqB at hr
              rw [decide_eq_true_eq] at hr
              simp only [Option.toList_some, List.map_cons, List.map_nil, HPC.out.1, HPC.out.2, HKK.out, hr])
            go_wp2_with fail
            go_roundw
            case rel => exact ⟨k + 1, by omega, by go_num, HEN, HB9⟩
            case measure => simp [intOf]; omega
        · have HV := Lib.hid (show decide (L.map prC = M.map prC) = false by
            rw [decide_eq_false_iff_not]
            refine map_at_ne HXY.out.1 HXY.out.2 ?_
            rw [HPC.out.1, HPC.out.2]
            exact fun e9 => hkk (Prod.mk.inj e9).1)
          have hne : ((strOfNums XK).toList != (strOfNums YK).toList) = true := by
            rw [bne_iff_ne]
            intro e9
            rw [ByteArray.toList_eq, ByteArray.toList_eq] at e9
            exact hkk (str_inj HKB.out.1 HKB.out.2 (bytes_inj e9))
          have hnp : ¬ (strOfNums XK).toList = (strOfNums YK).toList := bne_iff_ne.1 hne
          clear hkk
          go_upto_region 6 with (fail)
          rename_i KK hKK
          refine Code.wp_mono (Q := Exit.then KK (fun _ _ _ => False)) (fun e a' w' h => by cases e <;> first | exact h | exact h.elim) ?_
          refine wp_region_held_drew (S := (fun X => Below wr.heap.size wr X)) (by kernel_rfl) ((Below.refl _ _).drew) (fun hHeld => ?_)
          refine tp 0 ?_ rfl (.inl ⟨by rfl, ?_⟩) ?_
          rotate_left
          · intro W hSw; go_simp; try with_reducible rfl
          refine tp 1 ?_ rfl (.inl ⟨by rfl, ?_⟩) ?_
          rotate_left
          · intro W hSw; go_simp; try with_reducible rfl
          refine tp 2 ?_ rfl (.inl ⟨by rfl, ?_⟩) ?_
          rotate_left
          · intro W hSw; go_simp; try with_reducible rfl
          refine tp 3 ?_ rfl (.inl ⟨by rfl, ?_⟩) ?_
          rotate_left
          · intro W hSw; go_simp; try with_reducible rfl
          refine tp 4 ?_ rfl (.inl ⟨by rfl, ?_⟩) ?_
          rotate_left
          · intro W hSw; obtain ⟨c0, c1⟩ := HX5.out W hSw; go_simp; try with_reducible rfl
          refine tp 5 ?_ rfl (.inl ⟨by rfl, ?_⟩) ?_
          rotate_left
          · intro W hSw; have hcv := conv_ls W xka xkn xkc XK HKX.out.1 (HKX.out.2.below hSw).rd; go_simp; try with_reducible rfl
          refine tp 6 ?_ rfl (.inl ⟨by rfl, ?_⟩) ?_
          rotate_left
          · intro W hSw; go_simp; try with_reducible rfl
          refine tp 7 ?_ rfl (.inl ⟨by rfl, ?_⟩) ?_
          rotate_left
          · intro W hSw; go_simp; try with_reducible rfl
          refine tp 8 ?_ rfl (.inl ⟨by rfl, ?_⟩) ?_
          rotate_left
          · intro W hSw; go_simp; try with_reducible rfl
          refine tp 9 ?_ rfl (.inl ⟨by rfl, ?_⟩) ?_
          rotate_left
          · intro W hSw; go_simp; try with_reducible rfl
          refine tp 10 ?_ rfl (.inl ⟨by rfl, ?_⟩) ?_
          rotate_left
          · intro W hSw; obtain ⟨e0, e1⟩ := HY5.out W hSw; go_simp; try with_reducible rfl
          refine tp 11 ?_ rfl (.inl ⟨by rfl, ?_⟩) ?_
          rotate_left
          · intro W hSw; have hcv := conv_ls W yka ykn ykc YK HKY.out.1 (HKY.out.2.below hSw).rd; go_simp; try with_reducible rfl
          refine tp 12 (.bool true) rfl (.inl ⟨by rfl, ?_⟩) ?_
          · intro W hSw; go_simp; try (first | exact hnp | rfl | (simp only [hne]; done) | (simp [hne]; done))
          refine tp 13 (.bool true) rfl (.inl ⟨by rfl, ?_⟩) ?_
          · intro W hSw; go_simp; try (first | exact hnp | rfl | (simp only [hne]; done) | (simp [hne]; done))
          refine tp 14 (undef) rfl (.inr ⟨by rfl, rfl⟩) ?_
          refine tp 15 (undef) rfl (.inr ⟨by rfl, rfl⟩) ?_
          refine tp 16 (undef) rfl (.inr ⟨by rfl, rfl⟩) ?_
          refine tp 17 (undef) rfl (.inr ⟨by rfl, rfl⟩) ?_
          refine tp 18 (undef) rfl (.inr ⟨by rfl, rfl⟩) ?_
          refine tp 19 (undef) rfl (.inr ⟨by rfl, rfl⟩) ?_
          refine tp 20 (undef) rfl (.inr ⟨by rfl, rfl⟩) ?_
          refine tp 21 (undef) rfl (.inr ⟨by rfl, rfl⟩) ?_
          refine tp 22 (undef) rfl (.inr ⟨by rfl, rfl⟩) ?_
          refine tp 23 (undef) rfl (.inr ⟨by rfl, rfl⟩) ?_
          refine tp 24 (undef) rfl (.inr ⟨by rfl, rfl⟩) ?_
          refine tp 25 (undef) rfl (.inr ⟨by rfl, rfl⟩) ?_
          refine tp 26 (.bool true) rfl (.inl ⟨by rfl, ?_⟩) ?_
          · intro W hSw; go_simp; try (first | rfl | (simp; done))
          refine wpAnyH_done (by kernel_rfl) ?_ _
          skip
          refine hKK _ _ ?_
          have HB9 := Lib.hid (step_below HBW.out hHeld)
          clear hHeld hne hnp
          go_wp2_with fail
          go_ret
          exact ⟨by rw [HV.out]; rfl, HB9.out⟩
      · have d1 : ¬ (k : Int) < (n : Int) := by omega
        have HV := Lib.hid (show decide (L.map prC = M.map prC) = true by
          have h1 := HE.out
          rw [List.take_of_length_le (by rw [HN.out.1]; omega), List.take_of_length_le (by rw [HN.out.2]; omega)] at h1
          rw [decide_eq_true_eq]; exact h1)
        go_wp2_with fail
        go_ret
        exact ⟨by rw [HV.out]; rfl, HBW.out⟩
  · have e4 : ((n : Int) != (m : Int)) = true := by rw [bne_iff_ne]; omega
    have HV := Lib.hid (show decide (L.map prC = M.map prC) = false by
      rw [decide_eq_false_iff_not]
      intro e9
      have := congrArg List.length e9
      rw [List.length_map, List.length_map, HN.out.1, HN.out.2] at this
      exact hnm this)
    clear hnm
    go_enter Tryz.func73, Tryz.ntmps73
    go_wp2_with fail
    go_ret
    exact ⟨by rw [HV.out]; rfl, Below.refl _ _⟩
end Go.Proofs.YthmofoldmdafoaaGreat
namespace Go.Proofs.YthmofoldmdafoaaGreat
open Go.ChangeShapes Go.WideShapes Go.ChangeAt Go.RowKit
set_option linter.unusedVariables false
set_option linter.unusedSimpArgs false
theorem str_list (L : List Int) : (strOfNums L).toList = L.map fun x => UInt8.ofNat x.toNat := by
  rw [ByteArray.toList_eq]
  simp [strOfNums]
/-- Texts are compared as their bytes are. -/
theorem less_ltL : ∀ {A B : List Int}, Byt A → Byt B → Op.bytesLess (A.map fun x => UInt8.ofNat x.toNat) (B.map fun x => UInt8.ofNat x.toNat) = ltL A B
  | [], [], _, _ => rfl
  | [], b :: B, _, _ => rfl
  | a :: A, [], _, _ => rfl
  | a :: A, b :: B, ha, hb => by
    have h1 := ha a (List.mem_cons_self ..)
    have h2 := hb b (List.mem_cons_self ..)
    have ih := less_ltL (A := A) (B := B) (fun x hx => ha x (List.mem_cons_of_mem _ hx)) (fun x hx => hb x (List.mem_cons_of_mem _ hx))
    rw [List.map_cons, List.map_cons]
    show (decide (UInt8.ofNat a.toNat < UInt8.ofNat b.toNat) || ((UInt8.ofNat a.toNat == UInt8.ofNat b.toNat) && Op.bytesLess _ _)) = (decide (a < b) || (decide (a = b) && ltL A B))
    rw [ih]
    have e1 : decide (UInt8.ofNat a.toNat < UInt8.ofNat b.toNat) = decide (a < b) := by
      apply Bool.eq_iff_iff.2
      rw [decide_eq_true_eq, decide_eq_true_eq, UInt8.lt_iff_toNat_lt, UInt8.toNat_ofNat', UInt8.toNat_ofNat', Nat.mod_eq_of_lt (by omega), Nat.mod_eq_of_lt (by omega)]
      omega
    have e2 : (UInt8.ofNat a.toNat == UInt8.ofNat b.toNat) = decide (a = b) := by
      apply Bool.eq_iff_iff.2
      rw [beq_iff_eq, decide_eq_true_eq, ← UInt8.toNat_inj, UInt8.toNat_ofNat', UInt8.toNat_ofNat', Nat.mod_eq_of_lt (by omega), Nat.mod_eq_of_lt (by omega)]
      omega
    rw [e1, e2]
theorem str_less {A B : List Int} (ha : Byt A) (hb : Byt B) : Op.bytesLess (strOfNums A).toList (strOfNums B).toList = ltL A B := by
  rw [str_list, str_list]; exact less_ltL ha hb
end Go.Proofs.YthmofoldmdafoaaGreat
namespace Go.Proofs.YthmofoldmdafoaaGreat
open Go.ChangeShapes Go.WideShapes Go.ChangeAt Go.RowKit
set_option linter.unusedVariables false
set_option linter.unusedSimpArgs false

structure TakB (W : World) (ad : Option Addr) (cap n : Nat) (wr : World) : Prop where
  k0 : wr.cell? ⟨W.heap.size, 0, none⟩ = some (.slice ad n cap)
  k1 : wr.cell? ⟨W.heap.size, 1, none⟩ = some (.int .i64 0)
  k2 : wr.cell? ⟨W.heap.size, 2, none⟩ = some (.bool true)
end Go.Proofs.YthmofoldmdafoaaGreat
namespace Go.Proofs.YthmofoldmdafoaaGreat
open Go.ChangeShapes Go.WideShapes Go.ChangeAt Go.RowKit
set_option linter.unusedVariables false
set_option linter.unusedSimpArgs false

end Go.Proofs.YthmofoldmdafoaaGreat
namespace Go.Proofs.YthmofoldmdafoaaGreat
open Go.ChangeShapes Go.WideShapes Go.ChangeAt Go.RowKit
set_option linter.unusedVariables false
set_option linter.unusedSimpArgs false

theorem below_new (w : World) (o : Obj) : Below w.heap.size w (w.alloc o) := (Below.refl _ _).alloc (Nat.le_refl _) _
theorem b2 (w : World) (o p : Obj) : Below w.heap.size w ((w.alloc o).alloc p) := step_below (below_new _ _) (below_new _ _)
theorem b3 (w : World) (o p q : Obj) : Below w.heap.size w (((w.alloc o).alloc p).alloc q) := step_below (b2 _ _ _) (below_new _ _)

end Go.Proofs.YthmofoldmdafoaaGreat
namespace Go.Proofs.YthmofoldmdafoaaGreat
open Go.ChangeShapes Go.WideShapes Go.ChangeAt Go.RowKit
set_option linter.unusedVariables false
set_option linter.unusedSimpArgs false

structure Job where
  w : Int
  l : Int
  d : Int
  c : Int
  k : Int
  e : Int
  a : Option Addr
  n : Nat
  cap : Nat
  T : List Int
structure JobAt (W : World) (j : Job) : Prop where
  ls : Ls .i64 W j.a j.cap j.T
  len : j.T.length = j.n
  le : j.n ≤ 1000000
theorem JobAt.below {W W' : World} {j : Job} (h : JobAt W j) (b : Below W.heap.size W W') : JobAt W' j := ⟨h.ls.below b, h.len, h.le⟩
def inB (x a b : Int) : Bool := decide (a ≤ x ∧ x ≤ b)
def hB (j : Job) : Bool := decide (1 ≤ j.w ∧ j.w ≤ 4 ∧ 1 ≤ j.l ∧ j.l ≤ 2 ∧ j.l ≤ j.w ∧ 3 ≤ j.d ∧ j.d ≤ 15 ∧ 1024 ≤ j.c ∧ j.c ≤ 65536 ∧ 1024 ≤ j.k ∧ j.k ≤ 1048576 ∧ 1 ≤ j.e ∧ j.e ≤ 100 ∧ 1 ≤ j.n ∧ j.n ≤ 4)
def tB (T : List Int) : Bool := T.all fun x => inB x 0 2
def okB (j : Job) : Bool := hB j && tB j.T
def chkV (j : Job) : Int := if okB j then 0 else 2
/-- A block of cells. -/
def BoxC (W : World) (B : Nat) (cs : Array Value) (t : TypeId) : Prop := W.heap[B]? = some (.cells cs t (0, 0))
theorem BoxC.below {W W' : World} {B : Nat} {cs : Array Value} {t : TypeId} (h : BoxC W B cs t) (hb : Below W.heap.size W W') : BoxC W' B cs t := (hb.block B (Array.getElem?_eq_some_iff.1 h).1).trans h
theorem BoxC.lt {W : World} {B : Nat} {cs : Array Value} {t : TypeId} (h : BoxC W B cs t) : B < W.heap.size := (Array.getElem?_eq_some_iff.1 h).1
theorem BoxC.cell {W : World} {B : Nat} {cs : Array Value} {t : TypeId} (h : BoxC W B cs t) (i : Nat) : W.cell? ⟨B, i, none⟩ = cs[i]? := by simp [World.cell?, show W.heap[B]? = _ from h]
theorem BoxC.new (W : World) (cs : Array Value) (t : TypeId) : BoxC (W.alloc (.cells cs t)) W.heap.size cs t := World.alloc_heap_new _ _
theorem within_law (x a b : Int) (w : World) : Calls Tryz.prog 75 #[.int .i64 x, .int .i64 a, .int .i64 b] w fun r w' => r = .returned (.bool (inB x a b)) ∧ w = w' := by
  go_enter Tryz.func75, Tryz.ntmps75
  by_cases h1 : a ≤ x
  · go_wp2
    go_ret
    exact ⟨by unfold inB; by_cases h2 : x ≤ b <;> simp [h1, h2], rfl⟩
  · go_wp2
    go_ret
    exact ⟨by rw [show inB x a b = false from decide_eq_false (by omega)]; rfl, rfl⟩
theorem hB_eq (j : Job) : hB j = (inB j.w 1 4 && inB j.l 1 2 && decide (j.l ≤ j.w) && inB j.d 3 15 && inB j.c 1024 65536 && inB j.k 1024 1048576 && inB j.e 1 100 && inB j.n 1 4) := by
  unfold hB inB
  rw [Bool.eq_iff_iff]
  simp
  omega
theorem tB_take {T : List Int} {k : Nat} (hk : k < T.length) : tB (T.take (k + 1)) = (tB (T.take k) && inB (T.getD k 0) 0 2) := by
  rw [take_succ T k hk]
  simp [tB]
set_option maxRecDepth 100000 in
set_option maxHeartbeats 4000000 in
theorem check_law (j : Job) (w : World) (hj : JobAt w j) :
    Calls Tryz.prog 36 #[.agg #[.int .i64 j.w, .int .i64 j.l, .int .i64 j.d, .int .i64 j.c, .int .i64 j.k, .int .i64 j.e, .slice j.a j.n j.cap]] w fun r w' => r = .returned (.int .i64 (chkV j)) ∧ Below w.heap.size w w' := by
  have HJ := Lib.hid hj
  have hle := hj.le
  have hli : (j.n : Int) ≤ 1000000 := by omega
  clear hj
  go_enter Tryz.func36, Tryz.ntmps36
  go_upto_region 1 with (fail)
  have hb := BoxC.new w #[.int .i64 j.w, .int .i64 j.l, .int .i64 j.d, .int .i64 j.c, .int .i64 j.k, .int .i64 j.e, .slice j.a j.n j.cap] 24
  have B1 : Below w.heap.size w (w.alloc (.cells #[.int .i64 j.w, .int .i64 j.l, .int .i64 j.d, .int .i64 j.c, .int .i64 j.k, .int .i64 j.e, .slice j.a j.n j.cap] 24)) := (Below.refl _ _).alloc (Nat.le_refl _) _
  generalize w.alloc (.cells #[.int .i64 j.w, .int .i64 j.l, .int .i64 j.d, .int .i64 j.c, .int .i64 j.k, .int .i64 j.e, .slice j.a j.n j.cap] 24) = W1 at hb B1 ⊢
  have c0 := hb.cell 0
  have c1 := hb.cell 1
  have c2 := hb.cell 2
  have c3 := hb.cell 3
  have c4 := hb.cell 4
  have c5 := hb.cell 5
  have c6 := hb.cell 6
  simp only [List.getElem?_toArray, List.getElem?_cons_zero, List.getElem?_cons_succ] at c0 c1 c2 c3 c4 c5 c6
  have HB1 := Lib.hid B1
  have HBX := Lib.hid hb
  clear hb B1
  go_cut [3] (fun v wx => v = .bool (hB j) ∧ W1 = wx)
  case first =>
    go_wp2_with (go_at_call 75; refine (within_law _ _ _ _).mono ?_; rintro e w' ⟨rfl, rfl⟩)
    all_goals
      go_meet
      case rel =>
        refine ⟨?_, rfl⟩
        rw [hB_eq]
        first | (simp [*]; done) | (simp [*]; intro h; omega)
  case rest =>
    obtain ⟨rfl, rfl⟩ := hcut
    obtain ⟨hb, hbe⟩ : ∃ b, hB j = b := ⟨_, rfl⟩
    rw [hbe]
    have HH := Lib.hid hbe
    clear hbe c0 c1 c2 c3 c4 c5
    go_wp2_with fail
    go_loopw [3, 50] (fun v i wr => ∃ k : Nat, k ≤ j.n ∧ i = .int .i64 (k : Int) ∧ v = .bool (hb && tB (j.T.take k)) ∧ W1 = wr) (fun _ i _ => j.n - (intOf i).toNat)
    case atStart => exact ⟨0, by omega, rfl, by simp [tB], rfl⟩
    case round =>
      obtain ⟨k, hk, rfl, rfl, rfl⟩ := hrel
      obtain ⟨bk, hbk⟩ : ∃ b, (hb && tB (j.T.take k)) = b := ⟨_, rfl⟩
      rw [hbk]
      by_cases hlt : k < j.n
      · have hkl : (k : Int) < (j.n : Int) := by omega
        obtain ⟨b1, o1, ea, d1⟩ := (HJ.out.ls.below HB1.out).get k (by rw [HJ.out.len]; exact hlt)
        rw [ea] at c6
        obtain ⟨x, hx⟩ : ∃ x, j.T.getD k 0 = x := ⟨_, rfl⟩
        rw [hx] at d1
        have HN := Lib.hid (show (hb && tB (j.T.take (k + 1))) = (bk && inB x 0 2) by rw [tB_take (by rw [HJ.out.len]; exact hlt), ← Bool.and_assoc, hbk, hx])
        have HEA := Lib.hid ea
        rw [ea]
        clear hx hbk ea
        cases bk
        · go_wp2_with fail
          go_roundw
          case rel => exact ⟨k + 1, by omega, by go_num, by rw [HN.out]; rfl, trivial⟩
          case measure => simp [intOf]; omega
        · go_wp2_with (go_at_call 75; refine (within_law _ _ _ _).mono ?_; rintro e w' ⟨rfl, rfl⟩)
          go_roundw
          case rel => exact ⟨k + 1, by omega, by go_num, by rw [HN.out]; rfl, trivial⟩
          case measure => simp [intOf]; omega
      · have hkl : ¬ (k : Int) < (j.n : Int) := by omega
        have HO := Lib.hid (show okB j = bk by rw [← hbk, List.take_of_length_le (by rw [HJ.out.len]; omega), okB, HH.out])
        clear hbk
        cases bk
        · go_wp2_with fail
          go_ret
          exact ⟨by rw [chkV, HO.out]; rfl, HB1.out⟩
        · go_wp2_with fail
          go_ret
          exact ⟨by rw [chkV, HO.out]; rfl, HB1.out⟩
end Go.Proofs.YthmofoldmdafoaaGreat
namespace Go.Proofs.YthmofoldmdafoaaGreat
open Go.ChangeShapes Go.WideShapes Go.ChangeAt Go.RowKit Go.Shelf
set_option linter.unusedVariables false
set_option linter.unusedSimpArgs false
attribute [local go_sem] Oper.semAt_some

abbrev Tr := Nat × Int × Int
def encs (x : Tr) : Array Value := #[.int .i64 (x.1 : Int), .agg #[.int .i64 x.2.1, .int .i64 x.2.2]]
def rowN (t m : Nat) : List (Int × Int) := (List.range m).map fun (i : Nat) => ((t : Int), (i : Int) - 1)
def nmL : Nat → List Int → List (Int × Int)
  | _, [] => []
  | t, x :: r => rowN t (x + 1).toNat ++ nmL (t + 1) r
def idx : Nat → List (Int × Int) → List Tr
  | _, [] => []
  | s, p :: r => (s, p.1, p.2) :: idx (s + 1) r
def named (j : Job) : List (Int × Int) := if okB j then nmL 0 j.T else []
theorem idx_append (a b : List (Int × Int)) : ∀ s, idx s (a ++ b) = idx s a ++ idx (s + a.length) b := by
  induction a with
  | nil => intro s; simp [idx]
  | cons p r ih => intro s; simp [idx, ih, Nat.add_assoc, Nat.add_comm 1]
theorem idx_length (a : List (Int × Int)) : ∀ s, (idx s a).length = a.length := by
  induction a with
  | nil => intro s; rfl
  | cons p r ih => intro s; simp [idx, ih]
theorem nmL_append (a b : List Int) : ∀ t, nmL t (a ++ b) = nmL t a ++ nmL (t + a.length) b := by
  induction a with
  | nil => intro t; simp [nmL]
  | cons p r ih => intro t; simp [nmL, ih, Nat.add_assoc, Nat.add_comm 1]
theorem rowN_succ (t m : Nat) : rowN t (m + 1) = rowN t m ++ [((t : Int), (m : Int) - 1)] := by simp [rowN, List.range_succ]
theorem rowN_length (t m : Nat) : (rowN t m).length = m := by simp [rowN]
/-- So far: the tables below k, and m trees of table k. -/
def nmP (T : List Int) (k m : Nat) : List (Int × Int) := nmL 0 (T.take k) ++ rowN k m
theorem nmP_zero (T : List Int) (k : Nat) : nmP T k 0 = nmL 0 (T.take k) := by simp [nmP, rowN]
theorem nmP_succ (T : List Int) (k m : Nat) : nmP T k (m + 1) = nmP T k m ++ [((k : Int), (m : Int) - 1)] := by rw [nmP, rowN_succ, ← List.append_assoc]; rfl
theorem nmP_next (T : List Int) (k : Nat) (hk : k < T.length) : nmP T k (T.getD k 0 + 1).toNat = nmL 0 (T.take (k + 1)) := by
  rw [take_succ T k hk, nmL_append, List.length_take, Nat.min_eq_left (by omega), Nat.zero_add]
  simp [nmP, nmL]
theorem nmP_pre (T : List Int) (k m : Nat) (hk : k < T.length) (hm : m ≤ (T.getD k 0 + 1).toNat) : ∃ t, nmL 0 T = nmP T k m ++ t := by
  have h1 := nmP_next T k hk
  have h2 : nmL 0 T = nmL 0 (T.take (k + 1)) ++ nmL (0 + (T.take (k + 1)).length) (T.drop (k + 1)) := by rw [← nmL_append, List.take_append_drop]
  obtain ⟨d, hd⟩ : ∃ d, (T.getD k 0 + 1).toNat = m + d := ⟨_, (Nat.add_sub_cancel' hm).symm⟩
  have h3 : ∃ t, rowN k (m + d) = rowN k m ++ t := by
    refine ⟨(List.range d).map fun (i : Nat) => ((k : Int), ((m + i : Nat) : Int) - 1), ?_⟩
    rw [rowN, List.range_add, List.map_append, List.map_map]
    rfl
  obtain ⟨t, ht⟩ := h3
  refine ⟨t ++ nmL (0 + (T.take (k + 1)).length) (T.drop (k + 1)), ?_⟩
  rw [h2, ← h1, nmP, hd, ht, nmP]
  simp [List.append_assoc]
theorem nmL_len (T : List Int) (k t : Nat) (hk : k ≤ T.length) (h : ∀ i, i < T.length → 0 ≤ T.getD i 0 ∧ T.getD i 0 ≤ 2) : (nmL t (T.take k)).length ≤ 3 * k := by
  induction k with
  | zero => simp [nmL]
  | succ k ih =>
    have h1 := ih (by omega)
    have h2 := h k (by omega)
    rw [take_succ T k (by omega), nmL_append, List.length_append]
    simp only [nmL, List.append_nil, rowN_length]
    omega
theorem named_ok {j : Job} (h : okB j = true) : named j = nmL 0 j.T := by rw [named, if_pos h]
theorem named_no {j : Job} (h : okB j = false) : named j = [] := by rw [named, if_neg (by rw [h]; simp)]
theorem okB_T {j : Job} (h : okB j = true) : ∀ k, k < j.T.length → 0 ≤ j.T.getD k 0 ∧ j.T.getD k 0 ≤ 2 := fun k hk => by
  have h2 : tB j.T = true := by simp [okB] at h; exact h.2
  simp only [tB, List.all_eq_true] at h2
  have := h2 (j.T[k]) (List.getElem_mem hk)
  simp [inB] at this
  simpa [List.getD, List.getElem?_eq_getElem hk] using this
theorem okB_n {j : Job} (h : okB j = true) : 1 ≤ j.n ∧ j.n ≤ 4 := by
  simp [okB, hB] at h
  omega
theorem chk_ok {j : Job} (h : okB j = true) : chkV j = 0 := by rw [chkV, if_pos h]
theorem chk_no {j : Job} (h : okB j = false) : chkV j = 2 := by rw [chkV, if_neg (by rw [h]; simp)]
/-- What a round keeps: what lay below, and the job's box. -/
def KP (base Bs : Nat) (cs : Array Value) (W W' : World) : Prop := Below base W W' ∧ (BoxC W Bs cs 53 → BoxC W' Bs cs 53)
theorem KP.trans {base Bs : Nat} {cs : Array Value} {A B C : World} (h : KP base Bs cs A B) (k : KP base Bs cs B C) : KP base Bs cs A C := ⟨h.1.trans k.1, fun x => k.2 (h.2 x)⟩
theorem KP.put {base Bs : Nat} {cs : Array Value} {w : World} (hn : base ≤ w.heap.size) (W : World) (l : Nat) (o o' : Obj) (hl : w.heap.size ≤ l) (h : W.heap[l]? = some o) (hc : o.isCells = false) (hw : o.isWalk = false) : KP base Bs cs W (W.putObj l o') :=
  ⟨belowK_b hn W l o o' hl h hc hw, fun hb => by
    have hne : Bs ≠ l := fun e => by subst e; rw [show W.heap[Bs]? = _ from hb] at h; cases h; cases hc
    exact (World.putObj_heap_other hne).trans hb⟩
theorem KP.below {base Bs : Nat} {cs : Array Value} {W W' : World} (hn : base ≤ W.heap.size) (h : Below W.heap.size W W') : KP base Bs cs W W' := ⟨h.mono hn, fun hb => hb.below h⟩
theorem grown_below' {w w' : World} (h : Below w.heap.size w w') : w.grownBy w' none := ⟨h.os, h.tape, h.output, h.size, fun k hk _ => h.block k hk⟩

theorem all_in (j : Job) (w : World) :
    Calls Tryz.prog 136 #[.agg #[.int .i64 j.w, .int .i64 j.l, .int .i64 j.d, .int .i64 j.c, .int .i64 j.k, .int .i64 j.e, .slice j.a j.n j.cap]] w fun e w' => e = .returned (.func (.func 163) #[] #[.pointer (some ⟨w.heap.size, 0, none⟩)]) ∧ w' = w.alloc (.cells #[.int .i64 j.w, .int .i64 j.l, .int .i64 j.d, .int .i64 j.c, .int .i64 j.k, .int .i64 j.e, .slice j.a j.n j.cap] 24) := by
  have hmf : ∀ (fn : Fn) (first cap : Array Value) (w : World), (Instr.makeFunc fn first cap).run Tryz.prog w = .ok (.func fn first cap) w := fun _ _ _ _ => rfl
  go_enter Tryz.func136, Tryz.ntmps136
  go_wp2
  go_ret
  exact ⟨rfl, rfl⟩

set_option maxRecDepth 100000 in
set_option maxHeartbeats 4000000 in
theorem all_stops (m : Nat) (hm : 1 ≤ m) (j : Job) (w0 : World) (hj : JobAt w0 j) (Bs : Nat) (w : World) (hB0 : Below w0.heap.size w0 w) (hBs : BoxC w Bs #[.int .i64 j.w, .int .i64 j.l, .int .i64 j.d, .int .i64 j.c, .int .i64 j.k, .int .i64 j.e, .slice j.a j.n j.cap] 24) :
    SeqStopsK Fence.wide m Tryz.prog 163 #[.pointer (some ⟨Bs, 0, none⟩)] encs (KP w0.heap.size Bs #[.int .i64 j.w, .int .i64 j.l, .int .i64 j.d, .int .i64 j.c, .int .i64 j.k, .int .i64 j.e, .slice j.a j.n j.cap]) (fun ys => ys = idx 0 (named j)) (fun pre => ∃ t, idx 0 (named j) = pre ++ t) (named j).length w := fun lp J Jx W hW hJ _ hY h0 => by
  have hb := hBs.below hW
  have hB1 : Below w0.heap.size w0 W := hB0.trans (hW.mono hB0.size)
  have HJ := Lib.hid hj
  have hle := hj.le
  have hlen := Lib.hid hj.len
  clear hj hBs hW hB0
  show CallsIn Fence.wide m Tryz.prog 163 #[.func (.yield lp) #[] #[], .pointer (some ⟨Bs, 0, none⟩)] W _
  refine callsIn_of_wp Tryz.func163 rfl trivial ?_ rfl
  simp only [Tryz.ntmps163, List.size_toArray, List.length_cons, List.length_nil, Nat.reduceAdd, Nat.reduceSub, Array.replicate_succ, Array.replicate_zero, List.push_toArray, List.append_toArray, List.nil_append, List.cons_append]
  have c0 := hb.cell 0
  have c1 := hb.cell 1
  have c2 := hb.cell 2
  have c3 := hb.cell 3
  have c4 := hb.cell 4
  have c5 := hb.cell 5
  have c6 := hb.cell 6
  simp only [List.getElem?_toArray, List.getElem?_cons_zero, List.getElem?_cons_succ] at c0 c1 c2 c3 c4 c5 c6
  obtain ⟨cs, hcs⟩ : ∃ cs, (#[.int .i64 j.w, .int .i64 j.l, .int .i64 j.d, .int .i64 j.c, .int .i64 j.k, .int .i64 j.e, .slice j.a j.n j.cap] : Array Value) = cs := ⟨_, rfl⟩
  rw [hcs] at hY hb
  clear hcs
  gi_wp2_with fail
  refine ⟨trivial, ?_⟩
  refine (callsIn_wide.2 (check_law j _ (HJ.out.below hB1))).mono ?_
  rintro e W1 ⟨rfl, B1⟩
  have J1 : J [] W1 := hJ _ _ _ _ h0 (grown_below' B1) (fun r e => by cases e)
  have hb1 := Lib.hid (hb.below B1)
  have c6' := (B1.cell (p := ⟨Bs, 6, none⟩) hb.lt).trans c6
  have HB1 := Lib.hid (hB1.trans (B1.mono hB1.size))
  have HJ1 := Lib.hid J1
  have hs1 := B1.size
  clear h0 hb B1 J1 hB1 c0 c1 c2 c3 c4 c5 c6
  cases hok : okB j
  · have hnm := Lib.hid (named_no hok)
    rw [chk_no hok]
    clear hok
    gi_wp2_with fail
    refine bodyPost_ret (results_none rfl _ _ _) rfl ?_
    exact ⟨⟨_, rfl⟩, .inl ⟨_, rfl, by rw [hnm.out]; exact HJ1.out⟩⟩
  · have hnm := Lib.hid (named_ok hok)
    have hT := Lib.hid (okB_T hok)
    have hn4 := (okB_n hok).2
    have hn4i : (j.n : Int) ≤ 4 := by omega
    rw [chk_ok hok]
    clear hok
    gi_wp2_with fail
    gi_loopw [3, 13] (fun t i wr => ∃ k : Nat, k ≤ j.n ∧ i = .int .i64 (k : Int) ∧ t = .int .i64 ((nmL 0 (j.T.take k)).length : Int) ∧ Hid (J (idx 0 (nmL 0 (j.T.take k))) wr) ∧ Hid (KP w0.heap.size Bs cs W1 wr)) (fun _ i _ => j.n - (intOf i).toNat)
    case atStart => exact ⟨0, by omega, rfl, rfl, HJ1, Lib.hid ⟨Below.refl _ _, fun h => h⟩⟩
    case round =>
      clear HJ1 c6'
      obtain ⟨k, hk, rfl, rfl, hJs, hK⟩ := hrel
      by_cases hlt : k < j.n
      · have hkl : (k : Int) < (j.n : Int) := by omega
        have hkT : k < j.T.length := by rw [hlen.out]; exact hlt
        obtain ⟨b1, o1, ea, d1⟩ := (HJ.out.ls.below (HB1.out.trans hK.out.1)).get k hkT
        obtain ⟨hx0, hx2⟩ := hT.out k hkT
        obtain ⟨x, hx⟩ : ∃ x : Nat, j.T.getD k 0 = (x : Int) := ⟨(j.T.getD k 0).toNat, by omega⟩
        rw [hx] at d1
        have hx2 : x ≤ 2 := by omega
        have hx2i : (x : Int) ≤ 2 := by omega
        have HX := Lib.hid hx
        have HEA := Lib.hid ea
        have HTL := Lib.hid (show (nmL 0 (j.T.take k)).length ≤ 12 by
          have h1 := nmL_len j.T k 0 (by omega) hT.out
          omega)
        rw [ea]
        have e0 := nmP_zero j.T k
        rw [← e0] at hJs HTL ⊢
        clear hx ea hkT e0
        gi_wp2_with fail
        gi_loopw [3, 6] (fun t i wr => ∃ m : Nat, m ≤ x + 1 ∧ i = .int .i64 ((m : Int) - 1) ∧ t = .int .i64 ((nmP j.T k m).length : Int) ∧ Hid (J (idx 0 (nmP j.T k m)) wr) ∧ Hid (KP w0.heap.size Bs cs W1 wr)) (fun _ i _ => 5 - (intOf i + 1).toNat)
        case atStart => exact ⟨0, by omega, rfl, rfl, hJs, hK⟩
        case round =>
          clear hJs hK d1
          obtain ⟨m, hm, rfl, rfl, hJs, hK⟩ := hrel
          by_cases hmx : m < x + 1
          · have hml : (m : Int) - 1 < (x : Int) := by omega
            have hpre := nmP_pre j.T k (m + 1) (by rw [hlen.out]; exact hlt) (by rw [HX.out]; omega)
            obtain ⟨t, ht⟩ := hpre
            have hbd : (idx 0 (nmP j.T k m)).length < (named j).length := by
              rw [idx_length, hnm.out, ht, nmP_succ]; first | (simp; done) | (simp; omega)
            obtain ⟨fn, tmps, assign, body, hy, hR⟩ := hY _ ((nmP j.T k m).length, (k : Int), (m : Int) - 1) wr hJs.out hbd
            dsimp only [encs] at hy
            have hE : idx 0 (nmP j.T k m) ++ [((nmP j.T k m).length, (k : Int), (m : Int) - 1)] = idx 0 (nmP j.T k (m + 1)) := by
              rw [nmP_succ, idx_append]; simp [idx]
            rw [hE] at hR
            have hL : (nmP j.T k (m + 1)).length = (nmP j.T k m).length + 1 := by rw [nmP_succ]; simp
            have hq12 : (nmP j.T k m).length ≤ 20 := by
              have h1 := nmL_len j.T k 0 (by rw [hlen.out]; omega) hT.out
              rw [nmP, List.length_append, rowN_length]; omega
            obtain ⟨q, hq⟩ : ∃ q, (nmP j.T k m).length = q := ⟨_, rfl⟩
            rw [hq] at hy hL hq12 ⊢
            have HL := Lib.hid hL
            have HT := Lib.hid (show ∃ t, idx 0 (named j) = idx 0 (nmP j.T k (m + 1)) ++ t from ⟨idx (0 + (nmP j.T k (m + 1)).length) t, by rw [hnm.out, ht, idx_append]⟩)
            clear hq hL ht hbd hE
            gi_wp2
            refine hR.mono ?_
            rintro e W3 (⟨rfl, hJ3, hk3⟩ | ⟨rfl, hJx3⟩)
            · have HJ3 := Lib.hid hJ3
              have HK3 := Lib.hid (hK.out.trans hk3)
              clear hJ3 hk3
              gi_wp2
              go_roundw
              case rel => exact ⟨m + 1, by omega, by first | go_num | (congr 1; omega), by rw [HL.out]; go_num, HJ3, HK3⟩
              case measure => simp [intOf]; omega
            · have HX3 := Lib.hid hJx3
              clear hJx3
              gi_wp2
              refine bodyPost_ret (results_none rfl _ _ _) rfl ?_
              exact ⟨⟨_, rfl⟩, .inr ⟨_, HT.out, HX3.out⟩⟩
          · have hml : ¬ (m : Int) - 1 < (x : Int) := by omega
            have hme : m = x + 1 := by omega
            have hnx := nmP_next j.T k (by rw [hlen.out]; exact hlt)
            rw [HX.out, show ((x : Int) + 1).toNat = x + 1 by omega, ← hme] at hnx
            rw [hnx] at hJs
            rw [hnx]
            clear hnx hme
            gi_wp2
            go_roundw
            case rel => exact ⟨k + 1, by omega, by go_num, rfl, hJs, hK⟩
            case measure => simp [intOf]; omega
      · have hkl : ¬ (k : Int) < (j.n : Int) := by omega
        have HE := Lib.hid (show J (idx 0 (named j)) wr by
          have := hJs.out
          rw [List.take_of_length_le (by rw [hlen.out]; omega)] at this
          rw [hnm.out]; exact this)
        clear hJs
        gi_wp2
        go_end0
        exact ⟨⟨_, rfl⟩, .inl HE.out⟩
end Go.Proofs.YthmofoldmdafoaaGreat
