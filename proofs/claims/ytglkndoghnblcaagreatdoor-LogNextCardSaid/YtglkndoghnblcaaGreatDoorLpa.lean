/- Parts put behind parts; what is kept. -/
import Derived.Test.YtglkndoghnblcaaGreatDoorOkg
namespace Go.Proofs.YtglkndoghnblcaaGreatDoor
open Go.ChangeShapes Go.WideShapes Go.ChangeAt Go.RowKit
set_option linter.unusedVariables false
set_option linter.unusedSimpArgs false
def lcl (x : LpV) : List Value := [.string x.1, .int .i64 x.2]
def lcells (xs : List LpV) : List Value := (xs.map lcl).flatten
theorem lcells_append (a b : List LpV) : lcells (a ++ b) = lcells a ++ lcells b := by simp [lcells]
theorem lcells_len (a : List LpV) : (lcells a).length = a.length * 2 := by
  induction a with
  | nil => rfl
  | cons x r ih =>
    unfold lcells at *
    rw [List.map_cons, List.flatten_cons, List.length_append, ih, List.length_cons]
    simp only [lcl, List.length_cons, List.length_nil]
    omega
theorem lcells_one (a : List LpV) : ∀ u ∈ lcells a, u.oneCell' = true := fun u hu => by
  obtain ⟨l, hl, hu⟩ := List.mem_flatten.1 hu
  obtain ⟨p, _, rfl⟩ := List.mem_map.1 hl
  simp only [lcl, List.mem_cons, List.not_mem_nil, or_false] at hu
  rcases hu with rfl | rfl <;> rfl
theorem lpcells_at {W : World} {a : Addr} {xs : List LpV} (h : LpsR W (some a) xs) : ∀ (j : Nat) (u : Value), (lcells xs)[j]? = some u → W.cell? (a.add j) = some u := fun j u hj => by
  have hl := (List.getElem?_eq_some_iff.1 hj).1
  rw [lcells_len] at hl
  obtain ⟨x, hx⟩ : ∃ x, xs[j / 2]? = some x := ⟨_, List.getElem?_eq_getElem (by omega)⟩
  obtain ⟨b, off, e, c0, c1⟩ := h (j / 2) x hx
  cases e
  have ha : (⟨b, off, none⟩ : Addr).add j = ⟨b, off + j, none⟩ := by simp [Addr.add, go_sem]
  rw [ha]
  have hm := Nat.div_add_mod j 2
  have h3 := Nat.mod_lt j (show 2 > 0 by omega)
  have key := flat_at lcl 2 (fun _ => rfl) xs (j / 2) (j % 2) x hx h3
  rw [show j / 2 * 2 + j % 2 = j by omega] at key
  unfold lcells at hj
  rw [hj] at key
  have hcases : j % 2 = 0 ∨ j % 2 = 1 := by omega
  rcases hcases with e | e
  · rw [e] at key
    simp only [lcl, List.getElem?_cons_zero, Option.some.injEq] at key
    rw [key, show off + j = off + j / 2 * 2 by omega]; exact c0
  · rw [e] at key
    simp only [lcl, List.getElem?_cons_zero, List.getElem?_cons_succ, Option.some.injEq] at key
    rw [key, show off + j = off + j / 2 * 2 + 1 by omega]; exact c1
theorem lps_own {W : World} {base n c : Nat} {a : Option Addr} {xs : List LpV} (h : W.ownsRow base 42 2 (.slice a n c) n (lcells xs)) (hn : xs.length = n) : LpsR W a xs := fun k x hx => by
  have hk := (List.getElem?_eq_some_iff.1 hx).1
  have hc := fun i hi => flat_at lcl 2 (fun _ => rfl) xs k i x hx hi
  have h' := h
  rcases h.2 with ⟨e0, h0⟩ | ⟨g, cap, cur, e0, _⟩
  · omega
  · cases e0
    refine ⟨g, 0, rfl, ?_, ?_⟩
    · rw [Nat.zero_add, show k * 2 = k * 2 + 0 by omega, h'.cellAt (k * 2 + 0) (by omega)]
      exact hc 0 (by omega)
    · rw [Nat.zero_add, h'.cellAt (k * 2 + 1) (by omega)]
      exact hc 1 (by omega)
theorem own_cap {W : World} {base n c s : Nat} {t : TypeId} {a : Option Addr} {xs : List Value} (h : W.ownsRow base t s (.slice a n c) n xs) : n ≤ c := by
  rcases h.2 with ⟨e0, h0⟩ | ⟨g, cap, cur, e0, _, _, hc, _⟩
  · omega
  · cases e0; exact hc
theorem run_append_lps (w : World) (ty : TypeId) (base : Nat) (v : Value) (n : Nat) (xs : List LpV) (hown : w.ownsRow base 42 2 v n (lcells xs))
    (ad : Option Addr) (c len : Nat) (ys : List LpV) (hlen : ys.length = len) (hR : LpsR w ad ys) (hnil : ad = none → c = 0) (hb : n + len ≤ 1048576) (hbase : base ≤ w.heap.size) :
    ∃ v' w', (Builtin.append_ #[37, 37] ty #[v, .slice ad len c]).run Tryz.prog w = .ok v' w' ∧ w'.ownsRow base 42 2 v' (n + len) (lcells (xs ++ ys)) ∧ w.grownBy w' v.ownBlock := by
  subst hlen
  obtain ⟨i0, hi, hz0, hz1, hz2⟩ := info_parts info76
  rcases ad with _ | ad
  · obtain rfl := hnil rfl
    have : ys = [] := by
      cases ys with
      | nil => rfl
      | cons y r =>
        obtain ⟨b, off, e, _⟩ := hR 0 y rfl
        cases e
    subst this
    exact ⟨v, w, run_append_owned_none (P := Tryz.prog) (w := w) base 37 ty 42 i0 2 Tryz.underlying37 hi v n (lcells xs) hown, by simpa using hown, ⟨rfl, rfl, rfl, Nat.le_refl _, fun _ _ _ => rfl⟩⟩
  · obtain ⟨v', w', h1, h2, h3, _⟩ := run_append_own (P := Tryz.prog) w base 37 ty 42 i0 (.agg #[.string { data := #[] }, .int .i64 0]) 2 24 Tryz.underlying37 hi hz0 hz1 hz2 rfl (by decide) v n (lcells xs) hown ad ys.length c (lcells ys) (lcells_len ys) (lpcells_at hR) (lcells_one ys) (by unfold maxLen; omega) (by omega) hbase
    exact ⟨v', w', h1, by rw [lcells_append]; exact h2, h3⟩
/-- An append of parts that are read, nil or not. -/
theorem append_lps {ops : Array Oper} {rest : List Oper} {o : Oper} {a : Act} {w : World} {Q : Exit → Act → World → Prop} (hgd : o.guard = none) (s x : Operand)
    (ho : o.op = .call { callee := .builtin .append, args := #[s, x], argTypes := #[37, 37] })
    (base : Nat) (v : Value) (n : Nat) (xs : List LpV) (hs : a.eval s = v) (hown : w.ownsRow base 42 2 v n (lcells xs))
    (ad : Option Addr) (c len : Nat) (ys : List LpV) (hlen : ys.length = len) (hx : a.eval x = .slice ad len c) (hR : LpsR w ad ys) (hnil : ad = none → c = 0) (hb : n + len ≤ 1048576) (hbase : base ≤ w.heap.size)
    (h : ∀ v' w', w'.ownsRow base 42 2 v' (n + len) (lcells (xs ++ ys)) → w.grownBy w' v.ownBlock → wpList Tryz.prog ops Q rest (a.put o.dst v') w') :
    wpList Tryz.prog ops Q (o :: rest) a w :=
  wpList_plain hgd fun Kt hK => by
    obtain ⟨v', w', h1, h2, h3⟩ := run_append_lps w o.type base v n xs hown ad c len ys hlen hR hnil hb hbase
    unfold Oper.wp execOp
    simp only [ho, resolve, invoke, builtin, Sem.run_bind, Sem.run_pure, Result.andThen_ok, List.map_toArray, List.map_cons, List.map_nil, hs, hx, h1]
    exact hK _ _ (h v' w' h2 h3)
/-- One part that lies in a box of its own. -/
theorem lp_box {W : World} {B : Nat} (x : LpV) (h0 : W.cell? ⟨B, 0, none⟩ = some (.string x.1)) (h1 : W.cell? ⟨B, 1, none⟩ = some (.int .i64 x.2)) : LpsR W (some ⟨B, 0, none⟩) [x] := fun k y hy => by
  match k, hy with
  | 0, hy => cases hy; exact ⟨B, 0, rfl, by simpa using h0, by simpa using h1⟩
  | k + 1, hy => simp at hy
/-- The parts whose end is greater. -/
def keepL (e : Int) (xs : List LpV) : List LpV := xs.filter fun x => decide (e < x.2)
theorem keepL_append (e : Int) (a b : List LpV) : keepL e (a ++ b) = keepL e a ++ keepL e b := by simp [keepL]
theorem keepL_len (e : Int) (a : List LpV) : (keepL e a).length ≤ a.length := List.length_filter_le _ _
theorem keepL_mem {e : Int} {a : List LpV} {x : LpV} (h : x ∈ keepL e a) : x ∈ a := (List.mem_filter.1 h).1
theorem take_one {α : Type} {xs : List α} {k : Nat} {x : α} (h : xs[k]? = some x) : xs.take (k + 1) = xs.take k ++ [x] := by
  rw [List.take_add_one, h]; rfl
theorem keep_yes {e : Int} {xs : List LpV} {k : Nat} {x : LpV} (h : xs[k]? = some x) (hx : e < x.2) : keepL e (xs.take (k + 1)) = keepL e (xs.take k) ++ [x] := by
  rw [take_one h, keepL_append]; simp [keepL, hx]
theorem keep_no {e : Int} {xs : List LpV} {k : Nat} {x : LpV} (h : xs[k]? = some x) (hx : ¬ e < x.2) : keepL e (xs.take (k + 1)) = keepL e (xs.take k) := by
  rw [take_one h, keepL_append]; simp [keepL, hx]
/-- Is it the empty manifest. -/
def zerB (g e f : Int) (nm : ByteArray) (n : Nat) : Bool := g == 0 && (nm.toList == [] && (e == 0 && (f == 0 && ((n : Int) == 0))))
end Go.Proofs.YtglkndoghnblcaaGreatDoor
