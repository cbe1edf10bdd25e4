/- What is needed, what is not. -/
import Derived.Test.YtglkndoghnblcaaGreatDoorLpt
import Derived.Test.YtglkndoghnblcaaGreatDoorLnb
import Derived.Test.YtglkndoghnblcaaGreatDoorShelf
namespace Go.Proofs.YtglkndoghnblcaaGreatDoor
open Go.ChangeShapes Go.WideShapes Go.ChangeAt Go.RowKit
set_option linter.unusedVariables false
set_option linter.unusedSimpArgs false
def nMan : ByteArray := ⟨#[109, 97, 110, 105, 102, 101, 115, 116]⟩
def nDur : ByteArray := ⟨#[100, 117, 114, 97, 98, 108, 101]⟩
def nDurN : ByteArray := ⟨#[100, 117, 114, 97, 98, 108, 101, 46, 110, 101, 119]⟩
def sv (L : List ByteArray) : List Value := L.map Value.string
theorem sv_append (a b : List ByteArray) : sv (a ++ b) = sv a ++ sv b := by simp [sv]
theorem sv_len (a : List ByteArray) : (sv a).length = a.length * 1 := by simp [sv]
theorem sv_one (a : List ByteArray) : ∀ u ∈ sv a, u.oneCell' = true := fun u hu => by
  obtain ⟨l, _, rfl⟩ := List.mem_map.1 hu; rfl
theorem info9s : (Tryz.prog.info? 9).map (fun i => (i.zero, i.size, i.bytes)) = some (some (.string { data := #[] }), 1, 16) := by kernel_rfl
theorem sv_at {W : World} {a : Addr} {L : List ByteArray} (h : StrR W (some a) L) : ∀ (j : Nat) (u : Value), (sv L)[j]? = some u → W.cell? (a.add j) = some u := fun j u hj => by
  unfold sv at hj
  rw [List.getElem?_map] at hj
  cases hx : L[j]? with
  | none => rw [hx] at hj; cases hj
  | some x =>
    rw [hx] at hj
    cases hj
    obtain ⟨b, off, e, c0⟩ := h j x hx
    cases e
    have ha : (⟨b, off, none⟩ : Addr).add j = ⟨b, off + j, none⟩ := by simp [Addr.add, go_sem]
    rw [ha]; exact c0
theorem strs_own {W : World} {base n c : Nat} {a : Option Addr} {L : List ByteArray} (h : W.ownsRow base 9 1 (.slice a n c) n (sv L)) (hn : L.length = n) : StrR W a L := fun k x hx => by
  have hk := (List.getElem?_eq_some_iff.1 hx).1
  have h' := h
  rcases h.2 with ⟨e0, h0⟩ | ⟨g, cap, cur, e0, _⟩
  · omega
  · cases e0
    refine ⟨g, 0, rfl, ?_⟩
    rw [Nat.zero_add, h'.cellAt k (by omega)]
    unfold sv
    rw [List.getElem?_map, hx]
    rfl
theorem run_append_str (w : World) (ty : TypeId) (base : Nat) (v : Value) (n : Nat) (xs : List ByteArray) (hown : w.ownsRow base 9 1 v n (sv xs))
    (ad : Addr) (s : ByteArray) (hs : w.cell? ad = some (.string s)) (hsp : ad.add 0 = ad) (hb : n + 1 ≤ 2097152) (hbase : base ≤ w.heap.size) :
    ∃ v' w', (Builtin.append_ #[40, 40] ty #[v, .slice (some ad) 1 1]).run Tryz.prog w = .ok v' w' ∧ w'.ownsRow base 9 1 v' (n + 1) (sv (xs ++ [s])) ∧ w.grownBy w' v.ownBlock := by
  obtain ⟨i0, hi, hz0, hz1, hz2⟩ := info_parts info9s
  obtain ⟨v', w', h1, h2, h3, _⟩ := run_append_own (P := Tryz.prog) w base 40 ty 9 i0 (.string { data := #[] }) 1 16 Tryz.underlying40 hi hz0 hz1 hz2 rfl (by decide) v n (sv xs) hown ad 1 1 (sv [s]) (sv_len _) (fun j u hj => by
    match j, hj with
    | 0, hj => cases hj; rw [hsp]; exact hs
    | j + 1, hj => simp [sv] at hj) (sv_one _) (by unfold maxLen; omega) (by omega) hbase
  exact ⟨v', w', h1, by rw [sv_append]; exact h2, h3⟩
theorem append_str {ops : Array Oper} {rest : List Oper} {o : Oper} {a : Act} {w : World} {Q : Exit → Act → World → Prop} (hgd : o.guard = none) (s x : Operand)
    (ho : o.op = .call { callee := .builtin .append, args := #[s, x], argTypes := #[40, 40] })
    (base : Nat) (v : Value) (n : Nat) (xs : List ByteArray) (hs : a.eval s = v) (hown : w.ownsRow base 9 1 v n (sv xs))
    (B : Nat) (t : ByteArray) (hx : a.eval x = .slice (some ⟨B, 0, none⟩) 1 1) (ht : w.cell? ⟨B, 0, none⟩ = some (.string t)) (hb : n + 1 ≤ 2097152) (hbase : base ≤ w.heap.size)
    (h : ∀ a' c' w', w'.ownsRow base 9 1 (.slice a' (n + 1) c') (n + 1) (sv (xs ++ [t])) → w.grownBy w' v.ownBlock → wpList Tryz.prog ops Q rest (a.put o.dst (.slice a' (n + 1) c')) w') :
    wpList Tryz.prog ops Q (o :: rest) a w :=
  wpList_plain hgd fun Kt hK => by
    obtain ⟨v', w', h1, h2, h3⟩ := run_append_str w o.type base v n xs hown ⟨B, 0, none⟩ t ht (by simp [Addr.add]) hb hbase
    obtain ⟨a', c', rfl⟩ := own_form h2
    unfold Oper.wp execOp
    simp only [ho, resolve, invoke, builtin, Sem.run_bind, Sem.run_pure, Result.andThen_ok, List.map_toArray, List.map_cons, List.map_nil, hs, hx, h1]
    exact hK _ _ (h a' c' w' h2 h3)
theorem contains_strs (a : Option Addr) (L : List ByteArray) (n c : Nat) (hn : L.length = n) (hn2 : n ≤ 1000000) (x : ByteArray) (w : World) (hR : StrR w a L) :
    Calls Tryz.prog 44 #[.slice a n c, .string x] w fun r w' => r = .returned (.bool (Lib.containsS L x)) ∧ w' = w := by
  by_cases h0 : n = 0
  · subst h0
    have : L = [] := List.length_eq_zero_iff.1 hn
    subst this
    exact (Tryz.slices_Contains_string_empty a c x w).mono fun e w' h => h
  · obtain ⟨b, off, rfl, _⟩ := hR 0 _ (List.getElem?_eq_getElem (by omega))
    have h := Tryz.slices_Contains_string b off n c L x w (by omega) (by omega) (fun j hj => by
      obtain ⟨b', off', e, h1⟩ := hR j _ (List.getElem?_eq_getElem hj)
      cases e
      rw [h1, List.getD_eq_getElem?_getD, List.getElem?_eq_getElem hj]; rfl)
    rw [List.take_of_length_le (by omega)] at h
    exact h
/-- The names that a manifest needs. -/
def ndL0 (nm : ByteArray) : List ByteArray := [nMan, nDur, nDurN] ++ (if eqE nm then [] else [nm])
def ndL1 (nm : ByteArray) (xs : List LpV) : List ByteArray := ndL0 nm ++ xs.map Prod.fst
def ndL (g : Int) (nm : ByteArray) (xs : List LpV) : List ByteArray := ndL1 nm xs ++ [lnS g 0] ++ [lnS g 1]
def ndB (g : Int) (nm : ByteArray) (xs : List LpV) (s : ByteArray) : Bool := Lib.containsS (ndL g nm xs) s
theorem ndB_iff (g : Int) (nm : ByteArray) (xs : List LpV) (s : ByteArray) : ndB g nm xs s = true ↔ (s = lnS g 0 ∨ s = lnS g 1 ∨ (∃ x ∈ xs, x.1 = s) ∨ s = nMan ∨ s = nDur ∨ s = nDurN ∨ (eqE nm = false ∧ s = nm)) := by
  unfold ndB
  rw [Lib.containsS_iff]
  unfold ndL ndL1 ndL0
  cases he : eqE nm
  · simp only [List.mem_append, List.mem_map, List.mem_cons, List.not_mem_nil, or_false, Bool.false_eq_true, if_false, Prod.exists, exists_and_right, true_and]
    constructor
    · rintro (((((h | h | h) | h) | ⟨x, h, rfl⟩) | h) | h) <;> simp_all
    · rintro (h | h | ⟨x, y, h, e⟩ | h | h | h | h) <;> simp_all
  · simp only [List.mem_append, List.mem_map, List.mem_cons, List.not_mem_nil, or_false, if_true, Prod.exists, exists_and_right, Bool.true_eq_false, false_and]
    constructor
    · rintro ((((h | h | h) | ⟨x, h, rfl⟩) | h) | h) <;> simp_all
    · rintro (h | h | ⟨x, y, h, e⟩ | h | h | h) <;> simp_all
theorem eq_yes {s t : ByteArray} (h : (s.toList == t.toList) = true) : s = t := by
  have h := beq_iff_eq.1 h
  rw [ByteArray.toList_eq, ByteArray.toList_eq] at h
  exact bytes_inj h
theorem eq_no {s t : ByteArray} (h : (s.toList == t.toList) = false) : ¬ s = t := fun e => by rw [e] at h; simp at h
def nlV (ok : Bool) (g : Int) (nm : ByteArray) (xs : List LpV) (ns : List ByteArray) : List ByteArray × Int := if ok then (ns.filter fun s => !ndB g nm xs s, 0) else ([], 2)
def NlR (w : World) (V : List ByteArray × Int) (r : Ending) (w' : World) : Prop :=
  (∃ a c, r = .returned (.tuple #[.slice a V.1.length c, .int .i64 V.2]) ∧ StrR w' a V.1) ∧ Below w.heap.size w w'
def flK (g : Int) (nm : ByteArray) (xs : List LpV) (ns : List ByteArray) (k : Nat) : List ByteArray := (ns.take k).filter fun s => !ndB g nm xs s
theorem flK_yes {g : Int} {nm : ByteArray} {xs : List LpV} {ns : List ByteArray} {k : Nat} {x : ByteArray} (h : ns[k]? = some x) (hx : ndB g nm xs x = false) : flK g nm xs ns (k + 1) = flK g nm xs ns k ++ [x] := by
  unfold flK; rw [take_one h, List.filter_append]; simp [hx]
theorem flK_no {g : Int} {nm : ByteArray} {xs : List LpV} {ns : List ByteArray} {k : Nat} {x : ByteArray} (h : ns[k]? = some x) (hx : ndB g nm xs x = true) : flK g nm xs ns (k + 1) = flK g nm xs ns k := by
  unfold flK; rw [take_one h, List.filter_append]; simp [hx]
theorem flK_len (g : Int) (nm : ByteArray) (xs : List LpV) (ns : List ByteArray) (k : Nat) : (flK g nm xs ns k).length ≤ ns.length :=
  Nat.le_trans (List.length_filter_le _ _) (by rw [List.length_take]; omega)
theorem flK_all {g : Int} {nm : ByteArray} {xs : List LpV} {ns : List ByteArray} {k : Nat} (h : ns.length ≤ k) : flK g nm xs ns k = (nlV true g nm xs ns).1 := by
  unfold flK nlV; rw [List.take_of_length_le h]; rfl
theorem take_fst {xs : List LpV} {k : Nat} {x : LpV} (h : xs[k]? = some x) : (xs.take (k + 1)).map Prod.fst = (xs.take k).map Prod.fst ++ [x.1] := by
  rw [take_one h]; simp
end Go.Proofs.YtglkndoghnblcaaGreatDoor
