/- Manifests, parts and texts that came in: opened to their cells. -/
import Derived.Test.YtglkndoghnblcaaGreatDoorLpt
import Derived.Deep.Slices
import Derived.Deep.Fields
import Derived.Deep.Matrix
import Derived.ProofKit
import Derived.Lib.Bytes
import Derived.ChangeSame
import Derived.SizedLaws
import Derived.OpenShut
import Derived.Lib.SmallJoins
namespace Go.Proofs.YtglkndoghnblcaaGreatDoor
open Go.ChangeShapes Go.WideShapes Go.ChangeAt Go.RowKit Go.Deep
set_option linter.unusedVariables false
set_option linter.unusedSimpArgs false
theorem list_of {α : Type} {p : Nat → α → Prop} : ∀ m, (∀ i, i < m → ∃ x, p i x) → ∃ L : List α, L.length = m ∧ ∀ i x, L[i]? = some x → p i x
  | 0, _ => ⟨[], rfl, fun i x h => by simp at h⟩
  | m + 1, h => by
    obtain ⟨L, hl, hp⟩ := list_of m fun i hi => h i (by omega)
    obtain ⟨x, hx⟩ := h m (by omega)
    refine ⟨L ++ [x], by simp [hl], fun i y hy => ?_⟩
    by_cases e : i < L.length
    · rw [List.getElem?_append_left e] at hy
      exact hp i y hy
    · have hi := (List.getElem?_eq_some_iff.1 hy).1
      simp at hi
      obtain rfl : i = m := by omega
      rw [List.getElem?_append_right (by omega)] at hy
      simp [hl] at hy
      rw [← hy]; exact hx
section
variable {H : Type} {enc : TypeId × Value → H} {w : World} {base : Nat} {held : Bool}
theorem weights_all {P : Program} {e : TypeId} {d : DataW H} {n : Nat} (hn : n ∈ d.weights P e) : ∀ {l : List (DataW H)}, d ∈ l → n ∈ DataW.weightsAll P e l
  | [], h => by simp at h
  | x :: r, h => by
    simp only [DataW.weightsAll, List.mem_append]
    rcases List.mem_cons.1 h with rfl | h
    · exact .inl hn
    · exact .inr (weights_all hn h)
/-- What a slice that is read within the reach says of its length, and of its elements. -/
theorem slice_sz {t e : TypeId} (ht : Tryz.prog.underlying t = some (.slice e)) (hb : 1 ≤ Tryz.prog.bytesOf e) {len k : Nat} {D : Nat → DataW H} (hsz : ∀ n ∈ (DataW.slice ((List.range len).map D) ((List.range k).map fun j => D (len + j))).weights Tryz.prog t, n ≤ reachBytes) :
    len ≤ 140737488355328 ∧ ∀ i, i < len → ∀ n ∈ (D i).weights Tryz.prog e, n ≤ reachBytes := by
  constructor
  · have h1 := hsz ((((List.range len).map D).length + ((List.range k).map fun j => D (len + j)).length) * Tryz.prog.bytesOf e) (by simp only [DataW.weights, ht]; exact List.mem_cons_self ..)
    simp only [List.length_map, List.length_range, reachBytes] at h1
    have : (len + k) * 1 ≤ (len + k) * Tryz.prog.bytesOf e := Nat.mul_le_mul_left _ hb
    omega
  · intro i hi n hn
    refine hsz n ?_
    simp only [DataW.weights, ht, List.mem_cons, List.mem_append]
    exact .inr (.inl (weights_all hn (List.mem_map.2 ⟨i, List.mem_range.2 hi, rfl⟩)))
end
section
variable {H : Type} {enc : TypeId × Value → H} {w : World} {base b0 : Nat} {held : Bool} {r : Reach} {v : Value} {d : DataW H} {ps : List MemPlace}
theorem open_agg5' {P : Program} {spare : Nat → Bool} {t : TypeId} {f0 f1 f2 f3 f4 : Field} {p : List MemPlace} (hs : P.underlying t = some (.struct #[f0, f1, f2, f3, f4])) (hone : oneCellFields P #[f0, f1, f2, f3, f4] = true) (hC : P.cellsOf t = 5)
    (hv : Value.okWide P w r b0 t v) (h : DataW.Trod enc P w base spare held t v d p) :
    ∃ (v0 v1 v2 v3 v4 : Value) (y0 y1 y2 y3 y4 : DataW H × List MemPlace) (n : Nat), v = .agg #[v0, v1, v2, v3, v4] ∧ d = .agg [y0.1, y1.1, y2.1, y3.1, y4.1] ∧
      DataW.trod enc P w base spare held n f0.type [v0] = some y0 ∧ DataW.trod enc P w base spare held n f1.type [v1] = some y1 ∧ DataW.trod enc P w base spare held n f2.type [v2] = some y2 ∧ DataW.trod enc P w base spare held n f3.type [v3] = some y3 ∧ DataW.trod enc P w base spare held n f4.type [v4] = some y4 := by
  obtain ⟨cs, rfl, hsz⟩ := okWide_struct hs hv
  obtain ⟨l⟩ := cs
  match l, hsz.trans hC with
  | [c0, c1, c2, c3, c4], _ =>
    obtain ⟨fuel, hf⟩ := h
    obtain ⟨xs, n, _, hx, _, hlen, hg⟩ := DataW.trod_struct hs hf
    obtain ⟨o0, k0⟩ := hone_of hone 0 f0 rfl
    obtain ⟨o1, k1⟩ := hone_of hone 1 f1 rfl
    obtain ⟨o2, k2⟩ := hone_of hone 2 f2 rfl
    obtain ⟨o3, k3⟩ := hone_of hone 3 f3 rfl
    obtain ⟨o4, k4⟩ := hone_of hone 4 f4 rfl
    match xs, hlen with
    | [y0, y1, y2, y3, y4], _ =>
      simp only [Prod.mk.injEq] at hx
      exact ⟨c0, c1, c2, c3, c4, y0, y1, y2, y3, y4, n, rfl, by simpa using hx.1, by simpa [Value.cells, o0, k0] using hg 0 f0 rfl, by simpa [Value.cells, o1, k1] using hg 1 f1 rfl, by simpa [Value.cells, o2, k2] using hg 2 f2 rfl, by simpa [Value.cells, o3, k3] using hg 3 f3 rfl, by simpa [Value.cells, o4, k4] using hg 4 f4 rfl⟩
theorem open_agg2' {P : Program} {spare : Nat → Bool} {t : TypeId} {f0 f1 : Field} {p : List MemPlace} (hs : P.underlying t = some (.struct #[f0, f1])) (hone : oneCellFields P #[f0, f1] = true) (hC : P.cellsOf t = 2)
    (hv : Value.okWide P w r b0 t v) (h : DataW.Trod enc P w base spare held t v d p) :
    ∃ (v0 v1 : Value) (y0 y1 : DataW H × List MemPlace) (n : Nat), v = .agg #[v0, v1] ∧ d = .agg [y0.1, y1.1] ∧
      DataW.trod enc P w base spare held n f0.type [v0] = some y0 ∧ DataW.trod enc P w base spare held n f1.type [v1] = some y1 := by
  obtain ⟨cs, rfl, hsz⟩ := okWide_struct hs hv
  obtain ⟨l⟩ := cs
  match l, hsz.trans hC with
  | [c0, c1], _ =>
    obtain ⟨fuel, hf⟩ := h
    obtain ⟨xs, n, _, hx, _, hlen, hg⟩ := DataW.trod_struct hs hf
    obtain ⟨o0, k0⟩ := hone_of hone 0 f0 rfl
    obtain ⟨o1, k1⟩ := hone_of hone 1 f1 rfl
    match xs, hlen with
    | [y0, y1], _ =>
      simp only [Prod.mk.injEq] at hx
      exact ⟨c0, c1, y0, y1, n, rfl, by simpa using hx.1, by simpa [Value.cells, o0, k0] using hg 0 f0 rfl, by simpa [Value.cells, o1, k1] using hg 1 f1 rfl⟩
theorem c1_42 : Tryz.prog.cellsOf 42 = 2 := by kernel_rfl
theorem c1_2 : Tryz.prog.cellsOf 2 = 1 := by kernel_rfl
theorem c1_9 : Tryz.prog.cellsOf 9 = 1 := by kernel_rfl
theorem op_string {m : Nat} {u : Value} {x : DataW H × List MemPlace} (h : DataW.trod enc Tryz.prog w base (fun _ => true) held m 9 [u] = some x) (hsz : ∀ n ∈ x.1.weights Tryz.prog 9, n ≤ reachBytes) : ∃ s : ByteArray, u = .string s ∧ s.size ≤ 140737488355328 := by
  obtain ⟨s, e, hx, _⟩ := DataW.trod_string Tryz.underlying9 h
  simp only [List.cons.injEq, and_true] at e
  refine ⟨s, e, ?_⟩
  rw [hx] at hsz
  have := hsz s.data.toList.length (by simp [DataW.weights])
  have h2 : s.data.toList.length = s.size := by rw [Array.length_toList]; rfl
  rw [h2] at this
  simp only [reachBytes] at this
  omega
set_option maxRecDepth 100000 in
theorem one_lp {m : Nat} {cs : List Value} {x : DataW H × List MemPlace} (h : DataW.trod enc Tryz.prog w base (fun _ => true) held m 42 cs = some x) (hlen : cs.length = 2) (hsz : ∀ n ∈ x.1.weights Tryz.prog 42, n ≤ reachBytes) :
    ∃ o : LpV, cs = [.string o.1, .int .i64 o.2] ∧ o.1.size ≤ 140737488355328 := by
  match cs, hlen with
  | [u0, u1], _ =>
    obtain ⟨xs, m2, _, hx, _, hl2, hel⟩ := DataW.trod_struct Tryz.underlying42 h
    have g0 : DataW.trod enc Tryz.prog w base (fun _ => true) held m2 9 (List.take (Tryz.prog.cellsOf 9) (List.drop 0 [u0, u1])) = xs[0]? := hel 0 _ rfl
    have g1 : DataW.trod enc Tryz.prog w base (fun _ => true) held m2 2 (List.take (Tryz.prog.cellsOf 2) (List.drop (Tryz.prog.cellsOf 9) [u0, u1])) = xs[1]? := hel 1 _ rfl
    rw [c1_9] at g0 g1
    rw [c1_2] at g1
    simp only [List.drop, List.take] at g0 g1
    match xs, hl2 with
    | [y0, y1], _ =>
      have hx1 : x.1 = .agg [y0.1, y1.1] := by rw [hx]; rfl
      rw [hx1] at hsz
      obtain ⟨s, e0, hs⟩ := op_string g0 (fun n hn => hsz n (by
        have := DataW.weights_mem_each (P := Tryz.prog) (ts := [9, 2]) (ds := [y0.1, y1.1]) (j := 0) (t := 9) rfl rfl n hn
        simpa [DataW.weights, Tryz.underlying42] using this))
      obtain ⟨z1, e1, _⟩ := DataW.trod_int Tryz.underlying2 g1
      simp only [List.cons.injEq, and_true] at e1
      exact ⟨(s, z1), by rw [e0, e1], hs⟩
/-- A slice of parts, opened. -/
theorem open_lps {m : Nat} {u : Value} {x : DataW H × List MemPlace} (h : DataW.trod enc Tryz.prog w base (fun _ => true) held m 37 [u] = some x) (hsz : ∀ n ∈ x.1.weights Tryz.prog 37, n ≤ reachBytes) :
    ∃ (a : Option Addr) (L : List LpV) (c : Nat), u = .slice a L.length c ∧ LpsR w a L ∧ L.length ≤ 140737488355328 ∧ L.length ≤ c ∧ (a = none → c = 0) ∧ ∀ t ∈ L, t.1.size ≤ 140737488355328 := by
  rcases open_slice Tryz.underlying37 h with ⟨hcs, _⟩ | ⟨y, l, c, k, m2, D, Pl, hcs, _, hl, hm, hk, rfl, hi⟩
  · simp only [List.cons.injEq, and_true] at hcs
    subst hcs
    exact ⟨none, [], 0, rfl, fun k o ho => by simp at ho, Nat.zero_le _, Nat.le_refl _, fun _ => rfl, fun o ho => by simp at ho⟩
  · simp only [List.cons.injEq, and_true] at hcs
    subst hcs
    have hkl : l ≤ k := by rw [hk]; split <;> omega
    obtain ⟨sl, sd⟩ := slice_sz Tryz.underlying37 (of_decide_eq_true (by kernel_rfl)) hsz
    obtain ⟨L, hL, hp⟩ := list_of (p := fun i (t : LpV) => (∀ j v, [Value.string t.1, .int .i64 t.2][j]? = some v → w.cell? ((y.add (i * 2)).add j) = some v) ∧ t.1.size ≤ 140737488355328) l (fun i him => by
      obtain ⟨cs', hc, ht⟩ := hi i (by omega)
      rw [c1_42] at hc
      obtain ⟨_, hcl, hat⟩ := World.cells?_some hc
      obtain ⟨t, ho, hrn⟩ := one_lp ht hcl (sd i him)
      refine ⟨t, fun j v hj => ?_, hrn⟩
      have hj7 : j < 2 := by have := (List.getElem?_eq_some_iff.1 hj).1; simpa using this
      rw [hat j hj7, ho]; exact hj)
    refine ⟨some y, L, c, by rw [hL], fun i t ho => ?_, by omega, by omega, (fun e => by cases e), fun t ho => ?_⟩
    · obtain ⟨b, off, spot⟩ := y
      obtain ⟨h0, _⟩ := hp i t ho
      have hil : i < L.length := (List.getElem?_eq_some_iff.1 ho).1
      obtain ⟨z0, _⟩ := hp 0 L[0] (List.getElem?_eq_getElem (by omega))
      have hspot : spot = none := by simpa [Addr.add] using World.cell?_spot (z0 0 _ rfl)
      subst hspot
      have q : ∀ j v, [Value.string t.1, .int .i64 t.2][j]? = some v → w.cell? ⟨b, off + i * 2 + j, none⟩ = some v := fun j v hj => by
        have := h0 j v hj
        rwa [addr_add, addr_add] at this
      exact ⟨b, off, rfl, q 0 _ rfl, q 1 _ rfl⟩
    · obtain ⟨i, hi'⟩ := List.mem_iff_getElem?.1 ho
      exact (hp i t hi').2
set_option maxRecDepth 100000 in
/-- A manifest that came in, by value. -/
theorem open_man (hval : Value.okWide Tryz.prog w r b0 39 v) (hd : DataW.Trod enc Tryz.prog w base (fun _ => true) held 39 v d ps) (hsz : ∀ n ∈ d.weights Tryz.prog 39, n ≤ reachBytes) :
    ∃ (g e f : Int) (nm : ByteArray) (a : Option Addr) (xs : List LpV) (c : Nat), v = .agg #[.int .i64 g, .string nm, .int .i64 e, .int .i64 f, .slice a xs.length c] ∧ nm.size ≤ 140737488355328 ∧ xs.length ≤ 140737488355328 ∧ xs.length ≤ c ∧ LpsR w a xs ∧ (a = none → c = 0) ∧ ∀ t ∈ xs, t.1.size ≤ 140737488355328 := by
  obtain ⟨v0, v1, v2, v3, v4, y0, y1, y2, y3, y4, n, rfl, rfl, h0, h1, h2, h3, h4⟩ := open_agg5' Tryz.underlying39 (by kernel_rfl) (by kernel_rfl) hval hd
  have all : ∀ (j : Nat) (t : TypeId) (dd : DataW H), [2, 9, 2, 2, 37][j]? = some t → [y0.1, y1.1, y2.1, y3.1, y4.1][j]? = some dd → ∀ n ∈ dd.weights Tryz.prog t, n ≤ reachBytes := fun j t dd hj hdj n hn => hsz n (by
    have := DataW.weights_mem_each (P := Tryz.prog) (ts := [2, 9, 2, 2, 37]) (ds := [y0.1, y1.1, y2.1, y3.1, y4.1]) (j := j) (t := t) hj hdj n hn
    simpa [DataW.weights, Tryz.underlying39] using this)
  obtain ⟨x0, e0, _⟩ := DataW.trod_int Tryz.underlying2 h0
  obtain ⟨s, rfl, hs⟩ := op_string h1 (all 1 9 _ rfl rfl)
  obtain ⟨x2, e2, _⟩ := DataW.trod_int Tryz.underlying2 h2
  obtain ⟨x3, e3, _⟩ := DataW.trod_int Tryz.underlying2 h3
  obtain ⟨a, L, c, rfl, l1, l2, l3, l5, l4⟩ := open_lps h4 (all 4 37 _ rfl rfl)
  simp only [List.cons.injEq, and_true] at e0 e2 e3
  subst e0 e2 e3
  exact ⟨x0, x2, x3, s, a, L, c, rfl, hs, l2, l3, l1, l5, l4⟩
/-- A slice of texts, opened. -/
theorem open_strs {m : Nat} {u : Value} {x : DataW H × List MemPlace} (h : DataW.trod enc Tryz.prog w base (fun _ => true) held m 40 [u] = some x) (hsz : ∀ n ∈ x.1.weights Tryz.prog 40, n ≤ reachBytes) :
    ∃ (a : Option Addr) (L : List ByteArray) (c : Nat), u = .slice a L.length c ∧ StrR w a L ∧ L.length ≤ 140737488355328 := by
  rcases open_slice Tryz.underlying40 h with ⟨hcs, _⟩ | ⟨y, l, c, k, m2, D, Pl, hcs, _, hl, hm, hk, rfl, hi⟩
  · simp only [List.cons.injEq, and_true] at hcs
    subst hcs
    exact ⟨none, [], 0, rfl, fun k o ho => by simp at ho, Nat.zero_le _⟩
  · simp only [List.cons.injEq, and_true] at hcs
    subst hcs
    have hkl : l ≤ k := by rw [hk]; split <;> omega
    obtain ⟨sl, sd⟩ := slice_sz Tryz.underlying40 (of_decide_eq_true (by kernel_rfl)) hsz
    obtain ⟨L, hL, hp⟩ := list_of (p := fun i (t : ByteArray) => w.cell? (y.add i) = some (.string t)) l (fun i him => by
      obtain ⟨cs', hc, ht⟩ := hi i (by omega)
      rw [c1_9] at hc
      obtain ⟨_, hcl, hat⟩ := World.cells?_some hc
      match cs', hcl with
      | [u0], _ =>
        obtain ⟨t, ho, _⟩ := op_string ht (sd i him)
        refine ⟨t, ?_⟩
        have := hat 0 (by omega)
        rw [Nat.mul_one] at this
        subst ho
        simpa [Addr.add] using this)
    refine ⟨some y, L, c, by rw [hL], fun i t ho => ?_, by omega⟩
    obtain ⟨b, off, spot⟩ := y
    have h0 := hp i t ho
    have hil : i < L.length := (List.getElem?_eq_some_iff.1 ho).1
    have z0 := hp 0 L[0] (List.getElem?_eq_getElem (by omega))
    have hspot : spot = none := by simpa [Addr.add] using World.cell?_spot z0
    subst hspot
    rw [addr_add] at h0
    exact ⟨b, off, rfl, h0⟩
end
end Go.Proofs.YtglkndoghnblcaaGreatDoor
