/- Part of the proof that ModelDoes holds for every input: tables, under any transactions, answer, write and stand as the document says. -/
import Derived.Test.YthmofoldmdafoaaGreatSdK
set_option linter.unusedVariables false
set_option linter.unusedSimpArgs false
set_option maxRecDepth 100000
set_option maxHeartbeats 4000000
namespace Go.Proofs.YthmofoldmdafoaaGreat
open Go.ChangeShapes Go.WideShapes Go.ChangeAt Go.RowKit
open Go.Lib (hid)
open Go.Proofs.Tryz
section
open Go.Deep Go.Joins
theorem IsRow.byt {w : World} {a : Option Addr} {len cap : Nat} {zs : List Int} (h : IsRow .u8 w a len cap zs) : Byt (zs.take len) := by
 rcases h with ⟨_, rfl, _, rfl⟩ | ⟨y, rfl, hlc, _, hz, hcell, hw⟩
 ·intro x hx; simp at hx
 ·intro x hx
  have := hw x (List.mem_of_mem_take hx)
  simpa [Lit.wf, IntKind.min, IntKind.max, IntKind.signed, IntKind.bits] using this
section
variable {H : Type} {enc : TypeId × Value -> H} {w : World} {base : Nat} {held : Bool} {d : DataW H} {ps : List MemPlace}
theorem open_row {a : Option Addr} {len cap : Nat} (hd : DataW.Trod enc prog w base (fun _ => true) held 50 (.slice a len cap) d ps) :
  ∃ R : List P1, R.length = len /\ RdR w a R /\ ∀ p ∈ R, Byt p.bs := by
 obtain ⟨fuel, hf⟩ := hd
 rcases Deep.open_int_rows underlying50 underlying42 underlying5 Xt3 Xt3 hf with ⟨hcs, _⟩ | ⟨x, l, c, A, L, C, Z, hcs, hb, hl, hm, hx, hr⟩
 ·simp [Value.cells] at hcs
  obtain ⟨rfl, rfl, rfl⟩ := hcs
  exact ⟨[], rfl, RdR.nil _ _, fun p hp => by simp at hp⟩
 ·simp [Value.cells] at hcs
  obtain ⟨rfl, rfl, rfl⟩ := hcs
  refine ⟨(List.range len).map fun r => ⟨A r, C r, (Z r).take (L r)⟩, by simp, fun k p hp => ?_, fun p hp => ?_⟩
  ·have hk : k < len := by have := (List.getElem?_eq_some_iff.1 hp).1; simpa using this
   have hp' : p = ⟨A k, C k, (Z k).take (L k)⟩ := by
    simp [hk] at hp
    exact hp.symm
   subst hp'
   obtain ⟨hc, hLC, hCm, hZ, hwf, hnone, hsome⟩ := hr k Xt0
   obtain ⟨b, off, spot⟩ := x
   obtain ⟨hc0, _⟩ := hr 0 Xt0
   have hspot : spot = none := by simpa [Addr.add] using World.cell?_spot hc0
   subst hspot
   rw [zF_] at hc
   have hlen : ((Z k).take (L k)).length = L k := by rw [List.length_take, hZ]; omega
   refine ⟨b, off, rfl, ?_, ⟨fun j hj => ?_, fun e => ?_, by simp only; rw [hlen]; exact hLC⟩⟩
   ·rw [hc, P1.v, hlen]
   ·simp only at hj ⊢
    rw [hlen] at hj
    cases hA : A k with
    | none => have := hnone hA; omega
    | some a' =>
     obtain ⟨_, hcell⟩ := hsome a' hA
     obtain ⟨b2, o2, spot2⟩ := a'
     have hc2 := hcell 0 Xt0
     have hspot2 : spot2 = none := by simpa [Addr.add] using World.cell?_spot hc2
     subst hspot2
     refine ⟨b2, o2, rfl, ?_⟩
     have := hcell j Xt0
     rw [zF_] at this
     rw [this]
     simp [List.getD, List.getElem?_take, hj]
   ·simp only at e ⊢
    have := hnone e
    exact ⟨List.length_eq_zero_iff.1 (by rw [hlen]; omega), this⟩
  ·obtain ⟨r, hr2, rfl⟩ := List.mem_map.1 hp
   have hrl : r < len := by simpa using hr2
   obtain ⟨_, _, _, _, hwf, _⟩ := hr r Xt0
   intro y hy
   have := hwf y (List.mem_of_mem_take hy)
   simpa [Lit.wf, IntKind.min, IntKind.max, IntKind.signed, IntKind.bits] using this
end
theorem list_of {α : Type} {p : Nat -> α -> Prop} : ∀ m, (∀ i, i < m -> ∃ x, p i x) -> ∃ L : List α, L.length = m /\ ∀ i x, L[i]? = some x -> p i x
 | 0, _ => ⟨[], rfl, fun i x h => by simp at h⟩
 | m + 1, h => by
  obtain ⟨L, hl, hp⟩ := list_of m fun i hi => h i Xt0
  obtain ⟨x, hx⟩ := h m Xt0
  refine ⟨L ++ [x], by simp [hl], fun i y hy => ?_⟩
  by_cases e : i < L.length
  ·rw [List.getElem?_append_left e] at hy
   exact hp i y hy
  ·have hi := (List.getElem?_eq_some_iff.1 hy).1
   simp at hi
   obtain rfl : i = m := by omega
   rw [List.getElem?_append_right Xt0] at hy
   simp [hl] at hy
   rw [← hy]; exact hx
section
variable {H : Type} {enc : TypeId × Value -> H} {w : World} {base : Nat} {held : Bool}
theorem qG_ {P : Program} {e : TypeId} {d : DataW H} {n : Nat} (hn : n ∈ d.weights P e) : ∀ {l : List (DataW H)}, d ∈ l -> n ∈ DataW.weightsAll P e l
 | [], h => by simp at h
 | x :: r, h => by
  simp only [DataW.weightsAll, List.mem_append]
  rcases List.mem_cons.1 h with rfl | h
  ·exact .inl hn
  ·exact .inr (qG_ hn h)
theorem jK_ {t e : TypeId} (ht : prog.underlying t = some (.slice e)) (hb : 1 <= prog.bytesOf e) {len k : Nat} {D : Nat -> DataW H} (hsz : ∀ n ∈ (DataW.slice ((List.range len).map D) ((List.range k).map fun j => D (len + j))).weights prog t, n <= reachBytes) :
  len <= 140737488355328 /\ ∀ i, i < len -> ∀ n ∈ (D i).weights prog e, n <= reachBytes := by
 constructor
 ·have h1 := hsz ((((List.range len).map D).length + ((List.range k).map fun j => D (len + j)).length) * prog.bytesOf e) (by simp only [DataW.weights, ht]; exact List.mem_cons_self ..)
  simp only [List.length_map, List.length_range, reachBytes] at h1
  have : (len + k) * 1 <= (len + k) * prog.bytesOf e := Nat.mul_le_mul_left _ hb
  omega
 ·intro i hi n hn
  refine hsz n ?_
  simp only [DataW.weights, ht, List.mem_cons, List.mem_append]
  exact .inr (.inl (qG_ hn (List.mem_map.2 ⟨i, List.mem_range.2 hi, rfl⟩)))
theorem op_bytes {m : Nat} {u : Value} {x : DataW H × List MemPlace} (h : DataW.trod enc prog w base (fun _ => true) held m 42 [u] = some x) :
  ∃ (a : Option Addr) (L : List Int) (n c : Nat), u = .slice a n c /\ L.length = n /\ Byt L /\ Ls .u8 w a c L := by
 rcases open_ints underlying42 underlying5 Xt3 h with ⟨hcs, _⟩ | ⟨y, l, c, zs, hcs, _, hl, hm, hz, hx, hcell, hwz⟩
 ·simp only [List.cons.injEq, and_true] at hcs
  exact ⟨none, [], 0, 0, hcs, rfl, fun x hx => by simp at hx, Ls.nul _ _⟩
 ·simp only [List.cons.injEq, and_true] at hcs
  have hr : IsRow .u8 w (some y) l c zs := .inr ⟨_, rfl, hl, hm, by simpa using hz, hcell, hwz⟩
  exact ⟨some y, zs.take l, l, c, hcs, hr.ls.2, hr.byt, hr.ls.1⟩
theorem op_row {m : Nat} {u : Value} {x : DataW H × List MemPlace} (h : DataW.trod enc prog w base (fun _ => true) held m 50 [u] = some x) (hsz : ∀ n ∈ x.1.weights prog 50, n <= reachBytes) :
  ∃ (a : Option Addr) (R : List P1) (n c : Nat), u = .slice a n c /\ R.length = n /\ RdR w a R /\ (∀ p ∈ R, Byt p.bs) /\ n <= 140737488355328 := by
 rcases open_slice underlying50 h with ⟨hcs, _⟩ | ⟨y, l, c, k, _, D, Pl, hcs, _, hl, hm, _, rfl, _⟩
 ·simp only [List.cons.injEq, and_true] at hcs
  subst hcs
  obtain ⟨R, h1, h2, h3⟩ := open_row (d := x.1) (ps := x.2) ⟨m, by simpa [Value.cells] using h⟩
  exact ⟨none, R, 0, 0, rfl, h1, h2, h3, Nat.zero_le _⟩
 ·simp only [List.cons.injEq, and_true] at hcs
  subst hcs
  obtain ⟨R, h1, h2, h3⟩ := open_row ⟨m, by simpa [Value.cells] using h⟩
  exact ⟨some y, R, l, c, rfl, h1, h2, h3, (jK_ underlying50 (of_decide_eq_true Xt3) hsz).1⟩
theorem c1_74 : prog.cellsOf 74 = 7 := by kernel_rfl
theorem c1_38 : prog.cellsOf 38 = 3 := by kernel_rfl
theorem c1_36 : prog.cellsOf 36 = 1 := by kernel_rfl
theorem c1_72 : prog.cellsOf 72 = 1 := by kernel_rfl
theorem c1_42 : prog.cellsOf 42 = 1 := by kernel_rfl
theorem c1_50 : prog.cellsOf 50 = 1 := by kernel_rfl
theorem c1_3 : prog.cellsOf 3 = 1 := by kernel_rfl
theorem c1_4 : prog.cellsOf 4 = 1 := by kernel_rfl
theorem one_op {m : Nat} {cs : List Value} {x : DataW H × List MemPlace} (h : DataW.trod enc prog w base (fun _ => true) held m 74 cs = some x) (hlen : cs.length = 7) (hsz : ∀ n ∈ x.1.weights prog 74, n <= reachBytes) :
  ∃ o : zj_, cs = [.int .i64 o.k, .int .i64 o.t, .int .i64 o.i, .slice o.ka o.kn o.kc, .slice o.ta o.tn o.tc, .int .i64 o.m, .slice o.ra o.rn o.rc] /\ zy_ w o /\ o.rn <= 140737488355328 := by
 match cs, hlen with
 | [u0, u1, u2, u3, u4, u5, u6], _ =>
  obtain ⟨xs, m2, _, hx, _, hl2, hel⟩ := DataW.trod_struct underlying74 h
  have g0 : DataW.trod enc prog w base (fun _ => true) held m2 72 (List.take (prog.cellsOf 72) (List.drop 0 [u0, u1, u2, u3, u4, u5, u6])) = xs[0]? := hel 0 _ rfl
  have g1 : DataW.trod enc prog w base (fun _ => true) held m2 3 (List.take (prog.cellsOf 3) (List.drop 1 [u0, u1, u2, u3, u4, u5, u6])) = xs[1]? := hel 1 _ rfl
  have g2 : DataW.trod enc prog w base (fun _ => true) held m2 3 (List.take (prog.cellsOf 3) (List.drop 2 [u0, u1, u2, u3, u4, u5, u6])) = xs[2]? := hel 2 _ rfl
  have g3 : DataW.trod enc prog w base (fun _ => true) held m2 42 (List.take (prog.cellsOf 42) (List.drop 3 [u0, u1, u2, u3, u4, u5, u6])) = xs[3]? := hel 3 _ rfl
  have g4 : DataW.trod enc prog w base (fun _ => true) held m2 42 (List.take (prog.cellsOf 42) (List.drop 4 [u0, u1, u2, u3, u4, u5, u6])) = xs[4]? := hel 4 _ rfl
  have g5 : DataW.trod enc prog w base (fun _ => true) held m2 3 (List.take (prog.cellsOf 3) (List.drop 5 [u0, u1, u2, u3, u4, u5, u6])) = xs[5]? := hel 5 _ rfl
  have g6 : DataW.trod enc prog w base (fun _ => true) held m2 50 (List.take (prog.cellsOf 50) (List.drop 6 [u0, u1, u2, u3, u4, u5, u6])) = xs[6]? := hel 6 _ rfl
  rw [c1_72] at g0
  rw [c1_3] at g1 g2 g5
  rw [c1_42] at g3 g4
  rw [c1_50] at g6
  simp only [List.drop, List.take] at g0 g1 g2 g3 g4 g5 g6
  match xs, hl2 with
  | [y0, y1, y2, y3, y4, y5, y6], _ =>
   have hx1 : x.1 = .agg [y0.1, y1.1, y2.1, y3.1, y4.1, y5.1, y6.1] := by rw [hx]; rfl
   rw [hx1] at hsz
   obtain ⟨z0, e0, _⟩ := DataW.trod_int underlying72 g0
   obtain ⟨z1, e1, _⟩ := DataW.trod_int underlying3 g1
   obtain ⟨z2, e2, _⟩ := DataW.trod_int underlying3 g2
   obtain ⟨z5, e5, _⟩ := DataW.trod_int underlying3 g5
   obtain ⟨a3, L3, n3, c3, e3, l3, b3, s3⟩ := op_bytes g3
   obtain ⟨a4, L4, n4, c4, e4, l4, b4, s4⟩ := op_bytes g4
   obtain ⟨a6, R6, n6, c6, e6, l6, r6, b6, k6⟩ := op_row g6 (fun n hn => hsz n (by
    have := DataW.weights_mem_each (P := prog) (ts := [72, 3, 3, 42, 42, 3, 50]) (ds := [y0.1, y1.1, y2.1, y3.1, y4.1, y5.1, y6.1]) (j := 6) (t := 50) rfl rfl n hn
    simpa [DataW.weights, underlying74] using this))
   simp only [List.cons.injEq, and_true] at e0 e1 e2 e5
   exact ⟨⟨z0, z1, z2, a3, n3, c3, L3, a4, n4, c4, L4, z5, a6, n6, c6, R6⟩, by rw [e0, e1, e2, e3, e4, e5, e6], ⟨s3, l3, b3, s4, l4, b4, r6, l6, b6⟩, k6⟩
theorem open_ops {m : Nat} {u : Value} {x : DataW H × List MemPlace} (h : DataW.trod enc prog w base (fun _ => true) held m 36 [u] = some x) (hsz : ∀ n ∈ x.1.weights prog 36, n <= reachBytes) :
  ∃ (a : Option Addr) (L : List zj_) (n c : Nat), u = .slice a n c /\ L.length = n /\ OpsR w a L /\ n <= 140737488355328 /\ ∀ o ∈ L, o.rn <= 140737488355328 := by
 rcases open_slice underlying36 h with ⟨hcs, _⟩ | ⟨y, l, c, k, m2, D, Pl, hcs, _, hl, hm, hk, rfl, hi⟩
 ·exact Xb71
 ·simp only [List.cons.injEq, and_true] at hcs
  subst hcs
  have hkl : l <= k := by rw [hk]; split <;> omega
  obtain ⟨sl, sd⟩ := jK_ underlying36 (of_decide_eq_true Xt3) hsz
  obtain ⟨L, hL, hp⟩ := list_of (p := fun i (o : zj_) => (∀ j v, [Value.int .i64 o.k, .int .i64 o.t, .int .i64 o.i, .slice o.ka o.kn o.kc, .slice o.ta o.tn o.tc, .int .i64 o.m, .slice o.ra o.rn o.rc][j]? = some v -> w.cell? ((y.add (i * 7)).add j) = some v) /\ zy_ w o /\ o.rn <= 140737488355328) l (fun i him => by
   obtain ⟨cs', hc, ht⟩ := hi i Xt0
   rw [c1_74] at hc
   obtain ⟨_, hcl, hat⟩ := World.cells?_some hc
   obtain ⟨o, ho, hca, hrn⟩ := one_op ht hcl (sd i him)
   refine ⟨o, fun j v hj => ?_, hca, hrn⟩
   have hj7 : j < 7 := by have := (List.getElem?_eq_some_iff.1 hj).1; simpa using this
   rw [hat j hj7, ho]; exact hj)
  refine ⟨some y, L, l, c, rfl, hL, fun i o ho => ?_, sl, fun o ho => ?_⟩
  ·obtain ⟨b, off, spot⟩ := y
   obtain ⟨h0, hca, _⟩ := hp i o ho
   have hil : i < L.length := (List.getElem?_eq_some_iff.1 ho).1
   obtain ⟨z0, _, _⟩ := hp 0 L[0] (List.getElem?_eq_getElem Xt0)
   have hspot : spot = none := by simpa [Addr.add] using World.cell?_spot (z0 0 _ rfl)
   subst hspot
   have q : ∀ j v, [Value.int .i64 o.k, .int .i64 o.t, .int .i64 o.i, .slice o.ka o.kn o.kc, .slice o.ta o.tn o.tc, .int .i64 o.m, .slice o.ra o.rn o.rc][j]? = some v -> w.cell? ⟨b, off + i * 7 + j, none⟩ = some v := fun j v hj => by
    have := h0 j v hj
    rwa [zF_, zF_] at this
   exact ⟨b, off, rfl, ⟨q 0 _ rfl, q 1 _ rfl, q 2 _ rfl, q 3 _ rfl, q 4 _ rfl, q 5 _ rfl, q 6 _ rfl⟩, hca⟩
  ·obtain ⟨i, hi'⟩ := List.mem_iff_getElem?.1 ho
   exact (hp i o hi').2.2
theorem one_tx {m : Nat} {cs : List Value} {x : DataW H × List MemPlace} (h : DataW.trod enc prog w base (fun _ => true) held m 38 cs = some x) (hlen : cs.length = 3) (hsz : ∀ n ∈ x.1.weights prog 38, n <= reachBytes) :
  ∃ t : z0_, cs = [.slice t.oa t.on t.oc, .bool t.sn, .bool t.ab] /\ zR_ w t /\ TxG t := by
 match cs, hlen with
 | [u0, u1, u2], _ =>
  obtain ⟨xs, m2, _, hx, _, hl2, hel⟩ := DataW.trod_struct underlying38 h
  have g0 : DataW.trod enc prog w base (fun _ => true) held m2 36 (List.take (prog.cellsOf 36) (List.drop 0 [u0, u1, u2])) = xs[0]? := hel 0 _ rfl
  have g1 : DataW.trod enc prog w base (fun _ => true) held m2 4 (List.take (prog.cellsOf 4) (List.drop 1 [u0, u1, u2])) = xs[1]? := hel 1 _ rfl
  have g2 : DataW.trod enc prog w base (fun _ => true) held m2 4 (List.take (prog.cellsOf 4) (List.drop 2 [u0, u1, u2])) = xs[2]? := hel 2 _ rfl
  rw [c1_36] at g0
  rw [c1_4] at g1 g2
  simp only [List.drop, List.take] at g0 g1 g2
  match xs, hl2 with
  | [y0, y1, y2], _ =>
   have hx1 : x.1 = .agg [y0.1, y1.1, y2.1] := by rw [hx]; rfl
   rw [hx1] at hsz
   obtain ⟨a, L, n, c, e0, l0, r0, k0, o0⟩ := open_ops g0 (fun n hn => hsz n (by
    have := DataW.weights_mem_each (P := prog) (ts := [36, 4, 4]) (ds := [y0.1, y1.1, y2.1]) (j := 0) (t := 36) rfl rfl n hn
    simpa [DataW.weights, underlying38] using this))
   obtain ⟨z1, e1, _⟩ := DataW.trod_bool underlying4 g1
   obtain ⟨z2, e2, _⟩ := DataW.trod_bool underlying4 g2
   simp only [List.cons.injEq, and_true] at e1 e2
   exact ⟨⟨a, n, c, L, z1, z2⟩, by rw [e0, e1, e2], ⟨r0, l0⟩, ⟨k0, o0⟩⟩
theorem open_txs {m : Nat} {u : Value} {x : DataW H × List MemPlace} (h : DataW.trod enc prog w base (fun _ => true) held m 25 [u] = some x) (hsz : ∀ n ∈ x.1.weights prog 25, n <= reachBytes) :
  ∃ (a : Option Addr) (L : List z0_) (n c : Nat), u = .slice a n c /\ L.length = n /\ TxsR w a L /\ n <= 140737488355328 /\ ∀ t ∈ L, TxG t := by
 rcases open_slice underlying25 h with ⟨hcs, _⟩ | ⟨y, l, c, k, m2, D, Pl, hcs, _, hl, hm, hk, rfl, hi⟩
 ·exact Xb71
 ·simp only [List.cons.injEq, and_true] at hcs
  subst hcs
  have hkl : l <= k := by rw [hk]; split <;> omega
  obtain ⟨sl, sd⟩ := jK_ underlying25 (of_decide_eq_true Xt3) hsz
  obtain ⟨L, hL, hp⟩ := list_of (p := fun i (t : z0_) => (∀ j v, [Value.slice t.oa t.on t.oc, .bool t.sn, .bool t.ab][j]? = some v -> w.cell? ((y.add (i * 3)).add j) = some v) /\ zR_ w t /\ TxG t) l (fun i him => by
   obtain ⟨cs', hc, ht⟩ := hi i Xt0
   rw [c1_38] at hc
   obtain ⟨_, hcl, hat⟩ := World.cells?_some hc
   obtain ⟨t, ho, hca, hrn⟩ := one_tx ht hcl (sd i him)
   refine ⟨t, fun j v hj => ?_, hca, hrn⟩
   have hj7 : j < 3 := by have := (List.getElem?_eq_some_iff.1 hj).1; simpa using this
   rw [hat j hj7, ho]; exact hj)
  refine ⟨some y, L, l, c, rfl, hL, fun i t ho => ?_, sl, fun t ho => ?_⟩
  ·obtain ⟨b, off, spot⟩ := y
   obtain ⟨h0, hca, _⟩ := hp i t ho
   have hil : i < L.length := (List.getElem?_eq_some_iff.1 ho).1
   obtain ⟨z0, _, _⟩ := hp 0 L[0] (List.getElem?_eq_getElem Xt0)
   have hspot : spot = none := by simpa [Addr.add] using World.cell?_spot (z0 0 _ rfl)
   subst hspot
   have q : ∀ j v, [Value.slice t.oa t.on t.oc, .bool t.sn, .bool t.ab][j]? = some v -> w.cell? ⟨b, off + i * 3 + j, none⟩ = some v := fun j v hj => by
    have := h0 j v hj
    rwa [zF_, zF_] at this
   exact ⟨b, off, rfl, ⟨q 0 _ rfl, q 1 _ rfl, q 2 _ rfl⟩, hca⟩
  ·obtain ⟨i, hi'⟩ := List.mem_iff_getElem?.1 ho
   exact (hp i t hi').2.2
end
section
variable {H : Type} {enc : TypeId × Value -> H} {P : Program} {w : World} {base : Nat} {spare : Nat -> Bool} {held : Bool}
theorem open_agg7 {r : Reach} {b0 : Nat} {t : TypeId} {f0 f1 f2 f3 f4 f5 f6 : Field} {v : Value} {d : DataW H} {p : List MemPlace} (hs : P.underlying t = some (.struct #[f0, f1, f2, f3, f4, f5, f6])) (hone : oneCellFields P #[f0, f1, f2, f3, f4, f5, f6] = true) (hC : P.cellsOf t = 7)
  (hv : Value.okWide P w r b0 t v) (h : DataW.Trod enc P w base spare held t v d p) :
  ∃ (v0 v1 v2 v3 v4 v5 v6 : Value) (y0 y1 y2 y3 y4 y5 y6 : DataW H × List MemPlace) (n : Nat), v = .agg #[v0, v1, v2, v3, v4, v5, v6] /\ d = .agg [y0.1, y1.1, y2.1, y3.1, y4.1, y5.1, y6.1] /\ p = y0.2 ++ (y1.2 ++ (y2.2 ++ (y3.2 ++ (y4.2 ++ (y5.2 ++ (y6.2)))))) /\
   DataW.trod enc P w base spare held n f0.type [v0] = some y0 /\ DataW.trod enc P w base spare held n f1.type [v1] = some y1 /\ DataW.trod enc P w base spare held n f2.type [v2] = some y2 /\ DataW.trod enc P w base spare held n f3.type [v3] = some y3 /\ DataW.trod enc P w base spare held n f4.type [v4] = some y4 /\ DataW.trod enc P w base spare held n f5.type [v5] = some y5 /\ DataW.trod enc P w base spare held n f6.type [v6] = some y6 := by
 obtain ⟨cs, rfl, hsz⟩ := okWide_struct hs hv
 obtain ⟨l⟩ := cs
 match l, hsz.trans hC with
 | [c0, c1, c2, c3, c4, c5, c6], _ =>
  obtain ⟨fuel, hf⟩ := h
  obtain ⟨xs, n, _, hx, _, hlen, hg⟩ := DataW.trod_struct hs hf
  obtain ⟨o0, k0⟩ := hone_of hone 0 f0 rfl
  obtain ⟨o1, k1⟩ := hone_of hone 1 f1 rfl
  obtain ⟨o2, k2⟩ := hone_of hone 2 f2 rfl
  obtain ⟨o3, k3⟩ := hone_of hone 3 f3 rfl
  obtain ⟨o4, k4⟩ := hone_of hone 4 f4 rfl
  obtain ⟨o5, k5⟩ := hone_of hone 5 f5 rfl
  obtain ⟨o6, k6⟩ := hone_of hone 6 f6 rfl
  match xs, hlen with
  | [y0, y1, y2, y3, y4, y5, y6], _ =>
   simp only [Prod.mk.injEq] at hx
   exact ⟨c0, c1, c2, c3, c4, c5, c6, y0, y1, y2, y3, y4, y5, y6, n, rfl, by simpa using hx.1, by simpa using hx.2, by simpa [Value.cells, o0, k0] using hg 0 f0 rfl, by simpa [Value.cells, o1, k1] using hg 1 f1 rfl, by simpa [Value.cells, o2, k2] using hg 2 f2 rfl, by simpa [Value.cells, o3, k3] using hg 3 f3 rfl, by simpa [Value.cells, o4, k4] using hg 4 f4 rfl, by simpa [Value.cells, o5, k5] using hg 5 f5 rfl, by simpa [Value.cells, o6, k6] using hg 6 f6 rfl⟩
end
section
variable {H : Type} {enc : TypeId × Value -> H} {w : World} {base b0 : Nat} {held : Bool} {r : Reach} {v : Value} {d : DataW H} {ps : List MemPlace}
theorem open_job (hval : Value.okWide prog w r b0 24 v) (hd : DataW.Trod enc prog w base (fun _ => true) held 24 v d ps) :
  ∃ j : Job, v = .agg #[.int .i64 j.w, .int .i64 j.l, .int .i64 j.d, .int .i64 j.c, .int .i64 j.k, .int .i64 j.e, .slice j.a j.n j.cap] /\ Ls .i64 w j.a j.cap j.T /\ j.T.length = j.n := by
 obtain ⟨v0, v1, v2, v3, v4, v5, v6, y0, y1, y2, y3, y4, y5, y6, n, rfl, _, _, h0, h1, h2, h3, h4, h5, h6⟩ := open_agg7 underlying24 Xt3 Xt3 hval hd
 obtain ⟨x0, e0, _⟩ := DataW.trod_int underlying3 h0
 obtain ⟨x1, e1, _⟩ := DataW.trod_int underlying3 h1
 obtain ⟨x2, e2, _⟩ := DataW.trod_int underlying3 h2
 obtain ⟨x3, e3, _⟩ := DataW.trod_int underlying3 h3
 obtain ⟨x4, e4, _⟩ := DataW.trod_int underlying3 h4
 obtain ⟨x5, e5, _⟩ := DataW.trod_int underlying3 h5
 simp only [List.cons.injEq, and_true] at e0 e1 e2 e3 e4 e5
 subst e0 e1 e2 e3 e4 e5
 rcases open_ints underlying22 underlying3 Xt3 h6 with ⟨hcs, _⟩ | ⟨x, l, c, zs, hcs, _, hl, hm, hz, _, hcell, hwz⟩
 ·simp at hcs
  subst hcs
  exact ⟨⟨x0, x1, x2, x3, x4, x5, none, 0, 0, []⟩, rfl, Ls.nul _ _, rfl⟩
 ·simp at hcs
  subst hcs
  have hr : IsRow .i64 w (some x) l c zs := .inr ⟨_, rfl, hl, hm, by simpa using hz, hcell, hwz⟩
  exact ⟨⟨x0, x1, x2, x3, x4, x5, some x, l, c, zs.take l⟩, rfl, hr.ls.1, hr.ls.2⟩
end
end
end Go.Proofs.YthmofoldmdafoaaGreat
namespace Go.Proofs.YthmofoldmdafoaaGreat.modelDoesP
open Go.Lib (hid)
open Go.Proofs.Tryz
open Go.ChangeShapes Go.WideShapes Go.ChangeAt Go.RowKit
open Go.ChangeMaps (open_string shut_string)
set_option linter.unusedVariables false
set_option linter.unusedSimpArgs false
theorem own : ownKnob prog.godebug = none := by kernel_rfl
theorem laidOut : laidOutB prog = true := by kernel_rfl
theorem lifted (os : Os) (started : os.Started) (H : Type) (enc : TypeId × Value -> H) :
  ReturnsInHanded {} checked os 3 .any (Rows.modelDoesSpec.pre6 enc prog f3 Rows.modelDoesRow.domain false) (Rows.modelDoesSpec.post enc prog f3 false true false false) := by
 refine returnsInHanded_of_change_sized (C := checked) own started Xt3 func3
  (ChangeSpec.witness6 (enc := enc) (C := checked) false ⟨#[], #[.agg #[.int .i64 0, .int .i64 0, .int .i64 0, .int .i64 0, .int .i64 0, .int .i64 0, .slice none 0 0], .slice none 0 0, .int .i64 0], []⟩ 12 Xt3 Xt3 Xt3 Xt3) ?_
 intro W base args ds gs before hval0 hW hcnd hsz0 _
 have hsz : (DataW.weightsEach prog (f3.params.toList ++ Rows.modelDoesSpec.plain.varTypes prog) (ds ++ gs)).all (· <= reachBytes) = true := hsz0
 clear hsz0
 have hval : ∀ (j : Nat) t v, f3.params[j]? = some t -> args[j]? = some v -> Value.okWide prog W .any base t v := hval0
 have hW' := hW
 obtain ⟨p, q, hA0, hV, rfl, hfz, hnd⟩ := hW
 have hA : DataW.TrodAll enc prog W 0 (fun _ => true) true f3.params.toList args.toList ds p := hA0
 rw [params3] at hA hval hsz
 obtain ⟨v0, vs0, d0, ds0, p0, q0, hargs, rfl, rfl, h0, r0⟩ := trodAll_cons hA
 obtain ⟨v1, vs1, d1, ds1, p1, q1, rfl, rfl, rfl, h1, r1⟩ := trodAll_cons r0
 obtain ⟨v2, vs2, d2, ds2, p2, q2, rfl, rfl, rfl, h2, r2⟩ := trodAll_cons r1
 obtain ⟨rfl, rfl, rfl⟩ := trodAll_nil r2
 obtain rfl : args = #[v0, v1, v2] := by cases args; simp_all
 obtain ⟨rfl, rfl⟩ := trodVars_none hV
 have k0 := h0
 have lt0 : ∀ x ∈ p0, x.block < W.heap.size := by obtain ⟨m, hm⟩ := k0; exact DataW.trod_lt m _ _ _ hm
 obtain ⟨J0, rfl, LJ0, NJ0⟩ := open_job (hval 0 24 v0 rfl rfl) h0
 have k1 := h1
 have lt1 : ∀ x ∈ p1, x.block < W.heap.size := by obtain ⟨m, hm⟩ := k1; exact DataW.trod_lt m _ _ _ hm
 have all : ∀ n ∈ DataW.weightsEach prog ([24, 25, 3] ++ Rows.modelDoesSpec.plain.varTypes prog) ([d0, d1, d2] ++ []), n <= reachBytes := fun n hn => by simpa using List.all_eq_true.1 hsz n hn
 obtain ⟨a1, n1, c1, rfl⟩ := okWide_slice underlying25 (hval 1 25 v1 rfl rfl)
 obtain ⟨L1, hL1, hR1, hN1, hG1⟩ : ∃ L : List z0_, L.length = n1 /\ TxsR W a1 L /\ n1 <= 140737488355328 /\ ∀ s ∈ L, TxG s := by
  obtain ⟨fuel, hf⟩ := h1
  obtain ⟨a, L, n, c, e, h1, h2, h3, h4⟩ := open_txs (by simpa [Value.cells] using hf) (fun n hn => all n (DataW.weights_mem_each (j := 1) (t := 25) rfl rfl n hn))
  simp only [Value.slice.injEq] at e
  obtain ⟨rfl, rfl, rfl⟩ := e
  exact ⟨L, h1, h2, h3, h4⟩
 have k2 := h2
 have lt2 : ∀ x ∈ p2, x.block < W.heap.size := by obtain ⟨m, hm⟩ := k2; exact DataW.trod_lt m _ _ _ hm
 obtain ⟨x2, rfl, _, _, g2⟩ := open_int underlying3 (hval 2 3 v2 rfl rfl) h2
 have b2 : -9223372036854775808 <= x2 /\ x2 <= 9223372036854775807 := by simpa [Lit.wf, IntKind.min, IntKind.max, IntKind.signed, IntKind.bits] using g2
 clear hA0 hval0
 refine (does_law J0 a1 L1 n1 c1 hL1 hN1 hG1 x2 W LJ0 NJ0 hR1).mono fun e W' ⟨he, bel⟩ => ?_
 subst he
 exact ⟨_, rfl, _, _, _, [], _, [], hW', trodAll_mk1 (shut_bool underlying4 _), (trodAll_cons_mk (Below.trod laidOut Xt3 (of_decide_eq_true Xt3) k0 bel lt0) (trodAll_cons_mk (Below.trod laidOut Xt3 (of_decide_eq_true Xt3) k1 bel lt1) (trodAll_cons_mk (Below.trod laidOut Xt3 (of_decide_eq_true Xt3) k2 bel lt2) trodAll_mk0))), rfl, bel.frame _, fun h => by cases h⟩
theorem over : Rows.modelDoesRow.holds Tryz.pinned (OpenSpec.ofChange Rows.modelDoesSpec) :=
 OpenClaim.holds_of_wide 3 f3 rfl rfl rfl rfl rfl rfl rfl ⟨rfl, rfl, rfl, rfl, rfl⟩ rfl rfl rfl rfl rfl Xt3 func3 Xt3
  (of_decide_eq_true Xt3) (by unfold Func.isWrapper; first | (rw [if_pos (by decide +kernel)]; kernel_rfl) | (rw [if_neg (by decide +kernel)]; exact ⟨rfl, rfl⟩))
  (fun os started H enc _ => lifted os started H enc)
theorem proved : Rows.ModelDoesSaid := over
#print axioms proved
end Go.Proofs.YthmofoldmdafoaaGreat.modelDoesP
