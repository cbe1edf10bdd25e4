/- Disks: steps that came in: opened to their cells. -/
import Derived.Test.YtbjhcbiihekceaaDh2
import Derived.Deep.Slices
import Derived.Deep.Fields
import Derived.ChangeSame
import Derived.OpenShut
import Derived.ProofKit
import Derived.Deep.Matrix
namespace Go.Proofs.Ytbjhcbiihekceaa
open Go.ChangeShapes Go.WideShapes Go.ChangeAt Go.RowKit Go.Deep
set_option linter.unusedVariables false
set_option linter.unusedSimpArgs false
theorem list_of {α : Type} {p : Nat → α → Prop} : ∀ m, (∀ i, i < m → ∃ x, p i x) → ∃ L : List α, L.length = m ∧ ∀ i x, L[i]? = some x → p i x
  | 0, _ => ⟨[], rfl, fun i x h => by simp at h⟩
  | m + 1, h => by
    obtain ⟨L, hl, hp⟩ := list_of m fun i hi => h i (by omega)
    obtain ⟨x, hx⟩ := h m (by omega)
    refine ⟨L ++ [x], by simp [hl], fun i y hy => ?_⟩
    by_cases e : i < L.length
    · rw [List.getElem?_append_left e] at hy
      exact hp i y hy
    · have hi := (List.getElem?_eq_some_iff.1 hy).1
      simp at hi
      obtain rfl : i = m := by omega
      rw [List.getElem?_append_right (by omega)] at hy
      simp [hl] at hy
      rw [← hy]; exact hx
section
variable {H : Type} {enc : TypeId × Value → H} {w : World} {base : Nat} {held : Bool}
theorem op_bytes {m : Nat} {u : Value} {x : DataW H × List MemPlace} (h : DataW.trod enc Try.prog w base (fun _ => true) held m 34 [u] = some x) :
    ∃ (a : Option Addr) (L : List Int) (n c : Nat), u = .slice a n c ∧ L.length = n ∧ Byt L ∧ Ls .u8 w a c L := by
  rcases open_ints Try.underlying34 Try.underlying5 (by kernel_rfl) h with ⟨hcs, _⟩ | ⟨y, l, c, zs, hcs, _, hl, hm, hz, hx, hcell, hwz⟩
  · simp only [List.cons.injEq, and_true] at hcs
    exact ⟨none, [], 0, 0, hcs, rfl, fun x hx => by simp at hx, Ls.nul _ _⟩
  · simp only [List.cons.injEq, and_true] at hcs
    have hr : IsRow .u8 w (some y) l c zs := .inr ⟨_, rfl, hl, hm, by simpa using hz, hcell, hwz⟩
    exact ⟨some y, zs.take l, l, c, hcs, hr.ls.2, hr.byt, hr.ls.1⟩
theorem c1_37 : Try.prog.cellsOf 37 = 5 := by kernel_rfl
theorem c1_101 : Try.prog.cellsOf 101 = 2 := by kernel_rfl
theorem c1_3 : Try.prog.cellsOf 3 = 1 := by kernel_rfl
theorem c1_9 : Try.prog.cellsOf 9 = 1 := by kernel_rfl
theorem c1_34 : Try.prog.cellsOf 34 = 1 := by kernel_rfl
theorem c1_35 : Try.prog.cellsOf 35 = 1 := by kernel_rfl
set_option maxRecDepth 100000 in
theorem one_kept {m : Nat} {cs : List Value} {x : DataW H × List MemPlace} (h : DataW.trod enc Try.prog w base (fun _ => true) held m 101 cs = some x) (hlen : cs.length = 2) :
    ∃ o : ByteArray × Int, cs = [.string o.1, .int .i64 o.2] ∧ o.1.size ≤ maxLen := by
  match cs, hlen with
  | [u0, u1], _ =>
    obtain ⟨xs, m2, _, hx, _, hl2, hel⟩ := DataW.trod_struct Try.underlying101 h
    have g0 : DataW.trod enc Try.prog w base (fun _ => true) held m2 9 (List.take (Try.prog.cellsOf 9) (List.drop 0 [u0, u1])) = xs[0]? := hel 0 _ rfl
    have g1 : DataW.trod enc Try.prog w base (fun _ => true) held m2 3 (List.take (Try.prog.cellsOf 3) (List.drop 1 [u0, u1])) = xs[1]? := hel 1 _ rfl
    rw [c1_9] at g0
    rw [c1_3] at g1
    simp only [List.drop, List.take] at g0 g1
    match xs, hl2 with
    | [y0, y1], _ =>
      obtain ⟨z0, e0, _, s0⟩ := DataW.trod_string Try.underlying9 g0
      obtain ⟨z1, e1, _⟩ := DataW.trod_int Try.underlying3 g1
      simp only [List.cons.injEq, and_true] at e0 e1
      exact ⟨(z0, z1), by rw [e0, e1], s0⟩
/-- A slice of what is kept, opened. -/
theorem open_kept {m : Nat} {u : Value} {x : DataW H × List MemPlace} (h : DataW.trod enc Try.prog w base (fun _ => true) held m 35 [u] = some x) :
    ∃ (a : Option Addr) (L : List (ByteArray × Int)) (n c : Nat), u = .slice a n c ∧ L.length = n ∧ Kps w a L ∧ ∀ o ∈ L, o.1.size ≤ maxLen := by
  rcases open_slice Try.underlying35 h with ⟨hcs, _⟩ | ⟨y, l, c, k, m2, D, Pl, hcs, _, hl, hm, hk, rfl, hi⟩
  · simp only [List.cons.injEq, and_true] at hcs
    subst hcs
    exact ⟨none, [], 0, 0, rfl, rfl, fun k o ho => by simp at ho, fun o ho => by simp at ho⟩
  · simp only [List.cons.injEq, and_true] at hcs
    subst hcs
    have hkl : l ≤ k := by rw [hk]; split <;> omega
    obtain ⟨L, hL, hp⟩ := list_of (p := fun i (o : ByteArray × Int) => (∀ j v, [Value.string o.1, .int .i64 o.2][j]? = some v → w.cell? ((y.add (i * 2)).add j) = some v) ∧ o.1.size ≤ maxLen) l (fun i him => by
      obtain ⟨cs', hc, ht⟩ := hi i (by omega)
      rw [c1_101] at hc
      obtain ⟨_, hcl, hat⟩ := World.cells?_some hc
      obtain ⟨o, ho, hca⟩ := one_kept ht hcl
      refine ⟨o, fun j v hj => ?_, hca⟩
      have hj7 : j < 2 := by have := (List.getElem?_eq_some_iff.1 hj).1; simpa using this
      rw [hat j hj7, ho]; exact hj)
    refine ⟨some y, L, l, c, rfl, hL, fun i o ho => ?_, fun o ho => ?_⟩
    · obtain ⟨b, off, spot⟩ := y
      obtain ⟨h0, hca⟩ := hp i o ho
      have hil : i < L.length := (List.getElem?_eq_some_iff.1 ho).1
      obtain ⟨z0, _⟩ := hp 0 L[0] (List.getElem?_eq_getElem (by omega))
      have hspot : spot = none := by simpa [Addr.add] using World.cell?_spot (z0 0 _ rfl)
      subst hspot
      have q : ∀ j v, [Value.string o.1, .int .i64 o.2][j]? = some v → w.cell? ⟨b, off + i * 2 + j, none⟩ = some v := fun j v hj => by
        have := h0 j v hj
        rwa [addr_add, addr_add] at this
      exact ⟨b, off, rfl, q 0 _ rfl, q 1 _ rfl⟩
    · obtain ⟨i, hi'⟩ := List.mem_iff_getElem?.1 ho
      exact (hp i o hi').2
set_option maxRecDepth 100000 in
theorem one_step {m : Nat} {cs : List Value} {x : DataW H × List MemPlace} (h : DataW.trod enc Try.prog w base (fun _ => true) held m 37 cs = some x) (hlen : cs.length = 5) :
    ∃ o : StepV, cs = [.int .i64 o.kd, .string o.sA, .string o.sB, .slice o.da o.dn o.dc, .slice o.ka o.kn o.kc] ∧ StepOk w o := by
  match cs, hlen with
  | [u0, u1, u2, u3, u4], _ =>
    obtain ⟨xs, m2, _, hx, _, hl2, hel⟩ := DataW.trod_struct Try.underlying37 h
    have g0 : DataW.trod enc Try.prog w base (fun _ => true) held m2 3 (List.take (Try.prog.cellsOf 3) (List.drop 0 [u0, u1, u2, u3, u4])) = xs[0]? := hel 0 _ rfl
    have g1 : DataW.trod enc Try.prog w base (fun _ => true) held m2 9 (List.take (Try.prog.cellsOf 9) (List.drop 1 [u0, u1, u2, u3, u4])) = xs[1]? := hel 1 _ rfl
    have g2 : DataW.trod enc Try.prog w base (fun _ => true) held m2 9 (List.take (Try.prog.cellsOf 9) (List.drop 2 [u0, u1, u2, u3, u4])) = xs[2]? := hel 2 _ rfl
    have g3 : DataW.trod enc Try.prog w base (fun _ => true) held m2 34 (List.take (Try.prog.cellsOf 34) (List.drop 3 [u0, u1, u2, u3, u4])) = xs[3]? := hel 3 _ rfl
    have g4 : DataW.trod enc Try.prog w base (fun _ => true) held m2 35 (List.take (Try.prog.cellsOf 35) (List.drop 4 [u0, u1, u2, u3, u4])) = xs[4]? := hel 4 _ rfl
    rw [c1_3] at g0
    rw [c1_9] at g1 g2
    rw [c1_34] at g3
    rw [c1_35] at g4
    simp only [List.drop, List.take] at g0 g1 g2 g3 g4
    match xs, hl2 with
    | [y0, y1, y2, y3, y4], _ =>
      obtain ⟨z0, e0, _⟩ := DataW.trod_int Try.underlying3 g0
      obtain ⟨z1, e1, _, s1⟩ := DataW.trod_string Try.underlying9 g1
      obtain ⟨z2, e2, _, s2⟩ := DataW.trod_string Try.underlying9 g2
      obtain ⟨a3, L3, n3, c3, e3, l3, b3, s3⟩ := op_bytes g3
      obtain ⟨a4, L4, n4, c4, e4, l4, k4, s4⟩ := open_kept g4
      simp only [List.cons.injEq, and_true] at e0 e1 e2
      exact ⟨⟨z0, z1, z2, a3, n3, c3, L3, a4, n4, c4, L4⟩, by rw [e0, e1, e2, e3, e4], ⟨s1, s2, l3, b3, s3, l4, k4, s4⟩⟩
/-- Steps, opened. -/
theorem open_steps {m : Nat} {u : Value} {x : DataW H × List MemPlace} (h : DataW.trod enc Try.prog w base (fun _ => true) held m 22 [u] = some x) :
    ∃ (a : Option Addr) (L : List StepV) (n c : Nat), u = .slice a n c ∧ L.length = n ∧ StepsR w a L ∧ ∀ o ∈ L, StepOk w o := by
  rcases open_slice Try.underlying22 h with ⟨hcs, _⟩ | ⟨y, l, c, k, m2, D, Pl, hcs, _, hl, hm, hk, rfl, hi⟩
  · simp only [List.cons.injEq, and_true] at hcs
    subst hcs
    exact ⟨none, [], 0, 0, rfl, rfl, fun k o ho => by simp at ho, fun o ho => by simp at ho⟩
  · simp only [List.cons.injEq, and_true] at hcs
    subst hcs
    have hkl : l ≤ k := by rw [hk]; split <;> omega
    obtain ⟨L, hL, hp⟩ := list_of (p := fun i (o : StepV) => (∀ j v, [Value.int .i64 o.kd, .string o.sA, .string o.sB, .slice o.da o.dn o.dc, .slice o.ka o.kn o.kc][j]? = some v → w.cell? ((y.add (i * 5)).add j) = some v) ∧ StepOk w o) l (fun i him => by
      obtain ⟨cs', hc, ht⟩ := hi i (by omega)
      rw [c1_37] at hc
      obtain ⟨_, hcl, hat⟩ := World.cells?_some hc
      obtain ⟨o, ho, hca⟩ := one_step ht hcl
      refine ⟨o, fun j v hj => ?_, hca⟩
      have hj7 : j < 5 := by have := (List.getElem?_eq_some_iff.1 hj).1; simpa using this
      rw [hat j hj7, ho]; exact hj)
    refine ⟨some y, L, l, c, rfl, hL, fun i o ho => ?_, fun o ho => ?_⟩
    · obtain ⟨b, off, spot⟩ := y
      obtain ⟨h0, hca⟩ := hp i o ho
      have hil : i < L.length := (List.getElem?_eq_some_iff.1 ho).1
      obtain ⟨z0, _⟩ := hp 0 L[0] (List.getElem?_eq_getElem (by omega))
      have hspot : spot = none := by simpa [Addr.add] using World.cell?_spot (z0 0 _ rfl)
      subst hspot
      have q : ∀ j v, [Value.int .i64 o.kd, .string o.sA, .string o.sB, .slice o.da o.dn o.dc, .slice o.ka o.kn o.kc][j]? = some v → w.cell? ⟨b, off + i * 5 + j, none⟩ = some v := fun j v hj => by
        have := h0 j v hj
        rwa [addr_add, addr_add] at this
      exact ⟨b, off, rfl, q 0 _ rfl, q 1 _ rfl, q 2 _ rfl, q 3 _ rfl, q 4 _ rfl⟩
    · obtain ⟨i, hi'⟩ := List.mem_iff_getElem?.1 ho
      exact (hp i o hi').2
end
end Go.Proofs.Ytbjhcbiihekceaa
