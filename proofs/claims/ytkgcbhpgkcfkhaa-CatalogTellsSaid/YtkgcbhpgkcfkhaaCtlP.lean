/- 'CatalogTells' returns true whatever its arguments, which read afterwards as before: the row's step over the walk. -/
import Derived.Test.YtkgcbhpgkcfkhaaCtl
import Derived.Test.YtkgcbhpgkcfkhaaCjp
import Derived.Test.YtkgcbhpgkcfkhaaSam
import Derived.Test.YtkgcbhpgkcfkhaaRows
import Derived.SizedLaws
import Derived.WalkKit
import Derived.ProofKit
import Derived.OpenShut
import Derived.ShutString
import Derived.ChangeOld
import Derived.Below
namespace Go.Proofs.Ytkgcbhpgkcfkhaa.catalogTellsP
open Go.ChangeShapes Go.WideShapes Go.ChangeAt Go.RowKit
open Go.ChangeMaps (open_string shut_string)
set_option linter.unusedVariables false
set_option linter.unusedSimpArgs false

section
variable {H : Type} {enc : TypeId × Value → H} {w : World} {base b0 : Nat} {held : Bool} {r : Reach} {v : Value} {d : DataW H} {ps : List MemPlace}
theorem one_bytes {m : Nat} {u : Value} {x : DataW H × List MemPlace} (h : DataW.trod enc Try.prog w base (fun _ => true) held m 24 [u] = some x) (hsz : ∀ n ∈ x.1.weights Try.prog 24, n ≤ reachBytes) :
    ∃ (a : Option Addr) (L : List Int) (n c : Nat), u = .slice a n c ∧ L.length = n ∧ n ≤ 140737488355328 ∧ Byt L ∧ Ls .u8 w a c L := by
  rcases open_ints Try.underlying24 Try.underlying5 (by kernel_rfl) h with ⟨hcs, _⟩ | ⟨y, l, c, zs, hcs, _, hl, hm, hz, hx, hcell, hwz⟩
  · simp only [List.cons.injEq, and_true] at hcs
    exact ⟨none, [], 0, 0, hcs, rfl, Nat.zero_le _, fun x hx => by simp at hx, Ls.nul _ _⟩
  · simp only [List.cons.injEq, and_true] at hcs
    have hzl : zs.length = c := by simpa using hz
    have hr : IsRow .u8 w (some y) l c zs := .inr ⟨_, rfl, hl, hm, hzl, hcell, hwz⟩
    have h1 := hsz ((lits .u8 (zs.take l) : List (DataW H)).length + (lits .u8 (zs.drop l) : List (DataW H)).length) (by
      rw [hx]
      simp only [DataW.weights, Try.underlying24]
      rw [show Try.prog.bytesOf 5 = 1 by kernel_rfl]
      simp)
    simp only [lits, List.length_map, List.length_take, List.length_drop, reachBytes] at h1
    exact ⟨some y, zs.take l, l, c, hcs, hr.ls.2, by omega, hr.byt, hr.ls.1⟩
theorem one_row {m : Nat} {u : Value} {x : DataW H × List MemPlace} (h : DataW.trod enc Try.prog w base (fun _ => true) held m 23 [u] = some x) :
    ∃ (a : Option Addr) (R : List P1) (n c : Nat), u = .slice a n c ∧ R.length = n ∧ RdR w a R ∧ ∀ p ∈ R, Byt p.bs := by
  obtain ⟨a, n, c, rfl⟩ : ∃ a n c, u = .slice a n c := by
    rcases Deep.open_int_rows Try.underlying23 Try.underlying24 Try.underlying5 (by kernel_rfl) (by kernel_rfl) h with ⟨hcs, _⟩ | ⟨x, l, c, A, L, C, Z, hcs, _⟩
    · simp only [List.cons.injEq, and_true] at hcs
      exact ⟨none, 0, 0, hcs⟩
    · simp only [List.cons.injEq, and_true] at hcs
      exact ⟨some x, l, c, hcs⟩
  obtain ⟨R, h1, h2, h3⟩ := open_row (d := x.1) (ps := x.2) ⟨m, by simpa [Value.cells] using h⟩
  exact ⟨a, R, n, c, rfl, h1, h2, h3⟩
set_option maxRecDepth 100000 in
/-- An array of two slices of bytes, by value, opened. -/
theorem open_arr2_bytes (hval : Value.okWide Try.prog w r b0 88 v) (hd : DataW.Trod enc Try.prog w base (fun _ => true) held 88 v d ps) (hsz : ∀ n ∈ d.weights Try.prog 88, n ≤ reachBytes) :
    ∃ (f0 f1 : Option Addr) (F0 F1 : List Int) (l0 l1 c0 c1 : Nat), v = .agg #[.slice f0 l0 c0, .slice f1 l1 c1] ∧ F0.length = l0 ∧ F1.length = l1 ∧ l0 ≤ 140737488355328 ∧ l1 ≤ 140737488355328 ∧ Byt F0 ∧ Byt F1 ∧ Ls .u8 w f0 c0 F0 ∧ Ls .u8 w f1 c1 F1 := by
  obtain ⟨cs, rfl, hsz2, _⟩ : ∃ cs, v = .agg cs ∧ cs.size = Try.prog.cellsOf 88 ∧ Row.okWide Try.prog w r b0 88 cs := by
    simpa [Value.okWide, Try.underlying88] using hval
  have c37 : Try.prog.cellsOf 88 = 2 := by kernel_rfl
  have c22 : Try.prog.cellsOf 24 = 1 := by kernel_rfl
  rw [c37] at hsz2
  obtain ⟨l⟩ := cs
  match l, hsz2 with
  | [u0, u1], _ =>
    obtain ⟨fuel, hf⟩ := hd
    obtain ⟨xs, m, _, hxx, _, _, hel⟩ := DataW.trod_array Try.underlying88 hf
    have k0 := hel 0 (by omega); have k1 := hel 1 (by omega)
    rw [c22] at k0 k1
    simp only [Value.cells, List.drop, List.take, Nat.mul_one] at k0 k1
    match xs, ‹xs.length = 2› with
    | [x0, x1], _ =>
      obtain rfl : d = .agg [x0.1, x1.1] := by simpa using (Prod.mk.inj hxx).1
      simp only [DataW.weights, Try.underlying88, DataW.weightsAll, List.append_nil, List.mem_append] at hsz
      obtain ⟨f0, F0, l0, c0, rfl, e0, z0, b0, L0⟩ := one_bytes k0 (fun n hn => hsz n (.inl hn))
      obtain ⟨f1, F1, l1, c1, rfl, e1, z1, b1, L1⟩ := one_bytes k1 (fun n hn => hsz n (.inr hn))
      exact ⟨f0, f1, F0, F1, l0, l1, c0, c1, rfl, e0, e1, z0, z1, b0, b1, L0, L1⟩
set_option maxRecDepth 100000 in
/-- An array of two rows, by value, opened. -/
theorem open_arr2_rows (hval : Value.okWide Try.prog w r b0 89 v) (hd : DataW.Trod enc Try.prog w base (fun _ => true) held 89 v d ps) :
    ∃ (f0 f1 : Option Addr) (F0 F1 : List P1) (l0 l1 c0 c1 : Nat), v = .agg #[.slice f0 l0 c0, .slice f1 l1 c1] ∧ F0.length = l0 ∧ F1.length = l1 ∧ RdR w f0 F0 ∧ RdR w f1 F1 ∧ (∀ p ∈ F0, Byt p.bs) ∧ (∀ p ∈ F1, Byt p.bs) := by
  obtain ⟨cs, rfl, hsz2, _⟩ : ∃ cs, v = .agg cs ∧ cs.size = Try.prog.cellsOf 89 ∧ Row.okWide Try.prog w r b0 89 cs := by
    simpa [Value.okWide, Try.underlying89] using hval
  have c37 : Try.prog.cellsOf 89 = 2 := by kernel_rfl
  have c22 : Try.prog.cellsOf 23 = 1 := by kernel_rfl
  rw [c37] at hsz2
  obtain ⟨l⟩ := cs
  match l, hsz2 with
  | [u0, u1], _ =>
    obtain ⟨fuel, hf⟩ := hd
    obtain ⟨xs, m, _, hxx, _, _, hel⟩ := DataW.trod_array Try.underlying89 hf
    have k0 := hel 0 (by omega); have k1 := hel 1 (by omega)
    rw [c22] at k0 k1
    simp only [Value.cells, List.drop, List.take, Nat.mul_one] at k0 k1
    match xs, ‹xs.length = 2› with
    | [x0, x1], _ =>
      obtain ⟨f0, F0, l0, c0, rfl, e0, r0, b0⟩ := one_row k0
      obtain ⟨f1, F1, l1, c1, rfl, e1, r1, b1⟩ := one_row k1
      exact ⟨f0, f1, F0, F1, l0, l1, c0, c1, rfl, e0, e1, r0, r1, b0, b1⟩
end

theorem own : ownKnob Try.prog.godebug = none := by kernel_rfl
theorem laidOut : laidOutB Try.prog = true := by kernel_rfl

set_option maxRecDepth 100000 in
theorem lifted (os : Os) (started : os.Started) (H : Type) (enc : TypeId × Value → H) :
    ReturnsInHanded {} Try.checked os 10 .any (Rows.catalogTellsSpec.pre6 enc Try.prog Try.f10 Rows.catalogTellsRow.domain false) (Rows.catalogTellsSpec.post enc Try.prog Try.f10 false true false false) := by
  refine returnsInHanded_of_change_sized (C := Try.checked) own started (by kernel_rfl) Try.func10
    (ChangeSpec.witness6 (enc := enc) (C := Try.checked) false ⟨#[], #[.agg #[.int .i64 0, .int .i64 0, .int .i64 0, .int .i64 0, .int .i64 0, .int .i64 0, .slice none 0 0], .int .i64 0, .agg #[.slice none 0 0, .slice none 0 0], .agg #[.slice none 0 0, .slice none 0 0]], []⟩ 12 (by kernel_rfl) (by kernel_rfl) (by kernel_rfl) (by kernel_rfl)) ?_
  intro W base args ds gs before hval0 hW hcnd hsz0 _
  have hsz : (DataW.weightsEach Try.prog (Try.f10.params.toList ++ Rows.catalogTellsSpec.plain.varTypes Try.prog) (ds ++ gs)).all (· ≤ reachBytes) = true := hsz0
  clear hsz0
  have hval : ∀ (j : Nat) t v, Try.f10.params[j]? = some t → args[j]? = some v → Value.okWide Try.prog W .any base t v := hval0
  have hW' := hW
  obtain ⟨p, q, hA0, hV, rfl, hfz, hnd⟩ := hW
  have hA : DataW.TrodAll enc Try.prog W 0 (fun _ => true) true Try.f10.params.toList args.toList ds p := hA0
  rw [Try.params10] at hA hval hsz
  obtain ⟨v0, vs0, d0, ds0, p0, q0, hargs, rfl, rfl, h0, r0⟩ := trodAll_cons hA
  obtain ⟨v1, vs1, d1, ds1, p1, q1, rfl, rfl, rfl, h1, r1⟩ := trodAll_cons r0
  obtain ⟨v2, vs2, d2, ds2, p2, q2, rfl, rfl, rfl, h2, r2⟩ := trodAll_cons r1
  obtain ⟨v3, vs3, d3, ds3, p3, q3, rfl, rfl, rfl, h3, r3⟩ := trodAll_cons r2
  obtain ⟨rfl, rfl, rfl⟩ := trodAll_nil r3
  obtain rfl : args = #[v0, v1, v2, v3] := by cases args; simp_all
  obtain ⟨rfl, rfl⟩ := trodVars_none hV
  have k0 := h0
  have lt0 : ∀ x ∈ p0, x.block < W.heap.size := by obtain ⟨m, hm⟩ := k0; exact DataW.trod_lt m _ _ _ hm
  obtain ⟨J, rfl, LJ, NJ⟩ := open_job (hval 0 53 v0 rfl rfl) h0
  have k1 := h1
  have lt1 : ∀ x ∈ p1, x.block < W.heap.size := by obtain ⟨m, hm⟩ := k1; exact DataW.trod_lt m _ _ _ hm
  obtain ⟨x1, rfl, _, _, g1⟩ := open_int Try.underlying3 (hval 1 3 v1 rfl rfl) h1
  have b1 : -9223372036854775808 ≤ x1 ∧ x1 ≤ 9223372036854775807 := by simpa [Lit.wf, IntKind.min, IntKind.max, IntKind.signed, IntKind.bits] using g1
  have k2 := h2
  have lt2 : ∀ x ∈ p2, x.block < W.heap.size := by obtain ⟨m, hm⟩ := k2; exact DataW.trod_lt m _ _ _ hm
  have all : ∀ n ∈ DataW.weightsEach Try.prog ([53, 3, 88, 89] ++ Rows.catalogTellsSpec.plain.varTypes Try.prog) ([d0, d1, d2, d3] ++ []), n ≤ reachBytes := fun n hn => by simpa using List.all_eq_true.1 hsz n hn
  obtain ⟨f0, f1, F0, F1, l0, l1, g0', g1', rfl, hl0, hl1, z0, z1, bF0, bF1, LF0, LF1⟩ := open_arr2_bytes (hval 2 88 v2 rfl rfl) h2 (fun n hn => all n (DataW.weights_mem_each (j := 2) (t := 88) rfl rfl n hn))
  have k3 := h3
  have lt3 : ∀ x ∈ p3, x.block < W.heap.size := by obtain ⟨m, hm⟩ := k3; exact DataW.trod_lt m _ _ _ hm
  obtain ⟨e0, e1, E0, E1, m0, m1, i0, i1, rfl, hm0, hm1, RE0, RE1, bE0, bE1⟩ := open_arr2_rows (hval 3 89 v3 rfl rfl) h3
  clear hA0 hval0
  refine (tells_law J x1 f0 f1 F0 F1 l0 l1 g0' g1' e0 e1 E0 E1 m0 m1 i0 i1 hl0 hl1 hm0 hm1 z0 z1 bF0 bF1 bE0 bE1 W LJ NJ LF0 LF1 RE0 RE1).mono fun e W' ⟨he, bel⟩ => ?_
  subst he
  exact ⟨_, rfl, _, _, _, [], _, [], hW', trodAll_mk1 (shut_bool Try.underlying4 _), (trodAll_cons_mk (Below.trod laidOut (by kernel_rfl) (of_decide_eq_true (by kernel_rfl)) k0 bel lt0) (trodAll_cons_mk (Below.trod laidOut (by kernel_rfl) (of_decide_eq_true (by kernel_rfl)) k1 bel lt1) (trodAll_cons_mk (Below.trod laidOut (by kernel_rfl) (of_decide_eq_true (by kernel_rfl)) k2 bel lt2) (trodAll_cons_mk (Below.trod laidOut (by kernel_rfl) (of_decide_eq_true (by kernel_rfl)) k3 bel lt3) trodAll_mk0)))), rfl, bel.frame _, fun h => by cases h⟩

theorem over : Rows.catalogTellsRow.holds Try.pinned (OpenSpec.ofChange Rows.catalogTellsSpec) :=
  OpenClaim.holds_of_wide 10 Try.f10 rfl rfl rfl rfl rfl rfl rfl ⟨rfl, rfl, rfl, rfl, rfl⟩ rfl rfl rfl rfl rfl (by kernel_rfl) Try.func10 (by kernel_rfl)
    (of_decide_eq_true (by kernel_rfl)) (by unfold Func.isWrapper; first | (rw [if_pos (by decide +kernel)]; kernel_rfl) | (rw [if_neg (by decide +kernel)]; exact ⟨rfl, rfl⟩))
    (fun os started H enc _ => lifted os started H enc)

theorem proved : Rows.CatalogTellsSaid := over
#print axioms proved
end Go.Proofs.Ytkgcbhpgkcfkhaa.catalogTellsP
