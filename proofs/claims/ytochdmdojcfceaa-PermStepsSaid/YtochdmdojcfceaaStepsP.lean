/- 'PermSteps' returns true whatever its arguments, which read afterwards as before: the row's step over the walk. -/
import Derived.Test.YtochdmdojcfceaaSteps
import Derived.Deep.Slices
import Derived.Test.YtochdmdojcfceaaRows
import Derived.WalkKit
import Derived.ProofKit
import Derived.OpenShut
import Derived.ShutString
import Derived.ChangeOld
import Derived.Below
namespace Go.Proofs.Ytochdmdojcfceaa.permStepsP
open Go.ChangeShapes Go.WideShapes Go.ChangeAt Go.RowKit
open Go.ChangeMaps (open_string shut_string)
set_option linter.unusedVariables false
set_option linter.unusedSimpArgs false

section
variable {H : Type} {enc : TypeId × Value → H} {w : World} {base : Nat} {spare : Nat → Bool} {held : Bool} {d : DataW H} {ps : List MemPlace}
set_option maxRecDepth 100000 in
/-- A slice of steps, opened. -/
theorem open_stp60 {a : Option Addr} {len cap : Nat} (hd : DataW.Trod enc Try.prog w base spare held 60 (.slice a len cap) d ps) :
    ∃ K I, Stp w a len K I := by
  have c62 : Try.prog.cellsOf 62 = 2 := by kernel_rfl
  have c3 : Try.prog.cellsOf 3 = 1 := by kernel_rfl
  obtain ⟨fuel, hf⟩ := hd
  rcases Deep.open_slice Try.underlying60 hf with ⟨hcs, _⟩ | ⟨a', len', cap', m, n, D, Pl, hcs, hb, hl, hm, hmm, hx, hi⟩
  · simp [Value.cells] at hcs
    refine ⟨fun _ => 0, fun _ => 0, fun k hk => ?_⟩
    omega
  · simp [Value.cells] at hcs
    obtain ⟨rfl, rfl, rfl⟩ := hcs
    have hlm : len ≤ m := by rw [hmm]; split <;> omega
    have key : ∀ i, i < len → ∃ p : Int × Int, w.cell? (a'.add (i * 2)) = some (.int .i64 p.1) ∧ w.cell? (a'.add (i * 2 + 1)) = some (.int .i64 p.2) := by
      intro i hil
      obtain ⟨cs', hc, ht⟩ := hi i (by omega)
      rw [c62] at hc
      obtain ⟨_, hcl, hat⟩ := World.cells?_some hc
      match cs', hcl with
      | [u0, u1], _ =>
        obtain ⟨xs, m2, _, _, _, hl2, hel⟩ := DataW.trod_struct Try.underlying62 ht
        have k0 : DataW.trod enc Try.prog w base spare held m2 3 (List.take (Try.prog.cellsOf 3) (List.drop 0 [u0, u1])) = xs[0]? := hel 0 _ rfl
        have k1 : DataW.trod enc Try.prog w base spare held m2 3 (List.take (Try.prog.cellsOf 3) (List.drop 1 [u0, u1])) = xs[1]? := hel 1 _ rfl
        rw [c3] at k0 k1
        simp only [List.drop, List.take] at k0 k1
        match xs, hl2 with
        | [x0, x1], _ =>
          obtain ⟨z0, a0, _, _⟩ := DataW.trod_int Try.underlying3 k0
          obtain ⟨z1, a1, _, _⟩ := DataW.trod_int Try.underlying3 k1
          simp only [List.cons.injEq, and_true] at a0 a1
          subst a0 a1
          refine ⟨(z0, z1), ?_, ?_⟩
          · have := hat 0 (by omega)
            rwa [Deep.add_add, Nat.add_zero] at this
          · have := hat 1 (by omega)
            rwa [Deep.add_add] at this
    by_cases h0 : len = 0
    · subst h0; exact ⟨fun _ => 0, fun _ => 0, fun k hk => absurd hk (by omega)⟩
    · obtain ⟨f, hfn⟩ := Deep.choose_lt key
      obtain ⟨b, off, spot⟩ := a'
      have hc0 := (hfn 0 (by omega)).1
      have hspot : spot = none := by simpa [Addr.add] using World.cell?_spot hc0
      subst hspot
      refine ⟨fun i => (f i).1, fun i => (f i).2, fun k hk => ⟨b, off, rfl, ?_, ?_⟩⟩
      · rw [← addr_add]; exact (hfn k hk).1
      · rw [Nat.add_assoc, ← addr_add]; exact (hfn k hk).2
end

theorem own : ownKnob Try.prog.godebug = none := by kernel_rfl
theorem laidOut : laidOutB Try.prog = true := by kernel_rfl

set_option maxRecDepth 100000 in
theorem lifted (os : Os) (started : os.Started) (H : Type) (enc : TypeId × Value → H) :
    ReturnsInHanded {} Try.checked os 7 .any (Rows.permStepsSpec.pre6 enc Try.prog Try.f7 Rows.permStepsRow.domain false) (Rows.permStepsSpec.post enc Try.prog Try.f7 false true false false) := by
  refine returnsInHanded_of_change (C := Try.checked) own started (by kernel_rfl) Try.func7
    (ChangeSpec.witness6 (enc := enc) (C := Try.checked) false ⟨#[], #[.int .i64 0, .slice none 0 0], []⟩ 8 (by kernel_rfl) (by kernel_rfl) (by kernel_rfl) (by kernel_rfl)) ?_
  intro W base args ds gs before hval0 hW hcnd _
  have hval : ∀ (j : Nat) t v, Try.f7.params[j]? = some t → args[j]? = some v → Value.okWide Try.prog W .any base t v := hval0
  have hW' := hW
  obtain ⟨p, q, hA0, hV, rfl, hfz, hnd⟩ := hW
  have hA : DataW.TrodAll enc Try.prog W 0 (fun _ => true) true Try.f7.params.toList args.toList ds p := hA0
  rw [Try.params7] at hA hval
  obtain ⟨v0, vs0, d0, ds0, p0, q0, hargs, rfl, rfl, h0, r0⟩ := trodAll_cons hA
  obtain ⟨v1, vs1, d1, ds1, p1, q1, rfl, rfl, rfl, h1, r1⟩ := trodAll_cons r0
  obtain ⟨rfl, rfl, rfl⟩ := trodAll_nil r1
  obtain rfl : args = #[v0, v1] := by cases args; simp_all
  obtain ⟨rfl, rfl⟩ := trodVars_none hV
  have k0 := h0
  have lt0 : ∀ x ∈ p0, x.block < W.heap.size := by obtain ⟨m, hm⟩ := k0; exact DataW.trod_lt m _ _ _ hm
  obtain ⟨x0, rfl, _, _, g0⟩ := open_int Try.underlying3 (hval 0 3 v0 rfl rfl) h0
  have b0 : -9223372036854775808 ≤ x0 ∧ x0 ≤ 9223372036854775807 := by simpa [Lit.wf, IntKind.min, IntKind.max, IntKind.signed, IntKind.bits] using g0
  have k1 := h1
  have lt1 : ∀ x ∈ p1, x.block < W.heap.size := by obtain ⟨m, hm⟩ := k1; exact DataW.trod_lt m _ _ _ hm
  obtain ⟨a1, len1, cap1, rfl⟩ := okWide_slice Try.underlying60 (hval 1 60 v1 rfl rfl)
  obtain ⟨K1, I1, w1⟩ := open_stp60 h1
  clear hA0 hval0
  refine (steps_law x0 a1 len1 cap1 K1 I1 W w1).mono fun e W' ⟨he, bel⟩ => ?_
  subst he
  exact ⟨_, rfl, _, _, _, [], _, [], hW', trodAll_mk1 (shut_bool Try.underlying4 _), (trodAll_cons_mk (Below.trod laidOut (by kernel_rfl) (of_decide_eq_true (by kernel_rfl)) k0 bel lt0) (trodAll_cons_mk (Below.trod laidOut (by kernel_rfl) (of_decide_eq_true (by kernel_rfl)) k1 bel lt1) trodAll_mk0)), rfl, bel.frame _, fun h => by cases h⟩

theorem over : Rows.permStepsRow.holds Try.pinned (OpenSpec.ofChange Rows.permStepsSpec) :=
  OpenClaim.holds_of_wide 7 Try.f7 rfl rfl rfl rfl rfl rfl rfl ⟨rfl, rfl, rfl, rfl, rfl⟩ rfl rfl rfl rfl rfl (by kernel_rfl) Try.func7 (by kernel_rfl)
    (of_decide_eq_true (by kernel_rfl)) (by unfold Func.isWrapper; first | (rw [if_pos (by decide +kernel)]; kernel_rfl) | (rw [if_neg (by decide +kernel)]; exact ⟨rfl, rfl⟩))
    (fun os started H enc _ => lifted os started H enc)

theorem proved : Rows.PermStepsSaid := over
#print axioms proved
end Go.Proofs.Ytochdmdojcfceaa.permStepsP
