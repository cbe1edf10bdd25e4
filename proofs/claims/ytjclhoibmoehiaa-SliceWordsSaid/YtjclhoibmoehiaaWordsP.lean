/- 'SliceWords' returns true whatever its arguments, which read afterwards as before: the row's step over the walk. -/
import Derived.Test.YtjclhoibmoehiaaWords
import Derived.Deep.Slices
import Derived.Test.YtjclhoibmoehiaaRows
import Derived.WalkKit
import Derived.ProofKit
import Derived.OpenShut
import Derived.ShutString
import Derived.ChangeOld
import Derived.Below
namespace Go.Proofs.Ytjclhoibmoehiaa.sliceWordsP
open Go.ChangeShapes Go.WideShapes Go.ChangeAt Go.RowKit
open Go.ChangeMaps (open_string shut_string)
set_option linter.unusedVariables false
set_option linter.unusedSimpArgs false

section
variable {H : Type} {enc : TypeId × Value → H} {w : World} {base : Nat} {spare : Nat → Bool} {held : Bool} {d : DataW H} {ps : List MemPlace}
set_option maxRecDepth 100000 in
/-- A slice of slices of keys, opened. -/
theorem open_sls36 {a : Option Addr} {len cap : Nat} (hd : DataW.Trod enc Try.prog w base spare held 36 (.slice a len cap) d ps) :
    len = 0 ∨ ∃ b off X L, a = some ⟨b, off, none⟩ ∧ Words X ∧ Sls w (some ⟨b, off, none⟩) len X L := by
  have c26 : Try.prog.cellsOf 26 = 2 := by kernel_rfl
  have c24 : Try.prog.cellsOf 24 = 1 := by kernel_rfl
  have c3 : Try.prog.cellsOf 3 = 1 := by kernel_rfl
  obtain ⟨fuel, hf⟩ := hd
  rcases Deep.open_slice Try.underlying36 hf with ⟨hcs, _⟩ | ⟨a', len', cap', m, n, D, Pl, hcs, hb, hl, hm, hmm, hx, hi⟩
  · simp [Value.cells] at hcs
    exact .inl hcs.2.1
  · simp [Value.cells] at hcs
    obtain ⟨rfl, rfl, rfl⟩ := hcs
    have hlm : len ≤ m := by rw [hmm]; split <;> omega
    have key : ∀ i, i < len → ∃ p : Int × Int, (0 ≤ p.1 ∧ p.1 < 18446744073709551616) ∧ w.cell? (a'.add (i * 2)) = some (.int .u64 p.1) ∧ w.cell? (a'.add (i * 2 + 1)) = some (.int .i64 p.2) := by
      intro i hil
      obtain ⟨cs', hc, ht⟩ := hi i (by omega)
      rw [c26] at hc
      obtain ⟨_, hcl, hat⟩ := World.cells?_some hc
      match cs', hcl with
      | [u0, u1], _ =>
        obtain ⟨xs, m2, _, _, _, hl2, hel⟩ := DataW.trod_struct Try.underlying26 ht
        have k0 : DataW.trod enc Try.prog w base spare held m2 24 (List.take (Try.prog.cellsOf 24) (List.drop 0 [u0, u1])) = xs[0]? := hel 0 _ rfl
        have k1 : DataW.trod enc Try.prog w base spare held m2 3 (List.take (Try.prog.cellsOf 3) (List.drop 1 [u0, u1])) = xs[1]? := hel 1 _ rfl
        rw [c24] at k0
        rw [c3] at k1
        simp only [List.drop, List.take] at k0 k1
        match xs, hl2 with
        | [x0, x1], _ =>
          obtain ⟨z0, a0, _, w0⟩ := DataW.trod_int Try.underlying24 k0
          obtain ⟨z1, a1, _, _⟩ := DataW.trod_int Try.underlying3 k1
          simp only [List.cons.injEq, and_true] at a0 a1
          subst a0 a1
          have hb2 : 0 ≤ z0 ∧ z0 ≤ 18446744073709551615 := by simpa [Lit.wf, IntKind.min, IntKind.max, IntKind.signed, IntKind.bits] using w0
          refine ⟨(z0, z1), ⟨hb2.1, by simp only; omega⟩, ?_, ?_⟩
          · have := hat 0 (by omega)
            rwa [Deep.add_add, Nat.add_zero] at this
          · have := hat 1 (by omega)
            rwa [Deep.add_add] at this
    by_cases h0 : len = 0
    · exact .inl h0
    · obtain ⟨f, hfn⟩ := Deep.choose_lt key
      obtain ⟨b, off, spot⟩ := a'
      have hc0 := (hfn 0 (by omega)).2.1
      have hspot : spot = none := by simpa [Addr.add] using World.cell?_spot hc0
      subst hspot
      refine .inr ⟨b, off, fun i => if i < len then (f i).1 else 0, fun i => if i < len then (f i).2 else 0, rfl, fun i => ?_, fun k hk => ⟨b, off, rfl, ?_, ?_⟩⟩
      · by_cases h : i < len
        · simp only [if_pos h]; exact (hfn i h).1
        · simp only [if_neg h]; omega
      · simp only [if_pos hk]; rw [← addr_add]; exact (hfn k hk).2.1
      · simp only [if_pos hk]; rw [Nat.add_assoc, ← addr_add]; exact (hfn k hk).2.2
end

theorem own : ownKnob Try.prog.godebug = none := by kernel_rfl
theorem laidOut : laidOutB Try.prog = true := by kernel_rfl

set_option maxRecDepth 100000 in
theorem lifted (os : Os) (started : os.Started) (H : Type) (enc : TypeId × Value → H) :
    ReturnsInHanded {} Try.checked os 4 .any (Rows.sliceWordsSpec.pre6 enc Try.prog Try.f4 Rows.sliceWordsRow.domain false) (Rows.sliceWordsSpec.post enc Try.prog Try.f4 false true false false) := by
  refine returnsInHanded_of_change (C := Try.checked) own started (by kernel_rfl) Try.func4
    (ChangeSpec.witness6 (enc := enc) (C := Try.checked) false ⟨#[], #[.slice none 0 0], []⟩ 8 (by kernel_rfl) (by kernel_rfl) (by kernel_rfl) (by kernel_rfl)) ?_
  intro W base args ds gs before hval0 hW hcnd _
  have hval : ∀ (j : Nat) t v, Try.f4.params[j]? = some t → args[j]? = some v → Value.okWide Try.prog W .any base t v := hval0
  have hW' := hW
  obtain ⟨p, q, hA0, hV, rfl, hfz, hnd⟩ := hW
  have hA : DataW.TrodAll enc Try.prog W 0 (fun _ => true) true Try.f4.params.toList args.toList ds p := hA0
  rw [Try.params4] at hA hval
  obtain ⟨v0, vs0, d0, ds0, p0, q0, hargs, rfl, rfl, h0, r0⟩ := trodAll_cons hA
  obtain ⟨rfl, rfl, rfl⟩ := trodAll_nil r0
  obtain rfl : args = #[v0] := by cases args; simp_all
  obtain ⟨rfl, rfl⟩ := trodVars_none hV
  have k0 := h0
  have lt0 : ∀ x ∈ p0, x.block < W.heap.size := by obtain ⟨m, hm⟩ := k0; exact DataW.trod_lt m _ _ _ hm
  obtain ⟨a0, len0, cap0, rfl⟩ := okWide_slice Try.underlying36 (hval 0 36 v0 rfl rfl)
  have w0 := open_sls36 h0
  clear hA0 hval0
  refine (words_law W a0 len0 cap0 w0).mono fun e W' ⟨he, bel⟩ => ?_
  subst he
  exact ⟨_, rfl, _, _, _, [], _, [], hW', trodAll_mk1 (shut_bool Try.underlying4 _), (trodAll_cons_mk (Below.trod laidOut (by kernel_rfl) (of_decide_eq_true (by kernel_rfl)) k0 bel lt0) trodAll_mk0), rfl, bel.frame _, fun h => by cases h⟩

theorem over : Rows.sliceWordsRow.holds Try.pinned (OpenSpec.ofChange Rows.sliceWordsSpec) :=
  OpenClaim.holds_of_wide 4 Try.f4 rfl rfl rfl rfl rfl rfl rfl ⟨rfl, rfl, rfl, rfl, rfl⟩ rfl rfl rfl rfl rfl (by kernel_rfl) Try.func4 (by kernel_rfl)
    (of_decide_eq_true (by kernel_rfl)) (by unfold Func.isWrapper; first | (rw [if_pos (by decide +kernel)]; kernel_rfl) | (rw [if_neg (by decide +kernel)]; exact ⟨rfl, rfl⟩))
    (fun os started H enc _ => lifted os started H enc)

theorem proved : Rows.SliceWordsSaid := over
#print axioms proved
end Go.Proofs.Ytjclhoibmoehiaa.sliceWordsP
