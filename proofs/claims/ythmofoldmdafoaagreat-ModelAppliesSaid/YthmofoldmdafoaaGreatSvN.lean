/- Part of the proof that ModelApplies holds for every input: writes that are done on tables leave them as the document says. -/
import Derived.Test.YthmofoldmdafoaaGreatSvM
set_option linter.unusedVariables false
set_option linter.unusedSimpArgs false
set_option maxRecDepth 100000
set_option maxHeartbeats 4000000
namespace Go.Proofs.YthmofoldmdafoaaGreat
open Go.ChangeShapes Go.WideShapes Go.ChangeAt Go.RowKit
open Go.Lib (hid)
open Go.Proofs.Tryz
end Go.Proofs.YthmofoldmdafoaaGreat
namespace Go.Proofs.YthmofoldmdafoaaGreat.modelAppliesP
open Go.Lib (hid)
open Go.Proofs.Tryz
open Go.ChangeShapes Go.WideShapes Go.ChangeAt Go.RowKit
open Go.ChangeMaps (open_string shut_string)
set_option linter.unusedVariables false
set_option linter.unusedSimpArgs false
theorem own : ownKnob prog.godebug = none := by kernel_rfl
theorem laidOut : laidOutB prog = true := by kernel_rfl
theorem lifted (os : Os) (started : os.Started) (H : Type) (enc : TypeId × Value -> H) :
  ReturnsInHanded {} checked os 4 .any (Rows.modelAppliesSpec.pre6 enc prog f4 Rows.modelAppliesRow.domain false) (Rows.modelAppliesSpec.post enc prog f4 false true false false) := by
 refine returnsInHanded_of_change_sized (C := checked) own started Xt3 func4
  (ChangeSpec.witness6 (enc := enc) (C := checked) false ⟨#[], #[.agg #[.int .i64 0, .int .i64 0, .int .i64 0, .int .i64 0, .int .i64 0, .int .i64 0, .slice none 0 0], .slice none 0 0, .slice none 0 0, .slice none 0 0], []⟩ 12 Xt3 Xt3 Xt3 Xt3) ?_
 intro W base args ds gs before hval0 hW hcnd hsz0 _
 have hsz : (DataW.weightsEach prog (f4.params.toList ++ Rows.modelAppliesSpec.plain.varTypes prog) (ds ++ gs)).all (· <= reachBytes) = true := hsz0
 clear hsz0
 have hval : ∀ (j : Nat) t v, f4.params[j]? = some t -> args[j]? = some v -> Value.okWide prog W .any base t v := hval0
 have hW' := hW
 obtain ⟨p, q, hA0, hV, rfl, hfz, hnd⟩ := hW
 have hA : DataW.TrodAll enc prog W 0 (fun _ => true) true f4.params.toList args.toList ds p := hA0
 rw [params4] at hA hval hsz
 obtain ⟨v0, vs0, d0, ds0, p0, q0, hargs, rfl, rfl, h0, r0⟩ := trodAll_cons hA
 obtain ⟨v1, vs1, d1, ds1, p1, q1, rfl, rfl, rfl, h1, r1⟩ := trodAll_cons r0
 obtain ⟨v2, vs2, d2, ds2, p2, q2, rfl, rfl, rfl, h2, r2⟩ := trodAll_cons r1
 obtain ⟨v3, vs3, d3, ds3, p3, q3, rfl, rfl, rfl, h3, r3⟩ := trodAll_cons r2
 obtain ⟨rfl, rfl, rfl⟩ := trodAll_nil r3
 obtain rfl : args = #[v0, v1, v2, v3] := by cases args; simp_all
 obtain ⟨rfl, rfl⟩ := trodVars_none hV
 have k0 := h0
 have lt0 : ∀ x ∈ p0, x.block < W.heap.size := by obtain ⟨m, hm⟩ := k0; exact DataW.trod_lt m _ _ _ hm
 obtain ⟨J0, rfl, LJ0, NJ0⟩ := open_job (hval 0 24 v0 rfl rfl) h0
 have k1 := h1
 have lt1 : ∀ x ∈ p1, x.block < W.heap.size := by obtain ⟨m, hm⟩ := k1; exact DataW.trod_lt m _ _ _ hm
 have all : ∀ n ∈ DataW.weightsEach prog ([24, 25, 41, 42] ++ Rows.modelAppliesSpec.plain.varTypes prog) ([d0, d1, d2, d3] ++ []), n <= reachBytes := fun n hn => by simpa using List.all_eq_true.1 hsz n hn
 obtain ⟨a1, n1, c1, rfl⟩ := okWide_slice underlying25 (hval 1 25 v1 rfl rfl)
 obtain ⟨L1, hL1, hR1, hN1, hG1⟩ : ∃ L : List z2_, L.length = n1 /\ TxsR W a1 L /\ n1 <= 140737488355328 /\ ∀ s ∈ L, TxG s := by
  obtain ⟨fuel, hf⟩ := h1
  obtain ⟨a, L, n, c, e, h1, h2, h3, h4⟩ := open_txs (by simpa [Value.cells] using hf) (fun n hn => all n (DataW.weights_mem_each (j := 1) (t := 25) rfl rfl n hn))
  exact Xb113
 have k2 := h2
 have lt2 : ∀ x ∈ p2, x.block < W.heap.size := by obtain ⟨m, hm⟩ := k2; exact DataW.trod_lt m _ _ _ hm
 obtain ⟨a2, n2, c2, rfl⟩ := okWide_slice underlying41 (hval 2 41 v2 rfl rfl)
 obtain ⟨L2, hL2, hR2, hG2, hB2⟩ : ∃ L : List WrV, L.length = n2 /\ WrR W a2 L /\ BgW L /\ ∀ t ∈ L, Byt t.K /\ ∀ p ∈ t.r.R, Byt p.bs := by
  obtain ⟨fuel, hf⟩ := h2
  obtain ⟨a, L, n, c, e, h1, h2, h3, h4⟩ := open_wrs (by simpa [Value.cells] using hf) (fun n hn => all n (DataW.weights_mem_each (j := 2) (t := 41) rfl rfl n hn))
  exact Xb113
 have k3 := h3
 have lt3 : ∀ x ∈ p3, x.block < W.heap.size := by obtain ⟨m, hm⟩ := k3; exact DataW.trod_lt m _ _ _ hm
 obtain ⟨a3, n3, c3, rfl⟩ := okWide_slice underlying42 (hval 3 42 v3 rfl rfl)
 obtain ⟨K3, hK3, hB3, hS3⟩ : ∃ K : List Int, K.length = n3 /\ Byt K /\ Ls .u8 W a3 c3 K := by
  obtain ⟨fuel, hf⟩ := h3
  obtain ⟨a, L, n, c, e, h1, h2, h3⟩ := qF_ (by simpa [Value.cells] using hf)
  simp only [Value.slice.injEq] at e
  obtain ⟨rfl, rfl, rfl⟩ := e
  exact ⟨L, h1, h2, h3⟩
 clear hA0 hval0
 refine (applies_law J0 a1 L1 n1 c1 hL1 hN1 hG1 a2 L2 n2 c2 hL2 hG2 hB2 a3 n3 c3 K3 hK3 hB3 W LJ0 NJ0 hR1 hR2 hS3).mono fun e W' ⟨he, bel⟩ => ?_
 subst he
 exact ⟨_, rfl, _, _, _, [], _, [], hW', trodAll_mk1 (shut_bool underlying4 _), (trodAll_cons_mk (Below.trod laidOut Xt3 (of_decide_eq_true Xt3) k0 bel lt0) (trodAll_cons_mk (Below.trod laidOut Xt3 (of_decide_eq_true Xt3) k1 bel lt1) (trodAll_cons_mk (Below.trod laidOut Xt3 (of_decide_eq_true Xt3) k2 bel lt2) (trodAll_cons_mk (Below.trod laidOut Xt3 (of_decide_eq_true Xt3) k3 bel lt3) trodAll_mk0)))), rfl, bel.frame _, fun h => by cases h⟩
theorem over : Rows.modelAppliesRow.holds Tryz.pinned (OpenSpec.ofChange Rows.modelAppliesSpec) :=
 OpenClaim.holds_of_wide 4 f4 rfl rfl rfl rfl rfl rfl rfl ⟨rfl, rfl, rfl, rfl, rfl⟩ rfl rfl rfl rfl rfl Xt3 func4 Xt3
  (of_decide_eq_true Xt3) (by unfold Func.isWrapper; first | (rw [if_pos (by decide +kernel)]; kernel_rfl) | (rw [if_neg (by decide +kernel)]; exact ⟨rfl, rfl⟩))
  (fun os started H enc _ => lifted os started H enc)
theorem proved : Rows.ModelAppliesSaid := over
#print axioms proved
end Go.Proofs.YthmofoldmdafoaaGreat.modelAppliesP
