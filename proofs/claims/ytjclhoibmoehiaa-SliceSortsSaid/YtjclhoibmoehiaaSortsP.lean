/- 'SliceSorts' returns true whatever its arguments, which read afterwards as before: the row's step over the walk 'sorts_law'. -/
import Derived.Test.YtjclhoibmoehiaaSorts
import Derived.Test.YtjclhoibmoehiaaRows
import Derived.WalkKit
import Derived.ProofKit
import Derived.OpenShut
import Derived.ShutString
import Derived.ChangeOld
import Derived.Below
namespace Go.Proofs.Ytjclhoibmoehiaa.sliceSortsP
open Go.ChangeShapes Go.WideShapes Go.ChangeAt Go.RowKit
open Go.ChangeMaps (open_string shut_string)
set_option linter.unusedVariables false

section
variable {H : Type} {enc : TypeId × Value → H} {w : World} {base b0 : Nat} {spare : Nat → Bool} {held : Bool} {r : Reach} {v : Value} {d : DataW H} {ps : List MemPlace}
set_option maxRecDepth 100000 in
/-- An array of three slices, by value, opened. -/
theorem open_arr46 (hval : Value.okWide Try.prog w r b0 46 v) (hd : DataW.Trod enc Try.prog w base spare held 46 v d ps) :
    ∃ X L : Nat → Int, v = .agg #[.int .u64 (X 0), .int .i64 (L 0), .int .u64 (X 1), .int .i64 (L 1), .int .u64 (X 2), .int .i64 (L 2)] := by
  obtain ⟨cs, rfl, hsz, _⟩ : ∃ cs, v = .agg cs ∧ cs.size = Try.prog.cellsOf 46 ∧ Row.okWide Try.prog w r b0 46 cs := by
    simpa [Value.okWide, Try.underlying46] using hval
  have c46 : Try.prog.cellsOf 46 = 6 := by kernel_rfl
  have c26 : Try.prog.cellsOf 26 = 2 := by kernel_rfl
  have c24 : Try.prog.cellsOf 24 = 1 := by kernel_rfl
  have c3 : Try.prog.cellsOf 3 = 1 := by kernel_rfl
  rw [c46] at hsz
  obtain ⟨l⟩ := cs
  match l, hsz with
  | [u0, u1, u2, u3, u4, u5], _ =>
    obtain ⟨fuel, hf⟩ := hd
    obtain ⟨xs, m, _, _, _, _, hel⟩ := DataW.trod_array Try.underlying46 hf
    have k0 := hel 0 (by omega); have k1 := hel 1 (by omega); have k2 := hel 2 (by omega)
    rw [c26] at k0 k1 k2
    simp only [Value.cells, List.drop, List.take, Nat.reduceMul] at k0 k1 k2
    have key : ∀ (a b : Value) (y : Option (DataW H × List MemPlace)), DataW.trod enc Try.prog w base spare held m 26 [a, b] = y → y.isSome → ∃ x n : Int, a = .int .u64 x ∧ b = .int .i64 n := by
      intro a b y hy hs
      obtain ⟨y0, rfl⟩ := Option.isSome_iff_exists.1 hs
      obtain ⟨xs2, m2, _, _, _, hl2, hel2⟩ := DataW.trod_struct Try.underlying26 hy
      have g0 : DataW.trod enc Try.prog w base spare held m2 24 (List.take (Try.prog.cellsOf 24) (List.drop 0 [a, b])) = xs2[0]? := hel2 0 _ rfl
      have g1 : DataW.trod enc Try.prog w base spare held m2 3 (List.take (Try.prog.cellsOf 3) (List.drop 1 [a, b])) = xs2[1]? := hel2 1 _ rfl
      rw [c24] at g0
      rw [c3] at g1
      simp only [List.drop, List.take] at g0 g1
      match xs2, hl2 with
      | [x0, x1], _ =>
        obtain ⟨z0, a0, _⟩ := DataW.trod_int Try.underlying24 g0
        obtain ⟨z1, a1, _⟩ := DataW.trod_int Try.underlying3 g1
        simp only [List.cons.injEq, and_true] at a0 a1
        exact ⟨_, _, a0, a1⟩
    match xs, ‹xs.length = 3› with
    | [x0, x1, x2], _ =>
      obtain ⟨z0, y0, rfl, rfl⟩ := key _ _ _ k0 rfl
      obtain ⟨z1, y1, rfl, rfl⟩ := key _ _ _ k1 rfl
      obtain ⟨z2, y2, rfl, rfl⟩ := key _ _ _ k2 rfl
      exact ⟨fun i => [z0, z1, z2].getD i 0, fun i => [y0, y1, y2].getD i 0, rfl⟩
end
theorem own : ownKnob Try.prog.godebug = none := by kernel_rfl
theorem laidOut : laidOutB Try.prog = true := by kernel_rfl

set_option maxRecDepth 100000 in
theorem lifted (os : Os) (started : os.Started) (H : Type) (enc : TypeId × Value → H) :
    ReturnsInHanded {} Try.checked os 5 .any (Rows.sliceSortsSpec.pre6 enc Try.prog Try.f5 Rows.sliceSortsRow.domain false) (Rows.sliceSortsSpec.post enc Try.prog Try.f5 false true false false) := by
  refine returnsInHanded_of_change (C := Try.checked) own started (by kernel_rfl) Try.func5
    (ChangeSpec.witness6 (enc := enc) (C := Try.checked) false ⟨#[], #[.agg #[.int .u64 0, .int .i64 0, .int .u64 0, .int .i64 0, .int .u64 0, .int .i64 0]], []⟩ 12 (by kernel_rfl) (by kernel_rfl) (by kernel_rfl) (by kernel_rfl)) ?_
  intro W base args ds gs before hval0 hW hcnd _
  have hval : ∀ (j : Nat) t v, Try.f5.params[j]? = some t → args[j]? = some v → Value.okWide Try.prog W .any base t v := hval0
  have hW' := hW
  obtain ⟨p, q, hA0, hV, rfl, hfz, hnd⟩ := hW
  have hA : DataW.TrodAll enc Try.prog W 0 (fun _ => true) true Try.f5.params.toList args.toList ds p := hA0
  rw [Try.params5] at hA hval
  obtain ⟨v0, vs0, d0, ds0, p0, q0, hargs, rfl, rfl, h0, r0⟩ := trodAll_cons hA
  obtain ⟨rfl, rfl, rfl⟩ := trodAll_nil r0
  obtain rfl : args = #[v0] := by cases args; simp_all
  obtain ⟨rfl, rfl⟩ := trodVars_none hV
  have k0 := h0
  have lt0 : ∀ x ∈ p0, x.block < W.heap.size := by obtain ⟨m, hm⟩ := k0; exact DataW.trod_lt m _ _ _ hm
  obtain ⟨X, L, rfl⟩ := open_arr46 (hval 0 46 v0 rfl rfl) h0
  clear hA0 hval0
  refine (sorts_law X L W).mono fun e W' ⟨he, bel⟩ => ?_
  subst he
  exact ⟨_, rfl, _, _, _, [], _, [], hW', trodAll_mk1 (shut_bool Try.underlying4 _), (trodAll_cons_mk (Below.trod laidOut (by kernel_rfl) (of_decide_eq_true (by kernel_rfl)) k0 bel lt0) trodAll_mk0), rfl, bel.frame _, fun h => by cases h⟩

theorem over : Rows.sliceSortsRow.holds Try.pinned (OpenSpec.ofChange Rows.sliceSortsSpec) :=
  OpenClaim.holds_of_wide 5 Try.f5 rfl rfl rfl rfl rfl rfl rfl ⟨rfl, rfl, rfl, rfl, rfl⟩ rfl rfl rfl rfl rfl (by kernel_rfl) Try.func5 (by kernel_rfl)
    (of_decide_eq_true (by kernel_rfl)) (by unfold Func.isWrapper; first | (rw [if_pos (by decide +kernel)]; kernel_rfl) | (rw [if_neg (by decide +kernel)]; exact ⟨rfl, rfl⟩))
    (fun os started H enc _ => lifted os started H enc)

theorem proved : Rows.SliceSortsSaid := over
#print axioms proved
end Go.Proofs.Ytjclhoibmoehiaa.sliceSortsP
