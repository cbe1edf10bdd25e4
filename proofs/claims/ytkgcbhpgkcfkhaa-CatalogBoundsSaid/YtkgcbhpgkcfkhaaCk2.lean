/- What a kind of call names, by contracts. -/
import Derived.Test.YtkgcbhpgkcfkhaaCk1
import Derived.Laws.Tables
namespace Go.Proofs.Ytkgcbhpgkcfkhaa
open Go.ChangeShapes Go.WideShapes Go.ChangeAt Go.RowKit Go.Shelf
set_option linter.unusedVariables false
set_option linter.unusedSimpArgs false

theorem build_to {ops : Array Oper} {rest : List Oper} {o : Oper} {a : Act} {w : World} {Q : Exit → Act → World → Prop} (hg : o.guard = none) (t : TypeId) (parts : Array (Nat × Operand)) (ho : o.op = .build t parts) (cells : Array Value)
    (hc : Try.prog.built t (parts.map fun (i, x) => (i, a.eval x)).toList = some cells)
    (h : wpList Try.prog ops Q rest (a.put o.dst (.agg cells)) w) : wpList Try.prog ops Q (o :: rest) a w :=
  wpList_build hg t parts ho (by rw [hc]; rfl) (by rw [hc]; exact h)
def kN (a b c d e f : Bool) : Value := .agg #[.bool a, .bool b, .bool c, .bool d, .bool e, .bool f]
theorem built155 : Try.prog.built 155 [(1, kN true true false false false false), (2, kN true true true false false true), (3, kN true true true false false true), (4, kN true true false false false true), (5, kN true false false true false false), (6, kN true false false true true false)] = some kV := by kernel_rfl
set_option maxRecDepth 100000 in
set_option maxHeartbeats 1000000 in
theorem kinds_law (w : World) : Calls Try.prog 103 #[] w fun r w' => r = .returned (.agg kV) ∧ Below w.heap.size w w' := by
  have hst := kst w
  have hsz := kV_size
  simp only [kZ, List.map_cons, List.map_nil, List.replicate_succ, List.replicate_zero] at hst
  go_enter Try.func103, Try.ntmps103
  go_wp2_with (refine build_to rfl 155 _ rfl kV ?hc ?hk; case hc => (simp only [List.map_toArray, List.map_cons, List.map_nil]; simp only [go_sem]; exact built155))
  refine bodyPost_ret (v := .agg kV) ?_ rfl ⟨rfl, (Below.refl _ _).alloc (Nat.le_refl _) _⟩
  simp [results, Try.results103, Act.put, Sem.run_bind, Sem.run_pure, asAddr, Result.andThen, kld w]
end Go.Proofs.Ytkgcbhpgkcfkhaa
