/- What a kind of call names, by contracts. -/
import Derived.Test.YtkgcbhpgkcfkhaaCjv
import Derived.Deep.WholeRow
import Derived.BigRegion
namespace Go.Proofs.Ytkgcbhpgkcfkhaa
open Go.ChangeShapes Go.WideShapes Go.ChangeAt Go.RowKit Go.Shelf
set_option linter.unusedVariables false
set_option linter.unusedSimpArgs false

def kB : List Bool := [false, false, false, false, false, false, true, true, false, false, false, false, true, true, true, false, false, true, true, true, true, false, false, true, true, true, false, false, false, true, true, false, false, true, false, false, true, false, false, true, true, false]
def kV : Array Value := (kB.map Value.bool).toArray
def kZ : Array Value := ((List.replicate 42 false).map Value.bool).toArray
theorem info155 : (Try.prog.info? 155).map (·.size) = some 42 := by kernel_rfl
theorem kV_size : kV.size = 42 := by decide
theorem kZ_size : kZ.size = 42 := by decide
theorem kV_one : kV.all (·.oneCell') = true := by
  rw [Array.all_eq_true]
  intro i hi
  simp [kV, Value.oneCell']
theorem kst (w : World) : (storeCells ⟨w.heap.size, 0, none⟩ kV.toList 0).run Try.prog (w.alloc (.cells kZ 155)) = .ok () (w.alloc (.cells kV 155)) :=
  run_storeCells_new w 155 kZ kV (by rw [info155, kV_size]) (by rw [kV_size, kZ_size]) kV_one
theorem kld (w : World) : (loadVar 155 ⟨w.heap.size, 0, none⟩).run Try.prog (w.alloc (.cells kV 155)) = .ok (.agg kV) (w.alloc (.cells kV 155)) :=
  run_loadVar_new w 155 kV 7 133 Try.underlying155 (by rw [info155, kV_size])
end Go.Proofs.Ytkgcbhpgkcfkhaa
