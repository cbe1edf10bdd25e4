/- What a call's kind names, by a contract. -/
import Derived.Test.YtkgcbhpgkcfkhaaCk2
import Derived.BigRegion
namespace Go.Proofs.Ytkgcbhpgkcfkhaa
open Go.ChangeShapes Go.WideShapes Go.ChangeAt Go.RowKit Go.Shelf
set_option linter.unusedVariables false
set_option linter.unusedSimpArgs false

theorem BoxC.setC {W : World} {B : Nat} {cs : Array Value} {t : TypeId} (h : BoxC W B cs t) (i : Nat) (v : Value) : BoxC (W.setCell ⟨B, i, none⟩ v) B (cs.setIfInBounds i v) t := heap_setCell_same W B i cs t v h
set_option maxRecDepth 100000 in
set_option maxHeartbeats 2000000 in
theorem kind_in (k : Nat) (hk : k ≤ 6) (a b c d e f : Bool) (hix : ∀ W : World, (Instr.index 155 (.agg kV) (.int .i64 (k : Int))).run Try.prog W = .ok (kN a b c d e f) W) (tb ix mo : Int) (ka ta ra : Option Addr) (kn kc tn tc rn rc : Nat) (w : World) :
    Calls Try.prog 89 #[.agg #[.int .i64 (k : Int), .int .i64 tb, .int .i64 ix, .slice ka kn kc, .slice ta tn tc, .int .i64 mo, .slice ra rn rc]] w fun r w' => r = .returned (kN a b c d e f) ∧ Below w.heap.size w w' := by
  have hk0 : ¬ (k : Int) < 0 := by omega
  have hk6 : ¬ 6 < (k : Int) := by omega
  unfold kN at *
  go_enter Try.func89, Try.ntmps89
  go_wp2_with fail
  have b0 := ((Below.refl w.heap.size w).alloc (Nat.le_refl _) (.cells #[.int .i64 (k : Int), .int .i64 tb, .int .i64 ix, .slice ka kn kc, .slice ta tn tc, .int .i64 mo, .slice ra rn rc] 98)).alloc (by simp) (.cells #[.bool false, .bool false, .bool false, .bool false, .bool false, .bool false] 133)
  have hb := (BoxC.new w #[.int .i64 (k : Int), .int .i64 tb, .int .i64 ix, .slice ka kn kc, .slice ta tn tc, .int .i64 mo, .slice ra rn rc] 98).below ((Below.refl _ _).alloc (Nat.le_refl _) (.cells #[.bool false, .bool false, .bool false, .bool false, .bool false, .bool false] 133))
  have hr := BoxC.new (w.alloc (.cells #[.int .i64 (k : Int), .int .i64 tb, .int .i64 ix, .slice ka kn kc, .slice ta tn tc, .int .i64 mo, .slice ra rn rc] 98)) #[.bool false, .bool false, .bool false, .bool false, .bool false, .bool false] 133
  rw [World.size_alloc] at hr
  generalize ((w.alloc (.cells #[.int .i64 (k : Int), .int .i64 tb, .int .i64 ix, .slice ka kn kc, .slice ta tn tc, .int .i64 mo, .slice ra rn rc] 98)).alloc (.cells #[.bool false, .bool false, .bool false, .bool false, .bool false, .bool false] 133)) = W0 at *
  have c0 : W0.cell? ⟨w.heap.size, 0, none⟩ = some (.int .i64 (k : Int)) := hb.cell 0
  have hsz : w.heap.size + 1 < W0.heap.size := hr.lt
  have HK := Lib.hid (fun W => kinds_law W)
  have HB0 := Lib.hid b0
  have HB := Lib.hid hb
  have HR := Lib.hid hr
  clear b0 hb hr
  go_region_with (go_at_call 103; refine (HK.out _).mono ?_; rintro r w3 ⟨rfl, B3⟩; have hbd : BoxC W0.drew _ _ _ := HB.out; have hrd : BoxC W0.drew _ _ _ := HR.out; have g0 : w3.cell? ⟨w.heap.size, 0, none⟩ = some (.int .i64 (k : Int)) := (hbd.below B3).cell 0; have R0 : w3.cell? ⟨w.heap.size + 1, 0, none⟩ = some (.bool false) := (hrd.below B3).cell 0; have R1 : w3.cell? ⟨w.heap.size + 1, 1, none⟩ = some (.bool false) := (hrd.below B3).cell 1; have R2 : w3.cell? ⟨w.heap.size + 1, 2, none⟩ = some (.bool false) := (hrd.below B3).cell 2; have R3 : w3.cell? ⟨w.heap.size + 1, 3, none⟩ = some (.bool false) := (hrd.below B3).cell 3; have R4 : w3.cell? ⟨w.heap.size + 1, 4, none⟩ = some (.bool false) := (hrd.below B3).cell 4; have R5 : w3.cell? ⟨w.heap.size + 1, 5, none⟩ = some (.bool false) := (hrd.below B3).cell 5; have F0 : w3.frozen? ⟨w.heap.size + 1, 0, none⟩ = false := frozen_of_row w3 _ 0 _ 133 (hrd.below B3); have F1 : w3.frozen? ⟨w.heap.size + 1, 1, none⟩ = false := frozen_of_row w3 _ 1 _ 133 (hrd.below B3); have F2 : w3.frozen? ⟨w.heap.size + 1, 2, none⟩ = false := frozen_of_row w3 _ 2 _ 133 (hrd.below B3); have F3 : w3.frozen? ⟨w.heap.size + 1, 3, none⟩ = false := frozen_of_row w3 _ 3 _ 133 (hrd.below B3); have F4 : w3.frozen? ⟨w.heap.size + 1, 4, none⟩ = false := frozen_of_row w3 _ 4 _ 133 (hrd.below B3); have F5 : w3.frozen? ⟨w.heap.size + 1, 5, none⟩ = false := frozen_of_row w3 _ 5 _ 133 (hrd.below B3); have HB3 := Lib.hid B3; have HR3 := Lib.hid (hrd.below B3); clear hbd hrd B3)
  all_goals
    have hX := ((((((HR3.out.setC 0 (.bool a)).setC 1 (.bool b)).setC 2 (.bool c)).setC 3 (.bool d)).setC 4 (.bool e)).setC 5 (.bool f))
    simp only [List.setIfInBounds_toArray, List.set_cons_zero, List.set_cons_succ] at hX
    have hb3 : Below w.heap.size w w3 := HB0.out.trans ((show Below W0.heap.size W0.drew w3 from HB3.out).mono HB0.out.size |> fun h => ⟨h.os, h.tape, h.output, h.size, h.block⟩)
    have hB9 : Below w.heap.size w ((((((w3.setCell ⟨w.heap.size + 1, 0, none⟩ (.bool a)).setCell ⟨w.heap.size + 1, 1, none⟩ (.bool b)).setCell ⟨w.heap.size + 1, 2, none⟩ (.bool c)).setCell ⟨w.heap.size + 1, 3, none⟩ (.bool d)).setCell ⟨w.heap.size + 1, 4, none⟩ (.bool e)).setCell ⟨w.heap.size + 1, 5, none⟩ (.bool f)) := ((((((hb3.setCell (by simp) _).setCell (by simp) _).setCell (by simp) _).setCell (by simp) _).setCell (by simp) _).setCell (by simp) _)
    have HX := Lib.hid hX
    have HB9 := Lib.hid hB9
    clear hX hb3 hB9 g0 R0 R1 R2 R3 R4 R5 F0 F1 F2 F3 F4 F5 HB3 HR3
    generalize ((((((w3.setCell ⟨w.heap.size + 1, 0, none⟩ (.bool a)).setCell ⟨w.heap.size + 1, 1, none⟩ (.bool b)).setCell ⟨w.heap.size + 1, 2, none⟩ (.bool c)).setCell ⟨w.heap.size + 1, 3, none⟩ (.bool d)).setCell ⟨w.heap.size + 1, 4, none⟩ (.bool e)).setCell ⟨w.heap.size + 1, 5, none⟩ (.bool f)) = W9 at *
    go_wp2_with fail
    refine bodyPost_ret (v := .agg #[.bool a, .bool b, .bool c, .bool d, .bool e, .bool f]) ?_ rfl ⟨rfl, HB9.out⟩
    have x0 := HX.out.cell 0
    have x1 := HX.out.cell 1
    have x2 := HX.out.cell 2
    have x3 := HX.out.cell 3
    have x4 := HX.out.cell 4
    have x5 := HX.out.cell 5
    simp only [List.getElem?_toArray, List.getElem?_cons_zero, List.getElem?_cons_succ] at x0 x1 x2 x3 x4 x5
    simp [results, Try.results89, go_sem, x0, x1, x2, x3, x4, x5]
end Go.Proofs.Ytkgcbhpgkcfkhaa
