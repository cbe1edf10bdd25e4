/- Room for parts. -/
import Derived.Test.YtglkndoghnblcaaGreatDoorLpa
import Derived.Lib.AppendZeros
namespace Go.Proofs.YtglkndoghnblcaaGreatDoor
open Go.ChangeShapes Go.WideShapes Go.ChangeAt Go.RowKit
set_option linter.unusedVariables false
set_option linter.unusedSimpArgs false
theorem und3 : Tryz.prog.underlying 3 = some (.int .i64) := Tryz.underlying3
theorem zc_size (n : Nat) : (Builtin.zeroCells (Value.cells (.agg #[.string { data := #[] }, .int .i64 0])) n).size = n * 2 := by
  induction n with
  | zero => simp [Builtin.zeroCells]
  | succ n ih => simp [Builtin.zeroCells, Value.cells] at *
set_option maxRecDepth 100000 in
set_option maxHeartbeats 4000000 in
/-- slices.Grow of nothing at parts (90). -/
theorem grow_law (n : Nat) (hn : n ≤ 1000000) (w : World) :
    Calls Tryz.prog 90 #[.slice none 0 0, .int .i64 (n : Int)] w fun r w' => ∃ v, r = .returned v ∧ w'.ownsRow w.heap.size 42 2 v 0 (lcells []) ∧ w.grownBy w' none := by
  by_cases h0 : n = 0
  · subst h0
    go_enter Tryz.func90, Tryz.ntmps90
    go_wp2_with fail
    go_ret
    exact ⟨_, rfl, World.ownsRow_nil _ _ _ _, ⟨rfl, rfl, rfl, Nat.le_refl _, fun _ _ _ => rfl⟩⟩
  · obtain ⟨i0, hi, hz0, hz1, hz2⟩ := info_parts info76
    have hm := grownCap_le_maxLen w n 0 42 (by unfold maxLen; omega)
    have hg := grownCap_ge w n 0 42
    have hrz := fun ty => Lib.run_append_nil_zeros (P := Tryz.prog) w 37 3 ty 42 i0 _ .i64 .i64 Tryz.underlying37 Tryz.underlying3 hi hz0 n (by omega) (by rw [hz1]; decide) (by omega) (by rw [hz2]; omega)
    have hsz : (Builtin.zeroCells (Value.cells (.agg #[.string { data := #[] }, .int .i64 0])) n ++ Builtin.zeroCells (Value.cells (.agg #[.string { data := #[] }, .int .i64 0])) (grownCap w n 0 42 - n)).size = grownCap w n 0 42 * 2 := by
      rw [Array.size_append, zc_size, zc_size]; omega
    generalize Builtin.zeroCells (Value.cells (.agg #[.string { data := #[] }, .int .i64 0])) n ++ Builtin.zeroCells (Value.cells (.agg #[.string { data := #[] }, .int .i64 0])) (grownCap w n 0 42 - n) = C at hrz hsz
    generalize grownCap w n 0 42 = G at *
    have HO := Lib.hid (World.ownsRow_made (e := 42) (size := 2) (base := w.heap.size) w.drew C G (Nat.le_refl _) hm hsz)
    have HG := Lib.hid (show w.grownBy (w.drew.alloc (.cells C 42)) none from ⟨rfl, rfl, rfl, by simp, fun k hk _ => by have := heap_alloc_old w.drew (.cells C 42) hk; exact this⟩)
    have HRZ := Lib.hid hrz
    have d1 : (0 : Int) < (n : Int) := by omega
    have d2 : ¬ (n : Int) < 0 := by omega
    have d3 : (n : Int) ≤ 1000000 := by omega
    have hs : w.drew.heap.size = w.heap.size := rfl
    have d4 : n ≤ G := hg
    have d5 : (G : Int) ≤ 9223372036854775807 := by unfold maxLen at hm; omega
    clear hz0 hz1 hz2 hrz hsz h0 hi hm hg
    go_enter Tryz.func90, Tryz.ntmps90
    go_wp2_with (at_builtin; refine Lib.wpList_append_run _ rfl _ _ _ _ rfl _ _ rfl rfl _ _ (HRZ.out _) ?_)
    go_ret
    exact ⟨_, rfl, HO.out, HG.out⟩
end Go.Proofs.YtglkndoghnblcaaGreatDoor
