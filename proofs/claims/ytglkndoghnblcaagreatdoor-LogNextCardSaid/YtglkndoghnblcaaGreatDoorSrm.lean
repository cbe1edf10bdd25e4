/- The document's SameManifest. -/
import Derived.Test.YtglkndoghnblcaaGreatDoorSrj
namespace Go.Proofs.YtglkndoghnblcaaGreatDoor
open Go.ChangeShapes Go.WideShapes Go.ChangeAt Go.RowKit
set_option linter.unusedVariables false
set_option linter.unusedSimpArgs false
theorem neq_part (s : ByteArray) (t : Int) (W : World) : (binOp .neq 42 (.agg #[.string s, .int .i64 t]) (.agg #[.string s, .int .i64 t])).run Tryz.prog W = .ok (.bool false) W := by
  go_simp
set_option maxRecDepth 100000 in
set_option maxHeartbeats 4000000 in
/-- The document's SameManifest (41), of two that are the same. -/
theorem rsameman_eq (g e f : Int) (nm : ByteArray) (a b : Option Addr) (xs : List LpV) (n ca cb : Nat) (hn : xs.length = n) (hn2 : n ≤ 1000000) (w : World) (hA : LpsR w a xs) (hB : LpsR w b xs) :
    Calls Tryz.prog 19 #[.agg #[.int .i64 g, .string nm, .int .i64 e, .int .i64 f, .slice a n ca], .agg #[.int .i64 g, .string nm, .int .i64 e, .int .i64 f, .slice b n cb]] w fun r w' => r = .returned (.bool true) ∧ Below w.heap.size w w' := by
  have HR := Lib.hid (And.intro hA hB)
  have HN := Lib.hid hn
  have hni : (n : Int) ≤ 1000000 := by omega
  clear hA hB hn
  go_enter Tryz.func19, Tryz.ntmps19
  go_upto_region 1 with (fail)
  obtain ⟨W1, hW0⟩ : ∃ W0, ((w.alloc (.cells #[.int .i64 g, .string nm, .int .i64 e, .int .i64 f, .slice a n ca] 39)).alloc (.cells #[.int .i64 g, .string nm, .int .i64 e, .int .i64 f, .slice b n cb] 39)) = W0 := ⟨_, rfl⟩
  have hb0 : Below w.heap.size w W1 := by rw [← hW0]; exact step_below (bl1 _ _) (bl1 _ _)
  have bx : BoxC W1 w.heap.size #[.int .i64 g, .string nm, .int .i64 e, .int .i64 f, .slice a n ca] 39 := by rw [← hW0]; exact (BoxC.new w _ 39).alloc _
  have by_ : BoxC W1 (w.heap.size + 1) #[.int .i64 g, .string nm, .int .i64 e, .int .i64 f, .slice b n cb] 39 := by
    rw [← hW0]
    have := BoxC.new (w.alloc (.cells #[.int .i64 g, .string nm, .int .i64 e, .int .i64 f, .slice a n ca] 39)) #[.int .i64 g, .string nm, .int .i64 e, .int .i64 f, .slice b n cb] 39
    simpa using this
  try rw [hW0]
  clear hW0
  have HB0 := Lib.hid hb0
  have FQ := Lib.hid (fun X (b' : Below W1.heap.size W1 X) => (⟨(bx.below b').cell 0, (bx.below b').cell 1, (bx.below b').cell 2, (bx.below b').cell 3, (bx.below b').cell 4, (by_.below b').cell 0, (by_.below b').cell 1, (by_.below b').cell 2, (by_.below b').cell 3, (by_.below b').cell 4⟩ : X.cell? ⟨w.heap.size, 0, none⟩ = some (.int .i64 g) ∧ X.cell? ⟨w.heap.size, 1, none⟩ = some (.string nm) ∧ X.cell? ⟨w.heap.size, 2, none⟩ = some (.int .i64 e) ∧ X.cell? ⟨w.heap.size, 3, none⟩ = some (.int .i64 f) ∧ X.cell? ⟨w.heap.size, 4, none⟩ = some (.slice a n ca) ∧ X.cell? ⟨w.heap.size + 1, 0, none⟩ = some (.int .i64 g) ∧ X.cell? ⟨w.heap.size + 1, 1, none⟩ = some (.string nm) ∧ X.cell? ⟨w.heap.size + 1, 2, none⟩ = some (.int .i64 e) ∧ X.cell? ⟨w.heap.size + 1, 3, none⟩ = some (.int .i64 f) ∧ X.cell? ⟨w.heap.size + 1, 4, none⟩ = some (.slice b n cb)))
  clear hb0 bx by_
  obtain ⟨y0, y1, y2, y3, y4, z0, z1, z2, z3, z4⟩ := FQ.out W1 (Below.refl _ _)
  have e1 : (g != g) = false := by simp
  have e2 : (e != e) = false := by simp
  have e3 : (f != f) = false := by simp
  have e4 : ((n : Int) != (n : Int)) = false := by simp
  go_wp2_with fail
  clear y0 y1 y2 y3 y4 z0 z1 z2 z3 z4
  go_loopw [5] (fun i wr => ∃ k : Nat, k ≤ n ∧ i = .int .i64 (k : Int) ∧ Hid (Below W1.heap.size W1 wr)) (fun i _ => n - (intOf i).toNat)
  case atStart => exact ⟨0, by omega, rfl, Lib.hid (Below.refl _ _)⟩
  case round =>
    obtain ⟨k, hk, rfl, HBW⟩ := hrel
    obtain ⟨y0, y1, y2, y3, y4, z0, z1, z2, z3, z4⟩ := FQ.out wr HBW.out
    by_cases hlt : k < n
    · have d1 : (k : Int) < (n : Int) := by omega
      obtain ⟨x, hx⟩ : ∃ x, xs[k]? = some x := ⟨_, List.getElem?_eq_getElem (by rw [HN.out]; exact hlt)⟩
      obtain ⟨b1, o1, rfl, c0, c1⟩ := (HR.out.1.below (step_below HB0.out HBW.out)) k x hx
      obtain ⟨b2, o2, rfl, c2, c3⟩ := (HR.out.2.below (step_below HB0.out HBW.out)) k x hx
      have hnq := fun W => neq_part x.1 x.2 W
      obtain ⟨xn, hxn⟩ : ∃ z, x.1 = z := ⟨_, rfl⟩
      obtain ⟨xt, hxt⟩ : ∃ z, x.2 = z := ⟨_, rfl⟩
      rw [hxn] at c0 c2 hnq
      rw [hxt] at c1 c3 hnq
      clear hx hxn hxt
      go_wp2_with fail
      go_quiet (fail)
      go_wp2_with fail
      go_roundw
      case rel => exact ⟨k + 1, by omega, by go_num, Lib.hid (below_drewN HBW.out _)⟩
      case measure => simp [intOf]; omega
    · have d1 : ¬ (k : Int) < (n : Int) := by omega
      go_wp2_with fail
      go_ret
      exact ⟨rfl, step_below HB0.out HBW.out⟩
end Go.Proofs.YtglkndoghnblcaaGreatDoor
