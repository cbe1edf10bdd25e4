/- The empty manifest. -/
import Derived.Test.YtglkndoghnblcaaGreatDoorLpa
namespace Go.Proofs.YtglkndoghnblcaaGreatDoor
open Go.ChangeShapes Go.WideShapes Go.ChangeAt Go.RowKit
set_option linter.unusedVariables false
set_option linter.unusedSimpArgs false
set_option maxRecDepth 100000 in
set_option maxHeartbeats 4000000 in
/-- Is it the empty manifest (41). -/
theorem zero_law (g e f : Int) (nm : ByteArray) (a : Option Addr) (n cap : Nat) (w : World) :
    Calls Tryz.prog 41 #[.agg #[.int .i64 g, .string nm, .int .i64 e, .int .i64 f, .slice a n cap]] w fun r w' => r = .returned (.bool (zerB g e f nm n)) ∧ Below w.heap.size w w' := by
  go_enter Tryz.func41, Tryz.ntmps41
  go_upto_region 1 with (fail)
  obtain ⟨W1, hW0⟩ : ∃ W0, (w.alloc (.cells #[.int .i64 g, .string nm, .int .i64 e, .int .i64 f, .slice a n cap] 39)) = W0 := ⟨_, rfl⟩
  have hb0 : Below w.heap.size w W1 := by rw [← hW0]; exact bl1 _ _
  have bx : BoxC W1 w.heap.size #[.int .i64 g, .string nm, .int .i64 e, .int .i64 f, .slice a n cap] 39 := by rw [← hW0]; exact BoxC.new w _ 39
  try rw [hW0]
  clear hW0
  have HB0 := Lib.hid hb0
  have c0 := bx.cell 0
  have c1 := bx.cell 1
  have c2 := bx.cell 2
  have c3 := bx.cell 3
  have c4 := bx.cell 4
  simp at c0 c1 c2 c3 c4
  clear hb0 bx
  cases hg : (g == 0)
  · have HV : zerB g e f nm n = false := by simp [zerB, hg]
    have HV := Lib.hid HV
    go_wp2_with fail
    go_ret
    exact ⟨by rw [HV.out]; rfl, HB0.out⟩
  cases hn : (nm.toList == ([] : List UInt8))
  · have HV : zerB g e f nm n = false := by simp [zerB, hg, hn]
    have HV := Lib.hid HV
    go_wp2_with fail
    go_ret
    exact ⟨by rw [HV.out]; rfl, HB0.out⟩
  cases he : (e == 0)
  · have HV : zerB g e f nm n = false := by simp [zerB, hg, hn, he]
    have HV := Lib.hid HV
    go_wp2_with fail
    go_ret
    exact ⟨by rw [HV.out]; rfl, HB0.out⟩
  cases hf : (f == 0)
  · have HV : zerB g e f nm n = false := by simp [zerB, hg, hn, he, hf]
    have HV := Lib.hid HV
    go_wp2_with fail
    go_ret
    exact ⟨by rw [HV.out]; rfl, HB0.out⟩
  cases hx : ((n : Int) == 0)
  · have HV : zerB g e f nm n = false := by simp [zerB, hx]
    have HV := Lib.hid HV
    go_wp2_with fail
    go_ret
    exact ⟨by rw [HV.out]; rfl, HB0.out⟩
  · have HV : zerB g e f nm n = true := by unfold zerB; rw [hg, hn, he, hf, hx]; rfl
    have HV := Lib.hid HV
    go_wp2_with fail
    go_ret
    exact ⟨by rw [HV.out]; rfl, HB0.out⟩
end Go.Proofs.YtglkndoghnblcaaGreatDoor
