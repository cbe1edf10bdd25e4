/- Two calls that may not be, by contracts. -/
import Derived.Test.YtkgcbhpgkcfkhaaCk3
namespace Go.Proofs.Ytkgcbhpgkcfkhaa
open Go.ChangeShapes Go.WideShapes Go.ChangeAt Go.RowKit Go.Shelf
set_option linter.unusedVariables false
set_option linter.unusedSimpArgs false

theorem ix5 : ∀ W : World, (Instr.index 155 (.agg kV) (.int .i64 ((5 : Nat) : Int))).run Try.prog W = .ok (kN true false false true false false) W := fun W => by kernel_rfl
theorem ix2 : ∀ W : World, (Instr.index 155 (.agg kV) (.int .i64 ((2 : Nat) : Int))).run Try.prog W = .ok (kN true true true false false true) W := fun W => by kernel_rfl
set_option maxRecDepth 100000 in
set_option maxHeartbeats 4000000 in
theorem mayop_scan (j : Job) (hok : okB j = true) (w : World) (hj : JobAt w j) : Calls Try.prog 56 #[.agg #[.int .i64 j.w, .int .i64 j.l, .int .i64 j.d, .int .i64 j.c, .int .i64 j.k, .int .i64 j.e, .slice j.a j.n j.cap], .agg #[.int .i64 5, .int .i64 0, .int .i64 0, .slice none 0 0, .slice none 0 0, .int .i64 65, .slice none 0 0]] w fun r w' => r = .returned (.bool false) ∧ Below w.heap.size w w' := by
  have hn1 : 1 ≤ j.n ∧ j.n ≤ 4 := by
    unfold okB hB at hok; simp at hok; omega
  have hni : (j.n : Int) ≤ 4 := by omega
  have hnj : (1 : Int) ≤ (j.n : Int) := by omega
  have h1 : inB 0 0 ((j.n : Int) - 1) = true := by unfold inB; simp; omega
  have h2 : inB 0 0 0 = true := by decide
  have h3 : inB 65 1 64 = false := by decide
  have hck : chkV j = 0 := by unfold chkV; rw [if_pos hok]
  have b0 := ((Below.refl w.heap.size w).alloc (Nat.le_refl _) (.cells #[.int .i64 j.w, .int .i64 j.l, .int .i64 j.d, .int .i64 j.c, .int .i64 j.k, .int .i64 j.e, .slice j.a j.n j.cap] 53)).alloc (by simp) (.cells #[.int .i64 5, .int .i64 0, .int .i64 0, .slice none 0 0, .slice none 0 0, .int .i64 65, .slice none 0 0] 98)
  have hb := (BoxC.new w #[.int .i64 j.w, .int .i64 j.l, .int .i64 j.d, .int .i64 j.c, .int .i64 j.k, .int .i64 j.e, .slice j.a j.n j.cap] 53).below ((Below.refl _ _).alloc (Nat.le_refl _) (.cells #[.int .i64 5, .int .i64 0, .int .i64 0, .slice none 0 0, .slice none 0 0, .int .i64 65, .slice none 0 0] 98))
  have ho := BoxC.new (w.alloc (.cells #[.int .i64 j.w, .int .i64 j.l, .int .i64 j.d, .int .i64 j.c, .int .i64 j.k, .int .i64 j.e, .slice j.a j.n j.cap] 53)) #[.int .i64 5, .int .i64 0, .int .i64 0, .slice none 0 0, .slice none 0 0, .int .i64 65, .slice none 0 0] 98
  rw [World.size_alloc] at ho
  have HJ := Lib.hid hj
  have HK := Lib.hid (fun W => kind_in 5 (by decide) _ _ _ _ _ _ ix5 0 0 65 none none none 0 0 0 0 0 0 W)
  have HCK := Lib.hid hck
  have HB0 := Lib.hid b0
  have HB := Lib.hid hb
  have HO := Lib.hid ho
  clear hj hck b0 hb ho hok
  go_enter Try.func56, Try.ntmps56
  go_wp2_with fail
  refine (HK.out _).mono ?_; rintro r w2 ⟨rfl, B2⟩
  unfold kN
  have HB2 := Lib.hid (step_below HB0.out B2)
  have hbj := (HB.out.below B2).below ((Below.refl _ _).alloc (Nat.le_refl _) (.cells #[.bool true, .bool false, .bool false, .bool true, .bool false, .bool false] 133))
  have hbo := (HO.out.below B2).below ((Below.refl _ _).alloc (Nat.le_refl _) (.cells #[.bool true, .bool false, .bool false, .bool true, .bool false, .bool false] 133))
  have hbk := BoxC.new w2 #[.bool true, .bool false, .bool false, .bool true, .bool false, .bool false] 133
  have hB3 := step_below HB2.out ((Below.refl w2.heap.size w2).alloc (Nat.le_refl _) (.cells #[.bool true, .bool false, .bool false, .bool true, .bool false, .bool false] 133))
  have g0 := (hbj).cell 0
  have g1 := (hbj).cell 1
  have g2 := (hbj).cell 2
  have g3 := (hbj).cell 3
  have g4 := (hbj).cell 4
  have g5 := (hbj).cell 5
  have g6 := (hbj).cell 6
  simp only [List.getElem?_toArray, List.getElem?_cons_zero, List.getElem?_cons_succ] at g0 g1 g2 g3 g4 g5 g6
  have HBJ := Lib.hid hbj
  have HBO := Lib.hid hbo
  have HBK := Lib.hid hbk
  have HB3 := Lib.hid hB3
  clear B2 hbj hbo hbk hB3
  go_wp2_with fail
  refine (check_law j _ (HJ.out.below HB3.out)).mono ?_; rintro r w3 ⟨rfl, B3⟩
  rw [HCK.out]
  clear g0 g1 g2 g3 g4 g5 g6
  have o0 := (HBO.out.below B3).cell 0
  have o1 := (HBO.out.below B3).cell 1
  have o2 := (HBO.out.below B3).cell 2
  have o3 := (HBO.out.below B3).cell 3
  have o4 := (HBO.out.below B3).cell 4
  have o5 := (HBO.out.below B3).cell 5
  have o6 := (HBO.out.below B3).cell 6
  have k0 := (HBK.out.below B3).cell 0
  have k1 := (HBK.out.below B3).cell 1
  have k2 := (HBK.out.below B3).cell 2
  have k3 := (HBK.out.below B3).cell 3
  have k4 := (HBK.out.below B3).cell 4
  have k5 := (HBK.out.below B3).cell 5
  have j6 := (HBJ.out.below B3).cell 6
  simp only [List.getElem?_toArray, List.getElem?_cons_zero, List.getElem?_cons_succ] at o0 o1 o2 o3 o4 o5 o6 k0 k1 k2 k3 k4 k5 j6
  have HB4 := Lib.hid (step_below HB3.out B3)
  clear B3
  go_wp2_with (go_at_call 75; refine (within_law _ _ _ _).mono ?_; rintro r w9 ⟨rfl, rfl⟩; first | rw [h1] | rw [h2] | rw [h3])
  go_ret
  exact ⟨rfl, HB4.out⟩
set_option maxRecDepth 100000 in
set_option maxHeartbeats 4000000 in
theorem mayop_put (j : Job) (hok : okB j = true) (ka : Option Addr) (kn kc : Nat) (w : World) (hj : JobAt w j) : Calls Try.prog 56 #[.agg #[.int .i64 j.w, .int .i64 j.l, .int .i64 j.d, .int .i64 j.c, .int .i64 j.k, .int .i64 j.e, .slice j.a j.n j.cap], .agg #[.int .i64 2, .int .i64 0, .int .i64 0, .slice ka kn kc, .slice none 0 0, .int .i64 0, .slice none 0 0]] w fun r w' => r = .returned (.bool false) ∧ Below w.heap.size w w' := by
  have hn1 : 1 ≤ j.n ∧ j.n ≤ 4 := by
    unfold okB hB at hok; simp at hok; omega
  have hni : (j.n : Int) ≤ 4 := by omega
  have hnj : (1 : Int) ≤ (j.n : Int) := by omega
  have h1 : inB 0 0 ((j.n : Int) - 1) = true := by unfold inB; simp; omega
  have h2 : inB 0 0 0 = true := by decide
  have h3 : inB 65 1 64 = false := by decide
  have hck : chkV j = 0 := by unfold chkV; rw [if_pos hok]
  have b0 := ((Below.refl w.heap.size w).alloc (Nat.le_refl _) (.cells #[.int .i64 j.w, .int .i64 j.l, .int .i64 j.d, .int .i64 j.c, .int .i64 j.k, .int .i64 j.e, .slice j.a j.n j.cap] 53)).alloc (by simp) (.cells #[.int .i64 2, .int .i64 0, .int .i64 0, .slice ka kn kc, .slice none 0 0, .int .i64 0, .slice none 0 0] 98)
  have hb := (BoxC.new w #[.int .i64 j.w, .int .i64 j.l, .int .i64 j.d, .int .i64 j.c, .int .i64 j.k, .int .i64 j.e, .slice j.a j.n j.cap] 53).below ((Below.refl _ _).alloc (Nat.le_refl _) (.cells #[.int .i64 2, .int .i64 0, .int .i64 0, .slice ka kn kc, .slice none 0 0, .int .i64 0, .slice none 0 0] 98))
  have ho := BoxC.new (w.alloc (.cells #[.int .i64 j.w, .int .i64 j.l, .int .i64 j.d, .int .i64 j.c, .int .i64 j.k, .int .i64 j.e, .slice j.a j.n j.cap] 53)) #[.int .i64 2, .int .i64 0, .int .i64 0, .slice ka kn kc, .slice none 0 0, .int .i64 0, .slice none 0 0] 98
  rw [World.size_alloc] at ho
  have HJ := Lib.hid hj
  have HK := Lib.hid (fun W => kind_in 2 (by decide) _ _ _ _ _ _ ix2 0 0 0 ka none none kn kc 0 0 0 0 W)
  have HCK := Lib.hid hck
  have HB0 := Lib.hid b0
  have HB := Lib.hid hb
  have HO := Lib.hid ho
  clear hj hck b0 hb ho hok
  go_enter Try.func56, Try.ntmps56
  go_wp2_with fail
  refine (HK.out _).mono ?_; rintro r w2 ⟨rfl, B2⟩
  unfold kN
  have HB2 := Lib.hid (step_below HB0.out B2)
  have hbj := (HB.out.below B2).below ((Below.refl _ _).alloc (Nat.le_refl _) (.cells #[.bool true, .bool true, .bool true, .bool false, .bool false, .bool true] 133))
  have hbo := (HO.out.below B2).below ((Below.refl _ _).alloc (Nat.le_refl _) (.cells #[.bool true, .bool true, .bool true, .bool false, .bool false, .bool true] 133))
  have hbk := BoxC.new w2 #[.bool true, .bool true, .bool true, .bool false, .bool false, .bool true] 133
  have hB3 := step_below HB2.out ((Below.refl w2.heap.size w2).alloc (Nat.le_refl _) (.cells #[.bool true, .bool true, .bool true, .bool false, .bool false, .bool true] 133))
  have g0 := (hbj).cell 0
  have g1 := (hbj).cell 1
  have g2 := (hbj).cell 2
  have g3 := (hbj).cell 3
  have g4 := (hbj).cell 4
  have g5 := (hbj).cell 5
  have g6 := (hbj).cell 6
  simp only [List.getElem?_toArray, List.getElem?_cons_zero, List.getElem?_cons_succ] at g0 g1 g2 g3 g4 g5 g6
  have HBJ := Lib.hid hbj
  have HBO := Lib.hid hbo
  have HBK := Lib.hid hbk
  have HB3 := Lib.hid hB3
  clear B2 hbj hbo hbk hB3
  go_wp2_with fail
  refine (check_law j _ (HJ.out.below HB3.out)).mono ?_; rintro r w3 ⟨rfl, B3⟩
  rw [HCK.out]
  clear g0 g1 g2 g3 g4 g5 g6
  have o0 := (HBO.out.below B3).cell 0
  have o1 := (HBO.out.below B3).cell 1
  have o2 := (HBO.out.below B3).cell 2
  have o3 := (HBO.out.below B3).cell 3
  have o4 := (HBO.out.below B3).cell 4
  have o5 := (HBO.out.below B3).cell 5
  have o6 := (HBO.out.below B3).cell 6
  have k0 := (HBK.out.below B3).cell 0
  have k1 := (HBK.out.below B3).cell 1
  have k2 := (HBK.out.below B3).cell 2
  have k3 := (HBK.out.below B3).cell 3
  have k4 := (HBK.out.below B3).cell 4
  have k5 := (HBK.out.below B3).cell 5
  have j6 := (HBJ.out.below B3).cell 6
  simp only [List.getElem?_toArray, List.getElem?_cons_zero, List.getElem?_cons_succ] at o0 o1 o2 o3 o4 o5 o6 k0 k1 k2 k3 k4 k5 j6
  have HB4 := Lib.hid (step_below HB3.out B3)
  clear B3
  go_wp2_with (go_at_call 75; refine (within_law _ _ _ _).mono ?_; rintro r w9 ⟨rfl, rfl⟩; first | rw [h1] | rw [h2] | rw [h3])
  go_ret
  exact ⟨rfl, HB4.out⟩
end Go.Proofs.Ytkgcbhpgkcfkhaa
