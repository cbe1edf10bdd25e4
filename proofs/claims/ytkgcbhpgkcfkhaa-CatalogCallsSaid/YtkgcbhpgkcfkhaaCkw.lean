/- The chapter's rows, by a contract. -/
import Derived.Test.YtkgcbhpgkcfkhaaCkn
import Derived.Test.YtkgcbhpgkcfkhaaKno
import Derived.BigRegion
namespace Go.Proofs.Ytkgcbhpgkcfkhaa
open Go.ChangeShapes Go.WideShapes Go.ChangeAt Go.RowKit Go.Shelf
set_option linter.unusedVariables false
set_option linter.unusedSimpArgs false

theorem info24k : (Try.prog.info? 24).map (fun i => (i.zero, i.size, i.bytes)) = some (some (.slice none 0 0), 1, 24) := by kernel_rfl
theorem hi23 (W : World) (g n c i : Nat) (hi : i ≤ n) (hnc : n ≤ c) : (Instr.slice 23 (.slice (some ⟨g, 0, none⟩) n c) .none (some (.int .i64 (i : Int))) .none).run Try.prog W = .ok (.slice (some ⟨g, 0, none⟩) i c) W := by
  obtain ⟨i0, hi0, hz0, hz1, hz2⟩ := info_parts info24k
  have hel : Try.prog.elem 23 = 24 := by simp [Program.elem, Try.underlying23]
  rw [run_slice_h (P := Try.prog) (w := W) 23 (some ⟨g, 0, none⟩) n c (by rw [hel]; exact Try.underlying23) .i64 i (by omega) (by omega)]
  have hs : ((sizeOf (Try.prog.elem 23)).run Try.prog W) = .ok 1 W := by rw [hel]; simp [sizeOf, typeInfo, hi0, hz1]
  rw [hs]
  simp [sliced, Result.andThen, Addr.add]
theorem kCk (b : Nat) (W : World) (hj : JobAt W (kJ b)) : Calls Try.prog 36 #[kjV b] W fun r W' => r = .returned (.int .i64 0) ∧ Below W.heap.size W W' := by
  have := check_law (kJ b) W hj
  rwa [kChk] at this
theorem kTrs (b : Nat) (W : World) (hj : JobAt W (kJ b)) : Calls Try.prog 38 #[kjV b] W fun r W' => r = .returned (.int .i64 4) ∧ Below W.heap.size W W' := by
  have := trees_law (kJ b) W hj
  rwa [kNamed] at this
theorem oneLit (w : World) (L : List Int) (cs : Array Value) (fr : Nat × Nat) (n c : Nat) (hn : L.length = n) (hcs : cs = (iv .u8 L).toArray) : One ((w.alloc (.cells cs 5 fr)).alloc (.cells #[.int .i64 2, .slice (some ⟨w.heap.size, 0, none⟩) n n] 91)) (some ⟨w.heap.size + 1, 0, none⟩) c L := by
  subst hn
  have hb := BoxC.new (w.alloc (.cells cs 5 fr)) #[.int .i64 2, .slice (some ⟨w.heap.size, 0, none⟩) L.length L.length] 91
  rw [World.size_alloc] at hb
  refine ⟨(2, ⟨some ⟨w.heap.size, 0, none⟩, L.length, L⟩), fun k p hp => ?_, rfl, rfl⟩
  match k, hp with
  | 0, hp =>
    simp at hp
    subst hp
    exact ⟨w.heap.size + 1, 0, rfl, hb.cell 0, hb.cell 1, (ls_new .u8 w L cs 5 fr hcs L.length rfl).below (below_new _ _)⟩
set_option maxRecDepth 100000 in
set_option maxHeartbeats 8000000 in
theorem known33 (w : World) : Calls Try.prog 33 #[] w fun r w' => r = .returned (.bool true) ∧ Below w.heap.size w w' := by
  have kc := fun (w : World) (C : Array Value) (n c b : Nat) (hb : b = w.heap.size) => (by subst hb; exact Lib.run_convert_bytes_const w 24 5 C n c Try.underlying24 Try.underlying5 : (convert 24 24 (.slice (some ⟨b, 0, none⟩) n c)).run Try.prog (w.alloc (.cells C 5)) = .ok (.slice (some ⟨b, 0, none⟩) n c) (w.alloc (.cells C 5 (C.size, C.size + 1))))
  go_enter Try.func33, Try.ntmps33
  go_wp2_with fail
  refine (job_law _).mono ?_; rintro r w1 ⟨⟨b, rfl, hj⟩, B1⟩
  unfold kjV
  have hbx := BoxC.new w1 #[.int .i64 1, .int .i64 1, .int .i64 3, .int .i64 1024, .int .i64 1024, .int .i64 1, .slice (some ⟨b, 0, none⟩) 2 2] 53
  have hjj := hj.below ((Below.refl w1.heap.size w1).alloc (Nat.le_refl _) (.cells #[.int .i64 1, .int .i64 1, .int .i64 3, .int .i64 1024, .int .i64 1024, .int .i64 1, .slice (some ⟨b, 0, none⟩) 2 2] 53))
  have hBw := step_below B1 ((Below.refl w1.heap.size w1).alloc (Nat.le_refl _) (.cells #[.int .i64 1, .int .i64 1, .int .i64 3, .int .i64 1024, .int .i64 1024, .int .i64 1, .slice (some ⟨b, 0, none⟩) 2 2] 53))
  clear hj B1
  go_wp2_with fail
  generalize w1.alloc (.cells #[.int .i64 1, .int .i64 1, .int .i64 3, .int .i64 1024, .int .i64 1024, .int .i64 1, .slice (some ⟨b, 0, none⟩) 2 2] 53) = WB at *
  generalize w1.heap.size = B at *
  have HX := Lib.hid hbx
  have HJ := Lib.hid hjj
  have HW := Lib.hid hBw
  have HB0 := Lib.hid (Below.refl WB.heap.size WB)
  clear hbx hjj hBw
  refine (kTree b 0 (-1) 0 0 rfl _ (HJ.out.below HB0.out)).mono ?_; rintro r w2 ⟨rfl, B2⟩
  have HB1 := Lib.hid (step_below HB0.out B2)
  clear B2
  have g0 : w2.cell? ⟨B, 0, none⟩ = some (.int .i64 1) := (HX.out.below HB1.out).cell 0
  have g1 : w2.cell? ⟨B, 1, none⟩ = some (.int .i64 1) := (HX.out.below HB1.out).cell 1
  have g2 : w2.cell? ⟨B, 2, none⟩ = some (.int .i64 3) := (HX.out.below HB1.out).cell 2
  have g3 : w2.cell? ⟨B, 3, none⟩ = some (.int .i64 1024) := (HX.out.below HB1.out).cell 3
  have g4 : w2.cell? ⟨B, 4, none⟩ = some (.int .i64 1024) := (HX.out.below HB1.out).cell 4
  have g5 : w2.cell? ⟨B, 5, none⟩ = some (.int .i64 1) := (HX.out.below HB1.out).cell 5
  have g6 : w2.cell? ⟨B, 6, none⟩ = some (.slice (some ⟨b, 0, none⟩) 2 2) := (HX.out.below HB1.out).cell 6
  go_wp2_with fail
  refine (kTree b 1 (-1) 1 0 rfl _ (HJ.out.below HB1.out)).mono ?_; rintro r w3 ⟨rfl, B2⟩
  have HB2 := Lib.hid (step_below HB1.out B2)
  clear B2
  clear g0 g1 g2 g3 g4 g5 g6
  have g0 : w3.cell? ⟨B, 0, none⟩ = some (.int .i64 1) := (HX.out.below HB2.out).cell 0
  have g1 : w3.cell? ⟨B, 1, none⟩ = some (.int .i64 1) := (HX.out.below HB2.out).cell 1
  have g2 : w3.cell? ⟨B, 2, none⟩ = some (.int .i64 3) := (HX.out.below HB2.out).cell 2
  have g3 : w3.cell? ⟨B, 3, none⟩ = some (.int .i64 1024) := (HX.out.below HB2.out).cell 3
  have g4 : w3.cell? ⟨B, 4, none⟩ = some (.int .i64 1024) := (HX.out.below HB2.out).cell 4
  have g5 : w3.cell? ⟨B, 5, none⟩ = some (.int .i64 1) := (HX.out.below HB2.out).cell 5
  have g6 : w3.cell? ⟨B, 6, none⟩ = some (.slice (some ⟨b, 0, none⟩) 2 2) := (HX.out.below HB2.out).cell 6
  go_wp2_with fail
  refine (kTree b 1 1 3 0 rfl _ (HJ.out.below HB2.out)).mono ?_; rintro r w4 ⟨rfl, B2⟩
  have HB3 := Lib.hid (step_below HB2.out B2)
  clear B2
  clear g0 g1 g2 g3 g4 g5 g6
  have g0 : w4.cell? ⟨B, 0, none⟩ = some (.int .i64 1) := (HX.out.below HB3.out).cell 0
  have g1 : w4.cell? ⟨B, 1, none⟩ = some (.int .i64 1) := (HX.out.below HB3.out).cell 1
  have g2 : w4.cell? ⟨B, 2, none⟩ = some (.int .i64 3) := (HX.out.below HB3.out).cell 2
  have g3 : w4.cell? ⟨B, 3, none⟩ = some (.int .i64 1024) := (HX.out.below HB3.out).cell 3
  have g4 : w4.cell? ⟨B, 4, none⟩ = some (.int .i64 1024) := (HX.out.below HB3.out).cell 4
  have g5 : w4.cell? ⟨B, 5, none⟩ = some (.int .i64 1) := (HX.out.below HB3.out).cell 5
  have g6 : w4.cell? ⟨B, 6, none⟩ = some (.slice (some ⟨b, 0, none⟩) 2 2) := (HX.out.below HB3.out).cell 6
  go_wp2_with fail
  refine (kTree b 0 0 0 2 rfl _ (HJ.out.below HB3.out)).mono ?_; rintro r w5 ⟨rfl, B2⟩
  have HB4 := Lib.hid (step_below HB3.out B2)
  clear B2
  clear g0 g1 g2 g3 g4 g5 g6
  have g0 : w5.cell? ⟨B, 0, none⟩ = some (.int .i64 1) := (HX.out.below HB4.out).cell 0
  have g1 : w5.cell? ⟨B, 1, none⟩ = some (.int .i64 1) := (HX.out.below HB4.out).cell 1
  have g2 : w5.cell? ⟨B, 2, none⟩ = some (.int .i64 3) := (HX.out.below HB4.out).cell 2
  have g3 : w5.cell? ⟨B, 3, none⟩ = some (.int .i64 1024) := (HX.out.below HB4.out).cell 3
  have g4 : w5.cell? ⟨B, 4, none⟩ = some (.int .i64 1024) := (HX.out.below HB4.out).cell 4
  have g5 : w5.cell? ⟨B, 5, none⟩ = some (.int .i64 1) := (HX.out.below HB4.out).cell 5
  have g6 : w5.cell? ⟨B, 6, none⟩ = some (.slice (some ⟨b, 0, none⟩) 2 2) := (HX.out.below HB4.out).cell 6
  go_wp2_with fail
  refine (kOf b _ (HJ.out.below HB4.out)).mono ?_; rintro r w6 ⟨rfl, B2⟩
  have HB5 := Lib.hid (step_below HB4.out B2)
  clear B2
  clear g0 g1 g2 g3 g4 g5 g6
  have b7 := (((Below.refl w6.heap.size w6).alloc (Nat.le_refl _) (.cells #[.int .u8 97] 5 (1, 2))).alloc (by simp) (.cells #[.int .u8 98] 5 (1, 2))).alloc (by simp; omega) (.cells #[.slice (some ⟨w6.heap.size, 0, none⟩) 1 1, .slice (some ⟨w6.heap.size + 1, 0, none⟩) 1 1] 24)
  have hr7 : RdR (((w6.alloc (.cells #[.int .u8 97] 5 (1, 2))).alloc (.cells #[.int .u8 98] 5 (1, 2))).alloc (.cells #[.slice (some ⟨w6.heap.size, 0, none⟩) 1 1, .slice (some ⟨w6.heap.size + 1, 0, none⟩) 1 1] 24)) (some ⟨w6.heap.size + 1 + 1, 0, none⟩) [⟨some ⟨w6.heap.size, 0, none⟩, 1, [97]⟩, ⟨some ⟨w6.heap.size + 1, 0, none⟩, 1, [98]⟩] := by
    have h := rdR_new ((w6.alloc (.cells #[.int .u8 97] 5 (1, 2))).alloc (.cells #[.int .u8 98] 5 (1, 2))) [⟨some ⟨w6.heap.size, 0, none⟩, 1, [97]⟩, ⟨some ⟨w6.heap.size + 1, 0, none⟩, 1, [98]⟩] #[.slice (some ⟨w6.heap.size, 0, none⟩) 1 1, .slice (some ⟨w6.heap.size + 1, 0, none⟩) 1 1] 24 (0, 0) rfl (by
      intro p hp
      simp only [List.mem_cons, List.not_mem_nil, or_false] at hp
      rcases hp with rfl | rfl
      · exact (ls_new .u8 w6 [97] #[.int .u8 97] 5 (1, 2) rfl 1 rfl).below ((Below.refl _ _).alloc (Nat.le_refl _) _)
      · have := ls_new .u8 (w6.alloc (.cells #[.int .u8 97] 5 (1, 2))) [98] #[.int .u8 98] 5 (1, 2) rfl 1 rfl
        rwa [World.size_alloc] at this)
    rwa [World.size_alloc, World.size_alloc] at h
  have HB7 := Lib.hid (step_below HB5.out b7)
  have HR7 := Lib.hid hr7
  clear b7 hr7
  have g0 : (((w6.alloc (.cells #[.int .u8 97] 5 (1, 2))).alloc (.cells #[.int .u8 98] 5 (1, 2))).alloc (.cells #[.slice (some ⟨w6.heap.size, 0, none⟩) 1 1, .slice (some ⟨w6.heap.size + 1, 0, none⟩) 1 1] 24)).cell? ⟨B, 0, none⟩ = some (.int .i64 1) := (HX.out.below HB7.out).cell 0
  have g1 : (((w6.alloc (.cells #[.int .u8 97] 5 (1, 2))).alloc (.cells #[.int .u8 98] 5 (1, 2))).alloc (.cells #[.slice (some ⟨w6.heap.size, 0, none⟩) 1 1, .slice (some ⟨w6.heap.size + 1, 0, none⟩) 1 1] 24)).cell? ⟨B, 1, none⟩ = some (.int .i64 1) := (HX.out.below HB7.out).cell 1
  have g2 : (((w6.alloc (.cells #[.int .u8 97] 5 (1, 2))).alloc (.cells #[.int .u8 98] 5 (1, 2))).alloc (.cells #[.slice (some ⟨w6.heap.size, 0, none⟩) 1 1, .slice (some ⟨w6.heap.size + 1, 0, none⟩) 1 1] 24)).cell? ⟨B, 2, none⟩ = some (.int .i64 3) := (HX.out.below HB7.out).cell 2
  have g3 : (((w6.alloc (.cells #[.int .u8 97] 5 (1, 2))).alloc (.cells #[.int .u8 98] 5 (1, 2))).alloc (.cells #[.slice (some ⟨w6.heap.size, 0, none⟩) 1 1, .slice (some ⟨w6.heap.size + 1, 0, none⟩) 1 1] 24)).cell? ⟨B, 3, none⟩ = some (.int .i64 1024) := (HX.out.below HB7.out).cell 3
  have g4 : (((w6.alloc (.cells #[.int .u8 97] 5 (1, 2))).alloc (.cells #[.int .u8 98] 5 (1, 2))).alloc (.cells #[.slice (some ⟨w6.heap.size, 0, none⟩) 1 1, .slice (some ⟨w6.heap.size + 1, 0, none⟩) 1 1] 24)).cell? ⟨B, 4, none⟩ = some (.int .i64 1024) := (HX.out.below HB7.out).cell 4
  have g5 : (((w6.alloc (.cells #[.int .u8 97] 5 (1, 2))).alloc (.cells #[.int .u8 98] 5 (1, 2))).alloc (.cells #[.slice (some ⟨w6.heap.size, 0, none⟩) 1 1, .slice (some ⟨w6.heap.size + 1, 0, none⟩) 1 1] 24)).cell? ⟨B, 5, none⟩ = some (.int .i64 1) := (HX.out.below HB7.out).cell 5
  have g6 : (((w6.alloc (.cells #[.int .u8 97] 5 (1, 2))).alloc (.cells #[.int .u8 98] 5 (1, 2))).alloc (.cells #[.slice (some ⟨w6.heap.size, 0, none⟩) 1 1, .slice (some ⟨w6.heap.size + 1, 0, none⟩) 1 1] 24)).cell? ⟨B, 6, none⟩ = some (.slice (some ⟨b, 0, none⟩) 2 2) := (HX.out.below HB7.out).cell 6
  go_wp2_with fail
  generalize hg7 : (((w6.alloc (.cells #[.int .u8 97] 5 (1, 2))).alloc (.cells #[.int .u8 98] 5 (1, 2))).alloc (.cells #[.slice (some ⟨w6.heap.size, 0, none⟩) 1 1, .slice (some ⟨w6.heap.size + 1, 0, none⟩) 1 1] 24)) = W7 at *
  have hs7 : W7.heap.size = w6.heap.size + 1 + 1 + 1 := by rw [← hg7]; simp
  clear hg7
  have hk8 := ls_new .u8 W7 [107] #[.int .u8 107] 5 (1, 2) rfl 1 rfl
  rw [hs7] at hk8
  have HB8 := Lib.hid (step_below HB7.out ((Below.refl W7.heap.size W7).alloc (Nat.le_refl _) (.cells #[.int .u8 107] 5 (1, 2))))
  have hr8 := HR7.out.below ((Below.refl W7.heap.size W7).alloc (Nat.le_refl _) (.cells #[.int .u8 107] 5 (1, 2)))
  have hc8 := kEnt b (some ⟨w6.heap.size + 1 + 1 + 1, 0, none⟩) (some ⟨w6.heap.size + 1 + 1, 0, none⟩) 1 2 [⟨some ⟨w6.heap.size, 0, none⟩, 1, [97]⟩, ⟨some ⟨w6.heap.size + 1, 0, none⟩, 1, [98]⟩] 2 rfl (by omega) [(2, [98, 0, 1, 107])] (kE1 b ⟨some ⟨w6.heap.size, 0, none⟩, 1, [97]⟩ ⟨some ⟨w6.heap.size + 1, 0, none⟩, 1, [98]⟩ rfl rfl) _ (HJ.out.below HB8.out) hk8 hr8
  refine hc8.mono ?_; clear hc8; rintro r w8 ⟨⟨a8, c8, L8, rfl, e8, r8⟩, B8⟩
  have HO8 := Lib.hid (one_of (c := c8) r8 e8)
  have HR8 := Lib.hid (hr8.below B8)
  have HB9 := Lib.hid (step_below HB8.out B8)
  clear hk8 hr8 e8 r8 B8 g0 g1 g2 g3 g4 g5 g6
  have b90 : Below w8.heap.size w8 w8.drew := ⟨rfl, rfl, rfl, Nat.le_refl _, fun _ _ => rfl⟩
  have b91 : Below w8.heap.size w8 ((w8.alloc (.cells #[.int .u8 107] 5)).drew) := b90.alloc (Nat.le_refl _) _
  have b92 : Below w8.heap.size w8 (w8.alloc (.cells #[.int .u8 107] 5 (1, 2))).drew := b90.alloc (Nat.le_refl _) _
  have hk9 : Ls .u8 ((w8.alloc (.cells #[.int .u8 107] 5 (1, 2))).drew) (some ⟨w8.heap.size, 0, none⟩) 1 [107] := ls_new .u8 w8.drew [107] #[.int .u8 107] 5 (1, 2) rfl 1 rfl
  have hr9 : RdR ((w8.alloc (.cells #[.int .u8 107] 5 (1, 2))).drew) (some ⟨w6.heap.size + 1 + 1, 0, none⟩) [⟨some ⟨w6.heap.size, 0, none⟩, 1, [97]⟩] := fun k p hp => by
    refine HR8.out.below b92 k p ?_
    match k, hp with
    | 0, hp => exact hp
  have hc9 := Lib.hid (kEnt b (some ⟨w8.heap.size, 0, none⟩) (some ⟨w6.heap.size + 1 + 1, 0, none⟩) 1 2 [⟨some ⟨w6.heap.size, 0, none⟩, 1, [97]⟩] 1 rfl (by omega) [] (kE2 b ⟨some ⟨w6.heap.size, 0, none⟩, 1, [97]⟩ rfl) _ (HJ.out.below (step_below HB9.out b92)) hk9 hr9)
  have HB92 := Lib.hid b92
  have qsl : ∀ W : World, (Instr.slice 23 (.slice (some ⟨w6.heap.size + 1 + 1, 0, none⟩) 2 2) .none (some (.int .i64 1)) .none).run Try.prog W = .ok (.slice (some ⟨w6.heap.size + 1 + 1, 0, none⟩) 1 2) W := fun W => hi23 W (w6.heap.size + 1 + 1) 2 2 1 (by omega) (by omega)
  have x0 : w8.drew.cell? ⟨B, 0, none⟩ = some (.int .i64 1) := (HX.out.below (step_below HB9.out b90)).cell 0
  have x1 : w8.drew.cell? ⟨B, 1, none⟩ = some (.int .i64 1) := (HX.out.below (step_below HB9.out b90)).cell 1
  have x2 : w8.drew.cell? ⟨B, 2, none⟩ = some (.int .i64 3) := (HX.out.below (step_below HB9.out b90)).cell 2
  have x3 : w8.drew.cell? ⟨B, 3, none⟩ = some (.int .i64 1024) := (HX.out.below (step_below HB9.out b90)).cell 3
  have x4 : w8.drew.cell? ⟨B, 4, none⟩ = some (.int .i64 1024) := (HX.out.below (step_below HB9.out b90)).cell 4
  have x5 : w8.drew.cell? ⟨B, 5, none⟩ = some (.int .i64 1) := (HX.out.below (step_below HB9.out b90)).cell 5
  have x6 : w8.drew.cell? ⟨B, 6, none⟩ = some (.slice (some ⟨b, 0, none⟩) 2 2) := (HX.out.below (step_below HB9.out b90)).cell 6
  have y0 : (w8.alloc (.cells #[.int .u8 107] 5)).drew.cell? ⟨B, 0, none⟩ = some (.int .i64 1) := (HX.out.below (step_below HB9.out b91)).cell 0
  have y1 : (w8.alloc (.cells #[.int .u8 107] 5)).drew.cell? ⟨B, 1, none⟩ = some (.int .i64 1) := (HX.out.below (step_below HB9.out b91)).cell 1
  have y2 : (w8.alloc (.cells #[.int .u8 107] 5)).drew.cell? ⟨B, 2, none⟩ = some (.int .i64 3) := (HX.out.below (step_below HB9.out b91)).cell 2
  have y3 : (w8.alloc (.cells #[.int .u8 107] 5)).drew.cell? ⟨B, 3, none⟩ = some (.int .i64 1024) := (HX.out.below (step_below HB9.out b91)).cell 3
  have y4 : (w8.alloc (.cells #[.int .u8 107] 5)).drew.cell? ⟨B, 4, none⟩ = some (.int .i64 1024) := (HX.out.below (step_below HB9.out b91)).cell 4
  have y5 : (w8.alloc (.cells #[.int .u8 107] 5)).drew.cell? ⟨B, 5, none⟩ = some (.int .i64 1) := (HX.out.below (step_below HB9.out b91)).cell 5
  have y6 : (w8.alloc (.cells #[.int .u8 107] 5)).drew.cell? ⟨B, 6, none⟩ = some (.slice (some ⟨b, 0, none⟩) 2 2) := (HX.out.below (step_below HB9.out b91)).cell 6
  have z0 : (w8.alloc (.cells #[.int .u8 107] 5 (1, 2))).drew.cell? ⟨B, 0, none⟩ = some (.int .i64 1) := (HX.out.below (step_below HB9.out b92)).cell 0
  have z1 : (w8.alloc (.cells #[.int .u8 107] 5 (1, 2))).drew.cell? ⟨B, 1, none⟩ = some (.int .i64 1) := (HX.out.below (step_below HB9.out b92)).cell 1
  have z2 : (w8.alloc (.cells #[.int .u8 107] 5 (1, 2))).drew.cell? ⟨B, 2, none⟩ = some (.int .i64 3) := (HX.out.below (step_below HB9.out b92)).cell 2
  have z3 : (w8.alloc (.cells #[.int .u8 107] 5 (1, 2))).drew.cell? ⟨B, 3, none⟩ = some (.int .i64 1024) := (HX.out.below (step_below HB9.out b92)).cell 3
  have z4 : (w8.alloc (.cells #[.int .u8 107] 5 (1, 2))).drew.cell? ⟨B, 4, none⟩ = some (.int .i64 1024) := (HX.out.below (step_below HB9.out b92)).cell 4
  have z5 : (w8.alloc (.cells #[.int .u8 107] 5 (1, 2))).drew.cell? ⟨B, 5, none⟩ = some (.int .i64 1) := (HX.out.below (step_below HB9.out b92)).cell 5
  have z6 : (w8.alloc (.cells #[.int .u8 107] 5 (1, 2))).drew.cell? ⟨B, 6, none⟩ = some (.slice (some ⟨b, 0, none⟩) 2 2) := (HX.out.below (step_below HB9.out b92)).cell 6
  have kc9 : (convert 24 24 (.slice (some ⟨w8.heap.size, 0, none⟩) 1 1)).run Try.prog ((w8.alloc (.cells #[.int .u8 107] 5)).drew) = .ok (.slice (some ⟨w8.heap.size, 0, none⟩) 1 1) ((w8.alloc (.cells #[.int .u8 107] 5 (1, 2))).drew) := kc w8.drew #[.int .u8 107] 1 1 w8.heap.size rfl
  clear b90 b91 b92 hk9 hr9
  simp only [List.length_cons, List.length_nil, Nat.zero_add]
  go_wp2_with fail
  go_cut [16, 17] (fun x e wx => (∃ a c, x = .slice a 0 c) ∧ e = .int .i64 0 ∧ Hid (Below w8.heap.size w8 wx))
  case first =>
    go_region_with (go_at_call 43; refine hc9.out.mono ?_; rintro r w9 ⟨⟨a9, c9, L9, rfl, e9, r9⟩, B9⟩; have HS9 := Lib.hid (step_below HB92.out B9); clear e9 r9 B9)
    all_goals go_wp2_with fail
    all_goals go_meet
    all_goals exact ⟨⟨_, _, rfl⟩, rfl, HS9⟩
  case rest =>
    obtain ⟨⟨a9, c9, rfl⟩, rfl, hcw⟩ := hcut
    have HBc := Lib.hid (step_below HB9.out hcw.out)
    have HR10 := Lib.hid (HR8.out.below hcw.out)
    have HO10 := Lib.hid (HO8.out.below hcw.out)
    clear hcw hc9 HB92 qsl kc9 x0 x1 x2 x3 x4 x5 x6 y0 y1 y2 y3 y4 y5 y6 z0 z1 z2 z3 z4 z5 z6
    have g0 : wc.cell? ⟨B, 0, none⟩ = some (.int .i64 1) := (HX.out.below HBc.out).cell 0
    have g1 : wc.cell? ⟨B, 1, none⟩ = some (.int .i64 1) := (HX.out.below HBc.out).cell 1
    have g2 : wc.cell? ⟨B, 2, none⟩ = some (.int .i64 3) := (HX.out.below HBc.out).cell 2
    have g3 : wc.cell? ⟨B, 3, none⟩ = some (.int .i64 1024) := (HX.out.below HBc.out).cell 3
    have g4 : wc.cell? ⟨B, 4, none⟩ = some (.int .i64 1024) := (HX.out.below HBc.out).cell 4
    have g5 : wc.cell? ⟨B, 5, none⟩ = some (.int .i64 1) := (HX.out.below HBc.out).cell 5
    have g6 : wc.cell? ⟨B, 6, none⟩ = some (.slice (some ⟨b, 0, none⟩) 2 2) := (HX.out.below HBc.out).cell 6
    go_wp2_with fail
    have h10r := lit2 (wc.alloc (.cells #[.int .u8 107] 5 (1, 2))) [97] [99] 1 1 #[.int .u8 97] #[.int .u8 99] (1, 2) (1, 2) rfl rfl rfl rfl
    rw [World.size_alloc] at h10r
    have h10k := (ls_new .u8 wc [107] #[.int .u8 107] 5 (1, 2) rfl 1 rfl).below (b3 (wc.alloc (.cells #[.int .u8 107] 5 (1, 2))) (.cells #[.int .u8 97] 5 (1, 2)) (.cells #[.int .u8 99] 5 (1, 2)) (.cells #[.slice (some ⟨wc.heap.size + 1, 0, none⟩) 1 1, .slice (some ⟨wc.heap.size + 1 + 1, 0, none⟩) 1 1] 24))
    have b10 : Below wc.heap.size wc ((((wc.alloc (.cells #[.int .u8 107] 5 (1, 2))).alloc (.cells #[.int .u8 97] 5 (1, 2))).alloc (.cells #[.int .u8 99] 5 (1, 2))).alloc (.cells #[.slice (some ⟨wc.heap.size + 1, 0, none⟩) 1 1, .slice (some ⟨wc.heap.size + 1 + 1, 0, none⟩) 1 1] 24)) := step_below (below_new _ _) (b3 _ _ _ _)
    have hc10 := kCh b (some ⟨wc.heap.size, 0, none⟩) (some ⟨w6.heap.size + 1 + 1, 0, none⟩) (some ⟨wc.heap.size + 1 + 1 + 1, 0, none⟩) 1 2 2 ⟨some ⟨w6.heap.size, 0, none⟩, 1, [97]⟩ ⟨some ⟨w6.heap.size + 1, 0, none⟩, 1, [98]⟩ ⟨some ⟨wc.heap.size + 1, 0, none⟩, 1, [97]⟩ ⟨some ⟨wc.heap.size + 1 + 1, 0, none⟩, 1, [99]⟩ rfl rfl rfl rfl ((((wc.alloc (.cells #[.int .u8 107] 5 (1, 2))).alloc (.cells #[.int .u8 97] 5 (1, 2))).alloc (.cells #[.int .u8 99] 5 (1, 2))).alloc (.cells #[.slice (some ⟨wc.heap.size + 1, 0, none⟩) 1 1, .slice (some ⟨wc.heap.size + 1 + 1, 0, none⟩) 1 1] 24)) (HJ.out.below (step_below HBc.out b10)) h10k (HR10.out.below b10) h10r
    have HO11 := Lib.hid (HO10.out.below b10)
    have HB10 := Lib.hid (step_below HBc.out b10)
    clear h10r h10k b10 g0 g1 g2 g3 g4 g5 g6
    refine hc10.mono ?_; clear hc10; rintro r w10 ⟨⟨a10, c10, a11, c11, rfl, o10, o11⟩, B2⟩
    have HO12 := Lib.hid (HO11.out.below B2)
    have HP := Lib.hid o10
    have HQ := Lib.hid o11
    have HB11 := Lib.hid (step_below HB10.out B2)
    clear o10 o11 B2
    have g0 : w10.cell? ⟨B, 0, none⟩ = some (.int .i64 1) := (HX.out.below HB11.out).cell 0
    have g1 : w10.cell? ⟨B, 1, none⟩ = some (.int .i64 1) := (HX.out.below HB11.out).cell 1
    have g2 : w10.cell? ⟨B, 2, none⟩ = some (.int .i64 3) := (HX.out.below HB11.out).cell 2
    have g3 : w10.cell? ⟨B, 3, none⟩ = some (.int .i64 1024) := (HX.out.below HB11.out).cell 3
    have g4 : w10.cell? ⟨B, 4, none⟩ = some (.int .i64 1024) := (HX.out.below HB11.out).cell 4
    have g5 : w10.cell? ⟨B, 5, none⟩ = some (.int .i64 1) := (HX.out.below HB11.out).cell 5
    have g6 : w10.cell? ⟨B, 6, none⟩ = some (.slice (some ⟨b, 0, none⟩) 2 2) := (HX.out.below HB11.out).cell 6
    go_wp2_with (go_at_call 35; refine (num35 _ _).mono ?_; rintro r w99 ⟨rfl, rfl⟩)
    refine (kCk b _ (HJ.out.below HB11.out)).mono ?_; rintro r w11 ⟨rfl, B2⟩
    have HO13 := Lib.hid (HO12.out.below B2)
    have HP1 := Lib.hid (HP.out.below B2)
    have HQ1 := Lib.hid (HQ.out.below B2)
    have HB12 := Lib.hid (step_below HB11.out B2)
    clear B2 g0 g1 g2 g3 g4 g5 g6
    have g0 : w11.cell? ⟨B, 0, none⟩ = some (.int .i64 1) := (HX.out.below HB12.out).cell 0
    have g1 : w11.cell? ⟨B, 1, none⟩ = some (.int .i64 1) := (HX.out.below HB12.out).cell 1
    have g2 : w11.cell? ⟨B, 2, none⟩ = some (.int .i64 3) := (HX.out.below HB12.out).cell 2
    have g3 : w11.cell? ⟨B, 3, none⟩ = some (.int .i64 1024) := (HX.out.below HB12.out).cell 3
    have g4 : w11.cell? ⟨B, 4, none⟩ = some (.int .i64 1024) := (HX.out.below HB12.out).cell 4
    have g5 : w11.cell? ⟨B, 5, none⟩ = some (.int .i64 1) := (HX.out.below HB12.out).cell 5
    have g6 : w11.cell? ⟨B, 6, none⟩ = some (.slice (some ⟨b, 0, none⟩) 2 2) := (HX.out.below HB12.out).cell 6
    go_wp2_with (go_at_call 35; refine (num35 _ _).mono ?_; rintro r w99 ⟨rfl, rfl⟩)
    refine (kTrs b _ (HJ.out.below HB12.out)).mono ?_; rintro r w12 ⟨rfl, B2⟩
    have HO14 := Lib.hid (HO13.out.below B2)
    have HP2 := Lib.hid (HP1.out.below B2)
    have HQ2 := Lib.hid (HQ1.out.below B2)
    have HB13 := Lib.hid (step_below HB12.out B2)
    clear B2 g0 g1 g2 g3 g4 g5 g6
    go_wp2_with (go_at_call 35; refine (num35 _ _).mono ?_; rintro r w99 ⟨rfl, rfl⟩)
    have oL := oneLit w12 [98, 0, 1, 107] #[.int .u8 98, .int .u8 0, .int .u8 1, .int .u8 107] (4, 5) 4 1 rfl rfl
    have bL := b2 w12 (.cells #[.int .u8 98, .int .u8 0, .int .u8 1, .int .u8 107] 5 (4, 5)) (.cells #[.int .i64 2, .slice (some ⟨w12.heap.size, 0, none⟩) 4 4] 91)
    have HO15 := Lib.hid (HO14.out.below bL)
    have HP3 := Lib.hid (HP2.out.below bL)
    have HQ3 := Lib.hid (HQ2.out.below bL)
    have HB14 := Lib.hid (step_below HB13.out bL)
    have hs15 := kSame a8 (some ⟨w12.heap.size + 1, 0, none⟩) c8 1 [98, 0, 1, 107] (byt_of _ rfl) _ HO15.out oL
    clear oL bL
    refine hs15.mono ?_; clear hs15; rintro r w13 ⟨rfl, B2⟩
    have HO16 := Lib.hid (HO15.out.below B2)
    have HP4 := Lib.hid (HP3.out.below B2)
    have HQ4 := Lib.hid (HQ3.out.below B2)
    have HB15 := Lib.hid (step_below HB14.out B2)
    clear B2
    go_wp2_with fail
    refine (kSame a10 a8 c10 c8 [98, 0, 1, 107] (byt_of _ rfl) _ HP4.out HO16.out).mono ?_; rintro r w14 ⟨rfl, B2⟩
    have HQ5 := Lib.hid (HQ4.out.below B2)
    have HB16 := Lib.hid (step_below HB15.out B2)
    clear B2
    go_wp2_with fail
    have oM := oneLit w14 [99, 0, 1, 107] #[.int .u8 99, .int .u8 0, .int .u8 1, .int .u8 107] (4, 5) 4 1 rfl rfl
    have bM := b2 w14 (.cells #[.int .u8 99, .int .u8 0, .int .u8 1, .int .u8 107] 5 (4, 5)) (.cells #[.int .i64 2, .slice (some ⟨w14.heap.size, 0, none⟩) 4 4] 91)
    have HB17 := Lib.hid (step_below HB16.out bM)
    have hs17 := kSame a11 (some ⟨w14.heap.size + 1, 0, none⟩) c11 1 [99, 0, 1, 107] (byt_of _ rfl) _ (HQ5.out.below bM) oM
    clear oM bM
    refine hs17.mono ?_; clear hs17; rintro r w15 ⟨rfl, B2⟩
    have HB18 := Lib.hid (step_below HB17.out B2)
    clear B2
    have g0 : w15.cell? ⟨B, 0, none⟩ = some (.int .i64 1) := (HX.out.below HB18.out).cell 0
    have g1 : w15.cell? ⟨B, 1, none⟩ = some (.int .i64 1) := (HX.out.below HB18.out).cell 1
    have g2 : w15.cell? ⟨B, 2, none⟩ = some (.int .i64 3) := (HX.out.below HB18.out).cell 2
    have g3 : w15.cell? ⟨B, 3, none⟩ = some (.int .i64 1024) := (HX.out.below HB18.out).cell 3
    have g4 : w15.cell? ⟨B, 4, none⟩ = some (.int .i64 1024) := (HX.out.below HB18.out).cell 4
    have g5 : w15.cell? ⟨B, 5, none⟩ = some (.int .i64 1) := (HX.out.below HB18.out).cell 5
    have g6 : w15.cell? ⟨B, 6, none⟩ = some (.slice (some ⟨b, 0, none⟩) 2 2) := (HX.out.below HB18.out).cell 6
    go_wp2_with fail
    refine (mayop_scan (kJ b) (kOk b) _ (HJ.out.below HB18.out)).mono ?_; rintro r w16 ⟨rfl, B2⟩
    have HB19 := Lib.hid (step_below HB18.out B2)
    clear B2 g0 g1 g2 g3 g4 g5 g6
    have g0 : w16.cell? ⟨B, 0, none⟩ = some (.int .i64 1) := (HX.out.below HB19.out).cell 0
    have g1 : w16.cell? ⟨B, 1, none⟩ = some (.int .i64 1) := (HX.out.below HB19.out).cell 1
    have g2 : w16.cell? ⟨B, 2, none⟩ = some (.int .i64 3) := (HX.out.below HB19.out).cell 2
    have g3 : w16.cell? ⟨B, 3, none⟩ = some (.int .i64 1024) := (HX.out.below HB19.out).cell 3
    have g4 : w16.cell? ⟨B, 4, none⟩ = some (.int .i64 1024) := (HX.out.below HB19.out).cell 4
    have g5 : w16.cell? ⟨B, 5, none⟩ = some (.int .i64 1) := (HX.out.below HB19.out).cell 5
    have g6 : w16.cell? ⟨B, 6, none⟩ = some (.slice (some ⟨b, 0, none⟩) 2 2) := (HX.out.below HB19.out).cell 6
    go_wp2_with fail
    have HB20 := Lib.hid (step_below HB19.out (below_new w16 (.cells #[.int .u8 107] 5 (1, 2))))
    refine (mayop_put (kJ b) (kOk b) (some ⟨w16.heap.size, 0, none⟩) 1 1 _ (HJ.out.below HB20.out)).mono ?_; rintro r w17 ⟨rfl, B2⟩
    have HB21 := Lib.hid (step_below HB20.out B2)
    clear B2 g0 g1 g2 g3 g4 g5 g6
    go_wp2_with fail
    go_ret
    exact ⟨rfl, step_below HW.out HB21.out⟩
end Go.Proofs.Ytkgcbhpgkcfkhaa
