/- CatalogJobs' walk. -/
import Derived.Test.YtkgcbhpgkcfkhaaCkw
import Derived.Test.YtkgcbhpgkcfkhaaCjo
namespace Go.Proofs.Ytkgcbhpgkcfkhaa
open Go.ChangeShapes Go.WideShapes Go.ChangeAt Go.RowKit Go.Shelf
set_option linter.unusedVariables false
set_option linter.unusedSimpArgs false

theorem ofV_at (j : Job) (k : Nat) (p : Int × Int) (h : (named j)[k]? = some p) : ofV j (k : Int) = ((k : Int), p.1, p.2, true) := by
  unfold ofV
  rw [idx_split _ _ _ h]
  refine firstV_some (by simp) fun y hy => ?_
  obtain ⟨i, h1, h2⟩ := idx_mem _ _ _ hy
  have hi := (List.getElem?_eq_some_iff.1 h1).1
  rw [List.length_take] at hi
  rw [decide_eq_false_iff_not]
  intro e
  omega
theorem ofV_none (j : Job) (i : Int) (h : i < 0 ∨ ((named j).length : Int) ≤ i) : ofV j i = (0, 0, 0, false) := by
  unfold ofV
  refine firstV_none fun y hy => ?_
  obtain ⟨k, h1, h2⟩ := idx_mem _ _ _ hy
  have hk := (List.getElem?_eq_some_iff.1 h1).1
  rw [decide_eq_false_iff_not]
  intro e
  omega
set_option maxRecDepth 100000 in
set_option maxHeartbeats 4000000 in
theorem jobs_law (j : Job) (t i lv : Int) (h2000 : j.n ≤ 2000) (w : World) (hj : JobAt w j) : Calls Try.prog 7 #[.agg #[.int .i64 j.w, .int .i64 j.l, .int .i64 j.d, .int .i64 j.c, .int .i64 j.k, .int .i64 j.e, .slice j.a j.n j.cap], .int .i64 t, .int .i64 i, .int .i64 lv] w fun r w' => r = .returned (.bool true) ∧ Below w.heap.size w w' := by
  have h2 : (j.n : Int) ≤ 2000 := by omega
  have hnm := named_len j hj.len
  have hbx := BoxC.new w #[.int .i64 j.w, .int .i64 j.l, .int .i64 j.d, .int .i64 j.c, .int .i64 j.k, .int .i64 j.e, .slice j.a j.n j.cap] 53
  have hb0 := (Below.refl w.heap.size w).alloc (Nat.le_refl _) (.cells #[.int .i64 j.w, .int .i64 j.l, .int .i64 j.d, .int .i64 j.c, .int .i64 j.k, .int .i64 j.e, .slice j.a j.n j.cap] 53)
  have hjj := hj.below hb0
  have g0 : (w.alloc (.cells #[.int .i64 j.w, .int .i64 j.l, .int .i64 j.d, .int .i64 j.c, .int .i64 j.k, .int .i64 j.e, .slice j.a j.n j.cap] 53)).cell? ⟨w.heap.size, 0, none⟩ = some (.int .i64 j.w) := (hbx).cell 0
  have g1 : (w.alloc (.cells #[.int .i64 j.w, .int .i64 j.l, .int .i64 j.d, .int .i64 j.c, .int .i64 j.k, .int .i64 j.e, .slice j.a j.n j.cap] 53)).cell? ⟨w.heap.size, 1, none⟩ = some (.int .i64 j.l) := (hbx).cell 1
  have g2 : (w.alloc (.cells #[.int .i64 j.w, .int .i64 j.l, .int .i64 j.d, .int .i64 j.c, .int .i64 j.k, .int .i64 j.e, .slice j.a j.n j.cap] 53)).cell? ⟨w.heap.size, 2, none⟩ = some (.int .i64 j.d) := (hbx).cell 2
  have g3 : (w.alloc (.cells #[.int .i64 j.w, .int .i64 j.l, .int .i64 j.d, .int .i64 j.c, .int .i64 j.k, .int .i64 j.e, .slice j.a j.n j.cap] 53)).cell? ⟨w.heap.size, 3, none⟩ = some (.int .i64 j.c) := (hbx).cell 3
  have g4 : (w.alloc (.cells #[.int .i64 j.w, .int .i64 j.l, .int .i64 j.d, .int .i64 j.c, .int .i64 j.k, .int .i64 j.e, .slice j.a j.n j.cap] 53)).cell? ⟨w.heap.size, 4, none⟩ = some (.int .i64 j.k) := (hbx).cell 4
  have g5 : (w.alloc (.cells #[.int .i64 j.w, .int .i64 j.l, .int .i64 j.d, .int .i64 j.c, .int .i64 j.k, .int .i64 j.e, .slice j.a j.n j.cap] 53)).cell? ⟨w.heap.size, 5, none⟩ = some (.int .i64 j.e) := (hbx).cell 5
  have g6 : (w.alloc (.cells #[.int .i64 j.w, .int .i64 j.l, .int .i64 j.d, .int .i64 j.c, .int .i64 j.k, .int .i64 j.e, .slice j.a j.n j.cap] 53)).cell? ⟨w.heap.size, 6, none⟩ = some (.slice j.a j.n j.cap) := (hbx).cell 6
  go_enter Try.func7, Try.ntmps7
  go_wp2_with fail
  clear g0 g1 g2 g3 g4 g5 g6
  generalize w.alloc (.cells #[.int .i64 j.w, .int .i64 j.l, .int .i64 j.d, .int .i64 j.c, .int .i64 j.k, .int .i64 j.e, .slice j.a j.n j.cap] 53) = WB at *
  have HX := Lib.hid hbx
  have HJ := Lib.hid hjj
  have HB00 := Lib.hid hb0
  clear hbx hjj hb0 hj
  refine (qnamed_law j _ HJ.out).mono ?_; rintro r w1 ⟨⟨v, rfl, o1⟩, B1⟩
  obtain ⟨a, c, rfl, hw⟩ := own_nmr o1 rfl
  have HB1 := Lib.hid (show Below w1.heap.size w1 w1.drew from ⟨rfl, rfl, rfl, Nat.le_refl _, fun _ _ => rfl⟩)
  have HW := Lib.hid hw
  have HBW := Lib.hid (step_below HB00.out B1)
  have HX1 := Lib.hid (HX.out.below B1)
  have HJ1 := Lib.hid (HJ.out.below B1)
  generalize hL : (named j).length = L at *
  have HC1 := Lib.hid (fun W (b : Below w1.heap.size w1 W) => check_law j W (HJ1.out.below b))
  have HC2 := Lib.hid (fun W (b : Below w1.heap.size w1 W) => qcheck_law j W (HJ1.out.below b))
  have HC3 := Lib.hid (fun W (b : Below w1.heap.size w1 W) => by have := trees_law j W (HJ1.out.below b); rwa [hL] at this)
  have HO1 := Lib.hid (fun W (b : Below w1.heap.size w1 W) (x : Int) => once_law j x a L c hL W (HJ1.out.below b) (HW.out.below b))
  have HLL := Lib.hid hL
  have HT := Lib.hid (fun W (b : Below w1.heap.size w1 W) => tree_law j t i W (HJ1.out.below b))
  have HQ := Lib.hid (fun W (b : Below w1.heap.size w1 W) => qtree_law j t i W (HJ1.out.below b))
  have HOA := Lib.hid (fun W (b : Below w1.heap.size w1 W) (k : Nat) (p : Int × Int) (h : (named j)[k]? = some p) => (by have := of_tree j (k : Int) W (HJ1.out.below b); rw [ofV_at j k p h] at this; exact this : Calls Try.prog 42 #[.agg #[.int .i64 j.w, .int .i64 j.l, .int .i64 j.d, .int .i64 j.c, .int .i64 j.k, .int .i64 j.e, .slice j.a j.n j.cap], .int .i64 (k : Int)] W fun r W' => r = .returned (.tuple #[.int .i64 p.1, .int .i64 p.2, .int .i64 0]) ∧ Below W.heap.size W W'))
  have HON := Lib.hid (fun W (b : Below w1.heap.size w1 W) (x : Int) (h : x < 0 ∨ (L : Int) ≤ x) => (by have := of_tree j x W (HJ1.out.below b); rw [ofV_none j x (by rw [hL]; exact h)] at this; exact this : Calls Try.prog 42 #[.agg #[.int .i64 j.w, .int .i64 j.l, .int .i64 j.d, .int .i64 j.c, .int .i64 j.k, .int .i64 j.e, .slice j.a j.n j.cap], .int .i64 x] W fun r W' => r = .returned (.tuple #[.int .i64 0, .int .i64 0, .int .i64 2]) ∧ Below W.heap.size W W'))
  generalize trV j t i = V at *
  obtain ⟨v1, v2, v3, v4⟩ := V
  simp only at HT HQ
  obtain ⟨ev, hev⟩ : ∃ ev : Int, (if v4 = true then (0 : Int) else 2) = ev := ⟨_, rfl⟩
  rw [hev] at HT HQ
  clear hev
  have hvv : (v1 != v1) = false := by simp
  have hee : (ev != ev) = false := by simp
  generalize chkV j = ck at *
  have hck : (ck != ck) = false := by simp
  have hll : ((L : Int) != (L : Int)) = false := by simp
  clear o1 B1 hw hL
  have p0 : w1.cell? ⟨w.heap.size, 0, none⟩ = some (.int .i64 j.w) := (HX1.out).cell 0
  have p1 : w1.cell? ⟨w.heap.size, 1, none⟩ = some (.int .i64 j.l) := (HX1.out).cell 1
  have p2 : w1.cell? ⟨w.heap.size, 2, none⟩ = some (.int .i64 j.d) := (HX1.out).cell 2
  have p3 : w1.cell? ⟨w.heap.size, 3, none⟩ = some (.int .i64 j.c) := (HX1.out).cell 3
  have p4 : w1.cell? ⟨w.heap.size, 4, none⟩ = some (.int .i64 j.k) := (HX1.out).cell 4
  have p5 : w1.cell? ⟨w.heap.size, 5, none⟩ = some (.int .i64 j.e) := (HX1.out).cell 5
  have p6 : w1.cell? ⟨w.heap.size, 6, none⟩ = some (.slice j.a j.n j.cap) := (HX1.out).cell 6
  have g0 : w1.drew.cell? ⟨w.heap.size, 0, none⟩ = some (.int .i64 j.w) := (HX1.out.below HB1.out).cell 0
  have g1 : w1.drew.cell? ⟨w.heap.size, 1, none⟩ = some (.int .i64 j.l) := (HX1.out.below HB1.out).cell 1
  have g2 : w1.drew.cell? ⟨w.heap.size, 2, none⟩ = some (.int .i64 j.d) := (HX1.out.below HB1.out).cell 2
  have g3 : w1.drew.cell? ⟨w.heap.size, 3, none⟩ = some (.int .i64 j.c) := (HX1.out.below HB1.out).cell 3
  have g4 : w1.drew.cell? ⟨w.heap.size, 4, none⟩ = some (.int .i64 j.k) := (HX1.out.below HB1.out).cell 4
  have g5 : w1.drew.cell? ⟨w.heap.size, 5, none⟩ = some (.int .i64 j.e) := (HX1.out.below HB1.out).cell 5
  have g6 : w1.drew.cell? ⟨w.heap.size, 6, none⟩ = some (.slice j.a j.n j.cap) := (HX1.out.below HB1.out).cell 6
  go_wp2_with fail
  go_cut [50] (fun x wx => x = .bool false ∧ Hid (Below w1.heap.size w1 wx))
  case first =>
    go_region_with (first | (go_at_call 35; refine (num35 _ _).mono ?_; rintro r w99 ⟨rfl, rfl⟩) | (go_at_call 36; refine (HC1.out _ HB1.out).mono ?_; rintro r w2 ⟨rfl, B2⟩; have HB2 := Lib.hid (step_below HB1.out B2); clear B2; have g0 : w2.cell? ⟨w.heap.size, 0, none⟩ = some (.int .i64 j.w) := (HX1.out.below HB2.out).cell 0; have g1 : w2.cell? ⟨w.heap.size, 1, none⟩ = some (.int .i64 j.l) := (HX1.out.below HB2.out).cell 1; have g2 : w2.cell? ⟨w.heap.size, 2, none⟩ = some (.int .i64 j.d) := (HX1.out.below HB2.out).cell 2; have g3 : w2.cell? ⟨w.heap.size, 3, none⟩ = some (.int .i64 j.c) := (HX1.out.below HB2.out).cell 3; have g4 : w2.cell? ⟨w.heap.size, 4, none⟩ = some (.int .i64 j.k) := (HX1.out.below HB2.out).cell 4; have g5 : w2.cell? ⟨w.heap.size, 5, none⟩ = some (.int .i64 j.e) := (HX1.out.below HB2.out).cell 5; have g6 : w2.cell? ⟨w.heap.size, 6, none⟩ = some (.slice j.a j.n j.cap) := (HX1.out.below HB2.out).cell 6) | (go_at_call 37; refine (HC2.out _ HB2.out).mono ?_; rintro r w3 ⟨rfl, B2⟩; have HB3 := Lib.hid (step_below HB2.out B2); clear B2; have g0 : w3.cell? ⟨w.heap.size, 0, none⟩ = some (.int .i64 j.w) := (HX1.out.below HB3.out).cell 0; have g1 : w3.cell? ⟨w.heap.size, 1, none⟩ = some (.int .i64 j.l) := (HX1.out.below HB3.out).cell 1; have g2 : w3.cell? ⟨w.heap.size, 2, none⟩ = some (.int .i64 j.d) := (HX1.out.below HB3.out).cell 2; have g3 : w3.cell? ⟨w.heap.size, 3, none⟩ = some (.int .i64 j.c) := (HX1.out.below HB3.out).cell 3; have g4 : w3.cell? ⟨w.heap.size, 4, none⟩ = some (.int .i64 j.k) := (HX1.out.below HB3.out).cell 4; have g5 : w3.cell? ⟨w.heap.size, 5, none⟩ = some (.int .i64 j.e) := (HX1.out.below HB3.out).cell 5; have g6 : w3.cell? ⟨w.heap.size, 6, none⟩ = some (.slice j.a j.n j.cap) := (HX1.out.below HB3.out).cell 6) | (go_at_call 38; refine (HC3.out _ HB3.out).mono ?_; rintro r w4 ⟨rfl, B2⟩; have HB4 := Lib.hid (step_below HB3.out B2); clear B2; have g0 : w4.cell? ⟨w.heap.size, 0, none⟩ = some (.int .i64 j.w) := (HX1.out.below HB4.out).cell 0; have g1 : w4.cell? ⟨w.heap.size, 1, none⟩ = some (.int .i64 j.l) := (HX1.out.below HB4.out).cell 1; have g2 : w4.cell? ⟨w.heap.size, 2, none⟩ = some (.int .i64 j.d) := (HX1.out.below HB4.out).cell 2; have g3 : w4.cell? ⟨w.heap.size, 3, none⟩ = some (.int .i64 j.c) := (HX1.out.below HB4.out).cell 3; have g4 : w4.cell? ⟨w.heap.size, 4, none⟩ = some (.int .i64 j.k) := (HX1.out.below HB4.out).cell 4; have g5 : w4.cell? ⟨w.heap.size, 5, none⟩ = some (.int .i64 j.e) := (HX1.out.below HB4.out).cell 5; have g6 : w4.cell? ⟨w.heap.size, 6, none⟩ = some (.slice j.a j.n j.cap) := (HX1.out.below HB4.out).cell 6) | (go_at_call 39; refine (HO1.out _ HB5.out _).mono ?_; rintro r w6 ⟨rfl, B2⟩; have HB6 := Lib.hid (step_below HB5.out B2); clear B2; have g0 : w6.cell? ⟨w.heap.size, 0, none⟩ = some (.int .i64 j.w) := (HX1.out.below HB6.out).cell 0; have g1 : w6.cell? ⟨w.heap.size, 1, none⟩ = some (.int .i64 j.l) := (HX1.out.below HB6.out).cell 1; have g2 : w6.cell? ⟨w.heap.size, 2, none⟩ = some (.int .i64 j.d) := (HX1.out.below HB6.out).cell 2; have g3 : w6.cell? ⟨w.heap.size, 3, none⟩ = some (.int .i64 j.c) := (HX1.out.below HB6.out).cell 3; have g4 : w6.cell? ⟨w.heap.size, 4, none⟩ = some (.int .i64 j.k) := (HX1.out.below HB6.out).cell 4; have g5 : w6.cell? ⟨w.heap.size, 5, none⟩ = some (.int .i64 j.e) := (HX1.out.below HB6.out).cell 5; have g6 : w6.cell? ⟨w.heap.size, 6, none⟩ = some (.slice j.a j.n j.cap) := (HX1.out.below HB6.out).cell 6) | (go_at_call 39; refine (HO1.out _ HB4.out _).mono ?_; rintro r w5 ⟨rfl, B2⟩; have HB5 := Lib.hid (step_below HB4.out B2); clear B2; have g0 : w5.cell? ⟨w.heap.size, 0, none⟩ = some (.int .i64 j.w) := (HX1.out.below HB5.out).cell 0; have g1 : w5.cell? ⟨w.heap.size, 1, none⟩ = some (.int .i64 j.l) := (HX1.out.below HB5.out).cell 1; have g2 : w5.cell? ⟨w.heap.size, 2, none⟩ = some (.int .i64 j.d) := (HX1.out.below HB5.out).cell 2; have g3 : w5.cell? ⟨w.heap.size, 3, none⟩ = some (.int .i64 j.c) := (HX1.out.below HB5.out).cell 3; have g4 : w5.cell? ⟨w.heap.size, 4, none⟩ = some (.int .i64 j.k) := (HX1.out.below HB5.out).cell 4; have g5 : w5.cell? ⟨w.heap.size, 5, none⟩ = some (.int .i64 j.e) := (HX1.out.below HB5.out).cell 5; have g6 : w5.cell? ⟨w.heap.size, 6, none⟩ = some (.slice j.a j.n j.cap) := (HX1.out.below HB5.out).cell 6))
    all_goals go_wp2_with fail
    all_goals go_meet
    all_goals exact ⟨rfl, Lib.hid HB6.out⟩
  case rest =>
    obtain ⟨rfl, hcw⟩ := hcut
    have HBc := Lib.hid hcw.out
    clear hcw g0 g1 g2 g3 g4 g5 g6
    have g0 : wc.cell? ⟨w.heap.size, 0, none⟩ = some (.int .i64 j.w) := (HX1.out.below HBc.out).cell 0
    have g1 : wc.cell? ⟨w.heap.size, 1, none⟩ = some (.int .i64 j.l) := (HX1.out.below HBc.out).cell 1
    have g2 : wc.cell? ⟨w.heap.size, 2, none⟩ = some (.int .i64 j.d) := (HX1.out.below HBc.out).cell 2
    have g3 : wc.cell? ⟨w.heap.size, 3, none⟩ = some (.int .i64 j.c) := (HX1.out.below HBc.out).cell 3
    have g4 : wc.cell? ⟨w.heap.size, 4, none⟩ = some (.int .i64 j.k) := (HX1.out.below HBc.out).cell 4
    have g5 : wc.cell? ⟨w.heap.size, 5, none⟩ = some (.int .i64 j.e) := (HX1.out.below HBc.out).cell 5
    have g6 : wc.cell? ⟨w.heap.size, 6, none⟩ = some (.slice j.a j.n j.cap) := (HX1.out.below HBc.out).cell 6
    go_wp2_with fail
    refine (HT.out _ HBc.out).mono ?_; rintro r w7 ⟨rfl, B2⟩
    have HB7 := Lib.hid (step_below HBc.out B2)
    clear B2 g0 g1 g2 g3 g4 g5 g6
    have g0 : w7.cell? ⟨w.heap.size, 0, none⟩ = some (.int .i64 j.w) := (HX1.out.below HB7.out).cell 0
    have g1 : w7.cell? ⟨w.heap.size, 1, none⟩ = some (.int .i64 j.l) := (HX1.out.below HB7.out).cell 1
    have g2 : w7.cell? ⟨w.heap.size, 2, none⟩ = some (.int .i64 j.d) := (HX1.out.below HB7.out).cell 2
    have g3 : w7.cell? ⟨w.heap.size, 3, none⟩ = some (.int .i64 j.c) := (HX1.out.below HB7.out).cell 3
    have g4 : w7.cell? ⟨w.heap.size, 4, none⟩ = some (.int .i64 j.k) := (HX1.out.below HB7.out).cell 4
    have g5 : w7.cell? ⟨w.heap.size, 5, none⟩ = some (.int .i64 j.e) := (HX1.out.below HB7.out).cell 5
    have g6 : w7.cell? ⟨w.heap.size, 6, none⟩ = some (.slice j.a j.n j.cap) := (HX1.out.below HB7.out).cell 6
    go_wp2_with fail
    refine (HQ.out _ HB7.out).mono ?_; rintro r w8 ⟨rfl, B2⟩
    have HB8 := Lib.hid (step_below HB7.out B2)
    clear B2 g0 g1 g2 g3 g4 g5 g6
    go_wp2_with (go_at_call 35; refine (num35 _ _).mono ?_; rintro r w99 ⟨rfl, rfl⟩)
    go_loopw [14, 15, 16, 17] (fun s14 s15 s16 s17 wr => ∃ m : Nat, m ≤ L + 2 ∧ s14 = .int .i64 ((m : Int) - 1) ∧ Hid (Below w1.heap.size w1 wr)) (fun s14 _ _ _ _ => L + 2 - (intOf s14 + 1).toNat)
    case atStart => exact ⟨0, by omega, by simp, HB8⟩
    case round =>
      obtain ⟨m, hm, rfl, HBr⟩ := hrel
      have g0 : wr.cell? ⟨w.heap.size, 0, none⟩ = some (.int .i64 j.w) := (HX1.out.below HBr.out).cell 0
      have g1 : wr.cell? ⟨w.heap.size, 1, none⟩ = some (.int .i64 j.l) := (HX1.out.below HBr.out).cell 1
      have g2 : wr.cell? ⟨w.heap.size, 2, none⟩ = some (.int .i64 j.d) := (HX1.out.below HBr.out).cell 2
      have g3 : wr.cell? ⟨w.heap.size, 3, none⟩ = some (.int .i64 j.c) := (HX1.out.below HBr.out).cell 3
      have g4 : wr.cell? ⟨w.heap.size, 4, none⟩ = some (.int .i64 j.k) := (HX1.out.below HBr.out).cell 4
      have g5 : wr.cell? ⟨w.heap.size, 5, none⟩ = some (.int .i64 j.e) := (HX1.out.below HBr.out).cell 5
      have g6 : wr.cell? ⟨w.heap.size, 6, none⟩ = some (.slice j.a j.n j.cap) := (HX1.out.below HBr.out).cell 6
      have hmb : (m : Int) ≤ 14 := by omega
      rcases (show m = 0 ∨ (1 ≤ m ∧ m ≤ L) ∨ m = L + 1 ∨ m = L + 2 by omega) with h0 | ⟨h1, h2'⟩ | h3 | h4
      · subst h0
        have hc := HON.out _ HBr.out (-1) (by omega)
        have hle : (-1 : Int) ≤ (L : Int) := by omega
        rw [show (((0 : Nat) : Int) - 1) = -1 by omega]
        go_wp2_with fail
        refine hc.mono ?_; clear hc; rintro r w9 ⟨rfl, B2⟩
        have HB9 := Lib.hid (step_below HBr.out B2)
        clear B2
        go_wp2_with (go_at_call 35; refine (num35 _ _).mono ?_; rintro r w99 ⟨rfl, rfl⟩)
        go_roundw
        case rel => exact ⟨1, by omega, by simp, HB9⟩
        case measure => simp [intOf]
      · obtain ⟨k, rfl⟩ : ∃ k, m = k + 1 := ⟨m - 1, by omega⟩
        obtain ⟨p, hp⟩ : ∃ p, (named j)[k]? = some p := ⟨_, List.getElem?_eq_getElem (by rw [HLL.out]; omega)⟩
        obtain ⟨b1, o1, ea, d1, d2⟩ := HW.out.below HBr.out k p hp
        obtain ⟨p1, p2⟩ := p
        have hc := HOA.out _ HBr.out k (p1, p2) hp
        have hle : (k : Int) ≤ (L : Int) := by omega
        have hk0 : (0 : Int) ≤ (k : Int) := by omega
        have hkL : (k : Int) < (L : Int) := by omega
        have hp1 : (p1 != p1) = false := by simp
        have hp2 : (p2 != p2) = false := by simp
        subst ea
        rw [show (((k + 1 : Nat) : Int) - 1) = (k : Int) by omega]
        go_wp2_with fail
        refine hc.mono ?_; clear hc; rintro r w9 ⟨rfl, B2⟩
        have f1 := (B2.cell (World.block_lt_of_cell? _ _ d1)).trans d1
        have f2 := (B2.cell (World.block_lt_of_cell? _ _ d2)).trans d2
        have HB9 := Lib.hid (step_below HBr.out B2)
        clear B2 d1 d2 g0 g1 g2 g3 g4 g5 g6
        go_wp2_with (go_at_call 35; refine (num35 _ _).mono ?_; rintro r w99 ⟨rfl, rfl⟩)
        go_roundw
        case rel => exact ⟨k + 2, by omega, by first | go_num | (congr 1; omega), HB9⟩
        case measure => simp [intOf]; omega
      · subst h3
        have hc := HON.out _ HBr.out (L : Int) (by omega)
        have hle : (L : Int) ≤ (L : Int) := by omega
        have hL0 : (0 : Int) ≤ (L : Int) := by omega
        rw [show (((L + 1 : Nat) : Int) - 1) = (L : Int) by omega]
        go_wp2_with fail
        refine hc.mono ?_; clear hc; rintro r w9 ⟨rfl, B2⟩
        have HB9 := Lib.hid (step_below HBr.out B2)
        clear B2
        go_wp2_with (go_at_call 35; refine (num35 _ _).mono ?_; rintro r w99 ⟨rfl, rfl⟩)
        go_roundw
        case rel => exact ⟨L + 2, by omega, by first | go_num | (congr 1; omega), HB9⟩
        case measure => simp [intOf]; omega
      · subst h4
        have hle : ¬ (L : Int) + 1 ≤ (L : Int) := by omega
        rw [show (((L + 2 : Nat) : Int) - 1) = (L : Int) + 1 by omega]
        go_wp2_with fail
        refine (known33 _).mono ?_; rintro r w9 ⟨rfl, B2⟩
        go_wp2_with fail
        go_ret
        exact ⟨rfl, step_below HBW.out (step_below HBr.out B2)⟩
set_option maxRecDepth 100000 in
set_option maxHeartbeats 1000000 in
theorem jobs_big (j : Job) (t i lv : Int) (h2000 : 2000 < j.n) (w : World) : Calls Try.prog 7 #[.agg #[.int .i64 j.w, .int .i64 j.l, .int .i64 j.d, .int .i64 j.c, .int .i64 j.k, .int .i64 j.e, .slice j.a j.n j.cap], .int .i64 t, .int .i64 i, .int .i64 lv] w fun r w' => r = .returned (.bool true) ∧ Below w.heap.size w w' := by
  have h2 : (2000 : Int) < (j.n : Int) := by omega
  have hbx := BoxC.new w #[.int .i64 j.w, .int .i64 j.l, .int .i64 j.d, .int .i64 j.c, .int .i64 j.k, .int .i64 j.e, .slice j.a j.n j.cap] 53
  have hb0 := (Below.refl w.heap.size w).alloc (Nat.le_refl _) (.cells #[.int .i64 j.w, .int .i64 j.l, .int .i64 j.d, .int .i64 j.c, .int .i64 j.k, .int .i64 j.e, .slice j.a j.n j.cap] 53)
  have HB00 := Lib.hid hb0
  have g6 : (w.alloc (.cells #[.int .i64 j.w, .int .i64 j.l, .int .i64 j.d, .int .i64 j.c, .int .i64 j.k, .int .i64 j.e, .slice j.a j.n j.cap] 53)).cell? ⟨w.heap.size, 6, none⟩ = some (.slice j.a j.n j.cap) := (hbx).cell 6
  clear hbx hb0 h2000
  go_enter Try.func7, Try.ntmps7
  go_wp2_with fail
  refine (known33 _).mono ?_; rintro r w9 ⟨rfl, B2⟩
  go_wp2_with fail
  go_ret
  exact ⟨rfl, step_below HB00.out B2⟩
theorem jobs_any (j : Job) (t i lv : Int) (w : World) (hl : Ls .i64 w j.a j.cap j.T) (hn : j.T.length = j.n) : Calls Try.prog 7 #[.agg #[.int .i64 j.w, .int .i64 j.l, .int .i64 j.d, .int .i64 j.c, .int .i64 j.k, .int .i64 j.e, .slice j.a j.n j.cap], .int .i64 t, .int .i64 i, .int .i64 lv] w fun r w' => r = .returned (.bool true) ∧ Below w.heap.size w w' := by
  by_cases h : j.n ≤ 2000
  · exact jobs_law j t i lv h w ⟨hl, hn, by omega⟩
  · exact jobs_big j t i lv (by omega) w
end Go.Proofs.Ytkgcbhpgkcfkhaa
