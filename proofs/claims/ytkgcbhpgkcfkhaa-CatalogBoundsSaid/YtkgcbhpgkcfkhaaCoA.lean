/- From where to where a call goes, by the reference: a contract. -/
import Derived.Test.YtkgcbhpgkcfkhaaCo9
import Derived.Test.YtkgcbhpgkcfkhaaCo3
namespace Go.Proofs.Ytkgcbhpgkcfkhaa
open Go.ChangeShapes Go.WideShapes Go.ChangeAt Go.RowKit Go.Shelf
set_option linter.unusedVariables false
set_option linter.unusedSimpArgs false

theorem kf3_eq (k : Int) : kf k 3 = ((k == 5) || (k == 6)) := by
  by_cases h : k < 0 ∨ 6 < k
  · rw [kf_out k h, Bool.eq_iff_iff]
    simp; omega
  · obtain ⟨n, rfl⟩ : ∃ n : Nat, k = (n : Int) := ⟨k.toNat, by omega⟩
    have hn : n ≤ 6 := by omega
    rw [kf_in n hn]
    rcases (show n = 0 ∨ n = 1 ∨ n = 2 ∨ n = 3 ∨ n = 4 ∨ n = 5 ∨ n = 6 by omega) with rfl | rfl | rfl | rfl | rfl | rfl | rfl <;> rfl
theorem kf4_eq (k : Int) : kf k 4 = (k == 6) := by
  by_cases h : k < 0 ∨ 6 < k
  · rw [kf_out k h, Bool.eq_iff_iff]
    simp; omega
  · obtain ⟨n, rfl⟩ : ∃ n : Nat, k = (n : Int) := ⟨k.toNat, by omega⟩
    have hn : n ≤ 6 := by omega
    rw [kf_in n hn]
    rcases (show n = 0 ∨ n = 1 ∨ n = 2 ∨ n = 3 ∨ n = 4 ∨ n = 5 ∨ n = 6 by omega) with rfl | rfl | rfl | rfl | rfl | rfl | rfl <;> rfl
/-- The result, written. -/
def Rg7 (o : CallV) (w : World) (tr : Int) (wx : World) : Prop := ∃ (fa : Option Addr) (fc : Nat) (ta : Option Addr) (tc : Nat), BoxC wx (w.heap.size + 1 + 1) #[.int .i64 tr, .slice fa (frontL o.K).length fc, .slice ta (frontL o.T).length tc, .bool (decide (0 < o.tn))] 101 ∧ Ls .u8 wx fa fc (frontL o.K) ∧ Ls .u8 wx ta tc (frontL o.T) ∧ Below w.heap.size w wx
set_option maxRecDepth 100000 in
set_option maxHeartbeats 4000000 in
theorem qrange_law (j : Job) (o : CallV) (hrn : o.rn ≤ 1000000) (w : World) (hj : JobAt w j) (ho : CallAt w o) :
    Calls Try.prog 91 #[.agg #[.int .i64 j.w, .int .i64 j.l, .int .i64 j.d, .int .i64 j.c, .int .i64 j.k, .int .i64 j.e, .slice j.a j.n j.cap], .agg #[.int .i64 o.k, .int .i64 o.t, .int .i64 o.i, .slice o.ka o.kn o.kc, .slice o.ta o.tn o.tc, .int .i64 o.m, .slice o.ra o.rn o.rc]] w fun r w' => RgP (rngV j o) r w' ∧ Below w.heap.size w w' := by
  obtain ⟨hb0, hbx⟩ := boxes3' w #[.int .i64 j.w, .int .i64 j.l, .int .i64 j.d, .int .i64 j.c, .int .i64 j.k, .int .i64 j.e, .slice j.a j.n j.cap] #[.int .i64 o.k, .int .i64 o.t, .int .i64 o.i, .slice o.ka o.kn o.kc, .slice o.ta o.tn o.tc, .int .i64 o.m, .slice o.ra o.rn o.rc] #[.int .i64 0, .slice none 0 0, .slice none 0 0, .bool false] 53 98 101
  have hlei : (j.n : Int) ≤ 1000000 := by have := hj.le; omega
  have hv : rngV j o = if pO j o && kf o.k 3 then (if kf o.k 4 then ((trV j o.t o.i).1, frontL o.K, frontL o.T, decide (0 < o.tn), 0) else ((trV j o.t (-1)).1, o.K, o.T, decide (0 < o.tn), 0)) else (0, [], [], false, 2) := rfl
  have hlen := fun (h : pO j o = true) (h3 : kf o.k 3 = true) => (pO_len h h3 : (o.kn ≤ 32 ∧ o.tn ≤ 32) ∧ (kf o.k 4 = true → o.kn ≤ 24 ∧ o.tn ≤ 24))
  rw [kf3_eq, kf4_eq] at hv hlen
  have HV := Lib.hid hv
  have HLEN := Lib.hid hlen
  clear hv hlen
  obtain ⟨V, hV⟩ : ∃ V, rngV j o = V := ⟨_, rfl⟩
  rw [hV] at HV ⊢
  clear hV
  have hpq := pO_qO j o ho.rl
  go_enter Try.func91, Try.ntmps91
  go_upto_region 1 with (fail)
  generalize (((w.alloc (.cells #[.int .i64 j.w, .int .i64 j.l, .int .i64 j.d, .int .i64 j.c, .int .i64 j.k, .int .i64 j.e, .slice j.a j.n j.cap] 53)).alloc (.cells #[.int .i64 o.k, .int .i64 o.t, .int .i64 o.i, .slice o.ka o.kn o.kc, .slice o.ta o.tn o.tc, .int .i64 o.m, .slice o.ra o.rn o.rc] 98)).alloc (.cells #[.int .i64 0, .slice none 0 0, .slice none 0 0, .bool false] 101)) = W0 at *
  have FG := Lib.hid (fun W (b : Below W0.heap.size W0 W) => (by
    obtain ⟨x, y, z⟩ := hbx W b
    exact ⟨x.cell 0, x.cell 1, x.cell 2, x.cell 3, x.cell 4, x.cell 5, x.cell 6, y.cell 0, y.cell 1, y.cell 2, y.cell 3, y.cell 4, y.cell 5, y.cell 6⟩ : W.cell? ⟨w.heap.size, 0, none⟩ = some (.int .i64 j.w) ∧ W.cell? ⟨w.heap.size, 1, none⟩ = some (.int .i64 j.l) ∧ W.cell? ⟨w.heap.size, 2, none⟩ = some (.int .i64 j.d) ∧ W.cell? ⟨w.heap.size, 3, none⟩ = some (.int .i64 j.c) ∧ W.cell? ⟨w.heap.size, 4, none⟩ = some (.int .i64 j.k) ∧ W.cell? ⟨w.heap.size, 5, none⟩ = some (.int .i64 j.e) ∧ W.cell? ⟨w.heap.size, 6, none⟩ = some (.slice j.a j.n j.cap) ∧ W.cell? ⟨w.heap.size + 1, 0, none⟩ = some (.int .i64 o.k) ∧ W.cell? ⟨w.heap.size + 1, 1, none⟩ = some (.int .i64 o.t) ∧ W.cell? ⟨w.heap.size + 1, 2, none⟩ = some (.int .i64 o.i) ∧ W.cell? ⟨w.heap.size + 1, 3, none⟩ = some (.slice o.ka o.kn o.kc) ∧ W.cell? ⟨w.heap.size + 1, 4, none⟩ = some (.slice o.ta o.tn o.tc) ∧ W.cell? ⟨w.heap.size + 1, 5, none⟩ = some (.int .i64 o.m) ∧ W.cell? ⟨w.heap.size + 1, 6, none⟩ = some (.slice o.ra o.rn o.rc)))
  have FB := Lib.hid (fun W (b : Below W0.heap.size W0 W) => (hbx W b).2.2)
  have FJ := Lib.hid (fun W (b : Below W0.heap.size W0 W) => (hj.below hb0).below b)
  have FO := Lib.hid (fun W (b : Below W0.heap.size W0 W) => (ho.below hb0).below b)
  have HB0 := Lib.hid hb0
  clear hb0 hbx hj ho
  obtain ⟨pb, hpb⟩ : ∃ b, pO j o = b := ⟨_, rfl⟩
  have HMO := Lib.hid (by have h := qmayop_law j o W0 (FJ.out _ (Below.refl _ _)) (FO.out _ (Below.refl _ _)); rwa [← hpq, hpb] at h : Calls Try.prog 90 #[.agg #[.int .i64 j.w, .int .i64 j.l, .int .i64 j.d, .int .i64 j.c, .int .i64 j.k, .int .i64 j.e, .slice j.a j.n j.cap], .agg #[.int .i64 o.k, .int .i64 o.t, .int .i64 o.i, .slice o.ka o.kn o.kc, .slice o.ta o.tn o.tc, .int .i64 o.m, .slice o.ra o.rn o.rc]] W0 fun r w' => r = .returned (.bool pb) ∧ Below W0.heap.size W0 w')
  rw [hpb] at HLEN HV
  clear hpb hpq
  obtain ⟨g0, g1, g2, g3, g4, g5, g6, o0, o1, o2, o3, o4, o5, o6⟩ := FG.out _ (Below.refl _ _)
  go_wp2_with fail
  refine HMO.out.mono ?_; rintro r w3 ⟨rfl, B3⟩
  have HB3 := Lib.hid B3
  clear B3 g0 g1 g2 g3 g4 g5 g6 o0 o1 o2 o3 o4 o5 o6
  obtain ⟨g0, g1, g2, g3, g4, g5, g6, o0, o1, o2, o3, o4, o5, o6⟩ := FG.out _ HB3.out
  cases pb
  · simp only [Bool.false_and, Bool.false_eq_true, if_false, ↓reduceIte] at HV
    have hB := FB.out _ HB3.out
    have q0 := hB.cell 0
    have q1 := hB.cell 1
    have q2 := hB.cell 2
    have q3 := hB.cell 3
    simp only [List.getElem?_toArray, List.getElem?_cons_zero, List.getElem?_cons_succ] at q0 q1 q2 q3
    have z0 : w3.frozen? ⟨w.heap.size + 1 + 1, 0, none⟩ = false := frozen_of_row w3 _ 0 _ 101 hB
    have z1 : w3.frozen? ⟨w.heap.size + 1 + 1, 1, none⟩ = false := frozen_of_row w3 _ 1 _ 101 hB
    have z2 : w3.frozen? ⟨w.heap.size + 1 + 1, 2, none⟩ = false := frozen_of_row w3 _ 2 _ 101 hB
    have z3 : w3.frozen? ⟨w.heap.size + 1 + 1, 3, none⟩ = false := frozen_of_row w3 _ 3 _ 101 hB
    have HS4 := Lib.hid (set4 hB (step_below HB0.out HB3.out) (by omega) (by simp) (by simp) (by simp) (by simp) (.int .i64 0) (.slice none 0 0) (.slice none 0 0) (.bool false))
    clear hB
    go_wp2_with fail
    refine bodyPost_ret (v := .tuple #[.agg #[.int .i64 0, .slice none 0 0, .slice none 0 0, .bool false], .int .i64 2]) ?_ rfl ⟨⟨none, 0, none, 0, by rw [HV.out]; rfl, by rw [HV.out]; exact Ls.nul _ _, by rw [HV.out]; exact Ls.nul _ _⟩, HS4.out.bel⟩
    have x0 := HS4.out.box.cell 0
    have x1 := HS4.out.box.cell 1
    have x2 := HS4.out.box.cell 2
    have x3 := HS4.out.box.cell 3
    simp only [List.getElem?_toArray, List.getElem?_cons_zero, List.getElem?_cons_succ] at x0 x1 x2 x3
    simp [results, Try.results91, go_sem, x0, x1, x2, x3]
  by_cases h5 : o.k = 5
  · replace HV := Lib.hid (show V = ((trV j o.t (-1)).1, o.K, o.T, decide (0 < o.tn), 0) by rw [HV.out, h5]; simp)
    rw [h5] at o0
    go_wp2_with fail
    refine (qtree_law j o.t (-1) _ (FJ.out _ HB3.out)).mono ?_; rintro r w6 ⟨rfl, B6⟩
    have HB6 := Lib.hid (step_below HB3.out B6)
    clear B6 g0 g1 g2 g3 g4 g5 g6 o0 o1 o2 o3 o4 o5 o6
    obtain ⟨g0, g1, g2, g3, g4, g5, g6, o0, o1, o2, o3, o4, o5, o6⟩ := FG.out _ HB6.out
    obtain ⟨tr, htr⟩ : ∃ x, (trV j o.t (-1)).1 = x := ⟨_, rfl⟩
    obtain ⟨er, her⟩ : ∃ x, (if (trV j o.t (-1)).2.2.2 = true then (0 : Int) else 2) = x := ⟨_, rfl⟩
    rw [htr] at HV ⊢
    rw [her]
    clear htr her
    have hB := FB.out _ HB6.out
    have q0 := hB.cell 0
    have q1 := hB.cell 1
    have q2 := hB.cell 2
    have q3 := hB.cell 3
    simp only [List.getElem?_toArray, List.getElem?_cons_zero, List.getElem?_cons_succ] at q0 q1 q2 q3
    have z0 : w6.frozen? ⟨w.heap.size + 1 + 1, 0, none⟩ = false := frozen_of_row w6 _ 0 _ 101 hB
    have z1 : w6.frozen? ⟨w.heap.size + 1 + 1, 1, none⟩ = false := frozen_of_row w6 _ 1 _ 101 hB
    have z2 : w6.frozen? ⟨w.heap.size + 1 + 1, 2, none⟩ = false := frozen_of_row w6 _ 2 _ 101 hB
    have z3 : w6.frozen? ⟨w.heap.size + 1 + 1, 3, none⟩ = false := frozen_of_row w6 _ 3 _ 101 hB
    have HS4 := Lib.hid (set4 hB (step_below HB0.out HB6.out) (by omega) (by simp) (by simp) (by simp) (by simp) (.int .i64 tr) (.slice o.ka o.kn o.kc) (.slice o.ta o.tn o.tc) (.bool (decide (0 < o.tn))))
    clear hB
    go_wp2_with fail
    refine bodyPost_ret (v := .tuple #[.agg #[.int .i64 tr, .slice o.ka o.kn o.kc, .slice o.ta o.tn o.tc, .bool (decide (0 < o.tn))], .int .i64 0]) ?_ rfl ⟨⟨o.ka, o.kc, o.ta, o.tc, by rw [HV.out]; simp only [(FO.out _ HB6.out).kl, (FO.out _ HB6.out).tl], by rw [HV.out]; exact HS4.out.ls (FO.out _ HB6.out).ks, by rw [HV.out]; exact HS4.out.ls (FO.out _ HB6.out).ts⟩, HS4.out.bel⟩
    have x0 := HS4.out.box.cell 0
    have x1 := HS4.out.box.cell 1
    have x2 := HS4.out.box.cell 2
    have x3 := HS4.out.box.cell 3
    simp only [List.getElem?_toArray, List.getElem?_cons_zero, List.getElem?_cons_succ] at x0 x1 x2 x3
    simp [results, Try.results91, go_sem, x0, x1, x2, x3]
  by_cases h6 : o.k = 6
  · replace HV := Lib.hid (show V = ((trV j o.t o.i).1, frontL o.K, frontL o.T, decide (0 < o.tn), 0) by rw [HV.out, h6]; simp)
    rw [h6] at HLEN o0
    obtain ⟨_, h24⟩ := HLEN.out (by first | exact rfl | trivial) (by decide)
    obtain ⟨hk24, ht24⟩ := h24 (by decide)
    clear h24
    go_wp2_with fail
    refine (qtree_law j o.t o.i _ (FJ.out _ HB3.out)).mono ?_; rintro r w6 ⟨rfl, B6⟩
    have HB6 := Lib.hid (step_below HB3.out B6)
    clear B6 g0 g1 g2 g3 g4 g5 g6 o0 o1 o2 o3 o4 o5 o6
    obtain ⟨g0, g1, g2, g3, g4, g5, g6, o0, o1, o2, o3, o4, o5, o6⟩ := FG.out _ HB6.out
    obtain ⟨tr, htr⟩ : ∃ x, (trV j o.t o.i).1 = x := ⟨_, rfl⟩
    obtain ⟨er, her⟩ : ∃ x, (if (trV j o.t o.i).2.2.2 = true then (0 : Int) else 2) = x := ⟨_, rfl⟩
    rw [htr] at HV ⊢
    rw [her]
    clear htr her
    go_wp2_with fail
    go_cut [5] (fun x wx => x = .int .i64 0 ∧ Rg7 o w tr wx)
    case first =>
      refine wp_region_held_drew (S := (fun W => W.cell? ⟨w.heap.size + 1, 3, none⟩ = some (.slice o.ka o.kn o.kc) ∧ W.cell? ⟨w.heap.size + 1, 4, none⟩ = some (.slice o.ta o.tn o.tc))) (by kernel_rfl) (⟨o3, o4⟩) (fun hHeld => ?_)
      refine wpAnyH_take (i := 0) (oi := { dst := some 54, op := Op.move (Operand.tmp 8), type := 3, pos := "ref.go:174", after := #[], guard := none }) (v := ?_) rfl (by kernel_rfl) (by kernel_rfl) (by kernel_rfl) (fun _ _ _ h => h) (Or.inl ⟨by rfl, ?_⟩) (by assumption) ?_
      rotate_left
      · intro W hSw; go_simp; try with_reducible rfl
      try simp only [Act.put, List.setIfInBounds_toArray, List.set_cons_zero, List.set_cons_succ]
      refine wpAnyH_take (i := 1) (oi := { dst := some 55, op := Op.fieldAddr 98 (Operand.tmp 3) 3, type := 0, pos := "ref.go:174", after := #[], guard := none }) (v := ?_) rfl (by kernel_rfl) (by kernel_rfl) (by kernel_rfl) (fun _ _ _ h => h) (Or.inl ⟨by rfl, ?_⟩) (by assumption) ?_
      rotate_left
      · intro W hSw; go_simp; try with_reducible rfl
      try simp only [Act.put, List.setIfInBounds_toArray, List.set_cons_zero, List.set_cons_succ]
      refine wpAnyH_take (i := 2) (oi := { dst := some 56, op := Op.load 24 (Operand.tmp 55), type := 24, pos := "ref.go:174", after := #[{ on := 1, ground := Ground.data }], guard := none }) (v := ?_) rfl (by kernel_rfl) (by kernel_rfl) (by kernel_rfl) (fun _ _ _ h => h) (Or.inl ⟨by rfl, ?_⟩) (by assumption) ?_
      rotate_left
      · intro W hSw; obtain ⟨s1, s2⟩ := hSw; go_simp; try with_reducible rfl
      try simp only [Act.put, List.setIfInBounds_toArray, List.set_cons_zero, List.set_cons_succ]
      refine wpAnyH_take (i := 4) (oi := { dst := some 58, op := Op.fieldAddr 98 (Operand.tmp 3) 4, type := 0, pos := "ref.go:174", after := #[], guard := none }) (v := ?_) rfl (by kernel_rfl) (by kernel_rfl) (by kernel_rfl) (fun _ _ _ h => h) (Or.inl ⟨by rfl, ?_⟩) (by assumption) ?_
      rotate_left
      · intro W hSw; go_simp; try with_reducible rfl
      try simp only [Act.put, List.setIfInBounds_toArray, List.set_cons_zero, List.set_cons_succ]
      refine wpAnyH_take (i := 5) (oi := { dst := some 59, op := Op.load 24 (Operand.tmp 58), type := 24, pos := "ref.go:174", after := #[{ on := 4, ground := Ground.data }], guard := none }) (v := ?_) rfl (by kernel_rfl) (by kernel_rfl) (by kernel_rfl) (fun _ _ _ h => h) (Or.inl ⟨by rfl, ?_⟩) (by assumption) ?_
      rotate_left
      · intro W hSw; obtain ⟨s1, s2⟩ := hSw; go_simp; try with_reducible rfl
      try simp only [Act.put, List.setIfInBounds_toArray, List.set_cons_zero, List.set_cons_succ]
      refine wpAnyH_take (i := 7) (oi := { dst := some 61, op := Op.fieldAddr 98 (Operand.tmp 3) 4, type := 0, pos := "ref.go:174", after := #[], guard := none }) (v := ?_) rfl (by kernel_rfl) (by kernel_rfl) (by kernel_rfl) (fun _ _ _ h => h) (Or.inl ⟨by rfl, ?_⟩) (by assumption) ?_
      rotate_left
      · intro W hSw; go_simp; try with_reducible rfl
      try simp only [Act.put, List.setIfInBounds_toArray, List.set_cons_zero, List.set_cons_succ]
      refine wpAnyH_take (i := 8) (oi := { dst := some 62, op := Op.load 24 (Operand.tmp 61), type := 24, pos := "ref.go:174", after := #[{ on := 7, ground := Ground.data }], guard := none }) (v := ?_) rfl (by kernel_rfl) (by kernel_rfl) (by kernel_rfl) (fun _ _ _ h => h) (Or.inl ⟨by rfl, ?_⟩) (by assumption) ?_
      rotate_left
      · intro W hSw; obtain ⟨s1, s2⟩ := hSw; go_simp; try with_reducible rfl
      try simp only [Act.put, List.setIfInBounds_toArray, List.set_cons_zero, List.set_cons_succ]
      refine wpAnyH_take (i := 9) (oi := { dst := some 63, op := Op.call { callee := Callee.builtin Builtin.len, args := #[Operand.tmp 62], argTypes := #[24] }, type := 3, pos := "ref.go:174", after := #[{ on := 8, ground := Ground.data }], guard := none }) (v := ?_) rfl (by kernel_rfl) (by kernel_rfl) (by kernel_rfl) (fun _ _ _ h => h) (Or.inl ⟨by rfl, ?_⟩) (by assumption) ?_
      rotate_left
      · intro W hSw; go_simp; try with_reducible rfl
      try simp only [Act.put, List.setIfInBounds_toArray, List.set_cons_zero, List.set_cons_succ]
      refine wpAnyH_take (i := 10) (oi := { dst := some 64, op := Op.binOp BinOp.gtr 3 (Operand.tmp 63) (Operand.const (Value.int IntKind.i64 0)) 3, type := 4, pos := "ref.go:174", after := #[{ on := 9, ground := Ground.data }], guard := none }) (v := ?_) rfl (by kernel_rfl) (by kernel_rfl) (by kernel_rfl) (fun _ _ _ h => h) (Or.inl ⟨by rfl, ?_⟩) (by assumption) ?_
      rotate_left
      · intro W hSw; go_simp; try with_reducible rfl
      try simp only [Act.put, List.setIfInBounds_toArray, List.set_cons_zero, List.set_cons_succ]
      refine wpAnyH_ready (rs := [3]) (by kernel_rfl) (by simp) ?_
      refine AllReadyH.cons (o := { dst := some 57, op := Op.call { callee := Callee.value (Operand.func 31), args := #[Operand.tmp 56], argTypes := #[24] }, type := 24, pos := "ref.go:174", after := #[{ on := 2, ground := Ground.data }], guard := none }) rfl (fun K hK => ?_) AllReadyH.nil
      go_simp
      refine (rfront_law o.ka o.K o.kn o.kc (FO.out _ HB6.out).kl (by omega) _ (FO.out _ (show Below W0.heap.size W0 w6.drew from HB6.out.drew)).ks).mono ?_; rintro r W5 ⟨a5, c5, rfl, l5, B5⟩
      go_wp2_with fail
      refine hK.out _ _ (⟨(B5.cell (World.block_lt_of_cell? _ _ hHeld.1)).trans hHeld.1, (B5.cell (World.block_lt_of_cell? _ _ hHeld.2)).trans hHeld.2⟩) (fun hHeldn => ?_)
      clear hK K hHeld; have hHeld := hHeldn; clear hHeldn
      have L5 := Lib.hid (fun W (b : Below W5.heap.size W5 W) => l5.below b)
      have H5 := Lib.hid (step_below (show Below W0.heap.size W0 w6.drew from HB6.out.drew) B5)
      clear l5 B5
      try simp only [Act.put, List.setIfInBounds_toArray, List.set_cons_zero, List.set_cons_succ]
      refine wpAnyH_ready (rs := [6]) (by kernel_rfl) (by simp) ?_
      refine AllReadyH.cons (o := { dst := some 60, op := Op.call { callee := Callee.value (Operand.func 31), args := #[Operand.tmp 59], argTypes := #[24] }, type := 24, pos := "ref.go:174", after := #[{ on := 5, ground := Ground.data }, { on := 3, ground := Ground.chain }], guard := none }) rfl (fun K hK => ?_) AllReadyH.nil
      go_simp
      refine (rfront_law o.ta o.T o.tn o.tc (FO.out _ H5.out).tl (by omega) _ (FO.out _ H5.out).ts).mono ?_; rintro r W6 ⟨a6, c6, rfl, l6, B5⟩
      go_wp2_with fail
      refine hK.out _ _ (⟨(B5.cell (World.block_lt_of_cell? _ _ hHeld.1)).trans hHeld.1, (B5.cell (World.block_lt_of_cell? _ _ hHeld.2)).trans hHeld.2⟩) (fun hHeldn => ?_)
      clear hK K hHeld; have hHeld := hHeldn; clear hHeldn
      have L6 := Lib.hid l6
      have L56 := Lib.hid (L5.out _ B5)
      have H6 := Lib.hid (step_below H5.out B5)
      clear l6 B5
      have hB := FB.out _ H6.out
      have q0 := hB.cell 0
      have q1 := hB.cell 1
      have q2 := hB.cell 2
      have q3 := hB.cell 3
      simp only [List.getElem?_toArray, List.getElem?_cons_zero, List.getElem?_cons_succ] at q0 q1 q2 q3
      have z0 : W6.frozen? ⟨w.heap.size + 1 + 1, 0, none⟩ = false := frozen_of_row W6 _ 0 _ 101 hB
      have z1 : W6.frozen? ⟨w.heap.size + 1 + 1, 1, none⟩ = false := frozen_of_row W6 _ 1 _ 101 hB
      have z2 : W6.frozen? ⟨w.heap.size + 1 + 1, 2, none⟩ = false := frozen_of_row W6 _ 2 _ 101 hB
      have z3 : W6.frozen? ⟨w.heap.size + 1 + 1, 3, none⟩ = false := frozen_of_row W6 _ 3 _ 101 hB
      have HS4 := Lib.hid (set4 hB (step_below HB0.out H6.out) (by omega) (by simp) (by simp) (by simp) (by simp) (.int .i64 tr) (.slice a5 (frontL o.K).length c5) (.slice a6 (frontL o.T).length c6) (.bool (decide (0 < o.tn))))
      clear hB
      try simp only [Act.put, List.setIfInBounds_toArray, List.set_cons_zero, List.set_cons_succ]
      refine wpAnyH_take (i := 11) (oi := { dst := some 65, op := Op.build 101 #[(0, Operand.tmp 54), (1, Operand.tmp 57), (2, Operand.tmp 60), (3, Operand.tmp 64)], type := 101, pos := "ref.go:174", after := #[{ on := 0, ground := Ground.data }, { on := 3, ground := Ground.data }, { on := 6, ground := Ground.data }, { on := 10, ground := Ground.data }], guard := none }) (v := ?_) rfl (by kernel_rfl) (by kernel_rfl) (by kernel_rfl) (fun _ _ _ h => h) (Or.inl ⟨by rfl, ?_⟩) (by assumption) ?_
      rotate_left
      · intro W hSw; go_simp; try with_reducible rfl
      try simp only [Act.put, List.setIfInBounds_toArray, List.set_cons_zero, List.set_cons_succ]
      refine wpAnyH_ready (rs := [12]) (by kernel_rfl) (by simp) ?_
      refine AllReadyH.cons (o := { dst := none, op := Op.store 101 (Operand.tmp 4) (Operand.tmp 65), type := 0, pos := "ref.go:174", after := #[{ on := 11, ground := Ground.data }, { on := 6, ground := Ground.chain }, { on := 0, ground := Ground.phase }, { on := 1, ground := Ground.phase }, { on := 2, ground := Ground.phase }, { on := 3, ground := Ground.phase }, { on := 4, ground := Ground.phase }, { on := 5, ground := Ground.phase }, { on := 6, ground := Ground.phase }, { on := 7, ground := Ground.phase }, { on := 8, ground := Ground.phase }, { on := 9, ground := Ground.phase }, { on := 10, ground := Ground.phase }, { on := 11, ground := Ground.phase }], guard := none }) rfl (fun K hK => ?_) AllReadyH.nil
      go_simp
      refine hK.out _ _ ?_ (fun hHeldn => ?_)
      · constructor
        · rw [World.cell?_setCell_far _ _ _ _ (by simp), World.cell?_setCell_far _ _ _ _ (by simp), World.cell?_setCell_far _ _ _ _ (by simp), World.cell?_setCell_far _ _ _ _ (by simp)]; exact hHeld.1
        · rw [World.cell?_setCell_far _ _ _ _ (by simp), World.cell?_setCell_far _ _ _ _ (by simp), World.cell?_setCell_far _ _ _ _ (by simp), World.cell?_setCell_far _ _ _ _ (by simp)]; exact hHeld.2
      clear hK K hHeld q0 q1 q2 q3 z0 z1 z2 z3; have hHeld := hHeldn; clear hHeldn
      try simp only [Act.put, List.setIfInBounds_toArray, List.set_cons_zero, List.set_cons_succ]
      refine wpAnyH_take (i := 13) (oi := { dst := some 5, op := Op.assign (Operand.const (Value.int IntKind.i64 0)), type := 3, pos := "ref.go:174", after := #[{ on := 12, ground := Ground.chain }, { on := 0, ground := Ground.phase }, { on := 1, ground := Ground.phase }, { on := 2, ground := Ground.phase }, { on := 3, ground := Ground.phase }, { on := 4, ground := Ground.phase }, { on := 5, ground := Ground.phase }, { on := 6, ground := Ground.phase }, { on := 7, ground := Ground.phase }, { on := 8, ground := Ground.phase }, { on := 9, ground := Ground.phase }, { on := 10, ground := Ground.phase }, { on := 11, ground := Ground.phase }, { on := 12, ground := Ground.phase }], guard := none }) (v := ?_) rfl (by kernel_rfl) (by kernel_rfl) (by kernel_rfl) (fun _ _ _ h => h) (Or.inl ⟨by rfl, ?_⟩) (by assumption) ?_
      rotate_left
      · intro W hSw; go_simp; try with_reducible rfl
      try simp only [Act.put, List.setIfInBounds_toArray, List.set_cons_zero, List.set_cons_succ]
      refine wpAnyH_done (by kernel_rfl) ?_ _
      go_wp2_with fail
      go_meet
      exact ⟨rfl, a5, c5, a6, c6, HS4.out.box, HS4.out.ls L56.out, HS4.out.ls L6.out, HS4.out.bel⟩
    case rest =>
      obtain ⟨rfl, fa, fc, ta, tc, hbox, lK, lT, hbel⟩ := hcut
      go_wp2_with fail
      refine bodyPost_ret (v := .tuple #[.agg #[.int .i64 tr, .slice fa (frontL o.K).length fc, .slice ta (frontL o.T).length tc, .bool (decide (0 < o.tn))], .int .i64 0]) ?_ rfl ⟨⟨fa, fc, ta, tc, by rw [HV.out], by rw [HV.out]; exact lK, by rw [HV.out]; exact lT⟩, hbel⟩
      have x0 := hbox.cell 0
      have x1 := hbox.cell 1
      have x2 := hbox.cell 2
      have x3 := hbox.cell 3
      simp only [List.getElem?_toArray, List.getElem?_cons_zero, List.getElem?_cons_succ] at x0 x1 x2 x3
      simp [results, Try.results91, go_sem, x0, x1, x2, x3]
  · have f5 : (o.k == 5) = false := by simpa using h5
    have f6 : (o.k == 6) = false := by simpa using h6
    have g5' : (o.k != 5) = true := by simpa using h5
    have g6' : (o.k != 6) = true := by simpa using h6
    replace HV := Lib.hid (show V = (0, [], [], false, 2) by rw [HV.out, f5, f6]; simp)
    have hB := FB.out _ HB3.out
    have q0 := hB.cell 0
    have q1 := hB.cell 1
    have q2 := hB.cell 2
    have q3 := hB.cell 3
    simp only [List.getElem?_toArray, List.getElem?_cons_zero, List.getElem?_cons_succ] at q0 q1 q2 q3
    have z0 : w3.frozen? ⟨w.heap.size + 1 + 1, 0, none⟩ = false := frozen_of_row w3 _ 0 _ 101 hB
    have z1 : w3.frozen? ⟨w.heap.size + 1 + 1, 1, none⟩ = false := frozen_of_row w3 _ 1 _ 101 hB
    have z2 : w3.frozen? ⟨w.heap.size + 1 + 1, 2, none⟩ = false := frozen_of_row w3 _ 2 _ 101 hB
    have z3 : w3.frozen? ⟨w.heap.size + 1 + 1, 3, none⟩ = false := frozen_of_row w3 _ 3 _ 101 hB
    have HS4 := Lib.hid (set4 hB (step_below HB0.out HB3.out) (by omega) (by simp) (by simp) (by simp) (by simp) (.int .i64 0) (.slice none 0 0) (.slice none 0 0) (.bool false))
    clear hB
    go_wp2_with fail
    refine bodyPost_ret (v := .tuple #[.agg #[.int .i64 0, .slice none 0 0, .slice none 0 0, .bool false], .int .i64 2]) ?_ rfl ⟨⟨none, 0, none, 0, by rw [HV.out]; rfl, by rw [HV.out]; exact Ls.nul _ _, by rw [HV.out]; exact Ls.nul _ _⟩, HS4.out.bel⟩
    have x0 := HS4.out.box.cell 0
    have x1 := HS4.out.box.cell 1
    have x2 := HS4.out.box.cell 2
    have x3 := HS4.out.box.cell 3
    simp only [List.getElem?_toArray, List.getElem?_cons_zero, List.getElem?_cons_succ] at x0 x1 x2 x3
    simp [results, Try.results91, go_sem, x0, x1, x2, x3]
end Go.Proofs.Ytkgcbhpgkcfkhaa
