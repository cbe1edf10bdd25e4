/- Sessions that may be: contracts. -/
import Derived.Test.YtkgcbhpgkcfkhaaCo4
import Derived.Test.YtkgcbhpgkcfkhaaCo3
import Derived.Deep.RegionHeld
namespace Go.Proofs.Ytkgcbhpgkcfkhaa
open Go.ChangeShapes Go.WideShapes Go.ChangeAt Go.RowKit Go.Shelf
set_option linter.unusedVariables false
set_option linter.unusedSimpArgs false

theorem wr_eq (k : Int) : kf k 5 = ((k == 2) || (k == 3) || (k == 4)) := by
  by_cases h : k < 0 ∨ 6 < k
  · rw [kf_out k h, Bool.eq_iff_iff]
    simp; omega
  · obtain ⟨n, rfl⟩ : ∃ n : Nat, k = (n : Int) := ⟨k.toNat, by omega⟩
    have hn : n ≤ 6 := by omega
    rw [kf_in n hn]
    rcases (show n = 0 ∨ n = 1 ∨ n = 2 ∨ n = 3 ∨ n = 4 ∨ n = 5 ∨ n = 6 by omega) with rfl | rfl | rfl | rfl | rfl | rfl | rfl <;> rfl
theorem mayT_no {j : Job} {x : TxnV} {k : Nat} {o : CallV} (h : x.ops[k]? = some o) (hb : opB j x.sn o = false) : mayT j x = false := by
  unfold mayT
  rw [Bool.and_eq_false_iff]
  right
  rw [Bool.eq_false_iff]
  intro e
  have := List.all_eq_true.1 e o (List.mem_of_getElem? h)
  rw [hb] at this; cases this
theorem mayT_yes {j : Job} {x : TxnV} (h1 : okB j = true) (h2 : x.on ≤ 16) (h3 : (x.sn && x.ab) = false) (hall : ∀ q, q < x.ops.length → ∀ o, x.ops[q]? = some o → opB j x.sn o = true) : mayT j x = true := by
  unfold mayT
  rw [h1, h3, decide_eq_true h2]
  simp only [Bool.true_and, Bool.not_false]
  rw [List.all_eq_true]
  intro o ho
  obtain ⟨q, hq⟩ := List.mem_iff_getElem?.1 ho
  exact hall q (List.getElem?_eq_some_iff.1 hq).1 o hq
set_option maxRecDepth 100000 in
set_option maxHeartbeats 8000000 in
theorem qmaytxn_law (j : Job) (x : TxnV) (hon : x.on ≤ 1000000) (w : World) (hj : JobAt w j) (hx : TxnAt w x) :
    Calls Try.prog 52 #[.agg #[.int .i64 j.w, .int .i64 j.l, .int .i64 j.d, .int .i64 j.c, .int .i64 j.k, .int .i64 j.e, .slice j.a j.n j.cap], .agg #[.slice x.oa x.on x.oc, .bool x.sn, .bool x.ab]] w fun r w' => r = .returned (.bool (mayT j x)) ∧ Below w.heap.size w w' := by
  obtain ⟨hb0, hbx⟩ := boxes2 w #[.int .i64 j.w, .int .i64 j.l, .int .i64 j.d, .int .i64 j.c, .int .i64 j.k, .int .i64 j.e, .slice j.a j.n j.cap] #[.slice x.oa x.on x.oc, .bool x.sn, .bool x.ab] 53 86
  have HCK := Lib.hid (show chkV j = if okB j then 0 else 2 from rfl)
  have hlei : (j.n : Int) ≤ 1000000 := by have := hj.le; omega
  have hoi : (x.on : Int) ≤ 1000000 := by omega
  have HNO := Lib.hid (fun k o => @mayT_no j x k o)
  have HYES := Lib.hid (@mayT_yes j x)
  have HDF := Lib.hid (show mayT j x = (okB j && decide (x.on ≤ 16) && !(x.sn && x.ab) && x.ops.all (opB j x.sn)) from rfl)
  obtain ⟨ans, hans⟩ : ∃ a, mayT j x = a := ⟨_, rfl⟩
  rw [hans] at HNO HYES HDF ⊢
  obtain ⟨sn, hsn⟩ : ∃ s, x.sn = s := ⟨_, rfl⟩
  obtain ⟨ab, hab⟩ : ∃ s, x.ab = s := ⟨_, rfl⟩
  rw [hsn] at HNO HYES HDF
  rw [hab] at HYES HDF
  rw [hsn, hab] at hb0 hbx ⊢
  clear hans hsn hab
  go_enter Try.func52, Try.ntmps52
  go_upto_region 1 with (fail)
  generalize ((w.alloc (.cells #[.int .i64 j.w, .int .i64 j.l, .int .i64 j.d, .int .i64 j.c, .int .i64 j.k, .int .i64 j.e, .slice j.a j.n j.cap] 53)).alloc (.cells #[.slice x.oa x.on x.oc, .bool sn, .bool ab] 86)) = W0 at *
  have FG := Lib.hid (fun W (b : Below W0.heap.size W0 W) => (by
    obtain ⟨x, y⟩ := hbx W b
    exact ⟨x.cell 0, x.cell 1, x.cell 2, x.cell 3, x.cell 4, x.cell 5, x.cell 6⟩ : W.cell? ⟨w.heap.size, 0, none⟩ = some (.int .i64 j.w) ∧ W.cell? ⟨w.heap.size, 1, none⟩ = some (.int .i64 j.l) ∧ W.cell? ⟨w.heap.size, 2, none⟩ = some (.int .i64 j.d) ∧ W.cell? ⟨w.heap.size, 3, none⟩ = some (.int .i64 j.c) ∧ W.cell? ⟨w.heap.size, 4, none⟩ = some (.int .i64 j.k) ∧ W.cell? ⟨w.heap.size, 5, none⟩ = some (.int .i64 j.e) ∧ W.cell? ⟨w.heap.size, 6, none⟩ = some (.slice j.a j.n j.cap)))
  have FX := Lib.hid (fun W (b : Below W0.heap.size W0 W) => (by
    obtain ⟨y, z⟩ := hbx W b
    exact ⟨z.cell 0, z.cell 1, z.cell 2⟩ : W.cell? ⟨w.heap.size + 1, 0, none⟩ = some (.slice x.oa x.on x.oc) ∧ W.cell? ⟨w.heap.size + 1, 1, none⟩ = some (.bool sn) ∧ W.cell? ⟨w.heap.size + 1, 2, none⟩ = some (.bool ab)))
  have FJ := Lib.hid (fun W (b : Below W0.heap.size W0 W) => (hj.below hb0).below b)
  have FO := Lib.hid (fun W (b : Below W0.heap.size W0 W) => (hx.below hb0).below b)
  have HB0 := Lib.hid hb0
  have HOL := Lib.hid hx.ol
  clear hb0 hbx hj hx
  obtain ⟨x0, x1, x2⟩ := FX.out _ (Below.refl _ _)
  obtain ⟨g0, g1, g2, g3, g4, g5, g6⟩ := FG.out _ (Below.refl _ _)
  by_cases h16 : 16 < x.on
  · have h16i : (16 : Int) < (x.on : Int) := by omega
    have hd : decide (x.on ≤ 16) = false := decide_eq_false (by omega)
    rw [hd] at HDF
    clear hd
    go_wp2_with fail
    go_ret
    exact ⟨ret_bool (by rw [HDF.out]; simp), HB0.out⟩
  have h16i : ¬ (16 : Int) < (x.on : Int) := by omega
  have HON := Lib.hid (show x.on ≤ 16 by omega)
  cases hsa : (sn && ab)
  case true =>
    have h2 : sn = true ∧ ab = true := by simpa using hsa
    obtain ⟨rfl, rfl⟩ := h2
    clear hsa
    go_wp2_with fail
    go_ret
    exact ⟨ret_bool (by rw [HDF.out]; simp), HB0.out⟩
  rw [hsa] at HDF HYES
  obtain ⟨ok, hok⟩ : ∃ x, okB j = x := ⟨_, rfl⟩
  rw [hok] at HDF HYES HCK
  have HOK := Lib.hid hok
  have HSA := Lib.hid hsa
  clear hok hsa
  have HQC := Lib.hid (by have h := qcheck_law j W0 (FJ.out _ (Below.refl _ _)); rwa [HCK.out] at h : Calls Try.prog 37 #[.agg #[.int .i64 j.w, .int .i64 j.l, .int .i64 j.d, .int .i64 j.c, .int .i64 j.k, .int .i64 j.e, .slice j.a j.n j.cap]] W0 fun r w' => r = .returned (.int .i64 (if ok = true then 0 else 2)) ∧ Below W0.heap.size W0 w')
  cases ok
  · simp only [Bool.false_eq_true, ↓reduceIte] at HQC
    cases sn
    · go_wp2_with fail
      refine HQC.out.mono ?_; rintro r w3 ⟨rfl, B3⟩
      go_wp2_with fail
      go_ret
      exact ⟨ret_bool (by rw [HDF.out]; rfl), step_below HB0.out B3⟩
    · cases ab
      · go_wp2_with fail
        refine HQC.out.mono ?_; rintro r w3 ⟨rfl, B3⟩
        go_wp2_with fail
        go_ret
        exact ⟨ret_bool (by rw [HDF.out]; rfl), step_below HB0.out B3⟩
      · exact absurd HSA.out (by decide)
  simp only [↓reduceIte] at HQC
  have hcs : sn = false ∨ (sn = true ∧ ab = false) := by
    have := HSA.out
    cases sn <;> cases ab <;> simp_all
  go_cut [23] (fun v wx => v = .bool false ∧ Hid (Below W0.heap.size W0 wx))
  case first =>
    rcases hcs with rfl | ⟨rfl, rfl⟩
    all_goals
      go_wp2_with fail
      refine HQC.out.mono ?_; rintro r w3 ⟨rfl, B3⟩
      go_wp2_with fail
      go_meet
      exact ⟨rfl, Lib.hid B3⟩
  case rest =>
    obtain ⟨rfl, HBW⟩ := hcut
    clear HDF HQC hcs x0 x1 x2 g0 g1 g2 g3 g4 g5 g6
    go_wp2_with fail
    obtain ⟨W3, hW3⟩ : ∃ W, W = wc := ⟨_, rfl⟩
    rw [← hW3] at HBW ⊢
    clear hW3
    go_loopw [5, 6] (fun i _ wr => ∃ k : Nat, k ≤ x.on ∧ i = .int .i64 (k : Int) ∧ Hid (∀ q, q < k → ∀ o, x.ops[q]? = some o → opB j sn o = true) ∧ Hid (Below W3.heap.size W3 wr)) (fun i _ _ => x.on - (intOf i).toNat)
    case atStart => exact ⟨0, by omega, rfl, Lib.hid (fun q hq => absurd hq (by omega)), Lib.hid (Below.refl _ _)⟩
    case round =>
      obtain ⟨k, hk, rfl, HALL, BR⟩ := hrel
      have BW := Lib.hid (step_below HBW.out BR.out)
      obtain ⟨x0, x1, x2⟩ := FX.out _ BW.out
      by_cases hlt : k < x.on
      · have hkl : (k : Int) < (x.on : Int) := by omega
        have hk16 : (k : Int) ≤ 16 := by omega
        obtain ⟨o, ho⟩ : ∃ o, x.ops[k]? = some o := ⟨_, List.getElem?_eq_getElem (by rw [HOL.out]; exact hlt)⟩
        have HN := Lib.hid (fun (h : opB j sn o = false) => HNO.out k o ho h)
        have HST := Lib.hid (fun (h : opB j sn o = true) => show ∀ q, q < k + 1 → ∀ o, x.ops[q]? = some o → opB j sn o = true from fun q hq p hp => by
          by_cases e : q = k
          · subst e; rw [ho] at hp; cases hp; exact h
          · exact HALL.out q (by omega) p hp)
        obtain ⟨b1, o1, ea, ⟨d0, d1, d2, d3, d4, d5, d6⟩, hc⟩ := (FO.out _ BW.out).os k o ho
        have HOB := Lib.hid (show opB j sn o = (pO j o && !(sn && kf o.k 5)) from rfl)
        have HWR := Lib.hid (wr_eq o.k)
        have hpq := pO_qO j o hc.rl
        obtain ⟨pb, hpb⟩ : ∃ b, pO j o = b := ⟨_, rfl⟩
        rw [hpb] at HOB
        have HM := Lib.hid (fun W (b : Below wr.heap.size wr W) => (by have h := qmayop_law j o W (FJ.out _ (step_below BW.out b)) (hc.below b); rwa [← hpq, hpb] at h : Calls Try.prog 90 #[.agg #[.int .i64 j.w, .int .i64 j.l, .int .i64 j.d, .int .i64 j.c, .int .i64 j.k, .int .i64 j.e, .slice j.a j.n j.cap], .agg #[.int .i64 o.k, .int .i64 o.t, .int .i64 o.i, .slice o.ka o.kn o.kc, .slice o.ta o.tn o.tc, .int .i64 o.m, .slice o.ra o.rn o.rc]] W fun r w' => r = .returned (.bool pb) ∧ Below W.heap.size W w'))
        have HLT := Lib.hid hlt
        rw [ea] at x0
        have hea := ea
        have HQ := Lib.hid (show ∀ W, Below wr.heap.size wr W → (W.cell? ⟨w.heap.size, 0, none⟩ = some (.int .i64 j.w) ∧ W.cell? ⟨w.heap.size, 1, none⟩ = some (.int .i64 j.l) ∧ W.cell? ⟨w.heap.size, 2, none⟩ = some (.int .i64 j.d) ∧ W.cell? ⟨w.heap.size, 3, none⟩ = some (.int .i64 j.c) ∧ W.cell? ⟨w.heap.size, 4, none⟩ = some (.int .i64 j.k) ∧ W.cell? ⟨w.heap.size, 5, none⟩ = some (.int .i64 j.e) ∧ W.cell? ⟨w.heap.size, 6, none⟩ = some (.slice j.a j.n j.cap)) ∧ (W.cell? ⟨w.heap.size + 1, 0, none⟩ = some (.slice (some ⟨b1, o1, none⟩) x.on x.oc) ∧ W.cell? ⟨w.heap.size + 1, 1, none⟩ = some (.bool sn) ∧ W.cell? ⟨w.heap.size + 1, 2, none⟩ = some (.bool ab)) ∧ W.cell? ⟨b1, o1 + k * 7, none⟩ = some (.int .i64 o.k) ∧ W.cell? ⟨b1, o1 + k * 7 + 1, none⟩ = some (.int .i64 o.t) ∧ W.cell? ⟨b1, o1 + k * 7 + 2, none⟩ = some (.int .i64 o.i) ∧ W.cell? ⟨b1, o1 + k * 7 + 3, none⟩ = some (.slice o.ka o.kn o.kc) ∧ W.cell? ⟨b1, o1 + k * 7 + 4, none⟩ = some (.slice o.ta o.tn o.tc) ∧ W.cell? ⟨b1, o1 + k * 7 + 5, none⟩ = some (.int .i64 o.m) ∧ W.cell? ⟨b1, o1 + k * 7 + 6, none⟩ = some (.slice o.ra o.rn o.rc) from fun W b => (by
          have f : ∀ {p v}, wr.cell? p = some v → W.cell? p = some v := fun h => (b.cell (World.block_lt_of_cell? _ _ h)).trans h
          exact ⟨FG.out W (step_below BW.out b), ⟨f x0, f x1, f x2⟩, f d0, f d1, f d2, f d3, f d4, f d5, f d6⟩))
        clear hpq hpb ho hc hlt ea hea
        cases pb
        · go_wp2_with fail
          refine wp_region_held_drew (S := (fun W => Below wr.heap.size wr W)) (by kernel_rfl) ((Below.refl _ _).drew) (fun hHeld => ?_)
          refine wpAnyH_take (i := 0) (oi := { dst := some 37, op := Op.load 53 (Operand.tmp 2), type := 53, pos := "ref.go:139", after := #[], guard := none }) (v := ?_) rfl (by kernel_rfl) (by kernel_rfl) (by kernel_rfl) (fun _ _ _ h => h) (Or.inl ⟨by rfl, ?_⟩) (by assumption) ?_
          rotate_left
          · intro W hSw; obtain ⟨⟨s0, s1, s2, s3, s4, s5, s6⟩, ⟨s7, s8, s9⟩, t0, t1, t2, t3, t4, t5, t6⟩ := HQ.out W hSw; go_simp; try with_reducible rfl
          try simp only [Act.put, List.setIfInBounds_toArray, List.set_cons_zero, List.set_cons_succ]
          refine wpAnyH_take (i := 1) (oi := { dst := some 38, op := Op.fieldAddr 86 (Operand.tmp 3) 0, type := 0, pos := "ref.go:139", after := #[], guard := none }) (v := ?_) rfl (by kernel_rfl) (by kernel_rfl) (by kernel_rfl) (fun _ _ _ h => h) (Or.inl ⟨by rfl, ?_⟩) (by assumption) ?_
          rotate_left
          · intro W hSw; go_simp; try with_reducible rfl
          try simp only [Act.put, List.setIfInBounds_toArray, List.set_cons_zero, List.set_cons_succ]
          refine wpAnyH_take (i := 2) (oi := { dst := some 39, op := Op.load 84 (Operand.tmp 38), type := 84, pos := "ref.go:139", after := #[{ on := 1, ground := Ground.data }], guard := none }) (v := ?_) rfl (by kernel_rfl) (by kernel_rfl) (by kernel_rfl) (fun _ _ _ h => h) (Or.inl ⟨by rfl, ?_⟩) (by assumption) ?_
          rotate_left
          · intro W hSw; obtain ⟨⟨s0, s1, s2, s3, s4, s5, s6⟩, ⟨s7, s8, s9⟩, t0, t1, t2, t3, t4, t5, t6⟩ := HQ.out W hSw; go_simp; try with_reducible rfl
          try simp only [Act.put, List.setIfInBounds_toArray, List.set_cons_zero, List.set_cons_succ]
          refine wpAnyH_take (i := 3) (oi := { dst := some 40, op := Op.move (Operand.tmp 5), type := 3, pos := "ref.go:139", after := #[], guard := none }) (v := ?_) rfl (by kernel_rfl) (by kernel_rfl) (by kernel_rfl) (fun _ _ _ h => h) (Or.inl ⟨by rfl, ?_⟩) (by assumption) ?_
          rotate_left
          · intro W hSw; go_simp; try with_reducible rfl
          try simp only [Act.put, List.setIfInBounds_toArray, List.set_cons_zero, List.set_cons_succ]
          refine wpAnyH_take (i := 4) (oi := { dst := some 41, op := Op.indexAddr 84 (Operand.tmp 39) (Operand.tmp 40), type := 0, pos := "ref.go:139", after := #[{ on := 2, ground := Ground.data }, { on := 3, ground := Ground.data }], guard := none }) (v := ?_) rfl (by kernel_rfl) (by kernel_rfl) (by kernel_rfl) (fun _ _ _ h => h) (Or.inl ⟨by rfl, ?_⟩) (by assumption) ?_
          rotate_left
          · intro W hSw; go_simp; try with_reducible rfl
          try simp only [Act.put, List.setIfInBounds_toArray, List.set_cons_zero, List.set_cons_succ]
          refine wpAnyH_take (i := 5) (oi := { dst := some 42, op := Op.load 98 (Operand.tmp 41), type := 98, pos := "ref.go:139", after := #[{ on := 4, ground := Ground.data }], guard := none }) (v := ?_) rfl (by kernel_rfl) (by kernel_rfl) (by kernel_rfl) (fun _ _ _ h => h) (Or.inl ⟨by rfl, ?_⟩) (by assumption) ?_
          rotate_left
          · intro W hSw; obtain ⟨⟨s0, s1, s2, s3, s4, s5, s6⟩, ⟨s7, s8, s9⟩, t0, t1, t2, t3, t4, t5, t6⟩ := HQ.out W hSw; go_simp; try with_reducible rfl
          try simp only [Act.put, List.setIfInBounds_toArray, List.set_cons_zero, List.set_cons_succ]
          refine wpAnyH_ready (rs := [6]) (by kernel_rfl) (by simp) ?_
          refine AllReadyH.cons (o := { dst := some 43, op := Op.call { callee := Callee.value (Operand.func 90), args := #[Operand.tmp 37, Operand.tmp 42], argTypes := #[53, 98] }, type := 4, pos := "ref.go:139", after := #[{ on := 0, ground := Ground.data }, { on := 5, ground := Ground.data }], guard := none }) rfl (fun K hK => ?_) AllReadyH.nil
          go_simp
          refine (HM.out _ hHeld).mono ?_; rintro r W5 ⟨rfl, B5⟩
          go_wp2_with fail
          refine hK.out _ _ (step_below hHeld B5) (fun hHeldn => ?_)
          clear hK K hHeld; have hHeld := hHeldn; clear hHeldn
          clear B5
          try simp only [Act.put, List.setIfInBounds_toArray, List.set_cons_zero, List.set_cons_succ]
          refine wpAnyH_take (i := 7) (oi := { dst := some 44, op := Op.unOp UnOp.not 4 (Operand.tmp 43), type := 4, pos := "ref.go:139", after := #[{ on := 6, ground := Ground.data }], guard := none }) (v := ?_) rfl (by kernel_rfl) (by kernel_rfl) (by kernel_rfl) (fun _ _ _ h => h) (Or.inl ⟨by rfl, ?_⟩) (by assumption) ?_
          rotate_left
          · intro W hSw; go_simp; try with_reducible rfl
          try simp only [Act.put, List.setIfInBounds_toArray, List.set_cons_zero, List.set_cons_succ]
          refine wpAnyH_take (i := 8) (oi := { dst := some 45, op := Op.move (Operand.tmp 44), type := 4, pos := "ref.go:139", after := #[{ on := 7, ground := Ground.data }, { on := 6, ground := Ground.chain }], guard := none }) (v := ?_) rfl (by kernel_rfl) (by kernel_rfl) (by kernel_rfl) (fun _ _ _ h => h) (Or.inl ⟨by rfl, ?_⟩) (by assumption) ?_
          rotate_left
          · intro W hSw; go_simp; try with_reducible rfl
          try simp only [Act.put, List.setIfInBounds_toArray, List.set_cons_zero, List.set_cons_succ]
          refine wpAnyH_take (i := 9) (oi := { dst := some 46, op := Op.fieldAddr 86 (Operand.tmp 3) 1, type := 0, pos := "ref.go:139", after := #[{ on := 8, ground := Ground.guard }], guard := some (8, false) }) (v := undef) rfl (by kernel_rfl) (by kernel_rfl) (by kernel_rfl) (fun _ _ _ h => h) (Or.inr ⟨by rfl, rfl⟩) (by assumption) ?_
          try simp only [Act.put, List.setIfInBounds_toArray, List.set_cons_zero, List.set_cons_succ]
          refine wpAnyH_take (i := 10) (oi := { dst := some 47, op := Op.load 4 (Operand.tmp 46), type := 4, pos := "ref.go:139", after := #[{ on := 9, ground := Ground.data }, { on := 8, ground := Ground.guard }], guard := some (8, false) }) (v := undef) rfl (by kernel_rfl) (by kernel_rfl) (by kernel_rfl) (fun _ _ _ h => h) (Or.inr ⟨by rfl, rfl⟩) (by assumption) ?_
          try simp only [Act.put, List.setIfInBounds_toArray, List.set_cons_zero, List.set_cons_succ]
          refine wpAnyH_take (i := 11) (oi := { dst := some 48, op := Op.move (Operand.tmp 47), type := 4, pos := "ref.go:139", after := #[{ on := 10, ground := Ground.data }, { on := 8, ground := Ground.chain }, { on := 8, ground := Ground.guard }], guard := some (8, false) }) (v := undef) rfl (by kernel_rfl) (by kernel_rfl) (by kernel_rfl) (fun _ _ _ h => h) (Or.inr ⟨by rfl, rfl⟩) (by assumption) ?_
          try simp only [Act.put, List.setIfInBounds_toArray, List.set_cons_zero, List.set_cons_succ]
          refine wpAnyH_take (i := 12) (oi := { dst := some 49, op := Op.move (Operand.tmp 6), type := 96, pos := "ref.go:139", after := #[{ on := 11, ground := Ground.guard }], guard := some (11, true) }) (v := undef) rfl (by kernel_rfl) (by kernel_rfl) (by kernel_rfl) (fun _ _ _ h => h) (Or.inr ⟨by rfl, rfl⟩) (by assumption) ?_
          try simp only [Act.put, List.setIfInBounds_toArray, List.set_cons_zero, List.set_cons_succ]
          refine wpAnyH_take (i := 13) (oi := { dst := some 50, op := Op.binOp BinOp.eql 96 (Operand.tmp 49) (Operand.const (Value.int IntKind.i64 2)) 96, type := 4, pos := "ref.go:139", after := #[{ on := 12, ground := Ground.data }, { on := 11, ground := Ground.guard }], guard := some (11, true) }) (v := undef) rfl (by kernel_rfl) (by kernel_rfl) (by kernel_rfl) (fun _ _ _ h => h) (Or.inr ⟨by rfl, rfl⟩) (by assumption) ?_
          try simp only [Act.put, List.setIfInBounds_toArray, List.set_cons_zero, List.set_cons_succ]
          refine wpAnyH_take (i := 14) (oi := { dst := some 51, op := Op.move (Operand.tmp 50), type := 4, pos := "ref.go:139", after := #[{ on := 13, ground := Ground.data }, { on := 11, ground := Ground.chain }, { on := 11, ground := Ground.guard }], guard := some (11, true) }) (v := undef) rfl (by kernel_rfl) (by kernel_rfl) (by kernel_rfl) (fun _ _ _ h => h) (Or.inr ⟨by rfl, rfl⟩) (by assumption) ?_
          try simp only [Act.put, List.setIfInBounds_toArray, List.set_cons_zero, List.set_cons_succ]
          refine wpAnyH_take (i := 15) (oi := { dst := some 52, op := Op.move (Operand.tmp 6), type := 96, pos := "ref.go:139", after := #[{ on := 14, ground := Ground.guard }], guard := some (14, false) }) (v := undef) rfl (by kernel_rfl) (by kernel_rfl) (by kernel_rfl) (fun _ _ _ h => h) (Or.inr ⟨by rfl, rfl⟩) (by assumption) ?_
          try simp only [Act.put, List.setIfInBounds_toArray, List.set_cons_zero, List.set_cons_succ]
          refine wpAnyH_take (i := 16) (oi := { dst := some 53, op := Op.binOp BinOp.eql 96 (Operand.tmp 52) (Operand.const (Value.int IntKind.i64 3)) 96, type := 4, pos := "ref.go:139", after := #[{ on := 15, ground := Ground.data }, { on := 14, ground := Ground.guard }], guard := some (14, false) }) (v := undef) rfl (by kernel_rfl) (by kernel_rfl) (by kernel_rfl) (fun _ _ _ h => h) (Or.inr ⟨by rfl, rfl⟩) (by assumption) ?_
          try simp only [Act.put, List.setIfInBounds_toArray, List.set_cons_zero, List.set_cons_succ]
          refine wpAnyH_take (i := 17) (oi := { dst := some 54, op := Op.pick (Operand.tmp 51) (Operand.const (Value.bool true)) (Operand.tmp 53), type := 4, pos := "ref.go:139", after := #[{ on := 14, ground := Ground.data }, { on := 16, ground := Ground.data }, { on := 11, ground := Ground.guard }], guard := some (11, true) }) (v := undef) rfl (by kernel_rfl) (by kernel_rfl) (by kernel_rfl) (fun _ _ _ h => h) (Or.inr ⟨by rfl, rfl⟩) (by assumption) ?_
          try simp only [Act.put, List.setIfInBounds_toArray, List.set_cons_zero, List.set_cons_succ]
          refine wpAnyH_take (i := 18) (oi := { dst := some 55, op := Op.move (Operand.tmp 54), type := 4, pos := "ref.go:139", after := #[{ on := 17, ground := Ground.data }, { on := 14, ground := Ground.chain }, { on := 11, ground := Ground.guard }], guard := some (11, true) }) (v := undef) rfl (by kernel_rfl) (by kernel_rfl) (by kernel_rfl) (fun _ _ _ h => h) (Or.inr ⟨by rfl, rfl⟩) (by assumption) ?_
          try simp only [Act.put, List.setIfInBounds_toArray, List.set_cons_zero, List.set_cons_succ]
          refine wpAnyH_take (i := 19) (oi := { dst := some 56, op := Op.move (Operand.tmp 6), type := 96, pos := "ref.go:139", after := #[{ on := 18, ground := Ground.guard }], guard := some (18, false) }) (v := undef) rfl (by kernel_rfl) (by kernel_rfl) (by kernel_rfl) (fun _ _ _ h => h) (Or.inr ⟨by rfl, rfl⟩) (by assumption) ?_
          try simp only [Act.put, List.setIfInBounds_toArray, List.set_cons_zero, List.set_cons_succ]
          refine wpAnyH_take (i := 20) (oi := { dst := some 57, op := Op.binOp BinOp.eql 96 (Operand.tmp 56) (Operand.const (Value.int IntKind.i64 4)) 96, type := 4, pos := "ref.go:139", after := #[{ on := 19, ground := Ground.data }, { on := 18, ground := Ground.guard }], guard := some (18, false) }) (v := undef) rfl (by kernel_rfl) (by kernel_rfl) (by kernel_rfl) (fun _ _ _ h => h) (Or.inr ⟨by rfl, rfl⟩) (by assumption) ?_
          try simp only [Act.put, List.setIfInBounds_toArray, List.set_cons_zero, List.set_cons_succ]
          refine wpAnyH_take (i := 21) (oi := { dst := some 58, op := Op.pick (Operand.tmp 55) (Operand.const (Value.bool true)) (Operand.tmp 57), type := 4, pos := "ref.go:139", after := #[{ on := 18, ground := Ground.data }, { on := 20, ground := Ground.data }, { on := 11, ground := Ground.guard }], guard := some (11, true) }) (v := undef) rfl (by kernel_rfl) (by kernel_rfl) (by kernel_rfl) (fun _ _ _ h => h) (Or.inr ⟨by rfl, rfl⟩) (by assumption) ?_
          try simp only [Act.put, List.setIfInBounds_toArray, List.set_cons_zero, List.set_cons_succ]
          refine wpAnyH_take (i := 22) (oi := { dst := some 59, op := Op.pick (Operand.tmp 48) (Operand.tmp 58) (Operand.const (Value.bool false)), type := 4, pos := "ref.go:139", after := #[{ on := 11, ground := Ground.data }, { on := 21, ground := Ground.data }, { on := 8, ground := Ground.guard }], guard := some (8, false) }) (v := undef) rfl (by kernel_rfl) (by kernel_rfl) (by kernel_rfl) (fun _ _ _ h => h) (Or.inr ⟨by rfl, rfl⟩) (by assumption) ?_
          try simp only [Act.put, List.setIfInBounds_toArray, List.set_cons_zero, List.set_cons_succ]
          refine wpAnyH_take (i := 23) (oi := { dst := some 60, op := Op.pick (Operand.tmp 45) (Operand.const (Value.bool true)) (Operand.tmp 59), type := 4, pos := "ref.go:139", after := #[{ on := 8, ground := Ground.data }, { on := 22, ground := Ground.data }], guard := none }) (v := ?_) rfl (by kernel_rfl) (by kernel_rfl) (by kernel_rfl) (fun _ _ _ h => h) (Or.inl ⟨by rfl, ?_⟩) (by assumption) ?_
          rotate_left
          · intro W hSw; go_simp; try with_reducible rfl
          try simp only [Act.put, List.setIfInBounds_toArray, List.set_cons_zero, List.set_cons_succ]
          refine wpAnyH_done (by kernel_rfl) ?_ _
          have H9 := Lib.hid (step_below BW.out hHeld)
          clear hHeld
          go_wp2_with fail
          try rw [Exit.noGoto_ret]
          go_ret
          exact ⟨ret_bool (HN.out (by rw [HOB.out]; rfl)).symm, step_below HB0.out H9.out⟩
        · cases sn
          · go_wp2_with fail
            refine wp_region_held_drew (S := (fun W => Below wr.heap.size wr W)) (by kernel_rfl) ((Below.refl _ _).drew) (fun hHeld => ?_)
            refine wpAnyH_take (i := 0) (oi := { dst := some 37, op := Op.load 53 (Operand.tmp 2), type := 53, pos := "ref.go:139", after := #[], guard := none }) (v := ?_) rfl (by kernel_rfl) (by kernel_rfl) (by kernel_rfl) (fun _ _ _ h => h) (Or.inl ⟨by rfl, ?_⟩) (by assumption) ?_
            rotate_left
            · intro W hSw; obtain ⟨⟨s0, s1, s2, s3, s4, s5, s6⟩, ⟨s7, s8, s9⟩, t0, t1, t2, t3, t4, t5, t6⟩ := HQ.out W hSw; go_simp; try with_reducible rfl
            try simp only [Act.put, List.setIfInBounds_toArray, List.set_cons_zero, List.set_cons_succ]
            refine wpAnyH_take (i := 1) (oi := { dst := some 38, op := Op.fieldAddr 86 (Operand.tmp 3) 0, type := 0, pos := "ref.go:139", after := #[], guard := none }) (v := ?_) rfl (by kernel_rfl) (by kernel_rfl) (by kernel_rfl) (fun _ _ _ h => h) (Or.inl ⟨by rfl, ?_⟩) (by assumption) ?_
            rotate_left
            · intro W hSw; go_simp; try with_reducible rfl
            try simp only [Act.put, List.setIfInBounds_toArray, List.set_cons_zero, List.set_cons_succ]
            refine wpAnyH_take (i := 2) (oi := { dst := some 39, op := Op.load 84 (Operand.tmp 38), type := 84, pos := "ref.go:139", after := #[{ on := 1, ground := Ground.data }], guard := none }) (v := ?_) rfl (by kernel_rfl) (by kernel_rfl) (by kernel_rfl) (fun _ _ _ h => h) (Or.inl ⟨by rfl, ?_⟩) (by assumption) ?_
            rotate_left
            · intro W hSw; obtain ⟨⟨s0, s1, s2, s3, s4, s5, s6⟩, ⟨s7, s8, s9⟩, t0, t1, t2, t3, t4, t5, t6⟩ := HQ.out W hSw; go_simp; try with_reducible rfl
            try simp only [Act.put, List.setIfInBounds_toArray, List.set_cons_zero, List.set_cons_succ]
            refine wpAnyH_take (i := 3) (oi := { dst := some 40, op := Op.move (Operand.tmp 5), type := 3, pos := "ref.go:139", after := #[], guard := none }) (v := ?_) rfl (by kernel_rfl) (by kernel_rfl) (by kernel_rfl) (fun _ _ _ h => h) (Or.inl ⟨by rfl, ?_⟩) (by assumption) ?_
            rotate_left
            · intro W hSw; go_simp; try with_reducible rfl
            try simp only [Act.put, List.setIfInBounds_toArray, List.set_cons_zero, List.set_cons_succ]
            refine wpAnyH_take (i := 4) (oi := { dst := some 41, op := Op.indexAddr 84 (Operand.tmp 39) (Operand.tmp 40), type := 0, pos := "ref.go:139", after := #[{ on := 2, ground := Ground.data }, { on := 3, ground := Ground.data }], guard := none }) (v := ?_) rfl (by kernel_rfl) (by kernel_rfl) (by kernel_rfl) (fun _ _ _ h => h) (Or.inl ⟨by rfl, ?_⟩) (by assumption) ?_
            rotate_left
            · intro W hSw; go_simp; try with_reducible rfl
            try simp only [Act.put, List.setIfInBounds_toArray, List.set_cons_zero, List.set_cons_succ]
            refine wpAnyH_take (i := 5) (oi := { dst := some 42, op := Op.load 98 (Operand.tmp 41), type := 98, pos := "ref.go:139", after := #[{ on := 4, ground := Ground.data }], guard := none }) (v := ?_) rfl (by kernel_rfl) (by kernel_rfl) (by kernel_rfl) (fun _ _ _ h => h) (Or.inl ⟨by rfl, ?_⟩) (by assumption) ?_
            rotate_left
            · intro W hSw; obtain ⟨⟨s0, s1, s2, s3, s4, s5, s6⟩, ⟨s7, s8, s9⟩, t0, t1, t2, t3, t4, t5, t6⟩ := HQ.out W hSw; go_simp; try with_reducible rfl
            try simp only [Act.put, List.setIfInBounds_toArray, List.set_cons_zero, List.set_cons_succ]
            refine wpAnyH_ready (rs := [6]) (by kernel_rfl) (by simp) ?_
            refine AllReadyH.cons (o := { dst := some 43, op := Op.call { callee := Callee.value (Operand.func 90), args := #[Operand.tmp 37, Operand.tmp 42], argTypes := #[53, 98] }, type := 4, pos := "ref.go:139", after := #[{ on := 0, ground := Ground.data }, { on := 5, ground := Ground.data }], guard := none }) rfl (fun K hK => ?_) AllReadyH.nil
            go_simp
            refine (HM.out _ hHeld).mono ?_; rintro r W5 ⟨rfl, B5⟩
            go_wp2_with fail
            refine hK.out _ _ (step_below hHeld B5) (fun hHeldn => ?_)
            clear hK K hHeld; have hHeld := hHeldn; clear hHeldn
            clear B5
            try simp only [Act.put, List.setIfInBounds_toArray, List.set_cons_zero, List.set_cons_succ]
            refine wpAnyH_take (i := 7) (oi := { dst := some 44, op := Op.unOp UnOp.not 4 (Operand.tmp 43), type := 4, pos := "ref.go:139", after := #[{ on := 6, ground := Ground.data }], guard := none }) (v := ?_) rfl (by kernel_rfl) (by kernel_rfl) (by kernel_rfl) (fun _ _ _ h => h) (Or.inl ⟨by rfl, ?_⟩) (by assumption) ?_
            rotate_left
            · intro W hSw; go_simp; try with_reducible rfl
            try simp only [Act.put, List.setIfInBounds_toArray, List.set_cons_zero, List.set_cons_succ]
            refine wpAnyH_take (i := 8) (oi := { dst := some 45, op := Op.move (Operand.tmp 44), type := 4, pos := "ref.go:139", after := #[{ on := 7, ground := Ground.data }, { on := 6, ground := Ground.chain }], guard := none }) (v := ?_) rfl (by kernel_rfl) (by kernel_rfl) (by kernel_rfl) (fun _ _ _ h => h) (Or.inl ⟨by rfl, ?_⟩) (by assumption) ?_
            rotate_left
            · intro W hSw; go_simp; try with_reducible rfl
            try simp only [Act.put, List.setIfInBounds_toArray, List.set_cons_zero, List.set_cons_succ]
            refine wpAnyH_take (i := 9) (oi := { dst := some 46, op := Op.fieldAddr 86 (Operand.tmp 3) 1, type := 0, pos := "ref.go:139", after := #[{ on := 8, ground := Ground.guard }], guard := some (8, false) }) (v := ?_) rfl (by kernel_rfl) (by kernel_rfl) (by kernel_rfl) (fun _ _ _ h => h) (Or.inl ⟨by rfl, ?_⟩) (by assumption) ?_
            rotate_left
            · intro W hSw; go_simp; try with_reducible rfl
            try simp only [Act.put, List.setIfInBounds_toArray, List.set_cons_zero, List.set_cons_succ]
            refine wpAnyH_take (i := 10) (oi := { dst := some 47, op := Op.load 4 (Operand.tmp 46), type := 4, pos := "ref.go:139", after := #[{ on := 9, ground := Ground.data }, { on := 8, ground := Ground.guard }], guard := some (8, false) }) (v := ?_) rfl (by kernel_rfl) (by kernel_rfl) (by kernel_rfl) (fun _ _ _ h => h) (Or.inl ⟨by rfl, ?_⟩) (by assumption) ?_
            rotate_left
            · intro W hSw; obtain ⟨⟨s0, s1, s2, s3, s4, s5, s6⟩, ⟨s7, s8, s9⟩, t0, t1, t2, t3, t4, t5, t6⟩ := HQ.out W hSw; go_simp; try with_reducible rfl
            try simp only [Act.put, List.setIfInBounds_toArray, List.set_cons_zero, List.set_cons_succ]
            refine wpAnyH_take (i := 11) (oi := { dst := some 48, op := Op.move (Operand.tmp 47), type := 4, pos := "ref.go:139", after := #[{ on := 10, ground := Ground.data }, { on := 8, ground := Ground.chain }, { on := 8, ground := Ground.guard }], guard := some (8, false) }) (v := ?_) rfl (by kernel_rfl) (by kernel_rfl) (by kernel_rfl) (fun _ _ _ h => h) (Or.inl ⟨by rfl, ?_⟩) (by assumption) ?_
            rotate_left
            · intro W hSw; go_simp; try with_reducible rfl
            try simp only [Act.put, List.setIfInBounds_toArray, List.set_cons_zero, List.set_cons_succ]
            refine wpAnyH_take (i := 12) (oi := { dst := some 49, op := Op.move (Operand.tmp 6), type := 96, pos := "ref.go:139", after := #[{ on := 11, ground := Ground.guard }], guard := some (11, true) }) (v := undef) rfl (by kernel_rfl) (by kernel_rfl) (by kernel_rfl) (fun _ _ _ h => h) (Or.inr ⟨by rfl, rfl⟩) (by assumption) ?_
            try simp only [Act.put, List.setIfInBounds_toArray, List.set_cons_zero, List.set_cons_succ]
            refine wpAnyH_take (i := 13) (oi := { dst := some 50, op := Op.binOp BinOp.eql 96 (Operand.tmp 49) (Operand.const (Value.int IntKind.i64 2)) 96, type := 4, pos := "ref.go:139", after := #[{ on := 12, ground := Ground.data }, { on := 11, ground := Ground.guard }], guard := some (11, true) }) (v := undef) rfl (by kernel_rfl) (by kernel_rfl) (by kernel_rfl) (fun _ _ _ h => h) (Or.inr ⟨by rfl, rfl⟩) (by assumption) ?_
            try simp only [Act.put, List.setIfInBounds_toArray, List.set_cons_zero, List.set_cons_succ]
            refine wpAnyH_take (i := 14) (oi := { dst := some 51, op := Op.move (Operand.tmp 50), type := 4, pos := "ref.go:139", after := #[{ on := 13, ground := Ground.data }, { on := 11, ground := Ground.chain }, { on := 11, ground := Ground.guard }], guard := some (11, true) }) (v := undef) rfl (by kernel_rfl) (by kernel_rfl) (by kernel_rfl) (fun _ _ _ h => h) (Or.inr ⟨by rfl, rfl⟩) (by assumption) ?_
            try simp only [Act.put, List.setIfInBounds_toArray, List.set_cons_zero, List.set_cons_succ]
            refine wpAnyH_take (i := 15) (oi := { dst := some 52, op := Op.move (Operand.tmp 6), type := 96, pos := "ref.go:139", after := #[{ on := 14, ground := Ground.guard }], guard := some (14, false) }) (v := undef) rfl (by kernel_rfl) (by kernel_rfl) (by kernel_rfl) (fun _ _ _ h => h) (Or.inr ⟨by rfl, rfl⟩) (by assumption) ?_
            try simp only [Act.put, List.setIfInBounds_toArray, List.set_cons_zero, List.set_cons_succ]
            refine wpAnyH_take (i := 16) (oi := { dst := some 53, op := Op.binOp BinOp.eql 96 (Operand.tmp 52) (Operand.const (Value.int IntKind.i64 3)) 96, type := 4, pos := "ref.go:139", after := #[{ on := 15, ground := Ground.data }, { on := 14, ground := Ground.guard }], guard := some (14, false) }) (v := undef) rfl (by kernel_rfl) (by kernel_rfl) (by kernel_rfl) (fun _ _ _ h => h) (Or.inr ⟨by rfl, rfl⟩) (by assumption) ?_
            try simp only [Act.put, List.setIfInBounds_toArray, List.set_cons_zero, List.set_cons_succ]
            refine wpAnyH_take (i := 17) (oi := { dst := some 54, op := Op.pick (Operand.tmp 51) (Operand.const (Value.bool true)) (Operand.tmp 53), type := 4, pos := "ref.go:139", after := #[{ on := 14, ground := Ground.data }, { on := 16, ground := Ground.data }, { on := 11, ground := Ground.guard }], guard := some (11, true) }) (v := undef) rfl (by kernel_rfl) (by kernel_rfl) (by kernel_rfl) (fun _ _ _ h => h) (Or.inr ⟨by rfl, rfl⟩) (by assumption) ?_
            try simp only [Act.put, List.setIfInBounds_toArray, List.set_cons_zero, List.set_cons_succ]
            refine wpAnyH_take (i := 18) (oi := { dst := some 55, op := Op.move (Operand.tmp 54), type := 4, pos := "ref.go:139", after := #[{ on := 17, ground := Ground.data }, { on := 14, ground := Ground.chain }, { on := 11, ground := Ground.guard }], guard := some (11, true) }) (v := undef) rfl (by kernel_rfl) (by kernel_rfl) (by kernel_rfl) (fun _ _ _ h => h) (Or.inr ⟨by rfl, rfl⟩) (by assumption) ?_
            try simp only [Act.put, List.setIfInBounds_toArray, List.set_cons_zero, List.set_cons_succ]
            refine wpAnyH_take (i := 19) (oi := { dst := some 56, op := Op.move (Operand.tmp 6), type := 96, pos := "ref.go:139", after := #[{ on := 18, ground := Ground.guard }], guard := some (18, false) }) (v := undef) rfl (by kernel_rfl) (by kernel_rfl) (by kernel_rfl) (fun _ _ _ h => h) (Or.inr ⟨by rfl, rfl⟩) (by assumption) ?_
            try simp only [Act.put, List.setIfInBounds_toArray, List.set_cons_zero, List.set_cons_succ]
            refine wpAnyH_take (i := 20) (oi := { dst := some 57, op := Op.binOp BinOp.eql 96 (Operand.tmp 56) (Operand.const (Value.int IntKind.i64 4)) 96, type := 4, pos := "ref.go:139", after := #[{ on := 19, ground := Ground.data }, { on := 18, ground := Ground.guard }], guard := some (18, false) }) (v := undef) rfl (by kernel_rfl) (by kernel_rfl) (by kernel_rfl) (fun _ _ _ h => h) (Or.inr ⟨by rfl, rfl⟩) (by assumption) ?_
            try simp only [Act.put, List.setIfInBounds_toArray, List.set_cons_zero, List.set_cons_succ]
            refine wpAnyH_take (i := 21) (oi := { dst := some 58, op := Op.pick (Operand.tmp 55) (Operand.const (Value.bool true)) (Operand.tmp 57), type := 4, pos := "ref.go:139", after := #[{ on := 18, ground := Ground.data }, { on := 20, ground := Ground.data }, { on := 11, ground := Ground.guard }], guard := some (11, true) }) (v := undef) rfl (by kernel_rfl) (by kernel_rfl) (by kernel_rfl) (fun _ _ _ h => h) (Or.inr ⟨by rfl, rfl⟩) (by assumption) ?_
            try simp only [Act.put, List.setIfInBounds_toArray, List.set_cons_zero, List.set_cons_succ]
            refine wpAnyH_take (i := 22) (oi := { dst := some 59, op := Op.pick (Operand.tmp 48) (Operand.tmp 58) (Operand.const (Value.bool false)), type := 4, pos := "ref.go:139", after := #[{ on := 11, ground := Ground.data }, { on := 21, ground := Ground.data }, { on := 8, ground := Ground.guard }], guard := some (8, false) }) (v := ?_) rfl (by kernel_rfl) (by kernel_rfl) (by kernel_rfl) (fun _ _ _ h => h) (Or.inl ⟨by rfl, ?_⟩) (by assumption) ?_
            rotate_left
            · intro W hSw; go_simp; try with_reducible rfl
            try simp only [Act.put, List.setIfInBounds_toArray, List.set_cons_zero, List.set_cons_succ]
            refine wpAnyH_take (i := 23) (oi := { dst := some 60, op := Op.pick (Operand.tmp 45) (Operand.const (Value.bool true)) (Operand.tmp 59), type := 4, pos := "ref.go:139", after := #[{ on := 8, ground := Ground.data }, { on := 22, ground := Ground.data }], guard := none }) (v := ?_) rfl (by kernel_rfl) (by kernel_rfl) (by kernel_rfl) (fun _ _ _ h => h) (Or.inl ⟨by rfl, ?_⟩) (by assumption) ?_
            rotate_left
            · intro W hSw; go_simp; try with_reducible rfl
            try simp only [Act.put, List.setIfInBounds_toArray, List.set_cons_zero, List.set_cons_succ]
            refine wpAnyH_done (by kernel_rfl) ?_ _
            have H9 := Lib.hid (step_below BR.out hHeld)
            clear hHeld
            go_wp2_with fail
            go_roundw
            case rel => exact ⟨k + 1, by have := HLT.out; omega, by go_num, Lib.hid (HST.out (by rw [HOB.out]; rfl)), H9⟩
            case measure => simp [intOf]; have := HLT.out; omega
          · obtain ⟨ok', hok'⟩ : ∃ z, o.k = z := ⟨_, rfl⟩
            rw [hok'] at HQ HM HWR HOB d0
            have HK' := HWR
            clear hok' HWR
            by_cases e2 : ok' = 2
            · subst e2
              go_wp2_with fail
              refine wp_region_held_drew (S := (fun W => Below wr.heap.size wr W)) (by kernel_rfl) ((Below.refl _ _).drew) (fun hHeld => ?_)
              refine wpAnyH_take (i := 0) (oi := { dst := some 37, op := Op.load 53 (Operand.tmp 2), type := 53, pos := "ref.go:139", after := #[], guard := none }) (v := ?_) rfl (by kernel_rfl) (by kernel_rfl) (by kernel_rfl) (fun _ _ _ h => h) (Or.inl ⟨by rfl, ?_⟩) (by assumption) ?_
              rotate_left
              · intro W hSw; obtain ⟨⟨s0, s1, s2, s3, s4, s5, s6⟩, ⟨s7, s8, s9⟩, t0, t1, t2, t3, t4, t5, t6⟩ := HQ.out W hSw; go_simp; try with_reducible rfl
              try simp only [Act.put, List.setIfInBounds_toArray, List.set_cons_zero, List.set_cons_succ]
              refine wpAnyH_take (i := 1) (oi := { dst := some 38, op := Op.fieldAddr 86 (Operand.tmp 3) 0, type := 0, pos := "ref.go:139", after := #[], guard := none }) (v := ?_) rfl (by kernel_rfl) (by kernel_rfl) (by kernel_rfl) (fun _ _ _ h => h) (Or.inl ⟨by rfl, ?_⟩) (by assumption) ?_
              rotate_left
              · intro W hSw; go_simp; try with_reducible rfl
              try simp only [Act.put, List.setIfInBounds_toArray, List.set_cons_zero, List.set_cons_succ]
              refine wpAnyH_take (i := 2) (oi := { dst := some 39, op := Op.load 84 (Operand.tmp 38), type := 84, pos := "ref.go:139", after := #[{ on := 1, ground := Ground.data }], guard := none }) (v := ?_) rfl (by kernel_rfl) (by kernel_rfl) (by kernel_rfl) (fun _ _ _ h => h) (Or.inl ⟨by rfl, ?_⟩) (by assumption) ?_
              rotate_left
              · intro W hSw; obtain ⟨⟨s0, s1, s2, s3, s4, s5, s6⟩, ⟨s7, s8, s9⟩, t0, t1, t2, t3, t4, t5, t6⟩ := HQ.out W hSw; go_simp; try with_reducible rfl
              try simp only [Act.put, List.setIfInBounds_toArray, List.set_cons_zero, List.set_cons_succ]
              refine wpAnyH_take (i := 3) (oi := { dst := some 40, op := Op.move (Operand.tmp 5), type := 3, pos := "ref.go:139", after := #[], guard := none }) (v := ?_) rfl (by kernel_rfl) (by kernel_rfl) (by kernel_rfl) (fun _ _ _ h => h) (Or.inl ⟨by rfl, ?_⟩) (by assumption) ?_
              rotate_left
              · intro W hSw; go_simp; try with_reducible rfl
              try simp only [Act.put, List.setIfInBounds_toArray, List.set_cons_zero, List.set_cons_succ]
              refine wpAnyH_take (i := 4) (oi := { dst := some 41, op := Op.indexAddr 84 (Operand.tmp 39) (Operand.tmp 40), type := 0, pos := "ref.go:139", after := #[{ on := 2, ground := Ground.data }, { on := 3, ground := Ground.data }], guard := none }) (v := ?_) rfl (by kernel_rfl) (by kernel_rfl) (by kernel_rfl) (fun _ _ _ h => h) (Or.inl ⟨by rfl, ?_⟩) (by assumption) ?_
              rotate_left
              · intro W hSw; go_simp; try with_reducible rfl
              try simp only [Act.put, List.setIfInBounds_toArray, List.set_cons_zero, List.set_cons_succ]
              refine wpAnyH_take (i := 5) (oi := { dst := some 42, op := Op.load 98 (Operand.tmp 41), type := 98, pos := "ref.go:139", after := #[{ on := 4, ground := Ground.data }], guard := none }) (v := ?_) rfl (by kernel_rfl) (by kernel_rfl) (by kernel_rfl) (fun _ _ _ h => h) (Or.inl ⟨by rfl, ?_⟩) (by assumption) ?_
              rotate_left
              · intro W hSw; obtain ⟨⟨s0, s1, s2, s3, s4, s5, s6⟩, ⟨s7, s8, s9⟩, t0, t1, t2, t3, t4, t5, t6⟩ := HQ.out W hSw; go_simp; try with_reducible rfl
              try simp only [Act.put, List.setIfInBounds_toArray, List.set_cons_zero, List.set_cons_succ]
              refine wpAnyH_ready (rs := [6]) (by kernel_rfl) (by simp) ?_
              refine AllReadyH.cons (o := { dst := some 43, op := Op.call { callee := Callee.value (Operand.func 90), args := #[Operand.tmp 37, Operand.tmp 42], argTypes := #[53, 98] }, type := 4, pos := "ref.go:139", after := #[{ on := 0, ground := Ground.data }, { on := 5, ground := Ground.data }], guard := none }) rfl (fun K hK => ?_) AllReadyH.nil
              go_simp
              refine (HM.out _ hHeld).mono ?_; rintro r W5 ⟨rfl, B5⟩
              go_wp2_with fail
              refine hK.out _ _ (step_below hHeld B5) (fun hHeldn => ?_)
              clear hK K hHeld; have hHeld := hHeldn; clear hHeldn
              clear B5
              try simp only [Act.put, List.setIfInBounds_toArray, List.set_cons_zero, List.set_cons_succ]
              refine wpAnyH_take (i := 7) (oi := { dst := some 44, op := Op.unOp UnOp.not 4 (Operand.tmp 43), type := 4, pos := "ref.go:139", after := #[{ on := 6, ground := Ground.data }], guard := none }) (v := ?_) rfl (by kernel_rfl) (by kernel_rfl) (by kernel_rfl) (fun _ _ _ h => h) (Or.inl ⟨by rfl, ?_⟩) (by assumption) ?_
              rotate_left
              · intro W hSw; go_simp; try with_reducible rfl
              try simp only [Act.put, List.setIfInBounds_toArray, List.set_cons_zero, List.set_cons_succ]
              refine wpAnyH_take (i := 8) (oi := { dst := some 45, op := Op.move (Operand.tmp 44), type := 4, pos := "ref.go:139", after := #[{ on := 7, ground := Ground.data }, { on := 6, ground := Ground.chain }], guard := none }) (v := ?_) rfl (by kernel_rfl) (by kernel_rfl) (by kernel_rfl) (fun _ _ _ h => h) (Or.inl ⟨by rfl, ?_⟩) (by assumption) ?_
              rotate_left
              · intro W hSw; go_simp; try with_reducible rfl
              try simp only [Act.put, List.setIfInBounds_toArray, List.set_cons_zero, List.set_cons_succ]
              refine wpAnyH_take (i := 9) (oi := { dst := some 46, op := Op.fieldAddr 86 (Operand.tmp 3) 1, type := 0, pos := "ref.go:139", after := #[{ on := 8, ground := Ground.guard }], guard := some (8, false) }) (v := ?_) rfl (by kernel_rfl) (by kernel_rfl) (by kernel_rfl) (fun _ _ _ h => h) (Or.inl ⟨by rfl, ?_⟩) (by assumption) ?_
              rotate_left
              · intro W hSw; go_simp; try with_reducible rfl
              try simp only [Act.put, List.setIfInBounds_toArray, List.set_cons_zero, List.set_cons_succ]
              refine wpAnyH_take (i := 10) (oi := { dst := some 47, op := Op.load 4 (Operand.tmp 46), type := 4, pos := "ref.go:139", after := #[{ on := 9, ground := Ground.data }, { on := 8, ground := Ground.guard }], guard := some (8, false) }) (v := ?_) rfl (by kernel_rfl) (by kernel_rfl) (by kernel_rfl) (fun _ _ _ h => h) (Or.inl ⟨by rfl, ?_⟩) (by assumption) ?_
              rotate_left
              · intro W hSw; obtain ⟨⟨s0, s1, s2, s3, s4, s5, s6⟩, ⟨s7, s8, s9⟩, t0, t1, t2, t3, t4, t5, t6⟩ := HQ.out W hSw; go_simp; try with_reducible rfl
              try simp only [Act.put, List.setIfInBounds_toArray, List.set_cons_zero, List.set_cons_succ]
              refine wpAnyH_take (i := 11) (oi := { dst := some 48, op := Op.move (Operand.tmp 47), type := 4, pos := "ref.go:139", after := #[{ on := 10, ground := Ground.data }, { on := 8, ground := Ground.chain }, { on := 8, ground := Ground.guard }], guard := some (8, false) }) (v := ?_) rfl (by kernel_rfl) (by kernel_rfl) (by kernel_rfl) (fun _ _ _ h => h) (Or.inl ⟨by rfl, ?_⟩) (by assumption) ?_
              rotate_left
              · intro W hSw; go_simp; try with_reducible rfl
              try simp only [Act.put, List.setIfInBounds_toArray, List.set_cons_zero, List.set_cons_succ]
              refine wpAnyH_take (i := 12) (oi := { dst := some 49, op := Op.move (Operand.tmp 6), type := 96, pos := "ref.go:139", after := #[{ on := 11, ground := Ground.guard }], guard := some (11, true) }) (v := ?_) rfl (by kernel_rfl) (by kernel_rfl) (by kernel_rfl) (fun _ _ _ h => h) (Or.inl ⟨by rfl, ?_⟩) (by assumption) ?_
              rotate_left
              · intro W hSw; go_simp; try with_reducible rfl
              try simp only [Act.put, List.setIfInBounds_toArray, List.set_cons_zero, List.set_cons_succ]
              refine wpAnyH_take (i := 13) (oi := { dst := some 50, op := Op.binOp BinOp.eql 96 (Operand.tmp 49) (Operand.const (Value.int IntKind.i64 2)) 96, type := 4, pos := "ref.go:139", after := #[{ on := 12, ground := Ground.data }, { on := 11, ground := Ground.guard }], guard := some (11, true) }) (v := ?_) rfl (by kernel_rfl) (by kernel_rfl) (by kernel_rfl) (fun _ _ _ h => h) (Or.inl ⟨by rfl, ?_⟩) (by assumption) ?_
              rotate_left
              · intro W hSw; go_simp; try with_reducible rfl
              try simp only [Act.put, List.setIfInBounds_toArray, List.set_cons_zero, List.set_cons_succ]
              refine wpAnyH_take (i := 14) (oi := { dst := some 51, op := Op.move (Operand.tmp 50), type := 4, pos := "ref.go:139", after := #[{ on := 13, ground := Ground.data }, { on := 11, ground := Ground.chain }, { on := 11, ground := Ground.guard }], guard := some (11, true) }) (v := ?_) rfl (by kernel_rfl) (by kernel_rfl) (by kernel_rfl) (fun _ _ _ h => h) (Or.inl ⟨by rfl, ?_⟩) (by assumption) ?_
              rotate_left
              · intro W hSw; go_simp; try with_reducible rfl
              try simp only [Act.put, List.setIfInBounds_toArray, List.set_cons_zero, List.set_cons_succ]
              refine wpAnyH_take (i := 15) (oi := { dst := some 52, op := Op.move (Operand.tmp 6), type := 96, pos := "ref.go:139", after := #[{ on := 14, ground := Ground.guard }], guard := some (14, false) }) (v := undef) rfl (by kernel_rfl) (by kernel_rfl) (by kernel_rfl) (fun _ _ _ h => h) (Or.inr ⟨by rfl, rfl⟩) (by assumption) ?_
              try simp only [Act.put, List.setIfInBounds_toArray, List.set_cons_zero, List.set_cons_succ]
              refine wpAnyH_take (i := 16) (oi := { dst := some 53, op := Op.binOp BinOp.eql 96 (Operand.tmp 52) (Operand.const (Value.int IntKind.i64 3)) 96, type := 4, pos := "ref.go:139", after := #[{ on := 15, ground := Ground.data }, { on := 14, ground := Ground.guard }], guard := some (14, false) }) (v := undef) rfl (by kernel_rfl) (by kernel_rfl) (by kernel_rfl) (fun _ _ _ h => h) (Or.inr ⟨by rfl, rfl⟩) (by assumption) ?_
              try simp only [Act.put, List.setIfInBounds_toArray, List.set_cons_zero, List.set_cons_succ]
              refine wpAnyH_take (i := 17) (oi := { dst := some 54, op := Op.pick (Operand.tmp 51) (Operand.const (Value.bool true)) (Operand.tmp 53), type := 4, pos := "ref.go:139", after := #[{ on := 14, ground := Ground.data }, { on := 16, ground := Ground.data }, { on := 11, ground := Ground.guard }], guard := some (11, true) }) (v := ?_) rfl (by kernel_rfl) (by kernel_rfl) (by kernel_rfl) (fun _ _ _ h => h) (Or.inl ⟨by rfl, ?_⟩) (by assumption) ?_
              rotate_left
              · intro W hSw; go_simp; try with_reducible rfl
              try simp only [Act.put, List.setIfInBounds_toArray, List.set_cons_zero, List.set_cons_succ]
              refine wpAnyH_take (i := 18) (oi := { dst := some 55, op := Op.move (Operand.tmp 54), type := 4, pos := "ref.go:139", after := #[{ on := 17, ground := Ground.data }, { on := 14, ground := Ground.chain }, { on := 11, ground := Ground.guard }], guard := some (11, true) }) (v := ?_) rfl (by kernel_rfl) (by kernel_rfl) (by kernel_rfl) (fun _ _ _ h => h) (Or.inl ⟨by rfl, ?_⟩) (by assumption) ?_
              rotate_left
              · intro W hSw; go_simp; try with_reducible rfl
              try simp only [Act.put, List.setIfInBounds_toArray, List.set_cons_zero, List.set_cons_succ]
              refine wpAnyH_take (i := 19) (oi := { dst := some 56, op := Op.move (Operand.tmp 6), type := 96, pos := "ref.go:139", after := #[{ on := 18, ground := Ground.guard }], guard := some (18, false) }) (v := undef) rfl (by kernel_rfl) (by kernel_rfl) (by kernel_rfl) (fun _ _ _ h => h) (Or.inr ⟨by rfl, rfl⟩) (by assumption) ?_
              try simp only [Act.put, List.setIfInBounds_toArray, List.set_cons_zero, List.set_cons_succ]
              refine wpAnyH_take (i := 20) (oi := { dst := some 57, op := Op.binOp BinOp.eql 96 (Operand.tmp 56) (Operand.const (Value.int IntKind.i64 4)) 96, type := 4, pos := "ref.go:139", after := #[{ on := 19, ground := Ground.data }, { on := 18, ground := Ground.guard }], guard := some (18, false) }) (v := undef) rfl (by kernel_rfl) (by kernel_rfl) (by kernel_rfl) (fun _ _ _ h => h) (Or.inr ⟨by rfl, rfl⟩) (by assumption) ?_
              try simp only [Act.put, List.setIfInBounds_toArray, List.set_cons_zero, List.set_cons_succ]
              refine wpAnyH_take (i := 21) (oi := { dst := some 58, op := Op.pick (Operand.tmp 55) (Operand.const (Value.bool true)) (Operand.tmp 57), type := 4, pos := "ref.go:139", after := #[{ on := 18, ground := Ground.data }, { on := 20, ground := Ground.data }, { on := 11, ground := Ground.guard }], guard := some (11, true) }) (v := ?_) rfl (by kernel_rfl) (by kernel_rfl) (by kernel_rfl) (fun _ _ _ h => h) (Or.inl ⟨by rfl, ?_⟩) (by assumption) ?_
              rotate_left
              · intro W hSw; go_simp; try with_reducible rfl
              try simp only [Act.put, List.setIfInBounds_toArray, List.set_cons_zero, List.set_cons_succ]
              refine wpAnyH_take (i := 22) (oi := { dst := some 59, op := Op.pick (Operand.tmp 48) (Operand.tmp 58) (Operand.const (Value.bool false)), type := 4, pos := "ref.go:139", after := #[{ on := 11, ground := Ground.data }, { on := 21, ground := Ground.data }, { on := 8, ground := Ground.guard }], guard := some (8, false) }) (v := ?_) rfl (by kernel_rfl) (by kernel_rfl) (by kernel_rfl) (fun _ _ _ h => h) (Or.inl ⟨by rfl, ?_⟩) (by assumption) ?_
              rotate_left
              · intro W hSw; go_simp; try with_reducible rfl
              try simp only [Act.put, List.setIfInBounds_toArray, List.set_cons_zero, List.set_cons_succ]
              refine wpAnyH_take (i := 23) (oi := { dst := some 60, op := Op.pick (Operand.tmp 45) (Operand.const (Value.bool true)) (Operand.tmp 59), type := 4, pos := "ref.go:139", after := #[{ on := 8, ground := Ground.data }, { on := 22, ground := Ground.data }], guard := none }) (v := ?_) rfl (by kernel_rfl) (by kernel_rfl) (by kernel_rfl) (fun _ _ _ h => h) (Or.inl ⟨by rfl, ?_⟩) (by assumption) ?_
              rotate_left
              · intro W hSw; go_simp; try with_reducible rfl
              try simp only [Act.put, List.setIfInBounds_toArray, List.set_cons_zero, List.set_cons_succ]
              refine wpAnyH_done (by kernel_rfl) ?_ _
              have H9 := Lib.hid (step_below BW.out hHeld)
              clear hHeld
              go_wp2_with fail
              try rw [Exit.noGoto_ret]
              go_ret
              exact ⟨ret_bool (HN.out (by rw [HOB.out, HK'.out]; rfl)).symm, step_below HB0.out H9.out⟩
            by_cases e3 : ok' = 3
            · subst e3
              go_wp2_with fail
              refine wp_region_held_drew (S := (fun W => Below wr.heap.size wr W)) (by kernel_rfl) ((Below.refl _ _).drew) (fun hHeld => ?_)
              refine wpAnyH_take (i := 0) (oi := { dst := some 37, op := Op.load 53 (Operand.tmp 2), type := 53, pos := "ref.go:139", after := #[], guard := none }) (v := ?_) rfl (by kernel_rfl) (by kernel_rfl) (by kernel_rfl) (fun _ _ _ h => h) (Or.inl ⟨by rfl, ?_⟩) (by assumption) ?_
              rotate_left
              · intro W hSw; obtain ⟨⟨s0, s1, s2, s3, s4, s5, s6⟩, ⟨s7, s8, s9⟩, t0, t1, t2, t3, t4, t5, t6⟩ := HQ.out W hSw; go_simp; try with_reducible rfl
              try simp only [Act.put, List.setIfInBounds_toArray, List.set_cons_zero, List.set_cons_succ]
              refine wpAnyH_take (i := 1) (oi := { dst := some 38, op := Op.fieldAddr 86 (Operand.tmp 3) 0, type := 0, pos := "ref.go:139", after := #[], guard := none }) (v := ?_) rfl (by kernel_rfl) (by kernel_rfl) (by kernel_rfl) (fun _ _ _ h => h) (Or.inl ⟨by rfl, ?_⟩) (by assumption) ?_
              rotate_left
              · intro W hSw; go_simp; try with_reducible rfl
              try simp only [Act.put, List.setIfInBounds_toArray, List.set_cons_zero, List.set_cons_succ]
              refine wpAnyH_take (i := 2) (oi := { dst := some 39, op := Op.load 84 (Operand.tmp 38), type := 84, pos := "ref.go:139", after := #[{ on := 1, ground := Ground.data }], guard := none }) (v := ?_) rfl (by kernel_rfl) (by kernel_rfl) (by kernel_rfl) (fun _ _ _ h => h) (Or.inl ⟨by rfl, ?_⟩) (by assumption) ?_
              rotate_left
              · intro W hSw; obtain ⟨⟨s0, s1, s2, s3, s4, s5, s6⟩, ⟨s7, s8, s9⟩, t0, t1, t2, t3, t4, t5, t6⟩ := HQ.out W hSw; go_simp; try with_reducible rfl
              try simp only [Act.put, List.setIfInBounds_toArray, List.set_cons_zero, List.set_cons_succ]
              refine wpAnyH_take (i := 3) (oi := { dst := some 40, op := Op.move (Operand.tmp 5), type := 3, pos := "ref.go:139", after := #[], guard := none }) (v := ?_) rfl (by kernel_rfl) (by kernel_rfl) (by kernel_rfl) (fun _ _ _ h => h) (Or.inl ⟨by rfl, ?_⟩) (by assumption) ?_
              rotate_left
              · intro W hSw; go_simp; try with_reducible rfl
              try simp only [Act.put, List.setIfInBounds_toArray, List.set_cons_zero, List.set_cons_succ]
              refine wpAnyH_take (i := 4) (oi := { dst := some 41, op := Op.indexAddr 84 (Operand.tmp 39) (Operand.tmp 40), type := 0, pos := "ref.go:139", after := #[{ on := 2, ground := Ground.data }, { on := 3, ground := Ground.data }], guard := none }) (v := ?_) rfl (by kernel_rfl) (by kernel_rfl) (by kernel_rfl) (fun _ _ _ h => h) (Or.inl ⟨by rfl, ?_⟩) (by assumption) ?_
              rotate_left
              · intro W hSw; go_simp; try with_reducible rfl
              try simp only [Act.put, List.setIfInBounds_toArray, List.set_cons_zero, List.set_cons_succ]
              refine wpAnyH_take (i := 5) (oi := { dst := some 42, op := Op.load 98 (Operand.tmp 41), type := 98, pos := "ref.go:139", after := #[{ on := 4, ground := Ground.data }], guard := none }) (v := ?_) rfl (by kernel_rfl) (by kernel_rfl) (by kernel_rfl) (fun _ _ _ h => h) (Or.inl ⟨by rfl, ?_⟩) (by assumption) ?_
              rotate_left
              · intro W hSw; obtain ⟨⟨s0, s1, s2, s3, s4, s5, s6⟩, ⟨s7, s8, s9⟩, t0, t1, t2, t3, t4, t5, t6⟩ := HQ.out W hSw; go_simp; try with_reducible rfl
              try simp only [Act.put, List.setIfInBounds_toArray, List.set_cons_zero, List.set_cons_succ]
              refine wpAnyH_ready (rs := [6]) (by kernel_rfl) (by simp) ?_
              refine AllReadyH.cons (o := { dst := some 43, op := Op.call { callee := Callee.value (Operand.func 90), args := #[Operand.tmp 37, Operand.tmp 42], argTypes := #[53, 98] }, type := 4, pos := "ref.go:139", after := #[{ on := 0, ground := Ground.data }, { on := 5, ground := Ground.data }], guard := none }) rfl (fun K hK => ?_) AllReadyH.nil
              go_simp
              refine (HM.out _ hHeld).mono ?_; rintro r W5 ⟨rfl, B5⟩
              go_wp2_with fail
              refine hK.out _ _ (step_below hHeld B5) (fun hHeldn => ?_)
              clear hK K hHeld; have hHeld := hHeldn; clear hHeldn
              clear B5
              try simp only [Act.put, List.setIfInBounds_toArray, List.set_cons_zero, List.set_cons_succ]
              refine wpAnyH_take (i := 7) (oi := { dst := some 44, op := Op.unOp UnOp.not 4 (Operand.tmp 43), type := 4, pos := "ref.go:139", after := #[{ on := 6, ground := Ground.data }], guard := none }) (v := ?_) rfl (by kernel_rfl) (by kernel_rfl) (by kernel_rfl) (fun _ _ _ h => h) (Or.inl ⟨by rfl, ?_⟩) (by assumption) ?_
              rotate_left
              · intro W hSw; go_simp; try with_reducible rfl
              try simp only [Act.put, List.setIfInBounds_toArray, List.set_cons_zero, List.set_cons_succ]
              refine wpAnyH_take (i := 8) (oi := { dst := some 45, op := Op.move (Operand.tmp 44), type := 4, pos := "ref.go:139", after := #[{ on := 7, ground := Ground.data }, { on := 6, ground := Ground.chain }], guard := none }) (v := ?_) rfl (by kernel_rfl) (by kernel_rfl) (by kernel_rfl) (fun _ _ _ h => h) (Or.inl ⟨by rfl, ?_⟩) (by assumption) ?_
              rotate_left
              · intro W hSw; go_simp; try with_reducible rfl
              try simp only [Act.put, List.setIfInBounds_toArray, List.set_cons_zero, List.set_cons_succ]
              refine wpAnyH_take (i := 9) (oi := { dst := some 46, op := Op.fieldAddr 86 (Operand.tmp 3) 1, type := 0, pos := "ref.go:139", after := #[{ on := 8, ground := Ground.guard }], guard := some (8, false) }) (v := ?_) rfl (by kernel_rfl) (by kernel_rfl) (by kernel_rfl) (fun _ _ _ h => h) (Or.inl ⟨by rfl, ?_⟩) (by assumption) ?_
              rotate_left
              · intro W hSw; go_simp; try with_reducible rfl
              try simp only [Act.put, List.setIfInBounds_toArray, List.set_cons_zero, List.set_cons_succ]
              refine wpAnyH_take (i := 10) (oi := { dst := some 47, op := Op.load 4 (Operand.tmp 46), type := 4, pos := "ref.go:139", after := #[{ on := 9, ground := Ground.data }, { on := 8, ground := Ground.guard }], guard := some (8, false) }) (v := ?_) rfl (by kernel_rfl) (by kernel_rfl) (by kernel_rfl) (fun _ _ _ h => h) (Or.inl ⟨by rfl, ?_⟩) (by assumption) ?_
              rotate_left
              · intro W hSw; obtain ⟨⟨s0, s1, s2, s3, s4, s5, s6⟩, ⟨s7, s8, s9⟩, t0, t1, t2, t3, t4, t5, t6⟩ := HQ.out W hSw; go_simp; try with_reducible rfl
              try simp only [Act.put, List.setIfInBounds_toArray, List.set_cons_zero, List.set_cons_succ]
              refine wpAnyH_take (i := 11) (oi := { dst := some 48, op := Op.move (Operand.tmp 47), type := 4, pos := "ref.go:139", after := #[{ on := 10, ground := Ground.data }, { on := 8, ground := Ground.chain }, { on := 8, ground := Ground.guard }], guard := some (8, false) }) (v := ?_) rfl (by kernel_rfl) (by kernel_rfl) (by kernel_rfl) (fun _ _ _ h => h) (Or.inl ⟨by rfl, ?_⟩) (by assumption) ?_
              rotate_left
              · intro W hSw; go_simp; try with_reducible rfl
              try simp only [Act.put, List.setIfInBounds_toArray, List.set_cons_zero, List.set_cons_succ]
              refine wpAnyH_take (i := 12) (oi := { dst := some 49, op := Op.move (Operand.tmp 6), type := 96, pos := "ref.go:139", after := #[{ on := 11, ground := Ground.guard }], guard := some (11, true) }) (v := ?_) rfl (by kernel_rfl) (by kernel_rfl) (by kernel_rfl) (fun _ _ _ h => h) (Or.inl ⟨by rfl, ?_⟩) (by assumption) ?_
              rotate_left
              · intro W hSw; go_simp; try with_reducible rfl
              try simp only [Act.put, List.setIfInBounds_toArray, List.set_cons_zero, List.set_cons_succ]
              refine wpAnyH_take (i := 13) (oi := { dst := some 50, op := Op.binOp BinOp.eql 96 (Operand.tmp 49) (Operand.const (Value.int IntKind.i64 2)) 96, type := 4, pos := "ref.go:139", after := #[{ on := 12, ground := Ground.data }, { on := 11, ground := Ground.guard }], guard := some (11, true) }) (v := ?_) rfl (by kernel_rfl) (by kernel_rfl) (by kernel_rfl) (fun _ _ _ h => h) (Or.inl ⟨by rfl, ?_⟩) (by assumption) ?_
              rotate_left
              · intro W hSw; go_simp; try with_reducible rfl
              try simp only [Act.put, List.setIfInBounds_toArray, List.set_cons_zero, List.set_cons_succ]
              refine wpAnyH_take (i := 14) (oi := { dst := some 51, op := Op.move (Operand.tmp 50), type := 4, pos := "ref.go:139", after := #[{ on := 13, ground := Ground.data }, { on := 11, ground := Ground.chain }, { on := 11, ground := Ground.guard }], guard := some (11, true) }) (v := ?_) rfl (by kernel_rfl) (by kernel_rfl) (by kernel_rfl) (fun _ _ _ h => h) (Or.inl ⟨by rfl, ?_⟩) (by assumption) ?_
              rotate_left
              · intro W hSw; go_simp; try with_reducible rfl
              try simp only [Act.put, List.setIfInBounds_toArray, List.set_cons_zero, List.set_cons_succ]
              refine wpAnyH_take (i := 15) (oi := { dst := some 52, op := Op.move (Operand.tmp 6), type := 96, pos := "ref.go:139", after := #[{ on := 14, ground := Ground.guard }], guard := some (14, false) }) (v := ?_) rfl (by kernel_rfl) (by kernel_rfl) (by kernel_rfl) (fun _ _ _ h => h) (Or.inl ⟨by rfl, ?_⟩) (by assumption) ?_
              rotate_left
              · intro W hSw; go_simp; try with_reducible rfl
              try simp only [Act.put, List.setIfInBounds_toArray, List.set_cons_zero, List.set_cons_succ]
              refine wpAnyH_take (i := 16) (oi := { dst := some 53, op := Op.binOp BinOp.eql 96 (Operand.tmp 52) (Operand.const (Value.int IntKind.i64 3)) 96, type := 4, pos := "ref.go:139", after := #[{ on := 15, ground := Ground.data }, { on := 14, ground := Ground.guard }], guard := some (14, false) }) (v := ?_) rfl (by kernel_rfl) (by kernel_rfl) (by kernel_rfl) (fun _ _ _ h => h) (Or.inl ⟨by rfl, ?_⟩) (by assumption) ?_
              rotate_left
              · intro W hSw; go_simp; try with_reducible rfl
              try simp only [Act.put, List.setIfInBounds_toArray, List.set_cons_zero, List.set_cons_succ]
              refine wpAnyH_take (i := 17) (oi := { dst := some 54, op := Op.pick (Operand.tmp 51) (Operand.const (Value.bool true)) (Operand.tmp 53), type := 4, pos := "ref.go:139", after := #[{ on := 14, ground := Ground.data }, { on := 16, ground := Ground.data }, { on := 11, ground := Ground.guard }], guard := some (11, true) }) (v := ?_) rfl (by kernel_rfl) (by kernel_rfl) (by kernel_rfl) (fun _ _ _ h => h) (Or.inl ⟨by rfl, ?_⟩) (by assumption) ?_
              rotate_left
              · intro W hSw; go_simp; try with_reducible rfl
              try simp only [Act.put, List.setIfInBounds_toArray, List.set_cons_zero, List.set_cons_succ]
              refine wpAnyH_take (i := 18) (oi := { dst := some 55, op := Op.move (Operand.tmp 54), type := 4, pos := "ref.go:139", after := #[{ on := 17, ground := Ground.data }, { on := 14, ground := Ground.chain }, { on := 11, ground := Ground.guard }], guard := some (11, true) }) (v := ?_) rfl (by kernel_rfl) (by kernel_rfl) (by kernel_rfl) (fun _ _ _ h => h) (Or.inl ⟨by rfl, ?_⟩) (by assumption) ?_
              rotate_left
              · intro W hSw; go_simp; try with_reducible rfl
              try simp only [Act.put, List.setIfInBounds_toArray, List.set_cons_zero, List.set_cons_succ]
              refine wpAnyH_take (i := 19) (oi := { dst := some 56, op := Op.move (Operand.tmp 6), type := 96, pos := "ref.go:139", after := #[{ on := 18, ground := Ground.guard }], guard := some (18, false) }) (v := undef) rfl (by kernel_rfl) (by kernel_rfl) (by kernel_rfl) (fun _ _ _ h => h) (Or.inr ⟨by rfl, rfl⟩) (by assumption) ?_
              try simp only [Act.put, List.setIfInBounds_toArray, List.set_cons_zero, List.set_cons_succ]
              refine wpAnyH_take (i := 20) (oi := { dst := some 57, op := Op.binOp BinOp.eql 96 (Operand.tmp 56) (Operand.const (Value.int IntKind.i64 4)) 96, type := 4, pos := "ref.go:139", after := #[{ on := 19, ground := Ground.data }, { on := 18, ground := Ground.guard }], guard := some (18, false) }) (v := undef) rfl (by kernel_rfl) (by kernel_rfl) (by kernel_rfl) (fun _ _ _ h => h) (Or.inr ⟨by rfl, rfl⟩) (by assumption) ?_
              try simp only [Act.put, List.setIfInBounds_toArray, List.set_cons_zero, List.set_cons_succ]
              refine wpAnyH_take (i := 21) (oi := { dst := some 58, op := Op.pick (Operand.tmp 55) (Operand.const (Value.bool true)) (Operand.tmp 57), type := 4, pos := "ref.go:139", after := #[{ on := 18, ground := Ground.data }, { on := 20, ground := Ground.data }, { on := 11, ground := Ground.guard }], guard := some (11, true) }) (v := ?_) rfl (by kernel_rfl) (by kernel_rfl) (by kernel_rfl) (fun _ _ _ h => h) (Or.inl ⟨by rfl, ?_⟩) (by assumption) ?_
              rotate_left
              · intro W hSw; go_simp; try with_reducible rfl
              try simp only [Act.put, List.setIfInBounds_toArray, List.set_cons_zero, List.set_cons_succ]
              refine wpAnyH_take (i := 22) (oi := { dst := some 59, op := Op.pick (Operand.tmp 48) (Operand.tmp 58) (Operand.const (Value.bool false)), type := 4, pos := "ref.go:139", after := #[{ on := 11, ground := Ground.data }, { on := 21, ground := Ground.data }, { on := 8, ground := Ground.guard }], guard := some (8, false) }) (v := ?_) rfl (by kernel_rfl) (by kernel_rfl) (by kernel_rfl) (fun _ _ _ h => h) (Or.inl ⟨by rfl, ?_⟩) (by assumption) ?_
              rotate_left
              · intro W hSw; go_simp; try with_reducible rfl
              try simp only [Act.put, List.setIfInBounds_toArray, List.set_cons_zero, List.set_cons_succ]
              refine wpAnyH_take (i := 23) (oi := { dst := some 60, op := Op.pick (Operand.tmp 45) (Operand.const (Value.bool true)) (Operand.tmp 59), type := 4, pos := "ref.go:139", after := #[{ on := 8, ground := Ground.data }, { on := 22, ground := Ground.data }], guard := none }) (v := ?_) rfl (by kernel_rfl) (by kernel_rfl) (by kernel_rfl) (fun _ _ _ h => h) (Or.inl ⟨by rfl, ?_⟩) (by assumption) ?_
              rotate_left
              · intro W hSw; go_simp; try with_reducible rfl
              try simp only [Act.put, List.setIfInBounds_toArray, List.set_cons_zero, List.set_cons_succ]
              refine wpAnyH_done (by kernel_rfl) ?_ _
              have H9 := Lib.hid (step_below BW.out hHeld)
              clear hHeld
              go_wp2_with fail
              try rw [Exit.noGoto_ret]
              go_ret
              exact ⟨ret_bool (HN.out (by rw [HOB.out, HK'.out]; rfl)).symm, step_below HB0.out H9.out⟩
            by_cases e4 : ok' = 4
            · subst e4
              go_wp2_with fail
              refine wp_region_held_drew (S := (fun W => Below wr.heap.size wr W)) (by kernel_rfl) ((Below.refl _ _).drew) (fun hHeld => ?_)
              refine wpAnyH_take (i := 0) (oi := { dst := some 37, op := Op.load 53 (Operand.tmp 2), type := 53, pos := "ref.go:139", after := #[], guard := none }) (v := ?_) rfl (by kernel_rfl) (by kernel_rfl) (by kernel_rfl) (fun _ _ _ h => h) (Or.inl ⟨by rfl, ?_⟩) (by assumption) ?_
              rotate_left
              · intro W hSw; obtain ⟨⟨s0, s1, s2, s3, s4, s5, s6⟩, ⟨s7, s8, s9⟩, t0, t1, t2, t3, t4, t5, t6⟩ := HQ.out W hSw; go_simp; try with_reducible rfl
              try simp only [Act.put, List.setIfInBounds_toArray, List.set_cons_zero, List.set_cons_succ]
              refine wpAnyH_take (i := 1) (oi := { dst := some 38, op := Op.fieldAddr 86 (Operand.tmp 3) 0, type := 0, pos := "ref.go:139", after := #[], guard := none }) (v := ?_) rfl (by kernel_rfl) (by kernel_rfl) (by kernel_rfl) (fun _ _ _ h => h) (Or.inl ⟨by rfl, ?_⟩) (by assumption) ?_
              rotate_left
              · intro W hSw; go_simp; try with_reducible rfl
              try simp only [Act.put, List.setIfInBounds_toArray, List.set_cons_zero, List.set_cons_succ]
              refine wpAnyH_take (i := 2) (oi := { dst := some 39, op := Op.load 84 (Operand.tmp 38), type := 84, pos := "ref.go:139", after := #[{ on := 1, ground := Ground.data }], guard := none }) (v := ?_) rfl (by kernel_rfl) (by kernel_rfl) (by kernel_rfl) (fun _ _ _ h => h) (Or.inl ⟨by rfl, ?_⟩) (by assumption) ?_
              rotate_left
              · intro W hSw; obtain ⟨⟨s0, s1, s2, s3, s4, s5, s6⟩, ⟨s7, s8, s9⟩, t0, t1, t2, t3, t4, t5, t6⟩ := HQ.out W hSw; go_simp; try with_reducible rfl
              try simp only [Act.put, List.setIfInBounds_toArray, List.set_cons_zero, List.set_cons_succ]
              refine wpAnyH_take (i := 3) (oi := { dst := some 40, op := Op.move (Operand.tmp 5), type := 3, pos := "ref.go:139", after := #[], guard := none }) (v := ?_) rfl (by kernel_rfl) (by kernel_rfl) (by kernel_rfl) (fun _ _ _ h => h) (Or.inl ⟨by rfl, ?_⟩) (by assumption) ?_
              rotate_left
              · intro W hSw; go_simp; try with_reducible rfl
              try simp only [Act.put, List.setIfInBounds_toArray, List.set_cons_zero, List.set_cons_succ]
              refine wpAnyH_take (i := 4) (oi := { dst := some 41, op := Op.indexAddr 84 (Operand.tmp 39) (Operand.tmp 40), type := 0, pos := "ref.go:139", after := #[{ on := 2, ground := Ground.data }, { on := 3, ground := Ground.data }], guard := none }) (v := ?_) rfl (by kernel_rfl) (by kernel_rfl) (by kernel_rfl) (fun _ _ _ h => h) (Or.inl ⟨by rfl, ?_⟩) (by assumption) ?_
              rotate_left
              · intro W hSw; go_simp; try with_reducible rfl
              try simp only [Act.put, List.setIfInBounds_toArray, List.set_cons_zero, List.set_cons_succ]
              refine wpAnyH_take (i := 5) (oi := { dst := some 42, op := Op.load 98 (Operand.tmp 41), type := 98, pos := "ref.go:139", after := #[{ on := 4, ground := Ground.data }], guard := none }) (v := ?_) rfl (by kernel_rfl) (by kernel_rfl) (by kernel_rfl) (fun _ _ _ h => h) (Or.inl ⟨by rfl, ?_⟩) (by assumption) ?_
              rotate_left
              · intro W hSw; obtain ⟨⟨s0, s1, s2, s3, s4, s5, s6⟩, ⟨s7, s8, s9⟩, t0, t1, t2, t3, t4, t5, t6⟩ := HQ.out W hSw; go_simp; try with_reducible rfl
              try simp only [Act.put, List.setIfInBounds_toArray, List.set_cons_zero, List.set_cons_succ]
              refine wpAnyH_ready (rs := [6]) (by kernel_rfl) (by simp) ?_
              refine AllReadyH.cons (o := { dst := some 43, op := Op.call { callee := Callee.value (Operand.func 90), args := #[Operand.tmp 37, Operand.tmp 42], argTypes := #[53, 98] }, type := 4, pos := "ref.go:139", after := #[{ on := 0, ground := Ground.data }, { on := 5, ground := Ground.data }], guard := none }) rfl (fun K hK => ?_) AllReadyH.nil
              go_simp
              refine (HM.out _ hHeld).mono ?_; rintro r W5 ⟨rfl, B5⟩
              go_wp2_with fail
              refine hK.out _ _ (step_below hHeld B5) (fun hHeldn => ?_)
              clear hK K hHeld; have hHeld := hHeldn; clear hHeldn
              clear B5
              try simp only [Act.put, List.setIfInBounds_toArray, List.set_cons_zero, List.set_cons_succ]
              refine wpAnyH_take (i := 7) (oi := { dst := some 44, op := Op.unOp UnOp.not 4 (Operand.tmp 43), type := 4, pos := "ref.go:139", after := #[{ on := 6, ground := Ground.data }], guard := none }) (v := ?_) rfl (by kernel_rfl) (by kernel_rfl) (by kernel_rfl) (fun _ _ _ h => h) (Or.inl ⟨by rfl, ?_⟩) (by assumption) ?_
              rotate_left
              · intro W hSw; go_simp; try with_reducible rfl
              try simp only [Act.put, List.setIfInBounds_toArray, List.set_cons_zero, List.set_cons_succ]
              refine wpAnyH_take (i := 8) (oi := { dst := some 45, op := Op.move (Operand.tmp 44), type := 4, pos := "ref.go:139", after := #[{ on := 7, ground := Ground.data }, { on := 6, ground := Ground.chain }], guard := none }) (v := ?_) rfl (by kernel_rfl) (by kernel_rfl) (by kernel_rfl) (fun _ _ _ h => h) (Or.inl ⟨by rfl, ?_⟩) (by assumption) ?_
              rotate_left
              · intro W hSw; go_simp; try with_reducible rfl
              try simp only [Act.put, List.setIfInBounds_toArray, List.set_cons_zero, List.set_cons_succ]
              refine wpAnyH_take (i := 9) (oi := { dst := some 46, op := Op.fieldAddr 86 (Operand.tmp 3) 1, type := 0, pos := "ref.go:139", after := #[{ on := 8, ground := Ground.guard }], guard := some (8, false) }) (v := ?_) rfl (by kernel_rfl) (by kernel_rfl) (by kernel_rfl) (fun _ _ _ h => h) (Or.inl ⟨by rfl, ?_⟩) (by assumption) ?_
              rotate_left
              · intro W hSw; go_simp; try with_reducible rfl
              try simp only [Act.put, List.setIfInBounds_toArray, List.set_cons_zero, List.set_cons_succ]
              refine wpAnyH_take (i := 10) (oi := { dst := some 47, op := Op.load 4 (Operand.tmp 46), type := 4, pos := "ref.go:139", after := #[{ on := 9, ground := Ground.data }, { on := 8, ground := Ground.guard }], guard := some (8, false) }) (v := ?_) rfl (by kernel_rfl) (by kernel_rfl) (by kernel_rfl) (fun _ _ _ h => h) (Or.inl ⟨by rfl, ?_⟩) (by assumption) ?_
              rotate_left
              · intro W hSw; obtain ⟨⟨s0, s1, s2, s3, s4, s5, s6⟩, ⟨s7, s8, s9⟩, t0, t1, t2, t3, t4, t5, t6⟩ := HQ.out W hSw; go_simp; try with_reducible rfl
              try simp only [Act.put, List.setIfInBounds_toArray, List.set_cons_zero, List.set_cons_succ]
              refine wpAnyH_take (i := 11) (oi := { dst := some 48, op := Op.move (Operand.tmp 47), type := 4, pos := "ref.go:139", after := #[{ on := 10, ground := Ground.data }, { on := 8, ground := Ground.chain }, { on := 8, ground := Ground.guard }], guard := some (8, false) }) (v := ?_) rfl (by kernel_rfl) (by kernel_rfl) (by kernel_rfl) (fun _ _ _ h => h) (Or.inl ⟨by rfl, ?_⟩) (by assumption) ?_
              rotate_left
              · intro W hSw; go_simp; try with_reducible rfl
              try simp only [Act.put, List.setIfInBounds_toArray, List.set_cons_zero, List.set_cons_succ]
              refine wpAnyH_take (i := 12) (oi := { dst := some 49, op := Op.move (Operand.tmp 6), type := 96, pos := "ref.go:139", after := #[{ on := 11, ground := Ground.guard }], guard := some (11, true) }) (v := ?_) rfl (by kernel_rfl) (by kernel_rfl) (by kernel_rfl) (fun _ _ _ h => h) (Or.inl ⟨by rfl, ?_⟩) (by assumption) ?_
              rotate_left
              · intro W hSw; go_simp; try with_reducible rfl
              try simp only [Act.put, List.setIfInBounds_toArray, List.set_cons_zero, List.set_cons_succ]
              refine wpAnyH_take (i := 13) (oi := { dst := some 50, op := Op.binOp BinOp.eql 96 (Operand.tmp 49) (Operand.const (Value.int IntKind.i64 2)) 96, type := 4, pos := "ref.go:139", after := #[{ on := 12, ground := Ground.data }, { on := 11, ground := Ground.guard }], guard := some (11, true) }) (v := ?_) rfl (by kernel_rfl) (by kernel_rfl) (by kernel_rfl) (fun _ _ _ h => h) (Or.inl ⟨by rfl, ?_⟩) (by assumption) ?_
              rotate_left
              · intro W hSw; go_simp; try with_reducible rfl
              try simp only [Act.put, List.setIfInBounds_toArray, List.set_cons_zero, List.set_cons_succ]
              refine wpAnyH_take (i := 14) (oi := { dst := some 51, op := Op.move (Operand.tmp 50), type := 4, pos := "ref.go:139", after := #[{ on := 13, ground := Ground.data }, { on := 11, ground := Ground.chain }, { on := 11, ground := Ground.guard }], guard := some (11, true) }) (v := ?_) rfl (by kernel_rfl) (by kernel_rfl) (by kernel_rfl) (fun _ _ _ h => h) (Or.inl ⟨by rfl, ?_⟩) (by assumption) ?_
              rotate_left
              · intro W hSw; go_simp; try with_reducible rfl
              try simp only [Act.put, List.setIfInBounds_toArray, List.set_cons_zero, List.set_cons_succ]
              refine wpAnyH_take (i := 15) (oi := { dst := some 52, op := Op.move (Operand.tmp 6), type := 96, pos := "ref.go:139", after := #[{ on := 14, ground := Ground.guard }], guard := some (14, false) }) (v := ?_) rfl (by kernel_rfl) (by kernel_rfl) (by kernel_rfl) (fun _ _ _ h => h) (Or.inl ⟨by rfl, ?_⟩) (by assumption) ?_
              rotate_left
              · intro W hSw; go_simp; try with_reducible rfl
              try simp only [Act.put, List.setIfInBounds_toArray, List.set_cons_zero, List.set_cons_succ]
              refine wpAnyH_take (i := 16) (oi := { dst := some 53, op := Op.binOp BinOp.eql 96 (Operand.tmp 52) (Operand.const (Value.int IntKind.i64 3)) 96, type := 4, pos := "ref.go:139", after := #[{ on := 15, ground := Ground.data }, { on := 14, ground := Ground.guard }], guard := some (14, false) }) (v := ?_) rfl (by kernel_rfl) (by kernel_rfl) (by kernel_rfl) (fun _ _ _ h => h) (Or.inl ⟨by rfl, ?_⟩) (by assumption) ?_
              rotate_left
              · intro W hSw; go_simp; try with_reducible rfl
              try simp only [Act.put, List.setIfInBounds_toArray, List.set_cons_zero, List.set_cons_succ]
              refine wpAnyH_take (i := 17) (oi := { dst := some 54, op := Op.pick (Operand.tmp 51) (Operand.const (Value.bool true)) (Operand.tmp 53), type := 4, pos := "ref.go:139", after := #[{ on := 14, ground := Ground.data }, { on := 16, ground := Ground.data }, { on := 11, ground := Ground.guard }], guard := some (11, true) }) (v := ?_) rfl (by kernel_rfl) (by kernel_rfl) (by kernel_rfl) (fun _ _ _ h => h) (Or.inl ⟨by rfl, ?_⟩) (by assumption) ?_
              rotate_left
              · intro W hSw; go_simp; try with_reducible rfl
              try simp only [Act.put, List.setIfInBounds_toArray, List.set_cons_zero, List.set_cons_succ]
              refine wpAnyH_take (i := 18) (oi := { dst := some 55, op := Op.move (Operand.tmp 54), type := 4, pos := "ref.go:139", after := #[{ on := 17, ground := Ground.data }, { on := 14, ground := Ground.chain }, { on := 11, ground := Ground.guard }], guard := some (11, true) }) (v := ?_) rfl (by kernel_rfl) (by kernel_rfl) (by kernel_rfl) (fun _ _ _ h => h) (Or.inl ⟨by rfl, ?_⟩) (by assumption) ?_
              rotate_left
              · intro W hSw; go_simp; try with_reducible rfl
              try simp only [Act.put, List.setIfInBounds_toArray, List.set_cons_zero, List.set_cons_succ]
              refine wpAnyH_take (i := 19) (oi := { dst := some 56, op := Op.move (Operand.tmp 6), type := 96, pos := "ref.go:139", after := #[{ on := 18, ground := Ground.guard }], guard := some (18, false) }) (v := ?_) rfl (by kernel_rfl) (by kernel_rfl) (by kernel_rfl) (fun _ _ _ h => h) (Or.inl ⟨by rfl, ?_⟩) (by assumption) ?_
              rotate_left
              · intro W hSw; go_simp; try with_reducible rfl
              try simp only [Act.put, List.setIfInBounds_toArray, List.set_cons_zero, List.set_cons_succ]
              refine wpAnyH_take (i := 20) (oi := { dst := some 57, op := Op.binOp BinOp.eql 96 (Operand.tmp 56) (Operand.const (Value.int IntKind.i64 4)) 96, type := 4, pos := "ref.go:139", after := #[{ on := 19, ground := Ground.data }, { on := 18, ground := Ground.guard }], guard := some (18, false) }) (v := ?_) rfl (by kernel_rfl) (by kernel_rfl) (by kernel_rfl) (fun _ _ _ h => h) (Or.inl ⟨by rfl, ?_⟩) (by assumption) ?_
              rotate_left
              · intro W hSw; go_simp; try with_reducible rfl
              try simp only [Act.put, List.setIfInBounds_toArray, List.set_cons_zero, List.set_cons_succ]
              refine wpAnyH_take (i := 21) (oi := { dst := some 58, op := Op.pick (Operand.tmp 55) (Operand.const (Value.bool true)) (Operand.tmp 57), type := 4, pos := "ref.go:139", after := #[{ on := 18, ground := Ground.data }, { on := 20, ground := Ground.data }, { on := 11, ground := Ground.guard }], guard := some (11, true) }) (v := ?_) rfl (by kernel_rfl) (by kernel_rfl) (by kernel_rfl) (fun _ _ _ h => h) (Or.inl ⟨by rfl, ?_⟩) (by assumption) ?_
              rotate_left
              · intro W hSw; go_simp; try with_reducible rfl
              try simp only [Act.put, List.setIfInBounds_toArray, List.set_cons_zero, List.set_cons_succ]
              refine wpAnyH_take (i := 22) (oi := { dst := some 59, op := Op.pick (Operand.tmp 48) (Operand.tmp 58) (Operand.const (Value.bool false)), type := 4, pos := "ref.go:139", after := #[{ on := 11, ground := Ground.data }, { on := 21, ground := Ground.data }, { on := 8, ground := Ground.guard }], guard := some (8, false) }) (v := ?_) rfl (by kernel_rfl) (by kernel_rfl) (by kernel_rfl) (fun _ _ _ h => h) (Or.inl ⟨by rfl, ?_⟩) (by assumption) ?_
              rotate_left
              · intro W hSw; go_simp; try with_reducible rfl
              try simp only [Act.put, List.setIfInBounds_toArray, List.set_cons_zero, List.set_cons_succ]
              refine wpAnyH_take (i := 23) (oi := { dst := some 60, op := Op.pick (Operand.tmp 45) (Operand.const (Value.bool true)) (Operand.tmp 59), type := 4, pos := "ref.go:139", after := #[{ on := 8, ground := Ground.data }, { on := 22, ground := Ground.data }], guard := none }) (v := ?_) rfl (by kernel_rfl) (by kernel_rfl) (by kernel_rfl) (fun _ _ _ h => h) (Or.inl ⟨by rfl, ?_⟩) (by assumption) ?_
              rotate_left
              · intro W hSw; go_simp; try with_reducible rfl
              try simp only [Act.put, List.setIfInBounds_toArray, List.set_cons_zero, List.set_cons_succ]
              refine wpAnyH_done (by kernel_rfl) ?_ _
              have H9 := Lib.hid (step_below BW.out hHeld)
              clear hHeld
              go_wp2_with fail
              try rw [Exit.noGoto_ret]
              go_ret
              exact ⟨ret_bool (HN.out (by rw [HOB.out, HK'.out]; rfl)).symm, step_below HB0.out H9.out⟩
            · have f2 : (ok' == 2) = false := by simpa using e2
              have f3 : (ok' == 3) = false := by simpa using e3
              have f4 : (ok' == 4) = false := by simpa using e4
              go_wp2_with fail
              refine wp_region_held_drew (S := (fun W => Below wr.heap.size wr W)) (by kernel_rfl) ((Below.refl _ _).drew) (fun hHeld => ?_)
              refine wpAnyH_take (i := 0) (oi := { dst := some 37, op := Op.load 53 (Operand.tmp 2), type := 53, pos := "ref.go:139", after := #[], guard := none }) (v := ?_) rfl (by kernel_rfl) (by kernel_rfl) (by kernel_rfl) (fun _ _ _ h => h) (Or.inl ⟨by rfl, ?_⟩) (by assumption) ?_
              rotate_left
              · intro W hSw; obtain ⟨⟨s0, s1, s2, s3, s4, s5, s6⟩, ⟨s7, s8, s9⟩, t0, t1, t2, t3, t4, t5, t6⟩ := HQ.out W hSw; go_simp; try with_reducible rfl
              try simp only [Act.put, List.setIfInBounds_toArray, List.set_cons_zero, List.set_cons_succ]
              refine wpAnyH_take (i := 1) (oi := { dst := some 38, op := Op.fieldAddr 86 (Operand.tmp 3) 0, type := 0, pos := "ref.go:139", after := #[], guard := none }) (v := ?_) rfl (by kernel_rfl) (by kernel_rfl) (by kernel_rfl) (fun _ _ _ h => h) (Or.inl ⟨by rfl, ?_⟩) (by assumption) ?_
              rotate_left
              · intro W hSw; go_simp; try with_reducible rfl
              try simp only [Act.put, List.setIfInBounds_toArray, List.set_cons_zero, List.set_cons_succ]
              refine wpAnyH_take (i := 2) (oi := { dst := some 39, op := Op.load 84 (Operand.tmp 38), type := 84, pos := "ref.go:139", after := #[{ on := 1, ground := Ground.data }], guard := none }) (v := ?_) rfl (by kernel_rfl) (by kernel_rfl) (by kernel_rfl) (fun _ _ _ h => h) (Or.inl ⟨by rfl, ?_⟩) (by assumption) ?_
              rotate_left
              · intro W hSw; obtain ⟨⟨s0, s1, s2, s3, s4, s5, s6⟩, ⟨s7, s8, s9⟩, t0, t1, t2, t3, t4, t5, t6⟩ := HQ.out W hSw; go_simp; try with_reducible rfl
              try simp only [Act.put, List.setIfInBounds_toArray, List.set_cons_zero, List.set_cons_succ]
              refine wpAnyH_take (i := 3) (oi := { dst := some 40, op := Op.move (Operand.tmp 5), type := 3, pos := "ref.go:139", after := #[], guard := none }) (v := ?_) rfl (by kernel_rfl) (by kernel_rfl) (by kernel_rfl) (fun _ _ _ h => h) (Or.inl ⟨by rfl, ?_⟩) (by assumption) ?_
              rotate_left
              · intro W hSw; go_simp; try with_reducible rfl
              try simp only [Act.put, List.setIfInBounds_toArray, List.set_cons_zero, List.set_cons_succ]
              refine wpAnyH_take (i := 4) (oi := { dst := some 41, op := Op.indexAddr 84 (Operand.tmp 39) (Operand.tmp 40), type := 0, pos := "ref.go:139", after := #[{ on := 2, ground := Ground.data }, { on := 3, ground := Ground.data }], guard := none }) (v := ?_) rfl (by kernel_rfl) (by kernel_rfl) (by kernel_rfl) (fun _ _ _ h => h) (Or.inl ⟨by rfl, ?_⟩) (by assumption) ?_
              rotate_left
              · intro W hSw; go_simp; try with_reducible rfl
              try simp only [Act.put, List.setIfInBounds_toArray, List.set_cons_zero, List.set_cons_succ]
              refine wpAnyH_take (i := 5) (oi := { dst := some 42, op := Op.load 98 (Operand.tmp 41), type := 98, pos := "ref.go:139", after := #[{ on := 4, ground := Ground.data }], guard := none }) (v := ?_) rfl (by kernel_rfl) (by kernel_rfl) (by kernel_rfl) (fun _ _ _ h => h) (Or.inl ⟨by rfl, ?_⟩) (by assumption) ?_
              rotate_left
              · intro W hSw; obtain ⟨⟨s0, s1, s2, s3, s4, s5, s6⟩, ⟨s7, s8, s9⟩, t0, t1, t2, t3, t4, t5, t6⟩ := HQ.out W hSw; go_simp; try with_reducible rfl
              try simp only [Act.put, List.setIfInBounds_toArray, List.set_cons_zero, List.set_cons_succ]
              refine wpAnyH_ready (rs := [6]) (by kernel_rfl) (by simp) ?_
              refine AllReadyH.cons (o := { dst := some 43, op := Op.call { callee := Callee.value (Operand.func 90), args := #[Operand.tmp 37, Operand.tmp 42], argTypes := #[53, 98] }, type := 4, pos := "ref.go:139", after := #[{ on := 0, ground := Ground.data }, { on := 5, ground := Ground.data }], guard := none }) rfl (fun K hK => ?_) AllReadyH.nil
              go_simp
              refine (HM.out _ hHeld).mono ?_; rintro r W5 ⟨rfl, B5⟩
              go_wp2_with fail
              refine hK.out _ _ (step_below hHeld B5) (fun hHeldn => ?_)
              clear hK K hHeld; have hHeld := hHeldn; clear hHeldn
              clear B5
              try simp only [Act.put, List.setIfInBounds_toArray, List.set_cons_zero, List.set_cons_succ]
              refine wpAnyH_take (i := 7) (oi := { dst := some 44, op := Op.unOp UnOp.not 4 (Operand.tmp 43), type := 4, pos := "ref.go:139", after := #[{ on := 6, ground := Ground.data }], guard := none }) (v := ?_) rfl (by kernel_rfl) (by kernel_rfl) (by kernel_rfl) (fun _ _ _ h => h) (Or.inl ⟨by rfl, ?_⟩) (by assumption) ?_
              rotate_left
              · intro W hSw; go_simp; try with_reducible rfl
              try simp only [Act.put, List.setIfInBounds_toArray, List.set_cons_zero, List.set_cons_succ]
              refine wpAnyH_take (i := 8) (oi := { dst := some 45, op := Op.move (Operand.tmp 44), type := 4, pos := "ref.go:139", after := #[{ on := 7, ground := Ground.data }, { on := 6, ground := Ground.chain }], guard := none }) (v := ?_) rfl (by kernel_rfl) (by kernel_rfl) (by kernel_rfl) (fun _ _ _ h => h) (Or.inl ⟨by rfl, ?_⟩) (by assumption) ?_
              rotate_left
              · intro W hSw; go_simp; try with_reducible rfl
              try simp only [Act.put, List.setIfInBounds_toArray, List.set_cons_zero, List.set_cons_succ]
              refine wpAnyH_take (i := 9) (oi := { dst := some 46, op := Op.fieldAddr 86 (Operand.tmp 3) 1, type := 0, pos := "ref.go:139", after := #[{ on := 8, ground := Ground.guard }], guard := some (8, false) }) (v := ?_) rfl (by kernel_rfl) (by kernel_rfl) (by kernel_rfl) (fun _ _ _ h => h) (Or.inl ⟨by rfl, ?_⟩) (by assumption) ?_
              rotate_left
              · intro W hSw; go_simp; try with_reducible rfl
              try simp only [Act.put, List.setIfInBounds_toArray, List.set_cons_zero, List.set_cons_succ]
              refine wpAnyH_take (i := 10) (oi := { dst := some 47, op := Op.load 4 (Operand.tmp 46), type := 4, pos := "ref.go:139", after := #[{ on := 9, ground := Ground.data }, { on := 8, ground := Ground.guard }], guard := some (8, false) }) (v := ?_) rfl (by kernel_rfl) (by kernel_rfl) (by kernel_rfl) (fun _ _ _ h => h) (Or.inl ⟨by rfl, ?_⟩) (by assumption) ?_
              rotate_left
              · intro W hSw; obtain ⟨⟨s0, s1, s2, s3, s4, s5, s6⟩, ⟨s7, s8, s9⟩, t0, t1, t2, t3, t4, t5, t6⟩ := HQ.out W hSw; go_simp; try with_reducible rfl
              try simp only [Act.put, List.setIfInBounds_toArray, List.set_cons_zero, List.set_cons_succ]
              refine wpAnyH_take (i := 11) (oi := { dst := some 48, op := Op.move (Operand.tmp 47), type := 4, pos := "ref.go:139", after := #[{ on := 10, ground := Ground.data }, { on := 8, ground := Ground.chain }, { on := 8, ground := Ground.guard }], guard := some (8, false) }) (v := ?_) rfl (by kernel_rfl) (by kernel_rfl) (by kernel_rfl) (fun _ _ _ h => h) (Or.inl ⟨by rfl, ?_⟩) (by assumption) ?_
              rotate_left
              · intro W hSw; go_simp; try with_reducible rfl
              try simp only [Act.put, List.setIfInBounds_toArray, List.set_cons_zero, List.set_cons_succ]
              refine wpAnyH_take (i := 12) (oi := { dst := some 49, op := Op.move (Operand.tmp 6), type := 96, pos := "ref.go:139", after := #[{ on := 11, ground := Ground.guard }], guard := some (11, true) }) (v := ?_) rfl (by kernel_rfl) (by kernel_rfl) (by kernel_rfl) (fun _ _ _ h => h) (Or.inl ⟨by rfl, ?_⟩) (by assumption) ?_
              rotate_left
              · intro W hSw; go_simp; try with_reducible rfl
              try simp only [Act.put, List.setIfInBounds_toArray, List.set_cons_zero, List.set_cons_succ]
              refine wpAnyH_take (i := 13) (oi := { dst := some 50, op := Op.binOp BinOp.eql 96 (Operand.tmp 49) (Operand.const (Value.int IntKind.i64 2)) 96, type := 4, pos := "ref.go:139", after := #[{ on := 12, ground := Ground.data }, { on := 11, ground := Ground.guard }], guard := some (11, true) }) (v := ?_) rfl (by kernel_rfl) (by kernel_rfl) (by kernel_rfl) (fun _ _ _ h => h) (Or.inl ⟨by rfl, ?_⟩) (by assumption) ?_
              rotate_left
              · intro W hSw; go_simp; try with_reducible rfl
              try simp only [Act.put, List.setIfInBounds_toArray, List.set_cons_zero, List.set_cons_succ]
              refine wpAnyH_take (i := 14) (oi := { dst := some 51, op := Op.move (Operand.tmp 50), type := 4, pos := "ref.go:139", after := #[{ on := 13, ground := Ground.data }, { on := 11, ground := Ground.chain }, { on := 11, ground := Ground.guard }], guard := some (11, true) }) (v := ?_) rfl (by kernel_rfl) (by kernel_rfl) (by kernel_rfl) (fun _ _ _ h => h) (Or.inl ⟨by rfl, ?_⟩) (by assumption) ?_
              rotate_left
              · intro W hSw; go_simp; try with_reducible rfl
              try simp only [Act.put, List.setIfInBounds_toArray, List.set_cons_zero, List.set_cons_succ]
              refine wpAnyH_take (i := 15) (oi := { dst := some 52, op := Op.move (Operand.tmp 6), type := 96, pos := "ref.go:139", after := #[{ on := 14, ground := Ground.guard }], guard := some (14, false) }) (v := ?_) rfl (by kernel_rfl) (by kernel_rfl) (by kernel_rfl) (fun _ _ _ h => h) (Or.inl ⟨by rfl, ?_⟩) (by assumption) ?_
              rotate_left
              · intro W hSw; go_simp; try with_reducible rfl
              try simp only [Act.put, List.setIfInBounds_toArray, List.set_cons_zero, List.set_cons_succ]
              refine wpAnyH_take (i := 16) (oi := { dst := some 53, op := Op.binOp BinOp.eql 96 (Operand.tmp 52) (Operand.const (Value.int IntKind.i64 3)) 96, type := 4, pos := "ref.go:139", after := #[{ on := 15, ground := Ground.data }, { on := 14, ground := Ground.guard }], guard := some (14, false) }) (v := ?_) rfl (by kernel_rfl) (by kernel_rfl) (by kernel_rfl) (fun _ _ _ h => h) (Or.inl ⟨by rfl, ?_⟩) (by assumption) ?_
              rotate_left
              · intro W hSw; go_simp; try with_reducible rfl
              try simp only [Act.put, List.setIfInBounds_toArray, List.set_cons_zero, List.set_cons_succ]
              refine wpAnyH_take (i := 17) (oi := { dst := some 54, op := Op.pick (Operand.tmp 51) (Operand.const (Value.bool true)) (Operand.tmp 53), type := 4, pos := "ref.go:139", after := #[{ on := 14, ground := Ground.data }, { on := 16, ground := Ground.data }, { on := 11, ground := Ground.guard }], guard := some (11, true) }) (v := ?_) rfl (by kernel_rfl) (by kernel_rfl) (by kernel_rfl) (fun _ _ _ h => h) (Or.inl ⟨by rfl, ?_⟩) (by assumption) ?_
              rotate_left
              · intro W hSw; go_simp; try with_reducible rfl
              try simp only [Act.put, List.setIfInBounds_toArray, List.set_cons_zero, List.set_cons_succ]
              refine wpAnyH_take (i := 18) (oi := { dst := some 55, op := Op.move (Operand.tmp 54), type := 4, pos := "ref.go:139", after := #[{ on := 17, ground := Ground.data }, { on := 14, ground := Ground.chain }, { on := 11, ground := Ground.guard }], guard := some (11, true) }) (v := ?_) rfl (by kernel_rfl) (by kernel_rfl) (by kernel_rfl) (fun _ _ _ h => h) (Or.inl ⟨by rfl, ?_⟩) (by assumption) ?_
              rotate_left
              · intro W hSw; go_simp; try with_reducible rfl
              try simp only [Act.put, List.setIfInBounds_toArray, List.set_cons_zero, List.set_cons_succ]
              refine wpAnyH_take (i := 19) (oi := { dst := some 56, op := Op.move (Operand.tmp 6), type := 96, pos := "ref.go:139", after := #[{ on := 18, ground := Ground.guard }], guard := some (18, false) }) (v := ?_) rfl (by kernel_rfl) (by kernel_rfl) (by kernel_rfl) (fun _ _ _ h => h) (Or.inl ⟨by rfl, ?_⟩) (by assumption) ?_
              rotate_left
              · intro W hSw; go_simp; try with_reducible rfl
              try simp only [Act.put, List.setIfInBounds_toArray, List.set_cons_zero, List.set_cons_succ]
              refine wpAnyH_take (i := 20) (oi := { dst := some 57, op := Op.binOp BinOp.eql 96 (Operand.tmp 56) (Operand.const (Value.int IntKind.i64 4)) 96, type := 4, pos := "ref.go:139", after := #[{ on := 19, ground := Ground.data }, { on := 18, ground := Ground.guard }], guard := some (18, false) }) (v := ?_) rfl (by kernel_rfl) (by kernel_rfl) (by kernel_rfl) (fun _ _ _ h => h) (Or.inl ⟨by rfl, ?_⟩) (by assumption) ?_
              rotate_left
              · intro W hSw; go_simp; try with_reducible rfl
              try simp only [Act.put, List.setIfInBounds_toArray, List.set_cons_zero, List.set_cons_succ]
              refine wpAnyH_take (i := 21) (oi := { dst := some 58, op := Op.pick (Operand.tmp 55) (Operand.const (Value.bool true)) (Operand.tmp 57), type := 4, pos := "ref.go:139", after := #[{ on := 18, ground := Ground.data }, { on := 20, ground := Ground.data }, { on := 11, ground := Ground.guard }], guard := some (11, true) }) (v := ?_) rfl (by kernel_rfl) (by kernel_rfl) (by kernel_rfl) (fun _ _ _ h => h) (Or.inl ⟨by rfl, ?_⟩) (by assumption) ?_
              rotate_left
              · intro W hSw; go_simp; try with_reducible rfl
              try simp only [Act.put, List.setIfInBounds_toArray, List.set_cons_zero, List.set_cons_succ]
              refine wpAnyH_take (i := 22) (oi := { dst := some 59, op := Op.pick (Operand.tmp 48) (Operand.tmp 58) (Operand.const (Value.bool false)), type := 4, pos := "ref.go:139", after := #[{ on := 11, ground := Ground.data }, { on := 21, ground := Ground.data }, { on := 8, ground := Ground.guard }], guard := some (8, false) }) (v := ?_) rfl (by kernel_rfl) (by kernel_rfl) (by kernel_rfl) (fun _ _ _ h => h) (Or.inl ⟨by rfl, ?_⟩) (by assumption) ?_
              rotate_left
              · intro W hSw; go_simp; try with_reducible rfl
              try simp only [Act.put, List.setIfInBounds_toArray, List.set_cons_zero, List.set_cons_succ]
              refine wpAnyH_take (i := 23) (oi := { dst := some 60, op := Op.pick (Operand.tmp 45) (Operand.const (Value.bool true)) (Operand.tmp 59), type := 4, pos := "ref.go:139", after := #[{ on := 8, ground := Ground.data }, { on := 22, ground := Ground.data }], guard := none }) (v := ?_) rfl (by kernel_rfl) (by kernel_rfl) (by kernel_rfl) (fun _ _ _ h => h) (Or.inl ⟨by rfl, ?_⟩) (by assumption) ?_
              rotate_left
              · intro W hSw; go_simp; try with_reducible rfl
              try simp only [Act.put, List.setIfInBounds_toArray, List.set_cons_zero, List.set_cons_succ]
              refine wpAnyH_done (by kernel_rfl) ?_ _
              have H9 := Lib.hid (step_below BR.out hHeld)
              clear hHeld
              go_wp2_with fail
              go_roundw
              case rel => exact ⟨k + 1, by have := HLT.out; omega, by go_num, Lib.hid (HST.out (by rw [HOB.out, HK'.out, f2, f3, f4]; rfl)), H9⟩
              case measure => simp [intOf]; have := HLT.out; omega
      · have hkl : ¬ (k : Int) < (x.on : Int) := by omega
        have HE := Lib.hid (HYES.out (by first | exact rfl | trivial) HON.out (by first | exact rfl | trivial) (fun q hq o ho => HALL.out q (by have := HOL.out; omega) o ho))
        go_wp2_with fail
        go_ret
        exact ⟨ret_bool HE.out.symm, step_below HB0.out BW.out⟩
end Go.Proofs.Ytkgcbhpgkcfkhaa

namespace Go.Proofs.Ytkgcbhpgkcfkhaa
open Go.ChangeShapes Go.WideShapes Go.ChangeAt Go.RowKit Go.Shelf
set_option linter.unusedVariables false
set_option linter.unusedSimpArgs false

/-- Transactions in a row, read. -/
def TxsR (W : World) (a : Option Addr) (L : List TxnV) : Prop := ∀ (k : Nat) (x : TxnV), L[k]? = some x → ∃ b off, a = some ⟨b, off, none⟩ ∧ (W.cell? ⟨b, off + k * 3, none⟩ = some (.slice x.oa x.on x.oc) ∧ W.cell? ⟨b, off + k * 3 + 1, none⟩ = some (.bool x.sn) ∧ W.cell? ⟨b, off + k * 3 + 2, none⟩ = some (.bool x.ab)) ∧ TxnAt W x
theorem TxsR.below {W W' : World} {a : Option Addr} {L : List TxnV} (h : TxsR W a L) (b : Below W.heap.size W W') : TxsR W' a L := fun k o ho => by
  obtain ⟨g, off, e, ⟨h0, h1, h2⟩, hc⟩ := h k o ho
  have f : ∀ {p v}, W.cell? p = some v → W'.cell? p = some v := fun h => (b.cell (World.block_lt_of_cell? W _ h)).trans h
  exact ⟨g, off, e, ⟨f h0, f h1, f h2⟩, hc.below b⟩
/-- A session. -/
structure SesV where
  a : Option Addr
  n : Nat
  c : Nat
  ts : List TxnV
/-- Sessions in a row, read. -/
def SesR (W : World) (a : Option Addr) (L : List SesV) : Prop := ∀ (k : Nat) (s : SesV), L[k]? = some s → ∃ b off, a = some ⟨b, off, none⟩ ∧ W.cell? ⟨b, off + k, none⟩ = some (.slice s.a s.n s.c) ∧ TxsR W s.a s.ts ∧ s.ts.length = s.n
theorem SesR.below {W W' : World} {a : Option Addr} {L : List SesV} (h : SesR W a L) (b : Below W.heap.size W W') : SesR W' a L := fun k o ho => by
  obtain ⟨g, off, e, h0, hc, hl⟩ := h k o ho
  exact ⟨g, off, e, (b.cell (World.block_lt_of_cell? W _ h0)).trans h0, hc.below b, hl⟩
/-- Bounds on what they hold. -/
def TxB (x : TxnV) : Prop := x.on ≤ 1000000 ∧ ∀ o ∈ x.ops, o.rn ≤ 1000000
def SeB (s : SesV) : Prop := s.n ≤ 1000000 ∧ ∀ x ∈ s.ts, TxB x
def sesB (j : Job) (s : SesV) : Bool := decide (s.n ≤ 64) && s.ts.all (mayT j)
def mayS (j : Job) (L : List SesV) (n : Nat) : Bool := okB j && ((n : Int) == j.w) && L.all (sesB j)
set_option maxRecDepth 100000 in
set_option maxHeartbeats 4000000 in
theorem maysess_law (j : Job) (la : Option Addr) (L : List SesV) (n lc : Nat) (hL : L.length = n) (hn : n ≤ 1000000) (hB : ∀ s ∈ L, SeB s) (w : World) (hj : JobAt w j) (hs : SesR w la L) :
    Calls Try.prog 49 #[.agg #[.int .i64 j.w, .int .i64 j.l, .int .i64 j.d, .int .i64 j.c, .int .i64 j.k, .int .i64 j.e, .slice j.a j.n j.cap], .slice la n lc] w fun r w' => r = .returned (.bool (mayS j L n)) ∧ Below w.heap.size w w' := by
  have hb0 : Below w.heap.size w (w.alloc (.cells #[.int .i64 j.w, .int .i64 j.l, .int .i64 j.d, .int .i64 j.c, .int .i64 j.k, .int .i64 j.e, .slice j.a j.n j.cap] 53)) := (Below.refl _ _).alloc (Nat.le_refl _) _
  have hbx := BoxC.new w #[.int .i64 j.w, .int .i64 j.l, .int .i64 j.d, .int .i64 j.c, .int .i64 j.k, .int .i64 j.e, .slice j.a j.n j.cap] 53
  have HCK := Lib.hid (show chkV j = if okB j then 0 else 2 from rfl)
  have hni : (n : Int) ≤ 1000000 := by omega
  have HLN := Lib.hid hL
  have HBB := Lib.hid hB
  obtain ⟨ans, hans⟩ : ∃ a, mayS j L n = a := ⟨_, rfl⟩
  obtain ⟨bs, hbs⟩ : ∃ b, (okB j && ((n : Int) == j.w)) = b := ⟨_, rfl⟩
  have HP := Lib.hid (show ans = (bs && L.all (sesB j)) by rw [← hans, ← hbs]; rfl)
  rw [hans]
  have HBS := Lib.hid hbs
  clear hans hbs hB hL
  go_enter Try.func49, Try.ntmps49
  go_upto_region 1 with (fail)
  generalize (w.alloc (.cells #[.int .i64 j.w, .int .i64 j.l, .int .i64 j.d, .int .i64 j.c, .int .i64 j.k, .int .i64 j.e, .slice j.a j.n j.cap] 53)) = W0 at *
  have FG := Lib.hid (fun W (b : Below W0.heap.size W0 W) => (by
    have x := hbx.below b
    exact ⟨x.cell 0, x.cell 1, x.cell 2, x.cell 3, x.cell 4, x.cell 5, x.cell 6⟩ : W.cell? ⟨w.heap.size, 0, none⟩ = some (.int .i64 j.w) ∧ W.cell? ⟨w.heap.size, 1, none⟩ = some (.int .i64 j.l) ∧ W.cell? ⟨w.heap.size, 2, none⟩ = some (.int .i64 j.d) ∧ W.cell? ⟨w.heap.size, 3, none⟩ = some (.int .i64 j.c) ∧ W.cell? ⟨w.heap.size, 4, none⟩ = some (.int .i64 j.k) ∧ W.cell? ⟨w.heap.size, 5, none⟩ = some (.int .i64 j.e) ∧ W.cell? ⟨w.heap.size, 6, none⟩ = some (.slice j.a j.n j.cap)))
  have FJ := Lib.hid (fun W (b : Below W0.heap.size W0 W) => (hj.below hb0).below b)
  have FS := Lib.hid (fun W (b : Below W0.heap.size W0 W) => (hs.below hb0).below b)
  have HB0 := Lib.hid hb0
  clear hb0 hbx hj hs
  go_cut [5] (fun v wx => v = .bool bs ∧ Hid (Below W0.heap.size W0 wx))
  case first =>
    obtain ⟨g0, g1, g2, g3, g4, g5, g6⟩ := FG.out _ (Below.refl _ _)
    go_wp2_with fail
    refine (check_law j W0 (FJ.out _ (Below.refl _ _))).mono ?_; rintro r w3 ⟨rfl, B3⟩
    have HBW := Lib.hid B3
    rw [HCK.out]
    clear B3 g0 g1 g2 g3 g4 g5 g6
    obtain ⟨g0, g1, g2, g3, g4, g5, g6⟩ := FG.out _ HBW.out
    obtain ⟨ok, hok⟩ : ∃ x, okB j = x := ⟨_, rfl⟩
    rw [hok] at HBS ⊢
    clear hok
    cases ok
    all_goals
      simp only [Bool.false_eq_true, ↓reduceIte]
      go_wp2_with fail
      go_meet
      exact ⟨by rw [← HBS.out]; rfl, HBW⟩
  case rest =>
    obtain ⟨rfl, HBW⟩ := hcut
    clear HBS
    obtain ⟨w3, hw3⟩ : ∃ W, W = wc := ⟨_, rfl⟩
    rw [← hw3] at HBW ⊢
    clear hw3
    go_wp2_with fail
    go_loopw [5, 22] (fun v i wr => ∃ k : Nat, k ≤ n ∧ i = .int .i64 (k : Int) ∧ v = .bool (bs && (L.take k).all (sesB j)) ∧ Hid (Below w3.heap.size w3 wr)) (fun _ i _ => n - (intOf i).toNat)
    case atStart => exact ⟨0, by omega, rfl, by simp, Lib.hid (Below.refl _ _)⟩
    case round =>
      obtain ⟨k, hk, rfl, rfl, BR⟩ := hrel
      obtain ⟨bk, hbk⟩ : ∃ b, (bs && (L.take k).all (sesB j)) = b := ⟨_, rfl⟩
      rw [hbk]
      by_cases hlt : k < n
      · have hkl : (k : Int) < (n : Int) := by omega
        obtain ⟨s, ho⟩ : ∃ o, L[k]? = some o := ⟨_, List.getElem?_eq_getElem (by rw [HLN.out]; exact hlt)⟩
        have HN := Lib.hid (show (bs && (L.take (k + 1)).all (sesB j)) = (bk && sesB j s) by rw [all_take _ _ ho, ← Bool.and_assoc, hbk])
        obtain ⟨hsn, hsb⟩ := HBB.out s (List.mem_of_getElem? ho)
        obtain ⟨b1, o1, ea, d0, hts, htl⟩ := (FS.out _ (step_below HBW.out BR.out)) k s ho
        have HTL := Lib.hid htl
        have HSB := Lib.hid hsb
        have HTS := Lib.hid (fun W (b : Below wr.heap.size wr W) => hts.below b)
        have HLT := Lib.hid hlt
        have hsi : (s.n : Int) ≤ 1000000 := by omega
        clear hbk ho hlt hts htl hsb
        subst ea
        obtain ⟨c0, hc0⟩ : ∃ b, (bk && decide (s.n ≤ 64)) = b := ⟨_, rfl⟩
        have HFIN := Lib.hid (show (bk && sesB j s) = (c0 && s.ts.all (mayT j)) by rw [← hc0, sesB, Bool.and_assoc])
        obtain ⟨W1, hW1⟩ : ∃ W, W = wr := ⟨_, rfl⟩
        rw [← hW1] at BR HTS d0 ⊢
        clear hW1
        have hcase : (bk = true ∧ s.n ≤ 64 ∧ c0 = true) ∨ (bk = true ∧ ¬ s.n ≤ 64 ∧ c0 = false) ∨ (bk = false ∧ c0 = false) := by
          cases bk
          · exact .inr (.inr ⟨rfl, by rw [← hc0]; rfl⟩)
          · by_cases h : s.n ≤ 64
            · exact .inl ⟨rfl, h, by rw [← hc0]; simpa using h⟩
            · exact .inr (.inl ⟨rfl, h, by rw [← hc0]; simpa using h⟩)
        rcases hcase with ⟨rfl, h64, rfl⟩ | ⟨rfl, h64, rfl⟩ | ⟨rfl, rfl⟩
        · have h64i : (s.n : Int) ≤ 64 := by omega
          go_wp2_with fail
          go_loopw [5, 34] (fun v i wq => ∃ q : Nat, q ≤ s.n ∧ i = .int .i64 (q : Int) ∧ v = .bool (true && (s.ts.take q).all (mayT j)) ∧ Hid (Below W1.heap.size W1 wq)) (fun _ i _ => s.n - (intOf i).toNat)
          case atStart => exact ⟨0, by omega, rfl, by simp, Lib.hid (Below.refl _ _)⟩
          case round =>
            obtain ⟨q, hq, rfl, rfl, BQ⟩ := hrel
            have BW := Lib.hid (step_below HBW.out (step_below BR.out BQ.out))
            obtain ⟨bq, hbq⟩ : ∃ b, (true && (s.ts.take q).all (mayT j)) = b := ⟨_, rfl⟩
            rw [hbq]
            by_cases hqt : q < s.n
            · have hqi : (q : Int) < (s.n : Int) := by omega
              obtain ⟨x, hx⟩ : ∃ o, s.ts[q]? = some o := ⟨_, List.getElem?_eq_getElem (by rw [HTL.out]; exact hqt)⟩
              have HNQ := Lib.hid (show (true && (s.ts.take (q + 1)).all (mayT j)) = (bq && mayT j x) by rw [all_take _ _ hx, ← Bool.and_assoc, hbq])
              have hxb := HSB.out x (List.mem_of_getElem? hx)
              obtain ⟨b2, o2, e2, ⟨y0, y1, y2⟩, hxa⟩ := HTS.out _ BQ.out q x hx
              have HXA := Lib.hid (fun W (b : Below wr.heap.size wr W) => hxa.below b)
              have HEA := Lib.hid e2
              rw [e2]
              have B86 : Below wr.heap.size wr (wr.alloc (.cells #[.slice x.oa x.on x.oc, .bool x.sn, .bool x.ab] 86)) := (Below.refl _ _).alloc (Nat.le_refl _) _
              have H86 := Lib.hid B86
              have H87 := Lib.hid (step_below BQ.out B86)
              have HQT := Lib.hid hqt
              obtain ⟨mt, hmt⟩ : ∃ b, mayT j x = b := ⟨_, rfl⟩
              have HM := Lib.hid (fun W (b : Below wr.heap.size wr W) => (by have h := maytxn_law j x hxb.1 hxb.2 W (FJ.out _ (step_below BW.out b)) (HXA.out W b); rwa [hmt] at h : Calls Try.prog 51 #[.agg #[.int .i64 j.w, .int .i64 j.l, .int .i64 j.d, .int .i64 j.c, .int .i64 j.k, .int .i64 j.e, .slice j.a j.n j.cap], .agg #[.slice x.oa x.on x.oc, .bool x.sn, .bool x.ab]] W fun r w' => r = .returned (.bool mt) ∧ Below W.heap.size W w'))
              rw [hmt] at HNQ
              clear hbq hx hxb e2 hxa B86 hqt hmt
              cases bq
              · go_wp2_with fail
                go_roundw
                case rel => exact ⟨q + 1, by have := HQT.out; omega, by go_num, by rw [HNQ.out]; rfl, H87⟩
                case measure => simp [intOf]; have := HQT.out; omega
              · obtain ⟨g0, g1, g2, g3, g4, g5, g6⟩ := FG.out _ (step_below BW.out H86.out)
                go_wp2_with fail
                refine (HM.out _ H86.out).mono ?_; rintro r w5 ⟨rfl, B5⟩
                have H5 := Lib.hid (step_below H87.out B5)
                clear B5 g0 g1 g2 g3 g4 g5 g6
                go_wp2_with fail
                go_roundw
                case rel => exact ⟨q + 1, by have := HQT.out; omega, by go_num, by rw [HNQ.out]; rfl, H5⟩
                case measure => simp [intOf]; have := HQT.out; omega
            · have hqi : ¬ (q : Int) < (s.n : Int) := by omega
              have HE := Lib.hid (show (true && sesB j s) = bq by rw [HFIN.out, ← hbq, List.take_of_length_le (by rw [HTL.out]; omega)])
              have H9 := Lib.hid (step_below BR.out BQ.out)
              clear hbq
              go_wp2_with fail
              go_roundw
              case rel => exact ⟨k + 1, by have := HLT.out; omega, by go_num, by rw [HN.out, HE.out], H9⟩
              case measure => simp [intOf]; have := HLT.out; omega
        · have h64i : ¬ (s.n : Int) ≤ 64 := by omega
          go_wp2_with fail
          go_loopw [5, 34] (fun v i wq => ∃ q : Nat, q ≤ s.n ∧ i = .int .i64 (q : Int) ∧ v = .bool (false && (s.ts.take q).all (mayT j)) ∧ Hid (Below W1.heap.size W1 wq)) (fun _ i _ => s.n - (intOf i).toNat)
          case atStart => exact ⟨0, by omega, rfl, by simp, Lib.hid (Below.refl _ _)⟩
          case round =>
            obtain ⟨q, hq, rfl, rfl, BQ⟩ := hrel
            have BW := Lib.hid (step_below HBW.out (step_below BR.out BQ.out))
            obtain ⟨bq, hbq⟩ : ∃ b, (false && (s.ts.take q).all (mayT j)) = b := ⟨_, rfl⟩
            rw [hbq]
            by_cases hqt : q < s.n
            · have hqi : (q : Int) < (s.n : Int) := by omega
              obtain ⟨x, hx⟩ : ∃ o, s.ts[q]? = some o := ⟨_, List.getElem?_eq_getElem (by rw [HTL.out]; exact hqt)⟩
              have HNQ := Lib.hid (show (false && (s.ts.take (q + 1)).all (mayT j)) = (bq && mayT j x) by rw [all_take _ _ hx, ← Bool.and_assoc, hbq])
              have hxb := HSB.out x (List.mem_of_getElem? hx)
              obtain ⟨b2, o2, e2, ⟨y0, y1, y2⟩, hxa⟩ := HTS.out _ BQ.out q x hx
              have HXA := Lib.hid (fun W (b : Below wr.heap.size wr W) => hxa.below b)
              have HEA := Lib.hid e2
              rw [e2]
              have B86 : Below wr.heap.size wr (wr.alloc (.cells #[.slice x.oa x.on x.oc, .bool x.sn, .bool x.ab] 86)) := (Below.refl _ _).alloc (Nat.le_refl _) _
              have H86 := Lib.hid B86
              have H87 := Lib.hid (step_below BQ.out B86)
              have HQT := Lib.hid hqt
              obtain ⟨mt, hmt⟩ : ∃ b, mayT j x = b := ⟨_, rfl⟩
              have HM := Lib.hid (fun W (b : Below wr.heap.size wr W) => (by have h := maytxn_law j x hxb.1 hxb.2 W (FJ.out _ (step_below BW.out b)) (HXA.out W b); rwa [hmt] at h : Calls Try.prog 51 #[.agg #[.int .i64 j.w, .int .i64 j.l, .int .i64 j.d, .int .i64 j.c, .int .i64 j.k, .int .i64 j.e, .slice j.a j.n j.cap], .agg #[.slice x.oa x.on x.oc, .bool x.sn, .bool x.ab]] W fun r w' => r = .returned (.bool mt) ∧ Below W.heap.size W w'))
              rw [hmt] at HNQ
              clear hbq hx hxb e2 hxa B86 hqt hmt
              cases bq
              · go_wp2_with fail
                go_roundw
                case rel => exact ⟨q + 1, by have := HQT.out; omega, by go_num, by rw [HNQ.out]; rfl, H87⟩
                case measure => simp [intOf]; have := HQT.out; omega
              · obtain ⟨g0, g1, g2, g3, g4, g5, g6⟩ := FG.out _ (step_below BW.out H86.out)
                go_wp2_with fail
                refine (HM.out _ H86.out).mono ?_; rintro r w5 ⟨rfl, B5⟩
                have H5 := Lib.hid (step_below H87.out B5)
                clear B5 g0 g1 g2 g3 g4 g5 g6
                go_wp2_with fail
                go_roundw
                case rel => exact ⟨q + 1, by have := HQT.out; omega, by go_num, by rw [HNQ.out]; rfl, H5⟩
                case measure => simp [intOf]; have := HQT.out; omega
            · have hqi : ¬ (q : Int) < (s.n : Int) := by omega
              have HE := Lib.hid (show (true && sesB j s) = bq by rw [HFIN.out, ← hbq, List.take_of_length_le (by rw [HTL.out]; omega)])
              have H9 := Lib.hid (step_below BR.out BQ.out)
              clear hbq
              go_wp2_with fail
              go_roundw
              case rel => exact ⟨k + 1, by have := HLT.out; omega, by go_num, by rw [HN.out, HE.out], H9⟩
              case measure => simp [intOf]; have := HLT.out; omega
        · skip
          go_wp2_with fail
          go_loopw [5, 34] (fun v i wq => ∃ q : Nat, q ≤ s.n ∧ i = .int .i64 (q : Int) ∧ v = .bool (false && (s.ts.take q).all (mayT j)) ∧ Hid (Below W1.heap.size W1 wq)) (fun _ i _ => s.n - (intOf i).toNat)
          case atStart => exact ⟨0, by omega, rfl, by simp, Lib.hid (Below.refl _ _)⟩
          case round =>
            obtain ⟨q, hq, rfl, rfl, BQ⟩ := hrel
            have BW := Lib.hid (step_below HBW.out (step_below BR.out BQ.out))
            obtain ⟨bq, hbq⟩ : ∃ b, (false && (s.ts.take q).all (mayT j)) = b := ⟨_, rfl⟩
            rw [hbq]
            by_cases hqt : q < s.n
            · have hqi : (q : Int) < (s.n : Int) := by omega
              obtain ⟨x, hx⟩ : ∃ o, s.ts[q]? = some o := ⟨_, List.getElem?_eq_getElem (by rw [HTL.out]; exact hqt)⟩
              have HNQ := Lib.hid (show (false && (s.ts.take (q + 1)).all (mayT j)) = (bq && mayT j x) by rw [all_take _ _ hx, ← Bool.and_assoc, hbq])
              have hxb := HSB.out x (List.mem_of_getElem? hx)
              obtain ⟨b2, o2, e2, ⟨y0, y1, y2⟩, hxa⟩ := HTS.out _ BQ.out q x hx
              have HXA := Lib.hid (fun W (b : Below wr.heap.size wr W) => hxa.below b)
              have HEA := Lib.hid e2
              rw [e2]
              have B86 : Below wr.heap.size wr (wr.alloc (.cells #[.slice x.oa x.on x.oc, .bool x.sn, .bool x.ab] 86)) := (Below.refl _ _).alloc (Nat.le_refl _) _
              have H86 := Lib.hid B86
              have H87 := Lib.hid (step_below BQ.out B86)
              have HQT := Lib.hid hqt
              obtain ⟨mt, hmt⟩ : ∃ b, mayT j x = b := ⟨_, rfl⟩
              have HM := Lib.hid (fun W (b : Below wr.heap.size wr W) => (by have h := maytxn_law j x hxb.1 hxb.2 W (FJ.out _ (step_below BW.out b)) (HXA.out W b); rwa [hmt] at h : Calls Try.prog 51 #[.agg #[.int .i64 j.w, .int .i64 j.l, .int .i64 j.d, .int .i64 j.c, .int .i64 j.k, .int .i64 j.e, .slice j.a j.n j.cap], .agg #[.slice x.oa x.on x.oc, .bool x.sn, .bool x.ab]] W fun r w' => r = .returned (.bool mt) ∧ Below W.heap.size W w'))
              rw [hmt] at HNQ
              clear hbq hx hxb e2 hxa B86 hqt hmt
              cases bq
              · go_wp2_with fail
                go_roundw
                case rel => exact ⟨q + 1, by have := HQT.out; omega, by go_num, by rw [HNQ.out]; rfl, H87⟩
                case measure => simp [intOf]; have := HQT.out; omega
              · obtain ⟨g0, g1, g2, g3, g4, g5, g6⟩ := FG.out _ (step_below BW.out H86.out)
                go_wp2_with fail
                refine (HM.out _ H86.out).mono ?_; rintro r w5 ⟨rfl, B5⟩
                have H5 := Lib.hid (step_below H87.out B5)
                clear B5 g0 g1 g2 g3 g4 g5 g6
                go_wp2_with fail
                go_roundw
                case rel => exact ⟨q + 1, by have := HQT.out; omega, by go_num, by rw [HNQ.out]; rfl, H5⟩
                case measure => simp [intOf]; have := HQT.out; omega
            · have hqi : ¬ (q : Int) < (s.n : Int) := by omega
              have HE := Lib.hid (show (false && sesB j s) = bq by rw [HFIN.out, ← hbq, List.take_of_length_le (by rw [HTL.out]; omega)])
              have H9 := Lib.hid (step_below BR.out BQ.out)
              clear hbq
              go_wp2_with fail
              go_roundw
              case rel => exact ⟨k + 1, by have := HLT.out; omega, by go_num, by rw [HN.out, HE.out], H9⟩
              case measure => simp [intOf]; have := HLT.out; omega
      · have hkl : ¬ (k : Int) < (n : Int) := by omega
        have HE := Lib.hid (show ans = bk by rw [HP.out, ← hbk, List.take_of_length_le (by rw [HLN.out]; omega)])
        clear hbk
        go_wp2_with fail
        go_ret
        exact ⟨ret_bool HE.out.symm, step_below HB0.out (step_below HBW.out BR.out)⟩
end Go.Proofs.Ytkgcbhpgkcfkhaa
