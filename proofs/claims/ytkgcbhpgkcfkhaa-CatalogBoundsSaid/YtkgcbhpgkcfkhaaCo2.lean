/- Which calls may be, by the program: a contract. -/
import Derived.Test.YtkgcbhpgkcfkhaaCo1
namespace Go.Proofs.Ytkgcbhpgkcfkhaa
open Go.ChangeShapes Go.WideShapes Go.ChangeAt Go.RowKit Go.Shelf
set_option linter.unusedVariables false
set_option linter.unusedSimpArgs false

/-- Two boxes, one behind the other. -/
theorem boxes2 (w : World) (A B : Array Value) (a b : TypeId) : Below w.heap.size w ((w.alloc (.cells A a)).alloc (.cells B b)) ∧ ∀ W, Below ((w.alloc (.cells A a)).alloc (.cells B b)).heap.size ((w.alloc (.cells A a)).alloc (.cells B b)) W → BoxC W w.heap.size A a ∧ BoxC W (w.heap.size + 1) B b := by
  refine ⟨((Below.refl _ _).alloc (Nat.le_refl _) _).alloc (by simp) _, fun W h => ?_⟩
  have e1 := BoxC.new w A a
  have e2 := BoxC.new (w.alloc (.cells A a)) B b
  have b2 : Below (w.alloc (.cells A a)).heap.size (w.alloc (.cells A a)) ((w.alloc (.cells A a)).alloc (.cells B b)) := (Below.refl _ _).alloc (Nat.le_refl _) _
  refine ⟨(e1.below b2).below h, ?_⟩
  have := e2.below h
  simpa using this
def idxV (j : Job) (o : CallV) : Int := if kf o.k 4 then j.T.getD o.t.toNat 0 else 1
def mostV (o : CallV) : Nat := if kf o.k 4 then 24 else 32
def endB (o : CallV) : Bool := if kf o.k 3 then decide (o.kn ≤ mostV o) && decide (o.tn ≤ mostV o) && inB o.m 1 64 else mayK o.kn && (o.tn == 0) && (o.m == 0)
/-- May it be a call? As the program asks. -/
def pO (j : Job) (o : CallV) : Bool := okB j && kf o.k 0 && inB o.t 0 ((j.n : Int) - 1) && inB o.i 0 (idxV j o - 1) && (kf o.k 2 == decide (0 < o.rn)) && (!kf o.k 2 || mayR o.R) && endB o
set_option maxRecDepth 100000 in
set_option maxHeartbeats 4000000 in
theorem mayop_law (j : Job) (o : CallV) (hrn : o.rn ≤ 1000000) (w : World) (hj : JobAt w j) (ho : CallAt w o) :
    Calls Try.prog 56 #[.agg #[.int .i64 j.w, .int .i64 j.l, .int .i64 j.d, .int .i64 j.c, .int .i64 j.k, .int .i64 j.e, .slice j.a j.n j.cap], .agg #[.int .i64 o.k, .int .i64 o.t, .int .i64 o.i, .slice o.ka o.kn o.kc, .slice o.ta o.tn o.tc, .int .i64 o.m, .slice o.ra o.rn o.rc]] w fun r w' => r = .returned (.bool (pO j o)) ∧ Below w.heap.size w w' := by
  obtain ⟨k, t, i, ka, kn, kc, K, ta, tn, tc, TT, m, ra, rn, rc, R⟩ := o
  have hp : pO j ⟨k, t, i, ka, kn, kc, K, ta, tn, tc, TT, m, ra, rn, rc, R⟩ = (okB j && kf k 0 && inB t 0 ((j.n : Int) - 1) && inB i 0 ((if kf k 4 then j.T.getD t.toNat 0 else 1) - 1) && (kf k 2 == decide (0 < rn)) && (!kf k 2 || mayR R) && (if kf k 3 then decide (kn ≤ (if kf k 4 then 24 else 32)) && decide (tn ≤ (if kf k 4 then 24 else 32)) && inB m 1 64 else mayK kn && (tn == 0) && (m == 0))) := rfl
  generalize pO j _ = ans at hp ⊢
  simp only at hrn ho ⊢
  obtain ⟨hb0, hbx⟩ := boxes2 w #[.int .i64 j.w, .int .i64 j.l, .int .i64 j.d, .int .i64 j.c, .int .i64 j.k, .int .i64 j.e, .slice j.a j.n j.cap] #[.int .i64 k, .int .i64 t, .int .i64 i, .slice ka kn kc, .slice ta tn tc, .int .i64 m, .slice ra rn rc] 53 98
  have hri : (rn : Int) ≤ 1000000 := by omega
  have HKL := Lib.hid (fun W => kind_law k t i m ka ta ra kn kc tn tc rn rc W)
  have HCK := Lib.hid (show chkV j = if okB j then 0 else 2 from rfl)
  have hln := hj.len
  have hle := hj.le
  have hlei : (j.n : Int) ≤ 1000000 := by omega
  have HLN := Lib.hid hln
  clear hln hle
  go_enter Try.func56, Try.ntmps56
  go_wp2_with fail
  generalize ((w.alloc (.cells #[.int .i64 j.w, .int .i64 j.l, .int .i64 j.d, .int .i64 j.c, .int .i64 j.k, .int .i64 j.e, .slice j.a j.n j.cap] 53)).alloc (.cells #[.int .i64 k, .int .i64 t, .int .i64 i, .slice ka kn kc, .slice ta tn tc, .int .i64 m, .slice ra rn rc] 98)) = W0 at *
  have FG := Lib.hid (fun W (b : Below W0.heap.size W0 W) => (by
    obtain ⟨x, y⟩ := hbx W b
    exact ⟨x.cell 0, x.cell 1, x.cell 2, x.cell 3, x.cell 4, x.cell 5, x.cell 6, y.cell 0, y.cell 1, y.cell 2, y.cell 3, y.cell 4, y.cell 5, y.cell 6⟩ : W.cell? ⟨w.heap.size, 0, none⟩ = some (.int .i64 j.w) ∧ W.cell? ⟨w.heap.size, 1, none⟩ = some (.int .i64 j.l) ∧ W.cell? ⟨w.heap.size, 2, none⟩ = some (.int .i64 j.d) ∧ W.cell? ⟨w.heap.size, 3, none⟩ = some (.int .i64 j.c) ∧ W.cell? ⟨w.heap.size, 4, none⟩ = some (.int .i64 j.k) ∧ W.cell? ⟨w.heap.size, 5, none⟩ = some (.int .i64 j.e) ∧ W.cell? ⟨w.heap.size, 6, none⟩ = some (.slice j.a j.n j.cap) ∧ W.cell? ⟨w.heap.size + 1, 0, none⟩ = some (.int .i64 k) ∧ W.cell? ⟨w.heap.size + 1, 1, none⟩ = some (.int .i64 t) ∧ W.cell? ⟨w.heap.size + 1, 2, none⟩ = some (.int .i64 i) ∧ W.cell? ⟨w.heap.size + 1, 3, none⟩ = some (.slice ka kn kc) ∧ W.cell? ⟨w.heap.size + 1, 4, none⟩ = some (.slice ta tn tc) ∧ W.cell? ⟨w.heap.size + 1, 5, none⟩ = some (.int .i64 m) ∧ W.cell? ⟨w.heap.size + 1, 6, none⟩ = some (.slice ra rn rc)))
  have FJ := Lib.hid (fun W (b : Below W0.heap.size W0 W) => (hj.below hb0).below b)
  have FO := Lib.hid (fun W (b : Below W0.heap.size W0 W) => (ho.below hb0).below b)
  have HB0 := Lib.hid hb0
  have HP := Lib.hid hp
  clear hb0 hbx hj ho hp
  generalize kf k 0 = a at *
  generalize kf k 1 = b at *
  generalize kf k 2 = c at *
  generalize kf k 3 = d at *
  generalize kf k 4 = e at *
  generalize kf k 5 = f at *
  refine (HKL.out _).mono ?_; rintro r w2 ⟨rfl, B2⟩
  unfold kN
  have HB2 := Lib.hid B2
  have HB3 := Lib.hid (step_below B2 ((Below.refl w2.heap.size w2).alloc (Nat.le_refl _) (.cells #[.bool a, .bool b, .bool c, .bool d, .bool e, .bool f] 133)))
  have hbk := BoxC.new w2 #[.bool a, .bool b, .bool c, .bool d, .bool e, .bool f] 133
  obtain ⟨g0, g1, g2, g3, g4, g5, g6, o0, o1, o2, o3, o4, o5, o6⟩ := FG.out _ HB3.out
  clear B2
  go_wp2_with fail
  generalize w2.alloc (.cells #[.bool a, .bool b, .bool c, .bool d, .bool e, .bool f] 133) = W3 at *
  have HBK := Lib.hid hbk
  clear hbk g0 g1 g2 g3 g4 g5 g6 o0 o1 o2 o3 o4 o5 o6
  refine (check_law j W3 (FJ.out _ HB3.out)).mono ?_; rintro r w3 ⟨rfl, B3⟩
  have HBW := Lib.hid (step_below HB3.out B3)
  have FK := Lib.hid (fun W (b : Below w3.heap.size w3 W) => (HBK.out.below B3).below b)
  rw [HCK.out]
  clear B3 HB3 HBK
  obtain ⟨ok, hok⟩ : ∃ x, okB j = x := ⟨_, rfl⟩
  rw [hok] at HP ⊢
  have HOK := Lib.hid hok
  clear hok
  obtain ⟨g0, g1, g2, g3, g4, g5, g6, o0, o1, o2, o3, o4, o5, o6⟩ := FG.out _ HBW.out
  have k0 := (FK.out _ (Below.refl _ _)).cell 0
  have k2 := (FK.out _ (Below.refl _ _)).cell 2
  have k3 := (FK.out _ (Below.refl _ _)).cell 3
  have k4 := (FK.out _ (Below.refl _ _)).cell 4
  simp only [List.getElem?_toArray, List.getElem?_cons_zero, List.getElem?_cons_succ] at k0 k2 k3 k4
  cases ok
  · go_wp2_with fail
    go_ret
    exact ⟨ret_bool (by rw [HP.out]; rfl), step_below HB0.out HBW.out⟩
  simp only [↓reduceIte]
  cases a
  · go_wp2_with fail
    go_ret
    exact ⟨ret_bool (by rw [HP.out]; rfl), step_below HB0.out HBW.out⟩
  go_wp2_with fail
  refine (within_law _ _ _ _).mono ?_; rintro r w9 ⟨rfl, rfl⟩
  obtain ⟨bt, hbt⟩ : ∃ x, inB t 0 ((j.n : Int) - 1) = x := ⟨_, rfl⟩
  rw [hbt] at HP ⊢
  cases bt
  · clear hbt
    go_wp2_with fail
    go_ret
    exact ⟨ret_bool (by rw [HP.out]; rfl), step_below HB0.out HBW.out⟩
  obtain ⟨tk, rfl, htk⟩ : ∃ tk : Nat, t = (tk : Int) ∧ tk < j.n := by
    unfold inB at hbt
    have := of_decide_eq_true hbt
    exact ⟨t.toNat, by omega, by omega⟩
  obtain ⟨b1, o1', ea, dd⟩ := (FJ.out _ HBW.out).ls.get tk (by rw [HLN.out]; exact htk)
  obtain ⟨x, hx⟩ : ∃ x, j.T.getD tk 0 = x := ⟨_, rfl⟩
  rw [hx] at dd
  rw [Int.toNat_natCast, hx] at HP
  have hxb : 0 ≤ x ∧ x ≤ 2 := by rw [← hx]; exact okB_T HOK.out tk (by rw [HLN.out]; exact htk)
  have hx0 : 0 ≤ x := hxb.1
  have hx2 : x ≤ 2 := hxb.2
  have htki : (tk : Int) < (j.n : Int) := by omega
  have HEA := Lib.hid ea
  have DD := Lib.hid dd
  clear hbt hx hxb ea dd
  cases e
  · go_wp2_with fail
    refine (within_law _ _ _ _).mono ?_; rintro r w9 ⟨rfl, rfl⟩
    simp only [Bool.false_eq_true, if_false, if_true, ↓reduceIte] at HP
    obtain ⟨bi, hbi⟩ : ∃ z, inB i 0 (1 - 1) = z := ⟨_, rfl⟩
    simp only [Int.sub_self] at hbi HP ⊢
    rw [hbi] at HP ⊢
    clear hbi
    cases bi
    · go_wp2_with fail
      go_ret
      exact ⟨ret_bool (by rw [HP.out]; rfl), step_below HB0.out HBW.out⟩
    by_cases hr0 : 0 < rn
    · have hr0i : (0 : Int) < (rn : Int) := by omega
      have hrd : decide (0 < rn) = true := decide_eq_true hr0
      rw [hrd] at HP
      clear hrd
      cases c
      · go_wp2_with fail
        go_ret
        exact ⟨ret_bool (by rw [HP.out]; rfl), step_below HB0.out HBW.out⟩
      · go_wp2_with fail
        refine (mayr_law ra R rn rc (FO.out _ HBW.out).rl hrn _ ((FO.out _ HBW.out).rs.below (Below.refl _ _))).mono ?_; rintro r w5 ⟨rfl, B5⟩
        have HB5 := Lib.hid (step_below HBW.out (step_below (Below.refl _ _) B5))
        have FK5 := (FK.out _ (step_below (Below.refl _ _) B5))
        clear B5 g0 g1 g2 g3 g4 g5 g6 o0 o1 o2 o3 o4 o5 o6 k0 k2 k3 k4
        obtain ⟨g0, g1, g2, g3, g4, g5, g6, o0, o1, o2, o3, o4, o5, o6⟩ := FG.out _ HB5.out
        have k3 := FK5.cell 3
        simp only [List.getElem?_toArray, List.getElem?_cons_zero, List.getElem?_cons_succ] at k3
        clear FK5
        obtain ⟨mr, hmr⟩ : ∃ x, mayR R = x := ⟨_, rfl⟩
        rw [hmr] at HP ⊢
        clear hmr
        cases mr
        · go_wp2_with fail
          go_ret
          exact ⟨ret_bool (by rw [HP.out]; rfl), step_below HB0.out HB5.out⟩
        · cases d
          · simp only [Bool.false_eq_true, if_false, ↓reduceIte] at HP
            obtain ⟨mk, hmk⟩ : ∃ x, mayK kn = x := ⟨_, rfl⟩
            rw [hmk] at HP
            have HMK := Lib.hid hmk
            clear hmk
            go_wp2_with fail
            refine (maykey_law _ _ _ _).mono ?_; rintro r w9 ⟨rfl, rfl⟩
            rw [HMK.out]
            cases mk
            · go_wp2_with fail
              go_ret
              exact ⟨ret_bool (by rw [HP.out]; rfl), step_below HB0.out HB5.out⟩
            by_cases ht0 : tn = 0
            · subst ht0
              go_wp2_with fail
              go_ret
              exact ⟨ret_bool (by rw [HP.out]; simp), step_below HB0.out HB5.out⟩
            · have ht1 : ((tn : Int) == 0) = false := by simpa using ht0
              have ht2 : (tn == 0) = false := by simpa using ht0
              rw [ht2] at HP
              clear ht2
              go_wp2_with fail
              go_ret
              exact ⟨ret_bool (by rw [HP.out]; rfl), step_below HB0.out HB5.out⟩
          · simp only [if_true, ↓reduceIte] at HP
            by_cases hk3 : kn ≤ 32
            · have hk3i : (kn : Int) ≤ 32 := by omega
              have hk3d : decide (kn ≤ 32) = true := decide_eq_true hk3
              rw [hk3d] at HP
              clear hk3d
              by_cases ht3 : tn ≤ 32
              · have ht3i : (tn : Int) ≤ 32 := by omega
                have ht3d : decide (tn ≤ 32) = true := decide_eq_true ht3
                rw [ht3d] at HP
                clear ht3d
                go_wp2_with fail
                refine (within_law _ _ _ _).mono ?_; rintro r w9 ⟨rfl, rfl⟩
                go_wp2_with fail
                go_ret
                exact ⟨ret_bool (by rw [HP.out]; simp), step_below HB0.out HB5.out⟩
              · have ht3i : ¬ (tn : Int) ≤ 32 := by omega
                have ht3d : decide (tn ≤ 32) = false := decide_eq_false ht3
                rw [ht3d] at HP
                clear ht3d
                go_wp2_with fail
                go_ret
                exact ⟨ret_bool (by rw [HP.out]; rfl), step_below HB0.out HB5.out⟩
            · have hk3i : ¬ (kn : Int) ≤ 32 := by omega
              have hk3d : decide (kn ≤ 32) = false := decide_eq_false hk3
              rw [hk3d] at HP
              clear hk3d
              go_wp2_with fail
              go_ret
              exact ⟨ret_bool (by rw [HP.out]; rfl), step_below HB0.out HB5.out⟩
    · have hr0i : ¬ (0 : Int) < (rn : Int) := by omega
      have hrd : decide (0 < rn) = false := decide_eq_false hr0
      rw [hrd] at HP
      clear hrd
      cases c
      · cases d
        · simp only [Bool.false_eq_true, if_false, ↓reduceIte] at HP
          obtain ⟨mk, hmk⟩ : ∃ x, mayK kn = x := ⟨_, rfl⟩
          rw [hmk] at HP
          have HMK := Lib.hid hmk
          clear hmk
          go_wp2_with fail
          refine (maykey_law _ _ _ _).mono ?_; rintro r w9 ⟨rfl, rfl⟩
          rw [HMK.out]
          cases mk
          · go_wp2_with fail
            go_ret
            exact ⟨ret_bool (by rw [HP.out]; rfl), step_below HB0.out HBW.out⟩
          by_cases ht0 : tn = 0
          · subst ht0
            go_wp2_with fail
            go_ret
            exact ⟨ret_bool (by rw [HP.out]; simp), step_below HB0.out HBW.out⟩
          · have ht1 : ((tn : Int) == 0) = false := by simpa using ht0
            have ht2 : (tn == 0) = false := by simpa using ht0
            rw [ht2] at HP
            clear ht2
            go_wp2_with fail
            go_ret
            exact ⟨ret_bool (by rw [HP.out]; rfl), step_below HB0.out HBW.out⟩
        · simp only [if_true, ↓reduceIte] at HP
          by_cases hk3 : kn ≤ 32
          · have hk3i : (kn : Int) ≤ 32 := by omega
            have hk3d : decide (kn ≤ 32) = true := decide_eq_true hk3
            rw [hk3d] at HP
            clear hk3d
            by_cases ht3 : tn ≤ 32
            · have ht3i : (tn : Int) ≤ 32 := by omega
              have ht3d : decide (tn ≤ 32) = true := decide_eq_true ht3
              rw [ht3d] at HP
              clear ht3d
              go_wp2_with fail
              refine (within_law _ _ _ _).mono ?_; rintro r w9 ⟨rfl, rfl⟩
              go_wp2_with fail
              go_ret
              exact ⟨ret_bool (by rw [HP.out]; simp), step_below HB0.out HBW.out⟩
            · have ht3i : ¬ (tn : Int) ≤ 32 := by omega
              have ht3d : decide (tn ≤ 32) = false := decide_eq_false ht3
              rw [ht3d] at HP
              clear ht3d
              go_wp2_with fail
              go_ret
              exact ⟨ret_bool (by rw [HP.out]; rfl), step_below HB0.out HBW.out⟩
          · have hk3i : ¬ (kn : Int) ≤ 32 := by omega
            have hk3d : decide (kn ≤ 32) = false := decide_eq_false hk3
            rw [hk3d] at HP
            clear hk3d
            go_wp2_with fail
            go_ret
            exact ⟨ret_bool (by rw [HP.out]; rfl), step_below HB0.out HBW.out⟩
      · go_wp2_with fail
        go_ret
        exact ⟨ret_bool (by rw [HP.out]; rfl), step_below HB0.out HBW.out⟩

  · rw [HEA.out] at g6
    have dd := DD.out
    go_wp2_with fail
    go_quiet (fail)
    go_wp2_with fail
    refine (within_law _ _ _ _).mono ?_; rintro r w9 ⟨rfl, rfl⟩
    simp only [Bool.false_eq_true, if_false, if_true, ↓reduceIte] at HP
    obtain ⟨bi, hbi⟩ : ∃ z, inB i 0 (x - 1) = z := ⟨_, rfl⟩
    simp only [Int.sub_self] at hbi HP ⊢
    rw [hbi] at HP ⊢
    clear hbi
    cases bi
    · go_wp2_with fail
      go_ret
      exact ⟨ret_bool (by rw [HP.out]; rfl), step_below HB0.out (step_below HBW.out (below_drewN (Below.refl _ _) _))⟩
    by_cases hr0 : 0 < rn
    · have hr0i : (0 : Int) < (rn : Int) := by omega
      have hrd : decide (0 < rn) = true := decide_eq_true hr0
      rw [hrd] at HP
      clear hrd
      cases c
      · go_wp2_with fail
        go_ret
        exact ⟨ret_bool (by rw [HP.out]; rfl), step_below HB0.out (step_below HBW.out (below_drewN (Below.refl _ _) _))⟩
      · go_wp2_with fail
        refine (mayr_law ra R rn rc (FO.out _ HBW.out).rl hrn _ ((FO.out _ HBW.out).rs.below (below_drewN (Below.refl _ _) _))).mono ?_; rintro r w5 ⟨rfl, B5⟩
        have HB5 := Lib.hid (step_below HBW.out (step_below (below_drewN (Below.refl _ _) _) B5))
        have FK5 := (FK.out _ (step_below (below_drewN (Below.refl _ _) _) B5))
        clear B5 g0 g1 g2 g3 g4 g5 g6 o0 o1 o2 o3 o4 o5 o6 k0 k2 k3 k4
        obtain ⟨g0, g1, g2, g3, g4, g5, g6, o0, o1, o2, o3, o4, o5, o6⟩ := FG.out _ HB5.out
        have k3 := FK5.cell 3
        simp only [List.getElem?_toArray, List.getElem?_cons_zero, List.getElem?_cons_succ] at k3
        clear FK5
        obtain ⟨mr, hmr⟩ : ∃ x, mayR R = x := ⟨_, rfl⟩
        rw [hmr] at HP ⊢
        clear hmr
        cases mr
        · go_wp2_with fail
          go_ret
          exact ⟨ret_bool (by rw [HP.out]; rfl), step_below HB0.out HB5.out⟩
        · cases d
          · simp only [Bool.false_eq_true, if_false, ↓reduceIte] at HP
            obtain ⟨mk, hmk⟩ : ∃ x, mayK kn = x := ⟨_, rfl⟩
            rw [hmk] at HP
            have HMK := Lib.hid hmk
            clear hmk
            go_wp2_with fail
            refine (maykey_law _ _ _ _).mono ?_; rintro r w9 ⟨rfl, rfl⟩
            rw [HMK.out]
            cases mk
            · go_wp2_with fail
              go_ret
              exact ⟨ret_bool (by rw [HP.out]; rfl), step_below HB0.out HB5.out⟩
            by_cases ht0 : tn = 0
            · subst ht0
              go_wp2_with fail
              go_ret
              exact ⟨ret_bool (by rw [HP.out]; simp), step_below HB0.out HB5.out⟩
            · have ht1 : ((tn : Int) == 0) = false := by simpa using ht0
              have ht2 : (tn == 0) = false := by simpa using ht0
              rw [ht2] at HP
              clear ht2
              go_wp2_with fail
              go_ret
              exact ⟨ret_bool (by rw [HP.out]; rfl), step_below HB0.out HB5.out⟩
          · simp only [if_true, ↓reduceIte] at HP
            by_cases hk3 : kn ≤ 24
            · have hk3i : (kn : Int) ≤ 24 := by omega
              have hk3d : decide (kn ≤ 24) = true := decide_eq_true hk3
              rw [hk3d] at HP
              clear hk3d
              by_cases ht3 : tn ≤ 24
              · have ht3i : (tn : Int) ≤ 24 := by omega
                have ht3d : decide (tn ≤ 24) = true := decide_eq_true ht3
                rw [ht3d] at HP
                clear ht3d
                go_wp2_with fail
                refine (within_law _ _ _ _).mono ?_; rintro r w9 ⟨rfl, rfl⟩
                go_wp2_with fail
                go_ret
                exact ⟨ret_bool (by rw [HP.out]; simp), step_below HB0.out HB5.out⟩
              · have ht3i : ¬ (tn : Int) ≤ 24 := by omega
                have ht3d : decide (tn ≤ 24) = false := decide_eq_false ht3
                rw [ht3d] at HP
                clear ht3d
                go_wp2_with fail
                go_ret
                exact ⟨ret_bool (by rw [HP.out]; rfl), step_below HB0.out HB5.out⟩
            · have hk3i : ¬ (kn : Int) ≤ 24 := by omega
              have hk3d : decide (kn ≤ 24) = false := decide_eq_false hk3
              rw [hk3d] at HP
              clear hk3d
              go_wp2_with fail
              go_ret
              exact ⟨ret_bool (by rw [HP.out]; rfl), step_below HB0.out HB5.out⟩
    · have hr0i : ¬ (0 : Int) < (rn : Int) := by omega
      have hrd : decide (0 < rn) = false := decide_eq_false hr0
      rw [hrd] at HP
      clear hrd
      cases c
      · cases d
        · simp only [Bool.false_eq_true, if_false, ↓reduceIte] at HP
          obtain ⟨mk, hmk⟩ : ∃ x, mayK kn = x := ⟨_, rfl⟩
          rw [hmk] at HP
          have HMK := Lib.hid hmk
          clear hmk
          go_wp2_with fail
          refine (maykey_law _ _ _ _).mono ?_; rintro r w9 ⟨rfl, rfl⟩
          rw [HMK.out]
          cases mk
          · go_wp2_with fail
            go_ret
            exact ⟨ret_bool (by rw [HP.out]; rfl), step_below HB0.out (step_below HBW.out (below_drewN (Below.refl _ _) _))⟩
          by_cases ht0 : tn = 0
          · subst ht0
            go_wp2_with fail
            go_ret
            exact ⟨ret_bool (by rw [HP.out]; simp), step_below HB0.out (step_below HBW.out (below_drewN (Below.refl _ _) _))⟩
          · have ht1 : ((tn : Int) == 0) = false := by simpa using ht0
            have ht2 : (tn == 0) = false := by simpa using ht0
            rw [ht2] at HP
            clear ht2
            go_wp2_with fail
            go_ret
            exact ⟨ret_bool (by rw [HP.out]; rfl), step_below HB0.out (step_below HBW.out (below_drewN (Below.refl _ _) _))⟩
        · simp only [if_true, ↓reduceIte] at HP
          by_cases hk3 : kn ≤ 24
          · have hk3i : (kn : Int) ≤ 24 := by omega
            have hk3d : decide (kn ≤ 24) = true := decide_eq_true hk3
            rw [hk3d] at HP
            clear hk3d
            by_cases ht3 : tn ≤ 24
            · have ht3i : (tn : Int) ≤ 24 := by omega
              have ht3d : decide (tn ≤ 24) = true := decide_eq_true ht3
              rw [ht3d] at HP
              clear ht3d
              go_wp2_with fail
              refine (within_law _ _ _ _).mono ?_; rintro r w9 ⟨rfl, rfl⟩
              go_wp2_with fail
              go_ret
              exact ⟨ret_bool (by rw [HP.out]; simp), step_below HB0.out (step_below HBW.out (below_drewN (Below.refl _ _) _))⟩
            · have ht3i : ¬ (tn : Int) ≤ 24 := by omega
              have ht3d : decide (tn ≤ 24) = false := decide_eq_false ht3
              rw [ht3d] at HP
              clear ht3d
              go_wp2_with fail
              go_ret
              exact ⟨ret_bool (by rw [HP.out]; rfl), step_below HB0.out (step_below HBW.out (below_drewN (Below.refl _ _) _))⟩
          · have hk3i : ¬ (kn : Int) ≤ 24 := by omega
            have hk3d : decide (kn ≤ 24) = false := decide_eq_false hk3
            rw [hk3d] at HP
            clear hk3d
            go_wp2_with fail
            go_ret
            exact ⟨ret_bool (by rw [HP.out]; rfl), step_below HB0.out (step_below HBW.out (below_drewN (Below.refl _ _) _))⟩
      · go_wp2_with fail
        go_ret
        exact ⟨ret_bool (by rw [HP.out]; rfl), step_below HB0.out (step_below HBW.out (below_drewN (Below.refl _ _) _))⟩

end Go.Proofs.Ytkgcbhpgkcfkhaa
