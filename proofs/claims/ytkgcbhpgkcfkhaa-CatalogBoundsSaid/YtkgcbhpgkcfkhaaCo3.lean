/- Which calls may be, by the reference: a contract; the program asks the same. -/
import Derived.Test.YtkgcbhpgkcfkhaaCo2
import Derived.Test.YtkgcbhpgkcfkhaaCjq
namespace Go.Proofs.Ytkgcbhpgkcfkhaa
open Go.ChangeShapes Go.WideShapes Go.ChangeAt Go.RowKit Go.Shelf
set_option linter.unusedVariables false
set_option linter.unusedSimpArgs false

/-- What a call of its kind asks. -/
def qE (j : Job) (o : CallV) : Bool :=
  if o.k = 1 ∨ o.k = 4 then mayK o.kn && decide (o.rn = 0) && decide (o.tn = 0) && decide (o.m = 0) && decide (o.i = 0)
  else if o.k = 2 ∨ o.k = 3 then mayK o.kn && mayR o.R && decide (o.tn = 0) && decide (o.m = 0) && decide (o.i = 0)
  else if o.k = 5 then decide (o.kn ≤ 32) && decide (o.tn ≤ 32) && decide (1 ≤ o.m) && decide (o.m ≤ 64) && decide (o.i = 0) && decide (o.rn = 0)
  else if o.k = 6 then decide (o.kn ≤ 24) && decide (o.tn ≤ 24) && decide (1 ≤ o.m) && decide (o.m ≤ 64) && decide (0 ≤ o.i) && decide (o.i < j.T.getD o.t.toNat 0) && decide (o.rn = 0)
  else false
def qO (j : Job) (o : CallV) : Bool := okB j && !decide (o.t < 0) && !decide ((j.n : Int) ≤ o.t) && qE j o
theorem mayR_pos {R : List P1} (h : mayR R = true) : 0 < R.length := by
  have := ((mayR_iff R).1 h).2.1; omega
theorem inB_z (i : Int) : inB i 0 (1 - 1) = decide (i = 0) := by
  unfold inB
  rw [Bool.eq_iff_iff]; simp; omega
/-- Both ask the same. -/
theorem pO_qO (j : Job) (o : CallV) (hl : o.R.length = o.rn) : pO j o = qO j o := by
  have hm := @mayR_pos o.R
  rw [hl] at hm
  obtain ⟨k, t, i, ka, kn, kc, K, ta, tn, tc, TT, m, ra, rn, rc, R⟩ := o
  simp only at hm
  unfold pO qO qE endB idxV mostV
  simp only
  have ht : inB t 0 ((j.n : Int) - 1) = (!decide (t < 0) && !decide ((j.n : Int) ≤ t)) := by
    unfold inB
    rw [Bool.eq_iff_iff]; simp; omega
  rw [ht]
  clear hl
  generalize j.T.getD t.toNat 0 = xx
  by_cases h : k < 0 ∨ 6 < k
  · have e1 : k ≠ 1 := by omega
    have e2 : k ≠ 2 := by omega
    have e3 : k ≠ 3 := by omega
    have e4 : k ≠ 4 := by omega
    have e5 : k ≠ 5 := by omega
    have e6 : k ≠ 6 := by omega
    simp only [kf_out k h]
    simp [e1, e2, e3, e4, e5, e6]
  obtain ⟨n, rfl⟩ : ∃ n : Nat, k = (n : Int) := ⟨k.toNat, by omega⟩
  have hn : n ≤ 6 := by omega
  simp only [kf_in n hn]
  cases hR : mayR R
  · clear hm
    cases okB j
    · simp
    rcases (show n = 0 ∨ n = 1 ∨ n = 2 ∨ n = 3 ∨ n = 4 ∨ n = 5 ∨ n = 6 by omega) with rfl | rfl | rfl | rfl | rfl | rfl | rfl
    all_goals simp only [kB, List.getD]
    all_goals simp [inB, mayK]
    all_goals first | done | (rw [Bool.eq_iff_iff]; simp; omega)
  · have hm' := hm hR
    clear hm
    have hr0 : rn ≠ 0 := by omega
    cases okB j
    · simp
    rcases (show n = 0 ∨ n = 1 ∨ n = 2 ∨ n = 3 ∨ n = 4 ∨ n = 5 ∨ n = 6 by omega) with rfl | rfl | rfl | rfl | rfl | rfl | rfl
    all_goals simp only [kB, List.getD]
    all_goals simp [inB, mayK, hm', hr0]
    all_goals first | done | (rw [Bool.eq_iff_iff]; simp; omega)
set_option maxRecDepth 100000 in
set_option maxHeartbeats 4000000 in
theorem qmayop_law (j : Job) (o : CallV) (w : World) (hj : JobAt w j) (ho : CallAt w o) :
    Calls Try.prog 90 #[.agg #[.int .i64 j.w, .int .i64 j.l, .int .i64 j.d, .int .i64 j.c, .int .i64 j.k, .int .i64 j.e, .slice j.a j.n j.cap], .agg #[.int .i64 o.k, .int .i64 o.t, .int .i64 o.i, .slice o.ka o.kn o.kc, .slice o.ta o.tn o.tc, .int .i64 o.m, .slice o.ra o.rn o.rc]] w fun r w' => r = .returned (.bool (qO j o)) ∧ Below w.heap.size w w' := by
  obtain ⟨k, t, i, ka, kn, kc, K, ta, tn, tc, TT, m, ra, rn, rc, R⟩ := o
  have hp : qO j ⟨k, t, i, ka, kn, kc, K, ta, tn, tc, TT, m, ra, rn, rc, R⟩ = (okB j && !decide (t < 0) && !decide ((j.n : Int) ≤ t) && (if k = 1 ∨ k = 4 then mayK kn && decide (rn = 0) && decide (tn = 0) && decide (m = 0) && decide (i = 0)
  else if k = 2 ∨ k = 3 then mayK kn && mayR R && decide (tn = 0) && decide (m = 0) && decide (i = 0)
  else if k = 5 then decide (kn ≤ 32) && decide (tn ≤ 32) && decide (1 ≤ m) && decide (m ≤ 64) && decide (i = 0) && decide (rn = 0)
  else if k = 6 then decide (kn ≤ 24) && decide (tn ≤ 24) && decide (1 ≤ m) && decide (m ≤ 64) && decide (0 ≤ i) && decide (i < j.T.getD t.toNat 0) && decide (rn = 0)
  else false)) := rfl
  generalize qO j _ = ans at hp ⊢
  simp only at ho ⊢
  obtain ⟨hb0, hbx⟩ := boxes2 w #[.int .i64 j.w, .int .i64 j.l, .int .i64 j.d, .int .i64 j.c, .int .i64 j.k, .int .i64 j.e, .slice j.a j.n j.cap] #[.int .i64 k, .int .i64 t, .int .i64 i, .slice ka kn kc, .slice ta tn tc, .int .i64 m, .slice ra rn rc] 53 98
  have HCK := Lib.hid (show chkV j = if okB j then 0 else 2 from rfl)
  have hln := hj.len
  have hlei : (j.n : Int) ≤ 1000000 := by have := hj.le; omega
  have HLN := Lib.hid hln
  clear hln
  go_enter Try.func90, Try.ntmps90
  go_wp2_with fail
  generalize ((w.alloc (.cells #[.int .i64 j.w, .int .i64 j.l, .int .i64 j.d, .int .i64 j.c, .int .i64 j.k, .int .i64 j.e, .slice j.a j.n j.cap] 53)).alloc (.cells #[.int .i64 k, .int .i64 t, .int .i64 i, .slice ka kn kc, .slice ta tn tc, .int .i64 m, .slice ra rn rc] 98)) = W0 at *
  have FG := Lib.hid (fun W (b : Below W0.heap.size W0 W) => (by
    obtain ⟨x, y⟩ := hbx W b
    exact ⟨x.cell 0, x.cell 1, x.cell 2, x.cell 3, x.cell 4, x.cell 5, x.cell 6, y.cell 0, y.cell 1, y.cell 2, y.cell 3, y.cell 4, y.cell 5, y.cell 6⟩ : W.cell? ⟨w.heap.size, 0, none⟩ = some (.int .i64 j.w) ∧ W.cell? ⟨w.heap.size, 1, none⟩ = some (.int .i64 j.l) ∧ W.cell? ⟨w.heap.size, 2, none⟩ = some (.int .i64 j.d) ∧ W.cell? ⟨w.heap.size, 3, none⟩ = some (.int .i64 j.c) ∧ W.cell? ⟨w.heap.size, 4, none⟩ = some (.int .i64 j.k) ∧ W.cell? ⟨w.heap.size, 5, none⟩ = some (.int .i64 j.e) ∧ W.cell? ⟨w.heap.size, 6, none⟩ = some (.slice j.a j.n j.cap) ∧ W.cell? ⟨w.heap.size + 1, 0, none⟩ = some (.int .i64 k) ∧ W.cell? ⟨w.heap.size + 1, 1, none⟩ = some (.int .i64 t) ∧ W.cell? ⟨w.heap.size + 1, 2, none⟩ = some (.int .i64 i) ∧ W.cell? ⟨w.heap.size + 1, 3, none⟩ = some (.slice ka kn kc) ∧ W.cell? ⟨w.heap.size + 1, 4, none⟩ = some (.slice ta tn tc) ∧ W.cell? ⟨w.heap.size + 1, 5, none⟩ = some (.int .i64 m) ∧ W.cell? ⟨w.heap.size + 1, 6, none⟩ = some (.slice ra rn rc)))
  have FJ := Lib.hid (fun W (b : Below W0.heap.size W0 W) => (hj.below hb0).below b)
  have FO := Lib.hid (fun W (b : Below W0.heap.size W0 W) => (ho.below hb0).below b)
  have HB0 := Lib.hid hb0
  have HP := Lib.hid hp
  clear hb0 hbx hj ho hp
  refine (qcheck_law j W0 (FJ.out _ (Below.refl _ _))).mono ?_; rintro r w3 ⟨rfl, B3⟩
  have HBW := Lib.hid B3
  rw [HCK.out]
  clear B3
  obtain ⟨ok, hok⟩ : ∃ x, okB j = x := ⟨_, rfl⟩
  rw [hok] at HP ⊢
  have HOK := Lib.hid hok
  clear hok
  obtain ⟨g0, g1, g2, g3, g4, g5, g6, o0, o1, o2, o3, o4, o5, o6⟩ := FG.out _ HBW.out
  cases ok
  · go_wp2_with fail
    go_ret
    exact ⟨ret_bool (by rw [HP.out]; rfl), step_below HB0.out HBW.out⟩
  simp only [↓reduceIte]
  by_cases ht0 : t < 0
  · have hd : decide (t < 0) = true := decide_eq_true ht0
    rw [hd] at HP
    clear hd
    go_wp2_with fail
    go_ret
    exact ⟨ret_bool (by rw [HP.out]; rfl), step_below HB0.out HBW.out⟩
  by_cases htn : (j.n : Int) ≤ t
  · have hd : decide ((j.n : Int) ≤ t) = true := decide_eq_true htn
    rw [hd] at HP
    clear hd
    go_wp2_with fail
    go_ret
    exact ⟨ret_bool (by rw [HP.out]; simp), step_below HB0.out HBW.out⟩
  obtain ⟨tk, rfl⟩ : ∃ tk : Nat, t = (tk : Int) := ⟨t.toNat, by omega⟩
  have htk : tk < j.n := by omega
  obtain ⟨b1, o1', ea, dd⟩ := (FJ.out _ HBW.out).ls.get tk (by rw [HLN.out]; exact htk)
  obtain ⟨x, hx⟩ : ∃ x, j.T.getD tk 0 = x := ⟨_, rfl⟩
  rw [hx] at dd
  rw [Int.toNat_natCast, hx, decide_eq_false ht0, decide_eq_false htn] at HP
  have hxb : 0 ≤ x ∧ x ≤ 2 := by rw [← hx]; exact okB_T HOK.out tk (by rw [HLN.out]; exact htk)
  have hx0 : 0 ≤ x := hxb.1
  have hx2 : x ≤ 2 := hxb.2
  have htki : (tk : Int) < (j.n : Int) := by omega
  have HEA := Lib.hid ea
  have DD := Lib.hid dd
  have HRM := Lib.hid (refmay_law ra R rn rc (FO.out _ HBW.out).rl w3 (FO.out _ HBW.out).rs)
  obtain ⟨mk, hmk⟩ : ∃ x, mayK kn = x := ⟨_, rfl⟩
  obtain ⟨mr, hmr⟩ : ∃ x, mayR R = x := ⟨_, rfl⟩
  rw [hmk, hmr] at HP
  rw [hmr] at HRM
  have HMK := Lib.hid hmk
  clear hx hxb ea dd hmk hmr
  by_cases h1 : k = 1
  · subst h1
    rw [if_pos (by decide)] at HP
    cases mk
    · skip
      go_wp2_with (first | (go_at_call 21; refine (rmaykey_law _ _ _ _).mono ?_; rintro r w9 ⟨rfl, rfl⟩; rw [HMK.out]) | (go_at_call 19; refine HRM.out.mono ?_; rintro r w9 ⟨rfl, rfl⟩))
      go_ret
      exact ⟨ret_bool (by rw [HP.out]; first | (simp [*]; done) | (simp [*]; intros; omega) | (simp; intros; omega)), step_below HB0.out HBW.out⟩
    · skip
      by_cases hrn : rn = 0
      · skip
        subst hrn
        by_cases htn : tn = 0
        · skip
          subst htn
          by_cases hm : m = 0
          · skip
            subst hm
            by_cases hi : i = 0
            · skip
              subst hi
              go_wp2_with (first | (go_at_call 21; refine (rmaykey_law _ _ _ _).mono ?_; rintro r w9 ⟨rfl, rfl⟩; rw [HMK.out]) | (go_at_call 19; refine HRM.out.mono ?_; rintro r w9 ⟨rfl, rfl⟩))
              go_ret
              exact ⟨ret_bool (by rw [HP.out]; first | (simp [*]; done) | (simp [*]; intros; omega) | (simp; intros; omega)), step_below HB0.out HBW.out⟩
            · skip
              have hib : (i == 0) = false := by simpa using hi
              go_wp2_with (first | (go_at_call 21; refine (rmaykey_law _ _ _ _).mono ?_; rintro r w9 ⟨rfl, rfl⟩; rw [HMK.out]) | (go_at_call 19; refine HRM.out.mono ?_; rintro r w9 ⟨rfl, rfl⟩))
              go_ret
              exact ⟨ret_bool (by rw [HP.out]; first | (simp [*]; done) | (simp [*]; intros; omega) | (simp; intros; omega)), step_below HB0.out HBW.out⟩
          · skip
            have hmb : (m == 0) = false := by simpa using hm
            go_wp2_with (first | (go_at_call 21; refine (rmaykey_law _ _ _ _).mono ?_; rintro r w9 ⟨rfl, rfl⟩; rw [HMK.out]) | (go_at_call 19; refine HRM.out.mono ?_; rintro r w9 ⟨rfl, rfl⟩))
            go_ret
            exact ⟨ret_bool (by rw [HP.out]; first | (simp [*]; done) | (simp [*]; intros; omega) | (simp; intros; omega)), step_below HB0.out HBW.out⟩
        · skip
          have htnb : ((tn : Int) == 0) = false := by simpa using htn
          go_wp2_with (first | (go_at_call 21; refine (rmaykey_law _ _ _ _).mono ?_; rintro r w9 ⟨rfl, rfl⟩; rw [HMK.out]) | (go_at_call 19; refine HRM.out.mono ?_; rintro r w9 ⟨rfl, rfl⟩))
          go_ret
          exact ⟨ret_bool (by rw [HP.out]; first | (simp [*]; done) | (simp [*]; intros; omega) | (simp; intros; omega)), step_below HB0.out HBW.out⟩
      · skip
        have hrnb : ((rn : Int) == 0) = false := by simpa using hrn
        go_wp2_with (first | (go_at_call 21; refine (rmaykey_law _ _ _ _).mono ?_; rintro r w9 ⟨rfl, rfl⟩; rw [HMK.out]) | (go_at_call 19; refine HRM.out.mono ?_; rintro r w9 ⟨rfl, rfl⟩))
        go_ret
        exact ⟨ret_bool (by rw [HP.out]; first | (simp [*]; done) | (simp [*]; intros; omega) | (simp; intros; omega)), step_below HB0.out HBW.out⟩
  have b1 : (k == 1) = false := by simpa using h1
  by_cases h4 : k = 4
  · subst h4
    rw [if_pos (by decide)] at HP
    cases mk
    · skip
      go_wp2_with (first | (go_at_call 21; refine (rmaykey_law _ _ _ _).mono ?_; rintro r w9 ⟨rfl, rfl⟩; rw [HMK.out]) | (go_at_call 19; refine HRM.out.mono ?_; rintro r w9 ⟨rfl, rfl⟩))
      go_ret
      exact ⟨ret_bool (by rw [HP.out]; first | (simp [*]; done) | (simp [*]; intros; omega) | (simp; intros; omega)), step_below HB0.out HBW.out⟩
    · skip
      by_cases hrn : rn = 0
      · skip
        subst hrn
        by_cases htn : tn = 0
        · skip
          subst htn
          by_cases hm : m = 0
          · skip
            subst hm
            by_cases hi : i = 0
            · skip
              subst hi
              go_wp2_with (first | (go_at_call 21; refine (rmaykey_law _ _ _ _).mono ?_; rintro r w9 ⟨rfl, rfl⟩; rw [HMK.out]) | (go_at_call 19; refine HRM.out.mono ?_; rintro r w9 ⟨rfl, rfl⟩))
              go_ret
              exact ⟨ret_bool (by rw [HP.out]; first | (simp [*]; done) | (simp [*]; intros; omega) | (simp; intros; omega)), step_below HB0.out HBW.out⟩
            · skip
              have hib : (i == 0) = false := by simpa using hi
              go_wp2_with (first | (go_at_call 21; refine (rmaykey_law _ _ _ _).mono ?_; rintro r w9 ⟨rfl, rfl⟩; rw [HMK.out]) | (go_at_call 19; refine HRM.out.mono ?_; rintro r w9 ⟨rfl, rfl⟩))
              go_ret
              exact ⟨ret_bool (by rw [HP.out]; first | (simp [*]; done) | (simp [*]; intros; omega) | (simp; intros; omega)), step_below HB0.out HBW.out⟩
          · skip
            have hmb : (m == 0) = false := by simpa using hm
            go_wp2_with (first | (go_at_call 21; refine (rmaykey_law _ _ _ _).mono ?_; rintro r w9 ⟨rfl, rfl⟩; rw [HMK.out]) | (go_at_call 19; refine HRM.out.mono ?_; rintro r w9 ⟨rfl, rfl⟩))
            go_ret
            exact ⟨ret_bool (by rw [HP.out]; first | (simp [*]; done) | (simp [*]; intros; omega) | (simp; intros; omega)), step_below HB0.out HBW.out⟩
        · skip
          have htnb : ((tn : Int) == 0) = false := by simpa using htn
          go_wp2_with (first | (go_at_call 21; refine (rmaykey_law _ _ _ _).mono ?_; rintro r w9 ⟨rfl, rfl⟩; rw [HMK.out]) | (go_at_call 19; refine HRM.out.mono ?_; rintro r w9 ⟨rfl, rfl⟩))
          go_ret
          exact ⟨ret_bool (by rw [HP.out]; first | (simp [*]; done) | (simp [*]; intros; omega) | (simp; intros; omega)), step_below HB0.out HBW.out⟩
      · skip
        have hrnb : ((rn : Int) == 0) = false := by simpa using hrn
        go_wp2_with (first | (go_at_call 21; refine (rmaykey_law _ _ _ _).mono ?_; rintro r w9 ⟨rfl, rfl⟩; rw [HMK.out]) | (go_at_call 19; refine HRM.out.mono ?_; rintro r w9 ⟨rfl, rfl⟩))
        go_ret
        exact ⟨ret_bool (by rw [HP.out]; first | (simp [*]; done) | (simp [*]; intros; omega) | (simp; intros; omega)), step_below HB0.out HBW.out⟩
  have b4 : (k == 4) = false := by simpa using h4
  by_cases h2 : k = 2
  · subst h2
    rw [if_neg (by decide), if_pos (by decide)] at HP
    cases mk
    · skip
      go_wp2_with (first | (go_at_call 21; refine (rmaykey_law _ _ _ _).mono ?_; rintro r w9 ⟨rfl, rfl⟩; rw [HMK.out]) | (go_at_call 19; refine HRM.out.mono ?_; rintro r w9 ⟨rfl, rfl⟩))
      go_ret
      exact ⟨ret_bool (by rw [HP.out]; first | (simp [*]; done) | (simp [*]; intros; omega) | (simp; intros; omega)), step_below HB0.out HBW.out⟩
    · skip
      cases mr
      · skip
        go_wp2_with (first | (go_at_call 21; refine (rmaykey_law _ _ _ _).mono ?_; rintro r w9 ⟨rfl, rfl⟩; rw [HMK.out]) | (go_at_call 19; refine HRM.out.mono ?_; rintro r w9 ⟨rfl, rfl⟩))
        go_ret
        exact ⟨ret_bool (by rw [HP.out]; first | (simp [*]; done) | (simp [*]; intros; omega) | (simp; intros; omega)), step_below HB0.out HBW.out⟩
      · skip
        by_cases htn : tn = 0
        · skip
          subst htn
          by_cases hm : m = 0
          · skip
            subst hm
            by_cases hi : i = 0
            · skip
              subst hi
              go_wp2_with (first | (go_at_call 21; refine (rmaykey_law _ _ _ _).mono ?_; rintro r w9 ⟨rfl, rfl⟩; rw [HMK.out]) | (go_at_call 19; refine HRM.out.mono ?_; rintro r w9 ⟨rfl, rfl⟩))
              go_ret
              exact ⟨ret_bool (by rw [HP.out]; first | (simp [*]; done) | (simp [*]; intros; omega) | (simp; intros; omega)), step_below HB0.out HBW.out⟩
            · skip
              have hib : (i == 0) = false := by simpa using hi
              go_wp2_with (first | (go_at_call 21; refine (rmaykey_law _ _ _ _).mono ?_; rintro r w9 ⟨rfl, rfl⟩; rw [HMK.out]) | (go_at_call 19; refine HRM.out.mono ?_; rintro r w9 ⟨rfl, rfl⟩))
              go_ret
              exact ⟨ret_bool (by rw [HP.out]; first | (simp [*]; done) | (simp [*]; intros; omega) | (simp; intros; omega)), step_below HB0.out HBW.out⟩
          · skip
            have hmb : (m == 0) = false := by simpa using hm
            go_wp2_with (first | (go_at_call 21; refine (rmaykey_law _ _ _ _).mono ?_; rintro r w9 ⟨rfl, rfl⟩; rw [HMK.out]) | (go_at_call 19; refine HRM.out.mono ?_; rintro r w9 ⟨rfl, rfl⟩))
            go_ret
            exact ⟨ret_bool (by rw [HP.out]; first | (simp [*]; done) | (simp [*]; intros; omega) | (simp; intros; omega)), step_below HB0.out HBW.out⟩
        · skip
          have htnb : ((tn : Int) == 0) = false := by simpa using htn
          go_wp2_with (first | (go_at_call 21; refine (rmaykey_law _ _ _ _).mono ?_; rintro r w9 ⟨rfl, rfl⟩; rw [HMK.out]) | (go_at_call 19; refine HRM.out.mono ?_; rintro r w9 ⟨rfl, rfl⟩))
          go_ret
          exact ⟨ret_bool (by rw [HP.out]; first | (simp [*]; done) | (simp [*]; intros; omega) | (simp; intros; omega)), step_below HB0.out HBW.out⟩
  have b2 : (k == 2) = false := by simpa using h2
  by_cases h3 : k = 3
  · subst h3
    rw [if_neg (by decide), if_pos (by decide)] at HP
    cases mk
    · skip
      go_wp2_with (first | (go_at_call 21; refine (rmaykey_law _ _ _ _).mono ?_; rintro r w9 ⟨rfl, rfl⟩; rw [HMK.out]) | (go_at_call 19; refine HRM.out.mono ?_; rintro r w9 ⟨rfl, rfl⟩))
      go_ret
      exact ⟨ret_bool (by rw [HP.out]; first | (simp [*]; done) | (simp [*]; intros; omega) | (simp; intros; omega)), step_below HB0.out HBW.out⟩
    · skip
      cases mr
      · skip
        go_wp2_with (first | (go_at_call 21; refine (rmaykey_law _ _ _ _).mono ?_; rintro r w9 ⟨rfl, rfl⟩; rw [HMK.out]) | (go_at_call 19; refine HRM.out.mono ?_; rintro r w9 ⟨rfl, rfl⟩))
        go_ret
        exact ⟨ret_bool (by rw [HP.out]; first | (simp [*]; done) | (simp [*]; intros; omega) | (simp; intros; omega)), step_below HB0.out HBW.out⟩
      · skip
        by_cases htn : tn = 0
        · skip
          subst htn
          by_cases hm : m = 0
          · skip
            subst hm
            by_cases hi : i = 0
            · skip
              subst hi
              go_wp2_with (first | (go_at_call 21; refine (rmaykey_law _ _ _ _).mono ?_; rintro r w9 ⟨rfl, rfl⟩; rw [HMK.out]) | (go_at_call 19; refine HRM.out.mono ?_; rintro r w9 ⟨rfl, rfl⟩))
              go_ret
              exact ⟨ret_bool (by rw [HP.out]; first | (simp [*]; done) | (simp [*]; intros; omega) | (simp; intros; omega)), step_below HB0.out HBW.out⟩
            · skip
              have hib : (i == 0) = false := by simpa using hi
              go_wp2_with (first | (go_at_call 21; refine (rmaykey_law _ _ _ _).mono ?_; rintro r w9 ⟨rfl, rfl⟩; rw [HMK.out]) | (go_at_call 19; refine HRM.out.mono ?_; rintro r w9 ⟨rfl, rfl⟩))
              go_ret
              exact ⟨ret_bool (by rw [HP.out]; first | (simp [*]; done) | (simp [*]; intros; omega) | (simp; intros; omega)), step_below HB0.out HBW.out⟩
          · skip
            have hmb : (m == 0) = false := by simpa using hm
            go_wp2_with (first | (go_at_call 21; refine (rmaykey_law _ _ _ _).mono ?_; rintro r w9 ⟨rfl, rfl⟩; rw [HMK.out]) | (go_at_call 19; refine HRM.out.mono ?_; rintro r w9 ⟨rfl, rfl⟩))
            go_ret
            exact ⟨ret_bool (by rw [HP.out]; first | (simp [*]; done) | (simp [*]; intros; omega) | (simp; intros; omega)), step_below HB0.out HBW.out⟩
        · skip
          have htnb : ((tn : Int) == 0) = false := by simpa using htn
          go_wp2_with (first | (go_at_call 21; refine (rmaykey_law _ _ _ _).mono ?_; rintro r w9 ⟨rfl, rfl⟩; rw [HMK.out]) | (go_at_call 19; refine HRM.out.mono ?_; rintro r w9 ⟨rfl, rfl⟩))
          go_ret
          exact ⟨ret_bool (by rw [HP.out]; first | (simp [*]; done) | (simp [*]; intros; omega) | (simp; intros; omega)), step_below HB0.out HBW.out⟩
  have b3 : (k == 3) = false := by simpa using h3
  by_cases h5 : k = 5
  · subst h5
    rw [if_neg (by decide), if_neg (by decide), if_pos (by decide)] at HP
    by_cases hkn : kn ≤ 32
    · skip
      have hkni : (kn : Int) ≤ 32 := by omega
      by_cases htn : tn ≤ 32
      · skip
        have htni : (tn : Int) ≤ 32 := by omega
        by_cases hm1 : 1 ≤ m
        · skip
          by_cases hm64 : m ≤ 64
          · skip
            by_cases hi : i = 0
            · skip
              subst hi
              by_cases hrn : rn = 0
              · skip
                subst hrn
                go_wp2_with (first | (go_at_call 21; refine (rmaykey_law _ _ _ _).mono ?_; rintro r w9 ⟨rfl, rfl⟩; rw [HMK.out]) | (go_at_call 19; refine HRM.out.mono ?_; rintro r w9 ⟨rfl, rfl⟩))
                go_ret
                exact ⟨ret_bool (by rw [HP.out]; first | (simp [*]; done) | (simp [*]; intros; omega) | (simp; intros; omega)), step_below HB0.out HBW.out⟩
              · skip
                have hrnb : ((rn : Int) == 0) = false := by simpa using hrn
                go_wp2_with (first | (go_at_call 21; refine (rmaykey_law _ _ _ _).mono ?_; rintro r w9 ⟨rfl, rfl⟩; rw [HMK.out]) | (go_at_call 19; refine HRM.out.mono ?_; rintro r w9 ⟨rfl, rfl⟩))
                go_ret
                exact ⟨ret_bool (by rw [HP.out]; first | (simp [*]; done) | (simp [*]; intros; omega) | (simp; intros; omega)), step_below HB0.out HBW.out⟩
            · skip
              have hib : (i == 0) = false := by simpa using hi
              go_wp2_with (first | (go_at_call 21; refine (rmaykey_law _ _ _ _).mono ?_; rintro r w9 ⟨rfl, rfl⟩; rw [HMK.out]) | (go_at_call 19; refine HRM.out.mono ?_; rintro r w9 ⟨rfl, rfl⟩))
              go_ret
              exact ⟨ret_bool (by rw [HP.out]; first | (simp [*]; done) | (simp [*]; intros; omega) | (simp; intros; omega)), step_below HB0.out HBW.out⟩
          · skip
            have hm64d : decide (m ≤ 64) = false := decide_eq_false hm64
            go_wp2_with (first | (go_at_call 21; refine (rmaykey_law _ _ _ _).mono ?_; rintro r w9 ⟨rfl, rfl⟩; rw [HMK.out]) | (go_at_call 19; refine HRM.out.mono ?_; rintro r w9 ⟨rfl, rfl⟩))
            go_ret
            exact ⟨ret_bool (by rw [HP.out]; first | (simp [*]; done) | (simp [*]; intros; omega) | (simp; intros; omega)), step_below HB0.out HBW.out⟩
        · skip
          have hm1d : decide (1 ≤ m) = false := decide_eq_false hm1
          go_wp2_with (first | (go_at_call 21; refine (rmaykey_law _ _ _ _).mono ?_; rintro r w9 ⟨rfl, rfl⟩; rw [HMK.out]) | (go_at_call 19; refine HRM.out.mono ?_; rintro r w9 ⟨rfl, rfl⟩))
          go_ret
          exact ⟨ret_bool (by rw [HP.out]; first | (simp [*]; done) | (simp [*]; intros; omega) | (simp; intros; omega)), step_below HB0.out HBW.out⟩
      · skip
        have htni : ¬ (tn : Int) ≤ 32 := by omega
        have htnd : decide ((tn : Int) ≤ 32) = false := decide_eq_false htni
        have htnn : decide (tn ≤ 32) = false := decide_eq_false htn
        go_wp2_with (first | (go_at_call 21; refine (rmaykey_law _ _ _ _).mono ?_; rintro r w9 ⟨rfl, rfl⟩; rw [HMK.out]) | (go_at_call 19; refine HRM.out.mono ?_; rintro r w9 ⟨rfl, rfl⟩))
        go_ret
        exact ⟨ret_bool (by rw [HP.out]; first | (simp [*]; done) | (simp [*]; intros; omega) | (simp; intros; omega)), step_below HB0.out HBW.out⟩
    · skip
      have hkni : ¬ (kn : Int) ≤ 32 := by omega
      have hknd : decide ((kn : Int) ≤ 32) = false := decide_eq_false hkni
      have hknn : decide (kn ≤ 32) = false := decide_eq_false hkn
      go_wp2_with (first | (go_at_call 21; refine (rmaykey_law _ _ _ _).mono ?_; rintro r w9 ⟨rfl, rfl⟩; rw [HMK.out]) | (go_at_call 19; refine HRM.out.mono ?_; rintro r w9 ⟨rfl, rfl⟩))
      go_ret
      exact ⟨ret_bool (by rw [HP.out]; first | (simp [*]; done) | (simp [*]; intros; omega) | (simp; intros; omega)), step_below HB0.out HBW.out⟩
  have b5 : (k == 5) = false := by simpa using h5
  by_cases h6 : k = 6
  · subst h6
    rw [if_neg (by decide), if_neg (by decide), if_neg (by decide), if_pos (by decide)] at HP
    rw [HEA.out] at g6
    have dd := DD.out
    by_cases hkn : kn ≤ 24
    · skip
      have hkni : (kn : Int) ≤ 24 := by omega
      by_cases htn : tn ≤ 24
      · skip
        have htni : (tn : Int) ≤ 24 := by omega
        by_cases hm1 : 1 ≤ m
        · skip
          by_cases hm64 : m ≤ 64
          · skip
            by_cases hi0 : 0 ≤ i
            · skip
              by_cases hix : i < x
              · skip
                by_cases hrn : rn = 0
                · skip
                  subst hrn
                  go_wp2_with fail
                  go_quiet (fail)
                  go_wp2_with fail
                  go_ret
                  exact ⟨ret_bool (by rw [HP.out]; first | (simp [*]; done) | (simp [*]; intros; omega) | (simp; intros; omega)), step_below HB0.out (step_below HBW.out (below_drewN (Below.refl _ _) _))⟩
                · skip
                  have hrnb : ((rn : Int) == 0) = false := by simpa using hrn
                  go_wp2_with fail
                  go_quiet (fail)
                  go_wp2_with fail
                  go_ret
                  exact ⟨ret_bool (by rw [HP.out]; first | (simp [*]; done) | (simp [*]; intros; omega) | (simp; intros; omega)), step_below HB0.out (step_below HBW.out (below_drewN (Below.refl _ _) _))⟩
              · skip
                have hixd : decide (i < x) = false := decide_eq_false hix
                go_wp2_with fail
                go_quiet (fail)
                go_wp2_with fail
                go_ret
                exact ⟨ret_bool (by rw [HP.out]; first | (simp [*]; done) | (simp [*]; intros; omega) | (simp; intros; omega)), step_below HB0.out (step_below HBW.out (below_drewN (Below.refl _ _) _))⟩
            · skip
              have hi0d : decide (0 ≤ i) = false := decide_eq_false hi0
              go_wp2_with fail
              go_quiet (fail)
              go_wp2_with fail
              go_ret
              exact ⟨ret_bool (by rw [HP.out]; first | (simp [*]; done) | (simp [*]; intros; omega) | (simp; intros; omega)), step_below HB0.out (step_below HBW.out (below_drewN (Below.refl _ _) _))⟩
          · skip
            have hm64d : decide (m ≤ 64) = false := decide_eq_false hm64
            go_wp2_with fail
            go_quiet (fail)
            go_wp2_with fail
            go_ret
            exact ⟨ret_bool (by rw [HP.out]; first | (simp [*]; done) | (simp [*]; intros; omega) | (simp; intros; omega)), step_below HB0.out (step_below HBW.out (below_drewN (Below.refl _ _) _))⟩
        · skip
          have hm1d : decide (1 ≤ m) = false := decide_eq_false hm1
          go_wp2_with fail
          go_quiet (fail)
          go_wp2_with fail
          go_ret
          exact ⟨ret_bool (by rw [HP.out]; first | (simp [*]; done) | (simp [*]; intros; omega) | (simp; intros; omega)), step_below HB0.out (step_below HBW.out (below_drewN (Below.refl _ _) _))⟩
      · skip
        have htni : ¬ (tn : Int) ≤ 24 := by omega
        have htnd : decide ((tn : Int) ≤ 24) = false := decide_eq_false htni
        have htnn : decide (tn ≤ 24) = false := decide_eq_false htn
        go_wp2_with fail
        go_quiet (fail)
        go_wp2_with fail
        go_ret
        exact ⟨ret_bool (by rw [HP.out]; first | (simp [*]; done) | (simp [*]; intros; omega) | (simp; intros; omega)), step_below HB0.out (step_below HBW.out (below_drewN (Below.refl _ _) _))⟩
    · skip
      have hkni : ¬ (kn : Int) ≤ 24 := by omega
      have hknd : decide ((kn : Int) ≤ 24) = false := decide_eq_false hkni
      have hknn : decide (kn ≤ 24) = false := decide_eq_false hkn
      go_wp2_with fail
      go_quiet (fail)
      go_wp2_with fail
      go_ret
      exact ⟨ret_bool (by rw [HP.out]; first | (simp [*]; done) | (simp [*]; intros; omega) | (simp; intros; omega)), step_below HB0.out (step_below HBW.out (below_drewN (Below.refl _ _) _))⟩
  have b6 : (k == 6) = false := by simpa using h6
  rw [if_neg (by omega), if_neg (by omega), if_neg (by omega), if_neg (by omega)] at HP
  go_wp2_with fail
  go_ret
  exact ⟨ret_bool (by rw [HP.out]; simp), step_below HB0.out HBW.out⟩
end Go.Proofs.Ytkgcbhpgkcfkhaa
