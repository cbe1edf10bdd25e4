/- ModelMeans: doing a transaction is doing its writes; for every input. Part 2. -/
import Derived.Test.YthmofoldmdafoaaGreatRma
import Derived.Test.YthmofoldmdafoaaGreatRrk
import Derived.Test.YthmofoldmdafoaaGreatRrj
import Derived.Test.YthmofoldmdafoaaGreatRra
namespace Go.Proofs.YthmofoldmdafoaaGreat
open Go.ChangeShapes Go.WideShapes Go.ChangeAt Go.RowKit Go.Maps Go.Shelf
set_option linter.unusedVariables false
set_option linter.unusedSimpArgs false

/-- No later call so far writes the key. -/
def NoA (rs : List ResV) (ops : List CallV) (o : CallV) (k i : Nat) : Prop := ∀ q y r, k < q → q < i → ops[q]? = some y → rs[q]? = some r → r.e = 0 → y.t = o.t → y.K = o.K → isW y = false
theorem again_step {rs : List ResV} {ops : List CallV} {o : CallV} {k i : Nat} (h : NoA rs ops o k i) {p : CallV} {s : ResV} (hp : ops[i]? = some p) (hs : rs[i]? = some s) (hf : s.e = 0 → p.t = o.t → p.K = o.K → isW p = false) : ∀ _ : false = false, NoA rs ops o k (i + 1) := fun _ q y r h1 h2 h3 h4 h5 h6 h7 => by
  by_cases e : q = i
  · subst e
    rw [hp] at h3
    rw [hs] at h4
    cases h3
    cases h4
    exact hf h5 h6 h7
  · exact h q y r h1 (by omega) h3 h4 h5 h6 h7
theorem again_here {rs : List ResV} {ops : List CallV} {o : CallV} {k i : Nat} {p : CallV} {s : ResV} (hp : ops[i]? = some p) (hs : rs[i]? = some s) (hk : k < i) (h1 : s.e = 0) (h2 : p.t = o.t) (h3 : p.K = o.K) (h4 : isW p = true) : againW (rs.map resC) ops o k :=
  ⟨i, p, resC s, hk, hp, by rw [List.getElem?_map, hs]; rfl, h1, h2, h3, h4⟩
theorem not_again {rs : List ResV} {ops : List CallV} {o : CallV} {k i : Nat} (h : NoA rs ops o k i) (hi : ops.length ≤ i) : ¬ againW (rs.map resC) ops o k := fun ⟨q, y, r, h1, h2, h3, h4, h5, h6, h7⟩ => by
  rw [List.getElem?_map] at h3
  cases hr : rs[q]? with
  | none => rw [hr] at h3; cases h3
  | some r' =>
    rw [hr] at h3
    cases h3
    have := h q y r' h1 (Nat.lt_of_lt_of_le (List.getElem?_eq_some_iff.1 h2).1 hi) h2 hr h4 h5 h6
    rw [h7] at this
    cases this
theorem str_ne {a b : List Int} (ha : Byt a) (hb : Byt b) (h : a ≠ b) : ((strOfNums a).toList == (strOfNums b).toList) = false := by
  rw [beq_eq_false_iff_ne]
  intro e
  have h1 := str_less ha hb
  have h2 := str_less hb ha
  rw [e, str_less hb hb, ltL_irr] at h1
  rw [e, str_less hb hb, ltL_irr] at h2
  exact h (ltL_total h1.symm h2.symm)
set_option maxRecDepth 100000 in
set_option maxHeartbeats 4000000 in
/-- last (26). -/
theorem last_law {S : Nat → Prop} {m : Md} {w : World} (h : MdR S w m) (x : TxnV) (hx : TxnAt w x) (n : Nat) (hon : x.on = n) (hn : n ≤ 1000000) (rn : Nat) (hrn : rn = n → ∀ o ∈ x.ops, o.rn ≤ 1000000 ∧ o.kn ≤ 1000000) (ra : Option Addr) (rc : Nat) (rs : List ResV) (hrl : rs.length = rn) (hR : ResR w ra rs)
    (hgood : x.ab = false → rn = n → ∀ k o y, x.ops[k]? = some o → rs[k]? = some y → y.e = 0 → isW o = true → ∃ z, 0 ≤ o.t ∧ m.tabs[o.t.toNat]? = some z ∧ (¬ againW (rs.map resC) x.ops o k → (getM z.2 o.K).map RV.P = leftW o)) :
    Calls Tryz.prog 26 #[.pointer (some ⟨m.p, 0, none⟩), .agg #[.slice x.oa x.on x.oc, .bool x.sn, .bool x.ab], .slice ra rn rc] w fun r w' => r = .returned (.bool true) ∧ Below w.heap.size w w' := by
  have HH := Lib.hid h
  have HTX := Lib.hid (And.intro hx hon)
  have HRN0 := Lib.hid hrn
  have HRR := Lib.hid (And.intro hR hrl)
  have HG := Lib.hid hgood
  have hni : (n : Int) ≤ 1000000 := by omega
  obtain ⟨w1, hw1⟩ : ∃ W, W = w.alloc (.cells #[.slice x.oa x.on x.oc, .bool x.sn, .bool x.ab] 38) := ⟨_, rfl⟩
  have hb1 : Below w.heap.size w w1 := by rw [hw1]; exact bl1 _ _
  have hx1 : BoxC w1 w.heap.size #[.slice x.oa x.on x.oc, .bool x.sn, .bool x.ab] 38 := by rw [hw1]; exact BoxC.new _ _ _
  have c0 := hx1.cell 0
  have c2 := hx1.cell 2
  simp only [List.getElem?_toArray, List.getElem?_cons_zero, List.getElem?_cons_succ] at c0 c2
  have HB1 := Lib.hid hb1
  have HX1 := Lib.hid hx1
  rw [hon] at c0
  clear h hx hon hrn hrl hR hgood hb1 hx1
  go_enter Tryz.func26, Tryz.ntmps26
  go_upto_region 1 with (fail)
  rw [← hw1]
  clear hw1
  cases hab : x.ab with
  | true =>
    rw [hab] at c2
    go_wp2_with fail
    go_ret
    exact ⟨rfl, HB1.out⟩
  | false =>
    rw [hab] at c2
    have HAB := Lib.hid hab
    clear hab
    by_cases hrn2 : rn = n
    · have HRN := Lib.hid (HRN0.out hrn2)
      clear HRN0
      subst hrn2
      have e4 : ((rn : Int) != (rn : Int)) = false := by simp
      go_wp2_with fail
      clear c0 c2
      go_loopw [7] (fun i wr => ∃ k : Nat, k ≤ rn ∧ i = .int .i64 (k : Int) ∧ Hid (Below w1.heap.size w1 wr)) (fun i _ => rn - (intOf i).toNat)
      case atStart => exact ⟨0, by omega, rfl, Lib.hid (Below.refl _ _)⟩
      case round =>
        obtain ⟨k, hk, rfl, HBW⟩ := hrel
        have c0 := (HX1.out.below HBW.out).cell 0
        simp only [List.getElem?_toArray, List.getElem?_cons_zero] at c0
        rw [HTX.out.2] at c0
        have HBW0 := Lib.hid (step_below HB1.out HBW.out)
        by_cases hlt : k < rn
        · have d1 : (k : Int) < (rn : Int) := by omega
          obtain ⟨o, ho⟩ : ∃ o, x.ops[k]? = some o := ⟨_, List.getElem?_eq_getElem (by rw [HTX.out.1.ol, HTX.out.2]; exact hlt)⟩
          obtain ⟨y, hy⟩ : ∃ y, rs[k]? = some y := ⟨_, List.getElem?_eq_getElem (by rw [HRR.out.2]; exact hlt)⟩
          obtain ⟨b1, o1, ea, ⟨z0, z1, z2, z3, z4, z5, z6⟩, hca⟩ := (HTX.out.1.below HBW0.out).os k o ho
          obtain ⟨b2, o2, eb, s0, _, _⟩ := (HRR.out.1.below HBW0.out) k y hy
          subst eb
          have HEA := Lib.hid ea
          rw [ea] at c0
          have HO := Lib.hid (And.intro ho hy)
          clear ho hy ea
          have hca0 := hca
          go_upto_region 7 with (fail)
          obtain ⟨w8, hw8⟩ : ∃ X, wr.alloc (.cells #[.int .i64 o.k, .int .i64 o.t, .int .i64 o.i, .slice o.ka o.kn o.kc, .slice o.ta o.tn o.tc, .int .i64 o.m, .slice o.ra o.rn o.rc] 74) = X := ⟨_, rfl⟩
          have hb8 : Below wr.heap.size wr w8 := by rw [← hw8]; exact bl1 _ _
          have hx8 : BoxC w8 wr.heap.size #[.int .i64 o.k, .int .i64 o.t, .int .i64 o.i, .slice o.ka o.kn o.kc, .slice o.ta o.tn o.tc, .int .i64 o.m, .slice o.ra o.rn o.rc] 74 := by rw [← hw8]; exact BoxC.new _ _ _
          rw [hw8]
          clear hw8
          obtain ⟨bx, hbx⟩ : ∃ b, wr.heap.size = b := ⟨_, rfl⟩
          have HB8 := Lib.hid (step_below HBW.out hb8)
          have HB80 := Lib.hid (step_below HBW0.out hb8)
          rw [hbx] at hx8 ⊢
          have HX8 := Lib.hid hx8
          have HCA := Lib.hid (hca0.below hb8)
          clear hca hca0
          have s0 := (hb8.cell (World.block_lt_of_cell? _ _ s0)).trans s0
          have c0 := (hb8.cell (World.block_lt_of_cell? _ _ c0)).trans c0
          have y0 := hx8.cell 0
          have y1 := hx8.cell 1
          have y3 := hx8.cell 3
          have y6 := hx8.cell 6
          simp only [List.getElem?_toArray, List.getElem?_cons_zero, List.getElem?_cons_succ] at y0 y1 y3 y6
          clear hbx hb8 hx8 z0 z1 z2 z3 z4 z5 z6
          by_cases he : y.e = 0
          · rw [he] at s0
            have HE0 := Lib.hid he
            clear he
            by_cases hk2 : o.k = 2
            · rw [hk2] at y0
              have HK := Lib.hid hk2
              clear hk2
              have w4 : IntKind.i64.wrap ((k : Int) + 1) = ((k + 1 : Nat) : Int) := by rw [IntKind.wrap_i64] <;> omega
              have HWO := Lib.hid (show isW o = true from decide_eq_true (.inl HK.out))
              go_wp2_with fail
              clear y0 y1 y3 y6 s0 c0

              go_loopw [9, 10] (fun b i wr => ∃ i' : Nat, k + 1 ≤ i' ∧ i' ≤ rn ∧ i = .int .i64 (i' : Int) ∧ ∃ bb : Bool, b = .bool bb ∧ Hid (bb = true → againW (rs.map resC) x.ops o k) ∧ Hid (bb = false → NoA rs x.ops o k i') ∧ Hid (Below w8.heap.size w8 wr)) (fun _ i _ => rn - (intOf i).toNat)
              case atStart => exact ⟨k + 1, Nat.le_refl _, by omega, rfl, false, rfl, Lib.hid (fun e => nomatch e), Lib.hid (fun _ q y r h1 h2 => by omega), Lib.hid (Below.refl _ _)⟩
              case round =>
                obtain ⟨i', hi1, hi2, rfl, bb, rfl, HA1, HA2, HBI⟩ := hrel
                have HBJ := Lib.hid (HB80.out.trans (HBI.out.mono HB80.out.size))
                have c0 := (HX1.out.below (step_below HB8.out HBI.out)).cell 0
                simp only [List.getElem?_toArray, List.getElem?_cons_zero] at c0
                rw [HTX.out.2, HEA.out] at c0
                have y0 := (HX8.out.below HBI.out).cell 0
                have y1 := (HX8.out.below HBI.out).cell 1
                have y3 := (HX8.out.below HBI.out).cell 3
                have y6 := (HX8.out.below HBI.out).cell 6
                simp only [List.getElem?_toArray, List.getElem?_cons_zero, List.getElem?_cons_succ] at y0 y1 y3 y6
                rw [HK.out] at y0
                by_cases hlt2 : i' < rn
                · have d2 : (i' : Int) < (rn : Int) := by omega
                  obtain ⟨p, hp⟩ : ∃ p, x.ops[i']? = some p := ⟨_, List.getElem?_eq_getElem (by rw [HTX.out.1.ol, HTX.out.2]; exact hlt2)⟩
                  obtain ⟨s, hs⟩ : ∃ s, rs[i']? = some s := ⟨_, List.getElem?_eq_getElem (by rw [HRR.out.2]; exact hlt2)⟩
                  obtain ⟨b3, o3, e3, ⟨z0, z1, z2, z3, z4, z5, z6⟩, hcp⟩ := (HTX.out.1.below HBJ.out).os i' p hp
                  obtain ⟨b4, o4, e4, s0, _, _⟩ := (HRR.out.1.below HBJ.out) i' s hs
                  rw [HEA.out] at e3
                  cases e3
                  cases e4
                  have HP := Lib.hid (And.intro hp (And.intro hs trivial))
                  clear hp hs
                  have w5 : IntKind.i64.wrap ((i' : Int) + 1) = ((i' + 1 : Nat) : Int) := by rw [IntKind.wrap_i64] <;> omega
                  go_upto_region 13 with (fail)
                  obtain ⟨w9, hw9⟩ : ∃ X, wr.alloc (.cells #[.int .i64 p.k, .int .i64 p.t, .int .i64 p.i, .slice p.ka p.kn p.kc, .slice p.ta p.tn p.tc, .int .i64 p.m, .slice p.ra p.rn p.rc] 74) = X := ⟨_, rfl⟩
                  have hb9 : Below wr.heap.size wr w9 := by rw [← hw9]; exact bl1 _ _
                  have hx9 : BoxC w9 wr.heap.size #[.int .i64 p.k, .int .i64 p.t, .int .i64 p.i, .slice p.ka p.kn p.kc, .slice p.ta p.tn p.tc, .int .i64 p.m, .slice p.ra p.rn p.rc] 74 := by rw [← hw9]; exact BoxC.new _ _ _
                  rw [hw9]
                  clear hw9
                  obtain ⟨b9, hb9e⟩ : ∃ b, wr.heap.size = b := ⟨_, rfl⟩
                  have HB99 := Lib.hid (step_below HBI.out hb9)
                  have hcp9 := hcp.below hb9
                  have hca9 := HCA.out.below (step_below HBI.out hb9)
                  rw [hb9e] at hx9 ⊢
                  have s0 := (hb9.cell (World.block_lt_of_cell? _ _ s0)).trans s0
                  have y0 := (hb9.cell (World.block_lt_of_cell? _ _ y0)).trans y0
                  have y1 := (hb9.cell (World.block_lt_of_cell? _ _ y1)).trans y1
                  have y3 := (hb9.cell (World.block_lt_of_cell? _ _ y3)).trans y3
                  have v0 := hx9.cell 0
                  have v1 := hx9.cell 1
                  have v3 := hx9.cell 3
                  simp only [List.getElem?_toArray, List.getElem?_cons_zero, List.getElem?_cons_succ] at v0 v1 v3
                  clear hb9e hb9 hx9 z0 z1 z2 z3 z4 z5 z6 c0 y6
                  cases bb with
                  | true =>
                    go_wp2_with fail
                    go_roundw
                    case rel => exact ⟨i' + 1, by omega, by omega, by go_num, true, rfl, HA1, Lib.hid (fun e => nomatch e), HB99⟩
                    case measure => simp [intOf]; omega
                  | false =>
                    by_cases hse : s.e = 0
                    · rw [hse] at s0
                      have HPE := Lib.hid hse
                      clear hse
                      by_cases hpt : p.t = o.t
                      · rw [hpt] at v1
                        have HPT := Lib.hid hpt
                        clear hpt
                        have q2 := kc2 w9 o.ka o.kn o.kc o.K HCA.out.kl hca9.ks
                        have q1 := kc2 w9 p.ka p.kn p.kc p.K hcp9.kl hcp9.ks
                        by_cases hpk : p.K = o.K
                        · rw [hpk] at q1
                          have HPK := Lib.hid hpk
                          clear hpk hcp hcp9 hca9
                          by_cases hp2 : p.k = 2
                          · rw [hp2] at v0
                            have HKK := Lib.hid hp2
                            clear hp2
                            go_wp2_with fail
                            go_roundw
                            case rel => exact ⟨i' + 1, by omega, by omega, by go_num, true, rfl, Lib.hid (fun _ => again_here HP.out.1 HP.out.2.1 (by omega) HPE.out HPT.out HPK.out (decide_eq_true (.inl HKK.out))), Lib.hid (fun e => nomatch e), HB99⟩
                            case measure => simp [intOf]; omega
                          · have f2 : (p.k == 2) = false := by rw [beq_eq_false_iff_ne]; exact hp2
                            by_cases hp3 : p.k = 3
                            · rw [hp3] at v0
                              have HKK := Lib.hid hp3
                              clear hp3
                              go_wp2_with fail
                              go_roundw
                              case rel => exact ⟨i' + 1, by omega, by omega, by go_num, true, rfl, Lib.hid (fun _ => again_here HP.out.1 HP.out.2.1 (by omega) HPE.out HPT.out HPK.out (decide_eq_true (.inr (.inl HKK.out)))), Lib.hid (fun e => nomatch e), HB99⟩
                              case measure => simp [intOf]; omega
                            · have f3 : (p.k == 3) = false := by rw [beq_eq_false_iff_ne]; exact hp3
                              by_cases hp4 : p.k = 4
                              · rw [hp4] at v0
                                have HKK := Lib.hid hp4
                                clear hp4
                                go_wp2_with fail
                                go_roundw
                                case rel => exact ⟨i' + 1, by omega, by omega, by go_num, true, rfl, Lib.hid (fun _ => again_here HP.out.1 HP.out.2.1 (by omega) HPE.out HPT.out HPK.out (decide_eq_true (.inr (.inr HKK.out)))), Lib.hid (fun e => nomatch e), HB99⟩
                                case measure => simp [intOf]; omega
                              · have f4 : (p.k == 4) = false := by rw [beq_eq_false_iff_ne]; exact hp4
                                have HKK := Lib.hid (And.intro hp2 (And.intro hp3 hp4))
                                go_wp2_with fail
                                go_roundw
                                case rel => exact ⟨i' + 1, by omega, by omega, by go_num, false, rfl, Lib.hid (fun e => nomatch e), Lib.hid (again_step (HA2.out rfl) HP.out.1 HP.out.2.1 (by intro _ _ _; exact decide_eq_false (fun h => by have := HKK.out; omega))), HB99⟩
                                case measure => simp [intOf]; omega
                        · have f9 : ((strOfNums p.K).toList == (strOfNums o.K).toList) = false := str_ne hcp.kb HCA.out.kb hpk
                          have HPK := Lib.hid hpk
                          clear hpk hcp hcp9 hca9
                          go_wp2_with fail
                          go_roundw
                          case rel => exact ⟨i' + 1, by omega, by omega, by go_num, false, rfl, Lib.hid (fun e => nomatch e), Lib.hid (again_step (HA2.out rfl) HP.out.1 HP.out.2.1 (by intro _ _ h; exact absurd h HPK.out)), HB99⟩
                          case measure => simp [intOf]; omega
                      · have f8 : (p.t == o.t) = false := by rw [beq_eq_false_iff_ne]; exact hpt
                        have HPT := Lib.hid hpt
                        clear hpt hcp hcp9 hca9
                        go_wp2_with fail
                        go_roundw
                        case rel => exact ⟨i' + 1, by omega, by omega, by go_num, false, rfl, Lib.hid (fun e => nomatch e), Lib.hid (again_step (HA2.out rfl) HP.out.1 HP.out.2.1 (by intro _ h; exact absurd h HPT.out)), HB99⟩
                        case measure => simp [intOf]; omega
                    · have f7 : (s.e == 0) = false := by rw [beq_eq_false_iff_ne]; exact hse
                      have HPE := Lib.hid hse
                      clear hse hcp hcp9 hca9
                      go_wp2_with fail
                      go_roundw
                      case rel => exact ⟨i' + 1, by omega, by omega, by go_num, false, rfl, Lib.hid (fun e => nomatch e), Lib.hid (again_step (HA2.out rfl) HP.out.1 HP.out.2.1 (by intro h; exact absurd h HPE.out)), HB99⟩
                      case measure => simp [intOf]; omega
                · have d2 : ¬ (i' : Int) < (rn : Int) := by omega
                  have hie : i' = rn := by omega
                  obtain ⟨z, hz1, hz2, hz3⟩ := HG.out HAB.out (by first | rfl | trivial) k o y HO.out.1 HO.out.2 HE0.out HWO.out
                  have HZ := Lib.hid (And.intro hz1 (And.intro hz2 hz3))
                  have hca := HCA.out.below HBI.out
                  have key := mget_law (HH.out.below HBJ.out) o.t.toNat z hz2 o.ka o.kn o.kc o.K hca.kl (HRN.out o (List.mem_of_getElem? HO.out.1)).2 hca.kb hca.ks
                  rw [Int.toNat_of_nonneg hz1] at key
                  have HKEY := Lib.hid key
                  clear hz1 hz2 hz3 hca key
                  go_wp2_with fail
                  refine HKEY.out.mono ?_; clear HKEY; rintro r w10 ⟨⟨gv, rfl, hgv⟩, hbg⟩
                  have HBG := Lib.hid (step_below (step_below HB8.out HBI.out) hbg)
                  have y0 := (hbg.cell (World.block_lt_of_cell? _ _ y0)).trans y0
                  have y6 := (hbg.cell (World.block_lt_of_cell? _ _ y6)).trans y6
                  cases bb with
                  | true =>
                    clear hgv hbg
                    go_wp2_with fail
                    try go_frame
                    go_roundw
                    case rel => exact ⟨k + 1, by omega, by go_num, HBG⟩
                    case measure => simp [intOf]; omega
                  | false =>
                    have hna : ¬ againW (rs.map resC) x.ops o k := not_again (HA2.out rfl) (by rw [HTX.out.1.ol, HTX.out.2, hie]; exact Nat.le_refl _)
                    obtain ⟨u, hu, huP⟩ : ∃ u, getM z.2 o.K = some u ∧ u.P = o.R.map P1.bs := by
                      have h1 := HZ.out.2.2 hna
                      unfold leftW at h1
                      rw [if_neg (by rw [HK.out]; decide)] at h1
                      cases hg : getM z.2 o.K with
                      | none => rw [hg] at h1; cases h1
                      | some u => rw [hg] at h1; exact ⟨u, rfl, Option.some.inj h1⟩
                    rw [hu] at hgv ⊢
                    simp only [Option.map_some, Option.isSome_some, Option.getD_some] at hgv ⊢
                    have hul : u.R.length = o.rn := by have h1 := congrArg List.length huP; unfold RV.P at h1; rw [List.length_map, List.length_map] at h1; rw [h1]; exact HCA.out.rl
                    rw [hul] at hgv
                    obtain ⟨ga, gc, R9, rfl, hgR, hgl⟩ := cpr_out hgv (show u.R.map P1.bs = o.R.map P1.bs from huP) hul
                    have hl9 : R9.length = o.rn := by have h1 := congrArg List.length hgR; rw [List.length_map, List.length_map] at h1; rw [h1]; exact HCA.out.rl
                    have key := rsame_law ga o.ra R9 o.R o.rn o.rn gc o.rc hl9 HCA.out.rl (HRN.out o (List.mem_of_getElem? HO.out.1)).1 (fun q hq => by
                      have h1 : q.bs ∈ R9.map P1.bs := List.mem_map.2 ⟨q, hq, rfl⟩
                      rw [hgR] at h1
                      obtain ⟨q', hq', e⟩ := List.mem_map.1 h1
                      rw [← e]; exact HCA.out.rb q' hq') HCA.out.rb w10 hgl (HCA.out.rs.below (step_below HBI.out hbg))
                    rw [show eqB R9 o.R = true from decide_eq_true hgR] at key
                    have HKEY := Lib.hid key
                    clear hgv hu huP hul hgR hgl hl9 key
                    go_wp2_with fail
                    refine HKEY.out.mono ?_; clear HKEY; rintro r w11 ⟨rfl, hb11⟩
                    replace HBG := Lib.hid (step_below HBG.out hb11)
                    clear hb11
                    go_wp2_with fail
                    try go_frame
                    go_roundw
                    case rel => exact ⟨k + 1, by omega, by go_num, HBG⟩
                    case measure => simp [intOf]; omega
            · have g2 : (o.k != 2) = true := by rw [bne_iff_ne]; exact hk2
              by_cases hk3 : o.k = 3
              · rw [hk3] at y0
                have HK := Lib.hid hk3
                clear hk3 hk2 g2
                have w4 : IntKind.i64.wrap ((k : Int) + 1) = ((k + 1 : Nat) : Int) := by rw [IntKind.wrap_i64] <;> omega
                have HWO := Lib.hid (show isW o = true from decide_eq_true (.inr (.inl HK.out)))
                go_wp2_with fail
                clear y0 y1 y3 y6 s0 c0

                go_loopw [9, 10] (fun b i wr => ∃ i' : Nat, k + 1 ≤ i' ∧ i' ≤ rn ∧ i = .int .i64 (i' : Int) ∧ ∃ bb : Bool, b = .bool bb ∧ Hid (bb = true → againW (rs.map resC) x.ops o k) ∧ Hid (bb = false → NoA rs x.ops o k i') ∧ Hid (Below w8.heap.size w8 wr)) (fun _ i _ => rn - (intOf i).toNat)
                case atStart => exact ⟨k + 1, Nat.le_refl _, by omega, rfl, false, rfl, Lib.hid (fun e => nomatch e), Lib.hid (fun _ q y r h1 h2 => by omega), Lib.hid (Below.refl _ _)⟩
                case round =>
                  obtain ⟨i', hi1, hi2, rfl, bb, rfl, HA1, HA2, HBI⟩ := hrel
                  have HBJ := Lib.hid (HB80.out.trans (HBI.out.mono HB80.out.size))
                  have c0 := (HX1.out.below (step_below HB8.out HBI.out)).cell 0
                  simp only [List.getElem?_toArray, List.getElem?_cons_zero] at c0
                  rw [HTX.out.2, HEA.out] at c0
                  have y0 := (HX8.out.below HBI.out).cell 0
                  have y1 := (HX8.out.below HBI.out).cell 1
                  have y3 := (HX8.out.below HBI.out).cell 3
                  have y6 := (HX8.out.below HBI.out).cell 6
                  simp only [List.getElem?_toArray, List.getElem?_cons_zero, List.getElem?_cons_succ] at y0 y1 y3 y6
                  rw [HK.out] at y0
                  by_cases hlt2 : i' < rn
                  · have d2 : (i' : Int) < (rn : Int) := by omega
                    obtain ⟨p, hp⟩ : ∃ p, x.ops[i']? = some p := ⟨_, List.getElem?_eq_getElem (by rw [HTX.out.1.ol, HTX.out.2]; exact hlt2)⟩
                    obtain ⟨s, hs⟩ : ∃ s, rs[i']? = some s := ⟨_, List.getElem?_eq_getElem (by rw [HRR.out.2]; exact hlt2)⟩
                    obtain ⟨b3, o3, e3, ⟨z0, z1, z2, z3, z4, z5, z6⟩, hcp⟩ := (HTX.out.1.below HBJ.out).os i' p hp
                    obtain ⟨b4, o4, e4, s0, _, _⟩ := (HRR.out.1.below HBJ.out) i' s hs
                    rw [HEA.out] at e3
                    cases e3
                    cases e4
                    have HP := Lib.hid (And.intro hp (And.intro hs trivial))
                    clear hp hs
                    have w5 : IntKind.i64.wrap ((i' : Int) + 1) = ((i' + 1 : Nat) : Int) := by rw [IntKind.wrap_i64] <;> omega
                    go_upto_region 13 with (fail)
                    obtain ⟨w9, hw9⟩ : ∃ X, wr.alloc (.cells #[.int .i64 p.k, .int .i64 p.t, .int .i64 p.i, .slice p.ka p.kn p.kc, .slice p.ta p.tn p.tc, .int .i64 p.m, .slice p.ra p.rn p.rc] 74) = X := ⟨_, rfl⟩
                    have hb9 : Below wr.heap.size wr w9 := by rw [← hw9]; exact bl1 _ _
                    have hx9 : BoxC w9 wr.heap.size #[.int .i64 p.k, .int .i64 p.t, .int .i64 p.i, .slice p.ka p.kn p.kc, .slice p.ta p.tn p.tc, .int .i64 p.m, .slice p.ra p.rn p.rc] 74 := by rw [← hw9]; exact BoxC.new _ _ _
                    rw [hw9]
                    clear hw9
                    obtain ⟨b9, hb9e⟩ : ∃ b, wr.heap.size = b := ⟨_, rfl⟩
                    have HB99 := Lib.hid (step_below HBI.out hb9)
                    have hcp9 := hcp.below hb9
                    have hca9 := HCA.out.below (step_below HBI.out hb9)
                    rw [hb9e] at hx9 ⊢
                    have s0 := (hb9.cell (World.block_lt_of_cell? _ _ s0)).trans s0
                    have y0 := (hb9.cell (World.block_lt_of_cell? _ _ y0)).trans y0
                    have y1 := (hb9.cell (World.block_lt_of_cell? _ _ y1)).trans y1
                    have y3 := (hb9.cell (World.block_lt_of_cell? _ _ y3)).trans y3
                    have v0 := hx9.cell 0
                    have v1 := hx9.cell 1
                    have v3 := hx9.cell 3
                    simp only [List.getElem?_toArray, List.getElem?_cons_zero, List.getElem?_cons_succ] at v0 v1 v3
                    clear hb9e hb9 hx9 z0 z1 z2 z3 z4 z5 z6 c0 y6
                    cases bb with
                    | true =>
                      go_wp2_with fail
                      go_roundw
                      case rel => exact ⟨i' + 1, by omega, by omega, by go_num, true, rfl, HA1, Lib.hid (fun e => nomatch e), HB99⟩
                      case measure => simp [intOf]; omega
                    | false =>
                      by_cases hse : s.e = 0
                      · rw [hse] at s0
                        have HPE := Lib.hid hse
                        clear hse
                        by_cases hpt : p.t = o.t
                        · rw [hpt] at v1
                          have HPT := Lib.hid hpt
                          clear hpt
                          have q2 := kc2 w9 o.ka o.kn o.kc o.K HCA.out.kl hca9.ks
                          have q1 := kc2 w9 p.ka p.kn p.kc p.K hcp9.kl hcp9.ks
                          by_cases hpk : p.K = o.K
                          · rw [hpk] at q1
                            have HPK := Lib.hid hpk
                            clear hpk hcp hcp9 hca9
                            by_cases hp2 : p.k = 2
                            · rw [hp2] at v0
                              have HKK := Lib.hid hp2
                              clear hp2
                              go_wp2_with fail
                              go_roundw
                              case rel => exact ⟨i' + 1, by omega, by omega, by go_num, true, rfl, Lib.hid (fun _ => again_here HP.out.1 HP.out.2.1 (by omega) HPE.out HPT.out HPK.out (decide_eq_true (.inl HKK.out))), Lib.hid (fun e => nomatch e), HB99⟩
                              case measure => simp [intOf]; omega
                            · have f2 : (p.k == 2) = false := by rw [beq_eq_false_iff_ne]; exact hp2
                              by_cases hp3 : p.k = 3
                              · rw [hp3] at v0
                                have HKK := Lib.hid hp3
                                clear hp3
                                go_wp2_with fail
                                go_roundw
                                case rel => exact ⟨i' + 1, by omega, by omega, by go_num, true, rfl, Lib.hid (fun _ => again_here HP.out.1 HP.out.2.1 (by omega) HPE.out HPT.out HPK.out (decide_eq_true (.inr (.inl HKK.out)))), Lib.hid (fun e => nomatch e), HB99⟩
                                case measure => simp [intOf]; omega
                              · have f3 : (p.k == 3) = false := by rw [beq_eq_false_iff_ne]; exact hp3
                                by_cases hp4 : p.k = 4
                                · rw [hp4] at v0
                                  have HKK := Lib.hid hp4
                                  clear hp4
                                  go_wp2_with fail
                                  go_roundw
                                  case rel => exact ⟨i' + 1, by omega, by omega, by go_num, true, rfl, Lib.hid (fun _ => again_here HP.out.1 HP.out.2.1 (by omega) HPE.out HPT.out HPK.out (decide_eq_true (.inr (.inr HKK.out)))), Lib.hid (fun e => nomatch e), HB99⟩
                                  case measure => simp [intOf]; omega
                                · have f4 : (p.k == 4) = false := by rw [beq_eq_false_iff_ne]; exact hp4
                                  have HKK := Lib.hid (And.intro hp2 (And.intro hp3 hp4))
                                  go_wp2_with fail
                                  go_roundw
                                  case rel => exact ⟨i' + 1, by omega, by omega, by go_num, false, rfl, Lib.hid (fun e => nomatch e), Lib.hid (again_step (HA2.out rfl) HP.out.1 HP.out.2.1 (by intro _ _ _; exact decide_eq_false (fun h => by have := HKK.out; omega))), HB99⟩
                                  case measure => simp [intOf]; omega
                          · have f9 : ((strOfNums p.K).toList == (strOfNums o.K).toList) = false := str_ne hcp.kb HCA.out.kb hpk
                            have HPK := Lib.hid hpk
                            clear hpk hcp hcp9 hca9
                            go_wp2_with fail
                            go_roundw
                            case rel => exact ⟨i' + 1, by omega, by omega, by go_num, false, rfl, Lib.hid (fun e => nomatch e), Lib.hid (again_step (HA2.out rfl) HP.out.1 HP.out.2.1 (by intro _ _ h; exact absurd h HPK.out)), HB99⟩
                            case measure => simp [intOf]; omega
                        · have f8 : (p.t == o.t) = false := by rw [beq_eq_false_iff_ne]; exact hpt
                          have HPT := Lib.hid hpt
                          clear hpt hcp hcp9 hca9
                          go_wp2_with fail
                          go_roundw
                          case rel => exact ⟨i' + 1, by omega, by omega, by go_num, false, rfl, Lib.hid (fun e => nomatch e), Lib.hid (again_step (HA2.out rfl) HP.out.1 HP.out.2.1 (by intro _ h; exact absurd h HPT.out)), HB99⟩
                          case measure => simp [intOf]; omega
                      · have f7 : (s.e == 0) = false := by rw [beq_eq_false_iff_ne]; exact hse
                        have HPE := Lib.hid hse
                        clear hse hcp hcp9 hca9
                        go_wp2_with fail
                        go_roundw
                        case rel => exact ⟨i' + 1, by omega, by omega, by go_num, false, rfl, Lib.hid (fun e => nomatch e), Lib.hid (again_step (HA2.out rfl) HP.out.1 HP.out.2.1 (by intro h; exact absurd h HPE.out)), HB99⟩
                        case measure => simp [intOf]; omega
                  · have d2 : ¬ (i' : Int) < (rn : Int) := by omega
                    have hie : i' = rn := by omega
                    obtain ⟨z, hz1, hz2, hz3⟩ := HG.out HAB.out (by first | rfl | trivial) k o y HO.out.1 HO.out.2 HE0.out HWO.out
                    have HZ := Lib.hid (And.intro hz1 (And.intro hz2 hz3))
                    have hca := HCA.out.below HBI.out
                    have key := mget_law (HH.out.below HBJ.out) o.t.toNat z hz2 o.ka o.kn o.kc o.K hca.kl (HRN.out o (List.mem_of_getElem? HO.out.1)).2 hca.kb hca.ks
                    rw [Int.toNat_of_nonneg hz1] at key
                    have HKEY := Lib.hid key
                    clear hz1 hz2 hz3 hca key
                    go_wp2_with fail
                    refine HKEY.out.mono ?_; clear HKEY; rintro r w10 ⟨⟨gv, rfl, hgv⟩, hbg⟩
                    have HBG := Lib.hid (step_below (step_below HB8.out HBI.out) hbg)
                    have y0 := (hbg.cell (World.block_lt_of_cell? _ _ y0)).trans y0
                    have y6 := (hbg.cell (World.block_lt_of_cell? _ _ y6)).trans y6
                    cases bb with
                    | true =>
                      clear hgv hbg
                      go_wp2_with fail
                      try go_frame
                      go_roundw
                      case rel => exact ⟨k + 1, by omega, by go_num, HBG⟩
                      case measure => simp [intOf]; omega
                    | false =>
                      have hna : ¬ againW (rs.map resC) x.ops o k := not_again (HA2.out rfl) (by rw [HTX.out.1.ol, HTX.out.2, hie]; exact Nat.le_refl _)
                      obtain ⟨u, hu, huP⟩ : ∃ u, getM z.2 o.K = some u ∧ u.P = o.R.map P1.bs := by
                        have h1 := HZ.out.2.2 hna
                        unfold leftW at h1
                        rw [if_neg (by rw [HK.out]; decide)] at h1
                        cases hg : getM z.2 o.K with
                        | none => rw [hg] at h1; cases h1
                        | some u => rw [hg] at h1; exact ⟨u, rfl, Option.some.inj h1⟩
                      rw [hu] at hgv ⊢
                      simp only [Option.map_some, Option.isSome_some, Option.getD_some] at hgv ⊢
                      have hul : u.R.length = o.rn := by have h1 := congrArg List.length huP; unfold RV.P at h1; rw [List.length_map, List.length_map] at h1; rw [h1]; exact HCA.out.rl
                      rw [hul] at hgv
                      obtain ⟨ga, gc, R9, rfl, hgR, hgl⟩ := cpr_out hgv (show u.R.map P1.bs = o.R.map P1.bs from huP) hul
                      have hl9 : R9.length = o.rn := by have h1 := congrArg List.length hgR; rw [List.length_map, List.length_map] at h1; rw [h1]; exact HCA.out.rl
                      have key := rsame_law ga o.ra R9 o.R o.rn o.rn gc o.rc hl9 HCA.out.rl (HRN.out o (List.mem_of_getElem? HO.out.1)).1 (fun q hq => by
                        have h1 : q.bs ∈ R9.map P1.bs := List.mem_map.2 ⟨q, hq, rfl⟩
                        rw [hgR] at h1
                        obtain ⟨q', hq', e⟩ := List.mem_map.1 h1
                        rw [← e]; exact HCA.out.rb q' hq') HCA.out.rb w10 hgl (HCA.out.rs.below (step_below HBI.out hbg))
                      rw [show eqB R9 o.R = true from decide_eq_true hgR] at key
                      have HKEY := Lib.hid key
                      clear hgv hu huP hul hgR hgl hl9 key
                      go_wp2_with fail
                      refine HKEY.out.mono ?_; clear HKEY; rintro r w11 ⟨rfl, hb11⟩
                      replace HBG := Lib.hid (step_below HBG.out hb11)
                      clear hb11
                      go_wp2_with fail
                      try go_frame
                      go_roundw
                      case rel => exact ⟨k + 1, by omega, by go_num, HBG⟩
                      case measure => simp [intOf]; omega
              · have g3 : (o.k != 3) = true := by rw [bne_iff_ne]; exact hk3
                by_cases hk4 : o.k = 4
                · rw [hk4] at y0
                  have HK := Lib.hid hk4
                  clear hk4 hk3 hk2 g2 g3
                  have w4 : IntKind.i64.wrap ((k : Int) + 1) = ((k + 1 : Nat) : Int) := by rw [IntKind.wrap_i64] <;> omega
                  have HWO := Lib.hid (show isW o = true from decide_eq_true (.inr (.inr HK.out)))
                  go_wp2_with fail
                  clear y0 y1 y3 y6 s0 c0

                  go_loopw [9, 10] (fun b i wr => ∃ i' : Nat, k + 1 ≤ i' ∧ i' ≤ rn ∧ i = .int .i64 (i' : Int) ∧ ∃ bb : Bool, b = .bool bb ∧ Hid (bb = true → againW (rs.map resC) x.ops o k) ∧ Hid (bb = false → NoA rs x.ops o k i') ∧ Hid (Below w8.heap.size w8 wr)) (fun _ i _ => rn - (intOf i).toNat)
                  case atStart => exact ⟨k + 1, Nat.le_refl _, by omega, rfl, false, rfl, Lib.hid (fun e => nomatch e), Lib.hid (fun _ q y r h1 h2 => by omega), Lib.hid (Below.refl _ _)⟩
                  case round =>
                    obtain ⟨i', hi1, hi2, rfl, bb, rfl, HA1, HA2, HBI⟩ := hrel
                    have HBJ := Lib.hid (HB80.out.trans (HBI.out.mono HB80.out.size))
                    have c0 := (HX1.out.below (step_below HB8.out HBI.out)).cell 0
                    simp only [List.getElem?_toArray, List.getElem?_cons_zero] at c0
                    rw [HTX.out.2, HEA.out] at c0
                    have y0 := (HX8.out.below HBI.out).cell 0
                    have y1 := (HX8.out.below HBI.out).cell 1
                    have y3 := (HX8.out.below HBI.out).cell 3
                    have y6 := (HX8.out.below HBI.out).cell 6
                    simp only [List.getElem?_toArray, List.getElem?_cons_zero, List.getElem?_cons_succ] at y0 y1 y3 y6
                    rw [HK.out] at y0
                    by_cases hlt2 : i' < rn
                    · have d2 : (i' : Int) < (rn : Int) := by omega
                      obtain ⟨p, hp⟩ : ∃ p, x.ops[i']? = some p := ⟨_, List.getElem?_eq_getElem (by rw [HTX.out.1.ol, HTX.out.2]; exact hlt2)⟩
                      obtain ⟨s, hs⟩ : ∃ s, rs[i']? = some s := ⟨_, List.getElem?_eq_getElem (by rw [HRR.out.2]; exact hlt2)⟩
                      obtain ⟨b3, o3, e3, ⟨z0, z1, z2, z3, z4, z5, z6⟩, hcp⟩ := (HTX.out.1.below HBJ.out).os i' p hp
                      obtain ⟨b4, o4, e4, s0, _, _⟩ := (HRR.out.1.below HBJ.out) i' s hs
                      rw [HEA.out] at e3
                      cases e3
                      cases e4
                      have HP := Lib.hid (And.intro hp (And.intro hs trivial))
                      clear hp hs
                      have w5 : IntKind.i64.wrap ((i' : Int) + 1) = ((i' + 1 : Nat) : Int) := by rw [IntKind.wrap_i64] <;> omega
                      go_upto_region 13 with (fail)
                      obtain ⟨w9, hw9⟩ : ∃ X, wr.alloc (.cells #[.int .i64 p.k, .int .i64 p.t, .int .i64 p.i, .slice p.ka p.kn p.kc, .slice p.ta p.tn p.tc, .int .i64 p.m, .slice p.ra p.rn p.rc] 74) = X := ⟨_, rfl⟩
                      have hb9 : Below wr.heap.size wr w9 := by rw [← hw9]; exact bl1 _ _
                      have hx9 : BoxC w9 wr.heap.size #[.int .i64 p.k, .int .i64 p.t, .int .i64 p.i, .slice p.ka p.kn p.kc, .slice p.ta p.tn p.tc, .int .i64 p.m, .slice p.ra p.rn p.rc] 74 := by rw [← hw9]; exact BoxC.new _ _ _
                      rw [hw9]
                      clear hw9
                      obtain ⟨b9, hb9e⟩ : ∃ b, wr.heap.size = b := ⟨_, rfl⟩
                      have HB99 := Lib.hid (step_below HBI.out hb9)
                      have hcp9 := hcp.below hb9
                      have hca9 := HCA.out.below (step_below HBI.out hb9)
                      rw [hb9e] at hx9 ⊢
                      have s0 := (hb9.cell (World.block_lt_of_cell? _ _ s0)).trans s0
                      have y0 := (hb9.cell (World.block_lt_of_cell? _ _ y0)).trans y0
                      have y1 := (hb9.cell (World.block_lt_of_cell? _ _ y1)).trans y1
                      have y3 := (hb9.cell (World.block_lt_of_cell? _ _ y3)).trans y3
                      have v0 := hx9.cell 0
                      have v1 := hx9.cell 1
                      have v3 := hx9.cell 3
                      simp only [List.getElem?_toArray, List.getElem?_cons_zero, List.getElem?_cons_succ] at v0 v1 v3
                      clear hb9e hb9 hx9 z0 z1 z2 z3 z4 z5 z6 c0 y6
                      cases bb with
                      | true =>
                        go_wp2_with fail
                        go_roundw
                        case rel => exact ⟨i' + 1, by omega, by omega, by go_num, true, rfl, HA1, Lib.hid (fun e => nomatch e), HB99⟩
                        case measure => simp [intOf]; omega
                      | false =>
                        by_cases hse : s.e = 0
                        · rw [hse] at s0
                          have HPE := Lib.hid hse
                          clear hse
                          by_cases hpt : p.t = o.t
                          · rw [hpt] at v1
                            have HPT := Lib.hid hpt
                            clear hpt
                            have q2 := kc2 w9 o.ka o.kn o.kc o.K HCA.out.kl hca9.ks
                            have q1 := kc2 w9 p.ka p.kn p.kc p.K hcp9.kl hcp9.ks
                            by_cases hpk : p.K = o.K
                            · rw [hpk] at q1
                              have HPK := Lib.hid hpk
                              clear hpk hcp hcp9 hca9
                              by_cases hp2 : p.k = 2
                              · rw [hp2] at v0
                                have HKK := Lib.hid hp2
                                clear hp2
                                go_wp2_with fail
                                go_roundw
                                case rel => exact ⟨i' + 1, by omega, by omega, by go_num, true, rfl, Lib.hid (fun _ => again_here HP.out.1 HP.out.2.1 (by omega) HPE.out HPT.out HPK.out (decide_eq_true (.inl HKK.out))), Lib.hid (fun e => nomatch e), HB99⟩
                                case measure => simp [intOf]; omega
                              · have f2 : (p.k == 2) = false := by rw [beq_eq_false_iff_ne]; exact hp2
                                by_cases hp3 : p.k = 3
                                · rw [hp3] at v0
                                  have HKK := Lib.hid hp3
                                  clear hp3
                                  go_wp2_with fail
                                  go_roundw
                                  case rel => exact ⟨i' + 1, by omega, by omega, by go_num, true, rfl, Lib.hid (fun _ => again_here HP.out.1 HP.out.2.1 (by omega) HPE.out HPT.out HPK.out (decide_eq_true (.inr (.inl HKK.out)))), Lib.hid (fun e => nomatch e), HB99⟩
                                  case measure => simp [intOf]; omega
                                · have f3 : (p.k == 3) = false := by rw [beq_eq_false_iff_ne]; exact hp3
                                  by_cases hp4 : p.k = 4
                                  · rw [hp4] at v0
                                    have HKK := Lib.hid hp4
                                    clear hp4
                                    go_wp2_with fail
                                    go_roundw
                                    case rel => exact ⟨i' + 1, by omega, by omega, by go_num, true, rfl, Lib.hid (fun _ => again_here HP.out.1 HP.out.2.1 (by omega) HPE.out HPT.out HPK.out (decide_eq_true (.inr (.inr HKK.out)))), Lib.hid (fun e => nomatch e), HB99⟩
                                    case measure => simp [intOf]; omega
                                  · have f4 : (p.k == 4) = false := by rw [beq_eq_false_iff_ne]; exact hp4
                                    have HKK := Lib.hid (And.intro hp2 (And.intro hp3 hp4))
                                    go_wp2_with fail
                                    go_roundw
                                    case rel => exact ⟨i' + 1, by omega, by omega, by go_num, false, rfl, Lib.hid (fun e => nomatch e), Lib.hid (again_step (HA2.out rfl) HP.out.1 HP.out.2.1 (by intro _ _ _; exact decide_eq_false (fun h => by have := HKK.out; omega))), HB99⟩
                                    case measure => simp [intOf]; omega
                            · have f9 : ((strOfNums p.K).toList == (strOfNums o.K).toList) = false := str_ne hcp.kb HCA.out.kb hpk
                              have HPK := Lib.hid hpk
                              clear hpk hcp hcp9 hca9
                              go_wp2_with fail
                              go_roundw
                              case rel => exact ⟨i' + 1, by omega, by omega, by go_num, false, rfl, Lib.hid (fun e => nomatch e), Lib.hid (again_step (HA2.out rfl) HP.out.1 HP.out.2.1 (by intro _ _ h; exact absurd h HPK.out)), HB99⟩
                              case measure => simp [intOf]; omega
                          · have f8 : (p.t == o.t) = false := by rw [beq_eq_false_iff_ne]; exact hpt
                            have HPT := Lib.hid hpt
                            clear hpt hcp hcp9 hca9
                            go_wp2_with fail
                            go_roundw
                            case rel => exact ⟨i' + 1, by omega, by omega, by go_num, false, rfl, Lib.hid (fun e => nomatch e), Lib.hid (again_step (HA2.out rfl) HP.out.1 HP.out.2.1 (by intro _ h; exact absurd h HPT.out)), HB99⟩
                            case measure => simp [intOf]; omega
                        · have f7 : (s.e == 0) = false := by rw [beq_eq_false_iff_ne]; exact hse
                          have HPE := Lib.hid hse
                          clear hse hcp hcp9 hca9
                          go_wp2_with fail
                          go_roundw
                          case rel => exact ⟨i' + 1, by omega, by omega, by go_num, false, rfl, Lib.hid (fun e => nomatch e), Lib.hid (again_step (HA2.out rfl) HP.out.1 HP.out.2.1 (by intro h; exact absurd h HPE.out)), HB99⟩
                          case measure => simp [intOf]; omega
                    · have d2 : ¬ (i' : Int) < (rn : Int) := by omega
                      have hie : i' = rn := by omega
                      obtain ⟨z, hz1, hz2, hz3⟩ := HG.out HAB.out (by first | rfl | trivial) k o y HO.out.1 HO.out.2 HE0.out HWO.out
                      have HZ := Lib.hid (And.intro hz1 (And.intro hz2 hz3))
                      have hca := HCA.out.below HBI.out
                      have key := mget_law (HH.out.below HBJ.out) o.t.toNat z hz2 o.ka o.kn o.kc o.K hca.kl (HRN.out o (List.mem_of_getElem? HO.out.1)).2 hca.kb hca.ks
                      rw [Int.toNat_of_nonneg hz1] at key
                      have HKEY := Lib.hid key
                      clear hz1 hz2 hz3 hca key
                      go_wp2_with fail
                      refine HKEY.out.mono ?_; clear HKEY; rintro r w10 ⟨⟨gv, rfl, hgv⟩, hbg⟩
                      have HBG := Lib.hid (step_below (step_below HB8.out HBI.out) hbg)
                      have y0 := (hbg.cell (World.block_lt_of_cell? _ _ y0)).trans y0
                      have y6 := (hbg.cell (World.block_lt_of_cell? _ _ y6)).trans y6
                      cases bb with
                      | true =>
                        clear hgv hbg
                        go_wp2_with fail
                        try go_frame
                        go_roundw
                        case rel => exact ⟨k + 1, by omega, by go_num, HBG⟩
                        case measure => simp [intOf]; omega
                      | false =>
                        have hna : ¬ againW (rs.map resC) x.ops o k := not_again (HA2.out rfl) (by rw [HTX.out.1.ol, HTX.out.2, hie]; exact Nat.le_refl _)
                        have hno : getM z.2 o.K = none := by
                          have h1 := HZ.out.2.2 hna
                          unfold leftW at h1
                          rw [if_pos HK.out] at h1
                          cases hg : getM z.2 o.K with
                          | none => rfl
                          | some u => rw [hg] at h1; cases h1
                        rw [hno] at hgv ⊢
                        simp only [Option.map_none, Option.isSome_none] at hgv ⊢
                        clear hgv hno
                        go_wp2_with fail
                        try go_frame
                        go_roundw
                        case rel => exact ⟨k + 1, by omega, by go_num, HBG⟩
                        case measure => simp [intOf]; omega
                · have g4 : (o.k != 4) = true := by rw [bne_iff_ne]; exact hk4
                  have w4 : IntKind.i64.wrap ((k : Int) + 1) = ((k + 1 : Nat) : Int) := by rw [IntKind.wrap_i64] <;> omega
                  go_wp2_with fail
                  go_roundw
                  case rel => exact ⟨k + 1, by omega, by go_num, HB8⟩
                  case measure => simp [intOf]; omega
          · have e5 : (y.e != 0) = true := by rw [bne_iff_ne]; exact he
            have w4 : IntKind.i64.wrap ((k : Int) + 1) = ((k + 1 : Nat) : Int) := by rw [IntKind.wrap_i64] <;> omega
            go_wp2_with fail
            go_roundw
            case rel => exact ⟨k + 1, by omega, by go_num, HB8⟩
            case measure => simp [intOf]; omega
        · have d1 : ¬ (k : Int) < (rn : Int) := by omega
          go_wp2_with fail
          go_ret
          exact ⟨rfl, HBW0.out⟩
    · have e4 : ((rn : Int) != (n : Int)) = true := by rw [bne_iff_ne]; omega
      go_wp2_with fail
      go_ret
      exact ⟨rfl, HB1.out⟩
end Go.Proofs.YthmofoldmdafoaaGreat
namespace Go.Proofs.YthmofoldmdafoaaGreat
open Go.ChangeShapes Go.WideShapes Go.ChangeAt Go.RowKit Go.Maps Go.Shelf
set_option linter.unusedVariables false
set_option linter.unusedSimpArgs false
theorem trV_posi {j : Job} (ok : okB j = true) {k m : Nat} (hk : k < j.T.length) (hm : m < (j.T.getD k 0 + 1).toNat) : trV j (k : Int) ((m : Int) - 1) = ((((nmL 0 (j.T.take k)).length + m : Nat) : Int), (k : Int), (m : Int) - 1, true) := by
  obtain ⟨tl, htl⟩ := nmP_pre j.T k (m + 1) hk hm
  rw [nmP_succ] at htl
  have hpl : (nmP j.T k m).length = (nmL 0 (j.T.take k)).length + m := by simp [nmP, rowN_length]
  refine trV_at j _ _ _ ?_ ?_
  · rw [named_ok ok, htl, ← hpl]
    simp
  · intro i hi e
    rw [named_ok ok, htl, ← hpl] at *
    rw [List.append_assoc, List.getElem?_append_left hi] at e
    have hm' := List.mem_of_getElem? e
    rw [nmP] at hm'
    rcases List.mem_append.1 hm' with h | h
    · obtain ⟨k', h1, h2⟩ := nmL_mem _ _ _ h
      simp at h1 h2
      omega
    · simp [rowN] at h
      obtain ⟨i', h1, h2⟩ := h
      omega

theorem filt_one {α : Type} (g : Nat → Int × α) (F x : Nat) (hg : ∀ i, (g i).1 = ((F + 1 + i : Nat) : Int)) : ∀ m, ((List.range m).map g).filter (fun e => decide (e.1 = ((F + 1 + x : Nat) : Int))) = if x < m then [g x] else []
  | 0 => by simp
  | m + 1 => by
    have ih := filt_one g F x hg m
    rw [List.range_succ, List.map_append, List.filter_append, ih]
    by_cases e : m = x
    · subst e
      rw [if_neg (Nat.lt_irrefl _), if_pos (Nat.lt_succ_self _)]
      simp [hg]
    · have hne : ¬ ((g m).1 = ((F + 1 + x : Nat) : Int)) := by rw [hg]; omega
      have h2 : ([m].map g).filter (fun e => decide (e.1 = ((F + 1 + x : Nat) : Int))) = [] := by rw [List.map_cons, List.map_nil, List.filter_cons, decide_eq_false hne]; rfl
      rw [h2, List.append_nil]
      by_cases h : x < m
      · rw [if_pos h, if_pos (by omega)]
      · rw [if_neg h, if_neg (by omega)]
theorem mayR_of {R : List (List Int)} (h : rOk R) : mayR (ofP R) = true := by
  have hl : (ofP R).length = R.length := List.length_map _
  unfold mayR allB
  simp only [Bool.and_eq_true, Bool.or_eq_true, decide_eq_true_eq, List.all_eq_true]
  refine ⟨fun p hp => ?_, by rw [hl]; exact h.1, by rw [hl]; exact h.2.1⟩
  unfold ofP at hp
  obtain ⟨b, hb, rfl⟩ := List.mem_map.1 hp
  have := (h.2.2 b hb).2
  simpa using this
/-- A row's entry of an index. -/
theorem entP_val {j : Job} (ok : okB j = true) {k x : Nat} (hk : k < j.T.length) (hx : (x : Int) < j.T.getD k 0) {p : Pr} (hK : keyOk p.1) (hR : rOk p.2) :
    entP j k (trV j k x).1 p = if x + 1 < p.2.length then [(entryL (p.2.getD (x + 1) []) p.1, p)] else [] := by
  have e0 := trV_posi ok hk (m := 0) (by omega)
  have e1 := trV_posi ok hk (m := x + 1) (by omega)
  rw [show ((x + 1 : Nat) : Int) - 1 = (x : Int) by omega] at e1
  rw [show ((0 : Nat) : Int) - 1 = -1 by omega] at e0
  obtain ⟨F, hF⟩ : ∃ F, (nmL 0 (j.T.take k)).length = F := ⟨_, rfl⟩
  rw [hF] at e0 e1
  have hmk : mayK p.1.length = true := by unfold mayK; rw [decide_eq_true_eq]; exact hK.2
  have hrk : rowOk (ofP p.2) = true := by unfold rowOk; rw [mayR_of hR]; simp
  have hl : (ofP p.2).length = p.2.length := List.length_map _
  unfold entP entV
  rw [e0, e1, hmk, hrk]
  simp only [Bool.and_self, if_true, Nat.add_zero, Int.toNat_natCast]
  unfold entL
  rw [ofP_bs, hl]
  have := filt_one (fun i => (((F + 1 + i : Nat) : Int), entryL (p.2.getD (i + 1) []) p.1)) F x (fun _ => rfl) (min (j.T.getD k 0).toNat (p.2.length - 1))
  rw [show F + (x + 1) = F + 1 + x by omega, this]
  by_cases h : x + 1 < p.2.length
  · rw [if_pos h, if_pos (by omega)]; rfl
  · rw [if_neg h, if_neg (by omega)]; rfl
/-- How many rows have that field. -/
def cntX (T : List Pr) (x : Nat) : Nat := (T.filter fun p => decide (x + 1 < p.2.length)).length
theorem lookU_len {j : Job} (ok : okB j = true) {k x : Nat} (hk : k < j.T.length) (hx : (x : Int) < j.T.getD k 0) : ∀ {T : List Pr}, (∀ p ∈ T, keyOk p.1 ∧ rOk p.2) → (lookU j k (trV j k x).1 T).length = cntX T x
  | [], _ => rfl
  | p :: T, h => by
    have ih := lookU_len ok hk hx (T := T) fun q hq => h q (List.mem_cons_of_mem _ hq)
    have hp := h p (List.mem_cons_self ..)
    unfold lookU cntX at *
    rw [List.flatMap_cons, List.length_append, entP_val ok hk hx hp.1 hp.2, ih, List.filter_cons]
    by_cases e : x + 1 < p.2.length
    · rw [if_pos e, if_pos (decide_eq_true e)]; simp; omega
    · rw [if_neg e, if_neg (by rw [decide_eq_false e]; decide)]; simp
theorem idx_len {j : Job} (ok : okB j = true) {k x : Nat} (hk : k < j.T.length) (hx : (x : Int) < j.T.getD k 0) {T : List Pr} (h : ∀ p ∈ T, keyOk p.1 ∧ rOk p.2) : (idxP j k x T).length = cntX T x := by
  unfold idxP lookE
  rw [List.length_map, List.length_mergeSort]
  exact lookU_len ok hk hx h
theorem idx_ris {j : Job} {k x : Int} {T : List Pr} (hT : tOk T) : (idxP j k x T).Pairwise fun a b => ltL a.1 b.1 = true := by
  unfold idxP
  rw [List.pairwise_map]
  exact lookE_ris hT
theorem idx_facts {j : Job} (ok : okB j = true) {k x : Nat} (hk : k < j.T.length) (hx : (x : Int) < j.T.getD k 0) {T : List Pr} (hT : tOk T) : ∀ q ∈ idxP j k x T, Byt q.1 ∧ ∃ F K, splitV q.1 = (F, K, 0) ∧ Byt F ∧ Byt K ∧ F.length ≤ 1000 ∧ K.length ≤ 1000 ∧ rowB T K F x = true := fun q hq => by
  unfold idxP at hq
  obtain ⟨e, he, rfl⟩ := List.mem_map.1 hq
  obtain ⟨h1, h2⟩ := lookE_mem he
  have hp := hT.2 e.2 h1
  rw [entP_val ok hk hx hp.1 hp.2] at h2
  split at h2
  · rename_i hl
    rw [List.mem_singleton] at h2
    have h3 : e.1 = entryL (e.2.2.getD (x + 1) []) e.2.1 := congrArg Prod.fst h2
    have hf : e.2.2[x + 1]? = some (e.2.2.getD (x + 1) []) := by rw [List.getD_eq_getElem?_getD, List.getElem?_eq_getElem hl]; rfl
    have hfm := List.mem_of_getElem? hf
    have hfo := hp.2.2.2 _ hfm
    have hmk : mayK e.2.1.length = true := by unfold mayK; rw [decide_eq_true_eq]; exact hp.1.2
    refine ⟨?_, e.2.2.getD (x + 1) [], e.2.1, ?_, hfo.1, hp.1.1, by have := hfo.2; omega, by have := hp.1.2.2; omega, ?_⟩
    · show Byt e.1
      rw [h3]; exact entryL_byt hfo.1 hp.1.1
    · show splitV e.1 = _
      rw [h3]; exact splitV_entry _ _ hfo.2 hmk
    · have hg := (getT_some hT.1).2 (show (e.2.1, e.2.2) ∈ T from h1)
      unfold getT at hg
      unfold rowB
      cases hfi : T.find? (fun p => decide (p.1 = e.2.1)) with
      | none => rw [hfi] at hg; cases hg
      | some p =>
        rw [hfi] at hg
        simp only [Option.map_some, Option.some.injEq] at hg
        show decide (p.2[x + 1]? = some _) = true
        rw [hg]; exact decide_eq_true hf
  · cases h2
end Go.Proofs.YthmofoldmdafoaaGreat
namespace Go.Proofs.YthmofoldmdafoaaGreat
open Go.ChangeShapes Go.WideShapes Go.ChangeAt Go.RowKit Go.Maps Go.Shelf
set_option linter.unusedVariables false
set_option linter.unusedSimpArgs false

theorem cntX_take {T : List Pr} {x i : Nat} {p : Pr} (h : T[i]? = some p) : cntX (T.take (i + 1)) x = cntX (T.take i) x + if x + 1 < p.2.length then 1 else 0 := by
  unfold cntX
  rw [List.take_add_one, h, List.filter_append, List.length_append]
  congr 1
  by_cases e : x + 1 < p.2.length
  · simp [e]
  · simp [e]
theorem cntX_le (T : List Pr) (x : Nat) : cntX T x ≤ T.length := List.length_filter_le _ _
set_option maxRecDepth 100000 in
set_option maxHeartbeats 4000000 in
/-- indexed (27). -/
theorem indexed_law {S : Nat → Prop} {m : Md} {w : World} (h : MdR S w m) (hS : ∀ k, S k → k < w.heap.size) (hf : ∀ z ∈ m.tabs, z.2.length ≤ 200000) (j : Job) (hjl : Ls .i64 w j.a j.cap j.T) (hjT : m.j.T = j.T) (hjn : m.j.n = j.n) :
    Calls Tryz.prog 27 #[.pointer (some ⟨m.p, 0, none⟩), .agg #[.int .i64 j.w, .int .i64 j.l, .int .i64 j.d, .int .i64 j.c, .int .i64 j.k, .int .i64 j.e, .slice j.a j.n j.cap]] w fun r w' => r = .returned (.bool true) ∧ Below w.heap.size w w' := by
  have hfew := h.few
  have hlen := h.len
  have hjlen : j.T.length = j.n := by rw [← hjT, ← hjn]; exact h.st.now.job.len
  have hn4 : j.n ≤ 4 := by rw [← hjn, ← hlen]; exact hfew.2
  obtain ⟨w1, hw1⟩ : ∃ W, W = w.alloc (.cells #[.int .i64 j.w, .int .i64 j.l, .int .i64 j.d, .int .i64 j.c, .int .i64 j.k, .int .i64 j.e, .slice j.a j.n j.cap] 24) := ⟨_, rfl⟩
  have hb1 : Below w.heap.size w w1 := by rw [hw1]; exact bl1 _ _
  have hx1 : BoxC w1 w.heap.size #[.int .i64 j.w, .int .i64 j.l, .int .i64 j.d, .int .i64 j.c, .int .i64 j.k, .int .i64 j.e, .slice j.a j.n j.cap] 24 := by rw [hw1]; exact BoxC.new _ _ _
  have HB1 := Lib.hid hb1
  have HX1 := Lib.hid hx1
  have HH := Lib.hid h
  have HSS := Lib.hid hS
  have HF := Lib.hid hf
  have HJ := Lib.hid (And.intro hjl (And.intro hjT (And.intro hjn (And.intro hjlen hlen))))
  have HTA := Lib.hid (mtabs_law (h.below hb1) (fun k hk => Nat.lt_of_lt_of_le (hS k hk) hb1.size) (fun z hz => by have := hf z hz; omega))
  clear h hS hf hjl hjT hjn hb1 hx1 hfew hlen hjlen
  go_enter Tryz.func27, Tryz.ntmps27
  go_upto_region 1 with (fail)
  rw [← hw1]
  clear hw1
  go_wp2_with fail
  refine HTA.out.mono ?_; clear HTA; rintro r w2 ⟨ta, tc, Ts, rfl, hb2, hT, hTG, hTS⟩
  have hTl : Ts.length = j.n := by
    have h1 := congrArg List.length hT
    rw [List.length_map, Md.P_len, HJ.out.2.2.2.2, HJ.out.2.2.1] at h1
    exact h1
  rw [hTl]
  have HTL := Lib.hid hTl
  have HT := Lib.hid (And.intro hT hTG)
  have HTB := Lib.hid (fun X (b : Below w2.heap.size w2 X) => ((hTS (fun _ => False) (fun _ h => h.elim)).now).below b)
  have HB2 := Lib.hid hb2
  have HB02 := Lib.hid (step_below HB1.out hb2)
  have c6 := (HX1.out.below hb2).cell 6
  simp only [List.getElem?_toArray, List.getElem?_cons_zero, List.getElem?_cons_succ] at c6
  have e0 : ((j.n : Int) != (j.n : Int)) = false := by simp
  clear hb2 hT hTG hTS hTl
  go_wp2_with fail
  clear c6
  go_loopw [6] (fun i wr => ∃ t : Nat, t ≤ j.n ∧ i = .int .i64 (t : Int) ∧ Hid (Below w2.heap.size w2 wr)) (fun i _ => j.n - (intOf i).toNat)
  case atStart => exact ⟨0, by omega, rfl, Lib.hid (Below.refl _ _)⟩
  case round =>
    obtain ⟨t, ht, rfl, HBW⟩ := hrel
    by_cases hlt : t < j.n
    · have d1 : (t : Int) < (j.n : Int) := by omega
      obtain ⟨y, hy⟩ : ∃ y, Ts[t]? = some y := ⟨_, List.getElem?_eq_getElem (by rw [HTL.out]; exact hlt)⟩
      have htj : t < j.T.length := by rw [HJ.out.2.2.2.1]; exact hlt
      obtain ⟨jb, jo, hja, hjc⟩ := HJ.out.1.rd t htj
      obtain ⟨tx, htx⟩ : ∃ tx, j.T.getD t 0 = tx := ⟨_, rfl⟩
      rw [htx] at hjc
      have hytab : y.P.map prC = m.P.getD t [] := by
        have h1 : (Ts.map tbC)[t]? = some (y.P.map prC) := by rw [List.getElem?_map, hy]; rfl
        rw [HT.out.1] at h1
        rw [List.getD_eq_getElem?_getD, h1]; rfl
      have htt : t < m.tabs.length := by rw [HJ.out.2.2.2.2, HJ.out.2.2.1]; exact hlt
      have hyl : y.P.length ≤ 200000 := by
        obtain ⟨z, hz⟩ : ∃ z, m.tabs[t]? = some z := ⟨_, List.getElem?_eq_getElem htt⟩
        have h1 := HF.out z (List.mem_of_getElem? hz)
        have h2 : m.P.getD t [] = tabP z.2 := by rw [List.getD_eq_getElem?_getD]; unfold Md.P; rw [List.getElem?_map, hz]; rfl
        rw [h2] at hytab
        have h3 := congrArg List.length hytab
        unfold tabP at h3
        rw [List.length_map, List.length_map] at h3
        omega
      obtain ⟨n, hn⟩ : ∃ n, y.P.length = n := ⟨_, rfl⟩
      obtain ⟨b9, o9, e9, _, _⟩ := HTB.out w2 (Below.refl _ _) t y hy
      subst e9
      have HCT := Lib.hid (fun X (b : Below w2.heap.size w2 X) => (by obtain ⟨_, _, e, q, _⟩ := HTB.out X b t y hy; cases e; rw [hn] at q; exact q : X.cell? ⟨b9, o9 + t, none⟩ = some (.slice y.pa n y.pc)))
      have HPR := Lib.hid (fun X (b : Below w2.heap.size w2 X) => (by obtain ⟨_, _, _, _, q⟩ := HTB.out X b t y hy; exact q : PairsR X y.pa y.P))
      have HCJ := Lib.hid (fun X (b : Below w2.heap.size w2 X) => (⟨by
          have h := (HX1.out.below (step_below HB2.out b)).cell 6
          simp only [List.getElem?_toArray, List.getElem?_cons_zero, List.getElem?_cons_succ] at h
          rw [hja] at h; exact h, ((step_below HB02.out b).cell (World.block_lt_of_cell? w _ hjc)).trans hjc⟩ : X.cell? ⟨w.heap.size, 6, none⟩ = some (.slice (some ⟨jb, jo, none⟩) j.n j.cap) ∧ X.cell? ⟨jb, jo + t, none⟩ = some (.int .i64 tx)))
      have HY := Lib.hid (And.intro hy (And.intro hytab (And.intro hn (And.intro htt (And.intro htj htx)))))
      have hni : (n : Int) ≤ 200000 := by omega
      have c8 := HCJ.out wr HBW.out
      obtain ⟨c8a, c8b⟩ := c8
      have w5t : IntKind.i64.wrap ((t : Int) + 1) = ((t + 1 : Nat) : Int) := by rw [IntKind.wrap_i64] <;> omega
      have hHJA := Lib.hid hja
      clear hy hytab hyl hn hjc hja htt htj htx c8a c8b
      obtain ⟨wq, hwq⟩ : ∃ X, X = wr := ⟨_, rfl⟩
      go_wp2_with fail
      go_loopw [7] (fun i wr => ∃ q : Nat, i = .int .i64 (q : Int) ∧ (q : Int) ≤ max tx 0 ∧ Hid (Below w2.heap.size w2 wr)) (fun i _ => (tx - intOf i).toNat)
      case atStart => exact ⟨0, rfl, by omega, HBW⟩
      case round =>
        obtain ⟨q, rfl, hq, HBQ⟩ := hrel
        obtain ⟨c8a, c8b⟩ := HCJ.out wr HBQ.out
        by_cases hlq : (q : Int) < tx
        · have htx2 : tx ≤ 2 := by
            have := (okB_T HH.out.ok t (by rw [HJ.out.2.1]; exact HY.out.2.2.2.2.1)).2
            rw [HJ.out.2.1, HY.out.2.2.2.2.2] at this
            exact this
          have w3 : IntKind.i64.wrap ((q : Int) + 1) = (q : Int) + 1 := by rw [IntKind.wrap_i64] <;> omega
          go_wp2_with fail
          clear c8a c8b
          go_loopw [8, 9] (fun a i wr => ∃ k c : Nat, k ≤ n ∧ c ≤ k ∧ i = .int .i64 (k : Int) ∧ a = .int .i64 (c : Int) ∧ Hid (c = cntX ((y.P.map prC).take k) q) ∧ Hid (Below w2.heap.size w2 wr)) (fun _ i _ => n - (intOf i).toNat)
          case atStart => exact ⟨0, 0, by omega, by omega, rfl, rfl, Lib.hid (by simp [cntX]), HBQ⟩
          case round =>
            obtain ⟨k, c, hk, hck, rfl, rfl, HC, HBI⟩ := hrel
            have ct := HCT.out wr HBI.out
            by_cases hlk : k < n
            · have d3 : (k : Int) < (n : Int) := by omega
              obtain ⟨p, hp⟩ : ∃ p, y.P[k]? = some p := ⟨_, List.getElem?_eq_getElem (by rw [HY.out.2.2.1]; exact hlk)⟩
              obtain ⟨b2, o2, e2, _, p1, _, _⟩ := HPR.out wr HBI.out k p hp
              rw [e2] at ct
              have HCS := Lib.hid (cntX_take (T := y.P.map prC) (x := q) (i := k) (p := prC p) (by rw [List.getElem?_map, hp]; rfl))
              have HPL := Lib.hid (show (prC p).2.length = p.R.length from List.length_map _)
              have w6 : IntKind.i64.wrap ((c : Int) + 1) = ((c + 1 : Nat) : Int) := by rw [IntKind.wrap_i64] <;> omega
              have w7 : IntKind.i64.wrap ((k : Int) + 1) = ((k + 1 : Nat) : Int) := by rw [IntKind.wrap_i64] <;> omega
              clear hp
              by_cases hr : q + 1 < p.R.length
              · have d4 : (q : Int) + 1 < (p.R.length : Int) := by omega
                go_wp2_with fail
                go_roundw
                case rel => exact ⟨k + 1, c + 1, by omega, by omega, rfl, rfl, Lib.hid (by rw [HCS.out, ← HC.out, HPL.out, if_pos hr]), HBI⟩
                case measure => simp [intOf]; omega
              · have d4 : ¬ (q : Int) + 1 < (p.R.length : Int) := by omega
                go_wp2_with fail
                go_roundw
                case rel => exact ⟨k + 1, c, by omega, by omega, rfl, rfl, Lib.hid (by rw [HCS.out, ← HC.out, HPL.out, if_neg hr]; rfl), HBI⟩
                case measure => simp [intOf]; omega
            · have d3 : ¬ (k : Int) < (n : Int) := by omega
              have hcT : c = cntX (m.P.getD t []) q := by
                have h1 := HC.out
                rw [List.take_of_length_le (by rw [List.length_map, HY.out.2.2.1]; omega), HY.out.2.1] at h1
                exact h1
              have HCC := Lib.hid hcT
              have HTOK := Lib.hid (HH.out.tok t)
              have hq1 : (q : Int) < m.j.T.getD t 0 := by rw [HJ.out.2.1, HY.out.2.2.2.2.2]; exact hlq
              have hq2 : t < m.j.T.length := by rw [HJ.out.2.1]; exact HY.out.2.2.2.2.1
              have hil := idx_len HH.out.ok hq2 hq1 HTOK.out.2
              have HEN := Lib.hid (fun (W5 : World) (b5 : Below wr.heap.size wr W5) (C1 C2 C3 Bs : Nat) (x1 : Boxed W5 C1 28 (.pointer (some ⟨m.p, 0, none⟩))) (x2 : Boxed W5 C2 3 (.int .i64 (t : Int))) (x3 : Boxed W5 C3 3 (.int .i64 (q : Int))) (x4 : Boxed W5 Bs 142 (.func (.func 84) #[] #[.pointer (some ⟨C1, 0, none⟩), .pointer (some ⟨C2, 0, none⟩), .pointer (some ⟨C3, 0, none⟩)])) => (by
                have hbW := step_below HB02.out (step_below HBI.out b5)
                have hk2 := lentries_law W5 Bs (idxP m.j t q (m.P.getD t [])) (by rw [hil]; have := cntX_le (m.P.getD t []) q; rw [← HY.out.2.1, List.length_map, HY.out.2.2.1] at this; rw [← HY.out.2.1]; omega) y.pa y.P n y.pc HY.out.2.2.1 (by omega) q (by omega) (fun p hp => by
                  have h1 := (HT.out.2 y (List.mem_of_getElem? HY.out.1)).1 p hp
                  have h2 := okK_pr h1
                  exact ⟨h2.kb, h2.rn, h2.rb⟩) (HPR.out W5 (step_below HBI.out b5)) (fun e he => (idx_facts HH.out.ok hq2 hq1 HTOK.out e he).1) (idx_ris HTOK.out) (fun e he => by
                  obtain ⟨_, F, K, h1, h2, h3, h4, h5, h6⟩ := idx_facts HH.out.ok hq2 hq1 HTOK.out e he
                  exact ⟨F, K, h1, h2, h3, h4, h5, by rw [HY.out.2.1]; exact h6⟩) (fun W0 b0 => over84_x okI 5 (by omega) Bs C1 C2 C3 (idxP m.j t q (m.P.getD t [])) W0 (fun _ => none) (boxed_below x4 b0) (fun W hW => by
                    have bb := step_below b0 (hW.mono (Nat.le_refl _))
                    have bw := step_below hbW bb
                    exact index1_law (HH.out.below bw) (fun k hk => Nat.lt_of_lt_of_le (HSS.out k hk) bw.size) C1 C2 C3 t q (boxed_below x1 bb) (boxed_below x2 bb) (boxed_below x3 bb) HY.out.2.2.2.1 tx (by rw [HJ.out.2.1, List.getElem?_eq_getElem HY.out.2.2.2.2.1]; have := HY.out.2.2.2.2.2; rw [List.getD_eq_getElem?_getD, List.getElem?_eq_getElem HY.out.2.2.2.2.1] at this; exact congrArg some this) hlq (fun z hz => by have := HF.out z hz; omega)) (fun _ _ => rfl) (fun _ _ _ _ => rfl))
                rw [hil, ← HCC.out] at hk2
                exact hk2 : Calls Tryz.prog 71 #[.func (.func 106) #[] #[.pointer (some ⟨Bs, 0, none⟩)], .slice y.pa n y.pc, .int .i64 (q : Int)] W5 fun r w' => r = .returned (.int .i64 (c : Int)) ∧ Below W5.heap.size W5 w'))
              have HCT := Lib.hid (fun X (b : Below wr.heap.size wr X) => HCT.out X (step_below HBI.out b))
              clear hcT hq1 hq2 hil
              go_upto_region 16 with (fail)
              clear ct
              refine wp_region_held_drew (S := (fun X => Below wr.heap.size wr X)) (by kernel_rfl) ((Below.refl _ _).drew) (fun hHeld => ?_)
              refine tp 0 ?_ rfl (.inl ⟨by rfl, ?_⟩) ?_
              rotate_left
              · intro W hSw; go_simp; try with_reducible rfl
              refine tp 1 ?_ rfl (.inl ⟨by rfl, ?_⟩) ?_
              rotate_left
              · intro W hSw; go_simp; try with_reducible rfl
              refine tp 2 ?_ rfl (.inl ⟨by rfl, ?_⟩) ?_
              rotate_left
              · intro W hSw; go_simp; try with_reducible rfl
              refine tp 3 ?_ rfl (.inl ⟨by rfl, ?_⟩) ?_
              rotate_left
              · intro W hSw; go_simp; try with_reducible rfl
              refine tp 5 ?_ rfl (.inl ⟨by rfl, ?_⟩) ?_
              rotate_left
              · intro W hSw; go_simp; try with_reducible rfl
              refine tp 6 ?_ rfl (.inl ⟨by rfl, ?_⟩) ?_
              rotate_left
              · intro W hSw; go_simp; try with_reducible rfl
              refine tp 7 ?_ rfl (.inl ⟨by rfl, ?_⟩) ?_
              rotate_left
              · intro W hSw; go_simp; try with_reducible rfl
              refine tp 8 ?_ rfl (.inl ⟨by rfl, ?_⟩) ?_
              rotate_left
              · intro W hSw; have m := HCT.out W hSw; go_simp; try with_reducible rfl
              refine tp 9 ?_ rfl (.inl ⟨by rfl, ?_⟩) ?_
              rotate_left
              · intro W hSw; go_simp; try with_reducible rfl
              refine wpAnyH_ready (rs := [4]) (by kernel_rfl) (by simp) ?_
              refine AllReadyH.cons (o := { dst := some 60, op := Op.call { callee := Callee.value (Operand.func 49), args := #[Operand.tmp 57, Operand.tmp 58, Operand.tmp 59], argTypes := #[28, 3, 3] }, type := 101, pos := "law.go:286", after := #[{ on := 1, ground := Ground.data }, { on := 2, ground := Ground.data }, { on := 3, ground := Ground.data }], guard := none }) rfl (fun K hK => ?_) AllReadyH.nil
              go_simp
              refine (mindex_law _ _ _ rfl (t : Int) (q : Int)).mono ?_; rintro r w5 ⟨rfl, x1, x2, x3, x4, hb5⟩
              have HB5 := Lib.hid (step_below hHeld hb5)
              have HX5 := Lib.hid (And.intro x1 (And.intro x2 (And.intro x3 x4)))
              clear x1 x2 x3 x4 hb5
              go_wp2_with fail
              refine hK.out _ _ HB5.out (fun hHeldn => ?_)
              clear hK K hHeld; have hHeld := hHeldn; clear hHeldn
              try simp only [Act.put, List.setIfInBounds_toArray, List.set_cons_zero, List.set_cons_succ]
              refine wpAnyH_ready (rs := [10]) (by kernel_rfl) (by simp) ?_
              refine AllReadyH.cons (o := { dst := some 66, op := Op.call { callee := Callee.value (Operand.func 71), args := #[Operand.tmp 60, Operand.tmp 64, Operand.tmp 65], argTypes := #[101, 69, 3] }, type := 3, pos := "law.go:286", after := #[{ on := 4, ground := Ground.data }, { on := 8, ground := Ground.data }, { on := 9, ground := Ground.data }, { on := 4, ground := Ground.chain }], guard := none }) rfl (fun K hK => ?_) AllReadyH.nil
              go_simp
              refine (HEN.out w5 HB5.out _ _ _ _ HX5.out.1 HX5.out.2.1 HX5.out.2.2.1 HX5.out.2.2.2).mono ?_; rintro r w6 ⟨rfl, hb6⟩
              have HB6 := Lib.hid (step_below HB5.out hb6)
              clear hb6
              go_wp2_with fail
              refine hK.out _ _ HB6.out (fun hHeldn => ?_)
              clear hK K hHeld; have hHeld := hHeldn; clear hHeldn
              try simp only [Act.put, List.setIfInBounds_toArray, List.set_cons_zero, List.set_cons_succ]
              refine tp 11 (.bool false) rfl (.inl ⟨by rfl, ?_⟩) ?_
              · intro W hSw; go_simp; try (first | rfl | (simp; done))
              refine wpAnyH_done (by kernel_rfl) ?_ _
              skip
              have HBN := Lib.hid (step_below HBI.out hHeld)
              go_wp2_with fail
              go_roundw
              case rel => exact ⟨q + 1, by go_num, by omega, HBN⟩
              case measure => simp [intOf]; omega
        · have d2 : ¬ (q : Int) < tx := hlq
          go_wp2_with fail
          go_roundw
          case rel => exact ⟨t + 1, by omega, by go_num, HBQ⟩
          case measure => simp [intOf]; omega
    · have d1 : ¬ (t : Int) < (j.n : Int) := by omega
      go_wp2_with fail
      go_ret
      exact ⟨rfl, step_below HB02.out HBW.out⟩
end Go.Proofs.YthmofoldmdafoaaGreat
