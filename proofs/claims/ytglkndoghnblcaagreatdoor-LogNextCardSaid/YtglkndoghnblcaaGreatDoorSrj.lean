/- The document's Manifest. -/
import Derived.Test.YtglkndoghnblcaaGreatDoorSri
import Derived.Test.YtglkndoghnblcaaGreatDoorOkg
import Derived.Deep.DeepCutAuto
namespace Go.Proofs.YtglkndoghnblcaaGreatDoor
open Go.ChangeShapes Go.WideShapes Go.ChangeAt Go.RowKit
set_option linter.unusedVariables false
set_option linter.unusedSimpArgs false
theorem head_no {g e f : Int} {nm : ByteArray} {xs : List LpV} (h : (mnHead g e f && (mnName e nm && decide ((xs.length : Int) ≤ 32))) = false) : manB g e f nm xs = false := manB_no (k := 0) (Nat.zero_le _) h
theorem part_no {g e f : Int} {nm : ByteArray} {xs : List LpV} {k : Nat} {x : LpV} (hx : xs[k]? = some x) (h : (mayB x.1 && (inB x.2 0 f && !((xs.take k).any fun y => eqS y.1 x.1))) = false) : manB g e f nm xs = false :=
  manB_no (k := k + 1) (by have := (List.getElem?_eq_some_iff.1 hx).1; omega) (by rw [okM_next hx, h, Bool.and_false])
set_option maxRecDepth 100000 in
set_option maxHeartbeats 4000000 in
/-- The document's Manifest (43). -/
theorem rman_law (g e f : Int) (nm : ByteArray) (a : Option Addr) (xs : List LpV) (n cap : Nat) (hs : nm.size ≤ maxLen) (hsx : ∀ x ∈ xs, x.1.size ≤ maxLen) (hn : xs.length = n) (hn2 : n ≤ 1000000) (w : World) (hR : LpsR w a xs) :
    Calls Tryz.prog 43 #[.agg #[.int .i64 g, .string nm, .int .i64 e, .int .i64 f, .slice a n cap]] w fun r w' => r = .returned (.bool (manB g e f nm xs)) ∧ Below w.heap.size w w' := by
  have HR := Lib.hid hR
  have HN := Lib.hid (And.intro hn hsx)
  have HMN := Lib.hid (fun W => rmayname_law nm hs W)
  have hni : (n : Int) ≤ 1000000 := by omega
  have hln : decide ((xs.length : Int) ≤ 32) = decide ((n : Int) ≤ 32) := by rw [hn]
  clear hR hn hsx hs
  go_enter Tryz.func43, Tryz.ntmps43
  go_upto_region 1 with (fail)
  obtain ⟨W1, hW0⟩ : ∃ W0, w.alloc (.cells #[.int .i64 g, .string nm, .int .i64 e, .int .i64 f, .slice a n cap] 39) = W0 := ⟨_, rfl⟩
  have hb0 : Below w.heap.size w W1 := by rw [← hW0]; exact bl1 _ _
  have bx : BoxC W1 w.heap.size #[.int .i64 g, .string nm, .int .i64 e, .int .i64 f, .slice a n cap] 39 := by rw [← hW0]; exact BoxC.new w _ 39
  try rw [hW0]
  clear hW0
  have HB0 := Lib.hid hb0
  have FQ := Lib.hid (fun X (b : Below W1.heap.size W1 X) => (⟨(bx.below b).cell 0, (bx.below b).cell 1, (bx.below b).cell 2, (bx.below b).cell 3, (bx.below b).cell 4⟩ : X.cell? ⟨w.heap.size, 0, none⟩ = some (.int .i64 g) ∧ X.cell? ⟨w.heap.size, 1, none⟩ = some (.string nm) ∧ X.cell? ⟨w.heap.size, 2, none⟩ = some (.int .i64 e) ∧ X.cell? ⟨w.heap.size, 3, none⟩ = some (.int .i64 f) ∧ X.cell? ⟨w.heap.size, 4, none⟩ = some (.slice a n cap)))
  clear hb0 bx
  obtain ⟨z0, z1, z2, z3, z4⟩ := FQ.out W1 (Below.refl _ _)
  have HBR := Lib.hid HB0.out
  by_cases h1 : g < 1
  · have HX := Lib.hid (head_no (g := g) (e := e) (f := f) (nm := nm) (xs := xs) (by unfold mnHead inB; rw [decide_eq_false (by omega)]; simp))
    go_wp2_with fail
    go_ret
    exact ⟨by rw [HX.out]; rfl, HBR.out⟩
  by_cases h2 : 2147483647 < g
  · have HX := Lib.hid (head_no (g := g) (e := e) (f := f) (nm := nm) (xs := xs) (by unfold mnHead inB; rw [decide_eq_false (by omega)]; simp))
    go_wp2_with fail
    go_ret
    exact ⟨by rw [HX.out]; rfl, HBR.out⟩
  by_cases h3 : e < 0
  · have HX := Lib.hid (head_no (g := g) (e := e) (f := f) (nm := nm) (xs := xs) (by unfold mnHead; rw [show inB e 0 16777215 = false by unfold inB; rw [decide_eq_false (by omega)]]; simp))
    go_wp2_with fail
    go_ret
    exact ⟨by rw [HX.out]; rfl, HBR.out⟩
  by_cases h4 : 16777215 < e
  · have HX := Lib.hid (head_no (g := g) (e := e) (f := f) (nm := nm) (xs := xs) (by unfold mnHead; rw [show inB e 0 16777215 = false by unfold inB; rw [decide_eq_false (by omega)]]; simp))
    go_wp2_with fail
    go_ret
    exact ⟨by rw [HX.out]; rfl, HBR.out⟩
  by_cases h5 : (32 : Int) < (n : Int)
  · have HX := Lib.hid (head_no (g := g) (e := e) (f := f) (nm := nm) (xs := xs) (by rw [hln, decide_eq_false (by omega)]; simp))
    go_wp2_with fail
    go_ret
    exact ⟨by rw [HX.out]; rfl, HBR.out⟩
  go_upto_region 3 with (fail)
  go_cut [59] (fun v wx => ∃ b : Bool, v = .bool b ∧ Hid ((b = false → okM g e f nm xs 0 = true) ∧ (b = true → manB g e f nm xs = false)) ∧ Hid (Below W1.heap.size W1 wx))
  case first =>
    have HOK := Lib.hid (fun (h6 : mnName e nm = true) (h7 : ¬ f < e) (h8 : ¬ 16777215 < f) => show okM g e f nm xs 0 = true by
      show (mnHead g e f && (mnName e nm && decide ((xs.length : Int) ≤ 32))) = true
      rw [h6, hln]
      unfold mnHead inB
      simp only [Bool.and_eq_true, decide_eq_true_eq]
      refine ⟨⟨?_, ?_, ?_⟩, trivial, ?_⟩ <;> omega)
    have HF1 := Lib.hid (fun (h : mnName e nm = false) => head_no (g := g) (e := e) (f := f) (nm := nm) (xs := xs) (by rw [h]; simp))
    have HF2 := Lib.hid (fun (h : inB f e 16777215 = false) => head_no (g := g) (e := e) (f := f) (nm := nm) (xs := xs) (by unfold mnHead; rw [h]; simp))
    clear hln
    cases hen : nm.toList.isEmpty with
    | true =>
      have HMO := Lib.hid (mayB_none hen)
      by_cases he0 : e = 0
      · have d0 : (e != 0) = false := by simp [he0]
        have HNM := Lib.hid (show mnName e nm = true by unfold mnName eqE; rw [hen, he0]; rfl)
        clear he0
        by_cases h7 : f < e
        · have HX := Lib.hid (HF2.out (by unfold inB; rw [decide_eq_false (by omega)]))
          go_wp2_with fail
          go_meet
          exact ⟨true, rfl, Lib.hid ⟨fun h => (by cases h), fun _ => HX.out⟩, Lib.hid (Below.refl _ _)⟩
        by_cases h8 : 16777215 < f
        · have HX := Lib.hid (HF2.out (by unfold inB; rw [decide_eq_false (by omega)]))
          go_wp2_with fail
          go_meet
          exact ⟨true, rfl, Lib.hid ⟨fun h => (by cases h), fun _ => HX.out⟩, Lib.hid (Below.refl _ _)⟩
        have HGO := Lib.hid (HOK.out HNM.out h7 h8)
        go_wp2_with fail
        go_meet
        exact ⟨false, rfl, Lib.hid ⟨fun _ => HGO.out, fun h => by cases h⟩, Lib.hid (Below.refl _ _)⟩
      · have d0 : (e != 0) = true := by simp [he0]
        have HX := Lib.hid (HF1.out (by unfold mnName eqE; rw [hen, HMO.out]; simp [he0]))
        clear he0
        go_wp2_with fail
        go_meet
        exact ⟨true, rfl, Lib.hid ⟨fun h => (by cases h), fun _ => HX.out⟩, Lib.hid (Below.refl _ _)⟩
    | false =>
      cases hmb : mayB nm with
      | false =>
        have HX := Lib.hid (HF1.out (by unfold mnName eqE; rw [hen, hmb]; simp))
        rw [hmb] at HMN
        clear hmb
        go_wp2_with (go_at_call 12; refine (HMN.out _).mono ?_; rintro r w' ⟨rfl, rfl⟩)
        go_meet
        exact ⟨true, rfl, Lib.hid ⟨fun h => (by cases h), fun _ => HX.out⟩, Lib.hid (Below.refl _ _)⟩
      | true =>
        have HNM := Lib.hid (show mnName e nm = true by unfold mnName; rw [hmb]; simp)
        rw [hmb] at HMN
        clear hmb
        by_cases h7 : f < e
        · have HX := Lib.hid (HF2.out (by unfold inB; rw [decide_eq_false (by omega)]))
          go_wp2_with (go_at_call 12; refine (HMN.out _).mono ?_; rintro r w' ⟨rfl, rfl⟩)
          go_meet
          exact ⟨true, rfl, Lib.hid ⟨fun h => (by cases h), fun _ => HX.out⟩, Lib.hid (Below.refl _ _)⟩
        by_cases h8 : 16777215 < f
        · have HX := Lib.hid (HF2.out (by unfold inB; rw [decide_eq_false (by omega)]))
          go_wp2_with (go_at_call 12; refine (HMN.out _).mono ?_; rintro r w' ⟨rfl, rfl⟩)
          go_meet
          exact ⟨true, rfl, Lib.hid ⟨fun h => (by cases h), fun _ => HX.out⟩, Lib.hid (Below.refl _ _)⟩
        have HGO := Lib.hid (HOK.out HNM.out h7 h8)
        have d7 : decide (f < e) = false := by simp; omega
        have d8 : decide (16777215 < f) = false := by simp; omega
        go_wp2_with (go_at_call 12; refine (HMN.out _).mono ?_; rintro r w' ⟨rfl, rfl⟩)
        go_meet
        exact ⟨false, rfl, Lib.hid ⟨fun _ => HGO.out, fun h => by cases h⟩, Lib.hid (Below.refl _ _)⟩
  case rest =>
  obtain ⟨bx, rfl, HOB, HBW⟩ := hcut
  cases bx with
  | true =>
    have HX := Lib.hid (HOB.out.2 rfl)
    have HBZ := Lib.hid (step_below HB0.out HBW.out)
    go_wp2_with fail
    go_ret
    exact ⟨by rw [HX.out]; rfl, HBZ.out⟩
  | false =>
  have HOK := Lib.hid (HOB.out.1 rfl)
  clear z0 z1 z2 z3 z4 HBR hln h1 h2 h3 h4 h5 HMN
  go_wp2_with fail
  go_loopw [3] (fun i wr => ∃ k : Nat, k ≤ n ∧ i = .int .i64 (k : Int) ∧ Hid (okM g e f nm xs k = true) ∧ Hid (Below W1.heap.size W1 wr)) (fun i _ => n - (intOf i).toNat)
  case atStart => exact ⟨0, by omega, rfl, HOK, HBW⟩
  case round =>
    clear HOK HBW
    obtain ⟨k, hk, rfl, HOK, HBW⟩ := hrel
    obtain ⟨z0, z1, z2, z3, z4⟩ := FQ.out wr HBW.out
    have HBR := Lib.hid (fun m => below_drewN (step_below HB0.out HBW.out) m)
    by_cases hlt : k < n
    · have d1 : (k : Int) < (n : Int) := by omega
      obtain ⟨x, hx⟩ : ∃ x, xs[k]? = some x := ⟨_, List.getElem?_eq_getElem (by rw [HN.out.1]; exact hlt)⟩
      obtain ⟨b, off, rfl, c0, c1⟩ := (HR.out.below (step_below HB0.out HBW.out)) k x hx
      have HXX := Lib.hid hx
      have HMN := Lib.hid (fun m => rmayname_law x.1 (HN.out.2 x (List.mem_of_getElem? hx)) (wr.drewN m))
      obtain ⟨mb, hmb⟩ : ∃ b, mayB x.1 = b := ⟨_, rfl⟩
      obtain ⟨xn, hxn⟩ : ∃ y, x.1 = y := ⟨_, rfl⟩
      obtain ⟨xt, hxt⟩ : ∃ y, x.2 = y := ⟨_, rfl⟩
      have HXE := Lib.hid (And.intro hxn hxt)
      have HPN := Lib.hid (fun h => part_no (g := g) (e := e) (f := f) (nm := nm) HXX.out h)
      have HOX := Lib.hid (okM_next (g := g) (e := e) (f := f) (nm := nm) HXX.out)
      rw [hmb] at HMN HPN HOX
      rw [hxn] at HMN c0
      rw [hxt] at c1
      clear hx hxn hxt hmb
      cases mb with
      | false =>
        have HX := Lib.hid (HPN.out rfl)
        go_wp2_with fail
        go_quiet ((go_at_call 12; exact Calls.quiet_of_same (HMN.out _)))
        go_wp2_with fail
        try rw [Exit.noGoto_ret]
        go_ret
        exact ⟨by rw [HX.out]; rfl, HBR.out _⟩
      | true =>
        by_cases h1 : xt < 0
        · have HX := Lib.hid (HPN.out (by rw [HXE.out.2]; unfold inB; rw [decide_eq_false (by omega)]; rfl))
          go_wp2_with fail
          go_quiet ((go_at_call 12; exact Calls.quiet_of_same (HMN.out _)))
          go_wp2_with fail
          try rw [Exit.noGoto_ret]
          go_ret
          exact ⟨by rw [HX.out]; rfl, HBR.out _⟩
        by_cases h2 : f < xt
        · have HX := Lib.hid (HPN.out (by rw [HXE.out.2]; unfold inB; rw [decide_eq_false (by omega)]; rfl))
          go_wp2_with fail
          go_quiet ((go_at_call 12; exact Calls.quiet_of_same (HMN.out _)))
          go_wp2_with fail
          try rw [Exit.noGoto_ret]
          go_ret
          exact ⟨by rw [HX.out]; rfl, HBR.out _⟩
        have HIN := Lib.hid (show inB xt 0 f = true by unfold inB; rw [decide_eq_true (by omega)])
        go_wp2_with fail
        go_quiet ((go_at_call 12; exact Calls.quiet_of_same (HMN.out _)))
        go_wp2_with fail
        have HBQ := Lib.hid (below_drewN HBW.out nq)
        clear c0 c1 z0 z1 z2 z3 z4 HMN
        obtain ⟨WO, rfl⟩ : ∃ WO, WO = wr := ⟨_, rfl⟩
        go_loopw [4] (fun i wr => ∃ j : Nat, j ≤ k ∧ i = .int .i64 (j : Int) ∧ Hid ((xs.take j).any (fun y => eqS y.1 x.1) = false) ∧ Hid (Below W1.heap.size W1 wr)) (fun i _ => k - (intOf i).toNat)
        case atStart => exact ⟨0, by omega, rfl, Lib.hid rfl, HBQ⟩
        case round =>
          clear HBQ
          obtain ⟨j, hj, rfl, HJ, HBJ⟩ := hrel
          obtain ⟨z0, z1, z2, z3, z4⟩ := FQ.out wr HBJ.out
          have HBR := Lib.hid (fun m => below_drewN (step_below HB0.out HBJ.out) m)
          by_cases hjk : j < k
          · have d2 : (j : Int) < (k : Int) := by omega
            have d3 : (j : Int) < (n : Int) := by omega
            obtain ⟨y, hy⟩ : ∃ y, xs[j]? = some y := ⟨_, List.getElem?_eq_getElem (by rw [HN.out.1]; omega)⟩
            obtain ⟨_, _, ea, c0, _⟩ := (HR.out.below (step_below HB0.out HBJ.out)) j y hy
            cases ea
            obtain ⟨_, _, ea, c1, _⟩ := (HR.out.below (step_below HB0.out HBJ.out)) k x HXX.out
            cases ea
            rw [HXE.out.1] at c1
            have HNX := Lib.hid (show (xs.take (j + 1)).any (fun y => eqS y.1 x.1) = eqS y.1 x.1 by rw [List.take_add_one, hy, List.any_append, HJ.out]; simp)
            have HIY := Lib.hid (show eqS y.1 x.1 = true → (xs.take k).any (fun y => eqS y.1 x.1) = true from fun h => List.any_eq_true.2 ⟨y, by
              rw [List.mem_take_iff_getElem]
              obtain ⟨hjl, hje⟩ := List.getElem?_eq_some_iff.1 hy
              exact ⟨j, by omega, hje⟩, h⟩)
            obtain ⟨yn, hyn⟩ : ∃ z, y.1 = z := ⟨_, rfl⟩
            rw [hyn] at c0
            obtain ⟨q, hq⟩ : ∃ q, (yn.toList == xn.toList) = q := ⟨_, rfl⟩
            have HQ := Lib.hid (show eqS y.1 x.1 = q by rw [hyn, HXE.out.1]; exact hq)
            clear hy hyn
            cases q with
            | true =>
              have HX := Lib.hid (HPN.out (by rw [HIY.out HQ.out]; simp))
              go_wp2_with fail
              go_quiet (fail)
              go_wp2_with fail
              try rw [Exit.noGoto_ret]
              go_ret
              exact ⟨by rw [HX.out]; rfl, HBR.out _⟩
            | false =>
              go_wp2_with fail
              go_quiet (fail)
              go_wp2_with fail
              go_roundw
              case rel => exact ⟨j + 1, by omega, by go_num, Lib.hid (by rw [HNX.out]; exact HQ.out), Lib.hid (below_drewN HBJ.out _)⟩
              case measure => simp [intOf]; omega
          · have d2 : ¬ (j : Int) < (k : Int) := by omega
            obtain rfl : j = k := by omega
            have HNX := Lib.hid (show okM g e f nm xs (j + 1) = true by rw [HOX.out, HOK.out, HXE.out.2, HIN.out, HJ.out]; rfl)
            go_wp2_with fail
            go_roundw
            case rel => exact ⟨j + 1, by omega, by go_num, HNX, HBJ⟩
            case measure => simp [intOf]; omega
    · have d1 : ¬ (k : Int) < (n : Int) := by omega
      obtain rfl : k = n := by omega
      have HX := Lib.hid (show manB g e f nm xs = true by unfold manB; rw [HN.out.1]; exact HOK.out)
      go_wp2_with fail
      go_ret
      exact ⟨by rw [HX.out]; rfl, HBR.out 0⟩
end Go.Proofs.YtglkndoghnblcaaGreatDoor
