/- The program's Next. -/
import Derived.Test.YtglkndoghnblcaaGreatDoorLpk
import Derived.Test.YtglkndoghnblcaaGreatDoorSrm
namespace Go.Proofs.YtglkndoghnblcaaGreatDoor
open Go.ChangeShapes Go.WideShapes Go.ChangeAt Go.RowKit
set_option linter.unusedVariables false
set_option linter.unusedSimpArgs false
/-- What Next answers: the manifest's parts, and the error. -/
def nxV (ok : Bool) (g e mx : Int) (nm : ByteArray) (L : List LpV) : (Int × ByteArray × Int × Int × List LpV) × Int :=
  if ok && manB (g + 1) e mx nm L then ((g + 1, nm, e, mx, L), 0) else ((0, ⟨#[]⟩, 0, 0, []), 2)
theorem nxV_1 (g e mx : Int) (nm : ByteArray) (L : List LpV) : nxV false g e mx nm L = ((0, ⟨#[]⟩, 0, 0, []), 2) := rfl
theorem nxV_2 {g e mx : Int} {nm : ByteArray} {L : List LpV} (h : manB (g + 1) e mx nm L = false) : nxV true g e mx nm L = ((0, ⟨#[]⟩, 0, 0, []), 2) := by unfold nxV; rw [h]; rfl
theorem nxV_3 {g e mx : Int} {nm : ByteArray} {L : List LpV} (h : manB (g + 1) e mx nm L = true) : nxV true g e mx nm L = ((g + 1, nm, e, mx, L), 0) := by unfold nxV; rw [h]; rfl
def NxR (w : World) (V : (Int × ByteArray × Int × Int × List LpV) × Int) (r : Ending) (w' : World) : Prop :=
  (∃ a c, r = .returned (.tuple #[.agg #[.int .i64 V.1.1, .string V.1.2.1, .int .i64 V.1.2.2.1, .int .i64 V.1.2.2.2.1, .slice a V.1.2.2.2.2.length c], .int .i64 V.2]) ∧ LpsR w' a V.1.2.2.2.2 ∧ V.1.2.2.2.2.length ≤ c) ∧ Below w.heap.size w w'
theorem NxR_no {w w' : World} {V : (Int × ByteArray × Int × Int × List LpV) × Int} (h : V = ((0, ⟨#[]⟩, 0, 0, []), 2)) (b : Below w.heap.size w w') : NxR w V (.returned (.tuple #[.agg #[.int .i64 0, .string { data := #[] }, .int .i64 0, .int .i64 0, .slice none 0 0], .int .i64 2])) w' := by
  subst h
  exact ⟨⟨none, 0, rfl, fun k x hx => by simp at hx, Nat.le_refl _⟩, b⟩
theorem man_g {g e f : Int} {nm : ByteArray} {xs : List LpV} (h : manB g e f nm xs = true) : 0 ≤ g ∧ g ≤ 2147483647 := by
  by_cases k : mnHead g e f = true
  · unfold mnHead inB at k
    simp at k
    omega
  · have := manB_no (g := g) (e := e) (f := f) (nm := nm) (xs := xs) (k := 0) (Nat.zero_le _) (by unfold okM; rw [Bool.not_eq_true] at k; rw [k]; rfl)
    rw [h] at this; cases this
theorem zer_g {g e f : Int} {nm : ByteArray} {n : Nat} (h : zerB g e f nm n = true) : 0 ≤ g ∧ g ≤ 2147483647 := by
  unfold zerB at h
  simp at h
  omega
theorem BoxC.grown {W W' : World} {B : Nat} {row : Option Nat} {cs : Array Value} {t : TypeId} (h : BoxC W B cs t) (g : W.grownBy W' row) (hne : some B ≠ row) : BoxC W' B cs t := (g.block B h.lt hne).trans h
theorem ok_or {a b : Bool} (h : a = true) : (a || b) = true := by rw [h]; rfl
set_option maxRecDepth 100000 in
set_option maxHeartbeats 4000000 in
/-- The program's Next (15). -/
theorem next_law (g e f fl : Int) (nm : ByteArray) (a b : Option Addr) (c d n m : Nat) (xs ys : List LpV) (hs : nm.size ≤ maxLen) (hsx : ∀ x ∈ xs, x.1.size ≤ maxLen) (hsy : ∀ x ∈ ys, x.1.size ≤ maxLen) (hn : xs.length = n) (hm : ys.length = m) (hnm : n + m ≤ 1000000) (hnc : n ≤ c) (w : World) (hA : LpsR w a xs) (hB : LpsR w b ys) (hna : a = none → c = 0) (hnb : b = none → d = 0) :
    Calls Tryz.prog 15 #[.agg #[.int .i64 g, .string nm, .int .i64 e, .int .i64 f, .slice a n c], .int .i64 fl, .slice b m d] w (NxR w (nxV (manB g e f nm xs || zerB g e f nm n) g e (if f < fl then fl else f) nm (keepL e (xs ++ ys)))) := by
  have HR := Lib.hid (And.intro hA hB)
  have HN := Lib.hid (And.intro hn hm)
  have HNL := Lib.hid (And.intro hna hnb)
  have HSS := Lib.hid (And.intro hs (And.intro hsx hsy))
  have hn6 : n ≤ 1000000 := by omega
  have HM := Lib.hid (fun W (b : Below w.heap.size w W) => mayman_law g e f nm a xs n c hs hsx hn hn6 hnc W (hA.below b))
  have HZR := Lib.hid (fun W => zero_law g e f nm a n c W)
  obtain ⟨mx, hmx⟩ : ∃ z, (if f < fl then fl else f) = z := ⟨_, rfl⟩
  rw [hmx]
  have HMX := Lib.hid hmx
  have HG1 := Lib.hid (fun h => man_g (g := g) (e := e) (f := f) (nm := nm) (xs := xs) h)
  have HG2 := Lib.hid (fun h => zer_g (g := g) (e := e) (f := f) (nm := nm) (n := n) h)
  clear hA hB hna hnb hs hsx hsy hn hm hmx
  go_enter Tryz.func15, Tryz.ntmps15
  go_upto_region 1 with (fail)
  obtain ⟨W1, hW1⟩ : ∃ W1, (w.alloc (.cells #[.int .i64 g, .string nm, .int .i64 e, .int .i64 f, .slice a n c] 39)).alloc (.cells #[.int .i64 0, .string { data := #[] }, .int .i64 0, .int .i64 0, .slice none 0 0] 39) = W1 := ⟨_, rfl⟩
  have hb1 : Below w.heap.size w W1 := by rw [← hW1]; exact step_below (bl1 _ _) (bl1 _ _)
  have bx : BoxC W1 w.heap.size #[.int .i64 g, .string nm, .int .i64 e, .int .i64 f, .slice a n c] 39 := by rw [← hW1]; exact (BoxC.new w _ 39).alloc _
  have bxr : BoxC W1 (w.heap.size + 1) #[.int .i64 0, .string { data := #[] }, .int .i64 0, .int .i64 0, .slice none 0 0] 39 := by
    rw [← hW1]
    have := BoxC.new (w.alloc (.cells #[.int .i64 g, .string nm, .int .i64 e, .int .i64 f, .slice a n c] 39)) #[.int .i64 0, .string { data := #[] }, .int .i64 0, .int .i64 0, .slice none 0 0] 39
    simpa using this
  have hs1 : w.heap.size + 2 ≤ W1.heap.size := by rw [← hW1]; simp
  try rw [hW1]
  clear hW1
  have HW1 := Lib.hid hb1
  have y0 := bx.cell 0
  have y1 := bx.cell 1
  have y2 := bx.cell 2
  have y3 := bx.cell 3
  have y4 := bx.cell 4
  simp at y0 y1 y2 y3 y4
  clear hb1
  go_wp2_with fail
  refine (HM.out _ HW1.out).mono ?_; rintro r w1 ⟨rfl, hb2⟩
  have HB1 := Lib.hid hb2
  have y0 := (bx.below hb2).cell 0
  have y1 := (bx.below hb2).cell 1
  have y2 := (bx.below hb2).cell 2
  have y3 := (bx.below hb2).cell 3
  have y4 := (bx.below hb2).cell 4
  simp at y0 y1 y2 y3 y4
  clear hb2
  cases hM : manB g e f nm xs
  · go_wp2_with fail
    refine (HZR.out _).mono ?_; rintro r w2 ⟨rfl, hb2⟩
    have HB2 := Lib.hid (step_below HB1.out hb2)
    clear hb2
    cases hZ : zerB g e f nm n
    · have HBW2 := Lib.hid (step_below HW1.out HB2.out)
      have bxr2 := bxr.below HB2.out
      clear y0 y1 y2 y3 y4
      have x3 := bxr2
      have z0 := x3.cell 0
      have f0 := x3.frozen 0
      have z1 := x3.cell 1
      have f1 := x3.frozen 1
      have z2 := x3.cell 2
      have f2 := x3.frozen 2
      have z3 := x3.cell 3
      have f3 := x3.frozen 3
      have z4 := x3.cell 4
      have f4 := x3.frozen 4
      simp only [List.getElem?_toArray, List.getElem?_cons_zero, List.getElem?_cons_succ] at z0 z1 z2 z3 z4
      have H95 := Lib.hid (show w2.grownBy (((((w2.setCell ⟨w.heap.size + 1, 0, none⟩ (.int .i64 0)).setCell ⟨w.heap.size + 1, 1, none⟩ (.string { data := #[] })).setCell ⟨w.heap.size + 1, 2, none⟩ (.int .i64 0)).setCell ⟨w.heap.size + 1, 3, none⟩ (.int .i64 0)).setCell ⟨w.heap.size + 1, 4, none⟩ (.slice none 0 0)) (some (w.heap.size + 1)) from oth_trans (oth_set _ _ _ _) (oth_trans (oth_set _ _ _ _) (oth_trans (oth_set _ _ _ _) (oth_trans (oth_set _ _ _ _) (oth_set _ _ _ _)))))
      have X9 := Lib.hid (((((x3.put 0 (.int .i64 0)).put 1 (.string { data := #[] })).put 2 (.int .i64 0)).put 3 (.int .i64 0)).put 4 (.slice none 0 0))
      have HB9 := Lib.hid (((((HBW2.out.setCell (p := ⟨w.heap.size + 1, 0, none⟩) (by simp) (.int .i64 0)).setCell (p := ⟨w.heap.size + 1, 1, none⟩) (by simp) (.string { data := #[] })).setCell (p := ⟨w.heap.size + 1, 2, none⟩) (by simp) (.int .i64 0)).setCell (p := ⟨w.heap.size + 1, 3, none⟩) (by simp) (.int .i64 0)).setCell (p := ⟨w.heap.size + 1, 4, none⟩) (by simp) (.slice none 0 0))
      clear x3
      go_wp2_with fail
      clear z0 z1 z2 z3 z4 f0 f1 f2 f3 f4
      generalize ((((w2.setCell ⟨w.heap.size + 1, 0, none⟩ (.int .i64 0)).setCell ⟨w.heap.size + 1, 1, none⟩ (.string { data := #[] })).setCell ⟨w.heap.size + 1, 2, none⟩ (.int .i64 0)).setCell ⟨w.heap.size + 1, 3, none⟩ (.int .i64 0)).setCell ⟨w.heap.size + 1, 4, none⟩ (.slice none 0 0) = W9 at *
      refine bodyPost_ret (v := .tuple #[.agg #[.int .i64 0, .string { data := #[] }, .int .i64 0, .int .i64 0, .slice none 0 0], .int .i64 2]) ?_ rfl (NxR_no (by rw [hM, hZ]; rfl) HB9.out)
      have x0' := X9.out.cell 0
      have x1' := X9.out.cell 1
      have x2' := X9.out.cell 2
      have x3' := X9.out.cell 3
      have x4' := X9.out.cell 4
      simp at x0' x1' x2' x3' x4'
      simp [results, Tryz.results15, go_sem, x0', x1', x2', x3', x4']
    · obtain ⟨hg0, hg1⟩ := HG2.out hZ
      have HOK := Lib.hid (show (manB g e f nm xs || zerB g e f nm n) = true by rw [hZ, Bool.or_true])
      clear hM hZ
      have z0 := (bx.below HB2.out).cell 0
      have z1 := (bx.below HB2.out).cell 1
      have z2 := (bx.below HB2.out).cell 2
      have z3 := (bx.below HB2.out).cell 3
      have z4 := (bx.below HB2.out).cell 4
      simp at z0 z1 z2 z3 z4
      clear y0 y1 y2 y3 y4
      go_upto_region 4 with (fail)
      rw [HMX.out]
      obtain ⟨W3, hW3⟩ : ∃ W3, w2.alloc (.cells #[.int .i64 (g + 1), .string nm, .int .i64 e, .int .i64 mx, .slice none 0 0] 39) = W3 := ⟨_, rfl⟩
      have hb3 : Below w2.heap.size w2 W3 := by rw [← hW3]; exact bl1 _ _
      have bn3 : BoxC W3 w2.heap.size #[.int .i64 (g + 1), .string nm, .int .i64 e, .int .i64 mx, .slice none 0 0] 39 := by rw [← hW3]; exact BoxC.new _ _ _
      have hs3 : W3.heap.size = w2.heap.size + 1 := by rw [← hW3]; simp
      try rw [hW3]
      clear hW3
      have q4 := (bx.below (step_below HB2.out hb3)).cell 4
      simp at q4
      have HB3 := Lib.hid hb3
      have BN3 := Lib.hid bn3
      have hc3 := bn3.cell 4
      clear z0 z1 z2 z3 z4 hb3 bn3
      obtain ⟨W3', hW3'⟩ : ∃ W, W3.alloc (.cells #[.slice a n c, .slice b m d] 37) = W := ⟨_, rfl⟩
      have hc5 : W3'.cell? ⟨W3.heap.size, 0, none⟩ = some (.slice a n c) := by rw [← hW3']; simp [go_sem]
      have hc6 : W3'.cell? ⟨W3.heap.size, 1, none⟩ = some (.slice b m d) := by rw [← hW3']; simp [go_sem]
      have hb4 : Below W3.heap.size W3 W3' := by rw [← hW3']; exact bl1 _ _
      have hs4 : W3'.heap.size = W3.heap.size + 1 := by rw [← hW3']; simp
      have b03 : Below w.heap.size w W3' := step_below HW1.out (step_below HB2.out (step_below HB3.out hb4))
      have HCC := Lib.hid (concat_law W3.heap.size a b c d n m xs ys HN.out.1 HN.out.2 hnm W3' hc5 hc6 (HR.out.1.below b03) (HR.out.2.below b03) HNL.out.1 HNL.out.2)
      have HW3' := Lib.hid hW3'
      have HS34 := Lib.hid (And.intro hs3 hs4)
      clear hs3 hs4
      have HB4 := Lib.hid hb4
      clear hc5 hc6 b03 hb4 hW3'
      go_wp2_with fail
      rw [HW3'.out]
      refine HCC.out.mono ?_; rintro r w4 ⟨v4, rfl, hown4, hb5⟩
      obtain ⟨a4, c4, rfl⟩ := own_form hown4
      have HZ4 := Lib.hid hown4
      have HB25 := Lib.hid (step_below HB3.out (step_below HB4.out hb5))
      have BN4 := Lib.hid (BN3.out.below (step_below HB4.out hb5))
      have hsz4 : w2.heap.size + 2 ≤ w4.heap.size := by have := hb5.size; have := HS34.out.1; have := HS34.out.2; omega
      have hcap4 := own_cap hown4
      have hlt3 : w2.heap.size < W3'.heap.size := by have := HS34.out.1; have := HS34.out.2; omega
      have hs2w : w.heap.size + 1 < w4.heap.size := by have := HB2.out.size; omega
      clear hown4 hb5 q4 hc3 HCC HW3'
      go_wp2_with fail
      go_loopw [38] (fun i wr => ∃ (k : Nat) (v : Value), k ≤ n + m ∧ i = .int .i64 (k : Int) ∧ Hid (BoxC wr w2.heap.size #[.int .i64 (g + 1), .string nm, .int .i64 e, .int .i64 mx, v] 39) ∧ Hid (wr.ownsRow w4.heap.size 42 2 v (keepL e ((xs ++ ys).take k)).length (lcells (keepL e ((xs ++ ys).take k)))) ∧ Hid (w4.grownBy wr (some w2.heap.size))) (fun i _ => n + m - (intOf i).toNat)
      case atStart => exact ⟨0, _, Nat.zero_le _, rfl, BN4, Lib.hid (World.ownsRow_nil _ _ _ _), Lib.hid (oth_below _ (Below.refl _ _))⟩
      case round =>
        obtain ⟨k, v, hk, rfl, HBN, HO, HG⟩ := hrel
        have HB2R := Lib.hid (HB25.out.grown HG.out (by omega) (fun j hj => by cases hj; exact Nat.le_refl _))
        have hsr : w2.heap.size + 2 ≤ wr.heap.size := Nat.le_trans hsz4 HG.out.size
        by_cases hlt : k < n + m
        · have d1 : (k : Int) < ((n + m : Nat) : Int) := by omega
          obtain ⟨x, hx⟩ : ∃ x, (xs ++ ys)[k]? = some x := ⟨_, List.getElem?_eq_getElem (by rw [List.length_append, HN.out.1, HN.out.2]; exact hlt)⟩
          have HX := Lib.hid hx
          obtain ⟨b1, o1, e1, y0, y1⟩ := (lps_own (own_oth HZ4.out (by omega) HG.out) (by rw [List.length_append, HN.out.1, HN.out.2])) k x hx
          subst e1
          obtain ⟨xn, hxn⟩ : ∃ z, x.1 = z := ⟨_, rfl⟩
          obtain ⟨xt, hxt⟩ : ∃ z, x.2 = z := ⟨_, rfl⟩
          rw [hxn] at y0
          rw [hxt] at y1
          have HXE := Lib.hid (And.intro hxn hxt)
          clear hx hxn hxt
          go_upto_region 7 with (fail)
          obtain ⟨W6, hW6⟩ : ∃ W6, wr.alloc (.cells #[.string xn, .int .i64 xt] 42) = W6 := ⟨_, rfl⟩
          have hb6 : Below wr.heap.size wr W6 := by rw [← hW6]; exact bl1 _ _
          have bp6 : BoxC W6 wr.heap.size #[.string xn, .int .i64 xt] 42 := by rw [← hW6]; exact BoxC.new _ _ _
          try rw [hW6]
          clear hW6 y0 y1
          have y0 := bp6.cell 0
          have y1 := bp6.cell 1
          have q2 := ((bx.below HB2.out).below (step_below HB2R.out hb6)).cell 2
          have q4 := (HBN.out.below hb6).cell 4
          simp at y0 y1 q2 q4
          have HB6 := Lib.hid hb6
          have BP6 := Lib.hid bp6
          clear hb6 bp6
          by_cases hkp : e < xt
          · have HKP := Lib.hid (keep_yes HX.out (by rw [HXE.out.2]; exact hkp))
            have HNE := Lib.hid (show some w2.heap.size ≠ v.ownBlock from fun h => by have := (HO.out.lt _ h.symm).1; omega)
            have HWS := Lib.hid (show w4.heap.size ≤ wr.heap.size from HG.out.size)
            have HL := Lib.hid (show (keepL e ((xs ++ ys).take k)).length ≤ 1000000 from Nat.le_trans (keepL_len _ _) (by rw [List.length_take]; omega))
            go_wp2_with (at_builtin; refine append_lps rfl (.tmp 48) (.tmp 50) rfl w4.heap.size v _ _ rfl ((own_below HO.out HB6.out).alloc _) (some ⟨W6.heap.size, 0, none⟩) 1 1 [(xn, xt)] rfl rfl (lp_box _ (by simp [go_sem]) (by simp [go_sem])) (fun h => by cases h) (by have := HL.out; omega) (by have := HWS.out; have := HB6.out.size; simp; omega) ?_; intro v8 w8 hown8 hgrow8; obtain ⟨a8, c8, hv8⟩ := own_form hown8; subst hv8; have bn8 := ((HBN.out.below HB6.out).alloc _).grown hgrow8 HNE.out; have q8 := bn8.cell 4; have f8 := bn8.frozen 4; simp at q8; have BN8 := Lib.hid (bn8.put 4 (.slice a8 ((keepL e ((xs ++ ys).take k)).length + 1) c8)); have b8 : Below w4.heap.size wr w8 := ((HB6.out.mono HWS.out).alloc (Nat.le_trans HWS.out HB6.out.size) _).grown hgrow8 (by have := HWS.out; have := HB6.out.size; simp; omega) (fun j hj => (HO.out.lt j hj).1); have HG8 := Lib.hid (oth_trans (grown_below HG.out b8) (oth_set w8 w2.heap.size 4 (.slice a8 ((keepL e ((xs ++ ys).take k)).length + 1) c8))); have HO8 := Lib.hid (own_oth hown8 (by omega) (oth_set w8 w2.heap.size 4 (.slice a8 ((keepL e ((xs ++ ys).take k)).length + 1) c8))); clear bn8 b8 hown8 hgrow8)
            go_roundw
            case rel =>
              refine ⟨k + 1, .slice a8 ((keepL e ((xs ++ ys).take k)).length + 1) c8, by omega, by go_num, Lib.hid ?_, Lib.hid ?_, HG8⟩
              · exact BN8.out
              · rw [HKP.out, List.length_append, List.length_singleton]
                have e9 : [x] = [(xn, xt)] := by rw [← HXE.out.1, ← HXE.out.2]
                rw [e9]
                exact HO8.out
            case measure => simp [intOf]; omega
          · have HKP := Lib.hid (keep_no HX.out (by rw [HXE.out.2]; exact hkp))
            go_wp2_with fail
            go_roundw
            case rel =>
              refine ⟨k + 1, v, by omega, by go_num, Lib.hid (HBN.out.below HB6.out), Lib.hid ?_, Lib.hid (grown_below HG.out (HB6.out.mono HG.out.size))⟩
              rw [HKP.out]
              exact own_below HO.out HB6.out
            case measure => simp [intOf]; omega
        · have d1 : ¬ (k : Int) < ((n + m : Nat) : Int) := by omega
          have ek : (xs ++ ys).take k = xs ++ ys := List.take_of_length_le (by rw [List.length_append, HN.out.1, HN.out.2]; omega)
          rw [ek] at HO
          obtain ⟨av, cv, rfl⟩ := own_form HO.out
          have HLL := Lib.hid (lps_own HO.out rfl)
          have HCP := Lib.hid (own_cap HO.out)
          have HLN := Lib.hid (show (keepL e (xs ++ ys)).length ≤ 1000000 from Nat.le_trans (keepL_len _ _) (by rw [List.length_append, HN.out.1, HN.out.2]; exact hnm))
          have HSX := Lib.hid (show ∀ x ∈ keepL e (xs ++ ys), x.1.size ≤ maxLen from fun x hx => by
            rcases List.mem_append.1 (keepL_mem hx) with h | h
            · exact HSS.out.2.1 x h
            · exact HSS.out.2.2 x h)
          have HMM := Lib.hid (fun W (h : LpsR W av (keepL e (xs ++ ys))) => mayman_law (g + 1) e mx nm av (keepL e (xs ++ ys)) _ cv HSS.out.1 HSX.out rfl HLN.out HCP.out W h)
          have HVN := Lib.hid (fun h => nxV_2 (g := g) (e := e) (mx := mx) (nm := nm) (L := keepL e (xs ++ ys)) h)
          have HVY := Lib.hid (fun h => nxV_3 (g := g) (e := e) (mx := mx) (nm := nm) (L := keepL e (xs ++ ys)) h)
          have n0 := HBN.out.cell 0
          have n1 := HBN.out.cell 1
          have n2 := HBN.out.cell 2
          have n3 := HBN.out.cell 3
          have n4 := HBN.out.cell 4
          simp at n0 n1 n2 n3 n4
          have HO5 := Lib.hid (fun W (h : Below wr.heap.size wr W) => own_below HO.out h)
          clear ek HO
          generalize keepL e (xs ++ ys) = L at *
          obtain ⟨ln, hln⟩ : ∃ l, L.length = l := ⟨_, rfl⟩
          have HLE := Lib.hid hln
          rw [hln] at HBN HMM n4 HCP
          clear hln
          go_wp2_with fail
          refine (HMM.out _ HLL.out).mono ?_; rintro r w5 ⟨rfl, hb5⟩
          have hbw : Below w.heap.size w w5 := step_below HW1.out (step_below HB2.out (step_below HB2R.out hb5))
          have HBW5 := Lib.hid hbw
          have HO6 := Lib.hid (HO5.out _ hb5)
          have bxr5 := (bxr.below HB2.out).below (step_below HB2R.out hb5)
          have m0 := (HBN.out.below hb5).cell 0
          have m1 := (HBN.out.below hb5).cell 1
          have m2 := (HBN.out.below hb5).cell 2
          have m3 := (HBN.out.below hb5).cell 3
          have m4 := (HBN.out.below hb5).cell 4
          simp at m0 m1 m2 m3 m4
          clear n0 n1 n2 n3 n4 hb5 hbw
          cases hM : manB (g + 1) e mx nm L
          · have HV := Lib.hid (HVN.out hM)
            clear m0 m1 m2 m3 m4 hM
            have x3 := bxr5
            have z0 := x3.cell 0
            have f0 := x3.frozen 0
            have z1 := x3.cell 1
            have f1 := x3.frozen 1
            have z2 := x3.cell 2
            have f2 := x3.frozen 2
            have z3 := x3.cell 3
            have f3 := x3.frozen 3
            have z4 := x3.cell 4
            have f4 := x3.frozen 4
            simp only [List.getElem?_toArray, List.getElem?_cons_zero, List.getElem?_cons_succ] at z0 z1 z2 z3 z4
            have H95 := Lib.hid (show w5.grownBy (((((w5.setCell ⟨w.heap.size + 1, 0, none⟩ (.int .i64 0)).setCell ⟨w.heap.size + 1, 1, none⟩ (.string { data := #[] })).setCell ⟨w.heap.size + 1, 2, none⟩ (.int .i64 0)).setCell ⟨w.heap.size + 1, 3, none⟩ (.int .i64 0)).setCell ⟨w.heap.size + 1, 4, none⟩ (.slice none 0 0)) (some (w.heap.size + 1)) from oth_trans (oth_set _ _ _ _) (oth_trans (oth_set _ _ _ _) (oth_trans (oth_set _ _ _ _) (oth_trans (oth_set _ _ _ _) (oth_set _ _ _ _)))))
            have X9 := Lib.hid (((((x3.put 0 (.int .i64 0)).put 1 (.string { data := #[] })).put 2 (.int .i64 0)).put 3 (.int .i64 0)).put 4 (.slice none 0 0))
            have HB9 := Lib.hid (((((HBW5.out.setCell (p := ⟨w.heap.size + 1, 0, none⟩) (by simp) (.int .i64 0)).setCell (p := ⟨w.heap.size + 1, 1, none⟩) (by simp) (.string { data := #[] })).setCell (p := ⟨w.heap.size + 1, 2, none⟩) (by simp) (.int .i64 0)).setCell (p := ⟨w.heap.size + 1, 3, none⟩) (by simp) (.int .i64 0)).setCell (p := ⟨w.heap.size + 1, 4, none⟩) (by simp) (.slice none 0 0))
            clear x3
            go_wp2_with fail
            clear z0 z1 z2 z3 z4 f0 f1 f2 f3 f4
            generalize ((((w5.setCell ⟨w.heap.size + 1, 0, none⟩ (.int .i64 0)).setCell ⟨w.heap.size + 1, 1, none⟩ (.string { data := #[] })).setCell ⟨w.heap.size + 1, 2, none⟩ (.int .i64 0)).setCell ⟨w.heap.size + 1, 3, none⟩ (.int .i64 0)).setCell ⟨w.heap.size + 1, 4, none⟩ (.slice none 0 0) = W9 at *
            refine bodyPost_ret (v := .tuple #[.agg #[.int .i64 0, .string { data := #[] }, .int .i64 0, .int .i64 0, .slice none 0 0], .int .i64 2]) ?_ rfl (NxR_no (by rw [HOK.out]; exact HV.out) HB9.out)
            have x0' := X9.out.cell 0
            have x1' := X9.out.cell 1
            have x2' := X9.out.cell 2
            have x3' := X9.out.cell 3
            have x4' := X9.out.cell 4
            simp at x0' x1' x2' x3' x4'
            simp [results, Tryz.results15, go_sem, x0', x1', x2', x3', x4']
          · have HV := Lib.hid (HVY.out hM)
            clear hM
            have x3 := bxr5
            have z0 := x3.cell 0
            have f0 := x3.frozen 0
            have z1 := x3.cell 1
            have f1 := x3.frozen 1
            have z2 := x3.cell 2
            have f2 := x3.frozen 2
            have z3 := x3.cell 3
            have f3 := x3.frozen 3
            have z4 := x3.cell 4
            have f4 := x3.frozen 4
            simp only [List.getElem?_toArray, List.getElem?_cons_zero, List.getElem?_cons_succ] at z0 z1 z2 z3 z4
            have H95 := Lib.hid (show w5.grownBy (((((w5.setCell ⟨w.heap.size + 1, 0, none⟩ (.int .i64 (g + 1))).setCell ⟨w.heap.size + 1, 1, none⟩ (.string nm)).setCell ⟨w.heap.size + 1, 2, none⟩ (.int .i64 e)).setCell ⟨w.heap.size + 1, 3, none⟩ (.int .i64 mx)).setCell ⟨w.heap.size + 1, 4, none⟩ (.slice av ln cv)) (some (w.heap.size + 1)) from oth_trans (oth_set _ _ _ _) (oth_trans (oth_set _ _ _ _) (oth_trans (oth_set _ _ _ _) (oth_trans (oth_set _ _ _ _) (oth_set _ _ _ _)))))
            have X9 := Lib.hid (((((x3.put 0 (.int .i64 (g + 1))).put 1 (.string nm)).put 2 (.int .i64 e)).put 3 (.int .i64 mx)).put 4 (.slice av ln cv))
            have HB9 := Lib.hid (((((HBW5.out.setCell (p := ⟨w.heap.size + 1, 0, none⟩) (by simp) (.int .i64 (g + 1))).setCell (p := ⟨w.heap.size + 1, 1, none⟩) (by simp) (.string nm)).setCell (p := ⟨w.heap.size + 1, 2, none⟩) (by simp) (.int .i64 e)).setCell (p := ⟨w.heap.size + 1, 3, none⟩) (by simp) (.int .i64 mx)).setCell (p := ⟨w.heap.size + 1, 4, none⟩) (by simp) (.slice av ln cv))
            clear x3
            go_wp2_with fail
            clear z0 z1 z2 z3 z4 f0 f1 f2 f3 f4
            generalize ((((w5.setCell ⟨w.heap.size + 1, 0, none⟩ (.int .i64 (g + 1))).setCell ⟨w.heap.size + 1, 1, none⟩ (.string nm)).setCell ⟨w.heap.size + 1, 2, none⟩ (.int .i64 e)).setCell ⟨w.heap.size + 1, 3, none⟩ (.int .i64 mx)).setCell ⟨w.heap.size + 1, 4, none⟩ (.slice av ln cv) = W9 at *
            refine bodyPost_ret (v := .tuple #[.agg #[.int .i64 (g + 1), .string nm, .int .i64 e, .int .i64 mx, .slice av ln cv], .int .i64 0]) ?_ rfl (by rw [HOK.out, HV.out]; exact ⟨⟨av, cv, by rw [← HLE.out], lps_own (own_oth HO6.out (by omega) H95.out) rfl, by rw [← HLE.out] at HCP; exact HCP.out⟩, HB9.out⟩)
            have x0' := X9.out.cell 0
            have x1' := X9.out.cell 1
            have x2' := X9.out.cell 2
            have x3' := X9.out.cell 3
            have x4' := X9.out.cell 4
            simp at x0' x1' x2' x3' x4'
            simp [results, Tryz.results15, go_sem, x0', x1', x2', x3', x4']
  · obtain ⟨hg0, hg1⟩ := HG1.out hM
    obtain ⟨w2, rfl⟩ : ∃ W, W = w1 := ⟨_, rfl⟩
    have HB2 := HB1
    have HOK := Lib.hid (show (manB g e f nm xs || zerB g e f nm n) = true by rw [hM, Bool.true_or])
    clear hM
    have z0 := (bx.below HB2.out).cell 0
    have z1 := (bx.below HB2.out).cell 1
    have z2 := (bx.below HB2.out).cell 2
    have z3 := (bx.below HB2.out).cell 3
    have z4 := (bx.below HB2.out).cell 4
    simp at z0 z1 z2 z3 z4
    clear y0 y1 y2 y3 y4
    go_upto_region 4 with (fail)
    rw [HMX.out]
    obtain ⟨W3, hW3⟩ : ∃ W3, w2.alloc (.cells #[.int .i64 (g + 1), .string nm, .int .i64 e, .int .i64 mx, .slice none 0 0] 39) = W3 := ⟨_, rfl⟩
    have hb3 : Below w2.heap.size w2 W3 := by rw [← hW3]; exact bl1 _ _
    have bn3 : BoxC W3 w2.heap.size #[.int .i64 (g + 1), .string nm, .int .i64 e, .int .i64 mx, .slice none 0 0] 39 := by rw [← hW3]; exact BoxC.new _ _ _
    have hs3 : W3.heap.size = w2.heap.size + 1 := by rw [← hW3]; simp
    try rw [hW3]
    clear hW3
    have q4 := (bx.below (step_below HB2.out hb3)).cell 4
    simp at q4
    have HB3 := Lib.hid hb3
    have BN3 := Lib.hid bn3
    have hc3 := bn3.cell 4
    clear z0 z1 z2 z3 z4 hb3 bn3
    obtain ⟨W3', hW3'⟩ : ∃ W, W3.alloc (.cells #[.slice a n c, .slice b m d] 37) = W := ⟨_, rfl⟩
    have hc5 : W3'.cell? ⟨W3.heap.size, 0, none⟩ = some (.slice a n c) := by rw [← hW3']; simp [go_sem]
    have hc6 : W3'.cell? ⟨W3.heap.size, 1, none⟩ = some (.slice b m d) := by rw [← hW3']; simp [go_sem]
    have hb4 : Below W3.heap.size W3 W3' := by rw [← hW3']; exact bl1 _ _
    have hs4 : W3'.heap.size = W3.heap.size + 1 := by rw [← hW3']; simp
    have b03 : Below w.heap.size w W3' := step_below HW1.out (step_below HB2.out (step_below HB3.out hb4))
    have HCC := Lib.hid (concat_law W3.heap.size a b c d n m xs ys HN.out.1 HN.out.2 hnm W3' hc5 hc6 (HR.out.1.below b03) (HR.out.2.below b03) HNL.out.1 HNL.out.2)
    have HW3' := Lib.hid hW3'
    have HS34 := Lib.hid (And.intro hs3 hs4)
    clear hs3 hs4
    have HB4 := Lib.hid hb4
    clear hc5 hc6 b03 hb4 hW3'
    go_wp2_with fail
    rw [HW3'.out]
    refine HCC.out.mono ?_; rintro r w4 ⟨v4, rfl, hown4, hb5⟩
    obtain ⟨a4, c4, rfl⟩ := own_form hown4
    have HZ4 := Lib.hid hown4
    have HB25 := Lib.hid (step_below HB3.out (step_below HB4.out hb5))
    have BN4 := Lib.hid (BN3.out.below (step_below HB4.out hb5))
    have hsz4 : w2.heap.size + 2 ≤ w4.heap.size := by have := hb5.size; have := HS34.out.1; have := HS34.out.2; omega
    have hcap4 := own_cap hown4
    have hlt3 : w2.heap.size < W3'.heap.size := by have := HS34.out.1; have := HS34.out.2; omega
    have hs2w : w.heap.size + 1 < w4.heap.size := by have := HB2.out.size; omega
    clear hown4 hb5 q4 hc3 HCC HW3'
    go_wp2_with fail
    go_loopw [38] (fun i wr => ∃ (k : Nat) (v : Value), k ≤ n + m ∧ i = .int .i64 (k : Int) ∧ Hid (BoxC wr w2.heap.size #[.int .i64 (g + 1), .string nm, .int .i64 e, .int .i64 mx, v] 39) ∧ Hid (wr.ownsRow w4.heap.size 42 2 v (keepL e ((xs ++ ys).take k)).length (lcells (keepL e ((xs ++ ys).take k)))) ∧ Hid (w4.grownBy wr (some w2.heap.size))) (fun i _ => n + m - (intOf i).toNat)
    case atStart => exact ⟨0, _, Nat.zero_le _, rfl, BN4, Lib.hid (World.ownsRow_nil _ _ _ _), Lib.hid (oth_below _ (Below.refl _ _))⟩
    case round =>
      obtain ⟨k, v, hk, rfl, HBN, HO, HG⟩ := hrel
      have HB2R := Lib.hid (HB25.out.grown HG.out (by omega) (fun j hj => by cases hj; exact Nat.le_refl _))
      have hsr : w2.heap.size + 2 ≤ wr.heap.size := Nat.le_trans hsz4 HG.out.size
      by_cases hlt : k < n + m
      · have d1 : (k : Int) < ((n + m : Nat) : Int) := by omega
        obtain ⟨x, hx⟩ : ∃ x, (xs ++ ys)[k]? = some x := ⟨_, List.getElem?_eq_getElem (by rw [List.length_append, HN.out.1, HN.out.2]; exact hlt)⟩
        have HX := Lib.hid hx
        obtain ⟨b1, o1, e1, y0, y1⟩ := (lps_own (own_oth HZ4.out (by omega) HG.out) (by rw [List.length_append, HN.out.1, HN.out.2])) k x hx
        subst e1
        obtain ⟨xn, hxn⟩ : ∃ z, x.1 = z := ⟨_, rfl⟩
        obtain ⟨xt, hxt⟩ : ∃ z, x.2 = z := ⟨_, rfl⟩
        rw [hxn] at y0
        rw [hxt] at y1
        have HXE := Lib.hid (And.intro hxn hxt)
        clear hx hxn hxt
        go_upto_region 7 with (fail)
        obtain ⟨W6, hW6⟩ : ∃ W6, wr.alloc (.cells #[.string xn, .int .i64 xt] 42) = W6 := ⟨_, rfl⟩
        have hb6 : Below wr.heap.size wr W6 := by rw [← hW6]; exact bl1 _ _
        have bp6 : BoxC W6 wr.heap.size #[.string xn, .int .i64 xt] 42 := by rw [← hW6]; exact BoxC.new _ _ _
        try rw [hW6]
        clear hW6 y0 y1
        have y0 := bp6.cell 0
        have y1 := bp6.cell 1
        have q2 := ((bx.below HB2.out).below (step_below HB2R.out hb6)).cell 2
        have q4 := (HBN.out.below hb6).cell 4
        simp at y0 y1 q2 q4
        have HB6 := Lib.hid hb6
        have BP6 := Lib.hid bp6
        clear hb6 bp6
        by_cases hkp : e < xt
        · have HKP := Lib.hid (keep_yes HX.out (by rw [HXE.out.2]; exact hkp))
          have HNE := Lib.hid (show some w2.heap.size ≠ v.ownBlock from fun h => by have := (HO.out.lt _ h.symm).1; omega)
          have HWS := Lib.hid (show w4.heap.size ≤ wr.heap.size from HG.out.size)
          have HL := Lib.hid (show (keepL e ((xs ++ ys).take k)).length ≤ 1000000 from Nat.le_trans (keepL_len _ _) (by rw [List.length_take]; omega))
          go_wp2_with (at_builtin; refine append_lps rfl (.tmp 48) (.tmp 50) rfl w4.heap.size v _ _ rfl ((own_below HO.out HB6.out).alloc _) (some ⟨W6.heap.size, 0, none⟩) 1 1 [(xn, xt)] rfl rfl (lp_box _ (by simp [go_sem]) (by simp [go_sem])) (fun h => by cases h) (by have := HL.out; omega) (by have := HWS.out; have := HB6.out.size; simp; omega) ?_; intro v8 w8 hown8 hgrow8; obtain ⟨a8, c8, hv8⟩ := own_form hown8; subst hv8; have bn8 := ((HBN.out.below HB6.out).alloc _).grown hgrow8 HNE.out; have q8 := bn8.cell 4; have f8 := bn8.frozen 4; simp at q8; have BN8 := Lib.hid (bn8.put 4 (.slice a8 ((keepL e ((xs ++ ys).take k)).length + 1) c8)); have b8 : Below w4.heap.size wr w8 := ((HB6.out.mono HWS.out).alloc (Nat.le_trans HWS.out HB6.out.size) _).grown hgrow8 (by have := HWS.out; have := HB6.out.size; simp; omega) (fun j hj => (HO.out.lt j hj).1); have HG8 := Lib.hid (oth_trans (grown_below HG.out b8) (oth_set w8 w2.heap.size 4 (.slice a8 ((keepL e ((xs ++ ys).take k)).length + 1) c8))); have HO8 := Lib.hid (own_oth hown8 (by omega) (oth_set w8 w2.heap.size 4 (.slice a8 ((keepL e ((xs ++ ys).take k)).length + 1) c8))); clear bn8 b8 hown8 hgrow8)
          go_roundw
          case rel =>
            refine ⟨k + 1, .slice a8 ((keepL e ((xs ++ ys).take k)).length + 1) c8, by omega, by go_num, Lib.hid ?_, Lib.hid ?_, HG8⟩
            · exact BN8.out
            · rw [HKP.out, List.length_append, List.length_singleton]
              have e9 : [x] = [(xn, xt)] := by rw [← HXE.out.1, ← HXE.out.2]
              rw [e9]
              exact HO8.out
          case measure => simp [intOf]; omega
        · have HKP := Lib.hid (keep_no HX.out (by rw [HXE.out.2]; exact hkp))
          go_wp2_with fail
          go_roundw
          case rel =>
            refine ⟨k + 1, v, by omega, by go_num, Lib.hid (HBN.out.below HB6.out), Lib.hid ?_, Lib.hid (grown_below HG.out (HB6.out.mono HG.out.size))⟩
            rw [HKP.out]
            exact own_below HO.out HB6.out
          case measure => simp [intOf]; omega
      · have d1 : ¬ (k : Int) < ((n + m : Nat) : Int) := by omega
        have ek : (xs ++ ys).take k = xs ++ ys := List.take_of_length_le (by rw [List.length_append, HN.out.1, HN.out.2]; omega)
        rw [ek] at HO
        obtain ⟨av, cv, rfl⟩ := own_form HO.out
        have HLL := Lib.hid (lps_own HO.out rfl)
        have HCP := Lib.hid (own_cap HO.out)
        have HLN := Lib.hid (show (keepL e (xs ++ ys)).length ≤ 1000000 from Nat.le_trans (keepL_len _ _) (by rw [List.length_append, HN.out.1, HN.out.2]; exact hnm))
        have HSX := Lib.hid (show ∀ x ∈ keepL e (xs ++ ys), x.1.size ≤ maxLen from fun x hx => by
          rcases List.mem_append.1 (keepL_mem hx) with h | h
          · exact HSS.out.2.1 x h
          · exact HSS.out.2.2 x h)
        have HMM := Lib.hid (fun W (h : LpsR W av (keepL e (xs ++ ys))) => mayman_law (g + 1) e mx nm av (keepL e (xs ++ ys)) _ cv HSS.out.1 HSX.out rfl HLN.out HCP.out W h)
        have HVN := Lib.hid (fun h => nxV_2 (g := g) (e := e) (mx := mx) (nm := nm) (L := keepL e (xs ++ ys)) h)
        have HVY := Lib.hid (fun h => nxV_3 (g := g) (e := e) (mx := mx) (nm := nm) (L := keepL e (xs ++ ys)) h)
        have n0 := HBN.out.cell 0
        have n1 := HBN.out.cell 1
        have n2 := HBN.out.cell 2
        have n3 := HBN.out.cell 3
        have n4 := HBN.out.cell 4
        simp at n0 n1 n2 n3 n4
        have HO5 := Lib.hid (fun W (h : Below wr.heap.size wr W) => own_below HO.out h)
        clear ek HO
        generalize keepL e (xs ++ ys) = L at *
        obtain ⟨ln, hln⟩ : ∃ l, L.length = l := ⟨_, rfl⟩
        have HLE := Lib.hid hln
        rw [hln] at HBN HMM n4 HCP
        clear hln
        go_wp2_with fail
        refine (HMM.out _ HLL.out).mono ?_; rintro r w5 ⟨rfl, hb5⟩
        have hbw : Below w.heap.size w w5 := step_below HW1.out (step_below HB2.out (step_below HB2R.out hb5))
        have HBW5 := Lib.hid hbw
        have HO6 := Lib.hid (HO5.out _ hb5)
        have bxr5 := (bxr.below HB2.out).below (step_below HB2R.out hb5)
        have m0 := (HBN.out.below hb5).cell 0
        have m1 := (HBN.out.below hb5).cell 1
        have m2 := (HBN.out.below hb5).cell 2
        have m3 := (HBN.out.below hb5).cell 3
        have m4 := (HBN.out.below hb5).cell 4
        simp at m0 m1 m2 m3 m4
        clear n0 n1 n2 n3 n4 hb5 hbw
        cases hM : manB (g + 1) e mx nm L
        · have HV := Lib.hid (HVN.out hM)
          clear m0 m1 m2 m3 m4 hM
          have x3 := bxr5
          have z0 := x3.cell 0
          have f0 := x3.frozen 0
          have z1 := x3.cell 1
          have f1 := x3.frozen 1
          have z2 := x3.cell 2
          have f2 := x3.frozen 2
          have z3 := x3.cell 3
          have f3 := x3.frozen 3
          have z4 := x3.cell 4
          have f4 := x3.frozen 4
          simp only [List.getElem?_toArray, List.getElem?_cons_zero, List.getElem?_cons_succ] at z0 z1 z2 z3 z4
          have H95 := Lib.hid (show w5.grownBy (((((w5.setCell ⟨w.heap.size + 1, 0, none⟩ (.int .i64 0)).setCell ⟨w.heap.size + 1, 1, none⟩ (.string { data := #[] })).setCell ⟨w.heap.size + 1, 2, none⟩ (.int .i64 0)).setCell ⟨w.heap.size + 1, 3, none⟩ (.int .i64 0)).setCell ⟨w.heap.size + 1, 4, none⟩ (.slice none 0 0)) (some (w.heap.size + 1)) from oth_trans (oth_set _ _ _ _) (oth_trans (oth_set _ _ _ _) (oth_trans (oth_set _ _ _ _) (oth_trans (oth_set _ _ _ _) (oth_set _ _ _ _)))))
          have X9 := Lib.hid (((((x3.put 0 (.int .i64 0)).put 1 (.string { data := #[] })).put 2 (.int .i64 0)).put 3 (.int .i64 0)).put 4 (.slice none 0 0))
          have HB9 := Lib.hid (((((HBW5.out.setCell (p := ⟨w.heap.size + 1, 0, none⟩) (by simp) (.int .i64 0)).setCell (p := ⟨w.heap.size + 1, 1, none⟩) (by simp) (.string { data := #[] })).setCell (p := ⟨w.heap.size + 1, 2, none⟩) (by simp) (.int .i64 0)).setCell (p := ⟨w.heap.size + 1, 3, none⟩) (by simp) (.int .i64 0)).setCell (p := ⟨w.heap.size + 1, 4, none⟩) (by simp) (.slice none 0 0))
          clear x3
          go_wp2_with fail
          clear z0 z1 z2 z3 z4 f0 f1 f2 f3 f4
          generalize ((((w5.setCell ⟨w.heap.size + 1, 0, none⟩ (.int .i64 0)).setCell ⟨w.heap.size + 1, 1, none⟩ (.string { data := #[] })).setCell ⟨w.heap.size + 1, 2, none⟩ (.int .i64 0)).setCell ⟨w.heap.size + 1, 3, none⟩ (.int .i64 0)).setCell ⟨w.heap.size + 1, 4, none⟩ (.slice none 0 0) = W9 at *
          refine bodyPost_ret (v := .tuple #[.agg #[.int .i64 0, .string { data := #[] }, .int .i64 0, .int .i64 0, .slice none 0 0], .int .i64 2]) ?_ rfl (NxR_no (by rw [HOK.out]; exact HV.out) HB9.out)
          have x0' := X9.out.cell 0
          have x1' := X9.out.cell 1
          have x2' := X9.out.cell 2
          have x3' := X9.out.cell 3
          have x4' := X9.out.cell 4
          simp at x0' x1' x2' x3' x4'
          simp [results, Tryz.results15, go_sem, x0', x1', x2', x3', x4']
        · have HV := Lib.hid (HVY.out hM)
          clear hM
          have x3 := bxr5
          have z0 := x3.cell 0
          have f0 := x3.frozen 0
          have z1 := x3.cell 1
          have f1 := x3.frozen 1
          have z2 := x3.cell 2
          have f2 := x3.frozen 2
          have z3 := x3.cell 3
          have f3 := x3.frozen 3
          have z4 := x3.cell 4
          have f4 := x3.frozen 4
          simp only [List.getElem?_toArray, List.getElem?_cons_zero, List.getElem?_cons_succ] at z0 z1 z2 z3 z4
          have H95 := Lib.hid (show w5.grownBy (((((w5.setCell ⟨w.heap.size + 1, 0, none⟩ (.int .i64 (g + 1))).setCell ⟨w.heap.size + 1, 1, none⟩ (.string nm)).setCell ⟨w.heap.size + 1, 2, none⟩ (.int .i64 e)).setCell ⟨w.heap.size + 1, 3, none⟩ (.int .i64 mx)).setCell ⟨w.heap.size + 1, 4, none⟩ (.slice av ln cv)) (some (w.heap.size + 1)) from oth_trans (oth_set _ _ _ _) (oth_trans (oth_set _ _ _ _) (oth_trans (oth_set _ _ _ _) (oth_trans (oth_set _ _ _ _) (oth_set _ _ _ _)))))
          have X9 := Lib.hid (((((x3.put 0 (.int .i64 (g + 1))).put 1 (.string nm)).put 2 (.int .i64 e)).put 3 (.int .i64 mx)).put 4 (.slice av ln cv))
          have HB9 := Lib.hid (((((HBW5.out.setCell (p := ⟨w.heap.size + 1, 0, none⟩) (by simp) (.int .i64 (g + 1))).setCell (p := ⟨w.heap.size + 1, 1, none⟩) (by simp) (.string nm)).setCell (p := ⟨w.heap.size + 1, 2, none⟩) (by simp) (.int .i64 e)).setCell (p := ⟨w.heap.size + 1, 3, none⟩) (by simp) (.int .i64 mx)).setCell (p := ⟨w.heap.size + 1, 4, none⟩) (by simp) (.slice av ln cv))
          clear x3
          go_wp2_with fail
          clear z0 z1 z2 z3 z4 f0 f1 f2 f3 f4
          generalize ((((w5.setCell ⟨w.heap.size + 1, 0, none⟩ (.int .i64 (g + 1))).setCell ⟨w.heap.size + 1, 1, none⟩ (.string nm)).setCell ⟨w.heap.size + 1, 2, none⟩ (.int .i64 e)).setCell ⟨w.heap.size + 1, 3, none⟩ (.int .i64 mx)).setCell ⟨w.heap.size + 1, 4, none⟩ (.slice av ln cv) = W9 at *
          refine bodyPost_ret (v := .tuple #[.agg #[.int .i64 (g + 1), .string nm, .int .i64 e, .int .i64 mx, .slice av ln cv], .int .i64 0]) ?_ rfl (by rw [HOK.out, HV.out]; exact ⟨⟨av, cv, by rw [← HLE.out], lps_own (own_oth HO6.out (by omega) H95.out) rfl, by rw [← HLE.out] at HCP; exact HCP.out⟩, HB9.out⟩)
          have x0' := X9.out.cell 0
          have x1' := X9.out.cell 1
          have x2' := X9.out.cell 2
          have x3' := X9.out.cell 3
          have x4' := X9.out.cell 4
          simp at x0' x1' x2' x3' x4'
          simp [results, Tryz.results15, go_sem, x0', x1', x2', x3', x4']
end Go.Proofs.YtglkndoghnblcaaGreatDoor
