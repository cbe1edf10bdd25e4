/- 'LogManifests' returns true whatever its arguments, which read afterwards as before: no condition. -/
import Derived.Test.YtglkndoghnblcaaGreatOmb
import Derived.Test.YtglkndoghnblcaaGreatOvl
import Derived.Deep.DeepCutAuto
import Derived.Deep.CutBlock
import Derived.Test.YtglkndoghnblcaaGreatOvb
import Derived.IntWalk
import Derived.Shelf.Abstract
import Derived.Test.YtglkndoghnblcaaGreatOvi
import Derived.Deep.Slices
import Derived.Deep.Fields
import Derived.Deep.Matrix
import Derived.ProofKit
import Derived.Lib.Bytes
import Derived.ChangeSame
import Derived.SizedLaws
import Derived.OpenShut
import Derived.Test.YtglkndoghnblcaaGreatOve
import Derived.Lib.SmallJoins
import Derived.Test.YtglkndoghnblcaaGreatRows
import Derived.WalkKit
import Derived.ShutString
import Derived.ChangeOld
import Derived.Below
import Derived.Test.YtglkndoghnblcaaGreatOma
import Derived.Test.YtglkndoghnblcaaGreatOva
namespace Go.Proofs.YtglkndoghnblcaaGreat
open Go.ChangeShapes Go.WideShapes Go.ChangeAt Go.RowKit
set_option linter.unusedVariables false
set_option linter.unusedSimpArgs false
theorem neq_dur (s t : Int) (W : World) : (binOp .neq 74 (.agg #[.int .i64 s, .int .i64 t]) (.agg #[.int .i64 s, .int .i64 t])).run Tryz.prog W = .ok (.bool false) W := by
  go_simp
theorem durV_form (o : Option (Nat × Nat)) : ∃ (g e er : Int), durV o = .tuple #[.agg #[.int .i64 g, .int .i64 e], .int .i64 er] := by
  cases o with
  | none => exact ⟨0, 0, 4, rfl⟩
  | some x => exact ⟨_, _, _, rfl⟩
/-- A manifest that is not too big. -/
structure SmM (nm : ByteArray) (xs : List LpV) : Prop where
  n : nm.size ≤ 9000
  l : xs.length ≤ 9000
  all : ∀ x ∈ xs, x.1.size ≤ 9000
set_option maxRecDepth 100000 in
set_option maxHeartbeats 4000000 in
/-- LogManifests (6). -/
theorem logmanifests_law (g e f : Int) (nm : ByteArray) (a : Option Addr) (xs : List LpV) (n cap : Nat) (dg de : Int) (ba : Option Addr) (L : List Int) (bl bc : Nat) (hs : nm.size ≤ 140737488355328) (hn : xs.length = n) (hn2 : n ≤ 140737488355328) (hnc : n ≤ cap) (hbl : L.length = bl) (hB : Byt L) (w : World) (hR : LpsR w a xs) (hL : Ls .u8 w ba bc L) :
    Calls Tryz.prog 6 #[.agg #[.int .i64 g, .string nm, .int .i64 e, .int .i64 f, .slice a n cap], .agg #[.int .i64 dg, .int .i64 de], .slice ba bl bc] w fun r w' => r = .returned (.bool true) ∧ Below w.heap.size w w' := by
  have HR := Lib.hid hR
  have HN := Lib.hid (And.intro hn hnc)
  have HL := Lib.hid (And.intro hbl (And.intro hB hL))
  clear hR hn hnc hbl hB hL
  go_enter Tryz.func6, Tryz.ntmps6
  go_upto_region 1 with (fail)
  obtain ⟨W1, hW0⟩ : ∃ W0, ((w.alloc (.cells #[.int .i64 g, .string nm, .int .i64 e, .int .i64 f, .slice a n cap] 72)).alloc (.cells #[.int .i64 dg, .int .i64 de] 74)) = W0 := ⟨_, rfl⟩
  have hb0 : Below w.heap.size w W1 := by rw [← hW0]; exact step_below (bl1 _ _) (bl1 _ _)
  have bx : BoxC W1 w.heap.size #[.int .i64 g, .string nm, .int .i64 e, .int .i64 f, .slice a n cap] 72 := by rw [← hW0]; exact (BoxC.new w _ 72).alloc _
  have by_ : BoxC W1 (w.heap.size + 1) #[.int .i64 dg, .int .i64 de] 74 := by
    rw [← hW0]
    have := BoxC.new (w.alloc (.cells #[.int .i64 g, .string nm, .int .i64 e, .int .i64 f, .slice a n cap] 72)) #[.int .i64 dg, .int .i64 de] 74
    simpa using this
  try rw [hW0]
  clear hW0
  have HB0 := Lib.hid hb0
  have FQ := Lib.hid (fun X (b' : Below W1.heap.size W1 X) => (⟨(bx.below b').cell 0, (bx.below b').cell 1, (bx.below b').cell 2, (bx.below b').cell 3, (bx.below b').cell 4, (by_.below b').cell 0, (by_.below b').cell 1⟩ : X.cell? ⟨w.heap.size, 0, none⟩ = some (.int .i64 g) ∧ X.cell? ⟨w.heap.size, 1, none⟩ = some (.string nm) ∧ X.cell? ⟨w.heap.size, 2, none⟩ = some (.int .i64 e) ∧ X.cell? ⟨w.heap.size, 3, none⟩ = some (.int .i64 f) ∧ X.cell? ⟨w.heap.size, 4, none⟩ = some (.slice a n cap) ∧ X.cell? ⟨w.heap.size + 1, 0, none⟩ = some (.int .i64 dg) ∧ X.cell? ⟨w.heap.size + 1, 1, none⟩ = some (.int .i64 de)))
  clear hb0 bx by_
  obtain ⟨z0, z1, z2, z3, z4, d0, d1⟩ := FQ.out W1 (Below.refl _ _)
  have w1 : IntKind.i64.wrap ((nm.size : Int) + (n : Int)) = ((nm.size + n : Nat) : Int) := by rw [IntKind.wrap_i64]; omega
  go_upto_block 0 with (fail)
  go_cut [7] (fun v wx => ∃ s : Nat, v = .int .i64 (s : Int) ∧ s ≤ 281474976710656 ∧ Hid (s ≤ 9000 → SmM nm xs) ∧ Hid (Below W1.heap.size W1 wx))
  case first =>
    clear z0 z1 z2 z3 z4 d0 d1
    go_wp2_with fail
    go_loopw [7, 8] (fun v i wr => ∃ (k s : Nat), k ≤ n ∧ i = .int .i64 (k : Int) ∧ v = .int .i64 (s : Int) ∧ nm.size + n ≤ s ∧ s ≤ 281474976710656 ∧ Hid (s ≤ 9000 → ∀ q, q < k → ∀ x, xs[q]? = some x → x.1.size ≤ 9000) ∧ Hid (Below W1.heap.size W1 wr)) (fun _ i _ => n - (intOf i).toNat)
    case atStart => exact ⟨0, nm.size + n, by omega, rfl, rfl, by omega, by omega, Lib.hid (fun _ q hq => absurd hq (by omega)), Lib.hid (Below.refl _ _)⟩
    case round =>
      obtain ⟨k, s, hk, rfl, rfl, hsl, hs2, HP, HBW⟩ := hrel
      obtain ⟨z0, z1, z2, z3, z4, d0, d1⟩ := FQ.out wr HBW.out
      by_cases hlt : k < n
      · have e1 : (k : Int) < (n : Int) := by omega
        by_cases hs9 : s ≤ 9000
        · have e2 : (s : Int) ≤ 9000 := by omega
          obtain ⟨x, hx⟩ : ∃ x, xs[k]? = some x := ⟨_, List.getElem?_eq_getElem (by rw [HN.out.1]; exact hlt)⟩
          obtain ⟨b1, o1, rfl, c0, _⟩ := (HR.out.below (step_below HB0.out HBW.out)) k x hx
          obtain ⟨xn, hxn⟩ : ∃ z, x.1 = z := ⟨_, rfl⟩
          rw [hxn] at c0
          obtain ⟨kn, hkn⟩ : ∃ kn, xn.size = kn := ⟨_, rfl⟩
          obtain ⟨km, hkm⟩ : ∃ km : Nat, km = min kn 9001 := ⟨_, rfl⟩
          have HST := Lib.hid (show s + km ≤ 9000 → ∀ q, q < k + 1 → ∀ x, xs[q]? = some x → x.1.size ≤ 9000 from fun h q hq y hy => by
            by_cases ee : q = k
            · subst ee
              rw [hx] at hy
              cases hy
              rw [hxn, hkn]; omega
            · exact HP.out (by omega) q (by omega) y hy)
          have HKM := Lib.hid (And.intro hkm hkn)
          have m1 : min (kn : Int) 9001 = (km : Int) := by omega
          have w3 : IntKind.i64.wrap ((s : Int) + (km : Int)) = ((s + km : Nat) : Int) := by rw [IntKind.wrap_i64]; omega
          have hkb : km ≤ 9001 := by omega
          clear hx hxn hkm hs9
          go_wp2_with fail
          go_roundw
          case rel => exact ⟨k + 1, s + km, by omega, by go_num, by have h1 := HKM.out; first | rfl | (congr 1; split <;> omega), by omega, by omega, HST, HBW⟩
          case measure => simp [intOf]; omega
        · have e2 : ¬ (s : Int) ≤ 9000 := by omega
          have HG := Lib.hid (fun (h : s ≤ 9000) => (absurd h hs9 : SmM nm xs))
          clear hs9
          go_wp2_with fail
          go_meet
          exact ⟨s, rfl, hs2, HG, HBW⟩
      · have e1 : ¬ (k : Int) < (n : Int) := by omega
        have HG := Lib.hid (fun (h : s ≤ 9000) => (⟨by omega, by rw [HN.out.1]; omega, fun x hx => by
          obtain ⟨q, hq⟩ := List.mem_iff_getElem?.1 hx
          exact HP.out h q (by have := (List.getElem?_eq_some_iff.1 hq).1; have := HN.out.1; omega) x hq⟩ : SmM nm xs))
        go_wp2_with fail
        go_meet
        exact ⟨s, rfl, hs2, HG, HBW⟩
  case rest =>
  clear z0 z1 z2 z3 z4 d0 d1 w1
  obtain ⟨s, rfl, hs2, HSM, HBW⟩ := hcut
  obtain ⟨WA, rfl⟩ : ∃ Y, Y = wc := ⟨_, rfl⟩
  by_cases hs9 : 9000 < s
  · have e1 : (9000 : Int) < (s : Int) := by omega
    go_wp2_with fail
    refine (known_law _).mono ?_; rintro r w5 ⟨rfl, hb5⟩
    have HB5 := Lib.hid (step_below (step_below HB0.out HBW.out) hb5)
    clear hb5
    go_wp2_with fail
    go_ret
    exact ⟨rfl, HB5.out⟩
  have e1 : ¬ (9000 : Int) < (s : Int) := by omega
  by_cases hbb : 30000 < bl
  · have e2 : (30000 : Int) < (bl : Int) := by omega
    go_wp2_with fail
    refine (known_law _).mono ?_; rintro r w5 ⟨rfl, hb5⟩
    have HB5 := Lib.hid (step_below (step_below HB0.out HBW.out) hb5)
    clear hb5
    go_wp2_with fail
    go_ret
    exact ⟨rfl, HB5.out⟩
  have e2 : ¬ (30000 : Int) < (bl : Int) := by omega
  have HS := Lib.hid (HSM.out (by omega))
  have hn9 : n ≤ 9000 := by rw [← HN.out.1]; exact HS.out.l
  clear HSM hs2 hs9 hn2 hs
  obtain ⟨z0, z1, z2, z3, z4, d0, d1⟩ := FQ.out WA HBW.out
  go_wp2_with fail
  refine (putmanb_law g e f nm a xs n cap (by have := HS.out.n; unfold maxLen; omega) (fun x hx => by have := HS.out.all x hx; unfold maxLen; omega) HN.out.1 (by omega) HN.out.2 _ (HR.out.below (step_below HB0.out HBW.out))).mono ?_
  rintro r X8 ⟨xa, xl, xc, er, rfl, hpm, hb8⟩
  have HPM := Lib.hid hpm
  have HB8 := Lib.hid (step_below HBW.out hb8)
  clear hpm hb8 z0 z1 z2 z3 z4 d0 d1 e1 e2
  go_wp2_with fail
  refine ((readman_law ba L bl bc HL.out.1 (by omega) HL.out.2.1 _ (HL.out.2.2.below (step_below HB0.out HB8.out))).mono (fun _ _ h => RmT.of h)).mono ?_
  have htl := mnT_len HL.out.2.1
  obtain ⟨T, hT⟩ : ∃ T, mnT (rmanP L) = T := ⟨_, rfl⟩
  have HT := Lib.hid hT
  rw [hT] at htl ⊢
  obtain ⟨tg, tn, te, tf, tx, ter⟩ := T
  clear hT
  simp only at htl ⊢
  rintro r X9 ⟨ya, yn, yc, rfl, hyl, hyR, hb9⟩
  simp only at hyl hyR ⊢
  have HYL := Lib.hid (And.intro hyl htl)
  have HYR := Lib.hid hyR
  have HB9 := Lib.hid (step_below HB8.out hb9)
  have HPM9 := Lib.hid (HPM.out.below hb9)
  clear hyl hyR hb9 htl HPM
  obtain ⟨V1, hV1⟩ : ∃ V, X9.alloc (.cells #[.int .i64 0, .string { data := #[] }, .int .i64 0, .int .i64 0, .slice none 0 0] 72) = V := ⟨_, rfl⟩
  have bx : BoxC V1 X9.heap.size #[.int .i64 0, .string { data := #[] }, .int .i64 0, .int .i64 0, .slice none 0 0] 72 := by rw [← hV1]; exact BoxC.new _ _ _
  have hbv : Below W1.heap.size W1 V1 := by rw [← hV1]; exact HB9.out.alloc HB9.out.size _
  have hxv : Below X9.heap.size X9 V1 := by rw [← hV1]; exact bl1 _ _
  have x0 := bx.cell 0
  have f0 := bx.frozen 0
  have x1 := bx.cell 1
  have f1 := bx.frozen 1
  have x2 := bx.cell 2
  have f2 := bx.frozen 2
  have x3 := bx.cell 3
  have f3 := bx.frozen 3
  have x4 := bx.cell 4
  have f4 := bx.frozen 4
  simp only [List.getElem?_toArray, List.getElem?_cons_zero, List.getElem?_cons_succ] at x0 x1 x2 x3 x4
  have BX1 := Lib.hid (((((bx.put 0 (.int .i64 tg)).put 1 (.string tn)).put 2 (.int .i64 te)).put 3 (.int .i64 tf)).put 4 (.slice ya yn yc))
  have HW1 := Lib.hid (((((hbv.setCell (p := ⟨X9.heap.size, 0, none⟩) HB9.out.size (.int .i64 tg)).setCell (p := ⟨X9.heap.size, 1, none⟩) HB9.out.size (.string tn)).setCell (p := ⟨X9.heap.size, 2, none⟩) HB9.out.size (.int .i64 te)).setCell (p := ⟨X9.heap.size, 3, none⟩) HB9.out.size (.int .i64 tf)).setCell (p := ⟨X9.heap.size, 4, none⟩) HB9.out.size (.slice ya yn yc))
  have HX1 := Lib.hid (((((hxv.setCell (p := ⟨X9.heap.size, 0, none⟩) (Nat.le_refl _) (.int .i64 tg)).setCell (p := ⟨X9.heap.size, 1, none⟩) (Nat.le_refl _) (.string tn)).setCell (p := ⟨X9.heap.size, 2, none⟩) (Nat.le_refl _) (.int .i64 te)).setCell (p := ⟨X9.heap.size, 3, none⟩) (Nat.le_refl _) (.int .i64 tf)).setCell (p := ⟨X9.heap.size, 4, none⟩) (Nat.le_refl _) (.slice ya yn yc))
  clear bx hbv hxv
  go_upto_region 10 with (fail)
  clear hV1 x0 f0 x1 f1 x2 f2 x3 f3 x4 f4
  generalize (((((V1.setCell ⟨X9.heap.size, 0, none⟩ (.int .i64 tg)).setCell ⟨X9.heap.size, 1, none⟩ (.string tn)).setCell ⟨X9.heap.size, 2, none⟩ (.int .i64 te)).setCell ⟨X9.heap.size, 3, none⟩ (.int .i64 tf)).setCell ⟨X9.heap.size, 4, none⟩ (.slice ya yn yc)) = Y1 at *
  go_wp2_with fail
  refine ((rreadman_law ba L bl bc HL.out.1 (by omega) HL.out.2.1 _ (HL.out.2.2.below (step_below HB0.out HW1.out))).mono (fun _ _ h => RmT.of h)).mono ?_
  rw [HT.out]
  rintro r X10 ⟨za, zn, zc, rfl, hzl, hzR, hb10⟩
  simp only at hzl hzR ⊢
  obtain rfl : zn = yn := by rw [← hzl, HYL.out.1]
  have HZR := Lib.hid hzR
  have HB10 := Lib.hid (step_below HW1.out hb10)
  have HYR2 := Lib.hid ((HYR.out.below HX1.out).below hb10)
  have BXA := Lib.hid (BX1.out.below hb10)
  have HPM10 := Lib.hid ((HPM9.out.below HX1.out).below hb10)
  clear hzl hzR hb10 HYR BX1 HPM9
  obtain ⟨V2, hV2⟩ : ∃ V, X10.alloc (.cells #[.int .i64 0, .string { data := #[] }, .int .i64 0, .int .i64 0, .slice none 0 0] 72) = V := ⟨_, rfl⟩
  have bx : BoxC V2 X10.heap.size #[.int .i64 0, .string { data := #[] }, .int .i64 0, .int .i64 0, .slice none 0 0] 72 := by rw [← hV2]; exact BoxC.new _ _ _
  have hbv : Below W1.heap.size W1 V2 := by rw [← hV2]; exact HB10.out.alloc HB10.out.size _
  have hxv : Below X10.heap.size X10 V2 := by rw [← hV2]; exact bl1 _ _
  have x0 := bx.cell 0
  have f0 := bx.frozen 0
  have x1 := bx.cell 1
  have f1 := bx.frozen 1
  have x2 := bx.cell 2
  have f2 := bx.frozen 2
  have x3 := bx.cell 3
  have f3 := bx.frozen 3
  have x4 := bx.cell 4
  have f4 := bx.frozen 4
  simp only [List.getElem?_toArray, List.getElem?_cons_zero, List.getElem?_cons_succ] at x0 x1 x2 x3 x4
  have BX2 := Lib.hid (((((bx.put 0 (.int .i64 tg)).put 1 (.string tn)).put 2 (.int .i64 te)).put 3 (.int .i64 tf)).put 4 (.slice za zn zc))
  have HW2 := Lib.hid (((((hbv.setCell (p := ⟨X10.heap.size, 0, none⟩) HB10.out.size (.int .i64 tg)).setCell (p := ⟨X10.heap.size, 1, none⟩) HB10.out.size (.string tn)).setCell (p := ⟨X10.heap.size, 2, none⟩) HB10.out.size (.int .i64 te)).setCell (p := ⟨X10.heap.size, 3, none⟩) HB10.out.size (.int .i64 tf)).setCell (p := ⟨X10.heap.size, 4, none⟩) HB10.out.size (.slice za zn zc))
  have HX2 := Lib.hid (((((hxv.setCell (p := ⟨X10.heap.size, 0, none⟩) (Nat.le_refl _) (.int .i64 tg)).setCell (p := ⟨X10.heap.size, 1, none⟩) (Nat.le_refl _) (.string tn)).setCell (p := ⟨X10.heap.size, 2, none⟩) (Nat.le_refl _) (.int .i64 te)).setCell (p := ⟨X10.heap.size, 3, none⟩) (Nat.le_refl _) (.int .i64 tf)).setCell (p := ⟨X10.heap.size, 4, none⟩) (Nat.le_refl _) (.slice za zn zc))
  clear bx hbv hxv
  go_upto_region 11 with (fail)
  clear hV2 x0 f0 x1 f1 x2 f2 x3 f3 x4 f4
  generalize (((((V2.setCell ⟨X10.heap.size, 0, none⟩ (.int .i64 tg)).setCell ⟨X10.heap.size, 1, none⟩ (.string tn)).setCell ⟨X10.heap.size, 2, none⟩ (.int .i64 te)).setCell ⟨X10.heap.size, 3, none⟩ (.int .i64 tf)).setCell ⟨X10.heap.size, 4, none⟩ (.slice za zn zc)) = Y2 at *
  have HYR3 := Lib.hid (HYR2.out.below HX2.out)
  have HZR3 := Lib.hid (HZR.out.below HX2.out)
  have BXA3 := Lib.hid (BXA.out.below HX2.out)
  have HPM11 := Lib.hid (HPM10.out.below HX2.out)
  clear HYR2 HZR BXA HPM10 HX1 HX2
  obtain ⟨z0, z1, z2, z3, z4, d0, d1⟩ := FQ.out Y2 HW2.out
  go_wp2_with fail
  refine (putdurb_law dg de _).mono ?_
  rintro r X12 ⟨pa, pl, pc, hr, rfl, hpd, hb12⟩
  have HPD := Lib.hid hpd
  have HB12 := Lib.hid (step_below HW2.out hb12)
  have HYR4 := Lib.hid (HYR3.out.below hb12)
  have HZR4 := Lib.hid (HZR3.out.below hb12)
  have BXA4 := Lib.hid (BXA3.out.below hb12)
  have BXB4 := Lib.hid (BX2.out.below hb12)
  have HPM12 := Lib.hid (HPM11.out.below hb12)
  clear hpd hb12 HYR3 HZR3 BXA3 BX2 HPM11 z0 z1 z2 z3 z4 d0 d1
  go_wp2_with fail
  obtain ⟨rg, re, rer, hdv⟩ := durV_form (rdurP L)
  have HDV := Lib.hid hdv
  refine (readdur_law ba L bl bc HL.out.1 (by omega) HL.out.2.1 _ (HL.out.2.2.below (step_below HB0.out HB12.out))).mono ?_
  rw [hdv]
  rintro r X13 ⟨rfl, hb13⟩
  have HB13 := Lib.hid (step_below HB12.out hb13)
  have HYR5 := Lib.hid (HYR4.out.below hb13)
  have HZR5 := Lib.hid (HZR4.out.below hb13)
  have BXA5 := Lib.hid (BXA4.out.below hb13)
  have BXB5 := Lib.hid (BXB4.out.below hb13)
  have HPM13 := Lib.hid (HPM12.out.below hb13)
  have HPD13 := Lib.hid (HPD.out.below hb13)
  clear hb13 HYR4 HZR4 BXA4 BXB4 HPM12 HPD hdv
  obtain ⟨V3, hV3⟩ : ∃ V, X13.alloc (.cells #[.int .i64 0, .int .i64 0] 74) = V := ⟨_, rfl⟩
  have bx : BoxC V3 X13.heap.size #[.int .i64 0, .int .i64 0] 74 := by rw [← hV3]; exact BoxC.new _ _ _
  have hbv : Below W1.heap.size W1 V3 := by rw [← hV3]; exact HB13.out.alloc HB13.out.size _
  have hxv : Below X13.heap.size X13 V3 := by rw [← hV3]; exact bl1 _ _
  have x0 := bx.cell 0
  have f0 := bx.frozen 0
  have x1 := bx.cell 1
  have f1 := bx.frozen 1
  simp only [List.getElem?_toArray, List.getElem?_cons_zero, List.getElem?_cons_succ] at x0 x1
  have BX3 := Lib.hid ((bx.put 0 (.int .i64 rg)).put 1 (.int .i64 re))
  have HW3 := Lib.hid ((hbv.setCell (p := ⟨X13.heap.size, 0, none⟩) HB13.out.size (.int .i64 rg)).setCell (p := ⟨X13.heap.size, 1, none⟩) HB13.out.size (.int .i64 re))
  have HX3 := Lib.hid ((hxv.setCell (p := ⟨X13.heap.size, 0, none⟩) (Nat.le_refl _) (.int .i64 rg)).setCell (p := ⟨X13.heap.size, 1, none⟩) (Nat.le_refl _) (.int .i64 re))
  clear bx hbv hxv
  go_upto_region 13 with (fail)
  clear hV3 x0 f0 x1 f1
  generalize ((V3.setCell ⟨X13.heap.size, 0, none⟩ (.int .i64 rg)).setCell ⟨X13.heap.size, 1, none⟩ (.int .i64 re)) = Y3 at *
  go_wp2_with fail
  refine (rreaddur_law ba L bl bc HL.out.1 (by omega) HL.out.2.1 _ (HL.out.2.2.below (step_below HB0.out HW3.out))).mono ?_
  rw [HDV.out]
  rintro r X14 ⟨rfl, hb14⟩
  have HB14 := Lib.hid (step_below HW3.out hb14)
  have HYR6 := Lib.hid ((HYR5.out.below HX3.out).below hb14)
  have HZR6 := Lib.hid ((HZR5.out.below HX3.out).below hb14)
  have BXA6 := Lib.hid ((BXA5.out.below HX3.out).below hb14)
  have BXB6 := Lib.hid ((BXB5.out.below HX3.out).below hb14)
  have BXC6 := Lib.hid (BX3.out.below hb14)
  have HPM14 := Lib.hid ((HPM13.out.below HX3.out).below hb14)
  have HPD14 := Lib.hid ((HPD13.out.below HX3.out).below hb14)
  clear hb14 HYR5 HZR5 BXA5 BXB5 BX3 HPM13 HPD13 HX3
  obtain ⟨V4, hV4⟩ : ∃ V, X14.alloc (.cells #[.int .i64 0, .int .i64 0] 74) = V := ⟨_, rfl⟩
  have bx : BoxC V4 X14.heap.size #[.int .i64 0, .int .i64 0] 74 := by rw [← hV4]; exact BoxC.new _ _ _
  have hbv : Below W1.heap.size W1 V4 := by rw [← hV4]; exact HB14.out.alloc HB14.out.size _
  have hxv : Below X14.heap.size X14 V4 := by rw [← hV4]; exact bl1 _ _
  have x0 := bx.cell 0
  have f0 := bx.frozen 0
  have x1 := bx.cell 1
  have f1 := bx.frozen 1
  simp only [List.getElem?_toArray, List.getElem?_cons_zero, List.getElem?_cons_succ] at x0 x1
  have BX4 := Lib.hid ((bx.put 0 (.int .i64 rg)).put 1 (.int .i64 re))
  have HW4 := Lib.hid ((hbv.setCell (p := ⟨X14.heap.size, 0, none⟩) HB14.out.size (.int .i64 rg)).setCell (p := ⟨X14.heap.size, 1, none⟩) HB14.out.size (.int .i64 re))
  have HX4 := Lib.hid ((hxv.setCell (p := ⟨X14.heap.size, 0, none⟩) (Nat.le_refl _) (.int .i64 rg)).setCell (p := ⟨X14.heap.size, 1, none⟩) (Nat.le_refl _) (.int .i64 re))
  clear bx hbv hxv
  go_upto_region 14 with (fail)
  clear hV4 x0 f0 x1 f1
  generalize ((V4.setCell ⟨X14.heap.size, 0, none⟩ (.int .i64 rg)).setCell ⟨X14.heap.size, 1, none⟩ (.int .i64 re)) = Y4 at *
  have HYR7 := Lib.hid (HYR6.out.below HX4.out)
  have HZR7 := Lib.hid (HZR6.out.below HX4.out)
  have BXA7 := Lib.hid (BXA6.out.below HX4.out)
  have BXB7 := Lib.hid (BXB6.out.below HX4.out)
  have BXC7 := Lib.hid (BXC6.out.below HX4.out)
  have HPM15 := Lib.hid (HPM14.out.below HX4.out)
  have HPD15 := Lib.hid (HPD14.out.below HX4.out)
  have FB := Lib.hid (fun X (b' : Below Y4.heap.size Y4 X) => (⟨(BXA7.out.below b').cell 0, (BXA7.out.below b').cell 1, (BXA7.out.below b').cell 2, (BXA7.out.below b').cell 3, (BXA7.out.below b').cell 4, (BXB7.out.below b').cell 0, (BXB7.out.below b').cell 1, (BXB7.out.below b').cell 2, (BXB7.out.below b').cell 3, (BXB7.out.below b').cell 4, (BXC7.out.below b').cell 0, (BXC7.out.below b').cell 1, (BX4.out.below b').cell 0, (BX4.out.below b').cell 1⟩ : X.cell? ⟨X9.heap.size, 0, none⟩ = some (.int .i64 tg) ∧ X.cell? ⟨X9.heap.size, 1, none⟩ = some (.string tn) ∧ X.cell? ⟨X9.heap.size, 2, none⟩ = some (.int .i64 te) ∧ X.cell? ⟨X9.heap.size, 3, none⟩ = some (.int .i64 tf) ∧ X.cell? ⟨X9.heap.size, 4, none⟩ = some (.slice ya zn yc) ∧ X.cell? ⟨X10.heap.size, 0, none⟩ = some (.int .i64 tg) ∧ X.cell? ⟨X10.heap.size, 1, none⟩ = some (.string tn) ∧ X.cell? ⟨X10.heap.size, 2, none⟩ = some (.int .i64 te) ∧ X.cell? ⟨X10.heap.size, 3, none⟩ = some (.int .i64 tf) ∧ X.cell? ⟨X10.heap.size, 4, none⟩ = some (.slice za zn zc) ∧ X.cell? ⟨X13.heap.size, 0, none⟩ = some (.int .i64 rg) ∧ X.cell? ⟨X13.heap.size, 1, none⟩ = some (.int .i64 re) ∧ X.cell? ⟨X14.heap.size, 0, none⟩ = some (.int .i64 rg) ∧ X.cell? ⟨X14.heap.size, 1, none⟩ = some (.int .i64 re)))
  clear HYR6 HZR6 BXA6 BXB6 BXC6 HPM14 HPD14 HX4 BXA7 BXB7 BXC7 BX4
  obtain ⟨q0, q1, q2, q3, q4, q5, q6, q7, q8, q9, qa, qb, qc, qd⟩ := FB.out Y4 (Below.refl _ _)
  have HSM := Lib.hid (rsameman_eq tg te tf tn ya za tx zn yc zc HYL.out.1 (by have := HYL.out.2; have := HYL.out.1; omega) Y4 HYR7.out HZR7.out)
  have e3 : (ter != ter) = false := by simp
  have e4 : (rer != rer) = false := by simp
  have hnd := fun W => neq_dur rg re W
  clear HYR7 HZR7
  go_wp2_with fail
  refine HSM.out.mono ?_
  rintro r Y5 ⟨rfl, hb15⟩
  have HB15 := Lib.hid (step_below HW4.out hb15)
  have HPM16 := Lib.hid (HPM15.out.below hb15)
  have HPD16 := Lib.hid (HPD15.out.below hb15)
  clear q0 q1 q2 q3 q4 q5 q6 q7 q8 q9 qa qb qc qd
  obtain ⟨q0, q1, q2, q3, q4, q5, q6, q7, q8, q9, qa, qb, qc, qd⟩ := FB.out Y5 hb15
  clear hb15 HSM HPM15 HPD15 FB HW1 HW2 HW3 HW4
  go_wp2_with fail
  refine (num_law ter _).mono ?_; rintro r w8 ⟨rfl, rfl⟩
  go_wp2_with fail
  refine (num_law rer _).mono ?_; rintro r w8 ⟨rfl, rfl⟩
  go_upto_region 16 with (fail)
  clear q0 q1 q2 q3 q4 q5 q6 q7 q8 q9 qa qb qc qd hnd e3 e4
  obtain ⟨mb, hmb⟩ : ∃ b, manB g e f nm xs = b := ⟨_, rfl⟩
  obtain ⟨db, hdb⟩ : ∃ b, durB dg de = b := ⟨_, rfl⟩
  have HMB := Lib.hid hmb
  have HDB := Lib.hid hdb
  rw [hmb] at HPM16
  rw [hdb] at HPD16
  have HRM := Lib.hid (fun W (b : Below W1.heap.size W1 W) => (by
    have := rman_law g e f nm a xs n cap (by have := HS.out.n; unfold maxLen; omega) (fun x hx => by have := HS.out.all x hx; unfold maxLen; omega) HN.out.1 (by omega) W (HR.out.below (step_below HB0.out b))
    rw [hmb] at this
    exact this : Calls Tryz.prog 43 #[.agg #[.int .i64 g, .string nm, .int .i64 e, .int .i64 f, .slice a n cap]] W fun r w' => r = .returned (.bool mb) ∧ Below W.heap.size W w'))
  have HDU := Lib.hid (fun W => (by
    have := rdurable_law dg de W
    rw [hdb] at this
    exact this : Calls Tryz.prog 42 #[.agg #[.int .i64 dg, .int .i64 de]] W fun r w' => r = .returned (.bool db) ∧ Below W.heap.size W w'))
  clear hmb hdb
  go_cut [121] (fun v wx => v = .bool false ∧ Hid (Below Y5.heap.size Y5 wx))
  case first =>
    rcases HPM16.out with ⟨rfl, rfl, -⟩ | ⟨rfl, rfl, -⟩ <;> rcases HPD16.out with ⟨rfl, rfl, -⟩ | ⟨rfl, rfl, -⟩
    all_goals
      obtain ⟨z0, z1, z2, z3, z4, d0, d1⟩ := FQ.out Y5 HB15.out
      go_wp2_with fail
      refine (HDU.out _).mono ?_; rintro r w5 ⟨rfl, hb5⟩
      have HB5 := Lib.hid hb5
      clear z0 z1 z2 z3 z4 d0 d1
      obtain ⟨z0, z1, z2, z3, z4, d0, d1⟩ := FQ.out w5 (step_below HB15.out hb5)
      clear hb5
      go_wp2_with fail
      refine (num_law _ _).mono ?_; rintro r w8 ⟨rfl, rfl⟩
      go_wp2_with fail
      refine (HRM.out _ (step_below HB15.out HB5.out)).mono ?_; rintro r w6 ⟨rfl, hb6⟩
      have HB6 := Lib.hid (step_below HB5.out hb6)
      clear hb6 z0 z1 z2 z3 z4 d0 d1
      go_wp2_with fail
      refine (num_law _ _).mono ?_; rintro r w8 ⟨rfl, rfl⟩
      go_wp2_with fail
      go_meet
      exact ⟨rfl, HB6⟩
  case rest =>
  obtain ⟨rfl, HBC⟩ := hcut
  obtain ⟨WF, rfl⟩ : ∃ Y, Y = wc := ⟨_, rfl⟩
  have HBF := Lib.hid (step_below HB15.out HBC.out)
  have HPM17 := Lib.hid (HPM16.out.below HBC.out)
  have HPD17 := Lib.hid (HPD16.out.below HBC.out)
  clear HBC HB15 HPM16 HPD16
  go_upto_region 18 with (fail)
  go_cut [146] (fun v wx => v = .bool false ∧ Hid (Below WF.heap.size WF wx))
  case first =>
    rename_i JJ KK hJJ hKK
    obtain ⟨PD, hPD⟩ : ∃ P, frameL (tidW dg.toNat de.toNat) = P := ⟨_, rfl⟩
    have HPDE := Lib.hid hPD
    rw [hPD] at HPD17
    clear hPD
    rcases HPD17.out with ⟨rfl, rfl, hp1, hp2, hp3, hp4⟩ | ⟨rfl, rfl, rfl⟩
    · have HPD := Lib.hid (And.intro hp1 hp4)
      have HPU := Lib.hid (fun W => (by
        have h1 := HDB.out
        unfold durB at h1
        rw [Bool.and_eq_true, inB_iff, inB_iff] at h1
        have := rputdur_own dg.toNat de.toNat (by omega) (by omega) W
        rw [show ((dg.toNat : Nat) : Int) = dg by omega, show ((de.toNat : Nat) : Int) = de by omega, HPDE.out] at this
        exact this : Calls Tryz.prog 44 #[.agg #[.int .i64 dg, .int .i64 de]] W (LsB W PD)))
      clear hp1 hp4
      refine Code.wp_mono (Q := Exit.then KK (fun _ _ _ => False)) (fun e a' w' h => by cases e <;> first | exact h | exact h.elim) ?_
      refine wp_region_held_drew (S := (fun X => Below WF.heap.size WF X)) (by kernel_rfl) ((Below.refl _ _).drew) (fun hHeld => ?_)
      refine tp 0 ?_ rfl (.inl ⟨by rfl, ?_⟩) ?_
      rotate_left
      · intro W hSw; obtain ⟨z0, z1, z2, z3, z4, d0, d1⟩ := FQ.out W (step_below HBF.out hSw); go_simp; try with_reducible rfl
      refine wpAnyH_ready (rs := [1]) (by kernel_rfl) (by simp) ?_
      refine AllReadyH.cons (o := { dst := some 123, op := Op.call { callee := Callee.value (Operand.func 42), args := #[Operand.tmp 122], argTypes := #[74] }, type := 4, pos := "law.go:174", after := #[{ on := 0, ground := Ground.data }], guard := none }) rfl (fun K hK => ?_) AllReadyH.nil
      go_simp
      refine (HDU.out _).mono ?_; rintro e9 w1 ⟨rfl, hb1⟩
      go_wp2_with fail
      refine hK.out _ _ (step_below hHeld hb1) (fun hHeldn => ?_)
      clear hK K hHeld; have hHeld := hHeldn; clear hHeldn
      clear hb1
      try simp only [Act.put, List.setIfInBounds_toArray, List.set_cons_zero, List.set_cons_succ]
      refine tp 2 ?_ rfl (.inl ⟨by rfl, ?_⟩) ?_
      rotate_left
      · intro W hSw; go_simp; try with_reducible rfl
      refine tp 3 ?_ rfl (.inl ⟨by rfl, ?_⟩) ?_
      rotate_left
      · intro W hSw; go_simp; try with_reducible rfl
      refine tp 4 ?_ rfl (.inl ⟨by rfl, ?_⟩) ?_
      rotate_left
      · intro W hSw; have hcv := conv_ls W pa pl pc PD HPD.out.1 (HPD.out.2.below hSw).rd; go_simp; try with_reducible rfl
      refine tp 5 ?_ rfl (.inl ⟨by rfl, ?_⟩) ?_
      rotate_left
      · intro W hSw; obtain ⟨z0, z1, z2, z3, z4, d0, d1⟩ := FQ.out W (step_below HBF.out hSw); go_simp; try with_reducible rfl
      refine wpAnyH_ready (rs := [6]) (by kernel_rfl) (by simp) ?_
      refine AllReadyH.cons (o := { dst := some 128, op := Op.call { callee := Callee.value (Operand.func 44), args := #[Operand.tmp 127], argTypes := #[74] }, type := 22, pos := "law.go:174", after := #[{ on := 5, ground := Ground.data }, { on := 2, ground := Ground.chain }, { on := 2, ground := Ground.guard }], guard := some (2, true) }) rfl (fun K hK => ?_) AllReadyH.nil
      go_simp
      refine (HPU.out _).mono ?_; rintro e9 w6 ⟨a6, c6, rfl, hl6, hb6⟩; have HL6 := Lib.hid hl6
      go_wp2_with fail
      refine hK.out _ _ (step_below hHeld hb6) (fun hHeldn => ?_)
      clear hK K hHeld; have hHeld := hHeldn; clear hHeldn
      clear hb6 hl6
      try simp only [Act.put, List.setIfInBounds_toArray, List.set_cons_zero, List.set_cons_succ]
      refine wpAnyH_ready (rs := [7]) (by kernel_rfl) (by simp) ?_
      refine AllReadyH.cons (o := { dst := some 129, op := Op.convert 22 9 (Operand.tmp 128), type := 9, pos := "law.go:174", after := #[{ on := 6, ground := Ground.data }, { on := 2, ground := Ground.guard }], guard := some (2, true) }) rfl (fun K hK => ?_) AllReadyH.nil
      have hcv2 := conv_ls _ a6 PD.length c6 PD rfl HL6.out.rd
      go_simp
      refine hK.out _ _ hHeld (fun hHeldn => ?_)
      clear hK K hHeld hcv2; have hHeld := hHeldn; clear hHeldn
      try simp only [Act.put, List.setIfInBounds_toArray, List.set_cons_zero, List.set_cons_succ]
      refine tp 8 (.bool false) rfl (.inl ⟨by rfl, ?_⟩) ?_
      · intro W hSw; go_simp; try (first | rfl | (simp; done))
      refine tp 9 (.bool false) rfl (.inl ⟨by rfl, ?_⟩) ?_
      · intro W hSw; go_simp; try (first | rfl | (simp; done))
      refine tp 10 (.bool false) rfl (.inl ⟨by rfl, ?_⟩) ?_
      · intro W hSw; go_simp; try (first | rfl | (simp; done))
      refine tp 11 ?_ rfl (.inl ⟨by rfl, ?_⟩) ?_
      rotate_left
      · intro W hSw; obtain ⟨z0, z1, z2, z3, z4, d0, d1⟩ := FQ.out W (step_below HBF.out hSw); go_simp; try with_reducible rfl
      refine wpAnyH_ready (rs := [12]) (by kernel_rfl) (by simp) ?_
      refine AllReadyH.cons (o := { dst := some 134, op := Op.call { callee := Callee.value (Operand.func 42), args := #[Operand.tmp 133], argTypes := #[74] }, type := 4, pos := "law.go:174", after := #[{ on := 11, ground := Ground.data }, { on := 10, ground := Ground.chain }, { on := 10, ground := Ground.guard }], guard := some (10, false) }) rfl (fun K hK => ?_) AllReadyH.nil
      go_simp
      refine (HDU.out _).mono ?_; rintro e9 w7 ⟨rfl, hb7⟩
      go_wp2_with fail
      refine hK.out _ _ (step_below hHeld hb7) (fun hHeldn => ?_)
      clear hK K hHeld; have hHeld := hHeldn; clear hHeldn
      clear hb7
      try simp only [Act.put, List.setIfInBounds_toArray, List.set_cons_zero, List.set_cons_succ]
      refine tp 13 (.bool false) rfl (.inl ⟨by rfl, ?_⟩) ?_
      · intro W hSw; go_simp; try (first | rfl | (simp; done))
      refine tp 14 (.bool false) rfl (.inl ⟨by rfl, ?_⟩) ?_
      · intro W hSw; go_simp; try (first | rfl | (simp; done))
      refine tp 15 (undef) rfl (.inr ⟨by rfl, rfl⟩) ?_
      refine tp 16 (undef) rfl (.inr ⟨by rfl, rfl⟩) ?_
      refine tp 17 (undef) rfl (.inr ⟨by rfl, rfl⟩) ?_
      refine tp 18 (undef) rfl (.inr ⟨by rfl, rfl⟩) ?_
      refine tp 19 (undef) rfl (.inr ⟨by rfl, rfl⟩) ?_
      refine tp 20 (undef) rfl (.inr ⟨by rfl, rfl⟩) ?_
      refine tp 21 (undef) rfl (.inr ⟨by rfl, rfl⟩) ?_
      refine tp 22 (undef) rfl (.inr ⟨by rfl, rfl⟩) ?_
      refine tp 23 ?_ rfl (.inl ⟨by rfl, ?_⟩) ?_
      rotate_left
      · intro W hSw; go_simp; try with_reducible rfl
      refine tp 24 (.bool false) rfl (.inl ⟨by rfl, ?_⟩) ?_
      · intro W hSw; go_simp; try (first | rfl | (simp; done))
      refine wpAnyH_done (by kernel_rfl) ?_ _
      refine hKK _ _ ?_
      go_meet
      exact ⟨rfl, Lib.hid hHeld⟩
    · refine Code.wp_mono (Q := Exit.then KK (fun _ _ _ => False)) (fun e a' w' h => by cases e <;> first | exact h | exact h.elim) ?_
      refine wp_region_held_drew (S := (fun X => Below WF.heap.size WF X)) (by kernel_rfl) ((Below.refl _ _).drew) (fun hHeld => ?_)
      refine tp 0 ?_ rfl (.inl ⟨by rfl, ?_⟩) ?_
      rotate_left
      · intro W hSw; obtain ⟨z0, z1, z2, z3, z4, d0, d1⟩ := FQ.out W (step_below HBF.out hSw); go_simp; try with_reducible rfl
      refine wpAnyH_ready (rs := [1]) (by kernel_rfl) (by simp) ?_
      refine AllReadyH.cons (o := { dst := some 123, op := Op.call { callee := Callee.value (Operand.func 42), args := #[Operand.tmp 122], argTypes := #[74] }, type := 4, pos := "law.go:174", after := #[{ on := 0, ground := Ground.data }], guard := none }) rfl (fun K hK => ?_) AllReadyH.nil
      go_simp
      refine (HDU.out _).mono ?_; rintro e9 w1 ⟨rfl, hb1⟩
      go_wp2_with fail
      refine hK.out _ _ (step_below hHeld hb1) (fun hHeldn => ?_)
      clear hK K hHeld; have hHeld := hHeldn; clear hHeldn
      clear hb1
      try simp only [Act.put, List.setIfInBounds_toArray, List.set_cons_zero, List.set_cons_succ]
      refine tp 2 (.bool false) rfl (.inl ⟨by rfl, ?_⟩) ?_
      · intro W hSw; go_simp; try (first | rfl | (simp; done))
      refine tp 3 (undef) rfl (.inr ⟨by rfl, rfl⟩) ?_
      refine tp 4 (undef) rfl (.inr ⟨by rfl, rfl⟩) ?_
      refine tp 5 (undef) rfl (.inr ⟨by rfl, rfl⟩) ?_
      refine tp 6 (undef) rfl (.inr ⟨by rfl, rfl⟩) ?_
      refine tp 7 (undef) rfl (.inr ⟨by rfl, rfl⟩) ?_
      refine tp 8 (undef) rfl (.inr ⟨by rfl, rfl⟩) ?_
      refine tp 9 (.bool false) rfl (.inl ⟨by rfl, ?_⟩) ?_
      · intro W hSw; go_simp; try (first | rfl | (simp; done))
      refine tp 10 (.bool false) rfl (.inl ⟨by rfl, ?_⟩) ?_
      · intro W hSw; go_simp; try (first | rfl | (simp; done))
      refine tp 11 ?_ rfl (.inl ⟨by rfl, ?_⟩) ?_
      rotate_left
      · intro W hSw; obtain ⟨z0, z1, z2, z3, z4, d0, d1⟩ := FQ.out W (step_below HBF.out hSw); go_simp; try with_reducible rfl
      refine wpAnyH_ready (rs := [12]) (by kernel_rfl) (by simp) ?_
      refine AllReadyH.cons (o := { dst := some 134, op := Op.call { callee := Callee.value (Operand.func 42), args := #[Operand.tmp 133], argTypes := #[74] }, type := 4, pos := "law.go:174", after := #[{ on := 11, ground := Ground.data }, { on := 10, ground := Ground.chain }, { on := 10, ground := Ground.guard }], guard := some (10, false) }) rfl (fun K hK => ?_) AllReadyH.nil
      go_simp
      refine (HDU.out _).mono ?_; rintro e9 w7 ⟨rfl, hb7⟩
      go_wp2_with fail
      refine hK.out _ _ (step_below hHeld hb7) (fun hHeldn => ?_)
      clear hK K hHeld; have hHeld := hHeldn; clear hHeldn
      clear hb7
      try simp only [Act.put, List.setIfInBounds_toArray, List.set_cons_zero, List.set_cons_succ]
      refine tp 13 (.bool true) rfl (.inl ⟨by rfl, ?_⟩) ?_
      · intro W hSw; go_simp; try (first | rfl | (simp; done))
      refine tp 14 (.bool true) rfl (.inl ⟨by rfl, ?_⟩) ?_
      · intro W hSw; go_simp; try (first | rfl | (simp; done))
      refine tp 15 ?_ rfl (.inl ⟨by rfl, ?_⟩) ?_
      rotate_left
      · intro W hSw; go_simp; try with_reducible rfl
      refine tp 16 ?_ rfl (.inl ⟨by rfl, ?_⟩) ?_
      rotate_left
      · intro W hSw; go_simp; try with_reducible rfl
      refine tp 17 (.bool false) rfl (.inl ⟨by rfl, ?_⟩) ?_
      · intro W hSw; go_simp; try (first | rfl | (simp; done))
      refine tp 18 (.bool false) rfl (.inl ⟨by rfl, ?_⟩) ?_
      · intro W hSw; go_simp; try (first | rfl | (simp; done))
      refine tp 19 ?_ rfl (.inl ⟨by rfl, ?_⟩) ?_
      rotate_left
      · intro W hSw; go_simp; try with_reducible rfl
      refine wpAnyH_ready (rs := [20]) (by kernel_rfl) (by simp) ?_
      refine AllReadyH.cons (o := { dst := some 142, op := Op.call { callee := Callee.value (Operand.func 15), args := #[Operand.tmp 141], argTypes := #[24] }, type := 3, pos := "law.go:174", after := #[{ on := 19, ground := Ground.data }, { on := 18, ground := Ground.chain }, { on := 18, ground := Ground.guard }], guard := some (18, false) }) rfl (fun K hK => ?_) AllReadyH.nil
      go_simp
      refine (num_law _ _).mono ?_; rintro e9 w8 ⟨rfl, rfl⟩
      go_wp2_with fail
      refine hK.out _ _ (hHeld) (fun hHeldn => ?_)
      clear hK K hHeld; have hHeld := hHeldn; clear hHeldn
      try simp only [Act.put, List.setIfInBounds_toArray, List.set_cons_zero, List.set_cons_succ]
      refine tp 21 (.bool false) rfl (.inl ⟨by rfl, ?_⟩) ?_
      · intro W hSw; go_simp; try (first | rfl | (simp; done))
      refine tp 22 (.bool false) rfl (.inl ⟨by rfl, ?_⟩) ?_
      · intro W hSw; go_simp; try (first | rfl | (simp; done))
      refine tp 23 (.bool false) rfl (.inl ⟨by rfl, ?_⟩) ?_
      · intro W hSw; go_simp; try (first | rfl | (simp; done))
      refine tp 24 (.bool false) rfl (.inl ⟨by rfl, ?_⟩) ?_
      · intro W hSw; go_simp; try (first | rfl | (simp; done))
      refine wpAnyH_done (by kernel_rfl) ?_ _
      refine hKK _ _ ?_
      go_meet
      exact ⟨rfl, Lib.hid hHeld⟩
  case rest =>
  obtain ⟨rfl, HBC⟩ := hcut
  obtain ⟨WG, rfl⟩ : ∃ Y, Y = wc := ⟨_, rfl⟩
  have HBG := Lib.hid (step_below HBF.out HBC.out)
  have HPM18 := Lib.hid (HPM17.out.below HBC.out)
  clear HBC HBF HPM17 HPD17
  obtain ⟨z0, z1, z2, z3, z4, d0, d1⟩ := FQ.out WG HBG.out
  go_wp2_with fail
  refine (HRM.out _ HBG.out).mono ?_; rintro r WH ⟨rfl, hb6⟩
  have HBH := Lib.hid (step_below HBG.out hb6)
  have HPM19 := Lib.hid (HPM18.out.below hb6)
  clear hb6 z0 z1 z2 z3 z4 d0 d1 HPM18
  obtain ⟨PM, hPM⟩ : ∃ P, frameL (mnW g.toNat e.toNat f.toNat nm xs) = P := ⟨_, rfl⟩
  have HPME := Lib.hid hPM
  rw [hPM] at HPM19
  clear hPM
  rcases HPM19.out with ⟨rfl, rfl, hp1, hp2, hp3, hp4⟩ | ⟨rfl, rfl, rfl⟩
  · have HPL := Lib.hid (And.intro hp1 hp4)
    have HPU := Lib.hid (fun W (b : Below W1.heap.size W1 W) => (by
      have ok := man_ok HMB.out
      have q1 := ok.g1; have q2 := ok.e1; have q3 := ok.f1
      have := rputman_law g.toNat e.toNat f.toNat nm a xs n cap (by rw [show ((g.toNat : Nat) : Int) = g by omega, show ((e.toNat : Nat) : Int) = e by omega, show ((f.toNat : Nat) : Int) = f by omega]; exact ok) HN.out.1 W (HR.out.below (step_below HB0.out b))
      rw [show ((g.toNat : Nat) : Int) = g by omega, show ((e.toNat : Nat) : Int) = e by omega, show ((f.toNat : Nat) : Int) = f by omega, HPME.out] at this
      exact this : Calls Tryz.prog 45 #[.agg #[.int .i64 g, .string nm, .int .i64 e, .int .i64 f, .slice a n cap]] W (LsB W PM)))
    clear hp1 hp4
    go_upto_region 22 with (fail)
    rename_i KK hKK
    refine Code.wp_mono (Q := Exit.then KK (fun _ _ _ => False)) (fun e a' w' h => by cases e <;> first | exact h | exact h.elim) ?_
    refine wp_region_held_drew (S := (fun X => Below WH.heap.size WH X)) (by kernel_rfl) ((Below.refl _ _).drew) (fun hHeld => ?_)
    refine tp 0 ?_ rfl (.inl ⟨by rfl, ?_⟩) ?_
    rotate_left
    · intro W hSw; go_simp; try with_reducible rfl
    refine tp 1 ?_ rfl (.inl ⟨by rfl, ?_⟩) ?_
    rotate_left
    · intro W hSw; have hcv := conv_ls W xa xl xc PM HPL.out.1 (HPL.out.2.below hSw).rd; go_simp; try with_reducible rfl
    refine tp 2 ?_ rfl (.inl ⟨by rfl, ?_⟩) ?_
    rotate_left
    · intro W hSw; obtain ⟨z0, z1, z2, z3, z4, d0, d1⟩ := FQ.out W (step_below HBH.out hSw); go_simp; try with_reducible rfl
    refine wpAnyH_ready (rs := [3]) (by kernel_rfl) (by simp) ?_
    refine AllReadyH.cons (o := { dst := some 164, op := Op.call { callee := Callee.value (Operand.func 45), args := #[Operand.tmp 163], argTypes := #[72] }, type := 22, pos := "law.go:180", after := #[{ on := 2, ground := Ground.data }], guard := none }) rfl (fun K hK => ?_) AllReadyH.nil
    go_simp
    refine (HPU.out _ (step_below HBH.out hHeld)).mono ?_; rintro e9 w6 ⟨a6, c6, rfl, hl6, hb6⟩; have HL6 := Lib.hid hl6
    go_wp2_with fail
    refine hK.out _ _ (step_below hHeld hb6) (fun hHeldn => ?_)
    clear hK K hHeld; have hHeld := hHeldn; clear hHeldn
    clear hb6 hl6
    try simp only [Act.put, List.setIfInBounds_toArray, List.set_cons_zero, List.set_cons_succ]
    refine wpAnyH_ready (rs := [4]) (by kernel_rfl) (by simp) ?_
    refine AllReadyH.cons (o := { dst := some 165, op := Op.convert 22 9 (Operand.tmp 164), type := 9, pos := "law.go:180", after := #[{ on := 3, ground := Ground.data }], guard := none }) rfl (fun K hK => ?_) AllReadyH.nil
    have hcv2 := conv_ls _ a6 PM.length c6 PM rfl HL6.out.rd
    go_simp
    refine hK.out _ _ hHeld (fun hHeldn => ?_)
    clear hK K hHeld hcv2; have hHeld := hHeldn; clear hHeldn
    try simp only [Act.put, List.setIfInBounds_toArray, List.set_cons_zero, List.set_cons_succ]
    refine tp 5 (.bool true) rfl (.inl ⟨by rfl, ?_⟩) ?_
    · intro W hSw; go_simp; try (first | rfl | (simp; done))
    refine tp 6 (.bool true) rfl (.inl ⟨by rfl, ?_⟩) ?_
    · intro W hSw; go_simp; try (first | rfl | (simp; done))
    refine wpAnyH_ready (rs := [7]) (by kernel_rfl) (by simp) ?_
    refine AllReadyH.cons (o := { dst := some 168, op := Op.call { callee := Callee.value (Operand.func 10), args := #[], argTypes := #[] }, type := 4, pos := "law.go:180", after := #[{ on := 6, ground := Ground.chain }, { on := 6, ground := Ground.guard }], guard := some (6, true) }) rfl (fun K hK => ?_) AllReadyH.nil
    go_simp
    refine (known_law _).mono ?_; rintro e9 w5 ⟨rfl, hb5⟩
    go_wp2_with fail
    refine hK.out _ _ (step_below hHeld hb5) (fun hHeldn => ?_)
    clear hK K hHeld; have hHeld := hHeldn; clear hHeldn
    clear hb5
    try simp only [Act.put, List.setIfInBounds_toArray, List.set_cons_zero, List.set_cons_succ]
    refine tp 8 (.bool true) rfl (.inl ⟨by rfl, ?_⟩) ?_
    · intro W hSw; go_simp; try (first | rfl | (simp; done))
    refine tp 9 ?_ rfl (.inl ⟨by rfl, ?_⟩) ?_
    rotate_left
    · intro W hSw; go_simp; try with_reducible rfl
    refine wpAnyH_done (by kernel_rfl) ?_ _
    skip
    refine hKK _ _ ?_
    have HBZ := Lib.hid (step_below (step_below HB0.out HBH.out) hHeld)
    clear hKK hHeld
    go_wp2_with fail
    go_ret
    exact ⟨rfl, HBZ.out⟩
  · go_wp2_with fail
    refine (num_law _ _).mono ?_; rintro r w8 ⟨rfl, rfl⟩
    go_wp2_with fail
    refine (known_law _).mono ?_; rintro r w9 ⟨rfl, hb9⟩
    have HBZ := Lib.hid (step_below (step_below HB0.out HBH.out) hb9)
    clear hb9
    go_wp2_with fail
    go_ret
    exact ⟨rfl, HBZ.out⟩
end Go.Proofs.YtglkndoghnblcaaGreat
namespace Go.Proofs.YtglkndoghnblcaaGreat
open Go.ChangeShapes Go.WideShapes Go.ChangeAt Go.RowKit Go.Shelf
set_option linter.unusedVariables false
set_option linter.unusedSimpArgs false
end Go.Proofs.YtglkndoghnblcaaGreat
namespace Go.Proofs.YtglkndoghnblcaaGreat
open Go.ChangeShapes Go.WideShapes Go.ChangeAt Go.RowKit Go.Deep
set_option linter.unusedVariables false
set_option linter.unusedSimpArgs false
theorem list_of {α : Type} {p : Nat → α → Prop} : ∀ m, (∀ i, i < m → ∃ x, p i x) → ∃ L : List α, L.length = m ∧ ∀ i x, L[i]? = some x → p i x
  | 0, _ => ⟨[], rfl, fun i x h => by simp at h⟩
  | m + 1, h => by
    obtain ⟨L, hl, hp⟩ := list_of m fun i hi => h i (by omega)
    obtain ⟨x, hx⟩ := h m (by omega)
    refine ⟨L ++ [x], by simp [hl], fun i y hy => ?_⟩
    by_cases e : i < L.length
    · rw [List.getElem?_append_left e] at hy
      exact hp i y hy
    · have hi := (List.getElem?_eq_some_iff.1 hy).1
      simp at hi
      obtain rfl : i = m := by omega
      rw [List.getElem?_append_right (by omega)] at hy
      simp [hl] at hy
      rw [← hy]; exact hx
section
variable {H : Type} {enc : TypeId × Value → H} {w : World} {base : Nat} {held : Bool}
theorem weights_all {P : Program} {e : TypeId} {d : DataW H} {n : Nat} (hn : n ∈ d.weights P e) : ∀ {l : List (DataW H)}, d ∈ l → n ∈ DataW.weightsAll P e l
  | [], h => by simp at h
  | x :: r, h => by
    simp only [DataW.weightsAll, List.mem_append]
    rcases List.mem_cons.1 h with rfl | h
    · exact .inl hn
    · exact .inr (weights_all hn h)
/-- What a slice that is read within the reach says of its length, and of its elements. -/
theorem slice_sz {t e : TypeId} (ht : Tryz.prog.underlying t = some (.slice e)) (hb : 1 ≤ Tryz.prog.bytesOf e) {len k : Nat} {D : Nat → DataW H} (hsz : ∀ n ∈ (DataW.slice ((List.range len).map D) ((List.range k).map fun j => D (len + j))).weights Tryz.prog t, n ≤ reachBytes) :
    len ≤ 140737488355328 ∧ ∀ i, i < len → ∀ n ∈ (D i).weights Tryz.prog e, n ≤ reachBytes := by
  constructor
  · have h1 := hsz ((((List.range len).map D).length + ((List.range k).map fun j => D (len + j)).length) * Tryz.prog.bytesOf e) (by simp only [DataW.weights, ht]; exact List.mem_cons_self ..)
    simp only [List.length_map, List.length_range, reachBytes] at h1
    have : (len + k) * 1 ≤ (len + k) * Tryz.prog.bytesOf e := Nat.mul_le_mul_left _ hb
    omega
  · intro i hi n hn
    refine hsz n ?_
    simp only [DataW.weights, ht, List.mem_cons, List.mem_append]
    exact .inr (.inl (weights_all hn (List.mem_map.2 ⟨i, List.mem_range.2 hi, rfl⟩)))
theorem c1_2 : Tryz.prog.cellsOf 2 = 1 := by kernel_rfl
end
end Go.Proofs.YtglkndoghnblcaaGreat
namespace Go.Proofs.YtglkndoghnblcaaGreat
open Go.ChangeShapes Go.WideShapes Go.ChangeAt Go.RowKit Go.Deep Go.Joins
set_option linter.unusedVariables false
set_option linter.unusedSimpArgs false
section
variable {H : Type} {enc : TypeId × Value → H} {w : World} {base b0 : Nat} {held : Bool} {r : Reach} {v : Value} {d : DataW H} {ps : List MemPlace}
theorem open_agg5' {P : Program} {spare : Nat → Bool} {t : TypeId} {f0 f1 f2 f3 f4 : Field} {p : List MemPlace} (hs : P.underlying t = some (.struct #[f0, f1, f2, f3, f4])) (hone : oneCellFields P #[f0, f1, f2, f3, f4] = true) (hC : P.cellsOf t = 5)
    (hv : Value.okWide P w r b0 t v) (h : DataW.Trod enc P w base spare held t v d p) :
    ∃ (v0 v1 v2 v3 v4 : Value) (y0 y1 y2 y3 y4 : DataW H × List MemPlace) (n : Nat), v = .agg #[v0, v1, v2, v3, v4] ∧ d = .agg [y0.1, y1.1, y2.1, y3.1, y4.1] ∧
      DataW.trod enc P w base spare held n f0.type [v0] = some y0 ∧ DataW.trod enc P w base spare held n f1.type [v1] = some y1 ∧ DataW.trod enc P w base spare held n f2.type [v2] = some y2 ∧ DataW.trod enc P w base spare held n f3.type [v3] = some y3 ∧ DataW.trod enc P w base spare held n f4.type [v4] = some y4 := by
  obtain ⟨cs, rfl, hsz⟩ := okWide_struct hs hv
  obtain ⟨l⟩ := cs
  match l, hsz.trans hC with
  | [c0, c1, c2, c3, c4], _ =>
    obtain ⟨fuel, hf⟩ := h
    obtain ⟨xs, n, _, hx, _, hlen, hg⟩ := DataW.trod_struct hs hf
    obtain ⟨o0, k0⟩ := hone_of hone 0 f0 rfl
    obtain ⟨o1, k1⟩ := hone_of hone 1 f1 rfl
    obtain ⟨o2, k2⟩ := hone_of hone 2 f2 rfl
    obtain ⟨o3, k3⟩ := hone_of hone 3 f3 rfl
    obtain ⟨o4, k4⟩ := hone_of hone 4 f4 rfl
    match xs, hlen with
    | [y0, y1, y2, y3, y4], _ =>
      simp only [Prod.mk.injEq] at hx
      exact ⟨c0, c1, c2, c3, c4, y0, y1, y2, y3, y4, n, rfl, by simpa using hx.1, by simpa [Value.cells, o0, k0] using hg 0 f0 rfl, by simpa [Value.cells, o1, k1] using hg 1 f1 rfl, by simpa [Value.cells, o2, k2] using hg 2 f2 rfl, by simpa [Value.cells, o3, k3] using hg 3 f3 rfl, by simpa [Value.cells, o4, k4] using hg 4 f4 rfl⟩
theorem open_agg2' {P : Program} {spare : Nat → Bool} {t : TypeId} {f0 f1 : Field} {p : List MemPlace} (hs : P.underlying t = some (.struct #[f0, f1])) (hone : oneCellFields P #[f0, f1] = true) (hC : P.cellsOf t = 2)
    (hv : Value.okWide P w r b0 t v) (h : DataW.Trod enc P w base spare held t v d p) :
    ∃ (v0 v1 : Value) (y0 y1 : DataW H × List MemPlace) (n : Nat), v = .agg #[v0, v1] ∧ d = .agg [y0.1, y1.1] ∧
      DataW.trod enc P w base spare held n f0.type [v0] = some y0 ∧ DataW.trod enc P w base spare held n f1.type [v1] = some y1 := by
  obtain ⟨cs, rfl, hsz⟩ := okWide_struct hs hv
  obtain ⟨l⟩ := cs
  match l, hsz.trans hC with
  | [c0, c1], _ =>
    obtain ⟨fuel, hf⟩ := h
    obtain ⟨xs, n, _, hx, _, hlen, hg⟩ := DataW.trod_struct hs hf
    obtain ⟨o0, k0⟩ := hone_of hone 0 f0 rfl
    obtain ⟨o1, k1⟩ := hone_of hone 1 f1 rfl
    match xs, hlen with
    | [y0, y1], _ =>
      simp only [Prod.mk.injEq] at hx
      exact ⟨c0, c1, y0, y1, n, rfl, by simpa using hx.1, by simpa [Value.cells, o0, k0] using hg 0 f0 rfl, by simpa [Value.cells, o1, k1] using hg 1 f1 rfl⟩
theorem c1_76 : Tryz.prog.cellsOf 76 = 2 := by kernel_rfl
theorem c1_9 : Tryz.prog.cellsOf 9 = 1 := by kernel_rfl
theorem op_string {m : Nat} {u : Value} {x : DataW H × List MemPlace} (h : DataW.trod enc Tryz.prog w base (fun _ => true) held m 9 [u] = some x) (hsz : ∀ n ∈ x.1.weights Tryz.prog 9, n ≤ reachBytes) : ∃ s : ByteArray, u = .string s ∧ s.size ≤ 140737488355328 := by
  obtain ⟨s, e, hx, _⟩ := DataW.trod_string Tryz.underlying9 h
  simp only [List.cons.injEq, and_true] at e
  refine ⟨s, e, ?_⟩
  rw [hx] at hsz
  have := hsz s.data.toList.length (by simp [DataW.weights])
  have h2 : s.data.toList.length = s.size := by rw [Array.length_toList]; rfl
  rw [h2] at this
  simp only [reachBytes] at this
  omega
set_option maxRecDepth 100000 in
theorem one_lp {m : Nat} {cs : List Value} {x : DataW H × List MemPlace} (h : DataW.trod enc Tryz.prog w base (fun _ => true) held m 76 cs = some x) (hlen : cs.length = 2) (hsz : ∀ n ∈ x.1.weights Tryz.prog 76, n ≤ reachBytes) :
    ∃ o : LpV, cs = [.string o.1, .int .i64 o.2] ∧ o.1.size ≤ 140737488355328 := by
  match cs, hlen with
  | [u0, u1], _ =>
    obtain ⟨xs, m2, _, hx, _, hl2, hel⟩ := DataW.trod_struct Tryz.underlying76 h
    have g0 : DataW.trod enc Tryz.prog w base (fun _ => true) held m2 9 (List.take (Tryz.prog.cellsOf 9) (List.drop 0 [u0, u1])) = xs[0]? := hel 0 _ rfl
    have g1 : DataW.trod enc Tryz.prog w base (fun _ => true) held m2 2 (List.take (Tryz.prog.cellsOf 2) (List.drop (Tryz.prog.cellsOf 9) [u0, u1])) = xs[1]? := hel 1 _ rfl
    rw [c1_9] at g0 g1
    rw [c1_2] at g1
    simp only [List.drop, List.take] at g0 g1
    match xs, hl2 with
    | [y0, y1], _ =>
      have hx1 : x.1 = .agg [y0.1, y1.1] := by rw [hx]; rfl
      rw [hx1] at hsz
      obtain ⟨s, e0, hs⟩ := op_string g0 (fun n hn => hsz n (by
        have := DataW.weights_mem_each (P := Tryz.prog) (ts := [9, 2]) (ds := [y0.1, y1.1]) (j := 0) (t := 9) rfl rfl n hn
        simpa [DataW.weights, Tryz.underlying76] using this))
      obtain ⟨z1, e1, _⟩ := DataW.trod_int Tryz.underlying2 g1
      simp only [List.cons.injEq, and_true] at e1
      exact ⟨(s, z1), by rw [e0, e1], hs⟩
/-- A slice of parts, opened. -/
theorem open_lps {m : Nat} {u : Value} {x : DataW H × List MemPlace} (h : DataW.trod enc Tryz.prog w base (fun _ => true) held m 70 [u] = some x) (hsz : ∀ n ∈ x.1.weights Tryz.prog 70, n ≤ reachBytes) :
    ∃ (a : Option Addr) (L : List LpV) (c : Nat), u = .slice a L.length c ∧ LpsR w a L ∧ L.length ≤ 140737488355328 ∧ L.length ≤ c ∧ ∀ t ∈ L, t.1.size ≤ 140737488355328 := by
  rcases open_slice Tryz.underlying70 h with ⟨hcs, _⟩ | ⟨y, l, c, k, m2, D, Pl, hcs, _, hl, hm, hk, rfl, hi⟩
  · simp only [List.cons.injEq, and_true] at hcs
    subst hcs
    exact ⟨none, [], 0, rfl, fun k o ho => by simp at ho, Nat.zero_le _, Nat.le_refl _, fun o ho => by simp at ho⟩
  · simp only [List.cons.injEq, and_true] at hcs
    subst hcs
    have hkl : l ≤ k := by rw [hk]; split <;> omega
    obtain ⟨sl, sd⟩ := slice_sz Tryz.underlying70 (of_decide_eq_true (by kernel_rfl)) hsz
    obtain ⟨L, hL, hp⟩ := list_of (p := fun i (t : LpV) => (∀ j v, [Value.string t.1, .int .i64 t.2][j]? = some v → w.cell? ((y.add (i * 2)).add j) = some v) ∧ t.1.size ≤ 140737488355328) l (fun i him => by
      obtain ⟨cs', hc, ht⟩ := hi i (by omega)
      rw [c1_76] at hc
      obtain ⟨_, hcl, hat⟩ := World.cells?_some hc
      obtain ⟨t, ho, hrn⟩ := one_lp ht hcl (sd i him)
      refine ⟨t, fun j v hj => ?_, hrn⟩
      have hj7 : j < 2 := by have := (List.getElem?_eq_some_iff.1 hj).1; simpa using this
      rw [hat j hj7, ho]; exact hj)
    refine ⟨some y, L, c, by rw [hL], fun i t ho => ?_, by omega, by omega, fun t ho => ?_⟩
    · obtain ⟨b, off, spot⟩ := y
      obtain ⟨h0, _⟩ := hp i t ho
      have hil : i < L.length := (List.getElem?_eq_some_iff.1 ho).1
      obtain ⟨z0, _⟩ := hp 0 L[0] (List.getElem?_eq_getElem (by omega))
      have hspot : spot = none := by simpa [Addr.add] using World.cell?_spot (z0 0 _ rfl)
      subst hspot
      have q : ∀ j v, [Value.string t.1, .int .i64 t.2][j]? = some v → w.cell? ⟨b, off + i * 2 + j, none⟩ = some v := fun j v hj => by
        have := h0 j v hj
        rwa [addr_add, addr_add] at this
      exact ⟨b, off, rfl, q 0 _ rfl, q 1 _ rfl⟩
    · obtain ⟨i, hi'⟩ := List.mem_iff_getElem?.1 ho
      exact (hp i t hi').2
set_option maxRecDepth 100000 in
/-- A manifest that came in, by value. -/
theorem open_man (hval : Value.okWide Tryz.prog w r b0 72 v) (hd : DataW.Trod enc Tryz.prog w base (fun _ => true) held 72 v d ps) (hsz : ∀ n ∈ d.weights Tryz.prog 72, n ≤ reachBytes) :
    ∃ (g e f : Int) (nm : ByteArray) (a : Option Addr) (xs : List LpV) (c : Nat), v = .agg #[.int .i64 g, .string nm, .int .i64 e, .int .i64 f, .slice a xs.length c] ∧ nm.size ≤ 140737488355328 ∧ xs.length ≤ 140737488355328 ∧ xs.length ≤ c ∧ LpsR w a xs ∧ ∀ t ∈ xs, t.1.size ≤ 140737488355328 := by
  obtain ⟨v0, v1, v2, v3, v4, y0, y1, y2, y3, y4, n, rfl, rfl, h0, h1, h2, h3, h4⟩ := open_agg5' Tryz.underlying72 (by kernel_rfl) (by kernel_rfl) hval hd
  have all : ∀ (j : Nat) (t : TypeId) (dd : DataW H), [2, 9, 2, 2, 70][j]? = some t → [y0.1, y1.1, y2.1, y3.1, y4.1][j]? = some dd → ∀ n ∈ dd.weights Tryz.prog t, n ≤ reachBytes := fun j t dd hj hdj n hn => hsz n (by
    have := DataW.weights_mem_each (P := Tryz.prog) (ts := [2, 9, 2, 2, 70]) (ds := [y0.1, y1.1, y2.1, y3.1, y4.1]) (j := j) (t := t) hj hdj n hn
    simpa [DataW.weights, Tryz.underlying72] using this)
  obtain ⟨x0, e0, _⟩ := DataW.trod_int Tryz.underlying2 h0
  obtain ⟨s, rfl, hs⟩ := op_string h1 (all 1 9 _ rfl rfl)
  obtain ⟨x2, e2, _⟩ := DataW.trod_int Tryz.underlying2 h2
  obtain ⟨x3, e3, _⟩ := DataW.trod_int Tryz.underlying2 h3
  obtain ⟨a, L, c, rfl, l1, l2, l3, l4⟩ := open_lps h4 (all 4 70 _ rfl rfl)
  simp only [List.cons.injEq, and_true] at e0 e2 e3
  subst e0 e2 e3
  exact ⟨x0, x2, x3, s, a, L, c, rfl, hs, l2, l3, l1, l4⟩
set_option maxRecDepth 100000 in
/-- What is durable, by value. -/
theorem open_dur (hval : Value.okWide Tryz.prog w r b0 74 v) (hd : DataW.Trod enc Tryz.prog w base (fun _ => true) held 74 v d ps) :
    ∃ g e : Int, v = .agg #[.int .i64 g, .int .i64 e] := by
  obtain ⟨v0, v1, y0, y1, n, rfl, rfl, h0, h1⟩ := open_agg2' Tryz.underlying74 (by kernel_rfl) (by kernel_rfl) hval hd
  obtain ⟨x0, e0, _⟩ := DataW.trod_int Tryz.underlying2 h0
  obtain ⟨x1, e1, _⟩ := DataW.trod_int Tryz.underlying2 h1
  simp only [List.cons.injEq, and_true] at e0 e1
  subst e0 e1
  exact ⟨x0, x1, rfl⟩
end
end Go.Proofs.YtglkndoghnblcaaGreat
namespace Go.Proofs.YtglkndoghnblcaaGreat.logManifestsP
open Go.ChangeShapes Go.WideShapes Go.ChangeAt Go.RowKit
open Go.ChangeMaps (open_string shut_string)
set_option linter.unusedVariables false
set_option linter.unusedSimpArgs false

theorem own : ownKnob Tryz.prog.godebug = none := by kernel_rfl
theorem laidOut : laidOutB Tryz.prog = true := by kernel_rfl

set_option maxRecDepth 100000 in
theorem lifted (os : Os) (started : os.Started) (H : Type) (enc : TypeId × Value → H) :
    ReturnsInHanded {} Tryz.checked os 6 .any (Rows.logManifestsSpec.pre6 enc Tryz.prog Tryz.f6 Rows.logManifestsRow.domain false) (Rows.logManifestsSpec.post enc Tryz.prog Tryz.f6 false true false false) := by
  refine returnsInHanded_of_change_sized (C := Tryz.checked) own started (by kernel_rfl) Tryz.func6
    (ChangeSpec.witness6 (enc := enc) (C := Tryz.checked) false ⟨#[], #[.agg #[.int .i64 0, .string { data := #[] }, .int .i64 0, .int .i64 0, .slice none 0 0], .agg #[.int .i64 0, .int .i64 0], .slice none 0 0], []⟩ 12 (by kernel_rfl) (by kernel_rfl) (by kernel_rfl) (by kernel_rfl)) ?_
  intro W base args ds gs before hval0 hW hcnd hsz0 _
  have hsz : (DataW.weightsEach Tryz.prog (Tryz.f6.params.toList ++ Rows.logManifestsSpec.plain.varTypes Tryz.prog) (ds ++ gs)).all (· ≤ reachBytes) = true := hsz0
  clear hsz0
  have hval : ∀ (j : Nat) t v, Tryz.f6.params[j]? = some t → args[j]? = some v → Value.okWide Tryz.prog W .any base t v := hval0
  have hW' := hW
  obtain ⟨p, q, hA0, hV, rfl, hfz, hnd⟩ := hW
  have hA : DataW.TrodAll enc Tryz.prog W 0 (fun _ => true) true Tryz.f6.params.toList args.toList ds p := hA0
  rw [Tryz.params6] at hA hval hsz
  obtain ⟨v0, vs0, d0, ds0, p0, q0, hargs, rfl, rfl, h0, r0⟩ := trodAll_cons hA
  obtain ⟨v1, vs1, d1, ds1, p1, q1, rfl, rfl, rfl, h1, r1⟩ := trodAll_cons r0
  obtain ⟨v2, vs2, d2, ds2, p2, q2, rfl, rfl, rfl, h2, r2⟩ := trodAll_cons r1
  obtain ⟨rfl, rfl, rfl⟩ := trodAll_nil r2
  obtain rfl : args = #[v0, v1, v2] := by cases args; simp_all
  obtain ⟨rfl, rfl⟩ := trodVars_none hV
  have k0 := h0
  have lt0 : ∀ x ∈ p0, x.block < W.heap.size := by obtain ⟨m, hm⟩ := k0; exact DataW.trod_lt m _ _ _ hm
  have all : ∀ n ∈ DataW.weightsEach Tryz.prog ([72, 74, 22] ++ Rows.logManifestsSpec.plain.varTypes Tryz.prog) ([d0, d1, d2] ++ []), n ≤ reachBytes := fun n hn => by simpa using List.all_eq_true.1 hsz n hn
  obtain ⟨mg, me, mf, mn, ma, mx, mc, rfl, hmn, hml, hmc, hmR, _⟩ := open_man (hval 0 72 v0 rfl rfl) h0 (fun n hn => all n (DataW.weights_mem_each (j := 0) (t := 72) rfl rfl n hn))
  have k1 := h1
  have lt1 : ∀ x ∈ p1, x.block < W.heap.size := by obtain ⟨m, hm⟩ := k1; exact DataW.trod_lt m _ _ _ hm
  obtain ⟨dg, de, rfl⟩ := open_dur (hval 1 74 v1 rfl rfl) h1
  obtain ⟨a2, len2, cap2, rfl⟩ := okWide_slice Tryz.underlying22 (hval 2 22 v2 rfl rfl)
  have k2 := h2
  have lt2 : ∀ x ∈ p2, x.block < W.heap.size := by obtain ⟨m, hm⟩ := k2; exact DataW.trod_lt m _ _ _ hm
  obtain ⟨z2, w2, r2z⟩ : ∃ zs, IsRow .u8 W a2 len2 cap2 zs ∧ len2 ≤ 140737488355328 := by
    obtain ⟨fuel, hf⟩ := h2
    rcases open_ints Tryz.underlying22 Tryz.underlying5 (by kernel_rfl) hf with ⟨hcs, _⟩ | ⟨x, l, c, zs, hcs, _, hl, hm, hz, hx, hcell, hwz⟩
    · simp [Value.cells] at hcs
      obtain ⟨rfl, rfl, rfl⟩ := hcs
      exact ⟨[], .inl ⟨rfl, rfl, rfl, rfl⟩, Nat.zero_le _⟩
    · simp [Value.cells] at hcs
      obtain ⟨rfl, rfl, rfl⟩ := hcs
      have hzl : zs.length = cap2 := by simpa using hz
      have hd := (Prod.mk.inj hx).1
      have := sized_slice hsz (j := 2) (t := 22) (e := 5) rfl (by rw [hd]; rfl) Tryz.underlying22
      rw [show Tryz.prog.bytesOf 5 = 1 by kernel_rfl] at this
      simp only [lits, List.length_map, List.length_take, List.length_drop, reachBytes] at this
      exact ⟨zs, .inr ⟨_, rfl, hl, hm, hzl, hcell, hwz⟩, by omega⟩
  clear hA0 hval0
  refine (logmanifests_law mg me mf mn ma mx mx.length mc dg de a2 (z2.take len2) len2 cap2 hmn rfl hml hmc w2.ls.2 w2.byt W hmR w2.ls.1).mono fun e W' ⟨he, bel⟩ => ?_
  subst he
  exact ⟨_, rfl, _, _, _, [], _, [], hW', trodAll_mk1 (shut_bool Tryz.underlying4 _), (trodAll_cons_mk (Below.trod laidOut (by kernel_rfl) (of_decide_eq_true (by kernel_rfl)) k0 bel lt0) (trodAll_cons_mk (Below.trod laidOut (by kernel_rfl) (of_decide_eq_true (by kernel_rfl)) k1 bel lt1) (trodAll_cons_mk (Below.trod laidOut (by kernel_rfl) (of_decide_eq_true (by kernel_rfl)) k2 bel lt2) trodAll_mk0))), rfl, bel.frame _, fun h => by cases h⟩

theorem over : Rows.logManifestsRow.holds Tryz.pinned (OpenSpec.ofChange Rows.logManifestsSpec) :=
  OpenClaim.holds_of_wide 6 Tryz.f6 rfl rfl rfl rfl rfl rfl rfl ⟨rfl, rfl, rfl, rfl, rfl⟩ rfl rfl rfl rfl rfl (by kernel_rfl) Tryz.func6 (by kernel_rfl)
    (of_decide_eq_true (by kernel_rfl)) (by unfold Func.isWrapper; first | (rw [if_pos (by decide +kernel)]; kernel_rfl) | (rw [if_neg (by decide +kernel)]; exact ⟨rfl, rfl⟩))
    (fun os started H enc _ => lifted os started H enc)

theorem proved : Rows.LogManifestsSaid := over
#print axioms proved
end Go.Proofs.YtglkndoghnblcaaGreat.logManifestsP
