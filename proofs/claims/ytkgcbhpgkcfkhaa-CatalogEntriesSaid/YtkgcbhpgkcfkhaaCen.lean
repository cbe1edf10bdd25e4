/- CatalogEntries' walk. -/
import Derived.Test.YtkgcbhpgkcfkhaaCjn
import Derived.Test.YtkgcbhpgkcfkhaaCkw
import Derived.Test.YtkgcbhpgkcfkhaaWrk
namespace Go.Proofs.Ytkgcbhpgkcfkhaa
open Go.ChangeShapes Go.WideShapes Go.ChangeAt Go.RowKit Go.Shelf
set_option linter.unusedVariables false
set_option linter.unusedSimpArgs false

theorem rowOk_congr {A R : List P1} (h : A.map P1.bs = R.map P1.bs) : rowOk A = rowOk R := by rw [rowOk, rowOk, mayR_congr h, len_congr h]
theorem entV_congr (j : Job) (t : Int) {A R : List P1} (K : List Int) (h : A.map P1.bs = R.map P1.bs) : entV j t A K = entV j t R K := by
  unfold entV entL
  rw [rowOk_congr h, len_congr h, h]
theorem same2 (a b : Option Addr) (X : List (Int × List Int)) (n ca cb : Nat) (L M : List E1) (hL : enS L = X) (hM : enS M = X) (hn : X.length = n) (hn6 : n ≤ 1000000) (bX : ∀ x ∈ X, Byt x.2) (w : World) (hA : EnR w a L) (hB : EnR w b M) :
    Calls Try.prog 47 #[.slice a n ca, .slice b n cb] w fun r w' => r = .returned (.bool true) ∧ Below w.heap.size w w' := by
  have h := sameentries_law a b L M n n ca cb (by rw [← hn, ← hL, enS_length]) (by rw [← hn, ← hM, enS_length]) hn6 (fun p hp => bX (p.1, p.2.bs) (by rw [← hL]; exact List.mem_map.2 ⟨p, hp, rfl⟩)) (fun p hp => bX (p.1, p.2.bs) (by rw [← hM]; exact List.mem_map.2 ⟨p, hp, rfl⟩)) w hA hB
  rwa [show enB L M = true from decide_eq_true (hL.trans hM.symm)] at h
theorem woS_len (A B : List (Int × List Int)) : (woS A B).length ≤ A.length := List.length_filter_le _ _
set_option maxRecDepth 100000 in
set_option maxHeartbeats 4000000 in
theorem centries_law (j : Job) (t : Int) (ka : Option Addr) (K : List Int) (kn kc : Nat) (ra sa : Option Addr) (R S : List P1) (rn rc sn sc : Nat) (hK : K.length = kn) (hR : R.length = rn) (hS : S.length = sn) (bK : Byt K) (bR : ∀ p ∈ R, Byt p.bs) (bS : ∀ p ∈ S, Byt p.bs) (w : World) (hl : Ls .i64 w j.a j.cap j.T) (hn : j.T.length = j.n) (hk : Ls .u8 w ka kc K) (hr : RdR w ra R) (hs : RdR w sa S) :
    Calls Try.prog 8 #[.agg #[.int .i64 j.w, .int .i64 j.l, .int .i64 j.d, .int .i64 j.c, .int .i64 j.k, .int .i64 j.e, .slice j.a j.n j.cap], .int .i64 t, .slice ka kn kc, .slice ra rn rc, .slice sa sn sc] w fun r w' => r = .returned (.bool true) ∧ Below w.heap.size w w' := by
  have b0 : Below w.heap.size w (w.alloc (.cells #[.int .i64 j.w, .int .i64 j.l, .int .i64 j.d, .int .i64 j.c, .int .i64 j.k, .int .i64 j.e, .slice j.a j.n j.cap] 53)) := (Below.refl _ _).alloc (Nat.le_refl _) _
  have hbj := BoxC.new w #[.int .i64 j.w, .int .i64 j.l, .int .i64 j.d, .int .i64 j.c, .int .i64 j.k, .int .i64 j.e, .slice j.a j.n j.cap] 53
  have HB0 := Lib.hid b0
  have HBJ := Lib.hid hbj
  have g6 := (hbj).cell 6
  simp only [List.getElem?_toArray, List.getElem?_cons_zero, List.getElem?_cons_succ] at g6
  by_cases hjn : 2000 < j.n
  · have hjni : (2000 : Int) < (j.n : Int) := by omega
    clear b0 hbj hjn
    go_enter Try.func8, Try.ntmps8
    go_wp2_with fail
    refine (known33 _).mono ?_; rintro r w9 ⟨rfl, B2⟩
    go_wp2_with fail
    go_ret
    exact ⟨rfl, step_below HB0.out B2⟩
  have hjni : ¬ (2000 : Int) < (j.n : Int) := by omega
  by_cases hkn : 9000 < kn
  · have hkni : (9000 : Int) < (kn : Int) := by omega
    clear b0 hbj hjn hkn
    go_enter Try.func8, Try.ntmps8
    go_wp2_with fail
    refine (known33 _).mono ?_; rintro r w9 ⟨rfl, B2⟩
    go_wp2_with fail
    go_ret
    exact ⟨rfl, step_below HB0.out B2⟩
  have hkni : ¬ (9000 : Int) < (kn : Int) := by omega
  have HZ1 := Lib.hid (sizes_law ra R rn rc hR _ (hr.below b0))
  have HZ2 := Lib.hid (sizes_law sa S sn sc hS _ (hs.below b0))
  have HJ := Lib.hid (show JobAt w j from ⟨hl, hn, by omega⟩)
  have HK := Lib.hid hk
  have HR := Lib.hid hr
  have HS := Lib.hid hs
  have HKL := Lib.hid hK
  have HRL := Lib.hid hR
  have HSL := Lib.hid hS
  have BK := Lib.hid bK
  have BR := Lib.hid bR
  have BS := Lib.hid bS
  clear b0 hbj hjn hkn hl hn hk hr hs hK hR hS bK bR bS
  go_enter Try.func8, Try.ntmps8
  go_wp2_with fail
  refine HZ1.out.mono ?_; rintro r w' ⟨⟨z1, rfl, hz1, hzl1⟩, rfl⟩
  by_cases hzb : 9000 < z1
  · have hzbi : (9000 : Int) < (z1 : Int) := by omega
    clear hzl1
    go_wp2_with fail
    refine (known33 _).mono ?_; rintro r w9 ⟨rfl, B2⟩
    go_wp2_with fail
    go_ret
    exact ⟨rfl, step_below HB0.out B2⟩
  have hzbi : ¬ (9000 : Int) < (z1 : Int) := by omega
  have HF1 := Lib.hid (hzl1 (by omega))
  clear hzl1
  go_wp2_with fail
  refine HZ2.out.mono ?_; rintro r w' ⟨⟨z2, rfl, hz2, hzl2⟩, rfl⟩
  by_cases hzc : 9000 < z2
  · have hzci : (9000 : Int) < (z2 : Int) := by omega
    clear hzl2
    go_wp2_with fail
    refine (known33 _).mono ?_; rintro r w9 ⟨rfl, B2⟩
    go_wp2_with fail
    go_ret
    exact ⟨rfl, step_below HB0.out B2⟩
  have hzci : ¬ (9000 : Int) < (z2 : Int) := by omega
  have HF2 := Lib.hid (hzl2 (by omega))
  have hrn9 : rn ≤ 9000 := by omega
  have hsn9 : sn ≤ 9000 := by omega
  clear hzl2 HZ1 HZ2 g6
  have HCA := Lib.hid (copy_cp ra R rn rc HRL.out hrn9 HF1.out _ (HR.out.below HB0.out))
  go_wp2_with fail
  refine HCA.out.mono ?_; rintro r w1 ⟨⟨aa, ac, A, rfl, hA, la⟩, B1⟩
  have HA := Lib.hid hA
  have HB1 := Lib.hid (step_below HB0.out B1)
  have HLA := Lib.hid la
  have HBJ1 := Lib.hid (HBJ.out.below B1)
  clear hA la B1 HCA
  have HCB := Lib.hid (copy_cp sa S sn sc HSL.out hsn9 HF2.out _ (HS.out.below HB1.out))
  go_wp2_with fail
  refine HCB.out.mono ?_; rintro r w2 ⟨⟨ba, bc, B, rfl, hB, lb⟩, B2⟩
  have HB := Lib.hid hB
  have HB2 := Lib.hid (step_below HB1.out B2)
  have HLA2 := Lib.hid (HLA.out.below B2)
  have HLB2 := Lib.hid lb
  have HBJ2 := Lib.hid (HBJ1.out.below B2)
  clear hB lb B2 HCB HLA HBJ1
  -- what the four calls give
  have hbyR := entV_byt j t R K BR.out BK.out
  have hbyS := entV_byt j t S K BS.out BK.out
  have hlnR := entV_len j t R K
  have hlnS := entV_len j t S K
  rw [HRL.out] at hlnR
  rw [HSL.out] at hlnS
  have HE1 := Lib.hid (fun W (b : Below w2.heap.size w2 W) => (by have := entries_law j t ka K kn kc aa A rn ac HKL.out (by rw [len_congr HA.out, HRL.out]) (by omega) W (HJ.out.below (step_below HB2.out b)) (HK.out.below (step_below HB2.out b)) (HLA2.out.below b); rwa [entV_congr j t K HA.out] at this))
  have HE2 := Lib.hid (fun W (b : Below w2.heap.size w2 W) => qentries_law j t ka K kn kc ra R rn rc HKL.out HRL.out (by omega) W (HJ.out.below (step_below HB2.out b)) (HK.out.below (step_below HB2.out b)) (HR.out.below (step_below HB2.out b)))
  have HE3 := Lib.hid (fun W (b : Below w2.heap.size w2 W) => (by have := changes_law j t ka K kn kc aa ba A B rn ac sn bc HKL.out (by rw [len_congr HA.out, HRL.out]) (by rw [len_congr HB.out, HSL.out]) (by omega) (by omega) BK.out (byt_congr HA.out BR.out) (byt_congr HB.out BS.out) W (HJ.out.below (step_below HB2.out b)) (HK.out.below (step_below HB2.out b)) (HLA2.out.below b) (HLB2.out.below b); rwa [entV_congr j t K HA.out, entV_congr j t K HB.out] at this))
  have HE4 := Lib.hid (fun W (b : Below w2.heap.size w2 W) => qchanges_law j t ka K kn kc ra sa R S rn rc sn sc HKL.out HRL.out HSL.out (by omega) (by omega) BK.out BR.out BS.out W (HJ.out.below (step_below HB2.out b)) (HK.out.below (step_below HB2.out b)) (HR.out.below (step_below HB2.out b)) (HS.out.below (step_below HB2.out b)))
  generalize entV j t R K = V at *
  generalize entV j t S K = U at *
  have hch1 : ∀ x ∈ (chV V U).1, Byt x.2 := fun x hx => by
    unfold chV at hx
    split at hx
    · exact (hbyR x ((List.mem_filter.1 hx).1)).1
    · simp at hx
  have hch2 : ∀ x ∈ (chV V U).2.1, Byt x.2 := fun x hx => by
    unfold chV at hx
    split at hx
    · exact (hbyS x ((List.mem_filter.1 hx).1)).1
    · simp at hx
  have hcl1 : (chV V U).1.length ≤ 1000000 := by
    unfold chV
    split
    · have := woS_len V.1 U.1; simp only; omega
    · simp
  have hcl2 : (chV V U).2.1.length ≤ 1000000 := by
    unfold chV
    split
    · have := woS_len U.1 V.1; simp only; omega
    · simp
  generalize chV V U = C at *
  obtain ⟨V, ve⟩ := V
  obtain ⟨G, C, ce⟩ := C
  simp only at hbyR hlnR hch1 hch2 hcl1 hcl2
  have HBV := Lib.hid (show ∀ x ∈ V, Byt x.2 from fun x hx => (hbyR x hx).1)
  have HBG := Lib.hid hch1
  have HBC := Lib.hid hch2
  obtain ⟨vl, hvl⟩ : ∃ n, V.length = n := ⟨_, rfl⟩
  obtain ⟨gl, hgl⟩ : ∃ n, G.length = n := ⟨_, rfl⟩
  obtain ⟨cl, hcl⟩ : ∃ n, C.length = n := ⟨_, rfl⟩
  have HVL := Lib.hid hvl
  have HGL := Lib.hid hgl
  have HCL := Lib.hid hcl
  rw [hvl] at hlnR
  rw [hgl] at hcl1
  rw [hcl] at hcl2
  unfold EnP at HE1 HE2
  unfold ChP at HE3 HE4
  simp only [hvl, hgl, hcl] at HE1 HE2 HE3 HE4
  have hve : (ve != ve) = false := by simp
  have hce : (ce != ce) = false := by simp
  clear hbyR hbyS hlnS hch1 hch2 hvl hgl hcl U
  have g0 := (HBJ2.out).cell 0
  have g1 := (HBJ2.out).cell 1
  have g2 := (HBJ2.out).cell 2
  have g3 := (HBJ2.out).cell 3
  have g4 := (HBJ2.out).cell 4
  have g5 := (HBJ2.out).cell 5
  have g6 := (HBJ2.out).cell 6
  simp only [List.getElem?_toArray, List.getElem?_cons_zero, List.getElem?_cons_succ] at g0 g1 g2 g3 g4 g5 g6
  go_wp2_with fail
  refine (HE1.out _ (Below.refl _ _)).mono ?_; rintro r w3 ⟨⟨l1, m1, L1, rfl, s1, r1⟩, B3⟩
  have HS1 := Lib.hid s1
  have HR1 := Lib.hid (fun W (b : Below w3.heap.size w3 W) => r1.below b)
  have HB3 := Lib.hid B3
  have HBJ3 := Lib.hid (HBJ2.out.below B3)
  clear s1 r1 B3 g0 g1 g2 g3 g4 g5 g6
  have g0 := (HBJ3.out).cell 0
  have g1 := (HBJ3.out).cell 1
  have g2 := (HBJ3.out).cell 2
  have g3 := (HBJ3.out).cell 3
  have g4 := (HBJ3.out).cell 4
  have g5 := (HBJ3.out).cell 5
  have g6 := (HBJ3.out).cell 6
  simp only [List.getElem?_toArray, List.getElem?_cons_zero, List.getElem?_cons_succ] at g0 g1 g2 g3 g4 g5 g6
  go_wp2_with fail
  refine (HE2.out _ HB3.out).mono ?_; rintro r w4 ⟨⟨l2, m2, L2, rfl, s2, r2⟩, B4⟩
  have HS2 := Lib.hid s2
  have HR2 := Lib.hid (fun W (b : Below w4.heap.size w4 W) => r2.below b)
  have H34 := Lib.hid B4
  have HB4 := Lib.hid (step_below HB3.out B4)
  have HBJ4 := Lib.hid (HBJ3.out.below B4)
  clear s2 r2 B4 g0 g1 g2 g3 g4 g5 g6
  have g0 := (HBJ4.out).cell 0
  have g1 := (HBJ4.out).cell 1
  have g2 := (HBJ4.out).cell 2
  have g3 := (HBJ4.out).cell 3
  have g4 := (HBJ4.out).cell 4
  have g5 := (HBJ4.out).cell 5
  have g6 := (HBJ4.out).cell 6
  simp only [List.getElem?_toArray, List.getElem?_cons_zero, List.getElem?_cons_succ] at g0 g1 g2 g3 g4 g5 g6
  go_wp2_with fail
  refine (HE3.out _ HB4.out).mono ?_; rintro r w5 ⟨⟨x3, y3, c3, d3, G3, C3, rfl, s3, r3, t3, q3⟩, B5⟩
  have HS3 := Lib.hid (And.intro s3 t3)
  have HR3 := Lib.hid (fun W (b : Below w5.heap.size w5 W) => And.intro (r3.below b) (q3.below b))
  have H45 := Lib.hid B5
  have HB5 := Lib.hid (step_below HB4.out B5)
  have HBJ5 := Lib.hid (HBJ4.out.below B5)
  clear s3 r3 t3 q3 B5 g0 g1 g2 g3 g4 g5 g6
  have g0 := (HBJ5.out).cell 0
  have g1 := (HBJ5.out).cell 1
  have g2 := (HBJ5.out).cell 2
  have g3 := (HBJ5.out).cell 3
  have g4 := (HBJ5.out).cell 4
  have g5 := (HBJ5.out).cell 5
  have g6 := (HBJ5.out).cell 6
  simp only [List.getElem?_toArray, List.getElem?_cons_zero, List.getElem?_cons_succ] at g0 g1 g2 g3 g4 g5 g6
  go_wp2_with fail
  refine (HE4.out _ HB5.out).mono ?_; rintro r w6 ⟨⟨x4, y4, c4, d4, G4, C4, rfl, s4, r4, t4, q4⟩, B6⟩
  have HS4 := Lib.hid (And.intro s4 t4)
  have HR4 := Lib.hid (fun W (b : Below w6.heap.size w6 W) => And.intro (r4.below b) (q4.below b))
  have H56 := Lib.hid B6
  have HB6 := Lib.hid (step_below HB5.out B6)
  clear s4 r4 t4 q4 B6 g0 g1 g2 g3 g4 g5 g6 HE1 HE2 HE3 HE4
  have HA1 := Lib.hid (fun W (b : Below w6.heap.size w6 W) => same2 l1 l2 V vl m1 m2 L1 L2 HS1.out HS2.out HVL.out (by omega) HBV.out W (HR1.out _ (step_below H34.out (step_below H45.out (step_below H56.out b)))) (HR2.out _ (step_below H45.out (step_below H56.out b))))
  have HA2 := Lib.hid (fun W (b : Below w6.heap.size w6 W) => same2 x3 x4 G gl c3 c4 G3 G4 HS3.out.1 HS4.out.1 HGL.out (by omega) HBG.out W (HR3.out _ (step_below H56.out b)).1 (HR4.out _ b).1)
  have HA3 := Lib.hid (fun W (b : Below w6.heap.size w6 W) => same2 y3 y4 C cl d3 d4 C3 C4 HS3.out.2 HS4.out.2 HCL.out (by omega) HBC.out W (HR3.out _ (step_below H56.out b)).2 (HR4.out _ b).2)
  go_wp2_with fail
  refine (HA1.out _ (Below.refl _ _)).mono ?_; rintro r w7 ⟨rfl, B7⟩
  go_wp2_with fail
  refine (num35 _ _).mono ?_; rintro r w' ⟨rfl, rfl⟩
  go_wp2_with fail
  refine (HA2.out _ B7).mono ?_; rintro r w8 ⟨rfl, B8⟩
  replace B8 := step_below B7 B8
  go_wp2_with fail
  refine (HA3.out _ B8).mono ?_; rintro r w9 ⟨rfl, B9⟩
  replace B9 := step_below B8 B9
  go_wp2_with fail
  refine (num35 _ _).mono ?_; rintro r w' ⟨rfl, rfl⟩
  have HB9 := Lib.hid (step_below HB6.out B9)
  clear B7 B8 B9
  go_wp2_with fail
  refine (rsame_cp HA.out aa ra rn ac rc HRL.out (by omega) BR.out _ (HLA2.out.below HB9.out) (HR.out.below (step_below HB2.out HB9.out))).mono ?_; rintro r w10 ⟨rfl, B10⟩
  replace B10 := Lib.hid (step_below HB9.out B10)
  go_wp2_with fail
  refine (rsame_cp HB.out ba sa sn bc sc HSL.out (by omega) BS.out _ (HLB2.out.below B10.out) (HS.out.below (step_below HB2.out B10.out))).mono ?_; rintro r w11 ⟨rfl, B11⟩
  replace B11 := Lib.hid (step_below B10.out B11)
  go_wp2_with fail
  refine (known33 _).mono ?_; rintro r w12 ⟨rfl, B12⟩
  go_wp2_with fail
  go_ret
  exact ⟨rfl, step_below HB2.out (step_below B11.out B12)⟩
end Go.Proofs.Ytkgcbhpgkcfkhaa
