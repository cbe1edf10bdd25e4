/- Entries, forth and back, as the chapter says: the law's walk. -/
import Derived.Test.YtkgcbhpgkcfkhaaKno
import Derived.Test.YtkgcbhpgkcfkhaaRsp
namespace Go.Proofs.Ytkgcbhpgkcfkhaa
open Go.ChangeShapes Go.WideShapes Go.ChangeAt Go.RowKit
set_option linter.unusedVariables false
set_option linter.unusedSimpArgs false

set_option maxRecDepth 100000 in
set_option maxHeartbeats 2000000 in
theorem entries_much (a b c : Option Addr) (n0 n1 n2 c0 c1 c2 : Nat) (h : 9000 < n0 ∨ 9000 < n1 ∨ 9000 < n2) (w : World) :
    Calls Try.prog 4 #[.slice a n0 c0, .slice b n1 c1, .slice c n2 c2] w fun r w' => r = .returned (.bool true) ∧ Below w.heap.size w w' := by
  rcases (show (9000 : Int) < (n0 : Int) ∨ (¬ (9000 : Int) < (n0 : Int) ∧ (9000 : Int) < (n1 : Int)) ∨ (¬ (9000 : Int) < (n0 : Int) ∧ ¬ (9000 : Int) < (n1 : Int) ∧ (9000 : Int) < (n2 : Int)) by omega) with q | ⟨q1, q2⟩ | ⟨q1, q2, q3⟩
  all_goals
    clear h
    go_enter Try.func4, Try.ntmps4
    go_wp2_with fail
    refine (known_law _).mono ?_; rintro e w' ⟨rfl, B⟩
    go_wp2_with fail
    go_ret
    exact ⟨rfl, B⟩
structure KeepE (w : World) (a : Option Addr) (n cap : Nat) (F : List Int) (s : ByteArray) (W : World) : Prop where
  below : Below w.heap.size w W
  ls : Ls .u8 W a cap F
theorem KeepE.drew {w : World} {a : Option Addr} {n cap : Nat} {F : List Int} {s : ByteArray} {W : World} (h : KeepE w a n cap F s W) : KeepE w a n cap F s W.drew := ⟨h.below.drew, h.ls.drew⟩
theorem KeepE.next {w : World} {a : Option Addr} {n cap : Nat} {F : List Int} {s : ByteArray} {W W' : World} (h : KeepE w a n cap F s W) (b : Below W.heap.size W W') : KeepE w a n cap F s W' := ⟨step_below h.below b, h.ls.below b⟩
theorem KeepE.all {w : World} {a : Option Addr} {n cap : Nat} {F : List Int} {s : ByteArray} {W : World} (h : KeepE w a n cap F s W) (hn : F.length = n) (hs : strOfNums F = s) : (convert 24 9 (.slice a n cap)).run Try.prog W = .ok (.string s) W ∧ KeepE w a n cap F s W := ⟨kc_ls a n cap F s hn hs W h.ls, h⟩

set_option maxRecDepth 100000 in
set_option maxHeartbeats 4000000 in
theorem entries_long (a b c : Option Addr) (F K S : List Int) (n0 n1 n2 c0 c1 c2 : Nat) (hF : F.length = n0) (hK : K.length = n1) (hS : S.length = n2) (h0 : n0 ≤ 9000) (h1 : n1 ≤ 9000) (h2 : n2 ≤ 9000) (hl : 24 < n0) (w : World) (hA : Ls .u8 w a c0 F) (hB : Ls .u8 w b c1 K) (hC : Ls .u8 w c c2 S) :
    Calls Try.prog 4 #[.slice a n0 c0, .slice b n1 c1, .slice c n2 c2] w fun r w' => r = .returned (.bool true) ∧ Below w.heap.size w w' := by
  have i0 : ¬ (9000 : Int) < (n0 : Int) := by omega
  have i1 : ¬ (9000 : Int) < (n1 : Int) := by omega
  have i2 : ¬ (9000 : Int) < (n2 : Int) := by omega
  have hli : (24 : Int) < (n0 : Int) := by omega
  have HA := Lib.hid hA
  have HC := Lib.hid hC
  have HF := Lib.hid hF
  obtain ⟨⟨P, Q, er⟩, hv⟩ : ∃ x, splitV S = x := ⟨_, rfl⟩
  have S1 := Lib.hid (fun W b => split_law c S n2 c2 hS (by omega) P Q er hv W (hC.below b))
  have S2 := Lib.hid (fun W b => rsplit_law c S n2 c2 hS (by omega) P Q er hv W (hC.below b))
  obtain ⟨pl, hpl⟩ : ∃ pl, P.length = pl := ⟨_, rfl⟩
  obtain ⟨ql, hql⟩ : ∃ ql, Q.length = ql := ⟨_, rfl⟩
  rw [hpl, hql] at S1 S2
  have HPL := Lib.hid hpl
  have HQL := Lib.hid hql
  clear hA hB hC hF hK hS hv hpl hql
  go_enter Try.func4, Try.ntmps4
  go_wp2_with fail
  refine (S1.out _ (Below.refl _ _)).mono ?_; rintro e w1 ⟨a1, p1, a2, p2, rfl, l1, l2, B⟩
  replace l1 := Lib.hid l1
  replace l2 := Lib.hid l2
  go_wp2_with fail
  refine (S2.out _ B).mono ?_; rintro e w2 ⟨a3, p3, a4, p4, rfl, l3, l4, B2⟩
  replace B := step_below B B2
  have q1 := kc_ls a1 pl p1 P (strOfNums P) HPL.out rfl w2 (l1.out.below B2)
  have q2 := kc_ls a2 ql p2 Q (strOfNums Q) HQL.out rfl w2 (l2.out.below B2)
  have q3 := kc_ls a3 pl p3 P (strOfNums P) HPL.out rfl w2 l3
  have q4 := kc_ls a4 ql p4 Q (strOfNums Q) HQL.out rfl w2 l4
  generalize strOfNums P = sP at q1 q3
  generalize strOfNums Q = sQ at q2 q4
  clear l1 l2 l3 l4 B2
  go_wp2_with (go_at_call 24; refine (num_law _ _).mono ?_; rintro e w' ⟨rfl, rfl⟩)
  clear q1 q2 q3 q4
  refine (front_bad a n0 c0 hl _).mono ?_; rintro e w5 ⟨rfl, B3⟩
  replace B := step_below B B3
  clear B3
  go_wp2_with fail
  refine (entry_bad a b F n0 n1 c0 c1 HF.out (.inl hl) _ (HA.out.below B)).mono ?_; rintro e w6 ⟨rfl, B3⟩
  replace B := step_below B B3
  clear B3
  go_wp2_with (go_at_call 24; refine (num_law _ _).mono ?_; rintro e w' ⟨rfl, rfl⟩)
  refine (known_law _).mono ?_; rintro e w7 ⟨rfl, B3⟩
  replace B := step_below B B3
  clear B3
  go_wp2_with fail
  go_ret
  exact ⟨rfl, B⟩
set_option maxRecDepth 100000 in
set_option maxHeartbeats 4000000 in
theorem entries_short (a b c : Option Addr) (F K S : List Int) (n0 n1 n2 c0 c1 c2 : Nat) (hF : F.length = n0) (hK : K.length = n1) (hS : S.length = n2) (h0 : n0 ≤ 9000) (h1 : n1 ≤ 9000) (h2 : n2 ≤ 9000) (hl : n0 ≤ 24) (w : World) (hA : Ls .u8 w a c0 F) (hB : Ls .u8 w b c1 K) (hC : Ls .u8 w c c2 S) :
    Calls Try.prog 4 #[.slice a n0 c0, .slice b n1 c1, .slice c n2 c2] w fun r w' => r = .returned (.bool true) ∧ Below w.heap.size w w' := by
  have i0 : ¬ (9000 : Int) < (n0 : Int) := by omega
  have i1 : ¬ (9000 : Int) < (n1 : Int) := by omega
  have i2 : ¬ (9000 : Int) < (n2 : Int) := by omega
  have hli : ¬ (24 : Int) < (n0 : Int) := by omega
  have HB := Lib.hid hB
  have HK := Lib.hid hK
  have HA := Lib.hid hA
  have HC := Lib.hid hC
  have HF := Lib.hid hF
  obtain ⟨⟨P, Q, er⟩, hv⟩ : ∃ x, splitV S = x := ⟨_, rfl⟩
  have S1 := Lib.hid (fun W b => split_law c S n2 c2 hS (by omega) P Q er hv W (hC.below b))
  have S2 := Lib.hid (fun W b => rsplit_law c S n2 c2 hS (by omega) P Q er hv W (hC.below b))
  obtain ⟨pl, hpl⟩ : ∃ pl, P.length = pl := ⟨_, rfl⟩
  obtain ⟨ql, hql⟩ : ∃ ql, Q.length = ql := ⟨_, rfl⟩
  rw [hpl, hql] at S1 S2
  have HPL := Lib.hid hpl
  have HQL := Lib.hid hql
  clear hA hB hC hF hK hS hv hpl hql
  go_enter Try.func4, Try.ntmps4
  go_wp2_with fail
  refine (S1.out _ (Below.refl _ _)).mono ?_; rintro e w1 ⟨a1, p1, a2, p2, rfl, l1, l2, B⟩
  replace l1 := Lib.hid l1
  replace l2 := Lib.hid l2
  go_wp2_with fail
  refine (S2.out _ B).mono ?_; rintro e w2 ⟨a3, p3, a4, p4, rfl, l3, l4, B2⟩
  replace B := step_below B B2
  have q1 := kc_ls a1 pl p1 P (strOfNums P) HPL.out rfl w2 (l1.out.below B2)
  have q2 := kc_ls a2 ql p2 Q (strOfNums Q) HQL.out rfl w2 (l2.out.below B2)
  have q3 := kc_ls a3 pl p3 P (strOfNums P) HPL.out rfl w2 l3
  have q4 := kc_ls a4 ql p4 Q (strOfNums Q) HQL.out rfl w2 l4
  generalize strOfNums P = sP at q1 q3
  generalize strOfNums Q = sQ at q2 q4
  clear l1 l2 l3 l4 B2
  go_wp2_with (go_at_call 24; refine (num_law _ _).mono ?_; rintro e w' ⟨rfl, rfl⟩)
  clear q1 q2 q3 q4
  have f1 := front_ok a F n0 c0 HF.out hl _ (HA.out.below B)
  have f2 := Lib.hid (fun W l => rfront_law a F n0 c0 HF.out (by omega) W l)
  have hfl := frontL_len F
  obtain ⟨F', hF'⟩ : ∃ F', frontL F = F' := ⟨_, rfl⟩
  rw [hF'] at f1 f2 hfl
  obtain ⟨x0, hx0⟩ : ∃ x0, F'.length = x0 := ⟨_, rfl⟩
  rw [hx0] at f1 f2 hfl
  have HX0 := Lib.hid hx0
  refine f1.mono ?_; rintro e w5 ⟨a5, c5, rfl, l5, B3⟩
  replace B := step_below B B3
  replace l5 := Lib.hid l5
  clear B3 f1 hx0 hF'
  have hmx : Try.prog.follows .mixedOrders = true := by kernel_rfl
  go_wp2_with fail
  obtain ⟨sF, hsF⟩ : ∃ sF, strOfNums F' = sF := ⟨_, rfl⟩
  have HSF := Lib.hid hsF
  clear hsF
  cases hmk : mayK n1
  · have hmk1 := rmaykey_law b n1 c1
    rw [hmk] at hmk1
    have HMK := Lib.hid hmk1
    have HM := Lib.hid hmk
    clear hmk1 hmk
    refine (entry_bad a b F n0 n1 c0 c1 HF.out (.inr HM.out) _ (HA.out.below B)).mono ?_; rintro e w6 ⟨rfl, B3⟩
    replace B := step_below B B3
    replace l5 := Lib.hid (l5.out.below B3)
    have hd5 := kc_ls a5 x0 c5 F' sF HX0.out HSF.out w6.drew l5.out.drew
    have hda := HA.out.below B.drew
    have hdk := Lib.hid (fun W b => kc_ls a5 x0 c5 F' sF HX0.out HSF.out W (l5.out.drew.below b))
    have HDA := Lib.hid hda
    clear B3 hda
    go_wp2_with fail
    go_region_with (first | (go_at_call 31; refine (f2.out _ HDA.out).mono ?_; rintro e W4 ⟨a4, c4, rfl, l4, B4⟩; have hc4 := kc_ls a4 x0 c4 F' sF HX0.out HSF.out W4 l4; have hc5 := hdk.out _ B4) | (go_at_call 24; refine (num_law _ _).mono ?_; rintro e W4 ⟨rfl, rfl⟩))
    all_goals
      have B5 := step_below B.drew B4
      clear hc4 hc5 hd5 hdk l4 B4
      go_wp2_with (first | (go_at_call 24; refine (num_law _ _).mono ?_; rintro e w' ⟨rfl, rfl⟩) | (go_at_call 21; refine (HMK.out _).mono ?_; rintro e w' ⟨rfl, rfl⟩))
      refine (known_law _).mono ?_; rintro e w7 ⟨rfl, B3⟩
      replace B5 := step_below B5 B3
      clear B3
      go_wp2_with fail
      go_ret
      exact ⟨rfl, B5⟩
  · have hmk1 := rmaykey_law b n1 c1
    rw [hmk] at hmk1
    have HMK := Lib.hid hmk1
    have HM := Lib.hid hmk
    clear hmk1 hmk
    have e1 := Lib.hid (fun W bl => entry_ok a b F K n0 n1 c0 c1 HF.out HK.out hl HM.out W (HA.out.below bl) (HB.out.below bl))
    have e2 := Lib.hid (fun W bl => rentry_law a b F K n0 n1 c0 c1 HF.out HK.out (by omega) (by omega) W (HA.out.below bl) (HB.out.below bl))
    obtain ⟨E, hE⟩ : ∃ E, entryL F K = E := ⟨_, rfl⟩
    rw [hE] at e1 e2
    obtain ⟨y0, hy0⟩ : ∃ y0, E.length = y0 := ⟨_, rfl⟩
    rw [hy0] at e1 e2
    have HY0 := Lib.hid hy0
    clear hE hy0
    refine (e1.out _ B).mono ?_; rintro e w6 ⟨a6, c6, rfl, l6, B3⟩
    replace B := step_below B B3
    replace l5 := Lib.hid (l5.out.below B3)
    have hd5 := kc_ls a5 x0 c5 F' sF HX0.out HSF.out w6.drew l5.out.drew
    have hda := HA.out.below B.drew
    have hdk := Lib.hid (fun W b => kc_ls a5 x0 c5 F' sF HX0.out HSF.out W (l5.out.drew.below b))
    have HDA := Lib.hid hda
    replace l6 := Lib.hid l6
    clear B3 hda
    go_wp2_with fail
    go_region_with (first | (go_at_call 31; refine (f2.out _ HDA.out).mono ?_; rintro e W4 ⟨a4, c4, rfl, l4, B4⟩; have hc4 := kc_ls a4 x0 c4 F' sF HX0.out HSF.out W4 l4; have hc5 := hdk.out _ B4) | (go_at_call 24; refine (num_law _ _).mono ?_; rintro e W4 ⟨rfl, rfl⟩))
    all_goals
      have B5 := step_below B.drew B4
      have l7 := l6.out.drew.below B4
      replace l7 := Lib.hid l7
      obtain ⟨sE, hsE⟩ : ∃ sE, strOfNums E = sE := ⟨_, rfl⟩
      have HSE := Lib.hid hsE
      clear hc4 hc5 hd5 hdk l4 B4 hsE
      go_wp2_with (first | (go_at_call 24; refine (num_law _ _).mono ?_; rintro e w' ⟨rfl, rfl⟩) | (go_at_call 21; refine (HMK.out _).mono ?_; rintro e w' ⟨rfl, rfl⟩))
      have gd := kc_ls a6 y0 c6 E sE HY0.out HSE.out W4.drew l7.out.drew
      have gdk := Lib.hid (fun W b => kc_ls a6 y0 c6 E sE HY0.out HSE.out W (l7.out.drew.below b))
      have B5d := B5.drew
      go_region_with (first | (go_at_call 32; refine (e2.out _ B5d).mono ?_; rintro e W6 ⟨a8, c8, rfl, l8, B8⟩; have gc4 := kc_ls a8 y0 c8 E sE HY0.out HSE.out W6 l8; have gc5 := gdk.out _ B8) | (go_at_call 24; refine (num_law _ _).mono ?_; rintro e W6 ⟨rfl, rfl⟩) | (go_at_call 13; refine (known_law _).mono ?_; rintro e W9 ⟨rfl, B9⟩))
      all_goals
        have B10 := step_below (step_below B5d B8) B9
        clear gc4 gc5 gd gdk l8 B8 B9
        go_wp2_with fail
        go_ret
        exact ⟨rfl, B10⟩
theorem entries_law (a b c : Option Addr) (n0 n1 n2 c0 c1 c2 : Nat) (zs0 zs1 zs2 : List Int) (w : World) (hA : IsRow .u8 w a n0 c0 zs0) (hB : IsRow .u8 w b n1 c1 zs1) (hC : IsRow .u8 w c n2 c2 zs2) :
    Calls Try.prog 4 #[.slice a n0 c0, .slice b n1 c1, .slice c n2 c2] w fun r w' => r = .returned (.bool true) ∧ Below w.heap.size w w' := by
  by_cases h : 9000 < n0 ∨ 9000 < n1 ∨ 9000 < n2
  · exact entries_much a b c n0 n1 n2 c0 c1 c2 h w
  · by_cases hl : n0 ≤ 24
    · exact entries_short a b c _ _ _ n0 n1 n2 c0 c1 c2 hA.ls.2 hB.ls.2 hC.ls.2 (by omega) (by omega) (by omega) hl w hA.ls.1 hB.ls.1 hC.ls.1
    · exact entries_long a b c _ _ _ n0 n1 n2 c0 c1 c2 hA.ls.2 hB.ls.2 hC.ls.2 (by omega) (by omega) (by omega) (by omega) w hA.ls.1 hB.ls.1 hC.ls.1
end Go.Proofs.Ytkgcbhpgkcfkhaa
