/- The reference's Split, by a contract. -/
import Derived.Test.YtkgcbhpgkcfkhaaRfr
namespace Go.Proofs.Ytkgcbhpgkcfkhaa
open Go.ChangeShapes Go.WideShapes Go.ChangeAt Go.RowKit
set_option linter.unusedVariables false
set_option linter.unusedSimpArgs false

set_option maxRecDepth 100000 in
set_option maxHeartbeats 4000000 in
theorem rsplit_law (a : Option Addr) (L : List Int) (n cap : Nat) (hL : L.length = n) (hn : n ≤ 300000) (F K : List Int) (er : Int) (hv : splitV L = (F, K, er)) (w : World) (hA : Ls .u8 w a cap L) :
    Calls Try.prog 28 #[.slice a n cap] w fun r w' => ∃ a1 c1 a2 c2, r = .returned (.tuple #[.slice a1 F.length c1, .slice a2 K.length c2, .int .i64 er]) ∧ Ls .u8 w' a1 c1 F ∧ Ls .u8 w' a2 c2 K ∧ Below w.heap.size w w' := by
  have HA := Lib.hid hA
  have HL := Lib.hid hL
  have HV := Lib.hid hv
  have hbad : splitL [] L = none → F = [] ∧ K = [] ∧ er = 4 := fun h => by
    rw [splitV, h] at hv
    simp only [spV, Prod.mk.injEq] at hv
    exact ⟨hv.1.symm, hv.2.1.symm, hv.2.2.symm⟩
  have HB := Lib.hid hbad
  clear hA hL hv hbad
  go_enter Try.func28, Try.ntmps28
  go_wp2_with fail
  go_loopw [5, 6] (fun v i wr => ∃ (k : Nat) (f : List Int), k ≤ n ∧ i = .int .i64 k ∧ f.length ≤ k ∧ wr.ownsRow w.heap.size 5 1 v f.length (iv .u8 f) ∧ splitL [] L = splitL f (L.drop k) ∧ Below w.heap.size w wr) (fun _ i _ => n - (intOf i).toNat)
  case atStart => exact ⟨0, [], by omega, rfl, by simp, World.ownsRow_nil _ _ _ _, rfl, Below.refl _ _⟩
  case round =>
    obtain ⟨k, f, hk, rfl, hfk, hown, hsp, B⟩ := hrel
    obtain ⟨m, hm⟩ : ∃ m, f.length = m := ⟨_, rfl⟩
    rw [hm] at hown hfk
    have HSP := Lib.hid hsp
    have HM := Lib.hid hm
    have HOWN := Lib.hid hown
    have HFK := Lib.hid hfk
    clear hsp hm hown hfk
    by_cases hlt : k < n
    · have hkl : (k : Int) < (n : Int) := by omega
      have hkL : k < L.length := by rw [HL.out]; exact hlt
      have hdc := drop_cons L k hkL
      obtain ⟨b1, o1, e1, c1⟩ := (HA.out.below B).get k hkL
      subst e1
      obtain ⟨x, hx⟩ : ∃ x, L.getD k 0 = x := ⟨_, rfl⟩
      rw [hx] at c1 hdc
      have HDC := Lib.hid hdc
      have hs1 := B.size
      clear hx hdc
      by_cases q : x = 0
      · have t1 : (x != 0) = false := by rw [q]; rfl
        have HQ := Lib.hid q
        clear q
        by_cases hend : k + 1 = n
        · have t2 : (n : Int) ≤ (k : Int) + 1 := by omega
          have hr := HB.out (by rw [HSP.out]; exact splitL_one _ _ (by rw [List.length_drop]; have := HL.out; omega))
          have HR := Lib.hid hr
          clear hr hend
          go_wp2_with fail
          go_ret3
          obtain ⟨rfl, rfl, rfl⟩ := HR.out
          exact ⟨none, 0, none, 0, rfl, Ls.nul _ _, Ls.nul _ _, B⟩
        · have t2 : ¬ (n : Int) ≤ (k : Int) + 1 := by omega
          have hkl2 : (k : Int) + 1 < (n : Int) := by omega
          have hkL2 : k + 1 < L.length := by rw [HL.out]; omega
          have hdc2 := drop_cons L (k + 1) hkL2
          obtain ⟨b2, o2, e2, c2⟩ := (HA.out.below B).get (k + 1) hkL2
          cases e2
          obtain ⟨y, hy⟩ : ∃ y, L.getD (k + 1) 0 = y := ⟨_, rfl⟩
          rw [hy] at c2 hdc2
          have hsp2 : splitL [] L = if y = 1 then (if f.length ≤ 24 ∧ mayK (L.drop (k + 1 + 1)).length = true then some (f, L.drop (k + 1 + 1)) else none) else if y = 255 then splitL (f ++ [0]) (L.drop (k + 1 + 1)) else none := by
            rw [HSP.out, HDC.out, hdc2, splitL, if_pos HQ.out]
          have HSP2 := Lib.hid hsp2
          have hend2 := Lib.hid hend
          clear hy hdc2 hsp2 hend
          by_cases q1 : y = 1
          · have t3 : (y == 1) = true := by rw [q1]; rfl
            have hsp3 := HSP2.out
            rw [if_pos q1] at hsp3
            have hdl : (L.drop (k + 1 + 1)).length = n - (k + 2) := by rw [List.length_drop, HL.out]
            rw [HM.out, hdl] at hsp3
            obtain ⟨a', c', s', l'⟩ := HA.out.lo eltB n (k + 2) HL.out (by omega)
            have s2 : ∀ W', (Instr.slice 24 (.slice (some ⟨b1, o1, none⟩) n cap) (some (.int .i64 ((k : Int) + 2))) none none).run Try.prog W' = .ok (.slice a' (n - (k + 2)) c') W' := by
              intro W'
              have := s' W'
              rwa [show (((k + 2 : Nat)) : Int) = (k : Int) + 2 by omega] at this
            obtain ⟨r, hr⟩ : ∃ r, n - (k + 2) = r := ⟨_, rfl⟩
            rw [hr] at s2 hdl hsp3
            have HDL := Lib.hid hdl
            have hr3 : r ≤ 300000 := by omega
            obtain ⟨af, cf, hsl, lf, _⟩ := own_ls HOWN.out HM.out
            subst hsl
            have HLF := Lib.hid lf
            have HLP := Lib.hid l'
            have HS3 := Lib.hid hsp3
            clear s' hdl hsp3 hr lf l' HOWN q1
            go_wp2_with (at_builtin; refine append_ls eltB rfl (.const (.slice none 0 0)) (.tmp 40) rfl w.heap.size (.slice none 0 0) 0 [] rfl (World.ownsRow_nil _ _ _ _) a' c' r (L.drop (k + 1 + 1)) HDL.out rfl (HLP.out.below B) (by omega) hs1 ?_)
            intro v2 w2 hown2 hg2
            have hown3 : w2.ownsRow w.heap.size 5 1 v2 r (iv .u8 (L.drop (k + 1 + 1))) := by simpa using hown2
            have B2 := B.grown hg2 hs1 (fun j hj => by cases hj)
            have HLF2 := Lib.hid (HLF.out.below ((Below.refl wr.heap.size wr).grown hg2 (Nat.le_refl _) (fun j hj => by cases hj)))
            obtain ⟨ak, ck, rfl, lk, _⟩ := own_ls hown3 HDL.out
            have HLK := Lib.hid lk
            clear hown2 hg2 hown3 HLF lk
            by_cases q3 : m ≤ 24
            · have q4 : ¬ (24 : Int) < (m : Int) := by omega
              have hmk := rmaykey_law ak r ck w2
              cases hk2 : mayK r
              · rw [hk2] at hmk
                have HMK := Lib.hid hmk
                have hr := HB.out (by rw [HS3.out, if_neg (by rw [hk2]; simp)])
                have HR := Lib.hid hr
                clear hr hmk hk2
                go_wp2_with fail
                refine HMK.out.mono ?_; rintro e w' ⟨rfl, rfl⟩
                go_wp2_with fail
                go_ret3
                obtain ⟨rfl, rfl, rfl⟩ := HR.out
                exact ⟨none, 0, none, 0, rfl, Ls.nul _ _, Ls.nul _ _, B2⟩
              · rw [hk2] at hmk
                have HMK := Lib.hid hmk
                have hv2 := HV.out
                rw [splitV, HS3.out, if_pos ⟨q3, hk2⟩] at hv2
                simp only [spV, Prod.mk.injEq] at hv2
                obtain ⟨e1, e2, e3⟩ := hv2
                have E1 := Lib.hid e1
                have E2 := Lib.hid e2
                have E3 := Lib.hid e3
                clear hmk hk2 e1 e2 e3
                go_wp2_with fail
                refine HMK.out.mono ?_; rintro e w' ⟨rfl, rfl⟩
                go_wp2_with fail
                go_ret3
                have e1 := E1.out
                have e2 := E2.out
                have e3 := E3.out
                subst e1 e2 e3
                exact ⟨af, cf, ak, ck, by rw [HM.out, HDL.out]; rfl, HLF2.out, HLK.out, B2⟩
            · have q4 : (24 : Int) < (m : Int) := by omega
              have hr := HB.out (by rw [HS3.out, if_neg (fun h => q3 h.1)])
              have HR := Lib.hid hr
              clear hr
              go_wp2_with fail
              go_ret3
              obtain ⟨rfl, rfl, rfl⟩ := HR.out
              exact ⟨none, 0, none, 0, rfl, Ls.nul _ _, Ls.nul _ _, B2⟩
          · have t3 : (y == 1) = false := by simpa using q1
            have hsp3 := HSP2.out
            rw [if_neg q1] at hsp3
            by_cases q2 : y = 255
            · have t4 : (y != 255) = false := by simpa using q2
              rw [if_pos q2] at hsp3
              have HSP3 := Lib.hid hsp3
              have Q2 := Lib.hid q2
              clear hsp3 q1 q2
              go_wp2_with (at_builtin; refine append_ls eltB rfl (.tmp 58) (.tmp 59) rfl w.heap.size _ m (iv .u8 f) rfl (HOWN.out.alloc _) _ _ 1 [0] rfl rfl (ls_new .u8 _ [0] _ _ _ rfl 1 rfl) (by have := HFK.out; omega) (by simp; omega) ?_)
              intro v2 w3 hown3 hgrow3
              rw [← iv_append] at hown3
              have B4 := (B.alloc hs1 _).grown hgrow3 (by simp; omega) (fun j hj => (HOWN.out.lt j hj).1)
              have HOWN3 := Lib.hid hown3
              clear hown3 hgrow3
              go_wp2_with fail
              go_roundw
              case rel => exact ⟨k + 2, f ++ [0], by have := hend2.out; omega, by go_num, by rw [List.length_append, HM.out]; have := HFK.out; simp; omega, by rw [List.length_append, HM.out]; exact HOWN3.out, by rw [HSP3.out], B4⟩
              case measure => simp [intOf]; omega
            · have t4 : (y != 255) = true := by simpa using q2
              rw [if_neg q2] at hsp3
              have hr := HB.out hsp3
              have HR := Lib.hid hr
              clear hr hsp3 q1 q2
              go_wp2_with fail
              go_ret3
              obtain ⟨rfl, rfl, rfl⟩ := HR.out
              exact ⟨none, 0, none, 0, rfl, Ls.nul _ _, Ls.nul _ _, B⟩
      · have t1 : (x != 0) = true := by simpa using q
        have hsp2 : splitL [] L = splitL (f ++ [x]) (L.drop (k + 1)) := by rw [HSP.out, HDC.out, splitL_go _ _ _ q]
        have HSP2 := Lib.hid hsp2
        clear q hsp2
        go_wp2_with (at_builtin; refine append_ls eltB rfl (.tmp 17) (.tmp 22) rfl w.heap.size _ m (iv .u8 f) rfl (HOWN.out.alloc _) _ _ 1 [x] rfl rfl (ls_new .u8 _ [x] _ _ _ rfl 1 rfl) (by have := HFK.out; omega) (by simp; omega) ?_)
        intro v2 w3 hown3 hgrow3
        rw [← iv_append] at hown3
        have B4 := (B.alloc hs1 _).grown hgrow3 (by simp; omega) (fun j hj => (HOWN.out.lt j hj).1)
        have HOWN3 := Lib.hid hown3
        clear hown3 hgrow3
        go_wp2_with fail
        go_roundw
        case rel => exact ⟨k + 1, f ++ [x], by omega, by go_num, by rw [List.length_append, HM.out]; have := HFK.out; simp; omega, by rw [List.length_append, HM.out]; exact HOWN3.out, HSP2.out, B4⟩
        case measure => simp [intOf]; omega
    · have hkl : ¬ (k : Int) < (n : Int) := by omega
      have hr := HB.out (by rw [HSP.out]; exact splitL_one _ _ (by rw [List.length_drop]; have := HL.out; omega))
      have HR := Lib.hid hr
      clear hr
      go_wp2_with fail
      go_ret3
      obtain ⟨rfl, rfl, rfl⟩ := HR.out
      exact ⟨none, 0, none, 0, rfl, Ls.nul _ _, Ls.nul _ _, B⟩
end Go.Proofs.Ytkgcbhpgkcfkhaa
