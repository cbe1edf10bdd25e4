/- Part of the proof that ModelApplies holds for every input: writes that are done on tables leave them as the document says. Part 16. -/
import Derived.Test.YthmofoldmdafoaaGreatSvo
set_option linter.unusedVariables false
set_option linter.unusedSimpArgs false
set_option maxRecDepth 100000
set_option maxHeartbeats 4000000
namespace Go.Proofs.YthmofoldmdafoaaGreat
open Go.ChangeShapes Go.WideShapes Go.ChangeAt Go.RowKit
open Go.Lib (hid)
open Go.Proofs.Tryz
section
open Go.Maps
theorem pairL_no {f : List Int -> Option (List (List Int))} {Q : List (List Int)} {k : Nat} {K : List Int} (h : Q[k]? = some K) (hf : f K = none) : xv_ f (Q.take (k + 1)) = xv_ f (Q.take k) := by
 rw [List.take_add_one, h]
 show xv_ f (Q.take k ++ [K]) = _
 rw [jx_, hf]
theorem pairL_yes {f : List Int -> Option (List (List Int))} {Q : List (List Int)} {k : Nat} {K : List Int} {R : List (List Int)} (h : Q[k]? = some K) (hf : f K = some R) : xv_ f (Q.take (k + 1)) = xv_ f (Q.take k) ++ [(K, R)] := by
 rw [List.take_add_one, h]
 show xv_ f (Q.take k ++ [K]) = _
 rw [jx_, hf]
theorem AllS.len {α : Type} {L : List (List Int × α)} (hr : Ris Prod.fst L) {ss : List (List Int)} (h : AllS L ss) : ss.length = L.length := by
 have hp : ss.Perm (L.map Prod.fst) := (List.perm_ext_iff_of_nodup h.1 (by
  have := QC_ hr
  rw [List.nodup_iff_pairwise_ne, List.pairwise_map]; exact this)).2 h.2
 rw [hp.length_eq, List.length_map]
def PsR (w : World) (T : List Pr) (r : Ending) (w' : World) : Prop := ∃ a c P, r = .returned (.slice a P.length c) /\ Below w.heap.size w w' /\ P.map prC = T /\ (∀ p ∈ P, zH_ p.K /\ rOk (p.R.map P1.bs)) /\ P.length <= c /\ (a = none -> c = 0) /\ P.length <= 1000000 /\ ∀ S : Nat -> Prop, (∀ k, S k -> k < w.heap.size) -> zs_ S w' fun W' => yc_ W' a P
theorem qg_ {S : Nat -> Prop} {base : Nat} {w : World} {m : Md} {x : Tl} (h : TlR S base w m x) (t : Nat) (ht : t < m.tabs.length) (hf : ∀ z ∈ m.tabs, z.2.length <= 900000) :
  Calls prog 82 #[.pointer (some ⟨x.px, 0, none⟩), .int .i64 (t : Int)] w (PsR w (x.T m t)) := by
 obtain ⟨y, hy⟩ : ∃ y, x.wm[t]? = some y := ⟨_, List.getElem?_eq_getElem Xt82⟩
 obtain ⟨z, hz⟩ : ∃ z, m.tabs[t]? = some z := ⟨_, List.getElem?_eq_getElem ht⟩
 have hym := List.mem_of_getElem? hy
 have hzm := List.mem_of_getElem? hz
 obtain ⟨c0, c1, c2, c3, c4⟩ := h.c
 have hfew := h.md.few
 have hwl := h.wlen
 have ht0 : ¬ (t : Int) < 0 := by omega
 have ht1 : (t : Int) < (m.tabs.length : Int) := by omega
 have ht2 : (t : Int) < (x.wm.length : Int) := by omega
 have hl1 : (m.tabs.length : Int) <= 1000000 := by omega
 have hl2 : (x.wm.length : Int) <= 1000000 := by omega
 have hz9 := hf z hzm
 have hy9 := h.wl y hym
 have hwf := h.few
 have HX := hid (fun X (b : Below w.heap.size w X) => (⟨tcb b c0, (h.below b).md.c, (h.below b).md.st.now.tab t z hz, tcb b c1, (h.below b).st.now.tab t y hy⟩ : X.cell? ⟨x.px, 0, none⟩ = some (.pointer (some ⟨m.p, 0, none⟩)) /\ X.cell? ⟨m.p, 7, none⟩ = some (.slice (some ⟨m.bt, 0, none⟩) m.tabs.length m.tc) /\ X.cell? ⟨m.bt, t, none⟩ = some (.map (some z.1)) /\ X.cell? ⟨x.px, 1, none⟩ = some (.slice (some ⟨x.bw, 0, none⟩) x.wm.length x.wc) /\ X.cell? ⟨x.bw, t, none⟩ = some (.map (some y.1))))
 have HH := hid h
 have HM := hid h.md
 have HZ := hid (And.intro hz hzm)
 have HY := hid (And.intro hy hym)
 have HSS := hid (fun ss (hs : AllS z.2 ss) => hs.len (h.md.maps z hzm).ris)
 have HSY := hid (fun ss (hs : AllS y.2 ss) => hs.len (h.wmaps y hym).ris)
 have HT := hid ht
 clear h hy hz hym hzm c0 c1 c2 c3 c4 hfew hwl hf ht
 go_enter func82, ntmps82
 go_upto_region 1 with (fail)
 refine rgw w (Below.refl _ _).drew fun hH => ?_
 refine tkq3 0 1 2 ?_
 refine tkr 3 rfl Xf2 ?_
 refine tkq2 4 5 ?_
 refine tkr 6 rfl Xf4 ?_
 refine tkq2 7 8 ?_
 refine tkr 9 rfl Xf3 ?_
 refine tkq3 12 13 14 ?_
 refine tkr 15 rfl (fun W hSw => by have m := (HX.out W hSw).2.2.2.1; exact tks) ?_
 refine tkq2 16 17 ?_
 refine tkr 18 rfl (fun W hSw => by have m := (HX.out W hSw).2.2.2.2; exact tks) ?_
 refine tk1 10 rfl fun K hK => ?_
 go_simp
 refine (rkeys_law _ z.1).mono ?_; rintro r w1 ⟨rfl, hw1⟩
 have HK1 := hid (by rw [hw1]; exact zg_.new w.drew #[.map (some z.1)] 90 : zg_ w1 w.heap.size #[.map (some z.1)] 90)
 have HB1 := hid (by rw [hw1]; exact za_ hH (bl1 w.drew _) : Below w.heap.size w w1)
 have HS1 := hid (by rw [hw1]; simp : w.heap.size < w1.heap.size)
 clear hw1
 go_wp2_with fail
 refine hK.out _ _ HB1.out fun hH => ?_
 refine stP ?_
 refine tk1 11 rfl fun K hK => ?_
 go_simp
 refine (QF_ w1 w.heap.size z.1 z.2 HK1.out ((HM.out.below HB1.out).maps z HZ.out.2) Xt0).mono ?_; rintro r w2 ⟨ss, v2, rfl, hall2, how2, hb2⟩
 obtain ⟨a2, c2, hv2⟩ := zd_ how2
 subst hv2
 have HA2 := hid hall2
 have HO2 := hid (yH_ how2 HB1.out.size)
 have HB2 := hid (za_ HB1.out hb2)
 clear hall2 how2 hb2
 go_wp2_with fail
 refine hK.out _ _ HB2.out fun hH => ?_
 refine stP ?_
 refine tk1 19 rfl fun K hK => ?_
 go_simp
 refine (ikeys_law w2 y.1).mono ?_; rintro r w3 ⟨rfl, hw3⟩
 have HK3 := hid (by rw [hw3]; exact zg_.new w2 #[.map (some y.1)] 173 : zg_ w3 w2.heap.size #[.map (some y.1)] 173)
 have HB23 := hid (by rw [hw3]; exact bl1 w2 _ : Below w2.heap.size w2 w3)
 have HB3 := hid (za_ HB2.out HB23.out)
 clear hw3
 go_wp2_with fail
 refine hK.out _ _ HB3.out fun hH => ?_
 refine stP ?_
 refine tk1 20 rfl fun K hK => ?_
 go_simp
 refine (iapp_law w3 w2.heap.size y.1 w.heap.size y.2 HK3.out ((HH.out.below HB3.out).wmaps y HY.out.2) Xt0 (.slice a2 ss.length c2) ss (by rw [HSS.out ss HA2.out]; omega) HB3.out.size (ze_ HO2.out HB23.out)).mono ?_; rintro r w4 ⟨ss2, v4, rfl, hall4, how4, hb4⟩
 obtain ⟨a4, c4, hv4⟩ := zd_ how4
 subst hv4
 have HA4 := hid hall4
 have HO4 := hid how4
 have HB4 := hid (HB3.out.trans hb4)
 clear hall4 how4 hb4
 go_wp2_with fail
 refine hK.out _ _ HB4.out fun hH => ?_
 refine stP ?_
 refine tkq 21 ?_
 refine adn ?_
 skip
 have HLN := hid (show (ss ++ ss2).length = ss.length + ss2.length from List.length_append)
 have hle := And.intro (HSS.out ss HA2.out) (HSY.out ss2 HA4.out)
 have hln2 : ss.length + ss2.length <= 1000000 := by omega
 have ho4 := HO4.out
 rw [HLN.out] at ho4
 have hbyt : ∀ K ∈ ss ++ ss2, Byt K := fun K hK => by
  rcases List.mem_append.1 hK with hK | hK
  ·have := (HA2.out.2 K).1 hK
   obtain ⟨p, hp, rfl⟩ := List.mem_map.1 this
   exact (HM.out.maps z HZ.out.2).byt p hp
  ·have := (HA4.out.2 K).1 hK
   obtain ⟨p, hp, rfl⟩ := List.mem_map.1 this
   exact (HH.out.wmaps y HY.out.2).byt p hp
 have HBY := hid hbyt
 have HS4 := hid (sort_law w.heap.size a4 (ss.length + ss2.length) c4 (ss ++ ss2) HLN.out Xt0 hbyt w4 ho4)
 clear hH hle hbyt ho4
 go_wp2_with fail
 refine HS4.out.mono ?_; rintro r w5 ⟨rfl, how5, o5⟩
 have HL5 := hid (show ((ss ++ ss2).mergeSort leL).length = ss.length + ss2.length by rw [List.length_mergeSort, HLN.out])
 have HC5 := hid (compact_law w.heap.size a4 (ss.length + ss2.length) c4 ((ss ++ ss2).mergeSort leL) HL5.out Xt0 (fun K hK => HBY.out K (List.mem_mergeSort.1 hK)) w5 how5)
 have HB5 := hid (Off.below HB4.out o5 HB4.out.size fun k hk => (zb_ how5 hk).1)
 have HO5 := hid how5
 clear how5 o5
 go_wp2_with fail
 refine HC5.out.mono ?_; rintro r w6 ⟨a6, c6, rfl, hst6, o6⟩
 have HB6 := hid (Off.below HB5.out o6 HB5.out.size fun k hk => (zb_ HO5.out hk).1)
 have HST := hid hst6
 obtain ⟨Q, hQ⟩ := gtx (yg_ ((ss ++ ss2).mergeSort leL))
 have hql : Q.length <= 1000000 := by rw [← hQ]; have := compL_len ((ss ++ ss2).mergeSort leL); rw [HL5.out] at this; omega
 have HQR := hid (show Ris id Q by rw [← hQ]; exact compL_ris _ (sorted_le _))
 have HQM := hid (show ∀ K, K ∈ Q ↔ K ∈ ss ∨ K ∈ ss2 from fun K => by rw [← hQ, q8_, List.mem_mergeSort, List.mem_append])
 have HQB := hid (show ∀ K ∈ Q, Byt K from fun K hK => HBY.out K (List.mem_append.2 ((HQM.out K).1 hK)))
 rw [hQ] at HST ⊢
 have hqi : (Q.length : Int) <= 1000000 := by omega
 obtain ⟨n, hn⟩ := gtx (Q.length)
 rw [hn] at hql hqi ⊢
 have HN := hid hn
 clear hst6 o6 hQ hn
 go_wp2_with fail
 go_loopw [6, 37] (fun v i wr => ∃ (k : Nat) (P : List PrV), k <= n /\ i = .int .i64 (k : Int) /\ Hid (wr.ownsRow w6.heap.size 78 2 v P.length (zi_ P)) /\ Hid (P.map prC = xv_ (y4_ (x.T m t)) (Q.take k)) /\ Hid (P.length <= k) /\ Hid (∀ p ∈ P, zH_ p.K /\ rOk (p.R.map P1.bs)) /\ Hid (∀ p ∈ P, ∀ S' : Nat -> Prop, (∀ k, S' k -> k < w6.heap.size ∨ v.ownBlock = some k) -> zs_ S' wr fun W' => Ls .u8 W' p.ka p.kc p.K /\ RdR W' p.ra p.R /\ PrW W' p) /\ Hid (Below w6.heap.size w6 wr)) (fun _ i _ => n - (intOf i).toNat)
 case atStart => exact ⟨0, [], by omega, rfl, hid (World.ownsRow_nil _ _ _ _), hid rfl, hid (Nat.zero_le _), hid (fun p hp => by simp at hp), hid (fun p hp => by simp at hp), hid (Below.refl _ _)⟩
 case round =>
  obtain ⟨k, P, hk, rfl, HOV, HPM, HPL, HPO, HPS, HBR⟩ := hrel
  by_cases hlt : k < n
  ·have d1 : (k : Int) < (n : Int) := by omega
   obtain ⟨K, hK⟩ : ∃ K, Q[k]? = some K := ⟨_, List.getElem?_eq_getElem Xt9⟩
   obtain ⟨g6, eg, kc⟩ := (HST.out.below HBR.out) k K hK
   subst eg
   have HBW := hid (HB6.out.trans (HBR.out.mono HB6.out.size))
   have HTR := hid (HH.out.below HBW.out)
   obtain ⟨_, _, _, _, c4⟩ := HTR.out.c
   have hkm := List.mem_of_getElem? hK
   have HKB := hid (HQB.out K hkm)
   have HSN := hid hK
   have hkok : zH_ K := by
    rcases (HQM.out K).1 hkm with hq | hq
    ·obtain ⟨p, hp, rfl⟩ := List.mem_map.1 ((HA2.out.2 K).1 hq)
     exact (HM.out.row HZ.out.1 hp).1
    ·have := x1_.1 ((HA4.out.2 K).1 hq)
     obtain ⟨i, hi⟩ := Option.isSome_iff_exists.1 this
     obtain ⟨v, h1, _, hv⟩ := (HH.out.coh t y HY.out.1 K i).1 hi
     rw [← hv]
     exact (HH.out.wok v (List.mem_of_getElem? h1)).2.1
   have HKO := hid hkok
   have hkl : K.length <= 1000000 := by have := hkok.2; omega
   have HG := hid (fun X (b : Below wr.heap.size wr X) => qB_ (HTR.out.below b) t HT.out K HKB.out hkl)
   have HV := hid (HH.out.view HT.out K)
   obtain ⟨o, ho⟩ := gtx (getX m x t K)
   rw [ho] at HG HV
   have HGX := hid ho
   clear hK hkm hkok ho
   cases o with
   | none =>
    go_wp2_with fail
    refine (HG.out _ (Below.refl _ _)).mono ?_; rintro r w9 ⟨⟨v9, rfl, _⟩, rfl⟩
    simp only [Option.isSome_none]
    have HV2 := hid (pairL_no HSN.out HV.out)
    clear c4 kc
    go_wp2_with fail
    go_roundw
    case rel => exact ⟨k + 1, P, by omega, by go_num, HOV, hid (HPM.out.trans HV2.out.symm), hid Xt63, HPO, HPS, HBR⟩
    case measure => simp [intOf]; omega
   | some u =>
    obtain ⟨huo, hus⟩ := HTR.out.getok HGX.out
    have hbd := RV.bound huo
    have HUO := hid huo
    have HPR := hid (pair_law K HKB.out hkl u.ra u.R.length u.rc u.R rfl hbd.1 hbd.2 wr hus.now)
    have HV2 := hid (pairL_yes HSN.out HV.out)
    clear huo hus hbd
    go_wp2_with fail
    refine (HG.out _ (Below.refl _ _)).mono ?_; rintro r w9 ⟨⟨v9, rfl, hv9⟩, rfl⟩
    simp only [Option.isSome_some]
    have hv9 := hv9 u rfl
    unfold RV.v at hv9
    subst hv9
    clear c4 kc
    go_wp2_with fail
    refine HPR.out.mono ?_; rintro r w9 ⟨q, rfl, hqk, hqr, hb9, hst9⟩
    obtain ⟨va, vc, hv⟩ := zd_ HOV.out
    subst hv
    have HQ9 := hid (And.intro hqk hqr)
    have HB9 := hid hb9
    have HS9 := hid hst9
    have HP3 := hid (show P.length + 1 <= 2097152 by have := HPL.out; omega)
    clear hqk hqr hb9 hst9
    go_wp2_with (at_builtin; refine zw_ xh_ rfl _ _ rfl w6.heap.size (.slice va P.length vc) P.length (zi_ P) rfl ((ze_ HOV.out HB9.out).alloc _) ⟨w9.heap.size, 0, none⟩ 1 1 [.slice q.ka q.K.length q.kc, .slice q.ra q.R.length q.rc] rfl rfl (zy_ w9 _ _ _ rfl) Xt11 HP3.out (Nat.le_trans HBR.out.size (Nat.le_trans HB9.out.size Xt5)) ?_; intro v8 w8 hown8 hgrow8 hat8; have HO8 := hid hown8; have HG8 := hid hgrow8; have HAT8 := hid hat8; clear hown8 hgrow8 hat8)
    have HB91 := hid (za_ HB9.out (bl1 w9 (.cells #[.slice q.ka q.K.length q.kc, .slice q.ra q.R.length q.rc] 78)))
    go_roundw
    case rel =>
     have hob : Off (fun k => Value.ownBlock (.slice va P.length vc) = some k) wr w8 := (Off.of HB91.out).trans (Off.of_row HG8.out)
     have hvlt : ∀ b, Value.ownBlock (.slice va P.length vc) = some b -> b < wr.heap.size /\ w6.heap.size <= b := fun b hb => ⟨(zb_ HOV.out hb).2.1, (zb_ HOV.out hb).1⟩
     have hnew : ∀ b, v8.ownBlock = some b -> Value.ownBlock (.slice va P.length vc) = some b ∨ w9.heap.size + 1 = b := fun b hb => by
      exact Xb90
     refine ⟨k + 1, P ++ [q], by omega, by go_num, hid ?_, hid ?_, hid ?_, hid ?_, hid ?_, hid ?_⟩
     ·rw [List.length_append, zx_]; exact HO8.out
     ·rw [List.map_append, HPM.out, HV2.out]
      show _ ++ [(q.K, q.R.map P1.bs)] = _
      rw [HQ9.out.1, HQ9.out.2]; rfl
     ·rw [List.length_append]; have := HPL.out; simp; omega
     ·intro p hp
      rcases List.mem_append.1 hp with hp | hp
      ·exact HPO.out p hp
      ·rw [List.mem_singleton] at hp
       subst hp
       rw [HQ9.out.1, HQ9.out.2]
       exact ⟨HKO.out, HUO.out⟩
     ·intro p hp S' hS'
      rcases List.mem_append.1 hp with hp | hp
      ·refine (HPS.out p hp (fun k => k < w6.heap.size ∨ Value.ownBlock (.slice va P.length vc) = some k) (fun k hk => hk)).step (hob.mono fun k hk => .inr hk) (fun k hk => ?_)
       rcases hS' k hk with hk | hk
       ·exact .inl (.inl hk)
       ·rcases hnew k hk with hk | hk
        ·exact .inl (.inr hk)
        ·have := HB9.out.size; exact .inr Xt0
      ·rw [List.mem_singleton] at hp
       subst hp
       have h1 := HS9.out (fun k => k < wr.heap.size) (fun k hk => hk)
       have o98 : Off (fun k => k < wr.heap.size) w9 w8 := (Off.of (bl1 w9 (.cells #[.slice p.ka p.K.length p.kc, .slice p.ra p.R.length p.rc] 78))).trans ((Off.of_row HG8.out).mono fun k hk => (hvlt k hk).1)
       refine h1.step o98 (fun k hk => ?_)
       rcases hS' k hk with hk | hk
       ·have := HBR.out.size; exact .inl (by show k < wr.heap.size; omega)
       ·rcases hnew k hk with hk | hk
        ·exact .inl (hvlt k hk).1
        ·exact .inr Xt0
     ·exact Off.below HBR.out hob HBR.out.size (fun k hk => (hvlt k hk).2)
    case measure => simp [intOf]; omega
  ·have d1 : ¬ (k : Int) < (n : Int) := by omega
   have HV := hid (show xv_ (y4_ (x.T m t)) (Q.take k) = x.T m t by
    rw [List.take_of_length_le Xt18]
    refine pairL_eq (HH.out.tabok t) HQR.out (fun p hp => (HQM.out _).2 ?_)
    have := (yx_ (HH.out.tabok t)).2 (show (p.1, p.2) ∈ _ from hp)
    rw [HH.out.view HT.out] at this
    cases hg : getX m x t p.1 with
    | none => rw [hg] at this; cases this
    | some u =>
     cases hi : z1_ y.2 p.1 with
     | some i => exact .inr ((HA4.out.2 _).2 (x1_.2 (by rw [hi]; rfl)))
     | none =>
      refine .inl ((HA2.out.2 _).2 (x1_.2 ?_))
      unfold getX at hg
      rw [HH.out.find_none HY.out.1 hi, HZ.out.1] at hg
      simp only at hg
      rw [hg]; rfl)
   obtain ⟨va, vc, hv⟩ := zd_ HOV.out
   subst hv
   have HB9 := hid (HB6.out.trans (HBR.out.mono HB6.out.size))
   go_wp2_with fail
   go_ret
   obtain ⟨hcn, hna⟩ := zJ_ HOV.out
   refine ⟨va, vc, P, rfl, HB9.out, HPM.out.trans HV.out, HPO.out, hcn, hna, by have := HPL.out; omega, fun S' hS' W' o => ?_⟩
   have hlow : ∀ k, S' k -> k < w6.heap.size := fun k hk => Nat.lt_of_lt_of_le (hS' k hk) HB6.out.size
   have hps := fun p hp => HPS.out p hp S' (fun k hk => .inl (hlow k hk)) W' o
   exact ⟨ye_ (zm_ HOV.out o hlow) rfl fun p hp => ⟨(hps p hp).1, (hps p hp).2.1⟩, WrB.of (zm_ HOV.out o hlow), fun p hp => (hps p hp).2.2⟩
def jc_ (A B : List Int) : Int := if ltL A B then -1 else if ltL B A then 1 else 0
theorem xT_ (W : World) (b : Nat) : ∀ (L : List Int) (off : Nat) (acc : ByteArray), (∀ k < L.length, W.cell? ⟨b, off + k, none⟩ = some (.int .u8 (L.getD k 0))) ->
  (Extern.Bytes.loadBytes ⟨b, off, none⟩ L.length acc).run prog W = .ok ⟨acc.data ++ (L.map fun x => UInt8.ofNat x.toNat).toArray⟩ W
 | [], off, acc, _ => by simp [Extern.Bytes.loadBytes]
 | x :: L, off, acc, h => by
  have h0 := h 0 Xt5
  simp only [Nat.add_zero, List.getD_cons_zero] at h0
  have ih := xT_ W b L (off + 1) (acc.push x.toNat.toUInt8) (fun k hk => by
   have := h (k + 1) (by simpa using hk)
   rw [show off + 1 + k = off + (k + 1) by omega]
   simpa using this)
  have hl : (load ⟨b, off, none⟩).run prog W = .ok (.int .u8 x) W := by simp [h0, go_sem]
  show (Extern.Bytes.loadBytes ⟨b, off, none⟩ (L.length + 1) acc).run prog W = _
  unfold Extern.Bytes.loadBytes
  simp only [Sem.run_bind, hl, Result.andThen]
  rw [show (⟨b, off, none⟩ : Addr).add 1 = ⟨b, off + 1, none⟩ from zE_ b off 1, ih]
  congr 2
  simp [ByteArray.push, Nat.toUInt8]
theorem qT_ {W : World} {a : Option Addr} {c : Nat} {L : List Int} (h : Ls .u8 W a c L) : (Extern.Bytes.bytesOf (.slice a L.length c)).run prog W = .ok (strOfNums L) W := by
 rcases a with _ | a
 ·have : L = [] := by
   cases L with
   | nil => rfl
   | cons x r => obtain ⟨b, off, e, _⟩ := h.rd 0 Xt5; cases e
  subst this
  simp [Extern.Bytes.bytesOf]
  rfl
 ·by_cases h0 : L = []
  ·subst h0
   simp [Extern.Bytes.bytesOf, Extern.Bytes.loadBytes]
   rfl
  ·obtain ⟨b, off, e, _⟩ := h.rd 0 (List.length_pos_iff.2 h0)
   cases e
   have := xT_ W b L off .empty (fun k hk => by
    obtain ⟨b', off', e, hc⟩ := h.rd k hk
    cases e
    exact hc)
   show (Extern.Bytes.loadBytes ⟨b, off, none⟩ L.length .empty).run prog W = _
   rw [this]
   congr 1
   unfold strOfNums
   simp [ByteArray.empty, ByteArray.emptyWithCapacity]
   try rfl
theorem cmp_kb : ∀ {A B : List Int}, Byt A -> Byt B -> Lib.compareBytes (A.map fun x => UInt8.ofNat x.toNat) (B.map fun x => UInt8.ofNat x.toNat) = jc_ A B
 | [], [], _, _ => rfl
 | [], b :: B, _, _ => rfl
 | a :: A, [], _, _ => rfl
 | a :: A, b :: B, ha, hb => by
  have h1 := ha a (List.mem_cons_self ..)
  have h2 := hb b (List.mem_cons_self ..)
  have ih := cmp_kb (A := A) (B := B) (fun x hx => ha x (List.mem_cons_of_mem _ hx)) (fun x hx => hb x (List.mem_cons_of_mem _ hx))
  show (if UInt8.ofNat a.toNat < UInt8.ofNat b.toNat then (-1 : Int) else if UInt8.ofNat b.toNat < UInt8.ofNat a.toNat then 1 else Lib.compareBytes _ _) = _
  have e1 : (UInt8.ofNat a.toNat < UInt8.ofNat b.toNat) ↔ a < b := by
   exact Xb102
  have e2 : (UInt8.ofNat b.toNat < UInt8.ofNat a.toNat) ↔ b < a := by
   exact Xb102
  unfold jc_
  simp only [ltL]
  by_cases c1 : a < b
  ·rw [if_pos (e1.2 c1)]
   simp [c1]
  ·rw [if_neg (fun h => c1 (e1.1 h))]
   by_cases c2 : b < a
   ·rw [if_pos (e2.2 c2)]
    have c3 : ¬ a = b := by omega
    simp [c1, c2, c3]
   ·rw [if_neg (fun h => c2 (e2.1 h)), ih]
    have c3 : a = b := by omega
    subst c3
    simp [jc_, c1]
theorem qL_ (a b : Option Addr) (A B : List Int) (n m ca cb : Nat) (hA : A.length = n) (hB : B.length = m) (bA : Byt A) (bB : Byt B) (w : World) (la : Ls .u8 w a ca A) (lb : Ls .u8 w b cb B) :
  Calls prog 70 #[.slice a n ca, .slice b m cb] w fun r w' => r = .returned (.int .i64 (jc_ A B)) /\ w = w' := by
 subst hA hB
 have hrun : (Extern.BytealgCompare.compare #[.slice a A.length ca, .slice b B.length cb]).run prog w = .ok (.int .i64 (jc_ A B)) w := by
  change Sem.run prog (do pure (goInt (Extern.BytealgCompare.cmp (← Extern.Bytes.bytesOf (.slice a A.length ca)) (← Extern.Bytes.bytesOf (.slice b B.length cb))))) w = _
  simp only [Sem.run_bind, qT_ la, qT_ lb, Sem.run_pure, Result.andThen]
  rw [Lib.cmp_eq, ← cmp_kb bA bB, ← ByteArray.toList_eq, ← ByteArray.toList_eq, yQ_, yQ_]
  rfl
 have HR := hid hrun
 clear hrun la lb bA bB
 go_enter func70, ntmps70
 go_wp2
 rw [run_callFunc_extern func100 Xt3 Xt3 Xt3 (e := Extern.BytealgCompare.compare) Xt3, HR.out]
 simp only [Result.andThen]
 rw [Oper.upon_value]
 exact Xb30
structure EnV where
 ka : Option Addr
 kc : Nat
 K : List Int
 p : PrV
def ecl (e : EnV) : List Value := [.slice e.ka e.K.length e.kc, .slice e.p.ka e.p.K.length e.p.kc, .slice e.p.ra e.p.R.length e.p.rc]
theorem ecl_len (e : EnV) : (ecl e).length = 3 := rfl
structure EnL (W : World) (e : EnV) : Prop where
 k : Ls .u8 W e.ka e.kc e.K
 pk : Ls .u8 W e.p.ka e.p.kc e.p.K
 pr : RdR W e.p.ra e.p.R
 pw : PrW W e.p
theorem EnL.below {W W' : World} {e : EnV} (h : EnL W e) (b : Below W.heap.size W W') : EnL W' e := ⟨h.k.below b, h.pk.below b, h.pr.below b, h.pw.below b⟩
def EnsR (W : World) (a : Option Addr) (L : List EnV) : Prop := ∀ (k : Nat) (e : EnV), L[k]? = some e -> ∃ b off, a = some ⟨b, off, none⟩ /\ W.cell? ⟨b, off + k * 3, none⟩ = some (.slice e.ka e.K.length e.kc) /\ W.cell? ⟨b, off + k * 3 + 1, none⟩ = some (.slice e.p.ka e.p.K.length e.p.kc) /\ W.cell? ⟨b, off + k * 3 + 2, none⟩ = some (.slice e.p.ra e.p.R.length e.p.rc) /\ EnL W e
theorem EnsR.below {W W' : World} {a : Option Addr} {L : List EnV} (h : EnsR W a L) (hb : Below W.heap.size W W') : EnsR W' a L := fun k x hx => by
 obtain ⟨b, off, e, c0, c1, c2, l⟩ := h k x hx
 have f : ∀ {p v}, W.cell? p = some v -> W'.cell? p = some v := fun h => tcb hb h
 exact ⟨b, off, e, f c0, f c1, f c2, l.below hb⟩
def yO_ {α : Type} (key : α -> List Int) (f u : List Int) (en : Bool) (m : Int) : List α -> List α -> List α
 | [], acc => acc
 | e :: r, acc => if ltL (key e) f then yO_ key f u en m r acc else if (en && !ltL (key e) u) || decide ((acc.length : Int) = m) then acc else yO_ key f u en m r (acc ++ [e])
theorem xj_ {α : Type} (key : α -> List Int) (f u : List Int) (en : Bool) (m : Int) : ∀ (l acc : List α), ∀ e ∈ yO_ key f u en m l acc, e ∈ l ∨ e ∈ acc
 | [], acc, e, h => .inr h
 | x :: r, acc, e, h => by
  unfold yO_ at h
  split at h
  ·exact (xj_ key f u en m r acc e h).imp (List.mem_cons_of_mem _) id
  ·split at h
   ·exact .inr h
   ·rcases xj_ key f u en m r (acc ++ [x]) e h with h | h
    ·exact .inl (List.mem_cons_of_mem _ h)
    ·exact Xb92
theorem cmp_lt (A B : List Int) : (jc_ A B < 0) ↔ ltL A B = true := by
 unfold jc_
 cases h : ltL A B
 ·simp; cases ltL B A <;> simp
 ·simp
theorem zW_ {α : Type} {l : List α} {k : Nat} {x : α} (h : l[k]? = some x) : l.drop k = x :: l.drop (k + 1) := by
 have hk := (List.getElem?_eq_some_iff.1 h).1
 rw [List.drop_eq_getElem_cons hk]
 rw [List.getElem?_eq_getElem hk] at h
 rw [Option.some.inj h]
theorem winG_skip {f u : List Int} {en : Bool} {m : Int} {L acc : List EnV} {k : Nat} {e : EnV} (h : L[k]? = some e) (hl : ltL e.K f = true) : yO_ EnV.K f u en m (L.drop k) acc = yO_ EnV.K f u en m (L.drop (k + 1)) acc := by
 rw [zW_ h]
 show (if ltL e.K f = true then _ else _) = _
 rw [if_pos hl]
theorem Qu_ {f u : List Int} {en : Bool} {m : Int} {L acc : List EnV} {k : Nat} {e : EnV} (h : L[k]? = some e) (hl : ltL e.K f = false) (hs : ((en && !ltL e.K u) || decide ((acc.length : Int) = m)) = true) : yO_ EnV.K f u en m (L.drop k) acc = acc := by
 rw [zW_ h]
 show (if ltL e.K f = true then _ else if _ then _ else _) = _
 rw [if_neg (by rw [hl]; simp), if_pos hs]
theorem winG_take {f u : List Int} {en : Bool} {m : Int} {L acc : List EnV} {k : Nat} {e : EnV} (h : L[k]? = some e) (hl : ltL e.K f = false) (hs : ((en && !ltL e.K u) || decide ((acc.length : Int) = m)) = false) : yO_ EnV.K f u en m (L.drop k) acc = yO_ EnV.K f u en m (L.drop (k + 1)) (acc ++ [e]) := by
 rw [zW_ h]
 show (if ltL e.K f = true then _ else if _ then _ else _) = _
 rw [if_neg (by rw [hl]; simp), if_neg (by rw [hs]; simp)]
def WnR (w : World) (L : List EnV) (r : Ending) (w' : World) : Prop := ∃ a c, r = .returned (.slice a L.length c) /\ Below w.heap.size w w' /\ L.length <= c /\ (a = none -> c = 0) /\ w'.ownsRow w.heap.size 78 2 (.slice a L.length c) L.length (zi_ (L.map EnV.p))
theorem qt_ (tr : Int) (fa ta : Option Addr) (fn fc tn tc : Nat) (f u : List Int) (en : Bool) (m : Int) (hm : 0 <= m /\ m <= 1000000) (hf : f.length = fn) (hu : u.length = tn) (bf : Byt f) (bu : Byt u) (a : Option Addr) (n c : Nat) (L : List EnV) (hn : L.length = n) (hn2 : n <= 2000000) (bL : ∀ e ∈ L, Byt e.K) (w : World) (lf : Ls .u8 w fa fc f) (lu : Ls .u8 w ta tc u) (hL : EnsR w a L) :
  Calls prog 142 #[.agg #[.int .i64 tr, .slice fa fn fc, .slice ta tn tc, .bool en], .int .i64 m, .slice a n c] w (WnR w (yO_ EnV.K f u en m L [])) := by
 have HN := hid hn
 have HL := hid hL
 have HF := hid (And.intro hf (And.intro bf lf))
 have HU := hid (And.intro hu (And.intro bu lu))
 have HBL := hid bL
 have hni : (n : Int) <= 2000000 := by omega
 clear hn hL hf bf lf hu bu lu bL
 go_enter func142, ntmps142
 go_wp2_with fail
 go_step3
 go_wp2_with fail
 go_step3
 have HB0 := hid (bl1 w (.cells #[.int .i64 tr, .slice fa fn fc, .slice ta tn tc, .bool en] 169))
 have HBX := hid (zg_.new w #[.int .i64 tr, .slice fa fn fc, .slice ta tn tc, .bool en] 169)
 generalize w.alloc (.cells #[.int .i64 tr, .slice fa fn fc, .slice ta tn tc, .bool en] 169) = w0 at HB0 HBX ⊢
 go_wp2_with fail
 go_loopw [7, 12] (fun v i wr => ∃ (k : Nat) (acc : List EnV), k <= n /\ i = .int .i64 (k : Int) /\ Hid (yO_ EnV.K f u en m L [] = yO_ EnV.K f u en m (L.drop k) acc) /\ Hid (∀ e ∈ acc, e ∈ L) /\ acc.length <= k /\ Hid (wr.ownsRow w.heap.size 78 2 v acc.length (zi_ (acc.map EnV.p))) /\ Hid (zg_ wr w.heap.size #[.int .i64 tr, .slice fa fn fc, .slice ta tn tc, .bool en] 169) /\ Hid (Below w.heap.size w wr)) (fun _ i _ => n - (intOf i).toNat)
 case atStart => exact ⟨0, [], by omega, rfl, hid rfl, hid (fun e he => by simp at he), Nat.le_refl _, hid (World.ownsRow_nil _ _ _ _), HBX, HB0⟩
 case round =>
  obtain ⟨k, acc, hk, rfl, HW, HAC, hac, HOV, HBXr, HBW⟩ := hrel
  obtain ⟨va, vc, hv⟩ := zd_ HOV.out
  subst hv
  by_cases hlt : k < n
  ·have d1 : (k : Int) < (n : Int) := by omega
   obtain ⟨e, he⟩ : ∃ e, L[k]? = some e := ⟨_, List.getElem?_eq_getElem Xt9⟩
   obtain ⟨b1, o1, ea, c0, c1, c2, hel⟩ := (HL.out.below HBW.out) k e he
   subst ea
   have HE := hid he
   have HEL := hid hel
   have HEM := hid (List.mem_of_getElem? he)
   clear he hel
   go_upto_region 5 with (fail)
   have HB5 := hid (bl1 wr (.cells #[.slice e.ka e.K.length e.kc, .slice e.p.ka e.p.K.length e.p.kc, .slice e.p.ra e.p.R.length e.p.rc] 149))
   have hbx5 := zg_.new wr #[.slice e.ka e.K.length e.kc, .slice e.p.ka e.p.K.length e.p.kc, .slice e.p.ra e.p.R.length e.p.rc] 149
   obtain ⟨bx, hbxe⟩ := gtx (wr.heap.size)
   have HSX := hid hbxe
   rw [hbxe] at hbx5
   obtain ⟨w5, hw5⟩ := gty (wr.alloc (.cells #[.slice e.ka e.K.length e.kc, .slice e.p.ka e.p.K.length e.p.kc, .slice e.p.ra e.p.R.length e.p.rc] 149))
   rw [← hw5] at HB5 hbx5 ⊢
   rw [hbxe]
   clear hw5 hbxe
   have HB6 := hid (HBW.out.trans (HB5.out.mono HBW.out.size))
   have HEL5 := hid (HEL.out.below HB5.out)
   have hsp := HBXr.out.below HB5.out
   have e0 := hbx5.cell 0
   have e1 := hbx5.cell 1
   have e2 := hbx5.cell 2
   have s1 := hsp.cell 1
   have s2 := hsp.cell 2
   have s3 := hsp.cell 3
   simp only [gtA, gtB, gtC] at e0 e1 e2 s1 s2 s3
   have HC1 := hid (qL_ e.ka fa e.K f _ fn e.kc fc rfl HF.out.1 (HBL.out e HEM.out) HF.out.2.1 w5 HEL5.out.k (HF.out.2.2.below HB6.out))
   have HC2 := hid (qL_ e.ka ta e.K u _ tn e.kc tc rfl HU.out.1 (HBL.out e HEM.out) HU.out.2.1 w5 HEL5.out.k (HU.out.2.2.below HB6.out))
   have HOV5 := hid (ze_ HOV.out HB5.out)
   have HSP := hid hsp
   clear hbx5 hsp c0 c1 c2
   cases hlf : ltL e.K f with
   | true =>
    have hc : jc_ e.K f = -1 := by unfold jc_; rw [hlf]; rfl
    rw [hc] at HC1
    have HWN := hid (HW.out.trans (winG_skip HE.out hlf))
    clear hc hlf
    go_wp2_with fail
    refine HC1.out.mono ?_; rintro r w6 ⟨rfl, rfl⟩
    go_wp2_with fail
    go_roundw
    case rel => exact ⟨k + 1, acc, by omega, by go_num, HWN, HAC, by omega, HOV5, HSP, HB6⟩
    case measure => simp [intOf]; omega
   | false =>
    have hc : ¬ jc_ e.K f < 0 := by rw [cmp_lt, hlf]; simp
    obtain ⟨z, hz⟩ := gtx (jc_ e.K f)
    rw [hz] at HC1 hc
    clear hz
    cases hst : (en && !ltL e.K u) with
    | true =>
     rw [Bool.and_eq_true] at hst
     obtain ⟨hen, hlu⟩ := hst
     have hlu2 : ltL e.K u = false := by simpa using hlu
     have hc2 : ¬ jc_ e.K u < 0 := by rw [cmp_lt, hlu2]; simp
     obtain ⟨z2, hz2⟩ := gtx (jc_ e.K u)
     rw [hz2] at HC2 hc2
     have hc3 : 0 <= z2 := by omega
     have HWN := hid (HW.out.trans (Qu_ HE.out hlf (by rw [hen, hlu2]; rfl)))
     rw [hen] at s3
     clear hz2 hen hlu hlu2 hlf
     go_wp2_with fail
     refine HC1.out.mono ?_; rintro r w6 ⟨rfl, rfl⟩
     go_wp2_with fail
     refine HC2.out.mono ?_; rintro r w6 ⟨rfl, rfl⟩
     exact Xb28
    | false =>
     cases hmm : decide ((acc.length : Int) = m) with
     | true =>
      have HWN := hid (HW.out.trans (Qu_ HE.out hlf (by rw [hst, hmm]; rfl)))
      have hml : ((acc.length : Int) == m) = true := by simpa using hmm
      rcases (show en = false ∨ en = true by cases en <;> simp) with hen | hen
      ·rw [hen] at s3
       clear hst hmm hlf hen
       go_wp2_with fail
       refine HC1.out.mono ?_; rintro r w6 ⟨rfl, rfl⟩
       exact Xb28
      ·rw [hen] at s3 hst
       have hlu : ltL e.K u = true := by simpa using hst
       have hc2 : jc_ e.K u < 0 := (cmp_lt _ _).2 hlu
       obtain ⟨z2, hz2⟩ := gtx (jc_ e.K u)
       rw [hz2] at HC2 hc2
       have hc3 : ¬ 0 <= z2 := by omega
       clear hst hmm hlf hen hlu hz2
       go_wp2_with fail
       refine HC1.out.mono ?_; rintro r w6 ⟨rfl, rfl⟩
       go_wp2_with fail
       refine HC2.out.mono ?_; rintro r w6 ⟨rfl, rfl⟩
       exact Xb28
     | false =>
      have HWN := hid (HW.out.trans (winG_take HE.out hlf (by rw [hst, hmm]; rfl)))
      have hml : ((acc.length : Int) == m) = false := by simpa using hmm
      have hap : acc.length + 1 <= 2097152 := by omega
      have hsz : w.heap.size <= w5.heap.size := HB6.out.size
      rcases (show en = false ∨ en = true by cases en <;> simp) with hen | hen
      ·rw [hen] at s3
       clear hst hmm hlf hen
       go_wp2_with fail
       refine HC1.out.mono ?_; rintro r w6 ⟨rfl, rfl⟩
       exact Xb15
      ·rw [hen] at s3 hst
       have hlu : ltL e.K u = true := by simpa using hst
       have hc2 : jc_ e.K u < 0 := (cmp_lt _ _).2 hlu
       obtain ⟨z2, hz2⟩ := gtx (jc_ e.K u)
       rw [hz2] at HC2 hc2
       have hc3 : ¬ 0 <= z2 := by omega
       clear hst hmm hlf hen hlu hz2
       go_wp2_with fail
       refine HC1.out.mono ?_; rintro r w6 ⟨rfl, rfl⟩
       go_wp2_with fail
       refine HC2.out.mono ?_; rintro r w6 ⟨rfl, rfl⟩
       exact Xb15
  ·have d1 : ¬ (k : Int) < (n : Int) := by omega
   have HWN := hid (HW.out.trans (by rw [List.drop_eq_nil_of_le Xt18]; rfl : _ = acc))
   have HOV5 := HOV
   have HB6 := HBW
   exact Xb28
end
end Go.Proofs.YthmofoldmdafoaaGreat
