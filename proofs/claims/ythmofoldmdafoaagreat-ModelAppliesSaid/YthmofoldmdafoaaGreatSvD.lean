/- Part of the proof that ModelApplies holds for every input: writes that are done on tables leave them as the document says. Part 30. -/
import Derived.Test.YthmofoldmdafoaaGreatSvC
set_option linter.unusedVariables false
set_option linter.unusedSimpArgs false
set_option maxRecDepth 100000
set_option maxHeartbeats 4000000
namespace Go.Proofs.YthmofoldmdafoaaGreat
open Go.ChangeShapes Go.WideShapes Go.ChangeAt Go.RowKit
open Go.Lib (hid)
open Go.Proofs.Tryz
theorem jx_small {W : World} {j : Job} (ok : okB j = true) (hj : yd_ W j) {t : Nat} (ht : t < j.T.length) : j.T.getD t 0 <= 100 := by
 have := (jg_ ok t ht).2
 omega
def IxR (f : Rf) (w : World) (t : Nat) (x : Nat) (r : Ending) (w' : World) : Prop :=
 ∃ a c E, r = .returned (.slice a E.length c) /\ Below w.heap.size w w' /\ E.map prC = idxP f.j t x (f.P.getD t []) /\ E.length <= 1000000 /\ E.length <= c /\ ∀ S : Nat -> Prop, (∀ k, S k -> k < w.heap.size) -> zs_ S w (fun W => ∀ y ∈ f.Ts, zo_ W y.pa y.P) -> zs_ S w' fun W' => zo_ W' a E
theorem rindex_no {S : Nat -> Prop} {f : Rf} {w : World} (h : RfR S w f) (t : Nat) (ht : t < f.Ts.length) (i : Int) (hi : ¬ (0 <= i /\ i < f.j.T.getD t 0)) :
  Calls prog 48 #[.pointer (some ⟨f.p, 0, none⟩), .int .i64 (t : Int), .int .i64 i] w fun r w' => r = .returned (.slice none 0 0) /\ Below w.heap.size w w' := by
 obtain ⟨x, hx⟩ : ∃ x, f.Ts[t]? = some x := ⟨_, List.getElem?_eq_getElem ht⟩
 have hxm := List.mem_of_getElem? hx
 have hfw := h.few
 have hjt : t < f.j.T.length := by rw [h.job.now.len, ← h.len]; exact ht
 obtain ⟨jb, jo, hja, hjc⟩ := h.job.now.ls.rd t hjt
 have hjbx : w.cell? ⟨f.p, 6, none⟩ = some (.slice f.j.a f.j.n f.j.cap) := by rw [h.box.cell]; rfl
 have hjn : f.Ts.length = f.j.n := h.len
 obtain ⟨_, _, e0, hxc, hxs⟩ := h.tbs t x hx
 cases e0
 rw [Nat.zero_add] at hxc
 have hc7 := h.c
 obtain ⟨jx, hjx⟩ := gtx (f.j.T.getD t 0)
 rw [hjx] at hjc hi
 have e1 : ¬ (t : Int) < 0 := by omega
 have e2 : ¬ (f.Ts.length : Int) <= (t : Int) := by omega
 have e4 : (t : Int) < (f.j.n : Int) := by omega
 rw [hja] at hjbx
 have HJ := hid hjn
 clear hxc hxs hx hxm hjn h hjx
 by_cases hi0 : i < 0
 ·clear hi
  go_enter func48, ntmps48
  exact Xb99
 ·have e3 : jx <= i := by omega
  clear hi
  go_enter func48, ntmps48
  exact Xb99
theorem js_ {S : Nat -> Prop} {f : Rf} {w : World} (h : RfR S w f) (hS : ∀ k, S k -> k < w.heap.size) (t : Nat) (ht : t < f.Ts.length) (i : Nat) (hi : (i : Int) < f.j.T.getD t 0) (hl : ∀ x ∈ f.Ts, x.P.length <= 900000) :
  Calls prog 48 #[.pointer (some ⟨f.p, 0, none⟩), .int .i64 (t : Int), .int .i64 (i : Int)] w (IxR f w t i) := by
 have HIX := hid hi
 have hti : f.j.T.getD t 0 <= 3 ∨ True := .inr trivial
 obtain ⟨x, hx⟩ : ∃ x, f.Ts[t]? = some x := ⟨_, List.getElem?_eq_getElem ht⟩
 have hxm := List.mem_of_getElem? hx
 have hfw := h.few
 have hjt : t < f.j.T.length := by rw [h.job.now.len, ← h.len]; exact ht
 obtain ⟨jb, jo, hja, hjc⟩ := h.job.now.ls.rd t hjt
 have hjbx : w.cell? ⟨f.p, 6, none⟩ = some (.slice f.j.a f.j.n f.j.cap) := by rw [h.box.cell]; rfl
 have hjn : f.Ts.length = f.j.n := h.len
 obtain ⟨_, _, e0, hxc, hxs⟩ := h.tbs t x hx
 cases e0
 rw [Nat.zero_add] at hxc
 have hc7 := h.c
 obtain ⟨jx, hjx⟩ := gtx (f.j.T.getD t 0)
 rw [hjx] at hjc hi
 have e1 : ¬ (t : Int) < 0 := by omega
 have e2 : ¬ (f.Ts.length : Int) <= (t : Int) := by omega
 have e4 : (t : Int) < (f.j.n : Int) := by omega
 have e5 : ¬ (i : Int) < 0 := by omega
 have e6 : ¬ jx <= (i : Int) := by omega
 have HIL := hid (jx_small h.ok h.job.now hjt)
 rw [hjx] at HIL
 have HI2 := hid (show i <= 100 by have := HIL.out; omega)
 rw [hja] at hjbx
 have HH := hid (And.intro h (And.intro hS hl))
 obtain ⟨P, hP⟩ := gtx (x.P)
 obtain ⟨n, hn⟩ := gtx (P.length)
 obtain ⟨pa, hpa⟩ := gtx (x.pa)
 obtain ⟨pc, hpc⟩ := gtx (x.pc)
 have hn9 := hl x hxm
 have hp1 := hxs.now
 have hpp := fun q hq => h.pair hxm (q := q) hq
 rw [hP, hn] at hn9
 rw [hP, hpa] at hp1
 rw [hP] at hpp
 rw [hP, hn, hpa, hpc] at hxc
 have HN := hid hn
 have HP := hid hp1
 have HPP := hid hpp
 have HX := hid (And.intro hx (And.intro hP hpa))
 have HM := hid (fun W (b : Below w.heap.size w W) => (⟨tcb b hc7, tcb b hxc⟩ : W.cell? ⟨f.p, 7, none⟩ = some (.slice (some ⟨f.b1, 0, none⟩) f.Ts.length f.tc) /\ W.cell? ⟨f.b1, t, none⟩ = some (.slice pa n pc)))
 have hni : (n : Int) <= 900000 := by omega
 have e7 : (t : Int) < (f.Ts.length : Int) := by omega
 have HJT := hid hjt
 clear hi hti hx hxm hjn hxs hP hn hpa hpc hp1 hpp hjt h hl hS hjx
 go_enter func48, ntmps48
 go_wp2_with fail
 clear hc7 hxc hjc hjbx
 go_loopw [7, 8] (fun v j wr => ∃ (k : Nat) (E : List PrV), k <= n /\ j = .int .i64 (k : Int) /\ Hid (wr.ownsRow w.heap.size 78 2 v E.length (zi_ E)) /\ Hid (E.map prC = ((P.take k).map prC).flatMap (entR i)) /\ Hid (E.length <= k) /\ Hid (∀ e ∈ E, wr.ownsRow w.heap.size 5 1 (.slice e.ka e.K.length e.kc) e.K.length (iv .u8 e.K)) /\ Hid (∀ e ∈ E, Byt e.K /\ ∃ q ∈ P, e.ra = q.ra /\ e.R = q.R) /\ Hid (Below w.heap.size w wr)) (fun _ j _ => n - (intOf j).toNat)
 case atStart => exact ⟨0, [], by omega, rfl, hid (World.ownsRow_nil _ _ _ _), hid rfl, hid (Nat.le_refl _), hid Xt67, hid Xt67, hid (Below.refl _ _)⟩
 case round =>
  obtain ⟨k, E, hk, rfl, HOV, HEM, HEL, HKO, HEQ, HBW⟩ := hrel
  obtain ⟨m0, m1⟩ := HM.out wr HBW.out
  by_cases hlt : k < n
  ·have d1 : (k : Int) < (n : Int) := by omega
   obtain ⟨q, hq⟩ : ∃ q, P[k]? = some q := ⟨_, List.getElem?_eq_getElem Xt9⟩
   obtain ⟨b2, o2, eb, p0, p1, ql, qr⟩ := (HP.out.below HBW.out) k q hq
   have HQ := hid (And.intro hq (And.intro ql qr))
   have hqm := HPP.out q (List.mem_of_getElem? hq)
   have HQM := hid hqm
   have HEB := hid eb
   have hqr3 : q.R.length <= 3 := by have := hqm.2.2.1; rw [List.length_map] at this; exact this
   obtain ⟨qrn, hqrn⟩ := gtx (q.R.length)
   rw [hqrn] at p1 hqr3
   have HQN := hid hqrn
   have hi2 := HI2.out
   obtain ⟨w9, hw9⟩ := gty (wr.alloc (.cells #[.slice q.ka q.K.length q.kc, .slice q.ra qrn q.rc] 78))
   have HB9 := hid (by rw [hw9]; exact bl1 _ _ : Below wr.heap.size wr w9)
   have HX9 := hid (by rw [hw9]; exact zg_.new _ _ _ : zg_ w9 wr.heap.size #[.slice q.ka q.K.length q.kc, .slice q.ra qrn q.rc] 78)
   rw [eb] at m1
   clear hq ql qr hqm hqrn eb
   go_upto_region 8 with (fail)
   try rw [← hw9]
   clear hw9 p0 p1 m0 m1
   have hq9 := HX9.out.cell 1
   simp only [gtA, gtB, gtC] at hq9
   have HBX := hid (fun X (o : Off (fun b => u7.ownBlock = some b) w9 X) => Off.below (HBW.out.trans (HB9.out.mono HBW.out.size)) o (Nat.le_trans HBW.out.size HB9.out.size) (fun b hb => (zb_ HOV.out hb).1))
   have HXX := hid (fun X (o : Off (fun b => u7.ownBlock = some b) w9 X) => o.box HX9.out (fun e => by have := (zb_ HOV.out e).2.1; omega))
   have hek : ((P.take (k + 1)).map prC).flatMap (entR i) = ((P.take k).map prC).flatMap (entR i) ++ entR i (prC q) := by
    rw [List.take_add_one, HQ.out.1, List.map_append, List.flatMap_append]
    simp
   have HEK := hid hek
   clear hek
   by_cases hfl : i + 1 < qrn
   ·have d2 : (i : Int) + 1 < (qrn : Int) := by omega
    go_wp2_with fail
    obtain ⟨fld, hfld⟩ : ∃ p, q.R[i + 1]? = some p := ⟨_, List.getElem?_eq_getElem (by rw [HQN.out]; exact hfl)⟩
    obtain ⟨b3, o3, e3, _, _⟩ := HQ.out.2.2 (i + 1) fld hfld
    have HFB := hid (show fld.bs.length <= 24 from (HQM.out.2.2.2 fld.bs (List.mem_map.2 ⟨fld, List.mem_of_getElem? hfld, rfl⟩)).2)
    have HFY := hid (show Byt fld.bs from (HQM.out.2.2.2 fld.bs (List.mem_map.2 ⟨fld, List.mem_of_getElem? hfld, rfl⟩)).1)
    have HFR := hid (fun W (b : Below w.heap.size w W) => (by obtain ⟨_, _, _, _, _, _, r⟩ := (HP.out.below b) k q HQ.out.1; exact r : RdR W q.ra q.R))
    have HFQ := hid (fun W (b : Below w.heap.size w W) => (by obtain ⟨_, _, _, _, _, l, _⟩ := (HP.out.below b) k q HQ.out.1; exact l : Ls .u8 W q.ka q.kc q.K))
    have HFL := hid (fun W (b : Below w.heap.size w W) => (by obtain ⟨_, _, e, c0, l⟩ := (HFR.out W b) (i + 1) fld hfld; rw [e3] at e; cases e; exact ⟨c0, l⟩ : W.cell? ⟨b3, o3 + (i + 1), none⟩ = some fld.v /\ Ls .u8 W fld.ad fld.cap fld.bs))
    have HFD := hid hfld
    have HE3 := hid e3
    unfold P1.v at HFL
    clear hfld e3 hq9
    go_upto_region 9 with (fail)
    have hwr : IntKind.i64.wrap ((i : Int) + 1) = (i : Int) + 1 := by simp [IntKind.wrap, IntKind.bits, IntKind.signed]; omega
    have hw0 : 0 <= (i : Int) + 1 := by omega
    have hwt : ((i : Int) + 1).toNat = i + 1 := by omega
    refine wp_region_held_drew (S := (fun X => Off (fun b => u7.ownBlock = some b) w9 X)) Xt3 ((Off.refl _ w9).drew) fun hH => ?_
    refine tkq2 0 1 ?_
    refine tkr 2 rfl (fun W hSw => by have mx := HXX.out W hSw; have m := mx.cell 1; simp only [gtA, gtB, gtC] at m; rw [HE3.out] at m; exact tks) ?_
    refine tkq3 3 4 5 ?_
    refine tkr 6 rfl (fun W hSw => by have m := (HFL.out W (HBX.out W hSw)).1; exact tks) ?_
    refine tkq 7 ?_
    refine tkr 8 rfl (fun W hSw => by have mx := HXX.out W hSw; have m := mx.cell 0; simp only [gtA, gtB, gtC] at m; exact tks) ?_
    refine tkq 10 ?_
    refine tkr 11 rfl (fun W hSw => by have mx := HXX.out W hSw; have m := mx.cell 1; simp only [gtA, gtB, gtC] at m; exact tks) ?_
    refine tk1 9 rfl fun K hK => ?_
    go_simp
    refine (rentry_own fld.ad q.ka fld.bs q.K fld.bs.length q.K.length fld.cap q.kc rfl rfl (by have := HFB.out; omega) (by have := HQM.out.1.2.2; omega) w9.drew (HFL.out w9.drew (HBX.out w9.drew hH)).2 ((HFQ.out w9.drew (HBX.out w9.drew hH)))).mono ?_; rintro r w10 ⟨a9, c9, rfl, hown9, hb10⟩
    clear hwr hw0 hwt
    have HO10 := hid hown9
    have HF10 := hid (hH.then hb10)
    have HB10 := hid (show Below w9.heap.size w9 w10 from (Below.refl _ _).drew.trans hb10)
    clear hown9 hb10
    go_wp2_with fail
    refine hK.out _ _ (HF10.out) fun hH => ?_
    refine stP ?_
    refine tkq 12 ?_
    refine tk1 13 rfl fun K hK => ?_
    go_simp
    have HF11 := hid (hH.then (bl1 w10 (.cells #[.slice a9 (zu_ fld.bs q.K).length c9, .slice q.ra qrn q.rc] 78)))
    refine hK.out _ _ (HF11.out) fun hH => ?_
    refine stP ?_
    refine tk1 14 rfl fun K hK => ?_
    have b9a : Below wr.heap.size wr (w10.alloc (.cells #[.slice a9 (zu_ fld.bs q.K).length c9, .slice q.ra qrn q.rc] 78)) := HB9.out.trans ((HB10.out.trans ((bl1 w10 _).mono HB10.out.size)).mono HB9.out.size)
    have hown := ze_ HOV.out b9a
    have hek2 := yH_ (ze_ HO10.out (bl1 w10 (.cells #[.slice a9 (zu_ fld.bs q.K).length c9, .slice q.ra qrn q.rc] 78))) (show w.heap.size <= w9.drew.heap.size from Nat.le_trans HBW.out.size HB9.out.size)
    refine z5_ rfl _ _ rfl w.heap.size u7 E.length E rfl hown (some ⟨w10.heap.size, 0, none⟩) 1 1 [⟨a9, c9, zu_ fld.bs q.K, q.ra, q.rc, q.R⟩] rfl rfl (QI_ _ (by simp [go_sem]) (by simp [go_sem, HQN.out]) (ys_ hek2 rfl) (HFR.out _ (Below.trans HBW.out (b9a.mono HBW.out.size)))) (fun h => by cases h) (by have := HEL.out; omega) (Nat.le_trans HBW.out.size b9a.size) ?_
    intro v12 w12 hown12 hgrow12
    have HO12 := hid hown12
    have HG12 := hid (Off.of_row hgrow12)
    have HF12 := hid (hH.trans (Off.of_row hgrow12))
    have HEO := hid (zn_ hek2 (Off.of_row hgrow12) (fun g hg e => by obtain ⟨_, _, cu, hc⟩ := zb_ hek2 hg; obtain ⟨_, _, cu', hc'⟩ := zb_ hown e; exact zp_ hc hc' Xt4 rfl))
    have HB9A := hid b9a
    clear hown hek2 hown12 hgrow12 b9a
    refine hK.out _ _ (HF12.out) fun hH => ?_
    refine stP ?_
    refine tkq 15 ?_
    refine adn ?_
    skip
    obtain ⟨v12a, v12c, hv12⟩ := zd_ HO12.out
    subst hv12
    have HB12 := hid (HBX.out w12 HF12.out)
    have HOK := hid (fun (e : PrV) (he : e ∈ E) => zn_ (ze_ (HKO.out e he) HB9A.out) HG12.out (fun g hg hh => by
     obtain ⟨_, _, cu, hc⟩ := zb_ (ze_ (HKO.out e he) HB9A.out) hg
     obtain ⟨_, _, cu', hc'⟩ := zb_ (ze_ HOV.out HB9A.out) hh
     exact zp_ hc hc' Xt4 rfl))
    clear hH
    go_wp2_with fail
    go_roundw
    case rel =>
     refine ⟨k + 1, E ++ [⟨a9, c9, zu_ fld.bs q.K, q.ra, q.rc, q.R⟩], by omega, by go_num, hid ?_, hid ?_, hid ?_, hid ?_, hid ?_, HB12⟩
     ·rw [List.length_append]; exact HO12.out
     ·rw [List.map_append, HEM.out, HEK.out]
      have h1 : entR i (prC q) = [(zu_ fld.bs q.K, q.R.map P1.bs)] := by
       unfold entR
       rw [if_pos (by show i + 1 < (q.R.map P1.bs).length; rw [List.length_map, HQN.out]; exact hfl)]
       show [(zu_ ((q.R.map P1.bs).getD (i + 1) []) q.K, q.R.map P1.bs)] = _
       rw [List.getD_eq_getElem?_getD, List.getElem?_map, HFD.out]
       rfl
      rw [h1]
      rfl
     ·rw [List.length_append, List.length_singleton]; have := HEL.out; omega
     ·intro e he
      rcases List.mem_append.1 he with he | he
      ·exact HOK.out e he
      ·rw [List.mem_singleton] at he; subst he
       exact HEO.out
     ·intro e he
      rcases List.mem_append.1 he with he | he
      ·exact HEQ.out e he
      ·rw [List.mem_singleton] at he; subst he
       exact ⟨qq_ HFY.out HQM.out.1.1, q, List.mem_of_getElem? HQ.out.1, rfl, rfl⟩
    case measure => simp [intOf]; omega
   ·have d2 : ¬ (i : Int) + 1 < (qrn : Int) := by omega
    have hne : entR i (prC q) = [] := by
     unfold entR
     rw [if_neg (by show ¬ i + 1 < (q.R.map P1.bs).length; rw [List.length_map, HQN.out]; exact hfl)]
    have HNE := hid hne
    clear hne
    go_wp2_with fail
    go_roundw
    case rel => exact ⟨k + 1, E, by omega, by go_num, hid (ze_ HOV.out HB9.out), hid (by rw [HEK.out, HNE.out, List.append_nil]; exact HEM.out), hid (by have := HEL.out; omega), hid (fun e he => ze_ (HKO.out e he) HB9.out), HEQ, hid (HBW.out.trans (HB9.out.mono HBW.out.size))⟩
    case measure => simp [intOf]; omega
  ·have d1 : ¬ (k : Int) < (n : Int) := by omega
   have hke : k = n := by omega
   have HEA := hid (show E.map prC = (P.map prC).flatMap (entR i) by rw [HEM.out, List.take_of_length_le Xt18])
   obtain ⟨m, hm⟩ := gtx (E.length)
   rw [hm] at HOV HEL
   have HML := hid hm
   obtain ⟨va, vc, hv⟩ := zd_ HOV.out
   subst hv
   have hmi : (m : Int) <= 900000 := by have := HEL.out; omega
   obtain ⟨w5, hw5⟩ := gty (wr)
   subst hw5
   have HKX := hid (fun X (o : Off (fun b => Value.ownBlock (.slice va m vc) = some b) w5 X) e (he : e ∈ E) => ys_ (zn_ (HKO.out e he) o (fun g hg hh => by
    obtain ⟨_, _, cu, hc⟩ := zb_ (HKO.out e he) hg
    obtain ⟨_, _, cu', hc'⟩ := zb_ HOV.out hh
    exact zp_ hc hc' Xt4 rfl)) rfl)
   clear hke hm hk
   go_wp2_with fail
   clear m0 m1
   go_loopw [10] (fun j wq => ∃ (k2 : Nat) (F : List PrV), k2 <= m /\ j = .int .i64 (k2 : Int) /\ Hid (wq.ownsRow w.heap.size 78 2 (.slice va m vc) m (zi_ F)) /\ Hid (F.Perm E) /\ Hid ((F.take k2).Pairwise LeP) /\ Hid (Off (fun b => Value.ownBlock (.slice va m vc) = some b) w5 wq)) (fun j _ => m - (intOf j).toNat)
   case atStart => exact ⟨0, E, by omega, rfl, HOV, hid (List.Perm.refl _), hid List.Pairwise.nil, hid (Off.refl _ _)⟩
   case round =>
    obtain ⟨k2, F, hk2, rfl, HOF, HFP, HFS, HO5⟩ := hrel
    by_cases hl2 : k2 < m
    ·have d2 : (k2 : Int) < (m : Int) := by omega
     have hfl : F.length = m := by rw [HFP.out.length_eq, HML.out]
     obtain ⟨z0, hz0⟩ : ∃ z, F[k2]? = some z := ⟨_, List.getElem?_eq_getElem (by rw [hfl]; exact hl2)⟩
     obtain ⟨g, hg, hgb, _⟩ := zt_ (f := pcl) (sz := 2) (fun _ => rfl) Xt4 (a := va) HOF.out hfl k2 z0 hz0
     subst hg
     have hsp : F = F.take k2 ++ z0 :: ([] ++ F.drop (k2 + 1)) := by
      rw [List.nil_append, ← zW_ hz0, List.take_append_drop]
     have HSP := hid hsp
     have HTK := hid (show (F.take k2).length = k2 by rw [List.length_take, hfl]; omega)
     clear hsp hz0 hfl
     go_wp2_with fail
     go_loopw [11] (fun j wq => ∃ (n1 : Nat) (A B D : List PrV) (z : PrV), n1 <= k2 /\ j = .int .i64 (n1 : Int) /\ Hid (A.length = n1) /\ Hid (A.length + B.length = k2) /\ Hid (wq.ownsRow w.heap.size 78 2 (.slice (some ⟨g, 0, none⟩) m vc) m (zi_ (A ++ z :: (B ++ D)))) /\ Hid ((A ++ z :: (B ++ D)).Perm E) /\ Hid ((A ++ B).Pairwise LeP) /\ Hid (∀ b ∈ B, ltL z.K b.K = true) /\ Hid (Off (fun b => Value.ownBlock (.slice (some ⟨g, 0, none⟩) m vc) = some b) w5 wq)) (fun j _ => (intOf j).toNat)
     case atStart => exact ⟨k2, F.take k2, [], F.drop (k2 + 1), z0, Nat.le_refl _, rfl, HTK, hid (by rw [HTK.out]; rfl), hid (by rw [← HSP.out]; exact HOF.out), hid (by rw [← HSP.out]; exact HFP.out), hid (by rw [List.append_nil]; exact HFS.out), hid (fun b hb => by cases hb), HO5⟩
     case round =>
      clear HOF HFP HFS HO5 HSP HTK
      obtain ⟨n1, A, B, D, z, hn1, rfl, HAL, HAB, HOF, HFP, HFS, HZB, HO5⟩ := hrel
      rcases List.eq_nil_or_concat A with hA | ⟨A', a, hA⟩
      ·have d0 : ¬ (0 : Int) < (n1 : Int) := by have := HAL.out; rw [hA] at this; simp at this; omega
       have HST := hid (ins_stop HFS.out HZB.out (fun a ha => by rw [hA] at ha; cases ha))
       clear hA
       go_upto_region 14 with (fail)
       rename_i KK hKK
       refine wmo ?_
       refine rgw wr (Below.refl _ _).drew fun hH => ?_
       refine tkq 0 ?_
       refine tkp 1 (.bool false) rfl (.inl ⟨by rfl, ?_⟩) ?_
       ·exact Xb60
       refine tkp 2 (.bool false) rfl (.inl ⟨by rfl, ?_⟩) ?_
       ·exact Xb60
       refine tkn 3 ?_
       refine tkn 4 ?_
       refine tkn 5 ?_
       refine tkn 6 ?_
       refine tkn 7 ?_
       refine tkn 8 ?_
       refine tkn 9 ?_
       refine tkn 10 ?_
       refine tkn 11 ?_
       refine tkn 12 ?_
       refine tkn 13 ?_
       refine tkn 14 ?_
       refine tkn 15 ?_
       refine tkn 16 ?_
       refine tkq 17 ?_
       refine adn ?_
       skip
       refine hKK _ _ ?_
       have HBZ := hid (show Below wr.heap.size wr wr.drew from hH)
       clear hH d0
       go_wp2_with fail
       go_roundw
       case rel => exact ⟨k2 + 1, A ++ z :: (B ++ D), by omega, by go_num, hid (ze_ HOF.out HBZ.out), HFP, hid (by
        rw [show A ++ z :: (B ++ D) = (A ++ z :: B) ++ D by simp, List.take_left' Xt61]; exact HST.out), hid (HO5.out.then HBZ.out)⟩
       case measure => simp [intOf]; omega
      ·rw [List.concat_eq_append] at hA
       subst hA
       obtain ⟨n0, hn0⟩ := gtx (A'.length)
       have h01 : n1 = n0 + 1 := by rw [← HAL.out, List.length_append, hn0]; rfl
       have hLL : (A' ++ [a]) ++ z :: (B ++ D) = A' ++ a :: z :: (B ++ D) := by simp
       have hof := HOF.out
       have hfp := HFP.out
       rw [hLL] at hof hfp
       have hlm : (A' ++ a :: z :: (B ++ D)).length = m := by rw [hfp.length_eq, HML.out]
       have hza : (A' ++ a :: z :: (B ++ D))[n1]? = some z := by
        rw [h01, ← hn0, List.getElem?_append_right Xt0, show A'.length + 1 - A'.length = 1 by omega]; rfl
       have haa : (A' ++ a :: z :: (B ++ D))[n0]? = some a := by
        rw [← hn0, List.getElem?_append_right Xt0, Nat.sub_self]; rfl
       have hn1m : n1 < m := by omega
       have hzE : z ∈ E := hfp.mem_iff.1 (List.mem_of_getElem? hza)
       have haE : a ∈ E := hfp.mem_iff.1 (List.mem_of_getElem? haa)
       have hcell : ∀ W, Below wr.heap.size wr W -> (W.cell? ⟨g, n1 * 2, none⟩ = some (.slice z.ka z.K.length z.kc) /\ W.cell? ⟨g, n1 * 2 + 1, none⟩ = some (.slice z.ra z.R.length z.rc)) /\ (W.cell? ⟨g, n0 * 2, none⟩ = some (.slice a.ka a.K.length a.kc) /\ W.cell? ⟨g, n0 * 2 + 1, none⟩ = some (.slice a.ra a.R.length a.rc)) := fun W b => by
        have ho := ze_ hof b
        obtain ⟨g1, e1, _, c1⟩ := zt_ (f := pcl) (sz := 2) (fun _ => rfl) Xt4 ho hlm n1 z hza
        obtain ⟨g2, e2, _, c2⟩ := zt_ (f := pcl) (sz := 2) (fun _ => rfl) Xt4 ho hlm n0 a haa
        cases e1
        cases e2
        exact ⟨⟨c1 0 Xt4, c1 1 Xt4⟩, c2 0 Xt4, c2 1 Xt4⟩
       have HCE := hid hcell
       have HC2 := hid (fun W (b : Below wr.heap.size wr W) => (⟨(hcell W b).1.1, (hcell W b).2.1⟩ : W.cell? ⟨g, n1 * 2, none⟩ = some (.slice z.ka z.K.length z.kc) /\ W.cell? ⟨g, n0 * 2, none⟩ = some (.slice a.ka a.K.length a.kc)))
       have HCZ := hid (fun W (b : Below wr.heap.size wr W) => zA_ W z.ka z.K.length z.kc z.K rfl (HKX.out W (HO5.out.then b) z hzE).rd)
       have HCA := hid (fun W (b : Below wr.heap.size wr W) => zA_ W a.ka a.K.length a.kc a.K rfl (HKX.out W (HO5.out.then b) a haE).rd)
       obtain ⟨cmp, hcmp⟩ := gtx (ltL z.K a.K)
       have HCM := hid (show Op.bytesLess (strOfNums z.K).toList (strOfNums a.K).toList = cmp by rw [yi_ (HEQ.out z hzE).1 (HEQ.out a haE).1]; exact hcmp)
       have HCP := hid hcmp
       have HOL := hid hof
       have HFL := hid hfp
       have HN0 := hid hn0
       have H01 := hid h01
       have d0 : (0 : Int) < (n1 : Int) := by omega
       have d3 : (n1 : Int) < (m : Int) := by omega
       have d4 : (n0 : Int) < (m : Int) := by omega
       have hwr : IntKind.i64.wrap ((n1 : Int) - 1) = (n0 : Int) := by rw [h01]; simp [IntKind.wrap, IntKind.bits, IntKind.signed]; omega
       have HWR := hid hwr
       have HNM := hid hn1m
       clear hcell hof hfp hlm hza haa hzE haE hcmp hn0 h01 hLL hn1m
       go_upto_region 14 with (fail)
       rename_i KK hKK
       refine wmo ?_
       refine rgw wr (Below.refl _ _).drew fun hH => ?_
       refine tkq 0 ?_
       refine tkp 1 (.bool true) rfl (.inl ⟨by rfl, ?_⟩) ?_
       ·exact Xb60
       refine tkp 2 (.bool true) rfl (.inl ⟨by rfl, ?_⟩) ?_
       ·exact Xb60
       refine tkq4 3 4 5 6 ?_
       refine tkr 7 rfl Xf43 ?_
       refine tkr 8 rfl (fun W hSw => by have hcv := HCZ.out W hSw; exact tks) ?_
       refine tkq4 9 10 11 12 ?_
       refine tkq 13 ?_
       refine tkr 14 rfl Xf43 ?_
       refine tkr 15 rfl Xf11 ?_
       refine tkp 16 (.bool cmp) rfl (.inl ⟨by rfl, ?_⟩) ?_
       ·intro W hSw; go_simp; try (first | exact HCM.out | rfl)
       refine tkq 17 ?_
       refine adn ?_
       skip
       refine hKK _ _ ?_
       obtain ⟨w9, hw9⟩ := gty (wr.drew)
       try rw [← hw9] at hH ⊢
       have hHB9 : Below wr.heap.size wr w9 := hH
       have HB9 := hid hHB9
       clear hH hw9 hHB9
       cases cmp
       ·have HST := hid (ins_stop HFS.out HZB.out (fun x hx => by rw [List.getLast?_append] at hx; simp at hx; subst hx; exact HCP.out))
        clear hwr d0 d3 d4
        go_wp2_with fail
        go_roundw
        case rel => exact ⟨k2 + 1, (A' ++ [a]) ++ z :: (B ++ D), by omega, by go_num, hid (ze_ HOF.out HB9.out), HFP, hid (by
         rw [show (A' ++ [a]) ++ z :: (B ++ D) = ((A' ++ [a]) ++ z :: B) ++ D by simp, List.take_left' Xt61]; exact HST.out), hid (HO5.out.then HB9.out)⟩
        case measure => simp [intOf]; omega
       ·have HC9 := hid (fun W (b : Below w9.heap.size w9 W) => HCE.out W (za_ HB9.out b))
        have HO9 := hid (ze_ HOL.out HB9.out)
        have HFZ := hid (fun W (b : Below w9.heap.size w9 W) => (by
         obtain ⟨_, _, cu, hc⟩ := zb_ (ze_ HO9.out b) rfl
         exact ⟨hc.frozen _, hc.frozen _⟩ : W.frozen? ⟨g, n1 * 2, none⟩ = false /\ W.frozen? ⟨g, n1 * 2 + 1, none⟩ = false))
        have HSW := hid (fun wd w15 (b : Below w9.heap.size w9 wd) (e : w15 = (wd.setCell ⟨g, n1 * 2, none⟩ (.slice a.ka a.K.length a.kc)).setCell ⟨g, n1 * 2 + 1, none⟩ (.slice a.ra a.R.length a.rc)) => (by
         have s1 := ((ze_ HO9.out b).stored (n1 * 2) (.slice a.ka a.K.length a.kc)).1
         have s2 := (s1.stored (n1 * 2 + 1) (.slice a.ra a.R.length a.rc)).1
         have hc := HC9.out wd b
         obtain ⟨_, _, cu, hb⟩ := zb_ s2 rfl
         have h01 := H01.out
         refine ⟨by rw [e]; exact s2, ⟨?_, ?_, by rw [e]; exact hb.frozen _, by rw [e]; exact hb.frozen _⟩, ?_⟩
         ·rw [e, World.cell?_setCell_other _ _ _ _ Xt42, World.cell?_setCell_other _ _ _ _ Xt42]; exact hc.2.1
         ·rw [e, World.cell?_setCell_other _ _ _ _ Xt42, World.cell?_setCell_other _ _ _ _ Xt42]; exact hc.2.2
         ·rw [e]; exact Off.set (S := fun b => Value.ownBlock (.slice (some ⟨g, 0, none⟩) m vc) = some b) (Off.set (S := fun b => Value.ownBlock (.slice (some ⟨g, 0, none⟩) m vc) = some b) (Off.refl _ wd) ⟨g, n1 * 2, none⟩ rfl _) ⟨g, n1 * 2 + 1, none⟩ rfl _ : w15.ownsRow w.heap.size 78 2 (.slice (some ⟨g, 0, none⟩) m vc) m (((zi_ (A' ++ a :: z :: (B ++ D))).set (n1 * 2) (.slice a.ka a.K.length a.kc)).set (n1 * 2 + 1) (.slice a.ra a.R.length a.rc)) /\ (w15.cell? ⟨g, n0 * 2, none⟩ = some (.slice a.ka a.K.length a.kc) /\ w15.cell? ⟨g, n0 * 2 + 1, none⟩ = some (.slice a.ra a.R.length a.rc) /\ w15.frozen? ⟨g, n0 * 2, none⟩ = false /\ w15.frozen? ⟨g, n0 * 2 + 1, none⟩ = false) /\ Off (fun b => Value.ownBlock (.slice (some ⟨g, 0, none⟩) m vc) = some b) wd w15))
        go_upto_region 16 with (fail)
        refine zq_ (z := 15) (S := (fun X => Below w9.heap.size w9 X)) Xt3 ((Below.refl w9.heap.size w9).drew) fun hH => ?_
        refine tlk 0 rfl Xt2 ?_
        refine tlk 1 rfl Xt2 ?_
        refine tlf 2 rfl Xt2 ?_
        refine tlf 3 rfl Xt2 ?_
        refine tlf 4 rfl Xt2 ?_
        refine tlk 5 rfl Xt2 ?_
        refine tlk 6 rfl Xt2 ?_
        refine tlk 7 rfl Xt2 ?_
        refine tlk 8 rfl Xt2 ?_
        refine tlk 9 rfl (fun W hSw => by obtain ⟨_, m0, m1⟩ := HC9.out W hSw; exact tks) ?_
        refine tlf 10 rfl Xt2 ?_
        refine tlf 11 rfl Xt2 ?_
        refine tlf 12 rfl Xt2 ?_
        refine tlk 13 rfl (fun W hSw => by obtain ⟨⟨m0, m1⟩, _⟩ := HC9.out W hSw; exact tks) ?_
        refine tlk 14 rfl Xt2 ?_
        refine tlz rfl fun K hK => ?_
        obtain ⟨wd, hwd⟩ := gty (w9.drew)
        rw [← hwd]
        have HBD := hid (show Below w9.heap.size w9 wd by rw [hwd]; exact (Below.refl _ _).drew)
        clear hwd
        obtain ⟨⟨y0, y1⟩, y2, y3⟩ := HC9.out wd HBD.out
        obtain ⟨fz0, fz1⟩ := HFZ.out wd HBD.out
        go_simp
        obtain ⟨w15, hw15⟩ := gty ((wd.setCell ⟨g, n1 * 2, none⟩ (.slice a.ka a.K.length a.kc)).setCell ⟨g, n1 * 2 + 1, none⟩ (.slice a.ra a.R.length a.rc))
        rw [← hw15]
        have HW15 := hid hw15
        clear hw15 y0 y1 y2 y3 fz0 fz1
        refine hK.out _ _ ?_
        clear hK K
        refine stP ?_
        refine y5_ (i := 16) (oi := { dst := some 129, op := Op.indexAddr 69 (Operand.tmp 116) (Operand.tmp 118), type := 0, pos := "ref.go:94", after := #[{ on := 2, ground := Ground.data }, { on := 4, ground := Ground.data }, { on := 0, ground := Ground.phase }, { on := 1, ground := Ground.phase }, { on := 2, ground := Ground.phase }, { on := 3, ground := Ground.phase }, { on := 4, ground := Ground.phase }, { on := 5, ground := Ground.phase }, { on := 6, ground := Ground.phase }, { on := 7, ground := Ground.phase }, { on := 8, ground := Ground.phase }, { on := 9, ground := Ground.phase }, { on := 10, ground := Ground.phase }, { on := 11, ground := Ground.phase }, { on := 12, ground := Ground.phase }, { on := 13, ground := Ground.phase }, { on := 14, ground := Ground.phase }, { on := 15, ground := Ground.phase }], guard := none }) (v := ?_) Xt3 Xt3 rfl rfl Xt3 Xt3 Xt3 (fun _ _ _ h => h) (Or.inl ⟨by rfl, ?_⟩) ?_
        rotate_left
        ·intro W _; go_simp; try with_reducible rfl
        refine stP ?_
        refine yk_ (rs := [17]) Xt3 Xt5 ?_
        refine AllL.later (o := { dst := none, op := Op.store 78 (Operand.tmp 129) (Operand.tmp 127), type := 0, pos := "ref.go:94", after := #[{ on := 16, ground := Ground.data }, { on := 13, ground := Ground.data }, { on := 15, ground := Ground.chain }, { on := 0, ground := Ground.phase }, { on := 1, ground := Ground.phase }, { on := 2, ground := Ground.phase }, { on := 3, ground := Ground.phase }, { on := 4, ground := Ground.phase }, { on := 5, ground := Ground.phase }, { on := 6, ground := Ground.phase }, { on := 7, ground := Ground.phase }, { on := 8, ground := Ground.phase }, { on := 9, ground := Ground.phase }, { on := 10, ground := Ground.phase }, { on := 11, ground := Ground.phase }, { on := 12, ground := Ground.phase }, { on := 13, ground := Ground.phase }, { on := 14, ground := Ground.phase }, { on := 15, ground := Ground.phase }], guard := none }) Xt3 rfl fun K hK => ?_
        have HS15 := hid (HSW.out wd w15 HBD.out HW15.out)
        obtain ⟨y0, y1, fz0, fz1⟩ := HS15.out.2.1
        go_simp
        obtain ⟨w17, hw17⟩ := gty ((w15.setCell ⟨g, n0 * 2, none⟩ (.slice z.ka z.K.length z.kc)).setCell ⟨g, n0 * 2 + 1, none⟩ (.slice z.ra z.R.length z.rc))
        rw [← hw17]
        have HW17 := hid hw17
        clear hw17 y0 y1 fz0 fz1
        refine hK.out _ _ ?_
        clear hK K
        refine stP ?_
        refine zv_ Xt3 ?_ _
        skip
        have s3 := (HS15.out.1.stored (n0 * 2) (.slice z.ka z.K.length z.kc)).1
        have s4 := (s3.stored (n0 * 2 + 1) (.slice z.ra z.R.length z.rc)).1
        have hsw := pr_swap A' (B ++ D) a z
        rw [HN0.out, ← H01.out] at hsw
        rw [hsw, ← HW17.out] at s4
        have HO17 := hid s4
        have HF17 := hid (show Off (fun b => Value.ownBlock (.slice (some ⟨g, 0, none⟩) m vc) = some b) w15 w17 by rw [HW17.out]; exact Off.set (S := fun b => Value.ownBlock (.slice (some ⟨g, 0, none⟩) m vc) = some b) (Off.set (S := fun b => Value.ownBlock (.slice (some ⟨g, 0, none⟩) m vc) = some b) (Off.refl _ w15) ⟨g, n0 * 2, none⟩ rfl _) ⟨g, n0 * 2 + 1, none⟩ rfl _)
        have HOFN := hid (((HO5.out.then HB9.out).then HBD.out).trans (HS15.out.2.2.trans HF17.out))
        clear s3 s4 hsw d0 d3 d4 hH
        have hwr0 : IntKind.i64.wrap ((n1 : Int) - 1) = (n0 : Int) := HWR.out
        go_wp2_with fail
        go_roundw
        case rel =>
         have h01 := H01.out
         refine ⟨n0, A', a :: B, D, z, by omega, by go_num, HN0, hid (by rw [HN0.out, List.length_cons]; have := HAB.out; rw [List.length_append, List.length_singleton, HN0.out] at this; omega), HO17, hid ?_, hid ?_, hid ?_, HOFN⟩
         ·refine List.Perm.trans ?_ HFL.out
          exact List.Perm.append_left _ (List.Perm.swap ..)
         ·rw [show A' ++ a :: B = (A' ++ [a]) ++ B by simp]; exact HFS.out
         ·intro b hb
          rcases List.mem_cons.1 hb with rfl | hb
          ·exact HCP.out
          ·exact HZB.out b hb
        case measure => have h01 := H01.out; have hwr0 : IntKind.i64.wrap ((n1 : Int) - 1) = (n0 : Int) := HWR.out; simp [intOf]; omega
    ·have d2 : ¬ (k2 : Int) < (m : Int) := by omega
     have hke2 : k2 = m := by omega
     have HKE := hid hke2
     go_wp2_with fail
     go_ret
     have hfl : F.length = m := by rw [HFP.out.length_eq, HML.out]
     have hsF : F.Pairwise LeP := by
      have := HFS.out
      rw [List.take_of_length_le (by rw [hfl, HKE.out]; exact Nat.le_refl _)] at this
      exact this
     have hlim := HH.out.1.lim x (List.mem_of_getElem? HX.out.1)
     have htb : tbC x = P.map prC := by unfold tbC; rw [HX.out.2.1]
     refine ⟨va, vc, F, by rw [hfl]; rfl, ?_, ?_, by rw [hfl]; have := HEL.out; omega, by rw [hfl]; exact (zJ_ HOF.out).1, fun S' hS' hst W' o => ?_⟩
     ·exact Off.below HBW.out HO5.out HBW.out.size (fun b hb => (zb_ HOV.out hb).1)
     ·rw [HH.out.1.getD HX.out.1]
      refine idx_sorted HH.out.1.ok HJT.out HIX.out hlim ?_ hsF
      rw [htb, ← HEA.out]
      exact HFP.out.map _
     ·have hob : ∀ b, Value.ownBlock (.slice va m vc) = some b -> ¬ S' b := fun b hb hs => by
       have := (zb_ HOV.out hb).1
       have := hS' b hs
       omega
      have how := zm_ HOF.out o hS'
      refine ye_ how hfl fun e he => ?_
      have heE := HFP.out.mem_iff.1 he
      obtain ⟨_, q, hq, e1, e2⟩ := HEQ.out e heE
      have hko := zn_ (HKO.out e heE) (HO5.out) (fun g hg hh => by
       obtain ⟨_, _, cu, hc⟩ := zb_ (HKO.out e heE) hg
       obtain ⟨_, _, cu', hc'⟩ := zb_ HOV.out hh
       exact zp_ hc hc' Xt4 rfl)
      have hk2 := zm_ hko o hS'
      have hoff : Off (fun b => S' b ∨ w.heap.size <= b) w W' := by
       have h1 : Off (fun b => S' b ∨ w.heap.size <= b) w w5 := Off.of HBW.out
       exact h1.trans ((HO5.out.mono fun b hb => .inr (zb_ HOV.out hb).1).trans (o.mono fun b hb => .inl hb))
      have hoff2 : Off S' w W' := ⟨hoff.os, hoff.tape, hoff.output, hoff.size, fun b hb hn => hoff.block b hb fun hh => hh.elim hn fun h => by omega⟩
      have hpr := hst W' hoff2 x (List.mem_of_getElem? HX.out.1)
      rw [HX.out.2.1] at hpr
      obtain ⟨mq, hmq⟩ := List.mem_iff_getElem?.1 hq
      obtain ⟨_, _, _, _, _, _, r⟩ := hpr mq q hmq
      exact ⟨ys_ hk2 rfl, by rw [e1, e2]; exact r⟩
theorem jr_ (a : Option Addr) (L : List Int) (n cap : Nat) (hL : L.length = n) (hn : n <= 300000) (F K : List Int) (er : Int) (hv : yZ_ L = (F, K, er)) (w : World) (hA : Ls .u8 w a cap L) :
  Calls prog 101 #[.slice a n cap] w fun r w' => ∃ a1 c1 a2 c2, r = .returned (.tuple #[.slice a1 F.length c1, .slice a2 K.length c2, .int .i64 er]) /\ Ls .u8 w' a1 c1 F /\ (∀ S : Nat -> Prop, (∀ k, S k -> k < w.heap.size) -> zs_ S w' fun W => Ls .u8 W a2 c2 K) /\ Below w.heap.size w w' := by
 have HA := hid hA
 have HL := hid hL
 have HV := hid hv
 have hbad : z7_ [] L = none -> F = [] /\ K = [] /\ er = 4 := fun h => by
  rw [yZ_, h] at hv
  simp only [spV, Prod.mk.injEq] at hv
  exact ⟨hv.1.symm, hv.2.1.symm, hv.2.2.symm⟩
 have HB := hid hbad
 clear hA hL hv hbad
 go_enter func101, ntmps101
 go_wp2_with fail
 go_loopw [5, 6] (fun v i wr => ∃ (k : Nat) (f : List Int), k <= n /\ i = .int .i64 k /\ f.length <= k /\ wr.ownsRow w.heap.size 5 1 v f.length (iv .u8 f) /\ z7_ [] L = z7_ f (L.drop k) /\ Below w.heap.size w wr) (fun _ i _ => n - (intOf i).toNat)
 case atStart => exact ⟨0, [], by omega, rfl, by simp, World.ownsRow_nil _ _ _ _, rfl, Below.refl _ _⟩
 case round =>
  obtain ⟨k, f, hk, rfl, hfk, hown, hsp, B⟩ := hrel
  obtain ⟨m, hm⟩ := gtx (f.length)
  rw [hm] at hown hfk
  have HSP := hid hsp
  have HM := hid hm
  have HOWN := hid hown
  have HFK := hid hfk
  clear hsp hm hown hfk
  by_cases hlt : k < n
  ·have hkl : (k : Int) < (n : Int) := by omega
   have hkL : k < L.length := by rw [HL.out]; exact hlt
   have hdc := Q1_ L k hkL
   obtain ⟨b1, o1, e1, c1⟩ := (HA.out.below B).get k hkL
   subst e1
   obtain ⟨x, hx⟩ := gtx (L.getD k 0)
   rw [hx] at c1 hdc
   have HDC := hid hdc
   have hs1 := B.size
   clear hx hdc
   by_cases q : x = 0
   ·have t1 : (x != 0) = false := by rw [q]; rfl
    have HQ := hid q
    clear q
    by_cases hend : k + 1 = n
    ·have t2 : (n : Int) <= (k : Int) + 1 := by omega
     have hr := HB.out Xt50
     have HR := hid hr
     clear hr hend
     exact Xb50
    ·have t2 : ¬ (n : Int) <= (k : Int) + 1 := by omega
     have hkl2 : (k : Int) + 1 < (n : Int) := by omega
     have hkL2 : k + 1 < L.length := by rw [HL.out]; omega
     have hdc2 := Q1_ L (k + 1) hkL2
     obtain ⟨b2, o2, e2, c2⟩ := (HA.out.below B).get (k + 1) hkL2
     cases e2
     obtain ⟨y, hy⟩ := gtx (L.getD (k + 1) 0)
     rw [hy] at c2 hdc2
     have hsp2 : z7_ [] L = if y = 1 then (if f.length <= 24 /\ yz_ (L.drop (k + 1 + 1)).length = true then some (f, L.drop (k + 1 + 1)) else none) else if y = 255 then z7_ (f ++ [0]) (L.drop (k + 1 + 1)) else none := by
      rw [HSP.out, HDC.out, hdc2, z7_, if_pos HQ.out]
     have HSP2 := hid hsp2
     have hend2 := hid hend
     clear hy hdc2 hsp2 hend
     by_cases q1 : y = 1
     ·have t3 : (y == 1) = true := by rw [q1]; rfl
      have hsp3 := HSP2.out
      rw [if_pos q1] at hsp3
      have hdl : (L.drop (k + 1 + 1)).length = n - (k + 2) := by rw [List.length_drop, HL.out]
      rw [HM.out, hdl] at hsp3
      obtain ⟨a', c', s', l'⟩ := HA.out.lo Qe_ n (k + 2) HL.out Xt0
      have s2 : ∀ W', (Instr.slice 42 (.slice (some ⟨b1, o1, none⟩) n cap) (some (.int .i64 ((k : Int) + 2))) none none).run prog W' = .ok (.slice a' (n - (k + 2)) c') W' := by
       intro W'
       have := s' W'
       rwa [show (((k + 2 : Nat)) : Int) = (k : Int) + 2 by omega] at this
      obtain ⟨r, hr⟩ := gtx (n - (k + 2))
      rw [hr] at s2 hdl hsp3
      have HDL := hid hdl
      have hr3 : r <= 300000 := by omega
      obtain ⟨af, cf, hsl, lf, _⟩ := yv_ HOWN.out HM.out
      subst hsl
      have HLF := hid lf
      have HLP := hid l'
      have HS3 := hid hsp3
      clear s' hdl hsp3 hr lf l' HOWN q1
      go_wp2_with (at_builtin; refine zB_ Qe_ rfl (.const (.slice none 0 0)) (.tmp 40) rfl w.heap.size (.slice none 0 0) 0 [] rfl (World.ownsRow_nil _ _ _ _) a' c' r (L.drop (k + 1 + 1)) HDL.out rfl (HLP.out.below B) Xt0 hs1 ?_)
      intro v2 w2 hown2 hg2
      have hown3 : w2.ownsRow w.heap.size 5 1 v2 r (iv .u8 (L.drop (k + 1 + 1))) := by simpa using hown2
      have B2 := B.grown hg2 hs1 Xt23
      have HLF2 := hid (HLF.out.below ((Below.refl wr.heap.size wr).grown hg2 (Nat.le_refl _) Xt23))
      obtain ⟨ak, ck, rfl, lk, _⟩ := yv_ hown3 HDL.out
      have HLK := hid (fun (S : Nat -> Prop) (hS : ∀ k, S k -> k < w.heap.size) => jZ_ hown3 HDL.out hS)
      clear hown2 hg2 hown3 HLF lk
      by_cases q3 : m <= 24
      ·have q4 : ¬ (24 : Int) < (m : Int) := by omega
       have hmk := zh_ ak r ck w2
       cases hk2 : yz_ r
       ·rw [hk2] at hmk
        have HMK := hid hmk
        have hr := HB.out (by rw [HS3.out, if_neg (by rw [hk2]; simp)])
        have HR := hid hr
        clear hr hmk hk2
        go_wp2_with fail
        refine HMK.out.mono ?_; rintro e w' ⟨rfl, rfl⟩
        exact Xb83
       ·rw [hk2] at hmk
        have HMK := hid hmk
        have hv2 := HV.out
        rw [yZ_, HS3.out, if_pos ⟨q3, hk2⟩] at hv2
        simp only [spV, Prod.mk.injEq] at hv2
        obtain ⟨e1, e2, e3⟩ := hv2
        have E1 := hid e1
        have E2 := hid e2
        have E3 := hid e3
        clear hmk hk2 e1 e2 e3
        go_wp2_with fail
        refine HMK.out.mono ?_; rintro e w' ⟨rfl, rfl⟩
        go_wp2_with fail
        go_ret3
        have e1 := E1.out
        have e2 := E2.out
        have e3 := E3.out
        subst e1 e2 e3
        exact ⟨af, cf, ak, ck, by rw [HM.out, HDL.out]; rfl, HLF2.out, HLK.out, B2⟩
      ·have q4 : (24 : Int) < (m : Int) := by omega
       have hr := HB.out (by rw [HS3.out, if_neg (fun h => q3 h.1)])
       have HR := hid hr
       clear hr
       exact Xb83
     ·have t3 : (y == 1) = false := by simpa using q1
      have hsp3 := HSP2.out
      rw [if_neg q1] at hsp3
      by_cases q2 : y = 255
      ·have t4 : (y != 255) = false := by simpa using q2
       rw [if_pos q2] at hsp3
       have HSP3 := hid hsp3
       have Q2 := hid q2
       clear hsp3 q1 q2
       go_wp2_with (at_builtin; refine zB_ Qe_ rfl (.tmp 58) (.tmp 59) rfl w.heap.size _ m (iv .u8 f) rfl (HOWN.out.alloc _) _ _ 1 [0] rfl rfl (xd_ .u8 _ [0] _ _ _ rfl 1 rfl) (by have := HFK.out; omega) Xt7 ?_)
       intro v2 w3 hown3 hgrow3
       rw [← zM_] at hown3
       have B4 := (B.alloc hs1 _).grown hgrow3 Xt7 (fun j hj => (HOWN.out.lt j hj).1)
       have HOWN3 := hid hown3
       clear hown3 hgrow3
       go_wp2_with fail
       go_roundw
       case rel => exact ⟨k + 2, f ++ [0], by have := hend2.out; omega, by go_num, by rw [List.length_append, HM.out]; have := HFK.out; simp; omega, by rw [List.length_append, HM.out]; exact HOWN3.out, by rw [HSP3.out], B4⟩
       case measure => simp [intOf]; omega
      ·have t4 : (y != 255) = true := by simpa using q2
       rw [if_neg q2] at hsp3
       have hr := HB.out hsp3
       have HR := hid hr
       clear hr hsp3 q1 q2
       exact Xb50
   ·have t1 : (x != 0) = true := by simpa using q
    have hsp2 : z7_ [] L = z7_ (f ++ [x]) (L.drop (k + 1)) := by rw [HSP.out, HDC.out, splitL_go _ _ _ q]
    have HSP2 := hid hsp2
    clear q hsp2
    go_wp2_with (at_builtin; refine zB_ Qe_ rfl (.tmp 17) (.tmp 22) rfl w.heap.size _ m (iv .u8 f) rfl (HOWN.out.alloc _) _ _ 1 [x] rfl rfl (xd_ .u8 _ [x] _ _ _ rfl 1 rfl) (by have := HFK.out; omega) Xt7 ?_)
    intro v2 w3 hown3 hgrow3
    rw [← zM_] at hown3
    have B4 := (B.alloc hs1 _).grown hgrow3 Xt7 (fun j hj => (HOWN.out.lt j hj).1)
    have HOWN3 := hid hown3
    clear hown3 hgrow3
    go_wp2_with fail
    go_roundw
    case rel => exact ⟨k + 1, f ++ [x], by omega, by go_num, by rw [List.length_append, HM.out]; have := HFK.out; simp; omega, by rw [List.length_append, HM.out]; exact HOWN3.out, HSP2.out, B4⟩
    case measure => simp [intOf]; omega
  ·have hkl : ¬ (k : Int) < (n : Int) := by omega
   have hr := HB.out Xt50
   have HR := hid hr
   clear hr
   exact Xb50
end Go.Proofs.YthmofoldmdafoaaGreat
