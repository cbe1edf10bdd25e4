/- Part of the proof that ModelApplies holds for every input: writes that are done on tables leave them as the document says. Part 32. -/
import Derived.Test.YthmofoldmdafoaaGreatSvE
set_option linter.unusedVariables false
set_option linter.unusedSimpArgs false
set_option maxRecDepth 100000
set_option maxHeartbeats 4000000
namespace Go.Proofs.YthmofoldmdafoaaGreat
open Go.ChangeShapes Go.WideShapes Go.ChangeAt Go.RowKit
open Go.Lib (hid)
open Go.Proofs.Tryz
theorem pO_ix {j : Job} {o : zj_} (h : pO j o = true) (h4 : kf o.k 4 = true) : ∃ ix : Nat, o.i = (ix : Int) /\ (ix : Int) < j.T.getD o.t.toNat 0 := by
 unfold pO idxV at h
 rw [h4, if_pos rfl] at h
 simp only [Bool.and_eq_true] at h
 have h1 := h.1.1.1.2
 unfold inB at h1
 rw [decide_eq_true_eq] at h1
 exact ⟨o.i.toNat, by omega, by omega⟩
theorem look_split {j : Job} {t tr : Int} {T : List Pr} (hT : tOk T) {e : List Int × Pr} (he : e ∈ yK_ j t tr T) : zH_ e.2.1 /\ rOk e.2.2 /\ Byt e.1 /\ e.1.length <= 300000 /\ ∃ fl, yZ_ e.1 = (fl, e.2.1, 0) := by
 obtain ⟨h1, h2⟩ := q1_ he
 obtain ⟨h3, h4⟩ := hT.2 e.2 h1
 obtain ⟨_, f, h5, h6, _, h7⟩ := qI_ h3 h4 h2
 refine ⟨h3, h4, by rw [h7]; exact qq_ h6 h3.1, ?_, f, ?_⟩
 ·rw [h7]
  have := yu_ f
  unfold zu_
  simp only [List.length_append]
  have := h3.2.2
  simp; omega
 ·have hs := xB_ f [] e.2.1 (by simpa using h5) (by unfold yz_; rw [decide_eq_true_eq]; exact h3.2) h3.2.1
  unfold yZ_
  rw [h7, hs]
  rfl
theorem rcall6_law {S : Nat -> Prop} {f : Rf} {w : World} (h : RfR S w f) (hS : ∀ k, S k -> k < w.heap.size) (o : zj_) (t : Nat) (ho : OpD S w f o t) (hk1 : o.k = 6) (hl : ∀ x ∈ f.Ts, x.P.length <= 900000) :
  Calls prog 78 #[.pointer (some ⟨f.p, 0, none⟩), .agg #[.int .i64 o.k, .int .i64 o.t, .int .i64 o.i, .slice o.ka o.kn o.kc, .slice o.ta o.tn o.tc, .int .i64 o.m, .slice o.ra o.rn o.rc]] w (z0_ S w f (yt_ f.j f.P o)) := by
 obtain ⟨hb, hbx⟩ := yo_ w #[.int .i64 o.k, .int .i64 o.t, .int .i64 o.i, .slice o.ka o.kn o.kc, .slice o.ta o.tn o.tc, .int .i64 o.m, .slice o.ra o.rn o.rc] #[.int .i64 0, .slice none 0 0] 74 81
 obtain ⟨w2, hw2⟩ := gty (((w.alloc (.cells #[.int .i64 o.k, .int .i64 o.t, .int .i64 o.i, .slice o.ka o.kn o.kc, .slice o.ta o.tn o.tc, .int .i64 o.m, .slice o.ra o.rn o.rc] 74)).alloc (.cells #[.int .i64 0, .slice none 0 0] 81)))
 rw [← hw2] at hb hbx
 have hok := ho.at'.now
 have hB1 : w.heap.size <= w.heap.size + 1 := Nat.le_succ _
 have hm2 := h.sp hb hB1
 have hbd : ∀ k, Sp S (w.heap.size + 1) k -> k < w2.heap.size := fun k hk => hk.elim (fun hk => Nat.lt_of_lt_of_le (hS k hk) hb.size) Xt17
 obtain ⟨q, hq1, hq2, hq3⟩ := qw_ hm2 t ho.tl o.K hok.kb o.ka o.kn o.kc hok.kl Xt26 (hok.ks.below hb)
 have HQ := hid (And.intro hq1 hq2)
 have HG := hid hq3
 have HH := hid (And.intro h (And.intro hS hl))
 have HO := hid ho
 have HB := hid (And.intro hb hbx)
 have HM2 := hid (And.intro hm2 hbd)
 have HST := hid (ho.at'.step (S' := Sp S (w.heap.size + 1)) (Off.of hb) (fun k hk => by
  rcases hk with hk | hk
  ·exact .inl hk
  ·exact .inr Xt0))
 have HTE := hid (show o.t.toNat = t by rw [ho.te]; simp)
 have b0 := (hbx w2 (Below.refl _ _)).1
 have c0 := b0.cell 0
 have c1 := b0.cell 1
 have c3 := b0.cell 3
 have c6 := b0.cell 6
 simp only [gtA, gtB, gtC] at c0 c1 c3 c6
 rw [ho.te] at c1
 rw [hk1] at c0
 have HK1 := hid hk1
 clear hk1 h hS ho hl hok hm2 hbd hq1 hq2 hq3 hb hbx b0
 go_enter func78, ntmps78
 go_upto_region 1 with (fail)
 rw [← hw2]
 clear hw2 hB1
 go_wp2_with fail
 clear c0 c1 c3 c6
 refine HG.out.mono ?_; rintro r w3 ⟨hr, hb3⟩
 have HB3 := hid hb3
 have hbx3 := HB.out.2 w3 hb3
 have HX3 := hid hbx3
 have c0 := hbx3.1.cell 0
 have c1 := hbx3.1.cell 1
 have c3 := hbx3.1.cell 3
 have c6 := hbx3.1.cell 6
 simp only [gtA, gtB, gtC] at c0 c1 c3 c6
 rw [HO.out.te] at c1
 rw [HK1.out] at c0
 have g0 := hbx3.2.cell 0
 have g1 := hbx3.2.cell 1
 have i0 := hbx3.2.frozen 0
 have i1 := hbx3.2.frozen 1
 simp only [gtA, gtB, gtC] at g0 g1
 clear hb3 hbx3
 obtain ⟨v0, rfl⟩ : ∃ v0, r = .returned (.tuple #[v0, .bool q.isSome]) := by
  exact Xb41
 clear hr HG HQ
 obtain ⟨x, hx⟩ : ∃ x, f.Ts[t]? = some x := ⟨_, List.getElem?_eq_getElem HO.out.tl⟩
 have hxm := List.mem_of_getElem? hx
 obtain ⟨w4, hw4⟩ := gty (w3.alloc (.cells #[.int .i64 0, .slice none 0 0] 81))
 have hb4 : Below w3.heap.size w3 w4 := by rw [hw4]; exact bl1 _ _
 have hx4 : zg_ w4 w3.heap.size #[.int .i64 0, .slice none 0 0] 81 := by rw [hw4]; exact zg_.new _ _ _
 have HB24 := hid (HB3.out.trans (hb4.mono HB3.out.size))
 have HBO := hid hx4
 have HM4 := hid (HM2.out.1.below HB24.out)
 obtain ⟨_, _, e0, hxc, hxs⟩ := HM4.out.tbs t x hx
 cases e0
 rw [Nat.zero_add] at hxc
 have HXT := hid (fun X (b : Below w4.heap.size w4 X) => (tcb b hxc))
 have HXX := hid (And.intro hx hxm)
 have HOP := hid (fun X (b : Below w4.heap.size w4 X) => ((HST.out.now).below HB24.out).below b)
 have HJB := hid (fun X (b : Below w4.heap.size w4 X) => (HM4.out.below b).job.now)
 have HX := hid (fun X (b : Below w4.heap.size w4 X) => (by
  have hm := (HM4.out.below b).box
  have hp := (HB.out.2 X (HB24.out.trans (b.mono HB24.out.size))).1
  rw [HK1.out] at hp
  refine ⟨⟨?_, ?_, ?_, ?_, ?_, ?_, ?_, ?_⟩, ?_, ?_, ?_, ?_, ?_, ?_, ?_⟩
  all_goals first | (rw [hm.cell]; rfl) | (rw [hp.cell]; rfl) : (X.cell? ⟨f.p, 0, none⟩ = some (.int .i64 f.j.w) /\ X.cell? ⟨f.p, 1, none⟩ = some (.int .i64 f.j.l) /\ X.cell? ⟨f.p, 2, none⟩ = some (.int .i64 f.j.d) /\ X.cell? ⟨f.p, 3, none⟩ = some (.int .i64 f.j.c) /\ X.cell? ⟨f.p, 4, none⟩ = some (.int .i64 f.j.k) /\ X.cell? ⟨f.p, 5, none⟩ = some (.int .i64 f.j.e) /\ X.cell? ⟨f.p, 6, none⟩ = some (.slice f.j.a f.j.n f.j.cap) /\ X.cell? ⟨f.p, 7, none⟩ = some (.slice (some ⟨f.b1, 0, none⟩) f.Ts.length f.tc)) /\ X.cell? ⟨w.heap.size, 0, none⟩ = some (.int .i64 6) /\ X.cell? ⟨w.heap.size, 1, none⟩ = some (.int .i64 o.t) /\ X.cell? ⟨w.heap.size, 2, none⟩ = some (.int .i64 o.i) /\ X.cell? ⟨w.heap.size, 3, none⟩ = some (.slice o.ka o.kn o.kc) /\ X.cell? ⟨w.heap.size, 4, none⟩ = some (.slice o.ta o.tn o.tc) /\ X.cell? ⟨w.heap.size, 5, none⟩ = some (.int .i64 o.m) /\ X.cell? ⟨w.heap.size, 6, none⟩ = some (.slice o.ra o.rn o.rc)))
 clear hx hxm hb4 hx4 hxc hxs g0 g1 i0 i1
 go_upto_region 21 with (fail)
 rw [← hw4]
 clear hw4 c0 c1 c3 c6
 go_cut [8] (fun v wx => ∃ (bx : Nat) (fa : Option Addr) (fc : Nat) (ta : Option Addr) (tc : Nat), v = .pointer (some ⟨bx, 0, none⟩) /\ Hid (Below w4.heap.size w4 wx) /\ Hid (zg_ wx bx #[.int .i64 (zD_ f.j o).1, .slice fa (zD_ f.j o).2.1.length fc, .slice ta (zD_ f.j o).2.2.1.length tc, .bool (zD_ f.j o).2.2.2.1] 169) /\ Hid (Ls .u8 wx fa fc (zD_ f.j o).2.1) /\ Hid (Ls .u8 wx ta tc (zD_ f.j o).2.2.1))
 case first =>
  exact Xb5
 case rest =>
 obtain ⟨bx, fa, fc, ta, tc, rfl, HB3c, HSP, HLF, HLU⟩ := hcut
 obtain ⟨n, hn⟩ := gtx (x.P.length)
 rw [hn] at HXT
 have HN := hid hn
 have hnl : n <= 900000 := by have := HH.out.2.2 x HXX.out.2; omega
 have hti : (t : Int) < (f.Ts.length : Int) := by have := HO.out.tl; omega
 have htl : (f.Ts.length : Int) <= 4 := by have := HM4.out.few; omega
 clear hn
 go_upto_region 22 with (fail)
 refine rgw wc (Below.refl _ _).drew fun hH => ?_
 refine tkq3 0 1 2 ?_
 refine tkr 3 rfl Xf35 ?_
 refine tkq 4 ?_
 refine tkr 5 rfl Xf34 ?_
 refine tkq 6 ?_
 refine tkr 7 rfl Xf42 ?_
 refine tkq 8 ?_
 refine adn ?_
 skip
 obtain ⟨wK, hwK⟩ := gty (wc.drew)
 rw [← hwK] at hH ⊢
 have HLK := hid hH
 have HBK := hid (za_ HB3c.out hH)
 clear hH hwK
 have h4k : kf o.k 4 = true := by rw [jE_, HK1.out]; rfl
 have h3 : kf o.k 3 = true := by rw [xe_, HK1.out]; rfl
 have h4 : kf o.k 4 = true := by rw [jE_, HK1.out]; rfl
 have hrg : zD_ f.j o = ((trV f.j o.t o.i).1, zk_ o.K, zk_ o.T, decide (0 < o.tn), 0) := by
  exact Xb93
 have hmo := jX_ HO.out.po h3
 have HMO := hid hmo
 rw [hrg] at HSP HLF HLU
 have hca := HO.out.at'.now
 have HFB := hid (And.intro (show Byt (zk_ o.K) from yL_ hca.kb) (show Byt (zk_ o.T) from yL_ hca.tb))
 obtain ⟨F, hF⟩ := gtx (zk_ o.K)
 obtain ⟨U, hU⟩ := gtx (zk_ o.T)
 obtain ⟨en, hen⟩ := gtx (decide (0 < o.tn))
 simp only [hF, hU, hen] at HSP HLF HLU HFB
 have HFE := hid (And.intro hF (And.intro hU hen))
 clear hF hU hen hrg h3 h4 hca hmo
 obtain ⟨ix, hix, hixl⟩ := pO_ix HO.out.po h4k
 rw [HTE.out] at hixl
 have HIX := hid (And.intro hix hixl)
 have hopk := (HB.out.2 wK (HB24.out.trans (HBK.out.mono HB24.out.size))).1
 rw [HK1.out] at hopk
 have o0 := hopk.cell 0
 have o1 := hopk.cell 1
 have o2 := hopk.cell 2
 simp only [gtA, gtB, gtC] at o0 o1 o2
 rw [HO.out.te] at o1
 rw [hix] at o2
 have hszk : ∀ k, (Sp S (w.heap.size + 1) k ∨ k = w3.heap.size) -> k < wK.heap.size := fun k hk => by
  have h1 := HBO.out.lt
  have h2 := HBK.out.size
  have h3 := HB24.out.size
  rcases hk with hk | hk
  ·have := HM2.out.2 k hk; omega
  ·omega
 have HIL := hid (js_ (S := fun k => Sp S (w.heap.size + 1) k) (HM4.out.below HBK.out) (fun k hk => hszk k (.inl hk)) t HO.out.tl ix hixl HH.out.2.2)
 have HAS := hid (show zs_ (fun k => Sp S (w.heap.size + 1) k ∨ k = w3.heap.size) wK (fun W => ∀ y ∈ f.Ts, zo_ W y.pa y.P) from fun W' o' y hy => by
  obtain ⟨iy, hiy⟩ := List.mem_iff_getElem?.1 hy
  obtain ⟨_, _, _, _, s⟩ := HM2.out.1.tbs iy y hiy
  exact (s.step (S' := fun k => Sp S (w.heap.size + 1) k ∨ k = w3.heap.size) (Off.of (HB24.out.trans (HBK.out.mono HB24.out.size))) (fun k hk => hk.imp id fun e => by have := HB3.out.size; omega)) W' o')
 have HSK0 := hid hszk
 clear hix hixl hopk hszk h4k
 go_wp2_with fail
 clear o0 o1 o2
 refine HIL.out.mono ?_; rintro r wL ⟨la, lc, L, rfl, hb7, hLm, hLl, _, hLs⟩
 have HLL := hid (za_ HLK.out hb7)
 have HBL := hid (za_ HBK.out hb7)
 obtain ⟨ln, hln⟩ := gtx (L.length)
 rw [hln] at hLl ⊢
 have HLN := hid hln
 have HLS0 := hid (hLs (fun k => Sp S (w.heap.size + 1) k ∨ k = w3.heap.size) HSK0.out HAS.out)
 have htok : tOk (f.P.getD t []) := by rw [HM4.out.getD HXX.out.1]; exact HM4.out.lim x HXX.out.2
 have HLM := hid hLm
 have hfc : ∀ a ∈ L, ∃ e ∈ yK_ f.j t (trV f.j t ix).1 (f.P.getD t []), e.1 = a.K /\ e.2.2 = a.R.map P1.bs := fun a ha => by
  have h1 : prC a ∈ idxP f.j t ix (f.P.getD t []) := by rw [← hLm]; exact List.mem_map.2 ⟨a, ha, rfl⟩
  unfold idxP at h1
  obtain ⟨e, he, e1⟩ := List.mem_map.1 h1
  exact ⟨e, he, congrArg Prod.fst e1, congrArg Prod.snd e1⟩
 have HLK2 := hid (show ∀ e ∈ yK_ f.j t (trV f.j t ix).1 (f.P.getD t []), zH_ e.2.1 /\ rOk e.2.2 /\ Byt e.1 /\ e.1.length <= 300000 /\ ∃ fl, yZ_ e.1 = (fl, e.2.1, 0) from fun e he => look_split htok he)
 have HFC := hid hfc
 have HLB := hid (show ∀ a ∈ L, Byt a.K from fun a ha => by
  obtain ⟨e, he, e1, _⟩ := hfc a ha
  rw [← e1]; exact (HLK2.out e he).2.2.1)
 have HSPL := hid (show ∀ a ∈ L, a.K.length <= 300000 /\ ∃ fl, yZ_ a.K = (fl, (outS a).1, 0) from fun a ha => by
  obtain ⟨e, he, e1, _⟩ := hfc a ha
  obtain ⟨_, _, _, h4, fl, h5⟩ := HLK2.out e he
  rw [e1] at h4 h5
  refine ⟨h4, fl, ?_⟩
  unfold outS
  rw [h5])
 have HOK := hid (show ∀ a ∈ L, zH_ (outS a).1 /\ rOk (outS a).2 from fun a ha => by
  obtain ⟨e, he, e1, e2⟩ := hfc a ha
  obtain ⟨h1, h2, _, _, fl, h5⟩ := HLK2.out e he
  rw [e1] at h5
  unfold outS
  rw [h5, ← e2]
  exact ⟨h1, h2⟩)
 have HWN := hid (show (qe_ PrV.K F U en o.m L []).map outS = (yO_ Prod.fst F U en o.m (yK_ f.j t (trV f.j t ix).1 (f.P.getD t [])) []).map Prod.snd by
  rw [← qJ_ (q0_ htok) (by have := HMO.out.1; simp; omega)]
  have e1 : (qe_ PrV.K F U en o.m L []).map prC = (qe_ Prod.fst F U en o.m (yK_ f.j t (trV f.j t ix).1 (f.P.getD t [])) []).map fun e => (e.1, e.2.2) := by
   rw [x7_ prC (k1 := PrV.K) (k2 := Prod.fst) F U en o.m L [] (fun e he => rfl), hLm]
   unfold idxP
   rw [x7_ (fun e : List Int × Pr => (e.1, e.2.2)) (k1 := Prod.fst) (k2 := Prod.fst) F U en o.m _ [] (fun e he => rfl)]
   rfl
  have e2 : ∀ l : List PrV, l.map outS = (l.map prC).map fun p => ((yZ_ p.1).2.1, p.2) := fun l => by rw [List.map_map]; rfl
  rw [e2, e1, List.map_map]
  refine List.map_congr_left fun e he => ?_
  have hm := (Qf_ Prod.fst F U en o.m _ [] e he).resolve_right Xt5
  obtain ⟨_, _, _, _, fl, h5⟩ := HLK2.out e hm
  show ((yZ_ e.1).2.1, e.2.2) = e.2
  rw [h5])
 have HCD := hid (show yt_ f.j f.P o = ((0, (yO_ Prod.fst F U en o.m (yK_ f.j t (trV f.j t ix).1 (f.P.getD t [])) []).map Prod.snd), f.P) by
  unfold yt_
  rw [if_neg Xt10, if_neg Xt10, if_neg Xt10, if_neg Xt10, if_neg Xt10, HTE.out, HO.out.te, HIX.out.1, HFE.out.1, HFE.out.2.1, HFE.out.2.2])
 clear hLm hb7 hLs hln htok hfc
 have HBD := hid (show w3.heap.size < wL.heap.size by have := HBO.out.lt; have := HBL.out.size; omega)
 have HLS := hid (show zs_ (fun k => Sp S (w.heap.size + 1) k ∨ k = w3.heap.size) wL (fun W => zo_ W la L) from HLS0.out)
 have HXL := hid (fun X (o9 : Off (fun k => k = w3.heap.size) wL X) => (by
  have hop := HB.out.2 wL (HB24.out.trans (HBL.out.mono HB24.out.size))
  have h1 := o9.box hop.1 Xt43
  rw [HK1.out] at h1
  have hsp := HSP.out.below HLL.out
  have h2 := o9.box hsp (fun e => zp_ hsp (HBO.out.below HBL.out) Xt4 e)
  refine ⟨by rw [h1.cell]; rfl, by rw [h1.cell]; rfl, by rw [h1.cell]; rfl, by rw [h2.cell]; rfl, by rw [h2.cell]; rfl, by rw [h2.cell]; rfl⟩ : X.cell? ⟨w.heap.size, 0, none⟩ = some (.int .i64 6) /\ X.cell? ⟨w.heap.size, 5, none⟩ = some (.int .i64 o.m) /\ X.cell? ⟨w.heap.size, 1, none⟩ = some (.int .i64 o.t) /\ X.cell? ⟨bx, 1, none⟩ = some (.slice fa F.length fc) /\ X.cell? ⟨bx, 2, none⟩ = some (.slice ta U.length tc) /\ X.cell? ⟨bx, 3, none⟩ = some (.bool en)))
 have HFX := hid (fun X (o9 : Off (fun k => k = w3.heap.size) wL X) => (⟨qH_ (HLF.out.below HLL.out) (HBO.out.below HBL.out) o9, qH_ (HLU.out.below HLL.out) (HBO.out.below HBL.out) o9⟩ : Ls .u8 X fa fc F /\ Ls .u8 X ta tc U))
 have hlni : (ln : Int) <= 1000000 := by omega
 obtain ⟨o0, _⟩ := HXL.out wL (Off.refl _ _)
 go_wp2_with fail
 clear o0
 go_loopw [11] (fun j wr => ∃ (k gn : Nat) (A G : List PrV) (oa : Option Addr) (oc : Nat), k <= ln /\ j = .int .i64 (k : Int) /\ gn <= k /\ Hid (G.length = gn /\ A.length = gn) /\ Hid (qe_ PrV.K F U en o.m (L.drop k) A = qe_ PrV.K F U en o.m L []) /\ Hid (G.map prC = A.map outS) /\ Hid (∀ a ∈ A, a ∈ L) /\ Hid (zg_ wr w3.heap.size #[.int .i64 0, .slice oa gn oc] 81) /\ Hid (wr.ownsRow wL.heap.size 78 2 (.slice oa gn oc) gn (zi_ G)) /\ Hid (∀ g ∈ G, zs_ (fun k => (Sp S (w.heap.size + 1) k ∨ k = w3.heap.size) ∨ Value.ownBlock (.slice oa gn oc) = some k) wr (fun W => Ls .u8 W g.ka g.kc g.K /\ RdR W g.ra g.R)) /\ Hid (Off (fun k => k = w3.heap.size) wL wr)) (fun j _ => ln - (intOf j).toNat)
 case atStart => exact ⟨0, 0, [], [], none, 0, by omega, rfl, by omega, hid ⟨rfl, rfl⟩, hid (by rw [List.drop_zero]), hid rfl, hid (fun a ha => by cases ha), hid (HBO.out.below HBL.out), hid (World.ownsRow_nil _ _ _ _), hid Xt56, hid (Off.refl _ _)⟩
 case round =>
  obtain ⟨k, gn, A, G, oa, oc, hk, rfl, hgk, HGL, HDG, HGM, HAL, HBX, HOW, HGS, HOF⟩ := hrel
  obtain ⟨o0, o5, _, s1, s2, s3⟩ := HXL.out wr HOF.out
  have g1 := HBX.out.cell 1
  simp only [gtA, gtB, gtC] at g1
  by_cases hlt : k < ln
  ·have d1 : (k : Int) < (ln : Int) := by omega
   by_cases hm : (gn : Int) < o.m
   ·have HMM := hid hm
    obtain ⟨a, ha⟩ : ∃ a, L[k]? = some a := ⟨_, List.getElem?_eq_getElem Xt74⟩
    have ham := List.mem_of_getElem? ha
    have HA1 := hid ha
    have HAM := hid ham
    have hlr := HLS.out wr (HOF.out.mono fun k hk => .inr hk)
    obtain ⟨lb, lo, elb, p0, p1, hal, har⟩ := hlr k a ha
    have HELB := hid elb
    obtain ⟨akn, hakn⟩ := gtx (a.K.length)
    rw [hakn] at p0
    have HAK := hid hakn
    have HPA := hid (fun W (b : Below wr.heap.size wr W) => (tcb b p0))
    have HPB := hid (fun W (b : Below wr.heap.size wr W) => (tcb b p1))
    have HCA := hid (fun W (b : Below wr.heap.size wr W) => zA_ W a.ka akn a.kc a.K hakn (hal.below b).rd)
    have HKR := hid (And.intro hal har)
    rw [elb]
    clear ha ham hlr hal har hakn p0 p1 elb
    go_upto_region 28 with (fail)
    clear o0 o5 s1 s2 s3 g1
    cases hc1 : ltL a.K F with
    | true =>
     exact Xb13
    | false =>
     have HC1 := hid (show Op.bytesLess (strOfNums a.K).toList (strOfNums F).toList = false by rw [yi_ (HLB.out a HAM.out) HFB.out.1]; exact hc1)
     have HCF := hid hc1
     clear hc1
     rcases Bool.eq_false_or_eq_true en with he | he
     ·have HEN := hid he
      clear he
      obtain ⟨cu, hcu⟩ := gtx (ltL a.K U)
      have HC2 := hid (show Op.bytesLess (strOfNums a.K).toList (strOfNums U).toList = cu by rw [yi_ (HLB.out a HAM.out) HFB.out.2]; exact hcu)
      have HCU := hid hcu
      clear hcu
      refine rgw wr (Below.refl _ _).drew fun hH => ?_
      refine tkq4 0 1 2 3 ?_
      refine tkr 4 rfl Xf14 ?_
      refine tkr 5 rfl Xf11 ?_
      refine tkq 6 ?_
      refine tkr 7 rfl Xf9 ?_
      refine tkr 8 rfl Xf6 ?_
      refine tkp 9 (.bool false) rfl (.inl ⟨by rfl, ?_⟩) ?_
      ·exact Xb54
      refine tkq2 10 11 ?_
      refine tkr 12 rfl Xf13 ?_
      refine tkq4 13 14 15 16 ?_
      refine tkq 17 ?_
      refine tkr 18 rfl Xf14 ?_
      refine tkr 19 rfl Xf11 ?_
      refine tkq 20 ?_
      refine tkr 21 rfl Xf38 ?_
      refine tkr 22 rfl Xf33 ?_
      refine tkp 23 (.bool (!cu)) rfl (.inl ⟨by rfl, ?_⟩) ?_
      ·intro W hSw; go_simp; try (first | exact HC2.out | (simp [HC2.out]; done))
      refine tkq2 24 25 ?_
      refine adn ?_
      skip
      obtain ⟨w9, hw9⟩ := gty (wr.drew)
      try rw [← hw9] at hH ⊢
      have HB9 := hid (show Below wr.heap.size wr w9 from hH)
      clear hH hw9
      cases cu with
      | false =>
       have HSK := hid (show (ltL a.K F || (en && !ltL a.K U)) = true by rw [HEN.out, HCU.out, Bool.or_eq_true]; exact .inr rfl)
       exact Xb19
      | true =>
       have HSK := hid (show (ltL a.K F || (en && !ltL a.K U)) = false by rw [HEN.out, HCU.out, HCF.out]; rfl)
       exact Xb0
     ·have HEN := hid he
      clear he
      have HSK := hid (show (ltL a.K F || (en && !ltL a.K U)) = false by rw [HEN.out, HCF.out]; rfl)
      refine rgw wr (Below.refl _ _).drew fun hH => ?_
      refine tkq4 0 1 2 3 ?_
      refine tkr 4 rfl Xf14 ?_
      refine tkr 5 rfl Xf11 ?_
      refine tkq 6 ?_
      refine tkr 7 rfl Xf9 ?_
      refine tkr 8 rfl Xf6 ?_
      refine tkp 9 (.bool false) rfl (.inl ⟨by rfl, ?_⟩) ?_
      ·exact Xb54
      refine tkq2 10 11 ?_
      refine tkr 12 rfl Xf13 ?_
      refine tkq 13 ?_
      refine tkn 14 ?_
      refine tkn 15 ?_
      refine tkn 16 ?_
      refine tkn 17 ?_
      refine tkn 18 ?_
      refine tkn 19 ?_
      refine tkn 20 ?_
      refine tkn 21 ?_
      refine tkn 22 ?_
      refine tkn 23 ?_
      refine tkq2 24 25 ?_
      refine adn ?_
      skip
      obtain ⟨w9, hw9⟩ := gty (wr.drew)
      try rw [← hw9] at hH ⊢
      have HB9 := hid (show Below wr.heap.size wr w9 from hH)
      clear hH hw9
      exact Xb0
   ·have HFN := hid (show qe_ PrV.K F U en o.m L [] = A by rw [← HDG.out]; exact Q2_ (by rw [HGL.out.2]; exact hm))
    exact Xb8
  ·have d1 : ¬ (k : Int) < (ln : Int) := by omega
   have HFN := hid (show qe_ PrV.K F U en o.m L [] = A by rw [← HDG.out, List.drop_of_length_le (by rw [HLN.out]; omega)]; rfl)
   exact Xb8
end Go.Proofs.YthmofoldmdafoaaGreat
