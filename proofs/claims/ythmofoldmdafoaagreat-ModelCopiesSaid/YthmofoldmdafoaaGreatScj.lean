/- Part of the proof that ModelCopies holds for every input: a copy goes on apart; two models are the same just if tables and rows are. Part 10. -/
import Derived.Test.YthmofoldmdafoaaGreatSci
set_option linter.unusedVariables false
set_option linter.unusedSimpArgs false
set_option maxRecDepth 100000
set_option maxHeartbeats 4000000
namespace Go.Proofs.YthmofoldmdafoaaGreat
open Go.ChangeShapes Go.WideShapes Go.ChangeAt Go.RowKit
open Go.Lib (hid)
open Go.Proofs.Tryz
theorem qF_ {W X : World} {B : Nat} {a : Option Addr} {c : Nat} {L : List Int} {x : Option Addr} {n m : Nat} (h : Ls .u8 W a c L) (hb : zg_ W B #[.int .i64 0, .slice x n m] 81) (o : Off (fun k => k = B) W X) : Ls .u8 X a c L := ⟨fun k hk => by
 obtain ⟨b, off, e, c0⟩ := h.rd k hk
 refine ⟨b, off, e, jy_ o c0 fun e2 => ?_⟩
 have e2 : b = B := e2
 subst e2
 rw [hb.cell] at c0
 match off + k, c0 with
 | 0, c0 => cases c0
 | 1, c0 => cases c0
 | i + 2, c0 => simp at c0, h.nl, h.le⟩
theorem qb_ {f u : List Int} {en : Bool} {m : Int} {L acc : List PrV} {k : Nat} {e : PrV} (h : L[k]? = some e) (hm : (acc.length : Int) < m) (hs : (ltL e.K f || (en && !ltL e.K u)) = true) : qh_ PrV.K f u en m (L.drop k) acc = qh_ PrV.K f u en m (L.drop (k + 1)) acc := by
 rw [z0_ h]
 show (if _ then (if _ then _ else _) else _) = _
 rw [if_pos hm, if_pos hs]
theorem qa_ {f u : List Int} {en : Bool} {m : Int} {L acc : List PrV} {k : Nat} {e : PrV} (h : L[k]? = some e) (hm : (acc.length : Int) < m) (hs : (ltL e.K f || (en && !ltL e.K u)) = false) : qh_ PrV.K f u en m (L.drop k) acc = qh_ PrV.K f u en m (L.drop (k + 1)) (acc ++ [e]) := by
 rw [z0_ h]
 show (if _ then (if _ then _ else _) else _) = _
 rw [if_pos hm, if_neg (by rw [hs]; simp)]
theorem Q4_ {f u : List Int} {en : Bool} {m : Int} : ∀ {l acc : List PrV}, ¬ (acc.length : Int) < m -> qh_ PrV.K f u en m l acc = acc
 | [], acc, _ => rfl
 | e :: r, acc, h => by
  show (if _ then (if _ then _ else _) else _) = _
  rw [if_neg h]
def outS (a : PrV) : Pr := ((y2_ a.K).2.1, a.R.map P1.bs)
theorem rcall5_law {S : Nat -> Prop} {f : Rf} {w : World} (h : RfR S w f) (hS : ∀ k, S k -> k < w.heap.size) (o : zj_) (t : Nat) (ho : OpD S w f o t) (hk1 : o.k = 5) (hl : ∀ x ∈ f.Ts, x.P.length <= 900000) :
  Calls prog 78 #[.pointer (some ⟨f.p, 0, none⟩), .agg #[.int .i64 o.k, .int .i64 o.t, .int .i64 o.i, .slice o.ka o.kn o.kc, .slice o.ta o.tn o.tc, .int .i64 o.m, .slice o.ra o.rn o.rc]] w (z5_ S w f (yw_ f.j f.P o)) := by
 obtain ⟨hb, hbx⟩ := yr_ w #[.int .i64 o.k, .int .i64 o.t, .int .i64 o.i, .slice o.ka o.kn o.kc, .slice o.ta o.tn o.tc, .int .i64 o.m, .slice o.ra o.rn o.rc] #[.int .i64 0, .slice none 0 0] 74 81
 obtain ⟨w2, hw2⟩ := gty (((w.alloc (.cells #[.int .i64 o.k, .int .i64 o.t, .int .i64 o.i, .slice o.ka o.kn o.kc, .slice o.ta o.tn o.tc, .int .i64 o.m, .slice o.ra o.rn o.rc] 74)).alloc (.cells #[.int .i64 0, .slice none 0 0] 81)))
 rw [← hw2] at hb hbx
 have hok := ho.at'.now
 have hB1 : w.heap.size <= w.heap.size + 1 := Nat.le_succ _
 have hm2 := h.sp hb hB1
 have hbd : ∀ k, Sp S (w.heap.size + 1) k -> k < w2.heap.size := fun k hk => hk.elim (fun hk => Nat.lt_of_lt_of_le (hS k hk) hb.size) Xt17
 obtain ⟨q, hq1, hq2, hq3⟩ := qT_ hm2 t ho.tl o.K hok.kb o.ka o.kn o.kc hok.kl Xt27 (hok.ks.below hb)
 have HQ := hid (And.intro hq1 hq2)
 have HG := hid hq3
 have HH := hid (And.intro h (And.intro hS hl))
 have HO := hid ho
 have HB := hid (And.intro hb hbx)
 have HM2 := hid (And.intro hm2 hbd)
 have HST := hid (ho.at'.step (S' := Sp S (w.heap.size + 1)) (Off.of hb) (fun k hk => by
  rcases hk with hk | hk
  ·exact .inl hk
  ·exact .inr Xt0))
 have HTE := hid (show o.t.toNat = t by rw [ho.te]; simp)
 have b0 := (hbx w2 (Below.refl _ _)).1
 have c0 := b0.cell 0
 have c1 := b0.cell 1
 have c3 := b0.cell 3
 have c6 := b0.cell 6
 simp only [gtA, gtB, gtC] at c0 c1 c3 c6
 rw [ho.te] at c1
 rw [hk1] at c0
 have HK1 := hid hk1
 clear hk1 h hS ho hl hok hm2 hbd hq1 hq2 hq3 hb hbx b0
 go_enter func78, ntmps78
 go_upto_region 1 with (fail)
 rw [← hw2]
 clear hw2 hB1
 go_wp2_with fail
 clear c0 c1 c3 c6
 refine HG.out.mono ?_; rintro r w3 ⟨hr, hb3⟩
 have HB3 := hid hb3
 have hbx3 := HB.out.2 w3 hb3
 have HX3 := hid hbx3
 have c0 := hbx3.1.cell 0
 have c1 := hbx3.1.cell 1
 have c3 := hbx3.1.cell 3
 have c6 := hbx3.1.cell 6
 simp only [gtA, gtB, gtC] at c0 c1 c3 c6
 rw [HO.out.te] at c1
 rw [HK1.out] at c0
 have g0 := hbx3.2.cell 0
 have g1 := hbx3.2.cell 1
 have i0 := hbx3.2.frozen 0
 have i1 := hbx3.2.frozen 1
 simp only [gtA, gtB, gtC] at g0 g1
 clear hb3 hbx3
 obtain ⟨v0, rfl⟩ : ∃ v0, r = .returned (.tuple #[v0, .bool q.isSome]) := by
  exact Xb38
 clear hr HG HQ
 obtain ⟨x, hx⟩ : ∃ x, f.Ts[t]? = some x := ⟨_, List.getElem?_eq_getElem HO.out.tl⟩
 have hxm := List.mem_of_getElem? hx
 obtain ⟨w4, hw4⟩ := gty (w3.alloc (.cells #[.int .i64 0, .slice none 0 0] 81))
 have hb4 : Below w3.heap.size w3 w4 := by rw [hw4]; exact bl1 _ _
 have hx4 : zg_ w4 w3.heap.size #[.int .i64 0, .slice none 0 0] 81 := by rw [hw4]; exact zg_.new _ _ _
 have HB24 := hid (HB3.out.trans (hb4.mono HB3.out.size))
 have HBO := hid hx4
 have HM4 := hid (HM2.out.1.below HB24.out)
 obtain ⟨_, _, e0, hxc, hxs⟩ := HM4.out.tbs t x hx
 cases e0
 rw [Nat.zero_add] at hxc
 have HXT := hid (fun X (b : Below w4.heap.size w4 X) => (tcb b hxc))
 have HXX := hid (And.intro hx hxm)
 have HOP := hid (fun X (b : Below w4.heap.size w4 X) => ((HST.out.now).below HB24.out).below b)
 have HJB := hid (fun X (b : Below w4.heap.size w4 X) => (HM4.out.below b).job.now)
 have HX := hid (fun X (b : Below w4.heap.size w4 X) => (by
  have hm := (HM4.out.below b).box
  have hp := (HB.out.2 X (HB24.out.trans (b.mono HB24.out.size))).1
  rw [HK1.out] at hp
  refine ⟨⟨?_, ?_, ?_, ?_, ?_, ?_, ?_, ?_⟩, ?_, ?_, ?_, ?_, ?_, ?_, ?_⟩
  all_goals first | (rw [hm.cell]; rfl) | (rw [hp.cell]; rfl) : (X.cell? ⟨f.p, 0, none⟩ = some (.int .i64 f.j.w) /\ X.cell? ⟨f.p, 1, none⟩ = some (.int .i64 f.j.l) /\ X.cell? ⟨f.p, 2, none⟩ = some (.int .i64 f.j.d) /\ X.cell? ⟨f.p, 3, none⟩ = some (.int .i64 f.j.c) /\ X.cell? ⟨f.p, 4, none⟩ = some (.int .i64 f.j.k) /\ X.cell? ⟨f.p, 5, none⟩ = some (.int .i64 f.j.e) /\ X.cell? ⟨f.p, 6, none⟩ = some (.slice f.j.a f.j.n f.j.cap) /\ X.cell? ⟨f.p, 7, none⟩ = some (.slice (some ⟨f.b1, 0, none⟩) f.Ts.length f.tc)) /\ X.cell? ⟨w.heap.size, 0, none⟩ = some (.int .i64 5) /\ X.cell? ⟨w.heap.size, 1, none⟩ = some (.int .i64 o.t) /\ X.cell? ⟨w.heap.size, 2, none⟩ = some (.int .i64 o.i) /\ X.cell? ⟨w.heap.size, 3, none⟩ = some (.slice o.ka o.kn o.kc) /\ X.cell? ⟨w.heap.size, 4, none⟩ = some (.slice o.ta o.tn o.tc) /\ X.cell? ⟨w.heap.size, 5, none⟩ = some (.int .i64 o.m) /\ X.cell? ⟨w.heap.size, 6, none⟩ = some (.slice o.ra o.rn o.rc)))
 clear hx hxm hb4 hx4 hxc hxs g0 g1 i0 i1
 go_upto_region 21 with (fail)
 rw [← hw4]
 clear hw4 c0 c1 c3 c6
 go_cut [8] (fun v wx => ∃ (bx : Nat) (fa : Option Addr) (fc : Nat) (ta : Option Addr) (tc : Nat), v = .pointer (some ⟨bx, 0, none⟩) /\ Hid (Below w4.heap.size w4 wx) /\ Hid (zg_ wx bx #[.int .i64 (zE_ f.j o).1, .slice fa (zE_ f.j o).2.1.length fc, .slice ta (zE_ f.j o).2.2.1.length tc, .bool (zE_ f.j o).2.2.2.1] 169) /\ Hid (Ls .u8 wx fa fc (zE_ f.j o).2.1) /\ Hid (Ls .u8 wx ta tc (zE_ f.j o).2.2.1))
 case first =>
  exact Xb4
 case rest =>
 obtain ⟨bx, fa, fc, ta, tc, rfl, HB3c, HSP, HLF, HLU⟩ := hcut
 obtain ⟨n, hn⟩ := gtx (x.P.length)
 rw [hn] at HXT
 have HN := hid hn
 have hnl : n <= 900000 := by have := HH.out.2.2 x HXX.out.2; omega
 have hti : (t : Int) < (f.Ts.length : Int) := by have := HO.out.tl; omega
 have htl : (f.Ts.length : Int) <= 4 := by have := HM4.out.few; omega
 clear hn
 go_upto_region 22 with (fail)
 refine rgw wc (Below.refl _ _).drew fun hH => ?_
 refine tkq3 0 1 2 ?_
 refine tkr 3 rfl Xf35 ?_
 refine tkq 4 ?_
 refine tkr 5 rfl Xf34 ?_
 refine tkq 6 ?_
 refine tkr 7 rfl Xf44 ?_
 refine tkq 8 ?_
 refine adn ?_
 skip
 obtain ⟨wL, hwL⟩ := gty (wc.drew)
 rw [← hwL] at hH ⊢
 have HLL := hid hH
 have HBL := hid (za_ HB3c.out hH)
 clear hH hwL
 have h3 : kf o.k 3 = true := by rw [xi_, HK1.out]; rfl
 have h4 : kf o.k 4 = false := by rw [jE_, HK1.out]; rfl
 have hrg : zE_ f.j o = ((trV f.j o.t (-1)).1, o.K, o.T, decide (0 < o.tn), 0) := by
  exact Xb94
 have hmo := jZ_ HO.out.po h3
 have HMO := hid hmo
 rw [hrg] at HSP HLF HLU
 have hca := HO.out.at'.now
 have HFB := hid (And.intro (show Byt (o.K) from hca.kb) (show Byt (o.T) from hca.tb))
 obtain ⟨F, hF⟩ := gtx (o.K)
 obtain ⟨U, hU⟩ := gtx (o.T)
 obtain ⟨en, hen⟩ := gtx (decide (0 < o.tn))
 simp only [hF, hU, hen] at HSP HLF HLU HFB
 have HFE := hid (And.intro hF (And.intro hU hen))
 clear hF hU hen hrg h3 h4 hca hmo
 obtain ⟨la, hla⟩ := gtx (x.pa)
 obtain ⟨lc, hlc⟩ := gtx (x.pc)
 obtain ⟨L, hL⟩ := gtx (x.P)
 obtain ⟨ln, hln⟩ := gtx (n)
 rw [hla, hlc, hln]
 rw [hln] at hnl
 have HLN := hid (show L.length = ln by rw [← hL, HN.out, hln])
 have HLE := hid (And.intro hla (And.intro hlc hL))
 have HLB := hid (show ∀ a ∈ L, Byt a.K from fun a ha => (HM4.out.pair HXX.out.2 (hL ▸ ha)).1.1)
 have HOK := hid (show ∀ a ∈ L, zH_ (prC a).1 /\ rOk (prC a).2 from fun a ha => HM4.out.pair HXX.out.2 (hL ▸ ha))
 have HWN := hid (show (qh_ PrV.K F U en o.m L []).map prC = yP_ Prod.fst F U en o.m (f.P.getD t []) [] by
  rw [qc_ prC (k1 := PrV.K) (k2 := Prod.fst) F U en o.m L [] (fun e he => rfl), HM4.out.getD HXX.out.1]
  unfold tbC
  rw [hL]
  refine qH_ ?_ (by have := HMO.out.1; simp; omega)
  have := (HM4.out.lim x HXX.out.2).1
  unfold tbC at this
  rw [hL] at this
  exact this)
 have HCD := hid (show yw_ f.j f.P o = ((0, yP_ Prod.fst F U en o.m (f.P.getD t []) []), f.P) by
  unfold yw_
  rw [if_neg Xt11, if_neg Xt11, if_neg Xt11, if_neg Xt11, if_pos HK1.out, HTE.out, HFE.out.1, HFE.out.2.1, HFE.out.2.2])
 clear hla hlc hL hln
 have HBD := hid (show w3.heap.size < wL.heap.size by have := HBO.out.lt; have := HBL.out.size; omega)
 have HLS := hid (show zs_ (fun k => Sp S (w.heap.size + 1) k ∨ k = w3.heap.size) wL (fun W => zp_ W la L) from by
  obtain ⟨_, _, _, _, s⟩ := HM2.out.1.tbs t x HXX.out.1
  rw [HLE.out.1, HLE.out.2.2] at s
  exact s.step (Off.of (HB24.out.trans (HBL.out.mono HB24.out.size))) (fun k hk => hk.imp id fun e => by have := HB3.out.size; omega))
 have HXL := hid (fun X (o9 : Off (fun k => k = w3.heap.size) wL X) => (by
  have hop := HB.out.2 wL (HB24.out.trans (HBL.out.mono HB24.out.size))
  have h1 := o9.box hop.1 Xt44
  rw [HK1.out] at h1
  have hsp := HSP.out.below HLL.out
  have h2 := o9.box hsp (fun e => zo_ hsp (HBO.out.below HBL.out) Xt4 e)
  refine ⟨by rw [h1.cell]; rfl, by rw [h1.cell]; rfl, by rw [h1.cell]; rfl, by rw [h2.cell]; rfl, by rw [h2.cell]; rfl, by rw [h2.cell]; rfl⟩ : X.cell? ⟨w.heap.size, 0, none⟩ = some (.int .i64 5) /\ X.cell? ⟨w.heap.size, 5, none⟩ = some (.int .i64 o.m) /\ X.cell? ⟨w.heap.size, 1, none⟩ = some (.int .i64 o.t) /\ X.cell? ⟨bx, 1, none⟩ = some (.slice fa F.length fc) /\ X.cell? ⟨bx, 2, none⟩ = some (.slice ta U.length tc) /\ X.cell? ⟨bx, 3, none⟩ = some (.bool en)))
 have HFX := hid (fun X (o9 : Off (fun k => k = w3.heap.size) wL X) => (⟨qF_ (HLF.out.below HLL.out) (HBO.out.below HBL.out) o9, qF_ (HLU.out.below HLL.out) (HBO.out.below HBL.out) o9⟩ : Ls .u8 X fa fc F /\ Ls .u8 X ta tc U))
 have hlni : (ln : Int) <= 1000000 := by omega
 obtain ⟨o0, _⟩ := HXL.out wL (Off.refl _ _)
 go_wp2_with fail
 clear o0
 go_loopw [11] (fun j wr => ∃ (k gn : Nat) (A G : List PrV) (oa : Option Addr) (oc : Nat), k <= ln /\ j = .int .i64 (k : Int) /\ gn <= k /\ Hid (G.length = gn /\ A.length = gn) /\ Hid (qh_ PrV.K F U en o.m (L.drop k) A = qh_ PrV.K F U en o.m L []) /\ Hid (G.map prC = A.map prC) /\ Hid (∀ a ∈ A, a ∈ L) /\ Hid (zg_ wr w3.heap.size #[.int .i64 0, .slice oa gn oc] 81) /\ Hid (wr.ownsRow wL.heap.size 78 2 (.slice oa gn oc) gn (zi_ G)) /\ Hid (∀ g ∈ G, zs_ (fun k => (Sp S (w.heap.size + 1) k ∨ k = w3.heap.size) ∨ Value.ownBlock (.slice oa gn oc) = some k) wr (fun W => Ls .u8 W g.ka g.kc g.K /\ RdR W g.ra g.R)) /\ Hid (Off (fun k => k = w3.heap.size) wL wr)) (fun j _ => ln - (intOf j).toNat)
 case atStart => exact ⟨0, 0, [], [], none, 0, by omega, rfl, by omega, hid ⟨rfl, rfl⟩, hid (by rw [List.drop_zero]), hid rfl, hid (fun a ha => by cases ha), hid (HBO.out.below HBL.out), hid (World.ownsRow_nil _ _ _ _), hid Xt57, hid (Off.refl _ _)⟩
 case round =>
  obtain ⟨k, gn, A, G, oa, oc, hk, rfl, hgk, HGL, HDG, HGM, HAL, HBX, HOW, HGS, HOF⟩ := hrel
  obtain ⟨o0, o5, _, s1, s2, s3⟩ := HXL.out wr HOF.out
  have g1 := HBX.out.cell 1
  simp only [gtA, gtB, gtC] at g1
  by_cases hlt : k < ln
  ·have d1 : (k : Int) < (ln : Int) := by omega
   by_cases hm : (gn : Int) < o.m
   ·have HMM := hid hm
    obtain ⟨a, ha⟩ : ∃ a, L[k]? = some a := ⟨_, List.getElem?_eq_getElem Xt77⟩
    have ham := List.mem_of_getElem? ha
    have HA1 := hid ha
    have HAM := hid ham
    have hlr := HLS.out wr (HOF.out.mono fun k hk => .inr hk)
    obtain ⟨lb, lo, elb, p0, p1, hal, har⟩ := hlr k a ha
    have HELB := hid elb
    obtain ⟨akn, hakn⟩ := gtx (a.K.length)
    rw [hakn] at p0
    have HAK := hid hakn
    have HPA := hid (fun W (b : Below wr.heap.size wr W) => (tcb b p0))
    have HPB := hid (fun W (b : Below wr.heap.size wr W) => (tcb b p1))
    have HCA := hid (fun W (b : Below wr.heap.size wr W) => zA_ W a.ka akn a.kc a.K hakn (hal.below b).rd)
    have HKR := hid (And.intro hal har)
    rw [elb]
    clear ha ham hlr hal har hakn p0 p1 elb
    go_upto_region 28 with (fail)
    clear o0 o5 s1 s2 s3 g1
    cases hc1 : ltL a.K F with
    | true =>
     exact Xb10
    | false =>
     have HC1 := hid (show Op.bytesLess (strOfNums a.K).toList (strOfNums F).toList = false by rw [yk_ (HLB.out a HAM.out) HFB.out.1]; exact hc1)
     have HCF := hid hc1
     clear hc1
     rcases Bool.eq_false_or_eq_true en with he | he
     ·have HEN := hid he
      clear he
      obtain ⟨cu, hcu⟩ := gtx (ltL a.K U)
      have HC2 := hid (show Op.bytesLess (strOfNums a.K).toList (strOfNums U).toList = cu by rw [yk_ (HLB.out a HAM.out) HFB.out.2]; exact hcu)
      have HCU := hid hcu
      clear hcu
      refine rgw wr (Below.refl _ _).drew fun hH => ?_
      refine tkq4 0 1 2 3 ?_
      refine tkr 4 rfl Xf14 ?_
      refine tkr 5 rfl Xf11 ?_
      refine tkq 6 ?_
      refine tkr 7 rfl Xf8 ?_
      refine tkr 8 rfl Xf5 ?_
      refine tkp 9 (.bool false) rfl (.inl ⟨by rfl, ?_⟩) ?_
      ·exact Xb50
      refine tkq2 10 11 ?_
      refine tkr 12 rfl Xf13 ?_
      refine tkq4 13 14 15 16 ?_
      refine tkq 17 ?_
      refine tkr 18 rfl Xf14 ?_
      refine tkr 19 rfl Xf11 ?_
      refine tkq 20 ?_
      refine tkr 21 rfl Xf38 ?_
      refine tkr 22 rfl Xf33 ?_
      refine tkp 23 (.bool (!cu)) rfl (.inl ⟨by rfl, ?_⟩) ?_
      ·intro W hSw; go_simp; try (first | exact HC2.out | (simp [HC2.out]; done))
      refine tkq2 24 25 ?_
      refine adn ?_
      skip
      obtain ⟨w9, hw9⟩ := gty (wr.drew)
      try rw [← hw9] at hH ⊢
      have HB9 := hid (show Below wr.heap.size wr w9 from hH)
      clear hH hw9
      cases cu with
      | false =>
       have HSK := hid (show (ltL a.K F || (en && !ltL a.K U)) = true by rw [HEN.out, HCU.out, Bool.or_eq_true]; exact .inr rfl)
       exact Xb16
      | true =>
       have HSK := hid (show (ltL a.K F || (en && !ltL a.K U)) = false by rw [HEN.out, HCU.out, HCF.out]; rfl)
       exact Xb2
     ·have HEN := hid he
      clear he
      have HSK := hid (show (ltL a.K F || (en && !ltL a.K U)) = false by rw [HEN.out, HCF.out]; rfl)
      refine rgw wr (Below.refl _ _).drew fun hH => ?_
      refine tkq4 0 1 2 3 ?_
      refine tkr 4 rfl Xf14 ?_
      refine tkr 5 rfl Xf11 ?_
      refine tkq 6 ?_
      refine tkr 7 rfl Xf8 ?_
      refine tkr 8 rfl Xf5 ?_
      refine tkp 9 (.bool false) rfl (.inl ⟨by rfl, ?_⟩) ?_
      ·exact Xb50
      refine tkq2 10 11 ?_
      refine tkr 12 rfl Xf13 ?_
      refine tkq 13 ?_
      refine tkn 14 ?_
      refine tkn 15 ?_
      refine tkn 16 ?_
      refine tkn 17 ?_
      refine tkn 18 ?_
      refine tkn 19 ?_
      refine tkn 20 ?_
      refine tkn 21 ?_
      refine tkn 22 ?_
      refine tkn 23 ?_
      refine tkq2 24 25 ?_
      refine adn ?_
      skip
      obtain ⟨w9, hw9⟩ := gty (wr.drew)
      try rw [← hw9] at hH ⊢
      have HB9 := hid (show Below wr.heap.size wr w9 from hH)
      clear hH hw9
      exact Xb2
   ·have HFN := hid (show qh_ PrV.K F U en o.m L [] = A by rw [← HDG.out]; exact Q4_ (by rw [HGL.out.2]; exact hm))
    exact Xb8
  ·have d1 : ¬ (k : Int) < (ln : Int) := by omega
   have HFN := hid (show qh_ PrV.K F U en o.m L [] = A by rw [← HDG.out, List.drop_of_length_le (by rw [HLN.out]; omega)]; rfl)
   exact Xb8
theorem pO_ix {j : Job} {o : zj_} (h : pO j o = true) (h4 : kf o.k 4 = true) : ∃ ix : Nat, o.i = (ix : Int) /\ (ix : Int) < j.T.getD o.t.toNat 0 := by
 unfold pO idxV at h
 rw [h4, if_pos rfl] at h
 simp only [Bool.and_eq_true] at h
 have h1 := h.1.1.1.2
 unfold inB at h1
 rw [decide_eq_true_eq] at h1
 exact ⟨o.i.toNat, by omega, by omega⟩
theorem look_split {j : Job} {t tr : Int} {T : List Pr} (hT : tOk T) {e : List Int × Pr} (he : e ∈ yL_ j t tr T) : zH_ e.2.1 /\ rOk e.2.2 /\ Byt e.1 /\ e.1.length <= 300000 /\ ∃ fl, y2_ e.1 = (fl, e.2.1, 0) := by
 obtain ⟨h1, h2⟩ := q1_ he
 obtain ⟨h3, h4⟩ := hT.2 e.2 h1
 obtain ⟨_, f, h5, h6, _, h7⟩ := qG_ h3 h4 h2
 refine ⟨h3, h4, by rw [h7]; exact qr_ h6 h3.1, ?_, f, ?_⟩
 ·rw [h7]
  have := yx_ f
  unfold zu_
  simp only [List.length_append]
  have := h3.2.2
  simp; omega
 ·have hs := xH_ f [] e.2.1 (by simpa using h5) (by unfold yA_; rw [decide_eq_true_eq]; exact h3.2) h3.2.1
  unfold y2_
  rw [h7, hs]
  rfl
theorem rcall6_law {S : Nat -> Prop} {f : Rf} {w : World} (h : RfR S w f) (hS : ∀ k, S k -> k < w.heap.size) (o : zj_) (t : Nat) (ho : OpD S w f o t) (hk1 : o.k = 6) (hl : ∀ x ∈ f.Ts, x.P.length <= 900000) :
  Calls prog 78 #[.pointer (some ⟨f.p, 0, none⟩), .agg #[.int .i64 o.k, .int .i64 o.t, .int .i64 o.i, .slice o.ka o.kn o.kc, .slice o.ta o.tn o.tc, .int .i64 o.m, .slice o.ra o.rn o.rc]] w (z5_ S w f (yw_ f.j f.P o)) := by
 obtain ⟨hb, hbx⟩ := yr_ w #[.int .i64 o.k, .int .i64 o.t, .int .i64 o.i, .slice o.ka o.kn o.kc, .slice o.ta o.tn o.tc, .int .i64 o.m, .slice o.ra o.rn o.rc] #[.int .i64 0, .slice none 0 0] 74 81
 obtain ⟨w2, hw2⟩ := gty (((w.alloc (.cells #[.int .i64 o.k, .int .i64 o.t, .int .i64 o.i, .slice o.ka o.kn o.kc, .slice o.ta o.tn o.tc, .int .i64 o.m, .slice o.ra o.rn o.rc] 74)).alloc (.cells #[.int .i64 0, .slice none 0 0] 81)))
 rw [← hw2] at hb hbx
 have hok := ho.at'.now
 have hB1 : w.heap.size <= w.heap.size + 1 := Nat.le_succ _
 have hm2 := h.sp hb hB1
 have hbd : ∀ k, Sp S (w.heap.size + 1) k -> k < w2.heap.size := fun k hk => hk.elim (fun hk => Nat.lt_of_lt_of_le (hS k hk) hb.size) Xt17
 obtain ⟨q, hq1, hq2, hq3⟩ := qT_ hm2 t ho.tl o.K hok.kb o.ka o.kn o.kc hok.kl Xt27 (hok.ks.below hb)
 have HQ := hid (And.intro hq1 hq2)
 have HG := hid hq3
 have HH := hid (And.intro h (And.intro hS hl))
 have HO := hid ho
 have HB := hid (And.intro hb hbx)
 have HM2 := hid (And.intro hm2 hbd)
 have HST := hid (ho.at'.step (S' := Sp S (w.heap.size + 1)) (Off.of hb) (fun k hk => by
  rcases hk with hk | hk
  ·exact .inl hk
  ·exact .inr Xt0))
 have HTE := hid (show o.t.toNat = t by rw [ho.te]; simp)
 have b0 := (hbx w2 (Below.refl _ _)).1
 have c0 := b0.cell 0
 have c1 := b0.cell 1
 have c3 := b0.cell 3
 have c6 := b0.cell 6
 simp only [gtA, gtB, gtC] at c0 c1 c3 c6
 rw [ho.te] at c1
 rw [hk1] at c0
 have HK1 := hid hk1
 clear hk1 h hS ho hl hok hm2 hbd hq1 hq2 hq3 hb hbx b0
 go_enter func78, ntmps78
 go_upto_region 1 with (fail)
 rw [← hw2]
 clear hw2 hB1
 go_wp2_with fail
 clear c0 c1 c3 c6
 refine HG.out.mono ?_; rintro r w3 ⟨hr, hb3⟩
 have HB3 := hid hb3
 have hbx3 := HB.out.2 w3 hb3
 have HX3 := hid hbx3
 have c0 := hbx3.1.cell 0
 have c1 := hbx3.1.cell 1
 have c3 := hbx3.1.cell 3
 have c6 := hbx3.1.cell 6
 simp only [gtA, gtB, gtC] at c0 c1 c3 c6
 rw [HO.out.te] at c1
 rw [HK1.out] at c0
 have g0 := hbx3.2.cell 0
 have g1 := hbx3.2.cell 1
 have i0 := hbx3.2.frozen 0
 have i1 := hbx3.2.frozen 1
 simp only [gtA, gtB, gtC] at g0 g1
 clear hb3 hbx3
 obtain ⟨v0, rfl⟩ : ∃ v0, r = .returned (.tuple #[v0, .bool q.isSome]) := by
  exact Xb38
 clear hr HG HQ
 obtain ⟨x, hx⟩ : ∃ x, f.Ts[t]? = some x := ⟨_, List.getElem?_eq_getElem HO.out.tl⟩
 have hxm := List.mem_of_getElem? hx
 obtain ⟨w4, hw4⟩ := gty (w3.alloc (.cells #[.int .i64 0, .slice none 0 0] 81))
 have hb4 : Below w3.heap.size w3 w4 := by rw [hw4]; exact bl1 _ _
 have hx4 : zg_ w4 w3.heap.size #[.int .i64 0, .slice none 0 0] 81 := by rw [hw4]; exact zg_.new _ _ _
 have HB24 := hid (HB3.out.trans (hb4.mono HB3.out.size))
 have HBO := hid hx4
 have HM4 := hid (HM2.out.1.below HB24.out)
 obtain ⟨_, _, e0, hxc, hxs⟩ := HM4.out.tbs t x hx
 cases e0
 rw [Nat.zero_add] at hxc
 have HXT := hid (fun X (b : Below w4.heap.size w4 X) => (tcb b hxc))
 have HXX := hid (And.intro hx hxm)
 have HOP := hid (fun X (b : Below w4.heap.size w4 X) => ((HST.out.now).below HB24.out).below b)
 have HJB := hid (fun X (b : Below w4.heap.size w4 X) => (HM4.out.below b).job.now)
 have HX := hid (fun X (b : Below w4.heap.size w4 X) => (by
  have hm := (HM4.out.below b).box
  have hp := (HB.out.2 X (HB24.out.trans (b.mono HB24.out.size))).1
  rw [HK1.out] at hp
  refine ⟨⟨?_, ?_, ?_, ?_, ?_, ?_, ?_, ?_⟩, ?_, ?_, ?_, ?_, ?_, ?_, ?_⟩
  all_goals first | (rw [hm.cell]; rfl) | (rw [hp.cell]; rfl) : (X.cell? ⟨f.p, 0, none⟩ = some (.int .i64 f.j.w) /\ X.cell? ⟨f.p, 1, none⟩ = some (.int .i64 f.j.l) /\ X.cell? ⟨f.p, 2, none⟩ = some (.int .i64 f.j.d) /\ X.cell? ⟨f.p, 3, none⟩ = some (.int .i64 f.j.c) /\ X.cell? ⟨f.p, 4, none⟩ = some (.int .i64 f.j.k) /\ X.cell? ⟨f.p, 5, none⟩ = some (.int .i64 f.j.e) /\ X.cell? ⟨f.p, 6, none⟩ = some (.slice f.j.a f.j.n f.j.cap) /\ X.cell? ⟨f.p, 7, none⟩ = some (.slice (some ⟨f.b1, 0, none⟩) f.Ts.length f.tc)) /\ X.cell? ⟨w.heap.size, 0, none⟩ = some (.int .i64 6) /\ X.cell? ⟨w.heap.size, 1, none⟩ = some (.int .i64 o.t) /\ X.cell? ⟨w.heap.size, 2, none⟩ = some (.int .i64 o.i) /\ X.cell? ⟨w.heap.size, 3, none⟩ = some (.slice o.ka o.kn o.kc) /\ X.cell? ⟨w.heap.size, 4, none⟩ = some (.slice o.ta o.tn o.tc) /\ X.cell? ⟨w.heap.size, 5, none⟩ = some (.int .i64 o.m) /\ X.cell? ⟨w.heap.size, 6, none⟩ = some (.slice o.ra o.rn o.rc)))
 clear hx hxm hb4 hx4 hxc hxs g0 g1 i0 i1
 go_upto_region 21 with (fail)
 rw [← hw4]
 clear hw4 c0 c1 c3 c6
 go_cut [8] (fun v wx => ∃ (bx : Nat) (fa : Option Addr) (fc : Nat) (ta : Option Addr) (tc : Nat), v = .pointer (some ⟨bx, 0, none⟩) /\ Hid (Below w4.heap.size w4 wx) /\ Hid (zg_ wx bx #[.int .i64 (zE_ f.j o).1, .slice fa (zE_ f.j o).2.1.length fc, .slice ta (zE_ f.j o).2.2.1.length tc, .bool (zE_ f.j o).2.2.2.1] 169) /\ Hid (Ls .u8 wx fa fc (zE_ f.j o).2.1) /\ Hid (Ls .u8 wx ta tc (zE_ f.j o).2.2.1))
 case first =>
  exact Xb4
 case rest =>
 obtain ⟨bx, fa, fc, ta, tc, rfl, HB3c, HSP, HLF, HLU⟩ := hcut
 obtain ⟨n, hn⟩ := gtx (x.P.length)
 rw [hn] at HXT
 have HN := hid hn
 have hnl : n <= 900000 := by have := HH.out.2.2 x HXX.out.2; omega
 have hti : (t : Int) < (f.Ts.length : Int) := by have := HO.out.tl; omega
 have htl : (f.Ts.length : Int) <= 4 := by have := HM4.out.few; omega
 clear hn
 go_upto_region 22 with (fail)
 refine rgw wc (Below.refl _ _).drew fun hH => ?_
 refine tkq3 0 1 2 ?_
 refine tkr 3 rfl Xf35 ?_
 refine tkq 4 ?_
 refine tkr 5 rfl Xf34 ?_
 refine tkq 6 ?_
 refine tkr 7 rfl Xf44 ?_
 refine tkq 8 ?_
 refine adn ?_
 skip
 obtain ⟨wK, hwK⟩ := gty (wc.drew)
 rw [← hwK] at hH ⊢
 have HLK := hid hH
 have HBK := hid (za_ HB3c.out hH)
 clear hH hwK
 have h4k : kf o.k 4 = true := by rw [jE_, HK1.out]; rfl
 have h3 : kf o.k 3 = true := by rw [xi_, HK1.out]; rfl
 have h4 : kf o.k 4 = true := by rw [jE_, HK1.out]; rfl
 have hrg : zE_ f.j o = ((trV f.j o.t o.i).1, zk_ o.K, zk_ o.T, decide (0 < o.tn), 0) := by
  exact Xb94
 have hmo := jZ_ HO.out.po h3
 have HMO := hid hmo
 rw [hrg] at HSP HLF HLU
 have hca := HO.out.at'.now
 have HFB := hid (And.intro (show Byt (zk_ o.K) from yM_ hca.kb) (show Byt (zk_ o.T) from yM_ hca.tb))
 obtain ⟨F, hF⟩ := gtx (zk_ o.K)
 obtain ⟨U, hU⟩ := gtx (zk_ o.T)
 obtain ⟨en, hen⟩ := gtx (decide (0 < o.tn))
 simp only [hF, hU, hen] at HSP HLF HLU HFB
 have HFE := hid (And.intro hF (And.intro hU hen))
 clear hF hU hen hrg h3 h4 hca hmo
 obtain ⟨ix, hix, hixl⟩ := pO_ix HO.out.po h4k
 rw [HTE.out] at hixl
 have HIX := hid (And.intro hix hixl)
 have hopk := (HB.out.2 wK (HB24.out.trans (HBK.out.mono HB24.out.size))).1
 rw [HK1.out] at hopk
 have o0 := hopk.cell 0
 have o1 := hopk.cell 1
 have o2 := hopk.cell 2
 simp only [gtA, gtB, gtC] at o0 o1 o2
 rw [HO.out.te] at o1
 rw [hix] at o2
 have hszk : ∀ k, (Sp S (w.heap.size + 1) k ∨ k = w3.heap.size) -> k < wK.heap.size := fun k hk => by
  have h1 := HBO.out.lt
  have h2 := HBK.out.size
  have h3 := HB24.out.size
  rcases hk with hk | hk
  ·have := HM2.out.2 k hk; omega
  ·omega
 have HIL := hid (jr_ (S := fun k => Sp S (w.heap.size + 1) k) (HM4.out.below HBK.out) (fun k hk => hszk k (.inl hk)) t HO.out.tl ix hixl HH.out.2.2)
 have HAS := hid (show zs_ (fun k => Sp S (w.heap.size + 1) k ∨ k = w3.heap.size) wK (fun W => ∀ y ∈ f.Ts, zp_ W y.pa y.P) from fun W' o' y hy => by
  obtain ⟨iy, hiy⟩ := List.mem_iff_getElem?.1 hy
  obtain ⟨_, _, _, _, s⟩ := HM2.out.1.tbs iy y hiy
  exact (s.step (S' := fun k => Sp S (w.heap.size + 1) k ∨ k = w3.heap.size) (Off.of (HB24.out.trans (HBK.out.mono HB24.out.size))) (fun k hk => hk.imp id fun e => by have := HB3.out.size; omega)) W' o')
 have HSK0 := hid hszk
 clear hix hixl hopk hszk h4k
 go_wp2_with fail
 clear o0 o1 o2
 refine HIL.out.mono ?_; rintro r wL ⟨la, lc, L, rfl, hb7, hLm, hLl, _, hLs⟩
 have HLL := hid (za_ HLK.out hb7)
 have HBL := hid (za_ HBK.out hb7)
 obtain ⟨ln, hln⟩ := gtx (L.length)
 rw [hln] at hLl ⊢
 have HLN := hid hln
 have HLS0 := hid (hLs (fun k => Sp S (w.heap.size + 1) k ∨ k = w3.heap.size) HSK0.out HAS.out)
 have htok : tOk (f.P.getD t []) := by rw [HM4.out.getD HXX.out.1]; exact HM4.out.lim x HXX.out.2
 have HLM := hid hLm
 have hfc : ∀ a ∈ L, ∃ e ∈ yL_ f.j t (trV f.j t ix).1 (f.P.getD t []), e.1 = a.K /\ e.2.2 = a.R.map P1.bs := fun a ha => by
  have h1 : prC a ∈ idxP f.j t ix (f.P.getD t []) := by rw [← hLm]; exact List.mem_map.2 ⟨a, ha, rfl⟩
  unfold idxP at h1
  obtain ⟨e, he, e1⟩ := List.mem_map.1 h1
  exact ⟨e, he, congrArg Prod.fst e1, congrArg Prod.snd e1⟩
 have HLK2 := hid (show ∀ e ∈ yL_ f.j t (trV f.j t ix).1 (f.P.getD t []), zH_ e.2.1 /\ rOk e.2.2 /\ Byt e.1 /\ e.1.length <= 300000 /\ ∃ fl, y2_ e.1 = (fl, e.2.1, 0) from fun e he => look_split htok he)
 have HFC := hid hfc
 have HLB := hid (show ∀ a ∈ L, Byt a.K from fun a ha => by
  obtain ⟨e, he, e1, _⟩ := hfc a ha
  rw [← e1]; exact (HLK2.out e he).2.2.1)
 have HSPL := hid (show ∀ a ∈ L, a.K.length <= 300000 /\ ∃ fl, y2_ a.K = (fl, (outS a).1, 0) from fun a ha => by
  obtain ⟨e, he, e1, _⟩ := hfc a ha
  obtain ⟨_, _, _, h4, fl, h5⟩ := HLK2.out e he
  rw [e1] at h4 h5
  refine ⟨h4, fl, ?_⟩
  unfold outS
  rw [h5])
 have HOK := hid (show ∀ a ∈ L, zH_ (outS a).1 /\ rOk (outS a).2 from fun a ha => by
  obtain ⟨e, he, e1, e2⟩ := hfc a ha
  obtain ⟨h1, h2, _, _, fl, h5⟩ := HLK2.out e he
  rw [e1] at h5
  unfold outS
  rw [h5, ← e2]
  exact ⟨h1, h2⟩)
 have HWN := hid (show (qh_ PrV.K F U en o.m L []).map outS = (yP_ Prod.fst F U en o.m (yL_ f.j t (trV f.j t ix).1 (f.P.getD t [])) []).map Prod.snd by
  rw [← qH_ (q0_ htok) (by have := HMO.out.1; simp; omega)]
  have e1 : (qh_ PrV.K F U en o.m L []).map prC = (qh_ Prod.fst F U en o.m (yL_ f.j t (trV f.j t ix).1 (f.P.getD t [])) []).map fun e => (e.1, e.2.2) := by
   rw [qc_ prC (k1 := PrV.K) (k2 := Prod.fst) F U en o.m L [] (fun e he => rfl), hLm]
   unfold idxP
   rw [qc_ (fun e : List Int × Pr => (e.1, e.2.2)) (k1 := Prod.fst) (k2 := Prod.fst) F U en o.m _ [] (fun e he => rfl)]
   rfl
  have e2 : ∀ l : List PrV, l.map outS = (l.map prC).map fun p => ((y2_ p.1).2.1, p.2) := fun l => by rw [List.map_map]; rfl
  rw [e2, e1, List.map_map]
  refine List.map_congr_left fun e he => ?_
  have hm := (Qh_ Prod.fst F U en o.m _ [] e he).resolve_right Xt5
  obtain ⟨_, _, _, _, fl, h5⟩ := HLK2.out e hm
  show ((y2_ e.1).2.1, e.2.2) = e.2
  rw [h5])
 have HCD := hid (show yw_ f.j f.P o = ((0, (yP_ Prod.fst F U en o.m (yL_ f.j t (trV f.j t ix).1 (f.P.getD t [])) []).map Prod.snd), f.P) by
  unfold yw_
  rw [if_neg Xt11, if_neg Xt11, if_neg Xt11, if_neg Xt11, if_neg Xt11, HTE.out, HO.out.te, HIX.out.1, HFE.out.1, HFE.out.2.1, HFE.out.2.2])
 clear hLm hb7 hLs hln htok hfc
 have HBD := hid (show w3.heap.size < wL.heap.size by have := HBO.out.lt; have := HBL.out.size; omega)
 have HLS := hid (show zs_ (fun k => Sp S (w.heap.size + 1) k ∨ k = w3.heap.size) wL (fun W => zp_ W la L) from HLS0.out)
 have HXL := hid (fun X (o9 : Off (fun k => k = w3.heap.size) wL X) => (by
  have hop := HB.out.2 wL (HB24.out.trans (HBL.out.mono HB24.out.size))
  have h1 := o9.box hop.1 Xt44
  rw [HK1.out] at h1
  have hsp := HSP.out.below HLL.out
  have h2 := o9.box hsp (fun e => zo_ hsp (HBO.out.below HBL.out) Xt4 e)
  refine ⟨by rw [h1.cell]; rfl, by rw [h1.cell]; rfl, by rw [h1.cell]; rfl, by rw [h2.cell]; rfl, by rw [h2.cell]; rfl, by rw [h2.cell]; rfl⟩ : X.cell? ⟨w.heap.size, 0, none⟩ = some (.int .i64 6) /\ X.cell? ⟨w.heap.size, 5, none⟩ = some (.int .i64 o.m) /\ X.cell? ⟨w.heap.size, 1, none⟩ = some (.int .i64 o.t) /\ X.cell? ⟨bx, 1, none⟩ = some (.slice fa F.length fc) /\ X.cell? ⟨bx, 2, none⟩ = some (.slice ta U.length tc) /\ X.cell? ⟨bx, 3, none⟩ = some (.bool en)))
 have HFX := hid (fun X (o9 : Off (fun k => k = w3.heap.size) wL X) => (⟨qF_ (HLF.out.below HLL.out) (HBO.out.below HBL.out) o9, qF_ (HLU.out.below HLL.out) (HBO.out.below HBL.out) o9⟩ : Ls .u8 X fa fc F /\ Ls .u8 X ta tc U))
 have hlni : (ln : Int) <= 1000000 := by omega
 obtain ⟨o0, _⟩ := HXL.out wL (Off.refl _ _)
 go_wp2_with fail
 clear o0
 go_loopw [11] (fun j wr => ∃ (k gn : Nat) (A G : List PrV) (oa : Option Addr) (oc : Nat), k <= ln /\ j = .int .i64 (k : Int) /\ gn <= k /\ Hid (G.length = gn /\ A.length = gn) /\ Hid (qh_ PrV.K F U en o.m (L.drop k) A = qh_ PrV.K F U en o.m L []) /\ Hid (G.map prC = A.map outS) /\ Hid (∀ a ∈ A, a ∈ L) /\ Hid (zg_ wr w3.heap.size #[.int .i64 0, .slice oa gn oc] 81) /\ Hid (wr.ownsRow wL.heap.size 78 2 (.slice oa gn oc) gn (zi_ G)) /\ Hid (∀ g ∈ G, zs_ (fun k => (Sp S (w.heap.size + 1) k ∨ k = w3.heap.size) ∨ Value.ownBlock (.slice oa gn oc) = some k) wr (fun W => Ls .u8 W g.ka g.kc g.K /\ RdR W g.ra g.R)) /\ Hid (Off (fun k => k = w3.heap.size) wL wr)) (fun j _ => ln - (intOf j).toNat)
 case atStart => exact ⟨0, 0, [], [], none, 0, by omega, rfl, by omega, hid ⟨rfl, rfl⟩, hid (by rw [List.drop_zero]), hid rfl, hid (fun a ha => by cases ha), hid (HBO.out.below HBL.out), hid (World.ownsRow_nil _ _ _ _), hid Xt57, hid (Off.refl _ _)⟩
 case round =>
  obtain ⟨k, gn, A, G, oa, oc, hk, rfl, hgk, HGL, HDG, HGM, HAL, HBX, HOW, HGS, HOF⟩ := hrel
  obtain ⟨o0, o5, _, s1, s2, s3⟩ := HXL.out wr HOF.out
  have g1 := HBX.out.cell 1
  simp only [gtA, gtB, gtC] at g1
  by_cases hlt : k < ln
  ·have d1 : (k : Int) < (ln : Int) := by omega
   by_cases hm : (gn : Int) < o.m
   ·have HMM := hid hm
    obtain ⟨a, ha⟩ : ∃ a, L[k]? = some a := ⟨_, List.getElem?_eq_getElem Xt77⟩
    have ham := List.mem_of_getElem? ha
    have HA1 := hid ha
    have HAM := hid ham
    have hlr := HLS.out wr (HOF.out.mono fun k hk => .inr hk)
    obtain ⟨lb, lo, elb, p0, p1, hal, har⟩ := hlr k a ha
    have HELB := hid elb
    obtain ⟨akn, hakn⟩ := gtx (a.K.length)
    rw [hakn] at p0
    have HAK := hid hakn
    have HPA := hid (fun W (b : Below wr.heap.size wr W) => (tcb b p0))
    have HPB := hid (fun W (b : Below wr.heap.size wr W) => (tcb b p1))
    have HCA := hid (fun W (b : Below wr.heap.size wr W) => zA_ W a.ka akn a.kc a.K hakn (hal.below b).rd)
    have HKR := hid (And.intro hal har)
    rw [elb]
    clear ha ham hlr hal har hakn p0 p1 elb
    go_upto_region 28 with (fail)
    clear o0 o5 s1 s2 s3 g1
    cases hc1 : ltL a.K F with
    | true =>
     exact Xb10
    | false =>
     have HC1 := hid (show Op.bytesLess (strOfNums a.K).toList (strOfNums F).toList = false by rw [yk_ (HLB.out a HAM.out) HFB.out.1]; exact hc1)
     have HCF := hid hc1
     clear hc1
     rcases Bool.eq_false_or_eq_true en with he | he
     ·have HEN := hid he
      clear he
      obtain ⟨cu, hcu⟩ := gtx (ltL a.K U)
      have HC2 := hid (show Op.bytesLess (strOfNums a.K).toList (strOfNums U).toList = cu by rw [yk_ (HLB.out a HAM.out) HFB.out.2]; exact hcu)
      have HCU := hid hcu
      clear hcu
      refine rgw wr (Below.refl _ _).drew fun hH => ?_
      refine tkq4 0 1 2 3 ?_
      refine tkr 4 rfl Xf14 ?_
      refine tkr 5 rfl Xf11 ?_
      refine tkq 6 ?_
      refine tkr 7 rfl Xf8 ?_
      refine tkr 8 rfl Xf5 ?_
      refine tkp 9 (.bool false) rfl (.inl ⟨by rfl, ?_⟩) ?_
      ·exact Xb50
      refine tkq2 10 11 ?_
      refine tkr 12 rfl Xf13 ?_
      refine tkq4 13 14 15 16 ?_
      refine tkq 17 ?_
      refine tkr 18 rfl Xf14 ?_
      refine tkr 19 rfl Xf11 ?_
      refine tkq 20 ?_
      refine tkr 21 rfl Xf38 ?_
      refine tkr 22 rfl Xf33 ?_
      refine tkp 23 (.bool (!cu)) rfl (.inl ⟨by rfl, ?_⟩) ?_
      ·intro W hSw; go_simp; try (first | exact HC2.out | (simp [HC2.out]; done))
      refine tkq2 24 25 ?_
      refine adn ?_
      skip
      obtain ⟨w9, hw9⟩ := gty (wr.drew)
      try rw [← hw9] at hH ⊢
      have HB9 := hid (show Below wr.heap.size wr w9 from hH)
      clear hH hw9
      cases cu with
      | false =>
       have HSK := hid (show (ltL a.K F || (en && !ltL a.K U)) = true by rw [HEN.out, HCU.out, Bool.or_eq_true]; exact .inr rfl)
       exact Xb16
      | true =>
       have HSK := hid (show (ltL a.K F || (en && !ltL a.K U)) = false by rw [HEN.out, HCU.out, HCF.out]; rfl)
       exact Xb0
     ·have HEN := hid he
      clear he
      have HSK := hid (show (ltL a.K F || (en && !ltL a.K U)) = false by rw [HEN.out, HCF.out]; rfl)
      refine rgw wr (Below.refl _ _).drew fun hH => ?_
      refine tkq4 0 1 2 3 ?_
      refine tkr 4 rfl Xf14 ?_
      refine tkr 5 rfl Xf11 ?_
      refine tkq 6 ?_
      refine tkr 7 rfl Xf8 ?_
      refine tkr 8 rfl Xf5 ?_
      refine tkp 9 (.bool false) rfl (.inl ⟨by rfl, ?_⟩) ?_
      ·exact Xb50
      refine tkq2 10 11 ?_
      refine tkr 12 rfl Xf13 ?_
      refine tkq 13 ?_
      refine tkn 14 ?_
      refine tkn 15 ?_
      refine tkn 16 ?_
      refine tkn 17 ?_
      refine tkn 18 ?_
      refine tkn 19 ?_
      refine tkn 20 ?_
      refine tkn 21 ?_
      refine tkn 22 ?_
      refine tkn 23 ?_
      refine tkq2 24 25 ?_
      refine adn ?_
      skip
      obtain ⟨w9, hw9⟩ := gty (wr.drew)
      try rw [← hw9] at hH ⊢
      have HB9 := hid (show Below wr.heap.size wr w9 from hH)
      clear hH hw9
      exact Xb0
   ·have HFN := hid (show qh_ PrV.K F U en o.m L [] = A by rw [← HDG.out]; exact Q4_ (by rw [HGL.out.2]; exact hm))
    exact Xb7
  ·have d1 : ¬ (k : Int) < (ln : Int) := by omega
   have HFN := hid (show qh_ PrV.K F U en o.m L [] = A by rw [← HDG.out, List.drop_of_length_le (by rw [HLN.out]; omega)]; rfl)
   exact Xb7
theorem rcall_law {S : Nat -> Prop} {f : Rf} {w : World} (h : RfR S w f) (hS : ∀ k, S k -> k < w.heap.size) (o : zj_) (t : Nat) (ho : OpD S w f o t) (hl : ∀ x ∈ f.Ts, x.P.length <= 900000) :
  Calls prog 78 #[.pointer (some ⟨f.p, 0, none⟩), .agg #[.int .i64 o.k, .int .i64 o.t, .int .i64 o.i, .slice o.ka o.kn o.kc, .slice o.ta o.tn o.tc, .int .i64 o.m, .slice o.ra o.rn o.rc]] w (z5_ S w f (yw_ f.j f.P o)) := by
 have hk := j0_ ho.po
 have : o.k = 1 ∨ o.k = 2 ∨ o.k = 3 ∨ o.k = 4 ∨ o.k = 5 ∨ o.k = 6 := by omega
 rcases this with e | e | e | e | e | e
 ·exact rcall1_law h hS o t ho e hl
 ·exact rcall2_law h hS o t ho e hl
 ·exact rcall3_law h hS o t ho e hl
 ·exact rcall4_law h hS o t ho e hl
 ·exact rcall5_law h hS o t ho e hl
 ·exact rcall6_law h hS o t ho e hl
def RDoR (S : Nat -> Prop) (w : World) (f : Rf) (x : zW_) (r : Ending) (w' : World) : Prop :=
 if yQ_ f.j x then ∃ g a c Y, r = .returned (.tuple #[.slice a Y.length c, .int .i64 0]) /\ Off (fun k => k = f.p) w w' /\ g.p = f.p /\ g.j = f.j /\ (S g.b1 ∨ w.heap.size <= g.b1) /\ RfR (fun k => S k ∨ k = g.b1) w' g /\ g.P = (if x.ab then f.P else (qf_ f.j f.P x.ops).2) /\ Y.map yC_ = (qf_ f.j f.P x.ops).1 /\ (∀ y ∈ Y, ys_ y) /\ zs_ S w' (fun W => jL_ W a Y) /\ ∀ N : Nat, (∀ x ∈ f.Ts, x.P.length <= N) -> ∀ x ∈ g.Ts, x.P.length <= N + 16
 else r = .returned (.tuple #[.slice none 0 0, .int .i64 2]) /\ Below w.heap.size w w'
theorem rdo_law {S : Nat -> Prop} {f : Rf} {w : World} (h : RfR S w f) (hS : ∀ k, S k -> k < w.heap.size) (x : zW_) (hx : zs_ S w fun W => zM_ W x) (hon : x.on <= 1000000) (hrn : ∀ o ∈ x.ops, o.rn <= 1000000) (hl : ∀ z ∈ f.Ts, z.P.length <= 800000) :
  Calls prog 42 #[.pointer (some ⟨f.p, 0, none⟩), .agg #[.slice x.oa x.on x.oc, .bool x.sn, .bool x.ab]] w (RDoR S w f x) := by
 have HH := hid (And.intro h (And.intro hS hl))
 have HXT := hid hx
 have HRN := hid hrn
 obtain ⟨w2, hw2⟩ := gty (w.alloc (.cells #[.slice x.oa x.on x.oc, .bool x.sn, .bool x.ab] 38))
 have hb2 : Below w.heap.size w w2 := by rw [hw2]; exact bl1 _ _
 have hbx2 : zg_ w2 w.heap.size #[.slice x.oa x.on x.oc, .bool x.sn, .bool x.ab] 38 := by rw [hw2]; exact zg_.new _ _ _
 have HB2 := hid hb2
 have HBX2 := hid hbx2
 have HX := hid (fun X (b : Below w2.heap.size w2 X) => (by
  have hm := ((h.below hb2).below b).box
  have hq := hbx2.below b
  refine ⟨?_, ?_, ?_, ?_, ?_, ?_, ?_, ?_, ?_, ?_⟩
  all_goals first | (rw [hm.cell]; rfl) | (rw [hq.cell]; rfl) : X.cell? ⟨f.p, 0, none⟩ = some (.int .i64 f.j.w) /\ X.cell? ⟨f.p, 1, none⟩ = some (.int .i64 f.j.l) /\ X.cell? ⟨f.p, 2, none⟩ = some (.int .i64 f.j.d) /\ X.cell? ⟨f.p, 3, none⟩ = some (.int .i64 f.j.c) /\ X.cell? ⟨f.p, 4, none⟩ = some (.int .i64 f.j.k) /\ X.cell? ⟨f.p, 5, none⟩ = some (.int .i64 f.j.e) /\ X.cell? ⟨f.p, 6, none⟩ = some (.slice f.j.a f.j.n f.j.cap) /\ X.cell? ⟨w.heap.size, 0, none⟩ = some (.slice x.oa x.on x.oc) /\ X.cell? ⟨w.heap.size, 1, none⟩ = some (.bool x.sn) /\ X.cell? ⟨w.heap.size, 2, none⟩ = some (.bool x.ab)))
 have HMT := hid (fun X (b : Below w2.heap.size w2 X) => qU_ f.j x hon X (((h.below hb2).below b).job.now) ((hx.below hb2).below b).now)
 clear h hS hx hon hrn hl hb2 hbx2
 go_enter func42, ntmps42
 go_upto_region 3 with (fail)
 rw [← hw2]
 clear hw2
 refine rgw w2 (Below.refl _ _).drew fun hH => ?_
 refine tkq3 0 1 2 ?_
 refine tkr 3 rfl Xf23 ?_
 refine tkr 4 rfl Xf22 ?_
 refine tk1 5 rfl fun K hK => ?_
 go_simp
 refine (HMT.out _ hH).mono ?_; rintro r w4 ⟨rfl, hb4⟩
 have HB4 := hid (za_ hH hb4)
 clear hb4
 go_wp2_with fail
 refine hK.out _ _ HB4.out fun hH => ?_
 refine stP ?_
 refine tkq 6 ?_
 refine adn ?_
 skip
 cases hm : yQ_ f.j x with
 | false =>
  have HR := hid (fun r w' (hh : r = .returned (.tuple #[.slice none 0 0, .int .i64 2]) /\ Below w.heap.size w w') => (by unfold RDoR; rw [hm]; exact hh : RDoR S w f x r w'))
  exact Xb104
 | true =>
  have HR := hid (fun r w' (hh : ∃ g a c Y, r = .returned (.tuple #[.slice a Y.length c, .int .i64 0]) /\ Off (fun k => k = f.p) w w' /\ g.p = f.p /\ g.j = f.j /\ (S g.b1 ∨ w.heap.size <= g.b1) /\ RfR (fun k => S k ∨ k = g.b1) w' g /\ g.P = (if x.ab then f.P else (qf_ f.j f.P x.ops).2) /\ Y.map yC_ = (qf_ f.j f.P x.ops).1 /\ (∀ y ∈ Y, ys_ y) /\ zs_ S w' (fun W => jL_ W a Y) /\ ∀ N : Nat, (∀ x ∈ f.Ts, x.P.length <= N) -> ∀ x ∈ g.Ts, x.P.length <= N + 16) => (by unfold RDoR; rw [hm]; exact hh : RDoR S w f x r w'))
  have HMF := hid (yK_ hm)
  have hon := (yK_ hm).1
  have HXL := hid (show x.ops.length = x.on from HXT.out.now.ol)
  have HB04 := hid (HB2.out.trans (HB4.out.mono HB2.out.size))
  have HCP := hid (QF_ (HH.out.1.below HB04.out) (fun k hk => Nat.lt_of_lt_of_le (HH.out.2.1 k hk) HB04.out.size) Xt60)
  clear hm
  go_wp2_with fail
  refine HCP.out.mono ?_; clear HCP; rintro r w6 ⟨c, rfl, hb6, hcp, hcb, hcj, hcT, hcR⟩
  have hcR0 := hcR (fun k => S k ∨ k = c.p ∨ k = c.b1) (fun k hk => hk) (.inr (.inl rfl)) (.inr (.inr rfl))
  have hcP : c.P = f.P := by
   exact Xb81
  have hcN : ∀ N : Nat, (∀ z ∈ f.Ts, z.P.length <= N) -> ∀ z ∈ c.Ts, z.P.length <= N + 0 := fun N hN z hz => by
   exact Xb71
  have hcs : c.p < w6.heap.size /\ c.b1 < w6.heap.size := by
   obtain ⟨cs, hcs⟩ := hcR0.tb
   exact ⟨hcR0.box.lt, hcs.lt⟩
  have HC := hid (And.intro hcR0 (And.intro hcP (And.intro hcN hcs)))
  have HCJ := hid hcj
  have HC4 := hid (And.intro hcp hcb)
  have HB6 := hid hb6
  have HB26 := hid (za_ HB4.out hb6)
  clear hcR hcR0 hcP hcN hcs hcj hcp hcb hcT hb6
  obtain ⟨_, _, _, _, _, _, _, x0, x1, x2⟩ := HX.out w6 HB26.out
  go_wp2_with fail
  clear x0 x1 x2
  go_loopw [7, 8] (fun v i wr => ∃ (k : Nat) (g : Rf) (Y : List xB_), k <= x.on /\ i = .int .i64 (k : Int) /\ Hid (Y.length = k) /\ Hid (RfS c g) /\ Hid (RfR (fun b => (S b ∨ b = c.p ∨ b = c.b1) ∨ v.ownBlock = some b) wr g) /\ Hid ((Y.map yC_, g.P) = qf_ f.j f.P (x.ops.take k)) /\ Hid (wr.ownsRow w6.heap.size 81 2 v k (cellsOf rcl Y)) /\ Hid (∀ y ∈ Y, ys_ y /\ zs_ (fun b => (S b ∨ b = c.p ∨ b = c.b1) ∨ v.ownBlock = some b) wr (fun W => zp_ W y.pa y.P)) /\ Hid (Below w4.heap.size w4 wr) /\ Hid (w6.heap.size <= wr.heap.size) /\ Hid (∀ N : Nat, (∀ z ∈ f.Ts, z.P.length <= N) -> ∀ z ∈ g.Ts, z.P.length <= N + k)) (fun _ i _ => x.on - (intOf i).toNat)
  case atStart => exact ⟨0, c, [], by omega, rfl, hid rfl, hid (RfS.rfl' c), hid (HC.out.1.off (T := fun _ => False) (Off.refl _ _) (fun _ h => h.elim) (fun h => h) (fun h => h) (fun k hk => hk.imp id fun h => by cases h) (.inl (.inr (.inl rfl))) (.inl (.inr (.inr rfl)))), hid (by rw [HC.out.2.1]; rfl), hid (World.ownsRow_nil _ _ _ _), hid Xt42, HB6, hid (Nat.le_refl _), hid HC.out.2.2.1⟩
  case round =>
   obtain ⟨k, g, Y, hk, rfl, HYL, HRS, HRF, HRD, HOV, HYS, HBW, HSZ, HGN⟩ := hrel
   have HBX := hid (za_ HB4.out HBW.out)
   have HB0 := hid (HB2.out.trans (HBX.out.mono HB2.out.size))
   obtain ⟨_, _, _, _, _, _, _, x0, x1, x2⟩ := HX.out wr HBX.out
   by_cases hlt : k < x.on
   ·have d1 : (k : Int) < (x.on : Int) := by omega
    obtain ⟨o, ho⟩ : ∃ o, x.ops[k]? = some o := ⟨_, List.getElem?_eq_getElem Xt79⟩
    have hmem : o ∈ x.ops := List.mem_of_getElem? ho
    have hst : zs_ (fun b => (S b ∨ b = c.p ∨ b = c.b1) ∨ u7.ownBlock = some b) wr (fun W => zM_ W x) := HXT.out.step (Off.of HB0.out) (fun b hb => by
     have h4 := HB04.out.size
     have h6 := HB6.out.size
     rcases hb with (hb | hb | hb) | hb
     ·exact .inl hb
     ·have := HC4.out.1; exact .inr Xt0
     ·have := HC4.out.2; exact .inr Xt0
     ·have := (zb_ HOV.out hb).1; exact .inr Xt0)
    obtain ⟨b1, o1, ea, ⟨p0, p1, p2, p3, p4, p5, p6⟩, _⟩ := hst.now.os k o ho
    have hpo := HMF.out.2 o hmem
    have hpt := pO_t hpo
    have hgj : g.j = f.j := HRS.out.j.trans HCJ.out
    have hgt : g.Ts.length = f.j.n := by rw [HRF.out.len, hgj]
    have HOD := hid (show OpD (fun b => (S b ∨ b = c.p ∨ b = c.b1) ∨ u7.ownBlock = some b) wr g o o.t.toNat from ⟨hst.mono fun W hW => by obtain ⟨_, _, _, _, hc⟩ := hW.os k o ho; exact hc, by omega, by omega, by rw [hgj]; exact hpo, HRN.out o hmem⟩)
    have key := rcall_law HRF.out (fun b hb => by
     have h6 := HSZ.out
     have hc := HC.out.2.2.2
     have h0 := HB0.out.size
     rcases hb with (hb | hb | hb) | hb
     ·exact Nat.lt_of_lt_of_le (HH.out.2.1 b hb) h0
     ·omega
     ·omega
     ·exact (zb_ HOV.out hb).2.1) o o.t.toNat HOD.out (fun z hz => by have := HGN.out 800000 HH.out.2.2 z hz; omega)
    rw [HRS.out.p, hgj] at key
    have HCL := hid key
    have HTK := hid (runD_take f.j f.P ho)
    have HEA := hid ea
    rw [ea] at x0
    clear key hst ho hmem ea hpo hpt hgj hgt
    go_wp2_with fail
    clear p0 p1 p2 p3 p4 p5 p6 x0 x1 x2
    refine HCL.out.mono ?_; clear HCL; rintro r w7 ⟨g2, y, rfl, hs, hg, ho7, hans, hok, hsy, hN⟩
    have hown7 := zn_ HOV.out ho7 (fun b hb e => by
     obtain ⟨_, _, cu, hc⟩ := zb_ HOV.out hb
     obtain ⟨cs, hcs⟩ := HRF.out.tb
     exact zo_ hc hcs Xt4 e)
    have hb47 : Below w4.heap.size w4 w7 := Off.below HBW.out ho7 HBW.out.size (fun b hb => by rw [hb, HRS.out.b]; exact HC4.out.2)
    have HS2 := hid (And.intro hs (And.intro hg (And.intro ho7 (And.intro hans (And.intro hok (And.intro hsy hN))))))
    have HO7 := hid hown7
    have HB47 := hid hb47
    have HBA := hid (bl1 w7 (.cells #[.int .i64 y.e, .slice y.pa y.P.length y.pc] 81))
    have HO8 := hid (ze_ hown7 HBA.out)
    have HZ8 := hid (show w6.heap.size <= (w7.alloc (.cells #[.int .i64 y.e, .slice y.pa y.P.length y.pc] 81)).heap.size from Nat.le_trans HSZ.out (Nat.le_trans ho7.size HBA.out.size))
    have hk16 : k + 1 <= 17 := by omega
    clear hs hg ho7 hans hok hsy hN hown7 hb47
    go_wp2_with (at_builtin; refine zv_ Zb_ rfl (.tmp 27) (.tmp 35) rfl w6.heap.size u7 k (cellsOf rcl Y) rfl HO8.out ⟨w7.heap.size, 0, none⟩ 1 1 (rcl y) rfl rfl (zx_ w7 _ _ _ rfl) (rcl_one y) Xt0 HZ8.out ?_; intro v9 w9 hown9 hgrow9 hat9; obtain ⟨a9, c9, hv9⟩ := zd_ hown9; subst hv9; have HO9 := hid hown9; have HG9 := hid (Off.of_row hgrow9); have HAT := hid hat9; clear hown9 hgrow9 hat9)
    go_roundw
    case rel =>
     have ho9 : Off (fun b => u7.ownBlock = some b) w7 w9 := (Off.of HBA.out).trans HG9.out
     have hnew : ∀ b, Value.ownBlock (.slice a9 (k + 1) c9) = some b -> u7.ownBlock = some b ∨ w7.heap.size <= b := fun b hb => by
      rcases HAT.out with e | e
      ·exact .inl (e ▸ hb)
      ·rw [e] at hb; cases hb; exact .inr HBA.out.size
     have hss : ∀ b, ((S b ∨ b = c.p ∨ b = c.b1) ∨ Value.ownBlock (.slice a9 (k + 1) c9) = some b) -> ((S b ∨ b = c.p ∨ b = c.b1) ∨ u7.ownBlock = some b) ∨ w7.heap.size <= b := fun b hb => hb.elim (fun h => .inl (.inl h)) fun h => (hnew b h).imp .inr id
     obtain ⟨h1, h2, h3, h4, h5, h6, h7⟩ := HS2.out
     refine ⟨k + 1, g2, Y ++ [y], by omega, by go_num, hid (by rw [List.length_append, HYL.out]; rfl), hid (HRS.out.trans h1), hid ?_, hid ?_, hid ?_, hid ?_, hid ?_, hid (Nat.le_trans HSZ.out (Nat.le_trans h3.size ho9.size)), hid (fun N hN z hz => by have := h7 (N + k) (HGN.out N hN) z hz; omega)⟩
     ·refine h2.off ho9 (fun b hb => .inr hb) (fun e => ?_) (fun e => ?_) hss (.inl (.inr (.inl ?_))) (.inl (.inr (.inr ?_)))
      ·obtain ⟨_, _, cu, hc⟩ := zb_ HO7.out e
       exact zo_ hc h2.box Xt4 rfl
      ·obtain ⟨_, _, cu, hc⟩ := zb_ HO7.out e
       obtain ⟨cs, hcs⟩ := h2.tb
       exact zo_ hc hcs Xt4 rfl
      ·rw [h1.p, HRS.out.p]
      ·rw [h1.b, HRS.out.b]
     ·rw [HTK.out, ← HRD.out]
      unfold stepD
      rw [List.map_append]
      have e1 := congrArg Prod.fst h4
      have e2 := congrArg Prod.snd h4
      rw [show g2.P = (yw_ f.j g.P o).2 from e2]
      show (_ ++ [yC_ y], _) = _
      rw [show yC_ y = (yw_ f.j g.P o).1 from e1]
     ·rw [zq_]
      have := HO9.out
      simpa [cellsOf] using this
     ·intro z hz
      rcases List.mem_append.1 hz with hz | hz
      ·refine ⟨(HYS.out z hz).1, ((HYS.out z hz).2.off (h3.mono fun b hb => .inl (.inr (.inr (by rw [hb, HRS.out.b]))))).step (ho9.mono fun b hb => .inr hb) hss⟩
      ·rw [List.mem_singleton] at hz; subst hz
       exact ⟨h5, h6.step (ho9.mono fun b hb => .inr hb) hss⟩
     ·exact Off.below HB47.out ho9 HB47.out.size (fun b hb => by have := (zb_ HO7.out hb).1; have := HB6.out.size; omega)
    case measure => simp [intOf]; omega
   ·have d1 : ¬ (k : Int) < (x.on : Int) := by omega
    have hke : k = x.on := by omega
    have HTA := hid (show x.ops.take k = x.ops from List.take_of_length_le (by rw [HXL.out]; omega))
    have hrd := HRD.out
    rw [HTA.out] at hrd
    have HRD2 := hid hrd
    have HLB := hid (show ∀ b, (S b ∨ b = c.b1) -> b < wr.heap.size from fun b hb => by
     have h6 := HSZ.out
     have hc := HC.out.2.2.2
     have h0 := HB0.out.size
     rcases hb with hb | hb
     ·exact Nat.lt_of_lt_of_le (HH.out.2.1 b hb) h0
     ·omega)
    have HRS2 := hid (show ∀ W', Off S wr W' -> ∃ a cc, u7 = .slice a Y.length cc /\ jL_ W' a Y from fun W' o' => by
     obtain ⟨a, cc, e⟩ := zd_ HOV.out
     have hov := zm_ HOV.out o' (fun b hb => by have := HH.out.2.1 b hb; have := HB04.out.size; have := HB6.out.size; omega)
     rw [e] at hov
     exact ⟨a, cc, by rw [e, HYL.out], own_res hov HYL.out fun y hy => ((HYS.out y hy).2.less fun b hb => .inl (.inl hb)) W' o'⟩)
    obtain ⟨ua, uc, hu, _⟩ := HRS2.out wr (Off.refl _ _)
    have hpp := (HH.out.1.below HB0.out).box
    have hp7 := hpp.cell 7
    have hf7 := hpp.frozen 7
    have hc7 := HRF.out.c
    rw [HRS.out.p] at hc7
    have hp7 : wr.cell? ⟨f.p, 7, none⟩ = some (.slice (some ⟨f.b1, 0, none⟩) f.Ts.length f.tc) := hp7
    have HPP := hid hpp
    have HKE := hid hke
    clear hrd hpp hke hk
    cases hab : x.ab with
    | true =>
     rw [hab] at x2
     have HAB := hid hab
     clear hab
     go_wp2_with fail
     go_ret2
     have hr2 := HRD2.out
     have e1 := congrArg Prod.fst hr2
     refine HR.out _ _ ⟨f, ua, uc, Y, rfl, Off.of HB0.out, rfl, rfl, .inl HH.out.1.hb, ?_, by rw [HAB.out]; rfl, e1, fun y hy => (HYS.out y hy).1, fun W' o' => ?_, fun N hN z hz => by have := hN z hz; omega⟩
     ·exact HH.out.1.off (T := fun _ => False) (Off.of HB0.out) (fun _ h => h.elim) (fun h => h) (fun h => h) (fun b hb => .inl (hb.elim id fun e => e ▸ HH.out.1.hb)) (.inl HH.out.1.hp) (.inr rfl)
     ·obtain ⟨a', c', e', h⟩ := HRS2.out W' o'
      rw [hu] at e'; cases e'; exact h
    | false =>
     rw [hab] at x2
     have HAB := hid hab
     clear hab
     go_wp2_with fail
     go_ret2
     have hr2 := HRD2.out
     have e1 := congrArg Prod.fst hr2
     have e2 := congrArg Prod.snd hr2
     have hbx := heap_setCell_same wr f.p 7 _ 48 (.slice (some ⟨g.b1, 0, none⟩) g.Ts.length g.tc) HPP.out
     have hof : Off (fun b => b = f.p) wr (wr.setCell ⟨f.p, 7, none⟩ (.slice (some ⟨g.b1, 0, none⟩) g.Ts.length g.tc)) := Off.set (S := fun b => b = f.p) (Off.refl _ wr) ⟨f.p, 7, none⟩ rfl _
     obtain ⟨cs, hcs⟩ := HRF.out.tb
     have hne : ¬ g.b1 = f.p := fun e => zo_ hcs HPP.out Xt4 e
     have hfS : ∀ b, b = f.p -> S b := fun b hb => hb ▸ HH.out.1.hp
     refine HR.out _ _ ⟨⟨f.p, f.j, g.b1, g.tc, g.Ts⟩, ua, uc, Y, rfl, (Off.of HB0.out).trans hof, rfl, rfl, .inr (by show w.heap.size <= g.b1; rw [HRS.out.b]; have := HC4.out.2; have := HB04.out.size; omega), ⟨hbx, ?_, ⟨cs, hof.box hcs hne⟩, ?_, HH.out.1.ok, ?_, HRF.out.cap, .inl HH.out.1.hp, .inr rfl, HRF.out.sl, HRF.out.lim⟩, by rw [HAB.out]; exact e2, e1, fun y hy => (HYS.out y hy).1, fun W' o' => ?_, fun N hN z hz => by have := HGN.out N hN z hz; have := HKE.out; omega⟩
     ·exact HH.out.1.job.step ((Off.of HB0.out).trans (hof.mono hfS)) (fun b hb => hb.imp id fun e => by
       have e : b = g.b1 := e
       rw [e, HRS.out.b]; have := HC4.out.2; have := HB04.out.size; omega)
     ·exact HRF.out.tbs.step (hof.mono fun b hb => .inl (.inl (hfS b hb))) (hof.block g.b1 hcs.lt hne) (fun b hb => by
       rcases hb with hb | hb
       ·exact .inl (.inl (.inl hb))
       ·have hb : b = g.b1 := hb
        exact .inl (.inl (.inr (.inr (by rw [hb, HRS.out.b])))))
     ·show g.Ts.length = f.j.n
      rw [HRF.out.len, HRS.out.j, HCJ.out]
     ·obtain ⟨a', c', e', h⟩ := HRS2.out W' ((hof.mono hfS).trans o')
      rw [hu] at e'; cases e'; exact h
def WcR (W : World) (a : Option Addr) (L : List WtV) : Prop := ∀ (k : Nat) (y : WtV), L[k]? = some y -> ∃ b off, a = some ⟨b, off, none⟩ /\ ∀ i, i < 3 -> W.cell? ⟨b, off + k * 3 + i, none⟩ = (wcl y)[i]?
theorem WcR.below {W W' : World} {a : Option Addr} {L : List WtV} (h : WcR W a L) (hb : Below W.heap.size W W') : WcR W' a L := fun k y hy => by
 obtain ⟨b, off, e, c⟩ := h k y hy
 refine ⟨b, off, e, fun i hi => ?_⟩
 have h1 := c i hi
 obtain ⟨u, hu⟩ : ∃ u, (wcl y)[i]? = some u := ⟨_, List.getElem?_eq_getElem (by rw [zP_]; exact hi)⟩
 rw [hu] at h1 ⊢
 exact tcb hb h1
theorem wc_own {W : World} {base n c : Nat} {a : Option Addr} {L : List WtV} (h : W.ownsRow base 84 3 (.slice a n c) n (cellsOf wcl L)) (hn : L.length = n) : WcR W a L := fun k y hy => by
 obtain ⟨g, e, _, hc⟩ := zt_ zP_ Xt4 h hn k y hy
 exact ⟨g, 0, e, fun i hi => by rw [Nat.zero_add]; exact hc i hi⟩
theorem WcR.take {W : World} {a : Option Addr} {L : List WtV} (h : WcR W a L) (k : Nat) : WcR W a (L.take k) := fun j y hy => by
 rw [List.getElem?_take] at hy
 split at hy
 ·exact h j y hy
 ·cases hy
theorem WcR.drop {W : World} {b off : Nat} {L : List WtV} (h : WcR W (some ⟨b, off, none⟩) L) (k : Nat) : WcR W (some ⟨b, off + k * 3, none⟩) (L.drop k) := fun j y hy => by
 rw [List.getElem?_drop] at hy
 obtain ⟨b', off', e, c⟩ := h (k + j) y hy
 cases e
 refine ⟨b, off + k * 3, rfl, fun i hi => ?_⟩
 have := c i hi
 rwa [show off + k * 3 + j * 3 + i = off + (k + j) * 3 + i by rw [Nat.add_mul]; omega]
theorem wc_read {W : World} {a : Addr} {xs : List WtV} (h : WcR W (some a) xs) : ∀ (j : Nat) (u : Value), (cellsOf wcl xs)[j]? = some u -> W.cell? (a.add j) = some u := fun j u hj => by
 have hl := (List.getElem?_eq_some_iff.1 hj).1
 rw [zK_ zP_] at hl
 obtain ⟨x, hx⟩ : ∃ x, xs[j / 3]? = some x := ⟨_, List.getElem?_eq_getElem Xt0⟩
 obtain ⟨b, off, e, c⟩ := h (j / 3) x hx
 cases e
 have h1 := c (j % 3) Xt0
 have h2 := z4_ zP_ xs (j / 3) (j % 3) x hx Xt0
 have h3 : j / 3 * 3 + j % 3 = j := by omega
 rw [h3, hj] at h2
 rw [← h2] at h1
 rw [show off + j / 3 * 3 + j % 3 = off + j by omega] at h1
 rw [zG_]
 exact h1
theorem je_ (w : World) (ty : TypeId) (base : Nat) (v : Value) (n : Nat) (xs : List Value) (hown : w.ownsRow base 84 3 v n xs)
  (ad : Option Addr) (c len : Nat) (ys : List WtV) (hlen : ys.length = len) (hR : WcR w ad ys) (hnil : ad = none -> c = 0) (hb : n + len <= 2097152) (hbase : base <= w.heap.size) :
  ∃ v' w', (Builtin.append_ #[41, 41] ty #[v, .slice ad len c]).run prog w = .ok v' w' /\ w'.ownsRow base 84 3 v' (n + len) (xs ++ cellsOf wcl ys) /\ w.grownBy w' v.ownBlock := by
 subst hlen
 obtain ⟨i0, hi, hz0, hz1, hz2⟩ := info_parts info84
 rcases ad with _ | ad
 ·obtain rfl := hnil rfl
  have : ys = [] := by
   exact Xb108
  subst this
  exact ⟨v, w, run_append_owned_none (P := prog) (w := w) base 41 ty 84 i0 3 underlying41 hi v n xs hown, by simpa [cellsOf] using hown, ⟨rfl, rfl, rfl, Nat.le_refl _, fun _ _ _ => rfl⟩⟩
 ·obtain ⟨v', w', h1, h2, h3, _⟩ := run_append_own (P := prog) w base 41 ty 84 i0 (.agg #[.int .i64 0, .slice none 0 0, .slice none 0 0]) 3 56 underlying41 hi hz0 hz1 hz2 rfl Xt4 v n xs hown ad ys.length c (cellsOf wcl ys) (zK_ zP_ ys) (wc_read hR) (cellsOf_one wcl_one ys) Xt15 Xt0 hbase
  exact ⟨v', w', h1, h2, h3⟩
theorem z7_ {ops : Array Oper} {o : Oper} {a : Act} {w : World} {Kt : Act -> World -> Prop} {Q : Exit -> Act -> World -> Prop} {Z : Prop} (hgd : o.guard = none) (s x : Operand)
  (ho : o.op = .call { callee := .builtin .append, args := #[s, x], argTypes := #[41, 41] })
  (base : Nat) (v : Value) (n : Nat) (xs : List Value) (hs : a.eval s = v) (hown : w.ownsRow base 84 3 v n xs)
  (ad : Option Addr) (c len : Nat) (ys : List WtV) (hlen : ys.length = len) (hx : a.eval x = .slice ad len c) (hR : WcR w ad ys) (hnil : ad = none -> c = 0) (hb : n + len <= 2097152) (hbase : base <= w.heap.size)
  (h : ∀ v' w', w'.ownsRow base 84 3 v' (n + len) (xs ++ cellsOf wcl ys) -> w.grownBy w' v.ownBlock -> Kt (a.put o.dst v') w') :
  if Region.wanted o (yielded ops a.tmps) = true then Oper.wp prog o a w Kt Q else Z := by
 have hw : Region.wanted o (yielded ops a.tmps) = true := by simp [Region.wanted, hgd]
 rw [if_pos hw]
 obtain ⟨v', w', h1, h2, h3⟩ := je_ w o.type base v n xs hown ad c len ys hlen hR hnil hb hbase
 exact Xb30
theorem hi41 (W : World) (a : Option Addr) (n c i : Nat) (hi : i <= n) (hnc : n <= c) : (Instr.slice 41 (.slice a n c) .none (some (.int .i64 (i : Int))) .none).run prog W = .ok (.slice a i c) W := by
 obtain ⟨i0, hi0, hz0, hz1, hz2⟩ := info_parts info84
 have hel : prog.elem 41 = 84 := by simp [Program.elem, underlying41]
 rw [run_slice_h (P := prog) (w := W) 41 a n c Xt67 .i64 i Xt0 Xt0]
 have hs : ((sizeOf (prog.elem 41)).run prog W) = .ok 3 W := by rw [hel]; simp [sizeOf, typeInfo, hi0, hz1]
 rw [hs]
 exact Xb109
theorem lo41 (W : World) (a : Option Addr) (P : List WtV) (n c i : Nat) (hn : P.length = n) (hi : i <= n) (hnc : n <= c) (hna : a = none -> c = 0) (hP : WcR W a P) :
  ∃ a', (∀ W', (Instr.slice 41 (.slice a n c) (some (.int .i64 (i : Int))) .none .none).run prog W' = .ok (.slice a' (n - i) (c - i)) W') /\ (∀ W', WcR W' a P -> WcR W' a' (P.drop i)) /\ (a' = none -> c - i = 0) := by
 obtain ⟨i0, hi0, hz0, hz1, hz2⟩ := info_parts info84
 have hel : prog.elem 41 = 84 := by simp [Program.elem, underlying41]
 have hs : ∀ W', ((sizeOf (prog.elem 41)).run prog W') = .ok 3 W' := fun W' => by rw [hel]; simp [sizeOf, typeInfo, hi0, hz1]
 by_cases hc : c = i
 ·refine ⟨a, fun W' => ?_, fun W' _ k x hx => ?_, fun _ => by omega⟩
  ·rw [run_slice_l (P := prog) (w := W') 41 a n c Xt67 .i64 i Xt0 Xt0, hs]
   cases a <;> simp [sliced, Result.andThen, Addr.add, hc]
  ·rw [List.getElem?_drop, List.getElem?_eq_none Xt0] at hx
   cases hx
 ·cases a with
  | none => have := hna rfl; omega
  | some ad =>
   obtain ⟨b, off, sp⟩ := ad
   by_cases h0 : P = []
   ·refine ⟨some ((⟨b, off, sp⟩ : Addr).add (i * 3)), fun W' => ?_, fun W' _ k x hx => ?_, fun h => by cases h⟩
    ·rw [run_slice_l (P := prog) (w := W') 41 (some ⟨b, off, sp⟩) n c Xt67 .i64 i Xt0 Xt0, hs]
     exact Xb121
    ·subst h0; simp at hx
   ·obtain ⟨x, hx⟩ : ∃ x, P[0]? = some x := ⟨_, List.getElem?_eq_getElem Xt68⟩
    obtain ⟨b', off', e, _⟩ := hP 0 x hx
    cases e
    refine ⟨some ⟨b, off + i * 3, none⟩, fun W' => ?_, fun W' h => h.drop i, fun h => by cases h⟩
    rw [run_slice_l (P := prog) (w := W') 41 (some ⟨b, off, none⟩) n c Xt67 .i64 i Xt0 Xt0, hs]
    exact Xb123
def ltQ (a b : Nat × List Int) : Bool := decide (a.1 < b.1) || (decide (a.1 = b.1) && ltL a.2 b.2)
def wk (y : Nat × List Int × List (List Int)) : Nat × List Int := (y.1, y.2.1)
theorem ltQ_irr (a : Nat × List Int) : ltQ a a = false := by unfold ltQ; rw [zR_]; simp
theorem QQ_ {a b c : Nat × List Int} (h : ltQ a b = true) (k : ltQ b c = true) : ltQ a c = true := by
 unfold ltQ at *
 simp only [Bool.or_eq_true, Bool.and_eq_true, decide_eq_true_eq] at *
 rcases h with h | ⟨h1, h2⟩
 ·rcases k with k | ⟨k1, k2⟩
  ·exact .inl Xt0
  ·exact .inl Xt0
 ·rcases k with k | ⟨k1, k2⟩
  ·exact .inl Xt0
  ·exact .inr ⟨by omega, zF_ h2 k2⟩
theorem QR_ {a b : Nat × List Int} (h : ltQ a b = false) (k : ltQ b a = false) : a = b := by
 unfold ltQ at *
 simp only [Bool.or_eq_false_iff, Bool.and_eq_false_iff, decide_eq_false_iff_not] at *
 have e : a.1 = b.1 := by omega
 have h2 := h.2.resolve_left (fun n => n e)
 have k2 := k.2.resolve_left (fun n => n e.symm)
 exact Prod.ext e (xh_ h2 k2)
def atW (K : Nat × List Int) : Ws -> Nat -> Nat -> Nat
 | [], _, a => a
 | e :: r, i, a => atW K r (i + 1) (if ltQ (wk e) K then i + 1 else a)
theorem atW_no {K : Nat × List Int} : ∀ {l : Ws} {i a : Nat}, (∀ e ∈ l, ltQ (wk e) K = false) -> atW K l i a = a
 | [], _, _, _ => rfl
 | e :: r, i, a, h => by
  unfold atW
  rw [h e (List.mem_cons_self ..)]
  exact atW_no fun x hx => h x (List.mem_cons_of_mem _ hx)
theorem atW_pre {K : Nat × List Int} {B : Ws} (hb : ∀ e ∈ B, ltQ (wk e) K = false) : ∀ {A : Ws} {i a : Nat}, (∀ e ∈ A, ltQ (wk e) K = true) -> (A = [] -> a = i) -> atW K (A ++ B) i a = i + A.length
 | [], i, a, _, h => by rw [List.nil_append, atW_no hb, h rfl]; rfl
 | e :: A, i, a, h, _ => by
  rw [List.cons_append]
  unfold atW
  rw [h e (List.mem_cons_self ..), if_pos rfl, atW_pre hb (fun x hx => h x (List.mem_cons_of_mem _ hx)) (fun _ => rfl), List.length_cons]
  omega
def hasW (K : Nat × List Int) (l : Ws) : Bool := l.any fun e => decide (wk e = K)
def insW (l : Ws) (t : Nat) (K : List Int) (R : List (List Int)) : Ws := if hasW (t, K) l then l else l.take (atW (t, K) l 0 0) ++ ((t, K, R) :: l.drop (atW (t, K) l 0 0))
def RisQ : Ws -> Prop := List.Pairwise fun a b => ltQ (wk a) (wk b) = true
theorem QC_ {K : Nat × List Int} : ∀ {l : Ws}, RisQ l -> ∃ A B, l = A ++ B /\ (∀ e ∈ A, ltQ (wk e) K = true) /\ ∀ e ∈ B, ltQ (wk e) K = false
 | [], _ => ⟨[], [], rfl, Xt70, Xt70⟩
 | x :: l, h => by
  obtain ⟨h1, h2⟩ := List.pairwise_cons.1 h
  cases hx : ltQ (wk x) K with
  | true =>
   obtain ⟨A, B, e, ha, hb⟩ := QC_ (K := K) (show RisQ l from h2)
   exact ⟨x :: A, B, by rw [e]; rfl, (fun y hy => by rcases List.mem_cons.1 hy with rfl | hy; exact hx; exact ha y hy), hb⟩
  | false =>
   refine ⟨[], x :: l, rfl, Xt70, fun y hy => ?_⟩
   rcases List.mem_cons.1 hy with rfl | hy
   ·exact hx
   ·cases e : ltQ (wk y) K with
    | false => rfl
    | true => rw [QQ_ (h1 y hy) e] at hx; cases hx
theorem insW_ok {l : Ws} (h : RisQ l) (t : Nat) (K : List Int) (R : List (List Int)) : RisQ (insW l t K R) /\ ∀ x, x ∈ insW l t K R ↔ x ∈ l ∨ (hasW (t, K) l = false /\ x = (t, K, R)) := by
 unfold insW
 cases hh : hasW (t, K) l with
 | true => rw [if_pos rfl]; exact ⟨h, fun x => by simp⟩
 | false =>
  rw [if_neg Xt5]
  obtain ⟨A, B, e, ha, hb⟩ := QC_ (K := (t, K)) h
  have hat : atW (t, K) l 0 0 = A.length := by rw [e, atW_pre hb ha (fun _ => rfl), Nat.zero_add]
  rw [hat, e, List.take_left' rfl, List.drop_left' rfl]
  rw [e] at h
  obtain ⟨p1, p2, p3⟩ := List.pairwise_append.1 h
  refine ⟨List.pairwise_append.2 ⟨p1, List.pairwise_cons.2 ⟨fun y hy => ?_, p2⟩, fun a ha' y hy => ?_⟩, fun x => by
                                            simp only [List.mem_append, List.mem_cons, true_and]
                                            constructor
                                            ·rintro (h | h | h)
                                             ·exact .inl (.inl h)
                                             ·exact .inr h
                                             ·exact .inl (.inr h)
                                            ·rintro ((h | h) | h)
                                             ·exact .inl h
                                             ·exact .inr (.inr h)
                                             ·exact .inr (.inl h)⟩
  ·have h1 := hb y hy
   cases h2 : ltQ (wk (t, K, R)) (wk y) with
   | true => rfl
   | false =>
    have h3 := QR_ h1 h2
    have : hasW (t, K) l = true := by
     unfold hasW
     rw [List.any_eq_true]
     exact ⟨y, by rw [e]; exact List.mem_append_right _ hy, decide_eq_true h3⟩
    rw [hh] at this; cases this
  ·rcases List.mem_cons.1 hy with rfl | hy
   ·exact ha a ha'
   ·exact p3 a ha' y hy
def xU_ (o : zj_) (e : Int) : Bool := decide (e = 0) && decide (2 <= o.k /\ o.k <= 4)
def rowT (T : List (List Pr)) (t : Nat) (K : List Int) : List (List Int) := (y9_ (T.getD t []) K).getD []
def stepQ (T : List (List Pr)) (l : Ws) (p : zj_ × Int) : Ws := if xU_ p.1 p.2 then insW l p.1.t.toNat p.1.K (rowT T p.1.t.toNat p.1.K) else l
def Qv_ (T : List (List Pr)) (Z : List (zj_ × Int)) : Ws := Z.foldl (stepQ T) []
theorem docQ_take (T : List (List Pr)) {Z : List (zj_ × Int)} {k : Nat} {p : zj_ × Int} (h : Z[k]? = some p) : Qv_ T (Z.take (k + 1)) = stepQ T (Qv_ T (Z.take k)) p := by
 unfold Qv_
 rw [List.take_add_one, h, List.foldl_append]; rfl
theorem docQ_ok (T : List (List Pr)) (Z : List (zj_ × Int)) : RisQ (Qv_ T Z) /\ ∀ x, x ∈ Qv_ T Z ↔ ∃ p ∈ Z, xU_ p.1 p.2 = true /\ x = (p.1.t.toNat, p.1.K, rowT T p.1.t.toNat p.1.K) := by
 induction Z using zV_ with
 | nil => exact ⟨List.Pairwise.nil, fun x => ⟨(fun h => by cases h), (fun ⟨p, hp, _⟩ => by cases hp)⟩⟩
 | append_singleton l p ih =>
  have e : Qv_ T (l ++ [p]) = stepQ T (Qv_ T l) p := by unfold Qv_; rw [List.foldl_append]; rfl
  rw [e]
  unfold stepQ
  cases hw : xU_ p.1 p.2 with
  | false =>
   rw [if_neg Xt5]
   refine ⟨ih.1, fun x => (ih.2 x).trans ⟨fun ⟨q, hq, h⟩ => ⟨q, List.mem_append_left _ hq, h⟩, fun ⟨q, hq, h1, h2⟩ => ?_⟩⟩
   rcases List.mem_append.1 hq with hq | hq
   ·exact ⟨q, hq, h1, h2⟩
   ·rw [List.mem_singleton] at hq; subst hq; rw [hw] at h1; cases h1
  | true =>
   rw [if_pos rfl]
   obtain ⟨h1, h2⟩ := insW_ok ih.1 p.1.t.toNat p.1.K (rowT T p.1.t.toNat p.1.K)
   refine ⟨h1, fun x => (h2 x).trans ⟨fun h => ?_, fun ⟨q, hq, q1, q2⟩ => ?_⟩⟩
   ·rcases h with h | ⟨_, h⟩
    ·obtain ⟨q, hq, q1, q2⟩ := (ih.2 x).1 h
     exact ⟨q, List.mem_append_left _ hq, q1, q2⟩
    ·exact ⟨p, by simp, hw, h⟩
   ·rcases List.mem_append.1 hq with hq | hq
    ·exact .inl ((ih.2 x).2 ⟨q, hq, q1, q2⟩)
    ·rw [List.mem_singleton] at hq; subst hq
     cases hh : hasW (q.1.t.toNat, q.1.K) (Qv_ T l) with
     | false => exact .inr ⟨rfl, q2⟩
     | true =>
      unfold hasW at hh
      rw [List.any_eq_true] at hh
      obtain ⟨y, hy, he⟩ := hh
      rw [decide_eq_true_eq] at he
      obtain ⟨s, hs, s1, s2⟩ := (ih.2 y).1 hy
      refine .inl ?_
      have e1 : y.1 = q.1.t.toNat := congrArg Prod.fst he
      have e2 : y.2.1 = q.1.K := congrArg Prod.snd he
      have : x = y := by
       rw [q2]
       rw [s2] at e1 e2 ⊢
       have e1 : s.1.t.toNat = q.1.t.toNat := e1
       have e2 : s.1.K = q.1.K := e2
       rw [e1, e2]
      rw [this]; exact hy
theorem risQ_ext : ∀ {a b : Ws}, RisQ a -> RisQ b -> (∀ x, x ∈ a ↔ x ∈ b) -> a = b
 | [], [], _, _, _ => rfl
 | [], y :: b, _, _, h => absurd ((h y).2 (List.mem_cons_self ..)) Xt5
 | x :: a, [], _, _, h => absurd ((h x).1 (List.mem_cons_self ..)) Xt5
 | x :: a, y :: b, ha, hb, h => by
  obtain ⟨a1, a2⟩ := List.pairwise_cons.1 ha
  obtain ⟨b1, b2⟩ := List.pairwise_cons.1 hb
  have e : x = y := by
   rcases List.mem_cons.1 ((h x).1 (List.mem_cons_self ..)) with e | e
   ·exact e
   ·rcases List.mem_cons.1 ((h y).2 (List.mem_cons_self ..)) with e' | e'
    ·exact e'.symm
    ·have := QQ_ (b1 x e) (a1 y e')
     rw [ltQ_irr] at this; cases this
  subst e
  rw [risQ_ext (show RisQ a from a2) (show RisQ b from b2) fun z => ?_]
  constructor
  ·intro hz
   rcases List.mem_cons.1 ((h z).1 (List.mem_cons_of_mem _ hz)) with e | e
   ·subst e; have := a1 z hz; rw [ltQ_irr] at this; cases this
   ·exact e
  ·intro hz
   rcases List.mem_cons.1 ((h z).2 (List.mem_cons_of_mem _ hz)) with e | e
   ·subst e; have := b1 z hz; rw [ltQ_irr] at this; cases this
   ·exact e
theorem QX_ {T : List (List Pr)} : ∀ {ws : Ws}, ws.Pairwise xo_ -> ∀ {x}, x ∈ ws -> y8_ T ws x.1 x.2.1 = if x.2.2 = [] then none else some x.2.2
 | [], _, _, h => by cases h
 | y :: ws, hd, x, h => by
  obtain ⟨h1, h2⟩ := List.pairwise_cons.1 hd
  unfold y8_
  rw [List.find?_cons]
  rcases List.mem_cons.1 h with e | e
  ·subst e
   rw [show decide (x.1 = x.1 /\ x.2.1 = x.2.1) = true by simp]
  ·have hn := h1 x e
   unfold xo_ at hn
   rw [show decide (y.1 = x.1 /\ y.2.1 = x.2.1) = false from decide_eq_false hn]
   exact QX_ (T := T) h2 e
theorem mem_setW {ws : Ws} {t : Nat} {K : List Int} {R : List (List Int)} {q : Nat × List Int} : (∃ w ∈ xX_ ws t K R, wk w = q) ↔ (∃ w ∈ ws, wk w = q) ∨ q = (t, K) := by
 unfold xX_
 split
 ·rename_i ha
  rw [List.any_eq_true] at ha
  obtain ⟨v, hv, he⟩ := ha
  rw [decide_eq_true_eq] at he
  constructor
  ·rintro ⟨w, hw, e⟩
   obtain ⟨u, hu, rfl⟩ := List.mem_map.1 hw
   split at e
   ·exact .inr e.symm
   ·exact .inl ⟨u, hu, e⟩
  ·rintro (⟨w, hw, e⟩ | e)
   ·by_cases c : w.1 = t /\ w.2.1 = K
    ·refine ⟨(t, K, R), List.mem_map.2 ⟨w, hw, by rw [if_pos c]⟩, ?_⟩
     rw [← e]; exact Prod.ext c.1.symm c.2.symm
    ·exact ⟨w, List.mem_map.2 ⟨w, hw, by rw [if_neg c]⟩, e⟩
   ·exact ⟨(t, K, R), List.mem_map.2 ⟨v, hv, by rw [if_pos he]⟩, e.symm⟩
 ·constructor
  ·rintro ⟨w, hw, e⟩
   rcases List.mem_append.1 hw with hw | hw
   ·exact .inl ⟨w, hw, e⟩
   ·rw [List.mem_singleton] at hw; subst hw; exact .inr e.symm
  ·rintro (⟨w, hw, e⟩ | e)
   ·exact ⟨w, List.mem_append_left _ hw, e⟩
   ·exact ⟨(t, K, R), by simp, e.symm⟩
theorem callP_ws (j : Job) (T : List (List Pr)) (ws : Ws) (o : zj_) : (xU_ o (yf_ j T ws o).1.1 = true /\ ∃ R, (yf_ j T ws o).2 = xX_ ws o.t.toNat o.K R) ∨ (xU_ o (yf_ j T ws o).1.1 = false /\ (yf_ j T ws o).2 = ws) := by
 unfold yf_ xU_
 split
 ·rename_i h
  refine .inr ⟨?_, rfl⟩
  rw [h]; simp
 ·split
  ·rename_i h
   exact .inl ⟨by rw [h]; simp, _, rfl⟩
  ·split
   ·rename_i h
    split
    ·exact .inr ⟨by simp, rfl⟩
    ·exact .inl ⟨by rw [h]; simp, _, rfl⟩
   ·split
    ·rename_i h
     split
     ·exact .inl ⟨by rw [h]; simp, _, rfl⟩
     ·exact .inr ⟨by simp, rfl⟩
    ·rename_i h1 h2 h3 h4
     split <;> exact .inr ⟨by simp; omega, rfl⟩
def zipA (j : Job) (T : List (List Pr)) (ops : List zj_) : List (zj_ × Int) := ops.zip ((z6_ j T ops).1.map Prod.fst)
theorem zipA_snoc (j : Job) (T : List (List Pr)) (l : List zj_) (o : zj_) : zipA j T (l ++ [o]) = zipA j T l ++ [(o, (yf_ j T (z6_ j T l).2 o).1.1)] := by
 have e : z6_ j T (l ++ [o]) = y7_ j T (z6_ j T l) o := by unfold z6_; rw [List.foldl_append]; rfl
 unfold zipA
 rw [e]
 unfold y7_
 rw [List.map_append, List.zip_append (by rw [List.length_map]; exact (x1_ j T l).1.symm)]
 rfl
theorem keys_run (j : Job) (T : List (List Pr)) (ops : List zj_) (q : Nat × List Int) : (∃ w ∈ (z6_ j T ops).2, wk w = q) ↔ ∃ p ∈ zipA j T ops, xU_ p.1 p.2 = true /\ q = (p.1.t.toNat, p.1.K) := by
 induction ops using zV_ with
 | nil => exact ⟨(fun ⟨w, hw, _⟩ => by cases hw), (fun ⟨p, hp, _⟩ => by cases hp)⟩
 | append_singleton l o ih =>
  have e : z6_ j T (l ++ [o]) = y7_ j T (z6_ j T l) o := by unfold z6_; rw [List.foldl_append]; rfl
  rw [zipA_snoc, e]
  unfold y7_
  rcases callP_ws j T (z6_ j T l).2 o with ⟨h1, R, h2⟩ | ⟨h1, h2⟩
  ·rw [h2, mem_setW, ih]
   constructor
   ·rintro (⟨p, hp, h⟩ | h)
    ·exact ⟨p, List.mem_append_left _ hp, h⟩
    ·exact ⟨(o, (yf_ j T (z6_ j T l).2 o).1.1), by simp, h1, h⟩
   ·rintro ⟨p, hp, h, k⟩
    rcases List.mem_append.1 hp with hp | hp
    ·exact .inl ⟨p, hp, h, k⟩
    ·rw [List.mem_singleton] at hp; subst hp; exact .inr k
  ·rw [h2, ih]
   constructor
   ·rintro ⟨p, hp, h⟩
    exact ⟨p, List.mem_append_left _ hp, h⟩
   ·rintro ⟨p, hp, h, k⟩
    rcases List.mem_append.1 hp with hp | hp
    ·exact ⟨p, hp, h, k⟩
    ·rw [List.mem_singleton] at hp; subst hp; rw [h1] at h; cases h
theorem docQ_eq {j : Job} {T : List (List Pr)} (h : ∀ t, z1_ (T.getD t [])) {ops : List zj_} (ht : ∀ o ∈ ops, o.t.toNat < T.length) {E : Ws} (hp : E.Perm (z6_ j T ops).2) (hs : E.Pairwise fun x y => ltQ (wk y) (wk x) = false) : E = Qv_ (yo_ T (z6_ j T ops).2) (zipA j T ops) := by
 have hap := jp_ j T ops
 obtain ⟨d1, d2⟩ := docQ_ok (yo_ T (z6_ j T ops).2) (zipA j T ops)
 have hrow : ∀ x ∈ (z6_ j T ops).2, x = (x.1, x.2.1, rowT (yo_ T (z6_ j T ops).2) x.1 x.2.1) := fun x hx => by
  have h1 := yz_ h (z6_ j T ops).2 (runP_tab j ops ht) hap x.1 x.2.1
  rw [QX_ hap hx] at h1
  unfold rowT
  rw [h1]
  obtain ⟨a, b, c⟩ := x
  by_cases e : c = []
  ·simp [e]
  ·simp [e]
 have hE : RisQ E := by
  have h1 : E.Pairwise xo_ := (hp.symm.pairwise_iff (R := xo_) (fun h ⟨a, b⟩ => h ⟨a.symm, b.symm⟩)).1 hap
  refine (hs.and h1).imp fun {x y} ⟨a, b⟩ => ?_
  cases e : ltQ (wk x) (wk y) with
  | true => rfl
  | false =>
   have h3 : wk x = wk y := QR_ e a
   exact absurd ⟨show x.1 = y.1 from congrArg (fun q : Nat × List Int => q.1) h3, show x.2.1 = y.2.1 from congrArg (fun q : Nat × List Int => q.2) h3⟩ b
 refine risQ_ext hE d1 fun x => ?_
 rw [hp.mem_iff, d2]
 constructor
 ·intro hx
  obtain ⟨p, hp, h1, h2⟩ := (keys_run j T ops (wk x)).1 ⟨x, hx, rfl⟩
  refine ⟨p, hp, h1, ?_⟩
  have e1 : x.1 = p.1.t.toNat := congrArg Prod.fst h2
  have e2 : x.2.1 = p.1.K := congrArg Prod.snd h2
  rw [← e1, ← e2]
  exact hrow x hx
 ·rintro ⟨p, hp, h1, rfl⟩
  obtain ⟨w, hw, e⟩ := (keys_run j T ops (p.1.t.toNat, p.1.K)).2 ⟨p, hp, h1, rfl⟩
  have e1 : w.1 = p.1.t.toNat := congrArg Prod.fst e
  have e2 : w.2.1 = p.1.K := congrArg Prod.snd e
  have h3 := hrow w hw
  rw [e1, e2] at h3
  rw [← h3]; exact hw
end Go.Proofs.YthmofoldmdafoaaGreat
