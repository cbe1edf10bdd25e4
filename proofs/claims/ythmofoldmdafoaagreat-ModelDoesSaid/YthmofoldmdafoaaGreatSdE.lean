/- Part of the proof that ModelDoes holds for every input: tables, under any transactions, answer, write and stand as the document says. Part 31. -/
import Derived.Test.YthmofoldmdafoaaGreatSdD
set_option linter.unusedVariables false
set_option linter.unusedSimpArgs false
set_option maxRecDepth 100000
set_option maxHeartbeats 4000000
namespace Go.Proofs.YthmofoldmdafoaaGreat
open Go.ChangeShapes Go.WideShapes Go.ChangeAt Go.RowKit
open Go.Lib (hid)
open Go.Proofs.Tryz
theorem qz_ {W X : World} {B : Nat} {a : Option Addr} {c : Nat} {L : List Int} {x : Option Addr} {n m : Nat} (h : Ls .u8 W a c L) (hb : zg_ W B #[.int .i64 0, .slice x n m] 81) (o : Off (fun k => k = B) W X) : Ls .u8 X a c L := ⟨fun k hk => by
 obtain ⟨b, off, e, c0⟩ := h.rd k hk
 refine ⟨b, off, e, js_ o c0 fun e2 => ?_⟩
 have e2 : b = B := e2
 subst e2
 rw [hb.cell] at c0
 match off + k, c0 with
 | 0, c0 => cases c0
 | 1, c0 => cases c0
 | i + 2, c0 => simp at c0, h.nl, h.le⟩
theorem x3_ {f u : List Int} {en : Bool} {m : Int} {L acc : List PrV} {k : Nat} {e : PrV} (h : L[k]? = some e) (hm : (acc.length : Int) < m) (hs : (ltL e.K f || (en && !ltL e.K u)) = true) : qa_ PrV.K f u en m (L.drop k) acc = qa_ PrV.K f u en m (L.drop (k + 1)) acc := by
 rw [zW_ h]
 show (if _ then (if _ then _ else _) else _) = _
 rw [if_pos hm, if_pos hs]
theorem x2_ {f u : List Int} {en : Bool} {m : Int} {L acc : List PrV} {k : Nat} {e : PrV} (h : L[k]? = some e) (hm : (acc.length : Int) < m) (hs : (ltL e.K f || (en && !ltL e.K u)) = false) : qa_ PrV.K f u en m (L.drop k) acc = qa_ PrV.K f u en m (L.drop (k + 1)) (acc ++ [e]) := by
 rw [zW_ h]
 show (if _ then (if _ then _ else _) else _) = _
 rw [if_pos hm, if_neg (by rw [hs]; simp)]
theorem QR_ {f u : List Int} {en : Bool} {m : Int} : ∀ {l acc : List PrV}, ¬ (acc.length : Int) < m -> qa_ PrV.K f u en m l acc = acc
 | [], acc, _ => rfl
 | e :: r, acc, h => by
  show (if _ then (if _ then _ else _) else _) = _
  rw [if_neg h]
def outS (a : PrV) : Pr := ((yX_ a.K).2.1, a.R.map P1.bs)
theorem rcall5_law {S : Nat -> Prop} {f : Rf} {w : World} (h : RfR S w f) (hS : ∀ k, S k -> k < w.heap.size) (o : zj_) (t : Nat) (ho : OpD S w f o t) (hk1 : o.k = 5) (hl : ∀ x ∈ f.Ts, x.P.length <= 900000) :
  Calls prog 78 #[.pointer (some ⟨f.p, 0, none⟩), .agg #[.int .i64 o.k, .int .i64 o.t, .int .i64 o.i, .slice o.ka o.kn o.kc, .slice o.ta o.tn o.tc, .int .i64 o.m, .slice o.ra o.rn o.rc]] w (zZ_ S w f (yq_ f.j f.P o)) := by
 obtain ⟨hb, hbx⟩ := yl_ w #[.int .i64 o.k, .int .i64 o.t, .int .i64 o.i, .slice o.ka o.kn o.kc, .slice o.ta o.tn o.tc, .int .i64 o.m, .slice o.ra o.rn o.rc] #[.int .i64 0, .slice none 0 0] 74 81
 obtain ⟨w2, hw2⟩ := gty (((w.alloc (.cells #[.int .i64 o.k, .int .i64 o.t, .int .i64 o.i, .slice o.ka o.kn o.kc, .slice o.ta o.tn o.tc, .int .i64 o.m, .slice o.ra o.rn o.rc] 74)).alloc (.cells #[.int .i64 0, .slice none 0 0] 81)))
 rw [← hw2] at hb hbx
 have hok := ho.at'.now
 have hB1 : w.heap.size <= w.heap.size + 1 := Nat.le_succ _
 have hm2 := h.sp hb hB1
 have hbd : ∀ k, Sp S (w.heap.size + 1) k -> k < w2.heap.size := fun k hk => hk.elim (fun hk => Nat.lt_of_lt_of_le (hS k hk) hb.size) Xt17
 obtain ⟨q, hq1, hq2, hq3⟩ := qO_ hm2 t ho.tl o.K hok.kb o.ka o.kn o.kc hok.kl Xt26 (hok.ks.below hb)
 have HQ := hid (And.intro hq1 hq2)
 have HG := hid hq3
 have HH := hid (And.intro h (And.intro hS hl))
 have HO := hid ho
 have HB := hid (And.intro hb hbx)
 have HM2 := hid (And.intro hm2 hbd)
 have HST := hid (ho.at'.step (S' := Sp S (w.heap.size + 1)) (Off.of hb) (fun k hk => by
  rcases hk with hk | hk
  ·exact .inl hk
  ·exact .inr Xt0))
 have HTE := hid (show o.t.toNat = t by rw [ho.te]; simp)
 have b0 := (hbx w2 (Below.refl _ _)).1
 have c0 := b0.cell 0
 have c1 := b0.cell 1
 have c3 := b0.cell 3
 have c6 := b0.cell 6
 simp only [gtA, gtB, gtC] at c0 c1 c3 c6
 rw [ho.te] at c1
 rw [hk1] at c0
 have HK1 := hid hk1
 clear hk1 h hS ho hl hok hm2 hbd hq1 hq2 hq3 hb hbx b0
 go_enter func78, ntmps78
 go_upto_region 1 with (fail)
 rw [← hw2]
 clear hw2 hB1
 go_wp2_with fail
 clear c0 c1 c3 c6
 refine HG.out.mono ?_; rintro r w3 ⟨hr, hb3⟩
 have HB3 := hid hb3
 have hbx3 := HB.out.2 w3 hb3
 have HX3 := hid hbx3
 have c0 := hbx3.1.cell 0
 have c1 := hbx3.1.cell 1
 have c3 := hbx3.1.cell 3
 have c6 := hbx3.1.cell 6
 simp only [gtA, gtB, gtC] at c0 c1 c3 c6
 rw [HO.out.te] at c1
 rw [HK1.out] at c0
 have g0 := hbx3.2.cell 0
 have g1 := hbx3.2.cell 1
 have i0 := hbx3.2.frozen 0
 have i1 := hbx3.2.frozen 1
 simp only [gtA, gtB, gtC] at g0 g1
 clear hb3 hbx3
 obtain ⟨v0, rfl⟩ : ∃ v0, r = .returned (.tuple #[v0, .bool q.isSome]) := by
  exact Xb37
 clear hr HG HQ
 obtain ⟨x, hx⟩ : ∃ x, f.Ts[t]? = some x := ⟨_, List.getElem?_eq_getElem HO.out.tl⟩
 have hxm := List.mem_of_getElem? hx
 obtain ⟨w4, hw4⟩ := gty (w3.alloc (.cells #[.int .i64 0, .slice none 0 0] 81))
 have hb4 : Below w3.heap.size w3 w4 := by rw [hw4]; exact bl1 _ _
 have hx4 : zg_ w4 w3.heap.size #[.int .i64 0, .slice none 0 0] 81 := by rw [hw4]; exact zg_.new _ _ _
 have HB24 := hid (HB3.out.trans (hb4.mono HB3.out.size))
 have HBO := hid hx4
 have HM4 := hid (HM2.out.1.below HB24.out)
 obtain ⟨_, _, e0, hxc, hxs⟩ := HM4.out.tbs t x hx
 cases e0
 rw [Nat.zero_add] at hxc
 have HXT := hid (fun X (b : Below w4.heap.size w4 X) => (tcb b hxc))
 have HXX := hid (And.intro hx hxm)
 have HOP := hid (fun X (b : Below w4.heap.size w4 X) => ((HST.out.now).below HB24.out).below b)
 have HJB := hid (fun X (b : Below w4.heap.size w4 X) => (HM4.out.below b).job.now)
 have HX := hid (fun X (b : Below w4.heap.size w4 X) => (by
  have hm := (HM4.out.below b).box
  have hp := (HB.out.2 X (HB24.out.trans (b.mono HB24.out.size))).1
  rw [HK1.out] at hp
  refine ⟨⟨?_, ?_, ?_, ?_, ?_, ?_, ?_, ?_⟩, ?_, ?_, ?_, ?_, ?_, ?_, ?_⟩
  all_goals first | (rw [hm.cell]; rfl) | (rw [hp.cell]; rfl) : (X.cell? ⟨f.p, 0, none⟩ = some (.int .i64 f.j.w) /\ X.cell? ⟨f.p, 1, none⟩ = some (.int .i64 f.j.l) /\ X.cell? ⟨f.p, 2, none⟩ = some (.int .i64 f.j.d) /\ X.cell? ⟨f.p, 3, none⟩ = some (.int .i64 f.j.c) /\ X.cell? ⟨f.p, 4, none⟩ = some (.int .i64 f.j.k) /\ X.cell? ⟨f.p, 5, none⟩ = some (.int .i64 f.j.e) /\ X.cell? ⟨f.p, 6, none⟩ = some (.slice f.j.a f.j.n f.j.cap) /\ X.cell? ⟨f.p, 7, none⟩ = some (.slice (some ⟨f.b1, 0, none⟩) f.Ts.length f.tc)) /\ X.cell? ⟨w.heap.size, 0, none⟩ = some (.int .i64 5) /\ X.cell? ⟨w.heap.size, 1, none⟩ = some (.int .i64 o.t) /\ X.cell? ⟨w.heap.size, 2, none⟩ = some (.int .i64 o.i) /\ X.cell? ⟨w.heap.size, 3, none⟩ = some (.slice o.ka o.kn o.kc) /\ X.cell? ⟨w.heap.size, 4, none⟩ = some (.slice o.ta o.tn o.tc) /\ X.cell? ⟨w.heap.size, 5, none⟩ = some (.int .i64 o.m) /\ X.cell? ⟨w.heap.size, 6, none⟩ = some (.slice o.ra o.rn o.rc)))
 clear hx hxm hb4 hx4 hxc hxs g0 g1 i0 i1
 go_upto_region 21 with (fail)
 rw [← hw4]
 clear hw4 c0 c1 c3 c6
 go_cut [8] (fun v wx => ∃ (bx : Nat) (fa : Option Addr) (fc : Nat) (ta : Option Addr) (tc : Nat), v = .pointer (some ⟨bx, 0, none⟩) /\ Hid (Below w4.heap.size w4 wx) /\ Hid (zg_ wx bx #[.int .i64 (zD_ f.j o).1, .slice fa (zD_ f.j o).2.1.length fc, .slice ta (zD_ f.j o).2.2.1.length tc, .bool (zD_ f.j o).2.2.2.1] 169) /\ Hid (Ls .u8 wx fa fc (zD_ f.j o).2.1) /\ Hid (Ls .u8 wx ta tc (zD_ f.j o).2.2.1))
 case first =>
  exact Xb4
 case rest =>
 obtain ⟨bx, fa, fc, ta, tc, rfl, HB3c, HSP, HLF, HLU⟩ := hcut
 obtain ⟨n, hn⟩ := gtx (x.P.length)
 rw [hn] at HXT
 have HN := hid hn
 have hnl : n <= 900000 := by have := HH.out.2.2 x HXX.out.2; omega
 have hti : (t : Int) < (f.Ts.length : Int) := by have := HO.out.tl; omega
 have htl : (f.Ts.length : Int) <= 4 := by have := HM4.out.few; omega
 clear hn
 go_upto_region 22 with (fail)
 refine rgw wc (Below.refl _ _).drew fun hH => ?_
 refine tkq3 0 1 2 ?_
 refine tkr 3 rfl Xf33 ?_
 refine tkq 4 ?_
 refine tkr 5 rfl Xf32 ?_
 refine tkq 6 ?_
 refine tkr 7 rfl Xf40 ?_
 refine tkq 8 ?_
 refine adn ?_
 skip
 obtain ⟨wL, hwL⟩ := gty (wc.drew)
 rw [← hwL] at hH ⊢
 have HLL := hid hH
 have HBL := hid (za_ HB3c.out hH)
 clear hH hwL
 have h3 : kf o.k 3 = true := by rw [xb_, HK1.out]; rfl
 have h4 : kf o.k 4 = false := by rw [jx_, HK1.out]; rfl
 have hrg : zD_ f.j o = ((trV f.j o.t (-1)).1, o.K, o.T, decide (0 < o.tn), 0) := by
  exact Xb88
 have hmo := jQ_ HO.out.po h3
 have HMO := hid hmo
 rw [hrg] at HSP HLF HLU
 have hca := HO.out.at'.now
 have HFB := hid (And.intro (show Byt (o.K) from hca.kb) (show Byt (o.T) from hca.tb))
 obtain ⟨F, hF⟩ := gtx (o.K)
 obtain ⟨U, hU⟩ := gtx (o.T)
 obtain ⟨en, hen⟩ := gtx (decide (0 < o.tn))
 simp only [hF, hU, hen] at HSP HLF HLU HFB
 have HFE := hid (And.intro hF (And.intro hU hen))
 clear hF hU hen hrg h3 h4 hca hmo
 obtain ⟨la, hla⟩ := gtx (x.pa)
 obtain ⟨lc, hlc⟩ := gtx (x.pc)
 obtain ⟨L, hL⟩ := gtx (x.P)
 obtain ⟨ln, hln⟩ := gtx (n)
 rw [hla, hlc, hln]
 rw [hln] at hnl
 have HLN := hid (show L.length = ln by rw [← hL, HN.out, hln])
 have HLE := hid (And.intro hla (And.intro hlc hL))
 have HLB := hid (show ∀ a ∈ L, Byt a.K from fun a ha => (HM4.out.pair HXX.out.2 (hL ▸ ha)).1.1)
 have HOK := hid (show ∀ a ∈ L, zH_ (prC a).1 /\ rOk (prC a).2 from fun a ha => HM4.out.pair HXX.out.2 (hL ▸ ha))
 have HWN := hid (show (qa_ PrV.K F U en o.m L []).map prC = yL_ Prod.fst F U en o.m (f.P.getD t []) [] by
  rw [x4_ prC (k1 := PrV.K) (k2 := Prod.fst) F U en o.m L [] (fun e he => rfl), HM4.out.getD HXX.out.1]
  unfold tbC
  rw [hL]
  refine qB_ ?_ (by have := HMO.out.1; simp; omega)
  have := (HM4.out.lim x HXX.out.2).1
  unfold tbC at this
  rw [hL] at this
  exact this)
 have HCD := hid (show yq_ f.j f.P o = ((0, yL_ Prod.fst F U en o.m (f.P.getD t []) []), f.P) by
  unfold yq_
  rw [if_neg Xt10, if_neg Xt10, if_neg Xt10, if_neg Xt10, if_pos HK1.out, HTE.out, HFE.out.1, HFE.out.2.1, HFE.out.2.2])
 clear hla hlc hL hln
 have HBD := hid (show w3.heap.size < wL.heap.size by have := HBO.out.lt; have := HBL.out.size; omega)
 have HLS := hid (show zs_ (fun k => Sp S (w.heap.size + 1) k ∨ k = w3.heap.size) wL (fun W => zn_ W la L) from by
  obtain ⟨_, _, _, _, s⟩ := HM2.out.1.tbs t x HXX.out.1
  rw [HLE.out.1, HLE.out.2.2] at s
  exact s.step (Off.of (HB24.out.trans (HBL.out.mono HB24.out.size))) (fun k hk => hk.imp id fun e => by have := HB3.out.size; omega))
 have HXL := hid (fun X (o9 : Off (fun k => k = w3.heap.size) wL X) => (by
  have hop := HB.out.2 wL (HB24.out.trans (HBL.out.mono HB24.out.size))
  have h1 := o9.box hop.1 Xt41
  rw [HK1.out] at h1
  have hsp := HSP.out.below HLL.out
  have h2 := o9.box hsp (fun e => zo_ hsp (HBO.out.below HBL.out) Xt4 e)
  refine ⟨by rw [h1.cell]; rfl, by rw [h1.cell]; rfl, by rw [h1.cell]; rfl, by rw [h2.cell]; rfl, by rw [h2.cell]; rfl, by rw [h2.cell]; rfl⟩ : X.cell? ⟨w.heap.size, 0, none⟩ = some (.int .i64 5) /\ X.cell? ⟨w.heap.size, 5, none⟩ = some (.int .i64 o.m) /\ X.cell? ⟨w.heap.size, 1, none⟩ = some (.int .i64 o.t) /\ X.cell? ⟨bx, 1, none⟩ = some (.slice fa F.length fc) /\ X.cell? ⟨bx, 2, none⟩ = some (.slice ta U.length tc) /\ X.cell? ⟨bx, 3, none⟩ = some (.bool en)))
 have HFX := hid (fun X (o9 : Off (fun k => k = w3.heap.size) wL X) => (⟨qz_ (HLF.out.below HLL.out) (HBO.out.below HBL.out) o9, qz_ (HLU.out.below HLL.out) (HBO.out.below HBL.out) o9⟩ : Ls .u8 X fa fc F /\ Ls .u8 X ta tc U))
 have hlni : (ln : Int) <= 1000000 := by omega
 obtain ⟨o0, _⟩ := HXL.out wL (Off.refl _ _)
 go_wp2_with fail
 clear o0
 go_loopw [11] (fun j wr => ∃ (k gn : Nat) (A G : List PrV) (oa : Option Addr) (oc : Nat), k <= ln /\ j = .int .i64 (k : Int) /\ gn <= k /\ Hid (G.length = gn /\ A.length = gn) /\ Hid (qa_ PrV.K F U en o.m (L.drop k) A = qa_ PrV.K F U en o.m L []) /\ Hid (G.map prC = A.map prC) /\ Hid (∀ a ∈ A, a ∈ L) /\ Hid (zg_ wr w3.heap.size #[.int .i64 0, .slice oa gn oc] 81) /\ Hid (wr.ownsRow wL.heap.size 78 2 (.slice oa gn oc) gn (zi_ G)) /\ Hid (∀ g ∈ G, zs_ (fun k => (Sp S (w.heap.size + 1) k ∨ k = w3.heap.size) ∨ Value.ownBlock (.slice oa gn oc) = some k) wr (fun W => Ls .u8 W g.ka g.kc g.K /\ RdR W g.ra g.R)) /\ Hid (Off (fun k => k = w3.heap.size) wL wr)) (fun j _ => ln - (intOf j).toNat)
 case atStart => exact ⟨0, 0, [], [], none, 0, by omega, rfl, by omega, hid ⟨rfl, rfl⟩, hid (by rw [List.drop_zero]), hid rfl, hid (fun a ha => by cases ha), hid (HBO.out.below HBL.out), hid (World.ownsRow_nil _ _ _ _), hid Xt54, hid (Off.refl _ _)⟩
 case round =>
  obtain ⟨k, gn, A, G, oa, oc, hk, rfl, hgk, HGL, HDG, HGM, HAL, HBX, HOW, HGS, HOF⟩ := hrel
  obtain ⟨o0, o5, _, s1, s2, s3⟩ := HXL.out wr HOF.out
  have g1 := HBX.out.cell 1
  simp only [gtA, gtB, gtC] at g1
  by_cases hlt : k < ln
  ·have d1 : (k : Int) < (ln : Int) := by omega
   by_cases hm : (gn : Int) < o.m
   ·have HMM := hid hm
    obtain ⟨a, ha⟩ : ∃ a, L[k]? = some a := ⟨_, List.getElem?_eq_getElem Xt73⟩
    have ham := List.mem_of_getElem? ha
    have HA1 := hid ha
    have HAM := hid ham
    have hlr := HLS.out wr (HOF.out.mono fun k hk => .inr hk)
    obtain ⟨lb, lo, elb, p0, p1, hal, har⟩ := hlr k a ha
    have HELB := hid elb
    obtain ⟨akn, hakn⟩ := gtx (a.K.length)
    rw [hakn] at p0
    have HAK := hid hakn
    have HPA := hid (fun W (b : Below wr.heap.size wr W) => (tcb b p0))
    have HPB := hid (fun W (b : Below wr.heap.size wr W) => (tcb b p1))
    have HCA := hid (fun W (b : Below wr.heap.size wr W) => zA_ W a.ka akn a.kc a.K hakn (hal.below b).rd)
    have HKR := hid (And.intro hal har)
    rw [elb]
    clear ha ham hlr hal har hakn p0 p1 elb
    go_upto_region 28 with (fail)
    clear o0 o5 s1 s2 s3 g1
    cases hc1 : ltL a.K F with
    | true =>
     exact Xb10
    | false =>
     have HC1 := hid (show Op.bytesLess (strOfNums a.K).toList (strOfNums F).toList = false by rw [yg_ (HLB.out a HAM.out) HFB.out.1]; exact hc1)
     have HCF := hid hc1
     clear hc1
     rcases Bool.eq_false_or_eq_true en with he | he
     ·have HEN := hid he
      clear he
      obtain ⟨cu, hcu⟩ := gtx (ltL a.K U)
      have HC2 := hid (show Op.bytesLess (strOfNums a.K).toList (strOfNums U).toList = cu by rw [yg_ (HLB.out a HAM.out) HFB.out.2]; exact hcu)
      have HCU := hid hcu
      clear hcu
      refine rgw wr (Below.refl _ _).drew fun hH => ?_
      refine tkq4 0 1 2 3 ?_
      refine tkr 4 rfl Xf13 ?_
      refine tkr 5 rfl Xf10 ?_
      refine tkq 6 ?_
      refine tkr 7 rfl Xf8 ?_
      refine tkr 8 rfl Xf5 ?_
      refine tkp 9 (.bool false) rfl (.inl ⟨by rfl, ?_⟩) ?_
      ·exact Xb48
      refine tkq2 10 11 ?_
      refine tkr 12 rfl Xf12 ?_
      refine tkq4 13 14 15 16 ?_
      refine tkq 17 ?_
      refine tkr 18 rfl Xf13 ?_
      refine tkr 19 rfl Xf10 ?_
      refine tkq 20 ?_
      refine tkr 21 rfl Xf36 ?_
      refine tkr 22 rfl Xf31 ?_
      refine tkp 23 (.bool (!cu)) rfl (.inl ⟨by rfl, ?_⟩) ?_
      ·intro W hSw; go_simp; try (first | exact HC2.out | (simp [HC2.out]; done))
      refine tkq2 24 25 ?_
      refine adn ?_
      skip
      obtain ⟨w9, hw9⟩ := gty (wr.drew)
      try rw [← hw9] at hH ⊢
      have HB9 := hid (show Below wr.heap.size wr w9 from hH)
      clear hH hw9
      cases cu with
      | false =>
       have HSK := hid (show (ltL a.K F || (en && !ltL a.K U)) = true by rw [HEN.out, HCU.out, Bool.or_eq_true]; exact .inr rfl)
       exact Xb16
      | true =>
       have HSK := hid (show (ltL a.K F || (en && !ltL a.K U)) = false by rw [HEN.out, HCU.out, HCF.out]; rfl)
       exact Xb2
     ·have HEN := hid he
      clear he
      have HSK := hid (show (ltL a.K F || (en && !ltL a.K U)) = false by rw [HEN.out, HCF.out]; rfl)
      refine rgw wr (Below.refl _ _).drew fun hH => ?_
      refine tkq4 0 1 2 3 ?_
      refine tkr 4 rfl Xf13 ?_
      refine tkr 5 rfl Xf10 ?_
      refine tkq 6 ?_
      refine tkr 7 rfl Xf8 ?_
      refine tkr 8 rfl Xf5 ?_
      refine tkp 9 (.bool false) rfl (.inl ⟨by rfl, ?_⟩) ?_
      ·exact Xb48
      refine tkq2 10 11 ?_
      refine tkr 12 rfl Xf12 ?_
      refine tkq 13 ?_
      refine tkn 14 ?_
      refine tkn 15 ?_
      refine tkn 16 ?_
      refine tkn 17 ?_
      refine tkn 18 ?_
      refine tkn 19 ?_
      refine tkn 20 ?_
      refine tkn 21 ?_
      refine tkn 22 ?_
      refine tkn 23 ?_
      refine tkq2 24 25 ?_
      refine adn ?_
      skip
      obtain ⟨w9, hw9⟩ := gty (wr.drew)
      try rw [← hw9] at hH ⊢
      have HB9 := hid (show Below wr.heap.size wr w9 from hH)
      clear hH hw9
      exact Xb2
   ·have HFN := hid (show qa_ PrV.K F U en o.m L [] = A by rw [← HDG.out]; exact QR_ (by rw [HGL.out.2]; exact hm))
    exact Xb8
  ·have d1 : ¬ (k : Int) < (ln : Int) := by omega
   have HFN := hid (show qa_ PrV.K F U en o.m L [] = A by rw [← HDG.out, List.drop_of_length_le (by rw [HLN.out]; omega)]; rfl)
   exact Xb8
end Go.Proofs.YthmofoldmdafoaaGreat
