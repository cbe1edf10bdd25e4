/- Part of the proof that ModelApplies holds for every input: writes that are done on tables leave them as the document says. Part 27. -/
import Derived.Test.YthmofoldmdafoaaGreatSvz
set_option linter.unusedVariables false
set_option linter.unusedSimpArgs false
set_option maxRecDepth 100000
set_option maxHeartbeats 4000000
namespace Go.Proofs.YthmofoldmdafoaaGreat
open Go.ChangeShapes Go.WideShapes Go.ChangeAt Go.RowKit
open Go.Lib (hid)
open Go.Proofs.Tryz
theorem Sh.mono {K K' : TypeId -> Prop} {T T' : Nat -> Prop} {W X : World} (h : Sh K T W X) (hK : ∀ t, K t -> K' t) (hT : ∀ b, T b -> T' b) : Sh K' T' W X := ⟨h.off.mono hT, h.keep, fun b cs t lo hi e n => h.kind b cs t lo hi e (fun k => n (hK t k))⟩
theorem Sh.st {K : TypeId -> Prop} {T : Nat -> Prop} {W X : World} (h : Sh K T W X) {b o k n : Nat} {t : TypeId} {v : Value} (hw : WrB W t (some ⟨b, o, none⟩) n) (hk : k < n) (hc : W.cell? ⟨b, o + k, none⟩ = some v) : ∃ cs' lo hi v', X.heap[b]? = some (.cells cs' t (lo, hi)) /\ X.cell? ⟨b, o + k, none⟩ = some v' /\ X.frozen? ⟨b, o + k, none⟩ = false := by
 obtain ⟨cs, lo, hi, e, hf⟩ := hw b o rfl Xt0
 have hs : o + k < cs.size := by
  simp only [World.cell?, e] at hc
  cases hi2 : cs[o + k]? with
  | none => rw [hi2] at hc; simp at hc
  | some u => exact (Array.getElem?_eq_some_iff.1 hi2).1
 obtain ⟨cs', v', h1, h2, h3⟩ := h.open' e hs (hf k hk)
 exact ⟨cs', lo, hi, v', h1, h2, h3⟩
theorem Sh.rd {K : TypeId -> Prop} {T : Nat -> Prop} {W X : World} (h : Sh K T W X) {b o n : Nat} {t : TypeId} (hw : WrB W t (some ⟨b, o, none⟩) n) (hn : 0 < n) (nk : ¬ K t) (i : Nat) : X.cell? ⟨b, i, none⟩ = W.cell? ⟨b, i, none⟩ := by
 obtain ⟨cs, lo, hi, e, _⟩ := hw b o rfl hn
 exact h.cell e nk
theorem Sh.set5 {T : Nat -> Prop} {W : World} {B : Nat} {cs : Array Value} {l h : Nat} (e : W.heap[B]? = some (.cells cs 5 (l, h))) (hT : T B) (i : Nat) (v : Value) : Sh (fun t => t = 5) T W (W.setCell ⟨B, i, none⟩ v) := Sh.set (K := fun t => t = 5) (T := T) e rfl hT i v
def InB (T : Nat -> Prop) (a : Option Addr) (n : Nat) : Prop := ∀ b off, a = some ⟨b, off, none⟩ -> 0 < n -> T b
theorem xR_ (x : z2_) (a : Option Addr) (c : Nat) (T : Nat -> Prop) (rs : List xw_) (w : World) (hx : zR_ w x) (hxw : WrB w 74 x.oa x.on) (hon : x.on <= 9000)
  (hk : ∀ o ∈ x.ops, o.kn <= 9000 /\ o.rn <= 9000 /\ (∀ p ∈ o.R, p.bs.length <= 9000) /\ WrB w 5 o.ka o.kn /\ InB T o.ka o.kn /\ WrB w 42 o.ra o.rn /\ ∀ p ∈ o.R, WrB w 5 p.ad p.bs.length /\ InB T p.ad p.bs.length)
  (hr : ResW w a rs) (hrn : rs.length <= 9000) (hrp : ∀ y ∈ rs, y.P.length <= 1000000 /\ ∀ p ∈ y.P, p.K.length <= 1000000 /\ p.R.length <= 1000000 /\ InB T p.ka p.K.length /\ InB T p.ra p.R.length) :
  Calls prog 43 #[.agg #[.slice x.oa x.on x.oc, .bool x.sn, .bool x.ab], .slice a rs.length c] w fun r w' => r = .returned (.tuple #[]) /\ Sh (fun t => t = 5 ∨ t = 42) T w w' := by
 obtain ⟨w1, hw1⟩ := gty (w.alloc (.cells #[.slice x.oa x.on x.oc, .bool x.sn, .bool x.ab] 38))
 have hb1 : Below w.heap.size w w1 := by rw [hw1]; exact bl1 _ _
 have hbx : zg_ w1 w.heap.size #[.slice x.oa x.on x.oc, .bool x.sn, .bool x.ab] 38 := by rw [hw1]; exact zg_.new _ _ _
 have HB1 := hid hb1
 have HXT := hid (hx.below hb1)
 have HXW := hid (hxw.below hb1)
 have HXB := hid hbx
 have HK := hid hk
 have HR := hid hr
 have HRP := hid hrp
 obtain ⟨n, hn⟩ := gtx (rs.length)
 rw [hn] at hrn
 have HN := hid hn
 rw [hn]
 clear hx hxw hk hr hrp hb1 hbx hn
 go_enter func43, ntmps43
 go_upto_region 1 with (fail)
 rw [← hw1]
 clear hw1
 go_wp2_with fail
 go_loopw [4] (fun i wr => ∃ k : Nat, k <= x.on /\ i = .int .i64 (k : Int) /\ Hid (Sh (fun t => t = 5) T w1 wr)) (fun i _ => x.on - (intOf i).toNat)
 case atStart => exact ⟨0, by omega, rfl, hid (Sh.refl _ _ _)⟩
 case round =>
  obtain ⟨k, hk, rfl, HS⟩ := hrel
  have x0 := (HS.out.cell HXB.out Xt4 (i := 0)).trans (HXB.out.cell 0)
  simp only [gtA, gtB, gtC] at x0
  by_cases hlt : k < x.on
  ·have d1 : (k : Int) < (x.on : Int) := by omega
   obtain ⟨o, ho⟩ : ∃ o, x.ops[k]? = some o := ⟨_, List.getElem?_eq_getElem (by rw [HXT.out.ol]; exact hlt)⟩
   obtain ⟨b1, o1, ea, ⟨p0, p1, p2, p3, p4, p5, p6⟩, hca⟩ := HXT.out.os k o ho
   have hxw := HXW.out
   rw [ea] at hxw x0
   have HM := hid (show ∀ W, Sh (fun t => t = 5) T w1 W -> W.cell? ⟨w.heap.size, 0, none⟩ = some (.slice (some ⟨b1, o1, none⟩) x.on x.oc) /\ W.cell? ⟨b1, o1 + k * 7 + 3, none⟩ = some (.slice o.ka o.kn o.kc) /\ W.cell? ⟨b1, o1 + k * 7 + 6, none⟩ = some (.slice o.ra o.rn o.rc) from fun W h => by
    refine ⟨?_, (h.rd hxw Xt0 Xt4 _).trans p3, (h.rd hxw Xt0 Xt4 _).trans p6⟩
    have := (h.cell HXB.out Xt4 (i := 0)).trans (HXB.out.cell 0)
    rw [ea] at this
    exact this)
   have hok := HK.out o (List.mem_of_getElem? ho)
   have HOK := hid hok
   have HCA := hid hca
   have hkn : o.kn <= 9000 := hok.1
   have hrn2 : o.rn <= 9000 := hok.2.1
   clear hxw p0 p1 p2 p3 p4 p5 p6 hca hok ho
   go_wp2_with fail
   clear x0
   go_loopw [5] (fun j wq => ∃ d : Nat, d <= o.kn /\ j = .int .i64 (d : Int) /\ Hid (Sh (fun t => t = 5) T w1 wq)) (fun j _ => o.kn - (intOf j).toNat)
   case atStart => exact ⟨0, by omega, rfl, HS⟩
   case round =>
    obtain ⟨d, hd, rfl, HSQ⟩ := hrel
    obtain ⟨m0, m1, m2⟩ := HM.out wr HSQ.out
    by_cases hl2 : d < o.kn
    ·have d2 : (d : Int) < (o.kn : Int) := by omega
     obtain ⟨bk, ok, ek, hkc⟩ := HCA.out.ks.rd d (by rw [HCA.out.kl]; exact hl2)
     have hwk := (HOK.out.2.2.2.1).below HB1.out
     have hib := HOK.out.2.2.2.2.1
     rw [ek] at hwk m1
     obtain ⟨cs', l', h', v', e', y0, yf⟩ := HSQ.out.st hwk hl2 hkc
     have HE := hid (And.intro e' (hib bk ok ek Xt0))
     clear e' hwk hib ek hkc m2
     go_wp2_with fail
     go_roundw
     case rel => exact ⟨d + 1, by omega, by go_num, hid (HSQ.out.trans (Sh.set5 HE.out.1 HE.out.2 _ _))⟩
     case measure => simp [intOf]; omega
    ·have d2 : ¬ (d : Int) < (o.kn : Int) := by omega
     clear m2
     go_wp2_with fail
     clear m0 m1
     go_loopw [6] (fun j wv => ∃ f : Nat, f <= o.rn /\ j = .int .i64 (f : Int) /\ Hid (Sh (fun t => t = 5) T w1 wv)) (fun j _ => o.rn - (intOf j).toNat)
     case atStart => exact ⟨0, by omega, rfl, HSQ⟩
     case round =>
      obtain ⟨f, hf, rfl, HSV⟩ := hrel
      obtain ⟨m0, m1, m2⟩ := HM.out wr HSV.out
      by_cases hl3 : f < o.rn
      ·have d3 : (f : Int) < (o.rn : Int) := by omega
       obtain ⟨p, hp⟩ : ∃ p, o.R[f]? = some p := ⟨_, List.getElem?_eq_getElem (by rw [HCA.out.rl]; exact hl3)⟩
       obtain ⟨br, or, er, hrc, hrl⟩ := HCA.out.rs f p hp
       have hwr := (HOK.out.2.2.2.2.2.1).below HB1.out
       rw [er] at hwr
       have HM3 := hid (show ∀ W, Sh (fun t => t = 5) T w1 W -> W.cell? ⟨b1, o1 + k * 7 + 6, none⟩ = some (.slice (some ⟨br, or, none⟩) o.rn o.rc) /\ W.cell? ⟨br, or + f, none⟩ = some (.slice p.ad p.bs.length p.cap) from fun W h => ⟨by have := (HM.out W h).2.2; rw [er] at this; exact this, (h.rd hwr Xt0 Xt4 _).trans hrc⟩)
       obtain ⟨m3, m4⟩ := HM3.out wr HSV.out
       have hpb := HOK.out.2.2.1 p (List.mem_of_getElem? hp)
       have HPW := hid (HOK.out.2.2.2.2.2.2 p (List.mem_of_getElem? hp))
       have HPL := hid hrl
       clear hwr hrc hrl hp er m2 m1
       go_wp2_with fail
       clear m0 m3 m4
       go_loopw [7] (fun j wu => ∃ e : Nat, e <= p.bs.length /\ j = .int .i64 (e : Int) /\ Hid (Sh (fun t => t = 5) T w1 wu)) (fun j _ => p.bs.length - (intOf j).toNat)
       case atStart => exact ⟨0, by omega, rfl, HSV⟩
       case round =>
        obtain ⟨e, he, rfl, HSU⟩ := hrel
        have m0 := (HM.out wr HSU.out).1
        obtain ⟨m3, m4⟩ := HM3.out wr HSU.out
        by_cases hl4 : e < p.bs.length
        ·have d4 : (e : Int) < (p.bs.length : Int) := by omega
         obtain ⟨bk, ok, ek, hkc⟩ := HPL.out.rd e hl4
         have hwk := (HPW.out.1).below HB1.out
         have hib := HPW.out.2
         rw [ek] at hwk m4
         obtain ⟨cs', l', h', v', e', y0, yf⟩ := HSU.out.st hwk hl4 hkc
         have HE := hid (And.intro e' (hib bk ok ek Xt0))
         clear e' hwk hib ek hkc
         go_wp2_with fail
         go_roundw
         case rel => exact ⟨e + 1, by omega, by go_num, hid (HSU.out.trans (Sh.set5 HE.out.1 HE.out.2 _ _))⟩
         case measure => simp [intOf]; omega
        ·have d4 : ¬ (e : Int) < (p.bs.length : Int) := by omega
         go_wp2_with fail
         go_roundw
         case rel => exact ⟨f + 1, by omega, by go_num, HSU⟩
         case measure => simp [intOf]; omega
      ·have d3 : ¬ (f : Int) < (o.rn : Int) := by omega
       clear m1
       go_wp2_with fail
       go_roundw
       case rel => exact ⟨k + 1, by omega, by go_num⟩
       case measure => simp [intOf]; omega
  ·have d1 : ¬ (k : Int) < (x.on : Int) := by omega
   have HS2 := hid (HS.out.mono (K' := fun t => t = 5 ∨ t = 42) (T' := T) (fun t h => .inl h) (fun b h => h))
   clear HS
   clear hlt hk
   go_wp2_with fail
   clear x0 d1
   go_loopw [8] (fun i wr => ∃ k : Nat, k <= n /\ i = .int .i64 (k : Int) /\ Hid (Sh (fun t => t = 5 ∨ t = 42) T w1 wr)) (fun i _ => n - (intOf i).toNat)
   case atStart => exact ⟨0, by omega, rfl, HS2⟩
   case round =>
    obtain ⟨k2, hk2, rfl, HT⟩ := hrel
    by_cases h8 : k2 < n
    ·have d8 : (k2 : Int) < (n : Int) := by omega
     obtain ⟨y, hy⟩ : ∃ y, rs[k2]? = some y := ⟨_, List.getElem?_eq_getElem (by rw [HN.out]; exact h8)⟩
     have hrw := HR.out.2.1
     obtain ⟨ba, oa, ea, _, hc1, hpr⟩ := HR.out.1 k2 y hy
     have hyw := HR.out.2.2 y (List.mem_of_getElem? hy)
     have hyb := HRP.out y (List.mem_of_getElem? hy)
     rw [ea, HN.out] at hrw
     have hrw := hrw.below HB1.out
     have hc1 := tcb HB1.out hc1
     have HM4 := hid (show ∀ W, Sh (fun t => t = 5 ∨ t = 42) T w1 W -> W.cell? ⟨ba, oa + k2 * 2 + 1, none⟩ = some (.slice y.pa y.P.length y.pc) from fun W h => (h.rd hrw Xt0 Xt4 _).trans hc1)
     have HPR := hid (hpr.below HB1.out)
     have HYW := hid hyw
     have HYB := hid hyb
     have hm6 : y.P.length <= 1000000 := hyb.1
     obtain ⟨m, hm⟩ := gtx (y.P.length)
     rw [hm] at hm6 HM4
     have HML := hid hm
     have m4 := HM4.out wr HT.out
     clear hrw hc1 hpr hyw hyb hy hm
     go_wp2_with fail
     clear m4
     go_loopw [9] (fun i wr => ∃ k : Nat, k <= m /\ i = .int .i64 (k : Int) /\ Hid (Sh (fun t => t = 5 ∨ t = 42) T w1 wr)) (fun i _ => m - (intOf i).toNat)
     case atStart => exact ⟨0, by omega, rfl, HT⟩
     case round =>
      obtain ⟨k9, hk9, rfl, HQ⟩ := hrel
      obtain ⟨w9, hw9⟩ := gty (wr)
      subst hw9
      have m4 := HM4.out w9 HQ.out
      by_cases h9 : k9 < m
      ·have d9 : (k9 : Int) < (m : Int) := by omega
       obtain ⟨q, hq⟩ : ∃ q, y.P[k9]? = some q := ⟨_, List.getElem?_eq_getElem (by rw [HML.out]; exact h9)⟩
       obtain ⟨bp, op, ep, q0, q1, hls, hrd⟩ := HPR.out k9 q hq
       have hyw := (HYW.out.1).below HB1.out
       rw [ep, HML.out] at hyw
       rw [ep] at m4
       have q0 := (HQ.out.rd hyw Xt0 Xt4 _).trans q0
       have q1 := (HQ.out.rd hyw Xt0 Xt4 _).trans q1
       have HLS := hid hls
       have HRD := hid hrd
       have hqw := HYW.out.2 q (List.mem_of_getElem? hq)
       have HQW := hid (And.intro (hqw.1.below HB1.out) (hqw.2.below HB1.out))
       have hqb := HYB.out.2 q (List.mem_of_getElem? hq)
       have HQB := hid hqb
       have hqk := hqb.1
       have hqr := hqb.2.1
       obtain ⟨w2, hw2⟩ := gty (w9.alloc (.cells #[.slice q.ka q.K.length q.kc, .slice q.ra q.R.length q.rc] 78))
       have hbx2 : zg_ w2 w9.heap.size #[.slice q.ka q.K.length q.kc, .slice q.ra q.R.length q.rc] 78 := by rw [hw2]; exact zg_.new _ _ _
       have HB92 := hid (show Below w9.heap.size w9 w2 by rw [hw2]; exact bl1 _ _)
       have HBX := hid hbx2
       obtain ⟨K, hK⟩ := gtx (q.K.length)
       obtain ⟨R, hR⟩ := gtx (q.R.length)
       rw [hK] at q0 hqk HBX hw2
       rw [hR] at q1 hqr HBX hw2
       have HKL := hid (And.intro hK hR)
       clear hyw hls hrd hqw hqb hbx2 hq hK hR
       go_upto_region 22 with (fail)
       rw [← hw2]
       clear hw2 q0 q1 m4
       go_wp2_with fail
       go_loopw [11] (fun i wr => ∃ k : Nat, k <= K /\ i = .int .i64 (k : Int) /\ Hid (Sh (fun t => t = 5 ∨ t = 42) T w2 wr)) (fun i _ => K - (intOf i).toNat)
       case atStart => exact ⟨0, by omega, rfl, hid (Sh.refl _ _ _)⟩
       case round =>
        obtain ⟨d, hd, rfl, HU⟩ := hrel
        have z0 := (HU.out.cell HBX.out Xt4 (i := 0)).trans (HBX.out.cell 0)
        simp only [gtA, gtB, gtC] at z0
        by_cases h11 : d < K
        ·have d11 : (d : Int) < (K : Int) := by omega
         obtain ⟨bk, ok, ek, hkc⟩ := HLS.out.rd d (by rw [HKL.out.1]; exact h11)
         have hwk := HQW.out.1
         have hib := HQB.out.2.2.1
         rw [ek, HKL.out.1] at hwk
         rw [HKL.out.1] at hib
         rw [ek] at z0
         obtain ⟨cs', l', h', v', e', y0, yf⟩ := ((HQ.out.trans (Sh.below HB92.out)).trans HU.out).st hwk h11 hkc
         have HE := hid (And.intro e' (hib bk ok ek Xt0))
         clear e' hwk hib ek hkc
         go_wp2_with fail
         go_roundw
         case rel => exact ⟨d + 1, by omega, by go_num, hid (HU.out.trans (Sh.set (K := fun t => t = 5 ∨ t = 42) (T := T) HE.out.1 (.inl rfl) HE.out.2 _ _))⟩
         case measure => simp [intOf]; omega
        ·have d11 : ¬ (d : Int) < (K : Int) := by omega
         go_wp2_with fail
         clear z0
         go_loopw [12] (fun i wr => ∃ k : Nat, k <= R /\ i = .int .i64 (k : Int) /\ Hid (Sh (fun t => t = 5 ∨ t = 42) T w2 wr)) (fun i _ => R - (intOf i).toNat)
         case atStart => exact ⟨0, by omega, rfl, HU⟩
         case round =>
          obtain ⟨f, hf, rfl, HV⟩ := hrel
          have z1 := (HV.out.cell HBX.out Xt4 (i := 1)).trans (HBX.out.cell 1)
          simp only [gtA, gtB, gtC] at z1
          by_cases h12 : f < R
          ·have d12 : (f : Int) < (R : Int) := by omega
           obtain ⟨p, hp⟩ : ∃ p, q.R[f]? = some p := ⟨_, List.getElem?_eq_getElem (by rw [HKL.out.2]; exact h12)⟩
           obtain ⟨bk, ok, ek, hkc, _⟩ := HRD.out f p hp
           have hwk := HQW.out.2
           have hib := HQB.out.2.2.2
           rw [ek, HKL.out.2] at hwk
           rw [HKL.out.2] at hib
           rw [ek] at z1
           obtain ⟨cs', l', h', v', e', y0, yf⟩ := ((HQ.out.trans (Sh.below HB92.out)).trans HV.out).st hwk h12 hkc
           have HE := hid (And.intro e' (hib bk ok ek Xt0))
           clear e' hwk hib ek hkc hp
           go_wp2_with fail
           go_roundw
           case rel => exact ⟨f + 1, by omega, by go_num, hid (HV.out.trans (Sh.set (K := fun t => t = 5 ∨ t = 42) (T := T) HE.out.1 (.inr rfl) HE.out.2 _ _))⟩
           case measure => simp [intOf]; omega
          ·have d12 : ¬ (f : Int) < (R : Int) := by omega
           have HTOT := hid ((HQ.out.trans (Sh.below HB92.out)).trans HV.out)
           go_wp2_with fail
           go_roundw
           case rel => exact ⟨k9 + 1, by omega, by go_num⟩
           case measure => simp [intOf]; omega
      ·have d9 : ¬ (k9 : Int) < (m : Int) := by omega
       go_wp2_with fail
       go_roundw
       case rel => exact ⟨k2 + 1, by omega, by go_num⟩
       case measure => simp [intOf]; omega
    ·have d8 : ¬ (k2 : Int) < (n : Int) := by omega
     go_wp2_with fail
     first | refine bodyPost_end (v := .tuple #[]) (by simp [results, results43, go_sem]) rfl ?_ | refine bodyPost_end (v := .tuple #[]) (by simp [results, f43]) rfl ?_ | refine bodyPost_end (v := .tuple #[]) rfl rfl ?_
     exact ⟨rfl, (Sh.below HB1.out).trans HT.out⟩
theorem ql_ {S : Nat -> Prop} {W W' : World} {B b b' n n' s s' : Nat} {e e' : TypeId} {v v' : Value} {xs xs' : List Value} (h : W.ownsRow b e s v n xs) (g : W.ownsRow b' e' s' v' n' xs') (hne : e ≠ e') (hS : ∀ k, S k -> k < B) (hB : B <= b) (o : Off (fun k => S k ∨ v'.ownBlock = some k) W W') : W'.ownsRow b e s v n xs :=
 zn_ h o (fun k hk hh => hh.elim (fun hs => by have := (zb_ h hk).1; have := hS k hs; omega) (fun hv => (yS_ h g hne).elim (fun h0 => by rw [h0] at hk; cases hk) (fun h1 => h1 (hk.trans hv.symm))))
theorem rset_stay (p b1 o1 : Nat) (ka ra : Option Addr) (tn tc kn kc rn rc t : Nat) (Ts : List TbV) (x : TbV) (K : List Int) (R : List P1) (cs : Array Value) (hx : Ts[t]? = some x) (hn : Ts.length = tn) (hn2 : tn <= 1000000) (hK : K.length = kn) (hkn : kn <= 1000000) (bK : Byt K) (hR : R.length = rn) (hrn : rn <= 9000) (hl : ∀ q ∈ R, q.bs.length <= 9000) (ok : TbOk x) (hxc : x.P.length <= x.pc) (hxn : x.pa = none -> x.pc = 0) (w : World) (S : Nat -> Prop) (hS : ∀ k, S k -> k < w.heap.size) (hSt : zs_ S w fun X => zo_ X x.pa x.P) (hbx : zg_ w b1 cs 69) (hc : w.cell? ⟨p, 7, none⟩ = some (.slice (some ⟨b1, o1, none⟩) tn tc)) (hT : TbR w (some ⟨b1, o1, none⟩) Ts) (hk : Ls .u8 w ka kc K) (hr : RdR w ra R) :
  Calls prog 58 #[.pointer (some ⟨p, 0, none⟩), .int .i64 (t : Int), .slice ka kn kc, .slice ra rn rc] w fun r w' => ∃ v W' a' c' P', r = .returned v /\ w' = W'.setCell ⟨b1, o1 + t, none⟩ (.slice a' P'.length c') /\ Below w.heap.size w W' /\ zo_ W' a' P' /\ zs_ S W' (fun X => zo_ X a' P') /\ P'.length <= c' /\ (a' = none -> c' = 0) /\ P'.map prC = (x.P.take (xg_ K x.P)).map prC ++ ((if R.map P1.bs = [] then [] else [(K, R.map P1.bs)]) ++ (x.P.drop (xg_ K x.P + (if qd_ K x.P then 1 else 0))).map prC) := by
 have htn : t < tn := by have := (List.getElem?_eq_some_iff.1 hx).1; omega
 have HF := hid (QD_ p (some ⟨b1, o1, none⟩) ka tn tc kn kc t Ts x K hx hn hn2 hK bK ok w hc hT hk)
 obtain ⟨b1', o1', ea, c0, rx⟩ := hT t x hx
 cases ea
 have HM := hid (fun X (b' : Below w.heap.size w X) => (⟨(b'.cell (World.block_lt_of_cell? w _ hc)).trans hc, (b'.cell (World.block_lt_of_cell? w _ c0)).trans c0⟩ : X.cell? ⟨p, 7, none⟩ = some (.slice (some ⟨b1, o1, none⟩) tn tc) /\ X.cell? ⟨b1, o1 + t, none⟩ = some (.slice x.pa x.P.length x.pc)))
 have HP := hid rx
 have HBX := hid hbx
 have HKK := hid (And.intro hK hk)
 have HRR := hid (And.intro hR (And.intro hr hl))
 have HXN := hid hxn
 have hti : (t : Int) < (tn : Int) := by omega
 have ht0 : ¬ (t : Int) < 0 := by omega
 have htl : (tn : Int) <= 1000000 := by omega
 have hpn : x.P.length <= 1000000 := ok.pn
 obtain ⟨P, hP⟩ := gtx (x.P)
 obtain ⟨n, hn9⟩ := gtx (P.length)
 obtain ⟨pa, hpa⟩ := gtx (x.pa)
 obtain ⟨pc, hpc⟩ := gtx (x.pc)
 rw [hP, hn9] at hpn
 rw [hP, hn9, hpc] at hxc
 rw [hpa, hpc] at HXN
 rw [hpa, hP] at HP
 rw [hpa, hP] at hSt
 have HST := hid hSt
 have HS := hid hS
 rw [hpa, hP, hn9, hpc] at HM
 rw [hP] at HF ⊢
 have HN := hid hn9
 have hcn : xg_ K P <= n := by unfold xg_; rw [← hn9]; exact (List.takeWhile_sublist _).length_le
 have hhn : qd_ K P = true -> xg_ K P + 1 <= n := fun h => by
  unfold qd_ at h
  cases hy : P[xg_ K P]? with
  | none => rw [hy] at h; cases h
  | some y => have := (List.getElem?_eq_some_iff.1 hy).1; omega
 obtain ⟨i, hi⟩ := gtx (xg_ K P)
 obtain ⟨h, hh⟩ := gtx (qd_ K P)
 rw [hi] at hcn hhn HF
 rw [hh] at hhn HF
 rw [hi, hh]
 have HHN := hid hhn
 have H69 := hid (fun W => hi69 W pa n pc i hcn hxc)
 obtain ⟨m0, m1⟩ := HM.out w (Below.refl _ _)
 clear hS hSt hx hn hn2 hK bK hR ok hxn hbx hc hT hk hr hl c0 rx hP hn9 hpa hpc hi hh hhn
 go_enter func58, ntmps58
 go_wp2_with fail
 refine HF.out.mono ?_; rintro r w1 ⟨rfl, hb1⟩
 have HB1 := hid hb1
 clear m0 m1
 obtain ⟨m0, m1⟩ := HM.out w1 hb1
 clear hb1
 have s69 := H69.out w1
 have hii : (i : Int) <= (n : Int) := by omega
 have hni : (n : Int) <= 1000000 := by omega
 go_upto_region 2 with (at_builtin; refine jK_ rfl (.const (.slice none 0 0)) (.tmp 26) rfl w.heap.size _ 0 [] rfl (World.ownsRow_nil _ _ _ _) pa pc i (P.take i) Xt69 rfl ((HP.out.below HB1.out).take i) HXN.out Xt0 HB1.out.size ?_; intro v2 w2 hown2 hgrow2; rw [Nat.zero_add, List.nil_append] at hown2; have HO2 := hid hown2; have HB2 := hid (HB1.out.grown hgrow2 HB1.out.size Xt23); clear hown2 hgrow2)
 clear m0 m1 s69
 go_upto_if 30 with (fail)
 go_cut [10] (fun v wx => ∃ L2 : List PrV, Hid (wx.ownsRow w.heap.size 78 2 v L2.length (zi_ L2)) /\ Hid (∀ y ∈ L2, ∀ W', Off (fun k => S k ∨ v.ownBlock = some k) wx W' -> Ls .u8 W' y.ka y.kc y.K /\ RdR W' y.ra y.R) /\ Hid (L2.map prC = (P.take i).map prC ++ (if R.map P1.bs = [] then [] else [(K, R.map P1.bs)])) /\ Hid (L2.length <= n + 1) /\ Hid (Below w.heap.size w wx))
 case first =>
  have HTK := hid (fun W (pr : zo_ W pa P) => (fun y hy => by
   obtain ⟨k, hk⟩ := List.mem_iff_getElem?.1 (List.mem_of_mem_take hy)
   obtain ⟨_, _, _, _, _, l, r⟩ := pr k y hk
   exact ⟨l, r⟩ : ∀ y ∈ P.take i, Ls .u8 W y.ka y.kc y.K /\ RdR W y.ra y.R))
  have HTL := hid (show (P.take i).length = i by rw [List.length_take, HN.out]; omega)
  by_cases h0 : rn = 0
  ·have d0 : ¬ (0 : Int) < (rn : Int) := by omega
   have HE := hid (show R.map P1.bs = [] by rw [List.map_eq_nil_iff]; exact List.length_eq_zero_iff.1 (HRR.out.1.trans h0))
   clear h0
   go_wp2_with fail
   go_meet
   exact ⟨P.take i, hid (by rw [HTL.out]; exact HO2.out), hid (fun y hy W' g => HTK.out _ ((HST.out.step (Off.of HB2.out) (fun k (hk : S k ∨ v2.ownBlock = some k) => hk.imp id (fun e => (HO2.out.lt k e).1))) W' g) y hy), hid (by rw [if_pos HE.out, List.append_nil]), hid (by rw [HTL.out]; omega), HB2⟩
  ·have d0 : (0 : Int) < (rn : Int) := by omega
   have HE := hid (show R.map P1.bs ≠ [] from fun e => h0 (by rw [← HRR.out.1]; rw [List.map_eq_nil_iff] at e; rw [e]; rfl))
   have hkb : (kn : Int) <= 1000000 := by omega
   clear h0
   go_wp2_with (at_builtin; refine zB_ Qe_ rfl (.const (.slice none 0 0)) (.tmp 32) rfl w2.heap.size _ 0 [] rfl (World.ownsRow_nil _ _ _ _) _ _ kn K HKK.out.1 rfl (HKK.out.2.below HB2.out) Xt0 (Nat.le_refl _) ?_; intro v3 w3 hown3 hgrow3; rw [Nat.zero_add, List.nil_append] at hown3; obtain ⟨a3, c3, hv3⟩ := zd_ hown3; subst hv3; have b3 := (Below.refl w2.heap.size w2).grown hgrow3 (Nat.le_refl _) Xt23; have HO3 := hid hown3; have HB3 := hid b3; clear hown3 hgrow3 b3)
   refine (xC_ ra R rn rc HRR.out.1 hrn HRR.out.2.2 w3 (HRR.out.2.1.below (HB2.out.trans (HB3.out.mono HB2.out.size)))).mono ?_
   rintro r w5 ⟨⟨v5, rfl, hcp⟩, hb5⟩
   obtain ⟨a5, c5, R5, hv5, hr5, hl5, hm5, hc5, hn5, ho5, ho5b⟩ := hcp.lies HRR.out.1
   subst hv5
   have HB5 := hid (HB3.out.trans (hb5.mono HB3.out.size))
   have HBW := hid (HB2.out.trans (HB5.out.mono HB2.out.size))
   have HO25 := hid (ze_ HO2.out HB5.out)
   have HO35 := hid (ze_ HO3.out hb5)
   have HR5 := hid (And.intro hl5 (And.intro hm5 (And.intro ho5 ho5b)))
   have HSZ := hid (show w2.heap.size <= w3.heap.size from HB3.out.size)
   have HLK := hid (ys_ HO35.out HKK.out.1)
   have HRD := hid hr5
   clear hcp hb5 hr5 hc5 hn5 ho5 ho5b hl5 hm5
   go_wp2_with (at_builtin; refine jK_ rfl (.tmp 31) (.tmp 37) rfl w.heap.size v2 i (P.take i) rfl ((HO25.out).alloc _) (some ⟨w5.heap.size, 0, none⟩) 1 1 [⟨a3, c3, K, a5, c5, R5⟩] rfl rfl (QI_ _ (by simp [go_sem, HKK.out.1]) (by simp [go_sem, HR5.out.1]) (HLK.out.below ((Below.refl _ _).alloc (Nat.le_refl _) _)) (HRD.out.below ((Below.refl _ _).alloc (Nat.le_refl _) _))) (fun h => by cases h) Xt0 (by have := HBW.out.size; simp; omega) ?_; intro v8 w8 hown8 hgrow8; have hak : w8.ownsRow w2.heap.size 5 1 (.slice a3 kn c3) kn (iv .u8 K) := ((HO35.out).alloc _).kept hgrow8 (yS_ HO35.out HO25.out Xt4); have har : w8.ownsRow w3.heap.size 42 1 (.slice a5 rn c5) rn (R5.map P1.v) := ((HR5.out.2.2.1).alloc _).kept hgrow8 (yS_ HR5.out.2.2.1 HO25.out Xt4); have haq : ∀ q ∈ R5, w8.ownsRow w3.heap.size 5 1 q.v q.bs.length (iv .u8 q.bs) := fun q hq => ((HR5.out.2.2.2 q hq).alloc _).kept hgrow8 (yS_ (HR5.out.2.2.2 q hq) HO25.out Xt4); have HA8 := hid (And.intro hak (And.intro har haq)); have HO8 := hid hown8; have HB8 := hid ((HBW.out.alloc HBW.out.size _).grown hgrow8 (by have := HBW.out.size; simp; omega) (fun j hj => (HO2.out.lt j hj).1)); clear hak har haq hown8 hgrow8)
   go_meet
   refine ⟨P.take i ++ [⟨a3, c3, K, a5, c5, R5⟩], hid ?_, hid ?_, hid ?_, hid ?_, HB8⟩
   ·rw [List.length_append, HTL.out]; exact HO8.out
   ·intro y hy W' g
    rcases List.mem_append.1 hy with hy | hy
    ·exact HTK.out _ ((HST.out.step (Off.of HB8.out) (fun k (hk : S k ∨ v8.ownBlock = some k) => hk.imp id (fun e => (HO8.out.lt k e).1))) W' g) y hy
    ·rw [List.mem_singleton] at hy
     subst hy
     exact ⟨ys_ (ql_ HA8.out.1 HO8.out Xt4 HS.out HB2.out.size g) HKK.out.1, qE_ (ql_ HA8.out.2.1 HO8.out Xt4 HS.out (Nat.le_trans HB2.out.size HSZ.out) g) HR5.out.1 (fun q hq => ql_ (HA8.out.2.2 q hq) HO8.out Xt4 HS.out (Nat.le_trans HB2.out.size HSZ.out) g)⟩
   ·rw [if_neg HE.out, List.map_append]
    show _ ++ [(K, R5.map P1.bs)] = _
    rw [HR5.out.2.1]
   ·rw [List.length_append, HTL.out, List.length_singleton]; omega
 case rest =>
 obtain ⟨L2, HO4, HE4, HM4, HL4, HB4⟩ := hcut
 obtain ⟨v4a, v4c, hv4⟩ := zd_ HO4.out
 subst hv4
 obtain ⟨wS, rfl⟩ := gty (wc)
 cases h
 ·obtain ⟨a', hrun, hpr, hna⟩ := lo69 w pa P n pc (i) HN.out Xt0 hxc HXN.out HP.out
  have HLO := hid (fun W' => (by have := hrun W'; first | exact this | (rw [show (((i : Nat) : Int)) = (i : Int) by omega] at this; exact this) : (Instr.slice 69 (.slice pa n pc) (some (.int .i64 ((i : Int)))) .none .none).run prog W' = .ok (.slice a' (n - (i)) (pc - (i))) W'))
  have HPD := hid hpr
  have HNA := hid hna
  clear hrun hpr hna
  go_upto_region 6 with (fail)
  refine zq_ (z := 17) (S := (fun X => Below w.heap.size w X)) Xt3 (HB4.out.drew) fun hH => ?_
  refine tlk 0 rfl Xt2 ?_
  refine tlk 1 rfl Xt2 ?_
  refine tlk 2 rfl Xt2 ?_
  refine tlk 3 rfl Xf30 ?_
  refine tlk 4 rfl Xt2 ?_
  refine tlk 5 rfl Xt2 ?_
  refine tlk 6 rfl Xt2 ?_
  refine tlk 7 rfl Xt2 ?_
  refine tlk 8 rfl Xt2 ?_
  refine tlk 9 rfl Xf30 ?_
  refine tlk 10 rfl Xt2 ?_
  refine tlk 11 rfl Xt2 ?_
  refine tlk 12 rfl (fun W hSw => by have m := (HM.out W hSw).2; exact tks) ?_
  refine tlk 13 rfl Xt2 ?_
  refine tlk 14 rfl Xf41 ?_
  refine tl1 15 rfl fun K hK => ?_
  have hown := ze_ HO4.out ((Below.refl wS.heap.size wS).drew)
  refine z5_ rfl _ _ rfl w.heap.size (.slice v4a L2.length v4c) L2.length L2 rfl hown a' (pc - (i)) (n - (i)) (P.drop (i)) Xt62 rfl (HPD.out.below hH) HNA.out (by have := HL4.out; omega) hH.size ?_
  intro v9 w9 hown9 hgrow9
  obtain ⟨a9, c9, hv9⟩ := zd_ hown9
  subst hv9
  have b9 : Below w.heap.size w w9 := hH.grown hgrow9 hH.size (fun j hj => (hown.lt j hj).1)
  have HO9 := hid hown9
  have HB9 := hid b9
  have HE9 := hid (fun (X : World) (o : Off S w9 X) y hy => HE4.out y hy X (((Off.of_row (W := wS) (W' := w9) ⟨hgrow9.os, hgrow9.tape, hgrow9.output, hgrow9.size, hgrow9.block⟩).mono (fun k hk => .inr hk)).trans (o.mono (fun k hk => .inl hk))))
  refine hK.out _ _ b9 (fun hHeldn => ?_)
  clear hK K hH hown hown9 hgrow9 b9; have hH := hHeldn; clear hHeldn
  refine stP ?_
  refine tlk 16 rfl Xt2 ?_
  refine tlz rfl fun K hK => ?_
  have bx9 := HBX.out.below HB9.out
  have x4 := (HM.out _ HB9.out).2
  have f4 := bx9.frozen (o1 + t)
  go_simp
  refine hK.out _ _ ?_
  clear hK K x4 f4 bx9
  refine stP ?_
  refine zv_ Xt3 ?_ _
  skip
  have hle : (L2 ++ P.drop (i)).length = L2.length + (n - (i)) := by rw [List.length_append, List.length_drop, HN.out]
  have HLE := hid hle
  obtain ⟨hcc, hcn⟩ := zJ_ HO9.out
  have HCC := hid (And.intro hcc hcn)
  have HPR := hid (fun (X : World) (o : Off S w9 X) => ye_ (zm_ HO9.out o HS.out) hle (fun y hy => by
   rcases List.mem_append.1 hy with hy | hy
   ·exact HE9.out X o y hy
   ·obtain ⟨k, hk⟩ := List.mem_iff_getElem?.1 (List.mem_of_mem_drop hy)
    obtain ⟨_, _, _, _, _, l, r⟩ := (HST.out X ((Off.of HB9.out).trans o)) k y hk
    exact ⟨l, r⟩))
  clear hle hcc hcn hH
  refine bodyPost_end (v := .tuple #[]) (by simp [results, results58, go_sem]) rfl ?_
  refine ⟨_, w9, a9, c9, L2 ++ P.drop (i), rfl, by rw [HLE.out], HB9.out, HPR.out _ (Off.refl _ _), fun X o => HPR.out X o, by rw [HLE.out]; exact HCC.out.1, HCC.out.2, ?_⟩
  rw [List.map_append, HM4.out, List.append_assoc]
  first | rfl | simp
 ·have hhn := HHN.out rfl
  obtain ⟨a', hrun, hpr, hna⟩ := lo69 w pa P n pc (i + 1) HN.out Xt0 hxc HXN.out HP.out
  have HLO := hid (fun W' => (by have := hrun W'; first | exact this | (rw [show (((i + 1 : Nat) : Int)) = (i : Int) + 1 by omega] at this; exact this) : (Instr.slice 69 (.slice pa n pc) (some (.int .i64 ((i : Int) + 1))) .none .none).run prog W' = .ok (.slice a' (n - (i + 1)) (pc - (i + 1))) W'))
  have HPD := hid hpr
  have HNA := hid hna
  clear hrun hpr hna
  go_upto_region 6 with (fail)
  refine zq_ (z := 17) (S := (fun X => Below w.heap.size w X)) Xt3 (HB4.out.drew) fun hH => ?_
  refine tlk 0 rfl Xt2 ?_
  refine tlk 1 rfl Xt2 ?_
  refine tlk 2 rfl Xt2 ?_
  refine tlk 3 rfl Xf30 ?_
  refine tlk 4 rfl Xt2 ?_
  refine tlk 5 rfl Xt2 ?_
  refine tlk 6 rfl Xt2 ?_
  refine tlk 7 rfl Xt2 ?_
  refine tlk 8 rfl Xt2 ?_
  refine tlk 9 rfl Xf30 ?_
  refine tlk 10 rfl Xt2 ?_
  refine tlk 11 rfl Xt2 ?_
  refine tlk 12 rfl (fun W hSw => by have m := (HM.out W hSw).2; exact tks) ?_
  refine tlk 13 rfl Xt2 ?_
  refine tlk 14 rfl Xf41 ?_
  refine tl1 15 rfl fun K hK => ?_
  have hown := ze_ HO4.out ((Below.refl wS.heap.size wS).drew)
  refine z5_ rfl _ _ rfl w.heap.size (.slice v4a L2.length v4c) L2.length L2 rfl hown a' (pc - (i + 1)) (n - (i + 1)) (P.drop (i + 1)) Xt62 rfl (HPD.out.below hH) HNA.out (by have := HL4.out; omega) hH.size ?_
  intro v9 w9 hown9 hgrow9
  obtain ⟨a9, c9, hv9⟩ := zd_ hown9
  subst hv9
  have b9 : Below w.heap.size w w9 := hH.grown hgrow9 hH.size (fun j hj => (hown.lt j hj).1)
  have HO9 := hid hown9
  have HB9 := hid b9
  have HE9 := hid (fun (X : World) (o : Off S w9 X) y hy => HE4.out y hy X (((Off.of_row (W := wS) (W' := w9) ⟨hgrow9.os, hgrow9.tape, hgrow9.output, hgrow9.size, hgrow9.block⟩).mono (fun k hk => .inr hk)).trans (o.mono (fun k hk => .inl hk))))
  refine hK.out _ _ b9 (fun hHeldn => ?_)
  clear hK K hH hown hown9 hgrow9 b9; have hH := hHeldn; clear hHeldn
  refine stP ?_
  refine tlk 16 rfl Xt2 ?_
  refine tlz rfl fun K hK => ?_
  have bx9 := HBX.out.below HB9.out
  have x4 := (HM.out _ HB9.out).2
  have f4 := bx9.frozen (o1 + t)
  go_simp
  refine hK.out _ _ ?_
  clear hK K x4 f4 bx9
  refine stP ?_
  refine zv_ Xt3 ?_ _
  skip
  have hle : (L2 ++ P.drop (i + 1)).length = L2.length + (n - (i + 1)) := by rw [List.length_append, List.length_drop, HN.out]
  have HLE := hid hle
  obtain ⟨hcc, hcn⟩ := zJ_ HO9.out
  have HCC := hid (And.intro hcc hcn)
  have HPR := hid (fun (X : World) (o : Off S w9 X) => ye_ (zm_ HO9.out o HS.out) hle (fun y hy => by
   rcases List.mem_append.1 hy with hy | hy
   ·exact HE9.out X o y hy
   ·obtain ⟨k, hk⟩ := List.mem_iff_getElem?.1 (List.mem_of_mem_drop hy)
    obtain ⟨_, _, _, _, _, l, r⟩ := (HST.out X ((Off.of HB9.out).trans o)) k y hk
    exact ⟨l, r⟩))
  clear hle hcc hcn hH
  refine bodyPost_end (v := .tuple #[]) (by simp [results, results58, go_sem]) rfl ?_
  refine ⟨_, w9, a9, c9, L2 ++ P.drop (i + 1), rfl, by rw [HLE.out], HB9.out, HPR.out _ (Off.refl _ _), fun X o => HPR.out X o, by rw [HLE.out]; exact HCC.out.1, HCC.out.2, ?_⟩
  rw [List.map_append, HM4.out, List.append_assoc]
  first | rfl | simp
def TbS (S : Nat -> Prop) (W : World) (a : Option Addr) (L : List TbV) : Prop := ∀ (k : Nat) (x : TbV), L[k]? = some x -> ∃ b off, a = some ⟨b, off, none⟩ /\ W.cell? ⟨b, off + k, none⟩ = some (.slice x.pa x.P.length x.pc) /\ zs_ S W (fun X => zo_ X x.pa x.P)
theorem TbS.now {S : Nat -> Prop} {W : World} {a : Option Addr} {L : List TbV} (h : TbS S W a L) : TbR W a L := fun k x hx => by
 obtain ⟨b, off, e, c0, s⟩ := h k x hx
 exact ⟨b, off, e, c0, s.now⟩
theorem TbS.step {S T : Nat -> Prop} {W W' : World} {b off : Nat} {L : List TbV} (h : TbS S W (some ⟨b, off, none⟩) L) (o : Off S W W') (hn : W'.heap[b]? = W.heap[b]?) (hs : ∀ k, T k -> S k ∨ W.heap.size <= k) : TbS T W' (some ⟨b, off, none⟩) L := fun k x hx => by
 obtain ⟨b', off', e, c0, s⟩ := h k x hx
 cases e
 exact ⟨b, off, rfl, by rw [← c0]; unfold World.cell?; rw [hn], s.step o hs⟩
theorem TbS.set {S : Nat -> Prop} {w W' : World} {b1 o1 t : Nat} {Ts : List TbV} {x y : TbV} (h : TbS S w (some ⟨b1, o1, none⟩) Ts) (hx : Ts[t]? = some x) (hb : Below w.heap.size w W') (hS : S b1) (hy : zs_ S W' (fun X => zo_ X y.pa y.P)) : TbS S (W'.setCell ⟨b1, o1 + t, none⟩ (.slice y.pa y.P.length y.pc)) (some ⟨b1, o1, none⟩) (Ts.set t y) := fun k z hz => by
 have ho : Off S W' (W'.setCell ⟨b1, o1 + t, none⟩ (.slice y.pa y.P.length y.pc)) := (Off.refl S W').set ⟨b1, o1 + t, none⟩ hS _
 by_cases hk : t = k
 ·subst hk
  have hl := (List.getElem?_eq_some_iff.1 hx).1
  rw [List.getElem?_set_self hl] at hz
  cases hz
  obtain ⟨_, _, e, c0, _⟩ := h t x hx
  cases e
  exact ⟨b1, o1, rfl, World.cell?_setCell_same _ _ _ (tcb hb c0), hy.off ho⟩
 ·rw [List.getElem?_set_ne hk] at hz
  obtain ⟨_, _, e, c0, s⟩ := h k z hz
  cases e
  exact ⟨b1, o1, rfl, (World.cell?_setCell_other _ _ _ _ (by intro e; injection e with _ e _; omega)).trans (tcb hb c0), (s.below hb).off ho⟩
theorem rset_tb (p b1 o1 : Nat) (ka ra : Option Addr) (tn tc kn kc rn rc t : Nat) (Ts : List TbV) (x : TbV) (K : List Int) (R : List P1) (cs : Array Value) (hx : Ts[t]? = some x) (hn : Ts.length = tn) (hn2 : tn <= 1000000) (hK : K.length = kn) (hkn : kn <= 1000000) (bK : Byt K) (hR : R.length = rn) (hrn : rn <= 9000) (hl : ∀ q ∈ R, q.bs.length <= 9000) (ok : TbOk x) (hxc : x.P.length <= x.pc) (hxn : x.pa = none -> x.pc = 0) (w : World) (S : Nat -> Prop) (hS : ∀ k, S k -> k < w.heap.size) (hb1 : S b1) (hbx : zg_ w b1 cs 69) (hc : w.cell? ⟨p, 7, none⟩ = some (.slice (some ⟨b1, o1, none⟩) tn tc)) (hT : TbS S w (some ⟨b1, o1, none⟩) Ts) (hk : Ls .u8 w ka kc K) (hr : RdR w ra R) :
  Calls prog 58 #[.pointer (some ⟨p, 0, none⟩), .int .i64 (t : Int), .slice ka kn kc, .slice ra rn rc] w fun r w' => ∃ v y, r = .returned v /\ TbS S w' (some ⟨b1, o1, none⟩) (Ts.set t y) /\ Off (fun k => k = b1) w w' /\ zg_ w' b1 (cs.setIfInBounds (o1 + t) (.slice y.pa y.P.length y.pc)) 69 /\ y.P.length <= y.pc /\ (y.pa = none -> y.pc = 0) /\ tbC y = (x.P.take (xg_ K x.P)).map prC ++ ((if R.map P1.bs = [] then [] else [(K, R.map P1.bs)]) ++ (x.P.drop (xg_ K x.P + (if qd_ K x.P then 1 else 0))).map prC) := by
 obtain ⟨_, _, e, c0, st⟩ := hT t x hx
 cases e
 refine (rset_stay p b1 o1 ka ra tn tc kn kc rn rc t Ts x K R cs hx hn hn2 hK hkn bK hR hrn hl ok hxc hxn w S hS st hbx hc hT.now hk hr).mono ?_
 rintro r w' ⟨v, W', a', c', P', rfl, rfl, hb, hp, hs, h1, h2, h3⟩
 refine ⟨v, ⟨a', c', P'⟩, rfl, hT.set (y := ⟨a', c', P'⟩) hx hb hb1 hs, (Off.of hb).set (S := fun k => k = b1) _ rfl _, heap_setCell_same W' b1 (o1 + t) cs 69 _ (hbx.below hb), h1, h2, h3⟩
theorem rset_T (p b1 o1 : Nat) (ka ra : Option Addr) (tn tc kn kc rn rc t : Nat) (Ts : List TbV) (x : TbV) (K : List Int) (R : List P1) (cs : Array Value) (hx : Ts[t]? = some x) (hn : Ts.length = tn) (hn2 : tn <= 1000000) (hK : K.length = kn) (hkn : kn <= 1000000) (bK : Byt K) (hR : R.length = rn) (hrn : rn <= 9000) (hl : ∀ q ∈ R, q.bs.length <= 9000) (ok : TbOk x) (hto : yh_ (tbC x)) (hxc : x.P.length <= x.pc) (hxn : x.pa = none -> x.pc = 0) (w : World) (S : Nat -> Prop) (hS : ∀ k, S k -> k < w.heap.size) (hb1 : S b1) (hbx : zg_ w b1 cs 69) (hc : w.cell? ⟨p, 7, none⟩ = some (.slice (some ⟨b1, o1, none⟩) tn tc)) (hT : TbS S w (some ⟨b1, o1, none⟩) Ts) (hk : Ls .u8 w ka kc K) (hr : RdR w ra R) :
  Calls prog 58 #[.pointer (some ⟨p, 0, none⟩), .int .i64 (t : Int), .slice ka kn kc, .slice ra rn rc] w fun r w' => ∃ v y, r = .returned v /\ TbS S w' (some ⟨b1, o1, none⟩) (Ts.set t y) /\ Off (fun k => k = b1) w w' /\ zg_ w' b1 (cs.setIfInBounds (o1 + t) (.slice y.pa y.P.length y.pc)) 69 /\ y.P.length <= y.pc /\ (y.pa = none -> y.pc = 0) /\ tbC y = xO_ (tbC x) K (R.map P1.bs) /\ (Ts.set t y).map tbC = (Ts.map tbC).modify t fun z => xO_ z K (R.map P1.bs) := by
 refine (rset_tb p b1 o1 ka ra tn tc kn kc rn rc t Ts x K R cs hx hn hn2 hK hkn bK hR hrn hl ok hxc hxn w S hS hb1 hbx hc hT hk hr).mono ?_
 rintro r w' ⟨v, y, rfl, h1, h2, h3, h4, h5, h6⟩
 have h7 : tbC y = xO_ (tbC x) K (R.map P1.bs) := h6.trans (set_place hto)
 refine ⟨v, y, rfl, h1, h2, h3, h4, h5, h7, ?_⟩
 apply List.ext_getElem?
 intro k
 rw [List.getElem?_map, List.getElem?_modify, List.getElem?_map]
 by_cases hk : t = k
 ·subst hk
  rw [List.getElem?_set_self (List.getElem?_eq_some_iff.1 hx).1, hx]
  simp [h7]
 ·rw [List.getElem?_set_ne hk]
  simp [hk]
end Go.Proofs.YthmofoldmdafoaaGreat
