/- Part of the proof that ModelApplies holds for every input: writes that are done on tables leave them as the document says. Part 34. -/
import Derived.Test.YthmofoldmdafoaaGreatSvG
set_option linter.unusedVariables false
set_option linter.unusedSimpArgs false
set_option maxRecDepth 100000
set_option maxHeartbeats 4000000
namespace Go.Proofs.YthmofoldmdafoaaGreat
open Go.ChangeShapes Go.WideShapes Go.ChangeAt Go.RowKit
open Go.Lib (hid)
open Go.Proofs.Tryz
theorem runD_len (j : Job) (T : List (List Pr)) (ops : List zj_) : (qc_ j T ops).1.length = ops.length := by
 induction ops using zS_ with
 | nil => rfl
 | append_singleton l o ih =>
  have e2 : qc_ j T (l ++ [o]) = stepD j (qc_ j T l) o := by unfold qc_; rw [List.foldl_append]; rfl
  rw [e2]
  unfold stepD
  rw [List.length_append, List.length_append, ih]; rfl
def RWrR (S : Nat -> Prop) (w : World) (f : Rf) (x : z2_) (r : Ending) (w' : World) : Prop :=
 if yP_ f.j x then ∃ (a : Option Addr) (c : Nat) (V : List WtV), r = .returned (.tuple #[.slice a V.length c, .int .i64 0]) /\ Below w.heap.size w w' /\ V.map WtV.P = (if x.ab then [] else Qs_ (qc_ f.j f.P x.ops).2 (x.ops.zip ((qc_ f.j f.P x.ops).1.map Prod.fst))) /\ V.length <= 16 /\ (∀ y ∈ V, y.t < f.Ts.length /\ zH_ y.K /\ (y.r.R ≠ [] -> rOk y.r.P)) /\ zs_ S w' (fun W => WrR W a (V.map WtV.W))
 else r = .returned (.tuple #[.slice none 0 0, .int .i64 2]) /\ Below w.heap.size w w'
theorem qS_ {S : Nat -> Prop} {f : Rf} {w : World} (h : RfR S w f) (hS : ∀ k, S k -> k < w.heap.size) (x : z2_) (hx : zs_ S w fun W => zR_ W x) (hon : x.on <= 1000000) (hrn : ∀ o ∈ x.ops, o.rn <= 1000000) (hl : ∀ z ∈ f.Ts, z.P.length <= 700000) :
  Calls prog 41 #[.pointer (some ⟨f.p, 0, none⟩), .agg #[.slice x.oa x.on x.oc, .bool x.sn, .bool x.ab]] w (RWrR S w f x) := by
 have HH := hid (And.intro h (And.intro hS hl))
 have HXT := hid hx
 have HRN := hid hrn
 obtain ⟨w2, hw2⟩ := gty (w.alloc (.cells #[.slice x.oa x.on x.oc, .bool x.sn, .bool x.ab] 38))
 have hb2 : Below w.heap.size w w2 := by rw [hw2]; exact bl1 _ _
 have hbx2 : zg_ w2 w.heap.size #[.slice x.oa x.on x.oc, .bool x.sn, .bool x.ab] 38 := by rw [hw2]; exact zg_.new _ _ _
 have HB2 := hid hb2
 have HBX2 := hid hbx2
 have HX := hid (fun X (b : Below w2.heap.size w2 X) => (by
  have hm := ((h.below hb2).below b).box
  have hq := hbx2.below b
  refine ⟨?_, ?_, ?_, ?_, ?_, ?_, ?_, ?_, ?_, ?_⟩
  all_goals first | (rw [hm.cell]; rfl) | (rw [hq.cell]; rfl) : X.cell? ⟨f.p, 0, none⟩ = some (.int .i64 f.j.w) /\ X.cell? ⟨f.p, 1, none⟩ = some (.int .i64 f.j.l) /\ X.cell? ⟨f.p, 2, none⟩ = some (.int .i64 f.j.d) /\ X.cell? ⟨f.p, 3, none⟩ = some (.int .i64 f.j.c) /\ X.cell? ⟨f.p, 4, none⟩ = some (.int .i64 f.j.k) /\ X.cell? ⟨f.p, 5, none⟩ = some (.int .i64 f.j.e) /\ X.cell? ⟨f.p, 6, none⟩ = some (.slice f.j.a f.j.n f.j.cap) /\ X.cell? ⟨w.heap.size, 0, none⟩ = some (.slice x.oa x.on x.oc) /\ X.cell? ⟨w.heap.size, 1, none⟩ = some (.bool x.sn) /\ X.cell? ⟨w.heap.size, 2, none⟩ = some (.bool x.ab)))
 have HMT := hid (fun X (b : Below w2.heap.size w2 X) => qV_ f.j x hon X (((h.below hb2).below b).job.now) ((hx.below hb2).below b).now)
 clear h hS hx hon hrn hl hb2 hbx2
 go_enter func41, ntmps41
 go_upto_region 3 with (fail)
 rw [← hw2]
 clear hw2
 refine rgw w2 (Below.refl _ _).drew fun hH => ?_
 refine tkq3 0 1 2 ?_
 refine tkr 3 rfl Xf23 ?_
 refine tkr 4 rfl Xf22 ?_
 refine tk1 5 rfl fun K hK => ?_
 go_simp
 refine (HMT.out _ hH).mono ?_; rintro r w4 ⟨rfl, hb4⟩
 have HB4 := hid (za_ hH hb4)
 clear hb4
 go_wp2_with fail
 refine hK.out _ _ HB4.out fun hH => ?_
 refine stP ?_
 refine tkq 6 ?_
 refine adn ?_
 skip
 cases hm : yP_ f.j x with
 | false =>
  have HR := hid (fun r w' (hh : r = .returned (.tuple #[.slice none 0 0, .int .i64 2]) /\ Below w.heap.size w w') => (by unfold RWrR; rw [hm]; exact hh : RWrR S w f x r w'))
  exact Xb105
 | true =>
  have HR := hid (fun r w' (hh : ∃ (a : Option Addr) (c : Nat) (V : List WtV), r = .returned (.tuple #[.slice a V.length c, .int .i64 0]) /\ Below w.heap.size w w' /\ V.map WtV.P = (if x.ab then [] else Qs_ (qc_ f.j f.P x.ops).2 (x.ops.zip ((qc_ f.j f.P x.ops).1.map Prod.fst))) /\ V.length <= 16 /\ (∀ y ∈ V, y.t < f.Ts.length /\ zH_ y.K /\ (y.r.R ≠ [] -> rOk y.r.P)) /\ zs_ S w' (fun W => WrR W a (V.map WtV.W))) => (by unfold RWrR; rw [hm]; exact hh : RWrR S w f x r w'))
  obtain ⟨_, _, _, _, _, _, _, x0, x1, x2⟩ := HX.out w4 HB4.out
  cases hab : x.ab with
  | true =>
   rw [hab] at x2
   have HAB := hid hab
   clear hab hm
   go_wp2_with fail
   go_ret2
   exact HR.out _ _ ⟨none, 0, [], rfl, HB2.out.trans (HB4.out.mono HB2.out.size), by rw [HAB.out]; rfl, by simp, Xt41, (fun W' _ k y hy => by simp at hy)⟩
  | false =>
  rw [hab] at x2
  have HAB := hid hab
  clear hab
  have HMF := hid (yJ_ hm)
  have hon := (yJ_ hm).1
  have HXL := hid (show x.ops.length = x.on from HXT.out.now.ol)
  have HB04 := hid (HB2.out.trans (HB4.out.mono HB2.out.size))
  have HCP := hid (QE_ (HH.out.1.below HB04.out) (fun k hk => Nat.lt_of_lt_of_le (HH.out.2.1 k hk) HB04.out.size) Xt59)
  have HMT2 := hid hm
  clear hm
  go_wp2_with fail
  clear x0 x1 x2
  refine HCP.out.mono ?_; clear HCP; rintro r w6 ⟨c, rfl, hb6, hcp, hcb, hcj, hcT, hcR⟩
  have hcR0 := hcR (fun k => S k ∨ k = c.p ∨ k = c.b1) (fun k hk => hk) (.inr (.inl rfl)) (.inr (.inr rfl))
  have hcP : c.P = f.P := by
   exact Xb82
  have hcN : ∀ N : Nat, (∀ z ∈ f.Ts, z.P.length <= N) -> ∀ z ∈ c.Ts, z.P.length <= N + 0 := fun N hN z hz => by
   exact Xb73
  have hcs : c.p < w6.heap.size /\ c.b1 < w6.heap.size := by
   obtain ⟨cs, hcs⟩ := hcR0.tb
   exact ⟨hcR0.box.lt, hcs.lt⟩
  have HC := hid (And.intro hcR0 (And.intro hcP (And.intro hcN hcs)))
  have HCJ := hid hcj
  have HC4 := hid (And.intro hcp hcb)
  have HB6 := hid hb6
  have HB26 := hid (za_ HB4.out hb6)
  clear hcR hcR0 hcP hcN hcs hcj hcp hcb hcT hb6
  have hnl : ∀ N : Nat, (∀ z ∈ f.Ts, z.P.length <= N) -> ∀ z ∈ c.Ts, z.P.length <= N + 0 := HC.out.2.2.1
  have hbd6 : ∀ k, (S k ∨ k = c.p ∨ k = c.b1) -> k < w6.heap.size := fun k hk => by
   have h4 := HB04.out.size
   have h6 := HB6.out.size
   have hcc := HC.out.2.2.2
   rcases hk with hk | hk | hk
   ·have := HH.out.2.1 k hk; omega
   ·omega
   ·omega
  have HB06 := hid (HB04.out.trans (HB6.out.mono HB04.out.size))
  have hx6 : zs_ (fun k => S k ∨ k = c.p ∨ k = c.b1) w6 (fun W => zR_ W x) := HXT.out.step (Off.of HB06.out) (fun k hk => by
   have h4 := HB04.out.size
   rcases hk with hk | hk | hk
   ·exact .inl hk
   ·have := HC4.out.1; exact .inr Xt0
   ·have := HC4.out.2; exact .inr Xt0)
  have key := rdo_law HC.out.1 hbd6 x hx6 Xt0 HRN.out (fun z hz => by have := hnl 700000 HH.out.2.2 z hz; omega)
  have HDO := hid key
  have HX6 := hid hx6
  have HBD6 := hid hbd6
  clear key hnl hbd6 hx6
  obtain ⟨_, _, _, _, _, _, _, x0, x1, x2⟩ := HX.out w6 HB26.out
  go_wp2_with fail
  refine HDO.out.mono ?_; clear HDO; intro r w7 hr
  unfold RDoR at hr
  rw [if_pos (by rw [HCJ.out]; exact HMT2.out)] at hr
  obtain ⟨g, a1, c1, Y, rfl, ho7, hgp, hgj, hgb, hgR, hgP, hYm, hYok, hYst, hgN⟩ := hr
  simp only [HAB.out, Bool.false_eq_true, if_false] at hgP
  rw [HCJ.out, HC.out.2.1] at hgP hYm
  have hYl : Y.length = x.on := by
   have := congrArg List.length hYm
   rw [List.length_map, runD_len, HXL.out] at this; exact this
  have hb47 : Below w4.heap.size w4 w7 := Off.below HB6.out ho7 HB6.out.size (fun k hk => by rw [hk]; exact HC4.out.1)
  have HB47 := hid hb47
  have HB07 := hid (HB04.out.trans (hb47.mono HB04.out.size))
  have HB27 := hid (za_ HB4.out hb47)
  have hgt : g.Ts.length = f.Ts.length := by rw [hgR.len, hgj, HCJ.out, HH.out.1.len]
  have hgl : ∀ z ∈ g.Ts, z.P.length <= 1000000 := fun z hz => by have := hgN 700000 (fun y hy => by have := HC.out.2.2.1 700000 HH.out.2.2 y hy; omega) z hz; omega
  have hbg : ∀ b, ((S b ∨ b = c.p ∨ b = c.b1) ∨ b = g.b1) -> b < w7.heap.size := fun b hb => by
   rcases hb with hb | hb
   ·exact Nat.lt_of_lt_of_le (HBD6.out b hb) ho7.size
   ·obtain ⟨cs, hcs⟩ := hgR.tb
    rw [hb]; exact hcs.lt
  have HG := hid (And.intro hgR (And.intro hgl (And.intro hgP (And.intro hgt hbg))))
  have HGP := hid hgp
  have HGJ := hid (hgj.trans HCJ.out)
  have HY := hid (And.intro hYm (And.intro hYok hYst))
  have HYL := hid hYl
  have hxg : zs_ (fun b => (S b ∨ b = c.p ∨ b = c.b1) ∨ b = g.b1) w7 (fun W => zR_ W x) := HXT.out.step (Off.of HB07.out) (fun b hb => by
   have h4 := HB04.out.size
   have h6 := HB6.out.size
   rcases hb with (hb | hb | hb) | hb
   ·exact .inl hb
   ·have := HC4.out.1; exact .inr Xt0
   ·have := HC4.out.2; exact .inr Xt0
   ·rcases hgb with (hgb | hgb | hgb) | hgb
    ·exact .inl (hb ▸ hgb)
    ·have := HC4.out.1; exact .inr Xt0
    ·have := HC4.out.2; exact .inr Xt0
    ·exact .inr Xt0)
  have HXG := hid hxg
  obtain ⟨Z, hZ⟩ := gtx (x.ops.zip ((qc_ f.j f.P x.ops).1.map Prod.fst))
  have HZ := hid hZ
  rw [hYl]
  clear ho7 hgp hgj hgb hgR hgP hYm hYok hYst hgN hYl hb47 hgt hgl hbg hxg hZ x0 x1 x2
  obtain ⟨_, _, _, _, _, _, _, x0, x1, x2⟩ := HX.out w7 HB27.out
  go_wp2_with fail
  clear x0 x1 x2
  go_loopw [6, 10] (fun v i wr => ∃ (k : Nat) (V : List WtV), k <= x.on /\ i = .int .i64 (k : Int) /\ V.length <= k /\ Hid (V.map WtV.P = Qs_ g.P (Z.take k)) /\ Hid (wr.ownsRow w7.heap.size 84 3 v V.length (cellsOf wcl V)) /\ Hid (∀ y ∈ V, (y.t < f.Ts.length /\ zH_ y.K /\ (y.r.R ≠ [] -> rOk y.r.P)) /\ zs_ (fun b => (S b ∨ b = c.p ∨ b = c.b1) ∨ b = g.b1) wr (fun W => Ls .u8 W y.ka y.kc y.K /\ RdR W y.r.ra y.r.R)) /\ Hid (Below w7.heap.size w7 wr)) (fun _ i _ => x.on - (intOf i).toNat)
  case atStart => exact ⟨0, [], by omega, rfl, by simp, hid rfl, hid (World.ownsRow_nil _ _ _ _), hid Xt41, hid (Below.refl _ _)⟩
  case round =>
   obtain ⟨k, V, hk, rfl, hVk, HVM, HOV, HVS, HBW⟩ := hrel
   have HBX := hid (za_ HB27.out HBW.out)
   obtain ⟨_, _, _, _, _, _, _, x0, x1, x2⟩ := HX.out wr HBX.out
   by_cases hlt : k < x.on
   ·have d1 : (k : Int) < (x.on : Int) := by omega
    obtain ⟨o, ho⟩ : ∃ o, x.ops[k]? = some o := ⟨_, List.getElem?_eq_getElem Xt76⟩
    obtain ⟨y, hy⟩ : ∃ y, Y[k]? = some y := ⟨_, List.getElem?_eq_getElem (by rw [HYL.out]; exact hlt)⟩
    have hmem : o ∈ x.ops := List.mem_of_getElem? ho
    have hst := HXG.out.off (Off.of HBW.out)
    obtain ⟨b1, o1, ea, ⟨p0, p1, p2, p3, p4, p5, p6⟩, _⟩ := hst.now.os k o ho
    have hca : zs_ (fun b => (S b ∨ b = c.p ∨ b = c.b1) ∨ b = g.b1) wr (fun W => zz_ W o) := hst.mono fun W hW => by obtain ⟨_, _, _, _, hc⟩ := hW.os k o ho; exact hc
    obtain ⟨b2, o2, ey, y0, _, _⟩ := (HY.out.2.2.now.below HBW.out) k y hy
    have hpo := HMF.out.2 o hmem
    have hpt := pO_t hpo
    have hzk : Z[k]? = some (o, y.e) := by
     have h1 : ((qc_ f.j f.P x.ops).1.map Prod.fst)[k]? = some y.e := by
      rw [← HY.out.1, List.getElem?_map, List.getElem?_map, hy]; rfl
     rw [← HZ.out, List.getElem?_zip_eq_some]
     exact ⟨ho, h1⟩
    obtain ⟨t, hte⟩ : ∃ t : Nat, o.t = (t : Int) := ⟨o.t.toNat, by omega⟩
    have HTT := hid (show o.t.toNat = t /\ t < f.Ts.length by rw [hte]; exact ⟨by simp, by have := HH.out.1.len; omega⟩)
    rw [hte] at p1
    have HCA := hid hca
    have HPO := hid hpo
    have HTE := hid hte
    have HDT := hid (docQ_take g.P hzk)
    have HEA := hid (And.intro ea ey)
    obtain ⟨wb, hwb⟩ := gty (wr.alloc (.cells #[.int .i64 o.k, .int .i64 (t : Int), .int .i64 o.i, .slice o.ka o.kn o.kc, .slice o.ta o.tn o.tc, .int .i64 o.m, .slice o.ra o.rn o.rc] 74))
    have HBB := hid (by rw [hwb]; exact bl1 _ _ : Below wr.heap.size wr wb)
    have HXB := hid (by rw [hwb]; exact zg_.new _ _ _ : zg_ wb wr.heap.size #[.int .i64 o.k, .int .i64 (t : Int), .int .i64 o.i, .slice o.ka o.kn o.kc, .slice o.ta o.tn o.tc, .int .i64 o.m, .slice o.ra o.rn o.rc] 74)
    rw [ea] at x0
    rw [ey]
    clear ho hy hmem hst ea ey hpo hpt hzk hte hca
    go_upto_region 14 with (fail)
    rw [← hwb]
    clear hwb p0 p1 p2 p3 p4 p5 p6 x0 x1 x2
    have q0 := HXB.out.cell 0
    simp only [gtA, gtB, gtC] at q0
    have y0 := tcb HBB.out y0
    obtain ⟨wt, hwt⟩ := gtx (xP_ o y.e)
    have HWT := hid hwt
    go_cut [69] (fun v wx => v = .bool (!wt) /\ wb = wx)
    case first =>
     by_cases e0 : y.e = 0
     ·have h0 : (y.e != 0) = false := by simp [e0]
      by_cases k2 : o.k = 2
      ·have h2 : (o.k != 2) = false := by simp [k2]
       have hw : wt = true := by rw [← hwt]; unfold xP_; simp [e0, k2]
       clear e0 k2 hwt
       exact Xb56
      ·have h2 : (o.k != 2) = true := by simp [k2]
       by_cases k3 : o.k = 3
       ·have h3 : (o.k != 3) = false := by simp [k3]
        have hw : wt = true := by rw [← hwt]; unfold xP_; simp [e0, k3]
        clear e0 k2 k3 hwt
        exact Xb56
       ·have h3 : (o.k != 3) = true := by simp [k3]
        by_cases k4 : o.k = 4
        ·have h4 : (o.k != 4) = false := by simp [k4]
         have hw : wt = true := by rw [← hwt]; unfold xP_; simp [e0, k4]
         clear e0 k2 k3 k4 hwt
         exact Xb56
        ·have h4 : (o.k != 4) = true := by simp [k4]
         have hw : wt = false := by rw [← hwt]; unfold xP_; simp; intro _ _; omega
         clear e0 k2 k3 k4 hwt
         exact Xb56
     ·have h0 : (y.e != 0) = true := by simp [e0]
      have hw : wt = false := by rw [← hwt]; unfold xP_; simp [e0]
      clear e0 hwt
      exact Xb56
    case rest =>
    obtain ⟨rfl, rfl⟩ := hcut
    clear hwt q0 y0
    have hdk := HDT.out
    unfold stepQ at hdk
    cases wt with
    | false =>
     have HDS := hid (show Qs_ g.P (Z.take (k + 1)) = Qs_ g.P (Z.take k) by rw [hdk, if_neg (by rw [HWT.out]; simp)])
     clear hdk
     go_wp2_with fail
     go_roundw
     case rel => exact ⟨k + 1, V, by omega, by go_num, by omega, hid (by rw [HDS.out]; exact HVM.out), hid (ze_ HOV.out HBB.out), hid (fun y hy => ⟨(HVS.out y hy).1, (HVS.out y hy).2.below HBB.out⟩), hid (HBW.out.trans (HBB.out.mono HBW.out.size))⟩
     case measure => simp [intOf]; omega
    | true =>
     have HKO := hid (show zH_ o.K from by
      have h1 := HWT.out
      unfold xP_ at h1
      simp only [Bool.and_eq_true, decide_eq_true_eq] at h1
      exact jy_ HPO.out Xt53 HCA.out.now.kl HCA.out.now.kb)
     have HDS := hid (show Qs_ g.P (Z.take (k + 1)) = insW (Qs_ g.P (Z.take k)) t o.K (rowT g.P t o.K) by rw [hdk, if_pos HWT.out, HTT.out.1])
     clear hdk
     obtain ⟨ua, uc, hu⟩ := zd_ HOV.out
     subst hu
     obtain ⟨n, hn⟩ := gtx (V.length)
     rw [hn] at HOV hVk ⊢
     have HN := hid hn
     obtain ⟨L, hL⟩ := gtx (V.map WtV.P)
     rw [hL] at HVM
     have HL := hid hL
     have hn16 : (n : Int) <= 16 := by omega
     have HOC := hid (HCA.out.now)
     clear hn hL
     obtain ⟨wo, hwo⟩ := gty (wr)
     subst hwo
     go_wp2_with fail
     go_loopw [12, 13, 14] (fun va vh vm wq => ∃ (m a : Nat) (hh : Bool), m <= n /\ vm = .int .i64 (m : Int) /\ va = .int .i64 (a : Int) /\ vh = .bool hh /\ a <= m /\ Hid (atW (t, o.K) (L.drop m) m a = atW (t, o.K) L 0 0) /\ Hid ((hh || hasW (t, o.K) (L.drop m)) = hasW (t, o.K) L) /\ Hid (Below wb.heap.size wb wq)) (fun _ _ vm _ => n - (intOf vm).toNat)
     case atStart => exact ⟨0, 0, false, by omega, rfl, rfl, rfl, by omega, hid (by rw [List.drop_zero]), hid (by rw [List.drop_zero]; rfl), hid (Below.refl _ _)⟩
     case round =>
      obtain ⟨m, a, hh, hm, rfl, rfl, rfl, ham, HAT, HHA, HBQ⟩ := hrel
      by_cases hlm : m < n
      ·have d2 : (m : Int) < (n : Int) := by omega
       obtain ⟨ym, hym⟩ : ∃ y, V[m]? = some y := ⟨_, List.getElem?_eq_getElem (by rw [HN.out]; exact hlm)⟩
       have hwc := wc_own (ze_ HOV.out (HBB.out.trans (HBQ.out.mono HBB.out.size))) HN.out
       obtain ⟨gb, go, eg, cc⟩ := hwc m ym hym
       subst eg
       have HYM := hid hym
       obtain ⟨ykn, hykn⟩ := gtx (ym.K.length)
       have hy0 : wr.cell? ⟨gb, go + m * 3, none⟩ = some (.int .i64 (ym.t : Int)) := cc 0 Xt4
       have hy1 : wr.cell? ⟨gb, go + m * 3 + 1, none⟩ = some (.slice ym.ka ykn ym.kc) := by rw [← hykn]; exact cc 1 Xt4
       have HYC := hid (fun W (b : Below wr.heap.size wr W) => (⟨tcb b hy0, tcb b hy1⟩ : W.cell? ⟨gb, go + m * 3, none⟩ = some (.int .i64 (ym.t : Int)) /\ W.cell? ⟨gb, go + m * 3 + 1, none⟩ = some (.slice ym.ka ykn ym.kc)))
       have hyv := (HVS.out ym (List.mem_of_getElem? hym)).1
       have hys := ((HVS.out ym (List.mem_of_getElem? hym)).2.below HBB.out).below HBQ.out
       have HCY := hid (fun W (b : Below wr.heap.size wr W) => zA_ W ym.ka ykn ym.kc ym.K hykn (hys.below b).now.1.rd)
       have HCO := hid (fun W (b : Below wr.heap.size wr W) => zA_ W o.ka o.kn o.kc o.K HOC.out.kl ((((HOC.out.below HBB.out).below HBQ.out).below b).ks).rd)
       have HXW := hid (fun W (b : Below wr.heap.size wr W) => ((HXB.out.below HBQ.out).below b))
       have HYB := hid (show Byt ym.K from hyv.2.1.1)
       have hdr : L.drop m = ym.P :: L.drop (m + 1) := zW_ (by rw [← HL.out, List.getElem?_map, hym]; rfl)
       have HDR := hid hdr
       obtain ⟨q, hq⟩ := gtx (ltQ (wk ym.P) (t, o.K))
       have HQ := hid hq
       obtain ⟨ce, hce⟩ := gtx (decide (wk ym.P = (t, o.K)))
       have HCD := hid hce
       have hym16 : (ym.t : Int) <= 4 := by have := hyv.1; have := HH.out.1.few; omega
       have htt4 : (t : Int) <= 4 := by have := HTT.out.2; have := HH.out.1.few; omega
       clear hwc cc hym hykn hy0 hy1 hyv hys hdr
       go_upto_region 19 with (fail)
       go_cut [105] (fun v wx => v = .bool q /\ Hid (Below wr.heap.size wr wx))
       case first =>
        rcases Nat.lt_trichotomy ym.t t with h | h | h
        ·have d5 : (ym.t : Int) < (t : Int) := by omega
         have HQV := hid (show q = true by rw [← hq]; unfold ltQ; show (decide (ym.t < t) || _) = true; rw [decide_eq_true h]; rfl)
         clear h hq hce
         refine rgw wr (Below.refl _ _).drew fun hH => ?_
         refine tkq4 0 1 2 3 ?_
         refine tkr 4 rfl Xf21 ?_
         refine tkq 5 ?_
         refine tkr 6 rfl Xf5 ?_
         refine tkp 7 (.bool true) rfl (.inl ⟨by rfl, ?_⟩) ?_
         ·exact Xb37
         refine tkp 8 (.bool true) rfl (.inl ⟨by rfl, ?_⟩) ?_
         ·exact Xb37
         refine tkn 9 ?_
         refine tkn 10 ?_
         refine tkn 11 ?_
         refine tkn 12 ?_
         refine tkn 13 ?_
         refine tkn 14 ?_
         refine tkn 15 ?_
         refine tkn 16 ?_
         refine tkn 17 ?_
         refine tkn 18 ?_
         refine tkn 19 ?_
         refine tkn 20 ?_
         refine tkn 21 ?_
         refine tkn 22 ?_
         refine tkn 23 ?_
         refine tkn 24 ?_
         refine tkn 25 ?_
         refine tkn 26 ?_
         refine tkn 27 ?_
         refine tkn 28 ?_
         refine tkq 29 ?_
         exact Xb36
        ·have d5 : ¬ (ym.t : Int) < (t : Int) := by omega
         have d6 : ((ym.t : Int) == (t : Int)) = true := by simp [h]
         obtain ⟨cm, hcm⟩ := gtx (ltL ym.K o.K)
         have HCM := hid (show Op.bytesLess (strOfNums ym.K).toList (strOfNums o.K).toList = cm by rw [yi_ HYB.out HOC.out.kb]; exact hcm)
         have HQV := hid (show q = cm by rw [← hq, ← hcm]; unfold ltQ; show (decide (ym.t < t) || (decide (ym.t = t) && ltL ym.K o.K)) = _; rw [h]; simp)
         clear h hq hce hcm
         refine rgw wr (Below.refl _ _).drew fun hH => ?_
         refine tkq4 0 1 2 3 ?_
         refine tkr 4 rfl Xf21 ?_
         refine tkq 5 ?_
         refine tkr 6 rfl Xf5 ?_
         refine tkp 7 (.bool false) rfl (.inl ⟨by rfl, ?_⟩) ?_
         ·exact Xb37
         refine tkp 8 (.bool false) rfl (.inl ⟨by rfl, ?_⟩) ?_
         ·exact Xb37
         refine tkq4 9 10 11 12 ?_
         refine tkr 13 rfl Xf21 ?_
         refine tkq 14 ?_
         refine tkr 15 rfl Xf5 ?_
         refine tkp 16 (.bool true) rfl (.inl ⟨by rfl, ?_⟩) ?_
         ·exact Xb80
         refine tkq4 17 18 19 20 ?_
         refine tkq 21 ?_
         refine tkr 22 rfl Xf21 ?_
         refine tkr 23 rfl (fun W hSw => by have hcv := HCY.out W hSw; exact tks) ?_
         refine tkq 24 ?_
         refine tkr 25 rfl Xf31 ?_
         refine tkr 26 rfl (fun W hSw => by have hcv := HCO.out W hSw; exact tks) ?_
         refine tkp 27 (.bool cm) rfl (.inl ⟨by rfl, ?_⟩) ?_
         ·intro W hSw; go_simp; try (first | exact HCM.out | rfl)
         refine tkq2 28 29 ?_
         exact Xb36
        ·have d5 : ¬ (ym.t : Int) < (t : Int) := by omega
         have d6 : ((ym.t : Int) == (t : Int)) = false := by simp; omega
         have HQV := hid (show q = false by rw [← hq]; unfold ltQ; show (decide (ym.t < t) || (decide (ym.t = t) && _)) = false; rw [decide_eq_false Xt0, decide_eq_false Xt0]; rfl)
         clear h hq hce
         refine rgw wr (Below.refl _ _).drew fun hH => ?_
         refine tkq4 0 1 2 3 ?_
         refine tkr 4 rfl Xf21 ?_
         refine tkq 5 ?_
         refine tkr 6 rfl Xf5 ?_
         refine tkp 7 (.bool false) rfl (.inl ⟨by rfl, ?_⟩) ?_
         ·exact Xb37
         refine tkp 8 (.bool false) rfl (.inl ⟨by rfl, ?_⟩) ?_
         ·exact Xb37
         refine tkq4 9 10 11 12 ?_
         refine tkr 13 rfl Xf21 ?_
         refine tkq 14 ?_
         refine tkr 15 rfl Xf5 ?_
         refine tkp 16 (.bool false) rfl (.inl ⟨by rfl, ?_⟩) ?_
         ·exact Xb80
         refine tkq 17 ?_
         refine tkn 18 ?_
         refine tkn 19 ?_
         refine tkn 20 ?_
         refine tkn 21 ?_
         refine tkn 22 ?_
         refine tkn 23 ?_
         refine tkn 24 ?_
         refine tkn 25 ?_
         refine tkn 26 ?_
         refine tkn 27 ?_
         refine tkq2 28 29 ?_
         exact Xb36
       case rest =>
       obtain ⟨rfl, HWZ⟩ := hcut
       obtain ⟨a2, ha2⟩ := gtx ((if q = true then m + 1 else a))
       have HA2 := hid ha2
       obtain ⟨w8, hw8⟩ := gty (wc)
       subst hw8
       go_upto_if 105 with (fail)
       go_cut [12] (fun v wx => v = .int .i64 (a2 : Int) /\ w8 = wx)
       case first =>
        cases q with
        | true =>
         have e : a2 = m + 1 := by rw [← ha2]; rfl
         clear ha2 hq hce
         go_wp2_with fail
         go_meet
         exact ⟨by rw [e]; rfl, rfl⟩
        | false =>
         have e : a2 = a := by rw [← ha2]; rfl
         clear ha2 hq hce
         go_wp2_with fail
         go_meet
         exact ⟨by rw [e], rfl⟩
       case rest =>
       obtain ⟨rfl, rfl⟩ := hcut
       clear ha2 hq
       go_upto_region 21 with (fail)
       cases hh with
       | true =>
        have HCV := hid (show (true || ce) = true from rfl)
        clear hce
        refine rgw w8 (Below.refl _ _).drew fun hH => ?_
        refine tkq2 0 1 ?_
        refine tkn 2 ?_
        refine tkn 3 ?_
        refine tkn 4 ?_
        refine tkn 5 ?_
        refine tkn 6 ?_
        refine tkn 7 ?_
        refine tkn 8 ?_
        refine tkn 9 ?_
        refine tkn 10 ?_
        refine tkn 11 ?_
        refine tkn 12 ?_
        refine tkn 13 ?_
        refine tkn 14 ?_
        refine tkn 15 ?_
        refine tkn 16 ?_
        refine tkn 17 ?_
        refine tkn 18 ?_
        refine tkn 19 ?_
        refine tkn 20 ?_
        refine tkn 21 ?_
        refine tkq2 22 23 ?_
        refine adn ?_
        skip
        have HWY := hid (show Below w8.heap.size w8 w8.drew from hH)
        clear hH
        have HBN := hid (HBQ.out.trans ((za_ HWZ.out HWY.out).mono HBQ.out.size))
        go_wp2_with fail
        go_roundw
        case rel =>
         refine ⟨m + 1, a2, true, by omega, by go_num, rfl, rfl, ?_, hid ?_, hid ?_, HBN⟩
         ·rw [← HA2.out]; split <;> omega
         ·exact Xb47
         ·exact Xb52
        case measure => simp [intOf]; omega
       | false =>
        by_cases h : ym.t = t
        ·have d6 : ((ym.t : Int) == (t : Int)) = true := by simp [h]
         have HCE := hid (show ((strOfNums ym.K).toList == (strOfNums o.K).toList) = ce by
          rw [← hce]
          apply Bool.eq_iff_iff.2
          rw [beq_iff_eq, decide_eq_true_eq, ByteArray.toList_eq, ByteArray.toList_eq]
          constructor
          ·intro e; exact Prod.ext h (qh_ HYB.out HOC.out.kb (bytes_inj e))
          ·intro e; rw [show ym.K = o.K from congrArg (fun q : Nat × List Int => q.2) e])
         have HCV := hid (show (false || ce) = ce from rfl)
         clear h hce
         refine rgw w8 (Below.refl _ _).drew fun hH => ?_
         refine tkq4 0 1 2 3 ?_
         refine tkq2 4 5 ?_
         refine tkr 6 rfl Xf29 ?_
         refine tkq 7 ?_
         refine tkr 8 rfl Xf28 ?_
         refine tkp 9 (.bool true) rfl (.inl ⟨by rfl, ?_⟩) ?_
         ·exact Xb80
         refine tkq4 10 11 12 13 ?_
         refine tkq 14 ?_
         refine tkr 15 rfl Xf29 ?_
         refine tkr 16 rfl (fun W hSw => by have hcv := HCY.out W (za_ HWZ.out hSw); exact tks) ?_
         refine tkq 17 ?_
         refine tkr 18 rfl (fun W hSw => by have mb := HXW.out W (za_ HWZ.out hSw); have m3 := mb.cell 3; simp only [gtA, gtB, gtC] at m3; exact tks) ?_
         refine tkr 19 rfl (fun W hSw => by have hcv := HCO.out W (za_ HWZ.out hSw); exact tks) ?_
         refine tkp 20 (.bool ce) rfl (.inl ⟨by rfl, ?_⟩) ?_
         ·intro W hSw; go_simp; try (first | exact HCE.out | rfl)
         refine tkq3 21 22 23 ?_
         refine adn ?_
         skip
         have HWY := hid (show Below w8.heap.size w8 w8.drew from hH)
         clear hH
         have HBN := hid (HBQ.out.trans ((za_ HWZ.out HWY.out).mono HBQ.out.size))
         go_wp2_with fail
         go_roundw
         case rel =>
          refine ⟨m + 1, a2, ce, by omega, by go_num, rfl, rfl, ?_, hid ?_, hid ?_, HBN⟩
          ·rw [← HA2.out]; split <;> omega
          ·exact Xb47
          ·exact Xb52
         case measure => simp [intOf]; omega
        ·have d6 : ((ym.t : Int) == (t : Int)) = false := by simp; omega
         have HCV := hid (show (false || ce) = false by
          rw [← hce]
          have : decide (wk ym.P = (t, o.K)) = false := decide_eq_false fun e => h (congrArg (fun q : Nat × List Int => q.1) e)
          rw [this]; rfl)
         clear h hce
         refine rgw w8 (Below.refl _ _).drew fun hH => ?_
         refine tkq4 0 1 2 3 ?_
         refine tkq2 4 5 ?_
         refine tkr 6 rfl Xf29 ?_
         refine tkq 7 ?_
         refine tkr 8 rfl Xf28 ?_
         refine tkp 9 (.bool false) rfl (.inl ⟨by rfl, ?_⟩) ?_
         ·exact Xb80
         refine tkq 10 ?_
         refine tkn 11 ?_
         refine tkn 12 ?_
         refine tkn 13 ?_
         refine tkn 14 ?_
         refine tkn 15 ?_
         refine tkn 16 ?_
         refine tkn 17 ?_
         refine tkn 18 ?_
         refine tkn 19 ?_
         refine tkn 20 ?_
         refine tkq3 21 22 23 ?_
         refine adn ?_
         skip
         have HWY := hid (show Below w8.heap.size w8 w8.drew from hH)
         clear hH
         have HBN := hid (HBQ.out.trans ((za_ HWZ.out HWY.out).mono HBQ.out.size))
         go_wp2_with fail
         go_roundw
         case rel =>
          refine ⟨m + 1, a2, false, by omega, by go_num, rfl, rfl, ?_, hid ?_, hid ?_, HBN⟩
          ·rw [← HA2.out]; split <;> omega
          ·exact Xb47
          ·exact Xb52
         case measure => simp [intOf]; omega
      ·have d2 : ¬ (m : Int) < (n : Int) := by omega
       have hme : m = n := by omega
       have hdn : L.drop m = [] := List.drop_of_length_le (by rw [← HL.out, List.length_map, HN.out]; omega)
       have hat := HAT.out
       have hha := HHA.out
       rw [hdn] at hat hha
       have HA := hid (show a = atW (t, o.K) L 0 0 from hat)
       have hha : hh = hasW (t, o.K) L := by rw [← hha]; unfold hasW; simp
       have HHH := hid hha
       have HBO := hid (HBB.out.trans (HBQ.out.mono HBB.out.size))
       have han : a <= n := by omega
       clear hat hha hdn hme hm
       cases hh with
       | true =>
        go_wp2_with fail
        go_roundw
        case rel => exact ⟨k + 1, V, by omega, by go_num, by rw [HN.out]; omega, hid (by rw [HDS.out, HL.out, HVM.out]; unfold insW; rw [if_pos (by rw [← HVM.out]; exact HHH.out.symm)]), hid (by rw [HN.out]; exact ze_ HOV.out HBO.out), hid (fun y hy => ⟨(HVS.out y hy).1, (HVS.out y hy).2.below HBO.out⟩), hid (HBW.out.trans (HBO.out.mono HBW.out.size))⟩
        case measure => simp [intOf]; omega
       | false =>
        have hxb := HXB.out.below HBQ.out
        have q1 := hxb.cell 1
        have q3 := hxb.cell 3
        simp only [gtA, gtB, gtC] at q1 q3
        have HB7R := hid (HBW.out.trans (HBO.out.mono HBW.out.size))
        have hgm := HG.out.1.below HB7R.out
        obtain ⟨qq, hqq1, hqq2, hqq3⟩ := qw_ hgm t (by rw [HG.out.2.2.2.1]; exact HTT.out.2) o.K HOC.out.kb o.ka o.kn o.kc HOC.out.kl HG.out.2.1 ((HOC.out.below HBO.out).ks)
        rw [HGP.out] at hqq3
        have HQG := hid (And.intro hqq1 hqq2)
        have HQC := hid hqq3
        clear hxb hgm hqq1 hqq2 hqq3
        go_wp2_with fail
        clear q1 q3
        refine HQC.out.mono ?_; rintro r w9 ⟨hr, hb9⟩
        have hrow : ∃ ra rc R8 b, r = .returned (.tuple #[.slice ra (R8 : List P1).length rc, .bool b]) /\ R8.map P1.bs = rowT g.P t o.K /\ (R8 ≠ [] -> rOk (R8.map P1.bs)) /\ zs_ (fun b => (S b ∨ b = c.p ∨ b = c.b1) ∨ b = g.b1) w9 (fun W => RdR W ra R8) := by
         cases qq with
         | none =>
          refine ⟨none, 0, [], false, hr, ?_, fun e => absurd rfl e, fun W' _ => RdR.nil W' none⟩
          unfold rowT
          rw [← HQG.out.1]; rfl
         | some R =>
          obtain ⟨v, e, hcp⟩ := hr
          obtain ⟨a8, c8, R8, hv8, hl8, hm8, hst8⟩ := xu_ (S := fun b => (S b ∨ b = c.p ∨ b = c.b1) ∨ b = g.b1) hcp rfl (fun b hb => Nat.lt_of_lt_of_le (HG.out.2.2.2.2 b hb) HB7R.out.size)
          refine ⟨a8, c8, R8, true, by rw [e, hv8, hl8], ?_, fun _ => by rw [hm8]; exact HQG.out.2 R rfl, hst8⟩
          unfold rowT
          rw [hm8, ← HQG.out.1]; rfl
        obtain ⟨ra, rc, R8, bb, rfl, hr1, hr2, hr3⟩ := hrow
        obtain ⟨rn, hrn⟩ := gtx (R8.length)
        rw [hrn]
        have HR8 := hid (And.intro hrn (And.intro hr1 (And.intro hr2 hr3)))
        have HB9 := hid hb9
        have HB79 := hid (HB7R.out.trans (hb9.mono HB7R.out.size))
        have HBO9 := hid (HBO.out.trans (hb9.mono HBO.out.size))
        have HZ79 := hid (show w7.heap.size <= w9.heap.size from HB79.out.size)
        have HXW := hid (fun W (b : Below w9.heap.size w9 W) => (((HXB.out.below HBQ.out).below HB9.out).below b))
        have HWC := hid (fun W (b : Below w9.heap.size w9 W) => (wc_own (ze_ HOV.out HBO9.out) HN.out).below b)
        obtain ⟨hnc, hna⟩ := zJ_ HOV.out
        have HUA := hid hna
        have HHI := hid (fun W => hi41 W ua n uc a han hnc)
        obtain ⟨al, hal1, hal2, hal3⟩ := lo41 w9 ua V n uc a HN.out han hnc hna (HWC.out w9 (Below.refl _ _))
        have HLO := hid hal1
        have HLW := hid hal2
        have HLN := hid hal3
        have han2 : (a : Int) <= (n : Int) := by omega
        have hnuc : (n : Int) <= (uc : Int) := by omega
        clear hr hb9 hrn hr1 hr2 hr3 hna hal1 hal2 hal3
        go_upto_region 24 with (fail)
        refine rgw w9 (Below.refl _ _).drew fun hH => ?_
        refine tkq2 0 1 ?_
        refine tkr 2 rfl (fun W hSw => by have hsl := HHI.out W; exact tks) ?_
        refine tkq 4 ?_
        refine tkr 5 rfl Xf5 ?_
        refine tkq 6 ?_
        refine tkr 7 rfl Xf31 ?_
        refine tkq4 8 9 12 13 ?_
        refine tkr 14 rfl Xf41 ?_
        refine wpAnyH_ready (rs := [3, 10]) Xt3 Xt5 ?_
        refine tka (fun K hK => ?_) ?_
        ·refine z4_ rfl _ _ rfl w9.heap.size (.slice none 0 0) 0 [] rfl (World.ownsRow_nil _ _ _ _) ua uc a (V.take a) Xt69 rfl ((HWC.out _ hH).take a) HUA.out Xt0 hH.size ?_
         intro v3 w10 hown3 hgrow3
         rw [Nat.zero_add, List.nil_append] at hown3
         obtain ⟨a3, c3, hv3⟩ := zd_ hown3
         subst hv3
         have hown3' := hown3
         have hb10 := hH.grown hgrow3 hH.size Xt23
         have HO3 := hid hown3'
         have HB10 := hid hb10
         clear hown3 hown3' hgrow3
         refine hK.out _ _ hb10 (fun hHeldn => ?_)
         clear hb10
         clear hK K hH; have hH := hHeldn; clear hHeldn
         refine stP ?_
         refine tk1 10 rfl fun K hK => ?_
         go_simp
         have HXN := hid (show zg_ (w10.alloc (.cells #[.int .i64 (t : Int), .slice o.ka o.kn o.kc, .slice ra rn rc] 84)) w10.heap.size #[.int .i64 (t : Int), .slice o.ka o.kn o.kc, .slice ra rn rc] 84 from zg_.new w10 _ _)
         have HO3 := hid (ze_ HO3.out (bl1 w10 (.cells #[.int .i64 (t : Int), .slice o.ka o.kn o.kc, .slice ra rn rc] 84)))
         have hb11 := hH.trans ((bl1 w10 (.cells #[.int .i64 (t : Int), .slice o.ka o.kn o.kc, .slice ra rn rc] 84)).mono hH.size)
         refine hK.out _ _ hb11 (fun hHeldn => ?_)
         clear hb11
         clear hK K hH; have hH := hHeldn; clear hHeldn
         refine stP ?_
         refine tk1 11 rfl fun K hK => ?_
         have hcl : ∀ (j : Nat) (u : Value), [Value.int .i64 (t : Int), .slice o.ka o.kn o.kc, .slice ra rn rc][j]? = some u -> World.cell? (w10.alloc (.cells #[.int .i64 (t : Int), .slice o.ka o.kn o.kc, .slice ra rn rc] 84)) ((⟨w10.heap.size, 0, none⟩ : Addr).add j) = some u := fun j u hj => by rw [zE_, HXN.out.cell]; simpa using hj
         refine zC_ Qk_ rfl _ _ rfl w9.heap.size (.slice a3 a c3) a (cellsOf wcl (V.take a)) rfl HO3.out ⟨w10.heap.size, 0, none⟩ 1 1 [.int .i64 (t : Int), .slice o.ka o.kn o.kc, .slice ra rn rc] rfl rfl hcl Xt33 Xt0 hH.size ?_
         exact Xb7
        refine tka (fun K hK => ?_) AllReadyH.nil
        go_simp
        have HXN := hid (show zg_ (w9.drew.alloc (.cells #[.int .i64 (t : Int), .slice o.ka o.kn o.kc, .slice ra rn rc] 84)) w9.heap.size #[.int .i64 (t : Int), .slice o.ka o.kn o.kc, .slice ra rn rc] 84 from zg_.new w9.drew _ _)
        have hb11 := hH.trans ((bl1 w9.drew (.cells #[.int .i64 (t : Int), .slice o.ka o.kn o.kc, .slice ra rn rc] 84)).mono hH.size)
        refine hK.out _ _ hb11 (fun hHeldn => ?_)
        clear hb11
        clear hK K hH; have hH := hHeldn; clear hHeldn
        refine stP ?_
        refine tk1 3 rfl fun K hK => ?_
        refine z4_ rfl _ _ rfl w9.heap.size (.slice none 0 0) 0 [] rfl (World.ownsRow_nil _ _ _ _) ua uc a (V.take a) Xt69 rfl ((HWC.out _ hH).take a) HUA.out Xt0 hH.size ?_
        intro v3 w10 hown3 hgrow3
        rw [Nat.zero_add, List.nil_append] at hown3
        obtain ⟨a3, c3, hv3⟩ := zd_ hown3
        subst hv3
        have HXN := hid (HXN.out.below ((Below.refl _ _).grown hgrow3 (Nat.le_refl _) Xt23))
        have hown3' := hown3
        have hb10 := hH.grown hgrow3 hH.size Xt23
        have HO3 := hid hown3'
        have HB10 := hid hb10
        clear hown3 hown3' hgrow3
        refine hK.out _ _ hb10 (fun hHeldn => ?_)
        clear hb10
        clear hK K hH; have hH := hHeldn; clear hHeldn
        refine stP ?_
        refine tk1 11 rfl fun K hK => ?_
        have hcl : ∀ (j : Nat) (u : Value), [Value.int .i64 (t : Int), .slice o.ka o.kn o.kc, .slice ra rn rc][j]? = some u -> World.cell? w10 ((⟨w9.heap.size, 0, none⟩ : Addr).add j) = some u := fun j u hj => by rw [zE_, HXN.out.cell]; simpa using hj
        refine zC_ Qk_ rfl _ _ rfl w9.heap.size (.slice a3 a c3) a (cellsOf wcl (V.take a)) rfl HO3.out ⟨w9.heap.size, 0, none⟩ 1 1 [.int .i64 (t : Int), .slice o.ka o.kn o.kc, .slice ra rn rc] rfl rfl hcl Xt33 Xt0 hH.size ?_
        exact Xb7
   ·have d1 : ¬ (k : Int) < (x.on : Int) := by omega
    have hke : k = x.on := by omega
    have HZL := hid (show Z.take k = Z by rw [← HZ.out, List.take_of_length_le (by rw [List.length_zip, HXL.out]; omega)])
    obtain ⟨ua, uc, hu⟩ := zd_ HOV.out
    subst hu
    have HOND := hid HMF.out.1
    clear hke
    go_wp2_with fail
    go_ret2
    refine HR.out _ _ ⟨ua, uc, V, rfl, HB07.out.trans (HBW.out.mono HB07.out.size), ?_, by have := HOND.out; omega, fun y hy => (HVS.out y hy).1, fun W' o' => ?_⟩
    ·rw [HVM.out, HZL.out, ← HZ.out, HG.out.2.2.1, HAB.out]; rfl
    ·have how := zm_ HOV.out o' (fun b hb => by have := HH.out.2.1 b hb; have := HB07.out.size; omega)
     exact own_wr how rfl fun y hy => ((HVS.out y hy).2.less fun b hb => .inl (.inl hb)) W' o'
end Go.Proofs.YthmofoldmdafoaaGreat
