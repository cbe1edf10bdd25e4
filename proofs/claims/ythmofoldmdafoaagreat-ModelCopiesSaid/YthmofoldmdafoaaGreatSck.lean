/- Part of the proof that ModelCopies holds for every input: a copy goes on apart; two models are the same just if tables and rows are. Part 11. -/
import Derived.Test.YthmofoldmdafoaaGreatScj
set_option linter.unusedVariables false
set_option linter.unusedSimpArgs false
set_option maxRecDepth 100000
set_option maxHeartbeats 4000000
namespace Go.Proofs.YthmofoldmdafoaaGreat
open Go.ChangeShapes Go.WideShapes Go.ChangeAt Go.RowKit
open Go.Lib (hid)
open Go.Proofs.Tryz
theorem runD_len (j : Job) (T : List (List Pr)) (ops : List zj_) : (qf_ j T ops).1.length = ops.length := by
 induction ops using zV_ with
 | nil => rfl
 | append_singleton l o ih =>
  have e2 : qf_ j T (l ++ [o]) = stepD j (qf_ j T l) o := by unfold qf_; rw [List.foldl_append]; rfl
  rw [e2]
  unfold stepD
  rw [List.length_append, List.length_append, ih]; rfl
def RWrR (S : Nat -> Prop) (w : World) (f : Rf) (x : zW_) (r : Ending) (w' : World) : Prop :=
 if yQ_ f.j x then ∃ (a : Option Addr) (c : Nat) (V : List WtV), r = .returned (.tuple #[.slice a V.length c, .int .i64 0]) /\ Below w.heap.size w w' /\ V.map WtV.P = (if x.ab then [] else Qv_ (qf_ f.j f.P x.ops).2 (x.ops.zip ((qf_ f.j f.P x.ops).1.map Prod.fst))) /\ V.length <= 16 /\ (∀ y ∈ V, y.t < f.Ts.length /\ zH_ y.K /\ (y.r.R ≠ [] -> rOk y.r.P)) /\ zs_ S w' (fun W => WrR W a (V.map WtV.W))
 else r = .returned (.tuple #[.slice none 0 0, .int .i64 2]) /\ Below w.heap.size w w'
theorem qQ_ {S : Nat -> Prop} {f : Rf} {w : World} (h : RfR S w f) (hS : ∀ k, S k -> k < w.heap.size) (x : zW_) (hx : zs_ S w fun W => zM_ W x) (hon : x.on <= 1000000) (hrn : ∀ o ∈ x.ops, o.rn <= 1000000) (hl : ∀ z ∈ f.Ts, z.P.length <= 700000) :
  Calls prog 41 #[.pointer (some ⟨f.p, 0, none⟩), .agg #[.slice x.oa x.on x.oc, .bool x.sn, .bool x.ab]] w (RWrR S w f x) := by
 have HH := hid (And.intro h (And.intro hS hl))
 have HXT := hid hx
 have HRN := hid hrn
 obtain ⟨w2, hw2⟩ := gty (w.alloc (.cells #[.slice x.oa x.on x.oc, .bool x.sn, .bool x.ab] 38))
 have hb2 : Below w.heap.size w w2 := by rw [hw2]; exact bl1 _ _
 have hbx2 : zg_ w2 w.heap.size #[.slice x.oa x.on x.oc, .bool x.sn, .bool x.ab] 38 := by rw [hw2]; exact zg_.new _ _ _
 have HB2 := hid hb2
 have HBX2 := hid hbx2
 have HX := hid (fun X (b : Below w2.heap.size w2 X) => (by
  have hm := ((h.below hb2).below b).box
  have hq := hbx2.below b
  refine ⟨?_, ?_, ?_, ?_, ?_, ?_, ?_, ?_, ?_, ?_⟩
  all_goals first | (rw [hm.cell]; rfl) | (rw [hq.cell]; rfl) : X.cell? ⟨f.p, 0, none⟩ = some (.int .i64 f.j.w) /\ X.cell? ⟨f.p, 1, none⟩ = some (.int .i64 f.j.l) /\ X.cell? ⟨f.p, 2, none⟩ = some (.int .i64 f.j.d) /\ X.cell? ⟨f.p, 3, none⟩ = some (.int .i64 f.j.c) /\ X.cell? ⟨f.p, 4, none⟩ = some (.int .i64 f.j.k) /\ X.cell? ⟨f.p, 5, none⟩ = some (.int .i64 f.j.e) /\ X.cell? ⟨f.p, 6, none⟩ = some (.slice f.j.a f.j.n f.j.cap) /\ X.cell? ⟨w.heap.size, 0, none⟩ = some (.slice x.oa x.on x.oc) /\ X.cell? ⟨w.heap.size, 1, none⟩ = some (.bool x.sn) /\ X.cell? ⟨w.heap.size, 2, none⟩ = some (.bool x.ab)))
 have HMT := hid (fun X (b : Below w2.heap.size w2 X) => qU_ f.j x hon X (((h.below hb2).below b).job.now) ((hx.below hb2).below b).now)
 clear h hS hx hon hrn hl hb2 hbx2
 go_enter func41, ntmps41
 go_upto_region 3 with (fail)
 rw [← hw2]
 clear hw2
 refine rgw w2 (Below.refl _ _).drew fun hH => ?_
 refine tkq3 0 1 2 ?_
 refine tkr 3 rfl Xf23 ?_
 refine tkr 4 rfl Xf22 ?_
 refine tk1 5 rfl fun K hK => ?_
 go_simp
 refine (HMT.out _ hH).mono ?_; rintro r w4 ⟨rfl, hb4⟩
 have HB4 := hid (za_ hH hb4)
 clear hb4
 go_wp2_with fail
 refine hK.out _ _ HB4.out fun hH => ?_
 refine stP ?_
 refine tkq 6 ?_
 refine adn ?_
 skip
 cases hm : yQ_ f.j x with
 | false =>
  have HR := hid (fun r w' (hh : r = .returned (.tuple #[.slice none 0 0, .int .i64 2]) /\ Below w.heap.size w w') => (by unfold RWrR; rw [hm]; exact hh : RWrR S w f x r w'))
  exact Xb104
 | true =>
  have HR := hid (fun r w' (hh : ∃ (a : Option Addr) (c : Nat) (V : List WtV), r = .returned (.tuple #[.slice a V.length c, .int .i64 0]) /\ Below w.heap.size w w' /\ V.map WtV.P = (if x.ab then [] else Qv_ (qf_ f.j f.P x.ops).2 (x.ops.zip ((qf_ f.j f.P x.ops).1.map Prod.fst))) /\ V.length <= 16 /\ (∀ y ∈ V, y.t < f.Ts.length /\ zH_ y.K /\ (y.r.R ≠ [] -> rOk y.r.P)) /\ zs_ S w' (fun W => WrR W a (V.map WtV.W))) => (by unfold RWrR; rw [hm]; exact hh : RWrR S w f x r w'))
  obtain ⟨_, _, _, _, _, _, _, x0, x1, x2⟩ := HX.out w4 HB4.out
  cases hab : x.ab with
  | true =>
   rw [hab] at x2
   have HAB := hid hab
   clear hab hm
   go_wp2_with fail
   go_ret2
   exact HR.out _ _ ⟨none, 0, [], rfl, HB2.out.trans (HB4.out.mono HB2.out.size), by rw [HAB.out]; rfl, by simp, Xt42, (fun W' _ k y hy => by simp at hy)⟩
  | false =>
  rw [hab] at x2
  have HAB := hid hab
  clear hab
  have HMF := hid (yK_ hm)
  have hon := (yK_ hm).1
  have HXL := hid (show x.ops.length = x.on from HXT.out.now.ol)
  have HB04 := hid (HB2.out.trans (HB4.out.mono HB2.out.size))
  have HCP := hid (QF_ (HH.out.1.below HB04.out) (fun k hk => Nat.lt_of_lt_of_le (HH.out.2.1 k hk) HB04.out.size) Xt60)
  have HMT2 := hid hm
  clear hm
  go_wp2_with fail
  clear x0 x1 x2
  refine HCP.out.mono ?_; clear HCP; rintro r w6 ⟨c, rfl, hb6, hcp, hcb, hcj, hcT, hcR⟩
  have hcR0 := hcR (fun k => S k ∨ k = c.p ∨ k = c.b1) (fun k hk => hk) (.inr (.inl rfl)) (.inr (.inr rfl))
  have hcP : c.P = f.P := by
   exact Xb81
  have hcN : ∀ N : Nat, (∀ z ∈ f.Ts, z.P.length <= N) -> ∀ z ∈ c.Ts, z.P.length <= N + 0 := fun N hN z hz => by
   exact Xb71
  have hcs : c.p < w6.heap.size /\ c.b1 < w6.heap.size := by
   obtain ⟨cs, hcs⟩ := hcR0.tb
   exact ⟨hcR0.box.lt, hcs.lt⟩
  have HC := hid (And.intro hcR0 (And.intro hcP (And.intro hcN hcs)))
  have HCJ := hid hcj
  have HC4 := hid (And.intro hcp hcb)
  have HB6 := hid hb6
  have HB26 := hid (za_ HB4.out hb6)
  clear hcR hcR0 hcP hcN hcs hcj hcp hcb hcT hb6
  have hnl : ∀ N : Nat, (∀ z ∈ f.Ts, z.P.length <= N) -> ∀ z ∈ c.Ts, z.P.length <= N + 0 := HC.out.2.2.1
  have hbd6 : ∀ k, (S k ∨ k = c.p ∨ k = c.b1) -> k < w6.heap.size := fun k hk => by
   have h4 := HB04.out.size
   have h6 := HB6.out.size
   have hcc := HC.out.2.2.2
   rcases hk with hk | hk | hk
   ·have := HH.out.2.1 k hk; omega
   ·omega
   ·omega
  have HB06 := hid (HB04.out.trans (HB6.out.mono HB04.out.size))
  have hx6 : zs_ (fun k => S k ∨ k = c.p ∨ k = c.b1) w6 (fun W => zM_ W x) := HXT.out.step (Off.of HB06.out) (fun k hk => by
   have h4 := HB04.out.size
   rcases hk with hk | hk | hk
   ·exact .inl hk
   ·have := HC4.out.1; exact .inr Xt0
   ·have := HC4.out.2; exact .inr Xt0)
  have key := rdo_law HC.out.1 hbd6 x hx6 Xt0 HRN.out (fun z hz => by have := hnl 700000 HH.out.2.2 z hz; omega)
  have HDO := hid key
  have HX6 := hid hx6
  have HBD6 := hid hbd6
  clear key hnl hbd6 hx6
  obtain ⟨_, _, _, _, _, _, _, x0, x1, x2⟩ := HX.out w6 HB26.out
  go_wp2_with fail
  refine HDO.out.mono ?_; clear HDO; intro r w7 hr
  unfold RDoR at hr
  rw [if_pos (by rw [HCJ.out]; exact HMT2.out)] at hr
  obtain ⟨g, a1, c1, Y, rfl, ho7, hgp, hgj, hgb, hgR, hgP, hYm, hYok, hYst, hgN⟩ := hr
  simp only [HAB.out, Bool.false_eq_true, if_false] at hgP
  rw [HCJ.out, HC.out.2.1] at hgP hYm
  have hYl : Y.length = x.on := by
   have := congrArg List.length hYm
   rw [List.length_map, runD_len, HXL.out] at this; exact this
  have hb47 : Below w4.heap.size w4 w7 := Off.below HB6.out ho7 HB6.out.size (fun k hk => by rw [hk]; exact HC4.out.1)
  have HB47 := hid hb47
  have HB07 := hid (HB04.out.trans (hb47.mono HB04.out.size))
  have HB27 := hid (za_ HB4.out hb47)
  have hgt : g.Ts.length = f.Ts.length := by rw [hgR.len, hgj, HCJ.out, HH.out.1.len]
  have hgl : ∀ z ∈ g.Ts, z.P.length <= 1000000 := fun z hz => by have := hgN 700000 (fun y hy => by have := HC.out.2.2.1 700000 HH.out.2.2 y hy; omega) z hz; omega
  have hbg : ∀ b, ((S b ∨ b = c.p ∨ b = c.b1) ∨ b = g.b1) -> b < w7.heap.size := fun b hb => by
   rcases hb with hb | hb
   ·exact Nat.lt_of_lt_of_le (HBD6.out b hb) ho7.size
   ·obtain ⟨cs, hcs⟩ := hgR.tb
    rw [hb]; exact hcs.lt
  have HG := hid (And.intro hgR (And.intro hgl (And.intro hgP (And.intro hgt hbg))))
  have HGP := hid hgp
  have HGJ := hid (hgj.trans HCJ.out)
  have HY := hid (And.intro hYm (And.intro hYok hYst))
  have HYL := hid hYl
  have hxg : zs_ (fun b => (S b ∨ b = c.p ∨ b = c.b1) ∨ b = g.b1) w7 (fun W => zM_ W x) := HXT.out.step (Off.of HB07.out) (fun b hb => by
   have h4 := HB04.out.size
   have h6 := HB6.out.size
   rcases hb with (hb | hb | hb) | hb
   ·exact .inl hb
   ·have := HC4.out.1; exact .inr Xt0
   ·have := HC4.out.2; exact .inr Xt0
   ·rcases hgb with (hgb | hgb | hgb) | hgb
    ·exact .inl (hb ▸ hgb)
    ·have := HC4.out.1; exact .inr Xt0
    ·have := HC4.out.2; exact .inr Xt0
    ·exact .inr Xt0)
  have HXG := hid hxg
  obtain ⟨Z, hZ⟩ := gtx (x.ops.zip ((qf_ f.j f.P x.ops).1.map Prod.fst))
  have HZ := hid hZ
  rw [hYl]
  clear ho7 hgp hgj hgb hgR hgP hYm hYok hYst hgN hYl hb47 hgt hgl hbg hxg hZ x0 x1 x2
  obtain ⟨_, _, _, _, _, _, _, x0, x1, x2⟩ := HX.out w7 HB27.out
  go_wp2_with fail
  clear x0 x1 x2
  go_loopw [6, 10] (fun v i wr => ∃ (k : Nat) (V : List WtV), k <= x.on /\ i = .int .i64 (k : Int) /\ V.length <= k /\ Hid (V.map WtV.P = Qv_ g.P (Z.take k)) /\ Hid (wr.ownsRow w7.heap.size 84 3 v V.length (cellsOf wcl V)) /\ Hid (∀ y ∈ V, (y.t < f.Ts.length /\ zH_ y.K /\ (y.r.R ≠ [] -> rOk y.r.P)) /\ zs_ (fun b => (S b ∨ b = c.p ∨ b = c.b1) ∨ b = g.b1) wr (fun W => Ls .u8 W y.ka y.kc y.K /\ RdR W y.r.ra y.r.R)) /\ Hid (Below w7.heap.size w7 wr)) (fun _ i _ => x.on - (intOf i).toNat)
  case atStart => exact ⟨0, [], by omega, rfl, by simp, hid rfl, hid (World.ownsRow_nil _ _ _ _), hid Xt42, hid (Below.refl _ _)⟩
  case round =>
   obtain ⟨k, V, hk, rfl, hVk, HVM, HOV, HVS, HBW⟩ := hrel
   have HBX := hid (za_ HB27.out HBW.out)
   obtain ⟨_, _, _, _, _, _, _, x0, x1, x2⟩ := HX.out wr HBX.out
   by_cases hlt : k < x.on
   ·have d1 : (k : Int) < (x.on : Int) := by omega
    obtain ⟨o, ho⟩ : ∃ o, x.ops[k]? = some o := ⟨_, List.getElem?_eq_getElem Xt79⟩
    obtain ⟨y, hy⟩ : ∃ y, Y[k]? = some y := ⟨_, List.getElem?_eq_getElem (by rw [HYL.out]; exact hlt)⟩
    have hmem : o ∈ x.ops := List.mem_of_getElem? ho
    have hst := HXG.out.off (Off.of HBW.out)
    obtain ⟨b1, o1, ea, ⟨p0, p1, p2, p3, p4, p5, p6⟩, _⟩ := hst.now.os k o ho
    have hca : zs_ (fun b => (S b ∨ b = c.p ∨ b = c.b1) ∨ b = g.b1) wr (fun W => zy_ W o) := hst.mono fun W hW => by obtain ⟨_, _, _, _, hc⟩ := hW.os k o ho; exact hc
    obtain ⟨b2, o2, ey, y0, _, _⟩ := (HY.out.2.2.now.below HBW.out) k y hy
    have hpo := HMF.out.2 o hmem
    have hpt := pO_t hpo
    have hzk : Z[k]? = some (o, y.e) := by
     have h1 : ((qf_ f.j f.P x.ops).1.map Prod.fst)[k]? = some y.e := by
      rw [← HY.out.1, List.getElem?_map, List.getElem?_map, hy]; rfl
     rw [← HZ.out, List.getElem?_zip_eq_some]
     exact ⟨ho, h1⟩
    obtain ⟨t, hte⟩ : ∃ t : Nat, o.t = (t : Int) := ⟨o.t.toNat, by omega⟩
    have HTT := hid (show o.t.toNat = t /\ t < f.Ts.length by rw [hte]; exact ⟨by simp, by have := HH.out.1.len; omega⟩)
    rw [hte] at p1
    have HCA := hid hca
    have HPO := hid hpo
    have HTE := hid hte
    have HDT := hid (docQ_take g.P hzk)
    have HEA := hid (And.intro ea ey)
    obtain ⟨wb, hwb⟩ := gty (wr.alloc (.cells #[.int .i64 o.k, .int .i64 (t : Int), .int .i64 o.i, .slice o.ka o.kn o.kc, .slice o.ta o.tn o.tc, .int .i64 o.m, .slice o.ra o.rn o.rc] 74))
    have HBB := hid (by rw [hwb]; exact bl1 _ _ : Below wr.heap.size wr wb)
    have HXB := hid (by rw [hwb]; exact zg_.new _ _ _ : zg_ wb wr.heap.size #[.int .i64 o.k, .int .i64 (t : Int), .int .i64 o.i, .slice o.ka o.kn o.kc, .slice o.ta o.tn o.tc, .int .i64 o.m, .slice o.ra o.rn o.rc] 74)
    rw [ea] at x0
    rw [ey]
    clear ho hy hmem hst ea ey hpo hpt hzk hte hca
    go_upto_region 14 with (fail)
    rw [← hwb]
    clear hwb p0 p1 p2 p3 p4 p5 p6 x0 x1 x2
    have q0 := HXB.out.cell 0
    simp only [gtA, gtB, gtC] at q0
    have y0 := tcb HBB.out y0
    obtain ⟨wt, hwt⟩ := gtx (xU_ o y.e)
    have HWT := hid hwt
    go_cut [69] (fun v wx => v = .bool (!wt) /\ wb = wx)
    case first =>
     by_cases e0 : y.e = 0
     ·have h0 : (y.e != 0) = false := by simp [e0]
      by_cases k2 : o.k = 2
      ·have h2 : (o.k != 2) = false := by simp [k2]
       have hw : wt = true := by rw [← hwt]; unfold xU_; simp [e0, k2]
       clear e0 k2 hwt
       exact Xb53
      ·have h2 : (o.k != 2) = true := by simp [k2]
       by_cases k3 : o.k = 3
       ·have h3 : (o.k != 3) = false := by simp [k3]
        have hw : wt = true := by rw [← hwt]; unfold xU_; simp [e0, k3]
        clear e0 k2 k3 hwt
        exact Xb53
       ·have h3 : (o.k != 3) = true := by simp [k3]
        by_cases k4 : o.k = 4
        ·have h4 : (o.k != 4) = false := by simp [k4]
         have hw : wt = true := by rw [← hwt]; unfold xU_; simp [e0, k4]
         clear e0 k2 k3 k4 hwt
         exact Xb53
        ·have h4 : (o.k != 4) = true := by simp [k4]
         have hw : wt = false := by rw [← hwt]; unfold xU_; simp; intro _ _; omega
         clear e0 k2 k3 k4 hwt
         exact Xb53
     ·have h0 : (y.e != 0) = true := by simp [e0]
      have hw : wt = false := by rw [← hwt]; unfold xU_; simp [e0]
      clear e0 hwt
      exact Xb53
    case rest =>
    obtain ⟨rfl, rfl⟩ := hcut
    clear hwt q0 y0
    have hdk := HDT.out
    unfold stepQ at hdk
    cases wt with
    | false =>
     have HDS := hid (show Qv_ g.P (Z.take (k + 1)) = Qv_ g.P (Z.take k) by rw [hdk, if_neg (by rw [HWT.out]; simp)])
     clear hdk
     go_wp2_with fail
     go_roundw
     case rel => exact ⟨k + 1, V, by omega, by go_num, by omega, hid (by rw [HDS.out]; exact HVM.out), hid (ze_ HOV.out HBB.out), hid (fun y hy => ⟨(HVS.out y hy).1, (HVS.out y hy).2.below HBB.out⟩), hid (HBW.out.trans (HBB.out.mono HBW.out.size))⟩
     case measure => simp [intOf]; omega
    | true =>
     have HKO := hid (show zH_ o.K from by
      have h1 := HWT.out
      unfold xU_ at h1
      simp only [Bool.and_eq_true, decide_eq_true_eq] at h1
      exact jx_ HPO.out Xt54 HCA.out.now.kl HCA.out.now.kb)
     have HDS := hid (show Qv_ g.P (Z.take (k + 1)) = insW (Qv_ g.P (Z.take k)) t o.K (rowT g.P t o.K) by rw [hdk, if_pos HWT.out, HTT.out.1])
     clear hdk
     obtain ⟨ua, uc, hu⟩ := zd_ HOV.out
     subst hu
     obtain ⟨n, hn⟩ := gtx (V.length)
     rw [hn] at HOV hVk ⊢
     have HN := hid hn
     obtain ⟨L, hL⟩ := gtx (V.map WtV.P)
     rw [hL] at HVM
     have HL := hid hL
     have hn16 : (n : Int) <= 16 := by omega
     have HOC := hid (HCA.out.now)
     clear hn hL
     obtain ⟨wo, hwo⟩ := gty (wr)
     subst hwo
     go_wp2_with fail
     go_loopw [12, 13, 14] (fun va vh vm wq => ∃ (m a : Nat) (hh : Bool), m <= n /\ vm = .int .i64 (m : Int) /\ va = .int .i64 (a : Int) /\ vh = .bool hh /\ a <= m /\ Hid (atW (t, o.K) (L.drop m) m a = atW (t, o.K) L 0 0) /\ Hid ((hh || hasW (t, o.K) (L.drop m)) = hasW (t, o.K) L) /\ Hid (Below wb.heap.size wb wq)) (fun _ _ vm _ => n - (intOf vm).toNat)
     case atStart => exact ⟨0, 0, false, by omega, rfl, rfl, rfl, by omega, hid (by rw [List.drop_zero]), hid (by rw [List.drop_zero]; rfl), hid (Below.refl _ _)⟩
     case round =>
      obtain ⟨m, a, hh, hm, rfl, rfl, rfl, ham, HAT, HHA, HBQ⟩ := hrel
      by_cases hlm : m < n
      ·have d2 : (m : Int) < (n : Int) := by omega
       obtain ⟨ym, hym⟩ : ∃ y, V[m]? = some y := ⟨_, List.getElem?_eq_getElem (by rw [HN.out]; exact hlm)⟩
       have hwc := wc_own (ze_ HOV.out (HBB.out.trans (HBQ.out.mono HBB.out.size))) HN.out
       obtain ⟨gb, go, eg, cc⟩ := hwc m ym hym
       subst eg
       have HYM := hid hym
       obtain ⟨ykn, hykn⟩ := gtx (ym.K.length)
       have hy0 : wr.cell? ⟨gb, go + m * 3, none⟩ = some (.int .i64 (ym.t : Int)) := cc 0 Xt4
       have hy1 : wr.cell? ⟨gb, go + m * 3 + 1, none⟩ = some (.slice ym.ka ykn ym.kc) := by rw [← hykn]; exact cc 1 Xt4
       have HYC := hid (fun W (b : Below wr.heap.size wr W) => (⟨tcb b hy0, tcb b hy1⟩ : W.cell? ⟨gb, go + m * 3, none⟩ = some (.int .i64 (ym.t : Int)) /\ W.cell? ⟨gb, go + m * 3 + 1, none⟩ = some (.slice ym.ka ykn ym.kc)))
       have hyv := (HVS.out ym (List.mem_of_getElem? hym)).1
       have hys := ((HVS.out ym (List.mem_of_getElem? hym)).2.below HBB.out).below HBQ.out
       have HCY := hid (fun W (b : Below wr.heap.size wr W) => zA_ W ym.ka ykn ym.kc ym.K hykn (hys.below b).now.1.rd)
       have HCO := hid (fun W (b : Below wr.heap.size wr W) => zA_ W o.ka o.kn o.kc o.K HOC.out.kl ((((HOC.out.below HBB.out).below HBQ.out).below b).ks).rd)
       have HXW := hid (fun W (b : Below wr.heap.size wr W) => ((HXB.out.below HBQ.out).below b))
       have HYB := hid (show Byt ym.K from hyv.2.1.1)
       have hdr : L.drop m = ym.P :: L.drop (m + 1) := z0_ (by rw [← HL.out, List.getElem?_map, hym]; rfl)
       have HDR := hid hdr
       obtain ⟨q, hq⟩ := gtx (ltQ (wk ym.P) (t, o.K))
       have HQ := hid hq
       obtain ⟨ce, hce⟩ := gtx (decide (wk ym.P = (t, o.K)))
       have HCD := hid hce
       have hym16 : (ym.t : Int) <= 4 := by have := hyv.1; have := HH.out.1.few; omega
       have htt4 : (t : Int) <= 4 := by have := HTT.out.2; have := HH.out.1.few; omega
       clear hwc cc hym hykn hy0 hy1 hyv hys hdr
       go_upto_region 19 with (fail)
       go_cut [105] (fun v wx => v = .bool q /\ Hid (Below wr.heap.size wr wx))
       case first =>
        rcases Nat.lt_trichotomy ym.t t with h | h | h
        ·have d5 : (ym.t : Int) < (t : Int) := by omega
         have HQV := hid (show q = true by rw [← hq]; unfold ltQ; show (decide (ym.t < t) || _) = true; rw [decide_eq_true h]; rfl)
         clear h hq hce
         refine rgw wr (Below.refl _ _).drew fun hH => ?_
         refine tkq4 0 1 2 3 ?_
         refine tkr 4 rfl Xf21 ?_
         refine tkq 5 ?_
         refine tkr 6 rfl Xf4 ?_
         refine tkp 7 (.bool true) rfl (.inl ⟨by rfl, ?_⟩) ?_
         ·exact Xb35
         refine tkp 8 (.bool true) rfl (.inl ⟨by rfl, ?_⟩) ?_
         ·exact Xb35
         refine tkn 9 ?_
         refine tkn 10 ?_
         refine tkn 11 ?_
         refine tkn 12 ?_
         refine tkn 13 ?_
         refine tkn 14 ?_
         refine tkn 15 ?_
         refine tkn 16 ?_
         refine tkn 17 ?_
         refine tkn 18 ?_
         refine tkn 19 ?_
         refine tkn 20 ?_
         refine tkn 21 ?_
         refine tkn 22 ?_
         refine tkn 23 ?_
         refine tkn 24 ?_
         refine tkn 25 ?_
         refine tkn 26 ?_
         refine tkn 27 ?_
         refine tkn 28 ?_
         refine tkq 29 ?_
         exact Xb34
        ·have d5 : ¬ (ym.t : Int) < (t : Int) := by omega
         have d6 : ((ym.t : Int) == (t : Int)) = true := by simp [h]
         obtain ⟨cm, hcm⟩ := gtx (ltL ym.K o.K)
         have HCM := hid (show Op.bytesLess (strOfNums ym.K).toList (strOfNums o.K).toList = cm by rw [yk_ HYB.out HOC.out.kb]; exact hcm)
         have HQV := hid (show q = cm by rw [← hq, ← hcm]; unfold ltQ; show (decide (ym.t < t) || (decide (ym.t = t) && ltL ym.K o.K)) = _; rw [h]; simp)
         clear h hq hce hcm
         refine rgw wr (Below.refl _ _).drew fun hH => ?_
         refine tkq4 0 1 2 3 ?_
         refine tkr 4 rfl Xf21 ?_
         refine tkq 5 ?_
         refine tkr 6 rfl Xf4 ?_
         refine tkp 7 (.bool false) rfl (.inl ⟨by rfl, ?_⟩) ?_
         ·exact Xb35
         refine tkp 8 (.bool false) rfl (.inl ⟨by rfl, ?_⟩) ?_
         ·exact Xb35
         refine tkq4 9 10 11 12 ?_
         refine tkr 13 rfl Xf21 ?_
         refine tkq 14 ?_
         refine tkr 15 rfl Xf4 ?_
         refine tkp 16 (.bool true) rfl (.inl ⟨by rfl, ?_⟩) ?_
         ·exact Xb78
         refine tkq4 17 18 19 20 ?_
         refine tkq 21 ?_
         refine tkr 22 rfl Xf21 ?_
         refine tkr 23 rfl (fun W hSw => by have hcv := HCY.out W hSw; exact tks) ?_
         refine tkq 24 ?_
         refine tkr 25 rfl Xf31 ?_
         refine tkr 26 rfl (fun W hSw => by have hcv := HCO.out W hSw; exact tks) ?_
         refine tkp 27 (.bool cm) rfl (.inl ⟨by rfl, ?_⟩) ?_
         ·intro W hSw; go_simp; try (first | exact HCM.out | rfl)
         refine tkq2 28 29 ?_
         exact Xb34
        ·have d5 : ¬ (ym.t : Int) < (t : Int) := by omega
         have d6 : ((ym.t : Int) == (t : Int)) = false := by simp; omega
         have HQV := hid (show q = false by rw [← hq]; unfold ltQ; show (decide (ym.t < t) || (decide (ym.t = t) && _)) = false; rw [decide_eq_false Xt0, decide_eq_false Xt0]; rfl)
         clear h hq hce
         refine rgw wr (Below.refl _ _).drew fun hH => ?_
         refine tkq4 0 1 2 3 ?_
         refine tkr 4 rfl Xf21 ?_
         refine tkq 5 ?_
         refine tkr 6 rfl Xf4 ?_
         refine tkp 7 (.bool false) rfl (.inl ⟨by rfl, ?_⟩) ?_
         ·exact Xb35
         refine tkp 8 (.bool false) rfl (.inl ⟨by rfl, ?_⟩) ?_
         ·exact Xb35
         refine tkq4 9 10 11 12 ?_
         refine tkr 13 rfl Xf21 ?_
         refine tkq 14 ?_
         refine tkr 15 rfl Xf4 ?_
         refine tkp 16 (.bool false) rfl (.inl ⟨by rfl, ?_⟩) ?_
         ·exact Xb78
         refine tkq 17 ?_
         refine tkn 18 ?_
         refine tkn 19 ?_
         refine tkn 20 ?_
         refine tkn 21 ?_
         refine tkn 22 ?_
         refine tkn 23 ?_
         refine tkn 24 ?_
         refine tkn 25 ?_
         refine tkn 26 ?_
         refine tkn 27 ?_
         refine tkq2 28 29 ?_
         exact Xb34
       case rest =>
       obtain ⟨rfl, HWZ⟩ := hcut
       obtain ⟨a2, ha2⟩ := gtx ((if q = true then m + 1 else a))
       have HA2 := hid ha2
       obtain ⟨w8, hw8⟩ := gty (wc)
       subst hw8
       go_upto_if 105 with (fail)
       go_cut [12] (fun v wx => v = .int .i64 (a2 : Int) /\ w8 = wx)
       case first =>
        cases q with
        | true =>
         have e : a2 = m + 1 := by rw [← ha2]; rfl
         clear ha2 hq hce
         go_wp2_with fail
         go_meet
         exact ⟨by rw [e]; rfl, rfl⟩
        | false =>
         have e : a2 = a := by rw [← ha2]; rfl
         clear ha2 hq hce
         go_wp2_with fail
         go_meet
         exact ⟨by rw [e], rfl⟩
       case rest =>
       obtain ⟨rfl, rfl⟩ := hcut
       clear ha2 hq
       go_upto_region 21 with (fail)
       cases hh with
       | true =>
        have HCV := hid (show (true || ce) = true from rfl)
        clear hce
        refine rgw w8 (Below.refl _ _).drew fun hH => ?_
        refine tkq2 0 1 ?_
        refine tkn 2 ?_
        refine tkn 3 ?_
        refine tkn 4 ?_
        refine tkn 5 ?_
        refine tkn 6 ?_
        refine tkn 7 ?_
        refine tkn 8 ?_
        refine tkn 9 ?_
        refine tkn 10 ?_
        refine tkn 11 ?_
        refine tkn 12 ?_
        refine tkn 13 ?_
        refine tkn 14 ?_
        refine tkn 15 ?_
        refine tkn 16 ?_
        refine tkn 17 ?_
        refine tkn 18 ?_
        refine tkn 19 ?_
        refine tkn 20 ?_
        refine tkn 21 ?_
        refine tkq2 22 23 ?_
        refine adn ?_
        skip
        have HWY := hid (show Below w8.heap.size w8 w8.drew from hH)
        clear hH
        have HBN := hid (HBQ.out.trans ((za_ HWZ.out HWY.out).mono HBQ.out.size))
        go_wp2_with fail
        go_roundw
        case rel =>
         refine ⟨m + 1, a2, true, by omega, by go_num, rfl, rfl, ?_, hid ?_, hid ?_, HBN⟩
         ·rw [← HA2.out]; split <;> omega
         ·exact Xb43
         ·exact Xb48
        case measure => simp [intOf]; omega
       | false =>
        by_cases h : ym.t = t
        ·have d6 : ((ym.t : Int) == (t : Int)) = true := by simp [h]
         have HCE := hid (show ((strOfNums ym.K).toList == (strOfNums o.K).toList) = ce by
          rw [← hce]
          apply Bool.eq_iff_iff.2
          rw [beq_iff_eq, decide_eq_true_eq, ByteArray.toList_eq, ByteArray.toList_eq]
          constructor
          ·intro e; exact Prod.ext h (xG_ HYB.out HOC.out.kb (bytes_inj e))
          ·intro e; rw [show ym.K = o.K from congrArg (fun q : Nat × List Int => q.2) e])
         have HCV := hid (show (false || ce) = ce from rfl)
         clear h hce
         refine rgw w8 (Below.refl _ _).drew fun hH => ?_
         refine tkq4 0 1 2 3 ?_
         refine tkq2 4 5 ?_
         refine tkr 6 rfl Xf29 ?_
         refine tkq 7 ?_
         refine tkr 8 rfl Xf28 ?_
         refine tkp 9 (.bool true) rfl (.inl ⟨by rfl, ?_⟩) ?_
         ·exact Xb78
         refine tkq4 10 11 12 13 ?_
         refine tkq 14 ?_
         refine tkr 15 rfl Xf29 ?_
         refine tkr 16 rfl (fun W hSw => by have hcv := HCY.out W (za_ HWZ.out hSw); exact tks) ?_
         refine tkq 17 ?_
         refine tkr 18 rfl (fun W hSw => by have mb := HXW.out W (za_ HWZ.out hSw); have m3 := mb.cell 3; simp only [gtA, gtB, gtC] at m3; exact tks) ?_
         refine tkr 19 rfl (fun W hSw => by have hcv := HCO.out W (za_ HWZ.out hSw); exact tks) ?_
         refine tkp 20 (.bool ce) rfl (.inl ⟨by rfl, ?_⟩) ?_
         ·intro W hSw; go_simp; try (first | exact HCE.out | rfl)
         refine tkq3 21 22 23 ?_
         refine adn ?_
         skip
         have HWY := hid (show Below w8.heap.size w8 w8.drew from hH)
         clear hH
         have HBN := hid (HBQ.out.trans ((za_ HWZ.out HWY.out).mono HBQ.out.size))
         go_wp2_with fail
         go_roundw
         case rel =>
          refine ⟨m + 1, a2, ce, by omega, by go_num, rfl, rfl, ?_, hid ?_, hid ?_, HBN⟩
          ·rw [← HA2.out]; split <;> omega
          ·exact Xb43
          ·exact Xb48
         case measure => simp [intOf]; omega
        ·have d6 : ((ym.t : Int) == (t : Int)) = false := by simp; omega
         have HCV := hid (show (false || ce) = false by
          rw [← hce]
          have : decide (wk ym.P = (t, o.K)) = false := decide_eq_false fun e => h (congrArg (fun q : Nat × List Int => q.1) e)
          rw [this]; rfl)
         clear h hce
         refine rgw w8 (Below.refl _ _).drew fun hH => ?_
         refine tkq4 0 1 2 3 ?_
         refine tkq2 4 5 ?_
         refine tkr 6 rfl Xf29 ?_
         refine tkq 7 ?_
         refine tkr 8 rfl Xf28 ?_
         refine tkp 9 (.bool false) rfl (.inl ⟨by rfl, ?_⟩) ?_
         ·exact Xb78
         refine tkq 10 ?_
         refine tkn 11 ?_
         refine tkn 12 ?_
         refine tkn 13 ?_
         refine tkn 14 ?_
         refine tkn 15 ?_
         refine tkn 16 ?_
         refine tkn 17 ?_
         refine tkn 18 ?_
         refine tkn 19 ?_
         refine tkn 20 ?_
         refine tkq3 21 22 23 ?_
         refine adn ?_
         skip
         have HWY := hid (show Below w8.heap.size w8 w8.drew from hH)
         clear hH
         have HBN := hid (HBQ.out.trans ((za_ HWZ.out HWY.out).mono HBQ.out.size))
         go_wp2_with fail
         go_roundw
         case rel =>
          refine ⟨m + 1, a2, false, by omega, by go_num, rfl, rfl, ?_, hid ?_, hid ?_, HBN⟩
          ·rw [← HA2.out]; split <;> omega
          ·exact Xb43
          ·exact Xb48
         case measure => simp [intOf]; omega
      ·have d2 : ¬ (m : Int) < (n : Int) := by omega
       have hme : m = n := by omega
       have hdn : L.drop m = [] := List.drop_of_length_le (by rw [← HL.out, List.length_map, HN.out]; omega)
       have hat := HAT.out
       have hha := HHA.out
       rw [hdn] at hat hha
       have HA := hid (show a = atW (t, o.K) L 0 0 from hat)
       have hha : hh = hasW (t, o.K) L := by rw [← hha]; unfold hasW; simp
       have HHH := hid hha
       have HBO := hid (HBB.out.trans (HBQ.out.mono HBB.out.size))
       have han : a <= n := by omega
       clear hat hha hdn hme hm
       cases hh with
       | true =>
        go_wp2_with fail
        go_roundw
        case rel => exact ⟨k + 1, V, by omega, by go_num, by rw [HN.out]; omega, hid (by rw [HDS.out, HL.out, HVM.out]; unfold insW; rw [if_pos (by rw [← HVM.out]; exact HHH.out.symm)]), hid (by rw [HN.out]; exact ze_ HOV.out HBO.out), hid (fun y hy => ⟨(HVS.out y hy).1, (HVS.out y hy).2.below HBO.out⟩), hid (HBW.out.trans (HBO.out.mono HBW.out.size))⟩
        case measure => simp [intOf]; omega
       | false =>
        have hxb := HXB.out.below HBQ.out
        have q1 := hxb.cell 1
        have q3 := hxb.cell 3
        simp only [gtA, gtB, gtC] at q1 q3
        have HB7R := hid (HBW.out.trans (HBO.out.mono HBW.out.size))
        have hgm := HG.out.1.below HB7R.out
        obtain ⟨qq, hqq1, hqq2, hqq3⟩ := qT_ hgm t (by rw [HG.out.2.2.2.1]; exact HTT.out.2) o.K HOC.out.kb o.ka o.kn o.kc HOC.out.kl HG.out.2.1 ((HOC.out.below HBO.out).ks)
        rw [HGP.out] at hqq3
        have HQG := hid (And.intro hqq1 hqq2)
        have HQC := hid hqq3
        clear hxb hgm hqq1 hqq2 hqq3
        go_wp2_with fail
        clear q1 q3
        refine HQC.out.mono ?_; rintro r w9 ⟨hr, hb9⟩
        have hrow : ∃ ra rc R8 b, r = .returned (.tuple #[.slice ra (R8 : List P1).length rc, .bool b]) /\ R8.map P1.bs = rowT g.P t o.K /\ (R8 ≠ [] -> rOk (R8.map P1.bs)) /\ zs_ (fun b => (S b ∨ b = c.p ∨ b = c.b1) ∨ b = g.b1) w9 (fun W => RdR W ra R8) := by
         cases qq with
         | none =>
          refine ⟨none, 0, [], false, hr, ?_, fun e => absurd rfl e, fun W' _ => RdR.nil W' none⟩
          unfold rowT
          rw [← HQG.out.1]; rfl
         | some R =>
          obtain ⟨v, e, hcp⟩ := hr
          obtain ⟨a8, c8, R8, hv8, hl8, hm8, hst8⟩ := xz_ (S := fun b => (S b ∨ b = c.p ∨ b = c.b1) ∨ b = g.b1) hcp rfl (fun b hb => Nat.lt_of_lt_of_le (HG.out.2.2.2.2 b hb) HB7R.out.size)
          refine ⟨a8, c8, R8, true, by rw [e, hv8, hl8], ?_, fun _ => by rw [hm8]; exact HQG.out.2 R rfl, hst8⟩
          unfold rowT
          rw [hm8, ← HQG.out.1]; rfl
        obtain ⟨ra, rc, R8, bb, rfl, hr1, hr2, hr3⟩ := hrow
        obtain ⟨rn, hrn⟩ := gtx (R8.length)
        rw [hrn]
        have HR8 := hid (And.intro hrn (And.intro hr1 (And.intro hr2 hr3)))
        have HB9 := hid hb9
        have HB79 := hid (HB7R.out.trans (hb9.mono HB7R.out.size))
        have HBO9 := hid (HBO.out.trans (hb9.mono HBO.out.size))
        have HZ79 := hid (show w7.heap.size <= w9.heap.size from HB79.out.size)
        have HXW := hid (fun W (b : Below w9.heap.size w9 W) => (((HXB.out.below HBQ.out).below HB9.out).below b))
        have HWC := hid (fun W (b : Below w9.heap.size w9 W) => (wc_own (ze_ HOV.out HBO9.out) HN.out).below b)
        obtain ⟨hnc, hna⟩ := zJ_ HOV.out
        have HUA := hid hna
        have HHI := hid (fun W => hi41 W ua n uc a han hnc)
        obtain ⟨al, hal1, hal2, hal3⟩ := lo41 w9 ua V n uc a HN.out han hnc hna (HWC.out w9 (Below.refl _ _))
        have HLO := hid hal1
        have HLW := hid hal2
        have HLN := hid hal3
        have han2 : (a : Int) <= (n : Int) := by omega
        have hnuc : (n : Int) <= (uc : Int) := by omega
        clear hr hb9 hrn hr1 hr2 hr3 hna hal1 hal2 hal3
        go_upto_region 24 with (fail)
        refine rgw w9 (Below.refl _ _).drew fun hH => ?_
        refine tkq2 0 1 ?_
        refine tkr 2 rfl (fun W hSw => by have hsl := HHI.out W; exact tks) ?_
        refine tkq 4 ?_
        refine tkr 5 rfl Xf4 ?_
        refine tkq 6 ?_
        refine tkr 7 rfl Xf31 ?_
        refine tkq4 8 9 12 13 ?_
        refine tkr 14 rfl Xf41 ?_
        refine wpAnyH_ready (rs := [3, 10]) Xt3 Xt5 ?_
        refine tka (fun K hK => ?_) ?_
        ·refine z7_ rfl _ _ rfl w9.heap.size (.slice none 0 0) 0 [] rfl (World.ownsRow_nil _ _ _ _) ua uc a (V.take a) Xt72 rfl ((HWC.out _ hH).take a) HUA.out Xt0 hH.size ?_
         intro v3 w10 hown3 hgrow3
         rw [Nat.zero_add, List.nil_append] at hown3
         obtain ⟨a3, c3, hv3⟩ := zd_ hown3
         subst hv3
         have hown3' := hown3
         have hb10 := hH.grown hgrow3 hH.size Xt23
         have HO3 := hid hown3'
         have HB10 := hid hb10
         clear hown3 hown3' hgrow3
         refine hK.out _ _ hb10 (fun hHeldn => ?_)
         clear hb10
         clear hK K hH; have hH := hHeldn; clear hHeldn
         refine stP ?_
         refine tk1 10 rfl fun K hK => ?_
         go_simp
         have HXN := hid (show zg_ (w10.alloc (.cells #[.int .i64 (t : Int), .slice o.ka o.kn o.kc, .slice ra rn rc] 84)) w10.heap.size #[.int .i64 (t : Int), .slice o.ka o.kn o.kc, .slice ra rn rc] 84 from zg_.new w10 _ _)
         have HO3 := hid (ze_ HO3.out (bl1 w10 (.cells #[.int .i64 (t : Int), .slice o.ka o.kn o.kc, .slice ra rn rc] 84)))
         have hb11 := hH.trans ((bl1 w10 (.cells #[.int .i64 (t : Int), .slice o.ka o.kn o.kc, .slice ra rn rc] 84)).mono hH.size)
         refine hK.out _ _ hb11 (fun hHeldn => ?_)
         clear hb11
         clear hK K hH; have hH := hHeldn; clear hHeldn
         refine stP ?_
         refine tk1 11 rfl fun K hK => ?_
         have hcl : ∀ (j : Nat) (u : Value), [Value.int .i64 (t : Int), .slice o.ka o.kn o.kc, .slice ra rn rc][j]? = some u -> World.cell? (w10.alloc (.cells #[.int .i64 (t : Int), .slice o.ka o.kn o.kc, .slice ra rn rc] 84)) ((⟨w10.heap.size, 0, none⟩ : Addr).add j) = some u := fun j u hj => by rw [zG_, HXN.out.cell]; simpa using hj
         refine zD_ Qn_ rfl _ _ rfl w9.heap.size (.slice a3 a c3) a (cellsOf wcl (V.take a)) rfl HO3.out ⟨w10.heap.size, 0, none⟩ 1 1 [.int .i64 (t : Int), .slice o.ka o.kn o.kc, .slice ra rn rc] rfl rfl hcl Xt34 Xt0 hH.size ?_
         exact Xb6
        refine tka (fun K hK => ?_) AllReadyH.nil
        go_simp
        have HXN := hid (show zg_ (w9.drew.alloc (.cells #[.int .i64 (t : Int), .slice o.ka o.kn o.kc, .slice ra rn rc] 84)) w9.heap.size #[.int .i64 (t : Int), .slice o.ka o.kn o.kc, .slice ra rn rc] 84 from zg_.new w9.drew _ _)
        have hb11 := hH.trans ((bl1 w9.drew (.cells #[.int .i64 (t : Int), .slice o.ka o.kn o.kc, .slice ra rn rc] 84)).mono hH.size)
        refine hK.out _ _ hb11 (fun hHeldn => ?_)
        clear hb11
        clear hK K hH; have hH := hHeldn; clear hHeldn
        refine stP ?_
        refine tk1 3 rfl fun K hK => ?_
        refine z7_ rfl _ _ rfl w9.heap.size (.slice none 0 0) 0 [] rfl (World.ownsRow_nil _ _ _ _) ua uc a (V.take a) Xt72 rfl ((HWC.out _ hH).take a) HUA.out Xt0 hH.size ?_
        intro v3 w10 hown3 hgrow3
        rw [Nat.zero_add, List.nil_append] at hown3
        obtain ⟨a3, c3, hv3⟩ := zd_ hown3
        subst hv3
        have HXN := hid (HXN.out.below ((Below.refl _ _).grown hgrow3 (Nat.le_refl _) Xt23))
        have hown3' := hown3
        have hb10 := hH.grown hgrow3 hH.size Xt23
        have HO3 := hid hown3'
        have HB10 := hid hb10
        clear hown3 hown3' hgrow3
        refine hK.out _ _ hb10 (fun hHeldn => ?_)
        clear hb10
        clear hK K hH; have hH := hHeldn; clear hHeldn
        refine stP ?_
        refine tk1 11 rfl fun K hK => ?_
        have hcl : ∀ (j : Nat) (u : Value), [Value.int .i64 (t : Int), .slice o.ka o.kn o.kc, .slice ra rn rc][j]? = some u -> World.cell? w10 ((⟨w9.heap.size, 0, none⟩ : Addr).add j) = some u := fun j u hj => by rw [zG_, HXN.out.cell]; simpa using hj
        refine zD_ Qn_ rfl _ _ rfl w9.heap.size (.slice a3 a c3) a (cellsOf wcl (V.take a)) rfl HO3.out ⟨w9.heap.size, 0, none⟩ 1 1 [.int .i64 (t : Int), .slice o.ka o.kn o.kc, .slice ra rn rc] rfl rfl hcl Xt34 Xt0 hH.size ?_
        exact Xb6
   ·have d1 : ¬ (k : Int) < (x.on : Int) := by omega
    have hke : k = x.on := by omega
    have HZL := hid (show Z.take k = Z by rw [← HZ.out, List.take_of_length_le (by rw [List.length_zip, HXL.out]; omega)])
    obtain ⟨ua, uc, hu⟩ := zd_ HOV.out
    subst hu
    have HOND := hid HMF.out.1
    clear hke
    go_wp2_with fail
    go_ret2
    refine HR.out _ _ ⟨ua, uc, V, rfl, HB07.out.trans (HBW.out.mono HB07.out.size), ?_, by have := HOND.out; omega, fun y hy => (HVS.out y hy).1, fun W' o' => ?_⟩
    ·rw [HVM.out, HZL.out, ← HZ.out, HG.out.2.2.1, HAB.out]; rfl
    ·have how := zm_ HOV.out o' (fun b hb => by have := HH.out.2.1 b hb; have := HB07.out.size; omega)
     exact own_wr how rfl fun y hy => ((HVS.out y hy).2.less fun b hb => .inl (.inl hb)) W' o'
theorem y1_ {K : IntKind} {t e : TypeId} {bs : Nat} (E : Elt K t e bs) {ops : Array Oper} {o : Oper} {a : Act} {w : World} {Kt : Act -> World -> Prop} {Q : Exit -> Act -> World -> Prop} {Z : Prop} (hgd : o.guard = none) (s x : Operand)
  (ho : o.op = .call { callee := .builtin .append, args := #[s, x], argTypes := #[t, t] })
  (base : Nat) (v : Value) (n : Nat) (xs : List Value) (hs : a.eval s = v) (hown : w.ownsRow base e 1 v n xs)
  (ad : Option Addr) (c len : Nat) (L : List Int) (hlen : L.length = len) (hx : a.eval x = .slice ad len c) (hL : Ls K w ad c L) (hb : n + len <= 1048576) (hbase : base <= w.heap.size)
  (h : ∀ v' w', w'.ownsRow base e 1 v' (n + len) (xs ++ iv K L) -> w.grownBy w' v.ownBlock -> Kt (a.put o.dst v') w') :
  if Region.wanted o (yielded ops a.tmps) = true then Oper.wp prog o a w Kt Q else Z := by
 have hw : Region.wanted o (yielded ops a.tmps) = true := by simp [Region.wanted, hgd]
 rw [if_pos hw]
 obtain ⟨v', w', h1, h2, h3⟩ := x0_ E w o.type base v n xs hown ad c len L hlen hL hb hbase
 exact Xb30
structure SmO (o p : zj_) : Prop where
 k : p.k = o.k
 t : p.t = o.t
 i : p.i = o.i
 kn : p.kn = o.kn
 K : p.K = o.K
 tn : p.tn = o.tn
 T : p.T = o.T
 m : p.m = o.m
 rn : p.rn = o.rn
 R : p.R.map P1.bs = o.R.map P1.bs
theorem mayR_same {R R' : List P1} (h : R'.map P1.bs = R.map P1.bs) : y4_ R' = y4_ R := by
 have e : ∀ R : List P1, y4_ R = ((R.map P1.bs).all (fun b => decide (b.length <= 24)) && decide (1 <= (R.map P1.bs).length /\ (R.map P1.bs).length <= 3)) := fun R => by
  unfold y4_ Za_
  rw [List.all_map, List.length_map]; rfl
 rw [e, e, h]
theorem SmO.may {o p : zj_} (h : SmO o p) (j : Job) : pO j p = pO j o := by
 obtain ⟨h1, h2, h3, h4, h5, h6, h7, h8, h9, h10⟩ := h
 unfold pO idxV endB mostV
 rw [h1, h2, h3, h4, h6, h8, h9, mayR_same h10]
theorem SmO.call {o p : zj_} (h : SmO o p) (j : Job) (T : List (List Pr)) (ws : Ws) : yf_ j T ws p = yf_ j T ws o := by
 obtain ⟨h1, h2, h3, h4, h5, h6, h7, h8, h9, h10⟩ := h
 unfold yf_
 rw [h1, h2, h3, h5, h6, h7, h8, h10]
def SmL : List zj_ -> List zj_ -> Prop
 | [], [] => True
 | o :: l, p :: l' => SmO o p /\ SmL l l'
 | _, _ => False
theorem SmL.snoc {o p : zj_} (ho : SmO o p) : ∀ {l l' : List zj_}, SmL l l' -> SmL (l ++ [o]) (l' ++ [p])
 | [], [], _ => ⟨ho, trivial⟩
 | x :: l, y :: l', h => ⟨h.1, SmL.snoc ho h.2⟩
 | [], y :: l', h => h.elim
 | x :: l, [], h => h.elim
theorem SmL.all (j : Job) (sn : Bool) : ∀ {l l' : List zj_}, SmL l l' -> l'.all (opB j sn) = l.all (opB j sn)
 | [], [], _ => rfl
 | x :: l, y :: l', h => by
  rw [List.all_cons, List.all_cons, SmL.all j sn h.2]
  unfold opB
  rw [h.1.may j, h.1.k]
 | [], y :: l', h => h.elim
 | x :: l, [], h => h.elim
theorem SmL.run (j : Job) (T : List (List Pr)) : ∀ {l l' : List zj_}, SmL l l' -> ∀ st, l'.foldl (y7_ j T) st = l.foldl (y7_ j T) st
 | [], [], _, _ => rfl
 | x :: l, y :: l', h, st => by
  rw [List.foldl_cons, List.foldl_cons]
  have e : y7_ j T st y = y7_ j T st x := by unfold y7_; rw [h.1.call j T st.2]
  rw [e]; exact SmL.run j T h.2 _
 | [], y :: l', h, _ => h.elim
 | x :: l, [], h, _ => h.elim
structure SmT (x y : zW_) : Prop where
 ops : SmL x.ops y.ops
 on : y.on = x.on
 sn : y.sn = x.sn
 ab : y.ab = x.ab
theorem SmT.may {x y : zW_} (h : SmT x y) (j : Job) : yQ_ j y = yQ_ j x := by
 unfold yQ_
 rw [h.on, h.sn, h.ab, h.ops.all j x.sn]
theorem SmT.ans {x y : zW_} (h : SmT x y) (j : Job) (T : List (List Pr)) : Q8_ j T y = Q8_ j T x := by
 unfold Q8_ z6_
 rw [h.ops.run j T]
theorem SmT.wrt {x y : zW_} (h : SmT x y) (j : Job) (T : List (List Pr)) : jN_ j T y = jN_ j T x := by
 unfold jN_ z6_
 rw [h.ops.run j T, h.ab]
structure OpO (base : Nat) (W : World) (o : zj_) : Prop where
 k : W.ownsRow base 5 1 (.slice o.ka o.kn o.kc) o.kn (iv .u8 o.K)
 kl : o.K.length = o.kn
 kb : Byt o.K
 t : W.ownsRow base 5 1 (.slice o.ta o.tn o.tc) o.tn (iv .u8 o.T)
 tl : o.T.length = o.tn
 tb : Byt o.T
 r : W.ownsRow base 42 1 (.slice o.ra o.rn o.rc) o.rn (o.R.map P1.v)
 rf : ∀ p ∈ o.R, W.ownsRow base 5 1 p.v p.bs.length (iv .u8 p.bs)
 rl : o.R.length = o.rn
 rb : ∀ p ∈ o.R, Byt p.bs
theorem OpO.at' {base : Nat} {W : World} {o : zj_} (h : OpO base W o) : zy_ W o := ⟨yv_ h.k h.kl, h.kl, h.kb, yv_ h.t h.tl, h.tl, h.tb, qD_ h.r h.rl h.rf, h.rl, h.rb⟩
theorem OpO.off {S : Nat -> Prop} {base : Nat} {W W' : World} {o : zj_} (h : OpO base W o) (f : Off S W W') (hs : ∀ g, S g -> (∃ cu, zg_ W g cu 5) ∨ (∃ cu, zg_ W g cu 42) -> False) : OpO base W' o := by
 have k5 : ∀ {v : Value} {n : Nat} {xs : List Value}, W.ownsRow base 5 1 v n xs -> W'.ownsRow base 5 1 v n xs := fun hv => zn_ hv f fun g hg hh => by
  obtain ⟨_, _, cu, hc⟩ := zb_ hv hg
  exact hs g hh (.inl ⟨cu, hc⟩)
 refine ⟨k5 h.k, h.kl, h.kb, k5 h.t, h.tl, h.tb, zn_ h.r f (fun g hg hh => ?_), fun p hp => k5 (h.rf p hp), h.rl, h.rb⟩
 obtain ⟨_, _, cu, hc⟩ := zb_ h.r hg
 exact hs g hh (.inr ⟨cu, hc⟩)
def CtR (w : World) (x : zW_) (r : Ending) (w' : World) : Prop := ∃ y : zW_, r = .returned (.agg #[.slice y.oa y.on y.oc, .bool y.sn, .bool y.ab]) /\ Below w.heap.size w w' /\ SmT x y /\ w'.ownsRow w.heap.size 74 7 (.slice y.oa y.on y.oc) y.on (cellsOf ocl y.ops) /\ y.ops.length = y.on /\ ∀ o ∈ y.ops, OpO w.heap.size w' o
theorem q5_ (x : zW_) (w : World) (hx : zM_ w x) (hon : x.on <= 9000) (hb : ∀ o ∈ x.ops, o.kn <= 9000 /\ o.tn <= 9000 /\ o.rn <= 9000 /\ ∀ p ∈ o.R, p.bs.length <= 9000) :
  Calls prog 39 #[.agg #[.slice x.oa x.on x.oc, .bool x.sn, .bool x.ab]] w (CtR w x) := by
 have HXT := hid hx
 have HBB := hid hb
 have HXL := hid hx.ol
 obtain ⟨w1, hw1⟩ := gty ((w.alloc (.cells #[.slice x.oa x.on x.oc, .bool x.sn, .bool x.ab] 38)).alloc (.cells #[.slice none 0 0, .bool false, .bool false] 38))
 obtain ⟨hb1, hbx1⟩ := yr_ w #[.slice x.oa x.on x.oc, .bool x.sn, .bool x.ab] #[.slice none 0 0, .bool false, .bool false] 38 38
 rw [← hw1] at hb1 hbx1
 obtain ⟨w3, hw3⟩ := gty (w1.alloc (.cells #[.slice none 0 0, .bool x.sn, .bool x.ab] 38))
 have hb3 : Below w1.heap.size w1 w3 := by rw [hw3]; exact bl1 _ _
 have hbx3 : zg_ w3 w1.heap.size #[.slice none 0 0, .bool x.sn, .bool x.ab] 38 := by rw [hw3]; exact zg_.new _ _ _
 have HB1 := hid hb1
 have HX1 := hid (hbx1 w3 hb3)
 have HX3 := hid hbx3
 have HB3 := hid (hb1.trans (hb3.mono hb1.size))
 have HS1 := hid (show w.heap.size + 1 < w1.heap.size from (hbx1 w1 (Below.refl _ _)).2.lt)
 obtain ⟨q0, _⟩ := hbx1 w1 (Below.refl _ _)
 have q1 := q0.cell 1
 have q2 := q0.cell 2
 have q0 := q0.cell 0
 simp only [gtA, gtB, gtC] at q0 q1 q2
 clear hx hb hb1 hbx1 hb3 hbx3
 go_enter func39, ntmps39
 go_upto_region 1 with (fail)
 rw [← hw1]
 clear hw1
 go_upto_region 2 with (fail)
 rw [← hw3]
 clear hw3 q0 q1 q2
 go_wp2_with fail
 go_loopw [4] (fun i wr => ∃ (k : Nat) (V : List zj_) (v : Value), k <= x.on /\ i = .int .i64 (k : Int) /\ Hid (V.length = k) /\ Hid (SmL (x.ops.take k) V) /\ Hid (wr.ownsRow w.heap.size 74 7 v k (cellsOf ocl V)) /\ Hid (∀ o ∈ V, OpO w.heap.size wr o) /\ Hid (zg_ wr w1.heap.size #[v, .bool x.sn, .bool x.ab] 38) /\ Hid (zg_ wr w.heap.size #[.slice x.oa x.on x.oc, .bool x.sn, .bool x.ab] 38 /\ zg_ wr (w.heap.size + 1) #[.slice none 0 0, .bool false, .bool false] 38) /\ Hid (Below w.heap.size w wr) /\ Hid (∀ g, v.ownBlock = some g -> w1.heap.size < g)) (fun i _ => x.on - (intOf i).toNat)
 case atStart => exact ⟨0, [], .slice none 0 0, by omega, rfl, hid rfl, hid trivial, hid (World.ownsRow_nil _ _ _ _), hid (fun o ho => by cases ho), HX3, HX1, HB3, hid Xt57⟩
 case round =>
  obtain ⟨k, V, v, hk, rfl, HVL, HSM, HOV, HVO, HXV, HX2, HBW, HVG⟩ := hrel
  have x0 := HX2.out.1.cell 0
  simp only [gtA, gtB, gtC] at x0
  by_cases hlt : k < x.on
  ·have d1 : (k : Int) < (x.on : Int) := by omega
   obtain ⟨o, ho⟩ : ∃ o, x.ops[k]? = some o := ⟨_, List.getElem?_eq_getElem Xt79⟩
   obtain ⟨b1, o1, ea, ⟨p0, p1, p2, p3, p4, p5, p6⟩, hca⟩ := (HXT.out.below HBW.out).os k o ho
   have HOC := hid hca
   have hob := HBB.out o (List.mem_of_getElem? ho)
   have HOB := hid hob
   have hkn : o.kn <= 9000 := hob.1
   have htn : o.tn <= 9000 := hob.2.1
   have HOK := hid ho
   have HEA := hid ea
   obtain ⟨w5, hw5⟩ := gty (wr.alloc (.cells #[.int .i64 o.k, .int .i64 o.t, .int .i64 o.i, .slice o.ka o.kn o.kc, .slice o.ta o.tn o.tc, .int .i64 o.m, .slice o.ra o.rn o.rc] 74))
   have HB5 := hid (by rw [hw5]; exact bl1 _ _ : Below wr.heap.size wr w5)
   have HX5 := hid (by rw [hw5]; exact zg_.new _ _ _ : zg_ w5 wr.heap.size #[.int .i64 o.k, .int .i64 o.t, .int .i64 o.i, .slice o.ka o.kn o.kc, .slice o.ta o.tn o.tc, .int .i64 o.m, .slice o.ra o.rn o.rc] 74)
   rw [ea] at x0
   clear ho ea hca hob
   go_upto_region 6 with (fail)
   rw [← hw5]
   clear hw5 p0 p1 p2 p3 p4 p5 p6 x0
   refine zr_ (z := 10) (S := (fun X => Below w5.heap.size w5 X)) Xt3 ((Below.refl w5.heap.size w5).drew) fun hH => ?_
   refine tlk 0 rfl Xt2 ?_
   refine tlk 1 rfl (fun W hSw => by have m := (HX5.out.below hSw).cell 3; simp only [gtA, gtB, gtC] at m; exact tks) ?_
   refine tlk 3 rfl Xt2 ?_
   refine tlk 4 rfl (fun W hSw => by have m := (HX5.out.below hSw).cell 4; simp only [gtA, gtB, gtC] at m; exact tks) ?_
   refine tlk 6 rfl Xt2 ?_
   refine tlk 7 rfl (fun W hSw => by have m := (HX5.out.below hSw).cell 6; simp only [gtA, gtB, gtC] at m; exact tks) ?_
   refine tl1 2 rfl fun K hK => ?_
   refine y1_ Qg_ rfl _ _ rfl wr.heap.size (.slice none 0 0) 0 [] rfl (World.ownsRow_nil _ _ _ _) o.ka o.kc o.kn o.K HOC.out.kl rfl (((HOC.out.below HB5.out).below hH).ks) Xt0 (Nat.le_trans HB5.out.size hH.size) ?_
   intro v2 w6 hown2 hgrow2
   rw [Nat.zero_add, List.nil_append] at hown2
   obtain ⟨a2, c2, hv2⟩ := zd_ hown2
   subst hv2
   have hb6 := hH.grown hgrow2 hH.size Xt23
   have HO2 := hid hown2
   have HB6 := hid hb6
   clear hown2 hgrow2
   refine hK.out _ _ hb6 (fun hHeldn => ?_)
   clear hb6
   clear hK K hH; have hH := hHeldn; clear hHeldn
   refine stP ?_
   refine tlk 9 rfl Xt2 ?_
   refine tl1 5 rfl fun K hK => ?_
   refine y1_ Qg_ rfl _ _ rfl wr.heap.size (.slice none 0 0) 0 [] rfl (World.ownsRow_nil _ _ _ _) o.ta o.tc o.tn o.T HOC.out.tl rfl (((HOC.out.below HB5.out).below hH).ts) Xt0 (Nat.le_trans HB5.out.size hH.size) ?_
   intro v5 w7 hown5 hgrow5
   rw [Nat.zero_add, List.nil_append] at hown5
   obtain ⟨a5, c5, hv5⟩ := zd_ hown5
   subst hv5
   have hb67 := (Below.refl w6.heap.size w6).grown hgrow5 (Nat.le_refl _) Xt23
   have HO25 := hid (ze_ HO2.out hb67)
   have HO5 := hid hown5
   have hb7 := za_ HB6.out hb67
   have HB7 := hid hb7
   clear hown5 hgrow5 hb67
   refine hK.out _ _ hb7 (fun hHeldn => ?_)
   clear hb7
   clear hK K hH; have hH := hHeldn; clear hHeldn
   refine stP ?_
   refine tl1 8 rfl fun K hK => ?_
   go_simp
   refine (xI_ o.ra o.R o.rn o.rc HOC.out.rl HOB.out.2.2.1 HOB.out.2.2.2 w7 (((HOC.out.below HB5.out).below HB7.out).rs)).mono ?_; rintro r w8 ⟨⟨v8, rfl, hcp⟩, hb8⟩
   obtain ⟨R8, hm8, ho8, hof8⟩ := hcp.ex
   rw [List.take_of_length_le (by rw [HOC.out.rl]; exact Nat.le_refl _)] at hm8
   obtain ⟨a8, c8, hv8⟩ := zd_ ho8
   subst hv8
   have HO8 := hid (And.intro hm8 (And.intro ho8 hof8))
   have HO28 := hid (ze_ HO25.out hb8)
   have HO58 := hid (ze_ HO5.out hb8)
   have HB8 := hid (za_ HB7.out hb8)
   clear hcp hm8 ho8 hof8 hb8
   go_wp2_with fail
   refine hK.out _ _ HB8.out (fun hHeldn => ?_)
   have HX8 := hid (HX5.out.below HB8.out)
   clear hK K hH; have hH := hHeldn; clear hHeldn
   refine stP ?_
   refine tlz rfl fun K hK => ?_
   have x10 := HX8.out.cell 3
   have f10 := HX8.out.frozen 3
   simp only [gtA, gtB, gtC] at x10
   go_simp
   obtain ⟨w20, hw20⟩ := gty (w8.setCell ⟨wr.heap.size, 3, none⟩ (.slice a2 o.kn c2))
   rw [← hw20]
   have HX20 := hid (by rw [hw20]; exact heap_setCell_same _ wr.heap.size 3 _ 74 _ HX8.out : zg_ w20 wr.heap.size #[.int .i64 o.k, .int .i64 o.t, .int .i64 o.i, .slice a2 o.kn c2, .slice o.ta o.tn o.tc, .int .i64 o.m, .slice o.ra o.rn o.rc] 74)
   have HF10 := hid (by rw [hw20]; exact Off.set (S := fun g => g = wr.heap.size) (Off.refl _ _) ⟨wr.heap.size, 3, none⟩ rfl _ : Off (fun g => g = wr.heap.size) w8 w20)
   clear hw20 x10 f10
   refine hK.out _ _ ?_
   clear hK K
   refine stP ?_
   refine xa_ (i := 11) (oi := { dst := some 33, op := Op.fieldAddr 74 (Operand.tmp 5) 4, type := 0, pos := "law.go:90", after := #[{ on := 0, ground := Ground.phase }, { on := 1, ground := Ground.phase }, { on := 2, ground := Ground.phase }, { on := 3, ground := Ground.phase }, { on := 4, ground := Ground.phase }, { on := 5, ground := Ground.phase }, { on := 6, ground := Ground.phase }, { on := 7, ground := Ground.phase }, { on := 8, ground := Ground.textOnly Departure.lateStoresUnsure }, { on := 9, ground := Ground.phase }, { on := 10, ground := Ground.phase }], guard := none }) (v := ?_) Xt3 Xt3 rfl rfl Xt3 Xt3 Xt3 (fun _ _ _ h => h) (Or.inl ⟨by rfl, ?_⟩) ?_
   rotate_left
   ·intro W _; go_simp; try with_reducible rfl
   refine stP ?_
   refine ym_ (rs := [12]) Xt3 Xt5 ?_
   refine AllL.later (o := { dst := none, op := Op.store 42 (Operand.tmp 33) (Operand.tmp 28), type := 0, pos := "law.go:90", after := #[{ on := 11, ground := Ground.data }, { on := 5, ground := Ground.data }, { on := 10, ground := Ground.chain }, { on := 0, ground := Ground.phase }, { on := 1, ground := Ground.phase }, { on := 2, ground := Ground.phase }, { on := 3, ground := Ground.phase }, { on := 4, ground := Ground.phase }, { on := 5, ground := Ground.phase }, { on := 6, ground := Ground.phase }, { on := 7, ground := Ground.phase }, { on := 8, ground := Ground.textOnly Departure.lateStoresUnsure }, { on := 9, ground := Ground.phase }, { on := 10, ground := Ground.phase }], guard := none }) Xt3 rfl fun K hK => ?_
   have x12 := HX20.out.cell 4
   have f12 := HX20.out.frozen 4
   simp only [gtA, gtB, gtC] at x12
   go_simp
   obtain ⟨w22, hw22⟩ := gty (w20.setCell ⟨wr.heap.size, 4, none⟩ (.slice a5 o.tn c5))
   rw [← hw22]
   have HX22 := hid (by rw [hw22]; exact heap_setCell_same _ wr.heap.size 4 _ 74 _ HX20.out : zg_ w22 wr.heap.size #[.int .i64 o.k, .int .i64 o.t, .int .i64 o.i, .slice a2 o.kn c2, .slice a5 o.tn c5, .int .i64 o.m, .slice o.ra o.rn o.rc] 74)
   have HF12 := hid (by rw [hw22]; exact Off.set (S := fun g => g = wr.heap.size) (Off.refl _ _) ⟨wr.heap.size, 4, none⟩ rfl _ : Off (fun g => g = wr.heap.size) w20 w22)
   clear hw22 x12 f12
   refine hK.out _ _ ?_
   clear hK K
   refine stP ?_
   refine xa_ (i := 13) (oi := { dst := some 34, op := Op.fieldAddr 74 (Operand.tmp 5) 6, type := 0, pos := "law.go:90", after := #[{ on := 0, ground := Ground.phase }, { on := 1, ground := Ground.phase }, { on := 2, ground := Ground.phase }, { on := 3, ground := Ground.phase }, { on := 4, ground := Ground.phase }, { on := 5, ground := Ground.phase }, { on := 6, ground := Ground.phase }, { on := 7, ground := Ground.phase }, { on := 8, ground := Ground.phase }, { on := 9, ground := Ground.phase }, { on := 10, ground := Ground.phase }, { on := 11, ground := Ground.phase }, { on := 12, ground := Ground.phase }], guard := none }) (v := ?_) Xt3 Xt3 rfl rfl Xt3 Xt3 Xt3 (fun _ _ _ h => h) (Or.inl ⟨by rfl, ?_⟩) ?_
   rotate_left
   ·intro W _; go_simp; try with_reducible rfl
   refine stP ?_
   refine ym_ (rs := [14]) Xt3 Xt5 ?_
   refine AllL.later (o := { dst := none, op := Op.store 50 (Operand.tmp 34) (Operand.tmp 31), type := 0, pos := "law.go:90", after := #[{ on := 13, ground := Ground.data }, { on := 8, ground := Ground.data }, { on := 12, ground := Ground.chain }, { on := 0, ground := Ground.phase }, { on := 1, ground := Ground.phase }, { on := 2, ground := Ground.phase }, { on := 3, ground := Ground.phase }, { on := 4, ground := Ground.phase }, { on := 5, ground := Ground.phase }, { on := 6, ground := Ground.phase }, { on := 7, ground := Ground.phase }, { on := 8, ground := Ground.phase }, { on := 9, ground := Ground.phase }, { on := 10, ground := Ground.phase }, { on := 11, ground := Ground.phase }, { on := 12, ground := Ground.phase }], guard := none }) Xt3 rfl fun K hK => ?_
   have x14 := HX22.out.cell 6
   have f14 := HX22.out.frozen 6
   simp only [gtA, gtB, gtC] at x14
   go_simp
   obtain ⟨w24, hw24⟩ := gty (w22.setCell ⟨wr.heap.size, 6, none⟩ (.slice a8 o.rn c8))
   rw [← hw24]
   have HX24 := hid (by rw [hw24]; exact heap_setCell_same _ wr.heap.size 6 _ 74 _ HX22.out : zg_ w24 wr.heap.size #[.int .i64 o.k, .int .i64 o.t, .int .i64 o.i, .slice a2 o.kn c2, .slice a5 o.tn c5, .int .i64 o.m, .slice a8 o.rn c8] 74)
   have HF14 := hid (by rw [hw24]; exact Off.set (S := fun g => g = wr.heap.size) (Off.refl _ _) ⟨wr.heap.size, 6, none⟩ rfl _ : Off (fun g => g = wr.heap.size) w22 w24)
   clear hw24 x14 f14
   refine hK.out _ _ ?_
   clear hK K
   refine stP ?_
   refine zz_ Xt3 ?_ _
   skip
   have HB58 := hid (HB5.out.trans (HB8.out.mono HB5.out.size))
   have HF824 := hid ((HF10.out.trans HF12.out).trans HF14.out)
   have HBZ := hid (Off.below HB58.out HF824.out HB58.out.size (fun g hg => by rw [hg]; exact Nat.le_refl _))
   have HO824 := hid (show OpO w.heap.size w24 ⟨o.k, o.t, o.i, a2, o.kn, c2, o.K, a5, o.tn, c5, o.T, o.m, a8, o.rn, c8, R8⟩ from by
    have h1 : OpO w.heap.size w8 ⟨o.k, o.t, o.i, a2, o.kn, c2, o.K, a5, o.tn, c5, o.T, o.m, a8, o.rn, c8, R8⟩ := by
     have hs := HBW.out.size
     have hs7 : w.heap.size <= w7.heap.size := Nat.le_trans hs (Nat.le_trans HB5.out.size HB7.out.size)
     refine ⟨yJ_ HO28.out hs, HOC.out.kl, HOC.out.kb, yJ_ HO58.out hs, HOC.out.tl, HOC.out.tb, yJ_ HO8.out.2.1 hs7, fun p hp => yJ_ (HO8.out.2.2 p hp) hs7, ?_, fun p hp => ?_⟩
     ·have := congrArg List.length HO8.out.1
      rw [List.length_map, List.length_map] at this
      show R8.length = o.rn
      rw [this, HOC.out.rl]
     ·have h2 : p.bs ∈ R8.map P1.bs := List.mem_map.2 ⟨p, hp, rfl⟩
      rw [HO8.out.1] at h2
      obtain ⟨p2, hp2, e⟩ := List.mem_map.1 h2
      rw [← e]; exact HOC.out.rb p2 hp2
    exact h1.off HF824.out (fun g hg h => by
     have hg : g = wr.heap.size := hg
     rcases h with ⟨cu, hc⟩ | ⟨cu, hc⟩
     ·exact zo_ hc HX8.out Xt4 hg
     ·exact zo_ hc HX8.out Xt4 hg))
   obtain ⟨p, hp⟩ : ∃ p : zj_, p = ⟨o.k, o.t, o.i, a2, o.kn, c2, o.K, a5, o.tn, c5, o.T, o.m, a8, o.rn, c8, R8⟩ := ⟨_, rfl⟩
   rw [← hp] at HO824
   have HP := hid hp
   have HSP := hid (show SmO o p by rw [hp]; exact ⟨rfl, rfl, rfl, rfl, rfl, rfl, rfl, rfl, rfl, HO8.out.1⟩)
   have hov := ze_ HOV.out HBZ.out
   have HXV2 := hid (HXV.out.below HBZ.out)
   have HOa := hid (ze_ hov (bl1 w24 (.cells #[.int .i64 o.k, .int .i64 o.t, .int .i64 o.i, .slice a2 o.kn c2, .slice a5 o.tn c5, .int .i64 o.m, .slice a8 o.rn c8] 74)))
   have HSa := hid (show w.heap.size <= (w24.alloc (.cells #[.int .i64 o.k, .int .i64 o.t, .int .i64 o.i, .slice a2 o.kn c2, .slice a5 o.tn c5, .int .i64 o.m, .slice a8 o.rn c8] 74)).heap.size from Nat.le_trans HBW.out.size (Nat.le_trans HBZ.out.size (bl1 w24 _).size))
   have v0 := HXV2.out.cell 0
   have y0 := HX24.out.cell 0
   have y1 := HX24.out.cell 1
   have y2 := HX24.out.cell 2
   have y3 := HX24.out.cell 3
   have y4 := HX24.out.cell 4
   have y5 := HX24.out.cell 5
   have y6 := HX24.out.cell 6
   simp only [gtA, gtB, gtC] at v0 y0 y1 y2 y3 y4 y5 y6
   have hk9 : k + 1 <= 9000 := by omega
   clear hov hH hkn htn hp
   go_wp2_with (at_builtin; refine zv_ ae_op rfl (.tmp 36) (.tmp 38) rfl w.heap.size v k (cellsOf ocl V) rfl HOa.out ⟨w24.heap.size, 0, none⟩ 1 1 [.int .i64 o.k, .int .i64 o.t, .int .i64 o.i, .slice a2 o.kn c2, .slice a5 o.tn c5, .int .i64 o.m, .slice a8 o.rn c8] rfl rfl (zx_ w24 _ _ _ rfl) (fun u hu => by simp at hu; rcases hu with rfl | rfl | rfl | rfl | rfl | rfl | rfl <;> rfl) Xt0 HSa.out ?_; intro v9 w9 hown9 hgrow9 hat9; obtain ⟨a9, c9, hv9⟩ := zd_ hown9; subst hv9; have HO9 := hid hown9; have HG9 := hid (Off.of_row hgrow9); have HAT := hid hat9; have hb9 := HG9.out.box (HXV2.out.below (bl1 w24 (.cells #[.int .i64 o.k, .int .i64 o.t, .int .i64 o.i, .slice a2 o.kn c2, .slice a5 o.tn c5, .int .i64 o.m, .slice a8 o.rn c8] 74))) (fun e => by have := HVG.out _ e; omega); have HXV9 := hid hb9; have z0 := hb9.cell 0; have zf := hb9.frozen 0; simp only [gtA, gtB, gtC] at z0; clear hown9 hgrow9 hat9 hb9)
   go_roundw
   case rel =>
    obtain ⟨wf, hwf⟩ := gty (w9.setCell ⟨w1.heap.size, 0, none⟩ (.slice a9 (k + 1) c9))
    rw [← hwf]
    have hxf : zg_ wf w1.heap.size #[.slice a9 (k + 1) c9, .bool x.sn, .bool x.ab] 38 := by rw [hwf]; exact heap_setCell_same w9 w1.heap.size 0 _ 38 _ HXV9.out
    have hof : Off (fun g => g = w1.heap.size) w9 wf := by rw [hwf]; exact Off.set (S := fun g => g = w1.heap.size) (Off.refl _ w9) ⟨w1.heap.size, 0, none⟩ rfl _
    have ho24 : Off (fun g => g = w1.heap.size ∨ v.ownBlock = some g) w24 wf := (Off.of (bl1 w24 (.cells #[.int .i64 o.k, .int .i64 o.t, .int .i64 o.i, .slice a2 o.kn c2, .slice a5 o.tn c5, .int .i64 o.m, .slice a8 o.rn c8] 74))).trans ((HG9.out.mono fun g hg => .inr hg).trans (hof.mono fun g hg => .inl hg))
    have hor : Off (fun g => g = w1.heap.size ∨ v.ownBlock = some g) wr wf := (Off.of HBZ.out).trans ho24
    have hvlt : ∀ g, v.ownBlock = some g -> w.heap.size <= g := fun g hg => (zb_ HOV.out hg).1
    have hkinds : ∀ {W : World}, Below wr.heap.size wr W -> ∀ g, (g = w1.heap.size ∨ v.ownBlock = some g) -> (∃ cu, zg_ W g cu 5) ∨ (∃ cu, zg_ W g cu 42) -> False := fun b g hg h => by
     have h38 := HXV.out.below b
     rcases hg with hg | hg
     ·subst hg
      rcases h with ⟨cu, hc⟩ | ⟨cu, hc⟩
      ·exact zo_ hc h38 Xt4 rfl
      ·exact zo_ hc h38 Xt4 rfl
     ·obtain ⟨_, _, cu', hc'⟩ := zb_ (ze_ HOV.out b) hg
      rcases h with ⟨cu, hc⟩ | ⟨cu, hc⟩
      ·exact zo_ hc hc' Xt4 rfl
      ·exact zo_ hc hc' Xt4 rfl
    have hnb : ∀ B, B <= w.heap.size + 1 -> ¬ (B = w1.heap.size ∨ v.ownBlock = some B) := fun B hB e => by
     have h1 := HS1.out
     rcases e with e | e
     ·omega
     ·have := HVG.out B e; omega
    refine ⟨k + 1, V ++ [p], .slice a9 (k + 1) c9, by omega, by go_num, hid (by rw [List.length_append, HVL.out]; rfl), hid ?_, hid ?_, hid (fun z hz => ?_), hid hxf, hid ⟨hor.box HX2.out.1 (hnb _ Xt0), hor.box HX2.out.2 (hnb _ Xt0)⟩, hid (Off.below HBW.out hor HBW.out.size (fun g hg => ?_)), hid (fun g hg => ?_)⟩
    ·rw [List.take_add_one, HOK.out]
     exact HSM.out.snoc HSP.out
    ·have h1 := zn_ HO9.out hof (fun g hg e => by
      obtain ⟨_, _, cu, hc⟩ := zb_ HO9.out hg
      exact zo_ hc HXV9.out Xt4 e)
     rw [zq_]
     have e : cellsOf ocl [p] = [.int .i64 o.k, .int .i64 o.t, .int .i64 o.i, .slice a2 o.kn c2, .slice a5 o.tn c5, .int .i64 o.m, .slice a8 o.rn c8] := by rw [HP.out]; rfl
     rw [e]; exact h1
    ·rcases List.mem_append.1 hz with hz | hz
     ·exact (HVO.out z hz).off hor (hkinds (Below.refl _ _))
     ·rw [List.mem_singleton] at hz; subst hz
      exact HO824.off ho24 (hkinds HBZ.out)
    ·rcases hg with hg | hg
     ·rw [hg]; exact HB1.out.size
     ·exact hvlt g hg
    ·rcases HAT.out with e | e
     ·exact HVG.out g (e ▸ hg)
     ·rw [e] at hg; cases hg
      have h1 := HXV2.out.lt
      have h2 := (bl1 w24 (.cells #[.int .i64 o.k, .int .i64 o.t, .int .i64 o.i, .slice a2 o.kn c2, .slice a5 o.tn c5, .int .i64 o.m, .slice a8 o.rn c8] 74)).size
      omega
   case measure => simp [intOf]; omega
  ·have d1 : ¬ (k : Int) < (x.on : Int) := by omega
   have hke : k = x.on := by omega
   have HTK := hid (show x.ops.take k = x.ops from List.take_of_length_le (by rw [HXL.out]; omega))
   have HKE := hid hke
   obtain ⟨va, vc, hv⟩ := zd_ HOV.out
   subst hv
   have v0 := HXV.out.cell 0
   have v1 := HXV.out.cell 1
   have v2 := HXV.out.cell 2
   have z0 := HX2.out.2.cell 0
   have z1 := HX2.out.2.cell 1
   have z2 := HX2.out.2.cell 2
   have f0 := HX2.out.2.frozen 0
   have f1 := HX2.out.2.frozen 1
   have f2 := HX2.out.2.frozen 2
   simp only [gtA, gtB, gtC] at v0 v1 v2 z0 z1 z2
   clear hke
   go_wp2_with fail
   clear v0 v1 v2 z0 z1 z2 f0 f1 f2
   have hb4 : zg_ (((wr.setCell ⟨w.heap.size + 1, 0, none⟩ (.slice va k vc)).setCell ⟨w.heap.size + 1, 1, none⟩ (.bool x.sn)).setCell ⟨w.heap.size + 1, 2, none⟩ (.bool x.ab)) (w.heap.size + 1) #[.slice va k vc, .bool x.sn, .bool x.ab] 38 := heap_setCell_same _ _ 2 _ 38 _ (heap_setCell_same _ _ 1 _ 38 _ (heap_setCell_same _ _ 0 _ 38 _ HX2.out.2))
   have ho4 : Off (fun g => g = w.heap.size + 1) wr (((wr.setCell ⟨w.heap.size + 1, 0, none⟩ (.slice va k vc)).setCell ⟨w.heap.size + 1, 1, none⟩ (.bool x.sn)).setCell ⟨w.heap.size + 1, 2, none⟩ (.bool x.ab)) :=
    Off.set (S := fun g => g = w.heap.size + 1) (Off.set (S := fun g => g = w.heap.size + 1) (Off.set (S := fun g => g = w.heap.size + 1) (Off.refl _ wr) ⟨w.heap.size + 1, 0, none⟩ rfl _) ⟨w.heap.size + 1, 1, none⟩ rfl _) ⟨w.heap.size + 1, 2, none⟩ rfl _
   revert hb4 ho4
   generalize (((wr.setCell ⟨w.heap.size + 1, 0, none⟩ (.slice va k vc)).setCell ⟨w.heap.size + 1, 1, none⟩ (.bool x.sn)).setCell ⟨w.heap.size + 1, 2, none⟩ (.bool x.ab)) = w4
   intro hb4 ho4
   have q0 := hb4.cell 0
   have q1 := hb4.cell 1
   have q2 := hb4.cell 2
   have HO4 := hid ho4
   clear hb4 ho4
   first | refine bodyPost_end (v := .agg #[.slice va k vc, .bool x.sn, .bool x.ab]) (by simp [results, results39, go_sem, q0, q1, q2]) rfl ?_ | refine bodyPost_ret (v := .agg #[.slice va k vc, .bool x.sn, .bool x.ab]) (by simp [results, results39, go_sem, q0, q1, q2]) rfl ?_
   have hsm := HSM.out
   rw [HTK.out] at hsm
   have hkind : ∀ g, g = w.heap.size + 1 -> (∃ cu, zg_ wr g cu 5) ∨ (∃ cu, zg_ wr g cu 42) -> False := fun g hg h => by
    subst hg
    rcases h with ⟨cu, hc⟩ | ⟨cu, hc⟩
    ·exact zo_ hc HX2.out.2 Xt4 rfl
    ·exact zo_ hc HX2.out.2 Xt4 rfl
   refine ⟨⟨va, k, vc, V, x.sn, x.ab⟩, rfl, Off.below HBW.out HO4.out HBW.out.size (fun g hg => by rw [hg]; omega), ⟨hsm, HKE.out, rfl, rfl⟩, zn_ HOV.out HO4.out (fun g hg e => ?_), HVL.out, fun z hz => (HVO.out z hz).off HO4.out hkind⟩
   obtain ⟨_, _, cu, hc⟩ := zb_ HOV.out hg
   exact zo_ hc HX2.out.2 Xt4 e
theorem Q7_ {R : Nat -> Prop} {W : World} {b i : Nat} {v : Value} (h : ∀ W', Off R W W' -> W'.cell? ⟨b, i, none⟩ = some v) (hv : v ≠ .bool true) : ¬ R b := fun hR => by
 have h1 := h W (Off.refl _ _)
 have h2 := h (W.setCell ⟨b, i, none⟩ (.bool true)) (Off.set (S := R) (Off.refl _ _) ⟨b, i, none⟩ hR _)
 rw [World.cell?_setCell_same _ _ _ h1] at h2
 cases h2
 exact hv rfl
theorem wr_lt {W : World} {t : TypeId} {a : Option Addr} {n b off : Nat} (h : WrB W t a n) (e : a = some ⟨b, off, none⟩) (hn : 0 < n) : b < W.heap.size := by
 obtain ⟨cs, lo, hi, hc, _⟩ := h b off e hn
 exact (Array.getElem?_eq_some_iff.1 hc).1
theorem ju_ {n : Nat} {W : World} {a : Option Addr} {rs : List xB_} (h : zs_ (fun k => k < n) W (fun W' => ResW W' a rs)) : ∀ y ∈ rs, ∀ p ∈ y.P, InB (fun b => n <= b /\ b < W.heap.size) p.ka p.K.length /\ InB (fun b => n <= b /\ b < W.heap.size) p.ra p.R.length := fun y hy p hp => by
 obtain ⟨k, hk⟩ := List.mem_iff_getElem?.1 hy
 obtain ⟨d, hd⟩ := List.mem_iff_getElem?.1 hp
 have hp0 := hp
 have hp : ∀ W', Off (fun k => k < n) W W' -> Ls .u8 W' p.ka p.kc p.K /\ RdR W' p.ra p.R := fun W' o => by
  obtain ⟨_, _, _, _, _, hpr⟩ := (h W' o).1 k y hk
  obtain ⟨_, _, _, _, _, h1, h2⟩ := hpr d p hd
  exact ⟨h1, h2⟩
 have hpw : PrW W p := (h.now.2.2 y hy).2 p hp0
 refine ⟨fun b off e hl => ?_, fun b off e hl => ?_⟩
 ·have : ¬ b < n := Q7_ (R := fun k => k < n) (W := W) (b := b) (i := off) (v := .int .u8 (p.K.getD 0 0)) (fun W' o => by
   obtain ⟨b', o', e', hc⟩ := (hp W' o).1.rd 0 hl
   rw [e] at e'
   cases e'
   exact hc) (by intro h; cases h)
  exact ⟨by omega, wr_lt (hpw.1) e hl⟩
 ·obtain ⟨f, hf⟩ : ∃ f, p.R[0]? = some f := ⟨_, List.getElem?_eq_getElem hl⟩
  have : ¬ b < n := Q7_ (R := fun k => k < n) (W := W) (b := b) (i := off) (v := f.v) (fun W' o => by
   obtain ⟨b', o', e', hc, _⟩ := (hp W' o).2 0 f hf
   rw [e] at e'
   cases e'
   exact hc) (by intro h; cases h)
  exact ⟨by omega, wr_lt (hpw.2) e hl⟩
theorem yl_ {base : Nat} {W : World} {o : zj_} (h : OpO base W o) : WrB W 5 o.ka o.kn /\ InB (fun b => base <= b /\ b < W.heap.size) o.ka o.kn /\ WrB W 42 o.ra o.rn /\ ∀ p ∈ o.R, WrB W 5 p.ad p.bs.length /\ InB (fun b => base <= b /\ b < W.heap.size) p.ad p.bs.length :=
 ⟨WrB.of h.k, fun b off e _ => (zb_ h.k (by rw [e]; rfl)).imp id And.left, WrB.of h.r, fun p hp => ⟨WrB.of (h.rf p hp), fun b off e _ => (zb_ (h.rf p hp) (by show Value.ownBlock (.slice p.ad p.bs.length p.cap) = some b; rw [e]; rfl)).imp id And.left⟩⟩
theorem CtR.out {w : World} {x : zW_} {r : Ending} {w' : World} (h : CtR w x r w') : ∃ y : zW_, r = .returned (.agg #[.slice y.oa y.on y.oc, .bool y.sn, .bool y.ab]) /\ Below w.heap.size w w' /\ SmT x y /\ zM_ w' y /\ w'.ownsRow w.heap.size 74 7 (.slice y.oa y.on y.oc) y.on (cellsOf ocl y.ops) /\ ∀ o ∈ y.ops, OpO w.heap.size w' o := by
 obtain ⟨y, e, hb, hs, ho, hl, hop⟩ := h
 exact ⟨y, e, hb, hs, ⟨ops_own ho hl (fun o h => (hop o h).at'), hl⟩, ho, hop⟩
theorem do_vals {j : Job} {T : List (List Pr)} (h : ∀ t, z1_ (T.getD t [])) (x : zW_) (ht : ∀ o ∈ x.ops, o.t.toNat < T.length) : (qf_ j T x.ops).1 = Q8_ j T x /\ (if x.ab then T else (qf_ j T x.ops).2) = yu_ T (wsI (jN_ j T x)) := by
 rw [runD_eq h x.ops ht]
 refine ⟨rfl, ?_⟩
 unfold jN_
 cases x.ab <;> rfl
theorem wrt_vals {j : Job} {T : List (List Pr)} (h : ∀ t, z1_ (T.getD t [])) (x : zW_) (ht : ∀ o ∈ x.ops, o.t.toNat < T.length) {E : Ws} (hp : E.Perm (jN_ j T x)) (hs : E.Pairwise fun a b => ltQ (wk b) (wk a) = false) : (if x.ab then [] else Qv_ (qf_ j T x.ops).2 (x.ops.zip ((qf_ j T x.ops).1.map Prod.fst))) = E := by
 rw [runD_eq h x.ops ht]
 unfold jN_ at hp
 cases hb : x.ab with
 | true =>
  rw [hb] at hp
  exact (List.Perm.eq_nil hp).symm
 | false =>
  rw [hb] at hp
  exact (docQ_eq h ht hp hs).symm
theorem MdR.widen {S : Nat -> Prop} {w W : World} {m : Md} (h : MdR S w m) (b : Below w.heap.size w W) : MdR (jM_ S w.heap.size W.heap.size) W m :=
 h.off (T := fun _ => False) (Off.of b) (fun _ h => h.elim) (fun _ _ h => h) (fun k hk => hk.imp id And.left) (fun x hx => .inl (h.hS x hx))
theorem RfR.widen {S : Nat -> Prop} {w W : World} {f : Rf} (h : RfR S w f) (b : Below w.heap.size w W) : RfR (jM_ S w.heap.size W.heap.size) W f :=
 h.off (T := fun _ => False) (Off.of b) (fun _ h => h.elim) (fun h => h) (fun h => h) (fun k hk => hk.imp id And.left) (.inl h.hp) (.inl h.hb)
theorem MdR.spoilt {S T : Nat -> Prop} {K : TypeId -> Prop} {W X : World} {m : Md} (h : MdR S W m) (s : Sh K T W X) (hT : ∀ k, T k -> S k) (hm : ∀ x ∈ m.tabs, ¬ T x.1) : MdR S X m :=
 h.off s.off hT hm (fun _ h => .inl h) (fun x hx => h.hS x hx)
structure JEq (j k : Job) : Prop where
 may : ∀ x, yQ_ j x = yQ_ k x
 run : ∀ T ops, qf_ j T ops = qf_ k T ops
 idx : ∀ t x T, idxP j t x T = idxP k t x T
 T : j.T = k.T
 n : j.n = k.n
theorem JEq.of (j : Job) (a : Option Addr) (c : Nat) : JEq { j with a := a, cap := c } j := ⟨fun _ => rfl, fun _ _ => rfl, fun _ _ _ => rfl, rfl, rfl⟩
theorem JEq.symm {j k : Job} (h : JEq j k) : JEq k j := ⟨fun x => (h.may x).symm, fun T o => (h.run T o).symm, fun t x T => (h.idx t x T).symm, h.T.symm, h.n.symm⟩
theorem JEq.trans {i j k : Job} (h : JEq i j) (g : JEq j k) : JEq i k := ⟨fun x => (h.may x).trans (g.may x), fun T o => (h.run T o).trans (g.run T o), fun t x T => (h.idx t x T).trans (g.idx t x T), h.T.trans g.T, h.n.trans g.n⟩
def DoW (m : Md) (f : Rf) (k : Nat) : Prop := zS_ m k ∨ k = f.p
theorem DoW.sub {S : Nat -> Prop} {W : World} {m : Md} {f : Rf} (h : MdR S W m) (h2 : RfR S W f) : ∀ k, DoW m f k -> S k := fun k hk => hk.elim (fun ⟨z, hz, e⟩ => e ▸ h.hS z hz) (fun e => e ▸ h2.hp)
def DoB (S : Nat -> Prop) (w : World) (m : Md) (f : Rf) (r : Ending) (w' : World) : Prop :=
 r = .returned (.bool true) /\ ∃ (S' : Nat -> Prop) (m' : Md) (g : Rf), (∀ k, S' k -> S k ∨ w.heap.size <= k) /\ (∀ k, S' k -> k < w'.heap.size) /\ (∀ k, S k -> S' k) /\ Off (DoW m f) w w' /\ MdR S' w' m' /\ RfR S' w' g /\ zC_ m m' /\ g.p = f.p /\ g.j = f.j /\ m'.P = g.P /\ (∀ N : Nat, (∀ x ∈ m.tabs, x.2.length <= N) -> ∀ x ∈ m'.tabs, x.2.length <= N + 16) /\ (∀ N : Nat, (∀ x ∈ f.Ts, x.P.length <= N) -> ∀ x ∈ g.Ts, x.P.length <= N + 16)
section
open Go.Maps Go.Shelf
theorem may_t {j : Job} {x : zW_} (h : yQ_ j x = true) {o : zj_} (ho : o ∈ x.ops) : 0 <= o.t /\ o.t < (j.n : Int) /\ (isW o = true -> o.k ≠ 4 -> 0 < o.rn) := by
 unfold yQ_ at h
 simp only [Bool.and_eq_true, List.all_eq_true] at h
 have h1 := h.2 o ho
 unfold opB at h1
 rw [Bool.and_eq_true] at h1
 have h2 := h1.1
 unfold pO at h2
 simp only [Bool.and_eq_true] at h2
 obtain ⟨⟨⟨⟨⟨⟨_, _⟩, h4⟩, _⟩, h6⟩, _⟩, _⟩ := h2
 unfold inB at h4
 rw [decide_eq_true_eq] at h4
 refine ⟨h4.1, by omega, fun hw h4 => ?_⟩
 have hk : o.k = 2 ∨ o.k = 3 := by
  have := of_decide_eq_true hw
  omega
 have h7 : kf o.k 2 = decide (0 < o.rn) := by simpa using h6
 rcases hk with hk | hk <;> (rw [hk] at h7; exact of_decide_eq_true (h7.symm.trans rfl))
end
theorem SmL.mem : ∀ {l l' : List zj_}, SmL l l' -> ∀ p ∈ l', ∃ o ∈ l, SmO o p
 | [], [], _, p, hp => by cases hp
 | x :: l, y :: l', h, p, hp => by
  rcases List.mem_cons.1 hp with e | hp
  ·subst e; exact ⟨x, List.mem_cons_self, h.1⟩
  ·obtain ⟨o, ho, hs⟩ := SmL.mem h.2 p hp
   exact ⟨o, List.mem_cons_of_mem _ ho, hs⟩
 | [], y :: l', h, p, hp => h.elim
 | x :: l, [], h, p, hp => h.elim
def BndT (x : zW_) : Prop := x.on <= 9000 /\ ∀ o ∈ x.ops, o.kn <= 9000 /\ o.tn <= 9000 /\ o.rn <= 9000 /\ ∀ p ∈ o.R, p.bs.length <= 9000
theorem SmT.bnd {x y : zW_} (h : SmT x y) (hb : BndT x) : BndT y := ⟨by rw [h.on]; exact hb.1, fun p hp => by
 obtain ⟨o, ho, hs⟩ := h.ops.mem p hp
 obtain ⟨h1, h2, h3, h4⟩ := hb.2 o ho
 refine ⟨by rw [hs.kn]; exact h1, by rw [hs.tn]; exact h2, by rw [hs.rn]; exact h3, fun q hq => ?_⟩
 have h5 : q.bs ∈ p.R.map P1.bs := List.mem_map.2 ⟨q, hq, rfl⟩
 rw [hs.R] at h5
 obtain ⟨q', hq', e⟩ := List.mem_map.1 h5
 rw [← e]; exact h4 q' hq'⟩
theorem wr_ok {y : WtV} (h : y.r.R ≠ [] -> rOk y.r.P) : y.r.R.length <= 1000000 /\ ∀ q ∈ y.r.R, Byt q.bs := by
 cases hr : y.r.R with
 | nil => exact ⟨by simp, fun q hq => by cases hq⟩
 | cons a l =>
  have h1 := h (by rw [hr]; exact fun e => by cases e)
  rw [← hr]
  exact ⟨by have := h1.2.1; unfold RV.P at this; rw [List.length_map] at this; omega, yF_ h1⟩
theorem wrs_ok {E : List WtV} {n : Nat} (h : ∀ y ∈ E, y.t < n /\ zH_ y.K /\ (y.r.R ≠ [] -> rOk y.r.P)) : ∀ p ∈ E.map WtV.W, p.r.R.length <= 1000000 /\ ∀ q ∈ p.r.R, Byt q.bs := fun p hp => by
 obtain ⟨y, hy, e⟩ := List.mem_map.1 hp
 subst e
 exact wr_ok (h y hy).2.2
theorem qk_ {W W' : World} {a : Option Addr} {L : List xB_} (h : jL_ W a L) (hb : Below W.heap.size W W') : jL_ W' a L := fun k x hx => by
 exact Xb110
theorem resW_below {W W' : World} {a : Option Addr} {L : List xB_} (h : ResW W a L) (hb : Below W.heap.size W W') : ResW W' a L :=
 ⟨qk_ h.1 hb, h.2.1.below hb, fun y hy => ⟨(h.2.2 y hy).1.below hb, fun p hp => ((h.2.2 y hy).2 p hp).below hb⟩⟩
theorem RfR.spoilt2 {S T : Nat -> Prop} {K : TypeId -> Prop} {W X : World} {f : Rf} (h : RfR S W f) (s : Sh K T W X) (hT : ∀ k, T k -> S k) (k1 : ¬ K 48) (k2 : ¬ K 69) : RfR S X f := by
 obtain ⟨cs, hcs⟩ := h.tb
 have o : Off (fun k => T k /\ k ≠ f.p /\ k ≠ f.b1) W X := ⟨s.off.os, s.off.tape, s.off.output, s.off.size, fun k hk hn => by
  by_cases e1 : k = f.p
  ·subst e1; exact s.kind _ _ _ _ _ h.box k1
  ·by_cases e2 : k = f.b1
   ·subst e2; exact s.kind _ _ _ _ _ hcs k2
   ·exact s.off.block k hk (fun t => hn ⟨t, e1, e2⟩)⟩
 exact h.off o (fun k t => hT k t.1) (fun t => t.2.1 rfl) (fun t => t.2.2 rfl) (fun _ h => .inl h) h.hp h.hb
theorem BndT.rn {x : zW_} (h : BndT x) : ∀ o ∈ x.ops, o.rn <= 1000000 := fun o ho => by have := (h.2 o ho).2.2.1; omega
theorem do13_yes {S : Nat -> Prop} {m : Md} {f : Rf} {w : World} (hm : MdR S w m) (hf : RfR S w f) (hS : ∀ k, S k -> k < w.heap.size) (hj : JEq f.j m.j) (hP : f.P = m.P) (x : zW_) (hx : zs_ S w fun W => zM_ W x) (hmt : yQ_ m.j x = true) (hon : x.on <= 9000) (hb : ∀ o ∈ x.ops, o.kn <= 9000 /\ o.tn <= 9000 /\ o.rn <= 9000 /\ ∀ p ∈ o.R, p.bs.length <= 9000) (hl : ∀ z ∈ m.tabs, z.2.length <= 200000) (hfl : ∀ z ∈ f.Ts, z.P.length <= 200000) (hkl : ∀ r ∈ Q8_ m.j m.P x, ∀ p ∈ r.2, p.1.length <= 1000000) :
  Calls prog 13 #[.pointer (some ⟨m.p, 0, none⟩), .pointer (some ⟨f.p, 0, none⟩), .agg #[.slice x.oa x.on x.oc, .bool x.sn, .bool x.ab]] w (DoB S w m f) := by
 obtain ⟨w1, hw1⟩ := gty (w.alloc (.cells #[.slice x.oa x.on x.oc, .bool x.sn, .bool x.ab] 38))
 have hb1 : Below w.heap.size w w1 := by rw [hw1]; exact bl1 _ _
 have hbx : zg_ w1 w.heap.size #[.slice x.oa x.on x.oc, .bool x.sn, .bool x.ab] 38 := by rw [hw1]; exact zg_.new _ _ _
 have HB1 := hid hb1
 have HXB := hid hbx
 have HM := hid hm
 have HF := hid hf
 have HX := hid hx
 have HV := hid (And.intro hS (And.intro hj (And.intro hP (And.intro hmt (And.intro hon (And.intro hb hl))))))
 have HCT := hid (q5_ x w1 (hx.now.below hb1) hon hb)
 have x0 := hbx.cell 0
 have x1 := hbx.cell 1
 have x2 := hbx.cell 2
 simp only [gtA, gtB, gtC] at x0 x1 x2
 have HFL := hid hfl
 have HKL := hid hkl
 clear hfl hkl hm hf hS hj hP hx hmt hon hb hl hb1 hbx
 go_enter func13, ntmps13
 go_upto_region 1 with (fail)
 rw [← hw1]
 clear hw1
 go_wp2_with fail
 clear x0 x1 x2
 refine HCT.out.mono ?_; intro r w2 hr
 obtain ⟨y, rfl, hb2, hsm, hty, hwy, hop⟩ := CtR.out hr
 have HB2 := hid hb2
 have HSM := hid hsm
 have HTY := hid hty
 have HWY := hid hwy
 have HOP := hid hop
 clear hr hb2 hsm hty hwy hop HCT
 go_upto_region 2 with (fail)
 obtain ⟨w3, hw3⟩ := gty (w2.alloc (.cells #[.slice y.oa y.on y.oc, .bool y.sn, .bool y.ab] 38))
 rw [← hw3]
 have HB23 := hid (show Below w2.heap.size w2 w3 by rw [hw3]; exact bl1 _ _)
 have HX3 := hid (show zg_ w3 w2.heap.size #[.slice y.oa y.on y.oc, .bool y.sn, .bool y.ab] 38 by rw [hw3]; exact zg_.new _ _ _)
 clear hw3
 have HY := hid (HSM.out.bnd ⟨HV.out.2.2.2.2.1, HV.out.2.2.2.2.2.1⟩)
 have HB3 := hid (HB1.out.trans ((HB2.out.mono HB1.out.size).trans (HB23.out.mono (Nat.le_trans HB1.out.size HB2.out.size))))
 have HTRY := hid (try_lawN (HM.out.below HB3.out) (fun k hk => Nat.lt_of_lt_of_le (HV.out.1 k hk) HB3.out.size) y (HTY.out.below HB23.out) Xt49 HY.out.rn Xt20)
 have z0 := HX3.out.cell 0
 have z1 := HX3.out.cell 1
 have z2 := HX3.out.cell 2
 simp only [gtA, gtB, gtC] at z0 z1 z2
 go_wp2_with fail
 clear z0 z1 z2
 refine HTRY.out.mono ?_; intro r w4 hr
 unfold TryN at hr
 rw [HSM.out.may, HV.out.2.2.2.1, if_pos rfl] at hr
 obtain ⟨ta, tc, Y, rfl, hb4, hans, hok, hst⟩ := hr
 rw [HSM.out.ans] at hans
 have HB34 := hid hb4
 have HT4 := hid (And.intro hans (And.intro hok hst))
 clear hb4 hans hok hst HTRY
 go_upto_region 3 with (fail)
 have HB4 := hid (HB3.out.trans (HB34.out.mono HB3.out.size))
 have HWR := hid (xD_ (HM.out.below HB4.out) (fun k hk => Nat.lt_of_lt_of_le (HV.out.1 k hk) HB4.out.size) y (HTY.out.below (HB23.out.trans (HB34.out.mono HB23.out.size))) Xt49 HY.out.rn Xt20)
 have z0 := (HX3.out.below HB34.out).cell 0
 have z1 := (HX3.out.below HB34.out).cell 1
 have z2 := (HX3.out.below HB34.out).cell 2
 simp only [gtA, gtB, gtC] at z0 z1 z2
 go_wp2_with fail
 clear z0 z1 z2
 refine HWR.out.mono ?_; intro r w5 hr
 unfold Qo_ at hr
 rw [HSM.out.may, HV.out.2.2.2.1, if_pos rfl] at hr
 obtain ⟨ea, ec, E, rfl, hb5, hperm, hsort, hek, hst⟩ := hr
 rw [HSM.out.wrt] at hperm
 have HB45 := hid hb5
 have HT5 := hid (And.intro hperm (And.intro hsort (And.intro hek hst)))
 clear hb5 hperm hsort hek hst HWR
 go_upto_region 4 with (fail)
 have HB5 := hid (HB4.out.trans (HB45.out.mono HB4.out.size))
 have HRW := hid (qQ_ (HF.out.below HB5.out) (fun k hk => Nat.lt_of_lt_of_le (HV.out.1 k hk) HB5.out.size) x (HX.out.step (Off.of HB5.out) (fun k hk => .inl hk)) Xt58 Xt26 Xt41)
 have z0 := (HXB.out.below ((HB2.out.trans ((HB23.out.trans (HB34.out.mono HB23.out.size)).mono HB2.out.size)).trans (HB45.out.mono (Nat.le_trans HB2.out.size (Nat.le_trans HB23.out.size HB34.out.size))))).cell 0
 have z1 := (HXB.out.below ((HB2.out.trans ((HB23.out.trans (HB34.out.mono HB23.out.size)).mono HB2.out.size)).trans (HB45.out.mono (Nat.le_trans HB2.out.size (Nat.le_trans HB23.out.size HB34.out.size))))).cell 1
 have z2 := (HXB.out.below ((HB2.out.trans ((HB23.out.trans (HB34.out.mono HB23.out.size)).mono HB2.out.size)).trans (HB45.out.mono (Nat.le_trans HB2.out.size (Nat.le_trans HB23.out.size HB34.out.size))))).cell 2
 simp only [gtA, gtB, gtC] at z0 z1 z2
 go_wp2_with fail
 clear z0 z1 z2
 refine HRW.out.mono ?_; intro r w6 hr
 unfold RWrR at hr
 rw [HV.out.2.1.may, HV.out.2.1.run, HV.out.2.2.2.1, if_pos rfl] at hr
 obtain ⟨va, vc, V, rfl, hb6, hvp, hvn, hvk, hst⟩ := hr
 have HB56 := hid hb6
 have HT6 := hid (And.intro hvp (And.intro hvn (And.intro hvk hst)))
 clear hb6 hvp hvn hvk hst HRW
 go_upto_region 5 with (fail)
 have HB6 := hid (HB5.out.trans (HB56.out.mono HB5.out.size))
 have HB36 := hid ((HB34.out.trans (HB45.out.mono HB34.out.size)).trans (HB56.out.mono (Nat.le_trans HB34.out.size HB45.out.size)))
 have HDO := hid (do_lawN (HM.out.widen HB6.out) (fun k hk => hk.elim (fun hk => Nat.lt_of_lt_of_le (HV.out.1 k hk) HB6.out.size) And.right) y (HTY.out.below (HB23.out.trans (HB36.out.mono HB23.out.size))) Xt49 HY.out.rn Xt20)
 have z0 := (HX3.out.below HB36.out).cell 0
 have z1 := (HX3.out.below HB36.out).cell 1
 have z2 := (HX3.out.below HB36.out).cell 2
 simp only [gtA, gtB, gtC] at z0 z1 z2
 go_wp2_with fail
 clear z0 z1 z2
 refine HDO.out.mono ?_; intro r w7 hr
 unfold DoN at hr
 rw [HSM.out.may, HV.out.2.2.2.1, if_pos rfl] at hr
 obtain ⟨m', da, dc, Z, wm, rfl, hbm, hof, hm7, hms, hmp, hmn, hans, hok, hst⟩ := hr
 rw [HSM.out.wrt] at hmp
 rw [HSM.out.ans] at hans
 have HBM := hid hbm
 have HOM := hid hof
 have HM7 := hid (And.intro hm7 (And.intro hms (And.intro hmp hmn)))
 have HT7 := hid (And.intro hans (And.intro hok hst))
 clear hbm hof hm7 hms hmp hmn hans hok hst HDO
 go_upto_region 6 with (fail)
 have HMS := hid (show ∀ k, zS_ m k -> S k from fun k ⟨z, hz, e⟩ => e ▸ HM.out.hS z hz)
 have HB1M := hid (show Below w1.heap.size w1 wm from (HB2.out.trans ((HB23.out.trans (HB36.out.mono HB23.out.size)).mono HB2.out.size)).trans (HBM.out.mono (Nat.le_trans HB2.out.size (Nat.le_trans HB23.out.size HB36.out.size))))
 have HBWM := hid (HB6.out.trans (HBM.out.mono HB6.out.size))
 have HO7 := hid ((Off.of HBWM.out).trans HOM.out)
 have HNP := hid (show ¬ zS_ m f.p from fun ⟨z, hz, e⟩ => (HM.out.maps z hz).ne_box HF.out.box e.symm)
 have HNB := hid (show ¬ zS_ m f.b1 from fun ⟨z, hz, e⟩ => by
  obtain ⟨cs, hcs⟩ := HF.out.tb
  exact (HM.out.maps z hz).ne_box hcs e.symm)
 have HNX := hid (show ¬ zS_ m w.heap.size from fun ⟨z, hz, e⟩ => ((HM.out.maps z hz).below HB1.out).ne_box HXB.out e.symm)
 have HSR := hid (show ∀ k, jM_ S w.heap.size wm.heap.size k -> k < w7.heap.size from fun k hk => hk.elim (fun hk => Nat.lt_of_lt_of_le (HV.out.1 k hk) HO7.out.size) (fun hk => Nat.lt_of_lt_of_le hk.2 HOM.out.size))
 have HRD := hid (rdo_law (HF.out.off (S' := jM_ S w.heap.size wm.heap.size) HO7.out HMS.out HNP.out HNB.out (fun k hk => hk.imp id And.left) (.inl HF.out.hp) (.inl HF.out.hb)) HSR.out x (HX.out.step (HO7.out.mono HMS.out) (fun k hk => hk.imp id And.left)) Xt58 Xt26 Xt41)
 have hx7 := HOM.out.box (HXB.out.below HB1M.out) HNX.out
 have z0 := hx7.cell 0
 have z1 := hx7.cell 1
 have z2 := hx7.cell 2
 simp only [gtA, gtB, gtC] at z0 z1 z2
 clear hx7
 go_wp2_with fail
 clear z0 z1 z2
 refine HRD.out.mono ?_; intro r w8 hr
 unfold RDoR at hr
 rw [HV.out.2.1.may, HV.out.2.1.run, HV.out.2.2.2.1, if_pos rfl, HV.out.2.2.1] at hr
 obtain ⟨g, ya, yc, X, rfl, ho8, hgp, hgj, hgb, hg8, hgP, hans, hok, hst, hgn⟩ := hr
 have HO8 := hid ho8
 have HG8 := hid (And.intro hgp (And.intro hgj (And.intro hgb (And.intro hg8 (And.intro hgP hgn)))))
 have HT8 := hid (And.intro hans (And.intro hok hst))
 clear ho8 hgp hgj hgb hg8 hgP hans hok hst hgn HRD
 go_upto_region 7 with (fail)
 have HTO := hid (show ∀ o ∈ x.ops, o.t.toNat < m.P.length from fun o ho => by
  have h1 := may_t HV.out.2.2.2.1 ho
  have h2 := HM.out.len
  rw [Md.P_len]; omega)
 have HTK := hid (show ∀ t, z1_ (m.P.getD t []) from fun t => by rw [← HV.out.2.2.1]; exact HF.out.tabok t)
 have HDV := hid (do_vals (j := m.j) (T := m.P) HTK.out x HTO.out)
 have HEV := hid (show E.map WtV.P = V.map WtV.P from by
  have h1 := HT6.out.1
  rw [HV.out.2.2.1] at h1
  rw [h1]
  exact (wrt_vals HTK.out x HTO.out HT5.out.1 (List.pairwise_map.2 (HT5.out.2.1.imp fun h => h))).symm)
 have HYX := hid (show Y.map yC_ = X.map yC_ by rw [HT4.out.1, HT8.out.1, HDV.out.1])
 have HZX := hid (show Z.map yC_ = X.map yC_ by rw [HT7.out.1, HT8.out.1, HDV.out.1])
 have HLN := hid (show X.length <= 9000 from by
  have h1 := congrArg List.length HT8.out.1
  rw [HDV.out.1] at h1
  unfold Q8_ at h1
  rw [List.length_map, (x1_ _ _ _).1] at h1
  have h2 := HX.out.now.ol
  have h3 := HV.out.2.2.2.2.1
  omega)
 have HYN := hid (show Y.length = X.length by have := congrArg List.length HYX.out; rwa [List.length_map, List.length_map] at this)
 have HZN := hid (show Z.length = X.length by have := congrArg List.length HZX.out; rwa [List.length_map, List.length_map] at this)
 have HEN := hid (show E.length = V.length by have := congrArg List.length HEV.out; rwa [List.length_map, List.length_map] at this)
 have HOM8 := hid (show Off (fun k => S k) wm w8 from (HOM.out.mono HMS.out).trans (HO8.out.mono fun k e => e ▸ HF.out.hp))
 have hlo : ∀ k, S k -> k < w.heap.size := HV.out.1
 have HS3 := hid (show ∀ k, S k -> k < w3.heap.size from fun k hk => Nat.lt_of_lt_of_le (hlo k hk) HB3.out.size)
 have HS6 := hid (show ∀ k, S k -> k < w6.heap.size from fun k hk => Nat.lt_of_lt_of_le (hlo k hk) HB6.out.size)
 have HB5M := hid (show Below w5.heap.size w5 wm from HB56.out.trans (HBM.out.mono HB56.out.size))
 have HB4M := hid (show Below w4.heap.size w4 wm from HB45.out.trans (HB5M.out.mono HB45.out.size))
 have HRY := hid (HT4.out.2.2 w8 (((Off.of HB4M.out).trans HOM8.out).mono HS3.out))
 have HRZ := hid (HT7.out.2.2 w8 (HOM8.out.mono HS6.out))
 have HRX := hid (HT8.out.2.2.now)
 have HRE := hid (HT5.out.2.2.2 w8 ((Off.of HB5M.out).trans HOM8.out))
 have HRV := hid (HT6.out.2.2.2 w8 ((Off.of HBM.out).trans HOM8.out))
 rw [HYN.out, HZN.out, HEN.out]
 clear hlo
 have hkey := zY_ ta ya Y X X.length X.length tc yc HYN.out rfl Xt82 Xt82 HT4.out.2.1 HT8.out.2.1 w8 HRY.out.1 HRX.out
 rw [decide_eq_true HYX.out] at hkey
 have HC1 := hid hkey
 clear hkey
 go_wp2_with fail
 refine HC1.out.mono ?_; rintro r w9 ⟨rfl, hb9⟩
 have HB89 := hid hb9
 clear hb9 HC1
 go_wp2_with (refine (zQ_ _ _).mono ?_; rintro r wn ⟨rfl, rfl⟩)
 have hkey := zY_ da ya Z X X.length X.length dc yc HZN.out rfl Xt82 Xt82 HT7.out.2.1 HT8.out.2.1 w9 (qk_ HRZ.out.1 HB89.out) (qk_ HRX.out HB89.out)
 rw [decide_eq_true HZX.out] at hkey
 refine hkey.mono ?_; clear hkey; rintro r w10 ⟨rfl, hb10⟩
 have HB810 := hid (HB89.out.trans (hb10.mono HB89.out.size))
 clear hb10
 go_wp2_with (refine (zQ_ _ _).mono ?_; rintro r wn ⟨rfl, rfl⟩)
 refine (xE_ ea va (E.map WtV.W) (V.map WtV.W) V.length ec vc (by rw [List.length_map]; exact HEN.out) (by have := HT6.out.2.1; omega) (by rw [wI_W, wI_W, HEV.out]) (wrs_ok HT5.out.2.2.1) (fun p hp => (wrs_ok HT6.out.2.2.1 p hp).2) w10 (HRE.out.below HB810.out) (HRV.out.below HB810.out)).mono ?_; rintro r w11 ⟨rfl, hb11⟩
 have HB811 := hid (HB810.out.trans (hb11.mono HB810.out.size))
 clear hb11
 have HB2M := hid (show Below w2.heap.size w2 wm from (HB23.out.trans (HB36.out.mono HB23.out.size)).trans (HBM.out.mono (Nat.le_trans HB23.out.size HB36.out.size)))
 have HB3M := hid (show Below w3.heap.size w3 wm from HB36.out.trans (HBM.out.mono HB36.out.size))
 have hs12 : w1.heap.size <= w2.heap.size := HB2.out.size
 have hs01 : w.heap.size < w1.heap.size := HXB.out.lt
 have hlo := HV.out.1
 have HX11 := hid ((HOM8.out.box (HX3.out.below HB3M.out) (fun h => by have := hlo _ h; omega)).below HB811.out)
 have HOW := hid (ze_ (zn_ (ze_ HWY.out HB2M.out) HOM8.out (fun g hg h => by have h1 := (zb_ HWY.out hg).1; have h2 := hlo _ h; omega)) HB811.out)
 have HOT := hid (show Off (fun k => zS_ m k ∨ k = f.p) wm w8 from (HOM.out.mono fun k h => .inl h).trans (HO8.out.mono fun k h => .inr h))
 have HOP11 := hid (show ∀ o ∈ y.ops, OpO w1.heap.size w11 o from fun o ho => by
  have h1 := (HOP.out o ho).off (S := fun _ => False) (Off.of HB2M.out) (fun g h _ => h.elim)
  have h2 := h1.off HOT.out (fun g hg h => by
   rcases hg with ⟨z, hz, e⟩ | e
   ·have hmp := (HM.out.maps z hz).below HBWM.out
    subst e
    rcases h with ⟨cu, hc⟩ | ⟨cu, hc⟩
    ·exact hmp.ne_box hc rfl
    ·exact hmp.ne_box hc rfl
   ·subst e
    have hfb := HF.out.box.below HBWM.out
    rcases h with ⟨cu, hc⟩ | ⟨cu, hc⟩
    ·exact zo_ hc hfb Xt4 rfl
    ·exact zo_ hc hfb Xt4 rfl)
  exact h2.off (S := fun _ => False) (Off.of HB811.out) (fun g h _ => h.elim))
 have HKB := hid (show ∀ (L : List xB_), L.map yC_ = Q8_ m.j m.P x -> (∀ y ∈ L, ys_ y) -> ∀ y ∈ L, y.P.length <= 1000000 /\ ∀ p ∈ y.P, p.K.length <= 1000000 /\ p.R.length <= 1000000 from fun L hL hok y hy => ⟨(hok y hy).pn, fun p hp => ⟨HKL.out (yC_ y) (by rw [← hL]; exact List.mem_map.2 ⟨y, hy, rfl⟩) (prC p) (List.mem_map.2 ⟨p, hp, rfl⟩), ((hok y hy).ps p hp).rn⟩⟩)
 have hs46 : w4.heap.size <= w6.heap.size := Nat.le_trans HB45.out.size HB56.out.size
 have hs26 : w2.heap.size <= w6.heap.size := Nat.le_trans HB23.out.size HB36.out.size
 have hT1 : ∀ {a : Option Addr} {n p q : Nat}, InB (fun b => p <= b /\ b < q) a n -> w.heap.size <= p -> q <= w6.heap.size -> InB (fun b => w.heap.size <= b /\ b < w6.heap.size) a n := fun h hp hq b off e hn => by
  obtain ⟨h1, h2⟩ := h b off e hn
  exact ⟨Nat.le_trans hp h1, Nat.lt_of_lt_of_le h2 hq⟩
 have HSP := hid (xW_ y ta tc (fun b => w.heap.size <= b /\ b < w6.heap.size) Y w11 ⟨ops_own HOW.out HTY.out.ol (fun o h => (HOP11.out o h).at'), HTY.out.ol⟩ (WrB.of HOW.out) HY.out.1
  (fun o ho => ⟨(HY.out.2 o ho).1, (HY.out.2 o ho).2.2.1, (HY.out.2 o ho).2.2.2, (yl_ (HOP11.out o ho)).1, hT1 (yl_ (HOP.out o ho)).2.1 Xt0 hs26, (yl_ (HOP11.out o ho)).2.2.1, fun p hp => ⟨((yl_ (HOP11.out o ho)).2.2.2 p hp).1, hT1 ((yl_ (HOP.out o ho)).2.2.2 p hp).2 Xt0 hs26⟩⟩)
  (resW_below HRY.out HB811.out) (by have := HYN.out; have := HLN.out; omega) (fun z hz => ⟨(HKB.out Y HT4.out.1 HT4.out.2.1 z hz).1, fun p hp => ⟨((HKB.out Y HT4.out.1 HT4.out.2.1 z hz).2 p hp).1, ((HKB.out Y HT4.out.1 HT4.out.2.1 z hz).2 p hp).2, hT1 (ju_ HT4.out.2.2 z hz p hp).1 (Nat.le_of_lt (Nat.lt_of_lt_of_le hs01 (Nat.le_trans hs12 HB23.out.size))) hs46, hT1 (ju_ HT4.out.2.2 z hz p hp).2 (Nat.le_of_lt (Nat.lt_of_lt_of_le hs01 (Nat.le_trans hs12 HB23.out.size))) hs46⟩⟩))
 rw [HYN.out] at HSP
 have z0 := HX11.out.cell 0
 have z1 := HX11.out.cell 1
 have z2 := HX11.out.cell 2
 simp only [gtA, gtB, gtC] at z0 z1 z2
 clear hs12 hs01 hlo hT1 hs46 hs26
 go_wp2_with (refine (zQ_ _ _).mono ?_; rintro r wn ⟨rfl, rfl⟩)
 clear z0 z1 z2
 refine HSP.out.mono ?_; rintro r w12 ⟨rfl, hsh⟩
 have HSH := hid hsh
 clear hsh
 go_wp2_with fail
 have HSP2 := hid (xW_ ⟨none, 0, 0, [], false, false⟩ da dc (fun b => w.heap.size <= b /\ b < wm.heap.size) Z w12 ⟨(fun k o h => by cases h), rfl⟩ (fun b off e hn => absurd hn Xt4) Xt4 (fun o ho => by cases ho)
  (HT7.out.2.2 w12 ((((HOM8.out.mono HS6.out).trans (Off.of HB811.out)).trans (HSH.out.off.mono fun k h => h.2)))) (by have := HZN.out; have := HLN.out; omega) (fun z hz => ⟨(HKB.out Z HT7.out.1 HT7.out.2.1 z hz).1, fun p hp => ⟨((HKB.out Z HT7.out.1 HT7.out.2.1 z hz).2 p hp).1, ((HKB.out Z HT7.out.1 HT7.out.2.1 z hz).2 p hp).2, fun b off e hn => ⟨Nat.le_trans HB6.out.size ((ju_ HT7.out.2.2 z hz p hp).1 b off e hn).1, ((ju_ HT7.out.2.2 z hz p hp).1 b off e hn).2⟩, fun b off e hn => ⟨Nat.le_trans HB6.out.size ((ju_ HT7.out.2.2 z hz p hp).2 b off e hn).1, ((ju_ HT7.out.2.2 z hz p hp).2 b off e hn).2⟩⟩⟩))
 rw [HZN.out] at HSP2
 refine HSP2.out.mono ?_; rintro r w13 ⟨rfl, hsh⟩
 have HSH2 := hid hsh
 clear hsh HSP2 HSP
 go_wp2_with fail
 go_ret
 have hlo := HV.out.1
 have hs07 : w.heap.size <= w7.heap.size := HO7.out.size
 have hs78 : w7.heap.size <= w8.heap.size := HO8.out.size
 have hs813 : w8.heap.size <= w13.heap.size := Nat.le_trans HB811.out.size (Nat.le_trans HSH.out.off.size HSH2.out.off.size)
 have hs6m : w6.heap.size <= wm.heap.size := HBM.out.size
 have hm7 : ∀ z ∈ m'.tabs, S z.1 := fun z hz => HMS.out _ (HM7.out.2.1.mem hz)
 have hg1 := HG8.out.2.2.1
 have hgp : g.p = f.p := HG8.out.1
 have hfp : S f.p := HF.out.hp
 have hmd : MdR (fun k => jM_ S w.heap.size wm.heap.size k ∨ k = g.b1) w8 m' := HM7.out.1.off HO8.out (fun k e => .inl (.inl (e ▸ hfp))) (fun z hz e => HNP.out (e ▸ HM7.out.2.1.mem hz)) (fun k hk => by
  rcases hk with (hk | hk) | hk
  ·exact .inl (.inl (.inl hk))
  ·by_cases h6 : k < w6.heap.size
   ·exact .inl (.inl (.inr ⟨hk.1, h6⟩))
   ·exact .inl (.inr ⟨by omega, hk.2⟩)
  ·subst hk
   rcases hg1 with (hk | hk) | hk
   ·exact .inl (.inl (.inl hk))
   ·by_cases h6 : g.b1 < w6.heap.size
    ·exact .inl (.inl (.inr ⟨hk.1, h6⟩))
    ·exact .inl (.inr ⟨by omega, hk.2⟩)
   ·exact .inr hk) (fun z hz => .inl (.inl (hm7 z hz)))
 have hT1 : ∀ k, (w.heap.size <= k /\ k < w6.heap.size) -> jM_ S w.heap.size wm.heap.size k ∨ k = g.b1 := fun k hk => .inl (.inr ⟨hk.1, by omega⟩)
 have hT2 : ∀ k, (w.heap.size <= k /\ k < wm.heap.size) -> jM_ S w.heap.size wm.heap.size k ∨ k = g.b1 := fun k hk => .inl (.inr hk)
 refine ⟨rfl, fun k => jM_ S w.heap.size wm.heap.size k ∨ k = g.b1, m', g, fun k hk => ?_, fun k hk => ?_, fun k hk => .inl (.inl hk), ?_, ?_, ?_, HM7.out.2.1, HG8.out.1, HG8.out.2.1, ?_, HM7.out.2.2.2, HG8.out.2.2.2.2.2⟩
 ·rcases hk with (hk | hk) | hk
  ·exact .inl hk
  ·exact .inr hk.1
  ·subst hk
   rcases hg1 with (hk | hk) | hk
   ·exact .inl hk
   ·exact .inr hk.1
   ·exact .inr (Nat.le_trans hs07 hk)
 ·rcases hk with hk | hk
  ·exact Nat.lt_of_lt_of_le (HSR.out k hk) (Nat.le_trans hs78 hs813)
  ·subst hk
   obtain ⟨cs, hcs⟩ := HG8.out.2.2.2.1.tb
   exact Nat.lt_of_lt_of_le hcs.lt hs813
 ·have o : Off (fun k => DoW m f k ∨ w.heap.size <= k) w w13 := (((((Off.of HBWM.out).trans (HOT.out.mono fun k h => .inl h)).trans (Off.of HB811.out)).trans (HSH.out.off.mono fun k h => .inr h.1)).trans (HSH2.out.off.mono fun k h => .inr h.1))
  exact Xb119
 ·exact ((hmd.below HB811.out).spoilt HSH.out hT1 (fun z hz h => by have := hlo _ (hm7 z hz); omega)).spoilt HSH2.out hT2 (fun z hz h => by have := hlo _ (hm7 z hz); omega)
 ·exact ((HG8.out.2.2.2.1.below HB811.out).spoilt2 HSH.out hT1 Xt4 Xt4).spoilt2 HSH2.out hT2 Xt4 Xt4
 ·have h1 := HG8.out.2.2.2.2.1
  rw [HM7.out.2.2.1, h1, ← HDV.out.2]
theorem do13_no {S : Nat -> Prop} {m : Md} {f : Rf} {w : World} (hm : MdR S w m) (hf : RfR S w f) (hS : ∀ k, S k -> k < w.heap.size) (hj : JEq f.j m.j) (hP : f.P = m.P) (x : zW_) (hx : zs_ S w fun W => zM_ W x) (hmt : yQ_ m.j x = false) (hon : x.on <= 9000) (hb : ∀ o ∈ x.ops, o.kn <= 9000 /\ o.tn <= 9000 /\ o.rn <= 9000 /\ ∀ p ∈ o.R, p.bs.length <= 9000) (hl : ∀ z ∈ m.tabs, z.2.length <= 200000) (hfl : ∀ z ∈ f.Ts, z.P.length <= 200000) :
  Calls prog 13 #[.pointer (some ⟨m.p, 0, none⟩), .pointer (some ⟨f.p, 0, none⟩), .agg #[.slice x.oa x.on x.oc, .bool x.sn, .bool x.ab]] w (DoB S w m f) := by
 obtain ⟨w1, hw1⟩ := gty (w.alloc (.cells #[.slice x.oa x.on x.oc, .bool x.sn, .bool x.ab] 38))
 have hb1 : Below w.heap.size w w1 := by rw [hw1]; exact bl1 _ _
 have hbx : zg_ w1 w.heap.size #[.slice x.oa x.on x.oc, .bool x.sn, .bool x.ab] 38 := by rw [hw1]; exact zg_.new _ _ _
 have HB1 := hid hb1
 have HXB := hid hbx
 have HM := hid hm
 have HF := hid hf
 have HX := hid hx
 have HV := hid (And.intro hS (And.intro hj (And.intro hP (And.intro hmt (And.intro hon (And.intro hb hl))))))
 have HCT := hid (q5_ x w1 (hx.now.below hb1) hon hb)
 have x0 := hbx.cell 0
 have x1 := hbx.cell 1
 have x2 := hbx.cell 2
 simp only [gtA, gtB, gtC] at x0 x1 x2
 have HFL := hid hfl
 clear hfl hm hf hS hj hP hx hmt hon hb hl hb1 hbx
 go_enter func13, ntmps13
 go_upto_region 1 with (fail)
 rw [← hw1]
 clear hw1
 go_wp2_with fail
 clear x0 x1 x2
 refine HCT.out.mono ?_; intro r w2 hr
 obtain ⟨y, rfl, hb2, hsm, hty, hwy, hop⟩ := CtR.out hr
 have HB2 := hid hb2
 have HSM := hid hsm
 have HTY := hid hty
 have HWY := hid hwy
 have HOP := hid hop
 clear hr hb2 hsm hty hwy hop HCT
 go_upto_region 2 with (fail)
 obtain ⟨w3, hw3⟩ := gty (w2.alloc (.cells #[.slice y.oa y.on y.oc, .bool y.sn, .bool y.ab] 38))
 rw [← hw3]
 have HB23 := hid (show Below w2.heap.size w2 w3 by rw [hw3]; exact bl1 _ _)
 have HX3 := hid (show zg_ w3 w2.heap.size #[.slice y.oa y.on y.oc, .bool y.sn, .bool y.ab] 38 by rw [hw3]; exact zg_.new _ _ _)
 clear hw3
 have HY := hid (HSM.out.bnd ⟨HV.out.2.2.2.2.1, HV.out.2.2.2.2.2.1⟩)
 have HB3 := hid (HB1.out.trans ((HB2.out.mono HB1.out.size).trans (HB23.out.mono (Nat.le_trans HB1.out.size HB2.out.size))))
 have HTRY := hid (try_lawN (HM.out.below HB3.out) (fun k hk => Nat.lt_of_lt_of_le (HV.out.1 k hk) HB3.out.size) y (HTY.out.below HB23.out) Xt49 HY.out.rn Xt20)
 have HB33 := hid (Below.refl w3.heap.size w3)
 have HLAW := HTRY
 clear HTRY
 have z0 := HX3.out.cell 0
 have z1 := HX3.out.cell 1
 have z2 := HX3.out.cell 2
 simp only [gtA, gtB, gtC] at z0 z1 z2
 go_wp2_with fail
 clear z0 z1 z2
 refine HLAW.out.mono ?_; intro r w4 hr
 unfold TryN at hr
 rw [HSM.out.may, HV.out.2.2.2.1, if_neg Xt4] at hr
 obtain ⟨rfl, hb9⟩ := hr
 have HB34 := hid (HB33.out.trans (hb9.mono HB33.out.size))
 clear hb9 HLAW
 go_upto_region 3 with (fail)
 have HB4 := hid (HB3.out.trans (HB34.out.mono HB3.out.size))
 have HLAW := hid (xD_ (HM.out.below HB4.out) (fun k hk => Nat.lt_of_lt_of_le (HV.out.1 k hk) HB4.out.size) y (HTY.out.below (HB23.out.trans (HB34.out.mono HB23.out.size))) Xt49 HY.out.rn Xt20)
 have z0 := (HX3.out.below HB34.out).cell 0
 have z1 := (HX3.out.below HB34.out).cell 1
 have z2 := (HX3.out.below HB34.out).cell 2
 simp only [gtA, gtB, gtC] at z0 z1 z2
 go_wp2_with fail
 clear z0 z1 z2
 refine HLAW.out.mono ?_; intro r w5 hr
 unfold Qo_ at hr
 rw [HSM.out.may, HV.out.2.2.2.1, if_neg Xt4] at hr
 obtain ⟨rfl, hb9⟩ := hr
 have HB35 := hid (HB34.out.trans (hb9.mono HB34.out.size))
 clear hb9 HLAW
 go_upto_region 4 with (fail)
 have HB5 := hid (HB3.out.trans (HB35.out.mono HB3.out.size))
 have HB13 := hid (HB2.out.trans (HB23.out.mono HB2.out.size))
 have HLAW := hid (qQ_ (HF.out.below HB5.out) (fun k hk => Nat.lt_of_lt_of_le (HV.out.1 k hk) HB5.out.size) x (HX.out.step (Off.of HB5.out) (fun k hk => .inl hk)) Xt58 Xt26 Xt41)
 have z0 := ((HXB.out.below HB13.out).below HB35.out).cell 0
 have z1 := ((HXB.out.below HB13.out).below HB35.out).cell 1
 have z2 := ((HXB.out.below HB13.out).below HB35.out).cell 2
 simp only [gtA, gtB, gtC] at z0 z1 z2
 go_wp2_with fail
 clear z0 z1 z2
 refine HLAW.out.mono ?_; intro r w6 hr
 unfold RWrR at hr
 rw [HV.out.2.1.may, HV.out.2.2.2.1, if_neg Xt4] at hr
 obtain ⟨rfl, hb9⟩ := hr
 have HB36 := hid (HB35.out.trans (hb9.mono HB35.out.size))
 clear hb9 HLAW
 go_upto_region 5 with (fail)
 have HB6 := hid (HB3.out.trans (HB36.out.mono HB3.out.size))
 have HLAW := hid (do_lawN (HM.out.below HB6.out) (fun k hk => Nat.lt_of_lt_of_le (HV.out.1 k hk) HB6.out.size) y (HTY.out.below (HB23.out.trans (HB36.out.mono HB23.out.size))) Xt49 HY.out.rn Xt20)
 have z0 := (HX3.out.below HB36.out).cell 0
 have z1 := (HX3.out.below HB36.out).cell 1
 have z2 := (HX3.out.below HB36.out).cell 2
 simp only [gtA, gtB, gtC] at z0 z1 z2
 go_wp2_with fail
 clear z0 z1 z2
 refine HLAW.out.mono ?_; intro r w7 hr
 unfold DoN at hr
 rw [HSM.out.may, HV.out.2.2.2.1, if_neg Xt4] at hr
 obtain ⟨rfl, hb9⟩ := hr
 have HB37 := hid (HB36.out.trans (hb9.mono HB36.out.size))
 clear hb9 HLAW
 go_upto_region 6 with (fail)
 have HB7 := hid (HB3.out.trans (HB37.out.mono HB3.out.size))
 have HLAW := hid (rdo_law (HF.out.below HB7.out) (fun k hk => Nat.lt_of_lt_of_le (HV.out.1 k hk) HB7.out.size) x (HX.out.step (Off.of HB7.out) (fun k hk => .inl hk)) Xt58 Xt26 Xt41)
 have z0 := ((HXB.out.below HB13.out).below HB37.out).cell 0
 have z1 := ((HXB.out.below HB13.out).below HB37.out).cell 1
 have z2 := ((HXB.out.below HB13.out).below HB37.out).cell 2
 simp only [gtA, gtB, gtC] at z0 z1 z2
 go_wp2_with fail
 clear z0 z1 z2
 refine HLAW.out.mono ?_; intro r w8 hr
 unfold RDoR at hr
 rw [HV.out.2.1.may, HV.out.2.2.2.1, if_neg Xt4] at hr
 obtain ⟨rfl, hb9⟩ := hr
 have HB38 := hid (HB37.out.trans (hb9.mono HB37.out.size))
 clear hb9 HLAW
 go_upto_region 7 with (fail)
 have HB8 := hid (HB3.out.trans (HB38.out.mono HB3.out.size))
 have HSA := hid (fun W => zY_ none none [] [] 0 0 0 0 rfl rfl Xt0 Xt0 Xt39 Xt39 W Xt71 Xt71)
 have HSW := hid (fun W => xE_ none none [] [] 0 0 0 rfl Xt0 rfl Xt39 Xt39 W Xt71 Xt71)
 go_wp2_with fail
 refine (HSA.out _).mono ?_; rintro r w9 ⟨rfl, hb9⟩
 have HB89 := hid hb9
 clear hb9
 go_wp2_with (refine (zQ_ _ _).mono ?_; rintro r wn ⟨rfl, rfl⟩)
 refine (HSA.out _).mono ?_; rintro r w10 ⟨rfl, hb10⟩
 have HB810 := hid (HB89.out.trans (hb10.mono HB89.out.size))
 clear hb10
 go_wp2_with (refine (zQ_ _ _).mono ?_; rintro r wn ⟨rfl, rfl⟩)
 refine (HSW.out _).mono ?_; rintro r w11 ⟨rfl, hb11⟩
 have HB811 := hid (HB810.out.trans (hb11.mono HB810.out.size))
 clear hb11
 have HB311 := hid (HB38.out.trans (HB811.out.mono HB38.out.size))
 have HB211 := hid (HB23.out.trans (HB311.out.mono HB23.out.size))
 have HX11 := hid (HX3.out.below HB311.out)
 have HOW := hid (ze_ HWY.out HB211.out)
 have hs01 : w.heap.size < w1.heap.size := HXB.out.lt
 have hs28 : w2.heap.size <= w8.heap.size := Nat.le_trans HB23.out.size HB38.out.size
 have HOP11 := hid (show ∀ o ∈ y.ops, OpO w1.heap.size w11 o from fun o ho => (HOP.out o ho).off (S := fun _ => False) (Off.of HB211.out) (fun g h _ => h.elim))
 have hT1 : ∀ {a : Option Addr} {n : Nat}, InB (fun b => w1.heap.size <= b /\ b < w2.heap.size) a n -> InB (fun b => w.heap.size <= b /\ b < w8.heap.size) a n := fun h b off e hn => by
  obtain ⟨h1, h2⟩ := h b off e hn
  exact ⟨by omega, by omega⟩
 have hrn : ∀ W, ResW W none [] := fun W => ⟨Xt71, (fun b off e _ => by cases e), Xt42⟩
 have HSP := hid (xW_ y none 0 (fun b => w.heap.size <= b /\ b < w8.heap.size) [] w11 ⟨ops_own HOW.out HTY.out.ol (fun o h => (HOP11.out o h).at'), HTY.out.ol⟩ (WrB.of HOW.out) HY.out.1
  (fun o ho => ⟨(HY.out.2 o ho).1, (HY.out.2 o ho).2.2.1, (HY.out.2 o ho).2.2.2, (yl_ (HOP11.out o ho)).1, hT1 (yl_ (HOP.out o ho)).2.1, (yl_ (HOP11.out o ho)).2.2.1, fun p hp => ⟨((yl_ (HOP11.out o ho)).2.2.2 p hp).1, hT1 ((yl_ (HOP.out o ho)).2.2.2 p hp).2⟩⟩)
  (hrn _) (Nat.zero_le _) (fun z hz => by cases hz))
 have HSP2 := hid (fun W => xW_ ⟨none, 0, 0, [], false, false⟩ none 0 (fun b => w.heap.size <= b /\ b < w8.heap.size) [] W ⟨(fun k o h => by cases h), rfl⟩ (fun b off e hn => absurd hn Xt4) Xt4 (fun o ho => by cases ho) (hrn _) (Nat.zero_le _) (fun z hz => by cases hz))
 have z0 := HX11.out.cell 0
 have z1 := HX11.out.cell 1
 have z2 := HX11.out.cell 2
 simp only [gtA, gtB, gtC] at z0 z1 z2
 clear hs01 hs28 hT1 hrn
 go_wp2_with (refine (zQ_ _ _).mono ?_; rintro r wn ⟨rfl, rfl⟩)
 clear z0 z1 z2
 refine HSP.out.mono ?_; rintro r w12 ⟨rfl, hsh⟩
 have HSH := hid hsh
 clear hsh
 go_wp2_with fail
 refine (HSP2.out _).mono ?_; rintro r w13 ⟨rfl, hsh⟩
 have HSH2 := hid hsh
 clear hsh HSP2 HSP
 go_wp2_with fail
 go_ret
 have hlo := HV.out.1
 have hT : ∀ k, (w.heap.size <= k /\ k < w8.heap.size) -> jM_ S w.heap.size w8.heap.size k := fun k hk => .inr hk
 have hs813 : w8.heap.size <= w13.heap.size := Nat.le_trans HB811.out.size (Nat.le_trans HSH.out.off.size HSH2.out.off.size)
 have hs08 : w.heap.size <= w8.heap.size := HB8.out.size
 refine ⟨rfl, jM_ S w.heap.size w8.heap.size, m, f, fun k hk => hk.imp id And.left, fun k hk => ?_, fun k hk => .inl hk, ?_, ?_, ?_, zC_.rfl' m, rfl, rfl, HV.out.2.2.1.symm, fun N h z hz => Nat.le_trans (h z hz) (Nat.le_add_right _ _), fun N h z hz => Nat.le_trans (h z hz) (Nat.le_add_right _ _)⟩
 ·rcases hk with hk | hk
  ·have := hlo k hk; omega
  ·omega
 ·have o : Off (fun k => DoW m f k ∨ w.heap.size <= k) w w13 := ((((Off.of HB8.out).trans (Off.of HB811.out)).trans (HSH.out.off.mono fun k h => .inr h.1)).trans (HSH2.out.off.mono fun k h => .inr h.1))
  exact Xb119
 ·exact (((HM.out.widen HB8.out).below HB811.out).spoilt HSH.out hT (fun z hz h => by have := hlo _ (HM.out.hS z hz); omega)).spoilt HSH2.out hT (fun z hz h => by have := hlo _ (HM.out.hS z hz); omega)
 ·exact (((HF.out.widen HB8.out).below HB811.out).spoilt2 HSH.out hT Xt4 Xt4).spoilt2 HSH2.out hT Xt4 Xt4
theorem overT_key {T : List (List Pr)} {N : Nat} (hT : ∀ t, ∀ p ∈ T.getD t [], p.1.length <= N) (ws : Ws) (hw : ∀ w ∈ ws, (wk w).2.length <= N) : ∀ t, ∀ p ∈ (yo_ T ws).getD t [], p.1.length <= N := by
 induction ws using zV_ with
 | nil => exact hT
 | append_singleton l w ih =>
  have ih := ih (fun z hz => hw z (List.mem_append_left _ hz))
  intro t p hp
  rw [xt_, List.getD_eq_getElem?_getD, List.getElem?_modify] at hp
  have hi := ih t
  rw [List.getD_eq_getElem?_getD] at hi
  cases hx : (yo_ T l)[t]? with
  | none => rw [hx] at hp; simp at hp
  | some z =>
   rw [hx] at hp hi
   by_cases e : w.1 = t
   ·simp only [e, if_true, Option.map_some, Option.getD_some] at hp
    rcases xw_.1 hp with h | ⟨h, _⟩
    ·exact hi p h.1
    ·rw [h]; exact hw w (List.mem_append_right _ List.mem_cons_self)
   ·simp only [e, if_false, Option.map_some, Option.getD_some] at hp
    exact hi p hp
theorem callP_wkey {j : Job} {T : List (List Pr)} {ws : Ws} {o : zj_} {N : Nat} (hw : ∀ w ∈ ws, (wk w).2.length <= N) (hK : o.K.length <= N) : ∀ w ∈ (yf_ j T ws o).2, (wk w).2.length <= N := by
 have hs : ∀ (t : Nat) (R : List (List Int)), ∀ w ∈ xX_ ws t o.K R, (wk w).2.length <= N := fun t R w h => by
  rcases mem_setW.1 ⟨w, h, rfl⟩ with ⟨z, hz, e⟩ | e
  ·rw [← e]; exact hw z hz
  ·rw [e]; exact hK
 unfold yf_
 split
 ·exact hw
 ·split
  ·exact hs _ _
  ·split
   ·split
    ·exact hw
    ·exact hs _ _
   ·split
    ·split
     ·exact hs _ _
     ·exact hw
    ·split
     ·exact hw
     ·exact hw
theorem callP_key {j : Job} {T : List (List Pr)} {ws : Ws} {o : zj_} {N : Nat} (hT : ∀ t, ∀ p ∈ (yo_ T ws).getD t [], p.1.length <= N) (hK : o.K.length <= N) : ∀ p ∈ (yf_ j T ws o).1.2, p.1.length <= N := by
 unfold yf_
 split
 ·split
  ·intro p hp; rw [List.mem_singleton] at hp; subst hp; exact hK
  ·intro p hp; cases hp
 ·split
  ·intro p hp; cases hp
  ·split
   ·split <;> (intro p hp; cases hp)
   ·split
    ·split <;> (intro p hp; cases hp)
    ·split
     ·intro p hp
      rcases xp_ _ _ _ _ _ _ _ p hp with h | h
      ·exact hT _ p h
      ·cases h
     ·intro p hp
      obtain ⟨e, he, h⟩ := List.mem_map.1 hp
      rcases xp_ _ _ _ _ _ _ _ e he with h1 | h1
      ·rw [← h]; exact hT _ _ (q1_ h1).1
      ·cases h1
theorem runP_key {j : Job} {T : List (List Pr)} {N : Nat} (hT : ∀ t, ∀ p ∈ T.getD t [], p.1.length <= N) (ops : List zj_) (hK : ∀ o ∈ ops, o.K.length <= N) : (∀ r ∈ (z6_ j T ops).1, ∀ p ∈ r.2, p.1.length <= N) /\ ∀ w ∈ (z6_ j T ops).2, (wk w).2.length <= N := by
 induction ops using zV_ with
 | nil => exact ⟨(fun r hr => by cases hr), (fun w hw => by cases hw)⟩
 | append_singleton l o ih =>
  obtain ⟨h1, h2⟩ := ih (fun z hz => hK z (List.mem_append_left _ hz))
  have ho := hK o (List.mem_append_right _ List.mem_cons_self)
  have e : z6_ j T (l ++ [o]) = y7_ j T (z6_ j T l) o := by unfold z6_; rw [List.foldl_append]; rfl
  rw [e]
  refine ⟨fun r hr => ?_, callP_wkey h2 ho⟩
  rcases List.mem_append.1 hr with hr | hr
  ·exact h1 r hr
  ·rw [List.mem_singleton] at hr; subst hr
   exact callP_key (overT_key hT _ h2) ho
theorem do13_law {S : Nat -> Prop} {m : Md} {f : Rf} {w : World} (hm : MdR S w m) (hf : RfR S w f) (hS : ∀ k, S k -> k < w.heap.size) (hj : JEq f.j m.j) (hP : f.P = m.P) (x : zW_) (hx : zs_ S w fun W => zM_ W x) (hon : x.on <= 9000) (hb : ∀ o ∈ x.ops, o.kn <= 9000 /\ o.tn <= 9000 /\ o.rn <= 9000 /\ ∀ p ∈ o.R, p.bs.length <= 9000) (hl : ∀ z ∈ m.tabs, z.2.length <= 200000) (hfl : ∀ z ∈ f.Ts, z.P.length <= 200000) :
  Calls prog 13 #[.pointer (some ⟨m.p, 0, none⟩), .pointer (some ⟨f.p, 0, none⟩), .agg #[.slice x.oa x.on x.oc, .bool x.sn, .bool x.ab]] w (DoB S w m f) := by
 cases hmt : yQ_ m.j x with
 | false => exact do13_no hm hf hS hj hP x hx hmt hon hb hl hfl
 | true =>
  refine do13_yes hm hf hS hj hP x hx hmt hon hb hl hfl ?_
  refine (runP_key (j := m.j) (T := m.P) (N := 1000000) (fun t p hp => ?_) x.ops (fun o ho => ?_)).1
  ·rw [List.getD_eq_getElem?_getD] at hp
   unfold Md.P at hp
   rw [List.getElem?_map] at hp
   cases hz : m.tabs[t]? with
   | none => rw [hz] at hp; simp at hp
   | some z =>
    rw [hz] at hp
    have := ((hm.lim z (List.mem_of_getElem? hz)).2 p hp).1.2.2
    omega
  ·obtain ⟨k, hk⟩ := List.mem_iff_getElem?.1 ho
   obtain ⟨_, _, _, _, hca⟩ := hx.now.os k o hk
   have h1 := hca.kl
   have h2 := (hb o ho).1
   omega
section
open Go.Maps Go.Shelf
def SqAt (okp : PrV -> Prop) (w : World) (Bs : Nat) (T : List Pr) : Prop := ∀ W0, Below w.heap.size w W0 -> SeqX Fence.wide 5 prog 106 #[.pointer (some ⟨Bs, 0, none⟩)] encP (KpO (W0.heap.size + 2) (fun _ => none)) (PxP okp (W0.heap.size + 2) (fun _ => none) T) T.length W0
def tabT (m : Md) (t : Int) : List Pr := if 0 <= t /\ t < m.tabs.length then m.P.getD t.toNat [] else []
def idxT (m : Md) (t x : Int) : List Pr := if 0 <= t /\ t < m.tabs.length then (if 0 <= x /\ x < m.j.T.getD t.toNat 0 then idxP m.j t x (m.P.getD t.toNat []) else []) else []
theorem okI_pr {p : PrV} (h : okI p) : Qp_ p := ⟨h.1, yF_ h.2.2, by have := h.2.2.2.1; rw [List.length_map] at this; omega⟩
theorem table_sq {S : Nat -> Prop} {m : Md} {w : World} (h : MdR S w m) (hS : ∀ k, S k -> k < w.heap.size) (t : Int) (hf : ∀ z ∈ m.tabs, z.2.length <= 900000) :
  Calls prog 47 #[.pointer (some ⟨m.p, 0, none⟩), .int .i64 t] w fun r w' => ∃ Bs, r = .returned (.func (.func 106) #[] #[.pointer (some ⟨Bs, 0, none⟩)]) /\ Below w.heap.size w w' /\ SqAt okK w' Bs (tabT m t) :=
 (jB_ w _ _ rfl t).mono fun r w' ⟨e, b1, b2, b3, hb⟩ => ⟨w.heap.size + 2, e, hb, fun W0 hb0 => by
  refine over80_x okK 5 Xt0 (w.heap.size + 2) w.heap.size (w.heap.size + 1) (tabT m t) W0 (fun _ => none) (zf_ b3 hb0) (fun W hW => ?_) (fun _ _ => rfl) (fun _ _ _ _ => rfl)
  have hw1 := za_ hb0 hW
  have hw2 := za_ hb hw1
  unfold tabT
  by_cases ht : 0 <= t /\ t < m.tabs.length
  ·rw [if_pos ht]
   obtain ⟨k, rfl⟩ := Int.eq_ofNat_of_zero_le ht.1
   have key := jn_ (h.below hw2) (fun k hk => Nat.lt_of_lt_of_le (hS k hk) hw2.size) w.heap.size (w.heap.size + 1) k (zf_ b1 hw1) (zf_ b2 hw1) Xt0 hf
   exact key
  ·rw [if_neg ht]
   exact table1_no (h.below hw2) w.heap.size (w.heap.size + 1) t (zf_ b1 hw1) (zf_ b2 hw1) ht⟩
theorem index_sq {S : Nat -> Prop} {m : Md} {w : World} (h : MdR S w m) (hS : ∀ k, S k -> k < w.heap.size) (t x : Int) (hf : ∀ z ∈ m.tabs, z.2.length <= 300000) :
  Calls prog 49 #[.pointer (some ⟨m.p, 0, none⟩), .int .i64 t, .int .i64 x] w fun r w' => ∃ Bs, r = .returned (.func (.func 106) #[] #[.pointer (some ⟨Bs, 0, none⟩)]) /\ Below w.heap.size w w' /\ SqAt okI w' Bs (idxT m t x) :=
 (mindex_law w _ _ rfl t x).mono fun r w' ⟨e, b1, b2, b3, b4, hb⟩ => ⟨w.heap.size + 3, e, hb, fun W0 hb0 => by
  refine over84_x okI 5 Xt0 (w.heap.size + 3) w.heap.size (w.heap.size + 1) (w.heap.size + 2) (idxT m t x) W0 (fun _ => none) (zf_ b4 hb0) (fun W hW => ?_) (fun _ _ => rfl) (fun _ _ _ _ => rfl)
  have hw1 := za_ hb0 hW
  have hw2 := za_ hb hw1
  unfold idxT
  by_cases ht : 0 <= t /\ t < m.tabs.length
  ·rw [if_pos ht]
   obtain ⟨k, rfl⟩ := Int.eq_ofNat_of_zero_le ht.1
   have hkl : k < m.j.T.length := by rw [h.st.now.job.len, ← h.len]; omega
   have htx : m.j.T[k]? = some (m.j.T.getD k 0) := by rw [List.getD_eq_getElem?_getD, List.getElem?_eq_getElem hkl]; rfl
   rw [Int.toNat_natCast]
   by_cases hx : 0 <= x /\ x < m.j.T.getD k 0
   ·rw [if_pos hx]
    obtain ⟨i, rfl⟩ := Int.eq_ofNat_of_zero_le hx.1
    exact index1_law (h.below hw2) (fun k hk => Nat.lt_of_lt_of_le (hS k hk) hw2.size) w.heap.size (w.heap.size + 1) (w.heap.size + 2) k i (zf_ b1 hw1) (zf_ b2 hw1) (zf_ b3 hw1) Xt0 _ htx hx.2 hf
   ·rw [if_neg hx]
    exact index1_no (h.below hw2) w.heap.size (w.heap.size + 1) (w.heap.size + 2) k x (zf_ b1 hw1) (zf_ b2 hw1) (zf_ b3 hw1) Xt0 _ htx hx
  ·rw [if_neg ht]
   exact index1_not (h.below hw2) w.heap.size (w.heap.size + 1) (w.heap.size + 2) t x (zf_ b1 hw1) (zf_ b2 hw1) (zf_ b3 hw1) ht⟩
theorem jX_ (okp : PrV -> Prop) (hokp : ∀ p, okp p -> Qp_ p) (w : World) (Bs : Nat) (most : Int) (h : SqAt okp w Bs []) :
  Calls prog 46 #[.func (.func 106) #[] #[.pointer (some ⟨Bs, 0, none⟩)], .slice none 0 0, .int .i64 most] w fun r w' => r = .returned (.bool true) /\ Below w.heap.size w w' :=
 qV_ okp hokp w Bs [] none [] 0 0 rfl Xt0 Xt0 rfl (yn_ w none) most h
theorem rindex_any {S : Nat -> Prop} {f : Rf} {m : Md} {w : World} (h : RfR S w f) (hS : ∀ k, S k -> k < w.heap.size) (hj : JEq f.j m.j) (hP : f.P = m.P) (hlen : m.tabs.length = f.Ts.length) (t : Nat) (ht : t < f.Ts.length) (x : Int) (hl : ∀ z ∈ f.Ts, z.P.length <= 900000) :
  Calls prog 48 #[.pointer (some ⟨f.p, 0, none⟩), .int .i64 (t : Int), .int .i64 x] w fun r w' => ∃ a c E, r = .returned (.slice a E.length c) /\ Below w.heap.size w w' /\ E.map prC = idxT m t x /\ E.length <= 1000000 /\ E.length <= c /\ ∀ W', Below w'.heap.size w' W' -> zp_ W' a E := by
 have hT : f.j.T = m.j.T := hj.T
 by_cases hx : 0 <= x /\ x < f.j.T.getD t 0
 ·obtain ⟨i, rfl⟩ := Int.eq_ofNat_of_zero_le hx.1
  refine (jr_ h hS t ht i hx.2 hl).mono ?_
  rintro r w' ⟨a, c, E, rfl, hb, he, hn, hc, hst⟩
  refine ⟨a, c, E, rfl, hb, ?_, hn, hc, fun W' b => ?_⟩
  ·rw [he]
   unfold idxT
   rw [if_pos Xt0, Int.toNat_natCast, ← hT, if_pos hx, hj.idx, hP]
  ·refine hst (fun _ => False) (fun _ h => h.elim) (fun W o y hy => ?_) W' (Off.of b)
   obtain ⟨k, hk⟩ := List.mem_iff_getElem?.1 hy
   obtain ⟨_, _, _, _, s⟩ := h.tbs k y hk
   exact s W (o.mono fun _ h => h.elim)
 ·refine (rindex_no h t ht x hx).mono ?_
  rintro r w' ⟨rfl, hb⟩
  refine ⟨none, 0, [], rfl, hb, ?_, Nat.zero_le _, Nat.zero_le _, fun W' _ => yn_ W' none⟩
  unfold idxT
  rw [if_pos Xt0, Int.toNat_natCast, ← hT, if_neg hx]
  rfl
theorem lenT_P (Ts : List TbV) : lenT Ts = lenP (Ts.map tbC) := by
 unfold lenT lenP
 rw [List.map_map]
 congr 1
 exact List.map_congr_left fun x _ => by simp [tbC]
theorem stands_law {S : Nat -> Prop} {m : Md} {f : Rf} {w : World} (hm : MdR S w m) (hf : RfR S w f) (hS : ∀ k, S k -> k < w.heap.size) (hj : JEq f.j m.j) (hP : f.P = m.P) (hl : ∀ z ∈ m.tabs, z.2.length <= 200000) (hfl : ∀ z ∈ f.Ts, z.P.length <= 200000) (lv : Int) :
  Calls prog 14 #[.pointer (some ⟨m.p, 0, none⟩), .pointer (some ⟨f.p, 0, none⟩), .int .i64 lv] w fun r w' => r = .returned (.bool true) /\ Below w.heap.size w w' := by
 have hml : m.tabs.length = f.Ts.length := by rw [← m.P_len, ← hP, f.P_len]
 have hfew := hf.few
 have HV := hid (And.intro hS (And.intro hj (And.intro hP (And.intro hml (And.intro hl hfl)))))
 have HM := hid hm
 have HF := hid hf
 have HSB := hid (fun X (b : Below w.heap.size w X) k (hk : S k) => Nat.lt_of_lt_of_le (hS k hk) b.size)
 have HOK := hid (show ∀ z ∈ f.Ts, TbOk z from fun z hz => hf.tok hz (by have := hfl z hz; omega))
 have HLM := hid (fun X (b : Below w.heap.size w X) => mlen_law (hm.below b) (fun z hz => by have := hl z hz; omega))
 have hlen : lenT f.Ts = lenP m.P := by rw [lenT_P, ← hP]; rfl
 obtain ⟨fn, hfn⟩ := gtx (f.Ts.length)
 have HFN := hid hfn
 have HLR := hid (fun X (b : Below w.heap.size w X) => rlen_law f.p (some ⟨f.b1, 0, none⟩) fn f.tc f.Ts hfn Xt0 (fun z hz => by have := hfl z hz; omega) X (by have h := (hf.below b).c; rw [hfn] at h; exact h) (hf.below b).tbs.now)
 rw [hlen] at HLR
 obtain ⟨N0, hN0⟩ := gtx (lenP m.P)
 rw [hN0] at HLM HLR
 have HTB := hid (fun X (b : Below w.heap.size w X) => mtabs_law (hm.below b) (HSB.out X b) (fun z hz => by have := hl z hz; omega))
 have HM7 := hid (fun X (b : Below w.heap.size w X) => (show X.cell? ⟨f.p, 7, none⟩ = some (.slice (some ⟨f.b1, 0, none⟩) fn f.tc) from by have h := (hf.below b).c; rw [hfn] at h; exact h))
 have HST := hid (fun (ta : Option Addr) (tc : Nat) (Ts : List TbV) (tn : Nat) (hT : Ts.map tbC = m.P /\ ∀ x ∈ Ts, TbG x) (htn : Ts.length = tn) X (b : Below w.heap.size w X) (hTS : TbR X ta Ts) => (by
  have h1 : tn = fn := by
   have h := congrArg List.length hT.1
   rw [List.length_map, m.P_len] at h
   omega
  have key := xc_ ta (some ⟨f.b1, 0, none⟩) Ts f.Ts tn fn tc f.tc htn hfn Xt0 Xt0 (fun z hz => by
   refine ⟨?_, fun p hp => okK_pr ((hT.2 z hz).1 p hp)⟩
   have h2 : tbC z ∈ m.P := by rw [← hT.1]; exact List.mem_map.2 ⟨z, hz, rfl⟩
   unfold Md.P at h2
   obtain ⟨q, hq, e⟩ := List.mem_map.1 h2
   have h3 := congrArg List.length e
   have h4 := hl q hq
   unfold yh_ tbC at h3
   rw [List.length_map, List.length_map] at h3
   omega) HOK.out X hTS (hf.below b).tbs.now
  rw [show decide (Ts.map tbC = f.Ts.map tbC) = true from decide_eq_true (by rw [hT.1, ← hP]; rfl)] at key
  exact key : Calls prog 45 #[.slice ta tn tc, .slice (some ⟨f.b1, 0, none⟩) fn f.tc] X fun r w' => r = .returned (.bool true) /\ Below X.heap.size X w'))
 have hfni : (fn : Int) <= 4 := by omega
 have hfn4 : fn <= 4 := by omega
 clear hm hf hS hj hP hml hl hfl hlen hfn hN0 hfew
 go_enter func14, ntmps14
 go_upto_region 1 with (fail)
 refine rgw w (Below.refl _ _).drew fun hH => ?_
 refine tkq2 0 2 ?_
 refine tk1 1 rfl fun K hK => ?_
 go_simp
 refine (HLM.out _ hH).mono ?_; rintro r w1 ⟨rfl, hw1⟩; subst hw1
 go_wp2_with fail
 refine hK.out _ _ hH fun hH => ?_
 refine stP ?_
 refine tk1 3 rfl fun K hK => ?_
 go_simp
 refine (HLR.out _ hH).mono ?_; rintro r w2 ⟨rfl, hb2⟩
 have HBc := za_ hH hb2
 clear hb2
 go_wp2_with fail
 refine hK.out _ _ HBc fun hH => ?_
 clear HBc
 refine stP ?_
 refine tkp 4 (.bool false) rfl (.inl ⟨by rfl, ?_⟩) ?_
 ·exact Xb17
 refine tkp 5 (.bool false) rfl (.inl ⟨by rfl, ?_⟩) ?_
 ·exact Xb17
 refine tkq4 6 8 9 10 ?_
 refine tkr 11 rfl (fun W hSw => by have m := HM7.out W hSw; exact tks) ?_
 refine tk1 7 rfl fun K hK => ?_
 go_simp
 refine (HTB.out _ hH).mono ?_; rintro r w3 ⟨ta, tc, Ts, rfl, hb3, hT, hTG, hTS⟩
 have HTS := hid (hTS (fun _ => False) (fun _ h => h.elim)).now
 have HT := hid (And.intro hT hTG)
 obtain ⟨tn, htn⟩ := gtx (Ts.length)
 have HTN := hid htn
 rw [htn]
 clear hT hTG hTS htn
 have HBc := za_ hH hb3
 clear hb3
 go_wp2_with fail
 refine hK.out _ _ HBc fun hH => ?_
 clear HBc
 refine stP ?_
 refine tk1 12 rfl fun K hK => ?_
 go_simp
 refine (HST.out ta tc Ts tn HT.out HTN.out _ hH HTS.out).mono ?_; rintro r w4 ⟨rfl, hb4⟩
 have HBc := za_ hH hb4
 clear hb4
 go_wp2_with fail
 refine hK.out _ _ HBc fun hH => ?_
 clear HBc
 refine stP ?_
 refine tkp 13 (.bool false) rfl (.inl ⟨by rfl, ?_⟩) ?_
 ·exact Xb17
 refine tkp 14 (.bool false) rfl (.inl ⟨by rfl, ?_⟩) ?_
 ·exact Xb17
 refine adn ?_
 skip
 have HB1 := hid hH
 have c7 := HM7.out _ HB1.out
 clear hH HLM HLR HTB HST HTS
 go_wp2_with fail
 clear c7
 go_loopw [7] (fun i wr => ∃ k : Nat, k <= fn /\ i = .int .i64 (k : Int) /\ Hid (Below w.heap.size w wr)) (fun i _ => fn - (intOf i).toNat)
 case atStart => exact ⟨0, by omega, rfl, HB1⟩
 case round =>
  obtain ⟨k, hk, rfl, HBW⟩ := hrel
  have c7 := HM7.out wr HBW.out
  by_cases hlt : k < fn
  ·have d1 : (k : Int) < (fn : Int) := by omega
   obtain ⟨x, hx⟩ : ∃ x, f.Ts[k]? = some x := ⟨_, List.getElem?_eq_getElem (by rw [HFN.out]; exact hlt)⟩
   obtain ⟨xn, hxn⟩ := gtx (x.P.length)
   have HQ := hid (fun X (b : Below wr.heap.size wr X) => (by
    have b' := za_ HBW.out b
    obtain ⟨_, _, e0, h1, _⟩ := (HF.out.below b').tbs k x hx
    cases e0
    rw [Nat.zero_add, hxn] at h1
    exact ⟨HM7.out X b', h1⟩ : X.cell? ⟨f.p, 7, none⟩ = some (.slice (some ⟨f.b1, 0, none⟩) fn f.tc) /\ X.cell? ⟨f.b1, k, none⟩ = some (.slice x.pa xn x.pc)))
   have H47 := hid (fun X (b : Below wr.heap.size wr X) => table_sq (HM.out.below (za_ HBW.out b)) (HSB.out X (za_ HBW.out b)) (k : Int) Xt31)
   have H46 := hid (fun X (b : Below wr.heap.size wr X) Bs (sq : SqAt okK X Bs (tabT m (k : Int))) (mo : Int) => (by
    have b' := za_ HBW.out b
    have hxm := List.mem_of_getElem? hx
    obtain ⟨_, _, e0, _, s⟩ := (HF.out.below b').tbs k x hx
    refine qV_ okK (fun p h => okK_pr h) X Bs _ x.pa x.P xn x.pc hxn (by have := HV.out.2.2.2.2.2 x hxm; omega) (by have := (HF.out.sl x hxm).1; omega) ?_ s.now mo sq
    unfold tabT
    rw [if_pos (by have := HV.out.2.2.2.1; have := HFN.out; omega), Int.toNat_natCast, ← HV.out.2.2.1, HF.out.getD hx]
    rfl : Calls prog 46 #[.func (.func 106) #[] #[.pointer (some ⟨Bs, 0, none⟩)], .slice x.pa xn x.pc, .int .i64 mo] X fun r w' => r = .returned (.bool true) /\ Below X.heap.size X w'))
   have hkT : k < f.j.T.length := by rw [HF.out.job.now.len, ← HF.out.len, HFN.out]; exact hlt
   obtain ⟨jb, jo, hja, hjc⟩ := HF.out.job.now.ls.rd k hkT
   obtain ⟨jx, hjx⟩ := gtx (f.j.T.getD k 0)
   have hjb := jh_ HF.out.ok k hkT
   have hjr : 0 <= jx /\ jx <= 100 := by rw [← hjx]; omega
   rw [hjx] at hjc
   have hjn : f.j.n = fn := by rw [← HF.out.len]; exact HFN.out
   have HJ := hid (fun X (b : Below w.heap.size w X) => (by
    have h1 := (HF.out.below b).box.cell 6
    have e : (f.cs)[6]? = some (.slice f.j.a f.j.n f.j.cap) := rfl
    rw [e, hja, hjn] at h1
    exact ⟨h1, tcb b hjc⟩ : X.cell? ⟨f.p, 6, none⟩ = some (.slice (some ⟨jb, jo, none⟩) fn f.j.cap) /\ X.cell? ⟨jb, jo + k, none⟩ = some (.int .i64 jx)))
   have HIX := hid (fun X (b : Below w.heap.size w X) (i : Int) => rindex_any (HF.out.below b) (HSB.out X b) HV.out.2.1 HV.out.2.2.1 HV.out.2.2.2.1 k (by have := HFN.out; omega) i (fun z hz => by have := HV.out.2.2.2.2.2 z hz; omega))
   have HI49 := hid (fun X (b : Below w.heap.size w X) (i : Int) => index_sq (HM.out.below b) (HSB.out X b) (k : Int) i Xt31)
   have hj1 := hjr.1
   have hj2 := hjr.2
   clear hx hxn hkT hja hjc hjx hjb hjr hjn
   go_upto_region 6 with (fail)
   refine rgw wr (Below.refl _ _).drew fun hH => ?_
   refine tkq4 0 1 3 4 ?_
   refine tkq 5 ?_
   refine tkr 6 rfl (fun W hSw => by have m := (HQ.out W hSw).1; exact tks) ?_
   refine tkq2 7 8 ?_
   refine tkr 9 rfl (fun W hSw => by have m := (HQ.out W hSw).2; exact tks) ?_
   refine tkq 10 ?_
   refine tk1 2 rfl fun K hK => ?_
   go_simp
   refine (H47.out _ hH).mono ?_; rintro r w1 ⟨Bs1, rfl, hb1, hsq1⟩
   have HSQ1 := hid hsq1
   clear hsq1
   have HBc := za_ hH hb1
   clear hb1
   go_wp2_with fail
   refine hK.out _ _ HBc fun hH => ?_
   clear HBc
   refine stP ?_
   refine tk1 11 rfl fun K hK => ?_
   go_simp
   refine (H46.out _ hH Bs1 HSQ1.out lv).mono ?_; rintro r w2 ⟨rfl, hb2⟩
   have HBc := za_ hH hb2
   clear hb2
   go_wp2_with fail
   refine hK.out _ _ HBc fun hH => ?_
   clear HBc
   refine stP ?_
   refine tkp 12 (.bool false) rfl (.inl ⟨by rfl, ?_⟩) ?_
   ·exact Xb17
   refine tkp 13 (.bool false) rfl (.inl ⟨by rfl, ?_⟩) ?_
   ·exact Xb17
   refine tkq4 14 15 17 18 ?_
   refine tkq 19 ?_
   refine tkr 20 rfl (fun W hSw => by have m := (HQ.out W hSw).1; exact tks) ?_
   refine tkq2 21 22 ?_
   refine tkr 23 rfl (fun W hSw => by have m := (HQ.out W hSw).2; exact tks) ?_
   refine tk1 16 rfl fun K hK => ?_
   go_simp
   refine (H47.out _ hH).mono ?_; rintro r w3 ⟨Bs3, rfl, hb3, hsq3⟩
   have HSQ3 := hid hsq3
   clear hsq3
   have HBc := za_ hH hb3
   clear hb3
   go_wp2_with fail
   refine hK.out _ _ HBc fun hH => ?_
   clear HBc
   refine stP ?_
   refine tk1 24 rfl fun K hK => ?_
   go_simp
   refine (H46.out _ hH Bs3 HSQ3.out 0).mono ?_; rintro r w4 ⟨rfl, hb4⟩
   have HBc := za_ hH hb4
   clear hb4
   go_wp2_with fail
   refine hK.out _ _ HBc fun hH => ?_
   clear HBc
   refine stP ?_
   refine tkp 25 (.bool false) rfl (.inl ⟨by rfl, ?_⟩) ?_
   ·exact Xb17
   refine tkp 26 (.bool false) rfl (.inl ⟨by rfl, ?_⟩) ?_
   ·exact Xb17
   refine adn ?_
   skip
   have HB6 := hid (za_ HBW.out hH)
   clear hH c7 H47 H46 HQ HSQ1 HSQ3
   go_wp2_with fail
   go_loopw [8] (fun i wq => ∃ v : Int, -1 <= v /\ v <= jx + 1 /\ i = .int .i64 v /\ Hid (Below w.heap.size w wq)) (fun i _ => (jx + 1 - intOf i).toNat)
   case atStart => exact ⟨-1, by omega, by omega, rfl, HB6⟩
   case round =>
    obtain ⟨v, hv1, hv2, rfl, HBQ⟩ := hrel
    obtain ⟨j0, j1⟩ := HJ.out _ HBQ.out
    have w8 : IntKind.i64.wrap (v + 1) = v + 1 := by rw [IntKind.wrap_i64] <;> omega
    by_cases hle : v <= jx
    ·go_wp2_with fail
     refine (HIX.out _ HBQ.out v).mono ?_; rintro r w5 ⟨ea, ec, E, rfl, hb5, hE1, hE2, hE3, hE4⟩
     obtain ⟨en, hen⟩ := gtx (E.length)
     rw [hen] at hE2 hE3 ⊢
     have HB5 := hid (za_ HBQ.out hb5)
     have H46 := hid (fun X (b : Below w5.heap.size w5 X) Bs (sq : SqAt okI X Bs (idxT m (k : Int) v)) (mo : Int) => (qV_ okI (fun p h => okI_pr h) X Bs _ ea E en ec hen hE2 hE3 hE1 (hE4 X b) mo sq : Calls prog 46 #[.func (.func 106) #[] #[.pointer (some ⟨Bs, 0, none⟩)], .slice ea en ec, .int .i64 mo] X fun r w' => r = .returned (.bool true) /\ Below X.heap.size X w'))
     clear hb5 hE1 hE2 hE3 hE4 hen j0 j1
     go_wp2_with fail
     refine (HI49.out _ HB5.out v).mono ?_; rintro r w6 ⟨Bs1, rfl, hb6, hsq1⟩
     have HB6 := hid (And.intro hb6 hsq1)
     clear hb6 hsq1
     go_wp2_with fail
     refine (H46.out _ HB6.out.1 Bs1 HB6.out.2 lv).mono ?_; rintro r w7 ⟨rfl, hb7⟩
     have HB7 := hid (za_ HB6.out.1 hb7)
     clear hb7
     go_wp2_with fail
     refine (HI49.out _ (za_ HB5.out HB7.out) v).mono ?_; rintro r w8' ⟨Bs2, rfl, hb8, hsq2⟩
     have HB8 := hid (And.intro (za_ HB7.out hb8) hsq2)
     clear hb8 hsq2
     go_wp2_with fail
     refine (H46.out _ HB8.out.1 Bs2 HB8.out.2 0).mono ?_; rintro r w9 ⟨rfl, hb9⟩
     have HB9 := hid (za_ HB5.out (za_ HB8.out.1 hb9))
     clear hb9
     go_wp2_with fail
     go_roundw
     case rel => exact ⟨v + 1, by omega, by omega, by go_num, HB9⟩
     case measure => simp [intOf]; omega
    ·go_wp2_with fail
     go_roundw
     case rel => exact ⟨k + 1, by omega, by go_num, HBQ⟩
     case measure => simp [intOf]; omega
  ·have d1 : ¬ (k : Int) < (fn : Int) := by omega
   have hf1 : tabT m (-1) = [] := by unfold tabT; rw [if_neg Xt0]
   have hf2 : tabT m (fn : Int) = [] := by unfold tabT; rw [if_neg (by have := HV.out.2.2.2.1; have := HFN.out; omega)]
   have hf3 : idxT m (-1) 0 = [] := by unfold idxT; rw [if_neg Xt0]
   have H47 := hid (fun X (b : Below wr.heap.size wr X) (t : Int) => table_sq (HM.out.below (za_ HBW.out b)) (HSB.out X (za_ HBW.out b)) t Xt31)
   have H49 := hid (fun X (b : Below wr.heap.size wr X) => index_sq (HM.out.below (za_ HBW.out b)) (HSB.out X (za_ HBW.out b)) (-1) 0 Xt31)
   have HE := hid (And.intro hf1 (And.intro hf2 hf3))
   clear hf1 hf2 hf3
   go_wp2_with fail
   refine (H47.out _ (Below.refl _ _) (-1)).mono ?_; rintro r w1 ⟨Bs1, rfl, hb1, hsq1⟩
   rw [HE.out.1] at hsq1
   have HB1 := hid (And.intro hb1 hsq1)
   clear hb1 hsq1
   go_wp2_with fail
   refine (jX_ okK (fun p h => okK_pr h) _ Bs1 0 HB1.out.2).mono ?_; rintro r w2 ⟨rfl, hb2⟩
   have HB2 := hid (za_ HB1.out.1 hb2)
   have c7 := HM7.out _ (za_ HBW.out HB2.out)
   clear hb2
   go_wp2_with fail
   refine (H47.out _ HB2.out (fn : Int)).mono ?_; rintro r w3 ⟨Bs3, rfl, hb3, hsq3⟩
   rw [HE.out.2.1] at hsq3
   have HB3 := hid (And.intro (za_ HB2.out hb3) hsq3)
   clear hb3 hsq3 c7
   go_wp2_with fail
   refine (jX_ okK (fun p h => okK_pr h) _ Bs3 0 HB3.out.2).mono ?_; rintro r w4 ⟨rfl, hb4⟩
   have HB4 := hid (za_ HB3.out.1 hb4)
   clear hb4
   go_wp2_with fail
   refine (H49.out _ HB4.out).mono ?_; rintro r w5 ⟨Bs5, rfl, hb5, hsq5⟩
   rw [HE.out.2.2] at hsq5
   have HB5 := hid (And.intro (za_ HB4.out hb5) hsq5)
   clear hb5 hsq5
   go_wp2_with fail
   refine (jX_ okI (fun p h => okI_pr h) _ Bs5 0 HB5.out.2).mono ?_; rintro r w6 ⟨rfl, hb6⟩
   have HB6 := hid (za_ HBW.out (za_ HB5.out.1 hb6))
   clear hb6
   go_wp2_with fail
   go_ret
   exact ⟨rfl, HB6.out⟩
end
end Go.Proofs.YthmofoldmdafoaaGreat
