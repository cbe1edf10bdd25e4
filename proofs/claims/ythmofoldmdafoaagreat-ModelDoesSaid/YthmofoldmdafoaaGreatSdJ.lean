/- Part of the proof that ModelDoes holds for every input: tables, under any transactions, answer, write and stand as the document says. Part 36. -/
import Derived.Test.YthmofoldmdafoaaGreatSdI
set_option linter.unusedVariables false
set_option linter.unusedSimpArgs false
set_option maxRecDepth 100000
set_option maxHeartbeats 4000000
namespace Go.Proofs.YthmofoldmdafoaaGreat
open Go.ChangeShapes Go.WideShapes Go.ChangeAt Go.RowKit
open Go.Lib (hid)
open Go.Proofs.Tryz
theorem SmL.mem : ∀ {l l' : List zj_}, SmL l l' -> ∀ p ∈ l', ∃ o ∈ l, SmO o p
 | [], [], _, p, hp => by cases hp
 | x :: l, y :: l', h, p, hp => by
  rcases List.mem_cons.1 hp with e | hp
  ·subst e; exact ⟨x, List.mem_cons_self, h.1⟩
  ·obtain ⟨o, ho, hs⟩ := SmL.mem h.2 p hp
   exact ⟨o, List.mem_cons_of_mem _ ho, hs⟩
 | [], y :: l', h, p, hp => h.elim
 | x :: l, [], h, p, hp => h.elim
def BndT (x : z0_) : Prop := x.on <= 9000 /\ ∀ o ∈ x.ops, o.kn <= 9000 /\ o.tn <= 9000 /\ o.rn <= 9000 /\ ∀ p ∈ o.R, p.bs.length <= 9000
theorem SmT.bnd {x y : z0_} (h : SmT x y) (hb : BndT x) : BndT y := ⟨by rw [h.on]; exact hb.1, fun p hp => by
 obtain ⟨o, ho, hs⟩ := h.ops.mem p hp
 obtain ⟨h1, h2, h3, h4⟩ := hb.2 o ho
 refine ⟨by rw [hs.kn]; exact h1, by rw [hs.tn]; exact h2, by rw [hs.rn]; exact h3, fun q hq => ?_⟩
 have h5 : q.bs ∈ p.R.map P1.bs := List.mem_map.2 ⟨q, hq, rfl⟩
 rw [hs.R] at h5
 obtain ⟨q', hq', e⟩ := List.mem_map.1 h5
 rw [← e]; exact h4 q' hq'⟩
theorem wr_ok {y : WtV} (h : y.r.R ≠ [] -> rOk y.r.P) : y.r.R.length <= 1000000 /\ ∀ q ∈ y.r.R, Byt q.bs := by
 cases hr : y.r.R with
 | nil => exact ⟨by simp, fun q hq => by cases hq⟩
 | cons a l =>
  have h1 := h (by rw [hr]; exact fun e => by cases e)
  rw [← hr]
  exact ⟨by have := h1.2.1; unfold RV.P at this; rw [List.length_map] at this; omega, xB_ h1⟩
theorem wrs_ok {E : List WtV} {n : Nat} (h : ∀ y ∈ E, y.t < n /\ zH_ y.K /\ (y.r.R ≠ [] -> rOk y.r.P)) : ∀ p ∈ E.map WtV.W, p.r.R.length <= 1000000 /\ ∀ q ∈ p.r.R, Byt q.bs := fun p hp => by
 obtain ⟨y, hy, e⟩ := List.mem_map.1 hp
 subst e
 exact wr_ok (h y hy).2.2
theorem qe_ {W W' : World} {a : Option Addr} {L : List xu_} (h : jE_ W a L) (hb : Below W.heap.size W W') : jE_ W' a L := fun k x hx => by
 exact Xb105
theorem resW_below {W W' : World} {a : Option Addr} {L : List xu_} (h : ResW W a L) (hb : Below W.heap.size W W') : ResW W' a L :=
 ⟨qe_ h.1 hb, h.2.1.below hb, fun y hy => ⟨(h.2.2 y hy).1.below hb, fun p hp => ((h.2.2 y hy).2 p hp).below hb⟩⟩
theorem RfR.spoilt2 {S T : Nat -> Prop} {K : TypeId -> Prop} {W X : World} {f : Rf} (h : RfR S W f) (s : Sh K T W X) (hT : ∀ k, T k -> S k) (k1 : ¬ K 48) (k2 : ¬ K 69) : RfR S X f := by
 obtain ⟨cs, hcs⟩ := h.tb
 have o : Off (fun k => T k /\ k ≠ f.p /\ k ≠ f.b1) W X := ⟨s.off.os, s.off.tape, s.off.output, s.off.size, fun k hk hn => by
  by_cases e1 : k = f.p
  ·subst e1; exact s.kind _ _ _ _ _ h.box k1
  ·by_cases e2 : k = f.b1
   ·subst e2; exact s.kind _ _ _ _ _ hcs k2
   ·exact s.off.block k hk (fun t => hn ⟨t, e1, e2⟩)⟩
 exact h.off o (fun k t => hT k t.1) (fun t => t.2.1 rfl) (fun t => t.2.2 rfl) (fun _ h => .inl h) h.hp h.hb
theorem BndT.rn {x : z0_} (h : BndT x) : ∀ o ∈ x.ops, o.rn <= 1000000 := fun o ho => by have := (h.2 o ho).2.2.1; omega
theorem do13_yes {S : Nat -> Prop} {m : Md} {f : Rf} {w : World} (hm : MdR S w m) (hf : RfR S w f) (hS : ∀ k, S k -> k < w.heap.size) (hj : JEq f.j m.j) (hP : f.P = m.P) (x : z0_) (hx : zs_ S w fun W => zR_ W x) (hmt : yM_ m.j x = true) (hon : x.on <= 9000) (hb : ∀ o ∈ x.ops, o.kn <= 9000 /\ o.tn <= 9000 /\ o.rn <= 9000 /\ ∀ p ∈ o.R, p.bs.length <= 9000) (hl : ∀ z ∈ m.tabs, z.2.length <= 200000) (hfl : ∀ z ∈ f.Ts, z.P.length <= 200000) (hkl : ∀ r ∈ QV_ m.j m.P x, ∀ p ∈ r.2, p.1.length <= 1000000) :
  Calls prog 13 #[.pointer (some ⟨m.p, 0, none⟩), .pointer (some ⟨f.p, 0, none⟩), .agg #[.slice x.oa x.on x.oc, .bool x.sn, .bool x.ab]] w (DoB S w m f) := by
 obtain ⟨w1, hw1⟩ := gty (w.alloc (.cells #[.slice x.oa x.on x.oc, .bool x.sn, .bool x.ab] 38))
 have hb1 : Below w.heap.size w w1 := by rw [hw1]; exact bl1 _ _
 have hbx : zg_ w1 w.heap.size #[.slice x.oa x.on x.oc, .bool x.sn, .bool x.ab] 38 := by rw [hw1]; exact zg_.new _ _ _
 have HB1 := hid hb1
 have HXB := hid hbx
 have HM := hid hm
 have HF := hid hf
 have HX := hid hx
 have HV := hid (And.intro hS (And.intro hj (And.intro hP (And.intro hmt (And.intro hon (And.intro hb hl))))))
 have HCT := hid (qZ_ x w1 (hx.now.below hb1) hon hb)
 have x0 := hbx.cell 0
 have x1 := hbx.cell 1
 have x2 := hbx.cell 2
 simp only [gtA, gtB, gtC] at x0 x1 x2
 have HFL := hid hfl
 have HKL := hid hkl
 clear hfl hkl hm hf hS hj hP hx hmt hon hb hl hb1 hbx
 go_enter func13, ntmps13
 go_upto_region 1 with (fail)
 rw [← hw1]
 clear hw1
 go_wp2_with fail
 clear x0 x1 x2
 refine HCT.out.mono ?_; intro r w2 hr
 obtain ⟨y, rfl, hb2, hsm, hty, hwy, hop⟩ := CtR.out hr
 have HB2 := hid hb2
 have HSM := hid hsm
 have HTY := hid hty
 have HWY := hid hwy
 have HOP := hid hop
 clear hr hb2 hsm hty hwy hop HCT
 go_upto_region 2 with (fail)
 obtain ⟨w3, hw3⟩ := gty (w2.alloc (.cells #[.slice y.oa y.on y.oc, .bool y.sn, .bool y.ab] 38))
 rw [← hw3]
 have HB23 := hid (show Below w2.heap.size w2 w3 by rw [hw3]; exact bl1 _ _)
 have HX3 := hid (show zg_ w3 w2.heap.size #[.slice y.oa y.on y.oc, .bool y.sn, .bool y.ab] 38 by rw [hw3]; exact zg_.new _ _ _)
 clear hw3
 have HY := hid (HSM.out.bnd ⟨HV.out.2.2.2.2.1, HV.out.2.2.2.2.2.1⟩)
 have HB3 := hid (HB1.out.trans ((HB2.out.mono HB1.out.size).trans (HB23.out.mono (Nat.le_trans HB1.out.size HB2.out.size))))
 have HTRY := hid (try_lawN (HM.out.below HB3.out) (fun k hk => Nat.lt_of_lt_of_le (HV.out.1 k hk) HB3.out.size) y (HTY.out.below HB23.out) Xt46 HY.out.rn Xt19)
 have z0 := HX3.out.cell 0
 have z1 := HX3.out.cell 1
 have z2 := HX3.out.cell 2
 simp only [gtA, gtB, gtC] at z0 z1 z2
 go_wp2_with fail
 clear z0 z1 z2
 refine HTRY.out.mono ?_; intro r w4 hr
 unfold TryN at hr
 rw [HSM.out.may, HV.out.2.2.2.1, if_pos rfl] at hr
 obtain ⟨ta, tc, Y, rfl, hb4, hans, hok, hst⟩ := hr
 rw [HSM.out.ans] at hans
 have HB34 := hid hb4
 have HT4 := hid (And.intro hans (And.intro hok hst))
 clear hb4 hans hok hst HTRY
 go_upto_region 3 with (fail)
 have HB4 := hid (HB3.out.trans (HB34.out.mono HB3.out.size))
 have HWR := hid (xw_ (HM.out.below HB4.out) (fun k hk => Nat.lt_of_lt_of_le (HV.out.1 k hk) HB4.out.size) y (HTY.out.below (HB23.out.trans (HB34.out.mono HB23.out.size))) Xt46 HY.out.rn Xt19)
 have z0 := (HX3.out.below HB34.out).cell 0
 have z1 := (HX3.out.below HB34.out).cell 1
 have z2 := (HX3.out.below HB34.out).cell 2
 simp only [gtA, gtB, gtC] at z0 z1 z2
 go_wp2_with fail
 clear z0 z1 z2
 refine HWR.out.mono ?_; intro r w5 hr
 unfold Qc_ at hr
 rw [HSM.out.may, HV.out.2.2.2.1, if_pos rfl] at hr
 obtain ⟨ea, ec, E, rfl, hb5, hperm, hsort, hek, hst⟩ := hr
 rw [HSM.out.wrt] at hperm
 have HB45 := hid hb5
 have HT5 := hid (And.intro hperm (And.intro hsort (And.intro hek hst)))
 clear hb5 hperm hsort hek hst HWR
 go_upto_region 4 with (fail)
 have HB5 := hid (HB4.out.trans (HB45.out.mono HB4.out.size))
 have HRW := hid (qK_ (HF.out.below HB5.out) (fun k hk => Nat.lt_of_lt_of_le (HV.out.1 k hk) HB5.out.size) x (HX.out.step (Off.of HB5.out) (fun k hk => .inl hk)) Xt55 Xt25 Xt38)
 have z0 := (HXB.out.below ((HB2.out.trans ((HB23.out.trans (HB34.out.mono HB23.out.size)).mono HB2.out.size)).trans (HB45.out.mono (Nat.le_trans HB2.out.size (Nat.le_trans HB23.out.size HB34.out.size))))).cell 0
 have z1 := (HXB.out.below ((HB2.out.trans ((HB23.out.trans (HB34.out.mono HB23.out.size)).mono HB2.out.size)).trans (HB45.out.mono (Nat.le_trans HB2.out.size (Nat.le_trans HB23.out.size HB34.out.size))))).cell 1
 have z2 := (HXB.out.below ((HB2.out.trans ((HB23.out.trans (HB34.out.mono HB23.out.size)).mono HB2.out.size)).trans (HB45.out.mono (Nat.le_trans HB2.out.size (Nat.le_trans HB23.out.size HB34.out.size))))).cell 2
 simp only [gtA, gtB, gtC] at z0 z1 z2
 go_wp2_with fail
 clear z0 z1 z2
 refine HRW.out.mono ?_; intro r w6 hr
 unfold RWrR at hr
 rw [HV.out.2.1.may, HV.out.2.1.run, HV.out.2.2.2.1, if_pos rfl] at hr
 obtain ⟨va, vc, V, rfl, hb6, hvp, hvn, hvk, hst⟩ := hr
 have HB56 := hid hb6
 have HT6 := hid (And.intro hvp (And.intro hvn (And.intro hvk hst)))
 clear hb6 hvp hvn hvk hst HRW
 go_upto_region 5 with (fail)
 have HB6 := hid (HB5.out.trans (HB56.out.mono HB5.out.size))
 have HB36 := hid ((HB34.out.trans (HB45.out.mono HB34.out.size)).trans (HB56.out.mono (Nat.le_trans HB34.out.size HB45.out.size)))
 have HDO := hid (do_lawN (HM.out.widen HB6.out) (fun k hk => hk.elim (fun hk => Nat.lt_of_lt_of_le (HV.out.1 k hk) HB6.out.size) And.right) y (HTY.out.below (HB23.out.trans (HB36.out.mono HB23.out.size))) Xt46 HY.out.rn Xt19)
 have z0 := (HX3.out.below HB36.out).cell 0
 have z1 := (HX3.out.below HB36.out).cell 1
 have z2 := (HX3.out.below HB36.out).cell 2
 simp only [gtA, gtB, gtC] at z0 z1 z2
 go_wp2_with fail
 clear z0 z1 z2
 refine HDO.out.mono ?_; intro r w7 hr
 unfold DoN at hr
 rw [HSM.out.may, HV.out.2.2.2.1, if_pos rfl] at hr
 obtain ⟨m', da, dc, Z, wm, rfl, hbm, hof, hm7, hms, hmp, hmn, hans, hok, hst⟩ := hr
 rw [HSM.out.wrt] at hmp
 rw [HSM.out.ans] at hans
 have HBM := hid hbm
 have HOM := hid hof
 have HM7 := hid (And.intro hm7 (And.intro hms (And.intro hmp hmn)))
 have HT7 := hid (And.intro hans (And.intro hok hst))
 clear hbm hof hm7 hms hmp hmn hans hok hst HDO
 go_upto_region 6 with (fail)
 have HMS := hid (show ∀ k, yK_ m k -> S k from fun k ⟨z, hz, e⟩ => e ▸ HM.out.hS z hz)
 have HB1M := hid (show Below w1.heap.size w1 wm from (HB2.out.trans ((HB23.out.trans (HB36.out.mono HB23.out.size)).mono HB2.out.size)).trans (HBM.out.mono (Nat.le_trans HB2.out.size (Nat.le_trans HB23.out.size HB36.out.size))))
 have HBWM := hid (HB6.out.trans (HBM.out.mono HB6.out.size))
 have HO7 := hid ((Off.of HBWM.out).trans HOM.out)
 have HNP := hid (show ¬ yK_ m f.p from fun ⟨z, hz, e⟩ => (HM.out.maps z hz).ne_box HF.out.box e.symm)
 have HNB := hid (show ¬ yK_ m f.b1 from fun ⟨z, hz, e⟩ => by
  obtain ⟨cs, hcs⟩ := HF.out.tb
  exact (HM.out.maps z hz).ne_box hcs e.symm)
 have HNX := hid (show ¬ yK_ m w.heap.size from fun ⟨z, hz, e⟩ => ((HM.out.maps z hz).below HB1.out).ne_box HXB.out e.symm)
 have HSR := hid (show ∀ k, jF_ S w.heap.size wm.heap.size k -> k < w7.heap.size from fun k hk => hk.elim (fun hk => Nat.lt_of_lt_of_le (HV.out.1 k hk) HO7.out.size) (fun hk => Nat.lt_of_lt_of_le hk.2 HOM.out.size))
 have HRD := hid (rdo_law (HF.out.off (S' := jF_ S w.heap.size wm.heap.size) HO7.out HMS.out HNP.out HNB.out (fun k hk => hk.imp id And.left) (.inl HF.out.hp) (.inl HF.out.hb)) HSR.out x (HX.out.step (HO7.out.mono HMS.out) (fun k hk => hk.imp id And.left)) Xt55 Xt25 Xt38)
 have hx7 := HOM.out.box (HXB.out.below HB1M.out) HNX.out
 have z0 := hx7.cell 0
 have z1 := hx7.cell 1
 have z2 := hx7.cell 2
 simp only [gtA, gtB, gtC] at z0 z1 z2
 clear hx7
 go_wp2_with fail
 clear z0 z1 z2
 refine HRD.out.mono ?_; intro r w8 hr
 unfold RDoR at hr
 rw [HV.out.2.1.may, HV.out.2.1.run, HV.out.2.2.2.1, if_pos rfl, HV.out.2.2.1] at hr
 obtain ⟨g, ya, yc, X, rfl, ho8, hgp, hgj, hgb, hg8, hgP, hans, hok, hst, hgn⟩ := hr
 have HO8 := hid ho8
 have HG8 := hid (And.intro hgp (And.intro hgj (And.intro hgb (And.intro hg8 (And.intro hgP hgn)))))
 have HT8 := hid (And.intro hans (And.intro hok hst))
 clear ho8 hgp hgj hgb hg8 hgP hans hok hst hgn HRD
 go_upto_region 7 with (fail)
 have HTO := hid (show ∀ o ∈ x.ops, o.t.toNat < m.P.length from fun o ho => by
  have h1 := may_t HV.out.2.2.2.1 ho
  have h2 := HM.out.len
  rw [Md.P_len]; omega)
 have HTK := hid (show ∀ t, yf_ (m.P.getD t []) from fun t => by rw [← HV.out.2.2.1]; exact HF.out.tabok t)
 have HDV := hid (do_vals (j := m.j) (T := m.P) HTK.out x HTO.out)
 have HEV := hid (show E.map WtV.P = V.map WtV.P from by
  have h1 := HT6.out.1
  rw [HV.out.2.2.1] at h1
  rw [h1]
  exact (wrt_vals HTK.out x HTO.out HT5.out.1 (List.pairwise_map.2 (HT5.out.2.1.imp fun h => h))).symm)
 have HYX := hid (show Y.map yx_ = X.map yx_ by rw [HT4.out.1, HT8.out.1, HDV.out.1])
 have HZX := hid (show Z.map yx_ = X.map yx_ by rw [HT7.out.1, HT8.out.1, HDV.out.1])
 have HLN := hid (show X.length <= 9000 from by
  have h1 := congrArg List.length HT8.out.1
  rw [HDV.out.1] at h1
  unfold QV_ at h1
  rw [List.length_map, (xS_ _ _ _).1] at h1
  have h2 := HX.out.now.ol
  have h3 := HV.out.2.2.2.2.1
  omega)
 have HYN := hid (show Y.length = X.length by have := congrArg List.length HYX.out; rwa [List.length_map, List.length_map] at this)
 have HZN := hid (show Z.length = X.length by have := congrArg List.length HZX.out; rwa [List.length_map, List.length_map] at this)
 have HEN := hid (show E.length = V.length by have := congrArg List.length HEV.out; rwa [List.length_map, List.length_map] at this)
 have HOM8 := hid (show Off (fun k => S k) wm w8 from (HOM.out.mono HMS.out).trans (HO8.out.mono fun k e => e ▸ HF.out.hp))
 have hlo : ∀ k, S k -> k < w.heap.size := HV.out.1
 have HS3 := hid (show ∀ k, S k -> k < w3.heap.size from fun k hk => Nat.lt_of_lt_of_le (hlo k hk) HB3.out.size)
 have HS6 := hid (show ∀ k, S k -> k < w6.heap.size from fun k hk => Nat.lt_of_lt_of_le (hlo k hk) HB6.out.size)
 have HB5M := hid (show Below w5.heap.size w5 wm from HB56.out.trans (HBM.out.mono HB56.out.size))
 have HB4M := hid (show Below w4.heap.size w4 wm from HB45.out.trans (HB5M.out.mono HB45.out.size))
 have HRY := hid (HT4.out.2.2 w8 (((Off.of HB4M.out).trans HOM8.out).mono HS3.out))
 have HRZ := hid (HT7.out.2.2 w8 (HOM8.out.mono HS6.out))
 have HRX := hid (HT8.out.2.2.now)
 have HRE := hid (HT5.out.2.2.2 w8 ((Off.of HB5M.out).trans HOM8.out))
 have HRV := hid (HT6.out.2.2.2 w8 ((Off.of HBM.out).trans HOM8.out))
 rw [HYN.out, HZN.out, HEN.out]
 clear hlo
 have hkey := zU_ ta ya Y X X.length X.length tc yc HYN.out rfl Xt78 Xt78 HT4.out.2.1 HT8.out.2.1 w8 HRY.out.1 HRX.out
 rw [decide_eq_true HYX.out] at hkey
 have HC1 := hid hkey
 clear hkey
 go_wp2_with fail
 refine HC1.out.mono ?_; rintro r w9 ⟨rfl, hb9⟩
 have HB89 := hid hb9
 clear hb9 HC1
 go_wp2_with (refine (zI_ _ _).mono ?_; rintro r wn ⟨rfl, rfl⟩)
 have hkey := zU_ da ya Z X X.length X.length dc yc HZN.out rfl Xt78 Xt78 HT7.out.2.1 HT8.out.2.1 w9 (qe_ HRZ.out.1 HB89.out) (qe_ HRX.out HB89.out)
 rw [decide_eq_true HZX.out] at hkey
 refine hkey.mono ?_; clear hkey; rintro r w10 ⟨rfl, hb10⟩
 have HB810 := hid (HB89.out.trans (hb10.mono HB89.out.size))
 clear hb10
 go_wp2_with (refine (zI_ _ _).mono ?_; rintro r wn ⟨rfl, rfl⟩)
 refine (xx_ ea va (E.map WtV.W) (V.map WtV.W) V.length ec vc (by rw [List.length_map]; exact HEN.out) (by have := HT6.out.2.1; omega) (by rw [wI_W, wI_W, HEV.out]) (wrs_ok HT5.out.2.2.1) (fun p hp => (wrs_ok HT6.out.2.2.1 p hp).2) w10 (HRE.out.below HB810.out) (HRV.out.below HB810.out)).mono ?_; rintro r w11 ⟨rfl, hb11⟩
 have HB811 := hid (HB810.out.trans (hb11.mono HB810.out.size))
 clear hb11
 have HB2M := hid (show Below w2.heap.size w2 wm from (HB23.out.trans (HB36.out.mono HB23.out.size)).trans (HBM.out.mono (Nat.le_trans HB23.out.size HB36.out.size)))
 have HB3M := hid (show Below w3.heap.size w3 wm from HB36.out.trans (HBM.out.mono HB36.out.size))
 have hs12 : w1.heap.size <= w2.heap.size := HB2.out.size
 have hs01 : w.heap.size < w1.heap.size := HXB.out.lt
 have hlo := HV.out.1
 have HX11 := hid ((HOM8.out.box (HX3.out.below HB3M.out) (fun h => by have := hlo _ h; omega)).below HB811.out)
 have HOW := hid (ze_ (zm_ (ze_ HWY.out HB2M.out) HOM8.out (fun g hg h => by have h1 := (zb_ HWY.out hg).1; have h2 := hlo _ h; omega)) HB811.out)
 have HOT := hid (show Off (fun k => yK_ m k ∨ k = f.p) wm w8 from (HOM.out.mono fun k h => .inl h).trans (HO8.out.mono fun k h => .inr h))
 have HOP11 := hid (show ∀ o ∈ y.ops, OpO w1.heap.size w11 o from fun o ho => by
  have h1 := (HOP.out o ho).off (S := fun _ => False) (Off.of HB2M.out) (fun g h _ => h.elim)
  have h2 := h1.off HOT.out (fun g hg h => by
   rcases hg with ⟨z, hz, e⟩ | e
   ·have hmp := (HM.out.maps z hz).below HBWM.out
    subst e
    rcases h with ⟨cu, hc⟩ | ⟨cu, hc⟩
    ·exact hmp.ne_box hc rfl
    ·exact hmp.ne_box hc rfl
   ·subst e
    have hfb := HF.out.box.below HBWM.out
    rcases h with ⟨cu, hc⟩ | ⟨cu, hc⟩
    ·exact zo_ hc hfb Xt4 rfl
    ·exact zo_ hc hfb Xt4 rfl)
  exact h2.off (S := fun _ => False) (Off.of HB811.out) (fun g h _ => h.elim))
 have HKB := hid (show ∀ (L : List xu_), L.map yx_ = QV_ m.j m.P x -> (∀ y ∈ L, ym_ y) -> ∀ y ∈ L, y.P.length <= 1000000 /\ ∀ p ∈ y.P, p.K.length <= 1000000 /\ p.R.length <= 1000000 from fun L hL hok y hy => ⟨(hok y hy).pn, fun p hp => ⟨HKL.out (yx_ y) (by rw [← hL]; exact List.mem_map.2 ⟨y, hy, rfl⟩) (prC p) (List.mem_map.2 ⟨p, hp, rfl⟩), ((hok y hy).ps p hp).rn⟩⟩)
 have hs46 : w4.heap.size <= w6.heap.size := Nat.le_trans HB45.out.size HB56.out.size
 have hs26 : w2.heap.size <= w6.heap.size := Nat.le_trans HB23.out.size HB36.out.size
 have hT1 : ∀ {a : Option Addr} {n p q : Nat}, InB (fun b => p <= b /\ b < q) a n -> w.heap.size <= p -> q <= w6.heap.size -> InB (fun b => w.heap.size <= b /\ b < w6.heap.size) a n := fun h hp hq b off e hn => by
  obtain ⟨h1, h2⟩ := h b off e hn
  exact ⟨Nat.le_trans hp h1, Nat.lt_of_lt_of_le h2 hq⟩
 have HSP := hid (xO_ y ta tc (fun b => w.heap.size <= b /\ b < w6.heap.size) Y w11 ⟨ops_own HOW.out HTY.out.ol (fun o h => (HOP11.out o h).at'), HTY.out.ol⟩ (WrB.of HOW.out) HY.out.1
  (fun o ho => ⟨(HY.out.2 o ho).1, (HY.out.2 o ho).2.2.1, (HY.out.2 o ho).2.2.2, (yh_ (HOP11.out o ho)).1, hT1 (yh_ (HOP.out o ho)).2.1 Xt0 hs26, (yh_ (HOP11.out o ho)).2.2.1, fun p hp => ⟨((yh_ (HOP11.out o ho)).2.2.2 p hp).1, hT1 ((yh_ (HOP.out o ho)).2.2.2 p hp).2 Xt0 hs26⟩⟩)
  (resW_below HRY.out HB811.out) (by have := HYN.out; have := HLN.out; omega) (fun z hz => ⟨(HKB.out Y HT4.out.1 HT4.out.2.1 z hz).1, fun p hp => ⟨((HKB.out Y HT4.out.1 HT4.out.2.1 z hz).2 p hp).1, ((HKB.out Y HT4.out.1 HT4.out.2.1 z hz).2 p hp).2, hT1 (jo_ HT4.out.2.2 z hz p hp).1 (Nat.le_of_lt (Nat.lt_of_lt_of_le hs01 (Nat.le_trans hs12 HB23.out.size))) hs46, hT1 (jo_ HT4.out.2.2 z hz p hp).2 (Nat.le_of_lt (Nat.lt_of_lt_of_le hs01 (Nat.le_trans hs12 HB23.out.size))) hs46⟩⟩))
 rw [HYN.out] at HSP
 have z0 := HX11.out.cell 0
 have z1 := HX11.out.cell 1
 have z2 := HX11.out.cell 2
 simp only [gtA, gtB, gtC] at z0 z1 z2
 clear hs12 hs01 hlo hT1 hs46 hs26
 go_wp2_with (refine (zI_ _ _).mono ?_; rintro r wn ⟨rfl, rfl⟩)
 clear z0 z1 z2
 refine HSP.out.mono ?_; rintro r w12 ⟨rfl, hsh⟩
 have HSH := hid hsh
 clear hsh
 go_wp2_with fail
 have HSP2 := hid (xO_ ⟨none, 0, 0, [], false, false⟩ da dc (fun b => w.heap.size <= b /\ b < wm.heap.size) Z w12 ⟨(fun k o h => by cases h), rfl⟩ (fun b off e hn => absurd hn Xt4) Xt4 (fun o ho => by cases ho)
  (HT7.out.2.2 w12 ((((HOM8.out.mono HS6.out).trans (Off.of HB811.out)).trans (HSH.out.off.mono fun k h => h.2)))) (by have := HZN.out; have := HLN.out; omega) (fun z hz => ⟨(HKB.out Z HT7.out.1 HT7.out.2.1 z hz).1, fun p hp => ⟨((HKB.out Z HT7.out.1 HT7.out.2.1 z hz).2 p hp).1, ((HKB.out Z HT7.out.1 HT7.out.2.1 z hz).2 p hp).2, fun b off e hn => ⟨Nat.le_trans HB6.out.size ((jo_ HT7.out.2.2 z hz p hp).1 b off e hn).1, ((jo_ HT7.out.2.2 z hz p hp).1 b off e hn).2⟩, fun b off e hn => ⟨Nat.le_trans HB6.out.size ((jo_ HT7.out.2.2 z hz p hp).2 b off e hn).1, ((jo_ HT7.out.2.2 z hz p hp).2 b off e hn).2⟩⟩⟩))
 rw [HZN.out] at HSP2
 refine HSP2.out.mono ?_; rintro r w13 ⟨rfl, hsh⟩
 have HSH2 := hid hsh
 clear hsh HSP2 HSP
 go_wp2_with fail
 go_ret
 have hlo := HV.out.1
 have hs07 : w.heap.size <= w7.heap.size := HO7.out.size
 have hs78 : w7.heap.size <= w8.heap.size := HO8.out.size
 have hs813 : w8.heap.size <= w13.heap.size := Nat.le_trans HB811.out.size (Nat.le_trans HSH.out.off.size HSH2.out.off.size)
 have hs6m : w6.heap.size <= wm.heap.size := HBM.out.size
 have hm7 : ∀ z ∈ m'.tabs, S z.1 := fun z hz => HMS.out _ (HM7.out.2.1.mem hz)
 have hg1 := HG8.out.2.2.1
 have hgp : g.p = f.p := HG8.out.1
 have hfp : S f.p := HF.out.hp
 have hmd : MdR (fun k => jF_ S w.heap.size wm.heap.size k ∨ k = g.b1) w8 m' := HM7.out.1.off HO8.out (fun k e => .inl (.inl (e ▸ hfp))) (fun z hz e => HNP.out (e ▸ HM7.out.2.1.mem hz)) (fun k hk => by
  rcases hk with (hk | hk) | hk
  ·exact .inl (.inl (.inl hk))
  ·by_cases h6 : k < w6.heap.size
   ·exact .inl (.inl (.inr ⟨hk.1, h6⟩))
   ·exact .inl (.inr ⟨by omega, hk.2⟩)
  ·subst hk
   rcases hg1 with (hk | hk) | hk
   ·exact .inl (.inl (.inl hk))
   ·by_cases h6 : g.b1 < w6.heap.size
    ·exact .inl (.inl (.inr ⟨hk.1, h6⟩))
    ·exact .inl (.inr ⟨by omega, hk.2⟩)
   ·exact .inr hk) (fun z hz => .inl (.inl (hm7 z hz)))
 have hT1 : ∀ k, (w.heap.size <= k /\ k < w6.heap.size) -> jF_ S w.heap.size wm.heap.size k ∨ k = g.b1 := fun k hk => .inl (.inr ⟨hk.1, by omega⟩)
 have hT2 : ∀ k, (w.heap.size <= k /\ k < wm.heap.size) -> jF_ S w.heap.size wm.heap.size k ∨ k = g.b1 := fun k hk => .inl (.inr hk)
 refine ⟨rfl, fun k => jF_ S w.heap.size wm.heap.size k ∨ k = g.b1, m', g, fun k hk => ?_, fun k hk => ?_, fun k hk => .inl (.inl hk), ?_, ?_, ?_, HM7.out.2.1, HG8.out.1, HG8.out.2.1, ?_, HM7.out.2.2.2, HG8.out.2.2.2.2.2⟩
 ·rcases hk with (hk | hk) | hk
  ·exact .inl hk
  ·exact .inr hk.1
  ·subst hk
   rcases hg1 with (hk | hk) | hk
   ·exact .inl hk
   ·exact .inr hk.1
   ·exact .inr (Nat.le_trans hs07 hk)
 ·rcases hk with hk | hk
  ·exact Nat.lt_of_lt_of_le (HSR.out k hk) (Nat.le_trans hs78 hs813)
  ·subst hk
   obtain ⟨cs, hcs⟩ := HG8.out.2.2.2.1.tb
   exact Nat.lt_of_lt_of_le hcs.lt hs813
 ·have o : Off (fun k => DoW m f k ∨ w.heap.size <= k) w w13 := (((((Off.of HBWM.out).trans (HOT.out.mono fun k h => .inl h)).trans (Off.of HB811.out)).trans (HSH.out.off.mono fun k h => .inr h.1)).trans (HSH2.out.off.mono fun k h => .inr h.1))
  exact Xb113
 ·exact ((hmd.below HB811.out).spoilt HSH.out hT1 (fun z hz h => by have := hlo _ (hm7 z hz); omega)).spoilt HSH2.out hT2 (fun z hz h => by have := hlo _ (hm7 z hz); omega)
 ·exact ((HG8.out.2.2.2.1.below HB811.out).spoilt2 HSH.out hT1 Xt4 Xt4).spoilt2 HSH2.out hT2 Xt4 Xt4
 ·have h1 := HG8.out.2.2.2.2.1
  rw [HM7.out.2.2.1, h1, ← HDV.out.2]
theorem do13_no {S : Nat -> Prop} {m : Md} {f : Rf} {w : World} (hm : MdR S w m) (hf : RfR S w f) (hS : ∀ k, S k -> k < w.heap.size) (hj : JEq f.j m.j) (hP : f.P = m.P) (x : z0_) (hx : zs_ S w fun W => zR_ W x) (hmt : yM_ m.j x = false) (hon : x.on <= 9000) (hb : ∀ o ∈ x.ops, o.kn <= 9000 /\ o.tn <= 9000 /\ o.rn <= 9000 /\ ∀ p ∈ o.R, p.bs.length <= 9000) (hl : ∀ z ∈ m.tabs, z.2.length <= 200000) (hfl : ∀ z ∈ f.Ts, z.P.length <= 200000) :
  Calls prog 13 #[.pointer (some ⟨m.p, 0, none⟩), .pointer (some ⟨f.p, 0, none⟩), .agg #[.slice x.oa x.on x.oc, .bool x.sn, .bool x.ab]] w (DoB S w m f) := by
 obtain ⟨w1, hw1⟩ := gty (w.alloc (.cells #[.slice x.oa x.on x.oc, .bool x.sn, .bool x.ab] 38))
 have hb1 : Below w.heap.size w w1 := by rw [hw1]; exact bl1 _ _
 have hbx : zg_ w1 w.heap.size #[.slice x.oa x.on x.oc, .bool x.sn, .bool x.ab] 38 := by rw [hw1]; exact zg_.new _ _ _
 have HB1 := hid hb1
 have HXB := hid hbx
 have HM := hid hm
 have HF := hid hf
 have HX := hid hx
 have HV := hid (And.intro hS (And.intro hj (And.intro hP (And.intro hmt (And.intro hon (And.intro hb hl))))))
 have HCT := hid (qZ_ x w1 (hx.now.below hb1) hon hb)
 have x0 := hbx.cell 0
 have x1 := hbx.cell 1
 have x2 := hbx.cell 2
 simp only [gtA, gtB, gtC] at x0 x1 x2
 have HFL := hid hfl
 clear hfl hm hf hS hj hP hx hmt hon hb hl hb1 hbx
 go_enter func13, ntmps13
 go_upto_region 1 with (fail)
 rw [← hw1]
 clear hw1
 go_wp2_with fail
 clear x0 x1 x2
 refine HCT.out.mono ?_; intro r w2 hr
 obtain ⟨y, rfl, hb2, hsm, hty, hwy, hop⟩ := CtR.out hr
 have HB2 := hid hb2
 have HSM := hid hsm
 have HTY := hid hty
 have HWY := hid hwy
 have HOP := hid hop
 clear hr hb2 hsm hty hwy hop HCT
 go_upto_region 2 with (fail)
 obtain ⟨w3, hw3⟩ := gty (w2.alloc (.cells #[.slice y.oa y.on y.oc, .bool y.sn, .bool y.ab] 38))
 rw [← hw3]
 have HB23 := hid (show Below w2.heap.size w2 w3 by rw [hw3]; exact bl1 _ _)
 have HX3 := hid (show zg_ w3 w2.heap.size #[.slice y.oa y.on y.oc, .bool y.sn, .bool y.ab] 38 by rw [hw3]; exact zg_.new _ _ _)
 clear hw3
 have HY := hid (HSM.out.bnd ⟨HV.out.2.2.2.2.1, HV.out.2.2.2.2.2.1⟩)
 have HB3 := hid (HB1.out.trans ((HB2.out.mono HB1.out.size).trans (HB23.out.mono (Nat.le_trans HB1.out.size HB2.out.size))))
 have HTRY := hid (try_lawN (HM.out.below HB3.out) (fun k hk => Nat.lt_of_lt_of_le (HV.out.1 k hk) HB3.out.size) y (HTY.out.below HB23.out) Xt46 HY.out.rn Xt19)
 have HB33 := hid (Below.refl w3.heap.size w3)
 have HLAW := HTRY
 clear HTRY
 have z0 := HX3.out.cell 0
 have z1 := HX3.out.cell 1
 have z2 := HX3.out.cell 2
 simp only [gtA, gtB, gtC] at z0 z1 z2
 go_wp2_with fail
 clear z0 z1 z2
 refine HLAW.out.mono ?_; intro r w4 hr
 unfold TryN at hr
 rw [HSM.out.may, HV.out.2.2.2.1, if_neg Xt4] at hr
 obtain ⟨rfl, hb9⟩ := hr
 have HB34 := hid (HB33.out.trans (hb9.mono HB33.out.size))
 clear hb9 HLAW
 go_upto_region 3 with (fail)
 have HB4 := hid (HB3.out.trans (HB34.out.mono HB3.out.size))
 have HLAW := hid (xw_ (HM.out.below HB4.out) (fun k hk => Nat.lt_of_lt_of_le (HV.out.1 k hk) HB4.out.size) y (HTY.out.below (HB23.out.trans (HB34.out.mono HB23.out.size))) Xt46 HY.out.rn Xt19)
 have z0 := (HX3.out.below HB34.out).cell 0
 have z1 := (HX3.out.below HB34.out).cell 1
 have z2 := (HX3.out.below HB34.out).cell 2
 simp only [gtA, gtB, gtC] at z0 z1 z2
 go_wp2_with fail
 clear z0 z1 z2
 refine HLAW.out.mono ?_; intro r w5 hr
 unfold Qc_ at hr
 rw [HSM.out.may, HV.out.2.2.2.1, if_neg Xt4] at hr
 obtain ⟨rfl, hb9⟩ := hr
 have HB35 := hid (HB34.out.trans (hb9.mono HB34.out.size))
 clear hb9 HLAW
 go_upto_region 4 with (fail)
 have HB5 := hid (HB3.out.trans (HB35.out.mono HB3.out.size))
 have HB13 := hid (HB2.out.trans (HB23.out.mono HB2.out.size))
 have HLAW := hid (qK_ (HF.out.below HB5.out) (fun k hk => Nat.lt_of_lt_of_le (HV.out.1 k hk) HB5.out.size) x (HX.out.step (Off.of HB5.out) (fun k hk => .inl hk)) Xt55 Xt25 Xt38)
 have z0 := ((HXB.out.below HB13.out).below HB35.out).cell 0
 have z1 := ((HXB.out.below HB13.out).below HB35.out).cell 1
 have z2 := ((HXB.out.below HB13.out).below HB35.out).cell 2
 simp only [gtA, gtB, gtC] at z0 z1 z2
 go_wp2_with fail
 clear z0 z1 z2
 refine HLAW.out.mono ?_; intro r w6 hr
 unfold RWrR at hr
 rw [HV.out.2.1.may, HV.out.2.2.2.1, if_neg Xt4] at hr
 obtain ⟨rfl, hb9⟩ := hr
 have HB36 := hid (HB35.out.trans (hb9.mono HB35.out.size))
 clear hb9 HLAW
 go_upto_region 5 with (fail)
 have HB6 := hid (HB3.out.trans (HB36.out.mono HB3.out.size))
 have HLAW := hid (do_lawN (HM.out.below HB6.out) (fun k hk => Nat.lt_of_lt_of_le (HV.out.1 k hk) HB6.out.size) y (HTY.out.below (HB23.out.trans (HB36.out.mono HB23.out.size))) Xt46 HY.out.rn Xt19)
 have z0 := (HX3.out.below HB36.out).cell 0
 have z1 := (HX3.out.below HB36.out).cell 1
 have z2 := (HX3.out.below HB36.out).cell 2
 simp only [gtA, gtB, gtC] at z0 z1 z2
 go_wp2_with fail
 clear z0 z1 z2
 refine HLAW.out.mono ?_; intro r w7 hr
 unfold DoN at hr
 rw [HSM.out.may, HV.out.2.2.2.1, if_neg Xt4] at hr
 obtain ⟨rfl, hb9⟩ := hr
 have HB37 := hid (HB36.out.trans (hb9.mono HB36.out.size))
 clear hb9 HLAW
 go_upto_region 6 with (fail)
 have HB7 := hid (HB3.out.trans (HB37.out.mono HB3.out.size))
 have HLAW := hid (rdo_law (HF.out.below HB7.out) (fun k hk => Nat.lt_of_lt_of_le (HV.out.1 k hk) HB7.out.size) x (HX.out.step (Off.of HB7.out) (fun k hk => .inl hk)) Xt55 Xt25 Xt38)
 have z0 := ((HXB.out.below HB13.out).below HB37.out).cell 0
 have z1 := ((HXB.out.below HB13.out).below HB37.out).cell 1
 have z2 := ((HXB.out.below HB13.out).below HB37.out).cell 2
 simp only [gtA, gtB, gtC] at z0 z1 z2
 go_wp2_with fail
 clear z0 z1 z2
 refine HLAW.out.mono ?_; intro r w8 hr
 unfold RDoR at hr
 rw [HV.out.2.1.may, HV.out.2.2.2.1, if_neg Xt4] at hr
 obtain ⟨rfl, hb9⟩ := hr
 have HB38 := hid (HB37.out.trans (hb9.mono HB37.out.size))
 clear hb9 HLAW
 go_upto_region 7 with (fail)
 have HB8 := hid (HB3.out.trans (HB38.out.mono HB3.out.size))
 have HSA := hid (fun W => zU_ none none [] [] 0 0 0 0 rfl rfl Xt0 Xt0 (fun _ h => by cases h) (fun _ h => by cases h) W Xt67 Xt67)
 have HSW := hid (fun W => xx_ none none [] [] 0 0 0 rfl Xt0 rfl (fun _ h => by cases h) (fun _ h => by cases h) W Xt67 Xt67)
 go_wp2_with fail
 refine (HSA.out _).mono ?_; rintro r w9 ⟨rfl, hb9⟩
 have HB89 := hid hb9
 clear hb9
 go_wp2_with (refine (zI_ _ _).mono ?_; rintro r wn ⟨rfl, rfl⟩)
 refine (HSA.out _).mono ?_; rintro r w10 ⟨rfl, hb10⟩
 have HB810 := hid (HB89.out.trans (hb10.mono HB89.out.size))
 clear hb10
 go_wp2_with (refine (zI_ _ _).mono ?_; rintro r wn ⟨rfl, rfl⟩)
 refine (HSW.out _).mono ?_; rintro r w11 ⟨rfl, hb11⟩
 have HB811 := hid (HB810.out.trans (hb11.mono HB810.out.size))
 clear hb11
 have HB311 := hid (HB38.out.trans (HB811.out.mono HB38.out.size))
 have HB211 := hid (HB23.out.trans (HB311.out.mono HB23.out.size))
 have HX11 := hid (HX3.out.below HB311.out)
 have HOW := hid (ze_ HWY.out HB211.out)
 have hs01 : w.heap.size < w1.heap.size := HXB.out.lt
 have hs28 : w2.heap.size <= w8.heap.size := Nat.le_trans HB23.out.size HB38.out.size
 have HOP11 := hid (show ∀ o ∈ y.ops, OpO w1.heap.size w11 o from fun o ho => (HOP.out o ho).off (S := fun _ => False) (Off.of HB211.out) (fun g h _ => h.elim))
 have hT1 : ∀ {a : Option Addr} {n : Nat}, InB (fun b => w1.heap.size <= b /\ b < w2.heap.size) a n -> InB (fun b => w.heap.size <= b /\ b < w8.heap.size) a n := fun h b off e hn => by
  obtain ⟨h1, h2⟩ := h b off e hn
  exact ⟨by omega, by omega⟩
 have hrn : ∀ W, ResW W none [] := fun W => ⟨Xt67, (fun b off e _ => by cases e), Xt39⟩
 have HSP := hid (xO_ y none 0 (fun b => w.heap.size <= b /\ b < w8.heap.size) [] w11 ⟨ops_own HOW.out HTY.out.ol (fun o h => (HOP11.out o h).at'), HTY.out.ol⟩ (WrB.of HOW.out) HY.out.1
  (fun o ho => ⟨(HY.out.2 o ho).1, (HY.out.2 o ho).2.2.1, (HY.out.2 o ho).2.2.2, (yh_ (HOP11.out o ho)).1, hT1 (yh_ (HOP.out o ho)).2.1, (yh_ (HOP11.out o ho)).2.2.1, fun p hp => ⟨((yh_ (HOP11.out o ho)).2.2.2 p hp).1, hT1 ((yh_ (HOP.out o ho)).2.2.2 p hp).2⟩⟩)
  (hrn _) (Nat.zero_le _) (fun z hz => by cases hz))
 have HSP2 := hid (fun W => xO_ ⟨none, 0, 0, [], false, false⟩ none 0 (fun b => w.heap.size <= b /\ b < w8.heap.size) [] W ⟨(fun k o h => by cases h), rfl⟩ (fun b off e hn => absurd hn Xt4) Xt4 (fun o ho => by cases ho) (hrn _) (Nat.zero_le _) (fun z hz => by cases hz))
 have z0 := HX11.out.cell 0
 have z1 := HX11.out.cell 1
 have z2 := HX11.out.cell 2
 simp only [gtA, gtB, gtC] at z0 z1 z2
 clear hs01 hs28 hT1 hrn
 go_wp2_with (refine (zI_ _ _).mono ?_; rintro r wn ⟨rfl, rfl⟩)
 clear z0 z1 z2
 refine HSP.out.mono ?_; rintro r w12 ⟨rfl, hsh⟩
 have HSH := hid hsh
 clear hsh
 go_wp2_with fail
 refine (HSP2.out _).mono ?_; rintro r w13 ⟨rfl, hsh⟩
 have HSH2 := hid hsh
 clear hsh HSP2 HSP
 go_wp2_with fail
 go_ret
 have hlo := HV.out.1
 have hT : ∀ k, (w.heap.size <= k /\ k < w8.heap.size) -> jF_ S w.heap.size w8.heap.size k := fun k hk => .inr hk
 have hs813 : w8.heap.size <= w13.heap.size := Nat.le_trans HB811.out.size (Nat.le_trans HSH.out.off.size HSH2.out.off.size)
 have hs08 : w.heap.size <= w8.heap.size := HB8.out.size
 refine ⟨rfl, jF_ S w.heap.size w8.heap.size, m, f, fun k hk => hk.imp id And.left, fun k hk => ?_, fun k hk => .inl hk, ?_, ?_, ?_, zG_.rfl' m, rfl, rfl, HV.out.2.2.1.symm, fun N h z hz => Nat.le_trans (h z hz) (Nat.le_add_right _ _), fun N h z hz => Nat.le_trans (h z hz) (Nat.le_add_right _ _)⟩
 ·rcases hk with hk | hk
  ·have := hlo k hk; omega
  ·omega
 ·have o : Off (fun k => DoW m f k ∨ w.heap.size <= k) w w13 := ((((Off.of HB8.out).trans (Off.of HB811.out)).trans (HSH.out.off.mono fun k h => .inr h.1)).trans (HSH2.out.off.mono fun k h => .inr h.1))
  exact Xb113
 ·exact (((HM.out.widen HB8.out).below HB811.out).spoilt HSH.out hT (fun z hz h => by have := hlo _ (HM.out.hS z hz); omega)).spoilt HSH2.out hT (fun z hz h => by have := hlo _ (HM.out.hS z hz); omega)
 ·exact (((HF.out.widen HB8.out).below HB811.out).spoilt2 HSH.out hT Xt4 Xt4).spoilt2 HSH2.out hT Xt4 Xt4
theorem overT_key {T : List (List Pr)} {N : Nat} (hT : ∀ t, ∀ p ∈ T.getD t [], p.1.length <= N) (ws : Ws) (hw : ∀ w ∈ ws, (wk w).2.length <= N) : ∀ t, ∀ p ∈ (yk_ T ws).getD t [], p.1.length <= N := by
 induction ws using zS_ with
 | nil => exact hT
 | append_singleton l w ih =>
  have ih := ih (fun z hz => hw z (List.mem_append_left _ hz))
  intro t p hp
  rw [xm_, List.getD_eq_getElem?_getD, List.getElem?_modify] at hp
  have hi := ih t
  rw [List.getD_eq_getElem?_getD] at hi
  cases hx : (yk_ T l)[t]? with
  | none => rw [hx] at hp; simp at hp
  | some z =>
   rw [hx] at hp hi
   by_cases e : w.1 = t
   ·simp only [e, if_true, Option.map_some, Option.getD_some] at hp
    rcases xp_.1 hp with h | ⟨h, _⟩
    ·exact hi p h.1
    ·rw [h]; exact hw w (List.mem_append_right _ List.mem_cons_self)
   ·simp only [e, if_false, Option.map_some, Option.getD_some] at hp
    exact hi p hp
theorem callP_wkey {j : Job} {T : List (List Pr)} {ws : Ws} {o : zj_} {N : Nat} (hw : ∀ w ∈ ws, (wk w).2.length <= N) (hK : o.K.length <= N) : ∀ w ∈ (z9_ j T ws o).2, (wk w).2.length <= N := by
 have hs : ∀ (t : Nat) (R : List (List Int)), ∀ w ∈ xP_ ws t o.K R, (wk w).2.length <= N := fun t R w h => by
  rcases mem_setW.1 ⟨w, h, rfl⟩ with ⟨z, hz, e⟩ | e
  ·rw [← e]; exact hw z hz
  ·rw [e]; exact hK
 unfold z9_
 split
 ·exact hw
 ·split
  ·exact hs _ _
  ·split
   ·split
    ·exact hw
    ·exact hs _ _
   ·split
    ·split
     ·exact hs _ _
     ·exact hw
    ·split
     ·exact hw
     ·exact hw
theorem callP_key {j : Job} {T : List (List Pr)} {ws : Ws} {o : zj_} {N : Nat} (hT : ∀ t, ∀ p ∈ (yk_ T ws).getD t [], p.1.length <= N) (hK : o.K.length <= N) : ∀ p ∈ (z9_ j T ws o).1.2, p.1.length <= N := by
 unfold z9_
 split
 ·split
  ·intro p hp; rw [List.mem_singleton] at hp; subst hp; exact hK
  ·intro p hp; cases hp
 ·split
  ·intro p hp; cases hp
  ·split
   ·split <;> (intro p hp; cases hp)
   ·split
    ·split <;> (intro p hp; cases hp)
    ·split
     ·intro p hp
      rcases xh_ _ _ _ _ _ _ _ p hp with h | h
      ·exact hT _ p h
      ·cases h
     ·intro p hp
      obtain ⟨e, he, h⟩ := List.mem_map.1 hp
      rcases xh_ _ _ _ _ _ _ _ e he with h1 | h1
      ·rw [← h]; exact hT _ _ (qU_ h1).1
      ·cases h1
theorem runP_key {j : Job} {T : List (List Pr)} {N : Nat} (hT : ∀ t, ∀ p ∈ T.getD t [], p.1.length <= N) (ops : List zj_) (hK : ∀ o ∈ ops, o.K.length <= N) : (∀ r ∈ (z1_ j T ops).1, ∀ p ∈ r.2, p.1.length <= N) /\ ∀ w ∈ (z1_ j T ops).2, (wk w).2.length <= N := by
 induction ops using zS_ with
 | nil => exact ⟨(fun r hr => by cases hr), (fun w hw => by cases hw)⟩
 | append_singleton l o ih =>
  obtain ⟨h1, h2⟩ := ih (fun z hz => hK z (List.mem_append_left _ hz))
  have ho := hK o (List.mem_append_right _ List.mem_cons_self)
  have e : z1_ j T (l ++ [o]) = y1_ j T (z1_ j T l) o := by unfold z1_; rw [List.foldl_append]; rfl
  rw [e]
  refine ⟨fun r hr => ?_, callP_wkey h2 ho⟩
  rcases List.mem_append.1 hr with hr | hr
  ·exact h1 r hr
  ·rw [List.mem_singleton] at hr; subst hr
   exact callP_key (overT_key hT _ h2) ho
theorem do13_law {S : Nat -> Prop} {m : Md} {f : Rf} {w : World} (hm : MdR S w m) (hf : RfR S w f) (hS : ∀ k, S k -> k < w.heap.size) (hj : JEq f.j m.j) (hP : f.P = m.P) (x : z0_) (hx : zs_ S w fun W => zR_ W x) (hon : x.on <= 9000) (hb : ∀ o ∈ x.ops, o.kn <= 9000 /\ o.tn <= 9000 /\ o.rn <= 9000 /\ ∀ p ∈ o.R, p.bs.length <= 9000) (hl : ∀ z ∈ m.tabs, z.2.length <= 200000) (hfl : ∀ z ∈ f.Ts, z.P.length <= 200000) :
  Calls prog 13 #[.pointer (some ⟨m.p, 0, none⟩), .pointer (some ⟨f.p, 0, none⟩), .agg #[.slice x.oa x.on x.oc, .bool x.sn, .bool x.ab]] w (DoB S w m f) := by
 cases hmt : yM_ m.j x with
 | false => exact do13_no hm hf hS hj hP x hx hmt hon hb hl hfl
 | true =>
  refine do13_yes hm hf hS hj hP x hx hmt hon hb hl hfl ?_
  refine (runP_key (j := m.j) (T := m.P) (N := 1000000) (fun t p hp => ?_) x.ops (fun o ho => ?_)).1
  ·rw [List.getD_eq_getElem?_getD] at hp
   unfold Md.P at hp
   rw [List.getElem?_map] at hp
   cases hz : m.tabs[t]? with
   | none => rw [hz] at hp; simp at hp
   | some z =>
    rw [hz] at hp
    have := ((hm.lim z (List.mem_of_getElem? hz)).2 p hp).1.2.2
    omega
  ·obtain ⟨k, hk⟩ := List.mem_iff_getElem?.1 ho
   obtain ⟨_, _, _, _, hca⟩ := hx.now.os k o hk
   have h1 := hca.kl
   have h2 := (hb o ho).1
   omega
section
open Go.Maps Go.Shelf
def SqAt (okp : PrV -> Prop) (w : World) (Bs : Nat) (T : List Pr) : Prop := ∀ W0, Below w.heap.size w W0 -> SeqX Fence.wide 5 prog 106 #[.pointer (some ⟨Bs, 0, none⟩)] encP (KpO (W0.heap.size + 2) (fun _ => none)) (PxP okp (W0.heap.size + 2) (fun _ => none) T) T.length W0
def tabT (m : Md) (t : Int) : List Pr := if 0 <= t /\ t < m.tabs.length then m.P.getD t.toNat [] else []
def idxT (m : Md) (t x : Int) : List Pr := if 0 <= t /\ t < m.tabs.length then (if 0 <= x /\ x < m.j.T.getD t.toNat 0 then idxP m.j t x (m.P.getD t.toNat []) else []) else []
theorem okI_pr {p : PrV} (h : okI p) : Qd_ p := ⟨h.1, xB_ h.2.2, by have := h.2.2.2.1; rw [List.length_map] at this; omega⟩
theorem table_sq {S : Nat -> Prop} {m : Md} {w : World} (h : MdR S w m) (hS : ∀ k, S k -> k < w.heap.size) (t : Int) (hf : ∀ z ∈ m.tabs, z.2.length <= 900000) :
  Calls prog 47 #[.pointer (some ⟨m.p, 0, none⟩), .int .i64 t] w fun r w' => ∃ Bs, r = .returned (.func (.func 106) #[] #[.pointer (some ⟨Bs, 0, none⟩)]) /\ Below w.heap.size w w' /\ SqAt okK w' Bs (tabT m t) :=
 (ju_ w _ _ rfl t).mono fun r w' ⟨e, b1, b2, b3, hb⟩ => ⟨w.heap.size + 2, e, hb, fun W0 hb0 => by
  refine over80_x okK 5 Xt0 (w.heap.size + 2) w.heap.size (w.heap.size + 1) (tabT m t) W0 (fun _ => none) (zf_ b3 hb0) (fun W hW => ?_) (fun _ _ => rfl) (fun _ _ _ _ => rfl)
  have hw1 := za_ hb0 hW
  have hw2 := za_ hb hw1
  unfold tabT
  by_cases ht : 0 <= t /\ t < m.tabs.length
  ·rw [if_pos ht]
   obtain ⟨k, rfl⟩ := Int.eq_ofNat_of_zero_le ht.1
   have key := jh_ (h.below hw2) (fun k hk => Nat.lt_of_lt_of_le (hS k hk) hw2.size) w.heap.size (w.heap.size + 1) k (zf_ b1 hw1) (zf_ b2 hw1) Xt0 hf
   exact key
  ·rw [if_neg ht]
   exact table1_no (h.below hw2) w.heap.size (w.heap.size + 1) t (zf_ b1 hw1) (zf_ b2 hw1) ht⟩
theorem index_sq {S : Nat -> Prop} {m : Md} {w : World} (h : MdR S w m) (hS : ∀ k, S k -> k < w.heap.size) (t x : Int) (hf : ∀ z ∈ m.tabs, z.2.length <= 300000) :
  Calls prog 49 #[.pointer (some ⟨m.p, 0, none⟩), .int .i64 t, .int .i64 x] w fun r w' => ∃ Bs, r = .returned (.func (.func 106) #[] #[.pointer (some ⟨Bs, 0, none⟩)]) /\ Below w.heap.size w w' /\ SqAt okI w' Bs (idxT m t x) :=
 (mindex_law w _ _ rfl t x).mono fun r w' ⟨e, b1, b2, b3, b4, hb⟩ => ⟨w.heap.size + 3, e, hb, fun W0 hb0 => by
  refine over84_x okI 5 Xt0 (w.heap.size + 3) w.heap.size (w.heap.size + 1) (w.heap.size + 2) (idxT m t x) W0 (fun _ => none) (zf_ b4 hb0) (fun W hW => ?_) (fun _ _ => rfl) (fun _ _ _ _ => rfl)
  have hw1 := za_ hb0 hW
  have hw2 := za_ hb hw1
  unfold idxT
  by_cases ht : 0 <= t /\ t < m.tabs.length
  ·rw [if_pos ht]
   obtain ⟨k, rfl⟩ := Int.eq_ofNat_of_zero_le ht.1
   have hkl : k < m.j.T.length := by rw [h.st.now.job.len, ← h.len]; omega
   have htx : m.j.T[k]? = some (m.j.T.getD k 0) := by rw [List.getD_eq_getElem?_getD, List.getElem?_eq_getElem hkl]; rfl
   rw [Int.toNat_natCast]
   by_cases hx : 0 <= x /\ x < m.j.T.getD k 0
   ·rw [if_pos hx]
    obtain ⟨i, rfl⟩ := Int.eq_ofNat_of_zero_le hx.1
    exact index1_law (h.below hw2) (fun k hk => Nat.lt_of_lt_of_le (hS k hk) hw2.size) w.heap.size (w.heap.size + 1) (w.heap.size + 2) k i (zf_ b1 hw1) (zf_ b2 hw1) (zf_ b3 hw1) Xt0 _ htx hx.2 hf
   ·rw [if_neg hx]
    exact index1_no (h.below hw2) w.heap.size (w.heap.size + 1) (w.heap.size + 2) k x (zf_ b1 hw1) (zf_ b2 hw1) (zf_ b3 hw1) Xt0 _ htx hx
  ·rw [if_neg ht]
   exact index1_not (h.below hw2) w.heap.size (w.heap.size + 1) (w.heap.size + 2) t x (zf_ b1 hw1) (zf_ b2 hw1) (zf_ b3 hw1) ht⟩
theorem jO_ (okp : PrV -> Prop) (hokp : ∀ p, okp p -> Qd_ p) (w : World) (Bs : Nat) (most : Int) (h : SqAt okp w Bs []) :
  Calls prog 46 #[.func (.func 106) #[] #[.pointer (some ⟨Bs, 0, none⟩)], .slice none 0 0, .int .i64 most] w fun r w' => r = .returned (.bool true) /\ Below w.heap.size w w' :=
 qQ_ okp hokp w Bs [] none [] 0 0 rfl Xt0 Xt0 rfl (yj_ w none) most h
theorem rindex_any {S : Nat -> Prop} {f : Rf} {m : Md} {w : World} (h : RfR S w f) (hS : ∀ k, S k -> k < w.heap.size) (hj : JEq f.j m.j) (hP : f.P = m.P) (hlen : m.tabs.length = f.Ts.length) (t : Nat) (ht : t < f.Ts.length) (x : Int) (hl : ∀ z ∈ f.Ts, z.P.length <= 900000) :
  Calls prog 48 #[.pointer (some ⟨f.p, 0, none⟩), .int .i64 (t : Int), .int .i64 x] w fun r w' => ∃ a c E, r = .returned (.slice a E.length c) /\ Below w.heap.size w w' /\ E.map prC = idxT m t x /\ E.length <= 1000000 /\ E.length <= c /\ ∀ W', Below w'.heap.size w' W' -> zn_ W' a E := by
 have hT : f.j.T = m.j.T := hj.T
 by_cases hx : 0 <= x /\ x < f.j.T.getD t 0
 ·obtain ⟨i, rfl⟩ := Int.eq_ofNat_of_zero_le hx.1
  refine (jl_ h hS t ht i hx.2 hl).mono ?_
  rintro r w' ⟨a, c, E, rfl, hb, he, hn, hc, hst⟩
  refine ⟨a, c, E, rfl, hb, ?_, hn, hc, fun W' b => ?_⟩
  ·rw [he]
   unfold idxT
   rw [if_pos Xt0, Int.toNat_natCast, ← hT, if_pos hx, hj.idx, hP]
  ·refine hst (fun _ => False) (fun _ h => h.elim) (fun W o y hy => ?_) W' (Off.of b)
   obtain ⟨k, hk⟩ := List.mem_iff_getElem?.1 hy
   obtain ⟨_, _, _, _, s⟩ := h.tbs k y hk
   exact s W (o.mono fun _ h => h.elim)
 ·refine (rindex_no h t ht x hx).mono ?_
  rintro r w' ⟨rfl, hb⟩
  refine ⟨none, 0, [], rfl, hb, ?_, Nat.zero_le _, Nat.zero_le _, fun W' _ => yj_ W' none⟩
  unfold idxT
  rw [if_pos Xt0, Int.toNat_natCast, ← hT, if_neg hx]
  rfl
end
end Go.Proofs.YthmofoldmdafoaaGreat
