/- Part of the proof that ModelDoes holds for every input: tables, under any transactions, answer, write and stand as the document says. Part 12. -/
import Derived.Test.YthmofoldmdafoaaGreatSdk
set_option linter.unusedVariables false
set_option linter.unusedSimpArgs false
set_option maxRecDepth 100000
set_option maxHeartbeats 4000000
namespace Go.Proofs.YthmofoldmdafoaaGreat
open Go.ChangeShapes Go.WideShapes Go.ChangeAt Go.RowKit
open Go.Lib (hid)
open Go.Proofs.Tryz
section
open Go.Shelf
theorem wr_eq (k : Int) : kf k 5 = ((k == 2) || (k == 3) || (k == 4)) := by
 exact Xb20
theorem mayT_no {j : Job} {x : z0_} {k : Nat} {o : zj_} (h : x.ops[k]? = some o) (hb : opB j x.sn o = false) : yM_ j x = false := by
 unfold yM_
 rw [Bool.and_eq_false_iff]
 right
 rw [Bool.eq_false_iff]
 intro e
 have := List.all_eq_true.1 e o (List.mem_of_getElem? h)
 rw [hb] at this; cases this
theorem mayT_yes {j : Job} {x : z0_} (h1 : okB j = true) (h2 : x.on <= 16) (h3 : (x.sn && x.ab) = false) (hall : ∀ q, q < x.ops.length -> ∀ o, x.ops[q]? = some o -> opB j x.sn o = true) : yM_ j x = true := by
 unfold yM_
 rw [h1, h3, decide_eq_true h2]
 simp only [Bool.true_and, Bool.not_false]
 rw [List.all_eq_true]
 intro o ho
 obtain ⟨q, hq⟩ := List.mem_iff_getElem?.1 ho
 exact hall q (List.getElem?_eq_some_iff.1 hq).1 o hq
set_option maxHeartbeats 8000000 in
theorem qP_ (j : Job) (x : z0_) (hon : x.on <= 1000000) (w : World) (hj : yb_ w j) (hx : zR_ w x) :
  Calls prog 76 #[.agg #[.int .i64 j.w, .int .i64 j.l, .int .i64 j.d, .int .i64 j.c, .int .i64 j.k, .int .i64 j.e, .slice j.a j.n j.cap], .agg #[.slice x.oa x.on x.oc, .bool x.sn, .bool x.ab]] w fun r w' => r = .returned (.bool (yM_ j x)) /\ Below w.heap.size w w' := by
 obtain ⟨hb0, hbx⟩ := yl_ w #[.int .i64 j.w, .int .i64 j.l, .int .i64 j.d, .int .i64 j.c, .int .i64 j.k, .int .i64 j.e, .slice j.a j.n j.cap] #[.slice x.oa x.on x.oc, .bool x.sn, .bool x.ab] 24 38
 have HCK := hid (show qb_ j = if okB j then 0 else 2 from rfl)
 have hlei : (j.n : Int) <= 1000000 := by have := hj.le; omega
 have hoi : (x.on : Int) <= 1000000 := by omega
 have HNO := hid (fun k o => @mayT_no j x k o)
 have HYES := hid (@mayT_yes j x)
 have HDF := hid (show yM_ j x = (okB j && decide (x.on <= 16) && !(x.sn && x.ab) && x.ops.all (opB j x.sn)) from rfl)
 obtain ⟨ans, hans⟩ := gtx (yM_ j x)
 rw [hans] at HNO HYES HDF ⊢
 obtain ⟨sn, hsn⟩ := gtx (x.sn)
 obtain ⟨ab, hab⟩ := gtx (x.ab)
 rw [hsn] at HNO HYES HDF
 rw [hab] at HYES HDF
 rw [hsn, hab] at hb0 hbx ⊢
 clear hans hsn hab
 go_enter func76, ntmps76
 go_upto_region 1 with (fail)
 generalize ((w.alloc (.cells #[.int .i64 j.w, .int .i64 j.l, .int .i64 j.d, .int .i64 j.c, .int .i64 j.k, .int .i64 j.e, .slice j.a j.n j.cap] 24)).alloc (.cells #[.slice x.oa x.on x.oc, .bool sn, .bool ab] 38)) = W0 at *
 have FG := hid (fun W (b : Below W0.heap.size W0 W) => (by
  obtain ⟨x, y⟩ := hbx W b
  exact ⟨x.cell 0, x.cell 1, x.cell 2, x.cell 3, x.cell 4, x.cell 5, x.cell 6⟩ : W.cell? ⟨w.heap.size, 0, none⟩ = some (.int .i64 j.w) /\ W.cell? ⟨w.heap.size, 1, none⟩ = some (.int .i64 j.l) /\ W.cell? ⟨w.heap.size, 2, none⟩ = some (.int .i64 j.d) /\ W.cell? ⟨w.heap.size, 3, none⟩ = some (.int .i64 j.c) /\ W.cell? ⟨w.heap.size, 4, none⟩ = some (.int .i64 j.k) /\ W.cell? ⟨w.heap.size, 5, none⟩ = some (.int .i64 j.e) /\ W.cell? ⟨w.heap.size, 6, none⟩ = some (.slice j.a j.n j.cap)))
 have FX := hid (fun W (b : Below W0.heap.size W0 W) => (by
  obtain ⟨y, z⟩ := hbx W b
  exact ⟨z.cell 0, z.cell 1, z.cell 2⟩ : W.cell? ⟨w.heap.size + 1, 0, none⟩ = some (.slice x.oa x.on x.oc) /\ W.cell? ⟨w.heap.size + 1, 1, none⟩ = some (.bool sn) /\ W.cell? ⟨w.heap.size + 1, 2, none⟩ = some (.bool ab)))
 have FJ := hid (fun W (b : Below W0.heap.size W0 W) => (hj.below hb0).below b)
 have FO := hid (fun W (b : Below W0.heap.size W0 W) => (hx.below hb0).below b)
 have HB0 := hid hb0
 have HOL := hid hx.ol
 clear hb0 hbx hj hx
 obtain ⟨x0, x1, x2⟩ := FX.out _ (Below.refl _ _)
 obtain ⟨g0, g1, g2, g3, g4, g5, g6⟩ := FG.out _ (Below.refl _ _)
 by_cases h16 : 16 < x.on
 ·have h16i : (16 : Int) < (x.on : Int) := by omega
  have hd : decide (x.on <= 16) = false := decide_eq_false Xt0
  rw [hd] at HDF
  clear hd
  go_wp2_with fail
  go_ret
  exact ⟨zc_ (by rw [HDF.out]; simp), HB0.out⟩
 have h16i : ¬ (16 : Int) < (x.on : Int) := by omega
 have HON := hid (show x.on <= 16 by omega)
 cases hsa : (sn && ab)
 case true =>
  have h2 : sn = true /\ ab = true := by simpa using hsa
  obtain ⟨rfl, rfl⟩ := h2
  clear hsa
  go_wp2_with fail
  go_ret
  exact ⟨zc_ (by rw [HDF.out]; simp), HB0.out⟩
 rw [hsa] at HDF HYES
 obtain ⟨ok, hok⟩ := gtx (okB j)
 rw [hok] at HDF HYES HCK
 have HOK := hid hok
 have HSA := hid hsa
 clear hok hsa
 have HQC := hid (by have h := xl_ j W0 (FJ.out _ (Below.refl _ _)); rwa [HCK.out] at h : Calls prog 38 #[.agg #[.int .i64 j.w, .int .i64 j.l, .int .i64 j.d, .int .i64 j.c, .int .i64 j.k, .int .i64 j.e, .slice j.a j.n j.cap]] W0 fun r w' => r = .returned (.int .i64 (if ok = true then 0 else 2)) /\ Below W0.heap.size W0 w')
 cases ok
 ·simp only [Bool.false_eq_true, ↓reduceIte] at HQC
  cases sn
  ·exact Xb74
  ·cases ab
   ·exact Xb74
   ·exact absurd HSA.out Xt4
 simp only [↓reduceIte] at HQC
 have hcs : sn = false ∨ (sn = true /\ ab = false) := by
  have := HSA.out
  cases sn <;> cases ab <;> simp_all
 go_cut [23] (fun v wx => v = .bool false /\ Hid (Below W0.heap.size W0 wx))
 case first =>
  rcases hcs with rfl | ⟨rfl, rfl⟩
  all_goals
   go_wp2_with fail
   refine HQC.out.mono ?_; rintro r w3 ⟨rfl, B3⟩
   go_wp2_with fail
   go_meet
   exact ⟨rfl, hid B3⟩
 case rest =>
  obtain ⟨rfl, HBW⟩ := hcut
  clear HDF HQC hcs x0 x1 x2 g0 g1 g2 g3 g4 g5 g6
  go_wp2_with fail
  obtain ⟨W3, hW3⟩ := gty (wc)
  rw [← hW3] at HBW ⊢
  clear hW3
  go_loopw [5, 6] (fun i _ wr => ∃ k : Nat, k <= x.on /\ i = .int .i64 (k : Int) /\ Hid (∀ q, q < k -> ∀ o, x.ops[q]? = some o -> opB j sn o = true) /\ Hid (Below W3.heap.size W3 wr)) (fun i _ _ => x.on - (intOf i).toNat)
  case atStart => exact ⟨0, by omega, rfl, hid (fun q hq => absurd hq Xt0), hid (Below.refl _ _)⟩
  case round =>
   obtain ⟨k, hk, rfl, HALL, BR⟩ := hrel
   have BW := hid (za_ HBW.out BR.out)
   obtain ⟨x0, x1, x2⟩ := FX.out _ BW.out
   by_cases hlt : k < x.on
   ·have hkl : (k : Int) < (x.on : Int) := by omega
    have hk16 : (k : Int) <= 16 := by omega
    obtain ⟨o, ho⟩ : ∃ o, x.ops[k]? = some o := ⟨_, List.getElem?_eq_getElem (by rw [HOL.out]; exact hlt)⟩
    have HN := hid (fun (h : opB j sn o = false) => HNO.out k o ho h)
    have HST := hid (fun (h : opB j sn o = true) => show ∀ q, q < k + 1 -> ∀ o, x.ops[q]? = some o -> opB j sn o = true from fun q hq p hp => by
     by_cases e : q = k
     ·subst e; rw [ho] at hp; cases hp; exact h
     ·exact HALL.out q Xt0 p hp)
    obtain ⟨b1, o1, ea, ⟨d0, d1, d2, d3, d4, d5, d6⟩, hc⟩ := (FO.out _ BW.out).os k o ho
    have HOB := hid (show opB j sn o = (pO j o && !(sn && kf o.k 5)) from rfl)
    have HWR := hid (wr_eq o.k)
    have hpq := pO_qO j o hc.rl
    obtain ⟨pb, hpb⟩ := gtx (pO j o)
    rw [hpb] at HOB
    have HM := hid (fun W (b : Below wr.heap.size wr W) => (by have h := jp_ j o W (FJ.out _ (za_ BW.out b)) (hc.below b); rwa [← hpq, hpb] at h : Calls prog 104 #[.agg #[.int .i64 j.w, .int .i64 j.l, .int .i64 j.d, .int .i64 j.c, .int .i64 j.k, .int .i64 j.e, .slice j.a j.n j.cap], .agg #[.int .i64 o.k, .int .i64 o.t, .int .i64 o.i, .slice o.ka o.kn o.kc, .slice o.ta o.tn o.tc, .int .i64 o.m, .slice o.ra o.rn o.rc]] W fun r w' => r = .returned (.bool pb) /\ Below W.heap.size W w'))
    have HLT := hid hlt
    rw [ea] at x0
    have hea := ea
    have HQ := hid (show ∀ W, Below wr.heap.size wr W -> (W.cell? ⟨w.heap.size, 0, none⟩ = some (.int .i64 j.w) /\ W.cell? ⟨w.heap.size, 1, none⟩ = some (.int .i64 j.l) /\ W.cell? ⟨w.heap.size, 2, none⟩ = some (.int .i64 j.d) /\ W.cell? ⟨w.heap.size, 3, none⟩ = some (.int .i64 j.c) /\ W.cell? ⟨w.heap.size, 4, none⟩ = some (.int .i64 j.k) /\ W.cell? ⟨w.heap.size, 5, none⟩ = some (.int .i64 j.e) /\ W.cell? ⟨w.heap.size, 6, none⟩ = some (.slice j.a j.n j.cap)) /\ (W.cell? ⟨w.heap.size + 1, 0, none⟩ = some (.slice (some ⟨b1, o1, none⟩) x.on x.oc) /\ W.cell? ⟨w.heap.size + 1, 1, none⟩ = some (.bool sn) /\ W.cell? ⟨w.heap.size + 1, 2, none⟩ = some (.bool ab)) /\ W.cell? ⟨b1, o1 + k * 7, none⟩ = some (.int .i64 o.k) /\ W.cell? ⟨b1, o1 + k * 7 + 1, none⟩ = some (.int .i64 o.t) /\ W.cell? ⟨b1, o1 + k * 7 + 2, none⟩ = some (.int .i64 o.i) /\ W.cell? ⟨b1, o1 + k * 7 + 3, none⟩ = some (.slice o.ka o.kn o.kc) /\ W.cell? ⟨b1, o1 + k * 7 + 4, none⟩ = some (.slice o.ta o.tn o.tc) /\ W.cell? ⟨b1, o1 + k * 7 + 5, none⟩ = some (.int .i64 o.m) /\ W.cell? ⟨b1, o1 + k * 7 + 6, none⟩ = some (.slice o.ra o.rn o.rc) from fun W b => (by
     have f : ∀ {p v}, wr.cell? p = some v -> W.cell? p = some v := fun h => tcb b h
     exact ⟨FG.out W (za_ BW.out b), ⟨f x0, f x1, f x2⟩, f d0, f d1, f d2, f d3, f d4, f d5, f d6⟩))
    clear hpq hpb ho hc hlt ea hea
    cases pb
    ·go_wp2_with fail
     refine wp_region_held_drew (S := (fun W => Below wr.heap.size wr W)) Xt3 ((Below.refl _ _).drew) fun hH => ?_
     refine tkr 0 rfl Xf0 ?_
     refine tkq 1 ?_
     refine tkr 2 rfl Xf0 ?_
     refine tkq2 3 4 ?_
     refine tkr 5 rfl Xf0 ?_
     refine tk1 6 rfl fun K hK => ?_
     go_simp
     refine (HM.out _ hH).mono ?_; rintro r W5 ⟨rfl, B5⟩
     go_wp2_with fail
     refine hK.out _ _ (za_ hH B5) fun hH => ?_
     clear B5
     refine stP ?_
     refine tkq2 7 8 ?_
     refine tkn 9 ?_
     refine tkn 10 ?_
     refine tkn 11 ?_
     refine tkn 12 ?_
     refine tkn 13 ?_
     refine tkn 14 ?_
     refine tkn 15 ?_
     refine tkn 16 ?_
     refine tkn 17 ?_
     refine tkn 18 ?_
     refine tkn 19 ?_
     refine tkn 20 ?_
     refine tkn 21 ?_
     refine tkn 22 ?_
     refine tkq 23 ?_
     refine adn ?_
     have H9 := hid (za_ BW.out hH)
     clear hH
     go_wp2_with fail
     try rw [Exit.noGoto_ret]
     go_ret
     exact ⟨zc_ (HN.out (by rw [HOB.out]; rfl)).symm, za_ HB0.out H9.out⟩
    ·cases sn
     ·go_wp2_with fail
      refine wp_region_held_drew (S := (fun W => Below wr.heap.size wr W)) Xt3 ((Below.refl _ _).drew) fun hH => ?_
      refine tkr 0 rfl Xf0 ?_
      refine tkq 1 ?_
      refine tkr 2 rfl Xf0 ?_
      refine tkq2 3 4 ?_
      refine tkr 5 rfl Xf0 ?_
      refine tk1 6 rfl fun K hK => ?_
      go_simp
      refine (HM.out _ hH).mono ?_; rintro r W5 ⟨rfl, B5⟩
      go_wp2_with fail
      refine hK.out _ _ (za_ hH B5) fun hH => ?_
      clear B5
      refine stP ?_
      refine tkq3 7 8 9 ?_
      refine tkr 10 rfl Xf0 ?_
      refine tkq 11 ?_
      refine tkn 12 ?_
      refine tkn 13 ?_
      refine tkn 14 ?_
      refine tkn 15 ?_
      refine tkn 16 ?_
      refine tkn 17 ?_
      refine tkn 18 ?_
      refine tkn 19 ?_
      refine tkn 20 ?_
      refine tkn 21 ?_
      refine tkq2 22 23 ?_
      refine adn ?_
      have H9 := hid (za_ BR.out hH)
      clear hH
      go_wp2_with fail
      go_roundw
      case rel => exact ⟨k + 1, by have := HLT.out; omega, by go_num, hid (HST.out (by rw [HOB.out]; rfl)), H9⟩
      case measure => simp [intOf]; have := HLT.out; omega
     ·obtain ⟨ok', hok'⟩ : ∃ z, o.k = z := ⟨_, rfl⟩
      rw [hok'] at HQ HM HWR HOB d0
      have HK' := HWR
      clear hok' HWR
      by_cases e2 : ok' = 2
      ·subst e2
       go_wp2_with fail
       refine wp_region_held_drew (S := (fun W => Below wr.heap.size wr W)) Xt3 ((Below.refl _ _).drew) fun hH => ?_
       refine tkr 0 rfl Xf0 ?_
       refine tkq 1 ?_
       refine tkr 2 rfl Xf0 ?_
       refine tkq2 3 4 ?_
       refine tkr 5 rfl Xf0 ?_
       refine tk1 6 rfl fun K hK => ?_
       go_simp
       refine (HM.out _ hH).mono ?_; rintro r W5 ⟨rfl, B5⟩
       go_wp2_with fail
       refine hK.out _ _ (za_ hH B5) fun hH => ?_
       clear B5
       refine stP ?_
       refine tkq3 7 8 9 ?_
       refine tkr 10 rfl Xf0 ?_
       refine tkq4 11 12 13 14 ?_
       refine tkn 15 ?_
       refine tkn 16 ?_
       refine tkq2 17 18 ?_
       refine tkn 19 ?_
       refine tkn 20 ?_
       refine tkq3 21 22 23 ?_
       exact Xb38
      by_cases e3 : ok' = 3
      ·subst e3
       go_wp2_with fail
       refine wp_region_held_drew (S := (fun W => Below wr.heap.size wr W)) Xt3 ((Below.refl _ _).drew) fun hH => ?_
       refine tkr 0 rfl Xf0 ?_
       refine tkq 1 ?_
       refine tkr 2 rfl Xf0 ?_
       refine tkq2 3 4 ?_
       refine tkr 5 rfl Xf0 ?_
       refine tk1 6 rfl fun K hK => ?_
       go_simp
       refine (HM.out _ hH).mono ?_; rintro r W5 ⟨rfl, B5⟩
       go_wp2_with fail
       refine hK.out _ _ (za_ hH B5) fun hH => ?_
       clear B5
       refine stP ?_
       refine tkq3 7 8 9 ?_
       refine tkr 10 rfl Xf0 ?_
       refine tkq4 11 12 13 14 ?_
       refine tkq4 15 16 17 18 ?_
       refine tkn 19 ?_
       refine tkn 20 ?_
       refine tkq3 21 22 23 ?_
       exact Xb38
      by_cases e4 : ok' = 4
      ·subst e4
       go_wp2_with fail
       refine wp_region_held_drew (S := (fun W => Below wr.heap.size wr W)) Xt3 ((Below.refl _ _).drew) fun hH => ?_
       refine tkr 0 rfl Xf0 ?_
       refine tkq 1 ?_
       refine tkr 2 rfl Xf0 ?_
       refine tkq2 3 4 ?_
       refine tkr 5 rfl Xf0 ?_
       refine tk1 6 rfl fun K hK => ?_
       go_simp
       refine (HM.out _ hH).mono ?_; rintro r W5 ⟨rfl, B5⟩
       go_wp2_with fail
       refine hK.out _ _ (za_ hH B5) fun hH => ?_
       clear B5
       refine stP ?_
       refine tkq3 7 8 9 ?_
       refine tkr 10 rfl Xf0 ?_
       refine tkq4 11 12 13 14 ?_
       refine tkq4 15 16 17 18 ?_
       refine tkq4 19 20 21 22 ?_
       refine tkq 23 ?_
       exact Xb38
      ·have f2 : (ok' == 2) = false := by simpa using e2
       have f3 : (ok' == 3) = false := by simpa using e3
       have f4 : (ok' == 4) = false := by simpa using e4
       go_wp2_with fail
       refine wp_region_held_drew (S := (fun W => Below wr.heap.size wr W)) Xt3 ((Below.refl _ _).drew) fun hH => ?_
       refine tkr 0 rfl Xf0 ?_
       refine tkq 1 ?_
       refine tkr 2 rfl Xf0 ?_
       refine tkq2 3 4 ?_
       refine tkr 5 rfl Xf0 ?_
       refine tk1 6 rfl fun K hK => ?_
       go_simp
       refine (HM.out _ hH).mono ?_; rintro r W5 ⟨rfl, B5⟩
       go_wp2_with fail
       refine hK.out _ _ (za_ hH B5) fun hH => ?_
       clear B5
       refine stP ?_
       refine tkq3 7 8 9 ?_
       refine tkr 10 rfl Xf0 ?_
       refine tkq4 11 12 13 14 ?_
       refine tkq4 15 16 17 18 ?_
       refine tkq4 19 20 21 22 ?_
       refine tkq 23 ?_
       refine adn ?_
       have H9 := hid (za_ BR.out hH)
       clear hH
       go_wp2_with fail
       go_roundw
       case rel => exact ⟨k + 1, by have := HLT.out; omega, by go_num, hid (HST.out (by rw [HOB.out, HK'.out, f2, f3, f4]; rfl)), H9⟩
       case measure => simp [intOf]; have := HLT.out; omega
   ·have hkl : ¬ (k : Int) < (x.on : Int) := by omega
    have HE := hid (HYES.out Xt34 HON.out Xt34 (fun q hq o ho => HALL.out q (by have := HOL.out; omega) o ho))
    go_wp2_with fail
    go_ret
    exact ⟨zc_ HE.out.symm, za_ HB0.out BW.out⟩
end
section
open Go.Maps
theorem TlR.wr {S : Nat -> Prop} {base : Nat} {w w' : World} {m : Md} {x : Tl} (h : TlR S base w m x) {B : Nat} (hS : S B) (hB : base <= B) (hn : ¬ Mut x B) (hr : x.rv.ownBlock ≠ some B) (o : Off (fun k => k = B) w w') : TlR S base w' m x := by
 have hT : ∀ k, (fun k => k = B) k -> S k /\ base <= k := fun k hk => by cases hk; exact ⟨hS, hB⟩
 have hS' : ∀ k, S k -> S k ∨ w.heap.size <= k := fun k hk => .inl hk
 exact h.next o hT x rfl rfl rfl rfl rfl (o.box h.box fun e => hn (.inl e.symm)) (fun y hy => (h.wmaps y hy).off o fun e => hn (.inr (.inl ⟨y, hy, e.symm⟩))) (zm_ h.own o fun g hg e => hn (.inr (.inr (by rw [hg, e])))) (zm_ h.rown o fun g hg e => hr (by rw [hg, e])) S (fun _ h => h) hS'
  (fun k hk => Nat.lt_of_lt_of_le (h.bd k hk) o.size) h.hw h.hr (h.keepw o hT hS') h.wok (h.keepr o hT hS') h.coh h.wl h.few h.rfew
def jF_ (S : Nat -> Prop) (a b : Nat) (k : Nat) : Prop := S k ∨ (a <= k /\ k < b)
theorem TlR.grow {S : Nat -> Prop} {base : Nat} {w w' : World} {m : Md} {x : Tl} (h : TlR S base w m x) (b : Below w.heap.size w w') : TlR (jF_ S w.heap.size w'.heap.size) base w' m x := by
 have o : Off (fun _ => False) w w' := Off.of b
 have hT : ∀ k, (fun _ : Nat => False) k -> S k /\ base <= k := fun k hk => hk.elim
 have hS' : ∀ k, jF_ S w.heap.size w'.heap.size k -> S k ∨ w.heap.size <= k := fun k hk => hk.imp id And.left
 exact h.next o hT x rfl rfl rfl rfl rfl (h.box.below b) (fun y hy => (h.wmaps y hy).below b) (ze_ h.own b) (ze_ h.rown b) _ (fun _ h => .inl h) hS' (fun k hk => hk.elim (fun hk => Nat.lt_of_lt_of_le (h.bd k hk) b.size) And.right) (fun g hg => .inl (h.hw g hg)) (fun g hg => .inl (h.hr g hg)) (h.keepw o hT hS') h.wok (h.keepr o hT hS') h.coh h.wl h.few h.rfew
theorem TSt.box {S S3 : Nat -> Prop} {base : Nat} {w w2 w3 w4 : World} {m : Md} {x x' : Tl} (h : TlR S base w m x) (hb : base <= w.heap.size) (b : Below w.heap.size w w2) (st : TSt (jF_ S w.heap.size w2.heap.size) S3 base w2 m x w3 x') {B : Nat} (h1 : w.heap.size <= B) (h2 : B < w2.heap.size) (o : Off (fun k => k = B) w3 w4) : TSt S S3 base w m x w4 x' := by
 have hsd : ∀ k, S3 k -> S k ∨ w.heap.size <= k := fun k hk => by
  rcases st.sd k hk with (hk | hk) | hk
  ·exact .inl hk
  ·exact .inr hk.1
  ·have := b.size; exact .inr Xt0
 have hmu : ∀ k, Mut x' k -> Mut x k ∨ w.heap.size <= k := fun k hk => (st.mu k hk).imp id fun hk => by have := b.size; omega
 refine ⟨?_, fun k hk => st.su k (.inl hk), hsd, ?_, hmu, st.px, st.bx, st.bm, st.rv, st.rs⟩
 ·refine st.tl.wr (st.su B (.inr ⟨h1, h2⟩)) Xt0 (fun hk => ?_) (fun hk => ?_) o
  ·rcases st.mu B hk with hk | hk
   ·have := h.bd B (h.mut B hk).1; omega
   ·omega
  ·rw [st.rv] at hk
   have := (zb_ h.rown hk).2.1
   omega
 ·have o2 : Off (Mut x) w w3 := (Off.of b).trans st.off
  refine ⟨o.os.trans o2.os, o.tape.trans o2.tape, o.output.trans o2.output, Nat.le_trans o2.size o.size, fun k hk hn => ?_⟩
  exact (o.block k (Nat.lt_of_lt_of_le hk o2.size) (fun e => by cases e; omega)).trans (o2.block k hk hn)
theorem TSt.same {S : Nat -> Prop} {base : Nat} {w w' : World} {m : Md} {x : Tl} (h : TlR S base w m x) (b : Below w.heap.size w w') : TSt S S base w m x w' x :=
 ⟨h.below b, fun _ h => h, fun _ h => .inl h, Off.of b, fun _ h => .inl h, rfl, rfl, rfl, rfl, rfl⟩
def y2_ (T : List (List Pr)) (ws : List (Nat × List Int × List (List Int))) (t : Nat) (K : List Int) : Option (List (List Int)) :=
 match ws.find? fun w => decide (w.1 = t /\ w.2.1 = K) with
 | some w => if w.2.2 = [] then none else some w.2.2
 | none => xd_ (T.getD t []) K
theorem getX_P (m : Md) (x : Tl) {t : Nat} (ht : t < m.tabs.length) (K : List Int) : (getX m x t K).map RV.P = y2_ m.P (x.ws.map WtV.P) t K := by
 unfold getX y2_
 rw [List.find?_map]
 have : ((fun w : Nat × List Int × List (List Int) => decide (w.1 = t /\ w.2.1 = K)) ∘ WtV.P) = fun w : WtV => decide (w.t = t /\ w.K = K) := rfl
 rw [this]
 cases x.ws.find? (fun w : WtV => decide (w.t = t /\ w.K = K)) with
 | some w =>
  show Option.map RV.P (if w.r.R = [] then none else some w.r) = if w.r.P = [] then none else some w.r.P
  by_cases e : w.r.R = []
  ·rw [if_pos e, if_pos (by unfold RV.P; rw [e]; rfl)]; rfl
  ·rw [if_neg e, if_neg (by unfold RV.P; simpa using e)]; rfl
 | none =>
  obtain ⟨z, hz⟩ : ∃ z, m.tabs[t]? = some z := ⟨_, List.getElem?_eq_getElem ht⟩
  have e : m.P.getD t [] = x6_ z.2 := by
   unfold Md.P
   rw [List.getD_eq_getElem?_getD, List.getElem?_map, hz]; rfl
  show Option.map RV.P (match m.tabs[t]? with | some y => yc_ y.2 K | none => none) = xd_ (m.P.getD t []) K
  rw [hz, e, tabP_get]
def Qf_ (S : Nat -> Prop) (base : Nat) (w : World) (m : Md) (x : Tl) (ans : Int × List Pr) (ws : List (Nat × List Int × List (List Int))) (r : Ending) (w' : World) : Prop :=
 ∃ S' x' y, r = .returned (.agg #[.int .i64 y.e, .slice y.pa y.P.length y.pc]) /\ TSt S S' base w m x w' x' /\ yx_ y = ans /\ ym_ y /\ zs_ (Rb S' base) w' (fun W' => ya_ W' y.pa y.P) /\ x'.ws.map WtV.P = ws
structure OpG (S : Nat -> Prop) (base : Nat) (w : World) (m : Md) (o : zj_) (t : Nat) : Prop where
 at' : zs_ (Ab S base) w fun W => zy_ W o
 te : o.t = (t : Int)
 tl : t < m.tabs.length
 ko : zH_ o.K
 ro : o.R ≠ [] -> rOk (o.R.map P1.bs)
theorem OpG.grow {S : Nat -> Prop} {base : Nat} {w w' : World} {m : Md} {o : zj_} {t : Nat} (h : OpG S base w m o t) (b : Below w.heap.size w w') : OpG (jF_ S w.heap.size w'.heap.size) base w' m o t := ⟨h.at'.step (Off.of b) fun k hk => hk.1.elim (fun h => .inl ⟨h, hk.2⟩) fun h => .inr h.1, h.te, h.tl, h.ko, h.ro⟩
theorem res_zero : ym_ ⟨0, none, 0, []⟩ := ⟨by simp, fun p hp => by simp at hp⟩
theorem zn_.nil (W : World) (a : Option Addr) : zn_ W a [] := fun k x h => by simp at h
theorem tput_law {S : Nat -> Prop} {base : Nat} {w : World} {m : Md} {x : Tl} (h : TlR S base w m x) (hbs : base <= w.heap.size) (o : zj_) (t : Nat) (ho : OpG S base w m o t) (hf : x.ws.length < 1000) :
  Calls prog 124 #[.pointer (some ⟨x.px, 0, none⟩), .agg #[.int .i64 o.k, .int .i64 o.t, .int .i64 o.i, .slice o.ka o.kn o.kc, .slice o.ta o.tn o.tc, .int .i64 o.m, .slice o.ra o.rn o.rc]] w (Qf_ S base w m x (0, []) (xP_ (x.ws.map WtV.P) t o.K (o.R.map P1.bs))) := by
 obtain ⟨hb, hbx⟩ := yl_ w #[.int .i64 o.k, .int .i64 o.t, .int .i64 o.i, .slice o.ka o.kn o.kc, .slice o.ta o.tn o.tc, .int .i64 o.m, .slice o.ra o.rn o.rc] #[.int .i64 0, .slice none 0 0] 74 81
 have h2 := h.grow hb
 have ho2 := ho.grow hb
 have hst := ho2.at'.now
 have HS := hid (tset_law h2 (Nat.le_trans hbs hb.size) t ho.tl o.K ho.ko o.ka o.kn o.kc hst.kl (ho2.at'.mono fun W hW => hW.ks) o.ra o.rn o.rc o.R hst.rl ho.ro (ho2.at'.mono fun W hW => hW.rs) hf)
 rw [← ho.te] at HS
 have HH := hid (And.intro h (And.intro hbs (And.intro hb hbx)))
 obtain ⟨b0, b1⟩ := hbx _ (Below.refl _ _)
 have c1 := b0.cell 1
 have c3 := b0.cell 3
 have c6 := b0.cell 6
 simp only [gtA, gtB, gtC] at c1 c3 c6
 clear h hbs ho hf h2 ho2 hst hb hbx b0 b1
 go_enter func124, ntmps124
 go_wp2_with fail
 refine HS.out.mono ?_; rintro r w3 ⟨rfl, S3, x', hst, hws⟩
 have HST := hid (And.intro hst hws)
 have HB3 := hid (hst.off.box (HH.out.2.2.2 _ (Below.refl _ _)).2 Xt33)
 clear hst hws
 have g0 := HB3.out.cell 0
 have g1 := HB3.out.cell 1
 have i0 := HB3.out.frozen 0
 have i1 := HB3.out.frozen 1
 simp only [gtA, gtB, gtC] at g0 g1
 go_wp2_with fail
 clear g0 g1 i0 i1
 have hb4 := zg_.set2 (x := .int .i64 0) (y := .slice none 0 0) HB3.out
 have ho4 : Off (fun k => k = w.heap.size + 1) w3 ((w3.setCell ⟨w.heap.size + 1, 0, none⟩ (.int .i64 0)).setCell ⟨w.heap.size + 1, 1, none⟩ (.slice none 0 0)) :=
  Off.set (S := fun k => k = w.heap.size + 1) (Off.set (S := fun k => k = w.heap.size + 1) (Off.refl _ w3) ⟨w.heap.size + 1, 0, none⟩ rfl _) ⟨w.heap.size + 1, 1, none⟩ rfl _
 revert hb4 ho4
 generalize (w3.setCell ⟨w.heap.size + 1, 0, none⟩ (.int .i64 0)).setCell ⟨w.heap.size + 1, 1, none⟩ (.slice none 0 0) = w4
 intro hb4 ho4
 have q0 := hb4.cell 0
 have q1 := hb4.cell 1
 have HO4 := hid ho4
 clear hb4 ho4
 refine bodyPost_end (v := .agg #[.int .i64 0, .slice none 0 0]) (by simp [results, results124, go_sem, q0, q1]) rfl ?_
 refine ⟨S3, x', ⟨0, none, 0, []⟩, rfl, HST.out.1.box HH.out.1 HH.out.2.1 HH.out.2.2.1 (Nat.le_succ _) Xt5 HO4.out, rfl, res_zero, fun W' o => ya_.nil _ _, HST.out.2⟩
theorem z6_ (e : Int) : ym_ ⟨e, none, 0, []⟩ := ⟨by simp, fun p hp => by simp at hp⟩
theorem tinsert_law {S : Nat -> Prop} {base : Nat} {w : World} {m : Md} {x : Tl} (h : TlR S base w m x) (hbs : base <= w.heap.size) (o : zj_) (t : Nat) (ho : OpG S base w m o t) (hf : x.ws.length < 1000) :
  Calls prog 125 #[.pointer (some ⟨x.px, 0, none⟩), .agg #[.int .i64 o.k, .int .i64 o.t, .int .i64 o.i, .slice o.ka o.kn o.kc, .slice o.ta o.tn o.tc, .int .i64 o.m, .slice o.ra o.rn o.rc]] w (Qf_ S base w m x (if (y2_ m.P (x.ws.map WtV.P) t o.K).isSome then ((7, []) : Int × List Pr) else (0, [])) (if (y2_ m.P (x.ws.map WtV.P) t o.K).isSome then x.ws.map WtV.P else xP_ (x.ws.map WtV.P) t o.K (o.R.map P1.bs))) := by
 obtain ⟨hb, hbx⟩ := yl_ w #[.int .i64 o.k, .int .i64 o.t, .int .i64 o.i, .slice o.ka o.kn o.kc, .slice o.ta o.tn o.tc, .int .i64 o.m, .slice o.ra o.rn o.rc] #[.int .i64 0, .slice none 0 0] 74 81
 have hst := ho.at'.now
 obtain ⟨w2, hw2⟩ := gty (((w.alloc (.cells #[.int .i64 o.k, .int .i64 o.t, .int .i64 o.i, .slice o.ka o.kn o.kc, .slice o.ta o.tn o.tc, .int .i64 o.m, .slice o.ra o.rn o.rc] 74)).alloc (.cells #[.int .i64 0, .slice none 0 0] 81)))
 rw [← hw2] at hb hbx
 have h2 := h.below hb
 have hat2 := ho.at'.below hb
 obtain ⟨c0, c1, c2, c3, c4⟩ := h2.c
 have hbx2 := hbx w2 (Below.refl _ _)
 have HX := hid (fun X (b : Below w2.heap.size w2 X) => (⟨tcb b c4, by rw [(hbx X b).1.cell]; simp only [gtA, gtB, gtC]; rw [ho.te], by rw [(hbx X b).1.cell]; simp only [gtA, gtB, gtC], zA_ X o.ka o.kn o.kc o.K hst.kl (hat2.below b).now.ks.rd⟩ : X.cell? ⟨x.px, 4, none⟩ = some (.func (.func 107) #[] #[.pointer (some ⟨x.bx, 0, none⟩), .pointer (some ⟨x.bm, 0, none⟩)]) /\ X.cell? ⟨w.heap.size, 1, none⟩ = some (.int .i64 (t : Int)) /\ X.cell? ⟨w.heap.size, 3, none⟩ = some (.slice o.ka o.kn o.kc) /\ (convert 42 9 (.slice o.ka o.kn o.kc)).run prog X = .ok (.string (strOfNums o.K)) X))
 have HG := hid (fun X (b : Below w2.heap.size w2 X) => qv_ (h2.below b) t ho.tl o.K ho.ko.1 (by have := ho.ko.2; omega))
 have HH := hid (And.intro h (And.intro hbs (And.intro hb hbx)))
 have HO := hid ho
 have HP := hid (getX_P m x ho.tl o.K)
 have HW2 := hid hw2
 have HF := hid hf
 obtain ⟨g, hg⟩ := gtx (getX m x t o.K)
 rw [hg] at HG HP
 have HGX := hid hg
 clear h hbs ho hf h2 hat2 hst hb hbx hbx2 c0 c1 c2 c3 c4 hg
 rw [← HP.out]
 clear HP
 cases g with
 | some y =>
  rw [if_pos (show (Option.map RV.P (some y)).isSome = true from rfl), if_pos (show (Option.map RV.P (some y)).isSome = true from rfl)]
  go_enter func125, ntmps125
  go_upto_region 1 with (fail)
  rw [← hw2]
  clear hw2
  refine rgw w2 (Below.refl _ _).drew fun hH => ?_
  refine tkq3 0 1 2 ?_
  refine tkr 3 rfl Xf1 ?_
  refine tkq 4 ?_
  refine tkr 5 rfl Xf3 ?_
  refine tkq 6 ?_
  refine tkr 7 rfl Xf2 ?_
  refine tkr 8 rfl Xf6 ?_
  refine tk1 9 rfl fun K hK => ?_
  go_simp
  refine (HG.out _ hH).mono ?_; rintro r w5 ⟨⟨v5, rfl, hv5⟩, rfl⟩
  have HV5 := hid hv5
  go_wp2_with fail
  try simp only [Option.isSome_some, Option.isSome_none]
  refine hK.out _ _ hH (fun hHeldn => ?_)
  clear hK K hH hv5; have hH := hHeldn; clear hHeldn
  refine stP ?_
  refine tkq4 10 11 12 13 ?_
  refine tkq 14 ?_
  refine adn ?_
  skip
  obtain ⟨w3, hw3⟩ := gty (w2.drew)
  rw [← hw3] at hH ⊢
  have HB3 := hid ((HH.out.2.2.2 w3 hH).2)
  have HBW := hid (HH.out.2.2.1.trans (hH.mono HH.out.2.2.1.size))
  clear hH hw3
  have g0 := HB3.out.cell 0
  have g1 := HB3.out.cell 1
  have i0 := HB3.out.frozen 0
  have i1 := HB3.out.frozen 1
  simp only [gtA, gtB, gtC] at g0 g1
  go_wp2_with fail
  clear g0 g1 i0 i1
  have hb4 := zg_.set2 (x := .int .i64 7) (y := .slice none 0 0) HB3.out
  have ho4 : Off (fun k => k = w.heap.size + 1) w3 ((w3.setCell ⟨w.heap.size + 1, 0, none⟩ (.int .i64 7)).setCell ⟨w.heap.size + 1, 1, none⟩ (.slice none 0 0)) :=
   Off.set (S := fun k => k = w.heap.size + 1) (Off.set (S := fun k => k = w.heap.size + 1) (Off.refl _ w3) ⟨w.heap.size + 1, 0, none⟩ rfl _) ⟨w.heap.size + 1, 1, none⟩ rfl _
  revert hb4 ho4
  generalize (w3.setCell ⟨w.heap.size + 1, 0, none⟩ (.int .i64 7)).setCell ⟨w.heap.size + 1, 1, none⟩ (.slice none 0 0) = w4
  intro hb4 ho4
  have q0 := hb4.cell 0
  have q1 := hb4.cell 1
  have HO4 := hid ho4
  clear hb4 ho4
  refine bodyPost_end (v := .agg #[.int .i64 7, .slice none 0 0]) (by simp [results, results125, go_sem, q0, q1]) rfl ?_
  refine ⟨S, x, ⟨7, none, 0, []⟩, rfl, TSt.same HH.out.1 (by
   refine Off.below HBW.out HO4.out HBW.out.size Xt35), rfl, z6_ _, fun W' o => ya_.nil _ _, rfl⟩
 | none =>
  rw [if_neg (show ¬ (Option.map RV.P (none : Option RV)).isSome = true from fun e => by cases e), if_neg (show ¬ (Option.map RV.P (none : Option RV)).isSome = true from fun e => by cases e)]
  go_enter func125, ntmps125
  go_upto_region 1 with (fail)
  rw [← hw2]
  clear hw2
  refine rgw w2 (Below.refl _ _).drew fun hH => ?_
  refine tkq3 0 1 2 ?_
  refine tkr 3 rfl Xf1 ?_
  refine tkq 4 ?_
  refine tkr 5 rfl Xf3 ?_
  refine tkq 6 ?_
  refine tkr 7 rfl Xf2 ?_
  refine tkr 8 rfl Xf6 ?_
  refine tk1 9 rfl fun K hK => ?_
  go_simp
  refine (HG.out _ hH).mono ?_; rintro r w5 ⟨⟨v5, rfl, hv5⟩, rfl⟩
  have HV5 := hid hv5
  go_wp2_with fail
  try simp only [Option.isSome_some, Option.isSome_none]
  refine hK.out _ _ hH (fun hHeldn => ?_)
  clear hK K hH hv5; have hH := hHeldn; clear hHeldn
  refine stP ?_
  refine tkq4 10 11 12 13 ?_
  refine tkq 14 ?_
  refine adn ?_
  skip
  obtain ⟨w6, hw6⟩ := gty (w2.drew)
  rw [← hw6] at hH ⊢
  have HB6 := hid (HH.out.2.2.1.trans (hH.mono HH.out.2.2.1.size))
  have HX6 := hid (HH.out.2.2.2 w6 hH)
  have HPUT := hid (tput_law (HH.out.1.grow HB6.out) (Nat.le_trans HH.out.2.1 HB6.out.size) o t (HO.out.grow HB6.out) HF.out)
  have c0 := HX6.out.1.cell 0
  have c1 := HX6.out.1.cell 1
  have c2 := HX6.out.1.cell 2
  have c3 := HX6.out.1.cell 3
  have c4 := HX6.out.1.cell 4
  have c5 := HX6.out.1.cell 5
  have c6 := HX6.out.1.cell 6
  simp only [gtA, gtB, gtC] at c0 c1 c2 c3 c4 c5 c6
  clear hH hw6
  go_wp2_with fail
  refine HPUT.out.mono ?_; rintro r w3 ⟨S3, x', y, rfl, hst, hans, hok, hpr, hws⟩
  have HST := hid (And.intro hst (And.intro hans (And.intro hok (And.intro hpr hws))))
  have HB3 := hid (hst.off.box HX6.out.2 Xt33)
  have HL6 := hid (show w.heap.size + 1 < w6.heap.size from HX6.out.2.lt)
  clear hst hans hok hpr hws c0 c1 c2 c3 c4 c5 c6
  have g0 := HB3.out.cell 0
  have g1 := HB3.out.cell 1
  have i0 := HB3.out.frozen 0
  have i1 := HB3.out.frozen 1
  simp only [gtA, gtB, gtC] at g0 g1
  go_wp2_with fail
  clear g0 g1 i0 i1
  have hb4 := zg_.set2 (x := .int .i64 y.e) (y := .slice y.pa y.P.length y.pc) HB3.out
  have ho4 : Off (fun k => k = w.heap.size + 1) w3 ((w3.setCell ⟨w.heap.size + 1, 0, none⟩ (.int .i64 y.e)).setCell ⟨w.heap.size + 1, 1, none⟩ (.slice y.pa y.P.length y.pc)) :=
   Off.set (S := fun k => k = w.heap.size + 1) (Off.set (S := fun k => k = w.heap.size + 1) (Off.refl _ w3) ⟨w.heap.size + 1, 0, none⟩ rfl _) ⟨w.heap.size + 1, 1, none⟩ rfl _
  revert hb4 ho4
  generalize (w3.setCell ⟨w.heap.size + 1, 0, none⟩ (.int .i64 y.e)).setCell ⟨w.heap.size + 1, 1, none⟩ (.slice y.pa y.P.length y.pc) = w4
  intro hb4 ho4
  have q0 := hb4.cell 0
  have q1 := hb4.cell 1
  have HO4 := hid ho4
  clear hb4 ho4
  refine bodyPost_end (v := .agg #[.int .i64 y.e, .slice y.pa y.P.length y.pc]) (by simp [results, results125, go_sem, q0, q1]) rfl ?_
  refine ⟨S3, x', y, rfl, HST.out.1.box HH.out.1 HH.out.2.1 HB6.out (Nat.le_succ _) HL6.out HO4.out, HST.out.2.1, HST.out.2.2.1, HST.out.2.2.2.1.off (HO4.out.mono fun k hk => by cases hk; exact .inl (HST.out.1.su _ (.inr ⟨Nat.le_succ _, HL6.out⟩))), HST.out.2.2.2.2⟩
end
end Go.Proofs.YthmofoldmdafoaaGreat
