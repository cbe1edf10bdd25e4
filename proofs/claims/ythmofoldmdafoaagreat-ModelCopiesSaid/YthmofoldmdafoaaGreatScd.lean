/- Part of the proof that ModelCopies holds for every input: a copy goes on apart; two models are the same just if tables and rows are. Part 4. -/
import Derived.Test.YthmofoldmdafoaaGreatScc
set_option linter.unusedVariables false
set_option linter.unusedSimpArgs false
set_option maxRecDepth 100000
set_option maxHeartbeats 4000000
namespace Go.Proofs.YthmofoldmdafoaaGreat
open Go.ChangeShapes Go.WideShapes Go.ChangeAt Go.RowKit
open Go.Lib (hid)
open Go.Proofs.Tryz
section
open Go.Shelf
theorem xi_ (k : Int) : kf k 3 = ((k == 5) || (k == 6)) := by
 exact Xb21
theorem jE_ (k : Int) : kf k 4 = (k == 6) := by
 exact Xb21
def Rg7 (o : zj_) (w : World) (tr : Int) (wx : World) : Prop := ∃ (fa : Option Addr) (fc : Nat) (ta : Option Addr) (tc : Nat), zg_ wx (w.heap.size + 1 + 1) #[.int .i64 tr, .slice fa (zk_ o.K).length fc, .slice ta (zk_ o.T).length tc, .bool (decide (0 < o.tn))] 169 /\ Ls .u8 wx fa fc (zk_ o.K) /\ Ls .u8 wx ta tc (zk_ o.T) /\ Below w.heap.size w wx
theorem xr_ (j : Job) (o : zj_) (hrn : o.rn <= 1000000) (w : World) (hj : z2_ w j) (ho : zy_ w o) :
  Calls prog 105 #[.agg #[.int .i64 j.w, .int .i64 j.l, .int .i64 j.d, .int .i64 j.c, .int .i64 j.k, .int .i64 j.e, .slice j.a j.n j.cap], .agg #[.int .i64 o.k, .int .i64 o.t, .int .i64 o.i, .slice o.ka o.kn o.kc, .slice o.ta o.tn o.tc, .int .i64 o.m, .slice o.ra o.rn o.rc]] w fun r w' => RgP (zE_ j o) r w' /\ Below w.heap.size w w' := by
 obtain ⟨hb0, hbx⟩ := boxes3' w #[.int .i64 j.w, .int .i64 j.l, .int .i64 j.d, .int .i64 j.c, .int .i64 j.k, .int .i64 j.e, .slice j.a j.n j.cap] #[.int .i64 o.k, .int .i64 o.t, .int .i64 o.i, .slice o.ka o.kn o.kc, .slice o.ta o.tn o.tc, .int .i64 o.m, .slice o.ra o.rn o.rc] #[.int .i64 0, .slice none 0 0, .slice none 0 0, .bool false] 24 74 169
 have hlei : (j.n : Int) <= 1000000 := by have := hj.le; omega
 have hv : zE_ j o = if pO j o && kf o.k 3 then (if kf o.k 4 then ((trV j o.t o.i).1, zk_ o.K, zk_ o.T, decide (0 < o.tn), 0) else ((trV j o.t (-1)).1, o.K, o.T, decide (0 < o.tn), 0)) else (0, [], [], false, 2) := rfl
 have hlen := fun (h : pO j o = true) (h3 : kf o.k 3 = true) => (pO_len h h3 : (o.kn <= 32 /\ o.tn <= 32) /\ (kf o.k 4 = true -> o.kn <= 24 /\ o.tn <= 24))
 rw [xi_, jE_] at hv hlen
 have HV := hid hv
 have HLEN := hid hlen
 clear hv hlen
 obtain ⟨V, hV⟩ := gtx (zE_ j o)
 rw [hV] at HV ⊢
 clear hV
 have hpq := pO_qO j o ho.rl
 go_enter func105, ntmps105
 go_upto_region 1 with (fail)
 generalize (((w.alloc (.cells #[.int .i64 j.w, .int .i64 j.l, .int .i64 j.d, .int .i64 j.c, .int .i64 j.k, .int .i64 j.e, .slice j.a j.n j.cap] 24)).alloc (.cells #[.int .i64 o.k, .int .i64 o.t, .int .i64 o.i, .slice o.ka o.kn o.kc, .slice o.ta o.tn o.tc, .int .i64 o.m, .slice o.ra o.rn o.rc] 74)).alloc (.cells #[.int .i64 0, .slice none 0 0, .slice none 0 0, .bool false] 169)) = W0 at *
 have FG := hid (fun W (b : Below W0.heap.size W0 W) => (by
  obtain ⟨x, y, z⟩ := hbx W b
  exact ⟨x.cell 0, x.cell 1, x.cell 2, x.cell 3, x.cell 4, x.cell 5, x.cell 6, y.cell 0, y.cell 1, y.cell 2, y.cell 3, y.cell 4, y.cell 5, y.cell 6⟩ : W.cell? ⟨w.heap.size, 0, none⟩ = some (.int .i64 j.w) /\ W.cell? ⟨w.heap.size, 1, none⟩ = some (.int .i64 j.l) /\ W.cell? ⟨w.heap.size, 2, none⟩ = some (.int .i64 j.d) /\ W.cell? ⟨w.heap.size, 3, none⟩ = some (.int .i64 j.c) /\ W.cell? ⟨w.heap.size, 4, none⟩ = some (.int .i64 j.k) /\ W.cell? ⟨w.heap.size, 5, none⟩ = some (.int .i64 j.e) /\ W.cell? ⟨w.heap.size, 6, none⟩ = some (.slice j.a j.n j.cap) /\ W.cell? ⟨w.heap.size + 1, 0, none⟩ = some (.int .i64 o.k) /\ W.cell? ⟨w.heap.size + 1, 1, none⟩ = some (.int .i64 o.t) /\ W.cell? ⟨w.heap.size + 1, 2, none⟩ = some (.int .i64 o.i) /\ W.cell? ⟨w.heap.size + 1, 3, none⟩ = some (.slice o.ka o.kn o.kc) /\ W.cell? ⟨w.heap.size + 1, 4, none⟩ = some (.slice o.ta o.tn o.tc) /\ W.cell? ⟨w.heap.size + 1, 5, none⟩ = some (.int .i64 o.m) /\ W.cell? ⟨w.heap.size + 1, 6, none⟩ = some (.slice o.ra o.rn o.rc)))
 have FB := hid (fun W (b : Below W0.heap.size W0 W) => (hbx W b).2.2)
 have FJ := hid (fun W (b : Below W0.heap.size W0 W) => (hj.below hb0).below b)
 have FO := hid (fun W (b : Below W0.heap.size W0 W) => (ho.below hb0).below b)
 have HB0 := hid hb0
 clear hb0 hbx hj ho
 obtain ⟨pb, hpb⟩ := gtx (pO j o)
 have HMO := hid (by have h := jv_ j o W0 (FJ.out _ (Below.refl _ _)) (FO.out _ (Below.refl _ _)); rwa [← hpq, hpb] at h : Calls prog 104 #[.agg #[.int .i64 j.w, .int .i64 j.l, .int .i64 j.d, .int .i64 j.c, .int .i64 j.k, .int .i64 j.e, .slice j.a j.n j.cap], .agg #[.int .i64 o.k, .int .i64 o.t, .int .i64 o.i, .slice o.ka o.kn o.kc, .slice o.ta o.tn o.tc, .int .i64 o.m, .slice o.ra o.rn o.rc]] W0 fun r w' => r = .returned (.bool pb) /\ Below W0.heap.size W0 w')
 rw [hpb] at HLEN HV
 clear hpb hpq
 obtain ⟨g0, g1, g2, g3, g4, g5, g6, o0, o1, o2, o3, o4, o5, o6⟩ := FG.out _ (Below.refl _ _)
 go_wp2_with fail
 refine HMO.out.mono ?_; rintro r w3 ⟨rfl, B3⟩
 have HB3 := hid B3
 clear B3 g0 g1 g2 g3 g4 g5 g6 o0 o1 o2 o3 o4 o5 o6
 obtain ⟨g0, g1, g2, g3, g4, g5, g6, o0, o1, o2, o3, o4, o5, o6⟩ := FG.out _ HB3.out
 cases pb
 ·simp only [Bool.false_and, Bool.false_eq_true, if_false, ↓reduceIte] at HV
  exact Xb11
 by_cases h5 : o.k = 5
 ·replace HV := hid (show V = ((trV j o.t (-1)).1, o.K, o.T, decide (0 < o.tn), 0) by rw [HV.out, h5]; simp)
  rw [h5] at o0
  go_wp2_with fail
  refine (QH_ j o.t (-1) _ (FJ.out _ HB3.out)).mono ?_; rintro r w6 ⟨rfl, B6⟩
  have HB6 := hid (za_ HB3.out B6)
  clear B6 g0 g1 g2 g3 g4 g5 g6 o0 o1 o2 o3 o4 o5 o6
  obtain ⟨g0, g1, g2, g3, g4, g5, g6, o0, o1, o2, o3, o4, o5, o6⟩ := FG.out _ HB6.out
  obtain ⟨tr, htr⟩ := gtx ((trV j o.t (-1)).1)
  obtain ⟨er, her⟩ := gtx ((if (trV j o.t (-1)).2.2.2 = true then (0 : Int) else 2))
  rw [htr] at HV ⊢
  rw [her]
  clear htr her
  have hB := FB.out _ HB6.out
  have q0 := hB.cell 0
  have q1 := hB.cell 1
  have q2 := hB.cell 2
  have q3 := hB.cell 3
  simp only [gtA, gtB, gtC] at q0 q1 q2 q3
  have z0 : w6.frozen? ⟨w.heap.size + 1 + 1, 0, none⟩ = false := frozen_of_row w6 _ 0 _ 169 hB
  have z1 : w6.frozen? ⟨w.heap.size + 1 + 1, 1, none⟩ = false := frozen_of_row w6 _ 1 _ 169 hB
  have z2 : w6.frozen? ⟨w.heap.size + 1 + 1, 2, none⟩ = false := frozen_of_row w6 _ 2 _ 169 hB
  have z3 : w6.frozen? ⟨w.heap.size + 1 + 1, 3, none⟩ = false := frozen_of_row w6 _ 3 _ 169 hB
  have HS4 := hid (set4 hB (za_ HB0.out HB6.out) Xt0 Xt5 Xt5 Xt5 Xt5 (.int .i64 tr) (.slice o.ka o.kn o.kc) (.slice o.ta o.tn o.tc) (.bool (decide (0 < o.tn))))
  clear hB
  go_wp2_with fail
  refine bodyPost_ret (v := .tuple #[.agg #[.int .i64 tr, .slice o.ka o.kn o.kc, .slice o.ta o.tn o.tc, .bool (decide (0 < o.tn))], .int .i64 0]) ?_ rfl ⟨⟨o.ka, o.kc, o.ta, o.tc, by rw [HV.out]; simp only [(FO.out _ HB6.out).kl, (FO.out _ HB6.out).tl], by rw [HV.out]; exact HS4.out.ls (FO.out _ HB6.out).ks, by rw [HV.out]; exact HS4.out.ls (FO.out _ HB6.out).ts⟩, HS4.out.bel⟩
  have x0 := HS4.out.box.cell 0
  have x1 := HS4.out.box.cell 1
  have x2 := HS4.out.box.cell 2
  have x3 := HS4.out.box.cell 3
  exact Xb49
 by_cases h6 : o.k = 6
 ·replace HV := hid (show V = ((trV j o.t o.i).1, zk_ o.K, zk_ o.T, decide (0 < o.tn), 0) by rw [HV.out, h6]; simp)
  rw [h6] at HLEN o0
  obtain ⟨_, h24⟩ := HLEN.out Xt36 Xt4
  obtain ⟨hk24, ht24⟩ := h24 Xt4
  clear h24
  go_wp2_with fail
  refine (QH_ j o.t o.i _ (FJ.out _ HB3.out)).mono ?_; rintro r w6 ⟨rfl, B6⟩
  have HB6 := hid (za_ HB3.out B6)
  clear B6 g0 g1 g2 g3 g4 g5 g6 o0 o1 o2 o3 o4 o5 o6
  obtain ⟨g0, g1, g2, g3, g4, g5, g6, o0, o1, o2, o3, o4, o5, o6⟩ := FG.out _ HB6.out
  obtain ⟨tr, htr⟩ := gtx ((trV j o.t o.i).1)
  obtain ⟨er, her⟩ := gtx ((if (trV j o.t o.i).2.2.2 = true then (0 : Int) else 2))
  rw [htr] at HV ⊢
  rw [her]
  clear htr her
  go_wp2_with fail
  go_cut [5] (fun x wx => x = .int .i64 0 /\ Rg7 o w tr wx)
  case first =>
   refine wp_region_held_drew (S := (fun W => W.cell? ⟨w.heap.size + 1, 3, none⟩ = some (.slice o.ka o.kn o.kc) /\ W.cell? ⟨w.heap.size + 1, 4, none⟩ = some (.slice o.ta o.tn o.tc))) Xt3 (⟨o3, o4⟩) fun hH => ?_
   refine tkq2 0 1 ?_
   refine tkr 2 rfl Xf40 ?_
   refine tkq 4 ?_
   refine tkr 5 rfl Xf40 ?_
   refine tkq 7 ?_
   refine tkr 8 rfl Xf40 ?_
   refine tkq2 9 10 ?_
   refine tk1 3 rfl fun K hK => ?_
   go_simp
   refine (jt_ o.ka o.K o.kn o.kc (FO.out _ HB6.out).kl Xt0 _ (FO.out _ (show Below W0.heap.size W0 w6.drew from HB6.out.drew)).ks).mono ?_; rintro r W5 ⟨a5, c5, rfl, l5, B5⟩
   go_wp2_with fail
   refine hK.out _ _ (⟨tcb B5 hH.1, tcb B5 hH.2⟩) fun hH => ?_
   have L5 := hid (fun W (b : Below W5.heap.size W5 W) => l5.below b)
   have H5 := hid (za_ (show Below W0.heap.size W0 w6.drew from HB6.out.drew) B5)
   clear l5 B5
   refine stP ?_
   refine tk1 6 rfl fun K hK => ?_
   go_simp
   refine (jt_ o.ta o.T o.tn o.tc (FO.out _ H5.out).tl Xt0 _ (FO.out _ H5.out).ts).mono ?_; rintro r W6 ⟨a6, c6, rfl, l6, B5⟩
   go_wp2_with fail
   refine hK.out _ _ (⟨tcb B5 hH.1, tcb B5 hH.2⟩) fun hH => ?_
   have L6 := hid l6
   have L56 := hid (L5.out _ B5)
   have H6 := hid (za_ H5.out B5)
   clear l6 B5
   have hB := FB.out _ H6.out
   have q0 := hB.cell 0
   have q1 := hB.cell 1
   have q2 := hB.cell 2
   have q3 := hB.cell 3
   simp only [gtA, gtB, gtC] at q0 q1 q2 q3
   have z0 : W6.frozen? ⟨w.heap.size + 1 + 1, 0, none⟩ = false := frozen_of_row W6 _ 0 _ 169 hB
   have z1 : W6.frozen? ⟨w.heap.size + 1 + 1, 1, none⟩ = false := frozen_of_row W6 _ 1 _ 169 hB
   have z2 : W6.frozen? ⟨w.heap.size + 1 + 1, 2, none⟩ = false := frozen_of_row W6 _ 2 _ 169 hB
   have z3 : W6.frozen? ⟨w.heap.size + 1 + 1, 3, none⟩ = false := frozen_of_row W6 _ 3 _ 169 hB
   have HS4 := hid (set4 hB (za_ HB0.out H6.out) Xt0 Xt5 Xt5 Xt5 Xt5 (.int .i64 tr) (.slice a5 (zk_ o.K).length c5) (.slice a6 (zk_ o.T).length c6) (.bool (decide (0 < o.tn))))
   clear hB
   refine stP ?_
   refine tkq 11 ?_
   refine tk1 12 rfl fun K hK => ?_
   go_simp
   refine hK.out _ _ ?_ (fun hHeldn => ?_)
   ·constructor
    ·rw [World.cell?_setCell_far _ _ _ _ Xt5, World.cell?_setCell_far _ _ _ _ Xt5, World.cell?_setCell_far _ _ _ _ Xt5, World.cell?_setCell_far _ _ _ _ Xt5]; exact hH.1
    ·rw [World.cell?_setCell_far _ _ _ _ Xt5, World.cell?_setCell_far _ _ _ _ Xt5, World.cell?_setCell_far _ _ _ _ Xt5, World.cell?_setCell_far _ _ _ _ Xt5]; exact hH.2
   clear hK K hH q0 q1 q2 q3 z0 z1 z2 z3; have hH := hHeldn; clear hHeldn
   refine stP ?_
   refine tkq 13 ?_
   refine adn ?_
   go_wp2_with fail
   go_meet
   exact ⟨rfl, a5, c5, a6, c6, HS4.out.box, HS4.out.ls L56.out, HS4.out.ls L6.out, HS4.out.bel⟩
  case rest =>
   obtain ⟨rfl, fa, fc, ta, tc, hbox, lK, lT, hbel⟩ := hcut
   go_wp2_with fail
   refine bodyPost_ret (v := .tuple #[.agg #[.int .i64 tr, .slice fa (zk_ o.K).length fc, .slice ta (zk_ o.T).length tc, .bool (decide (0 < o.tn))], .int .i64 0]) ?_ rfl ⟨⟨fa, fc, ta, tc, by rw [HV.out], by rw [HV.out]; exact lK, by rw [HV.out]; exact lT⟩, hbel⟩
   have x0 := hbox.cell 0
   have x1 := hbox.cell 1
   have x2 := hbox.cell 2
   have x3 := hbox.cell 3
   exact Xb49
 ·have f5 : (o.k == 5) = false := by simpa using h5
  have f6 : (o.k == 6) = false := by simpa using h6
  have g5' : (o.k != 5) = true := by simpa using h5
  have g6' : (o.k != 6) = true := by simpa using h6
  replace HV := hid (show V = (0, [], [], false, 2) by rw [HV.out, f5, f6]; simp)
  exact Xb11
theorem wr_eq (k : Int) : kf k 5 = ((k == 2) || (k == 3) || (k == 4)) := by
 exact Xb21
theorem mayT_no {j : Job} {x : zW_} {k : Nat} {o : zj_} (h : x.ops[k]? = some o) (hb : opB j x.sn o = false) : yQ_ j x = false := by
 unfold yQ_
 rw [Bool.and_eq_false_iff]
 right
 rw [Bool.eq_false_iff]
 intro e
 have := List.all_eq_true.1 e o (List.mem_of_getElem? h)
 rw [hb] at this; cases this
theorem mayT_yes {j : Job} {x : zW_} (h1 : okB j = true) (h2 : x.on <= 16) (h3 : (x.sn && x.ab) = false) (hall : ∀ q, q < x.ops.length -> ∀ o, x.ops[q]? = some o -> opB j x.sn o = true) : yQ_ j x = true := by
 unfold yQ_
 rw [h1, h3, decide_eq_true h2]
 simp only [Bool.true_and, Bool.not_false]
 rw [List.all_eq_true]
 intro o ho
 obtain ⟨q, hq⟩ := List.mem_iff_getElem?.1 ho
 exact hall q (List.getElem?_eq_some_iff.1 hq).1 o hq
set_option maxHeartbeats 8000000 in
theorem qU_ (j : Job) (x : zW_) (hon : x.on <= 1000000) (w : World) (hj : z2_ w j) (hx : zM_ w x) :
  Calls prog 76 #[.agg #[.int .i64 j.w, .int .i64 j.l, .int .i64 j.d, .int .i64 j.c, .int .i64 j.k, .int .i64 j.e, .slice j.a j.n j.cap], .agg #[.slice x.oa x.on x.oc, .bool x.sn, .bool x.ab]] w fun r w' => r = .returned (.bool (yQ_ j x)) /\ Below w.heap.size w w' := by
 obtain ⟨hb0, hbx⟩ := yr_ w #[.int .i64 j.w, .int .i64 j.l, .int .i64 j.d, .int .i64 j.c, .int .i64 j.k, .int .i64 j.e, .slice j.a j.n j.cap] #[.slice x.oa x.on x.oc, .bool x.sn, .bool x.ab] 24 38
 have HCK := hid (show qi_ j = if okB j then 0 else 2 from rfl)
 have hlei : (j.n : Int) <= 1000000 := by have := hj.le; omega
 have hoi : (x.on : Int) <= 1000000 := by omega
 have HNO := hid (fun k o => @mayT_no j x k o)
 have HYES := hid (@mayT_yes j x)
 have HDF := hid (show yQ_ j x = (okB j && decide (x.on <= 16) && !(x.sn && x.ab) && x.ops.all (opB j x.sn)) from rfl)
 obtain ⟨ans, hans⟩ := gtx (yQ_ j x)
 rw [hans] at HNO HYES HDF ⊢
 obtain ⟨sn, hsn⟩ := gtx (x.sn)
 obtain ⟨ab, hab⟩ := gtx (x.ab)
 rw [hsn] at HNO HYES HDF
 rw [hab] at HYES HDF
 rw [hsn, hab] at hb0 hbx ⊢
 clear hans hsn hab
 go_enter func76, ntmps76
 go_upto_region 1 with (fail)
 generalize ((w.alloc (.cells #[.int .i64 j.w, .int .i64 j.l, .int .i64 j.d, .int .i64 j.c, .int .i64 j.k, .int .i64 j.e, .slice j.a j.n j.cap] 24)).alloc (.cells #[.slice x.oa x.on x.oc, .bool sn, .bool ab] 38)) = W0 at *
 have FG := hid (fun W (b : Below W0.heap.size W0 W) => (by
  obtain ⟨x, y⟩ := hbx W b
  exact ⟨x.cell 0, x.cell 1, x.cell 2, x.cell 3, x.cell 4, x.cell 5, x.cell 6⟩ : W.cell? ⟨w.heap.size, 0, none⟩ = some (.int .i64 j.w) /\ W.cell? ⟨w.heap.size, 1, none⟩ = some (.int .i64 j.l) /\ W.cell? ⟨w.heap.size, 2, none⟩ = some (.int .i64 j.d) /\ W.cell? ⟨w.heap.size, 3, none⟩ = some (.int .i64 j.c) /\ W.cell? ⟨w.heap.size, 4, none⟩ = some (.int .i64 j.k) /\ W.cell? ⟨w.heap.size, 5, none⟩ = some (.int .i64 j.e) /\ W.cell? ⟨w.heap.size, 6, none⟩ = some (.slice j.a j.n j.cap)))
 have FX := hid (fun W (b : Below W0.heap.size W0 W) => (by
  obtain ⟨y, z⟩ := hbx W b
  exact ⟨z.cell 0, z.cell 1, z.cell 2⟩ : W.cell? ⟨w.heap.size + 1, 0, none⟩ = some (.slice x.oa x.on x.oc) /\ W.cell? ⟨w.heap.size + 1, 1, none⟩ = some (.bool sn) /\ W.cell? ⟨w.heap.size + 1, 2, none⟩ = some (.bool ab)))
 have FJ := hid (fun W (b : Below W0.heap.size W0 W) => (hj.below hb0).below b)
 have FO := hid (fun W (b : Below W0.heap.size W0 W) => (hx.below hb0).below b)
 have HB0 := hid hb0
 have HOL := hid hx.ol
 clear hb0 hbx hj hx
 obtain ⟨x0, x1, x2⟩ := FX.out _ (Below.refl _ _)
 obtain ⟨g0, g1, g2, g3, g4, g5, g6⟩ := FG.out _ (Below.refl _ _)
 by_cases h16 : 16 < x.on
 ·have h16i : (16 : Int) < (x.on : Int) := by omega
  have hd : decide (x.on <= 16) = false := decide_eq_false Xt0
  rw [hd] at HDF
  clear hd
  go_wp2_with fail
  go_ret
  exact ⟨zc_ (by rw [HDF.out]; simp), HB0.out⟩
 have h16i : ¬ (16 : Int) < (x.on : Int) := by omega
 have HON := hid (show x.on <= 16 by omega)
 cases hsa : (sn && ab)
 case true =>
  have h2 : sn = true /\ ab = true := by simpa using hsa
  obtain ⟨rfl, rfl⟩ := h2
  clear hsa
  go_wp2_with fail
  go_ret
  exact ⟨zc_ (by rw [HDF.out]; simp), HB0.out⟩
 rw [hsa] at HDF HYES
 obtain ⟨ok, hok⟩ := gtx (okB j)
 rw [hok] at HDF HYES HCK
 have HOK := hid hok
 have HSA := hid hsa
 clear hok hsa
 have HQC := hid (by have h := xs_ j W0 (FJ.out _ (Below.refl _ _)); rwa [HCK.out] at h : Calls prog 38 #[.agg #[.int .i64 j.w, .int .i64 j.l, .int .i64 j.d, .int .i64 j.c, .int .i64 j.k, .int .i64 j.e, .slice j.a j.n j.cap]] W0 fun r w' => r = .returned (.int .i64 (if ok = true then 0 else 2)) /\ Below W0.heap.size W0 w')
 cases ok
 ·simp only [Bool.false_eq_true, ↓reduceIte] at HQC
  cases sn
  ·exact Xb77
  ·cases ab
   ·exact Xb77
   ·exact absurd HSA.out Xt4
 simp only [↓reduceIte] at HQC
 have hcs : sn = false ∨ (sn = true /\ ab = false) := by
  have := HSA.out
  cases sn <;> cases ab <;> simp_all
 go_cut [23] (fun v wx => v = .bool false /\ Hid (Below W0.heap.size W0 wx))
 case first =>
  rcases hcs with rfl | ⟨rfl, rfl⟩
  all_goals
   go_wp2_with fail
   refine HQC.out.mono ?_; rintro r w3 ⟨rfl, B3⟩
   go_wp2_with fail
   go_meet
   exact ⟨rfl, hid B3⟩
 case rest =>
  obtain ⟨rfl, HBW⟩ := hcut
  clear HDF HQC hcs x0 x1 x2 g0 g1 g2 g3 g4 g5 g6
  go_wp2_with fail
  obtain ⟨W3, hW3⟩ := gty (wc)
  rw [← hW3] at HBW ⊢
  clear hW3
  go_loopw [5, 6] (fun i _ wr => ∃ k : Nat, k <= x.on /\ i = .int .i64 (k : Int) /\ Hid (∀ q, q < k -> ∀ o, x.ops[q]? = some o -> opB j sn o = true) /\ Hid (Below W3.heap.size W3 wr)) (fun i _ _ => x.on - (intOf i).toNat)
  case atStart => exact ⟨0, by omega, rfl, hid (fun q hq => absurd hq Xt0), hid (Below.refl _ _)⟩
  case round =>
   obtain ⟨k, hk, rfl, HALL, BR⟩ := hrel
   have BW := hid (za_ HBW.out BR.out)
   obtain ⟨x0, x1, x2⟩ := FX.out _ BW.out
   by_cases hlt : k < x.on
   ·have hkl : (k : Int) < (x.on : Int) := by omega
    have hk16 : (k : Int) <= 16 := by omega
    obtain ⟨o, ho⟩ : ∃ o, x.ops[k]? = some o := ⟨_, List.getElem?_eq_getElem (by rw [HOL.out]; exact hlt)⟩
    have HN := hid (fun (h : opB j sn o = false) => HNO.out k o ho h)
    have HST := hid (fun (h : opB j sn o = true) => show ∀ q, q < k + 1 -> ∀ o, x.ops[q]? = some o -> opB j sn o = true from fun q hq p hp => by
     by_cases e : q = k
     ·subst e; rw [ho] at hp; cases hp; exact h
     ·exact HALL.out q Xt0 p hp)
    obtain ⟨b1, o1, ea, ⟨d0, d1, d2, d3, d4, d5, d6⟩, hc⟩ := (FO.out _ BW.out).os k o ho
    have HOB := hid (show opB j sn o = (pO j o && !(sn && kf o.k 5)) from rfl)
    have HWR := hid (wr_eq o.k)
    have hpq := pO_qO j o hc.rl
    obtain ⟨pb, hpb⟩ := gtx (pO j o)
    rw [hpb] at HOB
    have HM := hid (fun W (b : Below wr.heap.size wr W) => (by have h := jv_ j o W (FJ.out _ (za_ BW.out b)) (hc.below b); rwa [← hpq, hpb] at h : Calls prog 104 #[.agg #[.int .i64 j.w, .int .i64 j.l, .int .i64 j.d, .int .i64 j.c, .int .i64 j.k, .int .i64 j.e, .slice j.a j.n j.cap], .agg #[.int .i64 o.k, .int .i64 o.t, .int .i64 o.i, .slice o.ka o.kn o.kc, .slice o.ta o.tn o.tc, .int .i64 o.m, .slice o.ra o.rn o.rc]] W fun r w' => r = .returned (.bool pb) /\ Below W.heap.size W w'))
    have HLT := hid hlt
    rw [ea] at x0
    have hea := ea
    have HQ := hid (show ∀ W, Below wr.heap.size wr W -> (W.cell? ⟨w.heap.size, 0, none⟩ = some (.int .i64 j.w) /\ W.cell? ⟨w.heap.size, 1, none⟩ = some (.int .i64 j.l) /\ W.cell? ⟨w.heap.size, 2, none⟩ = some (.int .i64 j.d) /\ W.cell? ⟨w.heap.size, 3, none⟩ = some (.int .i64 j.c) /\ W.cell? ⟨w.heap.size, 4, none⟩ = some (.int .i64 j.k) /\ W.cell? ⟨w.heap.size, 5, none⟩ = some (.int .i64 j.e) /\ W.cell? ⟨w.heap.size, 6, none⟩ = some (.slice j.a j.n j.cap)) /\ (W.cell? ⟨w.heap.size + 1, 0, none⟩ = some (.slice (some ⟨b1, o1, none⟩) x.on x.oc) /\ W.cell? ⟨w.heap.size + 1, 1, none⟩ = some (.bool sn) /\ W.cell? ⟨w.heap.size + 1, 2, none⟩ = some (.bool ab)) /\ W.cell? ⟨b1, o1 + k * 7, none⟩ = some (.int .i64 o.k) /\ W.cell? ⟨b1, o1 + k * 7 + 1, none⟩ = some (.int .i64 o.t) /\ W.cell? ⟨b1, o1 + k * 7 + 2, none⟩ = some (.int .i64 o.i) /\ W.cell? ⟨b1, o1 + k * 7 + 3, none⟩ = some (.slice o.ka o.kn o.kc) /\ W.cell? ⟨b1, o1 + k * 7 + 4, none⟩ = some (.slice o.ta o.tn o.tc) /\ W.cell? ⟨b1, o1 + k * 7 + 5, none⟩ = some (.int .i64 o.m) /\ W.cell? ⟨b1, o1 + k * 7 + 6, none⟩ = some (.slice o.ra o.rn o.rc) from fun W b => (by
     have f : ∀ {p v}, wr.cell? p = some v -> W.cell? p = some v := fun h => tcb b h
     exact ⟨FG.out W (za_ BW.out b), ⟨f x0, f x1, f x2⟩, f d0, f d1, f d2, f d3, f d4, f d5, f d6⟩))
    clear hpq hpb ho hc hlt ea hea
    cases pb
    ·go_wp2_with fail
     refine wp_region_held_drew (S := (fun W => Below wr.heap.size wr W)) Xt3 ((Below.refl _ _).drew) fun hH => ?_
     refine tkr 0 rfl Xf0 ?_
     refine tkq 1 ?_
     refine tkr 2 rfl Xf0 ?_
     refine tkq2 3 4 ?_
     refine tkr 5 rfl Xf0 ?_
     refine tk1 6 rfl fun K hK => ?_
     go_simp
     refine (HM.out _ hH).mono ?_; rintro r W5 ⟨rfl, B5⟩
     go_wp2_with fail
     refine hK.out _ _ (za_ hH B5) fun hH => ?_
     clear B5
     refine stP ?_
     refine tkq2 7 8 ?_
     refine tkn 9 ?_
     refine tkn 10 ?_
     refine tkn 11 ?_
     refine tkn 12 ?_
     refine tkn 13 ?_
     refine tkn 14 ?_
     refine tkn 15 ?_
     refine tkn 16 ?_
     refine tkn 17 ?_
     refine tkn 18 ?_
     refine tkn 19 ?_
     refine tkn 20 ?_
     refine tkn 21 ?_
     refine tkn 22 ?_
     refine tkq 23 ?_
     refine adn ?_
     have H9 := hid (za_ BW.out hH)
     clear hH
     go_wp2_with fail
     try rw [Exit.noGoto_ret]
     go_ret
     exact ⟨zc_ (HN.out (by rw [HOB.out]; rfl)).symm, za_ HB0.out H9.out⟩
    ·cases sn
     ·go_wp2_with fail
      refine wp_region_held_drew (S := (fun W => Below wr.heap.size wr W)) Xt3 ((Below.refl _ _).drew) fun hH => ?_
      refine tkr 0 rfl Xf0 ?_
      refine tkq 1 ?_
      refine tkr 2 rfl Xf0 ?_
      refine tkq2 3 4 ?_
      refine tkr 5 rfl Xf0 ?_
      refine tk1 6 rfl fun K hK => ?_
      go_simp
      refine (HM.out _ hH).mono ?_; rintro r W5 ⟨rfl, B5⟩
      go_wp2_with fail
      refine hK.out _ _ (za_ hH B5) fun hH => ?_
      clear B5
      refine stP ?_
      refine tkq3 7 8 9 ?_
      refine tkr 10 rfl Xf0 ?_
      refine tkq 11 ?_
      refine tkn 12 ?_
      refine tkn 13 ?_
      refine tkn 14 ?_
      refine tkn 15 ?_
      refine tkn 16 ?_
      refine tkn 17 ?_
      refine tkn 18 ?_
      refine tkn 19 ?_
      refine tkn 20 ?_
      refine tkn 21 ?_
      refine tkq2 22 23 ?_
      refine adn ?_
      have H9 := hid (za_ BR.out hH)
      clear hH
      go_wp2_with fail
      go_roundw
      case rel => exact ⟨k + 1, by have := HLT.out; omega, by go_num, hid (HST.out (by rw [HOB.out]; rfl)), H9⟩
      case measure => simp [intOf]; have := HLT.out; omega
     ·obtain ⟨ok', hok'⟩ : ∃ z, o.k = z := ⟨_, rfl⟩
      rw [hok'] at HQ HM HWR HOB d0
      have HK' := HWR
      clear hok' HWR
      by_cases e2 : ok' = 2
      ·subst e2
       go_wp2_with fail
       refine wp_region_held_drew (S := (fun W => Below wr.heap.size wr W)) Xt3 ((Below.refl _ _).drew) fun hH => ?_
       refine tkr 0 rfl Xf0 ?_
       refine tkq 1 ?_
       refine tkr 2 rfl Xf0 ?_
       refine tkq2 3 4 ?_
       refine tkr 5 rfl Xf0 ?_
       refine tk1 6 rfl fun K hK => ?_
       go_simp
       refine (HM.out _ hH).mono ?_; rintro r W5 ⟨rfl, B5⟩
       go_wp2_with fail
       refine hK.out _ _ (za_ hH B5) fun hH => ?_
       clear B5
       refine stP ?_
       refine tkq3 7 8 9 ?_
       refine tkr 10 rfl Xf0 ?_
       refine tkq4 11 12 13 14 ?_
       refine tkn 15 ?_
       refine tkn 16 ?_
       refine tkq2 17 18 ?_
       refine tkn 19 ?_
       refine tkn 20 ?_
       refine tkq3 21 22 23 ?_
       exact Xb39
      by_cases e3 : ok' = 3
      ·subst e3
       go_wp2_with fail
       refine wp_region_held_drew (S := (fun W => Below wr.heap.size wr W)) Xt3 ((Below.refl _ _).drew) fun hH => ?_
       refine tkr 0 rfl Xf0 ?_
       refine tkq 1 ?_
       refine tkr 2 rfl Xf0 ?_
       refine tkq2 3 4 ?_
       refine tkr 5 rfl Xf0 ?_
       refine tk1 6 rfl fun K hK => ?_
       go_simp
       refine (HM.out _ hH).mono ?_; rintro r W5 ⟨rfl, B5⟩
       go_wp2_with fail
       refine hK.out _ _ (za_ hH B5) fun hH => ?_
       clear B5
       refine stP ?_
       refine tkq3 7 8 9 ?_
       refine tkr 10 rfl Xf0 ?_
       refine tkq4 11 12 13 14 ?_
       refine tkq4 15 16 17 18 ?_
       refine tkn 19 ?_
       refine tkn 20 ?_
       refine tkq3 21 22 23 ?_
       exact Xb39
      by_cases e4 : ok' = 4
      ·subst e4
       go_wp2_with fail
       refine wp_region_held_drew (S := (fun W => Below wr.heap.size wr W)) Xt3 ((Below.refl _ _).drew) fun hH => ?_
       refine tkr 0 rfl Xf0 ?_
       refine tkq 1 ?_
       refine tkr 2 rfl Xf0 ?_
       refine tkq2 3 4 ?_
       refine tkr 5 rfl Xf0 ?_
       refine tk1 6 rfl fun K hK => ?_
       go_simp
       refine (HM.out _ hH).mono ?_; rintro r W5 ⟨rfl, B5⟩
       go_wp2_with fail
       refine hK.out _ _ (za_ hH B5) fun hH => ?_
       clear B5
       refine stP ?_
       refine tkq3 7 8 9 ?_
       refine tkr 10 rfl Xf0 ?_
       refine tkq4 11 12 13 14 ?_
       refine tkq4 15 16 17 18 ?_
       refine tkq4 19 20 21 22 ?_
       refine tkq 23 ?_
       exact Xb39
      ·have f2 : (ok' == 2) = false := by simpa using e2
       have f3 : (ok' == 3) = false := by simpa using e3
       have f4 : (ok' == 4) = false := by simpa using e4
       go_wp2_with fail
       refine wp_region_held_drew (S := (fun W => Below wr.heap.size wr W)) Xt3 ((Below.refl _ _).drew) fun hH => ?_
       refine tkr 0 rfl Xf0 ?_
       refine tkq 1 ?_
       refine tkr 2 rfl Xf0 ?_
       refine tkq2 3 4 ?_
       refine tkr 5 rfl Xf0 ?_
       refine tk1 6 rfl fun K hK => ?_
       go_simp
       refine (HM.out _ hH).mono ?_; rintro r W5 ⟨rfl, B5⟩
       go_wp2_with fail
       refine hK.out _ _ (za_ hH B5) fun hH => ?_
       clear B5
       refine stP ?_
       refine tkq3 7 8 9 ?_
       refine tkr 10 rfl Xf0 ?_
       refine tkq4 11 12 13 14 ?_
       refine tkq4 15 16 17 18 ?_
       refine tkq4 19 20 21 22 ?_
       refine tkq 23 ?_
       refine adn ?_
       have H9 := hid (za_ BR.out hH)
       clear hH
       go_wp2_with fail
       go_roundw
       case rel => exact ⟨k + 1, by have := HLT.out; omega, by go_num, hid (HST.out (by rw [HOB.out, HK'.out, f2, f3, f4]; rfl)), H9⟩
       case measure => simp [intOf]; have := HLT.out; omega
   ·have hkl : ¬ (k : Int) < (x.on : Int) := by omega
    have HE := hid (HYES.out Xt36 HON.out Xt36 (fun q hq o ho => HALL.out q (by have := HOL.out; omega) o ho))
    go_wp2_with fail
    go_ret
    exact ⟨zc_ HE.out.symm, za_ HB0.out BW.out⟩
end
section
open Go.Maps
theorem TlR.wr {S : Nat -> Prop} {base : Nat} {w w' : World} {m : Md} {x : Tl} (h : TlR S base w m x) {B : Nat} (hS : S B) (hB : base <= B) (hn : ¬ Mut x B) (hr : x.rv.ownBlock ≠ some B) (o : Off (fun k => k = B) w w') : TlR S base w' m x := by
 have hT : ∀ k, (fun k => k = B) k -> S k /\ base <= k := fun k hk => by cases hk; exact ⟨hS, hB⟩
 have hS' : ∀ k, S k -> S k ∨ w.heap.size <= k := fun k hk => .inl hk
 exact h.next o hT x rfl rfl rfl rfl rfl (o.box h.box fun e => hn (.inl e.symm)) (fun y hy => (h.wmaps y hy).off o fun e => hn (.inr (.inl ⟨y, hy, e.symm⟩))) (zn_ h.own o fun g hg e => hn (.inr (.inr (by rw [hg, e])))) (zn_ h.rown o fun g hg e => hr (by rw [hg, e])) S (fun _ h => h) hS'
  (fun k hk => Nat.lt_of_lt_of_le (h.bd k hk) o.size) h.hw h.hr (h.keepw o hT hS') h.wok (h.keepr o hT hS') h.coh h.wl h.few h.rfew
def jM_ (S : Nat -> Prop) (a b : Nat) (k : Nat) : Prop := S k ∨ (a <= k /\ k < b)
theorem TlR.grow {S : Nat -> Prop} {base : Nat} {w w' : World} {m : Md} {x : Tl} (h : TlR S base w m x) (b : Below w.heap.size w w') : TlR (jM_ S w.heap.size w'.heap.size) base w' m x := by
 have o : Off (fun _ => False) w w' := Off.of b
 have hT : ∀ k, (fun _ : Nat => False) k -> S k /\ base <= k := fun k hk => hk.elim
 have hS' : ∀ k, jM_ S w.heap.size w'.heap.size k -> S k ∨ w.heap.size <= k := fun k hk => hk.imp id And.left
 exact h.next o hT x rfl rfl rfl rfl rfl (h.box.below b) (fun y hy => (h.wmaps y hy).below b) (ze_ h.own b) (ze_ h.rown b) _ (fun _ h => .inl h) hS' (fun k hk => hk.elim (fun hk => Nat.lt_of_lt_of_le (h.bd k hk) b.size) And.right) (fun g hg => .inl (h.hw g hg)) (fun g hg => .inl (h.hr g hg)) (h.keepw o hT hS') h.wok (h.keepr o hT hS') h.coh h.wl h.few h.rfew
theorem TSt.box {S S3 : Nat -> Prop} {base : Nat} {w w2 w3 w4 : World} {m : Md} {x x' : Tl} (h : TlR S base w m x) (hb : base <= w.heap.size) (b : Below w.heap.size w w2) (st : TSt (jM_ S w.heap.size w2.heap.size) S3 base w2 m x w3 x') {B : Nat} (h1 : w.heap.size <= B) (h2 : B < w2.heap.size) (o : Off (fun k => k = B) w3 w4) : TSt S S3 base w m x w4 x' := by
 have hsd : ∀ k, S3 k -> S k ∨ w.heap.size <= k := fun k hk => by
  rcases st.sd k hk with (hk | hk) | hk
  ·exact .inl hk
  ·exact .inr hk.1
  ·have := b.size; exact .inr Xt0
 have hmu : ∀ k, Mut x' k -> Mut x k ∨ w.heap.size <= k := fun k hk => (st.mu k hk).imp id fun hk => by have := b.size; omega
 refine ⟨?_, fun k hk => st.su k (.inl hk), hsd, ?_, hmu, st.px, st.bx, st.bm, st.rv, st.rs⟩
 ·refine st.tl.wr (st.su B (.inr ⟨h1, h2⟩)) Xt0 (fun hk => ?_) (fun hk => ?_) o
  ·rcases st.mu B hk with hk | hk
   ·have := h.bd B (h.mut B hk).1; omega
   ·omega
  ·rw [st.rv] at hk
   have := (zb_ h.rown hk).2.1
   omega
 ·have o2 : Off (Mut x) w w3 := (Off.of b).trans st.off
  refine ⟨o.os.trans o2.os, o.tape.trans o2.tape, o.output.trans o2.output, Nat.le_trans o2.size o.size, fun k hk hn => ?_⟩
  exact (o.block k (Nat.lt_of_lt_of_le hk o2.size) (fun e => by cases e; omega)).trans (o2.block k hk hn)
theorem TSt.same {S : Nat -> Prop} {base : Nat} {w w' : World} {m : Md} {x : Tl} (h : TlR S base w m x) (b : Below w.heap.size w w') : TSt S S base w m x w' x :=
 ⟨h.below b, fun _ h => h, fun _ h => .inl h, Off.of b, fun _ h => .inl h, rfl, rfl, rfl, rfl, rfl⟩
def y8_ (T : List (List Pr)) (ws : List (Nat × List Int × List (List Int))) (t : Nat) (K : List Int) : Option (List (List Int)) :=
 match ws.find? fun w => decide (w.1 = t /\ w.2.1 = K) with
 | some w => if w.2.2 = [] then none else some w.2.2
 | none => y9_ (T.getD t []) K
theorem getX_P (m : Md) (x : Tl) {t : Nat} (ht : t < m.tabs.length) (K : List Int) : (getX m x t K).map RV.P = y8_ m.P (x.ws.map WtV.P) t K := by
 unfold getX y8_
 rw [List.find?_map]
 have : ((fun w : Nat × List Int × List (List Int) => decide (w.1 = t /\ w.2.1 = K)) ∘ WtV.P) = fun w : WtV => decide (w.t = t /\ w.K = K) := rfl
 rw [this]
 cases x.ws.find? (fun w : WtV => decide (w.t = t /\ w.K = K)) with
 | some w =>
  show Option.map RV.P (if w.r.R = [] then none else some w.r) = if w.r.P = [] then none else some w.r.P
  by_cases e : w.r.R = []
  ·rw [if_pos e, if_pos (by unfold RV.P; rw [e]; rfl)]; rfl
  ·rw [if_neg e, if_neg (by unfold RV.P; simpa using e)]; rfl
 | none =>
  obtain ⟨z, hz⟩ : ∃ z, m.tabs[t]? = some z := ⟨_, List.getElem?_eq_getElem ht⟩
  have e : m.P.getD t [] = yh_ z.2 := by
   unfold Md.P
   rw [List.getD_eq_getElem?_getD, List.getElem?_map, hz]; rfl
  show Option.map RV.P (match m.tabs[t]? with | some y => zU_ y.2 K | none => none) = y9_ (m.P.getD t []) K
  rw [hz, e, yR_]
def Qr_ (S : Nat -> Prop) (base : Nat) (w : World) (m : Md) (x : Tl) (ans : Int × List Pr) (ws : List (Nat × List Int × List (List Int))) (r : Ending) (w' : World) : Prop :=
 ∃ S' x' y, r = .returned (.agg #[.int .i64 y.e, .slice y.pa y.P.length y.pc]) /\ TSt S S' base w m x w' x' /\ yC_ y = ans /\ ys_ y /\ zs_ (Rb S' base) w' (fun W' => yg_ W' y.pa y.P) /\ x'.ws.map WtV.P = ws
structure OpG (S : Nat -> Prop) (base : Nat) (w : World) (m : Md) (o : zj_) (t : Nat) : Prop where
 at' : zs_ (Ab S base) w fun W => zy_ W o
 te : o.t = (t : Int)
 tl : t < m.tabs.length
 ko : zH_ o.K
 ro : o.R ≠ [] -> rOk (o.R.map P1.bs)
theorem OpG.grow {S : Nat -> Prop} {base : Nat} {w w' : World} {m : Md} {o : zj_} {t : Nat} (h : OpG S base w m o t) (b : Below w.heap.size w w') : OpG (jM_ S w.heap.size w'.heap.size) base w' m o t := ⟨h.at'.step (Off.of b) fun k hk => hk.1.elim (fun h => .inl ⟨h, hk.2⟩) fun h => .inr h.1, h.te, h.tl, h.ko, h.ro⟩
theorem res_zero : ys_ ⟨0, none, 0, []⟩ := ⟨by simp, fun p hp => by simp at hp⟩
theorem zp_.nil (W : World) (a : Option Addr) : zp_ W a [] := fun k x h => by simp at h
theorem tput_law {S : Nat -> Prop} {base : Nat} {w : World} {m : Md} {x : Tl} (h : TlR S base w m x) (hbs : base <= w.heap.size) (o : zj_) (t : Nat) (ho : OpG S base w m o t) (hf : x.ws.length < 1000) :
  Calls prog 124 #[.pointer (some ⟨x.px, 0, none⟩), .agg #[.int .i64 o.k, .int .i64 o.t, .int .i64 o.i, .slice o.ka o.kn o.kc, .slice o.ta o.tn o.tc, .int .i64 o.m, .slice o.ra o.rn o.rc]] w (Qr_ S base w m x (0, []) (xX_ (x.ws.map WtV.P) t o.K (o.R.map P1.bs))) := by
 obtain ⟨hb, hbx⟩ := yr_ w #[.int .i64 o.k, .int .i64 o.t, .int .i64 o.i, .slice o.ka o.kn o.kc, .slice o.ta o.tn o.tc, .int .i64 o.m, .slice o.ra o.rn o.rc] #[.int .i64 0, .slice none 0 0] 74 81
 have h2 := h.grow hb
 have ho2 := ho.grow hb
 have hst := ho2.at'.now
 have HS := hid (tset_law h2 (Nat.le_trans hbs hb.size) t ho.tl o.K ho.ko o.ka o.kn o.kc hst.kl (ho2.at'.mono fun W hW => hW.ks) o.ra o.rn o.rc o.R hst.rl ho.ro (ho2.at'.mono fun W hW => hW.rs) hf)
 rw [← ho.te] at HS
 have HH := hid (And.intro h (And.intro hbs (And.intro hb hbx)))
 obtain ⟨b0, b1⟩ := hbx _ (Below.refl _ _)
 have c1 := b0.cell 1
 have c3 := b0.cell 3
 have c6 := b0.cell 6
 simp only [gtA, gtB, gtC] at c1 c3 c6
 clear h hbs ho hf h2 ho2 hst hb hbx b0 b1
 go_enter func124, ntmps124
 go_wp2_with fail
 refine HS.out.mono ?_; rintro r w3 ⟨rfl, S3, x', hst, hws⟩
 have HST := hid (And.intro hst hws)
 have HB3 := hid (hst.off.box (HH.out.2.2.2 _ (Below.refl _ _)).2 Xt35)
 clear hst hws
 have g0 := HB3.out.cell 0
 have g1 := HB3.out.cell 1
 have i0 := HB3.out.frozen 0
 have i1 := HB3.out.frozen 1
 simp only [gtA, gtB, gtC] at g0 g1
 go_wp2_with fail
 clear g0 g1 i0 i1
 have hb4 := zg_.set2 (x := .int .i64 0) (y := .slice none 0 0) HB3.out
 have ho4 : Off (fun k => k = w.heap.size + 1) w3 ((w3.setCell ⟨w.heap.size + 1, 0, none⟩ (.int .i64 0)).setCell ⟨w.heap.size + 1, 1, none⟩ (.slice none 0 0)) :=
  Off.set (S := fun k => k = w.heap.size + 1) (Off.set (S := fun k => k = w.heap.size + 1) (Off.refl _ w3) ⟨w.heap.size + 1, 0, none⟩ rfl _) ⟨w.heap.size + 1, 1, none⟩ rfl _
 revert hb4 ho4
 generalize (w3.setCell ⟨w.heap.size + 1, 0, none⟩ (.int .i64 0)).setCell ⟨w.heap.size + 1, 1, none⟩ (.slice none 0 0) = w4
 intro hb4 ho4
 have q0 := hb4.cell 0
 have q1 := hb4.cell 1
 have HO4 := hid ho4
 clear hb4 ho4
 refine bodyPost_end (v := .agg #[.int .i64 0, .slice none 0 0]) (by simp [results, results124, go_sem, q0, q1]) rfl ?_
 refine ⟨S3, x', ⟨0, none, 0, []⟩, rfl, HST.out.1.box HH.out.1 HH.out.2.1 HH.out.2.2.1 (Nat.le_succ _) Xt5 HO4.out, rfl, res_zero, fun W' o => yg_.nil _ _, HST.out.2⟩
theorem yb_ (e : Int) : ys_ ⟨e, none, 0, []⟩ := ⟨by simp, fun p hp => by simp at hp⟩
theorem tinsert_law {S : Nat -> Prop} {base : Nat} {w : World} {m : Md} {x : Tl} (h : TlR S base w m x) (hbs : base <= w.heap.size) (o : zj_) (t : Nat) (ho : OpG S base w m o t) (hf : x.ws.length < 1000) :
  Calls prog 125 #[.pointer (some ⟨x.px, 0, none⟩), .agg #[.int .i64 o.k, .int .i64 o.t, .int .i64 o.i, .slice o.ka o.kn o.kc, .slice o.ta o.tn o.tc, .int .i64 o.m, .slice o.ra o.rn o.rc]] w (Qr_ S base w m x (if (y8_ m.P (x.ws.map WtV.P) t o.K).isSome then ((7, []) : Int × List Pr) else (0, [])) (if (y8_ m.P (x.ws.map WtV.P) t o.K).isSome then x.ws.map WtV.P else xX_ (x.ws.map WtV.P) t o.K (o.R.map P1.bs))) := by
 obtain ⟨hb, hbx⟩ := yr_ w #[.int .i64 o.k, .int .i64 o.t, .int .i64 o.i, .slice o.ka o.kn o.kc, .slice o.ta o.tn o.tc, .int .i64 o.m, .slice o.ra o.rn o.rc] #[.int .i64 0, .slice none 0 0] 74 81
 have hst := ho.at'.now
 obtain ⟨w2, hw2⟩ := gty (((w.alloc (.cells #[.int .i64 o.k, .int .i64 o.t, .int .i64 o.i, .slice o.ka o.kn o.kc, .slice o.ta o.tn o.tc, .int .i64 o.m, .slice o.ra o.rn o.rc] 74)).alloc (.cells #[.int .i64 0, .slice none 0 0] 81)))
 rw [← hw2] at hb hbx
 have h2 := h.below hb
 have hat2 := ho.at'.below hb
 obtain ⟨c0, c1, c2, c3, c4⟩ := h2.c
 have hbx2 := hbx w2 (Below.refl _ _)
 have HX := hid (fun X (b : Below w2.heap.size w2 X) => (⟨tcb b c4, by rw [(hbx X b).1.cell]; simp only [gtA, gtB, gtC]; rw [ho.te], by rw [(hbx X b).1.cell]; simp only [gtA, gtB, gtC], zA_ X o.ka o.kn o.kc o.K hst.kl (hat2.below b).now.ks.rd⟩ : X.cell? ⟨x.px, 4, none⟩ = some (.func (.func 107) #[] #[.pointer (some ⟨x.bx, 0, none⟩), .pointer (some ⟨x.bm, 0, none⟩)]) /\ X.cell? ⟨w.heap.size, 1, none⟩ = some (.int .i64 (t : Int)) /\ X.cell? ⟨w.heap.size, 3, none⟩ = some (.slice o.ka o.kn o.kc) /\ (convert 42 9 (.slice o.ka o.kn o.kc)).run prog X = .ok (.string (strOfNums o.K)) X))
 have HG := hid (fun X (b : Below w2.heap.size w2 X) => qB_ (h2.below b) t ho.tl o.K ho.ko.1 (by have := ho.ko.2; omega))
 have HH := hid (And.intro h (And.intro hbs (And.intro hb hbx)))
 have HO := hid ho
 have HP := hid (getX_P m x ho.tl o.K)
 have HW2 := hid hw2
 have HF := hid hf
 obtain ⟨g, hg⟩ := gtx (getX m x t o.K)
 rw [hg] at HG HP
 have HGX := hid hg
 clear h hbs ho hf h2 hat2 hst hb hbx hbx2 c0 c1 c2 c3 c4 hg
 rw [← HP.out]
 clear HP
 cases g with
 | some y =>
  rw [if_pos (show (Option.map RV.P (some y)).isSome = true from rfl), if_pos (show (Option.map RV.P (some y)).isSome = true from rfl)]
  go_enter func125, ntmps125
  go_upto_region 1 with (fail)
  rw [← hw2]
  clear hw2
  refine rgw w2 (Below.refl _ _).drew fun hH => ?_
  refine tkq3 0 1 2 ?_
  refine tkr 3 rfl Xf1 ?_
  refine tkq 4 ?_
  refine tkr 5 rfl Xf3 ?_
  refine tkq 6 ?_
  refine tkr 7 rfl Xf2 ?_
  refine tkr 8 rfl Xf6 ?_
  refine tk1 9 rfl fun K hK => ?_
  go_simp
  refine (HG.out _ hH).mono ?_; rintro r w5 ⟨⟨v5, rfl, hv5⟩, rfl⟩
  have HV5 := hid hv5
  go_wp2_with fail
  try simp only [Option.isSome_some, Option.isSome_none]
  refine hK.out _ _ hH (fun hHeldn => ?_)
  clear hK K hH hv5; have hH := hHeldn; clear hHeldn
  refine stP ?_
  refine tkq4 10 11 12 13 ?_
  refine tkq 14 ?_
  refine adn ?_
  skip
  obtain ⟨w3, hw3⟩ := gty (w2.drew)
  rw [← hw3] at hH ⊢
  have HB3 := hid ((HH.out.2.2.2 w3 hH).2)
  have HBW := hid (HH.out.2.2.1.trans (hH.mono HH.out.2.2.1.size))
  clear hH hw3
  have g0 := HB3.out.cell 0
  have g1 := HB3.out.cell 1
  have i0 := HB3.out.frozen 0
  have i1 := HB3.out.frozen 1
  simp only [gtA, gtB, gtC] at g0 g1
  go_wp2_with fail
  clear g0 g1 i0 i1
  have hb4 := zg_.set2 (x := .int .i64 7) (y := .slice none 0 0) HB3.out
  have ho4 : Off (fun k => k = w.heap.size + 1) w3 ((w3.setCell ⟨w.heap.size + 1, 0, none⟩ (.int .i64 7)).setCell ⟨w.heap.size + 1, 1, none⟩ (.slice none 0 0)) :=
   Off.set (S := fun k => k = w.heap.size + 1) (Off.set (S := fun k => k = w.heap.size + 1) (Off.refl _ w3) ⟨w.heap.size + 1, 0, none⟩ rfl _) ⟨w.heap.size + 1, 1, none⟩ rfl _
  revert hb4 ho4
  generalize (w3.setCell ⟨w.heap.size + 1, 0, none⟩ (.int .i64 7)).setCell ⟨w.heap.size + 1, 1, none⟩ (.slice none 0 0) = w4
  intro hb4 ho4
  have q0 := hb4.cell 0
  have q1 := hb4.cell 1
  have HO4 := hid ho4
  clear hb4 ho4
  refine bodyPost_end (v := .agg #[.int .i64 7, .slice none 0 0]) (by simp [results, results125, go_sem, q0, q1]) rfl ?_
  refine ⟨S, x, ⟨7, none, 0, []⟩, rfl, TSt.same HH.out.1 (by
   refine Off.below HBW.out HO4.out HBW.out.size Xt37), rfl, yb_ _, fun W' o => yg_.nil _ _, rfl⟩
 | none =>
  rw [if_neg (show ¬ (Option.map RV.P (none : Option RV)).isSome = true from fun e => by cases e), if_neg (show ¬ (Option.map RV.P (none : Option RV)).isSome = true from fun e => by cases e)]
  go_enter func125, ntmps125
  go_upto_region 1 with (fail)
  rw [← hw2]
  clear hw2
  refine rgw w2 (Below.refl _ _).drew fun hH => ?_
  refine tkq3 0 1 2 ?_
  refine tkr 3 rfl Xf1 ?_
  refine tkq 4 ?_
  refine tkr 5 rfl Xf3 ?_
  refine tkq 6 ?_
  refine tkr 7 rfl Xf2 ?_
  refine tkr 8 rfl Xf6 ?_
  refine tk1 9 rfl fun K hK => ?_
  go_simp
  refine (HG.out _ hH).mono ?_; rintro r w5 ⟨⟨v5, rfl, hv5⟩, rfl⟩
  have HV5 := hid hv5
  go_wp2_with fail
  try simp only [Option.isSome_some, Option.isSome_none]
  refine hK.out _ _ hH (fun hHeldn => ?_)
  clear hK K hH hv5; have hH := hHeldn; clear hHeldn
  refine stP ?_
  refine tkq4 10 11 12 13 ?_
  refine tkq 14 ?_
  refine adn ?_
  skip
  obtain ⟨w6, hw6⟩ := gty (w2.drew)
  rw [← hw6] at hH ⊢
  have HB6 := hid (HH.out.2.2.1.trans (hH.mono HH.out.2.2.1.size))
  have HX6 := hid (HH.out.2.2.2 w6 hH)
  have HPUT := hid (tput_law (HH.out.1.grow HB6.out) (Nat.le_trans HH.out.2.1 HB6.out.size) o t (HO.out.grow HB6.out) HF.out)
  have c0 := HX6.out.1.cell 0
  have c1 := HX6.out.1.cell 1
  have c2 := HX6.out.1.cell 2
  have c3 := HX6.out.1.cell 3
  have c4 := HX6.out.1.cell 4
  have c5 := HX6.out.1.cell 5
  have c6 := HX6.out.1.cell 6
  simp only [gtA, gtB, gtC] at c0 c1 c2 c3 c4 c5 c6
  clear hH hw6
  go_wp2_with fail
  refine HPUT.out.mono ?_; rintro r w3 ⟨S3, x', y, rfl, hst, hans, hok, hpr, hws⟩
  have HST := hid (And.intro hst (And.intro hans (And.intro hok (And.intro hpr hws))))
  have HB3 := hid (hst.off.box HX6.out.2 Xt35)
  have HL6 := hid (show w.heap.size + 1 < w6.heap.size from HX6.out.2.lt)
  clear hst hans hok hpr hws c0 c1 c2 c3 c4 c5 c6
  have g0 := HB3.out.cell 0
  have g1 := HB3.out.cell 1
  have i0 := HB3.out.frozen 0
  have i1 := HB3.out.frozen 1
  simp only [gtA, gtB, gtC] at g0 g1
  go_wp2_with fail
  clear g0 g1 i0 i1
  have hb4 := zg_.set2 (x := .int .i64 y.e) (y := .slice y.pa y.P.length y.pc) HB3.out
  have ho4 : Off (fun k => k = w.heap.size + 1) w3 ((w3.setCell ⟨w.heap.size + 1, 0, none⟩ (.int .i64 y.e)).setCell ⟨w.heap.size + 1, 1, none⟩ (.slice y.pa y.P.length y.pc)) :=
   Off.set (S := fun k => k = w.heap.size + 1) (Off.set (S := fun k => k = w.heap.size + 1) (Off.refl _ w3) ⟨w.heap.size + 1, 0, none⟩ rfl _) ⟨w.heap.size + 1, 1, none⟩ rfl _
  revert hb4 ho4
  generalize (w3.setCell ⟨w.heap.size + 1, 0, none⟩ (.int .i64 y.e)).setCell ⟨w.heap.size + 1, 1, none⟩ (.slice y.pa y.P.length y.pc) = w4
  intro hb4 ho4
  have q0 := hb4.cell 0
  have q1 := hb4.cell 1
  have HO4 := hid ho4
  clear hb4 ho4
  refine bodyPost_end (v := .agg #[.int .i64 y.e, .slice y.pa y.P.length y.pc]) (by simp [results, results125, go_sem, q0, q1]) rfl ?_
  refine ⟨S3, x', y, rfl, HST.out.1.box HH.out.1 HH.out.2.1 HB6.out (Nat.le_succ _) HL6.out HO4.out, HST.out.2.1, HST.out.2.2.1, HST.out.2.2.2.1.off (HO4.out.mono fun k hk => by cases hk; exact .inl (HST.out.1.su _ (.inr ⟨Nat.le_succ _, HL6.out⟩))), HST.out.2.2.2.2⟩
theorem tremove_law {S : Nat -> Prop} {base : Nat} {w : World} {m : Md} {x : Tl} (h : TlR S base w m x) (hbs : base <= w.heap.size) (o : zj_) (t : Nat) (ho : OpG S base w m o t) (hf : x.ws.length < 1000) :
  Calls prog 126 #[.pointer (some ⟨x.px, 0, none⟩), .agg #[.int .i64 o.k, .int .i64 o.t, .int .i64 o.i, .slice o.ka o.kn o.kc, .slice o.ta o.tn o.tc, .int .i64 o.m, .slice o.ra o.rn o.rc]] w (Qr_ S base w m x (if (y8_ m.P (x.ws.map WtV.P) t o.K).isSome then ((0, []) : Int × List Pr) else (6, [])) (if (y8_ m.P (x.ws.map WtV.P) t o.K).isSome then xX_ (x.ws.map WtV.P) t o.K [] else x.ws.map WtV.P)) := by
 obtain ⟨hb, hbx⟩ := yr_ w #[.int .i64 o.k, .int .i64 o.t, .int .i64 o.i, .slice o.ka o.kn o.kc, .slice o.ta o.tn o.tc, .int .i64 o.m, .slice o.ra o.rn o.rc] #[.int .i64 0, .slice none 0 0] 74 81
 have hst := ho.at'.now
 obtain ⟨w2, hw2⟩ := gty (((w.alloc (.cells #[.int .i64 o.k, .int .i64 o.t, .int .i64 o.i, .slice o.ka o.kn o.kc, .slice o.ta o.tn o.tc, .int .i64 o.m, .slice o.ra o.rn o.rc] 74)).alloc (.cells #[.int .i64 0, .slice none 0 0] 81)))
 rw [← hw2] at hb hbx
 have h2 := h.below hb
 have hat2 := ho.at'.below hb
 obtain ⟨c0, c1, c2, c3, c4⟩ := h2.c
 have hbx2 := hbx w2 (Below.refl _ _)
 have HX := hid (fun X (b : Below w2.heap.size w2 X) => (⟨tcb b c4, by rw [(hbx X b).1.cell]; simp only [gtA, gtB, gtC]; rw [ho.te], by rw [(hbx X b).1.cell]; simp only [gtA, gtB, gtC], zA_ X o.ka o.kn o.kc o.K hst.kl (hat2.below b).now.ks.rd⟩ : X.cell? ⟨x.px, 4, none⟩ = some (.func (.func 107) #[] #[.pointer (some ⟨x.bx, 0, none⟩), .pointer (some ⟨x.bm, 0, none⟩)]) /\ X.cell? ⟨w.heap.size, 1, none⟩ = some (.int .i64 (t : Int)) /\ X.cell? ⟨w.heap.size, 3, none⟩ = some (.slice o.ka o.kn o.kc) /\ (convert 42 9 (.slice o.ka o.kn o.kc)).run prog X = .ok (.string (strOfNums o.K)) X))
 have HG := hid (fun X (b : Below w2.heap.size w2 X) => qB_ (h2.below b) t ho.tl o.K ho.ko.1 (by have := ho.ko.2; omega))
 have HH := hid (And.intro h (And.intro hbs (And.intro hb hbx)))
 have HO := hid ho
 have HP := hid (getX_P m x ho.tl o.K)
 have HW2 := hid hw2
 have HF := hid hf
 obtain ⟨g, hg⟩ := gtx (getX m x t o.K)
 rw [hg] at HG HP
 have HGX := hid hg
 clear h hbs ho hf h2 hat2 hst hb hbx hbx2 c0 c1 c2 c3 c4 hg
 rw [← HP.out]
 clear HP
 cases g with
 | none =>
  rw [if_neg (show ¬ (Option.map RV.P (none : Option RV)).isSome = true from fun e => by cases e), if_neg (show ¬ (Option.map RV.P (none : Option RV)).isSome = true from fun e => by cases e)]
  go_enter func126, ntmps126
  go_upto_region 1 with (fail)
  rw [← hw2]
  clear hw2
  refine rgw w2 (Below.refl _ _).drew fun hH => ?_
  refine tkq3 0 1 2 ?_
  refine tkr 3 rfl Xf1 ?_
  refine tkq 4 ?_
  refine tkr 5 rfl Xf3 ?_
  refine tkq 6 ?_
  refine tkr 7 rfl Xf2 ?_
  refine tkr 8 rfl Xf6 ?_
  refine tk1 9 rfl fun K hK => ?_
  go_simp
  refine (HG.out _ hH).mono ?_; rintro r w5 ⟨⟨v5, rfl, hv5⟩, rfl⟩
  have HV5 := hid hv5
  go_wp2_with fail
  try simp only [Option.isSome_some, Option.isSome_none]
  refine hK.out _ _ hH (fun hHeldn => ?_)
  clear hK K hH hv5; have hH := hHeldn; clear hHeldn
  refine stP ?_
  refine tkq4 10 11 12 13 ?_
  refine tkq 14 ?_
  refine adn ?_
  skip
  obtain ⟨w3, hw3⟩ := gty (w2.drew)
  rw [← hw3] at hH ⊢
  have HB3 := hid ((HH.out.2.2.2 w3 hH).2)
  have HBW := hid (HH.out.2.2.1.trans (hH.mono HH.out.2.2.1.size))
  clear hH hw3
  have g0 := HB3.out.cell 0
  have g1 := HB3.out.cell 1
  have i0 := HB3.out.frozen 0
  have i1 := HB3.out.frozen 1
  simp only [gtA, gtB, gtC] at g0 g1
  go_wp2_with fail
  clear g0 g1 i0 i1
  have hb4 := zg_.set2 (x := .int .i64 6) (y := .slice none 0 0) HB3.out
  have ho4 : Off (fun k => k = w.heap.size + 1) w3 ((w3.setCell ⟨w.heap.size + 1, 0, none⟩ (.int .i64 6)).setCell ⟨w.heap.size + 1, 1, none⟩ (.slice none 0 0)) :=
   Off.set (S := fun k => k = w.heap.size + 1) (Off.set (S := fun k => k = w.heap.size + 1) (Off.refl _ w3) ⟨w.heap.size + 1, 0, none⟩ rfl _) ⟨w.heap.size + 1, 1, none⟩ rfl _
  revert hb4 ho4
  generalize (w3.setCell ⟨w.heap.size + 1, 0, none⟩ (.int .i64 6)).setCell ⟨w.heap.size + 1, 1, none⟩ (.slice none 0 0) = w4
  intro hb4 ho4
  have q0 := hb4.cell 0
  have q1 := hb4.cell 1
  have HO4 := hid ho4
  clear hb4 ho4
  refine bodyPost_end (v := .agg #[.int .i64 6, .slice none 0 0]) (by simp [results, results126, go_sem, q0, q1]) rfl ?_
  exact Xb74
 | some y =>
  rw [if_pos (show (Option.map RV.P (some y)).isSome = true from rfl), if_pos (show (Option.map RV.P (some y)).isSome = true from rfl)]
  go_enter func126, ntmps126
  go_upto_region 1 with (fail)
  rw [← hw2]
  clear hw2
  refine rgw w2 (Below.refl _ _).drew fun hH => ?_
  refine tkq3 0 1 2 ?_
  refine tkr 3 rfl Xf1 ?_
  refine tkq 4 ?_
  refine tkr 5 rfl Xf3 ?_
  refine tkq 6 ?_
  refine tkr 7 rfl Xf2 ?_
  refine tkr 8 rfl Xf6 ?_
  refine tk1 9 rfl fun K hK => ?_
  go_simp
  refine (HG.out _ hH).mono ?_; rintro r w5 ⟨⟨v5, rfl, hv5⟩, rfl⟩
  have HV5 := hid hv5
  go_wp2_with fail
  try simp only [Option.isSome_some, Option.isSome_none]
  refine hK.out _ _ hH (fun hHeldn => ?_)
  clear hK K hH hv5; have hH := hHeldn; clear hHeldn
  refine stP ?_
  refine tkq4 10 11 12 13 ?_
  refine tkq 14 ?_
  refine adn ?_
  skip
  obtain ⟨w6, hw6⟩ := gty (w2.drew)
  rw [← hw6] at hH ⊢
  have HB6 := hid (HH.out.2.2.1.trans (hH.mono HH.out.2.2.1.size))
  have HX6 := hid (HH.out.2.2.2 w6 hH)
  have HC6 := hid ((HX.out w6 hH).2.2.2)
  have hst := HO.out.at'.now
  have HSET := hid (tset_law (HH.out.1.grow HB6.out) (Nat.le_trans HH.out.2.1 HB6.out.size) t HO.out.tl o.K HO.out.ko o.ka o.kn o.kc hst.kl ((HO.out.grow HB6.out).at'.mono fun W hW => hW.ks) none 0 0 [] rfl (fun e => absurd rfl e) (fun W' _ => RdR.nil W' none) HF.out)
  rw [← HO.out.te] at HSET
  clear hst
  have c1 := HX6.out.1.cell 1
  have c3 := HX6.out.1.cell 3
  simp only [gtA, gtB, gtC] at c1 c3
  clear hH hw6
  go_wp2_with fail
  refine HSET.out.mono ?_; rintro r w3 ⟨rfl, S3, x', hst, hws⟩
  have HST := hid (And.intro hst hws)
  have HB3 := hid (hst.off.box HX6.out.2 Xt35)
  have HL6 := hid (show w.heap.size + 1 < w6.heap.size from HX6.out.2.lt)
  clear hst hws c1 c3
  have g0 := HB3.out.cell 0
  have g1 := HB3.out.cell 1
  have i0 := HB3.out.frozen 0
  have i1 := HB3.out.frozen 1
  simp only [gtA, gtB, gtC] at g0 g1
  go_wp2_with fail
  clear g0 g1 i0 i1
  have hb4 := zg_.set2 (x := .int .i64 0) (y := .slice none 0 0) HB3.out
  have ho4 : Off (fun k => k = w.heap.size + 1) w3 ((w3.setCell ⟨w.heap.size + 1, 0, none⟩ (.int .i64 0)).setCell ⟨w.heap.size + 1, 1, none⟩ (.slice none 0 0)) :=
   Off.set (S := fun k => k = w.heap.size + 1) (Off.set (S := fun k => k = w.heap.size + 1) (Off.refl _ w3) ⟨w.heap.size + 1, 0, none⟩ rfl _) ⟨w.heap.size + 1, 1, none⟩ rfl _
  revert hb4 ho4
  generalize (w3.setCell ⟨w.heap.size + 1, 0, none⟩ (.int .i64 0)).setCell ⟨w.heap.size + 1, 1, none⟩ (.slice none 0 0) = w4
  intro hb4 ho4
  have q0 := hb4.cell 0
  have q1 := hb4.cell 1
  have HO4 := hid ho4
  clear hb4 ho4
  refine bodyPost_end (v := .agg #[.int .i64 0, .slice none 0 0]) (by simp [results, results126, go_sem, q0, q1]) rfl ?_
  refine ⟨S3, x', ⟨0, none, 0, []⟩, rfl, HST.out.1.box HH.out.1 HH.out.2.1 HB6.out (Nat.le_succ _) HL6.out HO4.out, rfl, res_zero, fun W' o => yg_.nil _ _, HST.out.2⟩
theorem prs_stay {S : Nat -> Prop} {W : World} {y : PrV} (hs : ∀ k, S k -> k < W.heap.size) (h : zs_ S W fun W' => Ls .u8 W' y.ka y.kc y.K /\ RdR W' y.ra y.R /\ PrW W' y) : zs_ S (W.alloc (.cells #[.slice y.ka y.K.length y.kc, .slice y.ra y.R.length y.rc] 78)) fun W' => yg_ W' (some ⟨W.heap.size, 0, none⟩) [y] := fun W' o => by
 have hb := o.box (zg_.new W #[.slice y.ka y.K.length y.kc, .slice y.ra y.R.length y.rc] 78) (fun e => by have := hs _ e; omega)
 have h2 := (h.below (bl1 W (.cells #[.slice y.ka y.K.length y.kc, .slice y.ra y.R.length y.rc] 78))) W' o
 exact ⟨QJ_ y (by rw [hb.cell]; rfl) (by rw [hb.cell]; rfl) h2.1 h2.2.1, WrB.box hb _, fun p hp => by rw [List.mem_singleton] at hp; subst hp; exact h2.2.2⟩
theorem yF_ {R : List P1} (h : rOk (R.map P1.bs)) : ∀ p ∈ R, Byt p.bs := fun p hp => (h.2.2 p.bs (List.mem_map.2 ⟨p, hp, rfl⟩)).1
theorem TlR.getok {S : Nat -> Prop} {base : Nat} {w : World} {m : Md} {x : Tl} (h : TlR S base w m x) {t : Nat} {K : List Int} {y : RV} (hg : getX m x t K = some y) : rOk y.P /\ zs_ S w fun W => RdR W y.ra y.R := by
 unfold getX at hg
 cases hf : x.ws.find? (fun w : WtV => decide (w.t = t /\ w.K = K)) with
 | some v =>
  rw [hf] at hg
  have hm := List.mem_of_find?_eq_some hf
  simp only at hg
  by_cases e : v.r.R = []
  ·rw [if_pos e] at hg; cases hg
  ·rw [if_neg e] at hg; cases hg
   exact ⟨(h.wok v hm).2.2 e, (h.wst v hm).mono fun W hW => hW.2⟩
 | none =>
  rw [hf] at hg
  simp only at hg
  cases hz : m.tabs[t]? with
  | none => rw [hz] at hg; cases hg
  | some z =>
   rw [hz] at hg
   simp only at hg
   have hzm := List.mem_of_getElem? hz
   have hm := (yd_ (h.md.maps z hzm).ris).1 hg
   exact ⟨(h.md.row hz hm).2, h.md.rows z hzm _ hm⟩
theorem tread_law {S : Nat -> Prop} {base : Nat} {w : World} {m : Md} {x : Tl} (h : TlR S base w m x) (hbs : base <= w.heap.size) (o : zj_) (t : Nat) (ho : OpG S base w m o t) (hf : x.ws.length < 1000) :
  Calls prog 123 #[.pointer (some ⟨x.px, 0, none⟩), .agg #[.int .i64 o.k, .int .i64 o.t, .int .i64 o.i, .slice o.ka o.kn o.kc, .slice o.ta o.tn o.tc, .int .i64 o.m, .slice o.ra o.rn o.rc]] w (Qr_ S base w m x (match (y8_ m.P (x.ws.map WtV.P) t o.K) with | some R => ((0, [(o.K, R)]) : Int × List Pr) | none => (6, [])) (x.ws.map WtV.P)) := by
 obtain ⟨hb, hbx⟩ := yr_ w #[.int .i64 o.k, .int .i64 o.t, .int .i64 o.i, .slice o.ka o.kn o.kc, .slice o.ta o.tn o.tc, .int .i64 o.m, .slice o.ra o.rn o.rc] #[.int .i64 0, .slice none 0 0] 74 81
 have hst := ho.at'.now
 obtain ⟨w2, hw2⟩ := gty (((w.alloc (.cells #[.int .i64 o.k, .int .i64 o.t, .int .i64 o.i, .slice o.ka o.kn o.kc, .slice o.ta o.tn o.tc, .int .i64 o.m, .slice o.ra o.rn o.rc] 74)).alloc (.cells #[.int .i64 0, .slice none 0 0] 81)))
 rw [← hw2] at hb hbx
 have h2 := h.below hb
 have hat2 := ho.at'.below hb
 obtain ⟨c0, c1, c2, c3, c4⟩ := h2.c
 have hbx2 := hbx w2 (Below.refl _ _)
 have HX := hid (fun X (b : Below w2.heap.size w2 X) => (⟨tcb b c4, by rw [(hbx X b).1.cell]; simp only [gtA, gtB, gtC]; rw [ho.te], by rw [(hbx X b).1.cell]; simp only [gtA, gtB, gtC], zA_ X o.ka o.kn o.kc o.K hst.kl (hat2.below b).now.ks.rd⟩ : X.cell? ⟨x.px, 4, none⟩ = some (.func (.func 107) #[] #[.pointer (some ⟨x.bx, 0, none⟩), .pointer (some ⟨x.bm, 0, none⟩)]) /\ X.cell? ⟨w.heap.size, 1, none⟩ = some (.int .i64 (t : Int)) /\ X.cell? ⟨w.heap.size, 3, none⟩ = some (.slice o.ka o.kn o.kc) /\ (convert 42 9 (.slice o.ka o.kn o.kc)).run prog X = .ok (.string (strOfNums o.K)) X))
 have HG := hid (fun X (b : Below w2.heap.size w2 X) => qB_ (h2.below b) t ho.tl o.K ho.ko.1 (by have := ho.ko.2; omega))
 have HH := hid (And.intro h (And.intro hbs (And.intro hb hbx)))
 have HO := hid ho
 have HP := hid (getX_P m x ho.tl o.K)
 have HW2 := hid hw2
 have HF := hid hf
 obtain ⟨g, hg⟩ := gtx (getX m x t o.K)
 rw [hg] at HG HP
 have HGX := hid hg
 clear h hbs ho hf h2 hat2 hst hb hbx hbx2 c0 c1 c2 c3 c4 hg
 rw [← HP.out]
 clear HP
 cases g with
 | none =>
  show Calls _ _ _ _ (Qr_ S base w m x ((6, []) : Int × List Pr) (x.ws.map WtV.P))
  go_enter func123, ntmps123
  go_upto_region 1 with (fail)
  rw [← hw2]
  clear hw2
  refine rgw w2 (Below.refl _ _).drew fun hH => ?_
  refine tkq3 0 1 2 ?_
  refine tkr 3 rfl Xf1 ?_
  refine tkq 4 ?_
  refine tkr 5 rfl Xf3 ?_
  refine tkq 6 ?_
  refine tkr 7 rfl Xf2 ?_
  refine tkr 8 rfl Xf6 ?_
  refine tk1 9 rfl fun K hK => ?_
  go_simp
  refine (HG.out _ hH).mono ?_; rintro r w5 ⟨⟨v5, rfl, hv5⟩, rfl⟩
  have HV5 := hid hv5
  go_wp2_with fail
  try simp only [Option.isSome_some, Option.isSome_none]
  refine hK.out _ _ hH (fun hHeldn => ?_)
  clear hK K hH hv5; have hH := hHeldn; clear hHeldn
  refine stP ?_
  refine tkq4 10 11 12 13 ?_
  refine tkq 14 ?_
  refine adn ?_
  skip
  obtain ⟨w3, hw3⟩ := gty (w2.drew)
  rw [← hw3] at hH ⊢
  have HB3 := hid ((HH.out.2.2.2 w3 hH).2)
  have HBW := hid (HH.out.2.2.1.trans (hH.mono HH.out.2.2.1.size))
  clear hH hw3
  have g0 := HB3.out.cell 0
  have g1 := HB3.out.cell 1
  have i0 := HB3.out.frozen 0
  have i1 := HB3.out.frozen 1
  simp only [gtA, gtB, gtC] at g0 g1
  go_wp2_with fail
  clear g0 g1 i0 i1
  have hb4 := zg_.set2 (x := .int .i64 6) (y := .slice none 0 0) HB3.out
  have ho4 : Off (fun k => k = w.heap.size + 1) w3 ((w3.setCell ⟨w.heap.size + 1, 0, none⟩ (.int .i64 6)).setCell ⟨w.heap.size + 1, 1, none⟩ (.slice none 0 0)) :=
   Off.set (S := fun k => k = w.heap.size + 1) (Off.set (S := fun k => k = w.heap.size + 1) (Off.refl _ w3) ⟨w.heap.size + 1, 0, none⟩ rfl _) ⟨w.heap.size + 1, 1, none⟩ rfl _
  revert hb4 ho4
  generalize (w3.setCell ⟨w.heap.size + 1, 0, none⟩ (.int .i64 6)).setCell ⟨w.heap.size + 1, 1, none⟩ (.slice none 0 0) = w4
  intro hb4 ho4
  have q0 := hb4.cell 0
  have q1 := hb4.cell 1
  have HO4 := hid ho4
  clear hb4 ho4
  refine bodyPost_end (v := .agg #[.int .i64 6, .slice none 0 0]) (by simp [results, results123, go_sem, q0, q1]) rfl ?_
  exact Xb74
 | some y =>
  show Calls _ _ _ _ (Qr_ S base w m x ((0, [(o.K, y.P)]) : Int × List Pr) (x.ws.map WtV.P))
  go_enter func123, ntmps123
  go_upto_region 1 with (fail)
  rw [← hw2]
  clear hw2
  refine rgw w2 (Below.refl _ _).drew fun hH => ?_
  refine tkq3 0 1 2 ?_
  refine tkr 3 rfl Xf1 ?_
  refine tkq 4 ?_
  refine tkr 5 rfl Xf3 ?_
  refine tkq 6 ?_
  refine tkr 7 rfl Xf2 ?_
  refine tkr 8 rfl Xf6 ?_
  refine tk1 9 rfl fun K hK => ?_
  go_simp
  refine (HG.out _ hH).mono ?_; rintro r w5 ⟨⟨v5, rfl, hv5⟩, rfl⟩
  have HV5 := hid hv5
  go_wp2_with fail
  try simp only [Option.isSome_some, Option.isSome_none]
  refine hK.out _ _ hH (fun hHeldn => ?_)
  clear hK K hH hv5; have hH := hHeldn; clear hHeldn
  refine stP ?_
  refine tkq4 10 11 12 13 ?_
  refine tkq 14 ?_
  refine adn ?_
  skip
  obtain ⟨w6, hw6⟩ := gty (w2.drew)
  rw [← hw6] at hH ⊢
  have HB6 := hid (HH.out.2.2.1.trans (hH.mono HH.out.2.2.1.size))
  have HX6 := hid (HH.out.2.2.2 w6 hH)
  have HC6 := hid ((HX.out w6 hH).2.2.2)
  have hv := HV5.out y rfl
  subst hv
  obtain ⟨hok, hst⟩ := HH.out.1.getok HGX.out
  have hbd := RV.bound hok
  have HOK := hid hok
  have HPR := hid (pair_law o.K HO.out.ko.1 (by have := HO.out.ko.2; omega) y.ra y.R.length y.rc y.R rfl hbd.1 hbd.2 w6 (hst.below HB6.out).now)
  clear hok hst hbd
  have c3 := HX6.out.1.cell 3
  simp only [gtA, gtB, gtC] at c3
  have hc6 := HC6.out
  clear hH hw6
  unfold RV.v
  go_wp2_with fail
  refine HPR.out.mono ?_; rintro r w7 ⟨z, rfl, hzk, hzr, hb7, hst7⟩
  have HZ := hid (And.intro hzk hzr)
  have hbd9 : ∀ k, (fun k => Rb S base k ∨ k = w.heap.size + 1) k -> k < w6.heap.size := fun k hk => by
   rcases hk with hk | rfl
   ·exact Nat.lt_of_lt_of_le (HH.out.1.rb HH.out.2.1 k hk) HB6.out.size
   ·exact HX6.out.2.lt
  have hs9 := prs_stay (fun k hk => Nat.lt_of_lt_of_le (hbd9 k hk) hb7.size) (hst7 _ hbd9)
  have HS9 := hid hs9
  have HB3 := hid (HX6.out.2.below (za_ hb7 (bl1 w7 (.cells #[.slice z.ka z.K.length z.kc, .slice z.ra z.R.length z.rc] 78))))
  have HBW := hid (HB6.out.trans ((za_ hb7 (bl1 w7 (.cells #[.slice z.ka z.K.length z.kc, .slice z.ra z.R.length z.rc] 78))).mono HB6.out.size))
  clear hb7 hst7 hbd9 hs9 hzk hzr c3 hc6
  have g0 := HB3.out.cell 0
  have g1 := HB3.out.cell 1
  have i0 := HB3.out.frozen 0
  have i1 := HB3.out.frozen 1
  simp only [gtA, gtB, gtC] at g0 g1
  go_wp2_with fail
  clear g0 g1 i0 i1
  have hb4 := zg_.set2 (x := .int .i64 0) (y := .slice (some ⟨w7.heap.size, 0, none⟩) 1 1) HB3.out
  have ho4 : Off (fun k => k = w.heap.size + 1) (w7.alloc (.cells #[.slice z.ka z.K.length z.kc, .slice z.ra z.R.length z.rc] 78)) (((w7.alloc (.cells #[.slice z.ka z.K.length z.kc, .slice z.ra z.R.length z.rc] 78)).setCell ⟨w.heap.size + 1, 0, none⟩ (.int .i64 0)).setCell ⟨w.heap.size + 1, 1, none⟩ (.slice (some ⟨w7.heap.size, 0, none⟩) 1 1)) :=
   Off.set (S := fun k => k = w.heap.size + 1) (Off.set (S := fun k => k = w.heap.size + 1) (Off.refl _ (w7.alloc (.cells #[.slice z.ka z.K.length z.kc, .slice z.ra z.R.length z.rc] 78))) ⟨w.heap.size + 1, 0, none⟩ rfl _) ⟨w.heap.size + 1, 1, none⟩ rfl _
  revert hb4 ho4
  generalize ((w7.alloc (.cells #[.slice z.ka z.K.length z.kc, .slice z.ra z.R.length z.rc] 78)).setCell ⟨w.heap.size + 1, 0, none⟩ (.int .i64 0)).setCell ⟨w.heap.size + 1, 1, none⟩ (.slice (some ⟨w7.heap.size, 0, none⟩) 1 1) = w4
  intro hb4 ho4
  have q0 := hb4.cell 0
  have q1 := hb4.cell 1
  have HO4 := hid ho4
  clear hb4 ho4
  refine bodyPost_end (v := .agg #[.int .i64 0, .slice (some ⟨w7.heap.size, 0, none⟩) 1 1]) (by simp [results, results123, go_sem, q0, q1]) rfl ?_
  have hokz : Qp_ z := ⟨by rw [HZ.out.1]; exact HO.out.ko.1, fun p hp => by
    have : p.bs ∈ y.R.map P1.bs := by rw [← HZ.out.2]; exact List.mem_map.2 ⟨p, hp, rfl⟩
    exact (HOK.out.2.2 _ this).1, by
    have h1 := congrArg List.length HZ.out.2
    have h2 := HOK.out.2.1
    unfold RV.P at h2
    rw [List.length_map, List.length_map] at h1
    rw [List.length_map] at h2
    omega⟩
  refine ⟨S, x, ⟨0, some ⟨w7.heap.size, 0, none⟩, 1, [z]⟩, rfl, TSt.same HH.out.1 (by
   refine Off.below HBW.out HO4.out HBW.out.size Xt37), ?_, ⟨by simp, fun p hp => by rw [List.mem_singleton] at hp; subst hp; exact hokz⟩, (HS9.out.off (HO4.out.mono fun k hk => .inr hk)).less (fun k hk => .inl hk), rfl⟩
  show ((0 : Int), [(z.K, z.R.map P1.bs)]) = _
  rw [HZ.out.1, HZ.out.2]
  rfl
structure WrV where
 t : Int
 ka : Option Addr
 kc : Nat
 K : List Int
 r : RV
def WrV.P (y : WrV) : Int × List Int × List (List Int) := (y.t, y.K, y.r.P)
def WrR (W : World) (a : Option Addr) (L : List WrV) : Prop := ∀ (k : Nat) (x : WrV), L[k]? = some x -> ∃ b off, a = some ⟨b, off, none⟩ /\ W.cell? ⟨b, off + k * 3, none⟩ = some (.int .i64 x.t) /\ W.cell? ⟨b, off + k * 3 + 1, none⟩ = some (.slice x.ka x.K.length x.kc) /\ W.cell? ⟨b, off + k * 3 + 2, none⟩ = some (.slice x.r.ra x.r.R.length x.r.rc) /\ Ls .u8 W x.ka x.kc x.K /\ RdR W x.r.ra x.r.R
theorem WrR.below {W W' : World} {a : Option Addr} {L : List WrV} (h : WrR W a L) (hb : Below W.heap.size W W') : WrR W' a L := fun k x hx => by
 obtain ⟨b, off, e, c0, c1, c2, l, r⟩ := h k x hx
 have f : ∀ {p v}, W.cell? p = some v -> W'.cell? p = some v := fun h => tcb hb h
 exact ⟨b, off, e, f c0, f c1, f c2, l.below hb, r.below hb⟩
def wrB (n : Nat) (x : WrV) : Bool := decide (0 <= x.t /\ x.t < (n : Int)) && yA_ x.K.length && (decide (x.r.R.length = 0) || y4_ x.r.R)
def yu_ (T : List (List Pr)) (l : List (Int × List Int × List (List Int))) : List (List Pr) := l.foldl (fun T w => T.modify w.1.toNat fun t => xT_ t w.2.1 w.2.2) T
theorem jC_ {α β : Type} (f : α -> β) (g : α -> α) (g' : β -> β) : ∀ (L : List α) (n : Nat) (x : α), L[n]? = some x -> f (g x) = g' (f x) -> (L.set n (g x)).map f = (L.map f).modify n g'
 | [], n, x, h, _ => by simp at h
 | y :: L, 0, x, h, e => by
  simp only [List.getElem?_cons_zero, Option.some.injEq] at h
  subst h
  simp [e]
 | y :: L, n + 1, x, h, e => by
  have ih := jC_ f g g' L n x (by simpa using h) e
  simp only [List.set_cons_succ, List.map_cons, List.modify_succ_cons]
  rw [ih]
theorem MdR.up {S : Nat -> Prop} {w w' : World} {m : Md} (h : MdR S w m) {t : Nat} {x : Nat × List (List Int × RV)} (hx : m.tabs[t]? = some x) {L' : List (List Int × RV)} (o : Off (fun k => k = x.1) w w') (hm : Mp w' x.1 RV.v L') (hr : ∀ e ∈ L', zs_ S w' (fun W' => RdR W' e.2.ra e.2.R)) (hl : tOk (yh_ L')) :
  MdR S w' { m with tabs := m.tabs.set t (x.1, L') } := by
 have hxm := List.mem_of_getElem? hx
 have oS : Off S w w' := o.mono fun k hk => by cases hk; exact h.hS x hxm
 have hfst : (m.tabs.set t (x.1, L')).map Prod.fst = m.tabs.map Prod.fst := xK_ hx
 have hmem : ∀ z ∈ m.tabs.set t (x.1, L'), z = (x.1, L') ∨ (z ∈ m.tabs /\ z.1 ≠ x.1) := fun z hz => by
  obtain ⟨k, hk⟩ := List.mem_iff_getElem?.1 hz
  by_cases e : t = k
  ·subst e
   rw [List.getElem?_set_self (List.getElem?_eq_some_iff.1 hx).1] at hk
   cases hk; exact .inl rfl
  ·rw [List.getElem?_set_ne e] at hk
   refine .inr ⟨List.mem_of_getElem? hk, fun e2 => e ?_⟩
   have h1 : (m.tabs.map Prod.fst)[k]? = some x.1 := by rw [List.getElem?_map, hk, ← e2]; rfl
   have h2 : (m.tabs.map Prod.fst)[t]? = some x.1 := by rw [List.getElem?_map, hx]; rfl
   exact (List.getElem?_inj (by rw [List.length_map]; exact (List.getElem?_eq_some_iff.1 hx).1) h.nod).1 (h2.trans h1.symm)
 refine ⟨(h.st.off oS).mono fun W hW => ⟨?_, ?_, hW.job⟩, ?_, ?_, h.ok, ?_, ?_, ?_, ?_, ?_⟩
 ·have := hW.box
  unfold Md.cs at this ⊢
  rw [List.length_set]; exact this
 ·intro k z hz
  have hz : (m.tabs.set t (x.1, L'))[k]? = some z := hz
  by_cases e : t = k
  ·subst e
   rw [List.getElem?_set_self (List.getElem?_eq_some_iff.1 hx).1] at hz
   cases hz; exact hW.tab t x hx
  ·rw [List.getElem?_set_ne e] at hz
   exact hW.tab k z hz
 ·intro z hz
  rcases hmem z hz with rfl | ⟨hz, hne⟩
  ·exact hm
  ·exact (h.maps z hz).off o hne
 ·intro z hz
  rcases hmem z hz with rfl | ⟨hz, hne⟩
  ·exact hr
  ·exact fun e he => (h.rows z hz e he).off oS
 ·show (m.tabs.set t _).length = _
  rw [List.length_set]; exact h.len
 ·show (m.tabs.set t _).length <= _
  rw [List.length_set]; exact h.cap
 ·show ((m.tabs.set t _).map Prod.fst).Nodup
  rw [hfst]; exact h.nod
 ·intro z hz
  rcases hmem z hz with rfl | ⟨hz, hne⟩
  ·exact h.hS x hxm
  ·exact h.hS z hz
 ·intro z hz
  rcases hmem z hz with rfl | ⟨hz, hne⟩
  ·exact hl
  ·exact h.lim z hz
theorem Md.P_set {m : Md} {t : Nat} {x : Nat × List (List Int × RV)} (hx : m.tabs[t]? = some x) (L' : List (List Int × RV)) (K : List Int) (R : List (List Int)) (e : yh_ L' = xT_ (yh_ x.2) K R) : ({ m with tabs := m.tabs.set t (x.1, L') } : Md).P = m.P.modify t fun u => xT_ u K R := by
 unfold Md.P
 exact jC_ (fun x : Nat × List (List Int × RV) => yh_ x.2) (fun _ => (x.1, L')) (fun u => xT_ u K R) m.tabs t x hx e
theorem mayR_rOk {R : List P1} (h : y4_ R = true) (hb : ∀ p ∈ R, Byt p.bs) : rOk (R.map P1.bs) := by
 unfold y4_ at h
 rw [Bool.and_eq_true, decide_eq_true_eq] at h
 refine ⟨by rw [List.length_map]; exact h.2.1, by rw [List.length_map]; exact h.2.2, fun f hf => ?_⟩
 obtain ⟨p, hp, rfl⟩ := List.mem_map.1 hf
 refine ⟨hb p hp, ?_⟩
 have := h.1
 unfold Za_ at this
 simp only [List.all_eq_true] at this
 have := this p hp
 simpa using this
theorem mayK_ok {K : List Int} (h : yA_ K.length = true) (hb : Byt K) : zH_ K := by
 unfold yA_ at h
 rw [decide_eq_true_eq] at h
 exact ⟨hb, h.1, h.2⟩
theorem Mp.drop {α : Type} {val : α -> Value} {W : World} {b t e : Nat} {L : List (List Int × α)} (h : Mp W b val L) (ht : prog.underlying t = some (.map 9 e)) {K : List Int} (hK : Byt K) (hn : K.length <= 1000000) (ty : TypeId) :
  ∃ w', (Builtin.delete_ #[t, 9] ty #[.map (some b), .string (strOfNums K)]).run prog W = .ok (.tuple #[]) w' /\ Mp w' b val (xY_ L K none) /\ W.grownBy w' (some b) := by
 obtain ⟨w', hrun, hm, ht⟩ := h.own.drop law9 ht (keyK (xO_ hn)) ty
 exact ⟨w', hrun, h.del hK hm, ht.grown⟩
structure zC_ (m m' : Md) : Prop where
 p : m'.p = m.p
 j : m'.j = m.j
 f : m'.tabs.map Prod.fst = m.tabs.map Prod.fst
theorem zC_.rfl' (m : Md) : zC_ m m := ⟨rfl, rfl, rfl⟩
theorem zC_.len {m m' : Md} (h : zC_ m m') : m'.tabs.length = m.tabs.length := by have := congrArg List.length h.f; simpa using this
theorem zC_.set {m m' : Md} (h : zC_ m m') {t : Nat} {x : Nat × List (List Int × RV)} (hx : m'.tabs[t]? = some x) (L' : List (List Int × RV)) : zC_ m { m' with tabs := m'.tabs.set t (x.1, L') } := ⟨h.p, h.j, (xK_ hx).trans h.f⟩
def zS_ (m : Md) (k : Nat) : Prop := ∃ x ∈ m.tabs, k = x.1
theorem zC_.mem {m m' : Md} (h : zC_ m m') {x : Nat × List (List Int × RV)} (hx : x ∈ m'.tabs) : zS_ m x.1 := by
 have : x.1 ∈ m.tabs.map Prod.fst := by rw [← h.f]; exact List.mem_map.2 ⟨x, hx, rfl⟩
 obtain ⟨y, hy, e⟩ := List.mem_map.1 this
 exact ⟨y, hy, e.symm⟩
theorem ja_ (T : List (List Pr)) (L : List WrV) {k : Nat} {x : WrV} (h : L[k]? = some x) : yu_ T ((L.take (k + 1)).map WrV.P) = (yu_ T ((L.take k).map WrV.P)).modify x.t.toNat fun t => xT_ t x.K x.r.P := by
 unfold yu_
 rw [List.take_add_one, h, List.map_append, List.foldl_append]
 rfl
theorem Q9_ {L : List WrV} {n k : Nat} {x : WrV} (h : L[k]? = some x) (hk : (L.take k).all (wrB n) = true) : (L.take (k + 1)).all (wrB n) = wrB n x := by
 rw [List.take_add_one, h, List.all_append, hk]; simp
theorem jb_ {L : List WrV} {n k : Nat} {x : WrV} (h : L[k]? = some x) (hx : wrB n x = false) : L.all (wrB n) = false := by
 rw [List.all_eq_false]
 exact ⟨x, List.mem_of_getElem? h, by rw [hx]; simp⟩
def ApR (S : Nat -> Prop) (w : World) (m : Md) (L : List WrV) (r : Ending) (w' : World) : Prop :=
 ∃ m', r = .returned (.int .i64 (if L.all (wrB m.tabs.length) then 0 else 2)) /\ MdR S w' m' /\ zC_ m m' /\ m'.P = (if L.all (wrB m.tabs.length) then yu_ m.P (L.map WrV.P) else m.P) /\ Off (zS_ m) w w' /\ ∀ N : Nat, (∀ x ∈ m.tabs, x.2.length <= N) -> ∀ x ∈ m'.tabs, x.2.length <= N + L.length
theorem mapply_lawT {S : Nat -> Prop} {m : Md} {w : World} (h : MdR S w m) (hS : ∀ k, S k -> k < w.heap.size) (a : Option Addr) (n c : Nat) (L : List WrV) (hn : L.length = n) (hn2 : n <= 90000) (hL : zs_ (zS_ m) w fun W => WrR W a L) (hb : ∀ x ∈ L, Byt x.K /\ x.K.length <= 1000000 /\ x.r.R.length <= 1000000 /\ ∀ p ∈ x.r.R, Byt p.bs) (hf : ∀ x ∈ m.tabs, x.2.length <= 900000) :
  Calls prog 16 #[.pointer (some ⟨m.p, 0, none⟩), .slice a n c] w (ApR S w m L) := by
 have HH := hid h
 have HL := hid hL
 have HN := hid hn
 have HS := hid hS
 have HB := hid hb
 have HF := hid hf
 have hni : (n : Int) <= 1000000 := by omega
 clear h hS hn hL hb hf
 go_enter func16, ntmps16
 go_wp2_with (go_at_call 51; refine (zX_ HH.out).mono ?_; rintro e w' ⟨rfl, rfl⟩)
 go_loopw [13] (fun i wr => ∃ k : Nat, k <= n /\ i = .int .i64 (k : Int) /\ (L.take k).all (wrB m.tabs.length) = true /\ Hid (Below w.heap.size w wr)) (fun i _ => n - (intOf i).toNat)
 case atStart => exact ⟨0, by omega, rfl, rfl, hid (Below.refl _ _)⟩
 case round =>
  obtain ⟨k, hk, rfl, hall, HBW⟩ := hrel
  by_cases hlt : k < n
  ·have d1 : (k : Int) < (n : Int) := by omega
   obtain ⟨x, hx⟩ : ∃ x, L[k]? = some x := ⟨_, List.getElem?_eq_getElem Xt8⟩
   obtain ⟨b1, o1, ea, c0, c1, c2, l, rr⟩ := (HL.out.below HBW.out).now k x hx
   subst ea
   have HX := hid hx
   have HA := hid hall
   have HRR := hid rr
   have hxb := HB.out x (List.mem_of_getElem? hx)
   have HXB := hid hxb
   have hrl : (x.r.R.length : Int) <= 1000000 := by omega
   clear hx hall l rr
   go_wp2_with fail
   have HB5 := hid (za_ HBW.out (bl1 wr (.cells #[.int .i64 x.t, .slice x.ka x.K.length x.kc, .slice x.r.ra x.r.R.length x.r.rc] 84)))
   have hbx := zg_.new wr #[.int .i64 x.t, .slice x.ka x.K.length x.kc, .slice x.r.ra x.r.R.length x.r.rc] 84
   have HR5 := hid (HRR.out.below (bl1 wr (.cells #[.int .i64 x.t, .slice x.ka x.K.length x.kc, .slice x.r.ra x.r.R.length x.r.rc] 84)))
   generalize wr.alloc (.cells #[.int .i64 x.t, .slice x.ka x.K.length x.kc, .slice x.r.ra x.r.R.length x.r.rc] 84) = w5 at HB5 hbx HR5 ⊢
   have e1 := hbx.cell 1
   have e2 := hbx.cell 2
   simp only [gtA, gtB, gtC] at e1 e2
   refine (yV_ (HH.out.below HB5.out) x.t).mono ?_; rintro r w6 ⟨rfl, rfl⟩
   have hwr : wrB m.tabs.length x = (decide (0 <= x.t /\ x.t < (m.tabs.length : Int)) && yA_ x.K.length && (decide (x.r.R.length = 0) || y4_ x.r.R)) := rfl
   obtain ⟨bh, hbh⟩ := gtx (decide (0 <= x.t /\ x.t < (m.tabs.length : Int)))
   obtain ⟨bk, hbk⟩ := gtx (yA_ x.K.length)
   obtain ⟨br, hbr⟩ := gtx (y4_ x.r.R)
   rw [hbh, hbk, hbr] at hwr
   rw [hbh]
   have HK := hid (fun w => zN_ x.ka x.K.length x.kc w)
   have HM := hid (x7_ x.r.ra x.r.R x.r.R.length x.r.rc rfl Xt0 w5 HR5.out)
   rw [hbk] at HK
   rw [hbr] at HM
   clear hbh hbk hbr hbx
   cases bh
   ·have HV := hid (jb_ HX.out (by rw [hwr]; rfl))
    clear hwr
    go_wp2_with fail
    exact Xb80
   cases bk
   ·have HV := hid (jb_ HX.out (by rw [hwr]; rfl))
    clear hwr
    go_wp2_with (go_at_call 53; refine (HK.out _).mono ?_; rintro e w' ⟨rfl, rfl⟩)
    exact Xb80
   by_cases h0 : x.r.R.length = 0
   ·have HV := hid (show (L.take (k + 1)).all (wrB m.tabs.length) = true from (Q9_ HX.out HA.out).trans (by rw [hwr, decide_eq_true h0]; rfl))
    rw [h0] at e2
    clear hwr h0
    go_wp2_with (go_at_call 53; refine (HK.out _).mono ?_; rintro e w' ⟨rfl, rfl⟩)
    go_roundw
    case rel => exact ⟨k + 1, by omega, by go_num, HV.out, HB5⟩
    case measure => simp [intOf]; omega
   have h1 : (0 : Int) < (x.r.R.length : Int) := by omega
   have h2 : 0 < x.r.R.length := by omega
   cases br
   ·have HV := hid (jb_ HX.out (by rw [hwr, decide_eq_false h0]; rfl))
    clear hwr h0
    go_wp2_with (first | (go_at_call 53; refine (HK.out _).mono ?_; rintro e w' ⟨rfl, rfl⟩) | (go_at_call 54; refine HM.out.mono ?_; rintro e w7 ⟨rfl, hb7⟩; have HB7 := hid (HB5.out.trans (hb7.mono HB5.out.size)); clear hb7))
    go_ret
    exact ⟨m, by rw [HV.out]; rfl, HH.out.below HB7.out, zC_.rfl' m, by rw [HV.out]; rfl, Off.of HB7.out, fun N h z hz => by have := h z hz; omega⟩
   ·have HV := hid (show (L.take (k + 1)).all (wrB m.tabs.length) = true from (Q9_ HX.out HA.out).trans (by rw [hwr, decide_eq_false h0]; rfl))
    clear hwr h0
    go_wp2_with (first | (go_at_call 53; refine (HK.out _).mono ?_; rintro e w' ⟨rfl, rfl⟩) | (go_at_call 54; refine HM.out.mono ?_; rintro e w7 ⟨rfl, hb7⟩; have HB7 := hid (HB5.out.trans (hb7.mono HB5.out.size)); clear hb7))
    go_roundw
    case rel => exact ⟨k + 1, by omega, by go_num, HV.out, HB7⟩
    case measure => simp [intOf]; omega
  ·have d1 : ¬ (k : Int) < (n : Int) := by omega
   have HA := hid (show L.all (wrB m.tabs.length) = true by rw [List.take_of_length_le Xt18] at hall; exact hall)
   have HBW1 := HBW
   clear hall hlt hk HBW
   go_wp2_with fail
   go_loopw [43] (fun i wr => ∃ (k : Nat) (m' : Md), k <= n /\ i = .int .i64 (k : Int) /\ Hid (MdR S wr m') /\ Hid (zC_ m m') /\ Hid (m'.P = yu_ m.P ((L.take k).map WrV.P)) /\ Hid (Off (zS_ m) w wr) /\ Hid (∀ N : Nat, (∀ x ∈ m.tabs, x.2.length <= N) -> ∀ x ∈ m'.tabs, x.2.length <= N + k)) (fun i _ => n - (intOf i).toNat)
   case atStart => exact ⟨0, m, by omega, rfl, hid (HH.out.below HBW1.out), hid (zC_.rfl' m), hid rfl, hid (Off.of HBW1.out), hid (fun N h z hz => by have := h z hz; omega)⟩
   case round =>
    obtain ⟨k, m', hk, rfl, HM, HSM, HP, HOF, HFW⟩ := hrel
    by_cases hlt : k < n
    ·have d1 : (k : Int) < (n : Int) := by omega
     obtain ⟨x, hx⟩ : ∃ x, L[k]? = some x := ⟨_, List.getElem?_eq_getElem Xt8⟩
     have hoS : Off S w wr := HOF.out.mono fun k hk => by obtain ⟨z, hz, rfl⟩ := hk; exact HH.out.hS z hz
     obtain ⟨b1, o1, ea, c0, c1, c2, l, rr⟩ := (HL.out wr HOF.out) k x hx
     subst ea
     have hwb : wrB m.tabs.length x = true := (List.all_eq_true.1 HA.out) x (List.mem_of_getElem? hx)
     unfold wrB at hwb
     rw [Bool.and_eq_true, Bool.and_eq_true, decide_eq_true_eq] at hwb
     obtain ⟨⟨⟨ht0, ht1⟩, hmk⟩, hmr⟩ := hwb
     have hxb := HB.out x (List.mem_of_getElem? hx)
     have hko : zH_ x.K := mayK_ok hmk hxb.1
     have hro : x.r.R ≠ [] -> rOk x.r.P := fun hne => by
      rw [Bool.or_eq_true, decide_eq_true_eq] at hmr
      rcases hmr with e | e
      ·exact absurd (List.length_eq_zero_iff.1 e) hne
      ·exact mayR_rOk e hxb.2.2.2
     obtain ⟨t, ht⟩ : ∃ t : Nat, x.t = (t : Int) := ⟨x.t.toNat, by omega⟩
     rw [ht] at c0 ht1
     have HT := hid ht
     have htn : t < m'.tabs.length := by rw [HSM.out.len]; omega
     obtain ⟨z, hz⟩ : ∃ z, m'.tabs[t]? = some z := ⟨_, List.getElem?_eq_getElem htn⟩
     have HZ := hid hz
     have HX9 := hid hx
     have HKO := hid hko
     have HRO := hid hro
     have HRR := hid (And.intro l rr)
     have hrl : (x.r.R.length : Int) <= 1000000 := by omega
     have hfewz := HFW.out 900000 HF.out z (List.mem_of_getElem? hz)
     have hm4 := HM.out.few
     have htt : (t : Int) < (m'.tabs.length : Int) := by omega
     have ht3 : ¬ (t : Int) < 0 := by omega
     have htl : (m'.tabs.length : Int) <= 1000000 := by omega
     clear hx l rr hz hko hro hmr hmk hxb ht ht1 ht0 hoS htn hm4
     go_upto_region 12 with (fail)
     have HB5 := hid (bl1 wr (.cells #[.int .i64 (t : Int), .slice x.ka x.K.length x.kc, .slice x.r.ra x.r.R.length x.r.rc] 84))
     have hbx := zg_.new wr #[.int .i64 (t : Int), .slice x.ka x.K.length x.kc, .slice x.r.ra x.r.R.length x.r.rc] 84
     obtain ⟨bx, hbxe⟩ := gtx (wr.heap.size)
     have HR5 := hid (HRR.out.2.below HB5.out)
     have HL5 := hid (HRR.out.1.below HB5.out)
     have HM5 := hid (HM.out.below HB5.out)
     have HO5 := hid (HOF.out.then HB5.out)
     rw [hbxe] at hbx
     obtain ⟨w5, hw5⟩ := gty (wr.alloc (.cells #[.int .i64 (t : Int), .slice x.ka x.K.length x.kc, .slice x.r.ra x.r.R.length x.r.rc] 84))
     rw [← hw5] at HB5 hbx HR5 HL5 HM5 HO5 ⊢
     rw [hbxe]
     have HBX := hid hbx
     have e2 := hbx.cell 2
     simp only [gtA, gtB, gtC] at e2
     have hpp : m'.p = m.p := HSM.out.p
     have HX := hid (fun X (b : Below w5.heap.size w5 X) => (⟨by have := (HM5.out.below b).c; rw [hpp] at this; exact this, by rw [(HBX.out.below b).cell]; rfl, (HM5.out.below b).st.now.tab t z HZ.out, by rw [(HBX.out.below b).cell]; rfl, zA_ X x.ka x.K.length x.kc x.K rfl (HL5.out.below b).rd, by rw [(HBX.out.below b).cell]; rfl⟩ : X.cell? ⟨m.p, 7, none⟩ = some (.slice (some ⟨m'.bt, 0, none⟩) m'.tabs.length m'.tc) /\ X.cell? ⟨bx, 0, none⟩ = some (.int .i64 (t : Int)) /\ X.cell? ⟨m'.bt, t, none⟩ = some (.map (some z.1)) /\ X.cell? ⟨bx, 1, none⟩ = some (.slice x.ka x.K.length x.kc) /\ (convert 42 9 (.slice x.ka x.K.length x.kc)).run prog X = .ok (.string (strOfNums x.K)) X /\ X.cell? ⟨bx, 2, none⟩ = some (.slice x.r.ra x.r.R.length x.r.rc)))
     have hzm := List.mem_of_getElem? HZ.out
     have HDEL := hid (fun X (b : Below w5.heap.size w5 X) => ((HM5.out.below b).maps z hzm).drop (t := 90) (e := 50) underlying90 HKO.out.1 (by have := HKO.out.2; omega) 0)
     have HPUT := hid (fun X (b : Below w5.heap.size w5 X) => ((HM5.out.below b).maps z hzm).store (t := 90) (e := 50) underlying90 HKO.out.1 (by have := HKO.out.2; omega) Xt0)
     have HS5 := hid (fun k hk => Nat.lt_of_lt_of_le (HS.out k hk) HO5.out.size)
     have HZM := hid hzm
     have HFZ := hid hfewz
     clear hbx hw5 hbxe hzm hfewz c0 c1 c2
     by_cases h0 : x.r.R.length = 0
     ·rw [h0] at e2
      have HZ0 := hid h0
      clear h0
      have HXO := hid (fun X (o : Off (fun k => k = z.1) w5 X) => (by
       have oS : Off S w5 X := o.mono fun k hk => by cases hk; exact HM5.out.hS z HZM.out
       have hst := HM5.out.st X oS
       have hb := o.box HBX.out (fun e => (HM5.out.maps z HZM.out).ne_box HBX.out e.symm)
       have hl := (HL.out X (HO5.out.trans (o.mono fun k hk => by cases hk; exact HSM.out.mem HZM.out))) k x HX9.out
       refine ⟨?_, by rw [hb.cell]; rfl, hst.tab t z HZ.out, by rw [hb.cell]; rfl, zA_ X x.ka x.K.length x.kc x.K rfl ?_, by rw [hb.cell]; rfl⟩
       ·have := hst.box.cell 7
        rw [hpp] at this
        exact this
       ·obtain ⟨_, _, _, _, _, _, hl, _⟩ := hl
        exact hl.rd : X.cell? ⟨m.p, 7, none⟩ = some (.slice (some ⟨m'.bt, 0, none⟩) m'.tabs.length m'.tc) /\ X.cell? ⟨bx, 0, none⟩ = some (.int .i64 (t : Int)) /\ X.cell? ⟨m'.bt, t, none⟩ = some (.map (some z.1)) /\ X.cell? ⟨bx, 1, none⟩ = some (.slice x.ka x.K.length x.kc) /\ (convert 42 9 (.slice x.ka x.K.length x.kc)).run prog X = .ok (.string (strOfNums x.K)) X /\ X.cell? ⟨bx, 2, none⟩ = some (.slice x.r.ra x.r.R.length x.r.rc)))
      go_upto_region 13 with (fail)
      refine wp_region_held_drew (S := (fun X => Off (fun k => k = z.1) w5 X)) Xt3 ((Off.refl _ _).drew) fun hH => ?_
      refine tkq3 0 1 2 ?_
      refine tkr 3 rfl (fun W hSw => by have m := (HXO.out W hSw).1; exact tks) ?_
      refine tkq 4 ?_
      refine tkr 5 rfl (fun W hSw => by have m := (HXO.out W hSw).2.1; exact tks) ?_
      refine tkq 6 ?_
      refine tkr 7 rfl (fun W hSw => by have m := (HXO.out W hSw).2.2.1; exact tks) ?_
      refine tkq 8 ?_
      refine tkr 9 rfl (fun W hSw => by have m := (HXO.out W hSw).2.2.2.1; exact tks) ?_
      refine tkr 10 rfl (fun W hSw => by have m := (HXO.out W hSw).2.2.2.2.1; exact tks) ?_
      refine tk1 11 rfl fun K hK => ?_
      obtain ⟨w7, hrun, hmp7, hg7⟩ := HDEL.out _ ((Below.refl w5.heap.size w5).drew)
      have o7 : Off (fun k => k = z.1) w5 w7 := (Off.of ((Below.refl w5.heap.size w5).drew)).trans (Off.of_map hg7 rfl)
      go_simp
      refine hK.out _ _ o7 fun hH => ?_
      refine stP ?_
      refine adn ?_
      skip
      have hup := HM5.out.up HZ.out o7 hmp7 (fun e he => by
       rcases yW_.1 he with he | he
       ·exact Xb115
       ·cases he.2) (by rw [tabP_del]; exact (HM5.out.lim z HZM.out).set HKO.out fun e => absurd rfl e)
      have HUP := hid hup
      have HO7 := hid (HO5.out.trans (o7.mono fun k hk => by cases hk; exact HSM.out.mem HZM.out))
      have HLN := hid (qC_ (HM5.out.maps z HZM.out).ris x.K none)
      clear o7 hmp7 hg7 hup hrun hH e2
      go_wp2_with fail
      go_roundw
      case rel =>
       refine ⟨k + 1, _, by omega, by go_num, HUP, hid (HSM.out.set HZ.out _), hid ?_, HO7, hid (fun N hN q hq => ?_)⟩
       ·rw [ja_ m.P L HX9.out, ← HP.out, HT.out]
        have hre : x.r.P = [] := by unfold RV.P; rw [List.length_eq_zero_iff.1 HZ0.out]; rfl
        rw [hre]
        exact Md.P_set HZ.out _ x.K [] (tabP_del _ _)
       ·rcases List.mem_or_eq_of_mem_set hq with hq | rfl
        ·have := HFW.out N hN q hq; omega
        ·have := HFW.out N hN z HZM.out; have := HLN.out; show (xY_ z.2 x.K none).length <= _; omega
      case measure => simp [intOf]; omega
     ·have hne : ((x.r.R.length : Int) == 0) = false := by simp; intro e; rw [e] at h0; simp at h0
      have HNE := hid (show x.r.R ≠ [] from fun e => h0 (by rw [e]; rfl))
      have HBD := hid (RV.bound (HRO.out HNE.out))
      clear h0
      go_upto_region 14 with (fail)
      refine zr_ (z := 14) (S := (fun X => Below w5.heap.size w5 X)) Xt3 ((Below.refl _ _).drew) fun hH => ?_
      refine tlk 0 rfl Xt2 ?_
      refine tlk 1 rfl Xt2 ?_
      refine tlk 2 rfl Xt2 ?_
      refine tlk 3 rfl Xf1 ?_
      refine tlk 4 rfl Xt2 ?_
      refine tlk 5 rfl Xf3 ?_
      refine tlk 6 rfl Xt2 ?_
      refine tlk 7 rfl Xf2 ?_
      refine tlk 8 rfl Xt2 ?_
      refine tlk 9 rfl (fun W hSw => by have m := (HX.out W hSw).2.2.2.1; exact tks) ?_
      refine tlk 10 rfl (fun W hSw => by have m := (HX.out W hSw).2.2.2.2.1; exact tks) ?_
      refine tlk 11 rfl Xt2 ?_
      refine tlk 12 rfl (fun W hSw => by have m := (HX.out W hSw).2.2.2.2.2; exact tks) ?_
      refine tl1 13 rfl fun K hK => ?_
      go_simp
      refine (zZ_ _ x.r.R _ _ rfl HBD.out.1 HBD.out.2 _ ((HR5.out).below hH)).mono ?_; rintro r w6 ⟨⟨v6, rfl, hc6⟩, hb6⟩
      obtain ⟨a6, c6, R6, hv6, hl6, hm6, hst6⟩ := xz_ (S := S) hc6 rfl (fun k hk => Nat.lt_of_lt_of_le (HS5.out k hk) hH.size)
      subst hv6
      go_wp2_with fail
      have HC6 := hid (And.intro hl6 (And.intro hm6 hst6))
      have HB6 := hid (za_ hH hb6)
      refine hK.out _ _ HB6.out (fun hHeldn => ?_)
      clear hK K hH hc6 hb6 hl6 hm6 hst6; have hH := hHeldn; clear hHeldn
      refine stP ?_
      refine tlz rfl fun K hK => ?_
      obtain ⟨w7, hrun, hmp7, hg7⟩ := HPUT.out _ hH ⟨a6, c6, R6⟩
      simp only [RV.v, HC6.out.1] at hrun
      go_simp
      refine hK.out _ _ ?_
      clear hK K
      refine stP ?_
      refine zz_ Xt3 ?_ _
      skip
      have o67 : Off (fun k => k = z.1) w6 w7 := Off.of_map hg7 rfl
      have o7 : Off (fun k => k = z.1) w5 w7 := (Off.of HB6.out).trans o67
      have hP6 : (⟨a6, c6, R6⟩ : RV).P = x.r.P := HC6.out.2.1
      have hPne : (⟨a6, c6, R6⟩ : RV).P ≠ [] := by rw [hP6]; unfold RV.P; simpa using HNE.out
      have hup := HM5.out.up HZ.out o7 hmp7 (fun e he => by
       rcases yW_.1 he with he | he
       ·exact Xb115
       ·have e2 := he.2
        injection e2 with e2
        rw [← e2]
        exact HC6.out.2.2.off (o67.mono fun k hk => by cases hk; exact HM5.out.hS z HZM.out)) (by rw [jS_ _ _ _ hPne]; exact (HM5.out.lim z HZM.out).set HKO.out fun e => by rw [hP6]; exact HRO.out HNE.out)
      have HUP := hid hup
      have HO7 := hid (HO5.out.trans (o7.mono fun k hk => by cases hk; exact HSM.out.mem HZM.out))
      have HLN := hid (qC_ (HM5.out.maps z HZM.out).ris x.K (some (⟨a6, c6, R6⟩ : RV)))
      have HP6 := hid (And.intro hP6 hPne)
      clear o7 o67 hmp7 hg7 hup hrun e2 hP6 hPne
      go_wp2_with fail
      go_roundw
      case rel =>
       refine ⟨k + 1, _, by omega, by go_num, HUP, hid (HSM.out.set HZ.out _), hid ?_, HO7, hid (fun N hN q hq => ?_)⟩
       ·rw [ja_ m.P L HX9.out, ← HP.out, HT.out]
        refine Md.P_set HZ.out _ x.K x.r.P ?_
        rw [jS_ _ _ _ HP6.out.2, HP6.out.1]
       ·rcases List.mem_or_eq_of_mem_set hq with hq | rfl
        ·have := HFW.out N hN q hq; omega
        ·have := HFW.out N hN z HZM.out; have := HLN.out; show (xY_ z.2 x.K _).length <= _; omega
      case measure => simp [intOf]; omega
    ·have d1 : ¬ (k : Int) < (n : Int) := by omega
     have HV := hid (show L.take k = L from List.take_of_length_le Xt18)
     go_wp2_with fail
     go_ret
     refine ⟨m', by rw [HA.out]; rfl, HM.out, HSM.out, by rw [HA.out]; rw [HP.out, HV.out]; rfl, HOF.out, fun N hN q hq => ?_⟩
     have := HFW.out N hN q hq
     have := HN.out
     omega
def bcl (b : Nat) : List Value := [.map (some b)]
theorem store_func (w : World) (a : Addr) (f : Fn) (cs : Array Value) (o : Value) (hc : w.cell? a = some o) (hf : w.frozen? a = false) : (store a (.func f #[] cs)).run prog w = .ok () (w.setCell a (.func f #[] cs)) := by
 rw [run_store prog w a _ _ rfl, hc, hf]; rfl
theorem Ql_ (b : Nat) : (bcl b).length = 1 := rfl
theorem xf_ {S : Nat -> Prop} {m : Md} {w : World} (h : MdR S w m) (hS : ∀ k, S k -> k < w.heap.size) :
  Calls prog 81 #[.pointer (some ⟨m.p, 0, none⟩)] w fun r w' => ∃ S' x, r = .returned (.pointer (some ⟨x.px, 0, none⟩)) /\ Below w.heap.size w w' /\ TlR S' w.heap.size w' m x /\ x.ws = [] /\ x.rs = [] /\ (∀ k, S k -> S' k) /\ (∀ k, S' k -> S k ∨ w.heap.size <= k) := by
 have HH := hid h
 have HS := hid hS
 have hc := h.c
 have hfew := h.few
 have htl : (m.tabs.length : Int) <= 1000000 := by omega
 have hmm := @run_makeMap prog
 have HMM := hid hmm
 clear h hS
 go_enter func81, ntmps81
 go_upto_region 2 with (fail)
 have hb0 := ((zg_.new w #[.pointer (some ⟨m.p, 0, none⟩)] 28).alloc (.cells #[.pointer (some ⟨m.p, 0, none⟩), .slice none 0 0, .slice none 0 0, .slice none 0 0, .nilFunc] 123)).alloc (.cells #[.pointer (some ⟨w.heap.size + 1, 0, none⟩)] 117)
 have hb1 := (zg_.new (w.alloc (.cells #[.pointer (some ⟨m.p, 0, none⟩)] 28)) #[.pointer (some ⟨m.p, 0, none⟩), .slice none 0 0, .slice none 0 0, .slice none 0 0, .nilFunc] 123).alloc (.cells #[.pointer (some ⟨w.heap.size + 1, 0, none⟩)] 117)
 have hb2 := zg_.new ((w.alloc (.cells #[.pointer (some ⟨m.p, 0, none⟩)] 28)).alloc (.cells #[.pointer (some ⟨m.p, 0, none⟩), .slice none 0 0, .slice none 0 0, .slice none 0 0, .nilFunc] 123)) #[.pointer (some ⟨w.heap.size + 1, 0, none⟩)] 117
 have hbl : Below w.heap.size w (((w.alloc (.cells #[.pointer (some ⟨m.p, 0, none⟩)] 28)).alloc (.cells #[.pointer (some ⟨m.p, 0, none⟩), .slice none 0 0, .slice none 0 0, .slice none 0 0, .nilFunc] 123)).alloc (.cells #[.pointer (some ⟨w.heap.size + 1, 0, none⟩)] 117)) := za_ (za_ (bl1 _ _) (bl1 _ _)) (bl1 _ _)
 rw [World.size_alloc] at hb1
 rw [World.size_alloc, World.size_alloc] at hb2
 generalize ((w.alloc (.cells #[.pointer (some ⟨m.p, 0, none⟩)] 28)).alloc (.cells #[.pointer (some ⟨m.p, 0, none⟩), .slice none 0 0, .slice none 0 0, .slice none 0 0, .nilFunc] 123)).alloc (.cells #[.pointer (some ⟨w.heap.size + 1, 0, none⟩)] 117) = w0 at hb0 hb1 hb2 hbl ⊢
 have HB0 := hid hb0
 have HB1 := hid hb1
 have HB2 := hid hb2
 have HBL := hid hbl
 have hc0 := tcb hbl hc
 have hv0 := hb0.cell 0
 simp only [gtA, gtB] at hv0
 clear hb0 hb1 hb2 hbl hc
 go_wp2_with fail
 clear hc0 hv0 hmm
 go_loopw [12] (fun i wr => ∃ (k : Nat) (B : List Nat) (wv : Value), k <= m.tabs.length /\ i = .int .i64 (k : Int) /\ Hid (zg_ wr w.heap.size #[.pointer (some ⟨m.p, 0, none⟩)] 28) /\ Hid (zg_ wr (w.heap.size + 1) #[.pointer (some ⟨m.p, 0, none⟩), wv, .slice none 0 0, .slice none 0 0, .nilFunc] 123) /\ Hid (zg_ wr (w.heap.size + 1 + 1) #[.pointer (some ⟨w.heap.size + 1, 0, none⟩)] 117) /\ Hid (B.length = k) /\ Hid (wr.ownsRow w.heap.size 173 1 wv k (cellsOf bcl B)) /\ Hid (∀ b ∈ B, Mp wr b iV [] /\ w.heap.size <= b) /\ Hid B.Nodup /\ Hid (Below w.heap.size w wr)) (fun i _ => m.tabs.length - (intOf i).toNat)
 case atStart => exact ⟨0, [], .slice none 0 0, by omega, rfl, HB0, HB1, HB2, hid rfl, hid (World.ownsRow_nil _ _ _ _), hid (fun b hb => by simp at hb), hid List.nodup_nil, HBL⟩
 case round =>
  obtain ⟨k, B, wv, hk, rfl, HX0, HXP, HXV, HN, HOW, HMP, HND, HB⟩ := hrel
  by_cases hlt : k < m.tabs.length
  ·have d1 : (k : Int) < (m.tabs.length : Int) := by omega
   have hmm := HMM.out
   have hnb : ∀ g cs t, t ≠ 173 -> zg_ wr g cs t -> ¬ wv.ownBlock = some g := fun g cs t ht hb e => by
    obtain ⟨_, _, cur, hb2⟩ := zb_ HOW.out e
    exact zo_ hb2 hb (Ne.symm ht) rfl
   have HBP := hid (fun X (o : Off (fun k => wv.ownBlock = some k) wr X) => o.box HXP.out (hnb _ _ _ Xt4 HXP.out))
   have HBV := hid (fun X (o : Off (fun k => wv.ownBlock = some k) wr X) => o.box HXV.out (hnb _ _ _ Xt4 HXV.out))
   have HB0' := hid (fun X (o : Off (fun k => wv.ownBlock = some k) wr X) => o.box HX0.out (hnb _ _ _ Xt4 HX0.out))
   have HPX := hid (fun X (o : Off (fun k => wv.ownBlock = some k) wr X) => (by rw [(HBP.out X o).cell]; rfl : X.cell? ⟨w.heap.size + 1, 1, none⟩ = some wv))
   have HVX := hid (fun X (o : Off (fun k => wv.ownBlock = some k) wr X) => (by rw [(HBV.out X o).cell]; rfl : X.cell? ⟨w.heap.size + 1 + 1, 0, none⟩ = some (.pointer (some ⟨w.heap.size + 1, 0, none⟩))))
   clear hnb
   go_upto_region 4 with (fail)
   refine zr_ (z := 10) (S := (fun X => Off (fun k => wv.ownBlock = some k) wr X)) Xt3 ((Off.refl _ _).drew) fun hH => ?_
   refine tlk 0 rfl (fun W hSw => by have m := HVX.out W hSw; exact tks) ?_
   refine tlk 1 rfl (fun W hSw => by have m := HVX.out W hSw; exact tks) ?_
   refine tlk 2 rfl Xt2 ?_
   refine tlk 3 rfl Xt2 ?_
   refine tlk 4 rfl (fun W hSw => by have m := HPX.out W hSw; exact tks) ?_
   refine tl1 5 rfl fun K hK => ?_
   go_simp
   have HB5 := hid (((Below.refl wr.heap.size wr).drew).trans (bl1 wr.drew (.map #[] 0)))
   have HF5 := hid (hH.then (bl1 wr.drew (.map #[] 0)))
   refine hK.out _ _ HF5.out fun hH => ?_
   refine stP ?_
   refine tl1 6 rfl fun K hK => ?_
   go_simp
   have HB6 := hid (za_ HB5.out (bl1 (wr.drew.alloc (.map #[] 0)) (.cells #[.map (some wr.heap.size)] 173)))
   have HF6 := hid (hH.then (bl1 (wr.drew.alloc (.map #[] 0)) (.cells #[.map (some wr.heap.size)] 173)))
   refine hK.out _ _ HF6.out fun hH => ?_
   refine stP ?_
   refine tl1 7 rfl fun K hK => ?_
   have hown := ze_ HOW.out HB6.out
   refine zD_ ae_imap rfl _ _ rfl w.heap.size wv k (cellsOf bcl B) rfl hown ⟨(wr.drew.alloc (.map #[] 0)).heap.size, 0, none⟩ 1 1 [.map (some wr.heap.size)] (by simp [go_sem]) rfl (zx_ (wr.drew.alloc (.map #[] 0)) _ _ _ rfl) Xt32 Xt0 (Nat.le_trans HB.out.size HB6.out.size) ?_
   intro v9 w9 hown9 hgrow9 hat9
   obtain ⟨a9, c9, hv9⟩ := zd_ hown9
   subst hv9
   have HO9 := hid hown9
   have HG9 := hid hgrow9
   have HAT := hid hat9
   have HF9 := hid (hH.trans (Off.of_row hgrow9))
   refine hK.out _ _ HF9.out (fun hHeldn => ?_)
   clear hown hown9 hgrow9 hat9
   clear hK K hH; have hH := hHeldn; clear hHeldn
   refine stP ?_
   refine tlf 8 rfl Xt2 ?_
   refine tlk 9 rfl Xt2 ?_
   refine tlz rfl fun K hK => ?_
   have x4 := HPX.out w9 HF9.out
   have f4 := (HBP.out w9 HF9.out).frozen 1
   go_simp
   refine hK.out _ _ ?_
   clear hK K x4 f4
   refine stP ?_
   refine zz_ Xt3 ?_ _
   skip
   have hP9 := HBP.out w9 HF9.out
   have hV9 := HBV.out w9 HF9.out
   have h09 := HB0'.out w9 HF9.out
   have hne9 : ∀ g, Value.ownBlock (.slice a9 (k + 1) c9) = some g -> g ≠ w.heap.size + 1 := fun g hg => by
    exact Xb89
   have oP : Off (fun k => k = w.heap.size + 1) w9 (w9.setCell ⟨w.heap.size + 1, 1, none⟩ (.slice a9 (k + 1) c9)) := Off.set (S := fun k => k = w.heap.size + 1) (Off.refl _ w9) ⟨w.heap.size + 1, 1, none⟩ rfl _
   have q1 := oP.box h09 Xt0
   have q2 : zg_ (w9.setCell ⟨w.heap.size + 1, 1, none⟩ (.slice a9 (k + 1) c9)) (w.heap.size + 1) #[.pointer (some ⟨m.p, 0, none⟩), .slice a9 (k + 1) c9, .slice none 0 0, .slice none 0 0, .nilFunc] 123 := heap_setCell_same w9 (w.heap.size + 1) 1 _ 123 _ hP9
   have q3 := oP.box hV9 Xt0
   have q4 := zn_ HO9.out oP (fun g hg e => hne9 g hg e)
   have hbwv : ∀ b, wv.ownBlock = some b -> b < wr.heap.size := fun b hb => (zb_ HOW.out hb).2.1
   have q5 : ∀ b ∈ B ++ [wr.heap.size], Mp (w9.setCell ⟨w.heap.size + 1, 1, none⟩ (.slice a9 (k + 1) c9)) b iV [] /\ w.heap.size <= b := fun b hb => by
    rcases List.mem_append.1 hb with hb | hb
    ·exact Xb63
    ·rw [List.mem_singleton] at hb
     subst hb
     have h1 := (Mp.new wr.drew iV).below (bl1 (wr.drew.alloc (.map #[] 0)) (.cells #[.map (some wr.heap.size)] 173))
     exact Xb90
   have q6 : (B ++ [wr.heap.size]).Nodup := List.nodup_append.2 ⟨HND.out, by simp, fun a ha b hb e => by
    rw [List.mem_singleton] at hb
    subst hb
    subst e
    exact Nat.lt_irrefl _ (HMP.out _ ha).1.lt⟩
   have q7 : Below w.heap.size w (w9.setCell ⟨w.heap.size + 1, 1, none⟩ (.slice a9 (k + 1) c9)) := (Off.below HB.out HF9.out HB.out.size (fun g hg => (zb_ HOW.out hg).1)).setCell (Nat.le_succ _) _
   have Q1 := hid q1
   have Q2 := hid q2
   have Q3 := hid q3
   have Q4 := hid q4
   have Q5 := hid q5
   have Q6 := hid q6
   have Q7 := hid q7
   clear q1 q2 q3 q4 q5 q6 q7 hP9 hV9 h09 hne9 oP hbwv hH hmm
   go_wp2_with fail
   go_roundw
   case rel => exact ⟨k + 1, B ++ [wr.heap.size], .slice a9 (k + 1) c9, by omega, by go_num, Q1, Q2, Q3, hid (by rw [List.length_append, HN.out]; rfl), hid (by rw [zq_]; exact Q4.out), Q5, Q6, Q7⟩
   case measure => simp [intOf]; omega
  ·have d1 : ¬ (k : Int) < (m.tabs.length : Int) := by omega
   have hke : k = m.tabs.length := by omega
   have v0 := HXV.out.cell 0
   have p4 := HXP.out.cell 4
   have f4 := HXP.out.frozen 4
   simp only [gtA, gtB, gtC] at v0 p4
   have hsf := store_func wr ⟨w.heap.size + 1, 4, none⟩ (.func 107) #[.pointer (some ⟨w.heap.size + 1 + 1, 0, none⟩), .pointer (some ⟨w.heap.size, 0, none⟩)] _ p4 f4
   go_upto_region 7 with (fail)
   have oP : Off (fun k => k = w.heap.size + 1) wr (wr.setCell ⟨w.heap.size + 1, 4, none⟩ (.func (.func 107) #[] #[.pointer (some ⟨w.heap.size + 1 + 1, 0, none⟩), .pointer (some ⟨w.heap.size, 0, none⟩)])) := Off.set (S := fun k => k = w.heap.size + 1) (Off.refl _ wr) ⟨w.heap.size + 1, 4, none⟩ rfl _
   have hbl : Below w.heap.size w (wr.setCell ⟨w.heap.size + 1, 4, none⟩ (.func (.func 107) #[] #[.pointer (some ⟨w.heap.size + 1 + 1, 0, none⟩), .pointer (some ⟨w.heap.size, 0, none⟩)])) := HB.out.setCell (Nat.le_succ _) _
   have q2 : zg_ (wr.setCell ⟨w.heap.size + 1, 4, none⟩ (.func (.func 107) #[] #[.pointer (some ⟨w.heap.size + 1 + 1, 0, none⟩), .pointer (some ⟨w.heap.size, 0, none⟩)])) (w.heap.size + 1) #[.pointer (some ⟨m.p, 0, none⟩), wv, .slice none 0 0, .slice none 0 0, .func (.func 107) #[] #[.pointer (some ⟨w.heap.size + 1 + 1, 0, none⟩), .pointer (some ⟨w.heap.size, 0, none⟩)]] 123 := heap_setCell_same wr (w.heap.size + 1) 4 _ 123 _ HXP.out
   generalize wr.setCell ⟨w.heap.size + 1, 4, none⟩ (.func (.func 107) #[] #[.pointer (some ⟨w.heap.size + 1 + 1, 0, none⟩), .pointer (some ⟨w.heap.size, 0, none⟩)]) = w8 at oP hbl q2 ⊢
   have q1 := oP.box HX0.out Xt0
   have q3 := oP.box HXV.out Xt0
   have z0 := q3.cell 0
   simp only [gtA, gtB] at z0
   have HOP := hid oP
   have HBL8 := hid hbl
   have HQ := hid (And.intro q1 (And.intro q2 q3))
   clear v0 p4 f4 hsf oP hbl q1 q2 q3
   go_wp2_with fail
   go_ret
   obtain ⟨wa, wc, hwv⟩ := zd_ HOW.out
   have how := HOW.out
   rw [hwv] at how
   have hbn : 0 < B.length := by rw [HN.out]; omega
   obtain ⟨b0, hb0⟩ : ∃ b, B[0]? = some b := ⟨_, List.getElem?_eq_getElem hbn⟩
   obtain ⟨g, hg, hgb, _⟩ := zt_ Ql_ Xt0 how HN.out 0 b0 hb0
   rw [hg] at how hwv
   obtain ⟨_, hgl, cur, hgx⟩ := zb_ how rfl
   have hgp : g ≠ w.heap.size + 1 := zo_ hgx HXP.out Xt4
   have how8 := zn_ how HOP.out (fun q hq e => by simp [Value.ownBlock] at hq; omega)
   have hmp8 : ∀ b ∈ B, Mp w8 b iV [] := fun b hb => (HMP.out b hb).1.off HOP.out fun e => (HMP.out b hb).1.ne_box HXP.out e
   obtain ⟨q1, q2, q3⟩ := HQ.out
   have hS' : ∀ k, (fun k => S k ∨ k = w.heap.size + 1 ∨ k ∈ B) k -> S k ∨ w.heap.size <= k := fun k hk => by
    rcases hk with hk | hk | hk
    ·exact .inl hk
    ·exact .inr Xt0
    ·exact .inr (HMP.out k hk).2
   refine ⟨fun k => S k ∨ k = w.heap.size + 1 ∨ k ∈ B, ⟨w.heap.size + 1, w.heap.size + 1 + 1, w.heap.size, g, wc, B.map fun b => (b, []), .slice none 0 0, .slice none 0 0, [], []⟩, rfl, HBL8.out, ⟨?_, ?_, ?_, ?_, ?_, ?_, World.ownsRow_nil _ _ _ _, Xt81, Xt81, World.ownsRow_nil _ _ _ _, Xt81, ?_, .inr (.inl rfl), ?_, Xt57, Xt57, ?_, ?_, Nat.le_succ _, ?_, ?_, by simp, by simp⟩, rfl, rfl, fun k hk => .inl hk, hS'⟩
   ·exact HH.out.off (T := fun _ => False) (Off.of HBL8.out) (fun _ h => h.elim) (fun _ _ h => h) hS' fun x hx => .inl (HH.out.hS x hx)
   ·intro k hk
    rcases hk with hk | rfl | hk
    ·exact Nat.lt_of_lt_of_le (HS.out k hk) HBL8.out.size
    ·exact q2.lt
    ·exact (hmp8 k hk).lt
   ·unfold Tl.cs
    rw [List.length_map, HN.out, ← hwv]
    exact q2
   ·intro W' o
    refine ⟨o.box q3 ?_, o.box q1 ?_, ?_⟩
    ·rintro (hk | hk | hk)
     ·exact absurd (show w.heap.size + 1 + 1 < w.heap.size from HS.out _ hk) Xt0
     ·exact absurd (show w.heap.size + 1 + 1 = w.heap.size + 1 from hk) Xt0
     ·exact (hmp8 _ hk).ne_box q3 rfl
    ·rintro (hk | hk | hk)
     ·exact absurd (show w.heap.size < w.heap.size from HS.out _ hk) Xt0
     ·exact absurd (show w.heap.size = w.heap.size + 1 from hk) Xt0
     ·exact (hmp8 _ hk).ne_box q1 rfl
    ·intro i y hy
     rw [List.getElem?_map] at hy
     cases hbi : B[i]? with
     | none => rw [hbi] at hy; cases hy
     | some b =>
      rw [hbi] at hy
      cases hy
      have hog := zn_ how8 o (fun q hq => by
       simp [Value.ownBlock] at hq
       subst hq
       rintro (hk | hk | hk)
       ·have := HS.out _ hk; omega
       ·omega
       ·obtain ⟨_, _, cur8, hg8⟩ := zb_ how8 rfl
        exact (hmp8 _ hk).ne_box hg8 rfl)
      obtain ⟨g', e, _, hcc⟩ := zt_ Ql_ Xt0 hog HN.out i b hbi
      cases e
      have := hcc 0 Xt0
      exact Xb62
   ·intro y hy
    obtain ⟨b, hb, rfl⟩ := List.mem_map.1 hy
    exact hmp8 b hb
   ·rw [List.length_map, HN.out]; omega
   ·intro t y hy K i
    rw [List.getElem?_map] at hy
    cases hbi : B[t]? with
    | none => rw [hbi] at hy; cases hy
    | some b =>
     rw [hbi] at hy
     cases hy
     simp [zU_]
   ·intro y hy
    obtain ⟨b, hb, rfl⟩ := List.mem_map.1 hy
    exact .inr (.inr hb)
   ·rw [List.map_map]
    have : (Prod.fst ∘ fun b : Nat => (b, ([] : List (List Int × Nat)))) = id := rfl
    rw [this, List.map_id]; exact HND.out
   ·intro y hy
    exact HS.out _ (HH.out.hS y hy)
   ·intro y hy
    obtain ⟨b, hb, rfl⟩ := List.mem_map.1 hy
    exact (HMP.out b hb).2
   ·intro y hy
    obtain ⟨b, hb, rfl⟩ := List.mem_map.1 hy
    exact Nat.le_refl _
theorem law72 : Keyed prog 72 := int_keyed underlying72
theorem key72 (k : Int) (hk : 0 <= k /\ k <= 6) : keyOf prog 72 (.int .i64 k) = some (.int .i64 k) := by
 have e : IntKind.i64.min = -9223372036854775808 := rfl
 simp [keyOf, underlying72, mapKey, Lit.wf]
 rw [e]
 omega
def y6_ : DataW Value := .map [(.int .i64 1, .held (.func (.func 123) #[] #[])), (.int .i64 2, .held (.func (.func 124) #[] #[])), (.int .i64 3, .held (.func (.func 125) #[] #[])), (.int .i64 4, .held (.func (.func 126) #[] #[])), (.int .i64 5, .held (.func (.func 127) #[] #[])), (.int .i64 6, .held (.func (.func 128) #[] #[]))]
theorem calls_at1 : y6_.atKey (.int .i64 1) (.held .nilFunc) = .held (.func (.func 123) #[] #[]) := by kernel_rfl
theorem calls_at2 : y6_.atKey (.int .i64 2) (.held .nilFunc) = .held (.func (.func 124) #[] #[]) := by kernel_rfl
theorem calls_at3 : y6_.atKey (.int .i64 3) (.held .nilFunc) = .held (.func (.func 125) #[] #[]) := by kernel_rfl
theorem calls_at4 : y6_.atKey (.int .i64 4) (.held .nilFunc) = .held (.func (.func 126) #[] #[]) := by kernel_rfl
theorem calls_at5 : y6_.atKey (.int .i64 5) (.held .nilFunc) = .held (.func (.func 127) #[] #[]) := by kernel_rfl
theorem calls_at6 : y6_.atKey (.int .i64 6) (.held .nilFunc) = .held (.func (.func 128) #[] #[]) := by kernel_rfl
theorem calls_put : (((((((DataW.map [] : DataW Value).put (.int .i64 1) (.held (.func (.func 123) #[] #[]))).put (.int .i64 2) (.held (.func (.func 124) #[] #[]))).put (.int .i64 3) (.held (.func (.func 125) #[] #[]))).put (.int .i64 4) (.held (.func (.func 126) #[] #[]))).put (.int .i64 5) (.held (.func (.func 127) #[] #[]))).put (.int .i64 6) (.held (.func (.func 128) #[] #[]))) = y6_ := by kernel_rfl
theorem zero159 (w : World) : (zeroValue 159).run prog w = .ok .nilFunc w := by kernel_rfl
theorem calls_look {W : World} {b n : Nat} (h : W.ownsMap prog 72 RF b n y6_) (k : Nat) (h1 : 1 <= k) (h2 : k <= 6) : (Instr.lookup 157 (.map (some b)) (.int .i64 (k : Int)) false).run prog W = .ok (.func (.func (122 + k)) #[] #[]) W := by
 obtain ⟨v, ps, hr, hv⟩ := h.lookup law72 underlying157 (zero159 W) (zd := .held .nilFunc) (zp := []) rfl (key72 k Xt0)
 have e := RF_inv hv
 have e1 := (Prod.mk.inj e).1
 have : DataW.held (.func (.func (122 + k)) #[] #[]) = DataW.held v := by
  rw [← e1]
  clear hr hv e e1
  match k, h1, h2 with
  | 1, _, _ => exact calls_at1.symm
  | 2, _, _ => exact calls_at2.symm
  | 3, _, _ => exact calls_at3.symm
  | 4, _, _ => exact calls_at4.symm
  | 5, _, _ => exact calls_at5.symm
  | 6, _, _ => exact calls_at6.symm
 rw [DataW.held.inj this]; exact hr
theorem calls_law (w : World) : Calls prog 96 #[] w fun r w' => r = .returned (.map (some w.heap.size)) /\ Below w.heap.size w w' /\ w'.ownsMap prog 72 RF w.heap.size 6 y6_ := by
 have hmm := @run_makeMap prog
 have h0 := World.ownsMap_made w prog 72 RF
 obtain ⟨w1, r1, h1, g1⟩ := h0.update law72 underlying157 Xt15 (key72 1 Xt0) (show RF (.func (.func 123) #[] #[]) = some (.held (.func (.func 123) #[] #[]), []) from rfl)
 obtain ⟨w2, r2, h2, g2⟩ := h1.update law72 underlying157 Xt15 (key72 2 Xt0) (show RF (.func (.func 124) #[] #[]) = some (.held (.func (.func 124) #[] #[]), []) from rfl)
 obtain ⟨w3, r3, h3, g3⟩ := h2.update law72 underlying157 Xt15 (key72 3 Xt0) (show RF (.func (.func 125) #[] #[]) = some (.held (.func (.func 125) #[] #[]), []) from rfl)
 obtain ⟨w4, r4, h4, g4⟩ := h3.update law72 underlying157 Xt15 (key72 4 Xt0) (show RF (.func (.func 126) #[] #[]) = some (.held (.func (.func 126) #[] #[]), []) from rfl)
 obtain ⟨w5, r5, h5, g5⟩ := h4.update law72 underlying157 Xt15 (key72 5 Xt0) (show RF (.func (.func 127) #[] #[]) = some (.held (.func (.func 127) #[] #[]), []) from rfl)
 obtain ⟨w6, r6, h6, g6⟩ := h5.update law72 underlying157 Xt15 (key72 6 Xt0) (show RF (.func (.func 128) #[] #[]) = some (.held (.func (.func 128) #[] #[]), []) from rfl)
 have hgr : ∀ {X Y : World}, Below w.heap.size w X -> w.heap.size < X.heap.size -> X.grownBy Y (some w.heap.size) -> Below w.heap.size w Y /\ w.heap.size < Y.heap.size := fun {X Y} b hl g => ⟨b.grown g (Nat.le_of_lt hl) (fun j hj => by cases hj; exact Nat.le_refl _), Nat.lt_of_lt_of_le hl g.size⟩
 have b0 : Below w.heap.size w (w.alloc (.map #[] 0)) /\ w.heap.size < (w.alloc (.map #[] 0)).heap.size := ⟨bl1 _ _, by simp⟩
 have b1 := hgr b0.1 b0.2 g1
 have b2 := hgr b1.1 b1.2 g2
 have b3 := hgr b2.1 b2.2 g3
 have b4 := hgr b3.1 b3.2 g4
 have b5 := hgr b4.1 b4.2 g5
 have b6 := hgr b5.1 b5.2 g6
 have HB := hid b6.1
 have HM := hid (show w6.ownsMap prog 72 RF w.heap.size 6 y6_ from calls_put ▸ h6)
 clear b0 b1 b2 b3 b4 b5 b6 hgr g1 g2 g3 g4 g5 g6 h0 h1 h2 h3 h4 h5 h6
 go_enter func96, ntmps96
 go_wp2_with fail
 go_ret
 exact ⟨rfl, HB.out, HM.out⟩
end
section
open Go.Maps Go.Shelf
attribute [local go_sem] Oper.semAt_some
theorem yI_ {w w' : World} {base n size : Nat} {e : TypeId} {v : Value} {xs : List Value} {row : Option Nat} (h : w.ownsRow base e size v n xs) (hg : w.grownBy w' row) (hr : ∀ r, row = some r -> ∃ o : Obj, w.heap[r]? = some o /\ o.isCells = false) : w'.ownsRow base e size v n xs := by
 refine h.kept hg ?_
 rcases h.2 with ⟨rfl, _⟩ | ⟨g, cap, cur, rfl, _, hgg, _⟩
 ·exact .inl rfl
 ·refine .inr fun e => ?_
  obtain ⟨o, ho, hc⟩ := hr g (by rw [← e]; rfl)
  rw [hgg] at ho; cases ho; cases hc
theorem yZ_ {w w' : World} {base n size : Nat} {e : TypeId} {v : Value} {xs : List Value} (h : w.ownsRow base e size v n xs) (hg : w.grownBy w' v.ownBlock) : KeepsOthers w w' :=
 ⟨hg.size, fun k o hk ho => (hg.block k (Array.getElem?_eq_some_iff.1 hk).1 (fun e => by
  rcases h.2 with ⟨rfl, _⟩ | ⟨g, cap, cur, rfl, _, hgg, _⟩
  ·cases e
  ·cases e; rw [hgg] at hk; cases hk; cases ho)).trans hk⟩
def encK (K : List Int) : Array Value := #[.string (strOfNums K)]
def skv (K : List Int) : List Value := [.string (strOfNums K)]
theorem jU_ (K : List Int) : (skv K).length = 1 := rfl
section
variable {α : Type} {val : α -> Value}
def jc_ (L : List (List Int × α)) (left : Lit -> Bool) (ss : List (List Int)) : Prop := ss.Nodup /\ ∀ K, K ∈ ss ↔ (K ∈ L.map Prod.fst /\ left (kL K) = false)
def AllS (L : List (List Int × α)) (ss : List (List Int)) : Prop := ss.Nodup /\ ∀ K, K ∈ ss ↔ K ∈ L.map Prod.fst
theorem yX_ {L : List (List Int × α)} {K : List Int} : K ∈ L.map Prod.fst ↔ (zU_ L K).isSome = true := by
 rw [List.mem_map]
 constructor
 ·rintro ⟨p, hp, rfl⟩
  cases h : zU_ L p.1 with
  | some v => rfl
  | none => exact absurd rfl (xl_.1 h p hp)
 ·intro h
  unfold zU_ at h
  rw [Option.isSome_map] at h
  rw [List.find?_isSome] at h
  obtain ⟨p, hp, e⟩ := h
  exact ⟨p, hp, by simpa using e⟩
theorem jc_.start {L : List (List Int × α)} (hb : Zd_ L) : jc_ L (Maps.has (mOf val L)) [] := ⟨List.nodup_nil, fun K => by
 constructor
 ·intro h; cases h
 ·rintro ⟨h1, h2⟩
  obtain ⟨p, hp, rfl⟩ := List.mem_map.1 h1
  rw [Qb_ hb (hb p hp)] at h2
  rw [yX_.1 h1] at h2
  cases h2⟩
theorem key_in {L : List (List Int × α)} {s : ByteArray} {kl : Lit} (hk : keyOf prog 9 (.string s) = some kl) {d : DataW Value} (hat : ∀ zd, (mOf val L).atKey kl zd = d) : ∃ K, K ∈ L.map Prod.fst /\ s = strOfNums K /\ kl = kL K := by
 have hkl : kl = .string s.data.toList := by
  simp only [keyOf, underlying9] at hk
  simp [mapKey, underlying9] at hk
  exact hk.2.symm
 cases hf : (L.map (entM val)).find? (fun p => p.1.sameKey kl) with
 | none =>
  have h1 := hat .nil
  have h2 := hat (.map [])
  unfold mOf DataW.atKey at h1 h2
  simp only [hf] at h1 h2
  rw [← h1] at h2; cases h2
 | some p =>
  have hm := List.mem_of_find?_eq_some hf
  have hp := List.find?_some hf
  obtain ⟨x, hx, rfl⟩ := List.mem_map.1 hm
  have e : (strOfNums x.1).data.toList = s.data.toList := by
   have : (kL x.1).sameKey kl = true := hp
   rw [hkl] at this
   simpa [kL, Lit.sameKey] using this
  have e2 : s = strOfNums x.1 := ByteArray.ext (by simpa using e.symm)
  exact ⟨x.1, List.mem_map.2 ⟨x, hx, rfl⟩, e2, by rw [hkl, e2]; rfl⟩
theorem jc_.step {L : List (List Int × α)} (hb : Zd_ L) {left : Lit -> Bool} {ss : List (List Int)} (h : jc_ L left ss) {K : List Int} (hK : K ∈ L.map Prod.fst) (hl : left (kL K) = true) : jc_ L (fun z => left z && !z.sameKey (kL K)) (ss ++ [K]) := by
 have hbk : ∀ J ∈ L.map Prod.fst, Byt J := fun J hJ => by obtain ⟨p, hp, rfl⟩ := List.mem_map.1 hJ; exact hb p hp
 have hx : K ∉ ss := fun hm => by have := ((h.2 K).1 hm).2; rw [hl] at this; cases this
 refine ⟨?_, fun J => ?_⟩
 ·rw [List.nodup_append]
  exact ⟨h.1, by simp, fun a ha b hb e => by simp at hb; subst hb; subst e; exact hx ha⟩
 ·rw [List.mem_append, h.2 J, List.mem_singleton]
  show (J ∈ L.map Prod.fst /\ left (kL J) = false ∨ J = K) ↔ (J ∈ L.map Prod.fst /\ (left (kL J) && !(kL J).sameKey (kL K)) = false)
  by_cases e : J = K
  ·subst e
   rw [xj_ (hbk J hK) (hbk J hK)]
   simp [hK]
  ·constructor
   ·rintro (⟨h1, h2⟩ | h1)
    ·exact ⟨h1, by rw [h2]; rfl⟩
    ·exact absurd h1 e
   ·rintro ⟨h1, h2⟩
    rw [xj_ (hbk J h1) (hbk K hK)] at h2
    simp [e] at h2
    exact .inl ⟨h1, h2⟩
theorem jc_.all {L : List (List Int × α)} {left : Lit -> Bool} {ss : List (List Int)} (h : jc_ L left ss) (hl : ∀ kl, left kl = false) : AllS L ss := ⟨h.1, fun K => by rw [h.2 K, hl]; simp⟩
end
theorem z3_ (fn : Fn) (first cap : Array Value) (w : World) : (Instr.makeFunc fn first cap).run prog w = .ok (.func fn first cap) w := rfl
theorem rkeys_law (w : World) (b : Nat) : Calls prog 110 #[.map (some b)] w fun e w' => e = .returned (.func (.func 133) #[] #[.pointer (some ⟨w.heap.size, 0, none⟩)]) /\ w' = w.alloc (.cells #[.map (some b)] 90) := by
 have hmf := z3_
 go_enter func110, ntmps110
 exact Xb19
theorem rkeys_stops (mm : Nat) (hm : 1 <= mm) (Bm b : Nat) (L : List (List Int × RV)) (w : World) (hB : Boxed w Bm 90 (.map (some b))) (hM : Mp w b RV.v L) :
  SeqStopsK Fence.wide mm prog 133 #[.pointer (some ⟨Bm, 0, none⟩)] encK KeepsWalks (fun ss => AllS L ss) (fun pre => True) (Maps.size (mOf RV.v L)) w := fun lp J Jx W hW hJ _ hY h0 => by
 have hb : Boxed W Bm 90 (.map (some b)) := (hW.block Bm hB.lt).trans hB
 have hMW : Mp W b RV.v L := hM.below hW
 have hownW := hMW.own
 have HBY := hid hMW.byt
 clear hB hM hW hMW
 show CallsIn Fence.wide mm prog 133 #[.func (.yield lp) #[] #[], .pointer (some ⟨Bm, 0, none⟩)] W _
 refine callsIn_of_wp func133 rfl trivial ?_ rfl
 simp only [ntmps133, List.size_toArray, List.length_cons, List.length_nil, Nat.reduceAdd, Nat.reduceSub, Array.replicate_succ, Array.replicate_zero, List.push_toArray, List.append_toArray, List.nil_append, List.cons_append]
 have cb := hb.cell
 gi_wp2_with (first
  | (gi_at_range; refine wpListIn_range_own _ rfl _ 90 rfl 9 50 law9 underlying90 _ b _ _ rfl hownW ?_; intro w0 hrg0 hg0 hs0)
  | gi_in)
 go_frame
 gi_loopw [3] (fun _ wr => ∃ (left : Lit -> Bool) (cnt : Nat) (ss : List (List Int)), wr.ranges prog 9 RF b W.heap.size L.length (mOf RV.v L) left cnt /\ ss.length + cnt <= Maps.size (mOf RV.v L) /\ jc_ L left ss /\ J ss wr)
  (fun _ wr => wr.rangeLeft b W.heap.size)
 case atStart =>
  exact Xb117
 case round =>
  exact Xb13
theorem ikeys_law (w : World) (b : Nat) : Calls prog 111 #[.map (some b)] w fun e w' => e = .returned (.func (.func 134) #[] #[.pointer (some ⟨w.heap.size, 0, none⟩)]) /\ w' = w.alloc (.cells #[.map (some b)] 173) := by
 have hmf := z3_
 go_enter func111, ntmps111
 exact Xb19
theorem ikeys_stops (mm : Nat) (hm : 1 <= mm) (Bm b : Nat) (L : List (List Int × Nat)) (w : World) (hB : Boxed w Bm 173 (.map (some b))) (hM : Mp w b iV L) :
  SeqStopsK Fence.wide mm prog 134 #[.pointer (some ⟨Bm, 0, none⟩)] encK KeepsWalks (fun ss => AllS L ss) (fun pre => True) (Maps.size (mOf iV L)) w := fun lp J Jx W hW hJ _ hY h0 => by
 have hb : Boxed W Bm 173 (.map (some b)) := (hW.block Bm hB.lt).trans hB
 have hMW : Mp W b iV L := hM.below hW
 have hownW := hMW.own
 have HBY := hid hMW.byt
 clear hB hM hW hMW
 show CallsIn Fence.wide mm prog 134 #[.func (.yield lp) #[] #[], .pointer (some ⟨Bm, 0, none⟩)] W _
 refine callsIn_of_wp func134 rfl trivial ?_ rfl
 simp only [ntmps134, List.size_toArray, List.length_cons, List.length_nil, Nat.reduceAdd, Nat.reduceSub, Array.replicate_succ, Array.replicate_zero, List.push_toArray, List.append_toArray, List.nil_append, List.cons_append]
 have cb := hb.cell
 gi_wp2_with (first
  | (gi_at_range; refine wpListIn_range_own _ rfl _ 173 rfl 9 3 law9 underlying173 _ b _ _ rfl hownW ?_; intro w0 hrg0 hg0 hs0)
  | gi_in)
 go_frame
 gi_loopw [3] (fun _ wr => ∃ (left : Lit -> Bool) (cnt : Nat) (ss : List (List Int)), wr.ranges prog 9 RF b W.heap.size L.length (mOf iV L) left cnt /\ ss.length + cnt <= Maps.size (mOf iV L) /\ jc_ L left ss /\ J ss wr)
  (fun _ wr => wr.rangeLeft b W.heap.size)
 case atStart =>
  exact Xb117
 case round =>
  exact Xb13
end
section
open Go.Maps Go.Shelf
attribute [local go_sem] Oper.semAt_some
theorem info9 : (prog.info? 9).map (fun i => (i.zero, i.size, i.bytes)) = some (some (.string ⟨#[]⟩), 1, 16) := by kernel_rfl
theorem xS_ (W : World) (B : Nat) (t : TypeId) (v u : Value) (h : Boxed W B t v) : Boxed (W.setCell ⟨B, 0, none⟩ u) B t u := h.set _
def AppS {α : Type} (L : List (List Int × α)) (base : Nat) (ss0 : List (List Int)) (w : World) (e : Ending) (w' : World) : Prop := ∃ ss v, e = .returned v /\ AllS L ss /\ w'.ownsRow base 9 1 v (ss0 ++ ss).length (cellsOf skv (ss0 ++ ss)) /\ Below base w w'
theorem rapp_law (w : World) (Bm b base : Nat) (L : List (List Int × RV)) (hBm : Boxed w Bm 90 (.map (some b))) (hM : Mp w b RV.v L) (hN : L.length <= 1000000) (v0 : Value) (ss0 : List (List Int)) (hss : ss0.length <= 1000000) (hbase : base <= w.heap.size) (how : w.ownsRow base 9 1 v0 ss0.length (cellsOf skv ss0)) :
  Calls prog 108 #[v0, .func (.func 133) #[] #[.pointer (some ⟨Bm, 0, none⟩)]] w (AppS L base ss0 w) := by
 have HN := hid (show Maps.size (mOf RV.v L) <= 1000000 by rw [yB_]; exact hN)
 have HSS := hid hss
 have HBA := hid hbase
 clear hN hss
 obtain ⟨i0, hi, hz0, hz1, hz2⟩ := info_parts info9
 obtain ⟨a0, c0, hv0⟩ := zd_ how
 subst hv0
 refine (callsIn_wide (n := 6)).1 ?_
 refine callsIn_of_wp_marks func108 rfl trivial ?_ rfl
 simp only [ntmps108, List.size_toArray, List.length_cons, List.length_nil, Nat.reduceAdd, Nat.reduceSub, Array.replicate_succ, Array.replicate_zero, List.push_toArray, List.append_toArray, List.nil_append, List.cons_append]
 gi_wp2_with fail
 have hbw : Below w.heap.size w (w.alloc (.cells #[.slice a0 ss0.length c0] 134)) := bl1 _ _
 have bL := Boxed.new w 134 (.slice a0 ss0.length c0)
 have hsz : (w.alloc (.cells #[.slice a0 ss0.length c0] 134)).heap.size = w.heap.size + 1 := by simp
 have bM : Boxed (w.alloc (.cells #[.slice a0 ss0.length c0] 134)) Bm 90 (.map (some b)) := (hbw.block Bm hBm.lt).trans hBm
 have bO : Mp (w.alloc (.cells #[.slice a0 ss0.length c0] 134)) b RV.v L := hM.below hbw
 have how0 := ze_ how hbw
 obtain ⟨W0, hW0⟩ := gtx (w.alloc (.cells #[.slice a0 ss0.length c0] 134))
 rw [hW0] at bL hbw hsz bM bO how0 ⊢
 clear hW0 hBm hM how
 have HC := rkeys_stops 5 Xt0 Bm b L W0 bM bO
 clear bM bO
 refine wpIn_rangeFunc_ownH rfl Xt0 (gf := 133) (lb := #[.pointer (some ⟨Bm, 0, none⟩)]) rfl trivial (enters_of func133 Xt3 rfl)
  HC walksK_t (walksK_b (w := W0)) (Below.refl _ _) (fun _ => rfl)
  (fun pre W => (∃ v, Boxed W w.heap.size 134 v /\ W.ownsRow base 9 1 v (ss0 ++ pre).length (cellsOf skv (ss0 ++ pre))) /\ Below base w W)
  (fun c pre W => False)
  (OwnFrom.and (Own.from Xt24 _) (ownFrom_below hbase Xt0))
  (fun c s X Y row hs hg hr => hs)
  ⟨⟨_, bL, by rw [List.append_nil]; exact how0⟩, hbw.mono hbase⟩
  (fun x a' W => a' = { tmps := #[.slice a0 ss0.length c0, .func (.func 133) #[] #[.pointer (some ⟨Bm, 0, none⟩)], .pointer (some ⟨w.heap.size, 0, none⟩), undef, .slice none 0 0, .string (strOfNums x), .func (.func 133) #[] #[.pointer (some ⟨Bm, 0, none⟩)], .string (strOfNums x), undef, undef, undef, undef, undef], defers := [] })
  (fun x a' _ X Y row hs hg hr => hs)
  ?assign ?body ?done ?stop
 case assign =>
  exact Xb98
 case body =>
  exact Xb9
 case done =>
  exact Xb41
 case stop =>
  rintro Dd c pre W hD _ hf hK
  exact hf.elim
theorem iapp_law (w : World) (Bm b base : Nat) (L : List (List Int × Nat)) (hBm : Boxed w Bm 173 (.map (some b))) (hM : Mp w b iV L) (hN : L.length <= 1000000) (v0 : Value) (ss0 : List (List Int)) (hss : ss0.length <= 1000000) (hbase : base <= w.heap.size) (how : w.ownsRow base 9 1 v0 ss0.length (cellsOf skv ss0)) :
  Calls prog 108 #[v0, .func (.func 134) #[] #[.pointer (some ⟨Bm, 0, none⟩)]] w (AppS L base ss0 w) := by
 have HN := hid (show Maps.size (mOf iV L) <= 1000000 by rw [yB_]; exact hN)
 have HSS := hid hss
 have HBA := hid hbase
 clear hN hss
 obtain ⟨i0, hi, hz0, hz1, hz2⟩ := info_parts info9
 obtain ⟨a0, c0, hv0⟩ := zd_ how
 subst hv0
 refine (callsIn_wide (n := 6)).1 ?_
 refine callsIn_of_wp_marks func108 rfl trivial ?_ rfl
 simp only [ntmps108, List.size_toArray, List.length_cons, List.length_nil, Nat.reduceAdd, Nat.reduceSub, Array.replicate_succ, Array.replicate_zero, List.push_toArray, List.append_toArray, List.nil_append, List.cons_append]
 gi_wp2_with fail
 have hbw : Below w.heap.size w (w.alloc (.cells #[.slice a0 ss0.length c0] 134)) := bl1 _ _
 have bL := Boxed.new w 134 (.slice a0 ss0.length c0)
 have hsz : (w.alloc (.cells #[.slice a0 ss0.length c0] 134)).heap.size = w.heap.size + 1 := by simp
 have bM : Boxed (w.alloc (.cells #[.slice a0 ss0.length c0] 134)) Bm 173 (.map (some b)) := (hbw.block Bm hBm.lt).trans hBm
 have bO : Mp (w.alloc (.cells #[.slice a0 ss0.length c0] 134)) b iV L := hM.below hbw
 have how0 := ze_ how hbw
 obtain ⟨W0, hW0⟩ := gtx (w.alloc (.cells #[.slice a0 ss0.length c0] 134))
 rw [hW0] at bL hbw hsz bM bO how0 ⊢
 clear hW0 hBm hM how
 have HC := ikeys_stops 5 Xt0 Bm b L W0 bM bO
 clear bM bO
 refine wpIn_rangeFunc_ownH rfl Xt0 (gf := 134) (lb := #[.pointer (some ⟨Bm, 0, none⟩)]) rfl trivial (enters_of func134 Xt3 rfl)
  HC walksK_t (walksK_b (w := W0)) (Below.refl _ _) (fun _ => rfl)
  (fun pre W => (∃ v, Boxed W w.heap.size 134 v /\ W.ownsRow base 9 1 v (ss0 ++ pre).length (cellsOf skv (ss0 ++ pre))) /\ Below base w W)
  (fun c pre W => False)
  (OwnFrom.and (Own.from Xt24 _) (ownFrom_below hbase Xt0))
  (fun c s X Y row hs hg hr => hs)
  ⟨⟨_, bL, by rw [List.append_nil]; exact how0⟩, hbw.mono hbase⟩
  (fun x a' W => a' = { tmps := #[.slice a0 ss0.length c0, .func (.func 134) #[] #[.pointer (some ⟨Bm, 0, none⟩)], .pointer (some ⟨w.heap.size, 0, none⟩), undef, .slice none 0 0, .string (strOfNums x), .func (.func 134) #[] #[.pointer (some ⟨Bm, 0, none⟩)], .string (strOfNums x), undef, undef, undef, undef, undef], defers := [] })
  (fun x a' _ X Y row hs hg hr => hs)
  ?assign ?body ?done ?stop
 case assign =>
  exact Xb98
 case body =>
  exact Xb9
 case done =>
  exact Xb41
 case stop =>
  rintro Dd c pre W hD _ hf hK
  exact hf.elim
theorem QG_ (w : World) (Bm b : Nat) (L : List (List Int × RV)) (hBm : Boxed w Bm 90 (.map (some b))) (hM : Mp w b RV.v L) (hN : L.length <= 1000000) :
  Calls prog 109 #[.func (.func 133) #[] #[.pointer (some ⟨Bm, 0, none⟩)]] w (AppS L w.heap.size [] w) := by
 have HA := hid (rapp_law w Bm b w.heap.size L hBm hM hN (.slice none 0 0) [] Xt5 (Nat.le_refl _) (World.ownsRow_nil _ _ _ _))
 clear hBm hM hN
 go_enter func109, ntmps109
 go_wp2_with (go_at_call 108; refine HA.out.mono ?_; rintro e w' ⟨ss, v, rfl, h1, h2, h3⟩; replace h1 := hid h1; replace h2 := hid h2; replace h3 := hid h3)
 go_ret
 exact ⟨ss, v, rfl, h1.out, h2.out, h3.out⟩
end
end Go.Proofs.YthmofoldmdafoaaGreat
