/- Part of the proof that ModelDoes holds for every input: tables, under any transactions, answer, write and stand as the document says. Part 13. -/
import Derived.Test.YthmofoldmdafoaaGreatSdl
set_option linter.unusedVariables false
set_option linter.unusedSimpArgs false
set_option maxRecDepth 100000
set_option maxHeartbeats 4000000
namespace Go.Proofs.YthmofoldmdafoaaGreat
open Go.ChangeShapes Go.WideShapes Go.ChangeAt Go.RowKit
open Go.Lib (hid)
open Go.Proofs.Tryz
section
open Go.Maps
theorem tremove_law {S : Nat -> Prop} {base : Nat} {w : World} {m : Md} {x : Tl} (h : TlR S base w m x) (hbs : base <= w.heap.size) (o : zj_) (t : Nat) (ho : OpG S base w m o t) (hf : x.ws.length < 1000) :
  Calls prog 126 #[.pointer (some ⟨x.px, 0, none⟩), .agg #[.int .i64 o.k, .int .i64 o.t, .int .i64 o.i, .slice o.ka o.kn o.kc, .slice o.ta o.tn o.tc, .int .i64 o.m, .slice o.ra o.rn o.rc]] w (Qf_ S base w m x (if (y2_ m.P (x.ws.map WtV.P) t o.K).isSome then ((0, []) : Int × List Pr) else (6, [])) (if (y2_ m.P (x.ws.map WtV.P) t o.K).isSome then xP_ (x.ws.map WtV.P) t o.K [] else x.ws.map WtV.P)) := by
 obtain ⟨hb, hbx⟩ := yl_ w #[.int .i64 o.k, .int .i64 o.t, .int .i64 o.i, .slice o.ka o.kn o.kc, .slice o.ta o.tn o.tc, .int .i64 o.m, .slice o.ra o.rn o.rc] #[.int .i64 0, .slice none 0 0] 74 81
 have hst := ho.at'.now
 obtain ⟨w2, hw2⟩ := gty (((w.alloc (.cells #[.int .i64 o.k, .int .i64 o.t, .int .i64 o.i, .slice o.ka o.kn o.kc, .slice o.ta o.tn o.tc, .int .i64 o.m, .slice o.ra o.rn o.rc] 74)).alloc (.cells #[.int .i64 0, .slice none 0 0] 81)))
 rw [← hw2] at hb hbx
 have h2 := h.below hb
 have hat2 := ho.at'.below hb
 obtain ⟨c0, c1, c2, c3, c4⟩ := h2.c
 have hbx2 := hbx w2 (Below.refl _ _)
 have HX := hid (fun X (b : Below w2.heap.size w2 X) => (⟨tcb b c4, by rw [(hbx X b).1.cell]; simp only [gtA, gtB, gtC]; rw [ho.te], by rw [(hbx X b).1.cell]; simp only [gtA, gtB, gtC], zA_ X o.ka o.kn o.kc o.K hst.kl (hat2.below b).now.ks.rd⟩ : X.cell? ⟨x.px, 4, none⟩ = some (.func (.func 107) #[] #[.pointer (some ⟨x.bx, 0, none⟩), .pointer (some ⟨x.bm, 0, none⟩)]) /\ X.cell? ⟨w.heap.size, 1, none⟩ = some (.int .i64 (t : Int)) /\ X.cell? ⟨w.heap.size, 3, none⟩ = some (.slice o.ka o.kn o.kc) /\ (convert 42 9 (.slice o.ka o.kn o.kc)).run prog X = .ok (.string (strOfNums o.K)) X))
 have HG := hid (fun X (b : Below w2.heap.size w2 X) => qv_ (h2.below b) t ho.tl o.K ho.ko.1 (by have := ho.ko.2; omega))
 have HH := hid (And.intro h (And.intro hbs (And.intro hb hbx)))
 have HO := hid ho
 have HP := hid (getX_P m x ho.tl o.K)
 have HW2 := hid hw2
 have HF := hid hf
 obtain ⟨g, hg⟩ := gtx (getX m x t o.K)
 rw [hg] at HG HP
 have HGX := hid hg
 clear h hbs ho hf h2 hat2 hst hb hbx hbx2 c0 c1 c2 c3 c4 hg
 rw [← HP.out]
 clear HP
 cases g with
 | none =>
  rw [if_neg (show ¬ (Option.map RV.P (none : Option RV)).isSome = true from fun e => by cases e), if_neg (show ¬ (Option.map RV.P (none : Option RV)).isSome = true from fun e => by cases e)]
  go_enter func126, ntmps126
  go_upto_region 1 with (fail)
  rw [← hw2]
  clear hw2
  refine rgw w2 (Below.refl _ _).drew fun hH => ?_
  refine tkq3 0 1 2 ?_
  refine tkr 3 rfl Xf1 ?_
  refine tkq 4 ?_
  refine tkr 5 rfl Xf3 ?_
  refine tkq 6 ?_
  refine tkr 7 rfl Xf2 ?_
  refine tkr 8 rfl Xf6 ?_
  refine tk1 9 rfl fun K hK => ?_
  go_simp
  refine (HG.out _ hH).mono ?_; rintro r w5 ⟨⟨v5, rfl, hv5⟩, rfl⟩
  have HV5 := hid hv5
  go_wp2_with fail
  try simp only [Option.isSome_some, Option.isSome_none]
  refine hK.out _ _ hH (fun hHeldn => ?_)
  clear hK K hH hv5; have hH := hHeldn; clear hHeldn
  refine stP ?_
  refine tkq4 10 11 12 13 ?_
  refine tkq 14 ?_
  refine adn ?_
  skip
  obtain ⟨w3, hw3⟩ := gty (w2.drew)
  rw [← hw3] at hH ⊢
  have HB3 := hid ((HH.out.2.2.2 w3 hH).2)
  have HBW := hid (HH.out.2.2.1.trans (hH.mono HH.out.2.2.1.size))
  clear hH hw3
  have g0 := HB3.out.cell 0
  have g1 := HB3.out.cell 1
  have i0 := HB3.out.frozen 0
  have i1 := HB3.out.frozen 1
  simp only [gtA, gtB, gtC] at g0 g1
  go_wp2_with fail
  clear g0 g1 i0 i1
  have hb4 := zg_.set2 (x := .int .i64 6) (y := .slice none 0 0) HB3.out
  have ho4 : Off (fun k => k = w.heap.size + 1) w3 ((w3.setCell ⟨w.heap.size + 1, 0, none⟩ (.int .i64 6)).setCell ⟨w.heap.size + 1, 1, none⟩ (.slice none 0 0)) :=
   Off.set (S := fun k => k = w.heap.size + 1) (Off.set (S := fun k => k = w.heap.size + 1) (Off.refl _ w3) ⟨w.heap.size + 1, 0, none⟩ rfl _) ⟨w.heap.size + 1, 1, none⟩ rfl _
  revert hb4 ho4
  generalize (w3.setCell ⟨w.heap.size + 1, 0, none⟩ (.int .i64 6)).setCell ⟨w.heap.size + 1, 1, none⟩ (.slice none 0 0) = w4
  intro hb4 ho4
  have q0 := hb4.cell 0
  have q1 := hb4.cell 1
  have HO4 := hid ho4
  clear hb4 ho4
  refine bodyPost_end (v := .agg #[.int .i64 6, .slice none 0 0]) (by simp [results, results126, go_sem, q0, q1]) rfl ?_
  exact Xb72
 | some y =>
  rw [if_pos (show (Option.map RV.P (some y)).isSome = true from rfl), if_pos (show (Option.map RV.P (some y)).isSome = true from rfl)]
  go_enter func126, ntmps126
  go_upto_region 1 with (fail)
  rw [← hw2]
  clear hw2
  refine rgw w2 (Below.refl _ _).drew fun hH => ?_
  refine tkq3 0 1 2 ?_
  refine tkr 3 rfl Xf1 ?_
  refine tkq 4 ?_
  refine tkr 5 rfl Xf3 ?_
  refine tkq 6 ?_
  refine tkr 7 rfl Xf2 ?_
  refine tkr 8 rfl Xf6 ?_
  refine tk1 9 rfl fun K hK => ?_
  go_simp
  refine (HG.out _ hH).mono ?_; rintro r w5 ⟨⟨v5, rfl, hv5⟩, rfl⟩
  have HV5 := hid hv5
  go_wp2_with fail
  try simp only [Option.isSome_some, Option.isSome_none]
  refine hK.out _ _ hH (fun hHeldn => ?_)
  clear hK K hH hv5; have hH := hHeldn; clear hHeldn
  refine stP ?_
  refine tkq4 10 11 12 13 ?_
  refine tkq 14 ?_
  refine adn ?_
  skip
  obtain ⟨w6, hw6⟩ := gty (w2.drew)
  rw [← hw6] at hH ⊢
  have HB6 := hid (HH.out.2.2.1.trans (hH.mono HH.out.2.2.1.size))
  have HX6 := hid (HH.out.2.2.2 w6 hH)
  have HC6 := hid ((HX.out w6 hH).2.2.2)
  have hst := HO.out.at'.now
  have HSET := hid (tset_law (HH.out.1.grow HB6.out) (Nat.le_trans HH.out.2.1 HB6.out.size) t HO.out.tl o.K HO.out.ko o.ka o.kn o.kc hst.kl ((HO.out.grow HB6.out).at'.mono fun W hW => hW.ks) none 0 0 [] rfl (fun e => absurd rfl e) (fun W' _ => RdR.nil W' none) HF.out)
  rw [← HO.out.te] at HSET
  clear hst
  have c1 := HX6.out.1.cell 1
  have c3 := HX6.out.1.cell 3
  simp only [gtA, gtB, gtC] at c1 c3
  clear hH hw6
  go_wp2_with fail
  refine HSET.out.mono ?_; rintro r w3 ⟨rfl, S3, x', hst, hws⟩
  have HST := hid (And.intro hst hws)
  have HB3 := hid (hst.off.box HX6.out.2 Xt33)
  have HL6 := hid (show w.heap.size + 1 < w6.heap.size from HX6.out.2.lt)
  clear hst hws c1 c3
  have g0 := HB3.out.cell 0
  have g1 := HB3.out.cell 1
  have i0 := HB3.out.frozen 0
  have i1 := HB3.out.frozen 1
  simp only [gtA, gtB, gtC] at g0 g1
  go_wp2_with fail
  clear g0 g1 i0 i1
  have hb4 := zg_.set2 (x := .int .i64 0) (y := .slice none 0 0) HB3.out
  have ho4 : Off (fun k => k = w.heap.size + 1) w3 ((w3.setCell ⟨w.heap.size + 1, 0, none⟩ (.int .i64 0)).setCell ⟨w.heap.size + 1, 1, none⟩ (.slice none 0 0)) :=
   Off.set (S := fun k => k = w.heap.size + 1) (Off.set (S := fun k => k = w.heap.size + 1) (Off.refl _ w3) ⟨w.heap.size + 1, 0, none⟩ rfl _) ⟨w.heap.size + 1, 1, none⟩ rfl _
  revert hb4 ho4
  generalize (w3.setCell ⟨w.heap.size + 1, 0, none⟩ (.int .i64 0)).setCell ⟨w.heap.size + 1, 1, none⟩ (.slice none 0 0) = w4
  intro hb4 ho4
  have q0 := hb4.cell 0
  have q1 := hb4.cell 1
  have HO4 := hid ho4
  clear hb4 ho4
  refine bodyPost_end (v := .agg #[.int .i64 0, .slice none 0 0]) (by simp [results, results126, go_sem, q0, q1]) rfl ?_
  refine ⟨S3, x', ⟨0, none, 0, []⟩, rfl, HST.out.1.box HH.out.1 HH.out.2.1 HB6.out (Nat.le_succ _) HL6.out HO4.out, rfl, res_zero, fun W' o => ya_.nil _ _, HST.out.2⟩
theorem prs_stay {S : Nat -> Prop} {W : World} {y : PrV} (hs : ∀ k, S k -> k < W.heap.size) (h : zs_ S W fun W' => Ls .u8 W' y.ka y.kc y.K /\ RdR W' y.ra y.R /\ PrW W' y) : zs_ S (W.alloc (.cells #[.slice y.ka y.K.length y.kc, .slice y.ra y.R.length y.rc] 78)) fun W' => ya_ W' (some ⟨W.heap.size, 0, none⟩) [y] := fun W' o => by
 have hb := o.box (zg_.new W #[.slice y.ka y.K.length y.kc, .slice y.ra y.R.length y.rc] 78) (fun e => by have := hs _ e; omega)
 have h2 := (h.below (bl1 W (.cells #[.slice y.ka y.K.length y.kc, .slice y.ra y.R.length y.rc] 78))) W' o
 exact ⟨Qx_ y (by rw [hb.cell]; rfl) (by rw [hb.cell]; rfl) h2.1 h2.2.1, WrB.box hb _, fun p hp => by rw [List.mem_singleton] at hp; subst hp; exact h2.2.2⟩
theorem xB_ {R : List P1} (h : rOk (R.map P1.bs)) : ∀ p ∈ R, Byt p.bs := fun p hp => (h.2.2 p.bs (List.mem_map.2 ⟨p, hp, rfl⟩)).1
theorem TlR.getok {S : Nat -> Prop} {base : Nat} {w : World} {m : Md} {x : Tl} (h : TlR S base w m x) {t : Nat} {K : List Int} {y : RV} (hg : getX m x t K = some y) : rOk y.P /\ zs_ S w fun W => RdR W y.ra y.R := by
 unfold getX at hg
 cases hf : x.ws.find? (fun w : WtV => decide (w.t = t /\ w.K = K)) with
 | some v =>
  rw [hf] at hg
  have hm := List.mem_of_find?_eq_some hf
  simp only at hg
  by_cases e : v.r.R = []
  ·rw [if_pos e] at hg; cases hg
  ·rw [if_neg e] at hg; cases hg
   exact ⟨(h.wok v hm).2.2 e, (h.wst v hm).mono fun W hW => hW.2⟩
 | none =>
  rw [hf] at hg
  simp only at hg
  cases hz : m.tabs[t]? with
  | none => rw [hz] at hg; cases hg
  | some z =>
   rw [hz] at hg
   simp only at hg
   have hzm := List.mem_of_getElem? hz
   have hm := (yv_ (h.md.maps z hzm).ris).1 hg
   exact ⟨(h.md.row hz hm).2, h.md.rows z hzm _ hm⟩
theorem tread_law {S : Nat -> Prop} {base : Nat} {w : World} {m : Md} {x : Tl} (h : TlR S base w m x) (hbs : base <= w.heap.size) (o : zj_) (t : Nat) (ho : OpG S base w m o t) (hf : x.ws.length < 1000) :
  Calls prog 123 #[.pointer (some ⟨x.px, 0, none⟩), .agg #[.int .i64 o.k, .int .i64 o.t, .int .i64 o.i, .slice o.ka o.kn o.kc, .slice o.ta o.tn o.tc, .int .i64 o.m, .slice o.ra o.rn o.rc]] w (Qf_ S base w m x (match (y2_ m.P (x.ws.map WtV.P) t o.K) with | some R => ((0, [(o.K, R)]) : Int × List Pr) | none => (6, [])) (x.ws.map WtV.P)) := by
 obtain ⟨hb, hbx⟩ := yl_ w #[.int .i64 o.k, .int .i64 o.t, .int .i64 o.i, .slice o.ka o.kn o.kc, .slice o.ta o.tn o.tc, .int .i64 o.m, .slice o.ra o.rn o.rc] #[.int .i64 0, .slice none 0 0] 74 81
 have hst := ho.at'.now
 obtain ⟨w2, hw2⟩ := gty (((w.alloc (.cells #[.int .i64 o.k, .int .i64 o.t, .int .i64 o.i, .slice o.ka o.kn o.kc, .slice o.ta o.tn o.tc, .int .i64 o.m, .slice o.ra o.rn o.rc] 74)).alloc (.cells #[.int .i64 0, .slice none 0 0] 81)))
 rw [← hw2] at hb hbx
 have h2 := h.below hb
 have hat2 := ho.at'.below hb
 obtain ⟨c0, c1, c2, c3, c4⟩ := h2.c
 have hbx2 := hbx w2 (Below.refl _ _)
 have HX := hid (fun X (b : Below w2.heap.size w2 X) => (⟨tcb b c4, by rw [(hbx X b).1.cell]; simp only [gtA, gtB, gtC]; rw [ho.te], by rw [(hbx X b).1.cell]; simp only [gtA, gtB, gtC], zA_ X o.ka o.kn o.kc o.K hst.kl (hat2.below b).now.ks.rd⟩ : X.cell? ⟨x.px, 4, none⟩ = some (.func (.func 107) #[] #[.pointer (some ⟨x.bx, 0, none⟩), .pointer (some ⟨x.bm, 0, none⟩)]) /\ X.cell? ⟨w.heap.size, 1, none⟩ = some (.int .i64 (t : Int)) /\ X.cell? ⟨w.heap.size, 3, none⟩ = some (.slice o.ka o.kn o.kc) /\ (convert 42 9 (.slice o.ka o.kn o.kc)).run prog X = .ok (.string (strOfNums o.K)) X))
 have HG := hid (fun X (b : Below w2.heap.size w2 X) => qv_ (h2.below b) t ho.tl o.K ho.ko.1 (by have := ho.ko.2; omega))
 have HH := hid (And.intro h (And.intro hbs (And.intro hb hbx)))
 have HO := hid ho
 have HP := hid (getX_P m x ho.tl o.K)
 have HW2 := hid hw2
 have HF := hid hf
 obtain ⟨g, hg⟩ := gtx (getX m x t o.K)
 rw [hg] at HG HP
 have HGX := hid hg
 clear h hbs ho hf h2 hat2 hst hb hbx hbx2 c0 c1 c2 c3 c4 hg
 rw [← HP.out]
 clear HP
 cases g with
 | none =>
  show Calls _ _ _ _ (Qf_ S base w m x ((6, []) : Int × List Pr) (x.ws.map WtV.P))
  go_enter func123, ntmps123
  go_upto_region 1 with (fail)
  rw [← hw2]
  clear hw2
  refine rgw w2 (Below.refl _ _).drew fun hH => ?_
  refine tkq3 0 1 2 ?_
  refine tkr 3 rfl Xf1 ?_
  refine tkq 4 ?_
  refine tkr 5 rfl Xf3 ?_
  refine tkq 6 ?_
  refine tkr 7 rfl Xf2 ?_
  refine tkr 8 rfl Xf6 ?_
  refine tk1 9 rfl fun K hK => ?_
  go_simp
  refine (HG.out _ hH).mono ?_; rintro r w5 ⟨⟨v5, rfl, hv5⟩, rfl⟩
  have HV5 := hid hv5
  go_wp2_with fail
  try simp only [Option.isSome_some, Option.isSome_none]
  refine hK.out _ _ hH (fun hHeldn => ?_)
  clear hK K hH hv5; have hH := hHeldn; clear hHeldn
  refine stP ?_
  refine tkq4 10 11 12 13 ?_
  refine tkq 14 ?_
  refine adn ?_
  skip
  obtain ⟨w3, hw3⟩ := gty (w2.drew)
  rw [← hw3] at hH ⊢
  have HB3 := hid ((HH.out.2.2.2 w3 hH).2)
  have HBW := hid (HH.out.2.2.1.trans (hH.mono HH.out.2.2.1.size))
  clear hH hw3
  have g0 := HB3.out.cell 0
  have g1 := HB3.out.cell 1
  have i0 := HB3.out.frozen 0
  have i1 := HB3.out.frozen 1
  simp only [gtA, gtB, gtC] at g0 g1
  go_wp2_with fail
  clear g0 g1 i0 i1
  have hb4 := zg_.set2 (x := .int .i64 6) (y := .slice none 0 0) HB3.out
  have ho4 : Off (fun k => k = w.heap.size + 1) w3 ((w3.setCell ⟨w.heap.size + 1, 0, none⟩ (.int .i64 6)).setCell ⟨w.heap.size + 1, 1, none⟩ (.slice none 0 0)) :=
   Off.set (S := fun k => k = w.heap.size + 1) (Off.set (S := fun k => k = w.heap.size + 1) (Off.refl _ w3) ⟨w.heap.size + 1, 0, none⟩ rfl _) ⟨w.heap.size + 1, 1, none⟩ rfl _
  revert hb4 ho4
  generalize (w3.setCell ⟨w.heap.size + 1, 0, none⟩ (.int .i64 6)).setCell ⟨w.heap.size + 1, 1, none⟩ (.slice none 0 0) = w4
  intro hb4 ho4
  have q0 := hb4.cell 0
  have q1 := hb4.cell 1
  have HO4 := hid ho4
  clear hb4 ho4
  refine bodyPost_end (v := .agg #[.int .i64 6, .slice none 0 0]) (by simp [results, results123, go_sem, q0, q1]) rfl ?_
  exact Xb72
 | some y =>
  show Calls _ _ _ _ (Qf_ S base w m x ((0, [(o.K, y.P)]) : Int × List Pr) (x.ws.map WtV.P))
  go_enter func123, ntmps123
  go_upto_region 1 with (fail)
  rw [← hw2]
  clear hw2
  refine rgw w2 (Below.refl _ _).drew fun hH => ?_
  refine tkq3 0 1 2 ?_
  refine tkr 3 rfl Xf1 ?_
  refine tkq 4 ?_
  refine tkr 5 rfl Xf3 ?_
  refine tkq 6 ?_
  refine tkr 7 rfl Xf2 ?_
  refine tkr 8 rfl Xf6 ?_
  refine tk1 9 rfl fun K hK => ?_
  go_simp
  refine (HG.out _ hH).mono ?_; rintro r w5 ⟨⟨v5, rfl, hv5⟩, rfl⟩
  have HV5 := hid hv5
  go_wp2_with fail
  try simp only [Option.isSome_some, Option.isSome_none]
  refine hK.out _ _ hH (fun hHeldn => ?_)
  clear hK K hH hv5; have hH := hHeldn; clear hHeldn
  refine stP ?_
  refine tkq4 10 11 12 13 ?_
  refine tkq 14 ?_
  refine adn ?_
  skip
  obtain ⟨w6, hw6⟩ := gty (w2.drew)
  rw [← hw6] at hH ⊢
  have HB6 := hid (HH.out.2.2.1.trans (hH.mono HH.out.2.2.1.size))
  have HX6 := hid (HH.out.2.2.2 w6 hH)
  have HC6 := hid ((HX.out w6 hH).2.2.2)
  have hv := HV5.out y rfl
  subst hv
  obtain ⟨hok, hst⟩ := HH.out.1.getok HGX.out
  have hbd := RV.bound hok
  have HOK := hid hok
  have HPR := hid (pair_law o.K HO.out.ko.1 (by have := HO.out.ko.2; omega) y.ra y.R.length y.rc y.R rfl hbd.1 hbd.2 w6 (hst.below HB6.out).now)
  clear hok hst hbd
  have c3 := HX6.out.1.cell 3
  simp only [gtA, gtB, gtC] at c3
  have hc6 := HC6.out
  clear hH hw6
  unfold RV.v
  go_wp2_with fail
  refine HPR.out.mono ?_; rintro r w7 ⟨z, rfl, hzk, hzr, hb7, hst7⟩
  have HZ := hid (And.intro hzk hzr)
  have hbd9 : ∀ k, (fun k => Rb S base k ∨ k = w.heap.size + 1) k -> k < w6.heap.size := fun k hk => by
   rcases hk with hk | rfl
   ·exact Nat.lt_of_lt_of_le (HH.out.1.rb HH.out.2.1 k hk) HB6.out.size
   ·exact HX6.out.2.lt
  have hs9 := prs_stay (fun k hk => Nat.lt_of_lt_of_le (hbd9 k hk) hb7.size) (hst7 _ hbd9)
  have HS9 := hid hs9
  have HB3 := hid (HX6.out.2.below (za_ hb7 (bl1 w7 (.cells #[.slice z.ka z.K.length z.kc, .slice z.ra z.R.length z.rc] 78))))
  have HBW := hid (HB6.out.trans ((za_ hb7 (bl1 w7 (.cells #[.slice z.ka z.K.length z.kc, .slice z.ra z.R.length z.rc] 78))).mono HB6.out.size))
  clear hb7 hst7 hbd9 hs9 hzk hzr c3 hc6
  have g0 := HB3.out.cell 0
  have g1 := HB3.out.cell 1
  have i0 := HB3.out.frozen 0
  have i1 := HB3.out.frozen 1
  simp only [gtA, gtB, gtC] at g0 g1
  go_wp2_with fail
  clear g0 g1 i0 i1
  have hb4 := zg_.set2 (x := .int .i64 0) (y := .slice (some ⟨w7.heap.size, 0, none⟩) 1 1) HB3.out
  have ho4 : Off (fun k => k = w.heap.size + 1) (w7.alloc (.cells #[.slice z.ka z.K.length z.kc, .slice z.ra z.R.length z.rc] 78)) (((w7.alloc (.cells #[.slice z.ka z.K.length z.kc, .slice z.ra z.R.length z.rc] 78)).setCell ⟨w.heap.size + 1, 0, none⟩ (.int .i64 0)).setCell ⟨w.heap.size + 1, 1, none⟩ (.slice (some ⟨w7.heap.size, 0, none⟩) 1 1)) :=
   Off.set (S := fun k => k = w.heap.size + 1) (Off.set (S := fun k => k = w.heap.size + 1) (Off.refl _ (w7.alloc (.cells #[.slice z.ka z.K.length z.kc, .slice z.ra z.R.length z.rc] 78))) ⟨w.heap.size + 1, 0, none⟩ rfl _) ⟨w.heap.size + 1, 1, none⟩ rfl _
  revert hb4 ho4
  generalize ((w7.alloc (.cells #[.slice z.ka z.K.length z.kc, .slice z.ra z.R.length z.rc] 78)).setCell ⟨w.heap.size + 1, 0, none⟩ (.int .i64 0)).setCell ⟨w.heap.size + 1, 1, none⟩ (.slice (some ⟨w7.heap.size, 0, none⟩) 1 1) = w4
  intro hb4 ho4
  have q0 := hb4.cell 0
  have q1 := hb4.cell 1
  have HO4 := hid ho4
  clear hb4 ho4
  refine bodyPost_end (v := .agg #[.int .i64 0, .slice (some ⟨w7.heap.size, 0, none⟩) 1 1]) (by simp [results, results123, go_sem, q0, q1]) rfl ?_
  have hokz : Qd_ z := ⟨by rw [HZ.out.1]; exact HO.out.ko.1, fun p hp => by
    have : p.bs ∈ y.R.map P1.bs := by rw [← HZ.out.2]; exact List.mem_map.2 ⟨p, hp, rfl⟩
    exact (HOK.out.2.2 _ this).1, by
    have h1 := congrArg List.length HZ.out.2
    have h2 := HOK.out.2.1
    unfold RV.P at h2
    rw [List.length_map, List.length_map] at h1
    rw [List.length_map] at h2
    omega⟩
  refine ⟨S, x, ⟨0, some ⟨w7.heap.size, 0, none⟩, 1, [z]⟩, rfl, TSt.same HH.out.1 (by
   refine Off.below HBW.out HO4.out HBW.out.size Xt35), ?_, ⟨by simp, fun p hp => by rw [List.mem_singleton] at hp; subst hp; exact hokz⟩, (HS9.out.off (HO4.out.mono fun k hk => .inr hk)).less (fun k hk => .inl hk), rfl⟩
  show ((0 : Int), [(z.K, z.R.map P1.bs)]) = _
  rw [HZ.out.1, HZ.out.2]
  rfl
structure WrV where
 t : Int
 ka : Option Addr
 kc : Nat
 K : List Int
 r : RV
def WrV.P (y : WrV) : Int × List Int × List (List Int) := (y.t, y.K, y.r.P)
def WrR (W : World) (a : Option Addr) (L : List WrV) : Prop := ∀ (k : Nat) (x : WrV), L[k]? = some x -> ∃ b off, a = some ⟨b, off, none⟩ /\ W.cell? ⟨b, off + k * 3, none⟩ = some (.int .i64 x.t) /\ W.cell? ⟨b, off + k * 3 + 1, none⟩ = some (.slice x.ka x.K.length x.kc) /\ W.cell? ⟨b, off + k * 3 + 2, none⟩ = some (.slice x.r.ra x.r.R.length x.r.rc) /\ Ls .u8 W x.ka x.kc x.K /\ RdR W x.r.ra x.r.R
theorem WrR.below {W W' : World} {a : Option Addr} {L : List WrV} (h : WrR W a L) (hb : Below W.heap.size W W') : WrR W' a L := fun k x hx => by
 obtain ⟨b, off, e, c0, c1, c2, l, r⟩ := h k x hx
 have f : ∀ {p v}, W.cell? p = some v -> W'.cell? p = some v := fun h => tcb hb h
 exact ⟨b, off, e, f c0, f c1, f c2, l.below hb, r.below hb⟩
def wrB (n : Nat) (x : WrV) : Bool := decide (0 <= x.t /\ x.t < (n : Int)) && yw_ x.K.length && (decide (x.r.R.length = 0) || yZ_ x.r.R)
def yo_ (T : List (List Pr)) (l : List (Int × List Int × List (List Int))) : List (List Pr) := l.foldl (fun T w => T.modify w.1.toNat fun t => xL_ t w.2.1 w.2.2) T
theorem jv_ {α β : Type} (f : α -> β) (g : α -> α) (g' : β -> β) : ∀ (L : List α) (n : Nat) (x : α), L[n]? = some x -> f (g x) = g' (f x) -> (L.set n (g x)).map f = (L.map f).modify n g'
 | [], n, x, h, _ => by simp at h
 | y :: L, 0, x, h, e => by
  simp only [List.getElem?_cons_zero, Option.some.injEq] at h
  subst h
  simp [e]
 | y :: L, n + 1, x, h, e => by
  have ih := jv_ f g g' L n x (by simpa using h) e
  simp only [List.set_cons_succ, List.map_cons, List.modify_succ_cons]
  rw [ih]
theorem MdR.up {S : Nat -> Prop} {w w' : World} {m : Md} (h : MdR S w m) {t : Nat} {x : Nat × List (List Int × RV)} (hx : m.tabs[t]? = some x) {L' : List (List Int × RV)} (o : Off (fun k => k = x.1) w w') (hm : Mp w' x.1 RV.v L') (hr : ∀ e ∈ L', zs_ S w' (fun W' => RdR W' e.2.ra e.2.R)) (hl : tOk (x6_ L')) :
  MdR S w' { m with tabs := m.tabs.set t (x.1, L') } := by
 have hxm := List.mem_of_getElem? hx
 have oS : Off S w w' := o.mono fun k hk => by cases hk; exact h.hS x hxm
 have hfst : (m.tabs.set t (x.1, L')).map Prod.fst = m.tabs.map Prod.fst := xD_ hx
 have hmem : ∀ z ∈ m.tabs.set t (x.1, L'), z = (x.1, L') ∨ (z ∈ m.tabs /\ z.1 ≠ x.1) := fun z hz => by
  obtain ⟨k, hk⟩ := List.mem_iff_getElem?.1 hz
  by_cases e : t = k
  ·subst e
   rw [List.getElem?_set_self (List.getElem?_eq_some_iff.1 hx).1] at hk
   cases hk; exact .inl rfl
  ·rw [List.getElem?_set_ne e] at hk
   refine .inr ⟨List.mem_of_getElem? hk, fun e2 => e ?_⟩
   have h1 : (m.tabs.map Prod.fst)[k]? = some x.1 := by rw [List.getElem?_map, hk, ← e2]; rfl
   have h2 : (m.tabs.map Prod.fst)[t]? = some x.1 := by rw [List.getElem?_map, hx]; rfl
   exact (List.getElem?_inj (by rw [List.length_map]; exact (List.getElem?_eq_some_iff.1 hx).1) h.nod).1 (h2.trans h1.symm)
 refine ⟨(h.st.off oS).mono fun W hW => ⟨?_, ?_, hW.job⟩, ?_, ?_, h.ok, ?_, ?_, ?_, ?_, ?_⟩
 ·have := hW.box
  unfold Md.cs at this ⊢
  rw [List.length_set]; exact this
 ·intro k z hz
  have hz : (m.tabs.set t (x.1, L'))[k]? = some z := hz
  by_cases e : t = k
  ·subst e
   rw [List.getElem?_set_self (List.getElem?_eq_some_iff.1 hx).1] at hz
   cases hz; exact hW.tab t x hx
  ·rw [List.getElem?_set_ne e] at hz
   exact hW.tab k z hz
 ·intro z hz
  rcases hmem z hz with rfl | ⟨hz, hne⟩
  ·exact hm
  ·exact (h.maps z hz).off o hne
 ·intro z hz
  rcases hmem z hz with rfl | ⟨hz, hne⟩
  ·exact hr
  ·exact fun e he => (h.rows z hz e he).off oS
 ·show (m.tabs.set t _).length = _
  rw [List.length_set]; exact h.len
 ·show (m.tabs.set t _).length <= _
  rw [List.length_set]; exact h.cap
 ·show ((m.tabs.set t _).map Prod.fst).Nodup
  rw [hfst]; exact h.nod
 ·intro z hz
  rcases hmem z hz with rfl | ⟨hz, hne⟩
  ·exact h.hS x hxm
  ·exact h.hS z hz
 ·intro z hz
  rcases hmem z hz with rfl | ⟨hz, hne⟩
  ·exact hl
  ·exact h.lim z hz
theorem Md.P_set {m : Md} {t : Nat} {x : Nat × List (List Int × RV)} (hx : m.tabs[t]? = some x) (L' : List (List Int × RV)) (K : List Int) (R : List (List Int)) (e : x6_ L' = xL_ (x6_ x.2) K R) : ({ m with tabs := m.tabs.set t (x.1, L') } : Md).P = m.P.modify t fun u => xL_ u K R := by
 unfold Md.P
 exact jv_ (fun x : Nat × List (List Int × RV) => x6_ x.2) (fun _ => (x.1, L')) (fun u => xL_ u K R) m.tabs t x hx e
theorem mayR_rOk {R : List P1} (h : yZ_ R = true) (hb : ∀ p ∈ R, Byt p.bs) : rOk (R.map P1.bs) := by
 unfold yZ_ at h
 rw [Bool.and_eq_true, decide_eq_true_eq] at h
 refine ⟨by rw [List.length_map]; exact h.2.1, by rw [List.length_map]; exact h.2.2, fun f hf => ?_⟩
 obtain ⟨p, hp, rfl⟩ := List.mem_map.1 hf
 refine ⟨hb p hp, ?_⟩
 have := h.1
 unfold QX_ at this
 simp only [List.all_eq_true] at this
 have := this p hp
 simpa using this
theorem mayK_ok {K : List Int} (h : yw_ K.length = true) (hb : Byt K) : zH_ K := by
 unfold yw_ at h
 rw [decide_eq_true_eq] at h
 exact ⟨hb, h.1, h.2⟩
theorem Mp.drop {α : Type} {val : α -> Value} {W : World} {b t e : Nat} {L : List (List Int × α)} (h : Mp W b val L) (ht : prog.underlying t = some (.map 9 e)) {K : List Int} (hK : Byt K) (hn : K.length <= 1000000) (ty : TypeId) :
  ∃ w', (Builtin.delete_ #[t, 9] ty #[.map (some b), .string (strOfNums K)]).run prog W = .ok (.tuple #[]) w' /\ Mp w' b val (x7_ L K none) /\ W.grownBy w' (some b) := by
 obtain ⟨w', hrun, hm, ht⟩ := h.own.drop law9 ht (keyK (xG_ hn)) ty
 exact ⟨w', hrun, h.del hK hm, ht.grown⟩
structure zG_ (m m' : Md) : Prop where
 p : m'.p = m.p
 j : m'.j = m.j
 f : m'.tabs.map Prod.fst = m.tabs.map Prod.fst
theorem zG_.rfl' (m : Md) : zG_ m m := ⟨rfl, rfl, rfl⟩
theorem zG_.len {m m' : Md} (h : zG_ m m') : m'.tabs.length = m.tabs.length := by have := congrArg List.length h.f; simpa using this
theorem zG_.set {m m' : Md} (h : zG_ m m') {t : Nat} {x : Nat × List (List Int × RV)} (hx : m'.tabs[t]? = some x) (L' : List (List Int × RV)) : zG_ m { m' with tabs := m'.tabs.set t (x.1, L') } := ⟨h.p, h.j, (xD_ hx).trans h.f⟩
def yK_ (m : Md) (k : Nat) : Prop := ∃ x ∈ m.tabs, k = x.1
theorem zG_.mem {m m' : Md} (h : zG_ m m') {x : Nat × List (List Int × RV)} (hx : x ∈ m'.tabs) : yK_ m x.1 := by
 have : x.1 ∈ m.tabs.map Prod.fst := by rw [← h.f]; exact List.mem_map.2 ⟨x, hx, rfl⟩
 obtain ⟨y, hy, e⟩ := List.mem_map.1 this
 exact ⟨y, hy, e.symm⟩
theorem q4_ (T : List (List Pr)) (L : List WrV) {k : Nat} {x : WrV} (h : L[k]? = some x) : yo_ T ((L.take (k + 1)).map WrV.P) = (yo_ T ((L.take k).map WrV.P)).modify x.t.toNat fun t => xL_ t x.K x.r.P := by
 unfold yo_
 rw [List.take_add_one, h, List.map_append, List.foldl_append]
 rfl
theorem QW_ {L : List WrV} {n k : Nat} {x : WrV} (h : L[k]? = some x) (hk : (L.take k).all (wrB n) = true) : (L.take (k + 1)).all (wrB n) = wrB n x := by
 rw [List.take_add_one, h, List.all_append, hk]; simp
theorem q5_ {L : List WrV} {n k : Nat} {x : WrV} (h : L[k]? = some x) (hx : wrB n x = false) : L.all (wrB n) = false := by
 rw [List.all_eq_false]
 exact ⟨x, List.mem_of_getElem? h, by rw [hx]; simp⟩
def ApR (S : Nat -> Prop) (w : World) (m : Md) (L : List WrV) (r : Ending) (w' : World) : Prop :=
 ∃ m', r = .returned (.int .i64 (if L.all (wrB m.tabs.length) then 0 else 2)) /\ MdR S w' m' /\ zG_ m m' /\ m'.P = (if L.all (wrB m.tabs.length) then yo_ m.P (L.map WrV.P) else m.P) /\ Off (yK_ m) w w' /\ ∀ N : Nat, (∀ x ∈ m.tabs, x.2.length <= N) -> ∀ x ∈ m'.tabs, x.2.length <= N + L.length
theorem mapply_lawT {S : Nat -> Prop} {m : Md} {w : World} (h : MdR S w m) (hS : ∀ k, S k -> k < w.heap.size) (a : Option Addr) (n c : Nat) (L : List WrV) (hn : L.length = n) (hn2 : n <= 90000) (hL : zs_ (yK_ m) w fun W => WrR W a L) (hb : ∀ x ∈ L, Byt x.K /\ x.K.length <= 1000000 /\ x.r.R.length <= 1000000 /\ ∀ p ∈ x.r.R, Byt p.bs) (hf : ∀ x ∈ m.tabs, x.2.length <= 900000) :
  Calls prog 16 #[.pointer (some ⟨m.p, 0, none⟩), .slice a n c] w (ApR S w m L) := by
 have HH := hid h
 have HL := hid hL
 have HN := hid hn
 have HS := hid hS
 have HB := hid hb
 have HF := hid hf
 have hni : (n : Int) <= 1000000 := by omega
 clear h hS hn hL hb hf
 go_enter func16, ntmps16
 go_wp2_with (go_at_call 51; refine (yE_ HH.out).mono ?_; rintro e w' ⟨rfl, rfl⟩)
 go_loopw [13] (fun i wr => ∃ k : Nat, k <= n /\ i = .int .i64 (k : Int) /\ (L.take k).all (wrB m.tabs.length) = true /\ Hid (Below w.heap.size w wr)) (fun i _ => n - (intOf i).toNat)
 case atStart => exact ⟨0, by omega, rfl, rfl, hid (Below.refl _ _)⟩
 case round =>
  obtain ⟨k, hk, rfl, hall, HBW⟩ := hrel
  by_cases hlt : k < n
  ·have d1 : (k : Int) < (n : Int) := by omega
   obtain ⟨x, hx⟩ : ∃ x, L[k]? = some x := ⟨_, List.getElem?_eq_getElem Xt9⟩
   obtain ⟨b1, o1, ea, c0, c1, c2, l, rr⟩ := (HL.out.below HBW.out).now k x hx
   subst ea
   have HX := hid hx
   have HA := hid hall
   have HRR := hid rr
   have hxb := HB.out x (List.mem_of_getElem? hx)
   have HXB := hid hxb
   have hrl : (x.r.R.length : Int) <= 1000000 := by omega
   clear hx hall l rr
   go_wp2_with fail
   have HB5 := hid (za_ HBW.out (bl1 wr (.cells #[.int .i64 x.t, .slice x.ka x.K.length x.kc, .slice x.r.ra x.r.R.length x.r.rc] 84)))
   have hbx := zg_.new wr #[.int .i64 x.t, .slice x.ka x.K.length x.kc, .slice x.r.ra x.r.R.length x.r.rc] 84
   have HR5 := hid (HRR.out.below (bl1 wr (.cells #[.int .i64 x.t, .slice x.ka x.K.length x.kc, .slice x.r.ra x.r.R.length x.r.rc] 84)))
   generalize wr.alloc (.cells #[.int .i64 x.t, .slice x.ka x.K.length x.kc, .slice x.r.ra x.r.R.length x.r.rc] 84) = w5 at HB5 hbx HR5 ⊢
   have e1 := hbx.cell 1
   have e2 := hbx.cell 2
   simp only [gtA, gtB, gtC] at e1 e2
   refine (yQ_ (HH.out.below HB5.out) x.t).mono ?_; rintro r w6 ⟨rfl, rfl⟩
   have hwr : wrB m.tabs.length x = (decide (0 <= x.t /\ x.t < (m.tabs.length : Int)) && yw_ x.K.length && (decide (x.r.R.length = 0) || yZ_ x.r.R)) := rfl
   obtain ⟨bh, hbh⟩ := gtx (decide (0 <= x.t /\ x.t < (m.tabs.length : Int)))
   obtain ⟨bk, hbk⟩ := gtx (yw_ x.K.length)
   obtain ⟨br, hbr⟩ := gtx (yZ_ x.r.R)
   rw [hbh, hbk, hbr] at hwr
   rw [hbh]
   have HK := hid (fun w => zN_ x.ka x.K.length x.kc w)
   have HM := hid (xZ_ x.r.ra x.r.R x.r.R.length x.r.rc rfl Xt0 w5 HR5.out)
   rw [hbk] at HK
   rw [hbr] at HM
   clear hbh hbk hbr hbx
   cases bh
   ·have HV := hid (q5_ HX.out (by rw [hwr]; rfl))
    clear hwr
    go_wp2_with fail
    exact Xb76
   cases bk
   ·have HV := hid (q5_ HX.out (by rw [hwr]; rfl))
    clear hwr
    go_wp2_with (go_at_call 53; refine (HK.out _).mono ?_; rintro e w' ⟨rfl, rfl⟩)
    exact Xb76
   by_cases h0 : x.r.R.length = 0
   ·have HV := hid (show (L.take (k + 1)).all (wrB m.tabs.length) = true from (QW_ HX.out HA.out).trans (by rw [hwr, decide_eq_true h0]; rfl))
    rw [h0] at e2
    clear hwr h0
    go_wp2_with (go_at_call 53; refine (HK.out _).mono ?_; rintro e w' ⟨rfl, rfl⟩)
    go_roundw
    case rel => exact ⟨k + 1, by omega, by go_num, HV.out, HB5⟩
    case measure => simp [intOf]; omega
   have h1 : (0 : Int) < (x.r.R.length : Int) := by omega
   have h2 : 0 < x.r.R.length := by omega
   cases br
   ·have HV := hid (q5_ HX.out (by rw [hwr, decide_eq_false h0]; rfl))
    clear hwr h0
    go_wp2_with (first | (go_at_call 53; refine (HK.out _).mono ?_; rintro e w' ⟨rfl, rfl⟩) | (go_at_call 54; refine HM.out.mono ?_; rintro e w7 ⟨rfl, hb7⟩; have HB7 := hid (HB5.out.trans (hb7.mono HB5.out.size)); clear hb7))
    go_ret
    exact ⟨m, by rw [HV.out]; rfl, HH.out.below HB7.out, zG_.rfl' m, by rw [HV.out]; rfl, Off.of HB7.out, fun N h z hz => by have := h z hz; omega⟩
   ·have HV := hid (show (L.take (k + 1)).all (wrB m.tabs.length) = true from (QW_ HX.out HA.out).trans (by rw [hwr, decide_eq_false h0]; rfl))
    clear hwr h0
    go_wp2_with (first | (go_at_call 53; refine (HK.out _).mono ?_; rintro e w' ⟨rfl, rfl⟩) | (go_at_call 54; refine HM.out.mono ?_; rintro e w7 ⟨rfl, hb7⟩; have HB7 := hid (HB5.out.trans (hb7.mono HB5.out.size)); clear hb7))
    go_roundw
    case rel => exact ⟨k + 1, by omega, by go_num, HV.out, HB7⟩
    case measure => simp [intOf]; omega
  ·have d1 : ¬ (k : Int) < (n : Int) := by omega
   have HA := hid (show L.all (wrB m.tabs.length) = true by rw [List.take_of_length_le Xt23] at hall; exact hall)
   have HBW1 := HBW
   clear hall hlt hk HBW
   go_wp2_with fail
   go_loopw [43] (fun i wr => ∃ (k : Nat) (m' : Md), k <= n /\ i = .int .i64 (k : Int) /\ Hid (MdR S wr m') /\ Hid (zG_ m m') /\ Hid (m'.P = yo_ m.P ((L.take k).map WrV.P)) /\ Hid (Off (yK_ m) w wr) /\ Hid (∀ N : Nat, (∀ x ∈ m.tabs, x.2.length <= N) -> ∀ x ∈ m'.tabs, x.2.length <= N + k)) (fun i _ => n - (intOf i).toNat)
   case atStart => exact ⟨0, m, by omega, rfl, hid (HH.out.below HBW1.out), hid (zG_.rfl' m), hid rfl, hid (Off.of HBW1.out), hid (fun N h z hz => by have := h z hz; omega)⟩
   case round =>
    obtain ⟨k, m', hk, rfl, HM, HSM, HP, HOF, HFW⟩ := hrel
    by_cases hlt : k < n
    ·have d1 : (k : Int) < (n : Int) := by omega
     obtain ⟨x, hx⟩ : ∃ x, L[k]? = some x := ⟨_, List.getElem?_eq_getElem Xt9⟩
     have hoS : Off S w wr := HOF.out.mono fun k hk => by obtain ⟨z, hz, rfl⟩ := hk; exact HH.out.hS z hz
     obtain ⟨b1, o1, ea, c0, c1, c2, l, rr⟩ := (HL.out wr HOF.out) k x hx
     subst ea
     have hwb : wrB m.tabs.length x = true := (List.all_eq_true.1 HA.out) x (List.mem_of_getElem? hx)
     unfold wrB at hwb
     rw [Bool.and_eq_true, Bool.and_eq_true, decide_eq_true_eq] at hwb
     obtain ⟨⟨⟨ht0, ht1⟩, hmk⟩, hmr⟩ := hwb
     have hxb := HB.out x (List.mem_of_getElem? hx)
     have hko : zH_ x.K := mayK_ok hmk hxb.1
     have hro : x.r.R ≠ [] -> rOk x.r.P := fun hne => by
      rw [Bool.or_eq_true, decide_eq_true_eq] at hmr
      rcases hmr with e | e
      ·exact absurd (List.length_eq_zero_iff.1 e) hne
      ·exact mayR_rOk e hxb.2.2.2
     obtain ⟨t, ht⟩ : ∃ t : Nat, x.t = (t : Int) := ⟨x.t.toNat, by omega⟩
     rw [ht] at c0 ht1
     have HT := hid ht
     have htn : t < m'.tabs.length := by rw [HSM.out.len]; omega
     obtain ⟨z, hz⟩ : ∃ z, m'.tabs[t]? = some z := ⟨_, List.getElem?_eq_getElem htn⟩
     have HZ := hid hz
     have HX9 := hid hx
     have HKO := hid hko
     have HRO := hid hro
     have HRR := hid (And.intro l rr)
     have hrl : (x.r.R.length : Int) <= 1000000 := by omega
     have hfewz := HFW.out 900000 HF.out z (List.mem_of_getElem? hz)
     have hm4 := HM.out.few
     have htt : (t : Int) < (m'.tabs.length : Int) := by omega
     have ht3 : ¬ (t : Int) < 0 := by omega
     have htl : (m'.tabs.length : Int) <= 1000000 := by omega
     clear hx l rr hz hko hro hmr hmk hxb ht ht1 ht0 hoS htn hm4
     go_upto_region 12 with (fail)
     have HB5 := hid (bl1 wr (.cells #[.int .i64 (t : Int), .slice x.ka x.K.length x.kc, .slice x.r.ra x.r.R.length x.r.rc] 84))
     have hbx := zg_.new wr #[.int .i64 (t : Int), .slice x.ka x.K.length x.kc, .slice x.r.ra x.r.R.length x.r.rc] 84
     obtain ⟨bx, hbxe⟩ := gtx (wr.heap.size)
     have HR5 := hid (HRR.out.2.below HB5.out)
     have HL5 := hid (HRR.out.1.below HB5.out)
     have HM5 := hid (HM.out.below HB5.out)
     have HO5 := hid (HOF.out.then HB5.out)
     rw [hbxe] at hbx
     obtain ⟨w5, hw5⟩ := gty (wr.alloc (.cells #[.int .i64 (t : Int), .slice x.ka x.K.length x.kc, .slice x.r.ra x.r.R.length x.r.rc] 84))
     rw [← hw5] at HB5 hbx HR5 HL5 HM5 HO5 ⊢
     rw [hbxe]
     have HBX := hid hbx
     have e2 := hbx.cell 2
     simp only [gtA, gtB, gtC] at e2
     have hpp : m'.p = m.p := HSM.out.p
     have HX := hid (fun X (b : Below w5.heap.size w5 X) => (⟨by have := (HM5.out.below b).c; rw [hpp] at this; exact this, by rw [(HBX.out.below b).cell]; rfl, (HM5.out.below b).st.now.tab t z HZ.out, by rw [(HBX.out.below b).cell]; rfl, zA_ X x.ka x.K.length x.kc x.K rfl (HL5.out.below b).rd, by rw [(HBX.out.below b).cell]; rfl⟩ : X.cell? ⟨m.p, 7, none⟩ = some (.slice (some ⟨m'.bt, 0, none⟩) m'.tabs.length m'.tc) /\ X.cell? ⟨bx, 0, none⟩ = some (.int .i64 (t : Int)) /\ X.cell? ⟨m'.bt, t, none⟩ = some (.map (some z.1)) /\ X.cell? ⟨bx, 1, none⟩ = some (.slice x.ka x.K.length x.kc) /\ (convert 42 9 (.slice x.ka x.K.length x.kc)).run prog X = .ok (.string (strOfNums x.K)) X /\ X.cell? ⟨bx, 2, none⟩ = some (.slice x.r.ra x.r.R.length x.r.rc)))
     have hzm := List.mem_of_getElem? HZ.out
     have HDEL := hid (fun X (b : Below w5.heap.size w5 X) => ((HM5.out.below b).maps z hzm).drop (t := 90) (e := 50) underlying90 HKO.out.1 (by have := HKO.out.2; omega) 0)
     have HPUT := hid (fun X (b : Below w5.heap.size w5 X) => ((HM5.out.below b).maps z hzm).store (t := 90) (e := 50) underlying90 HKO.out.1 (by have := HKO.out.2; omega) Xt0)
     have HS5 := hid (fun k hk => Nat.lt_of_lt_of_le (HS.out k hk) HO5.out.size)
     have HZM := hid hzm
     have HFZ := hid hfewz
     clear hbx hw5 hbxe hzm hfewz c0 c1 c2
     by_cases h0 : x.r.R.length = 0
     ·rw [h0] at e2
      have HZ0 := hid h0
      clear h0
      have HXO := hid (fun X (o : Off (fun k => k = z.1) w5 X) => (by
       have oS : Off S w5 X := o.mono fun k hk => by cases hk; exact HM5.out.hS z HZM.out
       have hst := HM5.out.st X oS
       have hb := o.box HBX.out (fun e => (HM5.out.maps z HZM.out).ne_box HBX.out e.symm)
       have hl := (HL.out X (HO5.out.trans (o.mono fun k hk => by cases hk; exact HSM.out.mem HZM.out))) k x HX9.out
       refine ⟨?_, by rw [hb.cell]; rfl, hst.tab t z HZ.out, by rw [hb.cell]; rfl, zA_ X x.ka x.K.length x.kc x.K rfl ?_, by rw [hb.cell]; rfl⟩
       ·have := hst.box.cell 7
        rw [hpp] at this
        exact this
       ·obtain ⟨_, _, _, _, _, _, hl, _⟩ := hl
        exact hl.rd : X.cell? ⟨m.p, 7, none⟩ = some (.slice (some ⟨m'.bt, 0, none⟩) m'.tabs.length m'.tc) /\ X.cell? ⟨bx, 0, none⟩ = some (.int .i64 (t : Int)) /\ X.cell? ⟨m'.bt, t, none⟩ = some (.map (some z.1)) /\ X.cell? ⟨bx, 1, none⟩ = some (.slice x.ka x.K.length x.kc) /\ (convert 42 9 (.slice x.ka x.K.length x.kc)).run prog X = .ok (.string (strOfNums x.K)) X /\ X.cell? ⟨bx, 2, none⟩ = some (.slice x.r.ra x.r.R.length x.r.rc)))
      go_upto_region 13 with (fail)
      refine wp_region_held_drew (S := (fun X => Off (fun k => k = z.1) w5 X)) Xt3 ((Off.refl _ _).drew) fun hH => ?_
      refine tkq3 0 1 2 ?_
      refine tkr 3 rfl (fun W hSw => by have m := (HXO.out W hSw).1; exact tks) ?_
      refine tkq 4 ?_
      refine tkr 5 rfl (fun W hSw => by have m := (HXO.out W hSw).2.1; exact tks) ?_
      refine tkq 6 ?_
      refine tkr 7 rfl (fun W hSw => by have m := (HXO.out W hSw).2.2.1; exact tks) ?_
      refine tkq 8 ?_
      refine tkr 9 rfl (fun W hSw => by have m := (HXO.out W hSw).2.2.2.1; exact tks) ?_
      refine tkr 10 rfl (fun W hSw => by have m := (HXO.out W hSw).2.2.2.2.1; exact tks) ?_
      refine tk1 11 rfl fun K hK => ?_
      obtain ⟨w7, hrun, hmp7, hg7⟩ := HDEL.out _ ((Below.refl w5.heap.size w5).drew)
      have o7 : Off (fun k => k = z.1) w5 w7 := (Off.of ((Below.refl w5.heap.size w5).drew)).trans (Off.of_map hg7 rfl)
      go_simp
      refine hK.out _ _ o7 fun hH => ?_
      refine stP ?_
      refine adn ?_
      skip
      have hup := HM5.out.up HZ.out o7 hmp7 (fun e he => by
       rcases yR_.1 he with he | he
       ·exact Xb109
       ·cases he.2) (by rw [tabP_del]; exact (HM5.out.lim z HZM.out).set HKO.out fun e => absurd rfl e)
      have HUP := hid hup
      have HO7 := hid (HO5.out.trans (o7.mono fun k hk => by cases hk; exact HSM.out.mem HZM.out))
      have HLN := hid (qw_ (HM5.out.maps z HZM.out).ris x.K none)
      clear o7 hmp7 hg7 hup hrun hH e2
      go_wp2_with fail
      go_roundw
      case rel =>
       refine ⟨k + 1, _, by omega, by go_num, HUP, hid (HSM.out.set HZ.out _), hid ?_, HO7, hid (fun N hN q hq => ?_)⟩
       ·rw [q4_ m.P L HX9.out, ← HP.out, HT.out]
        have hre : x.r.P = [] := by unfold RV.P; rw [List.length_eq_zero_iff.1 HZ0.out]; rfl
        rw [hre]
        exact Md.P_set HZ.out _ x.K [] (tabP_del _ _)
       ·rcases List.mem_or_eq_of_mem_set hq with hq | rfl
        ·have := HFW.out N hN q hq; omega
        ·have := HFW.out N hN z HZM.out; have := HLN.out; show (x7_ z.2 x.K none).length <= _; omega
      case measure => simp [intOf]; omega
     ·have hne : ((x.r.R.length : Int) == 0) = false := by simp; intro e; rw [e] at h0; simp at h0
      have HNE := hid (show x.r.R ≠ [] from fun e => h0 (by rw [e]; rfl))
      have HBD := hid (RV.bound (HRO.out HNE.out))
      clear h0
      go_upto_region 14 with (fail)
      refine zr_ (z := 14) (S := (fun X => Below w5.heap.size w5 X)) Xt3 ((Below.refl _ _).drew) fun hH => ?_
      refine tlk 0 rfl Xt2 ?_
      refine tlk 1 rfl Xt2 ?_
      refine tlk 2 rfl Xt2 ?_
      refine tlk 3 rfl Xf1 ?_
      refine tlk 4 rfl Xt2 ?_
      refine tlk 5 rfl Xf3 ?_
      refine tlk 6 rfl Xt2 ?_
      refine tlk 7 rfl Xf2 ?_
      refine tlk 8 rfl Xt2 ?_
      refine tlk 9 rfl (fun W hSw => by have m := (HX.out W hSw).2.2.2.1; exact tks) ?_
      refine tlk 10 rfl (fun W hSw => by have m := (HX.out W hSw).2.2.2.2.1; exact tks) ?_
      refine tlk 11 rfl Xt2 ?_
      refine tlk 12 rfl (fun W hSw => by have m := (HX.out W hSw).2.2.2.2.2; exact tks) ?_
      refine tl1 13 rfl fun K hK => ?_
      go_simp
      refine (zV_ _ x.r.R _ _ rfl HBD.out.1 HBD.out.2 _ ((HR5.out).below hH)).mono ?_; rintro r w6 ⟨⟨v6, rfl, hc6⟩, hb6⟩
      obtain ⟨a6, c6, R6, hv6, hl6, hm6, hst6⟩ := xs_ (S := S) hc6 rfl (fun k hk => Nat.lt_of_lt_of_le (HS5.out k hk) hH.size)
      subst hv6
      go_wp2_with fail
      have HC6 := hid (And.intro hl6 (And.intro hm6 hst6))
      have HB6 := hid (za_ hH hb6)
      refine hK.out _ _ HB6.out (fun hHeldn => ?_)
      clear hK K hH hc6 hb6 hl6 hm6 hst6; have hH := hHeldn; clear hHeldn
      refine stP ?_
      refine tlz rfl fun K hK => ?_
      obtain ⟨w7, hrun, hmp7, hg7⟩ := HPUT.out _ hH ⟨a6, c6, R6⟩
      simp only [RV.v, HC6.out.1] at hrun
      go_simp
      refine hK.out _ _ ?_
      clear hK K
      refine stP ?_
      refine zz_ Xt3 ?_ _
      skip
      have o67 : Off (fun k => k = z.1) w6 w7 := Off.of_map hg7 rfl
      have o7 : Off (fun k => k = z.1) w5 w7 := (Off.of HB6.out).trans o67
      have hP6 : (⟨a6, c6, R6⟩ : RV).P = x.r.P := HC6.out.2.1
      have hPne : (⟨a6, c6, R6⟩ : RV).P ≠ [] := by rw [hP6]; unfold RV.P; simpa using HNE.out
      have hup := HM5.out.up HZ.out o7 hmp7 (fun e he => by
       rcases yR_.1 he with he | he
       ·exact Xb109
       ·have e2 := he.2
        injection e2 with e2
        rw [← e2]
        exact HC6.out.2.2.off (o67.mono fun k hk => by cases hk; exact HM5.out.hS z HZM.out)) (by rw [jJ_ _ _ _ hPne]; exact (HM5.out.lim z HZM.out).set HKO.out fun e => by rw [hP6]; exact HRO.out HNE.out)
      have HUP := hid hup
      have HO7 := hid (HO5.out.trans (o7.mono fun k hk => by cases hk; exact HSM.out.mem HZM.out))
      have HLN := hid (qw_ (HM5.out.maps z HZM.out).ris x.K (some (⟨a6, c6, R6⟩ : RV)))
      have HP6 := hid (And.intro hP6 hPne)
      clear o7 o67 hmp7 hg7 hup hrun e2 hP6 hPne
      go_wp2_with fail
      go_roundw
      case rel =>
       refine ⟨k + 1, _, by omega, by go_num, HUP, hid (HSM.out.set HZ.out _), hid ?_, HO7, hid (fun N hN q hq => ?_)⟩
       ·rw [q4_ m.P L HX9.out, ← HP.out, HT.out]
        refine Md.P_set HZ.out _ x.K x.r.P ?_
        rw [jJ_ _ _ _ HP6.out.2, HP6.out.1]
       ·rcases List.mem_or_eq_of_mem_set hq with hq | rfl
        ·have := HFW.out N hN q hq; omega
        ·have := HFW.out N hN z HZM.out; have := HLN.out; show (x7_ z.2 x.K _).length <= _; omega
      case measure => simp [intOf]; omega
    ·have d1 : ¬ (k : Int) < (n : Int) := by omega
     have HV := hid (show L.take k = L from List.take_of_length_le Xt23)
     go_wp2_with fail
     go_ret
     refine ⟨m', by rw [HA.out]; rfl, HM.out, HSM.out, by rw [HA.out]; rw [HP.out, HV.out]; rfl, HOF.out, fun N hN q hq => ?_⟩
     have := HFW.out N hN q hq
     have := HN.out
     omega
end
end Go.Proofs.YthmofoldmdafoaaGreat
