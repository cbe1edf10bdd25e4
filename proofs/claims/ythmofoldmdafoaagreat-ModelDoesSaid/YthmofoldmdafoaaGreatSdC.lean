/- Part of the proof that ModelDoes holds for every input: tables, under any transactions, answer, write and stand as the document says. Part 29. -/
import Derived.Test.YthmofoldmdafoaaGreatSdB
set_option linter.unusedVariables false
set_option linter.unusedSimpArgs false
set_option maxRecDepth 100000
set_option maxHeartbeats 4000000
namespace Go.Proofs.YthmofoldmdafoaaGreat
open Go.ChangeShapes Go.WideShapes Go.ChangeAt Go.RowKit
open Go.Lib (hid)
open Go.Proofs.Tryz
structure OpD (S : Nat -> Prop) (w : World) (f : Rf) (o : zj_) (t : Nat) : Prop where
 at' : zs_ S w fun W => zy_ W o
 te : o.t = (t : Int)
 tl : t < f.Ts.length
 po : pO f.j o = true
 rn : o.rn <= 1000000
def zZ_ (S : Nat -> Prop) (w : World) (f : Rf) (a : (Int × List Pr) × List (List Pr)) (r : Ending) (w' : World) : Prop :=
 ∃ g y, r = .returned (.agg #[.int .i64 y.e, .slice y.pa y.P.length y.pc]) /\ RfS f g /\ RfR S w' g /\ Off (fun k => k = f.b1) w w' /\ (yx_ y, g.P) = a /\ ym_ y /\ zs_ S w' (fun W' => zn_ W' y.pa y.P) /\ ∀ N : Nat, (∀ x ∈ f.Ts, x.P.length <= N) -> ∀ x ∈ g.Ts, x.P.length <= N + 1
def Sp (S : Nat -> Prop) (B k : Nat) : Prop := S k ∨ k = B
theorem zZ_.fin {S : Nat -> Prop} {w w2 w3 w4 : World} {f g : Rf} {B : Nat} {y : xu_} {ans : (Int × List Pr) × List (List Pr)} (hS : ∀ k, S k -> k < w.heap.size) (hb : Below w.heap.size w w2) (hB : w.heap.size <= B) (hs : RfS f g) (hg : RfR (Sp S B) w3 g) (o : Off (fun k => k = f.b1) w2 w3) (o4 : Off (fun k => k = B) w3 w4) (hfp : S f.p) (hfb : S f.b1)
  (ha : (yx_ y, g.P) = ans) (hok : ym_ y) (hy : zs_ (Sp S B) w3 fun W' => zn_ W' y.pa y.P) (hN : ∀ N : Nat, (∀ x ∈ f.Ts, x.P.length <= N) -> ∀ x ∈ g.Ts, x.P.length <= N + 1) : zZ_ S w f ans (.returned (.agg #[.int .i64 y.e, .slice y.pa y.P.length y.pc])) w4 := by
 have h23 : Off (fun k => k = f.b1) w w3 := (Off.of hb).trans o
 refine ⟨g, y, rfl, hs, hg.off (T := fun k => k = B) o4 (fun k hk => .inr hk) (fun e => ?_) (fun e => ?_) (fun k hk => .inl (.inl hk)) (by rw [hs.p]; exact hfp) (by rw [hs.b]; exact hfb), ?_, ha, hok, (hy.off (o4.mono fun k hk => .inr hk)).less fun k hk => .inl hk, hN⟩
 ·rw [hs.p] at e; have := hS _ hfp; omega
 ·rw [hs.b] at e; have := hS _ hfb; omega
 ·refine ⟨o4.os.trans h23.os, o4.tape.trans h23.tape, o4.output.trans h23.output, Nat.le_trans h23.size o4.size, fun k hk hn => ?_⟩
  exact (o4.block k (Nat.lt_of_lt_of_le hk h23.size) fun e => by omega).trans (h23.block k hk hn)
theorem RfR.sp {S : Nat -> Prop} {w w2 : World} {f : Rf} (h : RfR S w f) (hb : Below w.heap.size w w2) {B : Nat} (hB : w.heap.size <= B) : RfR (Sp S B) w2 f :=
 h.off (T := fun _ => False) (Off.of hb) (fun _ h => h.elim) (fun h => h) (fun h => h) (fun k hk => by
  rcases hk with hk | hk
  ·exact .inl hk
  ·exact .inr Xt0) (.inl h.hp) (.inl h.hb)
theorem qO_ {S : Nat -> Prop} {f : Rf} {w : World} (h : RfR S w f) (t : Nat) (ht : t < f.Ts.length) (K : List Int) (bK : Byt K) (ka : Option Addr) (kn kc : Nat) (hkn : K.length = kn) (hl : ∀ x ∈ f.Ts, x.P.length <= 1000000) (hk : Ls .u8 w ka kc K) :
  ∃ q : Option (List P1), q.map (fun R => R.map P1.bs) = xd_ (f.P.getD t []) K /\ (∀ R, q = some R -> rOk (R.map P1.bs)) /\ Calls prog 19 #[.pointer (some ⟨f.p, 0, none⟩), .int .i64 (t : Int), .slice ka kn kc] w (GetR w q) := by
 obtain ⟨x, hx⟩ : ∃ x, f.Ts[t]? = some x := ⟨_, List.getElem?_eq_getElem ht⟩
 have hxm := List.mem_of_getElem? hx
 have hfw := h.few
 refine ⟨getP K x.P, ?_, fun R hR => ?_, rget_law f.p (some ⟨f.b1, 0, none⟩) ka f.Ts.length f.tc kn kc t f.Ts x K hx rfl Xt0 hkn bK (h.tok hxm (hl x hxm)) (fun y hy => pr_bound (h.pair hxm hy)) w h.c h.tbs.now hk⟩
 ·rw [h.getD hx]
  exact getP_T (h.lim x hxm).1
 ·cases hh : x9_ K x.P with
  | false => rw [getP_no hh] at hR; cases hR
  | true =>
   obtain ⟨y, hy, e⟩ := getP_yes hh
   rw [e] at hR
   cases hR
   exact (h.pair hxm (List.mem_of_getElem? hy)).2
theorem rcall1_law {S : Nat -> Prop} {f : Rf} {w : World} (h : RfR S w f) (hS : ∀ k, S k -> k < w.heap.size) (o : zj_) (t : Nat) (ho : OpD S w f o t) (hk1 : o.k = 1) (hl : ∀ x ∈ f.Ts, x.P.length <= 900000) :
  Calls prog 78 #[.pointer (some ⟨f.p, 0, none⟩), .agg #[.int .i64 o.k, .int .i64 o.t, .int .i64 o.i, .slice o.ka o.kn o.kc, .slice o.ta o.tn o.tc, .int .i64 o.m, .slice o.ra o.rn o.rc]] w (zZ_ S w f (yq_ f.j f.P o)) := by
 obtain ⟨hb, hbx⟩ := yl_ w #[.int .i64 o.k, .int .i64 o.t, .int .i64 o.i, .slice o.ka o.kn o.kc, .slice o.ta o.tn o.tc, .int .i64 o.m, .slice o.ra o.rn o.rc] #[.int .i64 0, .slice none 0 0] 74 81
 obtain ⟨w2, hw2⟩ := gty (((w.alloc (.cells #[.int .i64 o.k, .int .i64 o.t, .int .i64 o.i, .slice o.ka o.kn o.kc, .slice o.ta o.tn o.tc, .int .i64 o.m, .slice o.ra o.rn o.rc] 74)).alloc (.cells #[.int .i64 0, .slice none 0 0] 81)))
 rw [← hw2] at hb hbx
 have hok := ho.at'.now
 have hk5 : o.k < 5 := by omega
 have hkey := jr_ ho.po Xt51 hok.kl hok.kb
 have hrow := Qy_ ho.po hok.rl hok.rb
 have hB1 : w.heap.size <= w.heap.size + 1 := Nat.le_succ _
 have hm2 := h.sp hb hB1
 have hbd : ∀ k, Sp S (w.heap.size + 1) k -> k < w2.heap.size := fun k hk => hk.elim (fun hk => Nat.lt_of_lt_of_le (hS k hk) hb.size) Xt17
 obtain ⟨q, hq1, hq2, hq3⟩ := qO_ hm2 t ho.tl o.K hkey.1 o.ka o.kn o.kc hok.kl Xt26 (hok.ks.below hb)
 have HQ := hid (And.intro hq1 hq2)
 have HG := hid hq3
 have HH := hid (And.intro h (And.intro hS hl))
 have HO := hid ho
 have HB := hid (And.intro hb hbx)
 have HM2 := hid (And.intro hm2 hbd)
 have HKY := hid (And.intro hkey hrow)
 have HST := hid (ho.at'.step (S' := Sp S (w.heap.size + 1)) (Off.of hb) (fun k hk => by
  rcases hk with hk | hk
  ·exact .inl hk
  ·exact .inr Xt0))
 have HTE := hid (show o.t.toNat = t by rw [ho.te]; simp)
 have b0 := (hbx w2 (Below.refl _ _)).1
 have c0 := b0.cell 0
 have c1 := b0.cell 1
 have c3 := b0.cell 3
 have c6 := b0.cell 6
 simp only [gtA, gtB, gtC] at c0 c1 c3 c6
 rw [ho.te] at c1
 rw [hk1] at c0
 have HK1 := hid hk1
 clear hk1 h hS ho hl hok hk5 hkey hrow hm2 hbd hq1 hq2 hq3 hb hbx b0
 go_enter func78, ntmps78
 go_upto_region 1 with (fail)
 rw [← hw2]
 clear hw2 hB1
 go_wp2_with fail
 clear c0 c1 c3 c6
 refine HG.out.mono ?_; rintro r w3 ⟨hr, hb3⟩
 have HB3 := hid hb3
 have hbx3 := HB.out.2 w3 hb3
 have HX3 := hid hbx3
 have c0 := hbx3.1.cell 0
 have c1 := hbx3.1.cell 1
 have c3 := hbx3.1.cell 3
 have c6 := hbx3.1.cell 6
 simp only [gtA, gtB, gtC] at c0 c1 c3 c6
 rw [HO.out.te] at c1
 rw [HK1.out] at c0
 have g0 := hbx3.2.cell 0
 have g1 := hbx3.2.cell 1
 have i0 := hbx3.2.frozen 0
 have i1 := hbx3.2.frozen 1
 simp only [gtA, gtB, gtC] at g0 g1
 clear hb3 hbx3
 cases q with
 | none =>
  cases hr
  go_wp2_with fail
  clear g0 g1 i0 i1 c0 c1 c3 c6
  have hb4 := zg_.set2 (x := .int .i64 6) (y := .slice none 0 0) HX3.out.2
  have ho4 : Off (fun k => k = w.heap.size + 1) w3 ((w3.setCell ⟨w.heap.size + 1, 0, none⟩ (.int .i64 6)).setCell ⟨w.heap.size + 1, 1, none⟩ (.slice none 0 0)) :=
   Off.set (S := fun k => k = w.heap.size + 1) (Off.set (S := fun k => k = w.heap.size + 1) (Off.refl _ w3) ⟨w.heap.size + 1, 0, none⟩ rfl _) ⟨w.heap.size + 1, 1, none⟩ rfl _
  revert hb4 ho4
  generalize (w3.setCell ⟨w.heap.size + 1, 0, none⟩ (.int .i64 6)).setCell ⟨w.heap.size + 1, 1, none⟩ (.slice none 0 0) = w4
  intro hb4 ho4
  have q0 := hb4.cell 0
  have q1 := hb4.cell 1
  have HO4 := hid ho4
  clear hb4 ho4
  first | refine bodyPost_end (v := .agg #[.int .i64 6, .slice none 0 0]) Xt6 rfl ?_ | refine bodyPost_ret (v := .agg #[.int .i64 6, .slice none 0 0]) Xt6 rfl ?_
  refine zZ_.fin HH.out.2.1 HB.out.1 (Nat.le_succ _) (RfS.rfl' f) (HM2.out.1.below HB3.out) (Off.of HB3.out) HO4.out HH.out.1.hp HH.out.1.hb (y := ⟨6, none, 0, []⟩) ?_ (z6_ _) (fun W' _ => zn_.nil _ _) Xt16
  unfold yq_
  rw [if_pos HK1.out, HTE.out, ← HQ.out.1]
  rfl
 | some R =>
  obtain ⟨v, rfl, hcp⟩ := hr
  obtain ⟨a8, c8, R8, hv8, hl8, hm8, hst8⟩ := xs_ (S := Sp S (w.heap.size + 1)) hcp rfl (fun k hk => HM2.out.2 k hk)
  subst hv8
  have HC8 := hid (And.intro hl8 (And.intro hm8 hst8))
  obtain ⟨rn, hrn⟩ := gtx (R.length)
  rw [hrn] at HC8 ⊢
  clear hcp hl8 hm8 hst8 hrn
  obtain ⟨w5, hw5⟩ := gty (w3.alloc (.cells #[.slice o.ka o.kn o.kc, .slice a8 rn c8] 78))
  have hb5 : Below w3.heap.size w3 w5 := by rw [hw5]; exact bl1 _ _
  have hx5 : zg_ w5 w3.heap.size #[.slice o.ka o.kn o.kc, .slice a8 rn c8] 78 := by rw [hw5]; exact zg_.new _ _ _
  have HB5 := hid hb5
  have HX5 := hid (HX3.out.2.below hb5)
  have HXP := hid hx5
  clear g0 g1 i0 i1
  have g0 := HX5.out.cell 0
  have g1 := HX5.out.cell 1
  have i0 := HX5.out.frozen 0
  have i1 := HX5.out.frozen 1
  simp only [gtA, gtB, gtC] at g0 g1
  rw [hw5] at g0 g1 i0 i1
  clear hb5 hx5
  go_wp2_with fail
  clear g0 g1 i0 i1 c0 c1 c3 c6
  rw [← hw5]
  clear hw5
  have hb4 := zg_.set2 (x := .int .i64 0) (y := .slice (some ⟨w3.heap.size, 0, none⟩) 1 1) HX5.out
  have ho4 : Off (fun k => k = w.heap.size + 1) w5 ((w5.setCell ⟨w.heap.size + 1, 0, none⟩ (.int .i64 0)).setCell ⟨w.heap.size + 1, 1, none⟩ (.slice (some ⟨w3.heap.size, 0, none⟩) 1 1)) :=
   Off.set (S := fun k => k = w.heap.size + 1) (Off.set (S := fun k => k = w.heap.size + 1) (Off.refl _ w5) ⟨w.heap.size + 1, 0, none⟩ rfl _) ⟨w.heap.size + 1, 1, none⟩ rfl _
  revert hb4 ho4
  generalize (w5.setCell ⟨w.heap.size + 1, 0, none⟩ (.int .i64 0)).setCell ⟨w.heap.size + 1, 1, none⟩ (.slice (some ⟨w3.heap.size, 0, none⟩) 1 1) = w4
  intro hb4 ho4
  have q0 := hb4.cell 0
  have q1 := hb4.cell 1
  have HO4 := hid ho4
  clear hb4 ho4
  first | refine bodyPost_end (v := .agg #[.int .i64 0, .slice (some ⟨w3.heap.size, 0, none⟩) 1 1]) Xt6 rfl ?_ | refine bodyPost_ret (v := .agg #[.int .i64 0, .slice (some ⟨w3.heap.size, 0, none⟩) 1 1]) Xt6 rfl ?_
  have hb35 := HB3.out.trans (HB5.out.mono HB3.out.size)
  have hkl := HO.out.at'.now.kl
  have hst := HST.out
  refine zZ_.fin HH.out.2.1 HB.out.1 (Nat.le_succ _) (RfS.rfl' f) (HM2.out.1.below hb35) (Off.of hb35) HO4.out HH.out.1.hp HH.out.1.hb (y := ⟨0, some ⟨w3.heap.size, 0, none⟩, 1, [⟨o.ka, o.kc, o.K, a8, c8, R8⟩]⟩) ?_ ⟨by simp, fun p hp => ?_⟩ ?_ Xt16
  ·unfold yq_
   rw [if_pos HK1.out, HTE.out, ← HQ.out.1]
   show ((0, [(o.K, R8.map P1.bs)]), f.P) = _
   rw [HC8.out.2.1]
   rfl
  ·rw [List.mem_singleton] at hp
   subst hp
   exact pr_ok ⟨HKY.out.1, by show rOk (R8.map P1.bs); rw [HC8.out.2.1]; exact HQ.out.2 R rfl⟩
  ·intro W' o'
   have hn : ¬ Sp S (w.heap.size + 1) w3.heap.size := fun e => by
    have := HM2.out.2 _ e
    have := HB3.out.size
    omega
   have hb := o'.box HXP.out hn
   have hca := (hst.step (S' := Sp S (w.heap.size + 1)) (Off.of hb35) (fun k hk => .inl hk)) W' o'
   have hr8 := (HC8.out.2.2.below HB5.out) W' o'
   exact Qx_ _ (by rw [hb.cell]; show some (Value.slice o.ka o.kn o.kc) = some (Value.slice o.ka o.K.length o.kc); rw [hkl]) (by rw [hb.cell]; show some (Value.slice a8 rn c8) = some (Value.slice a8 R8.length c8); rw [HC8.out.1]) hca.ks hr8
theorem rcall2_law {S : Nat -> Prop} {f : Rf} {w : World} (h : RfR S w f) (hS : ∀ k, S k -> k < w.heap.size) (o : zj_) (t : Nat) (ho : OpD S w f o t) (hk1 : o.k = 2) (hl : ∀ x ∈ f.Ts, x.P.length <= 900000) :
  Calls prog 78 #[.pointer (some ⟨f.p, 0, none⟩), .agg #[.int .i64 o.k, .int .i64 o.t, .int .i64 o.i, .slice o.ka o.kn o.kc, .slice o.ta o.tn o.tc, .int .i64 o.m, .slice o.ra o.rn o.rc]] w (zZ_ S w f (yq_ f.j f.P o)) := by
 obtain ⟨hb, hbx⟩ := yl_ w #[.int .i64 o.k, .int .i64 o.t, .int .i64 o.i, .slice o.ka o.kn o.kc, .slice o.ta o.tn o.tc, .int .i64 o.m, .slice o.ra o.rn o.rc] #[.int .i64 0, .slice none 0 0] 74 81
 obtain ⟨w2, hw2⟩ := gty (((w.alloc (.cells #[.int .i64 o.k, .int .i64 o.t, .int .i64 o.i, .slice o.ka o.kn o.kc, .slice o.ta o.tn o.tc, .int .i64 o.m, .slice o.ra o.rn o.rc] 74)).alloc (.cells #[.int .i64 0, .slice none 0 0] 81)))
 rw [← hw2] at hb hbx
 have hok := ho.at'.now
 have hk5 : o.k < 5 := by omega
 have hkey := jr_ ho.po Xt51 hok.kl hok.kb
 have hrow := Qy_ ho.po hok.rl hok.rb
 have hB1 : w.heap.size <= w.heap.size + 1 := Nat.le_succ _
 have hm2 := h.sp hb hB1
 have hbd : ∀ k, Sp S (w.heap.size + 1) k -> k < w2.heap.size := fun k hk => hk.elim (fun hk => Nat.lt_of_lt_of_le (hS k hk) hb.size) Xt17
 obtain ⟨q, hq1, hq2, hq3⟩ := qO_ hm2 t ho.tl o.K hkey.1 o.ka o.kn o.kc hok.kl Xt26 (hok.ks.below hb)
 have HQ := hid (And.intro hq1 hq2)
 have HG := hid hq3
 have HH := hid (And.intro h (And.intro hS hl))
 have HO := hid ho
 have HB := hid (And.intro hb hbx)
 have HM2 := hid (And.intro hm2 hbd)
 have HKY := hid (And.intro hkey hrow)
 have HST := hid (ho.at'.step (S' := Sp S (w.heap.size + 1)) (Off.of hb) (fun k hk => by
  rcases hk with hk | hk
  ·exact .inl hk
  ·exact .inr Xt0))
 have HTE := hid (show o.t.toNat = t by rw [ho.te]; simp)
 have b0 := (hbx w2 (Below.refl _ _)).1
 have c0 := b0.cell 0
 have c1 := b0.cell 1
 have c3 := b0.cell 3
 have c6 := b0.cell 6
 simp only [gtA, gtB, gtC] at c0 c1 c3 c6
 rw [ho.te] at c1
 rw [hk1] at c0
 have HK1 := hid hk1
 clear hk1 h hS ho hl hok hk5 hkey hrow hm2 hbd hq1 hq2 hq3 hb hbx b0
 go_enter func78, ntmps78
 go_upto_region 1 with (fail)
 rw [← hw2]
 clear hw2 hB1
 go_wp2_with fail
 clear c0 c1 c3 c6
 refine HG.out.mono ?_; rintro r w3 ⟨hr, hb3⟩
 have HB3 := hid hb3
 have hbx3 := HB.out.2 w3 hb3
 have HX3 := hid hbx3
 have c0 := hbx3.1.cell 0
 have c1 := hbx3.1.cell 1
 have c3 := hbx3.1.cell 3
 have c6 := hbx3.1.cell 6
 simp only [gtA, gtB, gtC] at c0 c1 c3 c6
 rw [HO.out.te] at c1
 rw [HK1.out] at c0
 have g0 := hbx3.2.cell 0
 have g1 := hbx3.2.cell 1
 have i0 := hbx3.2.frozen 0
 have i1 := hbx3.2.frozen 1
 simp only [gtA, gtB, gtC] at g0 g1
 clear hb3 hbx3
 obtain ⟨v0, rfl⟩ : ∃ v0, r = .returned (.tuple #[v0, .bool q.isSome]) := by
  exact Xb37
 have HQI := hid (show (xd_ (f.P.getD t []) o.K).isSome = q.isSome by rw [← HQ.out.1, Option.isSome_map])
 clear hr
 have HSET := hid (rset_m (HM2.out.1.below HB3.out) (fun k hk => Nat.lt_of_lt_of_le (HM2.out.2 k hk) HB3.out.size) t HO.out.tl o.K HKY.out.1 o.ka o.kn o.kc HO.out.at'.now.kl o.R HKY.out.2 o.ra o.rn o.rc HO.out.at'.now.rl Xt58 ((HST.out.now.ks).below HB3.out) ((HST.out.now.rs).below HB3.out))
 go_wp2_with fail
 clear g0 g1 i0 i1 c0 c1 c3 c6
 refine HSET.out.mono ?_; rintro r w5 ⟨v5, g, rfl, hs, hg, ho5, hP, hN⟩
 have HG5 := hid (And.intro hs (And.intro hg (And.intro ho5 (And.intro hP hN))))
 have HX5 := hid (ho5.box HX3.out.2 Xt49)
 have g0 := HX5.out.cell 0
 have g1 := HX5.out.cell 1
 have i0 := HX5.out.frozen 0
 have i1 := HX5.out.frozen 1
 simp only [gtA, gtB, gtC] at g0 g1
 clear hs hg ho5 hP hN
 go_wp2_with fail
 clear g0 g1 i0 i1
 have hb4 := zg_.set2 (x := .int .i64 0) (y := .slice none 0 0) HX5.out
 have ho4 : Off (fun k => k = w.heap.size + 1) w5 ((w5.setCell ⟨w.heap.size + 1, 0, none⟩ (.int .i64 0)).setCell ⟨w.heap.size + 1, 1, none⟩ (.slice none 0 0)) :=
  Off.set (S := fun k => k = w.heap.size + 1) (Off.set (S := fun k => k = w.heap.size + 1) (Off.refl _ w5) ⟨w.heap.size + 1, 0, none⟩ rfl _) ⟨w.heap.size + 1, 1, none⟩ rfl _
 revert hb4 ho4
 generalize (w5.setCell ⟨w.heap.size + 1, 0, none⟩ (.int .i64 0)).setCell ⟨w.heap.size + 1, 1, none⟩ (.slice none 0 0) = w4
 intro hb4 ho4
 have q0 := hb4.cell 0
 have q1 := hb4.cell 1
 have HO4 := hid ho4
 clear hb4 ho4
 first | refine bodyPost_end (v := .agg #[.int .i64 0, .slice none 0 0]) Xt6 rfl ?_ | refine bodyPost_ret (v := .agg #[.int .i64 0, .slice none 0 0]) Xt6 rfl ?_
 refine zZ_.fin HH.out.2.1 HB.out.1 (Nat.le_succ _) HG5.out.1 HG5.out.2.1 ((Off.of HB3.out).trans HG5.out.2.2.1) HO4.out HH.out.1.hp HH.out.1.hb (y := ⟨0, none, 0, []⟩) ?_ (z6_ _) (fun W' _ => zn_.nil _ _) HG5.out.2.2.2.2
 rw [HG5.out.2.2.2.1]
 unfold yq_
 rw [if_neg Xt10, if_pos HK1.out, HTE.out]
 rfl
theorem rcall3_law {S : Nat -> Prop} {f : Rf} {w : World} (h : RfR S w f) (hS : ∀ k, S k -> k < w.heap.size) (o : zj_) (t : Nat) (ho : OpD S w f o t) (hk1 : o.k = 3) (hl : ∀ x ∈ f.Ts, x.P.length <= 900000) :
  Calls prog 78 #[.pointer (some ⟨f.p, 0, none⟩), .agg #[.int .i64 o.k, .int .i64 o.t, .int .i64 o.i, .slice o.ka o.kn o.kc, .slice o.ta o.tn o.tc, .int .i64 o.m, .slice o.ra o.rn o.rc]] w (zZ_ S w f (yq_ f.j f.P o)) := by
 obtain ⟨hb, hbx⟩ := yl_ w #[.int .i64 o.k, .int .i64 o.t, .int .i64 o.i, .slice o.ka o.kn o.kc, .slice o.ta o.tn o.tc, .int .i64 o.m, .slice o.ra o.rn o.rc] #[.int .i64 0, .slice none 0 0] 74 81
 obtain ⟨w2, hw2⟩ := gty (((w.alloc (.cells #[.int .i64 o.k, .int .i64 o.t, .int .i64 o.i, .slice o.ka o.kn o.kc, .slice o.ta o.tn o.tc, .int .i64 o.m, .slice o.ra o.rn o.rc] 74)).alloc (.cells #[.int .i64 0, .slice none 0 0] 81)))
 rw [← hw2] at hb hbx
 have hok := ho.at'.now
 have hk5 : o.k < 5 := by omega
 have hkey := jr_ ho.po Xt51 hok.kl hok.kb
 have hrow := Qy_ ho.po hok.rl hok.rb
 have hB1 : w.heap.size <= w.heap.size + 1 := Nat.le_succ _
 have hm2 := h.sp hb hB1
 have hbd : ∀ k, Sp S (w.heap.size + 1) k -> k < w2.heap.size := fun k hk => hk.elim (fun hk => Nat.lt_of_lt_of_le (hS k hk) hb.size) Xt17
 obtain ⟨q, hq1, hq2, hq3⟩ := qO_ hm2 t ho.tl o.K hkey.1 o.ka o.kn o.kc hok.kl Xt26 (hok.ks.below hb)
 have HQ := hid (And.intro hq1 hq2)
 have HG := hid hq3
 have HH := hid (And.intro h (And.intro hS hl))
 have HO := hid ho
 have HB := hid (And.intro hb hbx)
 have HM2 := hid (And.intro hm2 hbd)
 have HKY := hid (And.intro hkey hrow)
 have HST := hid (ho.at'.step (S' := Sp S (w.heap.size + 1)) (Off.of hb) (fun k hk => by
  rcases hk with hk | hk
  ·exact .inl hk
  ·exact .inr Xt0))
 have HTE := hid (show o.t.toNat = t by rw [ho.te]; simp)
 have b0 := (hbx w2 (Below.refl _ _)).1
 have c0 := b0.cell 0
 have c1 := b0.cell 1
 have c3 := b0.cell 3
 have c6 := b0.cell 6
 simp only [gtA, gtB, gtC] at c0 c1 c3 c6
 rw [ho.te] at c1
 rw [hk1] at c0
 have HK1 := hid hk1
 clear hk1 h hS ho hl hok hk5 hkey hrow hm2 hbd hq1 hq2 hq3 hb hbx b0
 go_enter func78, ntmps78
 go_upto_region 1 with (fail)
 rw [← hw2]
 clear hw2 hB1
 go_wp2_with fail
 clear c0 c1 c3 c6
 refine HG.out.mono ?_; rintro r w3 ⟨hr, hb3⟩
 have HB3 := hid hb3
 have hbx3 := HB.out.2 w3 hb3
 have HX3 := hid hbx3
 have c0 := hbx3.1.cell 0
 have c1 := hbx3.1.cell 1
 have c3 := hbx3.1.cell 3
 have c6 := hbx3.1.cell 6
 simp only [gtA, gtB, gtC] at c0 c1 c3 c6
 rw [HO.out.te] at c1
 rw [HK1.out] at c0
 have g0 := hbx3.2.cell 0
 have g1 := hbx3.2.cell 1
 have i0 := hbx3.2.frozen 0
 have i1 := hbx3.2.frozen 1
 simp only [gtA, gtB, gtC] at g0 g1
 clear hb3 hbx3
 obtain ⟨v0, rfl⟩ : ∃ v0, r = .returned (.tuple #[v0, .bool q.isSome]) := by
  exact Xb37
 have HQI := hid (show (xd_ (f.P.getD t []) o.K).isSome = q.isSome by rw [← HQ.out.1, Option.isSome_map])
 clear hr
 cases hqs : q.isSome with
 | true =>
  rw [hqs] at HQI
  clear hqs
  go_wp2_with fail
  clear g0 g1 i0 i1 c0 c1 c3 c6
  have hb4 := zg_.set2 (x := .int .i64 7) (y := .slice none 0 0) HX3.out.2
  have ho4 : Off (fun k => k = w.heap.size + 1) w3 ((w3.setCell ⟨w.heap.size + 1, 0, none⟩ (.int .i64 7)).setCell ⟨w.heap.size + 1, 1, none⟩ (.slice none 0 0)) :=
   Off.set (S := fun k => k = w.heap.size + 1) (Off.set (S := fun k => k = w.heap.size + 1) (Off.refl _ w3) ⟨w.heap.size + 1, 0, none⟩ rfl _) ⟨w.heap.size + 1, 1, none⟩ rfl _
  revert hb4 ho4
  generalize (w3.setCell ⟨w.heap.size + 1, 0, none⟩ (.int .i64 7)).setCell ⟨w.heap.size + 1, 1, none⟩ (.slice none 0 0) = w4
  intro hb4 ho4
  have q0 := hb4.cell 0
  have q1 := hb4.cell 1
  have HO4 := hid ho4
  clear hb4 ho4
  first | refine bodyPost_end (v := .agg #[.int .i64 7, .slice none 0 0]) Xt6 rfl ?_ | refine bodyPost_ret (v := .agg #[.int .i64 7, .slice none 0 0]) Xt6 rfl ?_
  refine zZ_.fin HH.out.2.1 HB.out.1 (Nat.le_succ _) (RfS.rfl' f) (HM2.out.1.below HB3.out) (Off.of HB3.out) HO4.out HH.out.1.hp HH.out.1.hb (y := ⟨7, none, 0, []⟩) ?_ (z6_ _) (fun W' _ => zn_.nil _ _) Xt16
  unfold yq_
  rw [if_neg Xt10, if_neg Xt10, if_pos HK1.out, HTE.out, if_pos HQI.out]
  rfl
 | false =>
  rw [hqs] at HQI
  clear hqs
  have HSET := hid (rset_m (HM2.out.1.below HB3.out) (fun k hk => Nat.lt_of_lt_of_le (HM2.out.2 k hk) HB3.out.size) t HO.out.tl o.K HKY.out.1 o.ka o.kn o.kc HO.out.at'.now.kl o.R HKY.out.2 o.ra o.rn o.rc HO.out.at'.now.rl Xt58 ((HST.out.now.ks).below HB3.out) ((HST.out.now.rs).below HB3.out))
  go_wp2_with fail
  clear g0 g1 i0 i1 c0 c1 c3 c6
  refine HSET.out.mono ?_; rintro r w5 ⟨v5, g, rfl, hs, hg, ho5, hP, hN⟩
  have HG5 := hid (And.intro hs (And.intro hg (And.intro ho5 (And.intro hP hN))))
  have HX5 := hid (ho5.box HX3.out.2 Xt49)
  have g0 := HX5.out.cell 0
  have g1 := HX5.out.cell 1
  have i0 := HX5.out.frozen 0
  have i1 := HX5.out.frozen 1
  simp only [gtA, gtB, gtC] at g0 g1
  clear hs hg ho5 hP hN
  go_wp2_with fail
  clear g0 g1 i0 i1
  have hb4 := zg_.set2 (x := .int .i64 0) (y := .slice none 0 0) HX5.out
  have ho4 : Off (fun k => k = w.heap.size + 1) w5 ((w5.setCell ⟨w.heap.size + 1, 0, none⟩ (.int .i64 0)).setCell ⟨w.heap.size + 1, 1, none⟩ (.slice none 0 0)) :=
   Off.set (S := fun k => k = w.heap.size + 1) (Off.set (S := fun k => k = w.heap.size + 1) (Off.refl _ w5) ⟨w.heap.size + 1, 0, none⟩ rfl _) ⟨w.heap.size + 1, 1, none⟩ rfl _
  revert hb4 ho4
  generalize (w5.setCell ⟨w.heap.size + 1, 0, none⟩ (.int .i64 0)).setCell ⟨w.heap.size + 1, 1, none⟩ (.slice none 0 0) = w4
  intro hb4 ho4
  have q0 := hb4.cell 0
  have q1 := hb4.cell 1
  have HO4 := hid ho4
  clear hb4 ho4
  first | refine bodyPost_end (v := .agg #[.int .i64 0, .slice none 0 0]) Xt6 rfl ?_ | refine bodyPost_ret (v := .agg #[.int .i64 0, .slice none 0 0]) Xt6 rfl ?_
  refine zZ_.fin HH.out.2.1 HB.out.1 (Nat.le_succ _) HG5.out.1 HG5.out.2.1 ((Off.of HB3.out).trans HG5.out.2.2.1) HO4.out HH.out.1.hp HH.out.1.hb (y := ⟨0, none, 0, []⟩) ?_ (z6_ _) (fun W' _ => zn_.nil _ _) HG5.out.2.2.2.2
  rw [HG5.out.2.2.2.1]
  unfold yq_
  rw [if_neg Xt10, if_neg Xt10, if_pos HK1.out, HTE.out, if_neg (by rw [HQI.out]; simp)]
  rfl
theorem rcall4_law {S : Nat -> Prop} {f : Rf} {w : World} (h : RfR S w f) (hS : ∀ k, S k -> k < w.heap.size) (o : zj_) (t : Nat) (ho : OpD S w f o t) (hk1 : o.k = 4) (hl : ∀ x ∈ f.Ts, x.P.length <= 900000) :
  Calls prog 78 #[.pointer (some ⟨f.p, 0, none⟩), .agg #[.int .i64 o.k, .int .i64 o.t, .int .i64 o.i, .slice o.ka o.kn o.kc, .slice o.ta o.tn o.tc, .int .i64 o.m, .slice o.ra o.rn o.rc]] w (zZ_ S w f (yq_ f.j f.P o)) := by
 obtain ⟨hb, hbx⟩ := yl_ w #[.int .i64 o.k, .int .i64 o.t, .int .i64 o.i, .slice o.ka o.kn o.kc, .slice o.ta o.tn o.tc, .int .i64 o.m, .slice o.ra o.rn o.rc] #[.int .i64 0, .slice none 0 0] 74 81
 obtain ⟨w2, hw2⟩ := gty (((w.alloc (.cells #[.int .i64 o.k, .int .i64 o.t, .int .i64 o.i, .slice o.ka o.kn o.kc, .slice o.ta o.tn o.tc, .int .i64 o.m, .slice o.ra o.rn o.rc] 74)).alloc (.cells #[.int .i64 0, .slice none 0 0] 81)))
 rw [← hw2] at hb hbx
 have hok := ho.at'.now
 have hk5 : o.k < 5 := by omega
 have hkey := jr_ ho.po Xt51 hok.kl hok.kb
 have hrow := Qy_ ho.po hok.rl hok.rb
 have hB1 : w.heap.size <= w.heap.size + 1 := Nat.le_succ _
 have hm2 := h.sp hb hB1
 have hbd : ∀ k, Sp S (w.heap.size + 1) k -> k < w2.heap.size := fun k hk => hk.elim (fun hk => Nat.lt_of_lt_of_le (hS k hk) hb.size) Xt17
 obtain ⟨q, hq1, hq2, hq3⟩ := qO_ hm2 t ho.tl o.K hkey.1 o.ka o.kn o.kc hok.kl Xt26 (hok.ks.below hb)
 have HQ := hid (And.intro hq1 hq2)
 have HG := hid hq3
 have HH := hid (And.intro h (And.intro hS hl))
 have HO := hid ho
 have HB := hid (And.intro hb hbx)
 have HM2 := hid (And.intro hm2 hbd)
 have HKY := hid (And.intro hkey hrow)
 have HST := hid (ho.at'.step (S' := Sp S (w.heap.size + 1)) (Off.of hb) (fun k hk => by
  rcases hk with hk | hk
  ·exact .inl hk
  ·exact .inr Xt0))
 have HTE := hid (show o.t.toNat = t by rw [ho.te]; simp)
 have b0 := (hbx w2 (Below.refl _ _)).1
 have c0 := b0.cell 0
 have c1 := b0.cell 1
 have c3 := b0.cell 3
 have c6 := b0.cell 6
 simp only [gtA, gtB, gtC] at c0 c1 c3 c6
 rw [ho.te] at c1
 rw [hk1] at c0
 have HK1 := hid hk1
 clear hk1 h hS ho hl hok hk5 hkey hrow hm2 hbd hq1 hq2 hq3 hb hbx b0
 go_enter func78, ntmps78
 go_upto_region 1 with (fail)
 rw [← hw2]
 clear hw2 hB1
 go_wp2_with fail
 clear c0 c1 c3 c6
 refine HG.out.mono ?_; rintro r w3 ⟨hr, hb3⟩
 have HB3 := hid hb3
 have hbx3 := HB.out.2 w3 hb3
 have HX3 := hid hbx3
 have c0 := hbx3.1.cell 0
 have c1 := hbx3.1.cell 1
 have c3 := hbx3.1.cell 3
 have c6 := hbx3.1.cell 6
 simp only [gtA, gtB, gtC] at c0 c1 c3 c6
 rw [HO.out.te] at c1
 rw [HK1.out] at c0
 have g0 := hbx3.2.cell 0
 have g1 := hbx3.2.cell 1
 have i0 := hbx3.2.frozen 0
 have i1 := hbx3.2.frozen 1
 simp only [gtA, gtB, gtC] at g0 g1
 clear hb3 hbx3
 obtain ⟨v0, rfl⟩ : ∃ v0, r = .returned (.tuple #[v0, .bool q.isSome]) := by
  exact Xb37
 have HQI := hid (show (xd_ (f.P.getD t []) o.K).isSome = q.isSome by rw [← HQ.out.1, Option.isSome_map])
 clear hr
 cases hqs : q.isSome with
 | true =>
  rw [hqs] at HQI
  clear hqs
  have HSET := hid (rset_m (HM2.out.1.below HB3.out) (fun k hk => Nat.lt_of_lt_of_le (HM2.out.2 k hk) HB3.out.size) t HO.out.tl o.K HKY.out.1 o.ka o.kn o.kc HO.out.at'.now.kl [] (fun e => absurd rfl e) none 0 0 rfl Xt58 ((HST.out.now.ks).below HB3.out) (RdR.nil _ none))
  go_wp2_with fail
  clear g0 g1 i0 i1 c0 c1 c3 c6
  refine HSET.out.mono ?_; rintro r w5 ⟨v5, g, rfl, hs, hg, ho5, hP, hN⟩
  have HG5 := hid (And.intro hs (And.intro hg (And.intro ho5 (And.intro hP hN))))
  have HX5 := hid (ho5.box HX3.out.2 Xt49)
  have g0 := HX5.out.cell 0
  have g1 := HX5.out.cell 1
  have i0 := HX5.out.frozen 0
  have i1 := HX5.out.frozen 1
  simp only [gtA, gtB, gtC] at g0 g1
  clear hs hg ho5 hP hN
  go_wp2_with fail
  clear g0 g1 i0 i1
  have hb4 := zg_.set2 (x := .int .i64 0) (y := .slice none 0 0) HX5.out
  have ho4 : Off (fun k => k = w.heap.size + 1) w5 ((w5.setCell ⟨w.heap.size + 1, 0, none⟩ (.int .i64 0)).setCell ⟨w.heap.size + 1, 1, none⟩ (.slice none 0 0)) :=
   Off.set (S := fun k => k = w.heap.size + 1) (Off.set (S := fun k => k = w.heap.size + 1) (Off.refl _ w5) ⟨w.heap.size + 1, 0, none⟩ rfl _) ⟨w.heap.size + 1, 1, none⟩ rfl _
  revert hb4 ho4
  generalize (w5.setCell ⟨w.heap.size + 1, 0, none⟩ (.int .i64 0)).setCell ⟨w.heap.size + 1, 1, none⟩ (.slice none 0 0) = w4
  intro hb4 ho4
  have q0 := hb4.cell 0
  have q1 := hb4.cell 1
  have HO4 := hid ho4
  clear hb4 ho4
  first | refine bodyPost_end (v := .agg #[.int .i64 0, .slice none 0 0]) Xt6 rfl ?_ | refine bodyPost_ret (v := .agg #[.int .i64 0, .slice none 0 0]) Xt6 rfl ?_
  refine zZ_.fin HH.out.2.1 HB.out.1 (Nat.le_succ _) HG5.out.1 HG5.out.2.1 ((Off.of HB3.out).trans HG5.out.2.2.1) HO4.out HH.out.1.hp HH.out.1.hb (y := ⟨0, none, 0, []⟩) ?_ (z6_ _) (fun W' _ => zn_.nil _ _) HG5.out.2.2.2.2
  rw [HG5.out.2.2.2.1]
  unfold yq_
  rw [if_neg Xt10, if_neg Xt10, if_neg Xt10, if_pos HK1.out, HTE.out, if_pos HQI.out]
  rfl
 | false =>
  rw [hqs] at HQI
  clear hqs
  go_wp2_with fail
  clear g0 g1 i0 i1 c0 c1 c3 c6
  have hb4 := zg_.set2 (x := .int .i64 6) (y := .slice none 0 0) HX3.out.2
  have ho4 : Off (fun k => k = w.heap.size + 1) w3 ((w3.setCell ⟨w.heap.size + 1, 0, none⟩ (.int .i64 6)).setCell ⟨w.heap.size + 1, 1, none⟩ (.slice none 0 0)) :=
   Off.set (S := fun k => k = w.heap.size + 1) (Off.set (S := fun k => k = w.heap.size + 1) (Off.refl _ w3) ⟨w.heap.size + 1, 0, none⟩ rfl _) ⟨w.heap.size + 1, 1, none⟩ rfl _
  revert hb4 ho4
  generalize (w3.setCell ⟨w.heap.size + 1, 0, none⟩ (.int .i64 6)).setCell ⟨w.heap.size + 1, 1, none⟩ (.slice none 0 0) = w4
  intro hb4 ho4
  have q0 := hb4.cell 0
  have q1 := hb4.cell 1
  have HO4 := hid ho4
  clear hb4 ho4
  first | refine bodyPost_end (v := .agg #[.int .i64 6, .slice none 0 0]) Xt6 rfl ?_ | refine bodyPost_ret (v := .agg #[.int .i64 6, .slice none 0 0]) Xt6 rfl ?_
  refine zZ_.fin HH.out.2.1 HB.out.1 (Nat.le_succ _) (RfS.rfl' f) (HM2.out.1.below HB3.out) (Off.of HB3.out) HO4.out HH.out.1.hp HH.out.1.hb (y := ⟨6, none, 0, []⟩) ?_ (z6_ _) (fun W' _ => zn_.nil _ _) Xt16
  unfold yq_
  rw [if_neg Xt10, if_neg Xt10, if_neg Xt10, if_pos HK1.out, HTE.out, if_neg (by rw [HQI.out]; simp)]
  rfl
section
open Go.Maps Go.Shelf
theorem trV_posi {j : Job} (ok : okB j = true) {k m : Nat} (hk : k < j.T.length) (hm : m < (j.T.getD k 0 + 1).toNat) : trV j (k : Int) ((m : Int) - 1) = ((((nmL 0 (j.T.take k)).length + m : Nat) : Int), (k : Int), (m : Int) - 1, true) := by
 obtain ⟨tl, htl⟩ := nmP_pre j.T k (m + 1) hk hm
 rw [xn_] at htl
 have hpl : (nmP j.T k m).length = (nmL 0 (j.T.take k)).length + m := by simp [nmP, yO_]
 refine trV_at j _ _ _ ?_ ?_
 ·rw [xo_ ok, htl, ← hpl]
  simp
 ·intro i hi e
  rw [xo_ ok, htl, ← hpl] at *
  rw [List.append_assoc, List.getElem?_append_left hi] at e
  have hm' := List.mem_of_getElem? e
  rw [nmP] at hm'
  rcases List.mem_append.1 hm' with h | h
  ·obtain ⟨k', h1, h2⟩ := nmL_mem _ _ _ h
   simp at h1 h2
   omega
  ·simp [rowN] at h
   obtain ⟨i', h1, h2⟩ := h
   omega
theorem filt_one {α : Type} (g : Nat -> Int × α) (F x : Nat) (hg : ∀ i, (g i).1 = ((F + 1 + i : Nat) : Int)) : ∀ m, ((List.range m).map g).filter (fun e => decide (e.1 = ((F + 1 + x : Nat) : Int))) = if x < m then [g x] else []
 | 0 => by simp
 | m + 1 => by
  have ih := filt_one g F x hg m
  rw [List.range_succ, List.map_append, List.filter_append, ih]
  by_cases e : m = x
  ·subst e
   rw [if_neg (Nat.lt_irrefl _), if_pos (Nat.lt_succ_self _)]
   simp [hg]
  ·have hne : ¬ ((g m).1 = ((F + 1 + x : Nat) : Int)) := by rw [hg]; omega
   have h2 : ([m].map g).filter (fun e => decide (e.1 = ((F + 1 + x : Nat) : Int))) = [] := by rw [List.map_cons, List.map_nil, List.filter_cons, decide_eq_false hne]; rfl
   rw [h2, List.append_nil]
   by_cases h : x < m
   ·rw [if_pos h, if_pos Xt0]
   ·rw [if_neg h, if_neg Xt0]
theorem mayR_of {R : List (List Int)} (h : rOk R) : yZ_ (ofP R) = true := by
 have hl : (ofP R).length = R.length := List.length_map _
 unfold yZ_ QX_
 simp only [Bool.and_eq_true, Bool.or_eq_true, decide_eq_true_eq, List.all_eq_true]
 refine ⟨fun p hp => ?_, by rw [hl]; exact h.1, by rw [hl]; exact h.2.1⟩
 unfold ofP at hp
 obtain ⟨b, hb, rfl⟩ := List.mem_map.1 hp
 have := (h.2.2 b hb).2
 simpa using this
theorem entP_val {j : Job} (ok : okB j = true) {k x : Nat} (hk : k < j.T.length) (hx : (x : Int) < j.T.getD k 0) {p : Pr} (hK : zH_ p.1) (hR : rOk p.2) :
  entP j k (trV j k x).1 p = if x + 1 < p.2.length then [(zu_ (p.2.getD (x + 1) []) p.1, p)] else [] := by
 have e0 := trV_posi ok hk (m := 0) Xt0
 have e1 := trV_posi ok hk (m := x + 1) Xt0
 rw [show ((x + 1 : Nat) : Int) - 1 = (x : Int) by omega] at e1
 rw [show ((0 : Nat) : Int) - 1 = -1 by omega] at e0
 obtain ⟨F, hF⟩ := gtx ((nmL 0 (j.T.take k)).length)
 rw [hF] at e0 e1
 have hmk : yw_ p.1.length = true := by unfold yw_; rw [decide_eq_true_eq]; exact hK.2
 have hrk : ja_ (ofP p.2) = true := by unfold ja_; rw [mayR_of hR]; simp
 have hl : (ofP p.2).length = p.2.length := List.length_map _
 unfold entP Qh_
 rw [e0, e1, hmk, hrk]
 simp only [Bool.and_self, if_true, Nat.add_zero, Int.toNat_natCast]
 unfold Qi_
 rw [ofP_bs, hl]
 have := filt_one (fun i => (((F + 1 + i : Nat) : Int), zu_ (p.2.getD (i + 1) []) p.1)) F x (fun _ => rfl) (min (j.T.getD k 0).toNat (p.2.length - 1))
 rw [show F + (x + 1) = F + 1 + x by omega, this]
 by_cases h : x + 1 < p.2.length
 ·rw [if_pos h, if_pos Xt0]; rfl
 ·rw [if_neg h, if_neg Xt0]; rfl
theorem idx_ris {j : Job} {k x : Int} {T : List Pr} (hT : tOk T) : (idxP j k x T).Pairwise fun a b => ltL a.1 b.1 = true := by
 unfold idxP
 rw [List.pairwise_map]
 exact qT_ hT
end
theorem rentry_own (a b : Option Addr) (L K : List Int) (n m ca cb : Nat) (hL : L.length = n) (hK : K.length = m) (hn : n <= 300000) (hm : m <= 300000) (w : World) (hA : Ls .u8 w a ca L) (hB : Ls .u8 w b cb K) :
  Calls prog 83 #[.slice a n ca, .slice b m cb] w fun r w' => ∃ a' c', r = .returned (.slice a' (zu_ L K).length c') /\ w'.ownsRow w.heap.size 5 1 (.slice a' (zu_ L K).length c') (zu_ L K).length (iv .u8 (zu_ L K)) /\ Below w.heap.size w w' := by
 have h := jm_ a L n ca hL hn w hA
 have hfl := yr_ L
 have hE : zu_ L K = zk_ L ++ [0, 1] ++ K := by rw [zu_, List.append_assoc]
 obtain ⟨F, hF⟩ := gtx (zk_ L)
 rw [hF] at h hfl hE
 rw [hE]
 obtain ⟨f, hf⟩ := gtx (F.length)
 rw [hf] at h hfl
 have H := hid h
 have HF := hid hf
 have HB := hid hB
 have HK := hid hK
 have hf6 := hid (show f <= 600000 by omega)
 have hl := hid (show (F ++ [0, 1] ++ K).length = f + 2 + m by rw [List.length_append, List.length_append, hf, hK]; rfl)
 clear h hF hE hf hfl hB hA hK hL
 rw [hl.out]
 go_enter func83, ntmps83
 go_wp2_with fail
 refine H.out.mono ?_; rintro e w1 ⟨v1, rfl, hown1, B1⟩
 have HO1 := hid hown1
 have hs1 := B1.size
 clear hown1
 go_wp2_with (at_builtin; refine zB_ j5_ rfl (.tmp 6) (.tmp 7) rfl w.heap.size _ f (iv .u8 F) rfl (HO1.out.alloc _) _ _ 2 [0, 1] rfl rfl (xa_ .u8 _ [0, 1] _ _ _ rfl 2 rfl) (by have := hf6.out; omega) Xt7 ?_)
 intro v2 w2 hown2 hgrow2
 rw [← zM_] at hown2
 have B2 := (B1.alloc hs1 _).grown hgrow2 Xt7 (fun j hj => (HO1.out.lt j hj).1)
 have hs2 := B2.size
 have HO2 := hid hown2
 clear hown2 hgrow2
 go_wp2_with (at_builtin; refine zB_ j5_ rfl (.tmp 8) (.tmp 9) rfl w.heap.size v2 (f + 2) (iv .u8 (F ++ [0, 1])) rfl HO2.out b cb m K HK.out rfl (HB.out.below B2) (by have := hf6.out; omega) hs2 ?_)
 intro v3 w3 hown3 hgrow3
 rw [← zM_] at hown3
 have B3 := B2.grown hgrow3 hs2 (fun j hj => (HO2.out.lt j hj).1)
 obtain ⟨a', c', rfl, l', _⟩ := ys_ hown3 hl.out
 have HL3 := hid (show w3.ownsRow w.heap.size 5 1 (.slice a' (f + 2 + m) c') (f + 2 + m) (iv .u8 (F ++ [0, 1] ++ K)) from hown3)
 clear hown3 hgrow3 l'
 go_wp2_with fail
 go_ret
 exact ⟨a', c', rfl, HL3.out, B3⟩
section
variable {P : Program} {md : Region.Mode} {ops : Array Oper} {Q : Exit -> Act -> World -> Prop} {S : World -> Prop} {z : Nat}
theorem y3_ {i : Nat} {oi : Oper} {v : Value} {fuel : Nat} {listed : Array Bool} {a : Act} {w : World} (hzl : listed.getD z true = true) (hz : xN_ md ops z i = false) (hiz : (i == z) = false) (hi : ops[i]? = some oi)
  (hs : Region.noSelect ops = true) (hf : Region.free md ops listed i = true) (hr : (Region.ready md ops listed).contains i = true)
  (hQ : ∀ c a w, Q (.panic c) (a.put oi.dst v) w -> Q (.panic c) a w) (hy : YieldsIf P ops (fun _ => True) oi v a)
  (h : zL_ P md ops Q S z fuel (listed.setIfInBounds i true) (a.put oi.dst v) w) : zL_ P md ops Q S z (fuel + 1) listed a w :=
 Qe_ (T := fun _ => True) (Or.inr rfl) (by simpa using hiz) hi (Region.noSelect_spec hs) hQ fuel listed a w (Region.free_spec hi hf) (by simpa using hr) hy (fun h1 _ => by rw [hz] at h1; cases h1) (fun hh => by rw [hzl] at hh; cases hh) h
theorem AllL.later {fuel : Nat} {listed : Array Bool} {a : Act} {w : World} {i : Nat} {o : Oper} (hzl : listed.getD z true = true) (ho : ops[i]? = some o)
  (h : ∀ K' : Act -> World -> Prop, Shut (∀ a w, zL_ P md ops Q S z fuel (listed.setIfInBounds i true) a w -> K' a w) -> if Region.wanted o (yielded ops a.tmps) = true then Oper.wp P o a w K' Q else K' (a.put o.dst undef) w) : AllL P md ops Q S z fuel listed a w [i] := fun j hj => by
 rcases List.mem_singleton.1 hj with rfl
 exact wpOp_step ho (fun K' hK => h K' (fun a w hW => hK a w ⟨fun _ hh => (by rw [hzl] at hh; cases hh), hW⟩))
end
theorem pr_swap (A D : List PrV) (a z : PrV) :
  ((((zi_ (A ++ a :: z :: D)).set ((A.length + 1) * 2) (.slice a.ka a.K.length a.kc)).set ((A.length + 1) * 2 + 1) (.slice a.ra a.R.length a.rc)).set (A.length * 2) (.slice z.ka z.K.length z.kc)).set (A.length * 2 + 1) (.slice z.ra z.R.length z.rc) = zi_ (A ++ z :: a :: D) := by
 have hA := xC_ A
 have e : ∀ x y : PrV, zi_ (A ++ x :: y :: D) = zi_ A ++ (.slice x.ka x.K.length x.kc :: .slice x.ra x.R.length x.rc :: .slice y.ka y.K.length y.kc :: .slice y.ra y.R.length y.rc :: zi_ D) := fun x y => by
  rw [zw_]; rfl
 rw [e, e]
 rw [List.set_append_right _ _ Xt0, List.set_append_right _ _ Xt0, List.set_append_right _ _ Xt0, List.set_append_right _ _ Xt0]
 rw [hA, show (A.length + 1) * 2 - A.length * 2 = 2 by omega, show (A.length + 1) * 2 + 1 - A.length * 2 = 3 by omega, show A.length * 2 - A.length * 2 = 0 by omega, show A.length * 2 + 1 - A.length * 2 = 1 by omega]
 rfl
def LeP (a b : PrV) : Prop := ltL b.K a.K = false
theorem leP_trans {a b c : List Int} (h : ltL b a = false) (k : ltL c b = false) : ltL c a = false := by
 cases e : ltL c a
 ·rfl
 ·by_cases q : b = a
  ·subst q; rw [k] at e; cases e
  ·rw [zE_ e (x0_ h (Ne.symm q))] at k; cases k
theorem ins_stop {A B : List PrV} {z : PrV} (h : (A ++ B).Pairwise LeP) (hb : ∀ b ∈ B, ltL z.K b.K = true) (ha : ∀ a ∈ A.getLast?, ltL z.K a.K = false) : (A ++ z :: B).Pairwise LeP := by
 obtain ⟨h1, h2, h3⟩ := List.pairwise_append.1 h
 have haz : ∀ a ∈ A, LeP a z := by
  cases hl : A.getLast? with
  | none =>
   rw [List.getLast?_eq_none_iff] at hl
   subst hl
   intro a ha; cases ha
  | some l =>
   have hz := ha l (by rw [hl]; rfl)
   obtain ⟨A', rfl⟩ := List.getLast?_eq_some_iff.1 hl
   intro a hm
   rcases List.mem_append.1 hm with hm | hm
   ·exact leP_trans ((List.pairwise_append.1 h1).2.2 a hm l Xt5) hz
   ·rw [List.mem_singleton] at hm; subst hm; exact hz
 refine List.pairwise_append.2 ⟨h1, List.pairwise_cons.2 ⟨fun b hb' => yy_ (hb b hb'), h2⟩, fun a ha' b hb' => ?_⟩
 rcases List.mem_cons.1 hb' with rfl | hb'
 ·exact haz a ha'
 ·exact h3 a ha' b hb'
def entR (x : Nat) (p : Pr) : List Pr := if x + 1 < p.2.length then [(zu_ (p.2.getD (x + 1) []) p.1, p.2)] else []
theorem entR_U {j : Job} (ok : okB j = true) {k x : Nat} (hk : k < j.T.length) (hx : (x : Int) < j.T.getD k 0) : ∀ {T : List Pr}, (∀ p ∈ T, zH_ p.1 /\ rOk p.2) -> T.flatMap (entR x) = (qi_ j k (trV j k x).1 T).map fun e => (e.1, e.2.2)
 | [], _ => rfl
 | p :: T, h => by
  have ih := entR_U ok hk hx (T := T) fun q hq => h q (List.mem_cons_of_mem _ hq)
  have hp := h p (List.mem_cons_self ..)
  unfold qi_ at *
  rw [List.flatMap_cons, List.flatMap_cons, List.map_append, ih, entP_val ok hk hx hp.1 hp.2]
  unfold entR
  split <;> rfl
theorem idx_sorted {j : Job} (ok : okB j = true) {k x : Nat} (hk : k < j.T.length) (hx : (x : Int) < j.T.getD k 0) {T : List Pr} (hT : tOk T) {E : List PrV} (hp : (E.map prC).Perm (T.flatMap (entR x))) (hs : E.Pairwise LeP) : E.map prC = idxP j k x T := by
 rw [entR_U ok hk hx hT.2] at hp
 have hp2 : (E.map prC).Perm (idxP j k x T) := hp.trans ((List.mergeSort_perm _ _).symm.map _)
 have hr : Ris Prod.fst (idxP j k x T) := idx_ris hT
 refine ris_perm (xT_ ?_ (qm_ hp2.symm (Qr_ hr))) hr hp2
 rw [List.pairwise_map]
 exact hs
end Go.Proofs.YthmofoldmdafoaaGreat
