/- Part of the proof that ModelApplies holds for every input: writes that are done on tables leave them as the document says. Part 19. -/
import Derived.Test.YthmofoldmdafoaaGreatSvr
set_option linter.unusedVariables false
set_option linter.unusedSimpArgs false
set_option maxRecDepth 100000
set_option maxHeartbeats 4000000
namespace Go.Proofs.YthmofoldmdafoaaGreat
open Go.ChangeShapes Go.WideShapes Go.ChangeAt Go.RowKit
open Go.Lib (hid)
open Go.Proofs.Tryz
section
open Go.Maps
structure TrO (S : Nat -> Prop) (base : Nat) (w : World) (m : Md) (px : Nat) (wv rv : Value) (ws : List WtV) (rs : List xw_) : Prop where
 md : MdR S w m
 bd : ∀ k, S k -> k < w.heap.size
 c2 : w.cell? ⟨px, 2, none⟩ = some wv
 c3 : w.cell? ⟨px, 3, none⟩ = some rv
 own : w.ownsRow base 84 3 wv ws.length (cellsOf wcl ws)
 wst : ∀ y ∈ ws, zs_ S w (fun W' => Ls .u8 W' y.ka y.kc y.K /\ RdR W' y.r.ra y.r.R)
 wok : ∀ y ∈ ws, y.t < m.tabs.length /\ zH_ y.K /\ (y.r.R ≠ [] -> rOk y.r.P)
 rown : w.ownsRow base 81 2 rv rs.length (cellsOf rcl rs)
 rst : ∀ y ∈ rs, zs_ (Rb S base) w (fun W' => yc_ W' y.pa y.P)
 rok : ∀ y ∈ rs, yp_ y
 hw : ∀ g, wv.ownBlock = some g -> S g
 hr : ∀ g, rv.ownBlock = some g -> S g
 few : ws.length <= 16
 lo : base <= px
def TrR (S : Nat -> Prop) (w : World) (m : Md) (x : z2_) (r : Ending) (w' : World) : Prop :=
 if yP_ m.j x then ∃ S' base px wv rv ws rs, r = .returned (.tuple #[.pointer (some ⟨px, 0, none⟩), .int .i64 0]) /\ Below w.heap.size w w' /\ w.heap.size <= base /\ TrO S' base w' m px wv rv ws rs /\ (∀ k, S k -> S' k) /\ (∀ k, S' k -> S k ∨ w.heap.size <= k) /\ rs.map yA_ = (z3_ m.j m.P x.ops).1 /\ ws.map WtV.P = if x.ab then [] else (z3_ m.j m.P x.ops).2
 else r = .returned (.tuple #[.pointer none, .int .i64 2]) /\ Below w.heap.size w w'
theorem yJ_ {j : Job} {x : z2_} (h : yP_ j x = true) : x.on <= 16 /\ ∀ o ∈ x.ops, pO j o = true := by
 unfold yP_ at h
 simp only [Bool.and_eq_true, decide_eq_true_eq] at h
 refine ⟨h.1.1.2, fun o ho => ?_⟩
 have := (List.all_eq_true.1 h.2) o ho
 unfold opB at this
 rw [Bool.and_eq_true] at this
 exact this.1
theorem pO_t {j : Job} {o : zj_} (h : pO j o = true) : 0 <= o.t /\ o.t < j.n := by
 unfold pO inB at h
 simp only [Bool.and_eq_true, decide_eq_true_eq] at h
 have := h.1.1.1.1.2
 omega
theorem TlR.c3 {S : Nat -> Prop} {base : Nat} {w : World} {m : Md} {x : Tl} (h : TlR S base w m x) : w.cell? ⟨x.px, 3, none⟩ = some x.rv := by rw [h.box.cell]; rfl
theorem ent_g {f : FuncId} {fn : Func} {c : Code} (hf : prog.funcs[f]? = some fn) (hn : (fn.name == "runtime.NumGoroutine") = false) (hb : fn.body = some c) (args : Array Value) (w : World) : (callFunc f args).run prog w = .ok (.enter f args) w := by
 have h1 : fn.name ≠ "runtime.NumGoroutine" := by simpa using hn
 simp [callFunc, hf, h1, hb]
theorem ent22 (k : Nat) (h1 : 1 <= k) (h2 : k <= 6) (args : Array Value) (w : World) : (callFunc (122 + k) args).run prog w = .ok (.enter (122 + k) args) w := by
 match k, h1, h2 with
 | 1, _, _ => exact ent_g func123 Xt3 rfl args w
 | 2, _, _ => exact ent_g func124 Xt3 rfl args w
 | 3, _, _ => exact ent_g func125 Xt3 rfl args w
 | 4, _, _ => exact ent_g func126 Xt3 rfl args w
 | 5, _, _ => exact ent_g func127 Xt3 rfl args w
 | 6, _, _ => exact ent_g func128 Xt3 rfl args w
 | k + 7, _, h => omega
structure SR (px B b : Nat) (rv : Value) (cs : Array Value) (X : World) : Prop where
 p : ∃ ps, zg_ X px ps 123 /\ ps[3]? = some rv
 o : zg_ X B cs 74
 m : X.ownsMap prog 72 RF b 6 y1_
theorem SR.off {T : Nat -> Prop} {px B b : Nat} {rv : Value} {cs : Array Value} {X X' : World} (h : SR px B b rv cs X) (o : Off T X X') (h1 : ¬ T px) (h2 : ¬ T B) (h3 : ¬ T b) : SR px B b rv cs X' := by
 obtain ⟨⟨ps, hp, hv⟩, ho, hm⟩ := h
 exact ⟨⟨ps, o.box hp h1, hv⟩, o.box ho h2, o.map hm h3⟩
theorem SR.c3 {px B b : Nat} {rv : Value} {cs : Array Value} {X : World} (h : SR px B b rv cs X) : X.cell? ⟨px, 3, none⟩ = some rv := by
 obtain ⟨ps, hp, hv⟩ := h.p
 rw [hp.cell]; exact hv
theorem SR.f3 {px B b : Nat} {rv : Value} {cs : Array Value} {X : World} (h : SR px B b rv cs X) : X.frozen? ⟨px, 3, none⟩ = false := by
 obtain ⟨ps, hp, hv⟩ := h.p
 exact hp.frozen 3
theorem SR.call {S S2 : Nat -> Prop} {base px B b : Nat} {rv : Value} {cs : Array Value} {W w8 : World} {m : Md} {x1 x2 : Tl} (h : SR px B b rv cs W) (st : TSt S S2 base W m x1 w8 x2) (hpx : x1.px = px) (hrv : x1.rv = rv) (h2 : ¬ Mut x1 B) (h3 : ¬ Mut x1 b) : SR px B b rv cs w8 :=
 ⟨⟨_, by have := st.tl.box; rw [st.px, hpx] at this; exact this, by rw [← hrv, ← st.rv]; rfl⟩, st.off.box h.o h2, st.off.map h.m h3⟩
theorem TlR.log {S : Nat -> Prop} {base : Nat} {w w7 w8 : World} {m : Md} {x : Tl} (h : TlR S base w m x) (b : Below w.heap.size w w7) (y : xw_) (hp : zs_ (Rb S base) w fun W' => yc_ W' y.pa y.P) (v8 : Value) (hown : w8.ownsRow base 81 2 v8 (x.rs.length + 1) (cellsOf rcl (x.rs ++ [y]))) (hg : w7.grownBy w8 x.rv.ownBlock) (hat : v8.ownBlock = x.rv.ownBlock ∨ v8.ownBlock = some w7.heap.size) (hrf : x.rs.length < 1000) :
  TlR (jM_ S w.heap.size (w8.setCell ⟨x.px, 3, none⟩ v8).heap.size) base (w8.setCell ⟨x.px, 3, none⟩ v8) m { x with rv := v8, rs := x.rs ++ [y] } /\ Off (fun k => k = x.px ∨ x.rv.ownBlock = some k) w (w8.setCell ⟨x.px, 3, none⟩ v8) := by
 have o67 : Off (fun k => k = x.px ∨ x.rv.ownBlock = some k) w w7 := Off.of b
 have o78 : Off (fun k => x.rv.ownBlock = some k) w7 w8 := Off.of_row hg
 have o68 : Off (fun k => x.rv.ownBlock = some k) w w8 := (Off.of b).trans o78
 have o89 : Off (fun k => k = x.px) w8 (w8.setCell ⟨x.px, 3, none⟩ v8) := Off.set (S := fun k => k = x.px) (Off.refl _ w8) ⟨x.px, 3, none⟩ rfl _
 have o : Off (fun k => k = x.px ∨ x.rv.ownBlock = some k) w (w8.setCell ⟨x.px, 3, none⟩ v8) := (o68.mono fun k hk => .inr hk).trans (o89.mono fun k hk => .inl hk)
 have hT : ∀ k, (fun k => k = x.px ∨ x.rv.ownBlock = some k) k -> S k /\ base <= k := fun k hk => by
  rcases hk with rfl | hk
  ·exact ⟨h.hp, h.lo⟩
  ·exact ⟨h.hr k hk, (zb_ h.rown hk).1⟩
 have hS' : ∀ k, jM_ S w.heap.size (w8.setCell ⟨x.px, 3, none⟩ v8).heap.size k -> S k ∨ w.heap.size <= k := fun k hk => hk.imp id And.left
 have hsz : (w8.setCell ⟨x.px, 3, none⟩ v8).heap.size = w8.heap.size := by simp
 have hnr : ¬ x.rv.ownBlock = some x.px := fun e => by
  obtain ⟨_, _, cur, hb⟩ := zb_ h.rown e
  exact zp_ hb h.box Xt4 rfl
 have hro : (w8.setCell ⟨x.px, 3, none⟩ v8).ownsRow base 81 2 v8 (x.rs ++ [y]).length (cellsOf rcl (x.rs ++ [y])) := by
  rw [List.length_append, List.length_singleton]
  refine zn_ hown o89 ?_
  intro g hg e
  obtain ⟨_, _, cur, hb⟩ := zb_ hown hg
  exact zp_ hb (o68.box h.box hnr) Xt4 e
 refine ⟨h.next o hT { x with rv := v8, rs := x.rs ++ [y] } rfl rfl rfl rfl rfl (heap_setCell_same w8 x.px 3 _ 123 _ (o68.box h.box hnr)) (fun z hz => (h.wmaps z hz).off o ?_) (zn_ h.own o ?_) hro _ (fun _ h => .inl h) hS' (fun k hk => hk.elim (fun hk => Nat.lt_of_lt_of_le (h.bd k hk) o.size) And.right) (fun g hg => .inl (h.hw g hg)) (fun g hg => ?_) (h.keepw o hT hS') h.wok (fun z hz => ?_) h.coh h.wl h.few (by show (x.rs ++ [y]).length <= 1000; rw [List.length_append, List.length_singleton]; omega), o⟩
 ·rintro (e | e)
  ·exact (h.wmaps z hz).ne_box h.box e
  ·obtain ⟨_, _, cur, hb⟩ := zb_ h.rown e
   exact (h.wmaps z hz).ne_box hb rfl
 ·intro g hg e
  obtain ⟨_, _, cur, hb⟩ := zb_ h.own hg
  rcases e with e | e
  ·exact zp_ hb h.box Xt4 e
  ·obtain ⟨_, _, cur', hb'⟩ := zb_ h.rown e
   exact zp_ hb hb' Xt4 rfl
 ·rcases hat with e | e
  ·exact .inl (h.hr g (e ▸ hg))
  ·have h1 := (zb_ hown hg).2.1
   have hg' : some g = some w7.heap.size := hg.symm.trans e
   cases hg'
   exact .inr ⟨b.size, by rw [hsz]; exact h1⟩
 ·rcases List.mem_append.1 hz with hz | hz
  ·exact h.keepr o hT hS' z hz
  ·rw [List.mem_singleton] at hz
   subst hz
   exact hp.step (o.mono fun k hk => .inl (hT k hk).1) fun k hk => hk.elim (fun h => (hS' k h).imp .inl id) fun h => .inl (.inr h)
theorem TlR.tro {S : Nat -> Prop} {base : Nat} {w : World} {m : Md} {x : Tl} (h : TlR S base w m x) (hok : ∀ y ∈ x.rs, yp_ y) (hf : x.ws.length <= 16) : TrO S base w m x.px x.wv x.rv x.ws x.rs :=
 ⟨h.md, h.bd, by rw [h.box.cell]; rfl, h.c3, h.own, h.wst, h.wok, h.rown, h.rst, hok, h.hw, h.hr, hf, h.lo⟩
theorem TlR.tro0 {S : Nat -> Prop} {base : Nat} {w : World} {m : Md} {x : Tl} (h : TlR S base w m x) (hok : ∀ y ∈ x.rs, yp_ y) : TrO S base (w.setCell ⟨x.px, 2, none⟩ (.slice none 0 0)) m x.px (.slice none 0 0) x.rv [] x.rs := by
 have o : Off (fun k => k = x.px) w (w.setCell ⟨x.px, 2, none⟩ (.slice none 0 0)) := Off.set (S := fun k => k = x.px) (Off.refl _ w) ⟨x.px, 2, none⟩ rfl _
 have hT : ∀ k, (fun k => k = x.px) k -> S k /\ base <= k := fun k hk => by cases hk; exact ⟨h.hp, h.lo⟩
 have hbx : zg_ (w.setCell ⟨x.px, 2, none⟩ (.slice none 0 0)) x.px #[.pointer (some ⟨m.p, 0, none⟩), .slice (some ⟨x.bw, 0, none⟩) x.wm.length x.wc, .slice none 0 0, x.rv, .func (.func 107) #[] #[.pointer (some ⟨x.bx, 0, none⟩), .pointer (some ⟨x.bm, 0, none⟩)]] 123 := heap_setCell_same w x.px 2 _ 123 _ h.box
 refine ⟨h.md.off o (fun k hk => (hT k hk).1) (fun y hy hk => ?_) (fun k hk => .inl hk) h.md.hS, fun k hk => Nat.lt_of_lt_of_le (h.bd k hk) o.size, by rw [hbx.cell]; rfl, by rw [hbx.cell]; rfl, World.ownsRow_nil _ _ _ _, Xt41, Xt41, zn_ h.rown o (fun g hg e => ?_), h.keepr o hT (fun k hk => .inl hk), hok, Xt56, h.hr, by simp, h.lo⟩
 ·have := h.old y hy
  have := h.lo
  omega
 ·obtain ⟨_, _, cur, hb⟩ := zb_ h.rown hg
  exact zp_ hb h.box Xt4 e
theorem qP_ (hsort : ESort) {S : Nat -> Prop} {m : Md} {w : World} (h : MdR S w m) (hS : ∀ k, S k -> k < w.heap.size) (x : z2_) (hx0 : zR_ w x) (hon : x.on <= 1000000) (hrn : ∀ o ∈ x.ops, o.rn <= 1000000) (hf : ∀ z ∈ m.tabs, z.2.length <= 300000) :
  Calls prog 66 #[.pointer (some ⟨m.p, 0, none⟩), .agg #[.slice x.oa x.on x.oc, .bool x.sn, .bool x.ab]] w (TrR S w m x) := by
 have HH := hid h
 have HS := hid hS
 have hx : zs_ (fun _ => False) w (fun W => zR_ W x) := fun W' o => hx0.below (Off.below (Below.refl _ _) o (Nat.le_refl _) fun _ h => h.elim)
 have HXT := hid hx
 have HRN := hid hrn
 have HF := hid hf
 have HSO := hid hsort
 obtain ⟨w2, hw2⟩ := gty (w.alloc (.cells #[.slice x.oa x.on x.oc, .bool x.sn, .bool x.ab] 38))
 have hb2 : Below w.heap.size w w2 := by rw [hw2]; exact bl1 _ _
 have hbx2 : zg_ w2 w.heap.size #[.slice x.oa x.on x.oc, .bool x.sn, .bool x.ab] 38 := by rw [hw2]; exact zg_.new _ _ _
 have HB2 := hid hb2
 have HBX2 := hid hbx2
 have HX := hid (fun X (b : Below w2.heap.size w2 X) => (by
  have hm := ((h.below hb2).below b).st.now.box
  have hq := hbx2.below b
  refine ⟨?_, ?_, ?_, ?_, ?_, ?_, ?_, ?_, ?_, ?_⟩
  all_goals first | (rw [hm.cell]; rfl) | (rw [hq.cell]; rfl) : X.cell? ⟨m.p, 0, none⟩ = some (.int .i64 m.j.w) /\ X.cell? ⟨m.p, 1, none⟩ = some (.int .i64 m.j.l) /\ X.cell? ⟨m.p, 2, none⟩ = some (.int .i64 m.j.d) /\ X.cell? ⟨m.p, 3, none⟩ = some (.int .i64 m.j.c) /\ X.cell? ⟨m.p, 4, none⟩ = some (.int .i64 m.j.k) /\ X.cell? ⟨m.p, 5, none⟩ = some (.int .i64 m.j.e) /\ X.cell? ⟨m.p, 6, none⟩ = some (.slice m.j.a m.j.n m.j.cap) /\ X.cell? ⟨w.heap.size, 0, none⟩ = some (.slice x.oa x.on x.oc) /\ X.cell? ⟨w.heap.size, 1, none⟩ = some (.bool x.sn) /\ X.cell? ⟨w.heap.size, 2, none⟩ = some (.bool x.ab)))
 have HMT := hid (fun X (b : Below w2.heap.size w2 X) => maytxn_law m.j x hon hrn X (((h.below hb2).below b).st.now.job) ((hx.below hb2).below b).now)
 have hnone := yI_ (h.below hb2)
 have HNO := hid hnone
 clear h hS hx hx0 hon hrn hf hsort hb2 hbx2 hnone
 cases hmt : yP_ m.j x with
 | false =>
  rw [hmt] at HMT
  have HR := hid (fun r w' (hh : r = .returned (.tuple #[.pointer none, .int .i64 2]) /\ Below w.heap.size w w') => (by unfold TrR; rw [hmt]; exact hh : TrR S w m x r w'))
  clear hmt
  go_enter func66, ntmps66
  go_upto_region 1 with (fail)
  rw [← hw2]
  clear hw2
  go_wp2_with fail
  refine HNO.out.mono ?_; rintro r w3 ⟨rfl, rfl⟩
  go_upto_region 3 with (fail)
  refine rgw w2 (Below.refl _ _).drew fun hH => ?_
  refine tkq3 0 1 2 ?_
  refine tkr 3 rfl Xf23 ?_
  refine tkr 4 rfl Xf22 ?_
  refine tk1 5 rfl fun K hK => ?_
  go_simp
  refine (HMT.out _ hH).mono ?_; rintro r w4 ⟨rfl, hb4⟩
  have HB4 := hid (za_ hH hb4)
  clear hb4
  go_wp2_with fail
  refine hK.out _ _ HB4.out fun hH => ?_
  refine stP ?_
  refine tkq2 6 7 ?_
  refine adn ?_
  skip
  have HB9 := hid (HB2.out.trans (hH.mono HB2.out.size))
  clear hH
  go_wp2_with fail
  go_ret2
  exact HR.out _ _ ⟨rfl, HB9.out⟩
 | true =>
  rw [hmt] at HMT
  obtain ⟨hon16, hpo⟩ := yJ_ hmt
  have HPO := hid hpo
  have HR := hid (fun r w' (hh : ∃ S' base px wv rv ws rs, r = .returned (.tuple #[.pointer (some ⟨px, 0, none⟩), .int .i64 0]) /\ Below w.heap.size w w' /\ w.heap.size <= base /\ TrO S' base w' m px wv rv ws rs /\ (∀ k, S k -> S' k) /\ (∀ k, S' k -> S k ∨ w.heap.size <= k) /\ rs.map yA_ = (z3_ m.j m.P x.ops).1 /\ ws.map WtV.P = if x.ab then [] else (z3_ m.j m.P x.ops).2) => (by unfold TrR; rw [hmt]; exact hh : TrR S w m x r w'))
  clear hmt hpo
  go_enter func66, ntmps66
  go_upto_region 1 with (fail)
  rw [← hw2]
  clear hw2
  go_wp2_with fail
  refine HNO.out.mono ?_; rintro r w3 ⟨rfl, rfl⟩
  go_upto_region 3 with (fail)
  refine rgw w2 (Below.refl _ _).drew fun hH => ?_
  refine tkq3 0 1 2 ?_
  refine tkr 3 rfl Xf23 ?_
  refine tkr 4 rfl Xf22 ?_
  refine tk1 5 rfl fun K hK => ?_
  go_simp
  refine (HMT.out _ hH).mono ?_; rintro r w4 ⟨rfl, hb4⟩
  have HB4 := hid (za_ hH hb4)
  clear hb4
  go_wp2_with fail
  refine hK.out _ _ HB4.out fun hH => ?_
  refine stP ?_
  refine tkq2 6 7 ?_
  refine adn ?_
  skip
  have HB9 := hid (HB2.out.trans (hH.mono HB2.out.size))
  have HBX4 := hid (HBX2.out.below hH)
  clear hH
  go_wp2_with fail
  refine (xa_ (HH.out.below HB9.out) (fun k hk => Nat.lt_of_lt_of_le (HS.out k hk) HB9.out.size)).mono ?_; rintro r w5 ⟨S5, x0, rfl, hb5, htl5, hws0, hrs0, hsu5, hsd5⟩
  obtain ⟨px, hpx⟩ := gtx (x0.px)
  rw [hpx]
  have HB5 := hid (HB9.out.trans (hb5.mono HB9.out.size))
  have HTL5 := hid htl5
  have HPX5 := hid hpx
  have HWR0 := hid (And.intro hws0 hrs0)
  have HSU5 := hid hsu5
  have HSD5 := hid hsd5
  have HBX5 := hid (HBX4.out.below hb5)
  have HS45 := hid hb5.size
  clear htl5 hpx hws0 hrs0 hsu5 hsd5 hb5
  go_wp2_with fail
  refine (calls_law w5).mono ?_; rintro r w6 ⟨rfl, hb6, hmp6⟩
  have HB6 := hid (HB5.out.trans (hb6.mono HB5.out.size))
  have HMP6 := hid hmp6
  have HTL6 := hid (HTL5.out.below hb6)
  have HBX6 := hid (HBX5.out.below hb6)
  have HS56 := hid hb6.size
  obtain ⟨b, hb⟩ := gtx (w5.heap.size)
  rw [hb] at HMP6 ⊢
  have HBB := hid hb
  have c0 := HBX6.out.cell 0
  simp only [gtA, gtB, gtC] at c0
  have HON := hid hon16
  have hxl : x.ops.length = x.on := HXT.out.now.ol
  have HXL := hid hxl
  have hxo : (x.on : Int) <= 16 := by omega
  clear hb6 hmp6 hb hon16 hxl
  go_wp2_with fail
  clear c0
  go_loopw [27] (fun i wr => ∃ (k : Nat) (S1 : Nat -> Prop) (x1 : Tl), k <= x.on /\ i = .int .i64 (k : Int) /\ Hid (TlR S1 w4.heap.size wr m x1) /\ Hid (x1.px = px) /\ Hid (x1.ws.map WtV.P = (z3_ m.j m.P (x.ops.take k)).2) /\ Hid (x1.rs.map yA_ = (z3_ m.j m.P (x.ops.take k)).1) /\ Hid (∀ y ∈ x1.rs, yp_ y) /\ Hid (∀ g, S g -> S1 g) /\ Hid (∀ g, S1 g -> S g ∨ w4.heap.size <= g) /\ Hid (¬ S1 b /\ b < wr.heap.size) /\ Hid (wr.ownsMap prog 72 RF b 6 y1_) /\ Hid (zg_ wr w.heap.size #[.slice x.oa x.on x.oc, .bool x.sn, .bool x.ab] 38) /\ Hid (Below w.heap.size w wr) /\ Hid (w4.heap.size <= wr.heap.size)) (fun i _ => x.on - (intOf i).toNat)
  case atStart => exact ⟨0, S5, x0, by omega, rfl, HTL6, HPX5, hid (by rw [HWR0.out.1]; rfl), hid (by rw [HWR0.out.2]; rfl), hid (fun y hy => by rw [HWR0.out.2] at hy; cases hy), HSU5, HSD5, hid ⟨fun h => Nat.lt_irrefl _ (by have := HTL5.out.bd _ h; rw [HBB.out] at this; exact this), by obtain ⟨_, _, hh, _⟩ := HMP6.out; exact (Array.getElem?_eq_some_iff.1 hh).1⟩, HMP6, HBX6, HB6, hid (Nat.le_trans HS45.out HS56.out)⟩
  case round =>
   obtain ⟨k, S1, x1, hk, rfl, HTL, HPX, HWS, HRS, HOK, HSU, HSD, HNB, HMP, HTX, HBW, H4R⟩ := hrel
   by_cases hlt : k < x.on
   ·have d1 : (k : Int) < (x.on : Int) := by omega
    obtain ⟨o, ho⟩ : ∃ o, x.ops[k]? = some o := ⟨_, List.getElem?_eq_getElem Xt76⟩
    have hmem : o ∈ x.ops := List.mem_of_getElem? ho
    have hst : zs_ (Ab S1 w4.heap.size) wr fun W => zR_ W x := HXT.out.step (Off.of HBW.out) (fun g hg => .inr (Nat.le_trans HB2.out.size (Nat.le_trans HB4.out.size hg.2)))
    obtain ⟨b1, o1, ea, ⟨p0, p1, p2, p3, p4, p5, p6⟩, _⟩ := hst.now.os k o ho
    have HTK := hid (runP_take m.j m.P ho)
    have HRN1 := hid (HRN.out o hmem)
    have HPO1 := hid (HPO.out o hmem)
    have HCA := hid (hst.mono fun W hW => by obtain ⟨_, _, _, _, hc⟩ := hW.os k o ho; exact hc : zs_ (Ab S1 w4.heap.size) wr fun W => zz_ W o)
    have HEA := hid ea
    rw [ea]
    clear hst ho hmem ea
    go_upto_region 10 with (fail)
    clear p0 p1 p2 p3 p4 p5 p6
    obtain ⟨kk, hkk⟩ : ∃ kk : Nat, o.k = (kk : Int) := ⟨o.k.toNat, by have := jY_ HPO1.out; omega⟩
    have hk16 := jY_ HPO1.out
    have hpt := pO_t HPO1.out
    have hwl : x1.ws.length <= k := by
     have h1 := congrArg List.length HWS.out
     rw [List.length_map] at h1
     have h2 := (xV_ m.j m.P (x.ops.take k)).2
     rw [List.length_take, HXL.out] at h2
     omega
    have hrl : x1.rs.length = k := by
     have h1 := congrArg List.length HRS.out
     rw [List.length_map] at h1
     have h2 := (xV_ m.j m.P (x.ops.take k)).1
     rw [List.length_take, HXL.out] at h2
     omega
    obtain ⟨w7, hw7⟩ := gty (wr.alloc (.cells #[.int .i64 o.k, .int .i64 o.t, .int .i64 o.i, .slice o.ka o.kn o.kc, .slice o.ta o.tn o.tc, .int .i64 o.m, .slice o.ra o.rn o.rc] 74))
    rw [← hw7]
    have hb7 : Below wr.heap.size wr w7 := by rw [hw7]; exact bl1 _ _
    have hbx7 : zg_ w7 wr.heap.size #[.int .i64 o.k, .int .i64 o.t, .int .i64 o.i, .slice o.ka o.kn o.kc, .slice o.ta o.tn o.tc, .int .i64 o.m, .slice o.ra o.rn o.rc] 74 := by rw [hw7]; exact zg_.new _ _ _
    clear hw7
    have hb7d := ((Below.refl w7.heap.size w7).drew)
    have HX7 := hid (SR.mk (rv := x1.rv) (px := px) (b := b) ⟨_, by have := (HTL.out.box.below hb7).below hb7d; rw [HPX.out] at this; exact this, rfl⟩ (hbx7.below hb7d) (Off.map (Off.of (S := fun _ => False) hb7d) (Off.map (Off.of (S := fun _ => False) hb7) HMP.out (fun h => h)) (fun h => h)))
    have HTLW := hid ((HTL.out.below hb7).below hb7d)
    have H4W := hid (Nat.le_trans H4R.out (Nat.le_trans hb7.size hb7d.size))
    have HSW := hid (Nat.le_trans hb7.size hb7d.size)
    have HBRW := hid (hb7.trans (hb7d.mono hb7.size))
    have hops : OpS S1 w4.heap.size w7.drew m o o.t.toNat := ⟨(HCA.out.below hb7).below hb7d, by omega, by have := HH.out.len; omega, HPO1.out, HRN1.out⟩
    have hcl := tcall_law HSO.out HTLW.out H4W.out o o.t.toNat hops Xt0 HF.out kk hkk
    rw [HPX.out] at hcl
    have HCL := hid hcl
    have HKK := hid hkk
    have HK6 := hid (show 1 <= kk /\ kk <= 6 by omega)
    have HRL := hid (show x1.rs.length = k /\ k < 16 by omega)
    have HNM := hid (show ¬ Mut x1 wr.heap.size /\ ¬ Mut x1 b from ⟨fun h => Nat.lt_irrefl _ (HTL.out.bd _ (HTL.out.mut _ h).1), fun h => HNB.out.1 (HTL.out.mut _ h).1⟩)
    have HNR := hid (show ¬ x1.rv.ownBlock = some px /\ ¬ x1.rv.ownBlock = some wr.heap.size /\ ¬ x1.rv.ownBlock = some b from ⟨fun e => by
     obtain ⟨_, _, cur, hb⟩ := zb_ HTL.out.rown e
     have := HTL.out.box
     rw [HPX.out] at this
     exact zp_ hb this Xt4 rfl, fun e => Nat.lt_irrefl _ (HTL.out.bd _ (HTL.out.hr _ e)), fun e => HNB.out.1 (HTL.out.hr _ e)⟩)
    clear hkk hk16 hpt hwl hrl hb7 hbx7 hb7d hops hcl
    refine zq_ (z := 16) (S := (SR px wr.heap.size b x1.rv #[.int .i64 o.k, .int .i64 o.t, .int .i64 o.i, .slice o.ka o.kn o.kc, .slice o.ta o.tn o.tc, .int .i64 o.m, .slice o.ra o.rn o.rc])) Xt3 (HX7.out) fun hH => ?_
    refine tlk 0 rfl Xt2 ?_
    refine tlk 1 rfl Xt2 ?_
    refine tlk 2 rfl Xt2 ?_
    refine tlk 3 rfl Xt2 ?_
    refine tlk 4 rfl (fun W hSw => by have m3 := hSw.c3; exact tks) ?_
    refine tlk 5 rfl Xt2 ?_
    refine tlk 6 rfl Xt2 ?_
    refine tlk 7 rfl (fun W hSw => by have m0 := hSw.o.cell 0; simp only [gtA, gtB, gtC] at m0; exact tks) ?_
    refine tlk 8 rfl (fun W hSw => by have m := calls_look hSw.m kk HK6.out.1 HK6.out.2; rw [← HKK.out] at m; exact tks) ?_
    refine tlk 9 rfl Xt2 ?_
    refine tlk 10 rfl (fun W hSw => by have m0 := hSw.o.cell 0; have m1 := hSw.o.cell 1; have m2 := hSw.o.cell 2; have m3 := hSw.o.cell 3; have m4 := hSw.o.cell 4; have m5 := hSw.o.cell 5; have m6 := hSw.o.cell 6; simp only [gtA, gtB, gtC] at m0 m1 m2 m3 m4 m5 m6; exact tks) ?_
    refine tl1 11 rfl fun K hK => ?_
    go_simp
    rw [ent22 kk HK6.out.1 HK6.out.2, Oper.upon_enter]
    refine HCL.out.mono ?_; rintro r w8 ⟨S2, x2, y, rfl, st, hye, hyo, hys, hws⟩
    have HST := hid st
    have HYE := hid hye
    have HYO := hid hyo
    have HYS := hid hys
    have HW2 := hid hws
    have HSR8 := hid (hH.call st HPX.out rfl HNM.out.1 HNM.out.2)
    clear st hye hyo hys hws
    go_wp2_with fail
    refine hK.out _ _ (HSR8.out) fun hH => ?_
    refine stP ?_
    refine tl1 12 rfl fun K hK => ?_
    go_simp
    refine hK.out _ _ (hH.off (Off.of (S := fun _ => False) (bl1 w8 (.cells #[.int .i64 y.e, .slice y.pa y.P.length y.pc] 81))) (fun h => h) (fun h => h) (fun h => h)) fun hH => ?_
    refine stP ?_
    refine tl1 13 rfl fun K hK => ?_
    have hown : w8.ownsRow w4.heap.size 81 2 x1.rv x1.rs.length (cellsOf rcl x1.rs) := by have := HST.out.tl.rown; rw [HST.out.rv, HST.out.rs] at this; exact this
    refine zC_ Q8_ rfl _ _ rfl w4.heap.size x1.rv x1.rs.length (cellsOf rcl x1.rs) rfl (ze_ hown (bl1 w8 (.cells #[.int .i64 y.e, .slice y.pa y.P.length y.pc] 81))) ⟨w8.heap.size, 0, none⟩ 1 1 (rcl y) rfl rfl (zy_ w8 _ _ _ rfl) (rcl_one y) (by have := HRL.out; omega) (Nat.le_trans H4W.out (Nat.le_trans HST.out.off.size (bl1 w8 (.cells #[.int .i64 y.e, .slice y.pa y.P.length y.pc] 81)).size)) ?_
    intro v9 w9 hown9 hgrow9 hat9
    obtain ⟨a9, c9, hv9⟩ := zd_ hown9
    subst hv9
    have HO9 := hid hown9
    have HG9 := hid hgrow9
    have HAT := hid hat9
    have HSR9 := hid (hH.off (Off.of_row hgrow9) HNR.out.1 HNR.out.2.1 HNR.out.2.2)
    clear hown hown9 hgrow9 hat9
    refine hK.out _ _ (HSR9.out) fun hH => ?_
    refine stP ?_
    refine tlf 14 rfl Xt2 ?_
    refine tlk 15 rfl Xt2 ?_
    refine tlz rfl fun K hK => ?_
    have x4 := HSR9.out.c3
    have f4 := HSR9.out.f3
    go_simp
    refine hK.out _ _ ?_
    clear hK K x4 f4
    refine stP ?_
    refine zv_ Xt3 ?_ _
    skip
    have hlog := TlR.log HST.out.tl (bl1 w8 (.cells #[.int .i64 y.e, .slice y.pa y.P.length y.pc] 81)) y HYS.out (.slice a9 (x1.rs.length + 1) c9) (by rw [HST.out.rs, zr_]; exact HO9.out) (by rw [HST.out.rv]; exact HG9.out) (by rw [HST.out.rv]; exact HAT.out) (by rw [HST.out.rs]; have := HRL.out; omega)
    rw [HST.out.px, HPX.out, HST.out.rv, HST.out.rs] at hlog
    have HL1 := hid hlog.1
    have HL2 := hid hlog.2
    clear hlog
    go_wp2_with fail
    go_roundw
    case rel =>
     have hbS : ∀ g, S2 g -> S1 g ∨ wr.heap.size <= g := fun g hg => (HST.out.sd g hg).imp id fun h => Nat.le_trans HSW.out h
     have h8 : wr.heap.size <= w8.heap.size := Nat.le_trans HSW.out HST.out.off.size
     have hpS : S1 px := by have := HTL.out.hp; rw [HPX.out] at this; exact this
     have hpB : w4.heap.size <= px := by have := HTL.out.lo; rw [HPX.out] at this; exact this
     have hrB : ∀ g, x1.rv.ownBlock = some g -> w4.heap.size <= g := fun g hg => (zb_ HTL.out.rown hg).1
     have h24 : w.heap.size < w4.heap.size := HBX4.out.lt
     refine ⟨k + 1, _, _, by omega, by go_num, HL1, hid rfl, hid ?_, hid ?_, hid ?_, hid fun g hg => .inl (HST.out.su g (HSU.out g hg)), hid fun g hg => ?_, hid ⟨fun hg => ?_, ?_⟩, hid ?_, hid ?_, hid ?_, hid ?_⟩
     ·show x2.ws.map WtV.P = _
      rw [HW2.out, HTK.out, HWS.out]; rfl
     ·show (x1.rs ++ [y]).map yA_ = _
      rw [List.map_append, HTK.out, HRS.out]
      show _ ++ [yA_ y] = _ ++ [_]
      rw [HYE.out, HWS.out]
     ·intro z hz
      rcases List.mem_append.1 hz with hz | hz
      ·exact HOK.out z hz
      ·rw [List.mem_singleton] at hz; subst hz; exact HYO.out
     ·rcases hg with hg | hg
      ·rcases hbS g hg with hg | hg
       ·exact HSD.out g hg
       ·exact .inr (Nat.le_trans H4R.out hg)
      ·exact .inr (Nat.le_trans H4R.out (Nat.le_trans h8 hg.1))
     ·have := HNB.out.2
      rcases hg with hg | hg
      ·rcases hbS b hg with hg | hg
       ·exact HNB.out.1 hg
       ·omega
      ·have := hg.1; omega
     ·have := HNB.out.2
      have := HL2.out.size
      omega
     ·refine Off.map (Off.set (S := fun k => k = px) (Off.refl _ w9) ⟨px, 3, none⟩ rfl _) HSR9.out.m (fun e => HNB.out.1 ?_)
      rw [e]; exact hpS
     ·rw [← HEA.out]
      refine HL2.out.box (HST.out.off.box (HTX.out.below HBRW.out) fun hm => ?_) (fun hm => ?_)
      ·have := (HTL.out.mut _ hm).2; omega
      ·rcases hm with hm | hm
       ·omega
       ·have := hrB _ hm; omega
     ·refine Off.below (Off.below (HBW.out.trans (HBRW.out.mono HBW.out.size)) HST.out.off ?_ fun g hg => ?_) HL2.out ?_ fun g hg => ?_
      ·exact Nat.le_trans HBW.out.size HSW.out
      ·have := (HTL.out.mut _ hg).2; omega
      ·exact Nat.le_trans HBW.out.size h8
      ·rcases hg with hg | hg
       ·omega
       ·have := hrB _ hg; omega
     ·exact Nat.le_trans H4R.out (Nat.le_trans h8 HL2.out.size)
    case measure => simp [intOf]; omega
   ·have d1 : ¬ (k : Int) < (x.on : Int) := by omega
    have hke : k = x.on := by omega
    have HTK := hid (show x.ops.take k = x.ops from List.take_of_length_le (by rw [HXL.out]; omega))
    have HW1 := hid (show x1.ws.map WtV.P = (z3_ m.j m.P x.ops).2 by rw [HWS.out, HTK.out])
    have HR1 := hid (show x1.rs.map yA_ = (z3_ m.j m.P x.ops).1 by rw [HRS.out, HTK.out])
    have HFW := hid (show x1.ws.length <= 16 by
     have h1 := congrArg List.length HW1.out
     rw [List.length_map] at h1
     have h2 := (xV_ m.j m.P x.ops).2
     rw [HXL.out] at h2
     omega)
    have c2 := HTX.out.cell 2
    simp only [gtA, gtB, gtC] at c2
    have HR2 := hid (fun W wv ws hB hT hw => HR.out (.returned (.tuple #[.pointer (some ⟨px, 0, none⟩), .int .i64 0])) W ⟨S1, w4.heap.size, px, wv, x1.rv, ws, x1.rs, rfl, hB, by have := HBX4.out.lt; omega, hT, HSU.out, fun g hg => (HSD.out g hg).imp id fun h => by have := HBX4.out.lt; omega, HR1.out, (hw : ws.map WtV.P = if x.ab = true then [] else (z3_ m.j m.P x.ops).2)⟩)
    clear hke
    have hab : x.ab = true ∨ x.ab = false := by cases x.ab <;> simp
    rcases hab with hab | hab
    ·rw [hab] at c2
     have HAB := hid hab
     clear hab
     have hbx := HTL.out.box
     rw [HPX.out] at hbx
     have x4 : wr.cell? ⟨px, 2, none⟩ = some x1.wv := by rw [hbx.cell]; rfl
     have f4 := hbx.frozen 2
     clear hbx
     go_wp2_with fail
     clear x4 f4 c2
     have ht0 := HTL.out.tro0 HOK.out
     rw [HPX.out] at ht0
     have HT0 := hid ht0
     clear ht0
     go_wp2_with fail
     go_ret2
     refine HR2.out _ _ _ (HBW.out.setCell ?_ _) HT0.out ?_
     ·have h1 := HTL.out.lo
      rw [HPX.out] at h1
      have := HBX4.out.lt
      show w.heap.size <= px
      omega
     ·rw [if_pos HAB.out]; rfl
    ·rw [hab] at c2
     have HAB := hid hab
     clear hab
     go_wp2_with fail
     clear c2
     have ht0 := HTL.out.tro HOK.out HFW.out
     rw [HPX.out] at ht0
     have HT0 := hid ht0
     clear ht0
     go_wp2_with fail
     go_ret2
     refine HR2.out _ _ _ HBW.out HT0.out ?_
     rw [if_neg (by rw [HAB.out]; simp)]; exact HW1.out
end
section
open Go.Shelf
def Tryz.sortEn_ren : Go.Shelf.Ren := ⟨fun | 6 => 119 | 15 => 131 | 14 => 138 | 28 => 151 | 29 => 152 | 20 => 166 | 21 => 167 | 22 => 168 | 23 => 169 | 24 => 170 | 25 => 171 | 26 => 172 | 27 => 173 | 46 => 183 | 47 => 175 | 48 => 176 | 49 => 184 | 50 => 185 | 57 => 188 | n => n, fun | 22 => 146 | 24 => 149 | 25 => 194 | 3 => 3 | 39 => 202 | 0 => 0 | 53 => 226 | 55 => 228 | 4 => 4 | 46 => 220 | 45 => 219 | 50 => 111 | 5 => 5 | 9 => 9 | 66 => 244 | 70 => 248 | 76 => 254 | 77 => 203 | n => n, fun | n => n⟩
theorem Tryz.sortEn : Go.Proofs.SlLaysF0.n6 prog Tryz.sortEn_ren := {
 mixed := by kernel_rfl
 f6 := ⟨f119.name, by decide, func119.trans (congrArg some Xt3)⟩
 f14 := ⟨f138.name, by decide, func138.trans (congrArg some Xt3)⟩
 f15 := func131.trans (congrArg some Xt3)
 f20 := ⟨f166.name, by decide, func166.trans (congrArg some Xt3)⟩
 f21 := ⟨f167.name, by decide, func167.trans (congrArg some Xt3)⟩
 f22 := ⟨f168.name, by decide, func168.trans (congrArg some Xt3)⟩
 f23 := ⟨f169.name, by decide, func169.trans (congrArg some Xt3)⟩
 f24 := ⟨f170.name, by decide, func170.trans (congrArg some Xt3)⟩
 f25 := ⟨f171.name, by decide, func171.trans (congrArg some Xt3)⟩
 f26 := ⟨f172.name, by decide, func172.trans (congrArg some Xt3)⟩
 f27 := ⟨f173.name, by decide, func173.trans (congrArg some Xt3)⟩
 f28 := func151.trans (congrArg some Xt3)
 f29 := func152.trans (congrArg some Xt3)
 f46 := ⟨f183.name, by decide, func183.trans (congrArg some Xt3)⟩
 f47 := func175.trans (congrArg some Xt3)
 f48 := func176.trans (congrArg some Xt3)
 f49 := ⟨f184.name, by decide, func184.trans (congrArg some Xt3)⟩
 f50 := ⟨f185.name, by decide, func185.trans (congrArg some Xt3)⟩
 f57 := ⟨f188.name, by decide, func188.trans (congrArg some Xt3)⟩
 t0 := underlying0
 a0 := Tryz.isAgg0
 z0 := Tryz.sizeOf0
 v0 := Tryz.zeroValue0
 t3 := underlying3
 a3 := Tryz.isAgg3
 z3 := Tryz.sizeOf3
 v3 := Tryz.zeroValue3
 t4 := underlying4
 a4 := Tryz.isAgg4
 z4 := Tryz.sizeOf4
 v4 := Tryz.zeroValue4
 t5 := underlying5
 a5 := Tryz.isAgg5
 z5 := Tryz.sizeOf5
 v5 := Tryz.zeroValue5
 t9 := underlying9
 a9 := Tryz.isAgg9
 z9 := Tryz.sizeOf9
 v9 := Tryz.zeroValue9
 t22 := underlying146
 a22 := Tryz.isAgg146
 z22 := Tryz.sizeOf146
 v22 := Tryz.zeroValue146
 t25 := underlying194
 a25 := Tryz.isAgg194
 z25 := Tryz.sizeOf194
 v25 := Tryz.zeroValue194
 t39 := underlying202
 a39 := Tryz.isAgg202
 z39 := Tryz.sizeOf202
 v39 := Tryz.zeroValue202
 t45 := underlying219
 a45 := Tryz.isAgg219
 z45 := Tryz.sizeOf219
 v45 := Tryz.zeroValue219
 t46 := underlying220
 a46 := Tryz.isAgg220
 z46 := Tryz.sizeOf220
 v46 := Tryz.zeroValue220
 t50 := underlying111
 a50 := Tryz.isAgg111
 z50 := Tryz.sizeOf111
 v50 := Tryz.zeroValue111
 t53 := underlying226
 a53 := Tryz.isAgg226
 z53 := Tryz.sizeOf226
 v53 := Tryz.zeroValue226
 t55 := underlying228
 a55 := Tryz.isAgg228
 z55 := Tryz.sizeOf228
 v55 := Tryz.zeroValue228
 t66 := underlying244
 a66 := Tryz.isAgg244
 z66 := Tryz.sizeOf244
 v66 := Tryz.zeroValue244
 t70 := underlying248
 a70 := Tryz.isAgg248
 z70 := Tryz.sizeOf248
 v70 := Tryz.zeroValue248
 t76 := underlying254
 a76 := Tryz.isAgg254
 z76 := Tryz.sizeOf254
 v76 := Tryz.zeroValue254
 t77 := underlying203
 a77 := Tryz.isAgg203
 z77 := Tryz.sizeOf203
 v77 := Tryz.zeroValue203 }
def Tryz.sortWr_ren : Go.Shelf.Ren := ⟨fun | 6 => 98 | 15 => 131 | 14 => 130 | 28 => 151 | 29 => 152 | 20 => 143 | 21 => 144 | 22 => 145 | 23 => 146 | 24 => 147 | 25 => 148 | 26 => 149 | 27 => 150 | 46 => 174 | 47 => 175 | 48 => 176 | 49 => 177 | 50 => 178 | 57 => 186 | n => n, fun | 22 => 41 | 24 => 84 | 25 => 129 | 3 => 3 | 39 => 202 | 0 => 0 | 53 => 226 | 55 => 228 | 4 => 4 | 46 => 220 | 45 => 219 | 50 => 111 | 5 => 5 | 9 => 9 | 66 => 244 | 70 => 248 | 76 => 254 | 77 => 203 | n => n, fun | n => n⟩
theorem Tryz.sortWr : Go.Proofs.SlLaysF0.n6 prog Tryz.sortWr_ren := {
 mixed := by kernel_rfl
 f6 := ⟨f98.name, by decide, func98.trans (congrArg some Xt3)⟩
 f14 := ⟨f130.name, by decide, func130.trans (congrArg some Xt3)⟩
 f15 := func131.trans (congrArg some Xt3)
 f20 := ⟨f143.name, by decide, func143.trans (congrArg some Xt3)⟩
 f21 := ⟨f144.name, by decide, func144.trans (congrArg some Xt3)⟩
 f22 := ⟨f145.name, by decide, func145.trans (congrArg some Xt3)⟩
 f23 := ⟨f146.name, by decide, func146.trans (congrArg some Xt3)⟩
 f24 := ⟨f147.name, by decide, func147.trans (congrArg some Xt3)⟩
 f25 := ⟨f148.name, by decide, func148.trans (congrArg some Xt3)⟩
 f26 := ⟨f149.name, by decide, func149.trans (congrArg some Xt3)⟩
 f27 := ⟨f150.name, by decide, func150.trans (congrArg some Xt3)⟩
 f28 := func151.trans (congrArg some Xt3)
 f29 := func152.trans (congrArg some Xt3)
 f46 := ⟨f174.name, by decide, func174.trans (congrArg some Xt3)⟩
 f47 := func175.trans (congrArg some Xt3)
 f48 := func176.trans (congrArg some Xt3)
 f49 := ⟨f177.name, by decide, func177.trans (congrArg some Xt3)⟩
 f50 := ⟨f178.name, by decide, func178.trans (congrArg some Xt3)⟩
 f57 := ⟨f186.name, by decide, func186.trans (congrArg some Xt3)⟩
 t0 := underlying0
 a0 := Tryz.isAgg0
 z0 := Tryz.sizeOf0
 v0 := Tryz.zeroValue0
 t3 := underlying3
 a3 := Tryz.isAgg3
 z3 := Tryz.sizeOf3
 v3 := Tryz.zeroValue3
 t4 := underlying4
 a4 := Tryz.isAgg4
 z4 := Tryz.sizeOf4
 v4 := Tryz.zeroValue4
 t5 := underlying5
 a5 := Tryz.isAgg5
 z5 := Tryz.sizeOf5
 v5 := Tryz.zeroValue5
 t9 := underlying9
 a9 := Tryz.isAgg9
 z9 := Tryz.sizeOf9
 v9 := Tryz.zeroValue9
 t22 := underlying41
 a22 := Tryz.isAgg41
 z22 := Tryz.sizeOf41
 v22 := Tryz.zeroValue41
 t25 := underlying129
 a25 := Tryz.isAgg129
 z25 := Tryz.sizeOf129
 v25 := Tryz.zeroValue129
 t39 := underlying202
 a39 := Tryz.isAgg202
 z39 := Tryz.sizeOf202
 v39 := Tryz.zeroValue202
 t45 := underlying219
 a45 := Tryz.isAgg219
 z45 := Tryz.sizeOf219
 v45 := Tryz.zeroValue219
 t46 := underlying220
 a46 := Tryz.isAgg220
 z46 := Tryz.sizeOf220
 v46 := Tryz.zeroValue220
 t50 := underlying111
 a50 := Tryz.isAgg111
 z50 := Tryz.sizeOf111
 v50 := Tryz.zeroValue111
 t53 := underlying226
 a53 := Tryz.isAgg226
 z53 := Tryz.sizeOf226
 v53 := Tryz.zeroValue226
 t55 := underlying228
 a55 := Tryz.isAgg228
 z55 := Tryz.sizeOf228
 v55 := Tryz.zeroValue228
 t66 := underlying244
 a66 := Tryz.isAgg244
 z66 := Tryz.sizeOf244
 v66 := Tryz.zeroValue244
 t70 := underlying248
 a70 := Tryz.isAgg248
 z70 := Tryz.sizeOf248
 v70 := Tryz.zeroValue248
 t76 := underlying254
 a76 := Tryz.isAgg254
 z76 := Tryz.sizeOf254
 v76 := Tryz.zeroValue254
 t77 := underlying203
 a77 := Tryz.isAgg203
 z77 := Tryz.sizeOf203
 v77 := Tryz.zeroValue203 }
end
section
open Go.Maps Go.Sort Go.Shelf
theorem jG_ {α : Type} [Inhabited α] {enc : α -> List Value} {k : Nat} (hk : ∀ x, (enc x).length = k) (h0 : 0 < k) (d : List α) : (flatK enc k d.toArray).toList = cellsOf enc d := by
 apply List.ext_getElem?
 intro t
 by_cases ht : t < d.length * k
 ·have hq : t / k < d.length := by rw [Nat.div_lt_iff_lt_mul h0]; exact ht
  have hm : t % k < k := Nat.mod_lt _ h0
  have e := zY_ hk d (t / k) (t % k) d[t / k] (List.getElem?_eq_getElem hq) hm
  rw [Nat.mul_comm, Nat.div_add_mod] at e
  rw [e, Array.getElem?_toList]
  have hs : t < (flatK enc k d.toArray).size := by rw [size_flatK]; simpa using ht
  have hg := get_flatK enc k d.toArray t (by simpa using ht)
  rw [getElem!_pos _ t hs] at hg
  rw [Array.getElem?_eq_getElem hs, hg]
  have e2 : d.toArray[t / k]! = d[t / k] := by
   rw [getElem!_pos _ _ (by simpa using hq)]; simp
  rw [e2, getElem!_pos _ _ (by rw [hk]; exact hm), List.getElem?_eq_getElem (by rw [hk]; exact hm)]
 ·rw [List.getElem?_eq_none (by rw [Array.length_toList, size_flatK]; simpa using Nat.le_of_not_lt ht), List.getElem?_eq_none (by rw [zK_ hk]; exact Nat.le_of_not_lt ht)]
theorem take_putV (cur F : Array Value) (h : F.size <= cur.size) : (putCells id 0 F cur).toList.take F.size = F.toList := by
 apply List.ext_getElem?
 intro j
 by_cases hj : j < F.size
 ·rw [List.getElem?_take_of_lt hj, Array.getElem?_toList]
  simp [putCells, hj, show j < cur.size by omega]
 ·rw [List.getElem?_take_eq_none Xt0, List.getElem?_eq_none Xt7]
theorem heap_sortV {w : World} {g n : Nat} {os : Array Obj} {cur : Array Value} {e : TypeId} {fr : Nat × Nat} (F : Array Value) (hb : w.heap[g]? = some (.cells cur e fr)) :
  (grow (putRow id (Sort.ahead w n) g 0 F) os).heap[g]? = some (.cells (putCells id 0 F cur) e fr) := by
 have hg : g < w.heap.size := (Array.getElem?_eq_some_iff.1 hb).1
 rw [heap_grow_old _ _ (by simpa using hg)]
 simp [putRow, mapBlock, Sort.ahead, Array.getElem?_modify, hb, onCells]
theorem q3_ {w : World} {g n : Nat} {os : Array Obj} (F : Array Value) : w.grownBy (grow (putRow id (Sort.ahead w n) g 0 F) os) (some g) := by
 refine ⟨rfl, rfl, rfl, by simp, fun k hk hne => ?_⟩
 rw [heap_grow_old _ _ (by simpa using hk)]
 have : g ≠ k := fun e => hne (by rw [e])
 simp [putRow, mapBlock, Sort.ahead, Array.getElem?_modify, this]
theorem holdsV {w : World} {g : Nat} {cur : Array Value} {e : TypeId} (F : Array Value) (hb : w.heap[g]? = some (.cells cur e (0, 0))) (ht : cur.toList.take F.size = F.toList) : Holds id w g 0 F := by
 intro j hj
 refine ⟨?_, by simp [World.frozen?, hb]⟩
 have h1 : (cur.toList.take F.size)[j]? = F.toList[j]? := by rw [ht]
 rw [List.getElem?_take_of_lt hj] at h1
 simp only [World.cell?, hb, Nat.zero_add]
 simp only [Option.isSome_none, Bool.false_eq_true, if_false]
 rw [← Array.getElem?_toList, h1]
 simp [hj]
theorem own_sortK {α : Type} [Inhabited α] {enc : α -> List Value} {k : Nat} (hk : ∀ x, (enc x).length = k) (h0 : 0 < k) {w : World} {base g cap n m : Nat} {e : TypeId} {os : Array Obj} {cur : Array Value} {ts : List α} (hl : ts.length = m) (hbase : base <= g) (hb : w.heap[g]? = some (.cells cur e (0, 0)))
  (h1 : m <= cap) (h2 : cap <= maxLen) (h3 : cur.size = cap * k) : (sortWorldK enc k w g 0 n ts.toArray os).ownsRow base e k (.slice (some ⟨g, 0, none⟩) m cap) m (cellsOf enc ts) := by
 subst hl
 have hs : (flatK enc k ts.toArray).size = ts.length * k := by rw [size_flatK]; simp
 refine ⟨zK_ hk ts, .inr ⟨g, cap, _, rfl, hbase, heap_sortV _ hb, h1, h2, by simp [putCells, h3], ?_⟩⟩
 rw [← hs, ← jG_ hk h0]
 exact take_putV cur _ (by rw [hs, h3]; exact Nat.mul_le_mul_right k h1)
theorem Qy_ {ρ : Ren} (L : SlLaysF0.n6 prog ρ) {ty : TypeId} {k : Nat} (h0 : 0 < k) (aE : ∀ w, (isAgg (ρ.t 24)).run prog w = .ok true w) (zE : ∀ w, (Go.sizeOf (ρ.t 24)).run prog w = .ok k w) {β : Type} (enc : β -> List Value) (hk : ∀ x, (enc x).length = k) (h1 : ∀ x, ∀ v ∈ enc x, v.oneCell' = true)
  (cf : β -> β -> Int) (lt : β -> β -> Bool) (hcf : ∀ x y, decide (cf x y < 0) = lt x y) (hi : ∀ x, lt x x = false) (ht : ∀ x y z, lt x y = true -> lt y z = true -> lt x z = true) (hn : ∀ x y z, lt x y = false -> lt y z = false -> lt x z = false)
  (g : Nat) (eg : ∀ args w, (callFunc g args).run prog w = .ok (.enter g args) w) (P : World -> β -> Prop) (hcall : ∀ W x y, P W x -> P W y -> Calls prog g #[.agg (enc x).toArray, .agg (enc y).toArray] W fun e w' => e = .returned (.int .i64 (cf x y)) /\ ∃ q os', w' = grow (W.drewN q) os')
  (W : World) (base : Nat) (a : Option Addr) (n c : Nat) (E : List β) (hl : E.length = n) (hn2 : n <= 2000000) (how : W.ownsRow base ty k (.slice a n c) n (cellsOf enc E)) (hst : ∀ e ∈ E, zs_ (fun k => Value.ownBlock (.slice a n c) = some k) W (fun W' => P W' e)) :
  Calls prog (ρ.f 6) #[.slice a n c, .func (.func g) #[] #[]] W fun r W' => r = .returned (.tuple #[]) /\ ∃ E' : List β, E'.Perm E /\ (E'.Pairwise fun a b => lt b a = false) /\ W'.ownsRow base ty k (.slice a n c) n (cellsOf enc E') /\ Off (fun k => Value.ownBlock (.slice a n c) = some k) W W' := by
 subst hl
 cases E with
 | nil =>
  refine (AnyF.slices_SortFunc_none L a c (.func (.func g) #[] #[]) W).mono ?_
  rintro r w' ⟨rfl, rfl⟩
  exact ⟨rfl, [], .refl _, .nil, how, Off.refl _ _⟩
 | cons e0 E0 =>
  obtain ⟨E, hE⟩ := gty (e0 :: E0)
  rw [← hE] at how hn2 hst ⊢
  rcases how.2 with ⟨_, h⟩ | ⟨b, cap, cur, e1, hb, hg, hc, hm, hs, htk⟩
  ·rw [hE] at h; cases h
  ·injection e1 with e1 e2 e3
   subst e1 e3
   letI : Inhabited {x : β // x ∈ E} := ⟨⟨e0, by rw [hE]; exact List.mem_cons_self ..⟩⟩
   have hk' : ∀ x : {x : β // x ∈ E}, (enc x.1).length = k := fun x => hk x.1
   have hat : E.attach.length = E.length := List.length_attach
   have hcells : ∀ ts : List {x : β // x ∈ E}, cellsOf (fun x => enc x.1) ts = cellsOf enc (ts.map Subtype.val) := fun ts => by
    unfold cellsOf; rw [List.map_map]; rfl
   have hH : HoldsK (fun x : {x : β // x ∈ E} => enc x.1) k W b 0 E.attach.toArray := by
    refine holdsV _ hg ?_
    rw [jG_ hk' h0, size_flatK, hcells, List.attach_map_subtype_val]
    simpa using htk
   have hcl : CmpLays prog g #[] (fun x : {x : β // x ∈ E} => enc x.1) k (fun x y => cf x.1 y.1) b 0 E.attach.toArray.size W := fun m os dk hdk x y => by
    have ho : Off (fun k => Value.ownBlock (.slice (some ⟨b, 0, none⟩) E.length c) = some k) W (sortWorldK (fun x : {x : β // x ∈ E} => enc x.1) k W b 0 m dk os) := Off.of_row (q3_ _)
    exact hcall _ x.1 y.1 (hst x.1 x.2 _ ho) (hst y.1 y.2 _ ho)
   have hO : SWO (ltOf fun x y : {x : β // x ∈ E} => cf x.1 y.1) := by
    have e : ∀ x y : {x : β // x ∈ E}, ltOf (fun x y : {x : β // x ∈ E} => cf x.1 y.1) x y = lt x.1 y.1 := fun x y => hcf x.1 y.1
    exact ⟨fun x => by rw [e]; exact hi _, fun x y z => by rw [e, e, e]; exact ht _ _ _, fun x y z => by rw [e, e, e]; exact hn _ _ _⟩
   have hC := AnyQ.slices_SortFunc L k aE zE (fun x : {x : β // x ∈ E} => enc x.1) hk' (fun x => h1 x.1) (fun x y => cf x.1 y.1) hO g #[] b 0 c E.attach.toArray W eg hcl hH (Array.getElem?_eq_some_iff.1 hg).1 Xt7
   have hsz : E.attach.toArray.size = E.length := by simp
   rw [hsz] at hC
   refine hC.mono ?_
   rintro r w' ⟨rfl, d', m, os, hp, hsrt, rfl⟩
   have hd : d'.size = E.length := by rw [hp.1]; exact hsz
   refine ⟨rfl, d'.toList.map Subtype.val, ?_, ?_, ?_, Off.of_row (q3_ _)⟩
   ·have h3 := hp.2.2
    have x1 : d'.extract 0 E.length = d' := by rw [← hd]; exact Array.extract_size
    have x2 : E.attach.toArray.extract 0 E.length = E.attach.toArray := by rw [← hsz]; exact Array.extract_size
    rw [x1, x2] at h3
    have h4 := h3.map Subtype.val
    rwa [List.attach_map_subtype_val] at h4
   ·rw [List.pairwise_map, List.pairwise_iff_getElem]
    intro i j hi hj hij
    have hi' : i < d'.size := by simpa using hi
    have hj' : j < d'.size := by simpa using hj
    have := hsrt i j (Nat.zero_le _) hij (by rw [← hd]; exact hj')
    rw [getElem!_pos d' i hi', getElem!_pos d' j hj'] at this
    have e : ltOf (fun x y : {x : β // x ∈ E} => cf x.1 y.1) d'[j] d'[i] = lt d'[j].1 d'[i].1 := hcf _ _
    rw [e] at this
    simpa using this
   ·rw [← hcells]
    have := own_sortK (enc := fun x : {x : β // x ∈ E} => enc x.1) hk' h0 (n := m) (os := os) (ts := d'.toList) (by rw [Array.length_toList]; exact hd) hb hg hc hm hs
    simpa using this
end
end Go.Proofs.YthmofoldmdafoaaGreat
