/- Part of the proof that ModelDoes holds for every input: tables, under any transactions, answer, write and stand as the document says. Part 35. -/
import Derived.Test.YthmofoldmdafoaaGreatSdH
set_option linter.unusedVariables false
set_option linter.unusedSimpArgs false
set_option maxRecDepth 100000
set_option maxHeartbeats 4000000
namespace Go.Proofs.YthmofoldmdafoaaGreat
open Go.ChangeShapes Go.WideShapes Go.ChangeAt Go.RowKit
open Go.Lib (hid)
open Go.Proofs.Tryz
theorem yW_ {K : IntKind} {t e : TypeId} {bs : Nat} (E : Elt K t e bs) {ops : Array Oper} {o : Oper} {a : Act} {w : World} {Kt : Act -> World -> Prop} {Q : Exit -> Act -> World -> Prop} {Z : Prop} (hgd : o.guard = none) (s x : Operand)
  (ho : o.op = .call { callee := .builtin .append, args := #[s, x], argTypes := #[t, t] })
  (base : Nat) (v : Value) (n : Nat) (xs : List Value) (hs : a.eval s = v) (hown : w.ownsRow base e 1 v n xs)
  (ad : Option Addr) (c len : Nat) (L : List Int) (hlen : L.length = len) (hx : a.eval x = .slice ad len c) (hL : Ls K w ad c L) (hb : n + len <= 1048576) (hbase : base <= w.heap.size)
  (h : ∀ v' w', w'.ownsRow base e 1 v' (n + len) (xs ++ iv K L) -> w.grownBy w' v.ownBlock -> Kt (a.put o.dst v') w') :
  if Region.wanted o (yielded ops a.tmps) = true then Oper.wp prog o a w Kt Q else Z := by
 have hw : Region.wanted o (yielded ops a.tmps) = true := by simp [Region.wanted, hgd]
 rw [if_pos hw]
 obtain ⟨v', w', h1, h2, h3⟩ := xR_ E w o.type base v n xs hown ad c len L hlen hL hb hbase
 exact Xb29
structure SmO (o p : zj_) : Prop where
 k : p.k = o.k
 t : p.t = o.t
 i : p.i = o.i
 kn : p.kn = o.kn
 K : p.K = o.K
 tn : p.tn = o.tn
 T : p.T = o.T
 m : p.m = o.m
 rn : p.rn = o.rn
 R : p.R.map P1.bs = o.R.map P1.bs
theorem mayR_same {R R' : List P1} (h : R'.map P1.bs = R.map P1.bs) : yZ_ R' = yZ_ R := by
 have e : ∀ R : List P1, yZ_ R = ((R.map P1.bs).all (fun b => decide (b.length <= 24)) && decide (1 <= (R.map P1.bs).length /\ (R.map P1.bs).length <= 3)) := fun R => by
  unfold yZ_ QX_
  rw [List.all_map, List.length_map]; rfl
 rw [e, e, h]
theorem SmO.may {o p : zj_} (h : SmO o p) (j : Job) : pO j p = pO j o := by
 obtain ⟨h1, h2, h3, h4, h5, h6, h7, h8, h9, h10⟩ := h
 unfold pO idxV endB mostV
 rw [h1, h2, h3, h4, h6, h8, h9, mayR_same h10]
theorem SmO.call {o p : zj_} (h : SmO o p) (j : Job) (T : List (List Pr)) (ws : Ws) : z9_ j T ws p = z9_ j T ws o := by
 obtain ⟨h1, h2, h3, h4, h5, h6, h7, h8, h9, h10⟩ := h
 unfold z9_
 rw [h1, h2, h3, h5, h6, h7, h8, h10]
def SmL : List zj_ -> List zj_ -> Prop
 | [], [] => True
 | o :: l, p :: l' => SmO o p /\ SmL l l'
 | _, _ => False
theorem SmL.snoc {o p : zj_} (ho : SmO o p) : ∀ {l l' : List zj_}, SmL l l' -> SmL (l ++ [o]) (l' ++ [p])
 | [], [], _ => ⟨ho, trivial⟩
 | x :: l, y :: l', h => ⟨h.1, SmL.snoc ho h.2⟩
 | [], y :: l', h => h.elim
 | x :: l, [], h => h.elim
theorem SmL.all (j : Job) (sn : Bool) : ∀ {l l' : List zj_}, SmL l l' -> l'.all (opB j sn) = l.all (opB j sn)
 | [], [], _ => rfl
 | x :: l, y :: l', h => by
  rw [List.all_cons, List.all_cons, SmL.all j sn h.2]
  unfold opB
  rw [h.1.may j, h.1.k]
 | [], y :: l', h => h.elim
 | x :: l, [], h => h.elim
theorem SmL.run (j : Job) (T : List (List Pr)) : ∀ {l l' : List zj_}, SmL l l' -> ∀ st, l'.foldl (y1_ j T) st = l.foldl (y1_ j T) st
 | [], [], _, _ => rfl
 | x :: l, y :: l', h, st => by
  rw [List.foldl_cons, List.foldl_cons]
  have e : y1_ j T st y = y1_ j T st x := by unfold y1_; rw [h.1.call j T st.2]
  rw [e]; exact SmL.run j T h.2 _
 | [], y :: l', h, _ => h.elim
 | x :: l, [], h, _ => h.elim
structure SmT (x y : z0_) : Prop where
 ops : SmL x.ops y.ops
 on : y.on = x.on
 sn : y.sn = x.sn
 ab : y.ab = x.ab
theorem SmT.may {x y : z0_} (h : SmT x y) (j : Job) : yM_ j y = yM_ j x := by
 unfold yM_
 rw [h.on, h.sn, h.ab, h.ops.all j x.sn]
theorem SmT.ans {x y : z0_} (h : SmT x y) (j : Job) (T : List (List Pr)) : QV_ j T y = QV_ j T x := by
 unfold QV_ z1_
 rw [h.ops.run j T]
theorem SmT.wrt {x y : z0_} (h : SmT x y) (j : Job) (T : List (List Pr)) : jG_ j T y = jG_ j T x := by
 unfold jG_ z1_
 rw [h.ops.run j T, h.ab]
structure OpO (base : Nat) (W : World) (o : zj_) : Prop where
 k : W.ownsRow base 5 1 (.slice o.ka o.kn o.kc) o.kn (iv .u8 o.K)
 kl : o.K.length = o.kn
 kb : Byt o.K
 t : W.ownsRow base 5 1 (.slice o.ta o.tn o.tc) o.tn (iv .u8 o.T)
 tl : o.T.length = o.tn
 tb : Byt o.T
 r : W.ownsRow base 42 1 (.slice o.ra o.rn o.rc) o.rn (o.R.map P1.v)
 rf : ∀ p ∈ o.R, W.ownsRow base 5 1 p.v p.bs.length (iv .u8 p.bs)
 rl : o.R.length = o.rn
 rb : ∀ p ∈ o.R, Byt p.bs
theorem OpO.at' {base : Nat} {W : World} {o : zj_} (h : OpO base W o) : zy_ W o := ⟨yp_ h.k h.kl, h.kl, h.kb, yp_ h.t h.tl, h.tl, h.tb, qx_ h.r h.rl h.rf, h.rl, h.rb⟩
theorem OpO.off {S : Nat -> Prop} {base : Nat} {W W' : World} {o : zj_} (h : OpO base W o) (f : Off S W W') (hs : ∀ g, S g -> (∃ cu, zg_ W g cu 5) ∨ (∃ cu, zg_ W g cu 42) -> False) : OpO base W' o := by
 have k5 : ∀ {v : Value} {n : Nat} {xs : List Value}, W.ownsRow base 5 1 v n xs -> W'.ownsRow base 5 1 v n xs := fun hv => zm_ hv f fun g hg hh => by
  obtain ⟨_, _, cu, hc⟩ := zb_ hv hg
  exact hs g hh (.inl ⟨cu, hc⟩)
 refine ⟨k5 h.k, h.kl, h.kb, k5 h.t, h.tl, h.tb, zm_ h.r f (fun g hg hh => ?_), fun p hp => k5 (h.rf p hp), h.rl, h.rb⟩
 obtain ⟨_, _, cu, hc⟩ := zb_ h.r hg
 exact hs g hh (.inr ⟨cu, hc⟩)
def CtR (w : World) (x : z0_) (r : Ending) (w' : World) : Prop := ∃ y : z0_, r = .returned (.agg #[.slice y.oa y.on y.oc, .bool y.sn, .bool y.ab]) /\ Below w.heap.size w w' /\ SmT x y /\ w'.ownsRow w.heap.size 74 7 (.slice y.oa y.on y.oc) y.on (cellsOf ocl y.ops) /\ y.ops.length = y.on /\ ∀ o ∈ y.ops, OpO w.heap.size w' o
theorem qZ_ (x : z0_) (w : World) (hx : zR_ w x) (hon : x.on <= 9000) (hb : ∀ o ∈ x.ops, o.kn <= 9000 /\ o.tn <= 9000 /\ o.rn <= 9000 /\ ∀ p ∈ o.R, p.bs.length <= 9000) :
  Calls prog 39 #[.agg #[.slice x.oa x.on x.oc, .bool x.sn, .bool x.ab]] w (CtR w x) := by
 have HXT := hid hx
 have HBB := hid hb
 have HXL := hid hx.ol
 obtain ⟨w1, hw1⟩ := gty ((w.alloc (.cells #[.slice x.oa x.on x.oc, .bool x.sn, .bool x.ab] 38)).alloc (.cells #[.slice none 0 0, .bool false, .bool false] 38))
 obtain ⟨hb1, hbx1⟩ := yl_ w #[.slice x.oa x.on x.oc, .bool x.sn, .bool x.ab] #[.slice none 0 0, .bool false, .bool false] 38 38
 rw [← hw1] at hb1 hbx1
 obtain ⟨w3, hw3⟩ := gty (w1.alloc (.cells #[.slice none 0 0, .bool x.sn, .bool x.ab] 38))
 have hb3 : Below w1.heap.size w1 w3 := by rw [hw3]; exact bl1 _ _
 have hbx3 : zg_ w3 w1.heap.size #[.slice none 0 0, .bool x.sn, .bool x.ab] 38 := by rw [hw3]; exact zg_.new _ _ _
 have HB1 := hid hb1
 have HX1 := hid (hbx1 w3 hb3)
 have HX3 := hid hbx3
 have HB3 := hid (hb1.trans (hb3.mono hb1.size))
 have HS1 := hid (show w.heap.size + 1 < w1.heap.size from (hbx1 w1 (Below.refl _ _)).2.lt)
 obtain ⟨q0, _⟩ := hbx1 w1 (Below.refl _ _)
 have q1 := q0.cell 1
 have q2 := q0.cell 2
 have q0 := q0.cell 0
 simp only [gtA, gtB, gtC] at q0 q1 q2
 clear hx hb hb1 hbx1 hb3 hbx3
 go_enter func39, ntmps39
 go_upto_region 1 with (fail)
 rw [← hw1]
 clear hw1
 go_upto_region 2 with (fail)
 rw [← hw3]
 clear hw3 q0 q1 q2
 go_wp2_with fail
 go_loopw [4] (fun i wr => ∃ (k : Nat) (V : List zj_) (v : Value), k <= x.on /\ i = .int .i64 (k : Int) /\ Hid (V.length = k) /\ Hid (SmL (x.ops.take k) V) /\ Hid (wr.ownsRow w.heap.size 74 7 v k (cellsOf ocl V)) /\ Hid (∀ o ∈ V, OpO w.heap.size wr o) /\ Hid (zg_ wr w1.heap.size #[v, .bool x.sn, .bool x.ab] 38) /\ Hid (zg_ wr w.heap.size #[.slice x.oa x.on x.oc, .bool x.sn, .bool x.ab] 38 /\ zg_ wr (w.heap.size + 1) #[.slice none 0 0, .bool false, .bool false] 38) /\ Hid (Below w.heap.size w wr) /\ Hid (∀ g, v.ownBlock = some g -> w1.heap.size < g)) (fun i _ => x.on - (intOf i).toNat)
 case atStart => exact ⟨0, [], .slice none 0 0, by omega, rfl, hid rfl, hid trivial, hid (World.ownsRow_nil _ _ _ _), hid (fun o ho => by cases ho), HX3, HX1, HB3, hid Xt54⟩
 case round =>
  obtain ⟨k, V, v, hk, rfl, HVL, HSM, HOV, HVO, HXV, HX2, HBW, HVG⟩ := hrel
  have x0 := HX2.out.1.cell 0
  simp only [gtA, gtB, gtC] at x0
  by_cases hlt : k < x.on
  ·have d1 : (k : Int) < (x.on : Int) := by omega
   obtain ⟨o, ho⟩ : ∃ o, x.ops[k]? = some o := ⟨_, List.getElem?_eq_getElem Xt75⟩
   obtain ⟨b1, o1, ea, ⟨p0, p1, p2, p3, p4, p5, p6⟩, hca⟩ := (HXT.out.below HBW.out).os k o ho
   have HOC := hid hca
   have hob := HBB.out o (List.mem_of_getElem? ho)
   have HOB := hid hob
   have hkn : o.kn <= 9000 := hob.1
   have htn : o.tn <= 9000 := hob.2.1
   have HOK := hid ho
   have HEA := hid ea
   obtain ⟨w5, hw5⟩ := gty (wr.alloc (.cells #[.int .i64 o.k, .int .i64 o.t, .int .i64 o.i, .slice o.ka o.kn o.kc, .slice o.ta o.tn o.tc, .int .i64 o.m, .slice o.ra o.rn o.rc] 74))
   have HB5 := hid (by rw [hw5]; exact bl1 _ _ : Below wr.heap.size wr w5)
   have HX5 := hid (by rw [hw5]; exact zg_.new _ _ _ : zg_ w5 wr.heap.size #[.int .i64 o.k, .int .i64 o.t, .int .i64 o.i, .slice o.ka o.kn o.kc, .slice o.ta o.tn o.tc, .int .i64 o.m, .slice o.ra o.rn o.rc] 74)
   rw [ea] at x0
   clear ho ea hca hob
   go_upto_region 6 with (fail)
   rw [← hw5]
   clear hw5 p0 p1 p2 p3 p4 p5 p6 x0
   refine zr_ (z := 10) (S := (fun X => Below w5.heap.size w5 X)) Xt3 ((Below.refl w5.heap.size w5).drew) fun hH => ?_
   refine tlk 0 rfl Xt2 ?_
   refine tlk 1 rfl (fun W hSw => by have m := (HX5.out.below hSw).cell 3; simp only [gtA, gtB, gtC] at m; exact tks) ?_
   refine tlk 3 rfl Xt2 ?_
   refine tlk 4 rfl (fun W hSw => by have m := (HX5.out.below hSw).cell 4; simp only [gtA, gtB, gtC] at m; exact tks) ?_
   refine tlk 6 rfl Xt2 ?_
   refine tlk 7 rfl (fun W hSw => by have m := (HX5.out.below hSw).cell 6; simp only [gtA, gtB, gtC] at m; exact tks) ?_
   refine tl1 2 rfl fun K hK => ?_
   refine yW_ j5_ rfl _ _ rfl wr.heap.size (.slice none 0 0) 0 [] rfl (World.ownsRow_nil _ _ _ _) o.ka o.kc o.kn o.K HOC.out.kl rfl (((HOC.out.below HB5.out).below hH).ks) Xt0 (Nat.le_trans HB5.out.size hH.size) ?_
   intro v2 w6 hown2 hgrow2
   rw [Nat.zero_add, List.nil_append] at hown2
   obtain ⟨a2, c2, hv2⟩ := zd_ hown2
   subst hv2
   have hb6 := hH.grown hgrow2 hH.size Xt22
   have HO2 := hid hown2
   have HB6 := hid hb6
   clear hown2 hgrow2
   refine hK.out _ _ hb6 (fun hHeldn => ?_)
   clear hb6
   clear hK K hH; have hH := hHeldn; clear hHeldn
   refine stP ?_
   refine tlk 9 rfl Xt2 ?_
   refine tl1 5 rfl fun K hK => ?_
   refine yW_ j5_ rfl _ _ rfl wr.heap.size (.slice none 0 0) 0 [] rfl (World.ownsRow_nil _ _ _ _) o.ta o.tc o.tn o.T HOC.out.tl rfl (((HOC.out.below HB5.out).below hH).ts) Xt0 (Nat.le_trans HB5.out.size hH.size) ?_
   intro v5 w7 hown5 hgrow5
   rw [Nat.zero_add, List.nil_append] at hown5
   obtain ⟨a5, c5, hv5⟩ := zd_ hown5
   subst hv5
   have hb67 := (Below.refl w6.heap.size w6).grown hgrow5 (Nat.le_refl _) Xt22
   have HO25 := hid (ze_ HO2.out hb67)
   have HO5 := hid hown5
   have hb7 := za_ HB6.out hb67
   have HB7 := hid hb7
   clear hown5 hgrow5 hb67
   refine hK.out _ _ hb7 (fun hHeldn => ?_)
   clear hb7
   clear hK K hH; have hH := hHeldn; clear hHeldn
   refine stP ?_
   refine tl1 8 rfl fun K hK => ?_
   go_simp
   refine (xA_ o.ra o.R o.rn o.rc HOC.out.rl HOB.out.2.2.1 HOB.out.2.2.2 w7 (((HOC.out.below HB5.out).below HB7.out).rs)).mono ?_; rintro r w8 ⟨⟨v8, rfl, hcp⟩, hb8⟩
   obtain ⟨R8, hm8, ho8, hof8⟩ := hcp.ex
   rw [List.take_of_length_le (by rw [HOC.out.rl]; exact Nat.le_refl _)] at hm8
   obtain ⟨a8, c8, hv8⟩ := zd_ ho8
   subst hv8
   have HO8 := hid (And.intro hm8 (And.intro ho8 hof8))
   have HO28 := hid (ze_ HO25.out hb8)
   have HO58 := hid (ze_ HO5.out hb8)
   have HB8 := hid (za_ HB7.out hb8)
   clear hcp hm8 ho8 hof8 hb8
   go_wp2_with fail
   refine hK.out _ _ HB8.out (fun hHeldn => ?_)
   have HX8 := hid (HX5.out.below HB8.out)
   clear hK K hH; have hH := hHeldn; clear hHeldn
   refine stP ?_
   refine tlz rfl fun K hK => ?_
   have x10 := HX8.out.cell 3
   have f10 := HX8.out.frozen 3
   simp only [gtA, gtB, gtC] at x10
   go_simp
   obtain ⟨w20, hw20⟩ := gty (w8.setCell ⟨wr.heap.size, 3, none⟩ (.slice a2 o.kn c2))
   rw [← hw20]
   have HX20 := hid (by rw [hw20]; exact heap_setCell_same _ wr.heap.size 3 _ 74 _ HX8.out : zg_ w20 wr.heap.size #[.int .i64 o.k, .int .i64 o.t, .int .i64 o.i, .slice a2 o.kn c2, .slice o.ta o.tn o.tc, .int .i64 o.m, .slice o.ra o.rn o.rc] 74)
   have HF10 := hid (by rw [hw20]; exact Off.set (S := fun g => g = wr.heap.size) (Off.refl _ _) ⟨wr.heap.size, 3, none⟩ rfl _ : Off (fun g => g = wr.heap.size) w8 w20)
   clear hw20 x10 f10
   refine hK.out _ _ ?_
   clear hK K
   refine stP ?_
   refine y3_ (i := 11) (oi := { dst := some 33, op := Op.fieldAddr 74 (Operand.tmp 5) 4, type := 0, pos := "law.go:90", after := #[{ on := 0, ground := Ground.phase }, { on := 1, ground := Ground.phase }, { on := 2, ground := Ground.phase }, { on := 3, ground := Ground.phase }, { on := 4, ground := Ground.phase }, { on := 5, ground := Ground.phase }, { on := 6, ground := Ground.phase }, { on := 7, ground := Ground.phase }, { on := 8, ground := Ground.textOnly Departure.lateStoresUnsure }, { on := 9, ground := Ground.phase }, { on := 10, ground := Ground.phase }], guard := none }) (v := ?_) Xt3 Xt3 rfl rfl Xt3 Xt3 Xt3 (fun _ _ _ h => h) (Or.inl ⟨by rfl, ?_⟩) ?_
   rotate_left
   ·intro W _; go_simp; try with_reducible rfl
   refine stP ?_
   refine yi_ (rs := [12]) Xt3 Xt5 ?_
   refine AllL.later (o := { dst := none, op := Op.store 42 (Operand.tmp 33) (Operand.tmp 28), type := 0, pos := "law.go:90", after := #[{ on := 11, ground := Ground.data }, { on := 5, ground := Ground.data }, { on := 10, ground := Ground.chain }, { on := 0, ground := Ground.phase }, { on := 1, ground := Ground.phase }, { on := 2, ground := Ground.phase }, { on := 3, ground := Ground.phase }, { on := 4, ground := Ground.phase }, { on := 5, ground := Ground.phase }, { on := 6, ground := Ground.phase }, { on := 7, ground := Ground.phase }, { on := 8, ground := Ground.textOnly Departure.lateStoresUnsure }, { on := 9, ground := Ground.phase }, { on := 10, ground := Ground.phase }], guard := none }) Xt3 rfl fun K hK => ?_
   have x12 := HX20.out.cell 4
   have f12 := HX20.out.frozen 4
   simp only [gtA, gtB, gtC] at x12
   go_simp
   obtain ⟨w22, hw22⟩ := gty (w20.setCell ⟨wr.heap.size, 4, none⟩ (.slice a5 o.tn c5))
   rw [← hw22]
   have HX22 := hid (by rw [hw22]; exact heap_setCell_same _ wr.heap.size 4 _ 74 _ HX20.out : zg_ w22 wr.heap.size #[.int .i64 o.k, .int .i64 o.t, .int .i64 o.i, .slice a2 o.kn c2, .slice a5 o.tn c5, .int .i64 o.m, .slice o.ra o.rn o.rc] 74)
   have HF12 := hid (by rw [hw22]; exact Off.set (S := fun g => g = wr.heap.size) (Off.refl _ _) ⟨wr.heap.size, 4, none⟩ rfl _ : Off (fun g => g = wr.heap.size) w20 w22)
   clear hw22 x12 f12
   refine hK.out _ _ ?_
   clear hK K
   refine stP ?_
   refine y3_ (i := 13) (oi := { dst := some 34, op := Op.fieldAddr 74 (Operand.tmp 5) 6, type := 0, pos := "law.go:90", after := #[{ on := 0, ground := Ground.phase }, { on := 1, ground := Ground.phase }, { on := 2, ground := Ground.phase }, { on := 3, ground := Ground.phase }, { on := 4, ground := Ground.phase }, { on := 5, ground := Ground.phase }, { on := 6, ground := Ground.phase }, { on := 7, ground := Ground.phase }, { on := 8, ground := Ground.phase }, { on := 9, ground := Ground.phase }, { on := 10, ground := Ground.phase }, { on := 11, ground := Ground.phase }, { on := 12, ground := Ground.phase }], guard := none }) (v := ?_) Xt3 Xt3 rfl rfl Xt3 Xt3 Xt3 (fun _ _ _ h => h) (Or.inl ⟨by rfl, ?_⟩) ?_
   rotate_left
   ·intro W _; go_simp; try with_reducible rfl
   refine stP ?_
   refine yi_ (rs := [14]) Xt3 Xt5 ?_
   refine AllL.later (o := { dst := none, op := Op.store 50 (Operand.tmp 34) (Operand.tmp 31), type := 0, pos := "law.go:90", after := #[{ on := 13, ground := Ground.data }, { on := 8, ground := Ground.data }, { on := 12, ground := Ground.chain }, { on := 0, ground := Ground.phase }, { on := 1, ground := Ground.phase }, { on := 2, ground := Ground.phase }, { on := 3, ground := Ground.phase }, { on := 4, ground := Ground.phase }, { on := 5, ground := Ground.phase }, { on := 6, ground := Ground.phase }, { on := 7, ground := Ground.phase }, { on := 8, ground := Ground.phase }, { on := 9, ground := Ground.phase }, { on := 10, ground := Ground.phase }, { on := 11, ground := Ground.phase }, { on := 12, ground := Ground.phase }], guard := none }) Xt3 rfl fun K hK => ?_
   have x14 := HX22.out.cell 6
   have f14 := HX22.out.frozen 6
   simp only [gtA, gtB, gtC] at x14
   go_simp
   obtain ⟨w24, hw24⟩ := gty (w22.setCell ⟨wr.heap.size, 6, none⟩ (.slice a8 o.rn c8))
   rw [← hw24]
   have HX24 := hid (by rw [hw24]; exact heap_setCell_same _ wr.heap.size 6 _ 74 _ HX22.out : zg_ w24 wr.heap.size #[.int .i64 o.k, .int .i64 o.t, .int .i64 o.i, .slice a2 o.kn c2, .slice a5 o.tn c5, .int .i64 o.m, .slice a8 o.rn c8] 74)
   have HF14 := hid (by rw [hw24]; exact Off.set (S := fun g => g = wr.heap.size) (Off.refl _ _) ⟨wr.heap.size, 6, none⟩ rfl _ : Off (fun g => g = wr.heap.size) w22 w24)
   clear hw24 x14 f14
   refine hK.out _ _ ?_
   clear hK K
   refine stP ?_
   refine zz_ Xt3 ?_ _
   skip
   have HB58 := hid (HB5.out.trans (HB8.out.mono HB5.out.size))
   have HF824 := hid ((HF10.out.trans HF12.out).trans HF14.out)
   have HBZ := hid (Off.below HB58.out HF824.out HB58.out.size (fun g hg => by rw [hg]; exact Nat.le_refl _))
   have HO824 := hid (show OpO w.heap.size w24 ⟨o.k, o.t, o.i, a2, o.kn, c2, o.K, a5, o.tn, c5, o.T, o.m, a8, o.rn, c8, R8⟩ from by
    have h1 : OpO w.heap.size w8 ⟨o.k, o.t, o.i, a2, o.kn, c2, o.K, a5, o.tn, c5, o.T, o.m, a8, o.rn, c8, R8⟩ := by
     have hs := HBW.out.size
     have hs7 : w.heap.size <= w7.heap.size := Nat.le_trans hs (Nat.le_trans HB5.out.size HB7.out.size)
     refine ⟨yD_ HO28.out hs, HOC.out.kl, HOC.out.kb, yD_ HO58.out hs, HOC.out.tl, HOC.out.tb, yD_ HO8.out.2.1 hs7, fun p hp => yD_ (HO8.out.2.2 p hp) hs7, ?_, fun p hp => ?_⟩
     ·have := congrArg List.length HO8.out.1
      rw [List.length_map, List.length_map] at this
      show R8.length = o.rn
      rw [this, HOC.out.rl]
     ·have h2 : p.bs ∈ R8.map P1.bs := List.mem_map.2 ⟨p, hp, rfl⟩
      rw [HO8.out.1] at h2
      obtain ⟨p2, hp2, e⟩ := List.mem_map.1 h2
      rw [← e]; exact HOC.out.rb p2 hp2
    exact h1.off HF824.out (fun g hg h => by
     have hg : g = wr.heap.size := hg
     rcases h with ⟨cu, hc⟩ | ⟨cu, hc⟩
     ·exact zo_ hc HX8.out Xt4 hg
     ·exact zo_ hc HX8.out Xt4 hg))
   obtain ⟨p, hp⟩ : ∃ p : zj_, p = ⟨o.k, o.t, o.i, a2, o.kn, c2, o.K, a5, o.tn, c5, o.T, o.m, a8, o.rn, c8, R8⟩ := ⟨_, rfl⟩
   rw [← hp] at HO824
   have HP := hid hp
   have HSP := hid (show SmO o p by rw [hp]; exact ⟨rfl, rfl, rfl, rfl, rfl, rfl, rfl, rfl, rfl, HO8.out.1⟩)
   have hov := ze_ HOV.out HBZ.out
   have HXV2 := hid (HXV.out.below HBZ.out)
   have HOa := hid (ze_ hov (bl1 w24 (.cells #[.int .i64 o.k, .int .i64 o.t, .int .i64 o.i, .slice a2 o.kn c2, .slice a5 o.tn c5, .int .i64 o.m, .slice a8 o.rn c8] 74)))
   have HSa := hid (show w.heap.size <= (w24.alloc (.cells #[.int .i64 o.k, .int .i64 o.t, .int .i64 o.i, .slice a2 o.kn c2, .slice a5 o.tn c5, .int .i64 o.m, .slice a8 o.rn c8] 74)).heap.size from Nat.le_trans HBW.out.size (Nat.le_trans HBZ.out.size (bl1 w24 _).size))
   have v0 := HXV2.out.cell 0
   have y0 := HX24.out.cell 0
   have y1 := HX24.out.cell 1
   have y2 := HX24.out.cell 2
   have y3 := HX24.out.cell 3
   have y4 := HX24.out.cell 4
   have y5 := HX24.out.cell 5
   have y6 := HX24.out.cell 6
   simp only [gtA, gtB, gtC] at v0 y0 y1 y2 y3 y4 y5 y6
   have hk9 : k + 1 <= 9000 := by omega
   clear hov hH hkn htn hp
   go_wp2_with (at_builtin; refine zv_ ae_op rfl (.tmp 36) (.tmp 38) rfl w.heap.size v k (cellsOf ocl V) rfl HOa.out ⟨w24.heap.size, 0, none⟩ 1 1 [.int .i64 o.k, .int .i64 o.t, .int .i64 o.i, .slice a2 o.kn c2, .slice a5 o.tn c5, .int .i64 o.m, .slice a8 o.rn c8] rfl rfl (zx_ w24 _ _ _ rfl) (fun u hu => by simp at hu; rcases hu with rfl | rfl | rfl | rfl | rfl | rfl | rfl <;> rfl) Xt0 HSa.out ?_; intro v9 w9 hown9 hgrow9 hat9; obtain ⟨a9, c9, hv9⟩ := zd_ hown9; subst hv9; have HO9 := hid hown9; have HG9 := hid (Off.of_row hgrow9); have HAT := hid hat9; have hb9 := HG9.out.box (HXV2.out.below (bl1 w24 (.cells #[.int .i64 o.k, .int .i64 o.t, .int .i64 o.i, .slice a2 o.kn c2, .slice a5 o.tn c5, .int .i64 o.m, .slice a8 o.rn c8] 74))) (fun e => by have := HVG.out _ e; omega); have HXV9 := hid hb9; have z0 := hb9.cell 0; have zf := hb9.frozen 0; simp only [gtA, gtB, gtC] at z0; clear hown9 hgrow9 hat9 hb9)
   go_roundw
   case rel =>
    obtain ⟨wf, hwf⟩ := gty (w9.setCell ⟨w1.heap.size, 0, none⟩ (.slice a9 (k + 1) c9))
    rw [← hwf]
    have hxf : zg_ wf w1.heap.size #[.slice a9 (k + 1) c9, .bool x.sn, .bool x.ab] 38 := by rw [hwf]; exact heap_setCell_same w9 w1.heap.size 0 _ 38 _ HXV9.out
    have hof : Off (fun g => g = w1.heap.size) w9 wf := by rw [hwf]; exact Off.set (S := fun g => g = w1.heap.size) (Off.refl _ w9) ⟨w1.heap.size, 0, none⟩ rfl _
    have ho24 : Off (fun g => g = w1.heap.size ∨ v.ownBlock = some g) w24 wf := (Off.of (bl1 w24 (.cells #[.int .i64 o.k, .int .i64 o.t, .int .i64 o.i, .slice a2 o.kn c2, .slice a5 o.tn c5, .int .i64 o.m, .slice a8 o.rn c8] 74))).trans ((HG9.out.mono fun g hg => .inr hg).trans (hof.mono fun g hg => .inl hg))
    have hor : Off (fun g => g = w1.heap.size ∨ v.ownBlock = some g) wr wf := (Off.of HBZ.out).trans ho24
    have hvlt : ∀ g, v.ownBlock = some g -> w.heap.size <= g := fun g hg => (zb_ HOV.out hg).1
    have hkinds : ∀ {W : World}, Below wr.heap.size wr W -> ∀ g, (g = w1.heap.size ∨ v.ownBlock = some g) -> (∃ cu, zg_ W g cu 5) ∨ (∃ cu, zg_ W g cu 42) -> False := fun b g hg h => by
     have h38 := HXV.out.below b
     rcases hg with hg | hg
     ·subst hg
      rcases h with ⟨cu, hc⟩ | ⟨cu, hc⟩
      ·exact zo_ hc h38 Xt4 rfl
      ·exact zo_ hc h38 Xt4 rfl
     ·obtain ⟨_, _, cu', hc'⟩ := zb_ (ze_ HOV.out b) hg
      rcases h with ⟨cu, hc⟩ | ⟨cu, hc⟩
      ·exact zo_ hc hc' Xt4 rfl
      ·exact zo_ hc hc' Xt4 rfl
    have hnb : ∀ B, B <= w.heap.size + 1 -> ¬ (B = w1.heap.size ∨ v.ownBlock = some B) := fun B hB e => by
     have h1 := HS1.out
     rcases e with e | e
     ·omega
     ·have := HVG.out B e; omega
    refine ⟨k + 1, V ++ [p], .slice a9 (k + 1) c9, by omega, by go_num, hid (by rw [List.length_append, HVL.out]; rfl), hid ?_, hid ?_, hid (fun z hz => ?_), hid hxf, hid ⟨hor.box HX2.out.1 (hnb _ Xt0), hor.box HX2.out.2 (hnb _ Xt0)⟩, hid (Off.below HBW.out hor HBW.out.size (fun g hg => ?_)), hid (fun g hg => ?_)⟩
    ·rw [List.take_add_one, HOK.out]
     exact HSM.out.snoc HSP.out
    ·have h1 := zm_ HO9.out hof (fun g hg e => by
      obtain ⟨_, _, cu, hc⟩ := zb_ HO9.out hg
      exact zo_ hc HXV9.out Xt4 e)
     rw [zq_]
     have e : cellsOf ocl [p] = [.int .i64 o.k, .int .i64 o.t, .int .i64 o.i, .slice a2 o.kn c2, .slice a5 o.tn c5, .int .i64 o.m, .slice a8 o.rn c8] := by rw [HP.out]; rfl
     rw [e]; exact h1
    ·rcases List.mem_append.1 hz with hz | hz
     ·exact (HVO.out z hz).off hor (hkinds (Below.refl _ _))
     ·rw [List.mem_singleton] at hz; subst hz
      exact HO824.off ho24 (hkinds HBZ.out)
    ·rcases hg with hg | hg
     ·rw [hg]; exact HB1.out.size
     ·exact hvlt g hg
    ·rcases HAT.out with e | e
     ·exact HVG.out g (e ▸ hg)
     ·rw [e] at hg; cases hg
      have h1 := HXV2.out.lt
      have h2 := (bl1 w24 (.cells #[.int .i64 o.k, .int .i64 o.t, .int .i64 o.i, .slice a2 o.kn c2, .slice a5 o.tn c5, .int .i64 o.m, .slice a8 o.rn c8] 74)).size
      omega
   case measure => simp [intOf]; omega
  ·have d1 : ¬ (k : Int) < (x.on : Int) := by omega
   have hke : k = x.on := by omega
   have HTK := hid (show x.ops.take k = x.ops from List.take_of_length_le (by rw [HXL.out]; omega))
   have HKE := hid hke
   obtain ⟨va, vc, hv⟩ := zd_ HOV.out
   subst hv
   have v0 := HXV.out.cell 0
   have v1 := HXV.out.cell 1
   have v2 := HXV.out.cell 2
   have z0 := HX2.out.2.cell 0
   have z1 := HX2.out.2.cell 1
   have z2 := HX2.out.2.cell 2
   have f0 := HX2.out.2.frozen 0
   have f1 := HX2.out.2.frozen 1
   have f2 := HX2.out.2.frozen 2
   simp only [gtA, gtB, gtC] at v0 v1 v2 z0 z1 z2
   clear hke
   go_wp2_with fail
   clear v0 v1 v2 z0 z1 z2 f0 f1 f2
   have hb4 : zg_ (((wr.setCell ⟨w.heap.size + 1, 0, none⟩ (.slice va k vc)).setCell ⟨w.heap.size + 1, 1, none⟩ (.bool x.sn)).setCell ⟨w.heap.size + 1, 2, none⟩ (.bool x.ab)) (w.heap.size + 1) #[.slice va k vc, .bool x.sn, .bool x.ab] 38 := heap_setCell_same _ _ 2 _ 38 _ (heap_setCell_same _ _ 1 _ 38 _ (heap_setCell_same _ _ 0 _ 38 _ HX2.out.2))
   have ho4 : Off (fun g => g = w.heap.size + 1) wr (((wr.setCell ⟨w.heap.size + 1, 0, none⟩ (.slice va k vc)).setCell ⟨w.heap.size + 1, 1, none⟩ (.bool x.sn)).setCell ⟨w.heap.size + 1, 2, none⟩ (.bool x.ab)) :=
    Off.set (S := fun g => g = w.heap.size + 1) (Off.set (S := fun g => g = w.heap.size + 1) (Off.set (S := fun g => g = w.heap.size + 1) (Off.refl _ wr) ⟨w.heap.size + 1, 0, none⟩ rfl _) ⟨w.heap.size + 1, 1, none⟩ rfl _) ⟨w.heap.size + 1, 2, none⟩ rfl _
   revert hb4 ho4
   generalize (((wr.setCell ⟨w.heap.size + 1, 0, none⟩ (.slice va k vc)).setCell ⟨w.heap.size + 1, 1, none⟩ (.bool x.sn)).setCell ⟨w.heap.size + 1, 2, none⟩ (.bool x.ab)) = w4
   intro hb4 ho4
   have q0 := hb4.cell 0
   have q1 := hb4.cell 1
   have q2 := hb4.cell 2
   have HO4 := hid ho4
   clear hb4 ho4
   first | refine bodyPost_end (v := .agg #[.slice va k vc, .bool x.sn, .bool x.ab]) (by simp [results, results39, go_sem, q0, q1, q2]) rfl ?_ | refine bodyPost_ret (v := .agg #[.slice va k vc, .bool x.sn, .bool x.ab]) (by simp [results, results39, go_sem, q0, q1, q2]) rfl ?_
   have hsm := HSM.out
   rw [HTK.out] at hsm
   have hkind : ∀ g, g = w.heap.size + 1 -> (∃ cu, zg_ wr g cu 5) ∨ (∃ cu, zg_ wr g cu 42) -> False := fun g hg h => by
    subst hg
    rcases h with ⟨cu, hc⟩ | ⟨cu, hc⟩
    ·exact zo_ hc HX2.out.2 Xt4 rfl
    ·exact zo_ hc HX2.out.2 Xt4 rfl
   refine ⟨⟨va, k, vc, V, x.sn, x.ab⟩, rfl, Off.below HBW.out HO4.out HBW.out.size (fun g hg => by rw [hg]; omega), ⟨hsm, HKE.out, rfl, rfl⟩, zm_ HOV.out HO4.out (fun g hg e => ?_), HVL.out, fun z hz => (HVO.out z hz).off HO4.out hkind⟩
   obtain ⟨_, _, cu, hc⟩ := zb_ HOV.out hg
   exact zo_ hc HX2.out.2 Xt4 e
theorem QU_ {R : Nat -> Prop} {W : World} {b i : Nat} {v : Value} (h : ∀ W', Off R W W' -> W'.cell? ⟨b, i, none⟩ = some v) (hv : v ≠ .bool true) : ¬ R b := fun hR => by
 have h1 := h W (Off.refl _ _)
 have h2 := h (W.setCell ⟨b, i, none⟩ (.bool true)) (Off.set (S := R) (Off.refl _ _) ⟨b, i, none⟩ hR _)
 rw [World.cell?_setCell_same _ _ _ h1] at h2
 cases h2
 exact hv rfl
theorem wr_lt {W : World} {t : TypeId} {a : Option Addr} {n b off : Nat} (h : WrB W t a n) (e : a = some ⟨b, off, none⟩) (hn : 0 < n) : b < W.heap.size := by
 obtain ⟨cs, lo, hi, hc, _⟩ := h b off e hn
 exact (Array.getElem?_eq_some_iff.1 hc).1
theorem jo_ {n : Nat} {W : World} {a : Option Addr} {rs : List xu_} (h : zs_ (fun k => k < n) W (fun W' => ResW W' a rs)) : ∀ y ∈ rs, ∀ p ∈ y.P, InB (fun b => n <= b /\ b < W.heap.size) p.ka p.K.length /\ InB (fun b => n <= b /\ b < W.heap.size) p.ra p.R.length := fun y hy p hp => by
 obtain ⟨k, hk⟩ := List.mem_iff_getElem?.1 hy
 obtain ⟨d, hd⟩ := List.mem_iff_getElem?.1 hp
 have hp0 := hp
 have hp : ∀ W', Off (fun k => k < n) W W' -> Ls .u8 W' p.ka p.kc p.K /\ RdR W' p.ra p.R := fun W' o => by
  obtain ⟨_, _, _, _, _, hpr⟩ := (h W' o).1 k y hk
  obtain ⟨_, _, _, _, _, h1, h2⟩ := hpr d p hd
  exact ⟨h1, h2⟩
 have hpw : PrW W p := (h.now.2.2 y hy).2 p hp0
 refine ⟨fun b off e hl => ?_, fun b off e hl => ?_⟩
 ·have : ¬ b < n := QU_ (R := fun k => k < n) (W := W) (b := b) (i := off) (v := .int .u8 (p.K.getD 0 0)) (fun W' o => by
   obtain ⟨b', o', e', hc⟩ := (hp W' o).1.rd 0 hl
   rw [e] at e'
   cases e'
   exact hc) (by intro h; cases h)
  exact ⟨by omega, wr_lt (hpw.1) e hl⟩
 ·obtain ⟨f, hf⟩ : ∃ f, p.R[0]? = some f := ⟨_, List.getElem?_eq_getElem hl⟩
  have : ¬ b < n := QU_ (R := fun k => k < n) (W := W) (b := b) (i := off) (v := f.v) (fun W' o => by
   obtain ⟨b', o', e', hc, _⟩ := (hp W' o).2 0 f hf
   rw [e] at e'
   cases e'
   exact hc) (by intro h; cases h)
  exact ⟨by omega, wr_lt (hpw.2) e hl⟩
theorem yh_ {base : Nat} {W : World} {o : zj_} (h : OpO base W o) : WrB W 5 o.ka o.kn /\ InB (fun b => base <= b /\ b < W.heap.size) o.ka o.kn /\ WrB W 42 o.ra o.rn /\ ∀ p ∈ o.R, WrB W 5 p.ad p.bs.length /\ InB (fun b => base <= b /\ b < W.heap.size) p.ad p.bs.length :=
 ⟨WrB.of h.k, fun b off e _ => (zb_ h.k (by rw [e]; rfl)).imp id And.left, WrB.of h.r, fun p hp => ⟨WrB.of (h.rf p hp), fun b off e _ => (zb_ (h.rf p hp) (by show Value.ownBlock (.slice p.ad p.bs.length p.cap) = some b; rw [e]; rfl)).imp id And.left⟩⟩
theorem CtR.out {w : World} {x : z0_} {r : Ending} {w' : World} (h : CtR w x r w') : ∃ y : z0_, r = .returned (.agg #[.slice y.oa y.on y.oc, .bool y.sn, .bool y.ab]) /\ Below w.heap.size w w' /\ SmT x y /\ zR_ w' y /\ w'.ownsRow w.heap.size 74 7 (.slice y.oa y.on y.oc) y.on (cellsOf ocl y.ops) /\ ∀ o ∈ y.ops, OpO w.heap.size w' o := by
 obtain ⟨y, e, hb, hs, ho, hl, hop⟩ := h
 exact ⟨y, e, hb, hs, ⟨ops_own ho hl (fun o h => (hop o h).at'), hl⟩, ho, hop⟩
theorem do_vals {j : Job} {T : List (List Pr)} (h : ∀ t, yf_ (T.getD t [])) (x : z0_) (ht : ∀ o ∈ x.ops, o.t.toNat < T.length) : (x8_ j T x.ops).1 = QV_ j T x /\ (if x.ab then T else (x8_ j T x.ops).2) = yo_ T (wsI (jG_ j T x)) := by
 rw [runD_eq h x.ops ht]
 refine ⟨rfl, ?_⟩
 unfold jG_
 cases x.ab <;> rfl
theorem wrt_vals {j : Job} {T : List (List Pr)} (h : ∀ t, yf_ (T.getD t [])) (x : z0_) (ht : ∀ o ∈ x.ops, o.t.toNat < T.length) {E : Ws} (hp : E.Perm (jG_ j T x)) (hs : E.Pairwise fun a b => ltQ (wk b) (wk a) = false) : (if x.ab then [] else Qj_ (x8_ j T x.ops).2 (x.ops.zip ((x8_ j T x.ops).1.map Prod.fst))) = E := by
 rw [runD_eq h x.ops ht]
 unfold jG_ at hp
 cases hb : x.ab with
 | true =>
  rw [hb] at hp
  exact (List.Perm.eq_nil hp).symm
 | false =>
  rw [hb] at hp
  exact (docQ_eq h ht hp hs).symm
theorem MdR.widen {S : Nat -> Prop} {w W : World} {m : Md} (h : MdR S w m) (b : Below w.heap.size w W) : MdR (jF_ S w.heap.size W.heap.size) W m :=
 h.off (T := fun _ => False) (Off.of b) (fun _ h => h.elim) (fun _ _ h => h) (fun k hk => hk.imp id And.left) (fun x hx => .inl (h.hS x hx))
theorem RfR.widen {S : Nat -> Prop} {w W : World} {f : Rf} (h : RfR S w f) (b : Below w.heap.size w W) : RfR (jF_ S w.heap.size W.heap.size) W f :=
 h.off (T := fun _ => False) (Off.of b) (fun _ h => h.elim) (fun h => h) (fun h => h) (fun k hk => hk.imp id And.left) (.inl h.hp) (.inl h.hb)
theorem MdR.spoilt {S T : Nat -> Prop} {K : TypeId -> Prop} {W X : World} {m : Md} (h : MdR S W m) (s : Sh K T W X) (hT : ∀ k, T k -> S k) (hm : ∀ x ∈ m.tabs, ¬ T x.1) : MdR S X m :=
 h.off s.off hT hm (fun _ h => .inl h) (fun x hx => h.hS x hx)
structure JEq (j k : Job) : Prop where
 may : ∀ x, yM_ j x = yM_ k x
 run : ∀ T ops, x8_ j T ops = x8_ k T ops
 idx : ∀ t x T, idxP j t x T = idxP k t x T
 T : j.T = k.T
 n : j.n = k.n
theorem JEq.of (j : Job) (a : Option Addr) (c : Nat) : JEq { j with a := a, cap := c } j := ⟨fun _ => rfl, fun _ _ => rfl, fun _ _ _ => rfl, rfl, rfl⟩
theorem JEq.symm {j k : Job} (h : JEq j k) : JEq k j := ⟨fun x => (h.may x).symm, fun T o => (h.run T o).symm, fun t x T => (h.idx t x T).symm, h.T.symm, h.n.symm⟩
theorem JEq.trans {i j k : Job} (h : JEq i j) (g : JEq j k) : JEq i k := ⟨fun x => (h.may x).trans (g.may x), fun T o => (h.run T o).trans (g.run T o), fun t x T => (h.idx t x T).trans (g.idx t x T), h.T.trans g.T, h.n.trans g.n⟩
def DoW (m : Md) (f : Rf) (k : Nat) : Prop := yK_ m k ∨ k = f.p
theorem DoW.sub {S : Nat -> Prop} {W : World} {m : Md} {f : Rf} (h : MdR S W m) (h2 : RfR S W f) : ∀ k, DoW m f k -> S k := fun k hk => hk.elim (fun ⟨z, hz, e⟩ => e ▸ h.hS z hz) (fun e => e ▸ h2.hp)
def DoB (S : Nat -> Prop) (w : World) (m : Md) (f : Rf) (r : Ending) (w' : World) : Prop :=
 r = .returned (.bool true) /\ ∃ (S' : Nat -> Prop) (m' : Md) (g : Rf), (∀ k, S' k -> S k ∨ w.heap.size <= k) /\ (∀ k, S' k -> k < w'.heap.size) /\ (∀ k, S k -> S' k) /\ Off (DoW m f) w w' /\ MdR S' w' m' /\ RfR S' w' g /\ zG_ m m' /\ g.p = f.p /\ g.j = f.j /\ m'.P = g.P /\ (∀ N : Nat, (∀ x ∈ m.tabs, x.2.length <= N) -> ∀ x ∈ m'.tabs, x.2.length <= N + 16) /\ (∀ N : Nat, (∀ x ∈ f.Ts, x.P.length <= N) -> ∀ x ∈ g.Ts, x.P.length <= N + 16)
section
open Go.Maps Go.Shelf
theorem may_t {j : Job} {x : z0_} (h : yM_ j x = true) {o : zj_} (ho : o ∈ x.ops) : 0 <= o.t /\ o.t < (j.n : Int) /\ (isW o = true -> o.k ≠ 4 -> 0 < o.rn) := by
 unfold yM_ at h
 simp only [Bool.and_eq_true, List.all_eq_true] at h
 have h1 := h.2 o ho
 unfold opB at h1
 rw [Bool.and_eq_true] at h1
 have h2 := h1.1
 unfold pO at h2
 simp only [Bool.and_eq_true] at h2
 obtain ⟨⟨⟨⟨⟨⟨_, _⟩, h4⟩, _⟩, h6⟩, _⟩, _⟩ := h2
 unfold inB at h4
 rw [decide_eq_true_eq] at h4
 refine ⟨h4.1, by omega, fun hw h4 => ?_⟩
 have hk : o.k = 2 ∨ o.k = 3 := by
  have := of_decide_eq_true hw
  omega
 have h7 : kf o.k 2 = decide (0 < o.rn) := by simpa using h6
 rcases hk with hk | hk <;> (rw [hk] at h7; exact of_decide_eq_true (h7.symm.trans rfl))
end
end Go.Proofs.YthmofoldmdafoaaGreat
