/- Part of the proof that ModelDoes holds for every input: tables, under any transactions, answer, write and stand as the document says. Part 20. -/
import Derived.Test.YthmofoldmdafoaaGreatSds
set_option linter.unusedVariables false
set_option linter.unusedSimpArgs false
set_option maxRecDepth 100000
set_option maxHeartbeats 4000000
namespace Go.Proofs.YthmofoldmdafoaaGreat
open Go.ChangeShapes Go.WideShapes Go.ChangeAt Go.RowKit
open Go.Lib (hid)
open Go.Proofs.Tryz
section
open Go.Maps Go.Sort Go.Shelf
theorem closEn (x y : EnV) (W : World) (hx : Ls .u8 W x.ka x.kc x.K) (hy : Ls .u8 W y.ka y.kc y.K) (bx : Byt x.K) (bb : Byt y.K) :
  Calls prog 120 #[.agg (ecl x).toArray, .agg (ecl y).toArray] W fun e w' => e = .returned (.int .i64 (q7_ x.K y.K)) /\ ∃ q os', w' = grow (W.drewN q) os' := by
 have HB := hid (And.intro bx bb)
 have h2 := ((hx.below (bl1 W (.cells (ecl x).toArray 149))).below (bl1 _ (.cells (ecl y).toArray 149)))
 have h3 := ((hy.below (bl1 W (.cells (ecl x).toArray 149))).below (bl1 _ (.cells (ecl y).toArray 149)))
 have HL := hid (And.intro h2 h3)
 clear h2 h3 hx hy bx bb
 unfold ecl at *
 go_enter func120, ntmps120
 exact Xb53
theorem cmpL_lt (A B : List Int) : decide (q7_ A B < 0) = ltL A B := by
 unfold q7_
 cases h : ltL A B
 ·cases h2 : ltL B A <;> simp
 ·simp
theorem esort : ESort := fun W base a n c E hl hn how hst =>
 Qo_ Tryz.sortEn Xt0 Tryz.isAgg149 Tryz.sizeOf149 ecl ecl_len ecl_one (fun x y => q7_ x.K y.K) (fun x y => ltL x.K y.K) (fun x y => cmpL_lt _ _) (fun x => zT_ _) (fun x y z => zE_) (fun x y z h1 h2 => by
  have := x1_ z.K y.K x.K (by unfold leL; rw [h2]; rfl) (by unfold leL; rw [h1]; rfl)
  unfold leL at this
  simpa using this) 120 (enters_of func120 Xt3 rfl) (fun W e => Byt e.K /\ Ls .u8 W e.ka e.kc e.K) (fun W x y hx hy => closEn x y W hx.2 hy.2 hx.1 hy.1) W base a n c E hl hn how (fun e he => (hst e he).2.mono fun W' h => ⟨(hst e he).1, h.k⟩)
end
section
open Go.Maps
def WtV.W (y : WtV) : WrV := ⟨y.t, y.ka, y.kc, y.K, y.r⟩
theorem own_wr {W : World} {base n c : Nat} {a : Option Addr} {L : List WtV} (h : W.ownsRow base 84 3 (.slice a n c) n (cellsOf wcl L)) (hn : L.length = n) (ok : ∀ y ∈ L, Ls .u8 W y.ka y.kc y.K /\ RdR W y.r.ra y.r.R) : WrR W a (L.map WtV.W) := fun k x hx => by
 rw [List.getElem?_map] at hx
 cases hy : L[k]? with
 | none => rw [hy] at hx; cases hx
 | some y =>
  rw [hy] at hx
  cases hx
  obtain ⟨g, rfl, _, hc⟩ := zt_ zP_ Xt0 h hn k y hy
  refine ⟨g, 0, rfl, ?_, ?_, ?_, ok y (List.mem_of_getElem? hy)⟩
  ·exact Xb43
  ·exact Xb64
  ·exact Xb79
theorem own_res {W : World} {base n c : Nat} {a : Option Addr} {L : List xu_} (h : W.ownsRow base 81 2 (.slice a n c) n (cellsOf rcl L)) (hn : L.length = n) (ok : ∀ y ∈ L, zn_ W y.pa y.P) : jE_ W a L := fun k y hy => by
 obtain ⟨g, rfl, _, hc⟩ := zt_ rcl_len Xt0 h hn k y hy
 refine ⟨g, 0, rfl, ?_, ?_, ok y (List.mem_of_getElem? hy)⟩
 ·exact Xb43
 ·exact Xb64
def wsI (l : Ws) : List (Int × List Int × List (List Int)) := l.map fun w => ((w.1 : Int), w.2)
theorem wI_W (ws : List WtV) : (ws.map WtV.W).map WrV.P = wsI (ws.map WtV.P) := by
 unfold wsI
 rw [List.map_map, List.map_map]; rfl
theorem MdR.less {S S' : Nat -> Prop} {w : World} {m : Md} (h : MdR S' w m) (hs : ∀ k, S k -> S' k) (ht : ∀ x ∈ m.tabs, S x.1) : MdR S w m := h.off (T := fun _ => False) (Off.refl _ _) (fun _ h => h.elim) (fun _ _ h => h) (fun k hk => .inl (hs k hk)) ht
def ResW (W : World) (a : Option Addr) (rs : List xu_) : Prop := jE_ W a rs /\ WrB W 81 a rs.length /\ ∀ y ∈ rs, WrB W 78 y.pa y.P.length /\ ∀ p ∈ y.P, PrW W p
theorem TrO.out {S S' : Nat -> Prop} {base : Nat} {w : World} {m : Md} {px : Nat} {wv rv : Value} {ws : List WtV} {rs : List xu_} (h : TrO S' base w m px wv rv ws rs) (hs : ∀ k, S k -> S' k) (hb : ∀ k, S k -> k < base) (ht : ∀ x ∈ m.tabs, S x.1) :
  MdR S w m /\ (∃ a c, wv = .slice a ws.length c /\ zs_ S w fun W => WrR W a (ws.map WtV.W)) /\ (∃ a c, rv = .slice a rs.length c /\ zs_ (fun k => k < base) w fun W => ResW W a rs) /\ (ws.map WtV.W).all (wrB m.tabs.length) = true /\
  ∀ x ∈ ws.map WtV.W, Byt x.K /\ x.K.length <= 1000000 /\ x.r.R.length <= 1000000 /\ ∀ p ∈ x.r.R, Byt p.bs := by
 refine ⟨h.md.less hs ht, ?_, ?_, ?_, ?_⟩
 ·obtain ⟨a, c, e⟩ := zd_ h.own
  have ho := h.own
  rw [e] at ho
  exact ⟨a, c, e, fun W' o => own_wr (zl_ ho o hb) rfl fun y hy => (h.wst y hy).less hs W' o⟩
 ·obtain ⟨a, c, e⟩ := zd_ h.rown
  have ho := h.rown
  rw [e] at ho
  exact ⟨a, c, e, fun W' o => ⟨own_res (zl_ ho o fun _ h => h) rfl fun y hy => ((h.rst y hy).less (fun _ h => .inr h) W' o).1, WrB.of (zl_ ho o fun _ h => h), fun y hy => ((h.rst y hy).less (fun _ h => .inr h) W' o).2⟩⟩
 ·rw [List.all_eq_true]
  intro x hx
  obtain ⟨y, hy, rfl⟩ := List.mem_map.1 hx
  obtain ⟨h1, h2, h3⟩ := h.wok y hy
  have k1 : yw_ y.K.length = true := by unfold yw_; rw [decide_eq_true_eq]; exact h2.2
  unfold wrB
  show (decide (0 <= (y.t : Int) /\ (y.t : Int) < (m.tabs.length : Int)) && yw_ y.K.length && (decide (y.r.R.length = 0) || yZ_ y.r.R)) = true
  rw [k1, decide_eq_true Xt0]
  by_cases e : y.r.R = []
  ·rw [e]; rfl
  ·have hr := h3 e
   unfold RV.P at hr
   unfold yZ_ QX_
   simp only [Bool.and_eq_true, Bool.or_eq_true, decide_eq_true_eq, List.all_eq_true]
   refine ⟨⟨trivial, trivial⟩, .inr ⟨fun p hp => ?_, ?_, ?_⟩⟩
   ·have := (hr.2.2 p.bs (List.mem_map.2 ⟨p, hp, rfl⟩)).2
    simpa using this
   ·have := hr.1; rw [List.length_map] at this; exact this
   ·have := hr.2.1; rw [List.length_map] at this; exact this
 ·intro x hx
  obtain ⟨y, hy, rfl⟩ := List.mem_map.1 hx
  obtain ⟨h1, h2, h3⟩ := h.wok y hy
  have hkl := h2.2.2
  refine ⟨h2.1, by show y.K.length <= 1000000; omega, ?_, fun p hp => ?_⟩
  ·by_cases e : y.r.R = []
   ·show y.r.R.length <= 1000000; rw [e]; simp
   ·have := (h3 e).2.1
    unfold RV.P at this
    rw [List.length_map] at this
    show y.r.R.length <= 1000000; omega
  ·have hp : p ∈ y.r.R := hp
   have hr := h3 (List.ne_nil_of_mem hp)
   exact xB_ hr p hp
theorem Off.cell {S : Nat -> Prop} {W W' : World} (o : Off S W W') {p : Addr} {v : Value} (h : W.cell? p = some v) (hn : ¬ S p.block) : W'.cell? p = some v := by
 exact Xb101
def QV_ (j : Job) (T : List (List Pr)) (x : z0_) : List (Int × List Pr) := (z1_ j T x.ops).1
def jG_ (j : Job) (T : List (List Pr)) (x : z0_) : Ws := if x.ab then [] else (z1_ j T x.ops).2
def TryN (w : World) (m : Md) (x : z0_) (r : Ending) (w' : World) : Prop :=
 if yM_ m.j x then ∃ a c rs, r = .returned (.tuple #[.slice a rs.length c, .int .i64 0]) /\ Below w.heap.size w w' /\ rs.map yx_ = QV_ m.j m.P x /\ (∀ y ∈ rs, ym_ y) /\ zs_ (fun k => k < w.heap.size) w' fun W => ResW W a rs
 else r = .returned (.tuple #[.slice none 0 0, .int .i64 2]) /\ Below w.heap.size w w'
theorem try_lawN {S : Nat -> Prop} {m : Md} {w : World} (h : MdR S w m) (hS : ∀ k, S k -> k < w.heap.size) (x : z0_) (hx : zR_ w x) (hon : x.on <= 1000000) (hrn : ∀ o ∈ x.ops, o.rn <= 1000000) (hf : ∀ z ∈ m.tabs, z.2.length <= 300000) :
  Calls prog 40 #[.pointer (some ⟨m.p, 0, none⟩), .agg #[.slice x.oa x.on x.oc, .bool x.sn, .bool x.ab]] w (TryN w m x) := by
 have HH := hid (And.intro h hS)
 have hb : Below w.heap.size w (w.alloc (.cells #[.slice x.oa x.on x.oc, .bool x.sn, .bool x.ab] 38)) := bl1 _ _
 have HB := hid hb
 have HTR := hid (qH_ esort (h.below hb) (fun k hk => Nat.lt_of_lt_of_le (hS k hk) hb.size) x (hx.below hb) hon hrn hf)
 clear h hS hx hon hrn hf hb
 go_enter func40, ntmps40
 go_wp2_with fail
 refine HTR.out.mono ?_; intro r w2 hr
 unfold TrR at hr
 cases hm : yM_ m.j x with
 | false =>
  rw [hm] at hr
  obtain ⟨rfl, hb2⟩ := hr
  have HB2 := hid (HB.out.trans (hb2.mono HB.out.size))
  have HR := hid (fun r w' (hh : r = .returned (.tuple #[.slice none 0 0, .int .i64 2]) /\ Below w.heap.size w w') => (by unfold TryN; rw [hm]; exact hh : TryN w m x r w'))
  clear hm hb2
  exact Xb62
 | true =>
  rw [hm] at hr
  obtain ⟨S', base, px, wv, rv, ws, rs, rfl, hb2, hbs, ho, hss, _, hrs, _⟩ := hr
  have HB2 := hid (HB.out.trans (hb2.mono HB.out.size))
  obtain ⟨_, _, ⟨a, c, e, hst⟩, _, _⟩ := ho.out (S := S) hss (fun k hk => Nat.lt_of_lt_of_le (HH.out.2 k hk) (Nat.le_trans HB.out.size hbs)) HH.out.1.hS
  have c3 := ho.c3
  rw [e] at c3
  have HRS := hid (And.intro hrs (And.intro ho.rok (hst.less fun k hk => Nat.lt_of_lt_of_le hk (Nat.le_trans HB.out.size hbs) : zs_ (fun k => k < w.heap.size) w2 fun W => ResW W a rs)))
  have HR := hid (fun r w' (hh : ∃ a c rs, r = .returned (.tuple #[.slice a rs.length c, .int .i64 0]) /\ Below w.heap.size w w' /\ rs.map yx_ = QV_ m.j m.P x /\ (∀ y ∈ rs, ym_ y) /\ zs_ (fun k => k < w.heap.size) w' fun W => ResW W a rs) => (by unfold TryN; rw [hm]; exact hh : TryN w m x r w'))
  clear hm hb2 hbs ho hss hrs e hst
  go_wp2_with fail
  go_ret2
  exact HR.out _ _ ⟨a, c, rs, rfl, HB2.out, HRS.out.1, HRS.out.2.1, HRS.out.2.2⟩
def DoR (S : Nat -> Prop) (w : World) (m : Md) (x : z0_) (r : Ending) (w' : World) : Prop :=
 if yM_ m.j x then ∃ m' a c rs, r = .returned (.tuple #[.slice a rs.length c, .int .i64 0]) /\ MdR S w' m' /\ zG_ m m' /\ m'.P = yo_ m.P (wsI (jG_ m.j m.P x)) /\ Off (yK_ m) w w' /\ (∀ N : Nat, (∀ x ∈ m.tabs, x.2.length <= N) -> ∀ x ∈ m'.tabs, x.2.length <= N + 16) /\ rs.map yx_ = QV_ m.j m.P x /\ (∀ y ∈ rs, ym_ y) /\ zs_ S w' fun W => jE_ W a rs
 else r = .returned (.tuple #[.slice none 0 0, .int .i64 2]) /\ Below w.heap.size w w'
def DoN (S : Nat -> Prop) (w : World) (m : Md) (x : z0_) (r : Ending) (w' : World) : Prop :=
 if yM_ m.j x then ∃ m' a c rs wm, r = .returned (.tuple #[.slice a rs.length c, .int .i64 0]) /\ Below w.heap.size w wm /\ Off (yK_ m) wm w' /\ MdR (jF_ S w.heap.size wm.heap.size) w' m' /\ zG_ m m' /\ m'.P = yo_ m.P (wsI (jG_ m.j m.P x)) /\ (∀ N : Nat, (∀ x ∈ m.tabs, x.2.length <= N) -> ∀ x ∈ m'.tabs, x.2.length <= N + 16) /\ rs.map yx_ = QV_ m.j m.P x /\ (∀ y ∈ rs, ym_ y) /\ zs_ (fun k => k < w.heap.size) wm fun W => ResW W a rs
 else r = .returned (.tuple #[.slice none 0 0, .int .i64 2]) /\ Below w.heap.size w w'
theorem do_lawN {S : Nat -> Prop} {m : Md} {w : World} (h : MdR S w m) (hS : ∀ k, S k -> k < w.heap.size) (x : z0_) (hx : zR_ w x) (hon : x.on <= 1000000) (hrn : ∀ o ∈ x.ops, o.rn <= 1000000) (hf : ∀ z ∈ m.tabs, z.2.length <= 300000) :
  Calls prog 24 #[.pointer (some ⟨m.p, 0, none⟩), .agg #[.slice x.oa x.on x.oc, .bool x.sn, .bool x.ab]] w (DoN S w m x) := by
 have HH := hid (And.intro h (And.intro hS hf))
 have hb : Below w.heap.size w (w.alloc (.cells #[.slice x.oa x.on x.oc, .bool x.sn, .bool x.ab] 38)) := bl1 _ _
 have HB := hid hb
 have HTR := hid (qH_ esort (h.below hb) (fun k hk => Nat.lt_of_lt_of_le (hS k hk) hb.size) x (hx.below hb) hon hrn hf)
 clear h hS hx hon hrn hf hb
 go_enter func24, ntmps24
 go_wp2_with fail
 refine HTR.out.mono ?_; intro r w2 hr
 unfold TrR at hr
 cases hm : yM_ m.j x with
 | false =>
  rw [hm] at hr
  obtain ⟨rfl, hb2⟩ := hr
  have HB2 := hid (HB.out.trans (hb2.mono HB.out.size))
  have HR := hid (fun r w' (hh : r = .returned (.tuple #[.slice none 0 0, .int .i64 2]) /\ Below w.heap.size w w') => (by unfold DoN; rw [hm]; exact hh : DoN S w m x r w'))
  clear hm hb2
  exact Xb62
 | true =>
  rw [hm] at hr
  obtain ⟨S', base, px, wv, rv, ws, rs, rfl, hb2, hbs, ho, hss, _, hrs, hws⟩ := hr
  have HB2 := hid (HB.out.trans (hb2.mono HB.out.size))
  obtain ⟨hmd, ⟨a1, c1, e1, hwst⟩, ⟨a, c, e, hst⟩, hall, hwb⟩ := ho.out (S := S) hss (fun k hk => Nat.lt_of_lt_of_le (HH.out.2.1 k hk) (Nat.le_trans HB.out.size hbs)) HH.out.1.hS
  have c3 := ho.c3
  have c2 := ho.c2
  rw [e] at c3
  rw [e1] at c2
  have HRS := hid (And.intro hrs (And.intro ho.rok (hst.less fun k hk => Nat.lt_of_lt_of_le hk (Nat.le_trans HB.out.size hbs) : zs_ (fun k => k < w.heap.size) w2 fun W => ResW W a rs)))
  have HR := hid (fun r w' (hh : ∃ m' a c rs wm, r = .returned (.tuple #[.slice a rs.length c, .int .i64 0]) /\ Below w.heap.size w wm /\ Off (yK_ m) wm w' /\ MdR (jF_ S w.heap.size wm.heap.size) w' m' /\ zG_ m m' /\ m'.P = yo_ m.P (wsI (jG_ m.j m.P x)) /\ (∀ N : Nat, (∀ x ∈ m.tabs, x.2.length <= N) -> ∀ x ∈ m'.tabs, x.2.length <= N + 16) /\ rs.map yx_ = QV_ m.j m.P x /\ (∀ y ∈ rs, ym_ y) /\ zs_ (fun k => k < w.heap.size) wm fun W => ResW W a rs) => (by unfold DoN; rw [hm]; exact hh : DoN S w m x r w'))
  have hd := (Below.refl w2.heap.size w2).drew
  have HMG := hid (HH.out.1.off (T := fun _ => False) (S' := jF_ S w.heap.size w2.heap.size) (Off.of HB2.out) (fun _ h => h.elim) (fun _ _ h => h) (fun k hk => hk.imp id And.left) (fun z hz => .inl (HH.out.1.hS z hz)))
  have HAP := hid (show Calls prog 16 #[.pointer (some ⟨m.p, 0, none⟩), .slice a1 ws.length c1] w2.drew (fun r w' => ∃ m', r = .returned (.int .i64 0) /\ MdR (jF_ S w.heap.size w2.heap.size) w' m' /\ zG_ m m' /\ m'.P = yo_ m.P (wsI (jG_ m.j m.P x)) /\ Off (yK_ m) w2 w' /\ ∀ N : Nat, (∀ x ∈ m.tabs, x.2.length <= N) -> ∀ x ∈ m'.tabs, x.2.length <= N + 16) from
   (mapply_lawT (HMG.out.below hd) (fun k hk => hk.elim (fun hk => Nat.lt_of_lt_of_le (HH.out.2.1 k hk) (Nat.le_trans HB2.out.size hd.size)) (fun hk => Nat.lt_of_lt_of_le hk.2 hd.size)) a1 ws.length c1 (ws.map WtV.W) (List.length_map _) (by have := ho.few; omega) ((hwst.less fun k hk => by obtain ⟨z, hz, rfl⟩ := hk; exact HH.out.1.hS z hz).below hd) hwb Xt57).mono (by
    rintro r w' ⟨m', hr, h1, h2, h3, h4, h5⟩
    rw [hall] at hr h3
    refine ⟨m', hr, h1, h2, ?_, (Off.of hd).trans h4, fun N hN z hz => ?_⟩
    ·rw [wI_W, hws] at h3; exact h3
    ·have := h5 N hN z hz
     rw [List.length_map] at this
     have := ho.few
     omega))
  have HNP := hid (show ¬ yK_ m px from fun hk => by
   obtain ⟨z, hz, e⟩ := hk
   have h1 := HH.out.2.1 _ (HH.out.1.hS z hz)
   have h2 := ho.lo
   have := HB.out.size
   omega)
  clear hm hb2 hbs ho hss hrs hws e hst hmd e1 hwst hall hwb hd
  go_upto_region 4 with (fail)
  refine wp_region_held_drew (S := (fun X => X.cell? ⟨px, 3, none⟩ = some (.slice a rs.length c) /\ X.cell? ⟨px, 2, none⟩ = some (.slice a1 ws.length c1))) Xt3 (⟨c3, c2⟩) fun hH => ?_
  refine tkq3 0 1 2 ?_
  refine tkr 3 rfl (fun W hSw => by have m0 := hSw.1; exact tks) ?_
  refine tkq4 4 5 6 7 ?_
  refine tkr 8 rfl (fun W hSw => by have m0 := hSw.2; exact tks) ?_
  refine tk1 9 rfl fun K hK => ?_
  go_simp
  refine HAP.out.mono ?_; rintro r w3 ⟨m2, rfl, hmd, hsm, hmp, hof, hgr⟩
  have HM := hid (And.intro hmd (And.intro hsm (And.intro hmp (And.intro hof hgr))))
  go_wp2_with fail
  refine hK.out _ _ ⟨hof.cell hH.1 HNP.out, hof.cell hH.2 HNP.out⟩ (fun hHeldn => ?_)
  clear hmd hsm hmp hof hgr
  clear hK K hH; have hH := hHeldn; clear hHeldn
  refine stP ?_
  refine tkq2 10 11 ?_
  refine adn ?_
  skip
  go_wp2_with fail
  go_ret2
  obtain ⟨q1, q2, q3, q4, q5⟩ := HM.out
  exact HR.out _ _ ⟨m2, a, c, rs, w2, rfl, HB2.out, q4, q1, q2, q3, q5, HRS.out.1, HRS.out.2.1, HRS.out.2.2⟩
theorem do_law {S : Nat -> Prop} {m : Md} {w : World} (h : MdR S w m) (hS : ∀ k, S k -> k < w.heap.size) (x : z0_) (hx : zs_ S w fun W => zR_ W x) (hon : x.on <= 1000000) (hrn : ∀ o ∈ x.ops, o.rn <= 1000000) (hf : ∀ z ∈ m.tabs, z.2.length <= 300000) :
  Calls prog 24 #[.pointer (some ⟨m.p, 0, none⟩), .agg #[.slice x.oa x.on x.oc, .bool x.sn, .bool x.ab]] w (DoR S w m x) := (do_lawN h hS x hx.now hon hrn hf).mono fun r w' hr => by
 unfold DoN at hr
 unfold DoR
 split at hr
 ·rename_i hm
  rw [if_pos hm]
  obtain ⟨m', a, c, rs, wm, e, hb, ho, h1, h2, h3, h4, h5, h6, h7⟩ := hr
  have hm' : ∀ z ∈ m'.tabs, S z.1 := fun z hz => by obtain ⟨y, hy, e⟩ := h2.mem hz; rw [e]; exact h.hS y hy
  exact ⟨m', a, c, rs, e, h1.less (fun k hk => .inl hk) hm', h2, h3, (Off.of hb).trans ho, h4, h5, h6, ((h7.less hS).mono fun _ h => h.1).off (ho.mono fun k hk => by obtain ⟨z, hz, rfl⟩ := hk; exact h.hS z hz)⟩
 ·rename_i hm
  rw [if_neg hm]; exact hr
end
section
open Go.Maps Go.Sort Go.Shelf
def cmpW (x y : WtV) : Int := if x.t = y.t then q7_ x.K y.K else (x.t : Int) - (y.t : Int)
def ltW (x y : WtV) : Bool := decide (x.t < y.t) || (decide (x.t = y.t) && ltL x.K y.K)
theorem cmpW_lt (x y : WtV) : decide (cmpW x y < 0) = ltW x y := by
 unfold cmpW ltW
 by_cases e : x.t = y.t
 ·rw [if_pos e, cmpL_lt, decide_eq_true e, decide_eq_false Xt0]; simp
 ·rw [if_neg e, decide_eq_false e]
  by_cases h : x.t < y.t
  ·rw [decide_eq_true h, decide_eq_true Xt0]; rfl
  ·rw [decide_eq_false h, decide_eq_false Xt0]; rfl
theorem yS_ {x y : WtV} : ltW x y = true ↔ x.t < y.t ∨ (x.t = y.t /\ ltL x.K y.K = true) := by
 unfold ltW
 simp
theorem xE_ {x y : WtV} : ltW x y = false ↔ y.t < x.t ∨ (y.t = x.t /\ ltL x.K y.K = false) := by
 constructor
 ·intro h
  by_cases h1 : x.t < y.t
  ·rw [yS_.2 (.inl h1)] at h; cases h
  ·by_cases e : x.t = y.t
   ·refine .inr ⟨e.symm, ?_⟩
    cases hl : ltL x.K y.K
    ·rfl
    ·rw [yS_.2 (.inr ⟨e, hl⟩)] at h; cases h
   ·exact .inl Xt0
 ·intro h
  cases hc : ltW x y
  ·rfl
  ·rcases yS_.1 hc with h1 | ⟨h1, h2⟩ <;> rcases h with h3 | ⟨h3, h4⟩
   ·omega
   ·omega
   ·omega
   ·rw [h2] at h4; cases h4
theorem ltW_irr (x : WtV) : ltW x x = false := xE_.2 (.inr ⟨rfl, zT_ _⟩)
theorem ltW_trans (x y z : WtV) (h : ltW x y = true) (k : ltW y z = true) : ltW x z = true := by
 rcases yS_.1 h with h1 | ⟨h1, h2⟩ <;> rcases yS_.1 k with h3 | ⟨h3, h4⟩
 ·exact yS_.2 (.inl Xt0)
 ·exact yS_.2 (.inl Xt0)
 ·exact yS_.2 (.inl Xt0)
 ·exact yS_.2 (.inr ⟨by omega, zE_ h2 h4⟩)
theorem ltW_ntrans (x y z : WtV) (h : ltW x y = false) (k : ltW y z = false) : ltW x z = false := by
 rcases xE_.1 h with h1 | ⟨h1, h2⟩ <;> rcases xE_.1 k with h3 | ⟨h3, h4⟩
 ·exact xE_.2 (.inl Xt0)
 ·exact xE_.2 (.inl Xt0)
 ·exact xE_.2 (.inl Xt0)
 ·refine xE_.2 (.inr ⟨by omega, ?_⟩)
  have := x1_ z.K y.K x.K (by unfold leL; rw [h4]; rfl) (by unfold leL; rw [h2]; rfl)
  unfold leL at this
  simpa using this
theorem closWr (x y : WtV) (W : World) (hx : Ls .u8 W x.ka x.kc x.K) (hy : Ls .u8 W y.ka y.kc y.K) (bx : Byt x.K) (bb : Byt y.K) (tx : x.t <= 1000000) (ty : y.t <= 1000000) :
  Calls prog 69 #[.agg (wcl x).toArray, .agg (wcl y).toArray] W fun e w' => e = .returned (.int .i64 (cmpW x y)) /\ ∃ q os', w' = grow (W.drewN q) os' := by
 have HB := hid (And.intro bx bb)
 have h2 := ((hx.below (bl1 W (.cells (wcl x).toArray 84))).below (bl1 _ (.cells (wcl y).toArray 84)))
 have h3 := ((hy.below (bl1 W (.cells (wcl x).toArray 84))).below (bl1 _ (.cells (wcl y).toArray 84)))
 have HL := hid (And.intro h2 h3)
 clear h2 h3 hx hy bx bb
 unfold cmpW
 unfold wcl RV.v at *
 by_cases e : x.t = y.t
 ·rw [if_pos e]
  have d : ((x.t : Int) == (y.t : Int)) = true := by simp [e]
  have d2 : ((x.t : Int) != (y.t : Int)) = false := by simp [e]
  clear e
  go_enter func69, ntmps69
  exact Xb53
 ·rw [if_neg e]
  have d : ((x.t : Int) == (y.t : Int)) = false := by simp; omega
  have d2 : ((x.t : Int) != (y.t : Int)) = true := by simp; omega
  clear e
  go_enter func69, ntmps69
  go_wp2_with fail
  go_ret
  refine ⟨?_, 0, _, by rw [alloc_eq_grow, alloc_eq_grow, grow_grow]; rfl⟩
  go_num
theorem wsort_law (W : World) (base : Nat) (a : Option Addr) (n c : Nat) (E : List WtV) (hl : E.length = n) (hn : n <= 2000000) (how : W.ownsRow base 84 3 (.slice a n c) n (cellsOf wcl E)) (hst : ∀ y ∈ E, (Byt y.K /\ y.t <= 1000000) /\ zs_ (fun k => Value.ownBlock (.slice a n c) = some k) W (fun W' => Ls .u8 W' y.ka y.kc y.K)) :
  Calls prog 98 #[.slice a n c, .func (.func 69) #[] #[]] W fun r W' => r = .returned (.tuple #[]) /\ ∃ E' : List WtV, E'.Perm E /\ (E'.Pairwise fun a b => ltW b a = false) /\ W'.ownsRow base 84 3 (.slice a n c) n (cellsOf wcl E') /\ Off (fun k => Value.ownBlock (.slice a n c) = some k) W W' :=
 Qo_ Tryz.sortWr Xt0 Tryz.isAgg84 Tryz.sizeOf84 wcl zP_ wcl_one cmpW ltW cmpW_lt ltW_irr ltW_trans ltW_ntrans 69 (enters_of func69 Xt3 rfl) (fun W e => (Byt e.K /\ e.t <= 1000000) /\ Ls .u8 W e.ka e.kc e.K) (fun W x y hx hy => closWr x y W hx.2 hy.2 hx.1.1 hy.1.1 hx.1.2 hy.1.2) W base a n c E hl hn how (fun e he => (hst e he).2.mono fun W' h => ⟨(hst e he).1, h⟩)
end
section
open Go.Maps Go.Shelf
attribute [local go_sem] Oper.semAt_some
def encW (y : WtV) : Array Value := #[.agg (wcl y).toArray]
def WtC (W : World) (a : Option Addr) (L : List WtV) : Prop := ∀ (k : Nat) (y : WtV), L[k]? = some y -> ∃ b off, a = some ⟨b, off, none⟩ /\ W.cell? ⟨b, off + k * 3, none⟩ = some (.int .i64 y.t) /\ W.cell? ⟨b, off + k * 3 + 1, none⟩ = some (.slice y.ka y.K.length y.kc) /\ W.cell? ⟨b, off + k * 3 + 2, none⟩ = some (.slice y.r.ra y.r.R.length y.r.rc)
theorem WtC.below {B : Nat} {W W' : World} {a : Option Addr} {L : List WtV} (h : WtC W a L) (hb : Below W.heap.size W W') : WtC W' a L := fun k x hx => by
 obtain ⟨b, off, e, c0, c1, c2⟩ := h k x hx
 have f : ∀ {p v}, W.cell? p = some v -> W'.cell? p = some v := fun h => tcb hb h
 exact ⟨b, off, e, f c0, f c1, f c2⟩
theorem own_wtc {W : World} {base n c : Nat} {a : Option Addr} {L : List WtV} (h : W.ownsRow base 84 3 (.slice a n c) n (cellsOf wcl L)) (hn : L.length = n) : WtC W a L := fun k y hy => by
 obtain ⟨g, rfl, _, hc⟩ := zt_ zP_ Xt0 h hn k y hy
 refine ⟨g, 0, rfl, ?_, ?_, ?_⟩
 ·exact Xb43
 ·exact Xb64
 ·exact Xb79
theorem wvals_law (w : World) (v : Value) (a : Option Addr) (n c : Nat) (hv : v = .slice a n c) : Calls prog 68 #[v] w fun e w' => e = .returned (.func (.func 99) #[] #[.pointer (some ⟨w.heap.size, 0, none⟩)]) /\ w' = w.alloc (.cells #[v] 41) := by
 subst hv
 have hmf := zX_
 go_enter func68, ntmps68
 exact Xb27
theorem wvals_stops (mm : Nat) (hm : 1 <= mm) (Bs : Nat) (a : Option Addr) (n c : Nat) (L : List WtV) (w : World) (hB : Boxed w Bs 41 (.slice a n c)) (hn : L.length = n) (hn2 : n <= 1000000) (hL : WtC w a L) :
  SeqStopsK Fence.wide mm prog 99 #[.pointer (some ⟨Bs, 0, none⟩)] encW (Below w.heap.size) (fun ss => ss = L) (fun pre => True) n w := fun lp J Jx W hW hJ _ hY h0 => by
 have hb : Boxed W Bs 41 (.slice a n c) := (hW.block Bs hB.lt).trans hB
 have HL := hid hL
 have HN := hid hn
 have HW := hid hW
 have HS := hid hW.size
 clear hB hL hn hW
 show CallsIn Fence.wide mm prog 99 #[.func (.yield lp) #[] #[], .pointer (some ⟨Bs, 0, none⟩)] W _
 refine callsIn_of_wp func99 rfl trivial ?_ rfl
 simp only [ntmps99, List.size_toArray, List.length_cons, List.length_nil, Nat.reduceAdd, Nat.reduceSub, Array.replicate_succ, Array.replicate_zero, List.push_toArray, List.append_toArray, List.nil_append, List.cons_append]
 have cb := hb.cell
 gi_wp2_with fail
 clear cb hb
 gi_loopw [7] (fun i wr => ∃ k : Nat, k <= n /\ i = .int .i64 (k : Int) /\ Hid (Below w.heap.size w wr) /\ W.heap.size <= wr.heap.size /\ J (L.take k) wr)
  (fun i _ => n - (intOf i).toNat)
 case atStart =>
  exact ⟨0, by omega, rfl, HW, Nat.le_refl _, h0⟩
 case round =>
  obtain ⟨k, hk, rfl, HBR, hsz, hJs⟩ := hrel
  by_cases hlt : k < n
  ·have d1 : (k : Int) < (n : Int) := by omega
   obtain ⟨y, hy⟩ : ∃ y, L[k]? = some y := ⟨_, List.getElem?_eq_getElem Xt9⟩
   obtain ⟨b1, o1, ea, p0, p1, p2⟩ := (HL.out.below (B := 0) HBR.out) k y hy
   have HTK := hid (show L.take (k + 1) = L.take k ++ [y] by rw [List.take_add_one, hy]; rfl)
   have HKL := hid (show (L.take k).length < n by rw [List.length_take, HN.out]; omega)
   clear hy
   subst ea
   obtain ⟨w2, hw2⟩ := gty (wr.alloc (.cells #[.int .i64 y.t, .slice y.ka y.K.length y.kc, .slice y.r.ra y.r.R.length y.r.rc] 84))
   have hJ2 : J (L.take k) w2 := by rw [hw2]; exact hJ _ wr _ none hJs (World.grownBy_alloc wr _ none) (fun r e => by cases e)
   have HB2 := hid (show Below w.heap.size w w2 by rw [hw2]; exact za_ HBR.out (bl1 wr _))
   have HS2 := hid (show W.heap.size <= w2.heap.size by rw [hw2, World.size_alloc]; omega)
   obtain ⟨fn, tmps, assign, body, hy, hR⟩ := hY (L.take k) y w2 hJ2 HKL.out
   rw [hw2] at hy
   dsimp only [encW, wcl, RV.v] at hy
   have hww := hw2
   clear hw2
   gi_wp2
   rw [← hww]
   refine hR.mono ?_
   rintro e W3 (⟨rfl, hJ3, hk3⟩ | ⟨rfl, hJx3⟩)
   ·have HB3 := hid (HB2.out.trans hk3)
    have HS3 := hid (show W.heap.size <= W3.heap.size from Nat.le_trans HS2.out hk3.size)
    clear hk3
    gi_wp2
    go_roundw
    case rel => exact ⟨k + 1, by omega, by go_num, HB3, HS3.out, by rw [HTK.out]; exact hJ3⟩
    case measure => simp [intOf]; omega
   ·gi_wp2
    refine bodyPost_ret (results_none rfl _ _ _) rfl ?_
    exact ⟨⟨_, rfl⟩, .inr ⟨L.take k ++ [y], trivial, hJx3⟩⟩
  ·have d1 : ¬ (k : Int) < (n : Int) := by omega
   have HTK := hid (show L.take k = L from List.take_of_length_le Xt23)
   gi_wp2
   go_end0
   have h9 := hJs
   rw [HTK.out] at h9
   exact ⟨⟨_, rfl⟩, .inl h9⟩
theorem info84 : (prog.info? 84).map (fun i => (i.zero, i.size, i.bytes)) = some (some (.agg #[.int .i64 0, .slice none 0 0, .slice none 0 0]), 3, 56) := by kernel_rfl
theorem boxc_own {X Y : World} {B : Nat} {cs : Array Value} {t : TypeId} {row : Option Nat} (h : zg_ X B cs t) (hg : X.grownBy Y row) (hr : ∀ r, row = some r -> ∃ o : Obj, X.heap[r]? = some o /\ o.isCells = false) : zg_ Y B cs t :=
 (hg.block B h.lt (fun e => by
  obtain ⟨o, ho, hc⟩ := hr B e.symm
  rw [show X.heap[B]? = _ from h] at ho
  cases ho; cases hc)).trans h
def AppW (L : List WtV) (base : Nat) (w : World) (e : Ending) (w' : World) : Prop := ∃ v, e = .returned v /\ w'.ownsRow base 84 3 v L.length (cellsOf wcl L) /\ Below base w w'
theorem wapp_law (w : World) (Bs : Nat) (a : Option Addr) (n c : Nat) (L : List WtV) (hBs : Boxed w Bs 41 (.slice a n c)) (hn : L.length = n) (hn2 : n <= 1000000) (hL : WtC w a L) :
  Calls prog 129 #[.slice none 0 0, .func (.func 99) #[] #[.pointer (some ⟨Bs, 0, none⟩)]] w (AppW L w.heap.size w) := by
 have HN := hid hn
 have HN2 := hid hn2
 have HLC := hid hL
 clear hL
 obtain ⟨i0, hi, hz0, hz1, hz2⟩ := info_parts info84
 refine (callsIn_wide (n := 6)).1 ?_
 refine callsIn_of_wp_marks func129 rfl trivial ?_ rfl
 simp only [ntmps129, List.size_toArray, List.length_cons, List.length_nil, Nat.reduceAdd, Nat.reduceSub, Array.replicate_succ, Array.replicate_zero, List.push_toArray, List.append_toArray, List.nil_append, List.cons_append]
 gi_wp2_with fail
 have hbw : Below w.heap.size w (w.alloc (.cells #[.slice none 0 0] 41)) := bl1 _ _
 have bL := Boxed.new w 41 (.slice none 0 0)
 have hsz : (w.alloc (.cells #[.slice none 0 0] 41)).heap.size = w.heap.size + 1 := by simp
 have bM : Boxed (w.alloc (.cells #[.slice none 0 0] 41)) Bs 41 (.slice a n c) := (hbw.block Bs hBs.lt).trans hBs
 have bO : WtC (w.alloc (.cells #[.slice none 0 0] 41)) a L := HLC.out.below (B := 0) hbw
 obtain ⟨W0, hW0⟩ := gtx (w.alloc (.cells #[.slice none 0 0] 41))
 rw [hW0] at bL hbw hsz bM bO ⊢
 clear hW0
 have HC := wvals_stops 5 Xt0 Bs a n c L w hBs hn hn2 HLC.out
 clear bM bO hBs hn hn2
 refine wpIn_rangeFunc_ownH rfl Xt0 (gf := 99) (lb := #[.pointer (some ⟨Bs, 0, none⟩)]) rfl trivial (enters_of func99 Xt3 rfl)
  HC belowK_t (belowK_b Xt0) hbw (fun _ => rfl)
  (fun pre W => (∃ v, Boxed W w.heap.size 41 v /\ W.ownsRow w.heap.size 84 3 v pre.length (cellsOf wcl pre)) /\ Below w.heap.size w W)
  (fun c pre W => False)
  (OwnFrom.and (Own.from (fun s X Y row hs hg hr => by obtain ⟨v, h1, h2⟩ := hs; exact ⟨v, boxed_own _ 41 (fun (_ : Unit) => v) () X Y row h1 hg hr, yC_ h2 hg hr⟩) _) (ownFrom_below (Nat.le_refl _) Xt0))
  (fun c s X Y row hs hg hr => hs)
  ⟨⟨_, bL, World.ownsRow_nil _ _ _ _⟩, hbw⟩
  (fun x a' W => ∃ B, a' = { tmps := #[.slice none 0 0, .func (.func 99) #[] #[.pointer (some ⟨Bs, 0, none⟩)], .pointer (some ⟨w.heap.size, 0, none⟩), undef, .slice none 0 0, .pointer (some ⟨B, 0, none⟩), .func (.func 99) #[] #[.pointer (some ⟨Bs, 0, none⟩)], .agg (wcl x).toArray, undef, undef, undef, undef, undef], defers := [] } /\ zg_ W B (wcl x).toArray 84 /\ w.heap.size < B)
  (fun x a' => Own.from (fun s X Y row hs hg hr => by obtain ⟨B, h1, h2, h3⟩ := hs; exact ⟨B, h1, boxc_own h2 hg hr, h3⟩) _)
  ?assign ?body ?done ?stop
 case assign =>
  rintro lp pre x W K hI hK
  dsimp only [encW]
  obtain ⟨⟨v, hI1, hI2⟩, hI3⟩ := hI
  have hsW := hI1.lt
  unfold wcl RV.v
  gi_wp2
  exact hK _ _ ((KeepsOthers.alloc W _).from _) ((Below.refl w.heap.size W).alloc Xt0 _) ⟨⟨v, hI1.alloc _, hI2.alloc _⟩, hI3.alloc Xt0 _⟩ ⟨W.heap.size, rfl, zg_.new W _ _, hsW⟩
 case body =>
  rintro lp pre x a' W hl ⟨r0, hr0⟩ ⟨⟨v, bL1, own1⟩, hB1⟩ ⟨B, rfl, hbx, hBB⟩ hlt
  have cL := bL1.cell
  have fL := bL1.frozen
  have x0 := hbx.cell 0
  have x1 := hbx.cell 1
  have x2 := hbx.cell 2
  unfold wcl RV.v at x0 x1 x2
  simp only [gtA, gtB, gtC] at x0 x1 x2
  have hw2 : w.heap.size + 1 <= W.heap.size := by have := (Array.getElem?_eq_some_iff.1 hr0).1; omega
  clear hr0
  have HPL := hid (show pre.length < 1000000 by have := HN2.out; omega)
  clear hlt
  gi_wp2_with (gi_at_builtin; go_loud (refine wpListIn_append_own _ rfl _ _ 41 rfl w.heap.size 84 i0 (.agg #[.int .i64 0, .slice none 0 0, .slice none 0 0]) 3 56 underlying41 hi hz0 hz1 hz2 rfl Xt4 _ _ _ rfl (own1.alloc _) ⟨W.heap.size, 0, none⟩ 1 1 (wcl x) rfl rfl (zx_ W _ _ _ rfl) (wcl_one x) Xt45 Xt62 Xt7 ?_))
  intro v' W1 hown' hgrow _
  have hne : some w.heap.size ≠ v.ownBlock := fun e => by
   obtain ⟨_, _, cur, hb⟩ := zb_ own1 e.symm
   exact zo_ hb (show zg_ W w.heap.size #[v] 41 from bL1) Xt4 rfl
  have bL2 : Boxed W1 w.heap.size 41 v := (bL1.alloc _).kept hgrow hne
  have ko := (KeepsOthers.alloc W (.cells (wcl x).toArray 84)).trans (yU_ (own1.alloc _) hgrow)
  have hBW : Below w.heap.size W W1 := ((Below.refl w.heap.size W).alloc Xt0 _).grown hgrow Xt7 (fun j hj => (own1.lt j hj).1)
  have hB2 : Below w.heap.size w W1 := hB1.trans hBW
  have cL2 := bL2.cell
  have fL2 := bL2.frozen
  have hl2 := bL2.lt
  have hown2 : W1.ownsRow w.heap.size 84 3 v' (pre ++ [x]).length (cellsOf wcl (pre ++ [x])) := by
   have e : (pre ++ [x]).length = pre.length + 1 := by simp
   rw [e, zq_]
   exact hown'
  clear cL fL bL1 hgrow own1 hown' x0 x1 x2
  obtain ⟨g, gc, rfl⟩ := zd_ hown2
  gi_wp2_with fail
  refine ⟨(ko.trans (KeepsOthers.setCell _ _ _)).from _, hBW.setCell (p := ⟨w.heap.size, 0, none⟩) (Nat.le_refl _) _, ⟨_, xK_ _ _ _ _ _ bL2, ?_⟩, hB2.setCell (p := ⟨w.heap.size, 0, none⟩) (Nat.le_refl _) _⟩
  have hfin := fun u => ownsRow_setCell_other (a := ⟨w.heap.size, 0, none⟩) hown2 (fun e => by
   obtain ⟨_, _, cur, hb⟩ := zb_ hown2 e
   exact zo_ hb (show zg_ W1 w.heap.size #[v] 41 from bL2) Xt4 rfl) u
  have hlen : (pre ++ [x]).length = pre.length + 1 := by simp
  rw [hlen] at hfin ⊢
  exact hfin _
 case done =>
  rintro Dd zs W hD hzs ⟨⟨v, bL1, own1⟩, hB1⟩ hK
  have cL := bL1.cell
  subst hzs
  gi_wp2
  refine ⟨by simp, .inl ⟨_, _, rfl, run_takeDeferred hK, ?_⟩⟩
  refine ⟨v, ?_, v, rfl, yC_ own1 (grownBy_putObj' W Dd (.deferred none)) Xt56, hB1.trans (belowK_b (w := w) (Nat.le_refl _) W Dd _ _ Xt0 hK rfl rfl)⟩
  simp [results, f129, go_sem]
 case stop =>
  rintro Dd c pre W hD _ hf hK
  exact hf.elim
end
section
open Go.Maps
theorem Qn_ (w : World) (Bs : Nat) (a : Option Addr) (n c : Nat) (L : List WtV) (hBs : Boxed w Bs 41 (.slice a n c)) (hn : L.length = n) (hn2 : n <= 1000000) (hL : WtC w a L) :
  Calls prog 97 #[.func (.func 99) #[] #[.pointer (some ⟨Bs, 0, none⟩)]] w (AppW L w.heap.size w) := by
 have HA := hid (wapp_law w Bs a n c L hBs hn hn2 hL)
 clear hBs hn hn2 hL
 go_enter func97, ntmps97
 go_wp2_with (go_at_call 129; refine HA.out.mono ?_; rintro e w' ⟨v, rfl, h2, h3⟩; replace h2 := hid h2; replace h3 := hid h3)
 go_ret
 exact ⟨v, rfl, h2.out, h3.out⟩
theorem wsorted_law (w : World) (Bs : Nat) (a : Option Addr) (n c : Nat) (L : List WtV) (hBs : Boxed w Bs 41 (.slice a n c)) (hn : L.length = n) (hn2 : n <= 1000000) (hL : WtC w a L) (hok : ∀ y ∈ L, (Byt y.K /\ y.t <= 1000000) /\ Ls .u8 w y.ka y.kc y.K) :
  Calls prog 67 #[.func (.func 99) #[] #[.pointer (some ⟨Bs, 0, none⟩)], .func (.func 69) #[] #[]] w fun r w' => ∃ (a : Option Addr) (c : Nat) (E : List WtV), r = .returned (.slice a n c) /\ E.Perm L /\ (E.Pairwise fun x y => ltW y x = false) /\ w'.ownsRow w.heap.size 84 3 (.slice a n c) n (cellsOf wcl E) /\ Below w.heap.size w w' := by
 have HA := hid (Qn_ w Bs a n c L hBs hn hn2 hL)
 have HOK := hid hok
 have HN := hid hn
 have HN2 := hid hn2
 clear hBs hn hn2 hL hok
 go_enter func67, ntmps67
 go_wp2_with fail
 refine HA.out.mono ?_; rintro e w1 ⟨v, rfl, h2, h3⟩
 rw [HN.out] at h2
 obtain ⟨a1, c1, rfl⟩ := zd_ h2
 have HO := hid h2
 have HB := hid h3
 have HS := hid (wsort_law w1 w.heap.size a1 n c1 L HN.out (by have := HN2.out; omega) h2 (fun y hy => ⟨(HOK.out y hy).1, fun W' o => by
  have hb : Below w.heap.size w W' := Off.below h3 o h3.size (fun k hk => (zb_ h2 hk).1)
  exact (HOK.out y hy).2.below hb⟩))
 clear h2 h3
 go_wp2_with fail
 refine HS.out.mono ?_; rintro e w2 ⟨rfl, E, hp, hs, ho, hoff⟩
 have HE := hid (And.intro hp (And.intro hs ho))
 have HB2 := hid (Off.below HB.out hoff HB.out.size (fun k hk => (zb_ HO.out hk).1))
 clear hp hs ho hoff
 go_wp2_with fail
 go_ret
 exact ⟨a1, c1, E, rfl, HE.out.1, HE.out.2.1, HE.out.2.2, HB2.out⟩
def Qc_ (S : Nat -> Prop) (w : World) (m : Md) (x : z0_) (r : Ending) (w' : World) : Prop :=
 if yM_ m.j x then ∃ (a : Option Addr) (c : Nat) (E : List WtV), r = .returned (.tuple #[.slice a E.length c, .int .i64 0]) /\ Below w.heap.size w w' /\ (E.map WtV.P).Perm (jG_ m.j m.P x) /\ (E.Pairwise fun x y => ltW y x = false) /\ (∀ y ∈ E, y.t < m.tabs.length /\ zH_ y.K /\ (y.r.R ≠ [] -> rOk y.r.P)) /\ zs_ S w' fun W => WrR W a (E.map WtV.W)
 else r = .returned (.tuple #[.slice none 0 0, .int .i64 2]) /\ Below w.heap.size w w'
theorem xw_ {S : Nat -> Prop} {m : Md} {w : World} (h : MdR S w m) (hS : ∀ k, S k -> k < w.heap.size) (x : z0_) (hx : zR_ w x) (hon : x.on <= 1000000) (hrn : ∀ o ∈ x.ops, o.rn <= 1000000) (hf : ∀ z ∈ m.tabs, z.2.length <= 300000) :
  Calls prog 25 #[.pointer (some ⟨m.p, 0, none⟩), .agg #[.slice x.oa x.on x.oc, .bool x.sn, .bool x.ab]] w (Qc_ S w m x) := by
 have HH := hid (And.intro h (And.intro hS hf))
 have hb : Below w.heap.size w (w.alloc (.cells #[.slice x.oa x.on x.oc, .bool x.sn, .bool x.ab] 38)) := bl1 _ _
 have HB := hid hb
 have HTR := hid (qH_ esort (h.below hb) (fun k hk => Nat.lt_of_lt_of_le (hS k hk) hb.size) x (hx.below hb) hon hrn hf)
 have HFW := hid h.few
 clear h hS hx hon hrn hf hb
 go_enter func25, ntmps25
 go_wp2_with fail
 refine HTR.out.mono ?_; intro r w2 hr
 unfold TrR at hr
 cases hm : yM_ m.j x with
 | false =>
  rw [hm] at hr
  obtain ⟨rfl, hb2⟩ := hr
  have HB2 := hid (HB.out.trans (hb2.mono HB.out.size))
  have HR := hid (fun r w' (hh : r = .returned (.tuple #[.slice none 0 0, .int .i64 2]) /\ Below w.heap.size w w') => (by unfold Qc_; rw [hm]; exact hh : Qc_ S w m x r w'))
  clear hm hb2
  exact Xb62
 | true =>
  rw [hm] at hr
  obtain ⟨S', base, px, wv, rv, ws, rs, rfl, hb2, hbs, ho, hss, _, hrs, hws⟩ := hr
  have HB2 := hid (HB.out.trans (hb2.mono HB.out.size))
  obtain ⟨a1, c1, e1⟩ := zd_ ho.own
  have hown := ho.own
  rw [e1] at hown
  have c2 := ho.c2
  rw [e1] at c2
  have HWS := hid hws
  have HOK := hid ho.wok
  have HST := hid (fun y hy => (ho.wst y hy).less hss)
  have hb3 : Below w2.heap.size w2 (w2.alloc (.cells #[.slice a1 ws.length c1] 41)) := bl1 _ _
  obtain ⟨w3, hw3⟩ := gty (w2.alloc (.cells #[.slice a1 ws.length c1] 41))
  rw [← hw3] at hb3
  have HB3 := hid hb3
  have HSF := hid (wsorted_law w3 w2.heap.size a1 ws.length c1 ws (by rw [hw3]; exact Boxed.new w2 41 (.slice a1 ws.length c1)) rfl (by have := ho.few; omega) ((own_wtc hown rfl).below (B := 0) hb3) (fun y hy => ⟨⟨(ho.wok y hy).2.1.1, by have := (ho.wok y hy).1; have := HFW.out; omega⟩, ((ho.wst y hy).below hb3).now.1⟩))
  have HR := hid (fun r w' (hh : ∃ (a : Option Addr) (c : Nat) (E : List WtV), r = .returned (.tuple #[.slice a E.length c, .int .i64 0]) /\ Below w.heap.size w w' /\ (E.map WtV.P).Perm (jG_ m.j m.P x) /\ (E.Pairwise fun x y => ltW y x = false) /\ (∀ y ∈ E, y.t < m.tabs.length /\ zH_ y.K /\ (y.r.R ≠ [] -> rOk y.r.P)) /\ zs_ S w' fun W => WrR W a (E.map WtV.W)) => (by unfold Qc_; rw [hm]; exact hh : Qc_ S w m x r w'))
  clear hm hb2 hbs ho hss hrs hws e1 hown hb3
  go_wp2_with fail
  refine (wvals_law w2 (.slice a1 ws.length c1) a1 ws.length c1 rfl).mono ?_; rintro e w' ⟨rfl, rfl⟩
  rw [← hw3]
  clear hw3
  go_wp2_with fail
  refine HSF.out.mono ?_; rintro e w4 ⟨a2, c2, E, rfl, hp, hs, ho, hbf⟩
  have HE := hid (And.intro hp (And.intro hs ho))
  have HB4 := hid hbf
  clear hp hs ho hbf
  go_wp2_with fail
  go_ret2
  have hl : E.length = ws.length := HE.out.1.length_eq
  have hB24 := HB3.out.trans (HB4.out.mono HB3.out.size)
  refine HR.out _ _ ⟨a2, c2, E, by rw [hl]; rfl, HB2.out.trans (hB24.mono HB2.out.size), ?_, HE.out.2.1, fun y hy => HOK.out y (HE.out.1.mem_iff.1 hy), fun W' o => ?_⟩
  ·have h1 := HE.out.1.map WtV.P
   rw [HWS.out] at h1
   exact h1
  ·have h2 := zl_ HE.out.2.2 o (fun k hk => Nat.lt_of_lt_of_le (HH.out.2.1 k hk) (Nat.le_trans HB2.out.size HB3.out.size))
   exact own_wr h2 hl fun y hy => ((HST.out y (HE.out.1.mem_iff.1 hy)).below hB24) W' o
theorem writes_law {S : Nat -> Prop} {m : Md} {w : World} (h : MdR S w m) (hS : ∀ k, S k -> k < w.heap.size) (x : z0_) (hx : zs_ S w fun W => zR_ W x) (hon : x.on <= 1000000) (hrn : ∀ o ∈ x.ops, o.rn <= 1000000) (hf : ∀ z ∈ m.tabs, z.2.length <= 300000) :
  Calls prog 25 #[.pointer (some ⟨m.p, 0, none⟩), .agg #[.slice x.oa x.on x.oc, .bool x.sn, .bool x.ab]] w (Qc_ S w m x) := xw_ h hS x hx.now hon hrn hf
def ClI (L : List Int) (n : Nat) (w : World) (r : Ending) (w' : World) : Prop := ∃ a' c', r = .returned (.slice a' n c') /\ w'.ownsRow w.heap.size 3 1 (.slice a' n c') n (iv .i64 L)
theorem iclone_law (a : Option Addr) (L : List Int) (n cap : Nat) (hL : L.length = n) (hn : n <= 1000000) (w : World) (hA : Ls .i64 w a cap L) :
  Calls prog 37 #[.slice a n cap] w fun r w' => ClI L n w r w' /\ Below w.heap.size w w' := by
 have HA := hid hA
 have HL := hid hL
 rcases a with _ | a
 ·obtain ⟨rfl, rfl⟩ := hA.nl rfl
  simp only [List.length_nil] at hL
  subst hL
  have hsn : ∀ W, (binOp .eql 22 (.slice none 0 0) (.slice none 0 0)).run prog W = .ok (.bool true) W := fun W => Lib.run_eql_slice_nil W 22 3 none 0 0 0 0 underlying22
  clear hA
  go_enter func37, ntmps37
  exact Xb106
 ·clear hA hL
  have hsn : ∀ W, (binOp .eql 22 (.slice (some a) n cap) (.slice none 0 0)).run prog W = .ok (.bool false) W := fun W => Lib.run_eql_slice_nil W 22 3 (some a) n cap 0 0 underlying22
  go_enter func37, ntmps37
  go_wp2_with (at_builtin; refine zB_ eltI rfl (.tmp 5) (.tmp 6) rfl w.heap.size _ 0 [] rfl (World.ownsRow_lit w #[] 0 (Nat.le_refl _) Xt4 rfl) _ _ n L HL.out rfl (HA.out.below ((Below.refl _ _).alloc (Nat.le_refl _) _)) Xt0 Xt5 ?_)
  exact Xb42
end
end Go.Proofs.YthmofoldmdafoaaGreat
