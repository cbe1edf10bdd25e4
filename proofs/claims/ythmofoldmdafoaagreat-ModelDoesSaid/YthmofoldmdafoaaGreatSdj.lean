/- Part of the proof that ModelDoes holds for every input: tables, under any transactions, answer, write and stand as the document says. Part 10. -/
import Derived.Test.YthmofoldmdafoaaGreatSdi
set_option linter.unusedVariables false
set_option linter.unusedSimpArgs false
set_option maxRecDepth 100000
set_option maxHeartbeats 4000000
namespace Go.Proofs.YthmofoldmdafoaaGreat
open Go.ChangeShapes Go.WideShapes Go.ChangeAt Go.RowKit
open Go.Lib (hid)
open Go.Proofs.Tryz
section
open Go.Shelf
def OpsR (W : World) (a : Option Addr) (L : List zj_) : Prop := ∀ (k : Nat) (o : zj_), L[k]? = some o -> ∃ b off, a = some ⟨b, off, none⟩ /\ (W.cell? ⟨b, off + k * 7, none⟩ = some (.int .i64 o.k) /\ W.cell? ⟨b, off + k * 7 + 1, none⟩ = some (.int .i64 o.t) /\ W.cell? ⟨b, off + k * 7 + 2, none⟩ = some (.int .i64 o.i) /\ W.cell? ⟨b, off + k * 7 + 3, none⟩ = some (.slice o.ka o.kn o.kc) /\ W.cell? ⟨b, off + k * 7 + 4, none⟩ = some (.slice o.ta o.tn o.tc) /\ W.cell? ⟨b, off + k * 7 + 5, none⟩ = some (.int .i64 o.m) /\ W.cell? ⟨b, off + k * 7 + 6, none⟩ = some (.slice o.ra o.rn o.rc)) /\ zy_ W o
theorem OpsR.below {W W' : World} {a : Option Addr} {L : List zj_} (h : OpsR W a L) (b : Below W.heap.size W W') : OpsR W' a L := fun k o ho => by
 obtain ⟨g, off, e, ⟨h0, h1, h2, h3, h4, h5, h6⟩, hc⟩ := h k o ho
 have f : ∀ {p v}, W.cell? p = some v -> W'.cell? p = some v := fun h => tcb b h
 exact ⟨g, off, e, ⟨f h0, f h1, f h2, f h3, f h4, f h5, f h6⟩, hc.below b⟩
structure z0_ where
 oa : Option Addr
 on : Nat
 oc : Nat
 ops : List zj_
 sn : Bool
 ab : Bool
structure zR_ (W : World) (x : z0_) : Prop where
 os : OpsR W x.oa x.ops
 ol : x.ops.length = x.on
theorem zR_.below {W W' : World} {x : z0_} (h : zR_ W x) (b : Below W.heap.size W W') : zR_ W' x := ⟨h.os.below b, h.ol⟩
def opB (j : Job) (sn : Bool) (o : zj_) : Bool := pO j o && !(sn && kf o.k 5)
def yM_ (j : Job) (x : z0_) : Bool := okB j && decide (x.on <= 16) && !(x.sn && x.ab) && x.ops.all (opB j x.sn)
theorem put_eq {K : Act -> World -> Prop} {a : Act} {d : Option Tmp} {u v : Value} {w : World} (e : u = v) (h : K (a.put d v) w) : K (a.put d u) w := e ▸ h
theorem all_take {α : Type} (L : List α) (f : α -> Bool) {k : Nat} {o : α} (h : L[k]? = some o) : (L.take (k + 1)).all f = ((L.take k).all f && f o) := by
 rw [List.take_add_one, h]; simp
theorem maytxn_law (j : Job) (x : z0_) (hon : x.on <= 1000000) (hrn : ∀ o ∈ x.ops, o.rn <= 1000000) (w : World) (hj : yb_ w j) (hx : zR_ w x) :
  Calls prog 95 #[.agg #[.int .i64 j.w, .int .i64 j.l, .int .i64 j.d, .int .i64 j.c, .int .i64 j.k, .int .i64 j.e, .slice j.a j.n j.cap], .agg #[.slice x.oa x.on x.oc, .bool x.sn, .bool x.ab]] w fun r w' => r = .returned (.bool (yM_ j x)) /\ Below w.heap.size w w' := by
 obtain ⟨hb0, hbx⟩ := yl_ w #[.int .i64 j.w, .int .i64 j.l, .int .i64 j.d, .int .i64 j.c, .int .i64 j.k, .int .i64 j.e, .slice j.a j.n j.cap] #[.slice x.oa x.on x.oc, .bool x.sn, .bool x.ab] 24 38
 have HCK := hid (show qb_ j = if okB j then 0 else 2 from rfl)
 have hlei : (j.n : Int) <= 1000000 := by have := hj.le; omega
 have hoi : (x.on : Int) <= 1000000 := by omega
 have HRN := hid hrn
 obtain ⟨ans, hans⟩ := gtx (yM_ j x)
 obtain ⟨bs, hbs⟩ := gtx ((okB j && decide (x.on <= 16) && !(x.sn && x.ab)))
 have HP := hid (show ans = (bs && x.ops.all (opB j x.sn)) by rw [← hans, ← hbs]; rfl)
 rw [hans]
 have HBS := hid hbs
 obtain ⟨sn, hsn⟩ := gtx (x.sn)
 obtain ⟨ab, hab⟩ := gtx (x.ab)
 rw [hsn] at HP HBS
 rw [hab] at HBS
 rw [hsn, hab] at hb0 hbx ⊢
 clear hans hbs hrn hsn hab
 go_enter func95, ntmps95
 go_upto_region 1 with (fail)
 generalize ((w.alloc (.cells #[.int .i64 j.w, .int .i64 j.l, .int .i64 j.d, .int .i64 j.c, .int .i64 j.k, .int .i64 j.e, .slice j.a j.n j.cap] 24)).alloc (.cells #[.slice x.oa x.on x.oc, .bool sn, .bool ab] 38)) = W0 at *
 have FG := hid (fun W (b : Below W0.heap.size W0 W) => (by
  obtain ⟨x, y⟩ := hbx W b
  exact ⟨x.cell 0, x.cell 1, x.cell 2, x.cell 3, x.cell 4, x.cell 5, x.cell 6⟩ : W.cell? ⟨w.heap.size, 0, none⟩ = some (.int .i64 j.w) /\ W.cell? ⟨w.heap.size, 1, none⟩ = some (.int .i64 j.l) /\ W.cell? ⟨w.heap.size, 2, none⟩ = some (.int .i64 j.d) /\ W.cell? ⟨w.heap.size, 3, none⟩ = some (.int .i64 j.c) /\ W.cell? ⟨w.heap.size, 4, none⟩ = some (.int .i64 j.k) /\ W.cell? ⟨w.heap.size, 5, none⟩ = some (.int .i64 j.e) /\ W.cell? ⟨w.heap.size, 6, none⟩ = some (.slice j.a j.n j.cap)))
 have FX := hid (fun W (b : Below W0.heap.size W0 W) => (by
  obtain ⟨y, z⟩ := hbx W b
  exact ⟨z.cell 0, z.cell 1, z.cell 2⟩ : W.cell? ⟨w.heap.size + 1, 0, none⟩ = some (.slice x.oa x.on x.oc) /\ W.cell? ⟨w.heap.size + 1, 1, none⟩ = some (.bool sn) /\ W.cell? ⟨w.heap.size + 1, 2, none⟩ = some (.bool ab)))
 have FJ := hid (fun W (b : Below W0.heap.size W0 W) => (hj.below hb0).below b)
 have FO := hid (fun W (b : Below W0.heap.size W0 W) => (hx.below hb0).below b)
 have HB0 := hid hb0
 have HOL := hid hx.ol
 clear hb0 hbx hj hx
 go_cut [5] (fun v wx => v = .bool bs /\ Hid (Below W0.heap.size W0 wx))
 case first =>
  obtain ⟨g0, g1, g2, g3, g4, g5, g6⟩ := FG.out _ (Below.refl _ _)
  go_wp2_with fail
  refine (x5_ j W0 (FJ.out _ (Below.refl _ _))).mono ?_; rintro r w3 ⟨rfl, B3⟩
  have HBW := hid B3
  rw [HCK.out]
  clear B3
  obtain ⟨x0, x1, x2⟩ := FX.out _ HBW.out
  obtain ⟨ok, hok⟩ := gtx (okB j)
  rw [hok] at HBS ⊢
  clear hok
  by_cases h16 : x.on <= 16
  ·have h16i : (x.on : Int) <= 16 := by omega
   have hd : decide (x.on <= 16) = true := decide_eq_true h16
   rw [hd] at HBS
   clear hd
   cases ok
   all_goals cases sn
   all_goals cases ab
   all_goals
    exact Xb94
  ·have h16i : ¬ (x.on : Int) <= 16 := by omega
   have hd : decide (x.on <= 16) = false := decide_eq_false h16
   rw [hd] at HBS
   clear hd
   cases ok
   all_goals
    exact Xb94
 case rest =>
  obtain ⟨rfl, HBW⟩ := hcut
  clear HBS
  obtain ⟨w3, hw3⟩ := gty (wc)
  rw [← hw3] at HBW ⊢
  clear hw3
  obtain ⟨x0, x1, x2⟩ := FX.out _ HBW.out
  go_wp2_with fail
  go_loopw [5, 29] (fun v i wr => ∃ k : Nat, k <= x.on /\ i = .int .i64 (k : Int) /\ v = .bool (bs && (x.ops.take k).all (opB j sn)) /\ Hid (Below w3.heap.size w3 wr)) (fun _ i _ => x.on - (intOf i).toNat)
  case atStart => exact ⟨0, by omega, rfl, by simp, hid (Below.refl _ _)⟩
  case round =>
   obtain ⟨k, hk, rfl, rfl, BR⟩ := hrel
   clear x0 x1 x2
   obtain ⟨bk, hbk⟩ := gtx ((bs && (x.ops.take k).all (opB j sn)))
   rw [hbk]
   by_cases hlt : k < x.on
   ·have hkl : (k : Int) < (x.on : Int) := by omega
    obtain ⟨o, ho⟩ : ∃ o, x.ops[k]? = some o := ⟨_, List.getElem?_eq_getElem (by rw [HOL.out]; exact hlt)⟩
    have HN := hid (show (bs && (x.ops.take (k + 1)).all (opB j sn)) = (bk && opB j sn o) by rw [all_take _ _ ho, ← Bool.and_assoc, hbk])
    have hor := HRN.out o (List.mem_of_getElem? ho)
    obtain ⟨b1, o1, ea, ⟨d0, d1, d2, d3, d4, d5, d6⟩, hc⟩ := (FO.out _ (za_ HBW.out BR.out)).os k o ho
    have HOB := hid (show opB j sn o = (pO j o && !(sn && kf o.k 5)) from rfl)
    have HEA := hid ea
    have HC := hid hc
    have HLT := hid hlt
    have HBX := zg_.new wr #[.int .i64 o.k, .int .i64 o.t, .int .i64 o.i, .slice o.ka o.kn o.kc, .slice o.ta o.tn o.tc, .int .i64 o.m, .slice o.ra o.rn o.rc] 74
    have HB98 : Below wr.heap.size wr (wr.alloc (.cells #[.int .i64 o.k, .int .i64 o.t, .int .i64 o.i, .slice o.ka o.kn o.kc, .slice o.ta o.tn o.tc, .int .i64 o.m, .slice o.ra o.rn o.rc] 74)) := (Below.refl _ _).alloc (Nat.le_refl _) _
    have H98 := hid HB98
    have H99 := hid (za_ BR.out HB98)
    have HCB := hid HBX
    clear hbk ho hc hlt HBX HB98
    rw [ea]
    obtain ⟨pb, hpb⟩ := gtx (pO j o)
    obtain ⟨f5, hf5⟩ := gtx (kf o.k 5)
    have HM := hid (fun W (b : Below wr.heap.size wr W) => (by have h := QD_ j o hor W (FJ.out _ (za_ (za_ HBW.out BR.out) b)) (HC.out.below b); rwa [hpb] at h : Calls prog 121 #[.agg #[.int .i64 j.w, .int .i64 j.l, .int .i64 j.d, .int .i64 j.c, .int .i64 j.k, .int .i64 j.e, .slice j.a j.n j.cap], .agg #[.int .i64 o.k, .int .i64 o.t, .int .i64 o.i, .slice o.ka o.kn o.kc, .slice o.ta o.tn o.tc, .int .i64 o.m, .slice o.ra o.rn o.rc]] W fun r w' => r = .returned (.bool pb) /\ Below W.heap.size W w'))
    have HKD := hid (fun W => (by have h := jX_ o.k o.t o.i o.m o.ka o.ta o.ra o.kn o.kc o.tn o.tc o.rn o.rc W; rwa [hf5] at h : Calls prog 122 #[.agg #[.int .i64 o.k, .int .i64 o.t, .int .i64 o.i, .slice o.ka o.kn o.kc, .slice o.ta o.tn o.tc, .int .i64 o.m, .slice o.ra o.rn o.rc]] W fun r w' => r = .returned (kN (kf o.k 0) (kf o.k 1) (kf o.k 2) (kf o.k 3) (kf o.k 4) f5) /\ Below W.heap.size W w'))
    rw [hpb, hf5] at HOB
    clear hpb hf5 ea
    cases bk
    ·go_wp2_with fail
     go_roundw
     case rel => exact ⟨k + 1, by have := HLT.out; omega, by go_num, by rw [HN.out]; rfl, H99⟩
     case measure => simp [intOf]; have := HLT.out; omega
    ·obtain ⟨g0, g1, g2, g3, g4, g5, g6⟩ := FG.out _ (za_ HBW.out H99.out)
     go_wp2_with fail
     generalize wr.alloc (.cells #[.int .i64 o.k, .int .i64 o.t, .int .i64 o.i, .slice o.ka o.kn o.kc, .slice o.ta o.tn o.tc, .int .i64 o.m, .slice o.ra o.rn o.rc] 74) = W9 at *
     refine (HM.out _ H98.out).mono ?_; rintro r w5 ⟨rfl, B5⟩
     have H5 := hid (za_ H99.out B5)
     have hcb := HCB.out.below B5
     obtain ⟨x0, x1, x2⟩ := FX.out _ (za_ HBW.out H5.out)
     have c0 := hcb.cell 0
     have c1 := hcb.cell 1
     have c2 := hcb.cell 2
     have c3 := hcb.cell 3
     have c4 := hcb.cell 4
     have c5 := hcb.cell 5
     have c6 := hcb.cell 6
     simp only [gtA, gtB, gtC] at c0 c1 c2 c3 c4 c5 c6
     clear B5 hcb g0 g1 g2 g3 g4 g5 g6
     cases pb
     ·exact Xb66
     ·cases sn
      ·exact Xb66
      ·go_wp2_with fail
       refine (HKD.out _).mono ?_; rintro r w6 ⟨rfl, B6⟩
       unfold kN
       have H6 := hid (za_ H5.out B6)
       clear B6 x0 x1 x2 c0 c1 c2 c3 c4 c5 c6
       go_wp2_with fail
       refine put_eq (v := .bool f5) rfl ?_
       go_wp2_with fail
       go_roundw
       case rel => exact ⟨k + 1, by have := HLT.out; omega, by go_num, by rw [HN.out, HOB.out]; simp, H6⟩
       case measure => simp [intOf]; have := HLT.out; omega
   ·have hkl : ¬ (k : Int) < (x.on : Int) := by omega
    have HE := hid (show ans = bk by rw [HP.out, ← hbk, List.take_of_length_le (by rw [HOL.out]; omega)])
    clear hbk
    go_wp2_with fail
    go_ret
    exact ⟨zc_ HE.out.symm, za_ HB0.out (za_ HBW.out BR.out)⟩
theorem boxes3' (w : World) (A B C : Array Value) (a b c : TypeId) : Below w.heap.size w (((w.alloc (.cells A a)).alloc (.cells B b)).alloc (.cells C c)) /\ ∀ W, Below (((w.alloc (.cells A a)).alloc (.cells B b)).alloc (.cells C c)).heap.size (((w.alloc (.cells A a)).alloc (.cells B b)).alloc (.cells C c)) W -> zg_ W w.heap.size A a /\ zg_ W (w.heap.size + 1) B b /\ zg_ W (w.heap.size + 1 + 1) C c := by
 refine ⟨(((Below.refl _ _).alloc (Nat.le_refl _) _).alloc Xt5 _).alloc Xt7 _, fun W h => ?_⟩
 have e1 := zg_.new w A a
 have e2 := zg_.new (w.alloc (.cells A a)) B b
 have e3 := zg_.new ((w.alloc (.cells A a)).alloc (.cells B b)) C c
 have b2 : Below (w.alloc (.cells A a)).heap.size (w.alloc (.cells A a)) ((w.alloc (.cells A a)).alloc (.cells B b)) := (Below.refl _ _).alloc (Nat.le_refl _) _
 have b3 : Below ((w.alloc (.cells A a)).alloc (.cells B b)).heap.size ((w.alloc (.cells A a)).alloc (.cells B b)) (((w.alloc (.cells A a)).alloc (.cells B b)).alloc (.cells C c)) := (Below.refl _ _).alloc (Nat.le_refl _) _
 refine ⟨((e1.below b2).below b3).below h, ?_, ?_⟩
 ·have := (e2.below b3).below h
  simpa using this
 ·have := e3.below h
  simpa using this
abbrev RgT := Int × List Int × List Int × Bool × Int
def zD_ (j : Job) (o : zj_) : RgT := if pO j o && kf o.k 3 then (if kf o.k 4 then ((trV j o.t o.i).1, zk_ o.K, zk_ o.T, decide (0 < o.tn), 0) else ((trV j o.t (-1)).1, o.K, o.T, decide (0 < o.tn), 0)) else (0, [], [], false, 2)
def RgP (V : RgT) (r : Ending) (w' : World) : Prop := ∃ (fa : Option Addr) (fc : Nat) (ta : Option Addr) (tc : Nat), r = .returned (.tuple #[.agg #[.int .i64 V.1, .slice fa V.2.1.length fc, .slice ta V.2.2.1.length tc, .bool V.2.2.2.1], .int .i64 V.2.2.2.2]) /\ Ls .u8 w' fa fc V.2.1 /\ Ls .u8 w' ta tc V.2.2.1
theorem qs_ {W : World} {a : Option Addr} {cap : Nat} {L : List Int} (h : Ls .u8 W a cap L) {p : Addr} {v : Value} (hp : W.cell? p = some v) (hv : ∀ x, v ≠ .int .u8 x) (u : Value) : Ls .u8 (W.setCell p u) a cap L := ⟨fun k hk => by
 obtain ⟨b, off, e, c⟩ := h.rd k hk
 refine ⟨b, off, e, ?_⟩
 rw [World.cell?_setCell_other W p ⟨b, off + k, none⟩ _ (by rintro rfl; rw [c] at hp; cases hp; exact hv _ rfl)]
 exact c, h.nl, h.le⟩
structure Set4 (b0 : Nat) (w W : World) (B : Nat) (c0 c1 c2 c3 v0 v1 v2 v3 : Value) : Prop where
 box : zg_ ((((W.setCell ⟨B, 0, none⟩ v0).setCell ⟨B, 1, none⟩ v1).setCell ⟨B, 2, none⟩ v2).setCell ⟨B, 3, none⟩ v3) B #[v0, v1, v2, v3] 169
 bel : Below b0 w ((((W.setCell ⟨B, 0, none⟩ v0).setCell ⟨B, 1, none⟩ v1).setCell ⟨B, 2, none⟩ v2).setCell ⟨B, 3, none⟩ v3)
 ls : ∀ {a cap L}, Ls .u8 W a cap L -> Ls .u8 ((((W.setCell ⟨B, 0, none⟩ v0).setCell ⟨B, 1, none⟩ v1).setCell ⟨B, 2, none⟩ v2).setCell ⟨B, 3, none⟩ v3) a cap L
theorem set4 {b0 : Nat} {w W : World} {B : Nat} {c0 c1 c2 c3 : Value} (hb : zg_ W B #[c0, c1, c2, c3] 169) (h : Below b0 w W) (hB : b0 <= B) (n0 : ∀ x, c0 ≠ .int .u8 x) (n1 : ∀ x, c1 ≠ .int .u8 x) (n2 : ∀ x, c2 ≠ .int .u8 x) (n3 : ∀ x, c3 ≠ .int .u8 x) (v0 v1 v2 v3 : Value) : Set4 b0 w W B c0 c1 c2 c3 v0 v1 v2 v3 := by
 have h1 := hb.setC 0 v0
 have h2 := h1.setC 1 v1
 have h3 := h2.setC 2 v2
 have h4 := h3.setC 3 v3
 simp only [List.setIfInBounds_toArray, List.set_cons_zero, List.set_cons_succ] at h1 h2 h3 h4
 refine ⟨h4, (((h.setCell hB _).setCell hB _).setCell hB _).setCell hB _, fun hl => ?_⟩
 have k1 := qs_ hl (p := ⟨B, 0, none⟩) (v := c0) (hb.cell 0) n0 v0
 have k2 := qs_ k1 (p := ⟨B, 1, none⟩) (v := c1) (h1.cell 1) n1 v1
 have k3 := qs_ k2 (p := ⟨B, 2, none⟩) (v := c2) (h2.cell 2) n2 v2
 exact qs_ k3 (p := ⟨B, 3, none⟩) (v := c3) (h3.cell 3) n3 v3
def Cl2 (o : zj_) (w4 : World) (x y : Value) (wx : World) : Prop := ∃ (fa : Option Addr) (fc : Nat) (ta : Option Addr) (tc : Nat), x = .slice fa o.kn fc /\ y = .slice ta o.tn tc /\ Ls .u8 wx fa fc o.K /\ Ls .u8 wx ta tc o.T /\ Below w4.heap.size w4 wx
theorem pO_len {j : Job} {o : zj_} (h : pO j o = true) (h3 : kf o.k 3 = true) : (o.kn <= 32 /\ o.tn <= 32) /\ (kf o.k 4 = true -> o.kn <= 24 /\ o.tn <= 24) := by
 have he : endB o = true := by
  unfold pO at h
  simp only [Bool.and_eq_true] at h
  exact h.2
 unfold endB mostV at he
 rw [if_pos h3] at he
 cases h4 : kf o.k 4
 ·rw [h4] at he
  simp at he
  exact ⟨by omega, fun h => by cases h⟩
 ·rw [h4] at he
  simp at he
  exact ⟨by omega, fun _ => by omega⟩
theorem xU_ (j : Job) (o : zj_) (hrn : o.rn <= 1000000) (w : World) (hj : yb_ w j) (ho : zy_ w o) :
  Calls prog 141 #[.agg #[.int .i64 j.w, .int .i64 j.l, .int .i64 j.d, .int .i64 j.c, .int .i64 j.k, .int .i64 j.e, .slice j.a j.n j.cap], .agg #[.int .i64 o.k, .int .i64 o.t, .int .i64 o.i, .slice o.ka o.kn o.kc, .slice o.ta o.tn o.tc, .int .i64 o.m, .slice o.ra o.rn o.rc]] w fun r w' => RgP (zD_ j o) r w' /\ Below w.heap.size w w' := by
 obtain ⟨hb0, hbx⟩ := boxes3' w #[.int .i64 j.w, .int .i64 j.l, .int .i64 j.d, .int .i64 j.c, .int .i64 j.k, .int .i64 j.e, .slice j.a j.n j.cap] #[.int .i64 o.k, .int .i64 o.t, .int .i64 o.i, .slice o.ka o.kn o.kc, .slice o.ta o.tn o.tc, .int .i64 o.m, .slice o.ra o.rn o.rc] #[.int .i64 0, .slice none 0 0, .slice none 0 0, .bool false] 24 74 169
 have hlei : (j.n : Int) <= 1000000 := by have := hj.le; omega
 have HV := hid (show zD_ j o = if pO j o && kf o.k 3 then (if kf o.k 4 then ((trV j o.t o.i).1, zk_ o.K, zk_ o.T, decide (0 < o.tn), 0) else ((trV j o.t (-1)).1, o.K, o.T, decide (0 < o.tn), 0)) else (0, [], [], false, 2) from rfl)
 obtain ⟨V, hV⟩ := gtx (zD_ j o)
 rw [hV] at HV ⊢
 clear hV
 go_enter func141, ntmps141
 go_upto_region 1 with (fail)
 generalize (((w.alloc (.cells #[.int .i64 j.w, .int .i64 j.l, .int .i64 j.d, .int .i64 j.c, .int .i64 j.k, .int .i64 j.e, .slice j.a j.n j.cap] 24)).alloc (.cells #[.int .i64 o.k, .int .i64 o.t, .int .i64 o.i, .slice o.ka o.kn o.kc, .slice o.ta o.tn o.tc, .int .i64 o.m, .slice o.ra o.rn o.rc] 74)).alloc (.cells #[.int .i64 0, .slice none 0 0, .slice none 0 0, .bool false] 169)) = W0 at *
 have FG := hid (fun W (b : Below W0.heap.size W0 W) => (by
  obtain ⟨x, y, z⟩ := hbx W b
  exact ⟨x.cell 0, x.cell 1, x.cell 2, x.cell 3, x.cell 4, x.cell 5, x.cell 6, y.cell 0, y.cell 1, y.cell 2, y.cell 3, y.cell 4, y.cell 5, y.cell 6⟩ : W.cell? ⟨w.heap.size, 0, none⟩ = some (.int .i64 j.w) /\ W.cell? ⟨w.heap.size, 1, none⟩ = some (.int .i64 j.l) /\ W.cell? ⟨w.heap.size, 2, none⟩ = some (.int .i64 j.d) /\ W.cell? ⟨w.heap.size, 3, none⟩ = some (.int .i64 j.c) /\ W.cell? ⟨w.heap.size, 4, none⟩ = some (.int .i64 j.k) /\ W.cell? ⟨w.heap.size, 5, none⟩ = some (.int .i64 j.e) /\ W.cell? ⟨w.heap.size, 6, none⟩ = some (.slice j.a j.n j.cap) /\ W.cell? ⟨w.heap.size + 1, 0, none⟩ = some (.int .i64 o.k) /\ W.cell? ⟨w.heap.size + 1, 1, none⟩ = some (.int .i64 o.t) /\ W.cell? ⟨w.heap.size + 1, 2, none⟩ = some (.int .i64 o.i) /\ W.cell? ⟨w.heap.size + 1, 3, none⟩ = some (.slice o.ka o.kn o.kc) /\ W.cell? ⟨w.heap.size + 1, 4, none⟩ = some (.slice o.ta o.tn o.tc) /\ W.cell? ⟨w.heap.size + 1, 5, none⟩ = some (.int .i64 o.m) /\ W.cell? ⟨w.heap.size + 1, 6, none⟩ = some (.slice o.ra o.rn o.rc)))
 have FB := hid (fun W (b : Below W0.heap.size W0 W) => (hbx W b).2.2)
 have FJ := hid (fun W (b : Below W0.heap.size W0 W) => (hj.below hb0).below b)
 have FO := hid (fun W (b : Below W0.heap.size W0 W) => (ho.below hb0).below b)
 have HB0 := hid hb0
 clear hb0 hbx hj ho
 obtain ⟨pb, hpb⟩ := gtx (pO j o)
 obtain ⟨f3, hf3⟩ := gtx (kf o.k 3)
 obtain ⟨f4, hf4⟩ := gtx (kf o.k 4)
 have HPB := hid hpb
 have HMO := hid (by have h := QD_ j o hrn W0 (FJ.out _ (Below.refl _ _)) (FO.out _ (Below.refl _ _)); rwa [hpb] at h : Calls prog 121 #[.agg #[.int .i64 j.w, .int .i64 j.l, .int .i64 j.d, .int .i64 j.c, .int .i64 j.k, .int .i64 j.e, .slice j.a j.n j.cap], .agg #[.int .i64 o.k, .int .i64 o.t, .int .i64 o.i, .slice o.ka o.kn o.kc, .slice o.ta o.tn o.tc, .int .i64 o.m, .slice o.ra o.rn o.rc]] W0 fun r w' => r = .returned (.bool pb) /\ Below W0.heap.size W0 w')
 have HKD := hid (fun W => (by have h := jX_ o.k o.t o.i o.m o.ka o.ta o.ra o.kn o.kc o.tn o.tc o.rn o.rc W; rwa [hf3, hf4] at h : Calls prog 122 #[.agg #[.int .i64 o.k, .int .i64 o.t, .int .i64 o.i, .slice o.ka o.kn o.kc, .slice o.ta o.tn o.tc, .int .i64 o.m, .slice o.ra o.rn o.rc]] W fun r w' => r = .returned (kN (kf o.k 0) (kf o.k 1) (kf o.k 2) f3 f4 (kf o.k 5)) /\ Below W.heap.size W w'))
 have HLEN := hid (fun (h : pO j o = true) (h3 : kf o.k 3 = true) => (pO_len h h3 : (o.kn <= 32 /\ o.tn <= 32) /\ (kf o.k 4 = true -> o.kn <= 24 /\ o.tn <= 24)))
 rw [hpb, hf3, hf4] at HLEN
 rw [hpb, hf3, hf4] at HV
 clear hpb hf3 hf4
 obtain ⟨g0, g1, g2, g3, g4, g5, g6, o0, o1, o2, o3, o4, o5, o6⟩ := FG.out _ (Below.refl _ _)
 go_wp2_with fail
 refine HMO.out.mono ?_; rintro r w3 ⟨rfl, B3⟩
 have HB3 := hid B3
 clear B3 g0 g1 g2 g3 g4 g5 g6 o0 o1 o2 o3 o4 o5 o6
 obtain ⟨g0, g1, g2, g3, g4, g5, g6, o0, o1, o2, o3, o4, o5, o6⟩ := FG.out _ HB3.out
 cases pb
 ·simp only [Bool.false_and, Bool.false_eq_true, if_false, ↓reduceIte] at HV
  have hB := FB.out _ HB3.out
  have q0 := hB.cell 0
  have q1 := hB.cell 1
  have q2 := hB.cell 2
  have q3 := hB.cell 3
  simp only [gtA, gtB, gtC] at q0 q1 q2 q3
  have z0 : w3.frozen? ⟨w.heap.size + 1 + 1, 0, none⟩ = false := frozen_of_row w3 _ 0 _ 169 hB
  have z1 : w3.frozen? ⟨w.heap.size + 1 + 1, 1, none⟩ = false := frozen_of_row w3 _ 1 _ 169 hB
  have z2 : w3.frozen? ⟨w.heap.size + 1 + 1, 2, none⟩ = false := frozen_of_row w3 _ 2 _ 169 hB
  have z3 : w3.frozen? ⟨w.heap.size + 1 + 1, 3, none⟩ = false := frozen_of_row w3 _ 3 _ 169 hB
  have HS4 := hid (set4 hB (za_ HB0.out HB3.out) Xt0 Xt5 Xt5 Xt5 Xt5 (.int .i64 0) (.slice none 0 0) (.slice none 0 0) (.bool false))
  clear hB
  go_wp2_with fail
  refine bodyPost_ret (v := .tuple #[.agg #[.int .i64 0, .slice none 0 0, .slice none 0 0, .bool false], .int .i64 2]) ?_ rfl ⟨⟨none, 0, none, 0, by rw [HV.out]; rfl, by rw [HV.out]; exact Ls.nul _ _, by rw [HV.out]; exact Ls.nul _ _⟩, HS4.out.bel⟩
  exact Xb24
 go_wp2_with fail
 refine (HKD.out _).mono ?_; rintro r w4 ⟨rfl, B4⟩
 unfold kN
 have HB4 := hid (za_ HB3.out B4)
 clear B4 g0 g1 g2 g3 g4 g5 g6 o0 o1 o2 o3 o4 o5 o6
 go_wp2_with fail
 refine put_eq (v := .bool f3) rfl ?_
 cases f3
 ·simp only [Bool.true_and, Bool.false_eq_true, if_false, ↓reduceIte] at HV
  have hB := FB.out _ HB4.out
  have q0 := hB.cell 0
  have q1 := hB.cell 1
  have q2 := hB.cell 2
  have q3 := hB.cell 3
  simp only [gtA, gtB, gtC] at q0 q1 q2 q3
  have z0 : w4.frozen? ⟨w.heap.size + 1 + 1, 0, none⟩ = false := frozen_of_row w4 _ 0 _ 169 hB
  have z1 : w4.frozen? ⟨w.heap.size + 1 + 1, 1, none⟩ = false := frozen_of_row w4 _ 1 _ 169 hB
  have z2 : w4.frozen? ⟨w.heap.size + 1 + 1, 2, none⟩ = false := frozen_of_row w4 _ 2 _ 169 hB
  have z3 : w4.frozen? ⟨w.heap.size + 1 + 1, 3, none⟩ = false := frozen_of_row w4 _ 3 _ 169 hB
  have HS4 := hid (set4 hB (za_ HB0.out HB4.out) Xt0 Xt5 Xt5 Xt5 Xt5 (.int .i64 0) (.slice none 0 0) (.slice none 0 0) (.bool false))
  clear hB
  go_wp2_with fail
  refine bodyPost_ret (v := .tuple #[.agg #[.int .i64 0, .slice none 0 0, .slice none 0 0, .bool false], .int .i64 2]) ?_ rfl ⟨⟨none, 0, none, 0, by rw [HV.out]; rfl, by rw [HV.out]; exact Ls.nul _ _, by rw [HV.out]; exact Ls.nul _ _⟩, HS4.out.bel⟩
  exact Xb24
 simp only [Bool.true_and, if_true, ↓reduceIte] at HV
 obtain ⟨⟨hk32, ht32⟩, h24⟩ := HLEN.out Xt34 Xt34
 have H24 := hid h24
 have HK32 := hid hk32
 have HT32 := hid ht32
 clear h24 hk32 ht32
 go_wp2_with fail
 go_cut [7, 8] (fun x y wx => Cl2 o w4 x y wx)
 case first =>
  refine wp_region_held_drew (S := (fun W => Below w4.heap.size w4 W)) Xt3 ((Below.refl _ _).drew) fun hH => ?_
  refine tkq 0 ?_
  refine tkr 1 rfl Xf25 ?_
  refine tkq 3 ?_
  refine tkr 4 rfl Xf25 ?_
  refine tk1 2 rfl fun K hK => ?_
  go_simp
  refine (QT_ o.ka o.K o.kn o.kc (FO.out _ HB4.out).kl (by have := HK32.out; omega) _ (FO.out _ (za_ HB4.out hH)).ks).mono ?_; rintro r W5 ⟨a5, c5, rfl, l5, B5⟩
  go_wp2_with fail
  refine hK.out _ _ (za_ hH B5) fun hH => ?_
  have L5 := hid l5
  clear l5 B5
  refine stP ?_
  refine tk1 5 rfl fun K hK => ?_
  go_simp
  refine (QT_ o.ta o.T o.tn o.tc (FO.out _ HB4.out).tl (by have := HT32.out; omega) _ (FO.out _ (za_ HB4.out hH)).ts).mono ?_; rintro r W6 ⟨a6, c6, rfl, l6, B6⟩
  go_wp2_with fail
  refine hK.out _ _ (za_ hH B6) fun hH => ?_
  have L6 := hid l6
  have B56 := hid B6
  clear l6 B6
  refine stP ?_
  refine tkq2 6 7 ?_
  refine adn ?_
  go_wp2_with fail
  go_meet
  exact ⟨a5, c5, a6, c6, rfl, rfl, L5.out.below B56.out, L6.out, hH⟩
 case rest =>
  obtain ⟨fa, fc, ta, tc, rfl, rfl, lK, lT, BC⟩ := hcut
  have HBC := hid (za_ HB4.out BC)
  have LK := hid (fun W (b : Below wc.heap.size wc W) => lK.below b)
  have LT := hid (fun W (b : Below wc.heap.size wc W) => lT.below b)
  clear lK lT BC
  obtain ⟨g0, g1, g2, g3, g4, g5, g6, o0, o1, o2, o3, o4, o5, o6⟩ := FG.out _ HBC.out
  go_wp2_with fail
  refine (HKD.out _).mono ?_; rintro r w5 ⟨rfl, B5⟩
  unfold kN
  have HC5 := hid B5
  have HB5 := hid (za_ HBC.out B5)
  clear B5 g0 g1 g2 g3 g4 g5 g6 o0 o1 o2 o3 o4 o5 o6
  obtain ⟨g0, g1, g2, g3, g4, g5, g6, o0, o1, o2, o3, o4, o5, o6⟩ := FG.out _ HB5.out
  go_wp2_with fail
  refine put_eq (v := .bool f4) rfl ?_
  cases f4
  ·simp only [Bool.false_eq_true, if_false, ↓reduceIte] at HV
   go_wp2_with fail
   refine (qu_ j o.t (-1) _ (FJ.out _ HB5.out)).mono ?_; rintro r w6 ⟨rfl, B6⟩
   have HC6 := hid (za_ HC5.out B6)
   have HB6 := hid (za_ HB5.out B6)
   clear B6 g0 g1 g2 g3 g4 g5 g6 o0 o1 o2 o3 o4 o5 o6
   obtain ⟨g0, g1, g2, g3, g4, g5, g6, o0, o1, o2, o3, o4, o5, o6⟩ := FG.out _ HB6.out
   obtain ⟨tr, htr⟩ := gtx ((trV j o.t (-1)).1)
   obtain ⟨er, her⟩ := gtx ((if (trV j o.t (-1)).2.2.2 = true then (0 : Int) else 2))
   rw [htr] at HV ⊢
   rw [her]
   clear htr her
   have hB := FB.out _ HB6.out
   have q0 := hB.cell 0
   have q1 := hB.cell 1
   have q2 := hB.cell 2
   have q3 := hB.cell 3
   simp only [gtA, gtB, gtC] at q0 q1 q2 q3
   have z0 : w6.frozen? ⟨w.heap.size + 1 + 1, 0, none⟩ = false := frozen_of_row w6 _ 0 _ 169 hB
   have z1 : w6.frozen? ⟨w.heap.size + 1 + 1, 1, none⟩ = false := frozen_of_row w6 _ 1 _ 169 hB
   have z2 : w6.frozen? ⟨w.heap.size + 1 + 1, 2, none⟩ = false := frozen_of_row w6 _ 2 _ 169 hB
   have z3 : w6.frozen? ⟨w.heap.size + 1 + 1, 3, none⟩ = false := frozen_of_row w6 _ 3 _ 169 hB
   have HS4 := hid (set4 hB (za_ HB0.out HB6.out) Xt0 Xt5 Xt5 Xt5 Xt5 (.int .i64 tr) (.slice fa o.kn fc) (.slice ta o.tn tc) (.bool (decide (0 < o.tn))))
   clear hB
   go_wp2_with fail
   refine bodyPost_ret (v := .tuple #[.agg #[.int .i64 tr, .slice fa o.kn fc, .slice ta o.tn tc, .bool (decide (0 < o.tn))], .int .i64 0]) ?_ rfl ⟨⟨fa, fc, ta, tc, by rw [HV.out]; simp only [(FO.out _ HB6.out).kl, (FO.out _ HB6.out).tl], by rw [HV.out]; exact HS4.out.ls (LK.out _ HC6.out), by rw [HV.out]; exact HS4.out.ls (LT.out _ HC6.out)⟩, HS4.out.bel⟩
   exact Xb24
  ·simp only [if_true, ↓reduceIte] at HV
   obtain ⟨hk24, ht24⟩ := H24.out Xt34
   go_wp2_with fail
   refine (j2_ o.ka o.K o.kn o.kc (FO.out _ HB5.out).kl hk24 _ (FO.out _ HB5.out).ks).mono ?_; rintro r w6 ⟨pa, pc, rfl, lp, B6⟩
   have HC6 := hid (za_ HC5.out B6)
   have HB6 := hid (za_ HB5.out B6)
   have LP := hid (fun W (b : Below w6.heap.size w6 W) => lp.below b)
   clear B6 lp g0 g1 g2 g3 g4 g5 g6 o0 o1 o2 o3 o4 o5 o6
   obtain ⟨g0, g1, g2, g3, g4, g5, g6, o0, o1, o2, o3, o4, o5, o6⟩ := FG.out _ HB6.out
   go_wp2_with fail
   refine (j2_ o.ta o.T o.tn o.tc (FO.out _ HB6.out).tl ht24 _ (FO.out _ HB6.out).ts).mono ?_; rintro r w7 ⟨qa, qc, rfl, lq, B7⟩
   have HP7 := hid B7
   have HB7 := hid (za_ HB6.out B7)
   have LQ := hid (fun W (b : Below w7.heap.size w7 W) => lq.below b)
   clear B7 lq g0 g1 g2 g3 g4 g5 g6 o0 o1 o2 o3 o4 o5 o6
   obtain ⟨g0, g1, g2, g3, g4, g5, g6, o0, o1, o2, o3, o4, o5, o6⟩ := FG.out _ HB7.out
   go_wp2_with fail
   refine (qu_ j o.t o.i _ (FJ.out _ HB7.out)).mono ?_; rintro r w8 ⟨rfl, B8⟩
   have HQ8 := hid B8
   have HP8 := hid (za_ HP7.out B8)
   have HB8 := hid (za_ HB7.out B8)
   clear B8 g0 g1 g2 g3 g4 g5 g6 o0 o1 o2 o3 o4 o5 o6
   obtain ⟨g0, g1, g2, g3, g4, g5, g6, o0, o1, o2, o3, o4, o5, o6⟩ := FG.out _ HB8.out
   obtain ⟨tr, htr⟩ := gtx ((trV j o.t o.i).1)
   obtain ⟨er, her⟩ := gtx ((if (trV j o.t o.i).2.2.2 = true then (0 : Int) else 2))
   rw [htr] at HV ⊢
   rw [her]
   clear htr her
   have hB := FB.out _ HB8.out
   have q0 := hB.cell 0
   have q1 := hB.cell 1
   have q2 := hB.cell 2
   have q3 := hB.cell 3
   simp only [gtA, gtB, gtC] at q0 q1 q2 q3
   have z0 : w8.frozen? ⟨w.heap.size + 1 + 1, 0, none⟩ = false := frozen_of_row w8 _ 0 _ 169 hB
   have z1 : w8.frozen? ⟨w.heap.size + 1 + 1, 1, none⟩ = false := frozen_of_row w8 _ 1 _ 169 hB
   have z2 : w8.frozen? ⟨w.heap.size + 1 + 1, 2, none⟩ = false := frozen_of_row w8 _ 2 _ 169 hB
   have z3 : w8.frozen? ⟨w.heap.size + 1 + 1, 3, none⟩ = false := frozen_of_row w8 _ 3 _ 169 hB
   have HS4 := hid (set4 hB (za_ HB0.out HB8.out) Xt0 Xt5 Xt5 Xt5 Xt5 (.int .i64 tr) (.slice pa (zk_ o.K).length pc) (.slice qa (zk_ o.T).length qc) (.bool (decide (0 < o.tn))))
   clear hB
   go_wp2_with fail
   refine bodyPost_ret (v := .tuple #[.agg #[.int .i64 tr, .slice pa (zk_ o.K).length pc, .slice qa (zk_ o.T).length qc, .bool (decide (0 < o.tn))], .int .i64 0]) ?_ rfl ⟨⟨pa, pc, qa, qc, by rw [HV.out], by rw [HV.out]; exact HS4.out.ls (LP.out _ HP8.out), by rw [HV.out]; exact HS4.out.ls (LQ.out _ HQ8.out)⟩, HS4.out.bel⟩
   exact Xb24
end
end Go.Proofs.YthmofoldmdafoaaGreat
