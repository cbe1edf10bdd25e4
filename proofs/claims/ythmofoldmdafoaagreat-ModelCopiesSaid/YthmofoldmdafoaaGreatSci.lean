/- Part of the proof that ModelCopies holds for every input: a copy goes on apart; two models are the same just if tables and rows are. Part 9. -/
import Derived.Test.YthmofoldmdafoaaGreatSch
set_option linter.unusedVariables false
set_option linter.unusedSimpArgs false
set_option maxRecDepth 100000
set_option maxHeartbeats 4000000
namespace Go.Proofs.YthmofoldmdafoaaGreat
open Go.ChangeShapes Go.WideShapes Go.ChangeAt Go.RowKit
open Go.Lib (hid)
open Go.Proofs.Tryz
def tcl (x : TbV) : List Value := [.slice x.pa x.P.length x.pc]
theorem tcl_len (x : TbV) : (tcl x).length = 1 := rfl
theorem jy_ {S : Nat -> Prop} {W W' : World} (o : Off S W W') {p : Addr} {v : Value} (h : W.cell? p = some v) (hn : ¬ S p.block) : W'.cell? p = some v := by
 exact Xb106
structure SRc (po p b1 k : Nat) (xv : Value) (ocs fcs : Array Value) (X : World) : Prop where
 o : zg_ X po ocs 48
 m : zg_ X p fcs 48
 t : X.cell? ⟨b1, k, none⟩ = some xv
theorem SRc.off {S3 : Nat -> Prop} {po p b1 k : Nat} {xv : Value} {ocs fcs : Array Value} {X X' : World} (h : SRc po p b1 k xv ocs fcs X) (o : Off S3 X X') (h1 : ¬ S3 po) (h2 : ¬ S3 p) (h3 : ¬ S3 b1) : SRc po p b1 k xv ocs fcs X' :=
 ⟨o.box h.o h1, o.box h.m h2, jy_ o h.t h3⟩
def RCopyR (S : Nat -> Prop) (w : World) (f : Rf) (r : Ending) (w' : World) : Prop :=
 ∃ g : Rf, r = .returned (.pointer (some ⟨g.p, 0, none⟩)) /\ Below w.heap.size w w' /\ w.heap.size <= g.p /\ w.heap.size <= g.b1 /\ g.j = f.j /\ g.Ts.map TbV.P = f.Ts.map TbV.P /\ ∀ S' : Nat -> Prop, (∀ k, S' k -> S k ∨ k = g.p ∨ k = g.b1) -> S' g.p -> S' g.b1 -> RfR S' w' g
theorem QF_ {S : Nat -> Prop} {f : Rf} {w : World} (h : RfR S w f) (hS : ∀ k, S k -> k < w.heap.size) (hl : ∀ x ∈ f.Ts, x.P.length <= 1000000) :
  Calls prog 77 #[.pointer (some ⟨f.p, 0, none⟩)] w (RCopyR S w f) := by
 have HH := hid h
 have HSS := hid hS
 have HL := hid hl
 obtain ⟨n, hn⟩ := gtx (f.Ts.length)
 have HN := hid hn
 have hfw := h.few
 rw [hn] at hfw
 have hbx := h.box
 unfold Rf.cs at hbx
 rw [hn] at hbx
 have HBX := hid hbx
 have c0 := hbx.cell 0
 have c1 := hbx.cell 1
 have c2 := hbx.cell 2
 have c3 := hbx.cell 3
 have c4 := hbx.cell 4
 have c5 := hbx.cell 5
 have c6 := hbx.cell 6
 have c7 := hbx.cell 7
 simp only [gtA, gtB, gtC] at c0 c1 c2 c3 c4 c5 c6 c7
 obtain ⟨w1, hw1⟩ := gty (w.alloc (.cells #[.int .i64 f.j.w, .int .i64 f.j.l, .int .i64 f.j.d, .int .i64 f.j.c, .int .i64 f.j.k, .int .i64 f.j.e, .slice f.j.a f.j.n f.j.cap, .slice none 0 0] 48))
 have hb1 : Below w.heap.size w w1 := by rw [hw1]; exact bl1 _ _
 have hx1 : zg_ w1 w.heap.size #[.int .i64 f.j.w, .int .i64 f.j.l, .int .i64 f.j.d, .int .i64 f.j.c, .int .i64 f.j.k, .int .i64 f.j.e, .slice f.j.a f.j.n f.j.cap, .slice none 0 0] 48 := by rw [hw1]; exact zg_.new _ _ _
 have HB1 := hid hb1
 have HX1 := hid hx1
 clear h hS hl hn hbx hb1 hx1
 go_enter func77, ntmps77
 go_upto_region 4 with (fail)
 clear c0 c1 c2 c3 c4 c5 c6 c7
 rw [← hw1]
 clear hw1
 go_wp2_with fail
 go_loopw [4] (fun i wr => ∃ (k : Nat) (Gs : List TbV) (v : Value), k <= n /\ i = .int .i64 (k : Int) /\ Hid (Gs.length = k) /\ Hid (Gs.map TbV.P = (f.Ts.take k).map TbV.P) /\ Hid (zg_ wr w.heap.size #[.int .i64 f.j.w, .int .i64 f.j.l, .int .i64 f.j.d, .int .i64 f.j.c, .int .i64 f.j.k, .int .i64 f.j.e, .slice f.j.a f.j.n f.j.cap, v] 48) /\ Hid (wr.ownsRow w.heap.size 69 1 v k (cellsOf tcl Gs)) /\ Hid (∀ y ∈ Gs, wr.ownsRow w.heap.size 78 2 (.slice y.pa y.P.length y.pc) y.P.length (zi_ y.P)) /\ Hid (Below w.heap.size w wr)) (fun i _ => n - (intOf i).toNat)
 case atStart => exact ⟨0, [], .slice none 0 0, by omega, rfl, hid rfl, hid rfl, HX1, hid (World.ownsRow_nil _ _ _ _), hid Xt42, HB1⟩
 case round =>
  obtain ⟨k, Gs, v, hk, rfl, HGL, HGP, HOX, HOV, HRW, HBW⟩ := hrel
  have hmx := HBX.out.below HBW.out
  have m7 := hmx.cell 7
  simp only [gtA, gtB, gtC] at m7
  clear hmx
  by_cases hlt : k < n
  ·have d1 : (k : Int) < (n : Int) := by omega
   obtain ⟨x, hx⟩ : ∃ x, f.Ts[k]? = some x := ⟨_, List.getElem?_eq_getElem Xt8⟩
   have hxm : x ∈ f.Ts := List.mem_of_getElem? hx
   obtain ⟨_, _, e0, hxc, hxs⟩ := (HH.out.below HBW.out).tbs k x hx
   cases e0
   rw [Nat.zero_add] at hxc
   have HXS := hid (And.intro hx hxs)
   obtain ⟨xP, hxP⟩ := gtx (x.P)
   obtain ⟨xn, hxn⟩ := gtx (xP.length)
   obtain ⟨xa, hxa⟩ := gtx (x.pa)
   obtain ⟨xc, hxcc⟩ := gtx (x.pc)
   have hx1 := HL.out x hxm
   have hx2 := HH.out.sl x hxm
   have hp1 := hxs.now
   rw [hxP, hxn] at hx1
   rw [hxP, hxn, hxa, hxcc] at hx2
   rw [hxP, hxa] at hp1
   rw [hxP, hxn, hxa, hxcc] at hxc
   have HXN := hid hxn
   have HXP := hid hp1
   have HXL := hid (And.intro hx1 hx2.2)
   have HXE := hid hxP
   have HSX := hid (⟨HOX.out, HBX.out.below HBW.out, hxc⟩ : SRc w.heap.size f.p f.b1 k (.slice xa xn xc) #[.int .i64 f.j.w, .int .i64 f.j.l, .int .i64 f.j.d, .int .i64 f.j.c, .int .i64 f.j.k, .int .i64 f.j.e, .slice f.j.a f.j.n f.j.cap, v] #[.int .i64 f.j.w, .int .i64 f.j.l, .int .i64 f.j.d, .int .i64 f.j.c, .int .i64 f.j.k, .int .i64 f.j.e, .slice f.j.a f.j.n f.j.cap, (.slice (some ⟨f.b1, 0, none⟩) n f.tc)] wr)
   have hlt2 : f.p < w.heap.size /\ f.b1 < w.heap.size := ⟨HSS.out _ HH.out.hp, HSS.out _ HH.out.hb⟩
   have HNV := hid (⟨fun e => by obtain ⟨_, _, cur, hb⟩ := zb_ HOV.out e; exact zo_ hb HOX.out Xt4 rfl, fun e => by have := (zb_ HOV.out e).1; omega, fun e => by have := (zb_ HOV.out e).1; omega⟩ : ¬ v.ownBlock = some w.heap.size /\ ¬ v.ownBlock = some f.p /\ ¬ v.ownBlock = some f.b1)
   clear hx hxm hxs hxP hxn hxa hxcc hx1 hx2 hp1 hxc hlt2
   have hk4 : k + 1 <= 4 := by omega
   go_upto_region 7 with (fail)
   clear m7
   refine zr_ (z := 17) (S := (SRc w.heap.size f.p f.b1 k (.slice xa xn xc) #[.int .i64 f.j.w, .int .i64 f.j.l, .int .i64 f.j.d, .int .i64 f.j.c, .int .i64 f.j.k, .int .i64 f.j.e, .slice f.j.a f.j.n f.j.cap, v] #[.int .i64 f.j.w, .int .i64 f.j.l, .int .i64 f.j.d, .int .i64 f.j.c, .int .i64 f.j.k, .int .i64 f.j.e, .slice f.j.a f.j.n f.j.cap, (.slice (some ⟨f.b1, 0, none⟩) n f.tc)])) Xt3 (HSX.out.off (S3 := fun _ => False) (Off.of (Below.refl _ _).drew) (fun h => h) (fun h => h) (fun h => h)) fun hH => ?_
   refine tlk 0 rfl Xt2 ?_
   refine tlk 1 rfl Xt2 ?_
   refine tlk 2 rfl Xt2 ?_
   refine tlk 3 rfl Xt2 ?_
   refine tlk 4 rfl (fun W hSw => by have m := hSw.o.cell 7; simp only [gtA, gtB, gtC] at m; exact tks) ?_
   refine tlk 5 rfl Xt2 ?_
   refine tlk 6 rfl Xt2 ?_
   refine tlk 7 rfl Xt2 ?_
   refine tlk 8 rfl (fun W hSw => by have m := hSw.m.cell 7; simp only [gtA, gtB, gtC] at m; exact tks) ?_
   refine tlk 9 rfl Xt2 ?_
   refine tlk 10 rfl Xt2 ?_
   refine tlk 11 rfl (fun W hSw => by have m := hSw.t; exact tks) ?_
   refine tl1 12 rfl fun K hK => ?_
   refine z8_ rfl _ _ rfl wr.heap.size (.slice none 0 0) 0 [] rfl (World.ownsRow_nil _ _ _ _) xa xc xn xP HXN.out rfl ((HXP.out).below (Below.refl wr.heap.size wr).drew) HXL.out.2 (by have := HXL.out.1; omega) (Nat.le_refl _) ?_
   intro v6 w6 hown6 hgrow6
   rw [Nat.zero_add, List.nil_append] at hown6
   obtain ⟨a6, c6, hv6⟩ := zd_ hown6
   subst hv6
   have b6 : Below wr.heap.size wr w6 := ((Below.refl wr.heap.size wr).drew).grown hgrow6 (Nat.le_refl _) Xt23
   have HO6 := hid hown6
   have HB6 := hid b6
   have HS6 := hid (HSX.out.off (S3 := fun _ => False) (Off.of b6) (fun h => h) (fun h => h) (fun h => h))
   clear hown6 hgrow6 b6
   refine hK.out _ _ (HS6.out) fun hH => ?_
   refine stP ?_
   refine tl1 13 rfl fun K hK => ?_
   go_simp
   refine hK.out _ _ (hH.off (S3 := fun _ => False) (Off.of (bl1 w6 (.cells #[.slice a6 xn c6] 69))) (fun h => h) (fun h => h) (fun h => h)) fun hH => ?_
   refine stP ?_
   refine tl1 14 rfl fun K hK => ?_
   have hown := ze_ HOV.out (HB6.out.trans ((bl1 w6 (.cells #[.slice a6 xn c6] 69)).mono HB6.out.size))
   refine zD_ ae_tab rfl _ _ rfl w.heap.size v k (cellsOf tcl Gs) rfl hown ⟨w6.heap.size, 0, none⟩ 1 1 [.slice a6 xn c6] rfl rfl (zx_ w6 _ _ _ rfl) Xt32 Xt0 (Nat.le_trans HBW.out.size (Nat.le_trans HB6.out.size (bl1 w6 (.cells #[.slice a6 xn c6] 69)).size)) ?_
   intro v9 w9 hown9 hgrow9 hat9
   obtain ⟨a9, c9, hv9⟩ := zd_ hown9
   subst hv9
   have HO9 := hid hown9
   have HG9 := hid hgrow9
   have HS9 := hid (hH.off (Off.of_row hgrow9) HNV.out.1 HNV.out.2.1 HNV.out.2.2)
   clear hown hown9 hgrow9 hat9
   refine hK.out _ _ (HS9.out) fun hH => ?_
   refine stP ?_
   refine tlf 15 rfl Xt2 ?_
   refine tlk 16 rfl Xt2 ?_
   refine tlz rfl fun K hK => ?_
   have x7 := HS9.out.o.cell 7
   have f7 := HS9.out.o.frozen 7
   simp only [gtA, gtB, gtC] at x7
   go_simp
   refine hK.out _ _ ?_
   clear hK K x7 f7
   refine stP ?_
   refine zz_ Xt3 ?_ _
   skip
   obtain ⟨w10, hw10⟩ := gty (w9.setCell ⟨w.heap.size, 7, none⟩ (.slice a9 (k + 1) c9))
   rw [← hw10]
   have ho10 : Off (fun k => k = w.heap.size) w9 w10 := by rw [hw10]; exact Off.set (S := fun k => k = w.heap.size) (Off.refl _ w9) ⟨w.heap.size, 7, none⟩ rfl _
   have hx10 : zg_ w10 w.heap.size #[.int .i64 f.j.w, .int .i64 f.j.l, .int .i64 f.j.d, .int .i64 f.j.c, .int .i64 f.j.k, .int .i64 f.j.e, .slice f.j.a f.j.n f.j.cap, (.slice a9 (k + 1) c9)] 48 := by rw [hw10]; exact heap_setCell_same w9 w.heap.size 7 _ 48 _ HS9.out.o
   have hb7 : Below wr.heap.size wr (w6.alloc (.cells #[.slice a6 xn c6] 69)) := HB6.out.trans ((bl1 w6 _).mono HB6.out.size)
   have ho79 : Off (fun k => v.ownBlock = some k) (w6.alloc (.cells #[.slice a6 xn c6] 69)) w9 := Off.of_row HG9.out
   have HOF := hid ((Off.of (S := fun g => g = w.heap.size ∨ v.ownBlock = some g) hb7).trans ((ho79.mono fun g hg => .inr hg).trans (ho10.mono fun g hg => .inl hg)))
   have HO6A := hid ((Off.of (S := fun g => g = w.heap.size ∨ v.ownBlock = some g) (bl1 w6 (.cells #[.slice a6 xn c6] 69))).trans ((ho79.mono fun g hg => .inr hg).trans (ho10.mono fun g hg => .inl hg)))
   have HX10 := hid hx10
   have HO10 := hid ho10
   clear hw10 ho10 hx10 hb7 ho79 d1 hH
   go_wp2_with fail
   go_roundw
   case rel =>
    have hnb : ∀ {W : World} {y : Value} {ys : List Value} {n b : Nat}, W.ownsRow b 78 2 y n ys -> zg_ W w.heap.size #[.int .i64 f.j.w, .int .i64 f.j.l, .int .i64 f.j.d, .int .i64 f.j.c, .int .i64 f.j.k, .int .i64 f.j.e, .slice f.j.a f.j.n f.j.cap, v] 48 -> (∀ g, v.ownBlock = some g -> ∃ cur, zg_ W g cur 69) -> ∀ g, y.ownBlock = some g -> ¬ (g = w.heap.size ∨ v.ownBlock = some g) := fun hy hb hv g hg e => by
     obtain ⟨_, _, cur, hc⟩ := zb_ hy hg
     rcases e with e | e
     ·exact zo_ hc hb Xt4 e
     ·obtain ⟨cur', hc'⟩ := hv g e
      exact zo_ hc hc' Xt4 rfl
    refine ⟨k + 1, Gs ++ [⟨a6, c6, xP⟩], .slice a9 (k + 1) c9, by omega, by go_num, hid (by rw [List.length_append, HGL.out]; rfl), hid ?_, HX10, hid ?_, hid ?_, hid ?_⟩
    ·rw [List.map_append, HGP.out, List.take_add_one, HXS.out.1, List.map_append]
     show _ ++ [xP] = _ ++ [x.P]
     rw [HXE.out]
    ·have h1 := zn_ HO9.out HO10.out (fun g hg e => by
      obtain ⟨_, _, cur, hc⟩ := zb_ HO9.out hg
      exact zo_ hc HS9.out.o Xt4 e)
     have h2 : cellsOf tcl (Gs ++ [⟨a6, c6, xP⟩]) = cellsOf tcl Gs ++ [.slice a6 xn c6] := by
      rw [zq_]
      show _ ++ [Value.slice a6 xP.length c6] = _
      rw [HXN.out]
     rw [h2]; exact h1
    ·intro y hy
     rcases List.mem_append.1 hy with hy | hy
     ·exact zn_ (HRW.out y hy) HOF.out (hnb (HRW.out y hy) HOX.out (fun g hg => (zb_ HOV.out hg).2.2))
     ·rw [List.mem_singleton] at hy
      subst hy
      have h1 : w6.ownsRow w.heap.size 78 2 (.slice a6 xP.length c6) xP.length (zi_ xP) := by rw [HXN.out]; exact yJ_ HO6.out HBW.out.size
      exact zn_ h1 HO6A.out (hnb h1 HS6.out.o (fun g hg => (zb_ (ze_ HOV.out HB6.out) hg).2.2))
    ·exact Off.below HBW.out HOF.out HBW.out.size (fun g hg => by
      rcases hg with hg | hg
      ·omega
      ·exact (zb_ HOV.out hg).1)
   case measure => simp [intOf]; omega
  ·have d1 : ¬ (k : Int) < (n : Int) := by omega
   have hke : k = n := by omega
   have HKE := hid hke
   go_wp2_with fail
   go_ret
   obtain ⟨va, vc, hv⟩ := zd_ HOV.out
   subst hv
   have hon := HOV.out
   have hkn := HKE.out
   have hgl := HGL.out
   have hgp := HGP.out
   rw [hkn] at hon hgl hgp
   rw [List.take_of_length_le Xt80] at hgp
   obtain ⟨hnc, hna⟩ := zJ_ hon
   obtain ⟨bv, hbv⟩ : ∃ bv, va = some ⟨bv, 0, none⟩ /\ w.heap.size <= bv /\ ∃ cur, zg_ wr bv cur 69 := by
    rcases hon.2 with ⟨e0, h0⟩ | ⟨g, cap, cur, e0, hb, hg, _⟩
    ·omega
    ·injection e0 with e0
     exact ⟨g, e0, hb, cur, hg⟩
   obtain ⟨hva, hbv1, hbv2⟩ := hbv
   subst hva
   have hat : ∀ (i : Nat) (y : TbV), Gs[i]? = some y -> ∃ x : TbV, f.Ts[i]? = some x /\ x.P = y.P := fun i y hy => by
    have h1 : (Gs.map TbV.P)[i]? = some y.P := by rw [List.getElem?_map, hy]; rfl
    rw [hgp, List.getElem?_map] at h1
    cases hx : f.Ts[i]? with
    | none => rw [hx] at h1; cases h1
    | some x => rw [hx] at h1; exact ⟨x, rfl, by simpa using h1⟩
   have hox := HOX.out
   refine ⟨⟨w.heap.size, f.j, bv, vc, Gs⟩, rfl, HBW.out, Nat.le_refl _, hbv1, rfl, hgp, fun S' hS' hp hb => ⟨?_, ?_, hbv2, ?_, HH.out.ok, ?_, by rw [hgl]; exact hnc, hp, hb, ?_, ?_⟩⟩
   ·unfold Rf.cs
    rw [hgl]
    rw [hkn] at hox
    exact hox
   ·exact HH.out.job.step (Off.of HBW.out) (fun g hg => by
     rcases hS' g hg with h | h | h
     ·exact .inl h
     ·exact .inr (Nat.le_of_eq h.symm)
     ·exact .inr (h ▸ hbv1))
   ·intro i y hy
    obtain ⟨x, hx, hxy⟩ := hat i y hy
    obtain ⟨g, eg, _, hc⟩ := zt_ tcl_len Xt4 hon hgl i y hy
    cases eg
    refine ⟨bv, 0, rfl, ?_, ?_⟩
    ·have := hc 0 Xt4
     rw [Nat.zero_add]
     exact Xb62
    ·have hr := HRW.out y (List.mem_of_getElem? hy)
     have hnr : ∀ g, Value.ownBlock (.slice y.pa y.P.length y.pc) = some g -> ¬ S' g := fun g hg hs => by
      obtain ⟨h1, _, cur, hc⟩ := zb_ hr hg
      rcases hS' g hs with h | h | h
      ·have := HSS.out g h; omega
      ·exact zo_ hc HOX.out Xt4 h
      ·obtain ⟨cur', hc'⟩ := hbv2
       exact zo_ hc hc' Xt4 h
     obtain ⟨_, _, _, _, hst⟩ := HH.out.tbs i x hx
     have hst := hst.step (S' := S') (Off.of HBW.out) (fun g hg => by
      rcases hS' g hg with h | h | h
      ·exact .inl h
      ·exact .inr (Nat.le_of_eq h.symm)
      ·exact .inr (h ▸ hbv1))
     intro W' o
     refine yi_ (zn_ hr o hnr) rfl (fun q hq => ?_)
     obtain ⟨m, hm⟩ := List.mem_iff_getElem?.1 (hxy ▸ hq)
     obtain ⟨_, _, _, _, _, l, r⟩ := hst W' o m q hm
     exact ⟨l, r⟩
   ·show Gs.length = f.j.n
    rw [hgl, ← HH.out.len, HN.out]
   ·intro y hy
    exact zJ_ (HRW.out y hy)
   ·intro y hy
    obtain ⟨i, hi⟩ := List.mem_iff_getElem?.1 hy
    obtain ⟨x, hx, hxy⟩ := hat i y hi
    have := HH.out.lim x (List.mem_of_getElem? hx)
    unfold tbC at this ⊢
    rw [← hxy]; exact this
def qh_ {α : Type} (key : α -> List Int) (f u : List Int) (en : Bool) (m : Int) : List α -> List α -> List α
 | [], acc => acc
 | e :: r, acc => if (acc.length : Int) < m then (if (ltL (key e) f || (en && !ltL (key e) u)) then qh_ key f u en m r acc else qh_ key f u en m r (acc ++ [e])) else acc
theorem docG_out {α : Type} {key : α -> List Int} {f u : List Int} {en : Bool} {m : Int} : ∀ {l acc : List α}, (∀ e ∈ l, (en && !ltL (key e) u) = true) -> qh_ key f u en m l acc = acc
 | [], acc, _ => rfl
 | e :: r, acc, h => by
  have ih := docG_out (f := f) (m := m) (acc := acc) fun x hx => h x (List.mem_cons_of_mem _ hx)
  unfold qh_
  split
  ·rw [if_pos (by rw [h e (List.mem_cons_self ..), Bool.or_true])]; exact ih
  ·rfl
theorem Qy_ {α : Type} {key : α -> List Int} {f u : List Int} {en : Bool} {m : Int} : ∀ {l acc : List α}, (acc.length : Int) = m -> yP_ key f u en m l acc = acc
 | [], acc, _ => rfl
 | e :: r, acc, h => by
  unfold yP_
  split
  ·exact Qy_ h
  ·rw [if_pos (by rw [decide_eq_true h, Bool.or_true])]
theorem ltL_ge {a b c : List Int} (h : ltL a c = false) (k : ltL a b = true) : ltL b c = false := by
 cases e : ltL b c
 ·rfl
 ·rw [zF_ k e] at h; cases h
theorem qH_ {α : Type} {key : α -> List Int} {f u : List Int} {en : Bool} {m : Int} : ∀ {l acc : List α}, Ris key l -> (acc.length : Int) <= m -> qh_ key f u en m l acc = yP_ key f u en m l acc
 | [], acc, _, _ => rfl
 | e :: r, acc, h, hm => by
  obtain ⟨h1, h2⟩ := List.pairwise_cons.1 h
  unfold qh_ yP_
  by_cases hl : (acc.length : Int) < m
  ·rw [if_pos hl]
   cases hf : ltL (key e) f
   ·simp only [Bool.false_or, Bool.false_eq_true, if_false]
    cases hu : (en && !ltL (key e) u)
    ·rw [if_neg Xt5, if_neg Xt7]
     exact qH_ h2 (by rw [List.length_append, List.length_singleton]; omega)
    ·rw [if_pos rfl, if_pos Xt5]
     refine docG_out fun x hx => ?_
     simp only [Bool.and_eq_true, Bool.not_eq_true'] at hu ⊢
     exact ⟨hu.1, ltL_ge hu.2 (h1 x hx)⟩
   ·simp only [Bool.true_or, if_true]
    exact qH_ h2 hm
  ·rw [if_neg hl]
   have he : (acc.length : Int) = m := by omega
   split
   ·exact (Qy_ he).symm
   ·rw [if_pos (by rw [decide_eq_true he, Bool.or_true])]
theorem qc_ {α β : Type} (g : α -> β) {k1 : α -> List Int} {k2 : β -> List Int} (f u : List Int) (en : Bool) (m : Int) : ∀ (l acc : List α), (∀ e ∈ l, k2 (g e) = k1 e) -> (qh_ k1 f u en m l acc).map g = qh_ k2 f u en m (l.map g) (acc.map g)
 | [], acc, _ => rfl
 | e :: r, acc, h => by
  have h1 := h e (List.mem_cons_self ..)
  have h2 := fun x hx => h x (List.mem_cons_of_mem e hx)
  rw [List.map_cons]
  unfold qh_
  rw [h1, List.length_map]
  split
  ·split
   ·exact qc_ g f u en m r acc h2
   ·rw [qc_ g f u en m r (acc ++ [e]) h2, List.map_append]; rfl
  ·rfl
theorem Qh_ {α : Type} (key : α -> List Int) (f u : List Int) (en : Bool) (m : Int) : ∀ (l acc : List α), ∀ e ∈ qh_ key f u en m l acc, e ∈ l ∨ e ∈ acc
 | [], acc, e, h => .inr h
 | x :: r, acc, e, h => by
  unfold qh_ at h
  split at h
  ·split at h
   ·exact (Qh_ key f u en m r acc e h).imp (List.mem_cons_of_mem _) id
   ·rcases Qh_ key f u en m r (acc ++ [x]) e h with h | h
    ·exact .inl (List.mem_cons_of_mem _ h)
    ·exact Xb93
  ·exact .inr h
theorem getP_T {K : List Int} : ∀ {P : List PrV}, z1_ (P.map prC) -> (getP K P).map (fun R => R.map P1.bs) = y9_ (P.map prC) K
 | [], _ => rfl
 | x :: P, h => by
  obtain ⟨h1, h2⟩ := List.pairwise_cons.1 h
  have ih := getP_T (K := K) h2
  have e0 : y9_ ((x :: P).map prC) K = if x.K = K then some (x.R.map P1.bs) else y9_ (P.map prC) K := by
   unfold y9_
   rw [List.map_cons, List.find?_cons]
   by_cases e : x.K = K
   ·rw [if_pos e]
    have : decide ((prC x).1 = K) = true := decide_eq_true e
    rw [this]; rfl
   ·rw [if_neg e]
    have : decide ((prC x).1 = K) = false := decide_eq_false e
    rw [this]
  rw [e0]
  cases hl : ltL x.K K
  ·have hc : xm_ K (x :: P) = 0 := by unfold xm_; rw [List.takeWhile_cons, hl]; rfl
   by_cases e : x.K = K
   ·rw [if_pos e]
    unfold getP qg_
    rw [hc]
    simp [e]
   ·rw [if_neg e]
    have hno : y9_ (P.map prC) K = none := q4_.2 fun p hp he => by
     have h3 := h1 p hp
     have h4 : ltL x.K K = true := by rw [← he]; exact h3
     rw [hl] at h4; cases h4
    rw [hno]
    unfold getP qg_
    rw [hc]
    simp [e]
  ·have hc : xm_ K (x :: P) = xm_ K P + 1 := by unfold xm_; rw [List.takeWhile_cons, hl]; rfl
   have e : x.K ≠ K := qY_ hl
   rw [if_neg e, ← ih]
   unfold getP qg_
   rw [hc, List.getElem?_cons_succ]
theorem filt_split (T : List Pr) (K : List Int) : (T.filter (fun p => ltL p.1 K)).length + (T.filter (fun p => ltL K p.1)).length <= T.length := by
 induction T with
 | nil => simp
 | cons x T ih =>
  rw [List.filter_cons, List.filter_cons]
  cases h : ltL x.1 K
  ·rw [if_neg Xt5]
   cases h2 : ltL K x.1
   ·rw [if_neg Xt5]; simp only [List.length_cons]; omega
   ·rw [if_pos rfl]; simp only [List.length_cons]; omega
  ·rw [yD_ h, if_pos rfl, if_neg Xt5]
   simp only [List.length_cons]; omega
theorem setT_len (T : List Pr) (K : List Int) (R : List (List Int)) : (xT_ T K R).length <= T.length + 1 := by
 have h1 := filt_split T K
 unfold xT_
 rw [List.length_append, List.length_append]
 split <;> simp <;> omega
structure RfS (f g : Rf) : Prop where
 p : g.p = f.p
 j : g.j = f.j
 b : g.b1 = f.b1
 c : g.tc = f.tc
 n : g.Ts.length = f.Ts.length
theorem RfS.rfl' (f : Rf) : RfS f f := ⟨rfl, rfl, rfl, rfl, rfl⟩
theorem RfS.trans {f g h : Rf} (a : RfS f g) (b : RfS g h) : RfS f h := ⟨b.p.trans a.p, b.j.trans a.j, b.b.trans a.b, b.c.trans a.c, b.n.trans a.n⟩
def RSetR (S : Nat -> Prop) (w : World) (f : Rf) (t : Nat) (K : List Int) (R : List (List Int)) (r : Ending) (w' : World) : Prop :=
 ∃ v g, r = .returned v /\ RfS f g /\ RfR S w' g /\ Off (fun k => k = f.b1) w w' /\ g.P = f.P.modify t (fun z => xT_ z K R) /\ ∀ N : Nat, (∀ x ∈ f.Ts, x.P.length <= N) -> ∀ x ∈ g.Ts, x.P.length <= N + 1
theorem rset_m {S : Nat -> Prop} {f : Rf} {w : World} (h : RfR S w f) (hS : ∀ k, S k -> k < w.heap.size) (t : Nat) (ht : t < f.Ts.length) (K : List Int) (hK : zH_ K) (ka : Option Addr) (kn kc : Nat) (hkn : K.length = kn) (R : List P1) (hR : R ≠ [] -> rOk (R.map P1.bs)) (ra : Option Addr) (rn rc : Nat) (hrn : R.length = rn) (hl : ∀ x ∈ f.Ts, x.P.length <= 1000000) (hk : Ls .u8 w ka kc K) (hr : RdR w ra R) :
  Calls prog 58 #[.pointer (some ⟨f.p, 0, none⟩), .int .i64 (t : Int), .slice ka kn kc, .slice ra rn rc] w (RSetR S w f t K (R.map P1.bs)) := by
 obtain ⟨x, hx⟩ : ∃ x, f.Ts[t]? = some x := ⟨_, List.getElem?_eq_getElem ht⟩
 have hxm := List.mem_of_getElem? hx
 obtain ⟨cs, hcs⟩ := h.tb
 have hfw := h.few
 have hrk : rn <= 9000 /\ ∀ q ∈ R, q.bs.length <= 9000 := by
  by_cases e : R = []
  ·subst e; subst hrn; exact ⟨by simp, fun q hq => by cases hq⟩
  ·have h1 := hR e
   refine ⟨by have := h1.2.1; rw [List.length_map, hrn] at this; omega, fun q hq => ?_⟩
   have := (h1.2.2 q.bs (List.mem_map.2 ⟨q, hq, rfl⟩)).2
   omega
 refine (rset_T f.p f.b1 0 ka ra f.Ts.length f.tc kn kc rn rc t f.Ts x K R cs hx rfl Xt0 hkn (by have := hK.2.2; omega) hK.1 hrn hrk.1 hrk.2 (h.tok hxm (hl x hxm)) (h.lim x hxm).1 (h.sl x hxm).1 (h.sl x hxm).2 w S hS h.hb hcs h.c h.tbs hk hr).mono ?_
 rintro r w' ⟨v, y, rfl, hT, ho, hb, hc1, hc2, hy, hm⟩
 have hyl : y.P.length = (tbC y).length := by unfold tbC; rw [List.length_map]
 have hxl : x.P.length = (tbC x).length := by unfold tbC; rw [List.length_map]
 refine ⟨v, { f with Ts := f.Ts.set t y }, rfl, ⟨rfl, rfl, rfl, rfl, List.length_set⟩, ⟨?_, ?_, ⟨_, hb⟩, hT, h.ok, by rw [List.length_set]; exact h.len, by rw [List.length_set]; exact h.cap, h.hp, h.hb, ?_, ?_⟩, ho, hm, ?_⟩
 ·unfold Rf.cs
  rw [List.length_set]
  exact ho.box h.box h.ne
 ·exact h.job.off (ho.mono fun k hk => by rw [hk]; exact h.hb)
 ·intro z hz
  rcases List.mem_or_eq_of_mem_set hz with hz | rfl
  ·exact h.sl z hz
  ·exact ⟨hc1, hc2⟩
 ·intro z hz
  rcases List.mem_or_eq_of_mem_set hz with hz | rfl
  ·exact h.lim z hz
  ·rw [hy]
   exact (h.lim x hxm).set hK fun hne => hR fun e => hne (by rw [e]; rfl)
 ·intro N hN z hz
  rcases List.mem_or_eq_of_mem_set hz with hz | rfl
  ·have := hN z hz; omega
  ·have h1 := hN x hxm
   have h2 := setT_len (tbC x) K (R.map P1.bs)
   rw [hyl, hy]
   omega
section
open Go.Maps Go.Shelf
def isW (o : zj_) : Bool := decide (o.k = 2 ∨ o.k = 3 ∨ o.k = 4)
theorem QW_ (T : List (List Pr)) (ws : Ws) (t : Nat) (K : List Int) (R : List (List Int)) (s : Nat) (J : List Int) :
  y8_ T (xX_ ws t K R) s J = if s = t /\ J = K then (if R = [] then none else some R) else y8_ T ws s J := by
 unfold xX_
 by_cases ha : ws.any (fun w => decide (w.1 = t /\ w.2.1 = K)) = true
 ·rw [if_pos ha]
  unfold y8_
  rw [List.find?_map]
  have e : ((fun w : Nat × List Int × List (List Int) => decide (w.1 = s /\ w.2.1 = J)) ∘ fun w => if w.1 = t /\ w.2.1 = K then (t, K, R) else w) = fun w => decide (w.1 = s /\ w.2.1 = J) := by
   funext w
   simp only [Function.comp, decide_eq_decide]
   by_cases hw : w.1 = t /\ w.2.1 = K
   ·rw [if_pos hw, hw.1, hw.2]
   ·rw [if_neg hw]
  rw [e]
  by_cases hs : s = t /\ J = K
  ·obtain ⟨rfl, rfl⟩ := hs
   rw [if_pos ⟨rfl, rfl⟩]
   cases hf : ws.find? (fun w => decide (w.1 = s /\ w.2.1 = J)) with
   | none =>
    exfalso
    obtain ⟨w, hw, hd⟩ := List.any_eq_true.1 ha
    exact absurd hd (by simpa using List.find?_eq_none.1 hf w hw)
   | some w =>
    have hd : w.1 = s /\ w.2.1 = J := by simpa using List.find?_some hf
    rw [Option.map_some, if_pos hd]
  ·rw [if_neg hs]
   cases hf : ws.find? (fun w => decide (w.1 = s /\ w.2.1 = J)) with
   | none => rfl
   | some w =>
    have hd : w.1 = s /\ w.2.1 = J := by simpa using List.find?_some hf
    rw [Option.map_some, if_neg (fun h => hs ⟨hd.1.symm.trans h.1, hd.2.symm.trans h.2⟩)]
 ·rw [if_neg ha]
  have hno : ∀ w ∈ ws, ¬ (w.1 = t /\ w.2.1 = K) := fun w hw h => ha (List.any_eq_true.2 ⟨w, hw, decide_eq_true h⟩)
  unfold y8_
  rw [List.find?_append]
  by_cases hs : s = t /\ J = K
  ·obtain ⟨rfl, rfl⟩ := hs
   have hf : ws.find? (fun w => decide (w.1 = s /\ w.2.1 = J)) = none := List.find?_eq_none.2 fun w hw => by simpa using hno w hw
   rw [hf, if_pos ⟨rfl, rfl⟩]
   simp
  ·rw [if_neg hs]
   have hd : ¬ (t = s /\ K = J) := fun h => hs ⟨h.1.symm, h.2.symm⟩
   cases hf : ws.find? (fun w => decide (w.1 = s /\ w.2.1 = J)) with
   | none => simp [hd]
   | some w => simp
end
theorem setW_tab {n : Nat} {ws : Ws} (hw : ∀ w ∈ ws, w.1 < n) {t : Nat} (ht : t < n) (K : List Int) (R : List (List Int)) : ∀ w ∈ xX_ ws t K R, w.1 < n := fun w h => by
 unfold xX_ at h
 split at h
 ·obtain ⟨v, hv, rfl⟩ := List.mem_map.1 h
  split
  ·exact ht
  ·exact hw v hv
 ·rcases List.mem_append.1 h with h | h
  ·exact hw w h
  ·rw [List.mem_singleton] at h; subst h; exact ht
theorem overT_set {T : List (List Pr)} (h : ∀ t, z1_ (T.getD t [])) (ws : Ws) (hw : ∀ w ∈ ws, w.1 < T.length) (hd : ws.Pairwise xo_) (t : Nat) (ht : t < T.length) (K : List Int) (R : List (List Int)) : yo_ T (xX_ ws t K R) = (yo_ T ws).modify t fun z => xT_ z K R := by
 have hw2 := setW_tab hw ht K R
 apply List.ext_getElem
 ·rw [xe_, List.length_modify, xe_]
 ·intro s h1 h2
  have e1 : (yo_ T (xX_ ws t K R)).getD s [] = (yo_ T (xX_ ws t K R))[s] := by rw [List.getD_eq_getElem?_getD, List.getElem?_eq_getElem h1]; rfl
  have e2 : ((yo_ T ws).modify t fun z => xT_ z K R).getD s [] = ((yo_ T ws).modify t fun z => xT_ z K R)[s] := by rw [List.getD_eq_getElem?_getD, List.getElem?_eq_getElem h2]; rfl
  rw [← e1, ← e2, xP_ _ _ _ _ (by rw [xe_]; exact ht)]
  have o1 := x6_ h (xX_ ws t K R) hw2 s
  have o2 := x6_ h ws hw s
  by_cases e : t = s
  ·subst e
   rw [if_pos rfl]
   refine tab_ext o1 (qP_ o2 _ _) fun J => ?_
   rw [yz_ h _ hw2 (yH_ hd t K R), QW_, Qc_ o2, yz_ h ws hw hd]
   by_cases eJ : J = K
   ·simp [eJ]
   ·simp [eJ]
  ·rw [if_neg e]
   refine tab_ext o1 o2 fun J => ?_
   rw [yz_ h _ hw2 (yH_ hd t K R), QW_, yz_ h ws hw hd, if_neg (fun q => e q.1.symm)]
def yw_ (j : Job) (T : List (List Pr)) (o : zj_) : (Int × List Pr) × List (List Pr) :=
 if o.k = 1 then ((match y9_ (T.getD o.t.toNat []) o.K with | some R => (0, [(o.K, R)]) | none => (6, [])), T)
 else if o.k = 2 then ((0, []), T.modify o.t.toNat fun z => xT_ z o.K (o.R.map P1.bs))
 else if o.k = 3 then (if (y9_ (T.getD o.t.toNat []) o.K).isSome then ((7, []), T) else ((0, []), T.modify o.t.toNat fun z => xT_ z o.K (o.R.map P1.bs)))
 else if o.k = 4 then (if (y9_ (T.getD o.t.toNat []) o.K).isSome then ((0, []), T.modify o.t.toNat fun z => xT_ z o.K []) else ((6, []), T))
 else if o.k = 5 then ((0, yP_ Prod.fst o.K o.T (decide (0 < o.tn)) o.m (T.getD o.t.toNat []) []), T)
 else ((0, (yP_ Prod.fst (zk_ o.K) (zk_ o.T) (decide (0 < o.tn)) o.m (yL_ j o.t (trV j o.t o.i).1 (T.getD o.t.toNat [])) []).map Prod.snd), T)
theorem callD_eq {j : Job} {T : List (List Pr)} (h : ∀ t, z1_ (T.getD t [])) (ws : Ws) (hw : ∀ w ∈ ws, w.1 < T.length) (hd : ws.Pairwise xo_) (o : zj_) (ht : o.t.toNat < T.length) : yw_ j (yo_ T ws) o = ((yf_ j T ws o).1, yo_ T (yf_ j T ws o).2) := by
 have g := yz_ h ws hw hd o.t.toNat o.K
 have m := fun R => overT_set h ws hw hd o.t.toNat ht o.K R
 unfold yw_ yf_
 rw [g]
 split
 ·rfl
 ·split
  ·rw [m]
  ·split
   ·split
    ·rfl
    ·rw [m]
   ·split
    ·split
     ·rw [m]
     ·rfl
    ·split <;> rfl
theorem callP_tab (j : Job) {T : List (List Pr)} {ws : Ws} (hw : ∀ w ∈ ws, w.1 < T.length) (o : zj_) (ht : o.t.toNat < T.length) : ∀ w ∈ (yf_ j T ws o).2, w.1 < T.length := by
 have s := fun R => setW_tab hw ht o.K R
 unfold yf_
 split
 ·exact hw
 ·split
  ·exact s _
  ·split
   ·split
    ·exact hw
    ·exact s _
   ·split
    ·split
     ·exact s _
     ·exact hw
    ·split <;> exact hw
theorem runP_tab (j : Job) {T : List (List Pr)} (ops : List zj_) (ht : ∀ o ∈ ops, o.t.toNat < T.length) : ∀ w ∈ (z6_ j T ops).2, w.1 < T.length := by
 induction ops using zV_ with
 | nil => intro w hw; cases hw
 | append_singleton l o ih =>
  have e : z6_ j T (l ++ [o]) = y7_ j T (z6_ j T l) o := by unfold z6_; rw [List.foldl_append]; rfl
  rw [e]
  exact callP_tab j (ih fun v hv => ht v (List.mem_append_left _ hv)) o (ht o Xt5)
def stepD (j : Job) (st : List (Int × List Pr) × List (List Pr)) (o : zj_) : List (Int × List Pr) × List (List Pr) := (st.1 ++ [(yw_ j st.2 o).1], (yw_ j st.2 o).2)
def qf_ (j : Job) (T : List (List Pr)) (ops : List zj_) : List (Int × List Pr) × List (List Pr) := ops.foldl (stepD j) ([], T)
theorem runD_take (j : Job) (T : List (List Pr)) {ops : List zj_} {k : Nat} {o : zj_} (h : ops[k]? = some o) : qf_ j T (ops.take (k + 1)) = stepD j (qf_ j T (ops.take k)) o := by
 unfold qf_
 rw [List.take_add_one, h, List.foldl_append]
 rfl
theorem runD_eq {j : Job} {T : List (List Pr)} (h : ∀ t, z1_ (T.getD t [])) (ops : List zj_) (ht : ∀ o ∈ ops, o.t.toNat < T.length) : qf_ j T ops = ((z6_ j T ops).1, yo_ T (z6_ j T ops).2) := by
 induction ops using zV_ with
 | nil => rfl
 | append_singleton l o ih =>
  have hl := fun v hv => ht v (List.mem_append_left [o] hv)
  have e : z6_ j T (l ++ [o]) = y7_ j T (z6_ j T l) o := by unfold z6_; rw [List.foldl_append]; rfl
  have e2 : qf_ j T (l ++ [o]) = stepD j (qf_ j T l) o := by unfold qf_; rw [List.foldl_append]; rfl
  rw [e, e2, ih hl]
  unfold stepD y7_
  rw [callD_eq h (z6_ j T l).2 (runP_tab j l hl) (jp_ j T l) o (ht o Xt5)]
structure OpD (S : Nat -> Prop) (w : World) (f : Rf) (o : zj_) (t : Nat) : Prop where
 at' : zs_ S w fun W => zy_ W o
 te : o.t = (t : Int)
 tl : t < f.Ts.length
 po : pO f.j o = true
 rn : o.rn <= 1000000
def z5_ (S : Nat -> Prop) (w : World) (f : Rf) (a : (Int × List Pr) × List (List Pr)) (r : Ending) (w' : World) : Prop :=
 ∃ g y, r = .returned (.agg #[.int .i64 y.e, .slice y.pa y.P.length y.pc]) /\ RfS f g /\ RfR S w' g /\ Off (fun k => k = f.b1) w w' /\ (yC_ y, g.P) = a /\ ys_ y /\ zs_ S w' (fun W' => zp_ W' y.pa y.P) /\ ∀ N : Nat, (∀ x ∈ f.Ts, x.P.length <= N) -> ∀ x ∈ g.Ts, x.P.length <= N + 1
def Sp (S : Nat -> Prop) (B k : Nat) : Prop := S k ∨ k = B
theorem z5_.fin {S : Nat -> Prop} {w w2 w3 w4 : World} {f g : Rf} {B : Nat} {y : xB_} {ans : (Int × List Pr) × List (List Pr)} (hS : ∀ k, S k -> k < w.heap.size) (hb : Below w.heap.size w w2) (hB : w.heap.size <= B) (hs : RfS f g) (hg : RfR (Sp S B) w3 g) (o : Off (fun k => k = f.b1) w2 w3) (o4 : Off (fun k => k = B) w3 w4) (hfp : S f.p) (hfb : S f.b1)
  (ha : (yC_ y, g.P) = ans) (hok : ys_ y) (hy : zs_ (Sp S B) w3 fun W' => zp_ W' y.pa y.P) (hN : ∀ N : Nat, (∀ x ∈ f.Ts, x.P.length <= N) -> ∀ x ∈ g.Ts, x.P.length <= N + 1) : z5_ S w f ans (.returned (.agg #[.int .i64 y.e, .slice y.pa y.P.length y.pc])) w4 := by
 have h23 : Off (fun k => k = f.b1) w w3 := (Off.of hb).trans o
 refine ⟨g, y, rfl, hs, hg.off (T := fun k => k = B) o4 (fun k hk => .inr hk) (fun e => ?_) (fun e => ?_) (fun k hk => .inl (.inl hk)) (by rw [hs.p]; exact hfp) (by rw [hs.b]; exact hfb), ?_, ha, hok, (hy.off (o4.mono fun k hk => .inr hk)).less fun k hk => .inl hk, hN⟩
 ·rw [hs.p] at e; have := hS _ hfp; omega
 ·rw [hs.b] at e; have := hS _ hfb; omega
 ·refine ⟨o4.os.trans h23.os, o4.tape.trans h23.tape, o4.output.trans h23.output, Nat.le_trans h23.size o4.size, fun k hk hn => ?_⟩
  exact (o4.block k (Nat.lt_of_lt_of_le hk h23.size) fun e => by omega).trans (h23.block k hk hn)
theorem RfR.sp {S : Nat -> Prop} {w w2 : World} {f : Rf} (h : RfR S w f) (hb : Below w.heap.size w w2) {B : Nat} (hB : w.heap.size <= B) : RfR (Sp S B) w2 f :=
 h.off (T := fun _ => False) (Off.of hb) (fun _ h => h.elim) (fun h => h) (fun h => h) (fun k hk => by
  rcases hk with hk | hk
  ·exact .inl hk
  ·exact .inr Xt0) (.inl h.hp) (.inl h.hb)
theorem qT_ {S : Nat -> Prop} {f : Rf} {w : World} (h : RfR S w f) (t : Nat) (ht : t < f.Ts.length) (K : List Int) (bK : Byt K) (ka : Option Addr) (kn kc : Nat) (hkn : K.length = kn) (hl : ∀ x ∈ f.Ts, x.P.length <= 1000000) (hk : Ls .u8 w ka kc K) :
  ∃ q : Option (List P1), q.map (fun R => R.map P1.bs) = y9_ (f.P.getD t []) K /\ (∀ R, q = some R -> rOk (R.map P1.bs)) /\ Calls prog 19 #[.pointer (some ⟨f.p, 0, none⟩), .int .i64 (t : Int), .slice ka kn kc] w (GetR w q) := by
 obtain ⟨x, hx⟩ : ∃ x, f.Ts[t]? = some x := ⟨_, List.getElem?_eq_getElem ht⟩
 have hxm := List.mem_of_getElem? hx
 have hfw := h.few
 refine ⟨getP K x.P, ?_, fun R hR => ?_, rget_law f.p (some ⟨f.b1, 0, none⟩) ka f.Ts.length f.tc kn kc t f.Ts x K hx rfl Xt0 hkn bK (h.tok hxm (hl x hxm)) (fun y hy => pr_bound (h.pair hxm hy)) w h.c h.tbs.now hk⟩
 ·rw [h.getD hx]
  exact getP_T (h.lim x hxm).1
 ·cases hh : qg_ K x.P with
  | false => rw [getP_no hh] at hR; cases hR
  | true =>
   obtain ⟨y, hy, e⟩ := getP_yes hh
   rw [e] at hR
   cases hR
   exact (h.pair hxm (List.mem_of_getElem? hy)).2
theorem rcall1_law {S : Nat -> Prop} {f : Rf} {w : World} (h : RfR S w f) (hS : ∀ k, S k -> k < w.heap.size) (o : zj_) (t : Nat) (ho : OpD S w f o t) (hk1 : o.k = 1) (hl : ∀ x ∈ f.Ts, x.P.length <= 900000) :
  Calls prog 78 #[.pointer (some ⟨f.p, 0, none⟩), .agg #[.int .i64 o.k, .int .i64 o.t, .int .i64 o.i, .slice o.ka o.kn o.kc, .slice o.ta o.tn o.tc, .int .i64 o.m, .slice o.ra o.rn o.rc]] w (z5_ S w f (yw_ f.j f.P o)) := by
 obtain ⟨hb, hbx⟩ := yr_ w #[.int .i64 o.k, .int .i64 o.t, .int .i64 o.i, .slice o.ka o.kn o.kc, .slice o.ta o.tn o.tc, .int .i64 o.m, .slice o.ra o.rn o.rc] #[.int .i64 0, .slice none 0 0] 74 81
 obtain ⟨w2, hw2⟩ := gty (((w.alloc (.cells #[.int .i64 o.k, .int .i64 o.t, .int .i64 o.i, .slice o.ka o.kn o.kc, .slice o.ta o.tn o.tc, .int .i64 o.m, .slice o.ra o.rn o.rc] 74)).alloc (.cells #[.int .i64 0, .slice none 0 0] 81)))
 rw [← hw2] at hb hbx
 have hok := ho.at'.now
 have hk5 : o.k < 5 := by omega
 have hkey := jx_ ho.po Xt54 hok.kl hok.kb
 have hrow := QK_ ho.po hok.rl hok.rb
 have hB1 : w.heap.size <= w.heap.size + 1 := Nat.le_succ _
 have hm2 := h.sp hb hB1
 have hbd : ∀ k, Sp S (w.heap.size + 1) k -> k < w2.heap.size := fun k hk => hk.elim (fun hk => Nat.lt_of_lt_of_le (hS k hk) hb.size) Xt17
 obtain ⟨q, hq1, hq2, hq3⟩ := qT_ hm2 t ho.tl o.K hkey.1 o.ka o.kn o.kc hok.kl Xt27 (hok.ks.below hb)
 have HQ := hid (And.intro hq1 hq2)
 have HG := hid hq3
 have HH := hid (And.intro h (And.intro hS hl))
 have HO := hid ho
 have HB := hid (And.intro hb hbx)
 have HM2 := hid (And.intro hm2 hbd)
 have HKY := hid (And.intro hkey hrow)
 have HST := hid (ho.at'.step (S' := Sp S (w.heap.size + 1)) (Off.of hb) (fun k hk => by
  rcases hk with hk | hk
  ·exact .inl hk
  ·exact .inr Xt0))
 have HTE := hid (show o.t.toNat = t by rw [ho.te]; simp)
 have b0 := (hbx w2 (Below.refl _ _)).1
 have c0 := b0.cell 0
 have c1 := b0.cell 1
 have c3 := b0.cell 3
 have c6 := b0.cell 6
 simp only [gtA, gtB, gtC] at c0 c1 c3 c6
 rw [ho.te] at c1
 rw [hk1] at c0
 have HK1 := hid hk1
 clear hk1 h hS ho hl hok hk5 hkey hrow hm2 hbd hq1 hq2 hq3 hb hbx b0
 go_enter func78, ntmps78
 go_upto_region 1 with (fail)
 rw [← hw2]
 clear hw2 hB1
 go_wp2_with fail
 clear c0 c1 c3 c6
 refine HG.out.mono ?_; rintro r w3 ⟨hr, hb3⟩
 have HB3 := hid hb3
 have hbx3 := HB.out.2 w3 hb3
 have HX3 := hid hbx3
 have c0 := hbx3.1.cell 0
 have c1 := hbx3.1.cell 1
 have c3 := hbx3.1.cell 3
 have c6 := hbx3.1.cell 6
 simp only [gtA, gtB, gtC] at c0 c1 c3 c6
 rw [HO.out.te] at c1
 rw [HK1.out] at c0
 have g0 := hbx3.2.cell 0
 have g1 := hbx3.2.cell 1
 have i0 := hbx3.2.frozen 0
 have i1 := hbx3.2.frozen 1
 simp only [gtA, gtB, gtC] at g0 g1
 clear hb3 hbx3
 cases q with
 | none =>
  cases hr
  go_wp2_with fail
  clear g0 g1 i0 i1 c0 c1 c3 c6
  have hb4 := zg_.set2 (x := .int .i64 6) (y := .slice none 0 0) HX3.out.2
  have ho4 : Off (fun k => k = w.heap.size + 1) w3 ((w3.setCell ⟨w.heap.size + 1, 0, none⟩ (.int .i64 6)).setCell ⟨w.heap.size + 1, 1, none⟩ (.slice none 0 0)) :=
   Off.set (S := fun k => k = w.heap.size + 1) (Off.set (S := fun k => k = w.heap.size + 1) (Off.refl _ w3) ⟨w.heap.size + 1, 0, none⟩ rfl _) ⟨w.heap.size + 1, 1, none⟩ rfl _
  revert hb4 ho4
  generalize (w3.setCell ⟨w.heap.size + 1, 0, none⟩ (.int .i64 6)).setCell ⟨w.heap.size + 1, 1, none⟩ (.slice none 0 0) = w4
  intro hb4 ho4
  have q0 := hb4.cell 0
  have q1 := hb4.cell 1
  have HO4 := hid ho4
  clear hb4 ho4
  first | refine bodyPost_end (v := .agg #[.int .i64 6, .slice none 0 0]) Xt6 rfl ?_ | refine bodyPost_ret (v := .agg #[.int .i64 6, .slice none 0 0]) Xt6 rfl ?_
  refine z5_.fin HH.out.2.1 HB.out.1 (Nat.le_succ _) (RfS.rfl' f) (HM2.out.1.below HB3.out) (Off.of HB3.out) HO4.out HH.out.1.hp HH.out.1.hb (y := ⟨6, none, 0, []⟩) ?_ (yb_ _) (fun W' _ => zp_.nil _ _) Xt16
  unfold yw_
  rw [if_pos HK1.out, HTE.out, ← HQ.out.1]
  rfl
 | some R =>
  obtain ⟨v, rfl, hcp⟩ := hr
  obtain ⟨a8, c8, R8, hv8, hl8, hm8, hst8⟩ := xz_ (S := Sp S (w.heap.size + 1)) hcp rfl (fun k hk => HM2.out.2 k hk)
  subst hv8
  have HC8 := hid (And.intro hl8 (And.intro hm8 hst8))
  obtain ⟨rn, hrn⟩ := gtx (R.length)
  rw [hrn] at HC8 ⊢
  clear hcp hl8 hm8 hst8 hrn
  obtain ⟨w5, hw5⟩ := gty (w3.alloc (.cells #[.slice o.ka o.kn o.kc, .slice a8 rn c8] 78))
  have hb5 : Below w3.heap.size w3 w5 := by rw [hw5]; exact bl1 _ _
  have hx5 : zg_ w5 w3.heap.size #[.slice o.ka o.kn o.kc, .slice a8 rn c8] 78 := by rw [hw5]; exact zg_.new _ _ _
  have HB5 := hid hb5
  have HX5 := hid (HX3.out.2.below hb5)
  have HXP := hid hx5
  clear g0 g1 i0 i1
  have g0 := HX5.out.cell 0
  have g1 := HX5.out.cell 1
  have i0 := HX5.out.frozen 0
  have i1 := HX5.out.frozen 1
  simp only [gtA, gtB, gtC] at g0 g1
  rw [hw5] at g0 g1 i0 i1
  clear hb5 hx5
  go_wp2_with fail
  clear g0 g1 i0 i1 c0 c1 c3 c6
  rw [← hw5]
  clear hw5
  have hb4 := zg_.set2 (x := .int .i64 0) (y := .slice (some ⟨w3.heap.size, 0, none⟩) 1 1) HX5.out
  have ho4 : Off (fun k => k = w.heap.size + 1) w5 ((w5.setCell ⟨w.heap.size + 1, 0, none⟩ (.int .i64 0)).setCell ⟨w.heap.size + 1, 1, none⟩ (.slice (some ⟨w3.heap.size, 0, none⟩) 1 1)) :=
   Off.set (S := fun k => k = w.heap.size + 1) (Off.set (S := fun k => k = w.heap.size + 1) (Off.refl _ w5) ⟨w.heap.size + 1, 0, none⟩ rfl _) ⟨w.heap.size + 1, 1, none⟩ rfl _
  revert hb4 ho4
  generalize (w5.setCell ⟨w.heap.size + 1, 0, none⟩ (.int .i64 0)).setCell ⟨w.heap.size + 1, 1, none⟩ (.slice (some ⟨w3.heap.size, 0, none⟩) 1 1) = w4
  intro hb4 ho4
  have q0 := hb4.cell 0
  have q1 := hb4.cell 1
  have HO4 := hid ho4
  clear hb4 ho4
  first | refine bodyPost_end (v := .agg #[.int .i64 0, .slice (some ⟨w3.heap.size, 0, none⟩) 1 1]) Xt6 rfl ?_ | refine bodyPost_ret (v := .agg #[.int .i64 0, .slice (some ⟨w3.heap.size, 0, none⟩) 1 1]) Xt6 rfl ?_
  have hb35 := HB3.out.trans (HB5.out.mono HB3.out.size)
  have hkl := HO.out.at'.now.kl
  have hst := HST.out
  refine z5_.fin HH.out.2.1 HB.out.1 (Nat.le_succ _) (RfS.rfl' f) (HM2.out.1.below hb35) (Off.of hb35) HO4.out HH.out.1.hp HH.out.1.hb (y := ⟨0, some ⟨w3.heap.size, 0, none⟩, 1, [⟨o.ka, o.kc, o.K, a8, c8, R8⟩]⟩) ?_ ⟨by simp, fun p hp => ?_⟩ ?_ Xt16
  ·unfold yw_
   rw [if_pos HK1.out, HTE.out, ← HQ.out.1]
   show ((0, [(o.K, R8.map P1.bs)]), f.P) = _
   rw [HC8.out.2.1]
   rfl
  ·rw [List.mem_singleton] at hp
   subst hp
   exact pr_ok ⟨HKY.out.1, by show rOk (R8.map P1.bs); rw [HC8.out.2.1]; exact HQ.out.2 R rfl⟩
  ·intro W' o'
   have hn : ¬ Sp S (w.heap.size + 1) w3.heap.size := fun e => by
    have := HM2.out.2 _ e
    have := HB3.out.size
    omega
   have hb := o'.box HXP.out hn
   have hca := (hst.step (S' := Sp S (w.heap.size + 1)) (Off.of hb35) (fun k hk => .inl hk)) W' o'
   have hr8 := (HC8.out.2.2.below HB5.out) W' o'
   exact QJ_ _ (by rw [hb.cell]; show some (Value.slice o.ka o.kn o.kc) = some (Value.slice o.ka o.K.length o.kc); rw [hkl]) (by rw [hb.cell]; show some (Value.slice a8 rn c8) = some (Value.slice a8 R8.length c8); rw [HC8.out.1]) hca.ks hr8
theorem rcall2_law {S : Nat -> Prop} {f : Rf} {w : World} (h : RfR S w f) (hS : ∀ k, S k -> k < w.heap.size) (o : zj_) (t : Nat) (ho : OpD S w f o t) (hk1 : o.k = 2) (hl : ∀ x ∈ f.Ts, x.P.length <= 900000) :
  Calls prog 78 #[.pointer (some ⟨f.p, 0, none⟩), .agg #[.int .i64 o.k, .int .i64 o.t, .int .i64 o.i, .slice o.ka o.kn o.kc, .slice o.ta o.tn o.tc, .int .i64 o.m, .slice o.ra o.rn o.rc]] w (z5_ S w f (yw_ f.j f.P o)) := by
 obtain ⟨hb, hbx⟩ := yr_ w #[.int .i64 o.k, .int .i64 o.t, .int .i64 o.i, .slice o.ka o.kn o.kc, .slice o.ta o.tn o.tc, .int .i64 o.m, .slice o.ra o.rn o.rc] #[.int .i64 0, .slice none 0 0] 74 81
 obtain ⟨w2, hw2⟩ := gty (((w.alloc (.cells #[.int .i64 o.k, .int .i64 o.t, .int .i64 o.i, .slice o.ka o.kn o.kc, .slice o.ta o.tn o.tc, .int .i64 o.m, .slice o.ra o.rn o.rc] 74)).alloc (.cells #[.int .i64 0, .slice none 0 0] 81)))
 rw [← hw2] at hb hbx
 have hok := ho.at'.now
 have hk5 : o.k < 5 := by omega
 have hkey := jx_ ho.po Xt54 hok.kl hok.kb
 have hrow := QK_ ho.po hok.rl hok.rb
 have hB1 : w.heap.size <= w.heap.size + 1 := Nat.le_succ _
 have hm2 := h.sp hb hB1
 have hbd : ∀ k, Sp S (w.heap.size + 1) k -> k < w2.heap.size := fun k hk => hk.elim (fun hk => Nat.lt_of_lt_of_le (hS k hk) hb.size) Xt17
 obtain ⟨q, hq1, hq2, hq3⟩ := qT_ hm2 t ho.tl o.K hkey.1 o.ka o.kn o.kc hok.kl Xt27 (hok.ks.below hb)
 have HQ := hid (And.intro hq1 hq2)
 have HG := hid hq3
 have HH := hid (And.intro h (And.intro hS hl))
 have HO := hid ho
 have HB := hid (And.intro hb hbx)
 have HM2 := hid (And.intro hm2 hbd)
 have HKY := hid (And.intro hkey hrow)
 have HST := hid (ho.at'.step (S' := Sp S (w.heap.size + 1)) (Off.of hb) (fun k hk => by
  rcases hk with hk | hk
  ·exact .inl hk
  ·exact .inr Xt0))
 have HTE := hid (show o.t.toNat = t by rw [ho.te]; simp)
 have b0 := (hbx w2 (Below.refl _ _)).1
 have c0 := b0.cell 0
 have c1 := b0.cell 1
 have c3 := b0.cell 3
 have c6 := b0.cell 6
 simp only [gtA, gtB, gtC] at c0 c1 c3 c6
 rw [ho.te] at c1
 rw [hk1] at c0
 have HK1 := hid hk1
 clear hk1 h hS ho hl hok hk5 hkey hrow hm2 hbd hq1 hq2 hq3 hb hbx b0
 go_enter func78, ntmps78
 go_upto_region 1 with (fail)
 rw [← hw2]
 clear hw2 hB1
 go_wp2_with fail
 clear c0 c1 c3 c6
 refine HG.out.mono ?_; rintro r w3 ⟨hr, hb3⟩
 have HB3 := hid hb3
 have hbx3 := HB.out.2 w3 hb3
 have HX3 := hid hbx3
 have c0 := hbx3.1.cell 0
 have c1 := hbx3.1.cell 1
 have c3 := hbx3.1.cell 3
 have c6 := hbx3.1.cell 6
 simp only [gtA, gtB, gtC] at c0 c1 c3 c6
 rw [HO.out.te] at c1
 rw [HK1.out] at c0
 have g0 := hbx3.2.cell 0
 have g1 := hbx3.2.cell 1
 have i0 := hbx3.2.frozen 0
 have i1 := hbx3.2.frozen 1
 simp only [gtA, gtB, gtC] at g0 g1
 clear hb3 hbx3
 obtain ⟨v0, rfl⟩ : ∃ v0, r = .returned (.tuple #[v0, .bool q.isSome]) := by
  exact Xb38
 have HQI := hid (show (y9_ (f.P.getD t []) o.K).isSome = q.isSome by rw [← HQ.out.1, Option.isSome_map])
 clear hr
 have HSET := hid (rset_m (HM2.out.1.below HB3.out) (fun k hk => Nat.lt_of_lt_of_le (HM2.out.2 k hk) HB3.out.size) t HO.out.tl o.K HKY.out.1 o.ka o.kn o.kc HO.out.at'.now.kl o.R HKY.out.2 o.ra o.rn o.rc HO.out.at'.now.rl Xt61 ((HST.out.now.ks).below HB3.out) ((HST.out.now.rs).below HB3.out))
 go_wp2_with fail
 clear g0 g1 i0 i1 c0 c1 c3 c6
 refine HSET.out.mono ?_; rintro r w5 ⟨v5, g, rfl, hs, hg, ho5, hP, hN⟩
 have HG5 := hid (And.intro hs (And.intro hg (And.intro ho5 (And.intro hP hN))))
 have HX5 := hid (ho5.box HX3.out.2 Xt52)
 have g0 := HX5.out.cell 0
 have g1 := HX5.out.cell 1
 have i0 := HX5.out.frozen 0
 have i1 := HX5.out.frozen 1
 simp only [gtA, gtB, gtC] at g0 g1
 clear hs hg ho5 hP hN
 go_wp2_with fail
 clear g0 g1 i0 i1
 have hb4 := zg_.set2 (x := .int .i64 0) (y := .slice none 0 0) HX5.out
 have ho4 : Off (fun k => k = w.heap.size + 1) w5 ((w5.setCell ⟨w.heap.size + 1, 0, none⟩ (.int .i64 0)).setCell ⟨w.heap.size + 1, 1, none⟩ (.slice none 0 0)) :=
  Off.set (S := fun k => k = w.heap.size + 1) (Off.set (S := fun k => k = w.heap.size + 1) (Off.refl _ w5) ⟨w.heap.size + 1, 0, none⟩ rfl _) ⟨w.heap.size + 1, 1, none⟩ rfl _
 revert hb4 ho4
 generalize (w5.setCell ⟨w.heap.size + 1, 0, none⟩ (.int .i64 0)).setCell ⟨w.heap.size + 1, 1, none⟩ (.slice none 0 0) = w4
 intro hb4 ho4
 have q0 := hb4.cell 0
 have q1 := hb4.cell 1
 have HO4 := hid ho4
 clear hb4 ho4
 first | refine bodyPost_end (v := .agg #[.int .i64 0, .slice none 0 0]) Xt6 rfl ?_ | refine bodyPost_ret (v := .agg #[.int .i64 0, .slice none 0 0]) Xt6 rfl ?_
 refine z5_.fin HH.out.2.1 HB.out.1 (Nat.le_succ _) HG5.out.1 HG5.out.2.1 ((Off.of HB3.out).trans HG5.out.2.2.1) HO4.out HH.out.1.hp HH.out.1.hb (y := ⟨0, none, 0, []⟩) ?_ (yb_ _) (fun W' _ => zp_.nil _ _) HG5.out.2.2.2.2
 rw [HG5.out.2.2.2.1]
 unfold yw_
 rw [if_neg Xt11, if_pos HK1.out, HTE.out]
 rfl
theorem rcall3_law {S : Nat -> Prop} {f : Rf} {w : World} (h : RfR S w f) (hS : ∀ k, S k -> k < w.heap.size) (o : zj_) (t : Nat) (ho : OpD S w f o t) (hk1 : o.k = 3) (hl : ∀ x ∈ f.Ts, x.P.length <= 900000) :
  Calls prog 78 #[.pointer (some ⟨f.p, 0, none⟩), .agg #[.int .i64 o.k, .int .i64 o.t, .int .i64 o.i, .slice o.ka o.kn o.kc, .slice o.ta o.tn o.tc, .int .i64 o.m, .slice o.ra o.rn o.rc]] w (z5_ S w f (yw_ f.j f.P o)) := by
 obtain ⟨hb, hbx⟩ := yr_ w #[.int .i64 o.k, .int .i64 o.t, .int .i64 o.i, .slice o.ka o.kn o.kc, .slice o.ta o.tn o.tc, .int .i64 o.m, .slice o.ra o.rn o.rc] #[.int .i64 0, .slice none 0 0] 74 81
 obtain ⟨w2, hw2⟩ := gty (((w.alloc (.cells #[.int .i64 o.k, .int .i64 o.t, .int .i64 o.i, .slice o.ka o.kn o.kc, .slice o.ta o.tn o.tc, .int .i64 o.m, .slice o.ra o.rn o.rc] 74)).alloc (.cells #[.int .i64 0, .slice none 0 0] 81)))
 rw [← hw2] at hb hbx
 have hok := ho.at'.now
 have hk5 : o.k < 5 := by omega
 have hkey := jx_ ho.po Xt54 hok.kl hok.kb
 have hrow := QK_ ho.po hok.rl hok.rb
 have hB1 : w.heap.size <= w.heap.size + 1 := Nat.le_succ _
 have hm2 := h.sp hb hB1
 have hbd : ∀ k, Sp S (w.heap.size + 1) k -> k < w2.heap.size := fun k hk => hk.elim (fun hk => Nat.lt_of_lt_of_le (hS k hk) hb.size) Xt17
 obtain ⟨q, hq1, hq2, hq3⟩ := qT_ hm2 t ho.tl o.K hkey.1 o.ka o.kn o.kc hok.kl Xt27 (hok.ks.below hb)
 have HQ := hid (And.intro hq1 hq2)
 have HG := hid hq3
 have HH := hid (And.intro h (And.intro hS hl))
 have HO := hid ho
 have HB := hid (And.intro hb hbx)
 have HM2 := hid (And.intro hm2 hbd)
 have HKY := hid (And.intro hkey hrow)
 have HST := hid (ho.at'.step (S' := Sp S (w.heap.size + 1)) (Off.of hb) (fun k hk => by
  rcases hk with hk | hk
  ·exact .inl hk
  ·exact .inr Xt0))
 have HTE := hid (show o.t.toNat = t by rw [ho.te]; simp)
 have b0 := (hbx w2 (Below.refl _ _)).1
 have c0 := b0.cell 0
 have c1 := b0.cell 1
 have c3 := b0.cell 3
 have c6 := b0.cell 6
 simp only [gtA, gtB, gtC] at c0 c1 c3 c6
 rw [ho.te] at c1
 rw [hk1] at c0
 have HK1 := hid hk1
 clear hk1 h hS ho hl hok hk5 hkey hrow hm2 hbd hq1 hq2 hq3 hb hbx b0
 go_enter func78, ntmps78
 go_upto_region 1 with (fail)
 rw [← hw2]
 clear hw2 hB1
 go_wp2_with fail
 clear c0 c1 c3 c6
 refine HG.out.mono ?_; rintro r w3 ⟨hr, hb3⟩
 have HB3 := hid hb3
 have hbx3 := HB.out.2 w3 hb3
 have HX3 := hid hbx3
 have c0 := hbx3.1.cell 0
 have c1 := hbx3.1.cell 1
 have c3 := hbx3.1.cell 3
 have c6 := hbx3.1.cell 6
 simp only [gtA, gtB, gtC] at c0 c1 c3 c6
 rw [HO.out.te] at c1
 rw [HK1.out] at c0
 have g0 := hbx3.2.cell 0
 have g1 := hbx3.2.cell 1
 have i0 := hbx3.2.frozen 0
 have i1 := hbx3.2.frozen 1
 simp only [gtA, gtB, gtC] at g0 g1
 clear hb3 hbx3
 obtain ⟨v0, rfl⟩ : ∃ v0, r = .returned (.tuple #[v0, .bool q.isSome]) := by
  exact Xb38
 have HQI := hid (show (y9_ (f.P.getD t []) o.K).isSome = q.isSome by rw [← HQ.out.1, Option.isSome_map])
 clear hr
 cases hqs : q.isSome with
 | true =>
  rw [hqs] at HQI
  clear hqs
  go_wp2_with fail
  clear g0 g1 i0 i1 c0 c1 c3 c6
  have hb4 := zg_.set2 (x := .int .i64 7) (y := .slice none 0 0) HX3.out.2
  have ho4 : Off (fun k => k = w.heap.size + 1) w3 ((w3.setCell ⟨w.heap.size + 1, 0, none⟩ (.int .i64 7)).setCell ⟨w.heap.size + 1, 1, none⟩ (.slice none 0 0)) :=
   Off.set (S := fun k => k = w.heap.size + 1) (Off.set (S := fun k => k = w.heap.size + 1) (Off.refl _ w3) ⟨w.heap.size + 1, 0, none⟩ rfl _) ⟨w.heap.size + 1, 1, none⟩ rfl _
  revert hb4 ho4
  generalize (w3.setCell ⟨w.heap.size + 1, 0, none⟩ (.int .i64 7)).setCell ⟨w.heap.size + 1, 1, none⟩ (.slice none 0 0) = w4
  intro hb4 ho4
  have q0 := hb4.cell 0
  have q1 := hb4.cell 1
  have HO4 := hid ho4
  clear hb4 ho4
  first | refine bodyPost_end (v := .agg #[.int .i64 7, .slice none 0 0]) Xt6 rfl ?_ | refine bodyPost_ret (v := .agg #[.int .i64 7, .slice none 0 0]) Xt6 rfl ?_
  refine z5_.fin HH.out.2.1 HB.out.1 (Nat.le_succ _) (RfS.rfl' f) (HM2.out.1.below HB3.out) (Off.of HB3.out) HO4.out HH.out.1.hp HH.out.1.hb (y := ⟨7, none, 0, []⟩) ?_ (yb_ _) (fun W' _ => zp_.nil _ _) Xt16
  unfold yw_
  rw [if_neg Xt11, if_neg Xt11, if_pos HK1.out, HTE.out, if_pos HQI.out]
  rfl
 | false =>
  rw [hqs] at HQI
  clear hqs
  have HSET := hid (rset_m (HM2.out.1.below HB3.out) (fun k hk => Nat.lt_of_lt_of_le (HM2.out.2 k hk) HB3.out.size) t HO.out.tl o.K HKY.out.1 o.ka o.kn o.kc HO.out.at'.now.kl o.R HKY.out.2 o.ra o.rn o.rc HO.out.at'.now.rl Xt61 ((HST.out.now.ks).below HB3.out) ((HST.out.now.rs).below HB3.out))
  go_wp2_with fail
  clear g0 g1 i0 i1 c0 c1 c3 c6
  refine HSET.out.mono ?_; rintro r w5 ⟨v5, g, rfl, hs, hg, ho5, hP, hN⟩
  have HG5 := hid (And.intro hs (And.intro hg (And.intro ho5 (And.intro hP hN))))
  have HX5 := hid (ho5.box HX3.out.2 Xt52)
  have g0 := HX5.out.cell 0
  have g1 := HX5.out.cell 1
  have i0 := HX5.out.frozen 0
  have i1 := HX5.out.frozen 1
  simp only [gtA, gtB, gtC] at g0 g1
  clear hs hg ho5 hP hN
  go_wp2_with fail
  clear g0 g1 i0 i1
  have hb4 := zg_.set2 (x := .int .i64 0) (y := .slice none 0 0) HX5.out
  have ho4 : Off (fun k => k = w.heap.size + 1) w5 ((w5.setCell ⟨w.heap.size + 1, 0, none⟩ (.int .i64 0)).setCell ⟨w.heap.size + 1, 1, none⟩ (.slice none 0 0)) :=
   Off.set (S := fun k => k = w.heap.size + 1) (Off.set (S := fun k => k = w.heap.size + 1) (Off.refl _ w5) ⟨w.heap.size + 1, 0, none⟩ rfl _) ⟨w.heap.size + 1, 1, none⟩ rfl _
  revert hb4 ho4
  generalize (w5.setCell ⟨w.heap.size + 1, 0, none⟩ (.int .i64 0)).setCell ⟨w.heap.size + 1, 1, none⟩ (.slice none 0 0) = w4
  intro hb4 ho4
  have q0 := hb4.cell 0
  have q1 := hb4.cell 1
  have HO4 := hid ho4
  clear hb4 ho4
  first | refine bodyPost_end (v := .agg #[.int .i64 0, .slice none 0 0]) Xt6 rfl ?_ | refine bodyPost_ret (v := .agg #[.int .i64 0, .slice none 0 0]) Xt6 rfl ?_
  refine z5_.fin HH.out.2.1 HB.out.1 (Nat.le_succ _) HG5.out.1 HG5.out.2.1 ((Off.of HB3.out).trans HG5.out.2.2.1) HO4.out HH.out.1.hp HH.out.1.hb (y := ⟨0, none, 0, []⟩) ?_ (yb_ _) (fun W' _ => zp_.nil _ _) HG5.out.2.2.2.2
  rw [HG5.out.2.2.2.1]
  unfold yw_
  rw [if_neg Xt11, if_neg Xt11, if_pos HK1.out, HTE.out, if_neg (by rw [HQI.out]; simp)]
  rfl
theorem rcall4_law {S : Nat -> Prop} {f : Rf} {w : World} (h : RfR S w f) (hS : ∀ k, S k -> k < w.heap.size) (o : zj_) (t : Nat) (ho : OpD S w f o t) (hk1 : o.k = 4) (hl : ∀ x ∈ f.Ts, x.P.length <= 900000) :
  Calls prog 78 #[.pointer (some ⟨f.p, 0, none⟩), .agg #[.int .i64 o.k, .int .i64 o.t, .int .i64 o.i, .slice o.ka o.kn o.kc, .slice o.ta o.tn o.tc, .int .i64 o.m, .slice o.ra o.rn o.rc]] w (z5_ S w f (yw_ f.j f.P o)) := by
 obtain ⟨hb, hbx⟩ := yr_ w #[.int .i64 o.k, .int .i64 o.t, .int .i64 o.i, .slice o.ka o.kn o.kc, .slice o.ta o.tn o.tc, .int .i64 o.m, .slice o.ra o.rn o.rc] #[.int .i64 0, .slice none 0 0] 74 81
 obtain ⟨w2, hw2⟩ := gty (((w.alloc (.cells #[.int .i64 o.k, .int .i64 o.t, .int .i64 o.i, .slice o.ka o.kn o.kc, .slice o.ta o.tn o.tc, .int .i64 o.m, .slice o.ra o.rn o.rc] 74)).alloc (.cells #[.int .i64 0, .slice none 0 0] 81)))
 rw [← hw2] at hb hbx
 have hok := ho.at'.now
 have hk5 : o.k < 5 := by omega
 have hkey := jx_ ho.po Xt54 hok.kl hok.kb
 have hrow := QK_ ho.po hok.rl hok.rb
 have hB1 : w.heap.size <= w.heap.size + 1 := Nat.le_succ _
 have hm2 := h.sp hb hB1
 have hbd : ∀ k, Sp S (w.heap.size + 1) k -> k < w2.heap.size := fun k hk => hk.elim (fun hk => Nat.lt_of_lt_of_le (hS k hk) hb.size) Xt17
 obtain ⟨q, hq1, hq2, hq3⟩ := qT_ hm2 t ho.tl o.K hkey.1 o.ka o.kn o.kc hok.kl Xt27 (hok.ks.below hb)
 have HQ := hid (And.intro hq1 hq2)
 have HG := hid hq3
 have HH := hid (And.intro h (And.intro hS hl))
 have HO := hid ho
 have HB := hid (And.intro hb hbx)
 have HM2 := hid (And.intro hm2 hbd)
 have HKY := hid (And.intro hkey hrow)
 have HST := hid (ho.at'.step (S' := Sp S (w.heap.size + 1)) (Off.of hb) (fun k hk => by
  rcases hk with hk | hk
  ·exact .inl hk
  ·exact .inr Xt0))
 have HTE := hid (show o.t.toNat = t by rw [ho.te]; simp)
 have b0 := (hbx w2 (Below.refl _ _)).1
 have c0 := b0.cell 0
 have c1 := b0.cell 1
 have c3 := b0.cell 3
 have c6 := b0.cell 6
 simp only [gtA, gtB, gtC] at c0 c1 c3 c6
 rw [ho.te] at c1
 rw [hk1] at c0
 have HK1 := hid hk1
 clear hk1 h hS ho hl hok hk5 hkey hrow hm2 hbd hq1 hq2 hq3 hb hbx b0
 go_enter func78, ntmps78
 go_upto_region 1 with (fail)
 rw [← hw2]
 clear hw2 hB1
 go_wp2_with fail
 clear c0 c1 c3 c6
 refine HG.out.mono ?_; rintro r w3 ⟨hr, hb3⟩
 have HB3 := hid hb3
 have hbx3 := HB.out.2 w3 hb3
 have HX3 := hid hbx3
 have c0 := hbx3.1.cell 0
 have c1 := hbx3.1.cell 1
 have c3 := hbx3.1.cell 3
 have c6 := hbx3.1.cell 6
 simp only [gtA, gtB, gtC] at c0 c1 c3 c6
 rw [HO.out.te] at c1
 rw [HK1.out] at c0
 have g0 := hbx3.2.cell 0
 have g1 := hbx3.2.cell 1
 have i0 := hbx3.2.frozen 0
 have i1 := hbx3.2.frozen 1
 simp only [gtA, gtB, gtC] at g0 g1
 clear hb3 hbx3
 obtain ⟨v0, rfl⟩ : ∃ v0, r = .returned (.tuple #[v0, .bool q.isSome]) := by
  exact Xb38
 have HQI := hid (show (y9_ (f.P.getD t []) o.K).isSome = q.isSome by rw [← HQ.out.1, Option.isSome_map])
 clear hr
 cases hqs : q.isSome with
 | true =>
  rw [hqs] at HQI
  clear hqs
  have HSET := hid (rset_m (HM2.out.1.below HB3.out) (fun k hk => Nat.lt_of_lt_of_le (HM2.out.2 k hk) HB3.out.size) t HO.out.tl o.K HKY.out.1 o.ka o.kn o.kc HO.out.at'.now.kl [] (fun e => absurd rfl e) none 0 0 rfl Xt61 ((HST.out.now.ks).below HB3.out) (RdR.nil _ none))
  go_wp2_with fail
  clear g0 g1 i0 i1 c0 c1 c3 c6
  refine HSET.out.mono ?_; rintro r w5 ⟨v5, g, rfl, hs, hg, ho5, hP, hN⟩
  have HG5 := hid (And.intro hs (And.intro hg (And.intro ho5 (And.intro hP hN))))
  have HX5 := hid (ho5.box HX3.out.2 Xt52)
  have g0 := HX5.out.cell 0
  have g1 := HX5.out.cell 1
  have i0 := HX5.out.frozen 0
  have i1 := HX5.out.frozen 1
  simp only [gtA, gtB, gtC] at g0 g1
  clear hs hg ho5 hP hN
  go_wp2_with fail
  clear g0 g1 i0 i1
  have hb4 := zg_.set2 (x := .int .i64 0) (y := .slice none 0 0) HX5.out
  have ho4 : Off (fun k => k = w.heap.size + 1) w5 ((w5.setCell ⟨w.heap.size + 1, 0, none⟩ (.int .i64 0)).setCell ⟨w.heap.size + 1, 1, none⟩ (.slice none 0 0)) :=
   Off.set (S := fun k => k = w.heap.size + 1) (Off.set (S := fun k => k = w.heap.size + 1) (Off.refl _ w5) ⟨w.heap.size + 1, 0, none⟩ rfl _) ⟨w.heap.size + 1, 1, none⟩ rfl _
  revert hb4 ho4
  generalize (w5.setCell ⟨w.heap.size + 1, 0, none⟩ (.int .i64 0)).setCell ⟨w.heap.size + 1, 1, none⟩ (.slice none 0 0) = w4
  intro hb4 ho4
  have q0 := hb4.cell 0
  have q1 := hb4.cell 1
  have HO4 := hid ho4
  clear hb4 ho4
  first | refine bodyPost_end (v := .agg #[.int .i64 0, .slice none 0 0]) Xt6 rfl ?_ | refine bodyPost_ret (v := .agg #[.int .i64 0, .slice none 0 0]) Xt6 rfl ?_
  refine z5_.fin HH.out.2.1 HB.out.1 (Nat.le_succ _) HG5.out.1 HG5.out.2.1 ((Off.of HB3.out).trans HG5.out.2.2.1) HO4.out HH.out.1.hp HH.out.1.hb (y := ⟨0, none, 0, []⟩) ?_ (yb_ _) (fun W' _ => zp_.nil _ _) HG5.out.2.2.2.2
  rw [HG5.out.2.2.2.1]
  unfold yw_
  rw [if_neg Xt11, if_neg Xt11, if_neg Xt11, if_pos HK1.out, HTE.out, if_pos HQI.out]
  rfl
 | false =>
  rw [hqs] at HQI
  clear hqs
  go_wp2_with fail
  clear g0 g1 i0 i1 c0 c1 c3 c6
  have hb4 := zg_.set2 (x := .int .i64 6) (y := .slice none 0 0) HX3.out.2
  have ho4 : Off (fun k => k = w.heap.size + 1) w3 ((w3.setCell ⟨w.heap.size + 1, 0, none⟩ (.int .i64 6)).setCell ⟨w.heap.size + 1, 1, none⟩ (.slice none 0 0)) :=
   Off.set (S := fun k => k = w.heap.size + 1) (Off.set (S := fun k => k = w.heap.size + 1) (Off.refl _ w3) ⟨w.heap.size + 1, 0, none⟩ rfl _) ⟨w.heap.size + 1, 1, none⟩ rfl _
  revert hb4 ho4
  generalize (w3.setCell ⟨w.heap.size + 1, 0, none⟩ (.int .i64 6)).setCell ⟨w.heap.size + 1, 1, none⟩ (.slice none 0 0) = w4
  intro hb4 ho4
  have q0 := hb4.cell 0
  have q1 := hb4.cell 1
  have HO4 := hid ho4
  clear hb4 ho4
  first | refine bodyPost_end (v := .agg #[.int .i64 6, .slice none 0 0]) Xt6 rfl ?_ | refine bodyPost_ret (v := .agg #[.int .i64 6, .slice none 0 0]) Xt6 rfl ?_
  refine z5_.fin HH.out.2.1 HB.out.1 (Nat.le_succ _) (RfS.rfl' f) (HM2.out.1.below HB3.out) (Off.of HB3.out) HO4.out HH.out.1.hp HH.out.1.hb (y := ⟨6, none, 0, []⟩) ?_ (yb_ _) (fun W' _ => zp_.nil _ _) Xt16
  unfold yw_
  rw [if_neg Xt11, if_neg Xt11, if_neg Xt11, if_pos HK1.out, HTE.out, if_neg (by rw [HQI.out]; simp)]
  rfl
section
open Go.Maps Go.Shelf
theorem trV_posi {j : Job} (ok : okB j = true) {k m : Nat} (hk : k < j.T.length) (hm : m < (j.T.getD k 0 + 1).toNat) : trV j (k : Int) ((m : Int) - 1) = ((((nmL 0 (j.T.take k)).length + m : Nat) : Int), (k : Int), (m : Int) - 1, true) := by
 obtain ⟨tl, htl⟩ := nmP_pre j.T k (m + 1) hk hm
 rw [xu_] at htl
 have hpl : (nmP j.T k m).length = (nmL 0 (j.T.take k)).length + m := by simp [nmP, yT_]
 refine trV_at j _ _ _ ?_ ?_
 ·rw [xv_ ok, htl, ← hpl]
  simp
 ·intro i hi e
  rw [xv_ ok, htl, ← hpl] at *
  rw [List.append_assoc, List.getElem?_append_left hi] at e
  have hm' := List.mem_of_getElem? e
  rw [nmP] at hm'
  rcases List.mem_append.1 hm' with h | h
  ·obtain ⟨k', h1, h2⟩ := nmL_mem _ _ _ h
   simp at h1 h2
   omega
  ·simp [rowN] at h
   obtain ⟨i', h1, h2⟩ := h
   omega
theorem filt_one {α : Type} (g : Nat -> Int × α) (F x : Nat) (hg : ∀ i, (g i).1 = ((F + 1 + i : Nat) : Int)) : ∀ m, ((List.range m).map g).filter (fun e => decide (e.1 = ((F + 1 + x : Nat) : Int))) = if x < m then [g x] else []
 | 0 => by simp
 | m + 1 => by
  have ih := filt_one g F x hg m
  rw [List.range_succ, List.map_append, List.filter_append, ih]
  by_cases e : m = x
  ·subst e
   rw [if_neg (Nat.lt_irrefl _), if_pos (Nat.lt_succ_self _)]
   simp [hg]
  ·have hne : ¬ ((g m).1 = ((F + 1 + x : Nat) : Int)) := by rw [hg]; omega
   have h2 : ([m].map g).filter (fun e => decide (e.1 = ((F + 1 + x : Nat) : Int))) = [] := by rw [List.map_cons, List.map_nil, List.filter_cons, decide_eq_false hne]; rfl
   rw [h2, List.append_nil]
   by_cases h : x < m
   ·rw [if_pos h, if_pos Xt0]
   ·rw [if_neg h, if_neg Xt0]
theorem mayR_of {R : List (List Int)} (h : rOk R) : y4_ (ofP R) = true := by
 have hl : (ofP R).length = R.length := List.length_map _
 unfold y4_ Za_
 simp only [Bool.and_eq_true, Bool.or_eq_true, decide_eq_true_eq, List.all_eq_true]
 refine ⟨fun p hp => ?_, by rw [hl]; exact h.1, by rw [hl]; exact h.2.1⟩
 unfold ofP at hp
 obtain ⟨b, hb, rfl⟩ := List.mem_map.1 hp
 have := (h.2.2 b hb).2
 simpa using this
theorem entP_val {j : Job} (ok : okB j = true) {k x : Nat} (hk : k < j.T.length) (hx : (x : Int) < j.T.getD k 0) {p : Pr} (hK : zH_ p.1) (hR : rOk p.2) :
  entP j k (trV j k x).1 p = if x + 1 < p.2.length then [(zu_ (p.2.getD (x + 1) []) p.1, p)] else [] := by
 have e0 := trV_posi ok hk (m := 0) Xt0
 have e1 := trV_posi ok hk (m := x + 1) Xt0
 rw [show ((x + 1 : Nat) : Int) - 1 = (x : Int) by omega] at e1
 rw [show ((0 : Nat) : Int) - 1 = -1 by omega] at e0
 obtain ⟨F, hF⟩ := gtx ((nmL 0 (j.T.take k)).length)
 rw [hF] at e0 e1
 have hmk : yA_ p.1.length = true := by unfold yA_; rw [decide_eq_true_eq]; exact hK.2
 have hrk : jg_ (ofP p.2) = true := by unfold jg_; rw [mayR_of hR]; simp
 have hl : (ofP p.2).length = p.2.length := List.length_map _
 unfold entP Qt_
 rw [e0, e1, hmk, hrk]
 simp only [Bool.and_self, if_true, Nat.add_zero, Int.toNat_natCast]
 unfold Qu_
 rw [ofP_bs, hl]
 have := filt_one (fun i => (((F + 1 + i : Nat) : Int), zu_ (p.2.getD (i + 1) []) p.1)) F x (fun _ => rfl) (min (j.T.getD k 0).toNat (p.2.length - 1))
 rw [show F + (x + 1) = F + 1 + x by omega, this]
 by_cases h : x + 1 < p.2.length
 ·rw [if_pos h, if_pos Xt0]; rfl
 ·rw [if_neg h, if_neg Xt0]; rfl
theorem idx_ris {j : Job} {k x : Int} {T : List Pr} (hT : tOk T) : (idxP j k x T).Pairwise fun a b => ltL a.1 b.1 = true := by
 unfold idxP
 rw [List.pairwise_map]
 exact q0_ hT
end
theorem rentry_own (a b : Option Addr) (L K : List Int) (n m ca cb : Nat) (hL : L.length = n) (hK : K.length = m) (hn : n <= 300000) (hm : m <= 300000) (w : World) (hA : Ls .u8 w a ca L) (hB : Ls .u8 w b cb K) :
  Calls prog 83 #[.slice a n ca, .slice b m cb] w fun r w' => ∃ a' c', r = .returned (.slice a' (zu_ L K).length c') /\ w'.ownsRow w.heap.size 5 1 (.slice a' (zu_ L K).length c') (zu_ L K).length (iv .u8 (zu_ L K)) /\ Below w.heap.size w w' := by
 have h := js_ a L n ca hL hn w hA
 have hfl := yx_ L
 have hE : zu_ L K = zk_ L ++ [0, 1] ++ K := by rw [zu_, List.append_assoc]
 obtain ⟨F, hF⟩ := gtx (zk_ L)
 rw [hF] at h hfl hE
 rw [hE]
 obtain ⟨f, hf⟩ := gtx (F.length)
 rw [hf] at h hfl
 have H := hid h
 have HF := hid hf
 have HB := hid hB
 have HK := hid hK
 have hf6 := hid (show f <= 600000 by omega)
 have hl := hid (show (F ++ [0, 1] ++ K).length = f + 2 + m by rw [List.length_append, List.length_append, hf, hK]; rfl)
 clear h hF hE hf hfl hB hA hK hL
 rw [hl.out]
 go_enter func83, ntmps83
 go_wp2_with fail
 refine H.out.mono ?_; rintro e w1 ⟨v1, rfl, hown1, B1⟩
 have HO1 := hid hown1
 have hs1 := B1.size
 clear hown1
 go_wp2_with (at_builtin; refine zB_ Qg_ rfl (.tmp 6) (.tmp 7) rfl w.heap.size _ f (iv .u8 F) rfl (HO1.out.alloc _) _ _ 2 [0, 1] rfl rfl (y5_ .u8 _ [0, 1] _ _ _ rfl 2 rfl) (by have := hf6.out; omega) Xt7 ?_)
 intro v2 w2 hown2 hgrow2
 rw [← zI_] at hown2
 have B2 := (B1.alloc hs1 _).grown hgrow2 Xt7 (fun j hj => (HO1.out.lt j hj).1)
 have hs2 := B2.size
 have HO2 := hid hown2
 clear hown2 hgrow2
 go_wp2_with (at_builtin; refine zB_ Qg_ rfl (.tmp 8) (.tmp 9) rfl w.heap.size v2 (f + 2) (iv .u8 (F ++ [0, 1])) rfl HO2.out b cb m K HK.out rfl (HB.out.below B2) (by have := hf6.out; omega) hs2 ?_)
 intro v3 w3 hown3 hgrow3
 rw [← zI_] at hown3
 have B3 := B2.grown hgrow3 hs2 (fun j hj => (HO2.out.lt j hj).1)
 obtain ⟨a', c', rfl, l', _⟩ := yy_ hown3 hl.out
 have HL3 := hid (show w3.ownsRow w.heap.size 5 1 (.slice a' (f + 2 + m) c') (f + 2 + m) (iv .u8 (F ++ [0, 1] ++ K)) from hown3)
 clear hown3 hgrow3 l'
 go_wp2_with fail
 go_ret
 exact ⟨a', c', rfl, HL3.out, B3⟩
section
variable {P : Program} {md : Region.Mode} {ops : Array Oper} {Q : Exit -> Act -> World -> Prop} {S : World -> Prop} {z : Nat}
theorem xa_ {i : Nat} {oi : Oper} {v : Value} {fuel : Nat} {listed : Array Bool} {a : Act} {w : World} (hzl : listed.getD z true = true) (hz : xV_ md ops z i = false) (hiz : (i == z) = false) (hi : ops[i]? = some oi)
  (hs : Region.noSelect ops = true) (hf : Region.free md ops listed i = true) (hr : (Region.ready md ops listed).contains i = true)
  (hQ : ∀ c a w, Q (.panic c) (a.put oi.dst v) w -> Q (.panic c) a w) (hy : YieldsIf P ops (fun _ => True) oi v a)
  (h : zL_ P md ops Q S z fuel (listed.setIfInBounds i true) (a.put oi.dst v) w) : zL_ P md ops Q S z (fuel + 1) listed a w :=
 Qq_ (T := fun _ => True) (Or.inr rfl) (by simpa using hiz) hi (Region.noSelect_spec hs) hQ fuel listed a w (Region.free_spec hi hf) (by simpa using hr) hy (fun h1 _ => by rw [hz] at h1; cases h1) (fun hh => by rw [hzl] at hh; cases hh) h
theorem AllL.later {fuel : Nat} {listed : Array Bool} {a : Act} {w : World} {i : Nat} {o : Oper} (hzl : listed.getD z true = true) (ho : ops[i]? = some o)
  (h : ∀ K' : Act -> World -> Prop, Shut (∀ a w, zL_ P md ops Q S z fuel (listed.setIfInBounds i true) a w -> K' a w) -> if Region.wanted o (yielded ops a.tmps) = true then Oper.wp P o a w K' Q else K' (a.put o.dst undef) w) : AllL P md ops Q S z fuel listed a w [i] := fun j hj => by
 rcases List.mem_singleton.1 hj with rfl
 exact wpOp_step ho (fun K' hK => h K' (fun a w hW => hK a w ⟨fun _ hh => (by rw [hzl] at hh; cases hh), hW⟩))
end
theorem pr_swap (A D : List PrV) (a z : PrV) :
  ((((zi_ (A ++ a :: z :: D)).set ((A.length + 1) * 2) (.slice a.ka a.K.length a.kc)).set ((A.length + 1) * 2 + 1) (.slice a.ra a.R.length a.rc)).set (A.length * 2) (.slice z.ka z.K.length z.kc)).set (A.length * 2 + 1) (.slice z.ra z.R.length z.rc) = zi_ (A ++ z :: a :: D) := by
 have hA := xJ_ A
 have e : ∀ x y : PrV, zi_ (A ++ x :: y :: D) = zi_ A ++ (.slice x.ka x.K.length x.kc :: .slice x.ra x.R.length x.rc :: .slice y.ka y.K.length y.kc :: .slice y.ra y.R.length y.rc :: zi_ D) := fun x y => by
  rw [zw_]; rfl
 rw [e, e]
 rw [List.set_append_right _ _ Xt0, List.set_append_right _ _ Xt0, List.set_append_right _ _ Xt0, List.set_append_right _ _ Xt0]
 rw [hA, show (A.length + 1) * 2 - A.length * 2 = 2 by omega, show (A.length + 1) * 2 + 1 - A.length * 2 = 3 by omega, show A.length * 2 - A.length * 2 = 0 by omega, show A.length * 2 + 1 - A.length * 2 = 1 by omega]
 rfl
def LeP (a b : PrV) : Prop := ltL b.K a.K = false
theorem leP_trans {a b c : List Int} (h : ltL b a = false) (k : ltL c b = false) : ltL c a = false := by
 cases e : ltL c a
 ·rfl
 ·by_cases q : b = a
  ·subst q; rw [k] at e; cases e
  ·rw [zF_ e (x8_ h (Ne.symm q))] at k; cases k
theorem ins_stop {A B : List PrV} {z : PrV} (h : (A ++ B).Pairwise LeP) (hb : ∀ b ∈ B, ltL z.K b.K = true) (ha : ∀ a ∈ A.getLast?, ltL z.K a.K = false) : (A ++ z :: B).Pairwise LeP := by
 obtain ⟨h1, h2, h3⟩ := List.pairwise_append.1 h
 have haz : ∀ a ∈ A, LeP a z := by
  cases hl : A.getLast? with
  | none =>
   rw [List.getLast?_eq_none_iff] at hl
   subst hl
   intro a ha; cases ha
  | some l =>
   have hz := ha l (by rw [hl]; rfl)
   obtain ⟨A', rfl⟩ := List.getLast?_eq_some_iff.1 hl
   intro a hm
   rcases List.mem_append.1 hm with hm | hm
   ·exact leP_trans ((List.pairwise_append.1 h1).2.2 a hm l Xt5) hz
   ·rw [List.mem_singleton] at hm; subst hm; exact hz
 refine List.pairwise_append.2 ⟨h1, List.pairwise_cons.2 ⟨fun b hb' => yD_ (hb b hb'), h2⟩, fun a ha' b hb' => ?_⟩
 rcases List.mem_cons.1 hb' with rfl | hb'
 ·exact haz a ha'
 ·exact h3 a ha' b hb'
def entR (x : Nat) (p : Pr) : List Pr := if x + 1 < p.2.length then [(zu_ (p.2.getD (x + 1) []) p.1, p.2)] else []
theorem entR_U {j : Job} (ok : okB j = true) {k x : Nat} (hk : k < j.T.length) (hx : (x : Int) < j.T.getD k 0) : ∀ {T : List Pr}, (∀ p ∈ T, zH_ p.1 /\ rOk p.2) -> T.flatMap (entR x) = (qp_ j k (trV j k x).1 T).map fun e => (e.1, e.2.2)
 | [], _ => rfl
 | p :: T, h => by
  have ih := entR_U ok hk hx (T := T) fun q hq => h q (List.mem_cons_of_mem _ hq)
  have hp := h p (List.mem_cons_self ..)
  unfold qp_ at *
  rw [List.flatMap_cons, List.flatMap_cons, List.map_append, ih, entP_val ok hk hx hp.1 hp.2]
  unfold entR
  split <;> rfl
theorem idx_sorted {j : Job} (ok : okB j = true) {k x : Nat} (hk : k < j.T.length) (hx : (x : Int) < j.T.getD k 0) {T : List Pr} (hT : tOk T) {E : List PrV} (hp : (E.map prC).Perm (T.flatMap (entR x))) (hs : E.Pairwise LeP) : E.map prC = idxP j k x T := by
 rw [entR_U ok hk hx hT.2] at hp
 have hp2 : (E.map prC).Perm (idxP j k x T) := hp.trans ((List.mergeSort_perm _ _).symm.map _)
 have hr : Ris Prod.fst (idxP j k x T) := idx_ris hT
 refine ris_perm (x2_ ?_ (qs_ hp2.symm (QD_ hr))) hr hp2
 rw [List.pairwise_map]
 exact hs
theorem jx_small {W : World} {j : Job} (ok : okB j = true) (hj : z2_ W j) {t : Nat} (ht : t < j.T.length) : j.T.getD t 0 <= 100 := by
 have := (jh_ ok t ht).2
 omega
def IxR (f : Rf) (w : World) (t : Nat) (x : Nat) (r : Ending) (w' : World) : Prop :=
 ∃ a c E, r = .returned (.slice a E.length c) /\ Below w.heap.size w w' /\ E.map prC = idxP f.j t x (f.P.getD t []) /\ E.length <= 1000000 /\ E.length <= c /\ ∀ S : Nat -> Prop, (∀ k, S k -> k < w.heap.size) -> zs_ S w (fun W => ∀ y ∈ f.Ts, zp_ W y.pa y.P) -> zs_ S w' fun W' => zp_ W' a E
theorem rindex_no {S : Nat -> Prop} {f : Rf} {w : World} (h : RfR S w f) (t : Nat) (ht : t < f.Ts.length) (i : Int) (hi : ¬ (0 <= i /\ i < f.j.T.getD t 0)) :
  Calls prog 48 #[.pointer (some ⟨f.p, 0, none⟩), .int .i64 (t : Int), .int .i64 i] w fun r w' => r = .returned (.slice none 0 0) /\ Below w.heap.size w w' := by
 obtain ⟨x, hx⟩ : ∃ x, f.Ts[t]? = some x := ⟨_, List.getElem?_eq_getElem ht⟩
 have hxm := List.mem_of_getElem? hx
 have hfw := h.few
 have hjt : t < f.j.T.length := by rw [h.job.now.len, ← h.len]; exact ht
 obtain ⟨jb, jo, hja, hjc⟩ := h.job.now.ls.rd t hjt
 have hjbx : w.cell? ⟨f.p, 6, none⟩ = some (.slice f.j.a f.j.n f.j.cap) := by rw [h.box.cell]; rfl
 have hjn : f.Ts.length = f.j.n := h.len
 obtain ⟨_, _, e0, hxc, hxs⟩ := h.tbs t x hx
 cases e0
 rw [Nat.zero_add] at hxc
 have hc7 := h.c
 obtain ⟨jx, hjx⟩ := gtx (f.j.T.getD t 0)
 rw [hjx] at hjc hi
 have e1 : ¬ (t : Int) < 0 := by omega
 have e2 : ¬ (f.Ts.length : Int) <= (t : Int) := by omega
 have e4 : (t : Int) < (f.j.n : Int) := by omega
 rw [hja] at hjbx
 have HJ := hid hjn
 clear hxc hxs hx hxm hjn h hjx
 by_cases hi0 : i < 0
 ·clear hi
  go_enter func48, ntmps48
  exact Xb29
 ·have e3 : jx <= i := by omega
  clear hi
  go_enter func48, ntmps48
  exact Xb29
theorem jr_ {S : Nat -> Prop} {f : Rf} {w : World} (h : RfR S w f) (hS : ∀ k, S k -> k < w.heap.size) (t : Nat) (ht : t < f.Ts.length) (i : Nat) (hi : (i : Int) < f.j.T.getD t 0) (hl : ∀ x ∈ f.Ts, x.P.length <= 900000) :
  Calls prog 48 #[.pointer (some ⟨f.p, 0, none⟩), .int .i64 (t : Int), .int .i64 (i : Int)] w (IxR f w t i) := by
 have HIX := hid hi
 have hti : f.j.T.getD t 0 <= 3 ∨ True := .inr trivial
 obtain ⟨x, hx⟩ : ∃ x, f.Ts[t]? = some x := ⟨_, List.getElem?_eq_getElem ht⟩
 have hxm := List.mem_of_getElem? hx
 have hfw := h.few
 have hjt : t < f.j.T.length := by rw [h.job.now.len, ← h.len]; exact ht
 obtain ⟨jb, jo, hja, hjc⟩ := h.job.now.ls.rd t hjt
 have hjbx : w.cell? ⟨f.p, 6, none⟩ = some (.slice f.j.a f.j.n f.j.cap) := by rw [h.box.cell]; rfl
 have hjn : f.Ts.length = f.j.n := h.len
 obtain ⟨_, _, e0, hxc, hxs⟩ := h.tbs t x hx
 cases e0
 rw [Nat.zero_add] at hxc
 have hc7 := h.c
 obtain ⟨jx, hjx⟩ := gtx (f.j.T.getD t 0)
 rw [hjx] at hjc hi
 have e1 : ¬ (t : Int) < 0 := by omega
 have e2 : ¬ (f.Ts.length : Int) <= (t : Int) := by omega
 have e4 : (t : Int) < (f.j.n : Int) := by omega
 have e5 : ¬ (i : Int) < 0 := by omega
 have e6 : ¬ jx <= (i : Int) := by omega
 have HIL := hid (jx_small h.ok h.job.now hjt)
 rw [hjx] at HIL
 have HI2 := hid (show i <= 100 by have := HIL.out; omega)
 rw [hja] at hjbx
 have HH := hid (And.intro h (And.intro hS hl))
 obtain ⟨P, hP⟩ := gtx (x.P)
 obtain ⟨n, hn⟩ := gtx (P.length)
 obtain ⟨pa, hpa⟩ := gtx (x.pa)
 obtain ⟨pc, hpc⟩ := gtx (x.pc)
 have hn9 := hl x hxm
 have hp1 := hxs.now
 have hpp := fun q hq => h.pair hxm (q := q) hq
 rw [hP, hn] at hn9
 rw [hP, hpa] at hp1
 rw [hP] at hpp
 rw [hP, hn, hpa, hpc] at hxc
 have HN := hid hn
 have HP := hid hp1
 have HPP := hid hpp
 have HX := hid (And.intro hx (And.intro hP hpa))
 have HM := hid (fun W (b : Below w.heap.size w W) => (⟨tcb b hc7, tcb b hxc⟩ : W.cell? ⟨f.p, 7, none⟩ = some (.slice (some ⟨f.b1, 0, none⟩) f.Ts.length f.tc) /\ W.cell? ⟨f.b1, t, none⟩ = some (.slice pa n pc)))
 have hni : (n : Int) <= 900000 := by omega
 have e7 : (t : Int) < (f.Ts.length : Int) := by omega
 have HJT := hid hjt
 clear hi hti hx hxm hjn hxs hP hn hpa hpc hp1 hpp hjt h hl hS hjx
 go_enter func48, ntmps48
 go_wp2_with fail
 clear hc7 hxc hjc hjbx
 go_loopw [7, 8] (fun v j wr => ∃ (k : Nat) (E : List PrV), k <= n /\ j = .int .i64 (k : Int) /\ Hid (wr.ownsRow w.heap.size 78 2 v E.length (zi_ E)) /\ Hid (E.map prC = ((P.take k).map prC).flatMap (entR i)) /\ Hid (E.length <= k) /\ Hid (∀ e ∈ E, wr.ownsRow w.heap.size 5 1 (.slice e.ka e.K.length e.kc) e.K.length (iv .u8 e.K)) /\ Hid (∀ e ∈ E, Byt e.K /\ ∃ q ∈ P, e.ra = q.ra /\ e.R = q.R) /\ Hid (Below w.heap.size w wr)) (fun _ j _ => n - (intOf j).toNat)
 case atStart => exact ⟨0, [], by omega, rfl, hid (World.ownsRow_nil _ _ _ _), hid rfl, hid (Nat.le_refl _), hid Xt70, hid Xt70, hid (Below.refl _ _)⟩
 case round =>
  obtain ⟨k, E, hk, rfl, HOV, HEM, HEL, HKO, HEQ, HBW⟩ := hrel
  obtain ⟨m0, m1⟩ := HM.out wr HBW.out
  by_cases hlt : k < n
  ·have d1 : (k : Int) < (n : Int) := by omega
   obtain ⟨q, hq⟩ : ∃ q, P[k]? = some q := ⟨_, List.getElem?_eq_getElem Xt8⟩
   obtain ⟨b2, o2, eb, p0, p1, ql, qr⟩ := (HP.out.below HBW.out) k q hq
   have HQ := hid (And.intro hq (And.intro ql qr))
   have hqm := HPP.out q (List.mem_of_getElem? hq)
   have HQM := hid hqm
   have HEB := hid eb
   have hqr3 : q.R.length <= 3 := by have := hqm.2.2.1; rw [List.length_map] at this; exact this
   obtain ⟨qrn, hqrn⟩ := gtx (q.R.length)
   rw [hqrn] at p1 hqr3
   have HQN := hid hqrn
   have hi2 := HI2.out
   obtain ⟨w9, hw9⟩ := gty (wr.alloc (.cells #[.slice q.ka q.K.length q.kc, .slice q.ra qrn q.rc] 78))
   have HB9 := hid (by rw [hw9]; exact bl1 _ _ : Below wr.heap.size wr w9)
   have HX9 := hid (by rw [hw9]; exact zg_.new _ _ _ : zg_ w9 wr.heap.size #[.slice q.ka q.K.length q.kc, .slice q.ra qrn q.rc] 78)
   rw [eb] at m1
   clear hq ql qr hqm hqrn eb
   go_upto_region 8 with (fail)
   try rw [← hw9]
   clear hw9 p0 p1 m0 m1
   have hq9 := HX9.out.cell 1
   simp only [gtA, gtB, gtC] at hq9
   have HBX := hid (fun X (o : Off (fun b => u7.ownBlock = some b) w9 X) => Off.below (HBW.out.trans (HB9.out.mono HBW.out.size)) o (Nat.le_trans HBW.out.size HB9.out.size) (fun b hb => (zb_ HOV.out hb).1))
   have HXX := hid (fun X (o : Off (fun b => u7.ownBlock = some b) w9 X) => o.box HX9.out (fun e => by have := (zb_ HOV.out e).2.1; omega))
   have hek : ((P.take (k + 1)).map prC).flatMap (entR i) = ((P.take k).map prC).flatMap (entR i) ++ entR i (prC q) := by
    rw [List.take_add_one, HQ.out.1, List.map_append, List.flatMap_append]
    simp
   have HEK := hid hek
   clear hek
   by_cases hfl : i + 1 < qrn
   ·have d2 : (i : Int) + 1 < (qrn : Int) := by omega
    go_wp2_with fail
    obtain ⟨fld, hfld⟩ : ∃ p, q.R[i + 1]? = some p := ⟨_, List.getElem?_eq_getElem (by rw [HQN.out]; exact hfl)⟩
    obtain ⟨b3, o3, e3, _, _⟩ := HQ.out.2.2 (i + 1) fld hfld
    have HFB := hid (show fld.bs.length <= 24 from (HQM.out.2.2.2 fld.bs (List.mem_map.2 ⟨fld, List.mem_of_getElem? hfld, rfl⟩)).2)
    have HFY := hid (show Byt fld.bs from (HQM.out.2.2.2 fld.bs (List.mem_map.2 ⟨fld, List.mem_of_getElem? hfld, rfl⟩)).1)
    have HFR := hid (fun W (b : Below w.heap.size w W) => (by obtain ⟨_, _, _, _, _, _, r⟩ := (HP.out.below b) k q HQ.out.1; exact r : RdR W q.ra q.R))
    have HFQ := hid (fun W (b : Below w.heap.size w W) => (by obtain ⟨_, _, _, _, _, l, _⟩ := (HP.out.below b) k q HQ.out.1; exact l : Ls .u8 W q.ka q.kc q.K))
    have HFL := hid (fun W (b : Below w.heap.size w W) => (by obtain ⟨_, _, e, c0, l⟩ := (HFR.out W b) (i + 1) fld hfld; rw [e3] at e; cases e; exact ⟨c0, l⟩ : W.cell? ⟨b3, o3 + (i + 1), none⟩ = some fld.v /\ Ls .u8 W fld.ad fld.cap fld.bs))
    have HFD := hid hfld
    have HE3 := hid e3
    unfold P1.v at HFL
    clear hfld e3 hq9
    go_upto_region 9 with (fail)
    have hwr : IntKind.i64.wrap ((i : Int) + 1) = (i : Int) + 1 := by simp [IntKind.wrap, IntKind.bits, IntKind.signed]; omega
    have hw0 : 0 <= (i : Int) + 1 := by omega
    have hwt : ((i : Int) + 1).toNat = i + 1 := by omega
    refine wp_region_held_drew (S := (fun X => Off (fun b => u7.ownBlock = some b) w9 X)) Xt3 ((Off.refl _ w9).drew) fun hH => ?_
    refine tkq2 0 1 ?_
    refine tkr 2 rfl (fun W hSw => by have mx := HXX.out W hSw; have m := mx.cell 1; simp only [gtA, gtB, gtC] at m; rw [HE3.out] at m; exact tks) ?_
    refine tkq3 3 4 5 ?_
    refine tkr 6 rfl (fun W hSw => by have m := (HFL.out W (HBX.out W hSw)).1; exact tks) ?_
    refine tkq 7 ?_
    refine tkr 8 rfl (fun W hSw => by have mx := HXX.out W hSw; have m := mx.cell 0; simp only [gtA, gtB, gtC] at m; exact tks) ?_
    refine tkq 10 ?_
    refine tkr 11 rfl (fun W hSw => by have mx := HXX.out W hSw; have m := mx.cell 1; simp only [gtA, gtB, gtC] at m; exact tks) ?_
    refine tk1 9 rfl fun K hK => ?_
    go_simp
    refine (rentry_own fld.ad q.ka fld.bs q.K fld.bs.length q.K.length fld.cap q.kc rfl rfl (by have := HFB.out; omega) (by have := HQM.out.1.2.2; omega) w9.drew (HFL.out w9.drew (HBX.out w9.drew hH)).2 ((HFQ.out w9.drew (HBX.out w9.drew hH)))).mono ?_; rintro r w10 ⟨a9, c9, rfl, hown9, hb10⟩
    clear hwr hw0 hwt
    have HO10 := hid hown9
    have HF10 := hid (hH.then hb10)
    have HB10 := hid (show Below w9.heap.size w9 w10 from (Below.refl _ _).drew.trans hb10)
    clear hown9 hb10
    go_wp2_with fail
    refine hK.out _ _ (HF10.out) fun hH => ?_
    refine stP ?_
    refine tkq 12 ?_
    refine tk1 13 rfl fun K hK => ?_
    go_simp
    have HF11 := hid (hH.then (bl1 w10 (.cells #[.slice a9 (zu_ fld.bs q.K).length c9, .slice q.ra qrn q.rc] 78)))
    refine hK.out _ _ (HF11.out) fun hH => ?_
    refine stP ?_
    refine tk1 14 rfl fun K hK => ?_
    have b9a : Below wr.heap.size wr (w10.alloc (.cells #[.slice a9 (zu_ fld.bs q.K).length c9, .slice q.ra qrn q.rc] 78)) := HB9.out.trans ((HB10.out.trans ((bl1 w10 _).mono HB10.out.size)).mono HB9.out.size)
    have hown := ze_ HOV.out b9a
    have hek2 := yJ_ (ze_ HO10.out (bl1 w10 (.cells #[.slice a9 (zu_ fld.bs q.K).length c9, .slice q.ra qrn q.rc] 78))) (show w.heap.size <= w9.drew.heap.size from Nat.le_trans HBW.out.size HB9.out.size)
    refine z8_ rfl _ _ rfl w.heap.size u7 E.length E rfl hown (some ⟨w10.heap.size, 0, none⟩) 1 1 [⟨a9, c9, zu_ fld.bs q.K, q.ra, q.rc, q.R⟩] rfl rfl (QJ_ _ (by simp [go_sem]) (by simp [go_sem, HQN.out]) (yv_ hek2 rfl) (HFR.out _ (Below.trans HBW.out (b9a.mono HBW.out.size)))) (fun h => by cases h) (by have := HEL.out; omega) (Nat.le_trans HBW.out.size b9a.size) ?_
    intro v12 w12 hown12 hgrow12
    have HO12 := hid hown12
    have HG12 := hid (Off.of_row hgrow12)
    have HF12 := hid (hH.trans (Off.of_row hgrow12))
    have HEO := hid (zn_ hek2 (Off.of_row hgrow12) (fun g hg e => by obtain ⟨_, _, cu, hc⟩ := zb_ hek2 hg; obtain ⟨_, _, cu', hc'⟩ := zb_ hown e; exact zo_ hc hc' Xt4 rfl))
    have HB9A := hid b9a
    clear hown hek2 hown12 hgrow12 b9a
    refine hK.out _ _ (HF12.out) fun hH => ?_
    refine stP ?_
    refine tkq 15 ?_
    refine adn ?_
    skip
    obtain ⟨v12a, v12c, hv12⟩ := zd_ HO12.out
    subst hv12
    have HB12 := hid (HBX.out w12 HF12.out)
    have HOK := hid (fun (e : PrV) (he : e ∈ E) => zn_ (ze_ (HKO.out e he) HB9A.out) HG12.out (fun g hg hh => by
     obtain ⟨_, _, cu, hc⟩ := zb_ (ze_ (HKO.out e he) HB9A.out) hg
     obtain ⟨_, _, cu', hc'⟩ := zb_ (ze_ HOV.out HB9A.out) hh
     exact zo_ hc hc' Xt4 rfl))
    clear hH
    go_wp2_with fail
    go_roundw
    case rel =>
     refine ⟨k + 1, E ++ [⟨a9, c9, zu_ fld.bs q.K, q.ra, q.rc, q.R⟩], by omega, by go_num, hid ?_, hid ?_, hid ?_, hid ?_, hid ?_, HB12⟩
     ·rw [List.length_append]; exact HO12.out
     ·rw [List.map_append, HEM.out, HEK.out]
      have h1 : entR i (prC q) = [(zu_ fld.bs q.K, q.R.map P1.bs)] := by
       unfold entR
       rw [if_pos (by show i + 1 < (q.R.map P1.bs).length; rw [List.length_map, HQN.out]; exact hfl)]
       show [(zu_ ((q.R.map P1.bs).getD (i + 1) []) q.K, q.R.map P1.bs)] = _
       rw [List.getD_eq_getElem?_getD, List.getElem?_map, HFD.out]
       rfl
      rw [h1]
      rfl
     ·rw [List.length_append, List.length_singleton]; have := HEL.out; omega
     ·intro e he
      rcases List.mem_append.1 he with he | he
      ·exact HOK.out e he
      ·rw [List.mem_singleton] at he; subst he
       exact HEO.out
     ·intro e he
      rcases List.mem_append.1 he with he | he
      ·exact HEQ.out e he
      ·rw [List.mem_singleton] at he; subst he
       exact ⟨qr_ HFY.out HQM.out.1.1, q, List.mem_of_getElem? HQ.out.1, rfl, rfl⟩
    case measure => simp [intOf]; omega
   ·have d2 : ¬ (i : Int) + 1 < (qrn : Int) := by omega
    have hne : entR i (prC q) = [] := by
     unfold entR
     rw [if_neg (by show ¬ i + 1 < (q.R.map P1.bs).length; rw [List.length_map, HQN.out]; exact hfl)]
    have HNE := hid hne
    clear hne
    go_wp2_with fail
    go_roundw
    case rel => exact ⟨k + 1, E, by omega, by go_num, hid (ze_ HOV.out HB9.out), hid (by rw [HEK.out, HNE.out, List.append_nil]; exact HEM.out), hid (by have := HEL.out; omega), hid (fun e he => ze_ (HKO.out e he) HB9.out), HEQ, hid (HBW.out.trans (HB9.out.mono HBW.out.size))⟩
    case measure => simp [intOf]; omega
  ·have d1 : ¬ (k : Int) < (n : Int) := by omega
   have hke : k = n := by omega
   have HEA := hid (show E.map prC = (P.map prC).flatMap (entR i) by rw [HEM.out, List.take_of_length_le Xt18])
   obtain ⟨m, hm⟩ := gtx (E.length)
   rw [hm] at HOV HEL
   have HML := hid hm
   obtain ⟨va, vc, hv⟩ := zd_ HOV.out
   subst hv
   have hmi : (m : Int) <= 900000 := by have := HEL.out; omega
   obtain ⟨w5, hw5⟩ := gty (wr)
   subst hw5
   have HKX := hid (fun X (o : Off (fun b => Value.ownBlock (.slice va m vc) = some b) w5 X) e (he : e ∈ E) => yv_ (zn_ (HKO.out e he) o (fun g hg hh => by
    obtain ⟨_, _, cu, hc⟩ := zb_ (HKO.out e he) hg
    obtain ⟨_, _, cu', hc'⟩ := zb_ HOV.out hh
    exact zo_ hc hc' Xt4 rfl)) rfl)
   clear hke hm hk
   go_wp2_with fail
   clear m0 m1
   go_loopw [10] (fun j wq => ∃ (k2 : Nat) (F : List PrV), k2 <= m /\ j = .int .i64 (k2 : Int) /\ Hid (wq.ownsRow w.heap.size 78 2 (.slice va m vc) m (zi_ F)) /\ Hid (F.Perm E) /\ Hid ((F.take k2).Pairwise LeP) /\ Hid (Off (fun b => Value.ownBlock (.slice va m vc) = some b) w5 wq)) (fun j _ => m - (intOf j).toNat)
   case atStart => exact ⟨0, E, by omega, rfl, HOV, hid (List.Perm.refl _), hid List.Pairwise.nil, hid (Off.refl _ _)⟩
   case round =>
    obtain ⟨k2, F, hk2, rfl, HOF, HFP, HFS, HO5⟩ := hrel
    by_cases hl2 : k2 < m
    ·have d2 : (k2 : Int) < (m : Int) := by omega
     have hfl : F.length = m := by rw [HFP.out.length_eq, HML.out]
     obtain ⟨z0, hz0⟩ : ∃ z, F[k2]? = some z := ⟨_, List.getElem?_eq_getElem (by rw [hfl]; exact hl2)⟩
     obtain ⟨g, hg, hgb, _⟩ := zt_ (f := pcl) (sz := 2) (fun _ => rfl) Xt4 (a := va) HOF.out hfl k2 z0 hz0
     subst hg
     have hsp : F = F.take k2 ++ z0 :: ([] ++ F.drop (k2 + 1)) := by
      rw [List.nil_append, ← z0_ hz0, List.take_append_drop]
     have HSP := hid hsp
     have HTK := hid (show (F.take k2).length = k2 by rw [List.length_take, hfl]; omega)
     clear hsp hz0 hfl
     go_wp2_with fail
     go_loopw [11] (fun j wq => ∃ (n1 : Nat) (A B D : List PrV) (z : PrV), n1 <= k2 /\ j = .int .i64 (n1 : Int) /\ Hid (A.length = n1) /\ Hid (A.length + B.length = k2) /\ Hid (wq.ownsRow w.heap.size 78 2 (.slice (some ⟨g, 0, none⟩) m vc) m (zi_ (A ++ z :: (B ++ D)))) /\ Hid ((A ++ z :: (B ++ D)).Perm E) /\ Hid ((A ++ B).Pairwise LeP) /\ Hid (∀ b ∈ B, ltL z.K b.K = true) /\ Hid (Off (fun b => Value.ownBlock (.slice (some ⟨g, 0, none⟩) m vc) = some b) w5 wq)) (fun j _ => (intOf j).toNat)
     case atStart => exact ⟨k2, F.take k2, [], F.drop (k2 + 1), z0, Nat.le_refl _, rfl, HTK, hid (by rw [HTK.out]; rfl), hid (by rw [← HSP.out]; exact HOF.out), hid (by rw [← HSP.out]; exact HFP.out), hid (by rw [List.append_nil]; exact HFS.out), hid (fun b hb => by cases hb), HO5⟩
     case round =>
      clear HOF HFP HFS HO5 HSP HTK
      obtain ⟨n1, A, B, D, z, hn1, rfl, HAL, HAB, HOF, HFP, HFS, HZB, HO5⟩ := hrel
      rcases List.eq_nil_or_concat A with hA | ⟨A', a, hA⟩
      ·have d0 : ¬ (0 : Int) < (n1 : Int) := by have := HAL.out; rw [hA] at this; simp at this; omega
       have HST := hid (ins_stop HFS.out HZB.out (fun a ha => by rw [hA] at ha; cases ha))
       clear hA
       go_upto_region 14 with (fail)
       rename_i KK hKK
       refine wmo ?_
       refine rgw wr (Below.refl _ _).drew fun hH => ?_
       refine tkq 0 ?_
       refine tkp 1 (.bool false) rfl (.inl ⟨by rfl, ?_⟩) ?_
       ·exact Xb58
       refine tkp 2 (.bool false) rfl (.inl ⟨by rfl, ?_⟩) ?_
       ·exact Xb58
       refine tkn 3 ?_
       refine tkn 4 ?_
       refine tkn 5 ?_
       refine tkn 6 ?_
       refine tkn 7 ?_
       refine tkn 8 ?_
       refine tkn 9 ?_
       refine tkn 10 ?_
       refine tkn 11 ?_
       refine tkn 12 ?_
       refine tkn 13 ?_
       refine tkn 14 ?_
       refine tkn 15 ?_
       refine tkn 16 ?_
       refine tkq 17 ?_
       refine adn ?_
       skip
       refine hKK _ _ ?_
       have HBZ := hid (show Below wr.heap.size wr wr.drew from hH)
       clear hH d0
       go_wp2_with fail
       go_roundw
       case rel => exact ⟨k2 + 1, A ++ z :: (B ++ D), by omega, by go_num, hid (ze_ HOF.out HBZ.out), HFP, hid (by
        rw [show A ++ z :: (B ++ D) = (A ++ z :: B) ++ D by simp, List.take_left' Xt62]; exact HST.out), hid (HO5.out.then HBZ.out)⟩
       case measure => simp [intOf]; omega
      ·rw [List.concat_eq_append] at hA
       subst hA
       obtain ⟨n0, hn0⟩ := gtx (A'.length)
       have h01 : n1 = n0 + 1 := by rw [← HAL.out, List.length_append, hn0]; rfl
       have hLL : (A' ++ [a]) ++ z :: (B ++ D) = A' ++ a :: z :: (B ++ D) := by simp
       have hof := HOF.out
       have hfp := HFP.out
       rw [hLL] at hof hfp
       have hlm : (A' ++ a :: z :: (B ++ D)).length = m := by rw [hfp.length_eq, HML.out]
       have hza : (A' ++ a :: z :: (B ++ D))[n1]? = some z := by
        rw [h01, ← hn0, List.getElem?_append_right Xt0, show A'.length + 1 - A'.length = 1 by omega]; rfl
       have haa : (A' ++ a :: z :: (B ++ D))[n0]? = some a := by
        rw [← hn0, List.getElem?_append_right Xt0, Nat.sub_self]; rfl
       have hn1m : n1 < m := by omega
       have hzE : z ∈ E := hfp.mem_iff.1 (List.mem_of_getElem? hza)
       have haE : a ∈ E := hfp.mem_iff.1 (List.mem_of_getElem? haa)
       have hcell : ∀ W, Below wr.heap.size wr W -> (W.cell? ⟨g, n1 * 2, none⟩ = some (.slice z.ka z.K.length z.kc) /\ W.cell? ⟨g, n1 * 2 + 1, none⟩ = some (.slice z.ra z.R.length z.rc)) /\ (W.cell? ⟨g, n0 * 2, none⟩ = some (.slice a.ka a.K.length a.kc) /\ W.cell? ⟨g, n0 * 2 + 1, none⟩ = some (.slice a.ra a.R.length a.rc)) := fun W b => by
        have ho := ze_ hof b
        obtain ⟨g1, e1, _, c1⟩ := zt_ (f := pcl) (sz := 2) (fun _ => rfl) Xt4 ho hlm n1 z hza
        obtain ⟨g2, e2, _, c2⟩ := zt_ (f := pcl) (sz := 2) (fun _ => rfl) Xt4 ho hlm n0 a haa
        cases e1
        cases e2
        exact ⟨⟨c1 0 Xt4, c1 1 Xt4⟩, c2 0 Xt4, c2 1 Xt4⟩
       have HCE := hid hcell
       have HC2 := hid (fun W (b : Below wr.heap.size wr W) => (⟨(hcell W b).1.1, (hcell W b).2.1⟩ : W.cell? ⟨g, n1 * 2, none⟩ = some (.slice z.ka z.K.length z.kc) /\ W.cell? ⟨g, n0 * 2, none⟩ = some (.slice a.ka a.K.length a.kc)))
       have HCZ := hid (fun W (b : Below wr.heap.size wr W) => zA_ W z.ka z.K.length z.kc z.K rfl (HKX.out W (HO5.out.then b) z hzE).rd)
       have HCA := hid (fun W (b : Below wr.heap.size wr W) => zA_ W a.ka a.K.length a.kc a.K rfl (HKX.out W (HO5.out.then b) a haE).rd)
       obtain ⟨cmp, hcmp⟩ := gtx (ltL z.K a.K)
       have HCM := hid (show Op.bytesLess (strOfNums z.K).toList (strOfNums a.K).toList = cmp by rw [yk_ (HEQ.out z hzE).1 (HEQ.out a haE).1]; exact hcmp)
       have HCP := hid hcmp
       have HOL := hid hof
       have HFL := hid hfp
       have HN0 := hid hn0
       have H01 := hid h01
       have d0 : (0 : Int) < (n1 : Int) := by omega
       have d3 : (n1 : Int) < (m : Int) := by omega
       have d4 : (n0 : Int) < (m : Int) := by omega
       have hwr : IntKind.i64.wrap ((n1 : Int) - 1) = (n0 : Int) := by rw [h01]; simp [IntKind.wrap, IntKind.bits, IntKind.signed]; omega
       have HWR := hid hwr
       have HNM := hid hn1m
       clear hcell hof hfp hlm hza haa hzE haE hcmp hn0 h01 hLL hn1m
       go_upto_region 14 with (fail)
       rename_i KK hKK
       refine wmo ?_
       refine rgw wr (Below.refl _ _).drew fun hH => ?_
       refine tkq 0 ?_
       refine tkp 1 (.bool true) rfl (.inl ⟨by rfl, ?_⟩) ?_
       ·exact Xb58
       refine tkp 2 (.bool true) rfl (.inl ⟨by rfl, ?_⟩) ?_
       ·exact Xb58
       refine tkq4 3 4 5 6 ?_
       refine tkr 7 rfl Xf45 ?_
       refine tkr 8 rfl (fun W hSw => by have hcv := HCZ.out W hSw; exact tks) ?_
       refine tkq4 9 10 11 12 ?_
       refine tkq 13 ?_
       refine tkr 14 rfl Xf45 ?_
       refine tkr 15 rfl Xf11 ?_
       refine tkp 16 (.bool cmp) rfl (.inl ⟨by rfl, ?_⟩) ?_
       ·intro W hSw; go_simp; try (first | exact HCM.out | rfl)
       refine tkq 17 ?_
       refine adn ?_
       skip
       refine hKK _ _ ?_
       obtain ⟨w9, hw9⟩ := gty (wr.drew)
       try rw [← hw9] at hH ⊢
       have hHB9 : Below wr.heap.size wr w9 := hH
       have HB9 := hid hHB9
       clear hH hw9 hHB9
       cases cmp
       ·have HST := hid (ins_stop HFS.out HZB.out (fun x hx => by rw [List.getLast?_append] at hx; simp at hx; subst hx; exact HCP.out))
        clear hwr d0 d3 d4
        go_wp2_with fail
        go_roundw
        case rel => exact ⟨k2 + 1, (A' ++ [a]) ++ z :: (B ++ D), by omega, by go_num, hid (ze_ HOF.out HB9.out), HFP, hid (by
         rw [show (A' ++ [a]) ++ z :: (B ++ D) = ((A' ++ [a]) ++ z :: B) ++ D by simp, List.take_left' Xt62]; exact HST.out), hid (HO5.out.then HB9.out)⟩
        case measure => simp [intOf]; omega
       ·have HC9 := hid (fun W (b : Below w9.heap.size w9 W) => HCE.out W (za_ HB9.out b))
        have HO9 := hid (ze_ HOL.out HB9.out)
        have HFZ := hid (fun W (b : Below w9.heap.size w9 W) => (by
         obtain ⟨_, _, cu, hc⟩ := zb_ (ze_ HO9.out b) rfl
         exact ⟨hc.frozen _, hc.frozen _⟩ : W.frozen? ⟨g, n1 * 2, none⟩ = false /\ W.frozen? ⟨g, n1 * 2 + 1, none⟩ = false))
        have HSW := hid (fun wd w15 (b : Below w9.heap.size w9 wd) (e : w15 = (wd.setCell ⟨g, n1 * 2, none⟩ (.slice a.ka a.K.length a.kc)).setCell ⟨g, n1 * 2 + 1, none⟩ (.slice a.ra a.R.length a.rc)) => (by
         have s1 := ((ze_ HO9.out b).stored (n1 * 2) (.slice a.ka a.K.length a.kc)).1
         have s2 := (s1.stored (n1 * 2 + 1) (.slice a.ra a.R.length a.rc)).1
         have hc := HC9.out wd b
         obtain ⟨_, _, cu, hb⟩ := zb_ s2 rfl
         have h01 := H01.out
         refine ⟨by rw [e]; exact s2, ⟨?_, ?_, by rw [e]; exact hb.frozen _, by rw [e]; exact hb.frozen _⟩, ?_⟩
         ·rw [e, World.cell?_setCell_other _ _ _ _ Xt43, World.cell?_setCell_other _ _ _ _ Xt43]; exact hc.2.1
         ·rw [e, World.cell?_setCell_other _ _ _ _ Xt43, World.cell?_setCell_other _ _ _ _ Xt43]; exact hc.2.2
         ·rw [e]; exact Off.set (S := fun b => Value.ownBlock (.slice (some ⟨g, 0, none⟩) m vc) = some b) (Off.set (S := fun b => Value.ownBlock (.slice (some ⟨g, 0, none⟩) m vc) = some b) (Off.refl _ wd) ⟨g, n1 * 2, none⟩ rfl _) ⟨g, n1 * 2 + 1, none⟩ rfl _ : w15.ownsRow w.heap.size 78 2 (.slice (some ⟨g, 0, none⟩) m vc) m (((zi_ (A' ++ a :: z :: (B ++ D))).set (n1 * 2) (.slice a.ka a.K.length a.kc)).set (n1 * 2 + 1) (.slice a.ra a.R.length a.rc)) /\ (w15.cell? ⟨g, n0 * 2, none⟩ = some (.slice a.ka a.K.length a.kc) /\ w15.cell? ⟨g, n0 * 2 + 1, none⟩ = some (.slice a.ra a.R.length a.rc) /\ w15.frozen? ⟨g, n0 * 2, none⟩ = false /\ w15.frozen? ⟨g, n0 * 2 + 1, none⟩ = false) /\ Off (fun b => Value.ownBlock (.slice (some ⟨g, 0, none⟩) m vc) = some b) wd w15))
        go_upto_region 16 with (fail)
        refine zr_ (z := 15) (S := (fun X => Below w9.heap.size w9 X)) Xt3 ((Below.refl w9.heap.size w9).drew) fun hH => ?_
        refine tlk 0 rfl Xt2 ?_
        refine tlk 1 rfl Xt2 ?_
        refine tlf 2 rfl Xt2 ?_
        refine tlf 3 rfl Xt2 ?_
        refine tlf 4 rfl Xt2 ?_
        refine tlk 5 rfl Xt2 ?_
        refine tlk 6 rfl Xt2 ?_
        refine tlk 7 rfl Xt2 ?_
        refine tlk 8 rfl Xt2 ?_
        refine tlk 9 rfl (fun W hSw => by obtain ⟨_, m0, m1⟩ := HC9.out W hSw; exact tks) ?_
        refine tlf 10 rfl Xt2 ?_
        refine tlf 11 rfl Xt2 ?_
        refine tlf 12 rfl Xt2 ?_
        refine tlk 13 rfl (fun W hSw => by obtain ⟨⟨m0, m1⟩, _⟩ := HC9.out W hSw; exact tks) ?_
        refine tlk 14 rfl Xt2 ?_
        refine tlz rfl fun K hK => ?_
        obtain ⟨wd, hwd⟩ := gty (w9.drew)
        rw [← hwd]
        have HBD := hid (show Below w9.heap.size w9 wd by rw [hwd]; exact (Below.refl _ _).drew)
        clear hwd
        obtain ⟨⟨y0, y1⟩, y2, y3⟩ := HC9.out wd HBD.out
        obtain ⟨fz0, fz1⟩ := HFZ.out wd HBD.out
        go_simp
        obtain ⟨w15, hw15⟩ := gty ((wd.setCell ⟨g, n1 * 2, none⟩ (.slice a.ka a.K.length a.kc)).setCell ⟨g, n1 * 2 + 1, none⟩ (.slice a.ra a.R.length a.rc))
        rw [← hw15]
        have HW15 := hid hw15
        clear hw15 y0 y1 y2 y3 fz0 fz1
        refine hK.out _ _ ?_
        clear hK K
        refine stP ?_
        refine xa_ (i := 16) (oi := { dst := some 129, op := Op.indexAddr 69 (Operand.tmp 116) (Operand.tmp 118), type := 0, pos := "ref.go:94", after := #[{ on := 2, ground := Ground.data }, { on := 4, ground := Ground.data }, { on := 0, ground := Ground.phase }, { on := 1, ground := Ground.phase }, { on := 2, ground := Ground.phase }, { on := 3, ground := Ground.phase }, { on := 4, ground := Ground.phase }, { on := 5, ground := Ground.phase }, { on := 6, ground := Ground.phase }, { on := 7, ground := Ground.phase }, { on := 8, ground := Ground.phase }, { on := 9, ground := Ground.phase }, { on := 10, ground := Ground.phase }, { on := 11, ground := Ground.phase }, { on := 12, ground := Ground.phase }, { on := 13, ground := Ground.phase }, { on := 14, ground := Ground.phase }, { on := 15, ground := Ground.phase }], guard := none }) (v := ?_) Xt3 Xt3 rfl rfl Xt3 Xt3 Xt3 (fun _ _ _ h => h) (Or.inl ⟨by rfl, ?_⟩) ?_
        rotate_left
        ·intro W _; go_simp; try with_reducible rfl
        refine stP ?_
        refine ym_ (rs := [17]) Xt3 Xt5 ?_
        refine AllL.later (o := { dst := none, op := Op.store 78 (Operand.tmp 129) (Operand.tmp 127), type := 0, pos := "ref.go:94", after := #[{ on := 16, ground := Ground.data }, { on := 13, ground := Ground.data }, { on := 15, ground := Ground.chain }, { on := 0, ground := Ground.phase }, { on := 1, ground := Ground.phase }, { on := 2, ground := Ground.phase }, { on := 3, ground := Ground.phase }, { on := 4, ground := Ground.phase }, { on := 5, ground := Ground.phase }, { on := 6, ground := Ground.phase }, { on := 7, ground := Ground.phase }, { on := 8, ground := Ground.phase }, { on := 9, ground := Ground.phase }, { on := 10, ground := Ground.phase }, { on := 11, ground := Ground.phase }, { on := 12, ground := Ground.phase }, { on := 13, ground := Ground.phase }, { on := 14, ground := Ground.phase }, { on := 15, ground := Ground.phase }], guard := none }) Xt3 rfl fun K hK => ?_
        have HS15 := hid (HSW.out wd w15 HBD.out HW15.out)
        obtain ⟨y0, y1, fz0, fz1⟩ := HS15.out.2.1
        go_simp
        obtain ⟨w17, hw17⟩ := gty ((w15.setCell ⟨g, n0 * 2, none⟩ (.slice z.ka z.K.length z.kc)).setCell ⟨g, n0 * 2 + 1, none⟩ (.slice z.ra z.R.length z.rc))
        rw [← hw17]
        have HW17 := hid hw17
        clear hw17 y0 y1 fz0 fz1
        refine hK.out _ _ ?_
        clear hK K
        refine stP ?_
        refine zz_ Xt3 ?_ _
        skip
        have s3 := (HS15.out.1.stored (n0 * 2) (.slice z.ka z.K.length z.kc)).1
        have s4 := (s3.stored (n0 * 2 + 1) (.slice z.ra z.R.length z.rc)).1
        have hsw := pr_swap A' (B ++ D) a z
        rw [HN0.out, ← H01.out] at hsw
        rw [hsw, ← HW17.out] at s4
        have HO17 := hid s4
        have HF17 := hid (show Off (fun b => Value.ownBlock (.slice (some ⟨g, 0, none⟩) m vc) = some b) w15 w17 by rw [HW17.out]; exact Off.set (S := fun b => Value.ownBlock (.slice (some ⟨g, 0, none⟩) m vc) = some b) (Off.set (S := fun b => Value.ownBlock (.slice (some ⟨g, 0, none⟩) m vc) = some b) (Off.refl _ w15) ⟨g, n0 * 2, none⟩ rfl _) ⟨g, n0 * 2 + 1, none⟩ rfl _)
        have HOFN := hid (((HO5.out.then HB9.out).then HBD.out).trans (HS15.out.2.2.trans HF17.out))
        clear s3 s4 hsw d0 d3 d4 hH
        have hwr0 : IntKind.i64.wrap ((n1 : Int) - 1) = (n0 : Int) := HWR.out
        go_wp2_with fail
        go_roundw
        case rel =>
         have h01 := H01.out
         refine ⟨n0, A', a :: B, D, z, by omega, by go_num, HN0, hid (by rw [HN0.out, List.length_cons]; have := HAB.out; rw [List.length_append, List.length_singleton, HN0.out] at this; omega), HO17, hid ?_, hid ?_, hid ?_, HOFN⟩
         ·refine List.Perm.trans ?_ HFL.out
          exact List.Perm.append_left _ (List.Perm.swap ..)
         ·rw [show A' ++ a :: B = (A' ++ [a]) ++ B by simp]; exact HFS.out
         ·intro b hb
          rcases List.mem_cons.1 hb with rfl | hb
          ·exact HCP.out
          ·exact HZB.out b hb
        case measure => have h01 := H01.out; have hwr0 : IntKind.i64.wrap ((n1 : Int) - 1) = (n0 : Int) := HWR.out; simp [intOf]; omega
    ·have d2 : ¬ (k2 : Int) < (m : Int) := by omega
     have hke2 : k2 = m := by omega
     have HKE := hid hke2
     go_wp2_with fail
     go_ret
     have hfl : F.length = m := by rw [HFP.out.length_eq, HML.out]
     have hsF : F.Pairwise LeP := by
      have := HFS.out
      rw [List.take_of_length_le (by rw [hfl, HKE.out]; exact Nat.le_refl _)] at this
      exact this
     have hlim := HH.out.1.lim x (List.mem_of_getElem? HX.out.1)
     have htb : tbC x = P.map prC := by unfold tbC; rw [HX.out.2.1]
     refine ⟨va, vc, F, by rw [hfl]; rfl, ?_, ?_, by rw [hfl]; have := HEL.out; omega, by rw [hfl]; exact (zJ_ HOF.out).1, fun S' hS' hst W' o => ?_⟩
     ·exact Off.below HBW.out HO5.out HBW.out.size (fun b hb => (zb_ HOV.out hb).1)
     ·rw [HH.out.1.getD HX.out.1]
      refine idx_sorted HH.out.1.ok HJT.out HIX.out hlim ?_ hsF
      rw [htb, ← HEA.out]
      exact HFP.out.map _
     ·have hob : ∀ b, Value.ownBlock (.slice va m vc) = some b -> ¬ S' b := fun b hb hs => by
       have := (zb_ HOV.out hb).1
       have := hS' b hs
       omega
      have how := zm_ HOF.out o hS'
      refine yi_ how hfl fun e he => ?_
      have heE := HFP.out.mem_iff.1 he
      obtain ⟨_, q, hq, e1, e2⟩ := HEQ.out e heE
      have hko := zn_ (HKO.out e heE) (HO5.out) (fun g hg hh => by
       obtain ⟨_, _, cu, hc⟩ := zb_ (HKO.out e heE) hg
       obtain ⟨_, _, cu', hc'⟩ := zb_ HOV.out hh
       exact zo_ hc hc' Xt4 rfl)
      have hk2 := zm_ hko o hS'
      have hoff : Off (fun b => S' b ∨ w.heap.size <= b) w W' := by
       have h1 : Off (fun b => S' b ∨ w.heap.size <= b) w w5 := Off.of HBW.out
       exact h1.trans ((HO5.out.mono fun b hb => .inr (zb_ HOV.out hb).1).trans (o.mono fun b hb => .inl hb))
      have hoff2 : Off S' w W' := ⟨hoff.os, hoff.tape, hoff.output, hoff.size, fun b hb hn => hoff.block b hb fun hh => hh.elim hn fun h => by omega⟩
      have hpr := hst W' hoff2 x (List.mem_of_getElem? HX.out.1)
      rw [HX.out.2.1] at hpr
      obtain ⟨mq, hmq⟩ := List.mem_iff_getElem?.1 hq
      obtain ⟨_, _, _, _, _, _, r⟩ := hpr mq q hmq
      exact ⟨yv_ hk2 rfl, by rw [e1, e2]; exact r⟩
theorem jq_ (a : Option Addr) (L : List Int) (n cap : Nat) (hL : L.length = n) (hn : n <= 300000) (F K : List Int) (er : Int) (hv : y2_ L = (F, K, er)) (w : World) (hA : Ls .u8 w a cap L) :
  Calls prog 101 #[.slice a n cap] w fun r w' => ∃ a1 c1 a2 c2, r = .returned (.tuple #[.slice a1 F.length c1, .slice a2 K.length c2, .int .i64 er]) /\ Ls .u8 w' a1 c1 F /\ (∀ S : Nat -> Prop, (∀ k, S k -> k < w.heap.size) -> zs_ S w' fun W => Ls .u8 W a2 c2 K) /\ Below w.heap.size w w' := by
 have HA := hid hA
 have HL := hid hL
 have HV := hid hv
 have hbad : ya_ [] L = none -> F = [] /\ K = [] /\ er = 4 := fun h => by
  rw [y2_, h] at hv
  simp only [spV, Prod.mk.injEq] at hv
  exact ⟨hv.1.symm, hv.2.1.symm, hv.2.2.symm⟩
 have HB := hid hbad
 clear hA hL hv hbad
 go_enter func101, ntmps101
 go_wp2_with fail
 go_loopw [5, 6] (fun v i wr => ∃ (k : Nat) (f : List Int), k <= n /\ i = .int .i64 k /\ f.length <= k /\ wr.ownsRow w.heap.size 5 1 v f.length (iv .u8 f) /\ ya_ [] L = ya_ f (L.drop k) /\ Below w.heap.size w wr) (fun _ i _ => n - (intOf i).toNat)
 case atStart => exact ⟨0, [], by omega, rfl, by simp, World.ownsRow_nil _ _ _ _, rfl, Below.refl _ _⟩
 case round =>
  obtain ⟨k, f, hk, rfl, hfk, hown, hsp, B⟩ := hrel
  obtain ⟨m, hm⟩ := gtx (f.length)
  rw [hm] at hown hfk
  have HSP := hid hsp
  have HM := hid hm
  have HOWN := hid hown
  have HFK := hid hfk
  clear hsp hm hown hfk
  by_cases hlt : k < n
  ·have hkl : (k : Int) < (n : Int) := by omega
   have hkL : k < L.length := by rw [HL.out]; exact hlt
   have hdc := Q3_ L k hkL
   obtain ⟨b1, o1, e1, c1⟩ := (HA.out.below B).get k hkL
   subst e1
   obtain ⟨x, hx⟩ := gtx (L.getD k 0)
   rw [hx] at c1 hdc
   have HDC := hid hdc
   have hs1 := B.size
   clear hx hdc
   by_cases q : x = 0
   ·have t1 : (x != 0) = false := by rw [q]; rfl
    have HQ := hid q
    clear q
    by_cases hend : k + 1 = n
    ·have t2 : (n : Int) <= (k : Int) + 1 := by omega
     have hr := HB.out Xt51
     have HR := hid hr
     clear hr hend
     exact Xb46
    ·have t2 : ¬ (n : Int) <= (k : Int) + 1 := by omega
     have hkl2 : (k : Int) + 1 < (n : Int) := by omega
     have hkL2 : k + 1 < L.length := by rw [HL.out]; omega
     have hdc2 := Q3_ L (k + 1) hkL2
     obtain ⟨b2, o2, e2, c2⟩ := (HA.out.below B).get (k + 1) hkL2
     cases e2
     obtain ⟨y, hy⟩ := gtx (L.getD (k + 1) 0)
     rw [hy] at c2 hdc2
     have hsp2 : ya_ [] L = if y = 1 then (if f.length <= 24 /\ yA_ (L.drop (k + 1 + 1)).length = true then some (f, L.drop (k + 1 + 1)) else none) else if y = 255 then ya_ (f ++ [0]) (L.drop (k + 1 + 1)) else none := by
      rw [HSP.out, HDC.out, hdc2, ya_, if_pos HQ.out]
     have HSP2 := hid hsp2
     have hend2 := hid hend
     clear hy hdc2 hsp2 hend
     by_cases q1 : y = 1
     ·have t3 : (y == 1) = true := by rw [q1]; rfl
      have hsp3 := HSP2.out
      rw [if_pos q1] at hsp3
      have hdl : (L.drop (k + 1 + 1)).length = n - (k + 2) := by rw [List.length_drop, HL.out]
      rw [HM.out, hdl] at hsp3
      obtain ⟨a', c', s', l'⟩ := HA.out.lo Qg_ n (k + 2) HL.out Xt0
      have s2 : ∀ W', (Instr.slice 42 (.slice (some ⟨b1, o1, none⟩) n cap) (some (.int .i64 ((k : Int) + 2))) none none).run prog W' = .ok (.slice a' (n - (k + 2)) c') W' := by
       intro W'
       have := s' W'
       rwa [show (((k + 2 : Nat)) : Int) = (k : Int) + 2 by omega] at this
      obtain ⟨r, hr⟩ := gtx (n - (k + 2))
      rw [hr] at s2 hdl hsp3
      have HDL := hid hdl
      have hr3 : r <= 300000 := by omega
      obtain ⟨af, cf, hsl, lf, _⟩ := yy_ HOWN.out HM.out
      subst hsl
      have HLF := hid lf
      have HLP := hid l'
      have HS3 := hid hsp3
      clear s' hdl hsp3 hr lf l' HOWN q1
      go_wp2_with (at_builtin; refine zB_ Qg_ rfl (.const (.slice none 0 0)) (.tmp 40) rfl w.heap.size (.slice none 0 0) 0 [] rfl (World.ownsRow_nil _ _ _ _) a' c' r (L.drop (k + 1 + 1)) HDL.out rfl (HLP.out.below B) Xt0 hs1 ?_)
      intro v2 w2 hown2 hg2
      have hown3 : w2.ownsRow w.heap.size 5 1 v2 r (iv .u8 (L.drop (k + 1 + 1))) := by simpa using hown2
      have B2 := B.grown hg2 hs1 Xt23
      have HLF2 := hid (HLF.out.below ((Below.refl wr.heap.size wr).grown hg2 (Nat.le_refl _) Xt23))
      obtain ⟨ak, ck, rfl, lk, _⟩ := yy_ hown3 HDL.out
      have HLK := hid (fun (S : Nat -> Prop) (hS : ∀ k, S k -> k < w.heap.size) => j1_ hown3 HDL.out hS)
      clear hown2 hg2 hown3 HLF lk
      by_cases q3 : m <= 24
      ·have q4 : ¬ (24 : Int) < (m : Int) := by omega
       have hmk := zh_ ak r ck w2
       cases hk2 : yA_ r
       ·rw [hk2] at hmk
        have HMK := hid hmk
        have hr := HB.out (by rw [HS3.out, if_neg (by rw [hk2]; simp)])
        have HR := hid hr
        clear hr hmk hk2
        go_wp2_with fail
        refine HMK.out.mono ?_; rintro e w' ⟨rfl, rfl⟩
        exact Xb82
       ·rw [hk2] at hmk
        have HMK := hid hmk
        have hv2 := HV.out
        rw [y2_, HS3.out, if_pos ⟨q3, hk2⟩] at hv2
        simp only [spV, Prod.mk.injEq] at hv2
        obtain ⟨e1, e2, e3⟩ := hv2
        have E1 := hid e1
        have E2 := hid e2
        have E3 := hid e3
        clear hmk hk2 e1 e2 e3
        go_wp2_with fail
        refine HMK.out.mono ?_; rintro e w' ⟨rfl, rfl⟩
        go_wp2_with fail
        go_ret3
        have e1 := E1.out
        have e2 := E2.out
        have e3 := E3.out
        subst e1 e2 e3
        exact ⟨af, cf, ak, ck, by rw [HM.out, HDL.out]; rfl, HLF2.out, HLK.out, B2⟩
      ·have q4 : (24 : Int) < (m : Int) := by omega
       have hr := HB.out (by rw [HS3.out, if_neg (fun h => q3 h.1)])
       have HR := hid hr
       clear hr
       exact Xb82
     ·have t3 : (y == 1) = false := by simpa using q1
      have hsp3 := HSP2.out
      rw [if_neg q1] at hsp3
      by_cases q2 : y = 255
      ·have t4 : (y != 255) = false := by simpa using q2
       rw [if_pos q2] at hsp3
       have HSP3 := hid hsp3
       have Q2 := hid q2
       clear hsp3 q1 q2
       go_wp2_with (at_builtin; refine zB_ Qg_ rfl (.tmp 58) (.tmp 59) rfl w.heap.size _ m (iv .u8 f) rfl (HOWN.out.alloc _) _ _ 1 [0] rfl rfl (y5_ .u8 _ [0] _ _ _ rfl 1 rfl) (by have := HFK.out; omega) Xt7 ?_)
       intro v2 w3 hown3 hgrow3
       rw [← zI_] at hown3
       have B4 := (B.alloc hs1 _).grown hgrow3 Xt7 (fun j hj => (HOWN.out.lt j hj).1)
       have HOWN3 := hid hown3
       clear hown3 hgrow3
       go_wp2_with fail
       go_roundw
       case rel => exact ⟨k + 2, f ++ [0], by have := hend2.out; omega, by go_num, by rw [List.length_append, HM.out]; have := HFK.out; simp; omega, by rw [List.length_append, HM.out]; exact HOWN3.out, by rw [HSP3.out], B4⟩
       case measure => simp [intOf]; omega
      ·have t4 : (y != 255) = true := by simpa using q2
       rw [if_neg q2] at hsp3
       have hr := HB.out hsp3
       have HR := hid hr
       clear hr hsp3 q1 q2
       exact Xb46
   ·have t1 : (x != 0) = true := by simpa using q
    have hsp2 : ya_ [] L = ya_ (f ++ [x]) (L.drop (k + 1)) := by rw [HSP.out, HDC.out, splitL_go _ _ _ q]
    have HSP2 := hid hsp2
    clear q hsp2
    go_wp2_with (at_builtin; refine zB_ Qg_ rfl (.tmp 17) (.tmp 22) rfl w.heap.size _ m (iv .u8 f) rfl (HOWN.out.alloc _) _ _ 1 [x] rfl rfl (y5_ .u8 _ [x] _ _ _ rfl 1 rfl) (by have := HFK.out; omega) Xt7 ?_)
    intro v2 w3 hown3 hgrow3
    rw [← zI_] at hown3
    have B4 := (B.alloc hs1 _).grown hgrow3 Xt7 (fun j hj => (HOWN.out.lt j hj).1)
    have HOWN3 := hid hown3
    clear hown3 hgrow3
    go_wp2_with fail
    go_roundw
    case rel => exact ⟨k + 1, f ++ [x], by omega, by go_num, by rw [List.length_append, HM.out]; have := HFK.out; simp; omega, by rw [List.length_append, HM.out]; exact HOWN3.out, HSP2.out, B4⟩
    case measure => simp [intOf]; omega
  ·have hkl : ¬ (k : Int) < (n : Int) := by omega
   have hr := HB.out Xt51
   have HR := hid hr
   clear hr
   exact Xb46
end Go.Proofs.YthmofoldmdafoaaGreat
