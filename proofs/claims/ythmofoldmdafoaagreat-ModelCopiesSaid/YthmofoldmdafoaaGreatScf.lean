/- Part of the proof that ModelCopies holds for every input: a copy goes on apart; two models are the same just if tables and rows are. Part 6. -/
import Derived.Test.YthmofoldmdafoaaGreatSce
set_option linter.unusedVariables false
set_option linter.unusedSimpArgs false
set_option maxRecDepth 100000
set_option maxHeartbeats 4000000
namespace Go.Proofs.YthmofoldmdafoaaGreat
open Go.ChangeShapes Go.WideShapes Go.ChangeAt Go.RowKit
open Go.Lib (hid)
open Go.Proofs.Tryz
section
open Go.Maps
theorem qL_ {α : Type} (key : α -> List Int) (f u : List Int) (en : Bool) (m : Int) : ∀ (l acc : List α), (acc.length : Int) <= m -> ((yP_ key f u en m l acc).length : Int) <= m
 | [], acc, h => h
 | e :: r, acc, h => by
  unfold yP_
  split
  ·exact qL_ key f u en m r acc h
  ·split
   ·exact h
   ·rename_i h2
    refine qL_ key f u en m r _ ?_
    rw [List.length_append, List.length_singleton]
    simp only [Bool.or_eq_true, decide_eq_true_eq, not_or] at h2
    have := h2.2
    omega
theorem tlook_law (hsort : ESort) {S : Nat -> Prop} {base : Nat} {w : World} {m : Md} {x : Tl} (h : TlR S base w m x) (hbs : base <= w.heap.size) (o : zj_) (t : Nat) (ho : OpS S base w m o t) (hk : o.k = 6) (hf : ∀ z ∈ m.tabs, z.2.length <= 300000) :
  Calls prog 128 #[.pointer (some ⟨x.px, 0, none⟩), .agg #[.int .i64 o.k, .int .i64 o.t, .int .i64 o.i, .slice o.ka o.kn o.kc, .slice o.ta o.tn o.tc, .int .i64 o.m, .slice o.ra o.rn o.rc]] w (Qr_ S base w m x ((0, (yP_ Prod.fst (zk_ o.K) (zk_ o.T) (decide (0 < o.tn)) o.m (yL_ m.j t (trV m.j o.t o.i).1 (x.T m t)) []).map Prod.snd) : Int × List Pr) (x.ws.map WtV.P)) := by
 obtain ⟨hb, hbx⟩ := yr_ w #[.int .i64 o.k, .int .i64 o.t, .int .i64 o.i, .slice o.ka o.kn o.kc, .slice o.ta o.tn o.tc, .int .i64 o.m, .slice o.ra o.rn o.rc] #[.int .i64 0, .slice none 0 0] 74 81
 obtain ⟨w2, hw2⟩ := gty ((w.alloc (.cells #[.int .i64 o.k, .int .i64 o.t, .int .i64 o.i, .slice o.ka o.kn o.kc, .slice o.ta o.tn o.tc, .int .i64 o.m, .slice o.ra o.rn o.rc] 74)).alloc (.cells #[.int .i64 0, .slice none 0 0] 81))
 rw [← hw2] at hb hbx
 have h2 := h.below hb
 have HMD := hid h2.md
 have HOP := hid (ho.at'.below hb).now
 have HRN := hid ho.rn
 obtain ⟨c0, _⟩ := h2.c
 have HX := hid (fun X (b : Below w2.heap.size w2 X) => (by
  have hm := (h2.md.below b).st.now.box
  have hp := (hbx X b).1
  refine ⟨tcb b c0, ?_, ?_, ?_, ?_, ?_, ?_, ?_, ?_, ?_, ?_, ?_, ?_, ?_, ?_⟩
  all_goals first | (rw [hm.cell]; rfl) | (rw [hp.cell]; rfl) : X.cell? ⟨x.px, 0, none⟩ = some (.pointer (some ⟨m.p, 0, none⟩)) /\ X.cell? ⟨m.p, 0, none⟩ = some (.int .i64 m.j.w) /\ X.cell? ⟨m.p, 1, none⟩ = some (.int .i64 m.j.l) /\ X.cell? ⟨m.p, 2, none⟩ = some (.int .i64 m.j.d) /\ X.cell? ⟨m.p, 3, none⟩ = some (.int .i64 m.j.c) /\ X.cell? ⟨m.p, 4, none⟩ = some (.int .i64 m.j.k) /\ X.cell? ⟨m.p, 5, none⟩ = some (.int .i64 m.j.e) /\ X.cell? ⟨m.p, 6, none⟩ = some (.slice m.j.a m.j.n m.j.cap) /\ X.cell? ⟨w.heap.size, 0, none⟩ = some (.int .i64 o.k) /\ X.cell? ⟨w.heap.size, 1, none⟩ = some (.int .i64 o.t) /\ X.cell? ⟨w.heap.size, 2, none⟩ = some (.int .i64 o.i) /\ X.cell? ⟨w.heap.size, 3, none⟩ = some (.slice o.ka o.kn o.kc) /\ X.cell? ⟨w.heap.size, 4, none⟩ = some (.slice o.ta o.tn o.tc) /\ X.cell? ⟨w.heap.size, 5, none⟩ = some (.int .i64 o.m) /\ X.cell? ⟨w.heap.size, 6, none⟩ = some (.slice o.ra o.rn o.rc)))
 have HH := hid (And.intro h (And.intro hbs (And.intro hb hbx)))
 have HO := hid ho
 have HF := hid hf
 have HSO := hid hsort
 have HK5 := hid hk
 have HW2 := hid hw2
 clear hsort h hbs ho hf hk h2 hb hbx c0
 go_enter func128, ntmps128
 go_upto_region 1 with (fail)
 rw [← hw2]
 clear hw2
 go_cut [5] (fun v wx => ∃ (bx : Nat) (fa : Option Addr) (fc : Nat) (ta : Option Addr) (tc : Nat), v = .pointer (some ⟨bx, 0, none⟩) /\ Hid (Below w2.heap.size w2 wx) /\ Hid (zg_ wx bx #[.int .i64 (zE_ m.j o).1, .slice fa (zE_ m.j o).2.1.length fc, .slice ta (zE_ m.j o).2.2.1.length tc, .bool (zE_ m.j o).2.2.2.1] 169) /\ Hid (Ls .u8 wx fa fc (zE_ m.j o).2.1) /\ Hid (Ls .u8 wx ta tc (zE_ m.j o).2.2.1))
 case first =>
  exact Xb5
 case rest =>
 obtain ⟨bx, fa, fc, ta, tc, rfl, HB3, HSP, HLF, HLU⟩ := hcut
 have HBW := hid (HH.out.2.2.1.trans (HB3.out.mono HH.out.2.2.1.size))
 have HB23 := hid HB3.out.size
 have h3 : kf o.k 3 = true := by rw [xi_, HK5.out]; rfl
 have h4 : kf o.k 4 = true := by rw [jE_, HK5.out]; rfl
 have hrg : zE_ m.j o = ((trV m.j o.t o.i).1, zk_ o.K, zk_ o.T, decide (0 < o.tn), 0) := by
  exact Xb94
 have HRG := hid hrg
 have hmo := jZ_ HO.out.po h3
 have HMO := hid (show 0 <= o.m /\ o.m <= 1000000 by omega)
 have hca := HO.out.at'.now
 have HBF := hid (show Byt (zE_ m.j o).2.1 /\ Byt (zE_ m.j o).2.2.1 by rw [hrg]; exact ⟨yM_ hca.kb, yM_ hca.tb⟩)
 have HSX := hid (fun X (b : Below wc.heap.size wc X) => (by
  have hop := (HH.out.2.2.2 X (HB3.out.trans (b.mono HB3.out.size))).1
  have hsp := HSP.out.below b
  refine ⟨by rw [hsp.cell]; rfl, by rw [hsp.cell]; rfl, by rw [hsp.cell]; rfl, by rw [hsp.cell]; rfl, by rw [hop.cell]; rfl, ?_⟩
  rw [hop.cell, ← HO.out.te]; rfl : X.cell? ⟨bx, 0, none⟩ = some (.int .i64 (zE_ m.j o).1) /\ X.cell? ⟨bx, 1, none⟩ = some (.slice fa (zE_ m.j o).2.1.length fc) /\ X.cell? ⟨bx, 2, none⟩ = some (.slice ta (zE_ m.j o).2.2.1.length tc) /\ X.cell? ⟨bx, 3, none⟩ = some (.bool (zE_ m.j o).2.2.2.1) /\ X.cell? ⟨w.heap.size, 5, none⟩ = some (.int .i64 o.m) /\ X.cell? ⟨w.heap.size, 1, none⟩ = some (.int .i64 (t : Int))))
 clear h3 h4 hrg hmo hca
 go_upto_region 2 with (fail)
 refine zr_ (z := 11) (S := (fun X => Below wc.heap.size wc X)) Xt3 ((Below.refl _ _).drew) fun hH => ?_
 refine tlk 0 rfl (fun W hSw => by obtain ⟨s0, s1, s2, s3, _⟩ := HSX.out W hSw; exact tks) ?_
 refine tlk 1 rfl Xt2 ?_
 refine tlk 2 rfl (fun W hSw => by obtain ⟨_, _, _, _, o5, _⟩ := HSX.out W hSw; exact tks) ?_
 refine tlk 3 rfl Xt2 ?_
 refine tlk 4 rfl Xt2 ?_
 refine tlk 5 rfl (fun W hSw => by obtain ⟨_, _, _, _, _, o1⟩ := HSX.out W hSw; exact tks) ?_
 refine tlk 6 rfl Xt2 ?_
 refine tlk 7 rfl (fun W hSw => by obtain ⟨s0, _⟩ := HSX.out W hSw; exact tks) ?_
 refine tl1 8 rfl fun K hK => ?_
 go_simp
 refine (qv_ HSO.out (HH.out.1.below (HBW.out.trans (hH.mono HBW.out.size))) t HO.out.tl (zE_ m.j o).1 HF.out).mono ?_; rintro r w6 ⟨a6, c6, L6, rfl, hb6, hm6, hl6, hx6, hst6⟩
 have HB6 := hid (za_ hH hb6)
 have HM6 := hid hm6
 have HL6 := hid hl6
 have HX6 := hid hx6
 have HST6 := hid (show ∀ S : Nat -> Prop, (∀ k, S k -> k < wc.heap.size) -> zs_ S w6 fun W' => EnsR W' a6 L6 from hst6)
 clear hb6 hm6 hl6 hx6 hst6
 go_wp2_with fail
 refine hK.out _ _ HB6.out fun hH => ?_
 refine stP ?_
 refine tl1 9 rfl fun K hK => ?_
 go_simp
 refine (qu_ (zE_ m.j o).1 fa ta _ fc _ tc (zE_ m.j o).2.1 (zE_ m.j o).2.2.1 (zE_ m.j o).2.2.2.1 o.m HMO.out rfl rfl HBF.out.1 HBF.out.2 a6 L6.length c6 L6 rfl HL6.out (fun e he => (HX6.out e he).1) w6 (HLF.out.below HB6.out) (HLU.out.below HB6.out) (HST6.out (fun _ => False) (fun _ h => h.elim)).now).mono ?_; rintro r w3 ⟨a9, c9, rfl, hb9, hc9, hn9, ho9⟩
 have HO9 := hid ho9
 have HB9 := hid hb9
 have HB69 := hid (za_ HB6.out hb9)
 clear hb9 hc9 hn9 ho9
 go_wp2_with fail
 refine hK.out _ _ HB69.out fun hH => ?_
 refine stP ?_
 refine tlk 10 rfl Xt2 ?_
 refine tlz rfl fun K hK => ?_
 have hbx1 := (HH.out.2.2.2 w3 (HB3.out.trans (HB69.out.mono HB3.out.size))).2
 have g0 := hbx1.cell 0
 have g1 := hbx1.cell 1
 have i0 := hbx1.frozen 0
 have i1 := hbx1.frozen 1
 simp only [gtA, gtB, gtC] at g0 g1
 go_simp
 refine hK.out _ _ ?_
 clear hK K hbx1 g0 g1 i0 i1
 refine stP ?_
 refine zz_ Xt3 ?_ _
 skip
 have HZM := hid (xp_ EnV.K (zE_ m.j o).2.1 (zE_ m.j o).2.2.1 (zE_ m.j o).2.2.2.1 o.m L6 [])
 have HZ1 := hid (qL_ EnV.K (zE_ m.j o).2.1 (zE_ m.j o).2.2.1 (zE_ m.j o).2.2.2.1 o.m L6 [] (by simpa using HMO.out.1))
 have HZP := hid (show (yP_ EnV.K (zE_ m.j o).2.1 (zE_ m.j o).2.2.1 (zE_ m.j o).2.2.2.1 o.m L6 []).map enC = yP_ Prod.fst (zk_ o.K) (zk_ o.T) (decide (0 < o.tn)) o.m (yL_ m.j t (trV m.j o.t o.i).1 (x.T m t)) [] by
  rw [jO_ enC EnV.K Prod.fst _ _ _ _ _ _ (fun e he => rfl), HM6.out, HRG.out]
  rfl)
 have hbx1 := (HH.out.2.2.2 w3 (HB3.out.trans (HB69.out.mono HB3.out.size))).2
 have HB1R := hid (show w.heap.size + 1 < w6.heap.size from (HH.out.2.2.2 w6 (HB3.out.trans (HB6.out.mono HB3.out.size))).2.lt)
 have HBT := hid (HBW.out.trans (HB69.out.mono HBW.out.size))
 have HB2 := hid ((HH.out.2.2.2 w2 (Below.refl _ _)).2.lt)
 obtain ⟨Z, hZ⟩ := gtx (yP_ EnV.K (zE_ m.j o).2.1 (zE_ m.j o).2.2.1 (zE_ m.j o).2.2.2.1 o.m L6 [])
 have ho9 := HO9.out
 rw [hZ] at HZM HZ1 HZP ho9 ⊢
 have HO9 := hid ho9
 have hb4 := zg_.set2 (x := .int .i64 0) (y := .slice a9 Z.length c9) hbx1
 have ho4 : Off (fun k => k = w.heap.size + 1) w3 ((w3.setCell ⟨w.heap.size + 1, 0, none⟩ (.int .i64 0)).setCell ⟨w.heap.size + 1, 1, none⟩ (.slice a9 Z.length c9)) :=
  Off.set (S := fun k => k = w.heap.size + 1) (Off.set (S := fun k => k = w.heap.size + 1) (Off.refl _ w3) ⟨w.heap.size + 1, 0, none⟩ rfl _) ⟨w.heap.size + 1, 1, none⟩ rfl _
 revert hb4 ho4
 generalize (w3.setCell ⟨w.heap.size + 1, 0, none⟩ (.int .i64 0)).setCell ⟨w.heap.size + 1, 1, none⟩ (.slice a9 Z.length c9) = w4
 intro hb4 ho4
 have q0 := hb4.cell 0
 have q1 := hb4.cell 1
 have HO4 := hid ho4
 clear hb4 ho4 hbx1 ho9 hZ
 go_wp2_with fail
 refine bodyPost_end (v := .agg #[.int .i64 0, .slice a9 Z.length c9]) (by simp [results, results128, go_sem, q0, q1]) rfl ?_
 have hl9 : (Z.map EnV.p).length = Z.length := List.length_map _
 have hzm : ∀ e ∈ Z, e ∈ L6 := fun e he => (HZM.out e he).elim id (fun h => by cases h)
 refine ⟨S, x, ⟨0, a9, c9, Z.map EnV.p⟩, by rw [hl9], TSt.same HH.out.1 (Off.below HBT.out HO4.out HBT.out.size Xt37), ?_, ⟨by rw [hl9]; have := HZ1.out; have := HMO.out; omega, fun p hp => ?_⟩, ?_, rfl⟩
 ·show ((0 : Int), (Z.map EnV.p).map prC) = _
  rw [← HZP.out, List.map_map, List.map_map]
  rfl
 ·obtain ⟨e, he, rfl⟩ := List.mem_map.1 hp
  have := HX6.out e (hzm e he)
  exact ⟨this.2.1.1, yF_ this.2.2, by have h2 := this.2.2.2.1; rw [List.length_map] at h2; omega⟩
 ·have hbd9 : ∀ k, (fun k => Rb S base k ∨ k = w.heap.size + 1) k -> k < wc.heap.size := fun k hk => by
   rcases hk with hk | rfl
   ·exact Nat.lt_of_lt_of_le (HH.out.1.rb HH.out.2.1 k hk) HBW.out.size
   ·exact Nat.lt_of_lt_of_le HB2.out HB23.out
  have h9 := ((HST6.out _ hbd9).below HB9.out).off (HO4.out.mono fun k hk => .inr hk)
  intro W' o'
  have hrow := zm_ (zm_ HO9.out HO4.out (fun k hk => by cases hk; exact HB1R.out)) o' (fun k hk => Nat.lt_of_lt_of_le (HH.out.1.rb HH.out.2.1 k hk) (Nat.le_trans HBW.out.size HB6.out.size))
  have hrow : W'.ownsRow w6.heap.size 78 2 (.slice a9 (Z.map EnV.p).length c9) (Z.map EnV.p).length (zi_ (Z.map EnV.p)) := by rw [hl9]; exact hrow
  refine ⟨yi_ hrow rfl (fun p hp => ?_), WrB.of hrow, fun p hp => ?_⟩
  rotate_left
  ·obtain ⟨e, he, rfl⟩ := List.mem_map.1 hp
   obtain ⟨i, hi⟩ := List.mem_iff_getElem?.1 (hzm e he)
   obtain ⟨_, _, _, _, _, _, l⟩ := (h9.less (fun k hk => .inl hk)) W' o' i e hi
   exact l.pw
  obtain ⟨e, he, rfl⟩ := List.mem_map.1 hp
  obtain ⟨i, hi⟩ := List.mem_iff_getElem?.1 (hzm e he)
  obtain ⟨_, _, _, _, _, _, l⟩ := (h9.less (fun k hk => .inl hk)) W' o' i e hi
  exact ⟨l.pk, l.pr⟩
abbrev Ws := List (Nat × List Int × List (List Int))
def yf_ (j : Job) (T : List (List Pr)) (ws : Ws) (o : zj_) : (Int × List Pr) × Ws :=
 if o.k = 1 then ((match y8_ T ws o.t.toNat o.K with | some R => (0, [(o.K, R)]) | none => (6, [])), ws)
 else if o.k = 2 then ((0, []), xX_ ws o.t.toNat o.K (o.R.map P1.bs))
 else if o.k = 3 then (if (y8_ T ws o.t.toNat o.K).isSome then ((7, []), ws) else ((0, []), xX_ ws o.t.toNat o.K (o.R.map P1.bs)))
 else if o.k = 4 then (if (y8_ T ws o.t.toNat o.K).isSome then ((0, []), xX_ ws o.t.toNat o.K []) else ((6, []), ws))
 else if o.k = 5 then ((0, yP_ Prod.fst o.K o.T (decide (0 < o.tn)) o.m ((yo_ T ws).getD o.t.toNat []) []), ws)
 else ((0, (yP_ Prod.fst (zk_ o.K) (zk_ o.T) (decide (0 < o.tn)) o.m (yL_ j o.t (trV j o.t o.i).1 ((yo_ T ws).getD o.t.toNat [])) []).map Prod.snd), ws)
theorem jV_ (ws : Ws) (t : Nat) (K : List Int) (R : List (List Int)) : (xX_ ws t K R).length <= ws.length + 1 := by
 unfold xX_
 split
 ·rw [List.length_map]; omega
 ·rw [List.length_append]; simp
theorem callP_len (j : Job) (T : List (List Pr)) (ws : Ws) (o : zj_) : (yf_ j T ws o).2.length <= ws.length + 1 := by
 unfold yf_
 split
 ·show ws.length <= _; omega
 ·split
  ·exact jV_ _ _ _ _
  ·split
   ·split
    ·show ws.length <= _; omega
    ·exact jV_ _ _ _ _
   ·split
    ·split
     ·exact jV_ _ _ _ _
     ·show ws.length <= _; omega
    ·split
     ·show ws.length <= _; omega
     ·show ws.length <= _; omega
theorem kf0_in {k : Int} (h : kf k 0 = true) : 1 <= k /\ k <= 6 := by
 by_cases h1 : k < 0 ∨ 6 < k
 ·rw [jD_ k h1] at h; cases h
 ·have h2 : 0 <= k /\ k <= 6 := by omega
  by_cases h3 : k = 0
  ·subst h3; revert h; decide
  ·omega
theorem j0_ {j : Job} {o : zj_} (h : pO j o = true) : 1 <= o.k /\ o.k <= 6 := by
 unfold pO at h
 simp only [Bool.and_eq_true] at h
 exact kf0_in h.1.1.1.1.1.2
theorem jx_ {j : Job} {o : zj_} (h : pO j o = true) (h3 : kf o.k 3 = false) (hl : o.K.length = o.kn) (hb : Byt o.K) : zH_ o.K := by
 unfold pO endB at h
 rw [if_neg (by rw [h3]; simp)] at h
 simp only [Bool.and_eq_true] at h
 have := h.2.1.1
 rw [← hl] at this
 exact mayK_ok this hb
theorem QK_ {j : Job} {o : zj_} (h : pO j o = true) (hl : o.R.length = o.rn) (hb : ∀ p ∈ o.R, Byt p.bs) : o.R ≠ [] -> rOk (o.R.map P1.bs) := fun hne => by
 unfold pO at h
 simp only [Bool.and_eq_true] at h
 have h2 := h.1.1.2
 have h3 := h.1.2
 have hp : 0 < o.rn := by rw [← hl]; exact List.length_pos_iff.2 hne
 rw [decide_eq_true hp] at h2
 have h2 : kf o.k 2 = true := by simpa using h2
 rw [h2] at h3
 exact mayR_rOk (by simpa using h3) hb
theorem OpS.g {S : Nat -> Prop} {base : Nat} {w : World} {m : Md} {o : zj_} {t : Nat} (h : OpS S base w m o t) (hk : o.k < 5) : OpG S base w m o t := by
 have hc := h.at'.now
 exact ⟨h.at', h.te, h.tl, jx_ h.po Xt54 hc.kl hc.kb, QK_ h.po hc.rl hc.rb⟩
theorem tcall_law (hsort : ESort) {S : Nat -> Prop} {base : Nat} {w : World} {m : Md} {x : Tl} (h : TlR S base w m x) (hbs : base <= w.heap.size) (o : zj_) (t : Nat) (ho : OpS S base w m o t) (hws : x.ws.length < 1000) (hf : ∀ z ∈ m.tabs, z.2.length <= 300000) (k : Nat) (hk : o.k = (k : Int)) :
  Calls prog (122 + k) #[.pointer (some ⟨x.px, 0, none⟩), .agg #[.int .i64 o.k, .int .i64 o.t, .int .i64 o.i, .slice o.ka o.kn o.kc, .slice o.ta o.tn o.tc, .int .i64 o.m, .slice o.ra o.rn o.rc]] w (Qr_ S base w m x (yf_ m.j m.P (x.ws.map WtV.P) o).1 (yf_ m.j m.P (x.ws.map WtV.P) o).2) := by
 have hkk := j0_ ho.po
 have ht : o.t.toNat = t := by rw [ho.te]; simp
 have e9 : ∀ z ∈ m.tabs, z.2.length <= 900000 := fun z hz => by have := hf z hz; omega
 unfold yf_
 rw [ht]
 match k, hk with
 | 0, hk => omega
 | 1, hk =>
  have hk : o.k = 1 := hk
  rw [if_pos hk]
  exact tread_law h hbs o t (ho.g Xt0) hws
 | 2, hk =>
  have hk : o.k = 2 := hk
  rw [if_neg Xt0, if_pos hk]
  exact tput_law h hbs o t (ho.g Xt0) hws
 | 3, hk =>
  have hk : o.k = 3 := hk
  rw [if_neg Xt0, if_neg Xt0, if_pos hk]
  have := tinsert_law h hbs o t (ho.g Xt0) hws
  exact Xb88
 | 4, hk =>
  have hk : o.k = 4 := hk
  rw [if_neg Xt0, if_neg Xt0, if_neg Xt0, if_pos hk]
  have := tremove_law h hbs o t (ho.g Xt0) hws
  exact Xb88
 | 5, hk =>
  have hk : o.k = 5 := hk
  rw [if_neg Xt0, if_neg Xt0, if_neg Xt0, if_neg Xt0, if_pos hk]
  exact tscan_law h hbs o t ho hk e9
 | 6, hk =>
  have hk : o.k = 6 := hk
  rw [if_neg Xt0, if_neg Xt0, if_neg Xt0, if_neg Xt0, if_neg Xt0, ho.te]
  have := tlook_law hsort h hbs o t ho hk hf
  rw [ho.te] at this
  exact this
 | k + 7, hk => omega
def y7_ (j : Job) (T : List (List Pr)) (st : List (Int × List Pr) × Ws) (o : zj_) : List (Int × List Pr) × Ws := (st.1 ++ [(yf_ j T st.2 o).1], (yf_ j T st.2 o).2)
def z6_ (j : Job) (T : List (List Pr)) (ops : List zj_) : List (Int × List Pr) × Ws := ops.foldl (y7_ j T) ([], [])
theorem runP_take (j : Job) (T : List (List Pr)) {ops : List zj_} {k : Nat} {o : zj_} (h : ops[k]? = some o) : z6_ j T (ops.take (k + 1)) = y7_ j T (z6_ j T (ops.take k)) o := by
 unfold z6_
 rw [List.take_add_one, h, List.foldl_append]
 rfl
theorem x1_ (j : Job) (T : List (List Pr)) (ops : List zj_) : (z6_ j T ops).1.length = ops.length /\ (z6_ j T ops).2.length <= ops.length := by
 induction ops using zV_ with
 | nil => exact ⟨rfl, Nat.le_refl _⟩
 | append_singleton l o ih =>
  have e : z6_ j T (l ++ [o]) = y7_ j T (z6_ j T l) o := by unfold z6_; rw [List.foldl_append]; rfl
  rw [e]
  have := callP_len j T (z6_ j T l).2 o
  unfold y7_
  refine ⟨?_, ?_⟩
  ·show ((z6_ j T l).1 ++ [_]).length = _
   rw [List.length_append, ih.1, List.length_append]
   rfl
  ·show (yf_ j T (z6_ j T l).2 o).2.length <= _
   rw [List.length_append, List.length_singleton]
   omega
structure TrO (S : Nat -> Prop) (base : Nat) (w : World) (m : Md) (px : Nat) (wv rv : Value) (ws : List WtV) (rs : List xB_) : Prop where
 md : MdR S w m
 bd : ∀ k, S k -> k < w.heap.size
 c2 : w.cell? ⟨px, 2, none⟩ = some wv
 c3 : w.cell? ⟨px, 3, none⟩ = some rv
 own : w.ownsRow base 84 3 wv ws.length (cellsOf wcl ws)
 wst : ∀ y ∈ ws, zs_ S w (fun W' => Ls .u8 W' y.ka y.kc y.K /\ RdR W' y.r.ra y.r.R)
 wok : ∀ y ∈ ws, y.t < m.tabs.length /\ zH_ y.K /\ (y.r.R ≠ [] -> rOk y.r.P)
 rown : w.ownsRow base 81 2 rv rs.length (cellsOf rcl rs)
 rst : ∀ y ∈ rs, zs_ (Rb S base) w (fun W' => yg_ W' y.pa y.P)
 rok : ∀ y ∈ rs, ys_ y
 hw : ∀ g, wv.ownBlock = some g -> S g
 hr : ∀ g, rv.ownBlock = some g -> S g
 few : ws.length <= 16
 lo : base <= px
def TrR (S : Nat -> Prop) (w : World) (m : Md) (x : zW_) (r : Ending) (w' : World) : Prop :=
 if yQ_ m.j x then ∃ S' base px wv rv ws rs, r = .returned (.tuple #[.pointer (some ⟨px, 0, none⟩), .int .i64 0]) /\ Below w.heap.size w w' /\ w.heap.size <= base /\ TrO S' base w' m px wv rv ws rs /\ (∀ k, S k -> S' k) /\ (∀ k, S' k -> S k ∨ w.heap.size <= k) /\ rs.map yC_ = (z6_ m.j m.P x.ops).1 /\ ws.map WtV.P = if x.ab then [] else (z6_ m.j m.P x.ops).2
 else r = .returned (.tuple #[.pointer none, .int .i64 2]) /\ Below w.heap.size w w'
theorem yK_ {j : Job} {x : zW_} (h : yQ_ j x = true) : x.on <= 16 /\ ∀ o ∈ x.ops, pO j o = true := by
 unfold yQ_ at h
 simp only [Bool.and_eq_true, decide_eq_true_eq] at h
 refine ⟨h.1.1.2, fun o ho => ?_⟩
 have := (List.all_eq_true.1 h.2) o ho
 unfold opB at this
 rw [Bool.and_eq_true] at this
 exact this.1
theorem pO_t {j : Job} {o : zj_} (h : pO j o = true) : 0 <= o.t /\ o.t < j.n := by
 unfold pO inB at h
 simp only [Bool.and_eq_true, decide_eq_true_eq] at h
 have := h.1.1.1.1.2
 omega
theorem TlR.c3 {S : Nat -> Prop} {base : Nat} {w : World} {m : Md} {x : Tl} (h : TlR S base w m x) : w.cell? ⟨x.px, 3, none⟩ = some x.rv := by rw [h.box.cell]; rfl
theorem ent_g {f : FuncId} {fn : Func} {c : Code} (hf : prog.funcs[f]? = some fn) (hn : (fn.name == "runtime.NumGoroutine") = false) (hb : fn.body = some c) (args : Array Value) (w : World) : (callFunc f args).run prog w = .ok (.enter f args) w := by
 have h1 : fn.name ≠ "runtime.NumGoroutine" := by simpa using hn
 simp [callFunc, hf, h1, hb]
theorem ent22 (k : Nat) (h1 : 1 <= k) (h2 : k <= 6) (args : Array Value) (w : World) : (callFunc (122 + k) args).run prog w = .ok (.enter (122 + k) args) w := by
 match k, h1, h2 with
 | 1, _, _ => exact ent_g func123 Xt3 rfl args w
 | 2, _, _ => exact ent_g func124 Xt3 rfl args w
 | 3, _, _ => exact ent_g func125 Xt3 rfl args w
 | 4, _, _ => exact ent_g func126 Xt3 rfl args w
 | 5, _, _ => exact ent_g func127 Xt3 rfl args w
 | 6, _, _ => exact ent_g func128 Xt3 rfl args w
 | k + 7, _, h => omega
structure SR (px B b : Nat) (rv : Value) (cs : Array Value) (X : World) : Prop where
 p : ∃ ps, zg_ X px ps 123 /\ ps[3]? = some rv
 o : zg_ X B cs 74
 m : X.ownsMap prog 72 RF b 6 y6_
theorem SR.off {T : Nat -> Prop} {px B b : Nat} {rv : Value} {cs : Array Value} {X X' : World} (h : SR px B b rv cs X) (o : Off T X X') (h1 : ¬ T px) (h2 : ¬ T B) (h3 : ¬ T b) : SR px B b rv cs X' := by
 obtain ⟨⟨ps, hp, hv⟩, ho, hm⟩ := h
 exact ⟨⟨ps, o.box hp h1, hv⟩, o.box ho h2, o.map hm h3⟩
theorem SR.c3 {px B b : Nat} {rv : Value} {cs : Array Value} {X : World} (h : SR px B b rv cs X) : X.cell? ⟨px, 3, none⟩ = some rv := by
 obtain ⟨ps, hp, hv⟩ := h.p
 rw [hp.cell]; exact hv
theorem SR.f3 {px B b : Nat} {rv : Value} {cs : Array Value} {X : World} (h : SR px B b rv cs X) : X.frozen? ⟨px, 3, none⟩ = false := by
 obtain ⟨ps, hp, hv⟩ := h.p
 exact hp.frozen 3
theorem SR.call {S S2 : Nat -> Prop} {base px B b : Nat} {rv : Value} {cs : Array Value} {W w8 : World} {m : Md} {x1 x2 : Tl} (h : SR px B b rv cs W) (st : TSt S S2 base W m x1 w8 x2) (hpx : x1.px = px) (hrv : x1.rv = rv) (h2 : ¬ Mut x1 B) (h3 : ¬ Mut x1 b) : SR px B b rv cs w8 :=
 ⟨⟨_, by have := st.tl.box; rw [st.px, hpx] at this; exact this, by rw [← hrv, ← st.rv]; rfl⟩, st.off.box h.o h2, st.off.map h.m h3⟩
theorem TlR.log {S : Nat -> Prop} {base : Nat} {w w7 w8 : World} {m : Md} {x : Tl} (h : TlR S base w m x) (b : Below w.heap.size w w7) (y : xB_) (hp : zs_ (Rb S base) w fun W' => yg_ W' y.pa y.P) (v8 : Value) (hown : w8.ownsRow base 81 2 v8 (x.rs.length + 1) (cellsOf rcl (x.rs ++ [y]))) (hg : w7.grownBy w8 x.rv.ownBlock) (hat : v8.ownBlock = x.rv.ownBlock ∨ v8.ownBlock = some w7.heap.size) (hrf : x.rs.length < 1000) :
  TlR (jM_ S w.heap.size (w8.setCell ⟨x.px, 3, none⟩ v8).heap.size) base (w8.setCell ⟨x.px, 3, none⟩ v8) m { x with rv := v8, rs := x.rs ++ [y] } /\ Off (fun k => k = x.px ∨ x.rv.ownBlock = some k) w (w8.setCell ⟨x.px, 3, none⟩ v8) := by
 have o67 : Off (fun k => k = x.px ∨ x.rv.ownBlock = some k) w w7 := Off.of b
 have o78 : Off (fun k => x.rv.ownBlock = some k) w7 w8 := Off.of_row hg
 have o68 : Off (fun k => x.rv.ownBlock = some k) w w8 := (Off.of b).trans o78
 have o89 : Off (fun k => k = x.px) w8 (w8.setCell ⟨x.px, 3, none⟩ v8) := Off.set (S := fun k => k = x.px) (Off.refl _ w8) ⟨x.px, 3, none⟩ rfl _
 have o : Off (fun k => k = x.px ∨ x.rv.ownBlock = some k) w (w8.setCell ⟨x.px, 3, none⟩ v8) := (o68.mono fun k hk => .inr hk).trans (o89.mono fun k hk => .inl hk)
 have hT : ∀ k, (fun k => k = x.px ∨ x.rv.ownBlock = some k) k -> S k /\ base <= k := fun k hk => by
  rcases hk with rfl | hk
  ·exact ⟨h.hp, h.lo⟩
  ·exact ⟨h.hr k hk, (zb_ h.rown hk).1⟩
 have hS' : ∀ k, jM_ S w.heap.size (w8.setCell ⟨x.px, 3, none⟩ v8).heap.size k -> S k ∨ w.heap.size <= k := fun k hk => hk.imp id And.left
 have hsz : (w8.setCell ⟨x.px, 3, none⟩ v8).heap.size = w8.heap.size := by simp
 have hnr : ¬ x.rv.ownBlock = some x.px := fun e => by
  obtain ⟨_, _, cur, hb⟩ := zb_ h.rown e
  exact zo_ hb h.box Xt4 rfl
 have hro : (w8.setCell ⟨x.px, 3, none⟩ v8).ownsRow base 81 2 v8 (x.rs ++ [y]).length (cellsOf rcl (x.rs ++ [y])) := by
  rw [List.length_append, List.length_singleton]
  refine zn_ hown o89 ?_
  intro g hg e
  obtain ⟨_, _, cur, hb⟩ := zb_ hown hg
  exact zo_ hb (o68.box h.box hnr) Xt4 e
 refine ⟨h.next o hT { x with rv := v8, rs := x.rs ++ [y] } rfl rfl rfl rfl rfl (heap_setCell_same w8 x.px 3 _ 123 _ (o68.box h.box hnr)) (fun z hz => (h.wmaps z hz).off o ?_) (zn_ h.own o ?_) hro _ (fun _ h => .inl h) hS' (fun k hk => hk.elim (fun hk => Nat.lt_of_lt_of_le (h.bd k hk) o.size) And.right) (fun g hg => .inl (h.hw g hg)) (fun g hg => ?_) (h.keepw o hT hS') h.wok (fun z hz => ?_) h.coh h.wl h.few (by show (x.rs ++ [y]).length <= 1000; rw [List.length_append, List.length_singleton]; omega), o⟩
 ·rintro (e | e)
  ·exact (h.wmaps z hz).ne_box h.box e
  ·obtain ⟨_, _, cur, hb⟩ := zb_ h.rown e
   exact (h.wmaps z hz).ne_box hb rfl
 ·intro g hg e
  obtain ⟨_, _, cur, hb⟩ := zb_ h.own hg
  rcases e with e | e
  ·exact zo_ hb h.box Xt4 e
  ·obtain ⟨_, _, cur', hb'⟩ := zb_ h.rown e
   exact zo_ hb hb' Xt4 rfl
 ·rcases hat with e | e
  ·exact .inl (h.hr g (e ▸ hg))
  ·have h1 := (zb_ hown hg).2.1
   have hg' : some g = some w7.heap.size := hg.symm.trans e
   cases hg'
   exact .inr ⟨b.size, by rw [hsz]; exact h1⟩
 ·rcases List.mem_append.1 hz with hz | hz
  ·exact h.keepr o hT hS' z hz
  ·rw [List.mem_singleton] at hz
   subst hz
   exact hp.step (o.mono fun k hk => .inl (hT k hk).1) fun k hk => hk.elim (fun h => (hS' k h).imp .inl id) fun h => .inl (.inr h)
theorem TlR.tro {S : Nat -> Prop} {base : Nat} {w : World} {m : Md} {x : Tl} (h : TlR S base w m x) (hok : ∀ y ∈ x.rs, ys_ y) (hf : x.ws.length <= 16) : TrO S base w m x.px x.wv x.rv x.ws x.rs :=
 ⟨h.md, h.bd, by rw [h.box.cell]; rfl, h.c3, h.own, h.wst, h.wok, h.rown, h.rst, hok, h.hw, h.hr, hf, h.lo⟩
theorem TlR.tro0 {S : Nat -> Prop} {base : Nat} {w : World} {m : Md} {x : Tl} (h : TlR S base w m x) (hok : ∀ y ∈ x.rs, ys_ y) : TrO S base (w.setCell ⟨x.px, 2, none⟩ (.slice none 0 0)) m x.px (.slice none 0 0) x.rv [] x.rs := by
 have o : Off (fun k => k = x.px) w (w.setCell ⟨x.px, 2, none⟩ (.slice none 0 0)) := Off.set (S := fun k => k = x.px) (Off.refl _ w) ⟨x.px, 2, none⟩ rfl _
 have hT : ∀ k, (fun k => k = x.px) k -> S k /\ base <= k := fun k hk => by cases hk; exact ⟨h.hp, h.lo⟩
 have hbx : zg_ (w.setCell ⟨x.px, 2, none⟩ (.slice none 0 0)) x.px #[.pointer (some ⟨m.p, 0, none⟩), .slice (some ⟨x.bw, 0, none⟩) x.wm.length x.wc, .slice none 0 0, x.rv, .func (.func 107) #[] #[.pointer (some ⟨x.bx, 0, none⟩), .pointer (some ⟨x.bm, 0, none⟩)]] 123 := heap_setCell_same w x.px 2 _ 123 _ h.box
 refine ⟨h.md.off o (fun k hk => (hT k hk).1) (fun y hy hk => ?_) (fun k hk => .inl hk) h.md.hS, fun k hk => Nat.lt_of_lt_of_le (h.bd k hk) o.size, by rw [hbx.cell]; rfl, by rw [hbx.cell]; rfl, World.ownsRow_nil _ _ _ _, Xt42, Xt42, zn_ h.rown o (fun g hg e => ?_), h.keepr o hT (fun k hk => .inl hk), hok, Xt57, h.hr, by simp, h.lo⟩
 ·have := h.old y hy
  have := h.lo
  omega
 ·obtain ⟨_, _, cur, hb⟩ := zb_ h.rown hg
  exact zo_ hb h.box Xt4 e
theorem qN_ (hsort : ESort) {S : Nat -> Prop} {m : Md} {w : World} (h : MdR S w m) (hS : ∀ k, S k -> k < w.heap.size) (x : zW_) (hx0 : zM_ w x) (hon : x.on <= 1000000) (hrn : ∀ o ∈ x.ops, o.rn <= 1000000) (hf : ∀ z ∈ m.tabs, z.2.length <= 300000) :
  Calls prog 66 #[.pointer (some ⟨m.p, 0, none⟩), .agg #[.slice x.oa x.on x.oc, .bool x.sn, .bool x.ab]] w (TrR S w m x) := by
 have HH := hid h
 have HS := hid hS
 have hx : zs_ (fun _ => False) w (fun W => zM_ W x) := fun W' o => hx0.below (Off.below (Below.refl _ _) o (Nat.le_refl _) fun _ h => h.elim)
 have HXT := hid hx
 have HRN := hid hrn
 have HF := hid hf
 have HSO := hid hsort
 obtain ⟨w2, hw2⟩ := gty (w.alloc (.cells #[.slice x.oa x.on x.oc, .bool x.sn, .bool x.ab] 38))
 have hb2 : Below w.heap.size w w2 := by rw [hw2]; exact bl1 _ _
 have hbx2 : zg_ w2 w.heap.size #[.slice x.oa x.on x.oc, .bool x.sn, .bool x.ab] 38 := by rw [hw2]; exact zg_.new _ _ _
 have HB2 := hid hb2
 have HBX2 := hid hbx2
 have HX := hid (fun X (b : Below w2.heap.size w2 X) => (by
  have hm := ((h.below hb2).below b).st.now.box
  have hq := hbx2.below b
  refine ⟨?_, ?_, ?_, ?_, ?_, ?_, ?_, ?_, ?_, ?_⟩
  all_goals first | (rw [hm.cell]; rfl) | (rw [hq.cell]; rfl) : X.cell? ⟨m.p, 0, none⟩ = some (.int .i64 m.j.w) /\ X.cell? ⟨m.p, 1, none⟩ = some (.int .i64 m.j.l) /\ X.cell? ⟨m.p, 2, none⟩ = some (.int .i64 m.j.d) /\ X.cell? ⟨m.p, 3, none⟩ = some (.int .i64 m.j.c) /\ X.cell? ⟨m.p, 4, none⟩ = some (.int .i64 m.j.k) /\ X.cell? ⟨m.p, 5, none⟩ = some (.int .i64 m.j.e) /\ X.cell? ⟨m.p, 6, none⟩ = some (.slice m.j.a m.j.n m.j.cap) /\ X.cell? ⟨w.heap.size, 0, none⟩ = some (.slice x.oa x.on x.oc) /\ X.cell? ⟨w.heap.size, 1, none⟩ = some (.bool x.sn) /\ X.cell? ⟨w.heap.size, 2, none⟩ = some (.bool x.ab)))
 have HMT := hid (fun X (b : Below w2.heap.size w2 X) => maytxn_law m.j x hon hrn X (((h.below hb2).below b).st.now.job) ((hx.below hb2).below b).now)
 have hnone := zX_ (h.below hb2)
 have HNO := hid hnone
 clear h hS hx hx0 hon hrn hf hsort hb2 hbx2 hnone
 cases hmt : yQ_ m.j x with
 | false =>
  rw [hmt] at HMT
  have HR := hid (fun r w' (hh : r = .returned (.tuple #[.pointer none, .int .i64 2]) /\ Below w.heap.size w w') => (by unfold TrR; rw [hmt]; exact hh : TrR S w m x r w'))
  clear hmt
  go_enter func66, ntmps66
  go_upto_region 1 with (fail)
  rw [← hw2]
  clear hw2
  go_wp2_with fail
  refine HNO.out.mono ?_; rintro r w3 ⟨rfl, rfl⟩
  go_upto_region 3 with (fail)
  refine rgw w2 (Below.refl _ _).drew fun hH => ?_
  refine tkq3 0 1 2 ?_
  refine tkr 3 rfl Xf23 ?_
  refine tkr 4 rfl Xf22 ?_
  refine tk1 5 rfl fun K hK => ?_
  go_simp
  refine (HMT.out _ hH).mono ?_; rintro r w4 ⟨rfl, hb4⟩
  have HB4 := hid (za_ hH hb4)
  clear hb4
  go_wp2_with fail
  refine hK.out _ _ HB4.out fun hH => ?_
  refine stP ?_
  refine tkq2 6 7 ?_
  refine adn ?_
  skip
  have HB9 := hid (HB2.out.trans (hH.mono HB2.out.size))
  clear hH
  go_wp2_with fail
  go_ret2
  exact HR.out _ _ ⟨rfl, HB9.out⟩
 | true =>
  rw [hmt] at HMT
  obtain ⟨hon16, hpo⟩ := yK_ hmt
  have HPO := hid hpo
  have HR := hid (fun r w' (hh : ∃ S' base px wv rv ws rs, r = .returned (.tuple #[.pointer (some ⟨px, 0, none⟩), .int .i64 0]) /\ Below w.heap.size w w' /\ w.heap.size <= base /\ TrO S' base w' m px wv rv ws rs /\ (∀ k, S k -> S' k) /\ (∀ k, S' k -> S k ∨ w.heap.size <= k) /\ rs.map yC_ = (z6_ m.j m.P x.ops).1 /\ ws.map WtV.P = if x.ab then [] else (z6_ m.j m.P x.ops).2) => (by unfold TrR; rw [hmt]; exact hh : TrR S w m x r w'))
  clear hmt hpo
  go_enter func66, ntmps66
  go_upto_region 1 with (fail)
  rw [← hw2]
  clear hw2
  go_wp2_with fail
  refine HNO.out.mono ?_; rintro r w3 ⟨rfl, rfl⟩
  go_upto_region 3 with (fail)
  refine rgw w2 (Below.refl _ _).drew fun hH => ?_
  refine tkq3 0 1 2 ?_
  refine tkr 3 rfl Xf23 ?_
  refine tkr 4 rfl Xf22 ?_
  refine tk1 5 rfl fun K hK => ?_
  go_simp
  refine (HMT.out _ hH).mono ?_; rintro r w4 ⟨rfl, hb4⟩
  have HB4 := hid (za_ hH hb4)
  clear hb4
  go_wp2_with fail
  refine hK.out _ _ HB4.out fun hH => ?_
  refine stP ?_
  refine tkq2 6 7 ?_
  refine adn ?_
  skip
  have HB9 := hid (HB2.out.trans (hH.mono HB2.out.size))
  have HBX4 := hid (HBX2.out.below hH)
  clear hH
  go_wp2_with fail
  refine (xf_ (HH.out.below HB9.out) (fun k hk => Nat.lt_of_lt_of_le (HS.out k hk) HB9.out.size)).mono ?_; rintro r w5 ⟨S5, x0, rfl, hb5, htl5, hws0, hrs0, hsu5, hsd5⟩
  obtain ⟨px, hpx⟩ := gtx (x0.px)
  rw [hpx]
  have HB5 := hid (HB9.out.trans (hb5.mono HB9.out.size))
  have HTL5 := hid htl5
  have HPX5 := hid hpx
  have HWR0 := hid (And.intro hws0 hrs0)
  have HSU5 := hid hsu5
  have HSD5 := hid hsd5
  have HBX5 := hid (HBX4.out.below hb5)
  have HS45 := hid hb5.size
  clear htl5 hpx hws0 hrs0 hsu5 hsd5 hb5
  go_wp2_with fail
  refine (calls_law w5).mono ?_; rintro r w6 ⟨rfl, hb6, hmp6⟩
  have HB6 := hid (HB5.out.trans (hb6.mono HB5.out.size))
  have HMP6 := hid hmp6
  have HTL6 := hid (HTL5.out.below hb6)
  have HBX6 := hid (HBX5.out.below hb6)
  have HS56 := hid hb6.size
  obtain ⟨b, hb⟩ := gtx (w5.heap.size)
  rw [hb] at HMP6 ⊢
  have HBB := hid hb
  have c0 := HBX6.out.cell 0
  simp only [gtA, gtB, gtC] at c0
  have HON := hid hon16
  have hxl : x.ops.length = x.on := HXT.out.now.ol
  have HXL := hid hxl
  have hxo : (x.on : Int) <= 16 := by omega
  clear hb6 hmp6 hb hon16 hxl
  go_wp2_with fail
  clear c0
  go_loopw [27] (fun i wr => ∃ (k : Nat) (S1 : Nat -> Prop) (x1 : Tl), k <= x.on /\ i = .int .i64 (k : Int) /\ Hid (TlR S1 w4.heap.size wr m x1) /\ Hid (x1.px = px) /\ Hid (x1.ws.map WtV.P = (z6_ m.j m.P (x.ops.take k)).2) /\ Hid (x1.rs.map yC_ = (z6_ m.j m.P (x.ops.take k)).1) /\ Hid (∀ y ∈ x1.rs, ys_ y) /\ Hid (∀ g, S g -> S1 g) /\ Hid (∀ g, S1 g -> S g ∨ w4.heap.size <= g) /\ Hid (¬ S1 b /\ b < wr.heap.size) /\ Hid (wr.ownsMap prog 72 RF b 6 y6_) /\ Hid (zg_ wr w.heap.size #[.slice x.oa x.on x.oc, .bool x.sn, .bool x.ab] 38) /\ Hid (Below w.heap.size w wr) /\ Hid (w4.heap.size <= wr.heap.size)) (fun i _ => x.on - (intOf i).toNat)
  case atStart => exact ⟨0, S5, x0, by omega, rfl, HTL6, HPX5, hid (by rw [HWR0.out.1]; rfl), hid (by rw [HWR0.out.2]; rfl), hid (fun y hy => by rw [HWR0.out.2] at hy; cases hy), HSU5, HSD5, hid ⟨fun h => Nat.lt_irrefl _ (by have := HTL5.out.bd _ h; rw [HBB.out] at this; exact this), by obtain ⟨_, _, hh, _⟩ := HMP6.out; exact (Array.getElem?_eq_some_iff.1 hh).1⟩, HMP6, HBX6, HB6, hid (Nat.le_trans HS45.out HS56.out)⟩
  case round =>
   obtain ⟨k, S1, x1, hk, rfl, HTL, HPX, HWS, HRS, HOK, HSU, HSD, HNB, HMP, HTX, HBW, H4R⟩ := hrel
   by_cases hlt : k < x.on
   ·have d1 : (k : Int) < (x.on : Int) := by omega
    obtain ⟨o, ho⟩ : ∃ o, x.ops[k]? = some o := ⟨_, List.getElem?_eq_getElem Xt79⟩
    have hmem : o ∈ x.ops := List.mem_of_getElem? ho
    have hst : zs_ (Ab S1 w4.heap.size) wr fun W => zM_ W x := HXT.out.step (Off.of HBW.out) (fun g hg => .inr (Nat.le_trans HB2.out.size (Nat.le_trans HB4.out.size hg.2)))
    obtain ⟨b1, o1, ea, ⟨p0, p1, p2, p3, p4, p5, p6⟩, _⟩ := hst.now.os k o ho
    have HTK := hid (runP_take m.j m.P ho)
    have HRN1 := hid (HRN.out o hmem)
    have HPO1 := hid (HPO.out o hmem)
    have HCA := hid (hst.mono fun W hW => by obtain ⟨_, _, _, _, hc⟩ := hW.os k o ho; exact hc : zs_ (Ab S1 w4.heap.size) wr fun W => zy_ W o)
    have HEA := hid ea
    rw [ea]
    clear hst ho hmem ea
    go_upto_region 10 with (fail)
    clear p0 p1 p2 p3 p4 p5 p6
    obtain ⟨kk, hkk⟩ : ∃ kk : Nat, o.k = (kk : Int) := ⟨o.k.toNat, by have := j0_ HPO1.out; omega⟩
    have hk16 := j0_ HPO1.out
    have hpt := pO_t HPO1.out
    have hwl : x1.ws.length <= k := by
     have h1 := congrArg List.length HWS.out
     rw [List.length_map] at h1
     have h2 := (x1_ m.j m.P (x.ops.take k)).2
     rw [List.length_take, HXL.out] at h2
     omega
    have hrl : x1.rs.length = k := by
     have h1 := congrArg List.length HRS.out
     rw [List.length_map] at h1
     have h2 := (x1_ m.j m.P (x.ops.take k)).1
     rw [List.length_take, HXL.out] at h2
     omega
    obtain ⟨w7, hw7⟩ := gty (wr.alloc (.cells #[.int .i64 o.k, .int .i64 o.t, .int .i64 o.i, .slice o.ka o.kn o.kc, .slice o.ta o.tn o.tc, .int .i64 o.m, .slice o.ra o.rn o.rc] 74))
    rw [← hw7]
    have hb7 : Below wr.heap.size wr w7 := by rw [hw7]; exact bl1 _ _
    have hbx7 : zg_ w7 wr.heap.size #[.int .i64 o.k, .int .i64 o.t, .int .i64 o.i, .slice o.ka o.kn o.kc, .slice o.ta o.tn o.tc, .int .i64 o.m, .slice o.ra o.rn o.rc] 74 := by rw [hw7]; exact zg_.new _ _ _
    clear hw7
    have hb7d := ((Below.refl w7.heap.size w7).drew)
    have HX7 := hid (SR.mk (rv := x1.rv) (px := px) (b := b) ⟨_, by have := (HTL.out.box.below hb7).below hb7d; rw [HPX.out] at this; exact this, rfl⟩ (hbx7.below hb7d) (Off.map (Off.of (S := fun _ => False) hb7d) (Off.map (Off.of (S := fun _ => False) hb7) HMP.out (fun h => h)) (fun h => h)))
    have HTLW := hid ((HTL.out.below hb7).below hb7d)
    have H4W := hid (Nat.le_trans H4R.out (Nat.le_trans hb7.size hb7d.size))
    have HSW := hid (Nat.le_trans hb7.size hb7d.size)
    have HBRW := hid (hb7.trans (hb7d.mono hb7.size))
    have hops : OpS S1 w4.heap.size w7.drew m o o.t.toNat := ⟨(HCA.out.below hb7).below hb7d, by omega, by have := HH.out.len; omega, HPO1.out, HRN1.out⟩
    have hcl := tcall_law HSO.out HTLW.out H4W.out o o.t.toNat hops Xt0 HF.out kk hkk
    rw [HPX.out] at hcl
    have HCL := hid hcl
    have HKK := hid hkk
    have HK6 := hid (show 1 <= kk /\ kk <= 6 by omega)
    have HRL := hid (show x1.rs.length = k /\ k < 16 by omega)
    have HNM := hid (show ¬ Mut x1 wr.heap.size /\ ¬ Mut x1 b from ⟨fun h => Nat.lt_irrefl _ (HTL.out.bd _ (HTL.out.mut _ h).1), fun h => HNB.out.1 (HTL.out.mut _ h).1⟩)
    have HNR := hid (show ¬ x1.rv.ownBlock = some px /\ ¬ x1.rv.ownBlock = some wr.heap.size /\ ¬ x1.rv.ownBlock = some b from ⟨fun e => by
     obtain ⟨_, _, cur, hb⟩ := zb_ HTL.out.rown e
     have := HTL.out.box
     rw [HPX.out] at this
     exact zo_ hb this Xt4 rfl, fun e => Nat.lt_irrefl _ (HTL.out.bd _ (HTL.out.hr _ e)), fun e => HNB.out.1 (HTL.out.hr _ e)⟩)
    clear hkk hk16 hpt hwl hrl hb7 hbx7 hb7d hops hcl
    refine zr_ (z := 16) (S := (SR px wr.heap.size b x1.rv #[.int .i64 o.k, .int .i64 o.t, .int .i64 o.i, .slice o.ka o.kn o.kc, .slice o.ta o.tn o.tc, .int .i64 o.m, .slice o.ra o.rn o.rc])) Xt3 (HX7.out) fun hH => ?_
    refine tlk 0 rfl Xt2 ?_
    refine tlk 1 rfl Xt2 ?_
    refine tlk 2 rfl Xt2 ?_
    refine tlk 3 rfl Xt2 ?_
    refine tlk 4 rfl (fun W hSw => by have m3 := hSw.c3; exact tks) ?_
    refine tlk 5 rfl Xt2 ?_
    refine tlk 6 rfl Xt2 ?_
    refine tlk 7 rfl (fun W hSw => by have m0 := hSw.o.cell 0; simp only [gtA, gtB, gtC] at m0; exact tks) ?_
    refine tlk 8 rfl (fun W hSw => by have m := calls_look hSw.m kk HK6.out.1 HK6.out.2; rw [← HKK.out] at m; exact tks) ?_
    refine tlk 9 rfl Xt2 ?_
    refine tlk 10 rfl (fun W hSw => by have m0 := hSw.o.cell 0; have m1 := hSw.o.cell 1; have m2 := hSw.o.cell 2; have m3 := hSw.o.cell 3; have m4 := hSw.o.cell 4; have m5 := hSw.o.cell 5; have m6 := hSw.o.cell 6; simp only [gtA, gtB, gtC] at m0 m1 m2 m3 m4 m5 m6; exact tks) ?_
    refine tl1 11 rfl fun K hK => ?_
    go_simp
    rw [ent22 kk HK6.out.1 HK6.out.2, Oper.upon_enter]
    refine HCL.out.mono ?_; rintro r w8 ⟨S2, x2, y, rfl, st, hye, hyo, hys, hws⟩
    have HST := hid st
    have HYE := hid hye
    have HYO := hid hyo
    have HYS := hid hys
    have HW2 := hid hws
    have HSR8 := hid (hH.call st HPX.out rfl HNM.out.1 HNM.out.2)
    clear st hye hyo hys hws
    go_wp2_with fail
    refine hK.out _ _ (HSR8.out) fun hH => ?_
    refine stP ?_
    refine tl1 12 rfl fun K hK => ?_
    go_simp
    refine hK.out _ _ (hH.off (Off.of (S := fun _ => False) (bl1 w8 (.cells #[.int .i64 y.e, .slice y.pa y.P.length y.pc] 81))) (fun h => h) (fun h => h) (fun h => h)) fun hH => ?_
    refine stP ?_
    refine tl1 13 rfl fun K hK => ?_
    have hown : w8.ownsRow w4.heap.size 81 2 x1.rv x1.rs.length (cellsOf rcl x1.rs) := by have := HST.out.tl.rown; rw [HST.out.rv, HST.out.rs] at this; exact this
    refine zD_ Zb_ rfl _ _ rfl w4.heap.size x1.rv x1.rs.length (cellsOf rcl x1.rs) rfl (ze_ hown (bl1 w8 (.cells #[.int .i64 y.e, .slice y.pa y.P.length y.pc] 81))) ⟨w8.heap.size, 0, none⟩ 1 1 (rcl y) rfl rfl (zx_ w8 _ _ _ rfl) (rcl_one y) (by have := HRL.out; omega) (Nat.le_trans H4W.out (Nat.le_trans HST.out.off.size (bl1 w8 (.cells #[.int .i64 y.e, .slice y.pa y.P.length y.pc] 81)).size)) ?_
    intro v9 w9 hown9 hgrow9 hat9
    obtain ⟨a9, c9, hv9⟩ := zd_ hown9
    subst hv9
    have HO9 := hid hown9
    have HG9 := hid hgrow9
    have HAT := hid hat9
    have HSR9 := hid (hH.off (Off.of_row hgrow9) HNR.out.1 HNR.out.2.1 HNR.out.2.2)
    clear hown hown9 hgrow9 hat9
    refine hK.out _ _ (HSR9.out) fun hH => ?_
    refine stP ?_
    refine tlf 14 rfl Xt2 ?_
    refine tlk 15 rfl Xt2 ?_
    refine tlz rfl fun K hK => ?_
    have x4 := HSR9.out.c3
    have f4 := HSR9.out.f3
    go_simp
    refine hK.out _ _ ?_
    clear hK K x4 f4
    refine stP ?_
    refine zz_ Xt3 ?_ _
    skip
    have hlog := TlR.log HST.out.tl (bl1 w8 (.cells #[.int .i64 y.e, .slice y.pa y.P.length y.pc] 81)) y HYS.out (.slice a9 (x1.rs.length + 1) c9) (by rw [HST.out.rs, zq_]; exact HO9.out) (by rw [HST.out.rv]; exact HG9.out) (by rw [HST.out.rv]; exact HAT.out) (by rw [HST.out.rs]; have := HRL.out; omega)
    rw [HST.out.px, HPX.out, HST.out.rv, HST.out.rs] at hlog
    have HL1 := hid hlog.1
    have HL2 := hid hlog.2
    clear hlog
    go_wp2_with fail
    go_roundw
    case rel =>
     have hbS : ∀ g, S2 g -> S1 g ∨ wr.heap.size <= g := fun g hg => (HST.out.sd g hg).imp id fun h => Nat.le_trans HSW.out h
     have h8 : wr.heap.size <= w8.heap.size := Nat.le_trans HSW.out HST.out.off.size
     have hpS : S1 px := by have := HTL.out.hp; rw [HPX.out] at this; exact this
     have hpB : w4.heap.size <= px := by have := HTL.out.lo; rw [HPX.out] at this; exact this
     have hrB : ∀ g, x1.rv.ownBlock = some g -> w4.heap.size <= g := fun g hg => (zb_ HTL.out.rown hg).1
     have h24 : w.heap.size < w4.heap.size := HBX4.out.lt
     refine ⟨k + 1, _, _, by omega, by go_num, HL1, hid rfl, hid ?_, hid ?_, hid ?_, hid fun g hg => .inl (HST.out.su g (HSU.out g hg)), hid fun g hg => ?_, hid ⟨fun hg => ?_, ?_⟩, hid ?_, hid ?_, hid ?_, hid ?_⟩
     ·show x2.ws.map WtV.P = _
      rw [HW2.out, HTK.out, HWS.out]; rfl
     ·show (x1.rs ++ [y]).map yC_ = _
      rw [List.map_append, HTK.out, HRS.out]
      show _ ++ [yC_ y] = _ ++ [_]
      rw [HYE.out, HWS.out]
     ·intro z hz
      rcases List.mem_append.1 hz with hz | hz
      ·exact HOK.out z hz
      ·rw [List.mem_singleton] at hz; subst hz; exact HYO.out
     ·rcases hg with hg | hg
      ·rcases hbS g hg with hg | hg
       ·exact HSD.out g hg
       ·exact .inr (Nat.le_trans H4R.out hg)
      ·exact .inr (Nat.le_trans H4R.out (Nat.le_trans h8 hg.1))
     ·have := HNB.out.2
      rcases hg with hg | hg
      ·rcases hbS b hg with hg | hg
       ·exact HNB.out.1 hg
       ·omega
      ·have := hg.1; omega
     ·have := HNB.out.2
      have := HL2.out.size
      omega
     ·refine Off.map (Off.set (S := fun k => k = px) (Off.refl _ w9) ⟨px, 3, none⟩ rfl _) HSR9.out.m (fun e => HNB.out.1 ?_)
      rw [e]; exact hpS
     ·rw [← HEA.out]
      refine HL2.out.box (HST.out.off.box (HTX.out.below HBRW.out) fun hm => ?_) (fun hm => ?_)
      ·have := (HTL.out.mut _ hm).2; omega
      ·rcases hm with hm | hm
       ·omega
       ·have := hrB _ hm; omega
     ·refine Off.below (Off.below (HBW.out.trans (HBRW.out.mono HBW.out.size)) HST.out.off ?_ fun g hg => ?_) HL2.out ?_ fun g hg => ?_
      ·exact Nat.le_trans HBW.out.size HSW.out
      ·have := (HTL.out.mut _ hg).2; omega
      ·exact Nat.le_trans HBW.out.size h8
      ·rcases hg with hg | hg
       ·omega
       ·have := hrB _ hg; omega
     ·exact Nat.le_trans H4R.out (Nat.le_trans h8 HL2.out.size)
    case measure => simp [intOf]; omega
   ·have d1 : ¬ (k : Int) < (x.on : Int) := by omega
    have hke : k = x.on := by omega
    have HTK := hid (show x.ops.take k = x.ops from List.take_of_length_le (by rw [HXL.out]; omega))
    have HW1 := hid (show x1.ws.map WtV.P = (z6_ m.j m.P x.ops).2 by rw [HWS.out, HTK.out])
    have HR1 := hid (show x1.rs.map yC_ = (z6_ m.j m.P x.ops).1 by rw [HRS.out, HTK.out])
    have HFW := hid (show x1.ws.length <= 16 by
     have h1 := congrArg List.length HW1.out
     rw [List.length_map] at h1
     have h2 := (x1_ m.j m.P x.ops).2
     rw [HXL.out] at h2
     omega)
    have c2 := HTX.out.cell 2
    simp only [gtA, gtB, gtC] at c2
    have HR2 := hid (fun W wv ws hB hT hw => HR.out (.returned (.tuple #[.pointer (some ⟨px, 0, none⟩), .int .i64 0])) W ⟨S1, w4.heap.size, px, wv, x1.rv, ws, x1.rs, rfl, hB, by have := HBX4.out.lt; omega, hT, HSU.out, fun g hg => (HSD.out g hg).imp id fun h => by have := HBX4.out.lt; omega, HR1.out, (hw : ws.map WtV.P = if x.ab = true then [] else (z6_ m.j m.P x.ops).2)⟩)
    clear hke
    have hab : x.ab = true ∨ x.ab = false := by cases x.ab <;> simp
    rcases hab with hab | hab
    ·rw [hab] at c2
     have HAB := hid hab
     clear hab
     have hbx := HTL.out.box
     rw [HPX.out] at hbx
     have x4 : wr.cell? ⟨px, 2, none⟩ = some x1.wv := by rw [hbx.cell]; rfl
     have f4 := hbx.frozen 2
     clear hbx
     go_wp2_with fail
     clear x4 f4 c2
     have ht0 := HTL.out.tro0 HOK.out
     rw [HPX.out] at ht0
     have HT0 := hid ht0
     clear ht0
     go_wp2_with fail
     go_ret2
     refine HR2.out _ _ _ (HBW.out.setCell ?_ _) HT0.out ?_
     ·have h1 := HTL.out.lo
      rw [HPX.out] at h1
      have := HBX4.out.lt
      show w.heap.size <= px
      omega
     ·rw [if_pos HAB.out]; rfl
    ·rw [hab] at c2
     have HAB := hid hab
     clear hab
     go_wp2_with fail
     clear c2
     have ht0 := HTL.out.tro HOK.out HFW.out
     rw [HPX.out] at ht0
     have HT0 := hid ht0
     clear ht0
     go_wp2_with fail
     go_ret2
     refine HR2.out _ _ _ HBW.out HT0.out ?_
     rw [if_neg (by rw [HAB.out]; simp)]; exact HW1.out
end
section
open Go.Shelf
def Tryz.sortEn_ren : Go.Shelf.Ren := ⟨fun | 6 => 119 | 15 => 131 | 14 => 138 | 28 => 151 | 29 => 152 | 20 => 166 | 21 => 167 | 22 => 168 | 23 => 169 | 24 => 170 | 25 => 171 | 26 => 172 | 27 => 173 | 46 => 183 | 47 => 175 | 48 => 176 | 49 => 184 | 50 => 185 | 57 => 188 | n => n, fun | 22 => 146 | 24 => 149 | 25 => 194 | 3 => 3 | 39 => 202 | 0 => 0 | 53 => 226 | 55 => 228 | 4 => 4 | 46 => 220 | 45 => 219 | 50 => 111 | 5 => 5 | 9 => 9 | 66 => 244 | 70 => 248 | 76 => 254 | 77 => 203 | n => n, fun | n => n⟩
theorem Tryz.sortEn : Go.Proofs.SlLaysF0.n6 prog Tryz.sortEn_ren := {
 mixed := by kernel_rfl
 f6 := ⟨f119.name, by decide, func119.trans (congrArg some Xt3)⟩
 f14 := ⟨f138.name, by decide, func138.trans (congrArg some Xt3)⟩
 f15 := func131.trans (congrArg some Xt3)
 f20 := ⟨f166.name, by decide, func166.trans (congrArg some Xt3)⟩
 f21 := ⟨f167.name, by decide, func167.trans (congrArg some Xt3)⟩
 f22 := ⟨f168.name, by decide, func168.trans (congrArg some Xt3)⟩
 f23 := ⟨f169.name, by decide, func169.trans (congrArg some Xt3)⟩
 f24 := ⟨f170.name, by decide, func170.trans (congrArg some Xt3)⟩
 f25 := ⟨f171.name, by decide, func171.trans (congrArg some Xt3)⟩
 f26 := ⟨f172.name, by decide, func172.trans (congrArg some Xt3)⟩
 f27 := ⟨f173.name, by decide, func173.trans (congrArg some Xt3)⟩
 f28 := func151.trans (congrArg some Xt3)
 f29 := func152.trans (congrArg some Xt3)
 f46 := ⟨f183.name, by decide, func183.trans (congrArg some Xt3)⟩
 f47 := func175.trans (congrArg some Xt3)
 f48 := func176.trans (congrArg some Xt3)
 f49 := ⟨f184.name, by decide, func184.trans (congrArg some Xt3)⟩
 f50 := ⟨f185.name, by decide, func185.trans (congrArg some Xt3)⟩
 f57 := ⟨f188.name, by decide, func188.trans (congrArg some Xt3)⟩
 t0 := underlying0
 a0 := Tryz.isAgg0
 z0 := Tryz.sizeOf0
 v0 := Tryz.zeroValue0
 t3 := underlying3
 a3 := Tryz.isAgg3
 z3 := Tryz.sizeOf3
 v3 := Tryz.zeroValue3
 t4 := underlying4
 a4 := Tryz.isAgg4
 z4 := Tryz.sizeOf4
 v4 := Tryz.zeroValue4
 t5 := underlying5
 a5 := Tryz.isAgg5
 z5 := Tryz.sizeOf5
 v5 := Tryz.zeroValue5
 t9 := underlying9
 a9 := Tryz.isAgg9
 z9 := Tryz.sizeOf9
 v9 := Tryz.zeroValue9
 t22 := underlying146
 a22 := Tryz.isAgg146
 z22 := Tryz.sizeOf146
 v22 := Tryz.zeroValue146
 t25 := underlying194
 a25 := Tryz.isAgg194
 z25 := Tryz.sizeOf194
 v25 := Tryz.zeroValue194
 t39 := underlying202
 a39 := Tryz.isAgg202
 z39 := Tryz.sizeOf202
 v39 := Tryz.zeroValue202
 t45 := underlying219
 a45 := Tryz.isAgg219
 z45 := Tryz.sizeOf219
 v45 := Tryz.zeroValue219
 t46 := underlying220
 a46 := Tryz.isAgg220
 z46 := Tryz.sizeOf220
 v46 := Tryz.zeroValue220
 t50 := underlying111
 a50 := Tryz.isAgg111
 z50 := Tryz.sizeOf111
 v50 := Tryz.zeroValue111
 t53 := underlying226
 a53 := Tryz.isAgg226
 z53 := Tryz.sizeOf226
 v53 := Tryz.zeroValue226
 t55 := underlying228
 a55 := Tryz.isAgg228
 z55 := Tryz.sizeOf228
 v55 := Tryz.zeroValue228
 t66 := underlying244
 a66 := Tryz.isAgg244
 z66 := Tryz.sizeOf244
 v66 := Tryz.zeroValue244
 t70 := underlying248
 a70 := Tryz.isAgg248
 z70 := Tryz.sizeOf248
 v70 := Tryz.zeroValue248
 t76 := underlying254
 a76 := Tryz.isAgg254
 z76 := Tryz.sizeOf254
 v76 := Tryz.zeroValue254
 t77 := underlying203
 a77 := Tryz.isAgg203
 z77 := Tryz.sizeOf203
 v77 := Tryz.zeroValue203 }
def Tryz.sortWr_ren : Go.Shelf.Ren := ⟨fun | 6 => 98 | 15 => 131 | 14 => 130 | 28 => 151 | 29 => 152 | 20 => 143 | 21 => 144 | 22 => 145 | 23 => 146 | 24 => 147 | 25 => 148 | 26 => 149 | 27 => 150 | 46 => 174 | 47 => 175 | 48 => 176 | 49 => 177 | 50 => 178 | 57 => 186 | n => n, fun | 22 => 41 | 24 => 84 | 25 => 129 | 3 => 3 | 39 => 202 | 0 => 0 | 53 => 226 | 55 => 228 | 4 => 4 | 46 => 220 | 45 => 219 | 50 => 111 | 5 => 5 | 9 => 9 | 66 => 244 | 70 => 248 | 76 => 254 | 77 => 203 | n => n, fun | n => n⟩
theorem Tryz.sortWr : Go.Proofs.SlLaysF0.n6 prog Tryz.sortWr_ren := {
 mixed := by kernel_rfl
 f6 := ⟨f98.name, by decide, func98.trans (congrArg some Xt3)⟩
 f14 := ⟨f130.name, by decide, func130.trans (congrArg some Xt3)⟩
 f15 := func131.trans (congrArg some Xt3)
 f20 := ⟨f143.name, by decide, func143.trans (congrArg some Xt3)⟩
 f21 := ⟨f144.name, by decide, func144.trans (congrArg some Xt3)⟩
 f22 := ⟨f145.name, by decide, func145.trans (congrArg some Xt3)⟩
 f23 := ⟨f146.name, by decide, func146.trans (congrArg some Xt3)⟩
 f24 := ⟨f147.name, by decide, func147.trans (congrArg some Xt3)⟩
 f25 := ⟨f148.name, by decide, func148.trans (congrArg some Xt3)⟩
 f26 := ⟨f149.name, by decide, func149.trans (congrArg some Xt3)⟩
 f27 := ⟨f150.name, by decide, func150.trans (congrArg some Xt3)⟩
 f28 := func151.trans (congrArg some Xt3)
 f29 := func152.trans (congrArg some Xt3)
 f46 := ⟨f174.name, by decide, func174.trans (congrArg some Xt3)⟩
 f47 := func175.trans (congrArg some Xt3)
 f48 := func176.trans (congrArg some Xt3)
 f49 := ⟨f177.name, by decide, func177.trans (congrArg some Xt3)⟩
 f50 := ⟨f178.name, by decide, func178.trans (congrArg some Xt3)⟩
 f57 := ⟨f186.name, by decide, func186.trans (congrArg some Xt3)⟩
 t0 := underlying0
 a0 := Tryz.isAgg0
 z0 := Tryz.sizeOf0
 v0 := Tryz.zeroValue0
 t3 := underlying3
 a3 := Tryz.isAgg3
 z3 := Tryz.sizeOf3
 v3 := Tryz.zeroValue3
 t4 := underlying4
 a4 := Tryz.isAgg4
 z4 := Tryz.sizeOf4
 v4 := Tryz.zeroValue4
 t5 := underlying5
 a5 := Tryz.isAgg5
 z5 := Tryz.sizeOf5
 v5 := Tryz.zeroValue5
 t9 := underlying9
 a9 := Tryz.isAgg9
 z9 := Tryz.sizeOf9
 v9 := Tryz.zeroValue9
 t22 := underlying41
 a22 := Tryz.isAgg41
 z22 := Tryz.sizeOf41
 v22 := Tryz.zeroValue41
 t25 := underlying129
 a25 := Tryz.isAgg129
 z25 := Tryz.sizeOf129
 v25 := Tryz.zeroValue129
 t39 := underlying202
 a39 := Tryz.isAgg202
 z39 := Tryz.sizeOf202
 v39 := Tryz.zeroValue202
 t45 := underlying219
 a45 := Tryz.isAgg219
 z45 := Tryz.sizeOf219
 v45 := Tryz.zeroValue219
 t46 := underlying220
 a46 := Tryz.isAgg220
 z46 := Tryz.sizeOf220
 v46 := Tryz.zeroValue220
 t50 := underlying111
 a50 := Tryz.isAgg111
 z50 := Tryz.sizeOf111
 v50 := Tryz.zeroValue111
 t53 := underlying226
 a53 := Tryz.isAgg226
 z53 := Tryz.sizeOf226
 v53 := Tryz.zeroValue226
 t55 := underlying228
 a55 := Tryz.isAgg228
 z55 := Tryz.sizeOf228
 v55 := Tryz.zeroValue228
 t66 := underlying244
 a66 := Tryz.isAgg244
 z66 := Tryz.sizeOf244
 v66 := Tryz.zeroValue244
 t70 := underlying248
 a70 := Tryz.isAgg248
 z70 := Tryz.sizeOf248
 v70 := Tryz.zeroValue248
 t76 := underlying254
 a76 := Tryz.isAgg254
 z76 := Tryz.sizeOf254
 v76 := Tryz.zeroValue254
 t77 := underlying203
 a77 := Tryz.isAgg203
 z77 := Tryz.sizeOf203
 v77 := Tryz.zeroValue203 }
end
section
open Go.Maps Go.Sort Go.Shelf
theorem jG_ {α : Type} [Inhabited α] {enc : α -> List Value} {k : Nat} (hk : ∀ x, (enc x).length = k) (h0 : 0 < k) (d : List α) : (flatK enc k d.toArray).toList = cellsOf enc d := by
 apply List.ext_getElem?
 intro t
 by_cases ht : t < d.length * k
 ·have hq : t / k < d.length := by rw [Nat.div_lt_iff_lt_mul h0]; exact ht
  have hm : t % k < k := Nat.mod_lt _ h0
  have e := z4_ hk d (t / k) (t % k) d[t / k] (List.getElem?_eq_getElem hq) hm
  rw [Nat.mul_comm, Nat.div_add_mod] at e
  rw [e, Array.getElem?_toList]
  have hs : t < (flatK enc k d.toArray).size := by rw [size_flatK]; simpa using ht
  have hg := get_flatK enc k d.toArray t (by simpa using ht)
  rw [getElem!_pos _ t hs] at hg
  rw [Array.getElem?_eq_getElem hs, hg]
  have e2 : d.toArray[t / k]! = d[t / k] := by
   rw [getElem!_pos _ _ (by simpa using hq)]; simp
  rw [e2, getElem!_pos _ _ (by rw [hk]; exact hm), List.getElem?_eq_getElem (by rw [hk]; exact hm)]
 ·rw [List.getElem?_eq_none (by rw [Array.length_toList, size_flatK]; simpa using Nat.le_of_not_lt ht), List.getElem?_eq_none (by rw [zK_ hk]; exact Nat.le_of_not_lt ht)]
theorem take_putV (cur F : Array Value) (h : F.size <= cur.size) : (putCells id 0 F cur).toList.take F.size = F.toList := by
 apply List.ext_getElem?
 intro j
 by_cases hj : j < F.size
 ·rw [List.getElem?_take_of_lt hj, Array.getElem?_toList]
  simp [putCells, hj, show j < cur.size by omega]
 ·rw [List.getElem?_take_eq_none Xt0, List.getElem?_eq_none Xt7]
theorem heap_sortV {w : World} {g n : Nat} {os : Array Obj} {cur : Array Value} {e : TypeId} {fr : Nat × Nat} (F : Array Value) (hb : w.heap[g]? = some (.cells cur e fr)) :
  (grow (putRow id (Sort.ahead w n) g 0 F) os).heap[g]? = some (.cells (putCells id 0 F cur) e fr) := by
 have hg : g < w.heap.size := (Array.getElem?_eq_some_iff.1 hb).1
 rw [heap_grow_old _ _ (by simpa using hg)]
 simp [putRow, mapBlock, Sort.ahead, Array.getElem?_modify, hb, onCells]
theorem q3_ {w : World} {g n : Nat} {os : Array Obj} (F : Array Value) : w.grownBy (grow (putRow id (Sort.ahead w n) g 0 F) os) (some g) := by
 refine ⟨rfl, rfl, rfl, by simp, fun k hk hne => ?_⟩
 rw [heap_grow_old _ _ (by simpa using hk)]
 have : g ≠ k := fun e => hne (by rw [e])
 simp [putRow, mapBlock, Sort.ahead, Array.getElem?_modify, this]
theorem holdsV {w : World} {g : Nat} {cur : Array Value} {e : TypeId} (F : Array Value) (hb : w.heap[g]? = some (.cells cur e (0, 0))) (ht : cur.toList.take F.size = F.toList) : Holds id w g 0 F := by
 intro j hj
 refine ⟨?_, by simp [World.frozen?, hb]⟩
 have h1 : (cur.toList.take F.size)[j]? = F.toList[j]? := by rw [ht]
 rw [List.getElem?_take_of_lt hj] at h1
 simp only [World.cell?, hb, Nat.zero_add]
 simp only [Option.isSome_none, Bool.false_eq_true, if_false]
 rw [← Array.getElem?_toList, h1]
 simp [hj]
theorem own_sortK {α : Type} [Inhabited α] {enc : α -> List Value} {k : Nat} (hk : ∀ x, (enc x).length = k) (h0 : 0 < k) {w : World} {base g cap n m : Nat} {e : TypeId} {os : Array Obj} {cur : Array Value} {ts : List α} (hl : ts.length = m) (hbase : base <= g) (hb : w.heap[g]? = some (.cells cur e (0, 0)))
  (h1 : m <= cap) (h2 : cap <= maxLen) (h3 : cur.size = cap * k) : (sortWorldK enc k w g 0 n ts.toArray os).ownsRow base e k (.slice (some ⟨g, 0, none⟩) m cap) m (cellsOf enc ts) := by
 subst hl
 have hs : (flatK enc k ts.toArray).size = ts.length * k := by rw [size_flatK]; simp
 refine ⟨zK_ hk ts, .inr ⟨g, cap, _, rfl, hbase, heap_sortV _ hb, h1, h2, by simp [putCells, h3], ?_⟩⟩
 rw [← hs, ← jG_ hk h0]
 exact take_putV cur _ (by rw [hs, h3]; exact Nat.mul_le_mul_right k h1)
theorem QA_ {ρ : Ren} (L : SlLaysF0.n6 prog ρ) {ty : TypeId} {k : Nat} (h0 : 0 < k) (aE : ∀ w, (isAgg (ρ.t 24)).run prog w = .ok true w) (zE : ∀ w, (Go.sizeOf (ρ.t 24)).run prog w = .ok k w) {β : Type} (enc : β -> List Value) (hk : ∀ x, (enc x).length = k) (h1 : ∀ x, ∀ v ∈ enc x, v.oneCell' = true)
  (cf : β -> β -> Int) (lt : β -> β -> Bool) (hcf : ∀ x y, decide (cf x y < 0) = lt x y) (hi : ∀ x, lt x x = false) (ht : ∀ x y z, lt x y = true -> lt y z = true -> lt x z = true) (hn : ∀ x y z, lt x y = false -> lt y z = false -> lt x z = false)
  (g : Nat) (eg : ∀ args w, (callFunc g args).run prog w = .ok (.enter g args) w) (P : World -> β -> Prop) (hcall : ∀ W x y, P W x -> P W y -> Calls prog g #[.agg (enc x).toArray, .agg (enc y).toArray] W fun e w' => e = .returned (.int .i64 (cf x y)) /\ ∃ q os', w' = grow (W.drewN q) os')
  (W : World) (base : Nat) (a : Option Addr) (n c : Nat) (E : List β) (hl : E.length = n) (hn2 : n <= 2000000) (how : W.ownsRow base ty k (.slice a n c) n (cellsOf enc E)) (hst : ∀ e ∈ E, zs_ (fun k => Value.ownBlock (.slice a n c) = some k) W (fun W' => P W' e)) :
  Calls prog (ρ.f 6) #[.slice a n c, .func (.func g) #[] #[]] W fun r W' => r = .returned (.tuple #[]) /\ ∃ E' : List β, E'.Perm E /\ (E'.Pairwise fun a b => lt b a = false) /\ W'.ownsRow base ty k (.slice a n c) n (cellsOf enc E') /\ Off (fun k => Value.ownBlock (.slice a n c) = some k) W W' := by
 subst hl
 cases E with
 | nil =>
  refine (AnyF.slices_SortFunc_none L a c (.func (.func g) #[] #[]) W).mono ?_
  rintro r w' ⟨rfl, rfl⟩
  exact ⟨rfl, [], .refl _, .nil, how, Off.refl _ _⟩
 | cons e0 E0 =>
  obtain ⟨E, hE⟩ := gty (e0 :: E0)
  rw [← hE] at how hn2 hst ⊢
  rcases how.2 with ⟨_, h⟩ | ⟨b, cap, cur, e1, hb, hg, hc, hm, hs, htk⟩
  ·rw [hE] at h; cases h
  ·injection e1 with e1 e2 e3
   subst e1 e3
   letI : Inhabited {x : β // x ∈ E} := ⟨⟨e0, by rw [hE]; exact List.mem_cons_self ..⟩⟩
   have hk' : ∀ x : {x : β // x ∈ E}, (enc x.1).length = k := fun x => hk x.1
   have hat : E.attach.length = E.length := List.length_attach
   have hcells : ∀ ts : List {x : β // x ∈ E}, cellsOf (fun x => enc x.1) ts = cellsOf enc (ts.map Subtype.val) := fun ts => by
    unfold cellsOf; rw [List.map_map]; rfl
   have hH : HoldsK (fun x : {x : β // x ∈ E} => enc x.1) k W b 0 E.attach.toArray := by
    refine holdsV _ hg ?_
    rw [jG_ hk' h0, size_flatK, hcells, List.attach_map_subtype_val]
    simpa using htk
   have hcl : CmpLays prog g #[] (fun x : {x : β // x ∈ E} => enc x.1) k (fun x y => cf x.1 y.1) b 0 E.attach.toArray.size W := fun m os dk hdk x y => by
    have ho : Off (fun k => Value.ownBlock (.slice (some ⟨b, 0, none⟩) E.length c) = some k) W (sortWorldK (fun x : {x : β // x ∈ E} => enc x.1) k W b 0 m dk os) := Off.of_row (q3_ _)
    exact hcall _ x.1 y.1 (hst x.1 x.2 _ ho) (hst y.1 y.2 _ ho)
   have hO : SWO (ltOf fun x y : {x : β // x ∈ E} => cf x.1 y.1) := by
    have e : ∀ x y : {x : β // x ∈ E}, ltOf (fun x y : {x : β // x ∈ E} => cf x.1 y.1) x y = lt x.1 y.1 := fun x y => hcf x.1 y.1
    exact ⟨fun x => by rw [e]; exact hi _, fun x y z => by rw [e, e, e]; exact ht _ _ _, fun x y z => by rw [e, e, e]; exact hn _ _ _⟩
   have hC := AnyQ.slices_SortFunc L k aE zE (fun x : {x : β // x ∈ E} => enc x.1) hk' (fun x => h1 x.1) (fun x y => cf x.1 y.1) hO g #[] b 0 c E.attach.toArray W eg hcl hH (Array.getElem?_eq_some_iff.1 hg).1 Xt7
   have hsz : E.attach.toArray.size = E.length := by simp
   rw [hsz] at hC
   refine hC.mono ?_
   rintro r w' ⟨rfl, d', m, os, hp, hsrt, rfl⟩
   have hd : d'.size = E.length := by rw [hp.1]; exact hsz
   refine ⟨rfl, d'.toList.map Subtype.val, ?_, ?_, ?_, Off.of_row (q3_ _)⟩
   ·have h3 := hp.2.2
    have x1 : d'.extract 0 E.length = d' := by rw [← hd]; exact Array.extract_size
    have x2 : E.attach.toArray.extract 0 E.length = E.attach.toArray := by rw [← hsz]; exact Array.extract_size
    rw [x1, x2] at h3
    have h4 := h3.map Subtype.val
    rwa [List.attach_map_subtype_val] at h4
   ·rw [List.pairwise_map, List.pairwise_iff_getElem]
    intro i j hi hj hij
    have hi' : i < d'.size := by simpa using hi
    have hj' : j < d'.size := by simpa using hj
    have := hsrt i j (Nat.zero_le _) hij (by rw [← hd]; exact hj')
    rw [getElem!_pos d' i hi', getElem!_pos d' j hj'] at this
    have e : ltOf (fun x y : {x : β // x ∈ E} => cf x.1 y.1) d'[j] d'[i] = lt d'[j].1 d'[i].1 := hcf _ _
    rw [e] at this
    simpa using this
   ·rw [← hcells]
    have := own_sortK (enc := fun x : {x : β // x ∈ E} => enc x.1) hk' h0 (n := m) (os := os) (ts := d'.toList) (by rw [Array.length_toList]; exact hd) hb hg hc hm hs
    simpa using this
theorem closEn (x y : EnV) (W : World) (hx : Ls .u8 W x.ka x.kc x.K) (hy : Ls .u8 W y.ka y.kc y.K) (bx : Byt x.K) (bb : Byt y.K) :
  Calls prog 120 #[.agg (ecl x).toArray, .agg (ecl y).toArray] W fun e w' => e = .returned (.int .i64 (jd_ x.K y.K)) /\ ∃ q os', w' = grow (W.drewN q) os' := by
 have HB := hid (And.intro bx bb)
 have h2 := ((hx.below (bl1 W (.cells (ecl x).toArray 149))).below (bl1 _ (.cells (ecl y).toArray 149)))
 have h3 := ((hy.below (bl1 W (.cells (ecl x).toArray 149))).below (bl1 _ (.cells (ecl y).toArray 149)))
 have HL := hid (And.intro h2 h3)
 clear h2 h3 hx hy bx bb
 unfold ecl at *
 go_enter func120, ntmps120
 exact Xb56
theorem cmpL_lt (A B : List Int) : decide (jd_ A B < 0) = ltL A B := by
 unfold jd_
 cases h : ltL A B
 ·cases h2 : ltL B A <;> simp
 ·simp
theorem esort : ESort := fun W base a n c E hl hn how hst =>
 QA_ Tryz.sortEn Xt0 Tryz.isAgg149 Tryz.sizeOf149 ecl ecl_len ecl_one (fun x y => jd_ x.K y.K) (fun x y => ltL x.K y.K) (fun x y => cmpL_lt _ _) (fun x => zR_ _) (fun x y z => zF_) (fun x y z h1 h2 => by
  have := x9_ z.K y.K x.K (by unfold leL; rw [h2]; rfl) (by unfold leL; rw [h1]; rfl)
  unfold leL at this
  simpa using this) 120 (enters_of func120 Xt3 rfl) (fun W e => Byt e.K /\ Ls .u8 W e.ka e.kc e.K) (fun W x y hx hy => closEn x y W hx.2 hy.2 hx.1 hy.1) W base a n c E hl hn how (fun e he => (hst e he).2.mono fun W' h => ⟨(hst e he).1, h.k⟩)
end
section
open Go.Maps
def WtV.W (y : WtV) : WrV := ⟨y.t, y.ka, y.kc, y.K, y.r⟩
theorem own_wr {W : World} {base n c : Nat} {a : Option Addr} {L : List WtV} (h : W.ownsRow base 84 3 (.slice a n c) n (cellsOf wcl L)) (hn : L.length = n) (ok : ∀ y ∈ L, Ls .u8 W y.ka y.kc y.K /\ RdR W y.r.ra y.r.R) : WrR W a (L.map WtV.W) := fun k x hx => by
 rw [List.getElem?_map] at hx
 cases hy : L[k]? with
 | none => rw [hy] at hx; cases hx
 | some y =>
  rw [hy] at hx
  cases hx
  obtain ⟨g, rfl, _, hc⟩ := zt_ zP_ Xt0 h hn k y hy
  refine ⟨g, 0, rfl, ?_, ?_, ?_, ok y (List.mem_of_getElem? hy)⟩
  ·exact Xb45
  ·exact Xb66
  ·exact Xb83
theorem own_res {W : World} {base n c : Nat} {a : Option Addr} {L : List xB_} (h : W.ownsRow base 81 2 (.slice a n c) n (cellsOf rcl L)) (hn : L.length = n) (ok : ∀ y ∈ L, zp_ W y.pa y.P) : jL_ W a L := fun k y hy => by
 obtain ⟨g, rfl, _, hc⟩ := zt_ rcl_len Xt0 h hn k y hy
 refine ⟨g, 0, rfl, ?_, ?_, ok y (List.mem_of_getElem? hy)⟩
 ·exact Xb45
 ·exact Xb66
def wsI (l : Ws) : List (Int × List Int × List (List Int)) := l.map fun w => ((w.1 : Int), w.2)
theorem wI_W (ws : List WtV) : (ws.map WtV.W).map WrV.P = wsI (ws.map WtV.P) := by
 unfold wsI
 rw [List.map_map, List.map_map]; rfl
theorem MdR.less {S S' : Nat -> Prop} {w : World} {m : Md} (h : MdR S' w m) (hs : ∀ k, S k -> S' k) (ht : ∀ x ∈ m.tabs, S x.1) : MdR S w m := h.off (T := fun _ => False) (Off.refl _ _) (fun _ h => h.elim) (fun _ _ h => h) (fun k hk => .inl (hs k hk)) ht
def ResW (W : World) (a : Option Addr) (rs : List xB_) : Prop := jL_ W a rs /\ WrB W 81 a rs.length /\ ∀ y ∈ rs, WrB W 78 y.pa y.P.length /\ ∀ p ∈ y.P, PrW W p
theorem TrO.out {S S' : Nat -> Prop} {base : Nat} {w : World} {m : Md} {px : Nat} {wv rv : Value} {ws : List WtV} {rs : List xB_} (h : TrO S' base w m px wv rv ws rs) (hs : ∀ k, S k -> S' k) (hb : ∀ k, S k -> k < base) (ht : ∀ x ∈ m.tabs, S x.1) :
  MdR S w m /\ (∃ a c, wv = .slice a ws.length c /\ zs_ S w fun W => WrR W a (ws.map WtV.W)) /\ (∃ a c, rv = .slice a rs.length c /\ zs_ (fun k => k < base) w fun W => ResW W a rs) /\ (ws.map WtV.W).all (wrB m.tabs.length) = true /\
  ∀ x ∈ ws.map WtV.W, Byt x.K /\ x.K.length <= 1000000 /\ x.r.R.length <= 1000000 /\ ∀ p ∈ x.r.R, Byt p.bs := by
 refine ⟨h.md.less hs ht, ?_, ?_, ?_, ?_⟩
 ·obtain ⟨a, c, e⟩ := zd_ h.own
  have ho := h.own
  rw [e] at ho
  exact ⟨a, c, e, fun W' o => own_wr (zm_ ho o hb) rfl fun y hy => (h.wst y hy).less hs W' o⟩
 ·obtain ⟨a, c, e⟩ := zd_ h.rown
  have ho := h.rown
  rw [e] at ho
  exact ⟨a, c, e, fun W' o => ⟨own_res (zm_ ho o fun _ h => h) rfl fun y hy => ((h.rst y hy).less (fun _ h => .inr h) W' o).1, WrB.of (zm_ ho o fun _ h => h), fun y hy => ((h.rst y hy).less (fun _ h => .inr h) W' o).2⟩⟩
 ·rw [List.all_eq_true]
  intro x hx
  obtain ⟨y, hy, rfl⟩ := List.mem_map.1 hx
  obtain ⟨h1, h2, h3⟩ := h.wok y hy
  have k1 : yA_ y.K.length = true := by unfold yA_; rw [decide_eq_true_eq]; exact h2.2
  unfold wrB
  show (decide (0 <= (y.t : Int) /\ (y.t : Int) < (m.tabs.length : Int)) && yA_ y.K.length && (decide (y.r.R.length = 0) || y4_ y.r.R)) = true
  rw [k1, decide_eq_true Xt0]
  by_cases e : y.r.R = []
  ·rw [e]; rfl
  ·have hr := h3 e
   unfold RV.P at hr
   unfold y4_ Za_
   simp only [Bool.and_eq_true, Bool.or_eq_true, decide_eq_true_eq, List.all_eq_true]
   refine ⟨⟨trivial, trivial⟩, .inr ⟨fun p hp => ?_, ?_, ?_⟩⟩
   ·have := (hr.2.2 p.bs (List.mem_map.2 ⟨p, hp, rfl⟩)).2
    simpa using this
   ·have := hr.1; rw [List.length_map] at this; exact this
   ·have := hr.2.1; rw [List.length_map] at this; exact this
 ·intro x hx
  obtain ⟨y, hy, rfl⟩ := List.mem_map.1 hx
  obtain ⟨h1, h2, h3⟩ := h.wok y hy
  have hkl := h2.2.2
  refine ⟨h2.1, by show y.K.length <= 1000000; omega, ?_, fun p hp => ?_⟩
  ·by_cases e : y.r.R = []
   ·show y.r.R.length <= 1000000; rw [e]; simp
   ·have := (h3 e).2.1
    unfold RV.P at this
    rw [List.length_map] at this
    show y.r.R.length <= 1000000; omega
  ·have hp : p ∈ y.r.R := hp
   have hr := h3 (List.ne_nil_of_mem hp)
   exact yF_ hr p hp
theorem Off.cell {S : Nat -> Prop} {W W' : World} (o : Off S W W') {p : Addr} {v : Value} (h : W.cell? p = some v) (hn : ¬ S p.block) : W'.cell? p = some v := by
 exact Xb106
def Q8_ (j : Job) (T : List (List Pr)) (x : zW_) : List (Int × List Pr) := (z6_ j T x.ops).1
def jN_ (j : Job) (T : List (List Pr)) (x : zW_) : Ws := if x.ab then [] else (z6_ j T x.ops).2
def TryN (w : World) (m : Md) (x : zW_) (r : Ending) (w' : World) : Prop :=
 if yQ_ m.j x then ∃ a c rs, r = .returned (.tuple #[.slice a rs.length c, .int .i64 0]) /\ Below w.heap.size w w' /\ rs.map yC_ = Q8_ m.j m.P x /\ (∀ y ∈ rs, ys_ y) /\ zs_ (fun k => k < w.heap.size) w' fun W => ResW W a rs
 else r = .returned (.tuple #[.slice none 0 0, .int .i64 2]) /\ Below w.heap.size w w'
theorem try_lawN {S : Nat -> Prop} {m : Md} {w : World} (h : MdR S w m) (hS : ∀ k, S k -> k < w.heap.size) (x : zW_) (hx : zM_ w x) (hon : x.on <= 1000000) (hrn : ∀ o ∈ x.ops, o.rn <= 1000000) (hf : ∀ z ∈ m.tabs, z.2.length <= 300000) :
  Calls prog 40 #[.pointer (some ⟨m.p, 0, none⟩), .agg #[.slice x.oa x.on x.oc, .bool x.sn, .bool x.ab]] w (TryN w m x) := by
 have HH := hid (And.intro h hS)
 have hb : Below w.heap.size w (w.alloc (.cells #[.slice x.oa x.on x.oc, .bool x.sn, .bool x.ab] 38)) := bl1 _ _
 have HB := hid hb
 have HTR := hid (qN_ esort (h.below hb) (fun k hk => Nat.lt_of_lt_of_le (hS k hk) hb.size) x (hx.below hb) hon hrn hf)
 clear h hS hx hon hrn hf hb
 go_enter func40, ntmps40
 go_wp2_with fail
 refine HTR.out.mono ?_; intro r w2 hr
 unfold TrR at hr
 cases hm : yQ_ m.j x with
 | false =>
  rw [hm] at hr
  obtain ⟨rfl, hb2⟩ := hr
  have HB2 := hid (HB.out.trans (hb2.mono HB.out.size))
  have HR := hid (fun r w' (hh : r = .returned (.tuple #[.slice none 0 0, .int .i64 2]) /\ Below w.heap.size w w') => (by unfold TryN; rw [hm]; exact hh : TryN w m x r w'))
  clear hm hb2
  exact Xb64
 | true =>
  rw [hm] at hr
  obtain ⟨S', base, px, wv, rv, ws, rs, rfl, hb2, hbs, ho, hss, _, hrs, _⟩ := hr
  have HB2 := hid (HB.out.trans (hb2.mono HB.out.size))
  obtain ⟨_, _, ⟨a, c, e, hst⟩, _, _⟩ := ho.out (S := S) hss (fun k hk => Nat.lt_of_lt_of_le (HH.out.2 k hk) (Nat.le_trans HB.out.size hbs)) HH.out.1.hS
  have c3 := ho.c3
  rw [e] at c3
  have HRS := hid (And.intro hrs (And.intro ho.rok (hst.less fun k hk => Nat.lt_of_lt_of_le hk (Nat.le_trans HB.out.size hbs) : zs_ (fun k => k < w.heap.size) w2 fun W => ResW W a rs)))
  have HR := hid (fun r w' (hh : ∃ a c rs, r = .returned (.tuple #[.slice a rs.length c, .int .i64 0]) /\ Below w.heap.size w w' /\ rs.map yC_ = Q8_ m.j m.P x /\ (∀ y ∈ rs, ys_ y) /\ zs_ (fun k => k < w.heap.size) w' fun W => ResW W a rs) => (by unfold TryN; rw [hm]; exact hh : TryN w m x r w'))
  clear hm hb2 hbs ho hss hrs e hst
  go_wp2_with fail
  go_ret2
  exact HR.out _ _ ⟨a, c, rs, rfl, HB2.out, HRS.out.1, HRS.out.2.1, HRS.out.2.2⟩
def DoR (S : Nat -> Prop) (w : World) (m : Md) (x : zW_) (r : Ending) (w' : World) : Prop :=
 if yQ_ m.j x then ∃ m' a c rs, r = .returned (.tuple #[.slice a rs.length c, .int .i64 0]) /\ MdR S w' m' /\ zC_ m m' /\ m'.P = yu_ m.P (wsI (jN_ m.j m.P x)) /\ Off (zS_ m) w w' /\ (∀ N : Nat, (∀ x ∈ m.tabs, x.2.length <= N) -> ∀ x ∈ m'.tabs, x.2.length <= N + 16) /\ rs.map yC_ = Q8_ m.j m.P x /\ (∀ y ∈ rs, ys_ y) /\ zs_ S w' fun W => jL_ W a rs
 else r = .returned (.tuple #[.slice none 0 0, .int .i64 2]) /\ Below w.heap.size w w'
def DoN (S : Nat -> Prop) (w : World) (m : Md) (x : zW_) (r : Ending) (w' : World) : Prop :=
 if yQ_ m.j x then ∃ m' a c rs wm, r = .returned (.tuple #[.slice a rs.length c, .int .i64 0]) /\ Below w.heap.size w wm /\ Off (zS_ m) wm w' /\ MdR (jM_ S w.heap.size wm.heap.size) w' m' /\ zC_ m m' /\ m'.P = yu_ m.P (wsI (jN_ m.j m.P x)) /\ (∀ N : Nat, (∀ x ∈ m.tabs, x.2.length <= N) -> ∀ x ∈ m'.tabs, x.2.length <= N + 16) /\ rs.map yC_ = Q8_ m.j m.P x /\ (∀ y ∈ rs, ys_ y) /\ zs_ (fun k => k < w.heap.size) wm fun W => ResW W a rs
 else r = .returned (.tuple #[.slice none 0 0, .int .i64 2]) /\ Below w.heap.size w w'
theorem do_lawN {S : Nat -> Prop} {m : Md} {w : World} (h : MdR S w m) (hS : ∀ k, S k -> k < w.heap.size) (x : zW_) (hx : zM_ w x) (hon : x.on <= 1000000) (hrn : ∀ o ∈ x.ops, o.rn <= 1000000) (hf : ∀ z ∈ m.tabs, z.2.length <= 300000) :
  Calls prog 24 #[.pointer (some ⟨m.p, 0, none⟩), .agg #[.slice x.oa x.on x.oc, .bool x.sn, .bool x.ab]] w (DoN S w m x) := by
 have HH := hid (And.intro h (And.intro hS hf))
 have hb : Below w.heap.size w (w.alloc (.cells #[.slice x.oa x.on x.oc, .bool x.sn, .bool x.ab] 38)) := bl1 _ _
 have HB := hid hb
 have HTR := hid (qN_ esort (h.below hb) (fun k hk => Nat.lt_of_lt_of_le (hS k hk) hb.size) x (hx.below hb) hon hrn hf)
 clear h hS hx hon hrn hf hb
 go_enter func24, ntmps24
 go_wp2_with fail
 refine HTR.out.mono ?_; intro r w2 hr
 unfold TrR at hr
 cases hm : yQ_ m.j x with
 | false =>
  rw [hm] at hr
  obtain ⟨rfl, hb2⟩ := hr
  have HB2 := hid (HB.out.trans (hb2.mono HB.out.size))
  have HR := hid (fun r w' (hh : r = .returned (.tuple #[.slice none 0 0, .int .i64 2]) /\ Below w.heap.size w w') => (by unfold DoN; rw [hm]; exact hh : DoN S w m x r w'))
  clear hm hb2
  exact Xb64
 | true =>
  rw [hm] at hr
  obtain ⟨S', base, px, wv, rv, ws, rs, rfl, hb2, hbs, ho, hss, _, hrs, hws⟩ := hr
  have HB2 := hid (HB.out.trans (hb2.mono HB.out.size))
  obtain ⟨hmd, ⟨a1, c1, e1, hwst⟩, ⟨a, c, e, hst⟩, hall, hwb⟩ := ho.out (S := S) hss (fun k hk => Nat.lt_of_lt_of_le (HH.out.2.1 k hk) (Nat.le_trans HB.out.size hbs)) HH.out.1.hS
  have c3 := ho.c3
  have c2 := ho.c2
  rw [e] at c3
  rw [e1] at c2
  have HRS := hid (And.intro hrs (And.intro ho.rok (hst.less fun k hk => Nat.lt_of_lt_of_le hk (Nat.le_trans HB.out.size hbs) : zs_ (fun k => k < w.heap.size) w2 fun W => ResW W a rs)))
  have HR := hid (fun r w' (hh : ∃ m' a c rs wm, r = .returned (.tuple #[.slice a rs.length c, .int .i64 0]) /\ Below w.heap.size w wm /\ Off (zS_ m) wm w' /\ MdR (jM_ S w.heap.size wm.heap.size) w' m' /\ zC_ m m' /\ m'.P = yu_ m.P (wsI (jN_ m.j m.P x)) /\ (∀ N : Nat, (∀ x ∈ m.tabs, x.2.length <= N) -> ∀ x ∈ m'.tabs, x.2.length <= N + 16) /\ rs.map yC_ = Q8_ m.j m.P x /\ (∀ y ∈ rs, ys_ y) /\ zs_ (fun k => k < w.heap.size) wm fun W => ResW W a rs) => (by unfold DoN; rw [hm]; exact hh : DoN S w m x r w'))
  have hd := (Below.refl w2.heap.size w2).drew
  have HMG := hid (HH.out.1.off (T := fun _ => False) (S' := jM_ S w.heap.size w2.heap.size) (Off.of HB2.out) (fun _ h => h.elim) (fun _ _ h => h) (fun k hk => hk.imp id And.left) (fun z hz => .inl (HH.out.1.hS z hz)))
  have HAP := hid (show Calls prog 16 #[.pointer (some ⟨m.p, 0, none⟩), .slice a1 ws.length c1] w2.drew (fun r w' => ∃ m', r = .returned (.int .i64 0) /\ MdR (jM_ S w.heap.size w2.heap.size) w' m' /\ zC_ m m' /\ m'.P = yu_ m.P (wsI (jN_ m.j m.P x)) /\ Off (zS_ m) w2 w' /\ ∀ N : Nat, (∀ x ∈ m.tabs, x.2.length <= N) -> ∀ x ∈ m'.tabs, x.2.length <= N + 16) from
   (mapply_lawT (HMG.out.below hd) (fun k hk => hk.elim (fun hk => Nat.lt_of_lt_of_le (HH.out.2.1 k hk) (Nat.le_trans HB2.out.size hd.size)) (fun hk => Nat.lt_of_lt_of_le hk.2 hd.size)) a1 ws.length c1 (ws.map WtV.W) (List.length_map _) (by have := ho.few; omega) ((hwst.less fun k hk => by obtain ⟨z, hz, rfl⟩ := hk; exact HH.out.1.hS z hz).below hd) hwb Xt60).mono (by
    rintro r w' ⟨m', hr, h1, h2, h3, h4, h5⟩
    rw [hall] at hr h3
    refine ⟨m', hr, h1, h2, ?_, (Off.of hd).trans h4, fun N hN z hz => ?_⟩
    ·rw [wI_W, hws] at h3; exact h3
    ·have := h5 N hN z hz
     rw [List.length_map] at this
     have := ho.few
     omega))
  have HNP := hid (show ¬ zS_ m px from fun hk => by
   obtain ⟨z, hz, e⟩ := hk
   have h1 := HH.out.2.1 _ (HH.out.1.hS z hz)
   have h2 := ho.lo
   have := HB.out.size
   omega)
  clear hm hb2 hbs ho hss hrs hws e hst hmd e1 hwst hall hwb hd
  go_upto_region 4 with (fail)
  refine wp_region_held_drew (S := (fun X => X.cell? ⟨px, 3, none⟩ = some (.slice a rs.length c) /\ X.cell? ⟨px, 2, none⟩ = some (.slice a1 ws.length c1))) Xt3 (⟨c3, c2⟩) fun hH => ?_
  refine tkq3 0 1 2 ?_
  refine tkr 3 rfl (fun W hSw => by have m0 := hSw.1; exact tks) ?_
  refine tkq4 4 5 6 7 ?_
  refine tkr 8 rfl (fun W hSw => by have m0 := hSw.2; exact tks) ?_
  refine tk1 9 rfl fun K hK => ?_
  go_simp
  refine HAP.out.mono ?_; rintro r w3 ⟨m2, rfl, hmd, hsm, hmp, hof, hgr⟩
  have HM := hid (And.intro hmd (And.intro hsm (And.intro hmp (And.intro hof hgr))))
  go_wp2_with fail
  refine hK.out _ _ ⟨hof.cell hH.1 HNP.out, hof.cell hH.2 HNP.out⟩ (fun hHeldn => ?_)
  clear hmd hsm hmp hof hgr
  clear hK K hH; have hH := hHeldn; clear hHeldn
  refine stP ?_
  refine tkq2 10 11 ?_
  refine adn ?_
  skip
  go_wp2_with fail
  go_ret2
  obtain ⟨q1, q2, q3, q4, q5⟩ := HM.out
  exact HR.out _ _ ⟨m2, a, c, rs, w2, rfl, HB2.out, q4, q1, q2, q3, q5, HRS.out.1, HRS.out.2.1, HRS.out.2.2⟩
theorem do_law {S : Nat -> Prop} {m : Md} {w : World} (h : MdR S w m) (hS : ∀ k, S k -> k < w.heap.size) (x : zW_) (hx : zs_ S w fun W => zM_ W x) (hon : x.on <= 1000000) (hrn : ∀ o ∈ x.ops, o.rn <= 1000000) (hf : ∀ z ∈ m.tabs, z.2.length <= 300000) :
  Calls prog 24 #[.pointer (some ⟨m.p, 0, none⟩), .agg #[.slice x.oa x.on x.oc, .bool x.sn, .bool x.ab]] w (DoR S w m x) := (do_lawN h hS x hx.now hon hrn hf).mono fun r w' hr => by
 unfold DoN at hr
 unfold DoR
 split at hr
 ·rename_i hm
  rw [if_pos hm]
  obtain ⟨m', a, c, rs, wm, e, hb, ho, h1, h2, h3, h4, h5, h6, h7⟩ := hr
  have hm' : ∀ z ∈ m'.tabs, S z.1 := fun z hz => by obtain ⟨y, hy, e⟩ := h2.mem hz; rw [e]; exact h.hS y hy
  exact ⟨m', a, c, rs, e, h1.less (fun k hk => .inl hk) hm', h2, h3, (Off.of hb).trans ho, h4, h5, h6, ((h7.less hS).mono fun _ h => h.1).off (ho.mono fun k hk => by obtain ⟨z, hz, rfl⟩ := hk; exact h.hS z hz)⟩
 ·rename_i hm
  rw [if_neg hm]; exact hr
end
section
open Go.Maps Go.Sort Go.Shelf
def cmpW (x y : WtV) : Int := if x.t = y.t then jd_ x.K y.K else (x.t : Int) - (y.t : Int)
def ltW (x y : WtV) : Bool := decide (x.t < y.t) || (decide (x.t = y.t) && ltL x.K y.K)
theorem cmpW_lt (x y : WtV) : decide (cmpW x y < 0) = ltW x y := by
 unfold cmpW ltW
 by_cases e : x.t = y.t
 ·rw [if_pos e, cmpL_lt, decide_eq_true e, decide_eq_false Xt0]; simp
 ·rw [if_neg e, decide_eq_false e]
  by_cases h : x.t < y.t
  ·rw [decide_eq_true h, decide_eq_true Xt0]; rfl
  ·rw [decide_eq_false h, decide_eq_false Xt0]; rfl
theorem yY_ {x y : WtV} : ltW x y = true ↔ x.t < y.t ∨ (x.t = y.t /\ ltL x.K y.K = true) := by
 unfold ltW
 simp
theorem xL_ {x y : WtV} : ltW x y = false ↔ y.t < x.t ∨ (y.t = x.t /\ ltL x.K y.K = false) := by
 constructor
 ·intro h
  by_cases h1 : x.t < y.t
  ·rw [yY_.2 (.inl h1)] at h; cases h
  ·by_cases e : x.t = y.t
   ·refine .inr ⟨e.symm, ?_⟩
    cases hl : ltL x.K y.K
    ·rfl
    ·rw [yY_.2 (.inr ⟨e, hl⟩)] at h; cases h
   ·exact .inl Xt0
 ·intro h
  cases hc : ltW x y
  ·rfl
  ·rcases yY_.1 hc with h1 | ⟨h1, h2⟩ <;> rcases h with h3 | ⟨h3, h4⟩
   ·omega
   ·omega
   ·omega
   ·rw [h2] at h4; cases h4
theorem ltW_irr (x : WtV) : ltW x x = false := xL_.2 (.inr ⟨rfl, zR_ _⟩)
theorem ltW_trans (x y z : WtV) (h : ltW x y = true) (k : ltW y z = true) : ltW x z = true := by
 rcases yY_.1 h with h1 | ⟨h1, h2⟩ <;> rcases yY_.1 k with h3 | ⟨h3, h4⟩
 ·exact yY_.2 (.inl Xt0)
 ·exact yY_.2 (.inl Xt0)
 ·exact yY_.2 (.inl Xt0)
 ·exact yY_.2 (.inr ⟨by omega, zF_ h2 h4⟩)
theorem ltW_ntrans (x y z : WtV) (h : ltW x y = false) (k : ltW y z = false) : ltW x z = false := by
 rcases xL_.1 h with h1 | ⟨h1, h2⟩ <;> rcases xL_.1 k with h3 | ⟨h3, h4⟩
 ·exact xL_.2 (.inl Xt0)
 ·exact xL_.2 (.inl Xt0)
 ·exact xL_.2 (.inl Xt0)
 ·refine xL_.2 (.inr ⟨by omega, ?_⟩)
  have := x9_ z.K y.K x.K (by unfold leL; rw [h4]; rfl) (by unfold leL; rw [h2]; rfl)
  unfold leL at this
  simpa using this
theorem closWr (x y : WtV) (W : World) (hx : Ls .u8 W x.ka x.kc x.K) (hy : Ls .u8 W y.ka y.kc y.K) (bx : Byt x.K) (bb : Byt y.K) (tx : x.t <= 1000000) (ty : y.t <= 1000000) :
  Calls prog 69 #[.agg (wcl x).toArray, .agg (wcl y).toArray] W fun e w' => e = .returned (.int .i64 (cmpW x y)) /\ ∃ q os', w' = grow (W.drewN q) os' := by
 have HB := hid (And.intro bx bb)
 have h2 := ((hx.below (bl1 W (.cells (wcl x).toArray 84))).below (bl1 _ (.cells (wcl y).toArray 84)))
 have h3 := ((hy.below (bl1 W (.cells (wcl x).toArray 84))).below (bl1 _ (.cells (wcl y).toArray 84)))
 have HL := hid (And.intro h2 h3)
 clear h2 h3 hx hy bx bb
 unfold cmpW
 unfold wcl RV.v at *
 by_cases e : x.t = y.t
 ·rw [if_pos e]
  have d : ((x.t : Int) == (y.t : Int)) = true := by simp [e]
  have d2 : ((x.t : Int) != (y.t : Int)) = false := by simp [e]
  clear e
  go_enter func69, ntmps69
  exact Xb56
 ·rw [if_neg e]
  have d : ((x.t : Int) == (y.t : Int)) = false := by simp; omega
  have d2 : ((x.t : Int) != (y.t : Int)) = true := by simp; omega
  clear e
  go_enter func69, ntmps69
  go_wp2_with fail
  go_ret
  refine ⟨?_, 0, _, by rw [alloc_eq_grow, alloc_eq_grow, grow_grow]; rfl⟩
  go_num
theorem wsort_law (W : World) (base : Nat) (a : Option Addr) (n c : Nat) (E : List WtV) (hl : E.length = n) (hn : n <= 2000000) (how : W.ownsRow base 84 3 (.slice a n c) n (cellsOf wcl E)) (hst : ∀ y ∈ E, (Byt y.K /\ y.t <= 1000000) /\ zs_ (fun k => Value.ownBlock (.slice a n c) = some k) W (fun W' => Ls .u8 W' y.ka y.kc y.K)) :
  Calls prog 98 #[.slice a n c, .func (.func 69) #[] #[]] W fun r W' => r = .returned (.tuple #[]) /\ ∃ E' : List WtV, E'.Perm E /\ (E'.Pairwise fun a b => ltW b a = false) /\ W'.ownsRow base 84 3 (.slice a n c) n (cellsOf wcl E') /\ Off (fun k => Value.ownBlock (.slice a n c) = some k) W W' :=
 QA_ Tryz.sortWr Xt0 Tryz.isAgg84 Tryz.sizeOf84 wcl zP_ wcl_one cmpW ltW cmpW_lt ltW_irr ltW_trans ltW_ntrans 69 (enters_of func69 Xt3 rfl) (fun W e => (Byt e.K /\ e.t <= 1000000) /\ Ls .u8 W e.ka e.kc e.K) (fun W x y hx hy => closWr x y W hx.2 hy.2 hx.1.1 hy.1.1 hx.1.2 hy.1.2) W base a n c E hl hn how (fun e he => (hst e he).2.mono fun W' h => ⟨(hst e he).1, h⟩)
end
section
open Go.Maps Go.Shelf
attribute [local go_sem] Oper.semAt_some
def encW (y : WtV) : Array Value := #[.agg (wcl y).toArray]
def WtC (W : World) (a : Option Addr) (L : List WtV) : Prop := ∀ (k : Nat) (y : WtV), L[k]? = some y -> ∃ b off, a = some ⟨b, off, none⟩ /\ W.cell? ⟨b, off + k * 3, none⟩ = some (.int .i64 y.t) /\ W.cell? ⟨b, off + k * 3 + 1, none⟩ = some (.slice y.ka y.K.length y.kc) /\ W.cell? ⟨b, off + k * 3 + 2, none⟩ = some (.slice y.r.ra y.r.R.length y.r.rc)
theorem WtC.below {B : Nat} {W W' : World} {a : Option Addr} {L : List WtV} (h : WtC W a L) (hb : Below W.heap.size W W') : WtC W' a L := fun k x hx => by
 obtain ⟨b, off, e, c0, c1, c2⟩ := h k x hx
 have f : ∀ {p v}, W.cell? p = some v -> W'.cell? p = some v := fun h => tcb hb h
 exact ⟨b, off, e, f c0, f c1, f c2⟩
theorem own_wtc {W : World} {base n c : Nat} {a : Option Addr} {L : List WtV} (h : W.ownsRow base 84 3 (.slice a n c) n (cellsOf wcl L)) (hn : L.length = n) : WtC W a L := fun k y hy => by
 obtain ⟨g, rfl, _, hc⟩ := zt_ zP_ Xt0 h hn k y hy
 refine ⟨g, 0, rfl, ?_, ?_, ?_⟩
 ·exact Xb45
 ·exact Xb66
 ·exact Xb83
theorem wvals_law (w : World) (v : Value) (a : Option Addr) (n c : Nat) (hv : v = .slice a n c) : Calls prog 68 #[v] w fun e w' => e = .returned (.func (.func 99) #[] #[.pointer (some ⟨w.heap.size, 0, none⟩)]) /\ w' = w.alloc (.cells #[v] 41) := by
 subst hv
 have hmf := z3_
 go_enter func68, ntmps68
 exact Xb19
theorem wvals_stops (mm : Nat) (hm : 1 <= mm) (Bs : Nat) (a : Option Addr) (n c : Nat) (L : List WtV) (w : World) (hB : Boxed w Bs 41 (.slice a n c)) (hn : L.length = n) (hn2 : n <= 1000000) (hL : WtC w a L) :
  SeqStopsK Fence.wide mm prog 99 #[.pointer (some ⟨Bs, 0, none⟩)] encW (Below w.heap.size) (fun ss => ss = L) (fun pre => True) n w := fun lp J Jx W hW hJ _ hY h0 => by
 have hb : Boxed W Bs 41 (.slice a n c) := (hW.block Bs hB.lt).trans hB
 have HL := hid hL
 have HN := hid hn
 have HW := hid hW
 have HS := hid hW.size
 clear hB hL hn hW
 show CallsIn Fence.wide mm prog 99 #[.func (.yield lp) #[] #[], .pointer (some ⟨Bs, 0, none⟩)] W _
 refine callsIn_of_wp func99 rfl trivial ?_ rfl
 simp only [ntmps99, List.size_toArray, List.length_cons, List.length_nil, Nat.reduceAdd, Nat.reduceSub, Array.replicate_succ, Array.replicate_zero, List.push_toArray, List.append_toArray, List.nil_append, List.cons_append]
 have cb := hb.cell
 gi_wp2_with fail
 clear cb hb
 gi_loopw [7] (fun i wr => ∃ k : Nat, k <= n /\ i = .int .i64 (k : Int) /\ Hid (Below w.heap.size w wr) /\ W.heap.size <= wr.heap.size /\ J (L.take k) wr)
  (fun i _ => n - (intOf i).toNat)
 case atStart =>
  exact ⟨0, by omega, rfl, HW, Nat.le_refl _, h0⟩
 case round =>
  obtain ⟨k, hk, rfl, HBR, hsz, hJs⟩ := hrel
  by_cases hlt : k < n
  ·have d1 : (k : Int) < (n : Int) := by omega
   obtain ⟨y, hy⟩ : ∃ y, L[k]? = some y := ⟨_, List.getElem?_eq_getElem Xt8⟩
   obtain ⟨b1, o1, ea, p0, p1, p2⟩ := (HL.out.below (B := 0) HBR.out) k y hy
   have HTK := hid (show L.take (k + 1) = L.take k ++ [y] by rw [List.take_add_one, hy]; rfl)
   have HKL := hid (show (L.take k).length < n by rw [List.length_take, HN.out]; omega)
   clear hy
   subst ea
   obtain ⟨w2, hw2⟩ := gty (wr.alloc (.cells #[.int .i64 y.t, .slice y.ka y.K.length y.kc, .slice y.r.ra y.r.R.length y.r.rc] 84))
   have hJ2 : J (L.take k) w2 := by rw [hw2]; exact hJ _ wr _ none hJs (World.grownBy_alloc wr _ none) (fun r e => by cases e)
   have HB2 := hid (show Below w.heap.size w w2 by rw [hw2]; exact za_ HBR.out (bl1 wr _))
   have HS2 := hid (show W.heap.size <= w2.heap.size by rw [hw2, World.size_alloc]; omega)
   obtain ⟨fn, tmps, assign, body, hy, hR⟩ := hY (L.take k) y w2 hJ2 HKL.out
   rw [hw2] at hy
   dsimp only [encW, wcl, RV.v] at hy
   have hww := hw2
   clear hw2
   gi_wp2
   rw [← hww]
   refine hR.mono ?_
   rintro e W3 (⟨rfl, hJ3, hk3⟩ | ⟨rfl, hJx3⟩)
   ·have HB3 := hid (HB2.out.trans hk3)
    have HS3 := hid (show W.heap.size <= W3.heap.size from Nat.le_trans HS2.out hk3.size)
    clear hk3
    gi_wp2
    go_roundw
    case rel => exact ⟨k + 1, by omega, by go_num, HB3, HS3.out, by rw [HTK.out]; exact hJ3⟩
    case measure => simp [intOf]; omega
   ·gi_wp2
    refine bodyPost_ret (results_none rfl _ _ _) rfl ?_
    exact ⟨⟨_, rfl⟩, .inr ⟨L.take k ++ [y], trivial, hJx3⟩⟩
  ·have d1 : ¬ (k : Int) < (n : Int) := by omega
   have HTK := hid (show L.take k = L from List.take_of_length_le Xt18)
   gi_wp2
   go_end0
   have h9 := hJs
   rw [HTK.out] at h9
   exact ⟨⟨_, rfl⟩, .inl h9⟩
theorem info84 : (prog.info? 84).map (fun i => (i.zero, i.size, i.bytes)) = some (some (.agg #[.int .i64 0, .slice none 0 0, .slice none 0 0]), 3, 56) := by kernel_rfl
theorem boxc_own {X Y : World} {B : Nat} {cs : Array Value} {t : TypeId} {row : Option Nat} (h : zg_ X B cs t) (hg : X.grownBy Y row) (hr : ∀ r, row = some r -> ∃ o : Obj, X.heap[r]? = some o /\ o.isCells = false) : zg_ Y B cs t :=
 (hg.block B h.lt (fun e => by
  obtain ⟨o, ho, hc⟩ := hr B e.symm
  rw [show X.heap[B]? = _ from h] at ho
  cases ho; cases hc)).trans h
def AppW (L : List WtV) (base : Nat) (w : World) (e : Ending) (w' : World) : Prop := ∃ v, e = .returned v /\ w'.ownsRow base 84 3 v L.length (cellsOf wcl L) /\ Below base w w'
theorem wapp_law (w : World) (Bs : Nat) (a : Option Addr) (n c : Nat) (L : List WtV) (hBs : Boxed w Bs 41 (.slice a n c)) (hn : L.length = n) (hn2 : n <= 1000000) (hL : WtC w a L) :
  Calls prog 129 #[.slice none 0 0, .func (.func 99) #[] #[.pointer (some ⟨Bs, 0, none⟩)]] w (AppW L w.heap.size w) := by
 have HN := hid hn
 have HN2 := hid hn2
 have HLC := hid hL
 clear hL
 obtain ⟨i0, hi, hz0, hz1, hz2⟩ := info_parts info84
 refine (callsIn_wide (n := 6)).1 ?_
 refine callsIn_of_wp_marks func129 rfl trivial ?_ rfl
 simp only [ntmps129, List.size_toArray, List.length_cons, List.length_nil, Nat.reduceAdd, Nat.reduceSub, Array.replicate_succ, Array.replicate_zero, List.push_toArray, List.append_toArray, List.nil_append, List.cons_append]
 gi_wp2_with fail
 have hbw : Below w.heap.size w (w.alloc (.cells #[.slice none 0 0] 41)) := bl1 _ _
 have bL := Boxed.new w 41 (.slice none 0 0)
 have hsz : (w.alloc (.cells #[.slice none 0 0] 41)).heap.size = w.heap.size + 1 := by simp
 have bM : Boxed (w.alloc (.cells #[.slice none 0 0] 41)) Bs 41 (.slice a n c) := (hbw.block Bs hBs.lt).trans hBs
 have bO : WtC (w.alloc (.cells #[.slice none 0 0] 41)) a L := HLC.out.below (B := 0) hbw
 obtain ⟨W0, hW0⟩ := gtx (w.alloc (.cells #[.slice none 0 0] 41))
 rw [hW0] at bL hbw hsz bM bO ⊢
 clear hW0
 have HC := wvals_stops 5 Xt0 Bs a n c L w hBs hn hn2 HLC.out
 clear bM bO hBs hn hn2
 refine wpIn_rangeFunc_ownH rfl Xt0 (gf := 99) (lb := #[.pointer (some ⟨Bs, 0, none⟩)]) rfl trivial (enters_of func99 Xt3 rfl)
  HC belowK_t (belowK_b Xt0) hbw (fun _ => rfl)
  (fun pre W => (∃ v, Boxed W w.heap.size 41 v /\ W.ownsRow w.heap.size 84 3 v pre.length (cellsOf wcl pre)) /\ Below w.heap.size w W)
  (fun c pre W => False)
  (OwnFrom.and (Own.from (fun s X Y row hs hg hr => by obtain ⟨v, h1, h2⟩ := hs; exact ⟨v, boxed_own _ 41 (fun (_ : Unit) => v) () X Y row h1 hg hr, yI_ h2 hg hr⟩) _) (ownFrom_below (Nat.le_refl _) Xt0))
  (fun c s X Y row hs hg hr => hs)
  ⟨⟨_, bL, World.ownsRow_nil _ _ _ _⟩, hbw⟩
  (fun x a' W => ∃ B, a' = { tmps := #[.slice none 0 0, .func (.func 99) #[] #[.pointer (some ⟨Bs, 0, none⟩)], .pointer (some ⟨w.heap.size, 0, none⟩), undef, .slice none 0 0, .pointer (some ⟨B, 0, none⟩), .func (.func 99) #[] #[.pointer (some ⟨Bs, 0, none⟩)], .agg (wcl x).toArray, undef, undef, undef, undef, undef], defers := [] } /\ zg_ W B (wcl x).toArray 84 /\ w.heap.size < B)
  (fun x a' => Own.from (fun s X Y row hs hg hr => by obtain ⟨B, h1, h2, h3⟩ := hs; exact ⟨B, h1, boxc_own h2 hg hr, h3⟩) _)
  ?assign ?body ?done ?stop
 case assign =>
  rintro lp pre x W K hI hK
  dsimp only [encW]
  obtain ⟨⟨v, hI1, hI2⟩, hI3⟩ := hI
  have hsW := hI1.lt
  unfold wcl RV.v
  gi_wp2
  exact hK _ _ ((KeepsOthers.alloc W _).from _) ((Below.refl w.heap.size W).alloc Xt0 _) ⟨⟨v, hI1.alloc _, hI2.alloc _⟩, hI3.alloc Xt0 _⟩ ⟨W.heap.size, rfl, zg_.new W _ _, hsW⟩
 case body =>
  rintro lp pre x a' W hl ⟨r0, hr0⟩ ⟨⟨v, bL1, own1⟩, hB1⟩ ⟨B, rfl, hbx, hBB⟩ hlt
  have cL := bL1.cell
  have fL := bL1.frozen
  have x0 := hbx.cell 0
  have x1 := hbx.cell 1
  have x2 := hbx.cell 2
  unfold wcl RV.v at x0 x1 x2
  simp only [gtA, gtB, gtC] at x0 x1 x2
  have hw2 : w.heap.size + 1 <= W.heap.size := by have := (Array.getElem?_eq_some_iff.1 hr0).1; omega
  clear hr0
  have HPL := hid (show pre.length < 1000000 by have := HN2.out; omega)
  clear hlt
  gi_wp2_with (gi_at_builtin; go_loud (refine wpListIn_append_own _ rfl _ _ 41 rfl w.heap.size 84 i0 (.agg #[.int .i64 0, .slice none 0 0, .slice none 0 0]) 3 56 underlying41 hi hz0 hz1 hz2 rfl Xt4 _ _ _ rfl (own1.alloc _) ⟨W.heap.size, 0, none⟩ 1 1 (wcl x) rfl rfl (zx_ W _ _ _ rfl) (wcl_one x) Xt48 Xt66 Xt7 ?_))
  intro v' W1 hown' hgrow _
  have hne : some w.heap.size ≠ v.ownBlock := fun e => by
   obtain ⟨_, _, cur, hb⟩ := zb_ own1 e.symm
   exact zo_ hb (show zg_ W w.heap.size #[v] 41 from bL1) Xt4 rfl
  have bL2 : Boxed W1 w.heap.size 41 v := (bL1.alloc _).kept hgrow hne
  have ko := (KeepsOthers.alloc W (.cells (wcl x).toArray 84)).trans (yZ_ (own1.alloc _) hgrow)
  have hBW : Below w.heap.size W W1 := ((Below.refl w.heap.size W).alloc Xt0 _).grown hgrow Xt7 (fun j hj => (own1.lt j hj).1)
  have hB2 : Below w.heap.size w W1 := hB1.trans hBW
  have cL2 := bL2.cell
  have fL2 := bL2.frozen
  have hl2 := bL2.lt
  have hown2 : W1.ownsRow w.heap.size 84 3 v' (pre ++ [x]).length (cellsOf wcl (pre ++ [x])) := by
   have e : (pre ++ [x]).length = pre.length + 1 := by simp
   rw [e, zq_]
   exact hown'
  clear cL fL bL1 hgrow own1 hown' x0 x1 x2
  obtain ⟨g, gc, rfl⟩ := zd_ hown2
  gi_wp2_with fail
  refine ⟨(ko.trans (KeepsOthers.setCell _ _ _)).from _, hBW.setCell (p := ⟨w.heap.size, 0, none⟩) (Nat.le_refl _) _, ⟨_, xS_ _ _ _ _ _ bL2, ?_⟩, hB2.setCell (p := ⟨w.heap.size, 0, none⟩) (Nat.le_refl _) _⟩
  have hfin := fun u => ownsRow_setCell_other (a := ⟨w.heap.size, 0, none⟩) hown2 (fun e => by
   obtain ⟨_, _, cur, hb⟩ := zb_ hown2 e
   exact zo_ hb (show zg_ W1 w.heap.size #[v] 41 from bL2) Xt4 rfl) u
  have hlen : (pre ++ [x]).length = pre.length + 1 := by simp
  rw [hlen] at hfin ⊢
  exact hfin _
 case done =>
  rintro Dd zs W hD hzs ⟨⟨v, bL1, own1⟩, hB1⟩ hK
  have cL := bL1.cell
  subst hzs
  gi_wp2
  refine ⟨by simp, .inl ⟨_, _, rfl, run_takeDeferred hK, ?_⟩⟩
  refine ⟨v, ?_, v, rfl, yI_ own1 (grownBy_putObj' W Dd (.deferred none)) Xt59, hB1.trans (belowK_b (w := w) (Nat.le_refl _) W Dd _ _ Xt0 hK rfl rfl)⟩
  simp [results, f129, go_sem]
 case stop =>
  rintro Dd c pre W hD _ hf hK
  exact hf.elim
end
section
open Go.Maps
theorem Qz_ (w : World) (Bs : Nat) (a : Option Addr) (n c : Nat) (L : List WtV) (hBs : Boxed w Bs 41 (.slice a n c)) (hn : L.length = n) (hn2 : n <= 1000000) (hL : WtC w a L) :
  Calls prog 97 #[.func (.func 99) #[] #[.pointer (some ⟨Bs, 0, none⟩)]] w (AppW L w.heap.size w) := by
 have HA := hid (wapp_law w Bs a n c L hBs hn hn2 hL)
 clear hBs hn hn2 hL
 go_enter func97, ntmps97
 go_wp2_with (go_at_call 129; refine HA.out.mono ?_; rintro e w' ⟨v, rfl, h2, h3⟩; replace h2 := hid h2; replace h3 := hid h3)
 go_ret
 exact ⟨v, rfl, h2.out, h3.out⟩
theorem wsorted_law (w : World) (Bs : Nat) (a : Option Addr) (n c : Nat) (L : List WtV) (hBs : Boxed w Bs 41 (.slice a n c)) (hn : L.length = n) (hn2 : n <= 1000000) (hL : WtC w a L) (hok : ∀ y ∈ L, (Byt y.K /\ y.t <= 1000000) /\ Ls .u8 w y.ka y.kc y.K) :
  Calls prog 67 #[.func (.func 99) #[] #[.pointer (some ⟨Bs, 0, none⟩)], .func (.func 69) #[] #[]] w fun r w' => ∃ (a : Option Addr) (c : Nat) (E : List WtV), r = .returned (.slice a n c) /\ E.Perm L /\ (E.Pairwise fun x y => ltW y x = false) /\ w'.ownsRow w.heap.size 84 3 (.slice a n c) n (cellsOf wcl E) /\ Below w.heap.size w w' := by
 have HA := hid (Qz_ w Bs a n c L hBs hn hn2 hL)
 have HOK := hid hok
 have HN := hid hn
 have HN2 := hid hn2
 clear hBs hn hn2 hL hok
 go_enter func67, ntmps67
 go_wp2_with fail
 refine HA.out.mono ?_; rintro e w1 ⟨v, rfl, h2, h3⟩
 rw [HN.out] at h2
 obtain ⟨a1, c1, rfl⟩ := zd_ h2
 have HO := hid h2
 have HB := hid h3
 have HS := hid (wsort_law w1 w.heap.size a1 n c1 L HN.out (by have := HN2.out; omega) h2 (fun y hy => ⟨(HOK.out y hy).1, fun W' o => by
  have hb : Below w.heap.size w W' := Off.below h3 o h3.size (fun k hk => (zb_ h2 hk).1)
  exact (HOK.out y hy).2.below hb⟩))
 clear h2 h3
 go_wp2_with fail
 refine HS.out.mono ?_; rintro e w2 ⟨rfl, E, hp, hs, ho, hoff⟩
 have HE := hid (And.intro hp (And.intro hs ho))
 have HB2 := hid (Off.below HB.out hoff HB.out.size (fun k hk => (zb_ HO.out hk).1))
 clear hp hs ho hoff
 go_wp2_with fail
 go_ret
 exact ⟨a1, c1, E, rfl, HE.out.1, HE.out.2.1, HE.out.2.2, HB2.out⟩
def Qo_ (S : Nat -> Prop) (w : World) (m : Md) (x : zW_) (r : Ending) (w' : World) : Prop :=
 if yQ_ m.j x then ∃ (a : Option Addr) (c : Nat) (E : List WtV), r = .returned (.tuple #[.slice a E.length c, .int .i64 0]) /\ Below w.heap.size w w' /\ (E.map WtV.P).Perm (jN_ m.j m.P x) /\ (E.Pairwise fun x y => ltW y x = false) /\ (∀ y ∈ E, y.t < m.tabs.length /\ zH_ y.K /\ (y.r.R ≠ [] -> rOk y.r.P)) /\ zs_ S w' fun W => WrR W a (E.map WtV.W)
 else r = .returned (.tuple #[.slice none 0 0, .int .i64 2]) /\ Below w.heap.size w w'
theorem xD_ {S : Nat -> Prop} {m : Md} {w : World} (h : MdR S w m) (hS : ∀ k, S k -> k < w.heap.size) (x : zW_) (hx : zM_ w x) (hon : x.on <= 1000000) (hrn : ∀ o ∈ x.ops, o.rn <= 1000000) (hf : ∀ z ∈ m.tabs, z.2.length <= 300000) :
  Calls prog 25 #[.pointer (some ⟨m.p, 0, none⟩), .agg #[.slice x.oa x.on x.oc, .bool x.sn, .bool x.ab]] w (Qo_ S w m x) := by
 have HH := hid (And.intro h (And.intro hS hf))
 have hb : Below w.heap.size w (w.alloc (.cells #[.slice x.oa x.on x.oc, .bool x.sn, .bool x.ab] 38)) := bl1 _ _
 have HB := hid hb
 have HTR := hid (qN_ esort (h.below hb) (fun k hk => Nat.lt_of_lt_of_le (hS k hk) hb.size) x (hx.below hb) hon hrn hf)
 have HFW := hid h.few
 clear h hS hx hon hrn hf hb
 go_enter func25, ntmps25
 go_wp2_with fail
 refine HTR.out.mono ?_; intro r w2 hr
 unfold TrR at hr
 cases hm : yQ_ m.j x with
 | false =>
  rw [hm] at hr
  obtain ⟨rfl, hb2⟩ := hr
  have HB2 := hid (HB.out.trans (hb2.mono HB.out.size))
  have HR := hid (fun r w' (hh : r = .returned (.tuple #[.slice none 0 0, .int .i64 2]) /\ Below w.heap.size w w') => (by unfold Qo_; rw [hm]; exact hh : Qo_ S w m x r w'))
  clear hm hb2
  exact Xb64
 | true =>
  rw [hm] at hr
  obtain ⟨S', base, px, wv, rv, ws, rs, rfl, hb2, hbs, ho, hss, _, hrs, hws⟩ := hr
  have HB2 := hid (HB.out.trans (hb2.mono HB.out.size))
  obtain ⟨a1, c1, e1⟩ := zd_ ho.own
  have hown := ho.own
  rw [e1] at hown
  have c2 := ho.c2
  rw [e1] at c2
  have HWS := hid hws
  have HOK := hid ho.wok
  have HST := hid (fun y hy => (ho.wst y hy).less hss)
  have hb3 : Below w2.heap.size w2 (w2.alloc (.cells #[.slice a1 ws.length c1] 41)) := bl1 _ _
  obtain ⟨w3, hw3⟩ := gty (w2.alloc (.cells #[.slice a1 ws.length c1] 41))
  rw [← hw3] at hb3
  have HB3 := hid hb3
  have HSF := hid (wsorted_law w3 w2.heap.size a1 ws.length c1 ws (by rw [hw3]; exact Boxed.new w2 41 (.slice a1 ws.length c1)) rfl (by have := ho.few; omega) ((own_wtc hown rfl).below (B := 0) hb3) (fun y hy => ⟨⟨(ho.wok y hy).2.1.1, by have := (ho.wok y hy).1; have := HFW.out; omega⟩, ((ho.wst y hy).below hb3).now.1⟩))
  have HR := hid (fun r w' (hh : ∃ (a : Option Addr) (c : Nat) (E : List WtV), r = .returned (.tuple #[.slice a E.length c, .int .i64 0]) /\ Below w.heap.size w w' /\ (E.map WtV.P).Perm (jN_ m.j m.P x) /\ (E.Pairwise fun x y => ltW y x = false) /\ (∀ y ∈ E, y.t < m.tabs.length /\ zH_ y.K /\ (y.r.R ≠ [] -> rOk y.r.P)) /\ zs_ S w' fun W => WrR W a (E.map WtV.W)) => (by unfold Qo_; rw [hm]; exact hh : Qo_ S w m x r w'))
  clear hm hb2 hbs ho hss hrs hws e1 hown hb3
  go_wp2_with fail
  refine (wvals_law w2 (.slice a1 ws.length c1) a1 ws.length c1 rfl).mono ?_; rintro e w' ⟨rfl, rfl⟩
  rw [← hw3]
  clear hw3
  go_wp2_with fail
  refine HSF.out.mono ?_; rintro e w4 ⟨a2, c2, E, rfl, hp, hs, ho, hbf⟩
  have HE := hid (And.intro hp (And.intro hs ho))
  have HB4 := hid hbf
  clear hp hs ho hbf
  go_wp2_with fail
  go_ret2
  have hl : E.length = ws.length := HE.out.1.length_eq
  have hB24 := HB3.out.trans (HB4.out.mono HB3.out.size)
  refine HR.out _ _ ⟨a2, c2, E, by rw [hl]; rfl, HB2.out.trans (hB24.mono HB2.out.size), ?_, HE.out.2.1, fun y hy => HOK.out y (HE.out.1.mem_iff.1 hy), fun W' o => ?_⟩
  ·have h1 := HE.out.1.map WtV.P
   rw [HWS.out] at h1
   exact h1
  ·have h2 := zm_ HE.out.2.2 o (fun k hk => Nat.lt_of_lt_of_le (HH.out.2.1 k hk) (Nat.le_trans HB2.out.size HB3.out.size))
   exact own_wr h2 hl fun y hy => ((HST.out y (HE.out.1.mem_iff.1 hy)).below hB24) W' o
theorem writes_law {S : Nat -> Prop} {m : Md} {w : World} (h : MdR S w m) (hS : ∀ k, S k -> k < w.heap.size) (x : zW_) (hx : zs_ S w fun W => zM_ W x) (hon : x.on <= 1000000) (hrn : ∀ o ∈ x.ops, o.rn <= 1000000) (hf : ∀ z ∈ m.tabs, z.2.length <= 300000) :
  Calls prog 25 #[.pointer (some ⟨m.p, 0, none⟩), .agg #[.slice x.oa x.on x.oc, .bool x.sn, .bool x.ab]] w (Qo_ S w m x) := xD_ h hS x hx.now hon hrn hf
def ClI (L : List Int) (n : Nat) (w : World) (r : Ending) (w' : World) : Prop := ∃ a' c', r = .returned (.slice a' n c') /\ w'.ownsRow w.heap.size 3 1 (.slice a' n c') n (iv .i64 L)
theorem iclone_law (a : Option Addr) (L : List Int) (n cap : Nat) (hL : L.length = n) (hn : n <= 1000000) (w : World) (hA : Ls .i64 w a cap L) :
  Calls prog 37 #[.slice a n cap] w fun r w' => ClI L n w r w' /\ Below w.heap.size w w' := by
 have HA := hid hA
 have HL := hid hL
 rcases a with _ | a
 ·obtain ⟨rfl, rfl⟩ := hA.nl rfl
  simp only [List.length_nil] at hL
  subst hL
  have hsn : ∀ W, (binOp .eql 22 (.slice none 0 0) (.slice none 0 0)).run prog W = .ok (.bool true) W := fun W => Lib.run_eql_slice_nil W 22 3 none 0 0 0 0 underlying22
  clear hA
  go_enter func37, ntmps37
  exact Xb111
 ·clear hA hL
  have hsn : ∀ W, (binOp .eql 22 (.slice (some a) n cap) (.slice none 0 0)).run prog W = .ok (.bool false) W := fun W => Lib.run_eql_slice_nil W 22 3 (some a) n cap 0 0 underlying22
  go_enter func37, ntmps37
  go_wp2_with (at_builtin; refine zB_ eltI rfl (.tmp 5) (.tmp 6) rfl w.heap.size _ 0 [] rfl (World.ownsRow_lit w #[] 0 (Nat.le_refl _) Xt4 rfl) _ _ n L HL.out rfl (HA.out.below ((Below.refl _ _).alloc (Nat.le_refl _) _)) Xt0 Xt5 ?_)
  exact Xb44
def NewR (w : World) (j : Job) (r : Ending) (w' : World) : Prop :=
 if okB j then ∃ (S : Nat -> Prop) (m : Md), r = .returned (.tuple #[.pointer (some ⟨m.p, 0, none⟩), .int .i64 0]) /\ Below w.heap.size w w' /\ MdR S w' m /\ (∀ k, S k -> w.heap.size <= k /\ k < w'.heap.size) /\ (∃ a c, m.j = { j with a := a, cap := c }) /\ (∀ x ∈ m.tabs, x.2 = [])
 else r = .returned (.tuple #[.pointer none, .int .i64 2]) /\ Below w.heap.size w w'
def Zc_ (T : Nat -> Prop) (w : World) (j : Job) (r : Ending) (w' : World) : Prop :=
 if okB j then ∃ (S : Nat -> Prop) (m : Md), r = .returned (.tuple #[.pointer (some ⟨m.p, 0, none⟩), .int .i64 0]) /\ Below w.heap.size w w' /\ MdR S w' m /\ (∀ k, T k -> S k) /\ (∀ k, S k -> T k ∨ w.heap.size <= k) /\ (∀ k, S k -> k < w'.heap.size) /\ (∀ x ∈ m.tabs, w.heap.size <= x.1) /\ (∃ a c, m.j = { j with a := a, cap := c }) /\ (∀ x ∈ m.tabs, x.2 = [])
 else r = .returned (.tuple #[.pointer none, .int .i64 2]) /\ Below w.heap.size w w'
theorem j5_ (T : Nat -> Prop) (j : Job) (w : World) (hT : ∀ k, T k -> k < w.heap.size) (hj : z2_ w j) : Calls prog 10 #[.agg #[.int .i64 j.w, .int .i64 j.l, .int .i64 j.d, .int .i64 j.c, .int .i64 j.k, .int .i64 j.e, .slice j.a j.n j.cap]] w (Zc_ T w j) := by
 obtain ⟨w1, hw1⟩ := gty (w.alloc (.cells #[.int .i64 j.w, .int .i64 j.l, .int .i64 j.d, .int .i64 j.c, .int .i64 j.k, .int .i64 j.e, .slice j.a j.n j.cap] 24))
 have hb1 : Below w.heap.size w w1 := by rw [hw1]; exact bl1 _ _
 have hx1 : zg_ w1 w.heap.size #[.int .i64 j.w, .int .i64 j.l, .int .i64 j.d, .int .i64 j.c, .int .i64 j.k, .int .i64 j.e, .slice j.a j.n j.cap] 24 := by rw [hw1]; exact zg_.new _ _ _
 have HJ := hid hj
 have hli : (j.n : Int) <= 1000000 := by have := hj.le; omega
 have HCK := hid (qd_ j w1 (hj.below hb1))
 have HB1 := hid hb1
 have HX1 := hid hx1
 have c0 := hx1.cell 0
 have c1 := hx1.cell 1
 have c2 := hx1.cell 2
 have c3 := hx1.cell 3
 have c4 := hx1.cell 4
 have c5 := hx1.cell 5
 have c6 := hx1.cell 6
 simp only [gtA, gtB, gtC] at c0 c1 c2 c3 c4 c5 c6
 clear hj hb1 hx1
 go_enter func10, ntmps10
 go_upto_region 1 with (fail)
 rw [← hw1]
 clear hw1
 go_wp2_with fail
 clear c0 c1 c2 c3 c4 c5 c6
 refine HCK.out.mono ?_; rintro r w2 ⟨rfl, hb2⟩
 have HB2 := hid (HB1.out.trans (hb2.mono HB1.out.size))
 have hx2 := HX1.out.below hb2
 have HX2 := hid hx2
 have c6 := hx2.cell 6
 simp only [gtA, gtB, gtC] at c6
 clear hb2 hx2
 cases hok : okB j with
 | false =>
  have hv : qi_ j = 2 := by unfold qi_; rw [hok]; rfl
  have HR := hid (fun r w' (hh : r = .returned (.tuple #[.pointer none, .int .i64 2]) /\ Below w.heap.size w w') => (by unfold Zc_; rw [hok]; exact hh : Zc_ T w j r w'))
  rw [hv]
  clear hok hv c6
  exact Xb64
 | true =>
  have hv : qi_ j = 0 := by unfold qi_; rw [hok]; rfl
  have HOK := hid hok
  have HR := hid (fun r w' (hh : ∃ (S : Nat -> Prop) (m : Md), r = .returned (.tuple #[.pointer (some ⟨m.p, 0, none⟩), .int .i64 0]) /\ Below w.heap.size w w' /\ MdR S w' m /\ (∀ k, T k -> S k) /\ (∀ k, S k -> T k ∨ w.heap.size <= k) /\ (∀ k, S k -> k < w'.heap.size) /\ (∀ x ∈ m.tabs, w.heap.size <= x.1) /\ (∃ a c, m.j = { j with a := a, cap := c }) /\ (∀ x ∈ m.tabs, x.2 = [])) => (by unfold Zc_; rw [hok]; exact hh : Zc_ T w j r w'))
  have hn4 := okB_n hok
  have HN4 := hid hn4
  rw [hv]
  clear hok hv
  have HCL := hid (iclone_law j.a j.T j.n j.cap HJ.out.len HJ.out.le w2 (HJ.out.ls.below HB2.out))
  go_wp2_with fail
  refine HCL.out.mono ?_; rintro r w3 ⟨⟨a1, c1, rfl, ho3⟩, hb3⟩
  have HO3 := hid ho3
  have HB3 := hid (HB2.out.trans (hb3.mono HB2.out.size))
  have HS23 := hid (And.intro HX2.out.lt hb3.size)
  have hx3 := HX2.out.below hb3
  have HX3 := hid hx3
  clear c6 ho3 hb3
  have c6 := hx3.cell 6
  have f6 := hx3.frozen 6
  simp only [gtA, gtB, gtC] at c6
  clear hx3
  go_upto_region 4 with (fail)
  clear c6 f6
  have o4 : Off (fun k => k = w.heap.size) w3 (w3.setCell ⟨w.heap.size, 6, none⟩ (.slice a1 j.n c1)) := Off.set (S := fun k => k = w.heap.size) (Off.refl _ w3) ⟨w.heap.size, 6, none⟩ rfl _
  have hx4 : zg_ (w3.setCell ⟨w.heap.size, 6, none⟩ (.slice a1 j.n c1)) w.heap.size #[.int .i64 j.w, .int .i64 j.l, .int .i64 j.d, .int .i64 j.c, .int .i64 j.k, .int .i64 j.e, .slice a1 j.n c1] 24 := heap_setCell_same w3 w.heap.size 6 _ 24 _ HX3.out
  have hb4 : Below w.heap.size w (w3.setCell ⟨w.heap.size, 6, none⟩ (.slice a1 j.n c1)) := HB3.out.setCell (Nat.le_refl _) _
  generalize w3.setCell ⟨w.heap.size, 6, none⟩ (.slice a1 j.n c1) = w4 at o4 hx4 hb4 ⊢
  have ho4 := zm_ HO3.out o4 (fun k hk => by cases hk; exact HS23.out.1)
  have HO4 := hid ho4
  have HB4 := hid hb4
  have HX4 := hid hx4
  have HS4 := hid (Nat.le_trans HS23.out.2 o4.size)
  have c0 := hx4.cell 0
  have c1' := hx4.cell 1
  have c2 := hx4.cell 2
  have c3 := hx4.cell 3
  have c4 := hx4.cell 4
  have c5 := hx4.cell 5
  have c6 := hx4.cell 6
  simp only [gtA, gtB, gtC] at c0 c1' c2 c3 c4 c5 c6
  clear o4 hx4 hb4 ho4
  go_upto_region 5 with (fail)
  clear c0 c1' c2 c3 c4 c5 c6
  have hb5 : Below w4.heap.size w4 (w4.alloc (.cells #[.int .i64 j.w, .int .i64 j.l, .int .i64 j.d, .int .i64 j.c, .int .i64 j.k, .int .i64 j.e, .slice a1 j.n c1, .slice none 0 0] 89)) := bl1 _ _
  have hx5 : zg_ (w4.alloc (.cells #[.int .i64 j.w, .int .i64 j.l, .int .i64 j.d, .int .i64 j.c, .int .i64 j.k, .int .i64 j.e, .slice a1 j.n c1, .slice none 0 0] 89)) w4.heap.size #[.int .i64 j.w, .int .i64 j.l, .int .i64 j.d, .int .i64 j.c, .int .i64 j.k, .int .i64 j.e, .slice a1 j.n c1, .slice none 0 0] 89 := zg_.new _ _ _
  generalize w4.alloc (.cells #[.int .i64 j.w, .int .i64 j.l, .int .i64 j.d, .int .i64 j.c, .int .i64 j.k, .int .i64 j.e, .slice a1 j.n c1, .slice none 0 0] 89) = w5 at hb5 hx5 ⊢
  obtain ⟨p, hp⟩ := gtx (w4.heap.size)
  have HPW := hid (show w.heap.size < p by rw [← hp]; exact HX4.out.lt)
  have HP4 := hid hp
  have HB5 := hid (HB4.out.trans (hb5.mono HB4.out.size))
  have HO5 := hid (ze_ HO4.out hb5)
  rw [hp] at hx5 ⊢
  have HX5 := hid hx5
  have hxx := HX4.out.below hb5
  have c6 := hxx.cell 6
  simp only [gtA, gtB, gtC] at c6
  clear hb5 hx5 hp hxx
  go_wp2_with fail
  clear c6
  go_loopw [18] (fun i wr => ∃ (k : Nat) (B : List Nat) (wv : Value), k <= j.n /\ i = .int .i64 (k : Int) /\ Hid (zg_ wr p #[.int .i64 j.w, .int .i64 j.l, .int .i64 j.d, .int .i64 j.c, .int .i64 j.k, .int .i64 j.e, .slice a1 j.n c1, wv] 89) /\ Hid (B.length = k) /\ Hid (wr.ownsRow w.heap.size 90 1 wv k (cellsOf bcl B)) /\ Hid (∀ b ∈ B, Mp wr b RV.v [] /\ w.heap.size <= b) /\ Hid B.Nodup /\ Hid (wr.ownsRow w2.heap.size 3 1 (.slice a1 j.n c1) j.n (iv .i64 j.T)) /\ Hid (Below w.heap.size w wr)) (fun i _ => j.n - (intOf i).toNat)
  case atStart => exact ⟨0, [], .slice none 0 0, by omega, rfl, HX5, hid rfl, hid (World.ownsRow_nil _ _ _ _), hid (fun b hb => by simp at hb), hid List.nodup_nil, HO5, HB5⟩
  case round =>
   obtain ⟨k, B, wv, hk, rfl, HXP, HN, HOW, HMP, HND, HJO, HB⟩ := hrel
   by_cases hlt : k < j.n
   ·have d1 : (k : Int) < (j.n : Int) := by omega
    have hmm := @run_makeMap prog
    have hnb : ¬ wv.ownBlock = some p := fun e => by
     obtain ⟨_, _, cur, hb2⟩ := zb_ HOW.out e
     exact zo_ hb2 HXP.out Xt4 rfl
    have HBP := hid (fun X (o : Off (fun k => wv.ownBlock = some k) wr X) => o.box HXP.out hnb)
    have HPX := hid (fun X (o : Off (fun k => wv.ownBlock = some k) wr X) => (by rw [(HBP.out X o).cell]; rfl : X.cell? ⟨p, 7, none⟩ = some wv))
    clear hnb
    have x7 := HPX.out wr (Off.refl _ _)
    have HB6 := hid (za_ (bl1 wr (.map #[] 0)) (bl1 (wr.alloc (.map #[] 0)) (.cells #[.map (some wr.heap.size)] 90)))
    have HCN := hid (zx_ (wr.alloc (.map #[] 0)) #[.map (some wr.heap.size)] 90 [.map (some wr.heap.size)] rfl)
    rw [World.size_alloc] at HCN
    go_upto_region 8 with (at_builtin; refine zv_ ae_map rfl _ _ rfl w.heap.size wv k (cellsOf bcl B) rfl (ze_ HOW.out HB6.out) ⟨wr.heap.size + 1, 0, none⟩ 1 1 [.map (some wr.heap.size)] rfl rfl HCN.out Xt32 Xt0 (Nat.le_trans HB.out.size HB6.out.size) ?_; intro v9 w9 hown9 hgrow9 hat9; obtain ⟨a9, c9, hv9⟩ := zd_ hown9; subst hv9; have HO9 := hid hown9; have HG9 := hid hgrow9; have HF9 := hid (((Off.of HB6.out).trans (Off.of_row hgrow9) : Off (fun k => wv.ownBlock = some k) wr w9)); clear hown9 hgrow9 hat9; have x9 := HPX.out w9 HF9.out; have f9 := (HBP.out w9 HF9.out).frozen 7)
    clear x7 x9 f9
    have hP9 := HBP.out w9 HF9.out
    have hne9 : ∀ g, Value.ownBlock (.slice a9 (k + 1) c9) = some g -> g ≠ p := fun g hg => by
     exact Xb89
    have oP : Off (fun k => k = p) w9 (w9.setCell ⟨p, 7, none⟩ (.slice a9 (k + 1) c9)) := Off.set (S := fun k => k = p) (Off.refl _ w9) ⟨p, 7, none⟩ rfl _
    have q2 : zg_ (w9.setCell ⟨p, 7, none⟩ (.slice a9 (k + 1) c9)) p #[.int .i64 j.w, .int .i64 j.l, .int .i64 j.d, .int .i64 j.c, .int .i64 j.k, .int .i64 j.e, .slice a1 j.n c1, .slice a9 (k + 1) c9] 89 := heap_setCell_same w9 p 7 _ 89 _ hP9
    have q4 := zn_ HO9.out oP (fun g hg e => hne9 g hg e)
    have hbwv : ∀ b, wv.ownBlock = some b -> b < wr.heap.size := fun b hb => (zb_ HOW.out hb).2.1
    have q5 : ∀ b ∈ B ++ [wr.heap.size], Mp (w9.setCell ⟨p, 7, none⟩ (.slice a9 (k + 1) c9)) b RV.v [] /\ w.heap.size <= b := fun b hb => by
     rcases List.mem_append.1 hb with hb | hb
     ·exact Xb63
     ·rw [List.mem_singleton] at hb
      subst hb
      have h1 := (Mp.new wr RV.v).below (bl1 (wr.alloc (.map #[] 0)) (.cells #[.map (some wr.heap.size)] 90))
      exact Xb90
    have q6 : (B ++ [wr.heap.size]).Nodup := List.nodup_append.2 ⟨HND.out, by simp, fun a ha b hb e => by
     rw [List.mem_singleton] at hb
     subst hb
     subst e
     exact Nat.lt_irrefl _ (HMP.out _ ha).1.lt⟩
    have q7 : Below w.heap.size w (w9.setCell ⟨p, 7, none⟩ (.slice a9 (k + 1) c9)) := (Off.below HB.out HF9.out HB.out.size (fun g hg => (zb_ HOW.out hg).1)).setCell (Nat.le_of_lt HPW.out) _
    have q8 := zn_ (zn_ HJO.out HF9.out (fun g hg e => by
     obtain ⟨_, _, cur, hb⟩ := zb_ HJO.out hg
     obtain ⟨_, _, cur', hb'⟩ := zb_ HOW.out e
     exact zo_ hb hb' Xt4 rfl)) oP (fun g hg e => by
     obtain ⟨_, _, cur, hb⟩ := zb_ HJO.out hg
     exact zo_ hb HXP.out Xt4 e)
    have Q2 := hid q2
    have Q4 := hid q4
    have Q5 := hid q5
    have Q6 := hid q6
    have Q7 := hid q7
    have Q8 := hid q8
    clear q2 q4 q5 q6 q7 q8 hP9 hne9 oP hbwv hmm
    go_wp2_with fail
    go_roundw
    case rel => exact ⟨k + 1, B ++ [wr.heap.size], .slice a9 (k + 1) c9, by omega, by go_num, Q2, hid (by rw [List.length_append, HN.out]; rfl), hid (by rw [zq_]; exact Q4.out), Q5, Q6, Q8, Q7⟩
    case measure => simp [intOf]; omega
   ·have d1 : ¬ (k : Int) < (j.n : Int) := by omega
    have hke : k = j.n := by omega
    have HKE := hid hke
    clear hke
    go_wp2_with fail
    go_ret2
    obtain ⟨wa, wc, hwv⟩ := zd_ HOW.out
    have how := HOW.out
    rw [hwv] at how
    have hbn : 0 < B.length := by rw [HN.out]; have := HKE.out; have := HN4.out; omega
    obtain ⟨b0, hb0⟩ : ∃ b, B[0]? = some b := ⟨_, List.getElem?_eq_getElem hbn⟩
    obtain ⟨g, hg, hgb, _⟩ := zt_ Ql_ Xt0 how HN.out 0 b0 hb0
    rw [hg] at how hwv
    have hmp := HMP.out
    obtain ⟨aj, cj, ej, hlj, _⟩ := yy_ HJO.out HJ.out.len
    cases ej
    have hpB : ¬ (p ∈ B ∨ T p) := fun hk => hk.elim (fun hk => (hmp p hk).1.ne_box HXP.out rfl) (fun hk => by have h1 := hT p hk; have h2 := HPW.out; omega)
    refine HR.out _ _ ⟨fun k => k ∈ B ∨ T k, ⟨p, { j with a := a1, cap := c1 }, g, wc, B.map fun b => (b, [])⟩, rfl, HB.out, ⟨?_, ?_, ?_, ?_, ?_, ?_, ?_, ?_, ?_⟩, fun k hk => .inr hk, fun k hk => hk.elim (fun h => .inr (hmp k h).2) .inl, fun k hk => hk.elim (fun h => (hmp k h).1.lt) (fun h => Nat.lt_of_lt_of_le (hT k h) HB.out.size), fun x hx => (by obtain ⟨b, hb, rfl⟩ := List.mem_map.1 hx; exact (hmp b hb).2), ⟨a1, c1, rfl⟩, fun x hx => ?_⟩
    ·intro W' o
     refine ⟨?_, ?_, ?_⟩
     ·have := o.box HXP.out hpB
      unfold Md.cs
      rw [hwv] at this
      rw [List.length_map, HN.out]
      exact this
     ·intro i y hy
      rw [List.getElem?_map] at hy
      cases hbi : B[i]? with
      | none => rw [hbi] at hy; cases hy
      | some b =>
       rw [hbi] at hy
       cases hy
       have hog := zn_ how o (fun q hq hk => by
        obtain ⟨hlo, _, cur8, hg8⟩ := zb_ how hq
        rcases hk with hk | hk
        ·exact (hmp q hk).1.ne_box hg8 rfl
        ·have := hT q hk; have := HB2.out.size; omega)
       obtain ⟨g', e, _, hcc⟩ := zt_ Ql_ Xt0 hog HN.out i b hbi
       cases e
       have := hcc 0 Xt0
       exact Xb62
     ·have hoj := zn_ HJO.out o (fun q hq hk => by
       obtain ⟨hlo, _, cur8, hg8⟩ := zb_ HJO.out hq
       rcases hk with hk | hk
       ·exact (hmp q hk).1.ne_box hg8 rfl
       ·have := hT q hk; have := HB2.out.size; omega)
      obtain ⟨aj, cj, ej, hlj, _⟩ := yy_ hoj HJ.out.len
      cases ej
      exact ⟨hlj, HJ.out.len, HJ.out.le⟩
    ·intro x hx
     obtain ⟨b, hb, rfl⟩ := List.mem_map.1 hx
     exact (hmp b hb).1
    ·intro x hx e he
     obtain ⟨b, hb, rfl⟩ := List.mem_map.1 hx
     cases he
    ·exact HOK.out
    ·rw [List.length_map, HN.out]; exact HKE.out
    ·rw [List.length_map, HN.out]; 
     rcases how.2 with ⟨e, _⟩ | ⟨_, cap, _, e, _, _, hc, _⟩
     ·cases e
     ·cases e; exact hc
    ·rw [List.map_map]
     have : (Prod.fst ∘ fun b : Nat => (b, ([] : List (List Int × RV)))) = id := rfl
     rw [this, List.map_id]; exact HND.out
    ·intro x hx
     obtain ⟨b, hb, rfl⟩ := List.mem_map.1 hx
     exact .inl hb
    ·intro x hx
     obtain ⟨b, hb, rfl⟩ := List.mem_map.1 hx
     exact ⟨by unfold z1_ yh_; exact List.Pairwise.nil, fun q hq => by cases hq⟩
    ·obtain ⟨b, hb, rfl⟩ := List.mem_map.1 hx
     rfl
theorem new_law (j : Job) (w : World) (hj : z2_ w j) : Calls prog 10 #[.agg #[.int .i64 j.w, .int .i64 j.l, .int .i64 j.d, .int .i64 j.c, .int .i64 j.k, .int .i64 j.e, .slice j.a j.n j.cap]] w (NewR w j) := (j5_ (fun _ => False) j w (fun _ h => h.elim) hj).mono fun r w' h => by
 unfold Zc_ at h
 unfold NewR
 split
 ·rename_i hok
  rw [if_pos hok] at h
  obtain ⟨S, m, e, hb, hm, _, h1, h2, _, h3, h4⟩ := h
  exact ⟨S, m, e, hb, hm, fun k hk => ⟨(h1 k hk).resolve_left (fun h => h), h2 k hk⟩, h3, h4⟩
 ·rename_i hok
  rw [if_neg hok] at h
  exact h
theorem set_same {α : Type} {P : List α} {k : Nat} {e : α} (h : P[k]? = some e) : P.set k e = P := by
 apply List.ext_getElem?
 intro i
 by_cases hi : k = i
 ·subst hi
  rw [List.getElem?_set_self (List.getElem?_eq_some_iff.1 h).1, h]
 ·rw [List.getElem?_set_ne hi]
theorem Off.grown {z : Nat} {W W' : World} (o : Off (fun k => k = z) W W') : W.grownBy W' (some z) := ⟨o.os, o.tape, o.output, o.size, fun k hk hn => o.block k hk (fun e => hn (by rw [e]))⟩
def CpT (L L' : List (List Int × RV)) (left : Lit -> Bool) : Prop := ∀ K, Byt K -> (zU_ L' K).map RV.P = if left (kL K) = true then none else (zU_ L K).map RV.P
theorem CpT.start {L : List (List Int × RV)} (hb : Zd_ L) : CpT L [] (Maps.has (mOf RV.v L)) := fun K hK => by
 rw [Qb_ hb hK]
 cases h : zU_ L K with
 | none => simp [zU_]
 | some r => simp [zU_]
theorem CpT.step {L L' : List (List Int × RV)} {left : Lit -> Bool} (h : CpT L L' left) (hr : Ris Prod.fst L') {K : List Int} (hK : Byt K) {r r' : RV} (hg : zU_ L K = some r) (hp : r'.P = r.P) : CpT L (xY_ L' K (some r')) (fun z => left z && !z.sameKey (kL K)) := fun J hJ => by
 rw [getM_set hr]
 show Option.map RV.P (if J = K then some r' else zU_ L' J) = if (left (kL J) && !(kL J).sameKey (kL K)) = true then none else Option.map RV.P (zU_ L J)
 rw [xj_ hJ hK]
 by_cases e : J = K
 ·subst e
  rw [if_pos rfl, hg]
  simp [hp]
 ·rw [if_neg e, h J hJ]
  simp [e]
theorem CpT.done {L L' : List (List Int × RV)} {left : Lit -> Bool} (h : CpT L L' left) (hl : ∀ k, left k = false) (hb : Zd_ L) (hb' : Zd_ L') (t : z1_ (yh_ L)) (t' : z1_ (yh_ L')) : yh_ L' = yh_ L := tab_ext t' t fun K => by
 rw [yR_, yR_]
 by_cases hK : Byt K
 ·rw [h K hK, hl]; rfl
 ·rw [xl_.2 (fun p hp e => hK (by rw [← e]; exact hb' p hp)), xl_.2 (fun p hp e => hK (by rw [← e]; exact hb p hp))]
theorem take_set {α : Type} (P : List α) (e : α) (k : Nat) (hk : k < P.length) : (P.take k ++ List.replicate (P.length - k) e).set k P[k] = P.take (k + 1) ++ List.replicate (P.length - (k + 1)) e := by
 have h1 : (P.take k).length = k := by rw [List.length_take]; omega
 rw [List.set_append, if_neg Xt0, h1, Nat.sub_self]
 obtain ⟨n, hn⟩ : ∃ n, P.length - k = n + 1 := ⟨P.length - k - 1, by omega⟩
 rw [hn, show P.length - (k + 1) = n by omega, List.replicate_succ, List.set_cons_zero, List.take_add_one, List.getElem?_eq_getElem hk, List.append_assoc]
 rfl
def CopyRT (T : Nat -> Prop) (w : World) (m : Md) (r : Ending) (w' : World) : Prop :=
 ∃ (S : Nat -> Prop) (m' : Md), r = .returned (.pointer (some ⟨m'.p, 0, none⟩)) /\ Below w.heap.size w w' /\ MdR S w' m' /\ (∀ k, T k -> S k) /\ (∀ k, S k -> T k ∨ w.heap.size <= k) /\ (∀ k, S k -> k < w'.heap.size) /\ (∀ x ∈ m'.tabs, w.heap.size <= x.1) /\ (∃ a c, m'.j = { m.j with a := a, cap := c }) /\ m'.P = m.P
theorem copy_lawT (T : Nat -> Prop) {S : Nat -> Prop} {m : Md} {w : World} (hTT : ∀ k, T k -> k < w.heap.size) (h : MdR S w m) (hf : ∀ z ∈ m.tabs, z.2.length <= 900000) : Calls prog 23 #[.pointer (some ⟨m.p, 0, none⟩)] w (CopyRT T w m) := by
 have HH := hid h
 have HF := hid hf
 have hbx := h.st.now.box
 have c0 := hbx.cell 0
 have c1 := hbx.cell 1
 have c2 := hbx.cell 2
 have c3 := hbx.cell 3
 have c4 := hbx.cell 4
 have c5 := hbx.cell 5
 have c6 := hbx.cell 6
 unfold Md.cs at c0 c1 c2 c3 c4 c5 c6
 simp only [gtA, gtB, gtC] at c0 c1 c2 c3 c4 c5 c6
 have HNO := hid (zX_ h)
 have HNW := hid (j5_ T m.j w hTT h.st.now.job)
 have HBX := hid hbx
 clear h hf hbx
 go_enter func23, ntmps23
 go_wp2_with fail
 refine HNO.out.mono ?_; rintro r w' ⟨rfl, rfl⟩
 go_wp2_with fail
 refine HNW.out.mono ?_; intro r w3 hr
 unfold Zc_ at hr
 rw [HH.out.ok] at hr
 obtain ⟨S2, m2, rfl, hb3, hm2, hsT, hsN, hs2, hsl, hj2, ht2⟩ := hr
 have HST := hid (And.intro hsT hsN)
 have HSL := hid hsl
 have HB3 := hid hb3
 have HM2 := hid hm2
 have HS2 := hid hs2
 have HJ2 := hid hj2
 have HT2 := hid ht2
 have hlen : m2.tabs.length = m.tabs.length := by
  obtain ⟨a, c, e⟩ := hj2
  rw [hm2.len, HH.out.len, e]
 have HLE := hid hlen
 clear c0 c1 c2 c3 c4 c5 c6
 have c7 := (HH.out.below hb3).c
 have hm4 := HH.out.few
 have hml : (m.tabs.length : Int) <= 1000000 := by omega
 clear hb3 hm2 hsT hsN hs2 hsl hj2 ht2 hlen
 go_wp2_with fail
 clear c7
 go_loopw [24] (fun i wr => ∃ (k : Nat) (m3 : Md), k <= m.tabs.length /\ i = .int .i64 (k : Int) /\ Hid (MdR S2 wr m3) /\ Hid (zC_ m2 m3) /\ Hid (m3.P = m.P.take k ++ List.replicate (m.P.length - k) []) /\ Hid (∀ i z, k <= i -> m3.tabs[i]? = some z -> z.2 = []) /\ Hid (Below w.heap.size w wr) /\ Hid (w3.heap.size <= wr.heap.size)) (fun i _ => m.tabs.length - (intOf i).toNat)
 case atStart =>
  refine ⟨0, m2, by omega, rfl, HM2, hid (zC_.rfl' m2), hid ?_, hid (fun i z _ hz => HT2.out z (List.mem_of_getElem? hz)), HB3, hid (Nat.le_refl _)⟩
  rw [List.take_zero, List.nil_append, Nat.sub_zero, Md.P_len, ← HLE.out]
  unfold Md.P
  rw [List.eq_replicate_iff]
  refine ⟨by rw [List.length_map], fun b hb => ?_⟩
  obtain ⟨z, hz, rfl⟩ := List.mem_map.1 hb
  rw [HT2.out z hz]; rfl
 case round =>
  obtain ⟨k, m3, hk, rfl, HM3, HSM, HP3, HZE, HBW, H3W⟩ := hrel
  by_cases hlt : k < m.tabs.length
  ·have d1 : (k : Int) < (m.tabs.length : Int) := by omega
   obtain ⟨x, hx⟩ : ∃ x, m.tabs[k]? = some x := ⟨_, List.getElem?_eq_getElem hlt⟩
   have hxm := List.mem_of_getElem? hx
   have hk3 : k < m3.tabs.length := by rw [HSM.out.len, HLE.out]; exact hlt
   obtain ⟨z, hz⟩ : ∃ z, m3.tabs[k]? = some z := ⟨_, List.getElem?_eq_getElem hk3⟩
   have ct := (HH.out.below HBW.out).st.now.tab k x hx
   have hown := ((HH.out.below HBW.out).maps x hxm).own
   have HXM := hid hxm
   have HZ := hid hz
   have HX := hid hx
   have HK3 := hid hk3
   clear hx hz hxm hk3
   go_wp2_with (at_range; go_loud (refine wpList_range_own _ rfl _ 90 rfl 9 50 law9 underlying90 RF x.1 _ _ rfl hown ?_); intro w5 hrg5 hg5 hs5)
   have HS5 := hid hs5
   have hz0 : z.2 = [] := HZE.out k z (Nat.le_refl _) HZ.out
   have o5 : Off (fun _ => False) wr w5 := (Off.of_row hg5).mono (fun k hk => by cases hk)
   have HMS := hid (fun q (hq : q ∈ m2.tabs) => Nat.lt_of_lt_of_le (HS2.out _ (HM2.out.hS q hq)) H3W.out)
   have HM5 := hid (HM3.out.off (S' := fun k => S2 k ∨ k = wr.heap.size) o5 (fun _ h => h.elim) (fun _ _ h => h) (fun k hk => hk.imp id fun e => by rw [e]; exact Nat.le_refl _) (fun q hq => .inl (HM3.out.hS q hq)))
   have HB5 := hid (Off.below HBW.out o5 HBW.out.size (fun _ h => h.elim))
   have HPK := hid (show m3.P[k]? = some [] by unfold Md.P; rw [List.getElem?_map, HZ.out]; show some (yh_ z.2) = _; rw [hz0]; rfl)
   have HZ0 := hid (show m3.tabs[k]? = some (z.1, []) by rw [HZ.out, ← hz0])
   have HKB := hid ((HH.out.maps x HXM.out).byt)
   clear hg5 hs5 hz0 o5 hown ct
   obtain ⟨rr, hrr⟩ := gtx (wr.heap.size)
   rw [hrr] at hrg5 HM5 HS5 HMS ⊢
   have HRR := hid hrr
   clear hrr
   go_frame
   go_loopw [31] (fun _ wi => ∃ (left : Lit -> Bool) (cnt : Nat) (L' : List (List Int × RV)) (m4 : Md), wi.ranges prog 9 RF x.1 rr x.2.length (mOf RV.v x.2) left cnt /\ Hid (CpT x.2 L' left) /\ Hid (L'.length + cnt <= x.2.length) /\ Hid (MdR (fun k => S2 k ∨ k = rr) wi m4) /\ Hid (zC_ m2 m4) /\ Hid (m4.tabs[k]? = some (z.1, L')) /\ Hid (m4.P = m3.P.set k (yh_ L')) /\ Hid (∀ i q, k + 1 <= i -> m4.tabs[i]? = some q -> q.2 = []) /\ Hid (Below w.heap.size w wi) /\ Hid (rr + 1 <= wi.heap.size)) (fun _ wi => wi.rangeLeft x.1 rr)
   case atStart =>
    exact ⟨_, _, [], m3, hrg5, hid (CpT.start HKB.out), hid (by rw [yB_]; simp), HM5, HSM, HZ0, hid (set_same HPK.out).symm, hid (fun i q hi hq => HZE.out i q Xt0 hq), HB5, hid (by rw [HS5.out]; exact Nat.le_refl _)⟩
   case round =>
    obtain ⟨left, cnt, L', m4, hrg, HCP, HLC, HM4, HSM4, HT4, HP4, HZ4, HB4, HW4⟩ := hrel
    go_wp2_with (at_next; go_loud (refine wpList_next_ranges _ rfl _ rfl 9 law9 RF Value.string (fun v : Value => v) Xt10 (fun v y _ => ⟨v, rfl⟩) x.1 rr x.2.length _ _ _ rfl hrg ?_ ?_))
    ·intro hc0 hl0
     have HL0 := hid hl0
     clear hc0 hl0
     go_wp2_with fail
     go_roundw
     case rel =>
      have hm4 := HM4.out
      have hdone := HCP.out.done HL0.out HKB.out ((hm4.maps _ (List.mem_of_getElem? HT4.out)).byt) ((HH.out.lim x HXM.out).1) ((hm4.lim _ (List.mem_of_getElem? HT4.out)).1)
      refine ⟨k + 1, m4, by omega, by go_num, hid (hm4.less (fun q hq => .inl hq) (fun q hq => ?_)), HSM4, hid ?_, HZ4, HB4, hid (by have := H3W.out; have := HW4.out; have := HRR.out; omega)⟩
      ·obtain ⟨q', hq', e⟩ := HSM4.out.mem hq
       rw [e]; exact HM2.out.hS q' hq'
      ·have hkP : k < m.P.length := by rw [Md.P_len]; exact hlt
       rw [HP4.out, HP3.out, hdone, ← take_set m.P [] k hkP]
       congr 1
       have : m.P[k]? = some (yh_ x.2) := by unfold Md.P; rw [List.getElem?_map, HX.out]; rfl
       rw [List.getElem?_eq_getElem hkP] at this
       injection this with this
       exact this.symm
     case measure => simp [intOf]; omega
    ·intro s c kl yd yp w6 cnt2 hkey hlk hv hat hrg6 hlt6 hg6 hs6 hen
     obtain ⟨K, hKm, es, ek⟩ := key_in hkey hat
     subst es
     subst ek
     obtain ⟨r0, hr0⟩ : ∃ r0, zU_ x.2 K = some r0 := Option.isSome_iff_exists.1 (yX_.1 hKm)
     have hKB : Byt K := by obtain ⟨p, hp, rfl⟩ := List.mem_map.1 hKm; exact HKB.out p hp
     have hcv : c = RV.v r0 := by
      have h1 := hat .nil
      rw [at_mOf HKB.out hKB, hr0] at h1
      exact Xb86
     subst hcv
     unfold RV.v at hen hv
     have o6 : Off (fun q => q = rr) _ w6 := (Off.of_row hg6).mono (fun q hq => by cases hq; rfl)
     have hB6 := Off.below HB4.out o6 HB4.out.size (fun q hq => by cases hq; have := HBW.out.size; have := HRR.out; omega)
     have hmem : (K, r0) ∈ x.2 := (yd_ (HH.out.maps x HXM.out).ris).1 hr0
     have hrowS := (HH.out.below hB6).rows x HXM.out _ hmem
     have hrok := (HH.out.lim x HXM.out).2 _ (List.mem_map.2 ⟨_, hmem, rfl⟩)
     have HM6 := hid (HM4.out.off (S' := fun k => S2 k ∨ k = rr) o6 (fun q hq => .inr hq) (fun q hq e => by
      obtain ⟨q', hq', e'⟩ := HSM4.out.mem hq
      have := HMS.out q' hq'
      omega) (fun q hq => .inl hq) (fun q hq => HM4.out.hS q hq))
     have HRG6 := hid hrg6
     have HB6 := hid hB6
     have HR6 := hid hrowS.now
     have HKR := hid (show Byt K /\ K.length <= 32 from ⟨hKB, hrok.1.2.2⟩)
     have HKO := hid hrok
     have HBD := hid (RV.bound hrok.2)
     have HR0 := hid hr0
     have HLT := hid hlt6
     have HLQ := hid hrg.left_eq
     have HLK := hid hlk
     have HW6 := hid (show rr + 1 <= w6.heap.size by have := HW4.out; omega)
     have HMT := hid (List.mem_of_getElem? HT4.out)
     have hcnt : cnt <= x.2.length /\ L'.length <= x.2.length := by have := HLC.out; omega
     have hxl := HF.out x HXM.out
     have HPUT := hid (fun X (b : Below w6.heap.size w6 X) => ((HM6.out.below b).maps _ HMT.out).store (t := 90) (e := 50) underlying90 HKR.out.1 (by have := HKR.out.2; omega) (by show L'.length <= 1000000; omega))
     have hpp : m4.p = m2.p := HSM4.out.p
     have HXX := hid (fun X (b : Below w6.heap.size w6 X) => (⟨by have := (HM6.out.below b).c; rw [hpp] at this; exact this, (HM6.out.below b).st.now.tab k (z.1, L') HT4.out⟩ : X.cell? ⟨m2.p, 7, none⟩ = some (.slice (some ⟨m4.bt, 0, none⟩) m4.tabs.length m4.tc) /\ X.cell? ⟨m4.bt, k, none⟩ = some (.map (some z.1))))
     have htl : m4.tabs.length = m.tabs.length := by rw [HSM4.out.len]; exact HLE.out
     have htt : (k : Int) < (m4.tabs.length : Int) := by omega
     have ht3 : ¬ (k : Int) < 0 := by omega
     have htm : (m4.tabs.length : Int) <= 1000000 := by omega
     have HS6 := hid (fun q (hq : (fun k => S2 k ∨ k = rr) q) => (by
      rcases hq with hq | hq
      ·have := HS2.out q hq; have := H3W.out; have := HRR.out; have := HW6.out; omega
      ·have := HW6.out; omega : q < w6.heap.size))
     clear hkey hlk hv hat hlt6 hg6 hs6 hKm hr0 hKB o6 hB6 hmem hrowS hrok hrg hrg6 hcnt hxl hpp htl
     go_upto_region 10 with (fail)
     clear hen
     refine zr_ (z := 10) (S := (fun X => Below w6.heap.size w6 X)) Xt3 ((Below.refl _ _).drew) fun hH => ?_
     refine tlk 0 rfl Xt2 ?_
     refine tlk 1 rfl Xt2 ?_
     refine tlk 2 rfl Xt2 ?_
     refine tlk 3 rfl (fun W hSw => by have m0 := (HXX.out W hSw).1; exact tks) ?_
     refine tlk 4 rfl Xt2 ?_
     refine tlk 5 rfl Xt2 ?_
     refine tlk 6 rfl (fun W hSw => by have m0 := (HXX.out W hSw).2; exact tks) ?_
     refine tlk 7 rfl Xt2 ?_
     refine tlk 8 rfl Xt2 ?_
     refine tl1 9 rfl fun K hK => ?_
     go_simp
     refine (zZ_ _ r0.R _ _ rfl HBD.out.1 HBD.out.2 _ ((HR6.out).below hH)).mono ?_; rintro r w8 ⟨⟨v8, rfl, hc8⟩, hb8⟩
     obtain ⟨a8, c8, R8, hv8, hl8, hm8, hst8⟩ := xz_ (S := fun k => S2 k ∨ k = rr) hc8 rfl (fun k hk => Nat.lt_of_lt_of_le (HS6.out k hk) hH.size)
     subst hv8
     go_wp2_with fail
     have HC8 := hid (And.intro hl8 (And.intro hm8 hst8))
     have HB8 := hid (za_ hH hb8)
     refine hK.out _ _ HB8.out (fun hHeldn => ?_)
     clear hK K hH hc8 hb8 hl8 hm8 hst8; have hH := hHeldn; clear hHeldn
     refine stP ?_
     refine tlz rfl fun K hK => ?_
     obtain ⟨w7, hrun, hmp7, hg7⟩ := HPUT.out _ hH ⟨a8, c8, R8⟩
     simp only [RV.v, HC8.out.1] at hrun
     go_simp
     refine hK.out _ _ ?_
     clear hK K
     refine stP ?_
     refine zz_ Xt3 ?_ _
     skip
     have o67 : Off (fun q => q = z.1) _ w7 := Off.of_map hg7 rfl
     have o7 : Off (fun q => q = z.1) w6 w7 := (Off.of HB8.out).trans o67
     have hP8 : (⟨a8, c8, R8⟩ : RV).P = r0.P := HC8.out.2.1
     have hPne : (⟨a8, c8, R8⟩ : RV).P ≠ [] := by rw [hP8]; intro e; have h1 : 1 <= r0.P.length := HKO.out.2.1; rw [e] at h1; simp at h1
     have hup := HM6.out.up HT4.out o7 hmp7 (fun e he => by
      rcases yW_.1 he with he | he
      ·exact (HM6.out.rows _ HMT.out e he.1).off (o7.mono fun q hq => by cases hq; exact HM6.out.hS (z.1, L') HMT.out)
      ·have e2 := he.2
       injection e2 with e2
       rw [← e2]
       exact HC8.out.2.2.off (o67.mono fun q hq => by cases hq; exact HM6.out.hS (z.1, L') HMT.out)) (by rw [jS_ _ _ _ hPne]; exact (HM6.out.lim _ HMT.out).set HKO.out.1 fun e => by rw [hP8]; exact HKO.out.2)
     have hz1 : zS_ m2 z.1 := HSM4.out.mem (x := (z.1, L')) HMT.out
     have hzS : S2 z.1 := by obtain ⟨q, hq, e⟩ := hz1; rw [e]; exact HM2.out.hS q hq
     have hrg7 := HRG6.out.kept (Off.grown o7) (by
      intro e
      injection e with e
      have h1 := (HH.out.maps x HXM.out).lt
      obtain ⟨q9, hq9, e9⟩ := hz1
      have := HSL.out q9 hq9
      omega) (by
      intro e
      injection e with e
      have h1 := HS2.out _ hzS
      have := H3W.out
      have := HRR.out
      omega)
     have HRG7 := hid hrg7
     have HUP := hid hup
     have HB7 := hid (Off.below HB6.out o7 HB6.out.size (fun q hq => by cases hq; obtain ⟨q9, hq9, e9⟩ := hz1; have := HSL.out q9 hq9; omega))
     have HS7 := hid o7.size
     have HLN := hid (qC_ (HM6.out.maps _ HMT.out).ris K (some (⟨a8, c8, R8⟩ : RV)))
     have HCP7 := hid (HCP.out.step (HM6.out.maps _ HMT.out).ris HKR.out.1 HR0.out hP8)
     clear o7 o67 hmp7 hg7 hup hrun hH hP8 hPne hz1 hzS hrg7
     go_wp2_with fail
     go_roundw
     case rel =>
      refine ⟨_, cnt2, xY_ L' K (some (⟨a8, c8, R8⟩ : RV)), _, HRG7.out, HCP7, hid ?_, HUP, hid (HSM4.out.set HT4.out _), hid ?_, hid ?_, hid ?_, HB7, hid (by have := HW6.out; have := HS7.out; omega)⟩
      ·have := HLC.out; have h5 : (xY_ L' K (some (⟨a8, c8, R8⟩ : RV))).length <= L'.length + 1 := HLN.out; have := HLT.out
       omega
      ·show (m4.tabs.set k _)[k]? = _
       rw [List.getElem?_set_self (List.getElem?_eq_some_iff.1 HT4.out).1]
      ·unfold Md.P
       show (m4.tabs.set k _).map _ = _
       rw [List.map_set]
       have h4 := HP4.out
       unfold Md.P at h4
       rw [h4, List.set_set]
      ·intro i q hi hq
       have hq : (m4.tabs.set k (z.1, xY_ L' K (some (⟨a8, c8, R8⟩ : RV))))[i]? = some q := hq
       rw [List.getElem?_set_ne Xt0] at hq
       exact HZ4.out i q hi hq
     case measure =>
      rw [HRG7.out.left_eq, HLQ.out]; exact HLT.out
  ·have d1 : ¬ (k : Int) < (m.tabs.length : Int) := by omega
   have hke : k = m.tabs.length := by omega
   have HPE := hid (show m3.P = m.P by
    rw [HP3.out, List.take_of_length_le (by rw [Md.P_len]; omega), show m.P.length - k = 0 by rw [Md.P_len]; omega]; simp)
   clear hke
   have hpp : m3.p = m2.p := HSM.out.p
   have HPP := hid hpp
   clear hpp
   go_wp2_with fail
   go_ret
   obtain ⟨a, c, e⟩ := HJ2.out
   refine ⟨S2, m3, by rw [HPP.out]; rfl, HBW.out, HM3.out, HST.out.1, HST.out.2, fun k hk => Nat.lt_of_lt_of_le (HS2.out k hk) H3W.out, fun x hx => (by obtain ⟨q', hq', e'⟩ := HSM.out.mem hx; rw [e']; exact HSL.out q' hq'), ⟨a, c, by rw [HSM.out.j]; exact e⟩, HPE.out⟩
def lenP (T : List (List Pr)) : Nat := (T.map List.length).sum
theorem lenP_take {T : List (List Pr)} {k : Nat} {t : List Pr} (h : T[k]? = some t) : lenP (T.take (k + 1)) = lenP (T.take k) + t.length := by
 unfold lenP
 rw [List.take_add_one, h, List.map_append, List.sum_append]
 simp
theorem lenP_le (T : List (List Pr)) (N : Nat) (h : ∀ t ∈ T, t.length <= N) : lenP T <= T.length * N := by
 induction T with
 | nil => simp [lenP]
 | cons t T ih =>
  have h1 := h t (List.mem_cons_self ..)
  have h2 := ih fun x hx => h x (List.mem_cons_of_mem _ hx)
  unfold lenP at *
  rw [List.map_cons, List.sum_cons, List.length_cons, Nat.add_mul]
  omega
theorem mlen_law {S : Nat -> Prop} {m : Md} {w : World} (h : MdR S w m) (hf : ∀ z ∈ m.tabs, z.2.length <= 900000) : Calls prog 33 #[.pointer (some ⟨m.p, 0, none⟩)] w fun r w' => r = .returned (.int .i64 (lenP m.P : Int)) /\ w' = w := by
 have HH := hid h
 have HF := hid hf
 have HNO := hid (zX_ h)
 have c7 := h.c
 have hm4 := h.few
 have hml : (m.tabs.length : Int) <= 1000000 := by omega
 clear h hf
 go_enter func33, ntmps33
 go_wp2_with fail
 refine HNO.out.mono ?_; rintro r w' ⟨rfl, rfl⟩
 go_wp2_with fail
 clear c7
 go_loopw [3, 14] (fun s i wr => ∃ k : Nat, k <= m.tabs.length /\ i = .int .i64 (k : Int) /\ s = .int .i64 (lenP (m.P.take k) : Int) /\ wr = w) (fun _ i _ => m.tabs.length - (intOf i).toNat)
 case atStart => exact ⟨0, by omega, rfl, rfl, rfl⟩
 case round =>
  obtain ⟨k, hk, rfl, rfl, rfl⟩ := hrel
  by_cases hlt : k < m.tabs.length
  ·have d1 : (k : Int) < (m.tabs.length : Int) := by omega
   obtain ⟨x, hx⟩ : ∃ x, m.tabs[k]? = some x := ⟨_, List.getElem?_eq_getElem hlt⟩
   have hxm := List.mem_of_getElem? hx
   have ct := HH.out.st.now.tab k x hx
   have hown := (HH.out.maps x hxm).own
   have hP : m.P[k]? = some (yh_ x.2) := by unfold Md.P; rw [List.getElem?_map, hx]; rfl
   have hb1 := HF.out x hxm
   have hs1 := lenP_take hP
   have hs2 : lenP (m.P.take k) <= 3600000 := by
    have h1 := lenP_le (m.P.take k) 900000 (fun t ht => by
     obtain ⟨z, hz, rfl⟩ := List.mem_map.1 (List.mem_of_mem_take ht)
     unfold yh_; rw [List.length_map]; exact HF.out z hz)
    have h2 : (m.P.take k).length <= 4 := by rw [List.length_take, Md.P_len]; omega
    exact Nat.le_trans h1 (Nat.le_trans (Nat.mul_le_mul_right 900000 h2) (Nat.le_of_eq rfl))
   have htl : (yh_ x.2).length = x.2.length := by unfold yh_; exact List.length_map _
   have HS := hid (And.intro hs1 (And.intro hs2 (And.intro htl hb1)))
   have hln : ∀ ty, (Builtin.len_ #[90] ty #[.map (some x.1)]).run prog _ = .ok (.int .i64 (x.2.length : Int)) _ := fun ty => by
    have := hown.len underlying90 ty
    rw [yB_] at this; exact this
   have hi1 : (lenP (m.P.take k) : Int) <= 3600000 := by omega
   have hi2 : (x.2.length : Int) <= 900000 := by omega
   clear hs1 hs2 htl hb1 hP hx hxm hown
   go_wp2_with fail
   go_roundw
   case rel =>
    refine ⟨k + 1, by omega, by go_num, ?_, trivial⟩
    obtain ⟨a1, a2, a3, a4⟩ := HS.out
    rw [a1, a3]
    go_num
   case measure => simp [intOf]; omega
  ·have d1 : ¬ (k : Int) < (m.tabs.length : Int) := by omega
   have hte : m.P.take k = m.P := List.take_of_length_le (by rw [Md.P_len]; omega)
   rw [hte]
   clear hte
   go_wp2_with fail
   go_ret
   exact ⟨rfl, rfl⟩
end
end Go.Proofs.YthmofoldmdafoaaGreat
