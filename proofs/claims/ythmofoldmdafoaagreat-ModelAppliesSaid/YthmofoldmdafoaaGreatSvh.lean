/- Part of the proof that ModelApplies holds for every input: writes that are done on tables leave them as the document says. Part 8. -/
import Derived.Test.YthmofoldmdafoaaGreatSvg
set_option linter.unusedVariables false
set_option linter.unusedSimpArgs false
set_option maxRecDepth 100000
set_option maxHeartbeats 4000000
namespace Go.Proofs.YthmofoldmdafoaaGreat
open Go.ChangeShapes Go.WideShapes Go.ChangeAt Go.RowKit
open Go.Lib (hid)
open Go.Proofs.Tryz
section
open Go.Maps
theorem Off.of_row {W W' : World} {row : Option Nat} (h : W.grownBy W' row) : Off (fun k => row = some k) W W' := ⟨h.os, h.tape, h.output, h.size, fun k hk hn => h.block k hk fun e => hn e.symm⟩
def xS_ (l : List (Nat × List Int × List (List Int))) (t : Nat) (K : List Int) (R : List (List Int)) : List (Nat × List Int × List (List Int)) :=
 if l.any (fun w => decide (w.1 = t /\ w.2.1 = K)) then l.map (fun w => if w.1 = t /\ w.2.1 = K then (t, K, R) else w) else l ++ [(t, K, R)]
def WtV.P (y : WtV) : Nat × List Int × List (List Int) := (y.t, y.K, y.r.P)
theorem xF_ {α β : Type} {l : List (α × β)} {t : Nat} {y : α × β} {z : β} (h : l[t]? = some y) : (l.set t (y.1, z)).map Prod.fst = l.map Prod.fst := by
 apply List.ext_getElem?
 intro k
 rw [List.getElem?_map, List.getElem?_map]
 by_cases e : t = k
 ·subst e
  rw [List.getElem?_set_self (List.getElem?_eq_some_iff.1 h).1, h]; rfl
 ·rw [List.getElem?_set_ne e]
theorem Off.set2 {S : Nat -> Prop} {W W' : World} (h : Off S W W') (p : Addr) (hp : S p.block ∨ W.heap.size <= p.block) (v : Value) : Off S W (W'.setCell p v) :=
 ⟨h.os, h.tape, h.output, by simpa using h.size, fun k hk hn => by
  have hne : k ≠ p.block := fun e => by
   subst e
   rcases hp with hp | hp
   ·exact hn hp
   ·omega
  rw [Below.heap_setCell _ _ _ k hne]
  exact h.block k hk hn⟩
theorem qD_ {α : Type} {L : List (List Int × α)} (h : Ris Prod.fst L) (K : List Int) (o : Option α) : (qb_ L K o).length <= L.length + 1 := by
 have h1 := congrArg List.length (ne_lt (K := K) h)
 have h2 := List.length_filter_le (fun p : List Int × α => !decide (p.1 = K)) L
 rw [List.length_append] at h1
 unfold qb_
 rw [List.length_append, List.length_append, List.length_map]
 have h3 : o.toList.length <= 1 := by cases o <;> simp
 omega
theorem coh_new {L : List (List Int × Nat)} {ws : List WtV} {t : Nat} {K : List Int} (hL : Ris Prod.fst L) (h : ∀ (K : List Int) (i : Nat), z1_ L K = some i ↔ ∃ w : WtV, ws[i]? = some w /\ w.t = t /\ w.K = K) (hn : z1_ L K = none) (z : WtV) (hz : z.t = t) (hk : z.K = K) (K' : List Int) (i : Nat) :
  z1_ (qb_ L K (some ws.length)) K' = some i ↔ ∃ w : WtV, (ws ++ [z])[i]? = some w /\ w.t = t /\ w.K = K' := by
 rw [getM_set hL]
 by_cases e : K' = K
 ·subst e
  rw [if_pos rfl]
  constructor
  ·intro hi
   cases hi
   exact ⟨z, by simp, hz, hk⟩
  ·rintro ⟨v, h1, h2, h3⟩
   by_cases hl : i < ws.length
   ·rw [List.getElem?_append_left hl] at h1
    have := (h K' i).2 ⟨v, h1, h2, h3⟩
    rw [hn] at this; cases this
   ·have := (List.getElem?_eq_some_iff.1 h1).1
    simp at this
    rw [show i = ws.length by omega]
 ·rw [if_neg e, h]
  constructor
  ·exact Xb96
  ·rintro ⟨v, h1, h2, h3⟩
   by_cases hl : i < ws.length
   ·rw [List.getElem?_append_left hl] at h1
    exact ⟨v, h1, h2, h3⟩
   ·have := (List.getElem?_eq_some_iff.1 h1).1
    simp at this
    rw [show i = ws.length by omega] at h1
    simp at h1
    subst h1
    exact absurd (h3.symm.trans hk) e
theorem coh_oth {L : List (List Int × Nat)} {ws : List WtV} {t : Nat} (h : ∀ (K : List Int) (i : Nat), z1_ L K = some i ↔ ∃ w : WtV, ws[i]? = some w /\ w.t = t /\ w.K = K) (z : WtV) (hz : z.t ≠ t) (K' : List Int) (i : Nat) :
  z1_ L K' = some i ↔ ∃ w : WtV, (ws ++ [z])[i]? = some w /\ w.t = t /\ w.K = K' := by
 rw [h]
 constructor
 ·exact Xb96
 ·rintro ⟨v, h1, h2, h3⟩
  by_cases hl : i < ws.length
  ·rw [List.getElem?_append_left hl] at h1
   exact ⟨v, h1, h2, h3⟩
  ·have := (List.getElem?_eq_some_iff.1 h1).1
   simp at this
   rw [show i = ws.length by omega] at h1
   simp at h1
   subst h1
   exact absurd h2 hz
theorem setW_new {S : Nat -> Prop} {base : Nat} {w : World} {m : Md} {x : Tl} (h : TlR S base w m x) {t : Nat} {y : Nat × List (List Int × Nat)} (hy : x.wm[t]? = some y) {K : List Int} (hi : z1_ y.2 K = none) (R : List (List Int)) : xS_ (x.ws.map WtV.P) t K R = x.ws.map WtV.P ++ [(t, K, R)] := by
 unfold xS_
 rw [if_neg]
 simp only [List.any_map, List.any_eq_true, not_exists, not_and]
 intro z hz
 have := h.find_none hy hi
 rw [List.find?_eq_none] at this
 exact this z hz
theorem tset_new {S : Nat -> Prop} {base : Nat} {w : World} {m : Md} {x : Tl} (h : TlR S base w m x) (hbs : base <= w.heap.size) (t : Nat) (ht : t < m.tabs.length) (Ky : List Int) (ok : zH_ Ky) (ka : Option Addr) (kn kc : Nat) (hK : Ky.length = kn) (hk : zs_ (Ab S base) w fun W => Ls .u8 W ka kc Ky)
  (ra : Option Addr) (rn rc : Nat) (R : List P1) (hR : R.length = rn) (okR : R ≠ [] -> rOk (R.map P1.bs)) (hr : zs_ (Ab S base) w fun W => RdR W ra R) (hf : x.ws.length < 1000) (y : Nat × List (List Int × Nat)) (hy : x.wm[t]? = some y) (hi : z1_ y.2 Ky = none) (hyl : y.2.length <= 1000000) :
  Calls prog 140 #[.pointer (some ⟨x.px, 0, none⟩), .int .i64 (t : Int), .slice ka kn kc, .slice ra rn rc] w fun r w' => r = .returned (.tuple #[]) /\ ∃ S' x', TSt S S' base w m x w' x' /\ x'.ws.map WtV.P = xS_ (x.ws.map WtV.P) t Ky (R.map P1.bs) := by
 obtain ⟨c0, c1, c2, c3, c4⟩ := h.c
 have hfew := h.md.few
 have hwl := h.wlen
 have ht0 : ¬ (t : Int) < 0 := by omega
 have ht2 : (t : Int) < (x.wm.length : Int) := by omega
 have hl2 : (x.wm.length : Int) <= 1000000 := by omega
 have hkn : kn <= 1000000 := by have := ok.2; omega
 have hym := List.mem_of_getElem? hy
 have HX := hid (fun X (b : Below w.heap.size w X) => (⟨tcb b c1, (h.below b).st.now.tab t y hy, zA_ X ka kn kc Ky hK (hk.below b).now.rd, by have := ((h.below b).wmaps y (List.mem_of_getElem? hy)).look (t := 173) (e := 3) underlying173 (zero3 X) ok.1 (xI_ Xt0); rw [hi] at this; exact this⟩ : X.cell? ⟨x.px, 1, none⟩ = some (.slice (some ⟨x.bw, 0, none⟩) x.wm.length x.wc) /\ X.cell? ⟨x.bw, t, none⟩ = some (.map (some y.1)) /\ (convert 42 9 (.slice ka kn kc)).run prog X = .ok (.string (strOfNums Ky)) X /\ (Instr.lookup 173 (.map (some y.1)) (.string (strOfNums Ky)) true).run prog X = .ok (.tuple #[.int .i64 0, .bool false]) X))
 obtain ⟨av, cv, hv⟩ := zd_ h.own
 have ho := h.own
 rw [hv] at ho c2
 have HH := hid h
 have HM3 := hid (fun X (b : Below w.heap.size w X) => ((h.wmaps y hym).below b).store (t := 173) (e := 3) underlying173 ok.1 Xt0 hyl x.ws.length)
 have hne1 : y.1 ≠ x.px := (h.wmaps y hym).ne_box h.box
 have hne2 : ∀ g, Value.ownBlock (.slice av x.ws.length cv) = some g -> g ≠ y.1 /\ g ≠ x.px := fun g hg => by
  obtain ⟨_, _, cur, hb⟩ := zb_ ho hg
  exact ⟨fun e => (h.wmaps y hym).ne_box hb e.symm, zp_ hb h.box Xt4⟩
 have HNE := hid (And.intro hne1 hne2)
 have HBD := hid h.bd
 have HBS := hid hbs
 have HOW0 := hid ho
 have HV := hid hv
 have HKR := hid (And.intro hk hr)
 have HK0 := hid (And.intro hK (And.intro hkn ok))
 have HR0 := hid (And.intro hR okR)
 have hwl1 : (x.ws.length : Int) <= 1000 := by omega
 have HYM := hid (And.intro hym hy)
 have HI := hid hi
 clear hi h hy hwl ht ok hK hfew ho hv hk hr okR hR c0 c1 c3 c4 hne1 hne2 hym hbs hyl
 go_enter func140, ntmps140
 go_upto_region 0 with (fail)
 refine rgw w (Below.refl _ _).drew fun hH => ?_
 refine tkq3 0 1 2 ?_
 refine tkr 3 rfl Xf2 ?_
 refine tkq2 4 5 ?_
 refine tkr 6 rfl Xf4 ?_
 refine tkq 7 ?_
 refine tkr 8 rfl Xf3 ?_
 refine tkr 9 rfl Xf7 ?_
 refine tkq4 10 11 12 13 ?_
 refine tkq 14 ?_
 refine adn ?_
 skip
 have HBK := hid (hH : Below w.heap.size w w.drew)
 clear hH
 go_upto_region 3 with (fail)
 refine zq_ (z := 10) (S := (fun X => Below w.heap.size w X)) Xt3 (HBK.out.drew) fun hH => ?_
 refine tlk 0 rfl Xt2 ?_
 refine tlk 1 rfl Xt2 ?_
 refine tlk 2 rfl Xt2 ?_
 refine tlk 3 rfl Xf2 ?_
 refine tlk 4 rfl Xt2 ?_
 refine tlk 5 rfl Xt2 ?_
 refine tlk 6 rfl Xf4 ?_
 refine tlk 7 rfl Xt2 ?_
 refine tlk 8 rfl Xf3 ?_
 refine tlk 9 rfl Xt2 ?_
 refine tlz rfl fun K hK => ?_
 obtain ⟨w5, hrun, hmp5, hg5⟩ := HM3.out _ hH
 simp only [iV] at hrun
 go_simp
 refine hK.out _ _ ?_
 clear hK K
 refine stP ?_
 refine zv_ Xt3 ?_ _
 skip
 have o5 : Off (fun k => k = y.1) w w5 := (Off.of hH).trans (Off.of_map hg5 rfl)
 have HO5 := hid o5
 have HM5 := hid hmp5
 have HS5 := hid o5.size
 have HOW := hid (zn_ HOW0.out o5 (fun g hg e => (HNE.out.2 g hg).1 e))
 have HBX := hid (fun X (o : Off (fun k => Value.ownBlock (.slice av x.ws.length cv) = some k) w5 X) => o.box (o5.box HH.out.box (fun e => HNE.out.1 e.symm)) (fun e => (HNE.out.2 _ e).2 rfl))
 have HC2 := hid (fun X (o : Off (fun k => Value.ownBlock (.slice av x.ws.length cv) = some k) w5 X) => (by rw [(HBX.out X o).cell]; show some x.wv = _; rw [HV.out] : X.cell? ⟨x.px, 2, none⟩ = some (.slice av x.ws.length cv)))
 have HIN := hid (fun X (o : Off (fun k => Value.ownBlock (.slice av x.ws.length cv) = some k) w5 X) => (o5.mono (fun k hk => by rw [hk]; exact ⟨HH.out.hm y HYM.out.1, HH.out.low y HYM.out.1⟩) : Off (Ab S base) w w5).trans (o.mono fun k hk => ⟨HH.out.hw k Xt83, (zb_ HOW0.out hk).1⟩))
 have HKK := hid (And.intro HK0.out.1 (And.intro HK0.out.2.1 (fun X o => HKR.out.1 X (HIN.out X o))))
 clear hH o5 hmp5 hg5 hrun
 go_upto_region 4 with (fail)
 refine zq_ (z := 13) (S := (fun X => Off (fun k => Value.ownBlock (.slice av x.ws.length cv) = some k) w5 X)) Xt3 ((Off.refl _ _).drew) fun hH => ?_
 refine tlk 0 rfl Xt2 ?_
 refine tlk 1 rfl Xt2 ?_
 refine tlk 2 rfl Xt2 ?_
 refine tlk 3 rfl Xt2 ?_
 refine tlk 4 rfl (fun W hSw => by have m := HC2.out W hSw; exact tks) ?_
 refine tlk 5 rfl Xt2 ?_
 refine tlk 6 rfl Xt2 ?_
 refine tl1 7 rfl fun K hK => ?_
 go_simp
 refine (Q3_ ka Ky kn kc HKK.out.1 HKK.out.2.1 _ (HKK.out.2.2 _ hH)).mono ?_; rintro r w6 ⟨⟨a6, c6, rfl, ho6⟩, hb6⟩
 go_wp2_with fail
 have HO6 := hid (jZ_ ho6 HKK.out.1 (fun k hk => Nat.lt_of_lt_of_le (HBD.out k hk) (Nat.le_trans HS5.out hH.size)))
 have HBC := hid (((Below.refl w5.heap.size w5).drew).trans hb6)
 have HB6 := hid (hH.then hb6)
 refine hK.out _ _ HB6.out (fun hHeldn => ?_)
 clear hK K hH ho6 hb6; have hH := hHeldn; clear hHeldn
 refine stP ?_
 refine tlk 8 rfl Xt2 ?_
 refine tl1 9 rfl fun K hK => ?_
 go_simp
 have HB7 := hid (HB6.out.then (bl1 w6 (.cells #[.int .i64 (t : Int), .slice a6 kn c6, .slice none 0 0] 84)))
 have HBC7 := hid (za_ HBC.out (bl1 w6 (.cells #[.int .i64 (t : Int), .slice a6 kn c6, .slice none 0 0] 84)))
 refine hK.out _ _ HB7.out fun hH => ?_
 refine stP ?_
 refine tl1 10 rfl fun K hK => ?_
 have hown := ze_ HOW.out HBC7.out
 refine zC_ Qk_ rfl _ _ rfl base (.slice av x.ws.length cv) x.ws.length (cellsOf wcl x.ws) rfl hown ⟨w6.heap.size, 0, none⟩ 1 1 [.int .i64 (t : Int), .slice a6 kn c6, .slice none 0 0] rfl rfl (zy_ w6 _ _ _ rfl) Xt33 Xt0 (Nat.le_trans HBS.out (Nat.le_trans HS5.out hH.size)) ?_
 intro v9 w9 hown9 hgrow9 hat9
 obtain ⟨a9, c9, hv9⟩ := zd_ hown9
 subst hv9
 have HAT := hid hat9
 clear hat9
 have HO9 := hid hown9
 have HG9 := hid hgrow9
 have HB9 := hid (hH.trans (Off.of_row hgrow9))
 refine hK.out _ _ HB9.out (fun hHeldn => ?_)
 clear hK K hH hown hown9 hgrow9; have hH := hHeldn; clear hHeldn
 refine stP ?_
 refine tlf 11 rfl Xt2 ?_
 refine tlk 12 rfl Xt2 ?_
 refine tlz rfl fun K hK => ?_
 have x4 := HC2.out _ HB9.out
 have f4 := (HBX.out _ HB9.out).frozen 2
 go_simp
 refine hK.out _ _ ?_
 clear hK K x4 f4
 refine stP ?_
 refine zv_ Xt3 ?_ _
 skip
 have HC9 := hid (zt_ (sz := 3) zP_ Xt0 (xs := x.ws ++ [⟨t, a6, c6, Ky, ⟨none, 0, []⟩⟩]) (by rw [zr_]; simpa [cellsOf, wcl, RV.v, HK0.out.1] using HO9.out) Xt5 x.ws.length ⟨t, a6, c6, Ky, ⟨none, 0, []⟩⟩ Xt5)
 have hc9 := HC9.out
 obtain ⟨g9, hg9, hb9, _⟩ := hc9
 subst hg9
 have HBX9 := hid (HBX.out _ HB9.out)
 have hgp : g9 ≠ x.px := by
  obtain ⟨_, _, cur, hb⟩ := zb_ HO9.out rfl
  exact zp_ hb HBX9.out Xt4
 have HGP := hid hgp
 have HB9g := hid hb9
 obtain ⟨w10, hw10⟩ := gty (w9.setCell ⟨x.px, 2, none⟩ (.slice (some ⟨g9, 0, none⟩) (x.ws.length + 1) c9))
 rw [← hw10]
 have HOX := hid (by rw [hw10]; exact ownsRow_setCell_other HO9.out (by simp [Value.ownBlock]; exact HGP.out) _ : w10.ownsRow base 84 3 (.slice (some ⟨g9, 0, none⟩) (x.ws.length + 1) c9) (x.ws.length + 1) (cellsOf wcl x.ws ++ [.int .i64 (t : Int), .slice a6 kn c6, .slice none 0 0]))
 have HBX10 := hid (by rw [hw10]; exact heap_setCell_same w9 x.px 2 (x.cs m) 123 _ HBX9.out : zg_ w10 x.px ((x.cs m).setIfInBounds 2 (.slice (some ⟨g9, 0, none⟩) (x.ws.length + 1) c9)) 123)
 have HW10 := hid hw10
 have HOF := hid (by rw [hw10]; exact Off.set2 (S := fun k => k = y.1 ∨ k = x.px ∨ Value.ownBlock (.slice av x.ws.length cv) = some k) ((HO5.out.mono (fun k hk => Or.inl hk)).trans (HB9.out.mono fun k hk => Or.inr (Or.inr hk))) ⟨x.px, 2, none⟩ (Or.inl (Or.inr (Or.inl rfl))) _ : Off (fun k => k = y.1 ∨ k = x.px ∨ Value.ownBlock (.slice av x.ws.length cv) = some k) w w10)
 have HBD10 := hid (fun k (hk : S k ∨ k = g9) => (by
  rcases hk with hk | rfl
  ·exact Nat.lt_of_lt_of_le (HBD.out k hk) HOF.out.size
  ·exact (zb_ HOX.out rfl).2.1 : k < w10.heap.size))
 have HW5 := hid (fun X (b : Below w10.heap.size w10 X) => (by rw [(HBX10.out.below b).cell]; rfl : X.cell? ⟨x.px, 2, none⟩ = some (.slice (some ⟨g9, 0, none⟩) (x.ws.length + 1) c9)))
 have HZ5 := hid (fun X (b : Below w10.heap.size w10 X) => (by
  have ow := ze_ HOX.out b
  refine ⟨?_, ow.frozenAt _⟩
  rw [ow.cellAt (x.ws.length * 3 + 2) Xt0, List.getElem?_append_right (by rw [zK_ zP_]; omega), zK_ zP_, show x.ws.length * 3 + 2 - x.ws.length * 3 = 2 by omega]
  rfl : X.cell? ⟨g9, x.ws.length * 3 + 2, none⟩ = some (.slice none 0 0) /\ X.frozen? ⟨g9, x.ws.length * 3 + 2, none⟩ = false))
 have HTS := hid (fun k (hk : k = y.1 ∨ k = x.px ∨ Value.ownBlock (.slice av x.ws.length cv) = some k) => (by
  rcases hk with rfl | rfl | hk
  ·exact ⟨HH.out.hm y HYM.out.1, HH.out.low y HYM.out.1⟩
  ·exact ⟨HH.out.hp, HH.out.lo⟩
  ·exact ⟨HH.out.hw k Xt83, (zb_ HOW0.out hk).1⟩ : S k /\ base <= k))
 have HRR := hid (And.intro HR0.out.1 (And.intro (show rn <= 9000 by
  by_cases e : R = []
  ·rw [← HR0.out.1, e]; simp
  ·have := (HR0.out.2 e).2.1; have := HR0.out.1; rw [List.length_map] at *; omega) (And.intro (show ∀ q ∈ R, q.bs.length <= 9000 from fun q hq => by
  have := ((HR0.out.2 (fun e => by rw [e] at hq; simp at hq)).2.2 q.bs (List.mem_map.2 ⟨q, hq, rfl⟩)).2; omega) (fun X (b : Below w10.heap.size w10 X) => HKR.out.2 X ((HOF.out.mono fun k hk => HTS.out k hk).then b)))))
 have hi2 : (x.ws.length : Int) < (x.ws.length : Int) + 1 := by omega
 have hi3 : ¬ (x.ws.length : Int) < 0 := by omega
 have hi4 : ((x.ws.length + 1 : Nat) : Int) <= 1000000 := by omega
 clear hH hb9 hgp hw10
 go_upto_region 5 with (fail)
 refine zq_ (z := 9) (S := (fun X => Below w10.heap.size w10 X)) Xt3 ((Below.refl _ _).drew) fun hH => ?_
 refine tlk 0 rfl Xt2 ?_
 refine tlk 1 rfl Xt2 ?_
 refine tlk 2 rfl Xt2 ?_
 refine tlk 3 rfl (fun W hSw => by have m := HW5.out W hSw; exact tks) ?_
 refine tlk 4 rfl Xt2 ?_
 refine tlk 5 rfl Xt2 ?_
 refine tl1 6 rfl fun K hK => ?_
 go_simp
 refine (zV_ ra R rn rc HRR.out.1 HRR.out.2.1 HRR.out.2.2.1 _ (HRR.out.2.2.2 _ (hH))).mono ?_; rintro r w8 ⟨⟨v8, rfl, hc8⟩, hb8⟩
 obtain ⟨a8, c8, R8, hv8, hl8, hm8, hst8⟩ := xu_ (S := (fun k => S k ∨ k = g9)) hc8 HRR.out.1 (fun k hk => Nat.lt_of_lt_of_le (HBD10.out k hk) hH.size)
 subst hv8
 go_wp2_with fail
 have HC8 := hid (And.intro hl8 (And.intro hm8 hst8))
 have HB8 := hid (za_ hH hb8)
 refine hK.out _ _ HB8.out (fun hHeldn => ?_)
 clear hK K hH hc8 hb8 hl8 hm8 hst8; have hH := hHeldn; clear hHeldn
 refine stP ?_
 refine tlf 7 rfl Xt2 ?_
 refine tlk 8 rfl Xt2 ?_
 refine tlz rfl fun K hK => ?_
 have hz := HZ5.out _ hH
 obtain ⟨x4, f4⟩ := hz
 go_simp
 refine hK.out _ _ ?_
 clear hK K x4 f4
 refine stP ?_
 refine zv_ Xt3 ?_ _
 skip
 refine bodyPost_end (v := .tuple #[]) (by simp [results, results140, go_sem]) rfl ?_
 clear hH
 have h := HH.out
 obtain ⟨hl8, hm8, hst8⟩ := HC8.out
 have hat := HAT.out
 simp only [Value.ownBlock] at hat
 have hg9t : Value.ownBlock (.slice av x.ws.length cv) = some g9 ∨ (w.heap.size <= g9 /\ w6.heap.size + 1 = g9) := by
  rcases hat with e | e
  ·exact .inl e.symm
  ·have h7 := HB7.out.size
   have h5 := HS5.out
   rw [World.size_alloc] at e h7
   cases e
   exact .inr ⟨by omega, rfl⟩
 have hg9s : S g9 ∨ w.heap.size <= g9 := hg9t.imp (fun e => h.hw _ Xt85) And.left
 have oFin : Off (fun k => k = y.1 ∨ k = x.px ∨ Value.ownBlock (.slice av x.ws.length cv) = some k) w (w8.setCell ⟨g9, x.ws.length * 3 + 2, none⟩ (.slice a8 rn c8)) :=
  (HOF.out.then HB8.out).set2 _ (hg9t.imp (fun e => .inr (.inr e)) And.left) _
 have hS1 : ∀ k, (fun k => S k ∨ k = g9) k -> S k ∨ w.heap.size <= k := fun k hk => by
  rcases hk with hk | rfl
  ·exact .inl hk
  ·exact hg9s
 have oo : Off (Mut x) w (w8.setCell ⟨g9, x.ws.length * 3 + 2, none⟩ (.slice a8 rn c8)) := oFin.mono fun k hk => by
  rcases hk with rfl | rfl | hk
  ·exact .inr (.inl ⟨y, HYM.out.1, rfl⟩)
  ·exact .inl rfl
  ·exact .inr (.inr Xt83)
 have ow8 := (ze_ HOX.out HB8.out).stored (x.ws.length * 3 + 2) (.slice a8 rn c8)
 have hym := HYM.out.1
 have hyt := HYM.out.2
 have hoz : Off (fun k => k = g9) w8 (w8.setCell ⟨g9, x.ws.length * 3 + 2, none⟩ (.slice a8 rn c8)) := Off.set (S := fun k => k = g9) (Off.refl _ w8) ⟨g9, x.ws.length * 3 + 2, none⟩ rfl _
 have hb10 : Off (fun k => k = x.px ∨ Value.ownBlock (.slice av x.ws.length cv) = some k ∨ k = g9) w5 (w8.setCell ⟨g9, x.ws.length * 3 + 2, none⟩ (.slice a8 rn c8)) := by
  refine Off.trans (W' := w10) ?_ (Off.trans (Off.of HB8.out) (hoz.mono fun k hk => .inr (.inr hk)))
  rw [HW10.out]
  exact (HB9.out.mono fun k hk => .inr (.inl hk)).set _ (.inl rfl) _
 refine ⟨rfl, fun k => S k ∨ k = g9, { x with wm := x.wm.set t (y.1, qb_ y.2 Ky (some x.ws.length)), wv := .slice (some ⟨g9, 0, none⟩) (x.ws.length + 1) c9, ws := x.ws ++ [⟨t, a6, c6, Ky, ⟨a8, c8, R8⟩⟩] }, ⟨?_, fun k hk => .inl hk, hS1, oo, ?_, rfl, rfl, rfl, rfl, rfl⟩, ?_⟩
 ·refine h.next oFin HTS.out { x with wm := x.wm.set t (y.1, qb_ y.2 Ky (some x.ws.length)), wv := .slice (some ⟨g9, 0, none⟩) (x.ws.length + 1) c9, ws := x.ws ++ [⟨t, a6, c6, Ky, ⟨a8, c8, R8⟩⟩] } rfl rfl rfl rfl ?_ ?_ ?_ ?_ ?_ _ (fun k hk => .inl hk) hS1 ?_ ?_ ?_ ?_ ?_ ?_ ?_ ?_ ?_ ?_
  ·rw [xF_ hyt]
  ·have b := hoz.box (HBX10.out.below HB8.out) (fun e => HGP.out e.symm)
   have e : ((x.cs m).setIfInBounds 2 (.slice (some ⟨g9, 0, none⟩) (x.ws.length + 1) c9)) = #[.pointer (some ⟨m.p, 0, none⟩), .slice (some ⟨x.bw, 0, none⟩) x.wm.length x.wc, .slice (some ⟨g9, 0, none⟩) (x.ws.length + 1) c9, x.rv, .func (.func 107) #[] #[.pointer (some ⟨x.bx, 0, none⟩), .pointer (some ⟨x.bm, 0, none⟩)]] := rfl
   rw [e] at b
   unfold Tl.cs
   rw [List.length_set]
   exact b
  ·intro z hz
   have hyg : y.1 ≠ g9 := fun e => by
    rcases hg9t with e2 | e2
    ·exact (HNE.out.2 _ e2).1 e.symm
    ·have := (h.wmaps y hym).lt; omega
   obtain ⟨k, hk⟩ := List.mem_iff_getElem?.1 hz
   by_cases e : t = k
   ·subst e
    rw [List.getElem?_set_self (List.getElem?_eq_some_iff.1 hyt).1] at hk
    cases hk
    refine HM5.out.off hb10 (fun e2 => ?_)
    rcases e2 with e2 | e2 | e2
    ·exact HNE.out.1 e2
    ·exact (HNE.out.2 _ e2).1 rfl
    ·exact hyg e2
   ·rw [List.getElem?_set_ne e] at hk
    have hzm := List.mem_of_getElem? hk
    refine (h.wmaps z hzm).off oFin (fun e2 => ?_)
    rcases e2 with e2 | e2 | e2
    ·have h1 : (x.wm.map Prod.fst)[k]? = some y.1 := by rw [List.getElem?_map, hk, ← e2]; rfl
     have h2 : (x.wm.map Prod.fst)[t]? = some y.1 := by rw [List.getElem?_map, hyt]; rfl
     exact e ((List.getElem?_inj (by rw [List.length_map]; exact (List.getElem?_eq_some_iff.1 hyt).1) h.nod).1 (h2.trans h1.symm))
    ·exact (h.wmaps z hzm).ne_box h.box e2
    ·obtain ⟨_, _, cur, hb⟩ := zb_ HOW0.out e2
     exact (h.wmaps z hzm).ne_box hb rfl
  ·rw [List.length_append, zr_]
   have := ow8.1
   rw [List.set_append_right _ _ (by rw [zK_ zP_]; omega), zK_ zP_, show x.ws.length * 3 + 2 - x.ws.length * 3 = 2 by omega] at this
   simpa [cellsOf, wcl, RV.v, HK0.out.1, hl8] using this
  ·refine zn_ h.rown oFin (fun g hg e => ?_)
   obtain ⟨_, _, cur, hb⟩ := zb_ h.rown hg
   rcases e with e | e | e
   ·exact (h.wmaps y hym).ne_box hb e.symm
   ·exact zp_ hb h.box Xt4 e
   ·obtain ⟨_, _, cur2, hb2⟩ := zb_ HOW0.out e
    exact zp_ hb hb2 Xt4 rfl
  ·intro k hk
   exact Nat.lt_of_lt_of_le (HBD10.out k hk) (Nat.le_trans HB8.out.size hoz.size)
  ·intro g hg
   simp [Value.ownBlock] at hg
   exact .inr hg.symm
  ·intro g hg; exact .inl (h.hr g hg)
  ·intro z hz
   rcases List.mem_append.1 hz with hz | hz
   ·exact h.keepw oFin HTS.out hS1 z hz
   ·rw [List.mem_singleton] at hz
    subst hz
    have st6 : zs_ (fun k => S k ∨ k = g9) (w8.setCell ⟨g9, x.ws.length * 3 + 2, none⟩ (.slice a8 rn c8)) fun W' => Ls .u8 W' a6 c6 Ky := by
     have o6 : Off S w6 (w8.setCell ⟨g9, x.ws.length * 3 + 2, none⟩ (.slice a8 rn c8)) := by
      refine Off.set2 (S := S) (Off.trans (W' := w10) ?_ (Off.of HB8.out)) _ (hg9t.imp (fun e => h.hw _ Xt85) fun e => by show w6.heap.size <= g9; omega) _
      rw [HW10.out]
      refine Off.set (S := S) ?_ _ h.hp _
      exact (Off.of (bl1 w6 (.cells #[.int .i64 (t : Int), .slice a6 kn c6, .slice none 0 0] 84))).trans ((Off.of_row HG9.out).mono fun k hk => h.hw _ Xt83)
     refine HO6.out.step o6 (fun k hk => ?_)
     rcases hk with hk | rfl
     ·exact .inl hk
     ·exact hg9t.imp (fun e => h.hw _ Xt85) fun e => by omega
    have st8 : zs_ (fun k => S k ∨ k = g9) (w8.setCell ⟨g9, x.ws.length * 3 + 2, none⟩ (.slice a8 rn c8)) fun W' => RdR W' a8 R8 := hst8.off (hoz.mono fun k hk => .inr hk)
    exact fun W' o => ⟨st6 W' o, st8 W' o⟩
  ·intro z hz
   rcases List.mem_append.1 hz with hz | hz
   ·exact h.wok z hz
   ·rw [List.mem_singleton] at hz
    subst hz
    refine ⟨by show t < m.tabs.length; have := h.wlen; omega, HK0.out.2.2, fun hne => ?_⟩
    show rOk (R8.map P1.bs)
    rw [hm8]
    refine HR0.out.2 (fun e => hne ?_)
    rw [e] at hm8
    simpa using hm8
  ·exact h.keepr oFin HTS.out hS1
  ·intro t' z hz K' i
   have hrs := (h.wmaps y hym).ris
   by_cases e : t = t'
   ·subst e
    rw [List.getElem?_set_self (by have := (List.getElem?_eq_some_iff.1 hyt).1; exact this)] at hz
    cases hz
    exact coh_new hrs (h.coh t y hyt) HI.out _ rfl rfl K' i
   ·rw [List.getElem?_set_ne e] at hz
    exact coh_oth (h.coh t' z hz) _ e K' i
  ·intro z hz
   show z.2.length <= (x.ws ++ [_]).length
   rw [List.length_append, List.length_singleton]
   rcases List.mem_or_eq_of_mem_set hz with hz | rfl
   ·have := h.wl z hz; omega
   ·have := h.wl y hym
    have := qD_ (h.wmaps y hym).ris Ky (some x.ws.length)
    show (qb_ y.2 Ky (some x.ws.length)).length <= _
    omega
  ·show (x.ws ++ [_]).length <= 1000
   rw [List.length_append, List.length_singleton]; omega
  ·exact h.rfew
 ·intro k hk
  rcases hk with hk | ⟨z, hz, hk⟩ | hk
  ·exact .inl (.inl hk)
  ·rcases List.mem_or_eq_of_mem_set hz with hz | rfl
   ·exact .inl (.inr (.inl ⟨z, hz, hk⟩))
   ·exact .inl (.inr (.inl ⟨y, hym, hk⟩))
  ·simp [Value.ownBlock] at hk
   subst hk
   exact hg9t.imp (fun e => .inr (.inr Xt85)) And.left
 ·rw [List.map_append, setW_new h hyt HI.out]
  show _ ++ [(t, Ky, R8.map P1.bs)] = _
  rw [hm8]
theorem setW_old {S : Nat -> Prop} {base : Nat} {w : World} {m : Md} {x : Tl} (h : TlR S base w m x) {t : Nat} {y : Nat × List (List Int × Nat)} (hy : x.wm[t]? = some y) {K : List Int} {i : Nat} (hi : z1_ y.2 K = some i) (z : WtV) (wt : WtV) (h1 : x.ws[i]? = some wt) (hz : z.t = t) (hk : z.K = K) :
  (x.ws.set i z).map WtV.P = xS_ (x.ws.map WtV.P) t K z.r.P := by
 have hw : wt.t = t /\ wt.K = K := by
  obtain ⟨v, e1, e2, e3⟩ := (h.coh t y hy K i).1 hi
  rw [h1] at e1; cases e1; exact ⟨e2, e3⟩
 unfold xS_
 rw [if_pos]
 ·apply List.ext_getElem?
  intro k
  rw [List.getElem?_map, List.map_map, List.getElem?_map]
  by_cases e : i = k
  ·subst e
   rw [List.getElem?_set_self (List.getElem?_eq_some_iff.1 h1).1, h1]
   show some (z.P) = some (if wt.P.1 = t /\ wt.P.2.1 = K then _ else _)
   rw [if_pos (show wt.P.1 = t /\ wt.P.2.1 = K from hw)]
   show some (z.t, z.K, z.r.P) = _
   rw [hz, hk]
  ·rw [List.getElem?_set_ne e]
   cases hk2 : x.ws[k]? with
   | none => rfl
   | some v =>
    show some v.P = some (if v.P.1 = t /\ v.P.2.1 = K then _ else _)
    rw [if_neg (fun hv : v.P.1 = t /\ v.P.2.1 = K => ?_)]
    have := (h.coh t y hy K k).2 ⟨v, hk2, hv.1, hv.2⟩
    rw [hi] at this
    cases this
    exact e rfl
 ·rw [List.any_map, List.any_eq_true]
  exact ⟨wt, List.mem_of_getElem? h1, by show decide (wt.t = t /\ wt.K = K) = true; simp [hw]⟩
theorem tset_law {S : Nat -> Prop} {base : Nat} {w : World} {m : Md} {x : Tl} (h : TlR S base w m x) (hbs : base <= w.heap.size) (t : Nat) (ht : t < m.tabs.length) (K : List Int) (ok : zH_ K) (ka : Option Addr) (kn kc : Nat) (hK : K.length = kn) (hk : zs_ (Ab S base) w fun W => Ls .u8 W ka kc K)
  (ra : Option Addr) (rn rc : Nat) (R : List P1) (hR : R.length = rn) (okR : R ≠ [] -> rOk (R.map P1.bs)) (hr : zs_ (Ab S base) w fun W => RdR W ra R) (hf : x.ws.length < 1000) :
  Calls prog 140 #[.pointer (some ⟨x.px, 0, none⟩), .int .i64 (t : Int), .slice ka kn kc, .slice ra rn rc] w fun r w' => r = .returned (.tuple #[]) /\ ∃ S' x', TSt S S' base w m x w' x' /\ x'.ws.map WtV.P = xS_ (x.ws.map WtV.P) t K (R.map P1.bs) := by
 obtain ⟨y, hy⟩ : ∃ y, x.wm[t]? = some y := ⟨_, List.getElem?_eq_getElem Xt82⟩
 cases hi : z1_ y.2 K with
 | none => exact tset_new h hbs t ht K ok ka kn kc hK hk ra rn rc R hR okR hr hf y hy hi (by have := h.wl y (List.mem_of_getElem? hy); omega)
 | some i =>
  refine (tset_dev h hbs t ht K ok ka kn kc hK hk.now ra rn rc R hR okR hr.now hf y hy i hi).mono ?_
  rintro r w' ⟨rfl, wt, a8, c8, R8, w8, g, c, h1, ht1, hk1, hv, rfl, hl8, hm8, hb8, hst8⟩
  refine ⟨rfl, ?_⟩
  have how := h.own
  rw [hv] at how
  have hoz : Off (fun k => k = g) w8 (w8.setCell ⟨g, i * 3 + 2, none⟩ (.slice a8 rn c8)) := Off.set (S := fun k => k = g) (Off.refl _ w8) ⟨g, i * 3 + 2, none⟩ rfl _
  have o : Off (fun k => k = g) w (w8.setCell ⟨g, i * 3 + 2, none⟩ (.slice a8 rn c8)) := (Off.of hb8).trans hoz
  have hgo := zb_ how rfl
  have hT : ∀ k, (fun k => k = g) k -> S k /\ base <= k := fun k hk => by
   cases hk
   exact ⟨h.hw g (by rw [hv]; rfl), hgo.1⟩
  have hS' : ∀ k, S k -> S k ∨ w.heap.size <= k := fun k hk => .inl hk
  have ow8 := ((ze_ how hb8).stored (i * 3 + 2) (.slice a8 rn c8)).1
  have hil := (List.getElem?_eq_some_iff.1 h1).1
  refine ⟨S, { x with ws := x.ws.set i { wt with r := ⟨a8, c8, R8⟩ } }, ⟨?_, fun k hk => hk, hS', o.mono (fun k hk => by cases hk; exact .inr (.inr (by rw [hv]; rfl))), fun k hk => .inl hk, rfl, rfl, rfl, rfl, rfl⟩, ?_⟩
  ·refine h.next o hT { x with ws := x.ws.set i { wt with r := ⟨a8, c8, R8⟩ } } rfl rfl rfl rfl rfl ?_ ?_ ?_ ?_ S (fun k hk => hk) hS' ?_ h.hw h.hr ?_ ?_ ?_ ?_ ?_ ?_ h.rfew
   ·have hb := o.box h.box (fun e => by
     obtain ⟨_, _, cur, hb⟩ := hgo
     exact zp_ hb h.box Xt4 e.symm)
    exact hb
   ·intro z hz
    refine (h.wmaps z hz).off o (fun e => ?_)
    obtain ⟨_, _, cur, hb⟩ := hgo
    exact (h.wmaps z hz).ne_box hb e
   ·show World.ownsRow _ base 84 3 x.wv _ _
    rw [hv, List.length_set]
    rw [q9_ zP_ Xt0 x.ws i 2 wt { wt with r := ⟨a8, c8, R8⟩ } (.slice a8 rn c8) h1 Xt0 (by simp [wcl, RV.v, hl8])] at ow8
    exact ow8
   ·refine zn_ h.rown o (fun q hq e => ?_)
    obtain ⟨_, _, cur, hb⟩ := zb_ h.rown hq
    obtain ⟨_, _, cur2, hb2⟩ := hgo
    exact zp_ hb hb2 Xt4 e
   ·intro k hk
    exact Nat.lt_of_lt_of_le (h.bd k hk) o.size
   ·intro z hz
    rcases List.mem_or_eq_of_mem_set hz with hz | rfl
    ·exact h.keepw o hT hS' z hz
    ·have st8 := hst8.off (hoz.mono fun k hk => (hT k hk).1)
     have st6 := h.keepw o hT hS' wt (List.mem_of_getElem? h1)
     exact fun W' o => ⟨(st6 W' o).1, st8 W' o⟩
   ·intro z hz
    rcases List.mem_or_eq_of_mem_set hz with hz | rfl
    ·exact h.wok z hz
    ·have := h.wok wt (List.mem_of_getElem? h1)
     refine ⟨this.1, this.2.1, fun hne => ?_⟩
     show rOk (R8.map P1.bs)
     rw [hm8]
     refine okR (fun e => hne ?_)
     rw [e] at hm8
     simpa using hm8
   ·exact h.keepr o hT hS'
   ·intro t' z hz K' j
    rw [h.coh t' z hz K' j]
    show _ ↔ ∃ w, (x.ws.set i _)[j]? = some w /\ _
    by_cases e : i = j
    ·subst e
     rw [List.getElem?_set_self hil, h1]
     simp
    ·rw [List.getElem?_set_ne e]
   ·intro z hz
    show _ <= (x.ws.set i _).length
    rw [List.length_set]; exact h.wl z hz
   ·show (x.ws.set i _).length <= 1000
    rw [List.length_set]; exact h.few
  ·show (x.ws.set i _).map WtV.P = _
   rw [setW_old h hy hi { wt with r := ⟨a8, c8, R8⟩ } wt h1 ht1 hk1]
   show xS_ _ t K (R8.map P1.bs) = _
   rw [hm8]
theorem Qg_ (w : World) (s : ByteArray) : (convert 9 42 (.string s)).run prog w = .ok (.slice (some ⟨w.heap.size, 0, none⟩) s.size (grownCap w s.size 0 5)) (Lib.bytesWorld w 5 s) := Lib.run_convert_string_bytes w 9 42 5 s underlying9 underlying42 underlying5
theorem qK_ (w : World) (s : ByteArray) : Below w.heap.size w (Lib.bytesWorld w 5 s) := ⟨rfl, rfl, rfl, by rw [Lib.bytesWorld_size]; omega, fun k hk => Lib.bytesWorld_at_old w 5 s k hk⟩
theorem bw_wr {w W' : World} {s : ByteArray} (h : W'.heap[w.heap.size]? = (Lib.bytesWorld w 5 s).heap[w.heap.size]?) {n : Nat} (hn : s.size = n) : WrB W' 5 (some ⟨w.heap.size, 0, none⟩) n := fun b off e h0 => by
 cases e
 refine ⟨_, _, _, h.trans (Lib.bytesWorld_at_new w 5 s), fun k hk hh => ?_⟩
 have h1 := Lib.bytesWorld_cell w 5 s k Xt0
 have h2 := Lib.bytesWorld_at_new w 5 s
 have h3 : k < (Lib.bytesCells w 5 s).size := by
  unfold World.cell? at h1
  rw [h2] at h1
  simp only at h1
  exact (Array.getElem?_eq_some_iff.1 h1).1
 omega
theorem bw_stay {S : Nat -> Prop} (w : World) {K : List Int} (bK : Byt K) (hn : K.length <= maxLen) (hs : ∀ k, S k -> k < w.heap.size) : zs_ S (Lib.bytesWorld w 5 (strOfNums K)) fun W' => Ls .u8 W' (some ⟨w.heap.size, 0, none⟩) (grownCap w (strOfNums K).size 0 5) K /\ WrB W' 5 (some ⟨w.heap.size, 0, none⟩) K.length := fun W' o => by
 have h0 := o.block w.heap.size (by rw [Lib.bytesWorld_size]; omega) (fun hh => by have := hs _ hh; omega)
 refine ⟨?_, bw_wr h0 (xk_ K)⟩
 have hsz : (strOfNums K).size = K.length := xk_ K
 refine ⟨fun k hk => ⟨w.heap.size, 0, rfl, ?_⟩, fun e => (by cases e), ?_⟩
 ·have h1 := o.block w.heap.size (by rw [Lib.bytesWorld_size]; omega) (fun hh => by have := hs _ hh; omega)
  have h2 := Lib.bytesWorld_cell w 5 (strOfNums K) k (by rw [hsz]; exact hk)
  have h3 : W'.cell? ⟨w.heap.size, 0 + k, none⟩ = (Lib.bytesWorld w 5 (strOfNums K)).cell? ⟨w.heap.size, k, none⟩ := by
   rw [Nat.zero_add]
   simp only [World.cell?, h1]
  rw [h3, h2]
  have hb := bK.get k hk
  have e1 : (strOfNums K).data.toList = K.map fun x => UInt8.ofNat x.toNat := by rw [← ByteArray.toList_eq]; exact yQ_ K
  rw [e1, List.getD_eq_getElem?_getD, List.getElem?_map, List.getElem?_eq_getElem hk]
  rw [List.getD_eq_getElem?_getD, List.getElem?_eq_getElem hk] at hb ⊢
  simp only [Option.getD_some, Option.map_some] at hb ⊢
  rw [UInt8.toNat_ofNat', Nat.mod_eq_of_lt Xt0]
  congr 2
  omega
 ·rw [hsz]
  exact grownCap_ge w K.length 0 5
def PairO (w : World) (K : List Int) (R : List P1) (r : Ending) (w' : World) : Prop :=
 ∃ y : PrV, r = .returned (.agg #[.slice y.ka y.K.length y.kc, .slice y.ra y.R.length y.rc]) /\ y.K = K /\ y.R.map P1.bs = R.map P1.bs /\ Below w.heap.size w w' /\ ∀ S : Nat -> Prop, (∀ k, S k -> k < w.heap.size) -> zs_ S w' (fun W' => Ls .u8 W' y.ka y.kc y.K /\ RdR W' y.ra y.R /\ PrW W' y)
theorem pair_law (K : List Int) (bK : Byt K) (hn : K.length <= 1000000) (ra : Option Addr) (rn rc : Nat) (R : List P1) (hR : R.length = rn) (hrn : rn <= 9000) (hl : ∀ q ∈ R, q.bs.length <= 9000) (w : World) (hr : RdR w ra R) :
  Calls prog 114 #[.string (strOfNums K), .slice ra rn rc] w (PairO w K R) := by
 have HCS := hid (fun W => Qg_ W (strOfNums K))
 have hcs := HCS.out
 have HRR := hid (And.intro hR (And.intro hrn (And.intro hl hr)))
 have HK := hid (And.intro bK hn)
 have HSZ := hid (xk_ K)
 clear hR hrn hl hr bK hn
 go_enter func114, ntmps114
 go_wp2_with fail
 have HA := hid (bl1 w (.cells #[.slice none 0 0, .slice none 0 0] 78))
 have HB := hid (qK_ (w.alloc (.cells #[.slice none 0 0, .slice none 0 0] 78)) (strOfNums K))
 refine (zV_ ra R rn rc HRR.out.1 HRR.out.2.1 HRR.out.2.2.1 _ (HRR.out.2.2.2.below (za_ HA.out HB.out))).mono ?_; rintro r w1 ⟨⟨v, rfl, hc⟩, hb1⟩
 obtain ⟨a8, c8, R8, hv8, hl8, hm8, hst8⟩ := cpR_stayW (S := fun k => k <= w.heap.size) hc HRR.out.1 (fun k hk => by rw [Lib.bytesWorld_size, World.size_alloc]; omega)
 subst hv8
 have hst6 := (bw_stay (S := fun k => k <= w.heap.size) (w.alloc (.cells #[.slice none 0 0, .slice none 0 0] 78)) HK.out.1 (xI_ HK.out.2) (fun k hk => by rw [World.size_alloc]; omega)).below hb1
 have hbx := ((zg_.new w #[.slice none 0 0, .slice none 0 0] 78).below HB.out).below hb1
 have HBX := hid hbx
 have HST := hid (And.intro hst8 (And.intro hst6 (And.intro hl8 hm8)))
 have HB1 := hid (za_ (za_ HA.out HB.out) hb1)
 have x0 := hbx.cell 0
 have x1 := hbx.cell 1
 have f0 := hbx.frozen 0
 have f1 := hbx.frozen 1
 clear hc hb1 hl8 hm8 hst8 hst6 hbx
 go_wp2_with fail
 rw [HSZ.out]
 have hb2 := zg_.set2 (x := .slice (some ⟨w.heap.size + 1, 0, none⟩) K.length (grownCap (w.alloc (.cells #[.slice none 0 0, .slice none 0 0] 78)) K.length 0 5)) (y := .slice a8 rn c8) HBX.out
 have hof : Off (fun k => k <= w.heap.size) w1 ((w1.setCell ⟨w.heap.size, 0, none⟩ (.slice (some ⟨w.heap.size + 1, 0, none⟩) K.length (grownCap (w.alloc (.cells #[.slice none 0 0, .slice none 0 0] 78)) K.length 0 5))).setCell ⟨w.heap.size, 1, none⟩ (.slice a8 rn c8)) :=
  Off.set (S := fun k => k <= w.heap.size) (Off.set (S := fun k => k <= w.heap.size) (Off.refl _ w1) ⟨w.heap.size, 0, none⟩ (Nat.le_refl _) _) ⟨w.heap.size, 1, none⟩ (Nat.le_refl _) _
 have hbl : Below w.heap.size w ((w1.setCell ⟨w.heap.size, 0, none⟩ (.slice (some ⟨w.heap.size + 1, 0, none⟩) K.length (grownCap (w.alloc (.cells #[.slice none 0 0, .slice none 0 0] 78)) K.length 0 5))).setCell ⟨w.heap.size, 1, none⟩ (.slice a8 rn c8)) := (HB1.out.setCell (Nat.le_refl _) _).setCell (Nat.le_refl _) _
 revert hb2 hof hbl
 generalize (w1.setCell ⟨w.heap.size, 0, none⟩ (.slice (some ⟨w.heap.size + 1, 0, none⟩) K.length (grownCap (w.alloc (.cells #[.slice none 0 0, .slice none 0 0] 78)) K.length 0 5))).setCell ⟨w.heap.size, 1, none⟩ (.slice a8 rn c8) = w2
 intro hb2 hof hbl
 have c0 := hb2.cell 0
 have c1 := hb2.cell 1
 have HBL := hid hbl
 have HS2 := hid (And.intro (HST.out.1.off hof) (HST.out.2.1.off hof))
 clear hb2 hof hbl x0 x1 f0 f1
 refine bodyPost_end (v := .agg #[.slice (some ⟨w.heap.size + 1, 0, none⟩) K.length (grownCap (w.alloc (.cells #[.slice none 0 0, .slice none 0 0] 78)) K.length 0 5), .slice a8 rn c8]) (by simp [results, results114, go_sem, c0, c1]) rfl ?_
 have hs2 := HS2.out
 rw [HSZ.out, World.size_alloc] at hs2
 refine ⟨⟨_, _, K, a8, c8, R8⟩, by rw [← HST.out.2.2.1], rfl, HST.out.2.2.2, HBL.out, fun S hS => ?_⟩
 exact fun W' o => by
  have q1 := (hs2.2.less (fun k hk => Nat.le_of_lt (hS k hk))) W' o
  have q2 := (hs2.1.less (fun k hk => Nat.le_of_lt (hS k hk))) W' o
  exact ⟨q1.1, q2.1, q1.2, by show WrB W' 42 a8 R8.length; rw [HST.out.2.2.1]; exact q2.2⟩
end
section
open Go.Shelf
structure DI (q : E1 -> Bool) (L M : List E1) (i j : Nat) : Prop where
 len : M.length = L.length
 pre : M.take i = (L.take j).filter fun x => !q x
 post : M.drop j = L.drop j
 lt : i < j
 le : j <= L.length
def kB : List Bool := [false, false, false, false, false, false, true, true, false, false, false, false, true, true, true, false, false, true, true, true, true, false, false, true, true, true, false, false, false, true, true, false, false, true, false, false, true, false, false, true, true, false]
def kV : Array Value := (kB.map Value.bool).toArray
def kZ : Array Value := ((List.replicate 42 false).map Value.bool).toArray
theorem info155 : (prog.info? 213).map (·.size) = some 42 := by kernel_rfl
theorem j7_ : kV.size = 42 := by decide
theorem kZ_size : kZ.size = 42 := by decide
theorem kV_one : kV.all (·.oneCell') = true := by
 rw [Array.all_eq_true]
 intro i hi
 simp [kV, Value.oneCell']
theorem kst (w : World) : (storeCells ⟨w.heap.size, 0, none⟩ kV.toList 0).run prog (w.alloc (.cells kZ 213)) = .ok () (w.alloc (.cells kV 213)) :=
 run_storeCells_new w 213 kZ kV (by rw [info155, j7_]) (by rw [j7_, kZ_size]) kV_one
theorem kld (w : World) : (loadVar 213 ⟨w.heap.size, 0, none⟩).run prog (w.alloc (.cells kV 213)) = .ok (.agg kV) (w.alloc (.cells kV 213)) :=
 run_loadVar_new w 213 kV 7 197 underlying213 (by rw [info155, j7_])
theorem build_to {ops : Array Oper} {rest : List Oper} {o : Oper} {a : Act} {w : World} {Q : Exit -> Act -> World -> Prop} (hg : o.guard = none) (t : TypeId) (parts : Array (Nat × Operand)) (ho : o.op = .build t parts) (cells : Array Value)
  (hc : prog.built t (parts.map fun (i, x) => (i, a.eval x)).toList = some cells)
  (h : wpList prog ops Q rest (a.put o.dst (.agg cells)) w) : wpList prog ops Q (o :: rest) a w :=
 wpList_build hg t parts ho (by rw [hc]; rfl) (by rw [hc]; exact h)
def kN (a b c d e f : Bool) : Value := .agg #[.bool a, .bool b, .bool c, .bool d, .bool e, .bool f]
theorem built155 : prog.built 213 [(1, kN true true false false false false), (2, kN true true true false false true), (3, kN true true true false false true), (4, kN true true false false false true), (5, kN true false false true false false), (6, kN true false false true true false)] = some kV := by kernel_rfl
theorem kinds_law (w : World) : Calls prog 139 #[] w fun r w' => r = .returned (.agg kV) /\ Below w.heap.size w w' := by
 have hst := kst w
 have hsz := j7_
 simp only [kZ, List.map_cons, List.map_nil, List.replicate_succ, List.replicate_zero] at hst
 go_enter func139, ntmps139
 go_wp2_with (refine build_to rfl 213 _ rfl kV ?hc ?hk; case hc => (simp only [List.map_toArray, List.map_cons, List.map_nil]; simp only [go_sem]; exact built155))
 refine bodyPost_ret (v := .agg kV) ?_ rfl ⟨rfl, (Below.refl _ _).alloc (Nat.le_refl _) _⟩
 simp [results, results139, Act.put, Sem.run_bind, Sem.run_pure, asAddr, Result.andThen, kld w]
end
end Go.Proofs.YthmofoldmdafoaaGreat
