/- Part of the proof that ModelCopies holds for every input: a copy goes on apart; two models are the same just if tables and rows are. Part 3. -/
import Derived.Test.YthmofoldmdafoaaGreatScb
set_option linter.unusedVariables false
set_option linter.unusedSimpArgs false
set_option maxRecDepth 100000
set_option maxHeartbeats 4000000
namespace Go.Proofs.YthmofoldmdafoaaGreat
open Go.ChangeShapes Go.WideShapes Go.ChangeAt Go.RowKit
open Go.Lib (hid)
open Go.Proofs.Tryz
section
open Go.Maps
theorem Off.of_row {W W' : World} {row : Option Nat} (h : W.grownBy W' row) : Off (fun k => row = some k) W W' := ⟨h.os, h.tape, h.output, h.size, fun k hk hn => h.block k hk fun e => hn e.symm⟩
def xX_ (l : List (Nat × List Int × List (List Int))) (t : Nat) (K : List Int) (R : List (List Int)) : List (Nat × List Int × List (List Int)) :=
 if l.any (fun w => decide (w.1 = t /\ w.2.1 = K)) then l.map (fun w => if w.1 = t /\ w.2.1 = K then (t, K, R) else w) else l ++ [(t, K, R)]
def WtV.P (y : WtV) : Nat × List Int × List (List Int) := (y.t, y.K, y.r.P)
theorem xK_ {α β : Type} {l : List (α × β)} {t : Nat} {y : α × β} {z : β} (h : l[t]? = some y) : (l.set t (y.1, z)).map Prod.fst = l.map Prod.fst := by
 apply List.ext_getElem?
 intro k
 rw [List.getElem?_map, List.getElem?_map]
 by_cases e : t = k
 ·subst e
  rw [List.getElem?_set_self (List.getElem?_eq_some_iff.1 h).1, h]; rfl
 ·rw [List.getElem?_set_ne e]
theorem Off.set2 {S : Nat -> Prop} {W W' : World} (h : Off S W W') (p : Addr) (hp : S p.block ∨ W.heap.size <= p.block) (v : Value) : Off S W (W'.setCell p v) :=
 ⟨h.os, h.tape, h.output, by simpa using h.size, fun k hk hn => by
  have hne : k ≠ p.block := fun e => by
   subst e
   rcases hp with hp | hp
   ·exact hn hp
   ·omega
  rw [Below.heap_setCell _ _ _ k hne]
  exact h.block k hk hn⟩
theorem qC_ {α : Type} {L : List (List Int × α)} (h : Ris Prod.fst L) (K : List Int) (o : Option α) : (xY_ L K o).length <= L.length + 1 := by
 have h1 := congrArg List.length (ne_lt (K := K) h)
 have h2 := List.length_filter_le (fun p : List Int × α => !decide (p.1 = K)) L
 rw [List.length_append] at h1
 unfold xY_
 rw [List.length_append, List.length_append, List.length_map]
 have h3 : o.toList.length <= 1 := by cases o <;> simp
 omega
theorem coh_new {L : List (List Int × Nat)} {ws : List WtV} {t : Nat} {K : List Int} (hL : Ris Prod.fst L) (h : ∀ (K : List Int) (i : Nat), zU_ L K = some i ↔ ∃ w : WtV, ws[i]? = some w /\ w.t = t /\ w.K = K) (hn : zU_ L K = none) (z : WtV) (hz : z.t = t) (hk : z.K = K) (K' : List Int) (i : Nat) :
  zU_ (xY_ L K (some ws.length)) K' = some i ↔ ∃ w : WtV, (ws ++ [z])[i]? = some w /\ w.t = t /\ w.K = K' := by
 rw [getM_set hL]
 by_cases e : K' = K
 ·subst e
  rw [if_pos rfl]
  constructor
  ·intro hi
   cases hi
   exact ⟨z, by simp, hz, hk⟩
  ·rintro ⟨v, h1, h2, h3⟩
   by_cases hl : i < ws.length
   ·rw [List.getElem?_append_left hl] at h1
    have := (h K' i).2 ⟨v, h1, h2, h3⟩
    rw [hn] at this; cases this
   ·have := (List.getElem?_eq_some_iff.1 h1).1
    simp at this
    rw [show i = ws.length by omega]
 ·rw [if_neg e, h]
  constructor
  ·exact Xb97
  ·rintro ⟨v, h1, h2, h3⟩
   by_cases hl : i < ws.length
   ·rw [List.getElem?_append_left hl] at h1
    exact ⟨v, h1, h2, h3⟩
   ·have := (List.getElem?_eq_some_iff.1 h1).1
    simp at this
    rw [show i = ws.length by omega] at h1
    simp at h1
    subst h1
    exact absurd (h3.symm.trans hk) e
theorem coh_oth {L : List (List Int × Nat)} {ws : List WtV} {t : Nat} (h : ∀ (K : List Int) (i : Nat), zU_ L K = some i ↔ ∃ w : WtV, ws[i]? = some w /\ w.t = t /\ w.K = K) (z : WtV) (hz : z.t ≠ t) (K' : List Int) (i : Nat) :
  zU_ L K' = some i ↔ ∃ w : WtV, (ws ++ [z])[i]? = some w /\ w.t = t /\ w.K = K' := by
 rw [h]
 constructor
 ·exact Xb97
 ·rintro ⟨v, h1, h2, h3⟩
  by_cases hl : i < ws.length
  ·rw [List.getElem?_append_left hl] at h1
   exact ⟨v, h1, h2, h3⟩
  ·have := (List.getElem?_eq_some_iff.1 h1).1
   simp at this
   rw [show i = ws.length by omega] at h1
   simp at h1
   subst h1
   exact absurd h2 hz
theorem setW_new {S : Nat -> Prop} {base : Nat} {w : World} {m : Md} {x : Tl} (h : TlR S base w m x) {t : Nat} {y : Nat × List (List Int × Nat)} (hy : x.wm[t]? = some y) {K : List Int} (hi : zU_ y.2 K = none) (R : List (List Int)) : xX_ (x.ws.map WtV.P) t K R = x.ws.map WtV.P ++ [(t, K, R)] := by
 unfold xX_
 rw [if_neg]
 simp only [List.any_map, List.any_eq_true, not_exists, not_and]
 intro z hz
 have := h.find_none hy hi
 rw [List.find?_eq_none] at this
 exact this z hz
theorem tset_new {S : Nat -> Prop} {base : Nat} {w : World} {m : Md} {x : Tl} (h : TlR S base w m x) (hbs : base <= w.heap.size) (t : Nat) (ht : t < m.tabs.length) (Ky : List Int) (ok : zH_ Ky) (ka : Option Addr) (kn kc : Nat) (hK : Ky.length = kn) (hk : zs_ (Ab S base) w fun W => Ls .u8 W ka kc Ky)
  (ra : Option Addr) (rn rc : Nat) (R : List P1) (hR : R.length = rn) (okR : R ≠ [] -> rOk (R.map P1.bs)) (hr : zs_ (Ab S base) w fun W => RdR W ra R) (hf : x.ws.length < 1000) (y : Nat × List (List Int × Nat)) (hy : x.wm[t]? = some y) (hi : zU_ y.2 Ky = none) (hyl : y.2.length <= 1000000) :
  Calls prog 140 #[.pointer (some ⟨x.px, 0, none⟩), .int .i64 (t : Int), .slice ka kn kc, .slice ra rn rc] w fun r w' => r = .returned (.tuple #[]) /\ ∃ S' x', TSt S S' base w m x w' x' /\ x'.ws.map WtV.P = xX_ (x.ws.map WtV.P) t Ky (R.map P1.bs) := by
 obtain ⟨c0, c1, c2, c3, c4⟩ := h.c
 have hfew := h.md.few
 have hwl := h.wlen
 have ht0 : ¬ (t : Int) < 0 := by omega
 have ht2 : (t : Int) < (x.wm.length : Int) := by omega
 have hl2 : (x.wm.length : Int) <= 1000000 := by omega
 have hkn : kn <= 1000000 := by have := ok.2; omega
 have hym := List.mem_of_getElem? hy
 have HX := hid (fun X (b : Below w.heap.size w X) => (⟨tcb b c1, (h.below b).st.now.tab t y hy, zA_ X ka kn kc Ky hK (hk.below b).now.rd, by have := ((h.below b).wmaps y (List.mem_of_getElem? hy)).look (t := 173) (e := 3) underlying173 (zero3 X) ok.1 (xO_ Xt0); rw [hi] at this; exact this⟩ : X.cell? ⟨x.px, 1, none⟩ = some (.slice (some ⟨x.bw, 0, none⟩) x.wm.length x.wc) /\ X.cell? ⟨x.bw, t, none⟩ = some (.map (some y.1)) /\ (convert 42 9 (.slice ka kn kc)).run prog X = .ok (.string (strOfNums Ky)) X /\ (Instr.lookup 173 (.map (some y.1)) (.string (strOfNums Ky)) true).run prog X = .ok (.tuple #[.int .i64 0, .bool false]) X))
 obtain ⟨av, cv, hv⟩ := zd_ h.own
 have ho := h.own
 rw [hv] at ho c2
 have HH := hid h
 have HM3 := hid (fun X (b : Below w.heap.size w X) => ((h.wmaps y hym).below b).store (t := 173) (e := 3) underlying173 ok.1 Xt0 hyl x.ws.length)
 have hne1 : y.1 ≠ x.px := (h.wmaps y hym).ne_box h.box
 have hne2 : ∀ g, Value.ownBlock (.slice av x.ws.length cv) = some g -> g ≠ y.1 /\ g ≠ x.px := fun g hg => by
  obtain ⟨_, _, cur, hb⟩ := zb_ ho hg
  exact ⟨fun e => (h.wmaps y hym).ne_box hb e.symm, zo_ hb h.box Xt4⟩
 have HNE := hid (And.intro hne1 hne2)
 have HBD := hid h.bd
 have HBS := hid hbs
 have HOW0 := hid ho
 have HV := hid hv
 have HKR := hid (And.intro hk hr)
 have HK0 := hid (And.intro hK (And.intro hkn ok))
 have HR0 := hid (And.intro hR okR)
 have hwl1 : (x.ws.length : Int) <= 1000 := by omega
 have HYM := hid (And.intro hym hy)
 have HI := hid hi
 clear hi h hy hwl ht ok hK hfew ho hv hk hr okR hR c0 c1 c3 c4 hne1 hne2 hym hbs hyl
 go_enter func140, ntmps140
 go_upto_region 0 with (fail)
 refine rgw w (Below.refl _ _).drew fun hH => ?_
 refine tkq3 0 1 2 ?_
 refine tkr 3 rfl Xf1 ?_
 refine tkq2 4 5 ?_
 refine tkr 6 rfl Xf3 ?_
 refine tkq 7 ?_
 refine tkr 8 rfl Xf2 ?_
 refine tkr 9 rfl Xf6 ?_
 refine tkq4 10 11 12 13 ?_
 refine tkq 14 ?_
 refine adn ?_
 skip
 have HBK := hid (hH : Below w.heap.size w w.drew)
 clear hH
 go_upto_region 3 with (fail)
 refine zr_ (z := 10) (S := (fun X => Below w.heap.size w X)) Xt3 (HBK.out.drew) fun hH => ?_
 refine tlk 0 rfl Xt2 ?_
 refine tlk 1 rfl Xt2 ?_
 refine tlk 2 rfl Xt2 ?_
 refine tlk 3 rfl Xf1 ?_
 refine tlk 4 rfl Xt2 ?_
 refine tlk 5 rfl Xt2 ?_
 refine tlk 6 rfl Xf3 ?_
 refine tlk 7 rfl Xt2 ?_
 refine tlk 8 rfl Xf2 ?_
 refine tlk 9 rfl Xt2 ?_
 refine tlz rfl fun K hK => ?_
 obtain ⟨w5, hrun, hmp5, hg5⟩ := HM3.out _ hH
 simp only [iV] at hrun
 go_simp
 refine hK.out _ _ ?_
 clear hK K
 refine stP ?_
 refine zz_ Xt3 ?_ _
 skip
 have o5 : Off (fun k => k = y.1) w w5 := (Off.of hH).trans (Off.of_map hg5 rfl)
 have HO5 := hid o5
 have HM5 := hid hmp5
 have HS5 := hid o5.size
 have HOW := hid (zn_ HOW0.out o5 (fun g hg e => (HNE.out.2 g hg).1 e))
 have HBX := hid (fun X (o : Off (fun k => Value.ownBlock (.slice av x.ws.length cv) = some k) w5 X) => o.box (o5.box HH.out.box (fun e => HNE.out.1 e.symm)) (fun e => (HNE.out.2 _ e).2 rfl))
 have HC2 := hid (fun X (o : Off (fun k => Value.ownBlock (.slice av x.ws.length cv) = some k) w5 X) => (by rw [(HBX.out X o).cell]; show some x.wv = _; rw [HV.out] : X.cell? ⟨x.px, 2, none⟩ = some (.slice av x.ws.length cv)))
 have HIN := hid (fun X (o : Off (fun k => Value.ownBlock (.slice av x.ws.length cv) = some k) w5 X) => (o5.mono (fun k hk => by rw [hk]; exact ⟨HH.out.hm y HYM.out.1, HH.out.low y HYM.out.1⟩) : Off (Ab S base) w w5).trans (o.mono fun k hk => ⟨HH.out.hw k Xt85, (zb_ HOW0.out hk).1⟩))
 have HKK := hid (And.intro HK0.out.1 (And.intro HK0.out.2.1 (fun X o => HKR.out.1 X (HIN.out X o))))
 clear hH o5 hmp5 hg5 hrun
 go_upto_region 4 with (fail)
 refine zr_ (z := 13) (S := (fun X => Off (fun k => Value.ownBlock (.slice av x.ws.length cv) = some k) w5 X)) Xt3 ((Off.refl _ _).drew) fun hH => ?_
 refine tlk 0 rfl Xt2 ?_
 refine tlk 1 rfl Xt2 ?_
 refine tlk 2 rfl Xt2 ?_
 refine tlk 3 rfl Xt2 ?_
 refine tlk 4 rfl (fun W hSw => by have m := HC2.out W hSw; exact tks) ?_
 refine tlk 5 rfl Xt2 ?_
 refine tlk 6 rfl Xt2 ?_
 refine tl1 7 rfl fun K hK => ?_
 go_simp
 refine (Q5_ ka Ky kn kc HKK.out.1 HKK.out.2.1 _ (HKK.out.2.2 _ hH)).mono ?_; rintro r w6 ⟨⟨a6, c6, rfl, ho6⟩, hb6⟩
 go_wp2_with fail
 have HO6 := hid (j1_ ho6 HKK.out.1 (fun k hk => Nat.lt_of_lt_of_le (HBD.out k hk) (Nat.le_trans HS5.out hH.size)))
 have HBC := hid (((Below.refl w5.heap.size w5).drew).trans hb6)
 have HB6 := hid (hH.then hb6)
 refine hK.out _ _ HB6.out (fun hHeldn => ?_)
 clear hK K hH ho6 hb6; have hH := hHeldn; clear hHeldn
 refine stP ?_
 refine tlk 8 rfl Xt2 ?_
 refine tl1 9 rfl fun K hK => ?_
 go_simp
 have HB7 := hid (HB6.out.then (bl1 w6 (.cells #[.int .i64 (t : Int), .slice a6 kn c6, .slice none 0 0] 84)))
 have HBC7 := hid (za_ HBC.out (bl1 w6 (.cells #[.int .i64 (t : Int), .slice a6 kn c6, .slice none 0 0] 84)))
 refine hK.out _ _ HB7.out fun hH => ?_
 refine stP ?_
 refine tl1 10 rfl fun K hK => ?_
 have hown := ze_ HOW.out HBC7.out
 refine zD_ Qn_ rfl _ _ rfl base (.slice av x.ws.length cv) x.ws.length (cellsOf wcl x.ws) rfl hown ⟨w6.heap.size, 0, none⟩ 1 1 [.int .i64 (t : Int), .slice a6 kn c6, .slice none 0 0] rfl rfl (zx_ w6 _ _ _ rfl) Xt34 Xt0 (Nat.le_trans HBS.out (Nat.le_trans HS5.out hH.size)) ?_
 intro v9 w9 hown9 hgrow9 hat9
 obtain ⟨a9, c9, hv9⟩ := zd_ hown9
 subst hv9
 have HAT := hid hat9
 clear hat9
 have HO9 := hid hown9
 have HG9 := hid hgrow9
 have HB9 := hid (hH.trans (Off.of_row hgrow9))
 refine hK.out _ _ HB9.out (fun hHeldn => ?_)
 clear hK K hH hown hown9 hgrow9; have hH := hHeldn; clear hHeldn
 refine stP ?_
 refine tlf 11 rfl Xt2 ?_
 refine tlk 12 rfl Xt2 ?_
 refine tlz rfl fun K hK => ?_
 have x4 := HC2.out _ HB9.out
 have f4 := (HBX.out _ HB9.out).frozen 2
 go_simp
 refine hK.out _ _ ?_
 clear hK K x4 f4
 refine stP ?_
 refine zz_ Xt3 ?_ _
 skip
 have HC9 := hid (zt_ (sz := 3) zP_ Xt0 (xs := x.ws ++ [⟨t, a6, c6, Ky, ⟨none, 0, []⟩⟩]) (by rw [zq_]; simpa [cellsOf, wcl, RV.v, HK0.out.1] using HO9.out) Xt5 x.ws.length ⟨t, a6, c6, Ky, ⟨none, 0, []⟩⟩ Xt5)
 have hc9 := HC9.out
 obtain ⟨g9, hg9, hb9, _⟩ := hc9
 subst hg9
 have HBX9 := hid (HBX.out _ HB9.out)
 have hgp : g9 ≠ x.px := by
  obtain ⟨_, _, cur, hb⟩ := zb_ HO9.out rfl
  exact zo_ hb HBX9.out Xt4
 have HGP := hid hgp
 have HB9g := hid hb9
 obtain ⟨w10, hw10⟩ := gty (w9.setCell ⟨x.px, 2, none⟩ (.slice (some ⟨g9, 0, none⟩) (x.ws.length + 1) c9))
 rw [← hw10]
 have HOX := hid (by rw [hw10]; exact ownsRow_setCell_other HO9.out (by simp [Value.ownBlock]; exact HGP.out) _ : w10.ownsRow base 84 3 (.slice (some ⟨g9, 0, none⟩) (x.ws.length + 1) c9) (x.ws.length + 1) (cellsOf wcl x.ws ++ [.int .i64 (t : Int), .slice a6 kn c6, .slice none 0 0]))
 have HBX10 := hid (by rw [hw10]; exact heap_setCell_same w9 x.px 2 (x.cs m) 123 _ HBX9.out : zg_ w10 x.px ((x.cs m).setIfInBounds 2 (.slice (some ⟨g9, 0, none⟩) (x.ws.length + 1) c9)) 123)
 have HW10 := hid hw10
 have HOF := hid (by rw [hw10]; exact Off.set2 (S := fun k => k = y.1 ∨ k = x.px ∨ Value.ownBlock (.slice av x.ws.length cv) = some k) ((HO5.out.mono (fun k hk => Or.inl hk)).trans (HB9.out.mono fun k hk => Or.inr (Or.inr hk))) ⟨x.px, 2, none⟩ (Or.inl (Or.inr (Or.inl rfl))) _ : Off (fun k => k = y.1 ∨ k = x.px ∨ Value.ownBlock (.slice av x.ws.length cv) = some k) w w10)
 have HBD10 := hid (fun k (hk : S k ∨ k = g9) => (by
  rcases hk with hk | rfl
  ·exact Nat.lt_of_lt_of_le (HBD.out k hk) HOF.out.size
  ·exact (zb_ HOX.out rfl).2.1 : k < w10.heap.size))
 have HW5 := hid (fun X (b : Below w10.heap.size w10 X) => (by rw [(HBX10.out.below b).cell]; rfl : X.cell? ⟨x.px, 2, none⟩ = some (.slice (some ⟨g9, 0, none⟩) (x.ws.length + 1) c9)))
 have HZ5 := hid (fun X (b : Below w10.heap.size w10 X) => (by
  have ow := ze_ HOX.out b
  refine ⟨?_, ow.frozenAt _⟩
  rw [ow.cellAt (x.ws.length * 3 + 2) Xt0, List.getElem?_append_right (by rw [zK_ zP_]; omega), zK_ zP_, show x.ws.length * 3 + 2 - x.ws.length * 3 = 2 by omega]
  rfl : X.cell? ⟨g9, x.ws.length * 3 + 2, none⟩ = some (.slice none 0 0) /\ X.frozen? ⟨g9, x.ws.length * 3 + 2, none⟩ = false))
 have HTS := hid (fun k (hk : k = y.1 ∨ k = x.px ∨ Value.ownBlock (.slice av x.ws.length cv) = some k) => (by
  rcases hk with rfl | rfl | hk
  ·exact ⟨HH.out.hm y HYM.out.1, HH.out.low y HYM.out.1⟩
  ·exact ⟨HH.out.hp, HH.out.lo⟩
  ·exact ⟨HH.out.hw k Xt85, (zb_ HOW0.out hk).1⟩ : S k /\ base <= k))
 have HRR := hid (And.intro HR0.out.1 (And.intro (show rn <= 9000 by
  by_cases e : R = []
  ·rw [← HR0.out.1, e]; simp
  ·have := (HR0.out.2 e).2.1; have := HR0.out.1; rw [List.length_map] at *; omega) (And.intro (show ∀ q ∈ R, q.bs.length <= 9000 from fun q hq => by
  have := ((HR0.out.2 (fun e => by rw [e] at hq; simp at hq)).2.2 q.bs (List.mem_map.2 ⟨q, hq, rfl⟩)).2; omega) (fun X (b : Below w10.heap.size w10 X) => HKR.out.2 X ((HOF.out.mono fun k hk => HTS.out k hk).then b)))))
 have hi2 : (x.ws.length : Int) < (x.ws.length : Int) + 1 := by omega
 have hi3 : ¬ (x.ws.length : Int) < 0 := by omega
 have hi4 : ((x.ws.length + 1 : Nat) : Int) <= 1000000 := by omega
 clear hH hb9 hgp hw10
 go_upto_region 5 with (fail)
 refine zr_ (z := 9) (S := (fun X => Below w10.heap.size w10 X)) Xt3 ((Below.refl _ _).drew) fun hH => ?_
 refine tlk 0 rfl Xt2 ?_
 refine tlk 1 rfl Xt2 ?_
 refine tlk 2 rfl Xt2 ?_
 refine tlk 3 rfl (fun W hSw => by have m := HW5.out W hSw; exact tks) ?_
 refine tlk 4 rfl Xt2 ?_
 refine tlk 5 rfl Xt2 ?_
 refine tl1 6 rfl fun K hK => ?_
 go_simp
 refine (zZ_ ra R rn rc HRR.out.1 HRR.out.2.1 HRR.out.2.2.1 _ (HRR.out.2.2.2 _ (hH))).mono ?_; rintro r w8 ⟨⟨v8, rfl, hc8⟩, hb8⟩
 obtain ⟨a8, c8, R8, hv8, hl8, hm8, hst8⟩ := xz_ (S := (fun k => S k ∨ k = g9)) hc8 HRR.out.1 (fun k hk => Nat.lt_of_lt_of_le (HBD10.out k hk) hH.size)
 subst hv8
 go_wp2_with fail
 have HC8 := hid (And.intro hl8 (And.intro hm8 hst8))
 have HB8 := hid (za_ hH hb8)
 refine hK.out _ _ HB8.out (fun hHeldn => ?_)
 clear hK K hH hc8 hb8 hl8 hm8 hst8; have hH := hHeldn; clear hHeldn
 refine stP ?_
 refine tlf 7 rfl Xt2 ?_
 refine tlk 8 rfl Xt2 ?_
 refine tlz rfl fun K hK => ?_
 have hz := HZ5.out _ hH
 obtain ⟨x4, f4⟩ := hz
 go_simp
 refine hK.out _ _ ?_
 clear hK K x4 f4
 refine stP ?_
 refine zz_ Xt3 ?_ _
 skip
 refine bodyPost_end (v := .tuple #[]) (by simp [results, results140, go_sem]) rfl ?_
 clear hH
 have h := HH.out
 obtain ⟨hl8, hm8, hst8⟩ := HC8.out
 have hat := HAT.out
 simp only [Value.ownBlock] at hat
 have hg9t : Value.ownBlock (.slice av x.ws.length cv) = some g9 ∨ (w.heap.size <= g9 /\ w6.heap.size + 1 = g9) := by
  rcases hat with e | e
  ·exact .inl e.symm
  ·have h7 := HB7.out.size
   have h5 := HS5.out
   rw [World.size_alloc] at e h7
   cases e
   exact .inr ⟨by omega, rfl⟩
 have hg9s : S g9 ∨ w.heap.size <= g9 := hg9t.imp (fun e => h.hw _ Xt87) And.left
 have oFin : Off (fun k => k = y.1 ∨ k = x.px ∨ Value.ownBlock (.slice av x.ws.length cv) = some k) w (w8.setCell ⟨g9, x.ws.length * 3 + 2, none⟩ (.slice a8 rn c8)) :=
  (HOF.out.then HB8.out).set2 _ (hg9t.imp (fun e => .inr (.inr e)) And.left) _
 have hS1 : ∀ k, (fun k => S k ∨ k = g9) k -> S k ∨ w.heap.size <= k := fun k hk => by
  rcases hk with hk | rfl
  ·exact .inl hk
  ·exact hg9s
 have oo : Off (Mut x) w (w8.setCell ⟨g9, x.ws.length * 3 + 2, none⟩ (.slice a8 rn c8)) := oFin.mono fun k hk => by
  rcases hk with rfl | rfl | hk
  ·exact .inr (.inl ⟨y, HYM.out.1, rfl⟩)
  ·exact .inl rfl
  ·exact .inr (.inr Xt85)
 have ow8 := (ze_ HOX.out HB8.out).stored (x.ws.length * 3 + 2) (.slice a8 rn c8)
 have hym := HYM.out.1
 have hyt := HYM.out.2
 have hoz : Off (fun k => k = g9) w8 (w8.setCell ⟨g9, x.ws.length * 3 + 2, none⟩ (.slice a8 rn c8)) := Off.set (S := fun k => k = g9) (Off.refl _ w8) ⟨g9, x.ws.length * 3 + 2, none⟩ rfl _
 have hb10 : Off (fun k => k = x.px ∨ Value.ownBlock (.slice av x.ws.length cv) = some k ∨ k = g9) w5 (w8.setCell ⟨g9, x.ws.length * 3 + 2, none⟩ (.slice a8 rn c8)) := by
  refine Off.trans (W' := w10) ?_ (Off.trans (Off.of HB8.out) (hoz.mono fun k hk => .inr (.inr hk)))
  rw [HW10.out]
  exact (HB9.out.mono fun k hk => .inr (.inl hk)).set _ (.inl rfl) _
 refine ⟨rfl, fun k => S k ∨ k = g9, { x with wm := x.wm.set t (y.1, xY_ y.2 Ky (some x.ws.length)), wv := .slice (some ⟨g9, 0, none⟩) (x.ws.length + 1) c9, ws := x.ws ++ [⟨t, a6, c6, Ky, ⟨a8, c8, R8⟩⟩] }, ⟨?_, fun k hk => .inl hk, hS1, oo, ?_, rfl, rfl, rfl, rfl, rfl⟩, ?_⟩
 ·refine h.next oFin HTS.out { x with wm := x.wm.set t (y.1, xY_ y.2 Ky (some x.ws.length)), wv := .slice (some ⟨g9, 0, none⟩) (x.ws.length + 1) c9, ws := x.ws ++ [⟨t, a6, c6, Ky, ⟨a8, c8, R8⟩⟩] } rfl rfl rfl rfl ?_ ?_ ?_ ?_ ?_ _ (fun k hk => .inl hk) hS1 ?_ ?_ ?_ ?_ ?_ ?_ ?_ ?_ ?_ ?_
  ·rw [xK_ hyt]
  ·have b := hoz.box (HBX10.out.below HB8.out) (fun e => HGP.out e.symm)
   have e : ((x.cs m).setIfInBounds 2 (.slice (some ⟨g9, 0, none⟩) (x.ws.length + 1) c9)) = #[.pointer (some ⟨m.p, 0, none⟩), .slice (some ⟨x.bw, 0, none⟩) x.wm.length x.wc, .slice (some ⟨g9, 0, none⟩) (x.ws.length + 1) c9, x.rv, .func (.func 107) #[] #[.pointer (some ⟨x.bx, 0, none⟩), .pointer (some ⟨x.bm, 0, none⟩)]] := rfl
   rw [e] at b
   unfold Tl.cs
   rw [List.length_set]
   exact b
  ·intro z hz
   have hyg : y.1 ≠ g9 := fun e => by
    rcases hg9t with e2 | e2
    ·exact (HNE.out.2 _ e2).1 e.symm
    ·have := (h.wmaps y hym).lt; omega
   obtain ⟨k, hk⟩ := List.mem_iff_getElem?.1 hz
   by_cases e : t = k
   ·subst e
    rw [List.getElem?_set_self (List.getElem?_eq_some_iff.1 hyt).1] at hk
    cases hk
    refine HM5.out.off hb10 (fun e2 => ?_)
    rcases e2 with e2 | e2 | e2
    ·exact HNE.out.1 e2
    ·exact (HNE.out.2 _ e2).1 rfl
    ·exact hyg e2
   ·rw [List.getElem?_set_ne e] at hk
    have hzm := List.mem_of_getElem? hk
    refine (h.wmaps z hzm).off oFin (fun e2 => ?_)
    rcases e2 with e2 | e2 | e2
    ·have h1 : (x.wm.map Prod.fst)[k]? = some y.1 := by rw [List.getElem?_map, hk, ← e2]; rfl
     have h2 : (x.wm.map Prod.fst)[t]? = some y.1 := by rw [List.getElem?_map, hyt]; rfl
     exact e ((List.getElem?_inj (by rw [List.length_map]; exact (List.getElem?_eq_some_iff.1 hyt).1) h.nod).1 (h2.trans h1.symm))
    ·exact (h.wmaps z hzm).ne_box h.box e2
    ·obtain ⟨_, _, cur, hb⟩ := zb_ HOW0.out e2
     exact (h.wmaps z hzm).ne_box hb rfl
  ·rw [List.length_append, zq_]
   have := ow8.1
   rw [List.set_append_right _ _ (by rw [zK_ zP_]; omega), zK_ zP_, show x.ws.length * 3 + 2 - x.ws.length * 3 = 2 by omega] at this
   simpa [cellsOf, wcl, RV.v, HK0.out.1, hl8] using this
  ·refine zn_ h.rown oFin (fun g hg e => ?_)
   obtain ⟨_, _, cur, hb⟩ := zb_ h.rown hg
   rcases e with e | e | e
   ·exact (h.wmaps y hym).ne_box hb e.symm
   ·exact zo_ hb h.box Xt4 e
   ·obtain ⟨_, _, cur2, hb2⟩ := zb_ HOW0.out e
    exact zo_ hb hb2 Xt4 rfl
  ·intro k hk
   exact Nat.lt_of_lt_of_le (HBD10.out k hk) (Nat.le_trans HB8.out.size hoz.size)
  ·intro g hg
   simp [Value.ownBlock] at hg
   exact .inr hg.symm
  ·intro g hg; exact .inl (h.hr g hg)
  ·intro z hz
   rcases List.mem_append.1 hz with hz | hz
   ·exact h.keepw oFin HTS.out hS1 z hz
   ·rw [List.mem_singleton] at hz
    subst hz
    have st6 : zs_ (fun k => S k ∨ k = g9) (w8.setCell ⟨g9, x.ws.length * 3 + 2, none⟩ (.slice a8 rn c8)) fun W' => Ls .u8 W' a6 c6 Ky := by
     have o6 : Off S w6 (w8.setCell ⟨g9, x.ws.length * 3 + 2, none⟩ (.slice a8 rn c8)) := by
      refine Off.set2 (S := S) (Off.trans (W' := w10) ?_ (Off.of HB8.out)) _ (hg9t.imp (fun e => h.hw _ Xt87) fun e => by show w6.heap.size <= g9; omega) _
      rw [HW10.out]
      refine Off.set (S := S) ?_ _ h.hp _
      exact (Off.of (bl1 w6 (.cells #[.int .i64 (t : Int), .slice a6 kn c6, .slice none 0 0] 84))).trans ((Off.of_row HG9.out).mono fun k hk => h.hw _ Xt85)
     refine HO6.out.step o6 (fun k hk => ?_)
     rcases hk with hk | rfl
     ·exact .inl hk
     ·exact hg9t.imp (fun e => h.hw _ Xt87) fun e => by omega
    have st8 : zs_ (fun k => S k ∨ k = g9) (w8.setCell ⟨g9, x.ws.length * 3 + 2, none⟩ (.slice a8 rn c8)) fun W' => RdR W' a8 R8 := hst8.off (hoz.mono fun k hk => .inr hk)
    exact fun W' o => ⟨st6 W' o, st8 W' o⟩
  ·intro z hz
   rcases List.mem_append.1 hz with hz | hz
   ·exact h.wok z hz
   ·rw [List.mem_singleton] at hz
    subst hz
    refine ⟨by show t < m.tabs.length; have := h.wlen; omega, HK0.out.2.2, fun hne => ?_⟩
    show rOk (R8.map P1.bs)
    rw [hm8]
    refine HR0.out.2 (fun e => hne ?_)
    rw [e] at hm8
    simpa using hm8
  ·exact h.keepr oFin HTS.out hS1
  ·intro t' z hz K' i
   have hrs := (h.wmaps y hym).ris
   by_cases e : t = t'
   ·subst e
    rw [List.getElem?_set_self (by have := (List.getElem?_eq_some_iff.1 hyt).1; exact this)] at hz
    cases hz
    exact coh_new hrs (h.coh t y hyt) HI.out _ rfl rfl K' i
   ·rw [List.getElem?_set_ne e] at hz
    exact coh_oth (h.coh t' z hz) _ e K' i
  ·intro z hz
   show z.2.length <= (x.ws ++ [_]).length
   rw [List.length_append, List.length_singleton]
   rcases List.mem_or_eq_of_mem_set hz with hz | rfl
   ·have := h.wl z hz; omega
   ·have := h.wl y hym
    have := qC_ (h.wmaps y hym).ris Ky (some x.ws.length)
    show (xY_ y.2 Ky (some x.ws.length)).length <= _
    omega
  ·show (x.ws ++ [_]).length <= 1000
   rw [List.length_append, List.length_singleton]; omega
  ·exact h.rfew
 ·intro k hk
  rcases hk with hk | ⟨z, hz, hk⟩ | hk
  ·exact .inl (.inl hk)
  ·rcases List.mem_or_eq_of_mem_set hz with hz | rfl
   ·exact .inl (.inr (.inl ⟨z, hz, hk⟩))
   ·exact .inl (.inr (.inl ⟨y, hym, hk⟩))
  ·simp [Value.ownBlock] at hk
   subst hk
   exact hg9t.imp (fun e => .inr (.inr Xt87)) And.left
 ·rw [List.map_append, setW_new h hyt HI.out]
  show _ ++ [(t, Ky, R8.map P1.bs)] = _
  rw [hm8]
theorem setW_old {S : Nat -> Prop} {base : Nat} {w : World} {m : Md} {x : Tl} (h : TlR S base w m x) {t : Nat} {y : Nat × List (List Int × Nat)} (hy : x.wm[t]? = some y) {K : List Int} {i : Nat} (hi : zU_ y.2 K = some i) (z : WtV) (wt : WtV) (h1 : x.ws[i]? = some wt) (hz : z.t = t) (hk : z.K = K) :
  (x.ws.set i z).map WtV.P = xX_ (x.ws.map WtV.P) t K z.r.P := by
 have hw : wt.t = t /\ wt.K = K := by
  obtain ⟨v, e1, e2, e3⟩ := (h.coh t y hy K i).1 hi
  rw [h1] at e1; cases e1; exact ⟨e2, e3⟩
 unfold xX_
 rw [if_pos]
 ·apply List.ext_getElem?
  intro k
  rw [List.getElem?_map, List.map_map, List.getElem?_map]
  by_cases e : i = k
  ·subst e
   rw [List.getElem?_set_self (List.getElem?_eq_some_iff.1 h1).1, h1]
   show some (z.P) = some (if wt.P.1 = t /\ wt.P.2.1 = K then _ else _)
   rw [if_pos (show wt.P.1 = t /\ wt.P.2.1 = K from hw)]
   show some (z.t, z.K, z.r.P) = _
   rw [hz, hk]
  ·rw [List.getElem?_set_ne e]
   cases hk2 : x.ws[k]? with
   | none => rfl
   | some v =>
    show some v.P = some (if v.P.1 = t /\ v.P.2.1 = K then _ else _)
    rw [if_neg (fun hv : v.P.1 = t /\ v.P.2.1 = K => ?_)]
    have := (h.coh t y hy K k).2 ⟨v, hk2, hv.1, hv.2⟩
    rw [hi] at this
    cases this
    exact e rfl
 ·rw [List.any_map, List.any_eq_true]
  exact ⟨wt, List.mem_of_getElem? h1, by show decide (wt.t = t /\ wt.K = K) = true; simp [hw]⟩
theorem tset_law {S : Nat -> Prop} {base : Nat} {w : World} {m : Md} {x : Tl} (h : TlR S base w m x) (hbs : base <= w.heap.size) (t : Nat) (ht : t < m.tabs.length) (K : List Int) (ok : zH_ K) (ka : Option Addr) (kn kc : Nat) (hK : K.length = kn) (hk : zs_ (Ab S base) w fun W => Ls .u8 W ka kc K)
  (ra : Option Addr) (rn rc : Nat) (R : List P1) (hR : R.length = rn) (okR : R ≠ [] -> rOk (R.map P1.bs)) (hr : zs_ (Ab S base) w fun W => RdR W ra R) (hf : x.ws.length < 1000) :
  Calls prog 140 #[.pointer (some ⟨x.px, 0, none⟩), .int .i64 (t : Int), .slice ka kn kc, .slice ra rn rc] w fun r w' => r = .returned (.tuple #[]) /\ ∃ S' x', TSt S S' base w m x w' x' /\ x'.ws.map WtV.P = xX_ (x.ws.map WtV.P) t K (R.map P1.bs) := by
 obtain ⟨y, hy⟩ : ∃ y, x.wm[t]? = some y := ⟨_, List.getElem?_eq_getElem Xt84⟩
 cases hi : zU_ y.2 K with
 | none => exact tset_new h hbs t ht K ok ka kn kc hK hk ra rn rc R hR okR hr hf y hy hi (by have := h.wl y (List.mem_of_getElem? hy); omega)
 | some i =>
  refine (tset_dev h hbs t ht K ok ka kn kc hK hk.now ra rn rc R hR okR hr.now hf y hy i hi).mono ?_
  rintro r w' ⟨rfl, wt, a8, c8, R8, w8, g, c, h1, ht1, hk1, hv, rfl, hl8, hm8, hb8, hst8⟩
  refine ⟨rfl, ?_⟩
  have how := h.own
  rw [hv] at how
  have hoz : Off (fun k => k = g) w8 (w8.setCell ⟨g, i * 3 + 2, none⟩ (.slice a8 rn c8)) := Off.set (S := fun k => k = g) (Off.refl _ w8) ⟨g, i * 3 + 2, none⟩ rfl _
  have o : Off (fun k => k = g) w (w8.setCell ⟨g, i * 3 + 2, none⟩ (.slice a8 rn c8)) := (Off.of hb8).trans hoz
  have hgo := zb_ how rfl
  have hT : ∀ k, (fun k => k = g) k -> S k /\ base <= k := fun k hk => by
   cases hk
   exact ⟨h.hw g (by rw [hv]; rfl), hgo.1⟩
  have hS' : ∀ k, S k -> S k ∨ w.heap.size <= k := fun k hk => .inl hk
  have ow8 := ((ze_ how hb8).stored (i * 3 + 2) (.slice a8 rn c8)).1
  have hil := (List.getElem?_eq_some_iff.1 h1).1
  refine ⟨S, { x with ws := x.ws.set i { wt with r := ⟨a8, c8, R8⟩ } }, ⟨?_, fun k hk => hk, hS', o.mono (fun k hk => by cases hk; exact .inr (.inr (by rw [hv]; rfl))), fun k hk => .inl hk, rfl, rfl, rfl, rfl, rfl⟩, ?_⟩
  ·refine h.next o hT { x with ws := x.ws.set i { wt with r := ⟨a8, c8, R8⟩ } } rfl rfl rfl rfl rfl ?_ ?_ ?_ ?_ S (fun k hk => hk) hS' ?_ h.hw h.hr ?_ ?_ ?_ ?_ ?_ ?_ h.rfew
   ·have hb := o.box h.box (fun e => by
     obtain ⟨_, _, cur, hb⟩ := hgo
     exact zo_ hb h.box Xt4 e.symm)
    exact hb
   ·intro z hz
    refine (h.wmaps z hz).off o (fun e => ?_)
    obtain ⟨_, _, cur, hb⟩ := hgo
    exact (h.wmaps z hz).ne_box hb e
   ·show World.ownsRow _ base 84 3 x.wv _ _
    rw [hv, List.length_set]
    rw [q8_ zP_ Xt0 x.ws i 2 wt { wt with r := ⟨a8, c8, R8⟩ } (.slice a8 rn c8) h1 Xt0 (by simp [wcl, RV.v, hl8])] at ow8
    exact ow8
   ·refine zn_ h.rown o (fun q hq e => ?_)
    obtain ⟨_, _, cur, hb⟩ := zb_ h.rown hq
    obtain ⟨_, _, cur2, hb2⟩ := hgo
    exact zo_ hb hb2 Xt4 e
   ·intro k hk
    exact Nat.lt_of_lt_of_le (h.bd k hk) o.size
   ·intro z hz
    rcases List.mem_or_eq_of_mem_set hz with hz | rfl
    ·exact h.keepw o hT hS' z hz
    ·have st8 := hst8.off (hoz.mono fun k hk => (hT k hk).1)
     have st6 := h.keepw o hT hS' wt (List.mem_of_getElem? h1)
     exact fun W' o => ⟨(st6 W' o).1, st8 W' o⟩
   ·intro z hz
    rcases List.mem_or_eq_of_mem_set hz with hz | rfl
    ·exact h.wok z hz
    ·have := h.wok wt (List.mem_of_getElem? h1)
     refine ⟨this.1, this.2.1, fun hne => ?_⟩
     show rOk (R8.map P1.bs)
     rw [hm8]
     refine okR (fun e => hne ?_)
     rw [e] at hm8
     simpa using hm8
   ·exact h.keepr o hT hS'
   ·intro t' z hz K' j
    rw [h.coh t' z hz K' j]
    show _ ↔ ∃ w, (x.ws.set i _)[j]? = some w /\ _
    by_cases e : i = j
    ·subst e
     rw [List.getElem?_set_self hil, h1]
     simp
    ·rw [List.getElem?_set_ne e]
   ·intro z hz
    show _ <= (x.ws.set i _).length
    rw [List.length_set]; exact h.wl z hz
   ·show (x.ws.set i _).length <= 1000
    rw [List.length_set]; exact h.few
  ·show (x.ws.set i _).map WtV.P = _
   rw [setW_old h hy hi { wt with r := ⟨a8, c8, R8⟩ } wt h1 ht1 hk1]
   show xX_ _ t K (R8.map P1.bs) = _
   rw [hm8]
theorem Qi_ (w : World) (s : ByteArray) : (convert 9 42 (.string s)).run prog w = .ok (.slice (some ⟨w.heap.size, 0, none⟩) s.size (grownCap w s.size 0 5)) (Lib.bytesWorld w 5 s) := Lib.run_convert_string_bytes w 9 42 5 s underlying9 underlying42 underlying5
theorem qI_ (w : World) (s : ByteArray) : Below w.heap.size w (Lib.bytesWorld w 5 s) := ⟨rfl, rfl, rfl, by rw [Lib.bytesWorld_size]; omega, fun k hk => Lib.bytesWorld_at_old w 5 s k hk⟩
theorem bw_wr {w W' : World} {s : ByteArray} (h : W'.heap[w.heap.size]? = (Lib.bytesWorld w 5 s).heap[w.heap.size]?) {n : Nat} (hn : s.size = n) : WrB W' 5 (some ⟨w.heap.size, 0, none⟩) n := fun b off e h0 => by
 cases e
 refine ⟨_, _, _, h.trans (Lib.bytesWorld_at_new w 5 s), fun k hk hh => ?_⟩
 have h1 := Lib.bytesWorld_cell w 5 s k Xt0
 have h2 := Lib.bytesWorld_at_new w 5 s
 have h3 : k < (Lib.bytesCells w 5 s).size := by
  unfold World.cell? at h1
  rw [h2] at h1
  simp only at h1
  exact (Array.getElem?_eq_some_iff.1 h1).1
 omega
theorem bw_stay {S : Nat -> Prop} (w : World) {K : List Int} (bK : Byt K) (hn : K.length <= maxLen) (hs : ∀ k, S k -> k < w.heap.size) : zs_ S (Lib.bytesWorld w 5 (strOfNums K)) fun W' => Ls .u8 W' (some ⟨w.heap.size, 0, none⟩) (grownCap w (strOfNums K).size 0 5) K /\ WrB W' 5 (some ⟨w.heap.size, 0, none⟩) K.length := fun W' o => by
 have h0 := o.block w.heap.size (by rw [Lib.bytesWorld_size]; omega) (fun hh => by have := hs _ hh; omega)
 refine ⟨?_, bw_wr h0 (xq_ K)⟩
 have hsz : (strOfNums K).size = K.length := xq_ K
 refine ⟨fun k hk => ⟨w.heap.size, 0, rfl, ?_⟩, fun e => (by cases e), ?_⟩
 ·have h1 := o.block w.heap.size (by rw [Lib.bytesWorld_size]; omega) (fun hh => by have := hs _ hh; omega)
  have h2 := Lib.bytesWorld_cell w 5 (strOfNums K) k (by rw [hsz]; exact hk)
  have h3 : W'.cell? ⟨w.heap.size, 0 + k, none⟩ = (Lib.bytesWorld w 5 (strOfNums K)).cell? ⟨w.heap.size, k, none⟩ := by
   rw [Nat.zero_add]
   simp only [World.cell?, h1]
  rw [h3, h2]
  have hb := bK.get k hk
  have e1 : (strOfNums K).data.toList = K.map fun x => UInt8.ofNat x.toNat := by rw [← ByteArray.toList_eq]; exact yS_ K
  rw [e1, List.getD_eq_getElem?_getD, List.getElem?_map, List.getElem?_eq_getElem hk]
  rw [List.getD_eq_getElem?_getD, List.getElem?_eq_getElem hk] at hb ⊢
  simp only [Option.getD_some, Option.map_some] at hb ⊢
  rw [UInt8.toNat_ofNat', Nat.mod_eq_of_lt Xt0]
  congr 2
  omega
 ·rw [hsz]
  exact grownCap_ge w K.length 0 5
def PairO (w : World) (K : List Int) (R : List P1) (r : Ending) (w' : World) : Prop :=
 ∃ y : PrV, r = .returned (.agg #[.slice y.ka y.K.length y.kc, .slice y.ra y.R.length y.rc]) /\ y.K = K /\ y.R.map P1.bs = R.map P1.bs /\ Below w.heap.size w w' /\ ∀ S : Nat -> Prop, (∀ k, S k -> k < w.heap.size) -> zs_ S w' (fun W' => Ls .u8 W' y.ka y.kc y.K /\ RdR W' y.ra y.R /\ PrW W' y)
theorem pair_law (K : List Int) (bK : Byt K) (hn : K.length <= 1000000) (ra : Option Addr) (rn rc : Nat) (R : List P1) (hR : R.length = rn) (hrn : rn <= 9000) (hl : ∀ q ∈ R, q.bs.length <= 9000) (w : World) (hr : RdR w ra R) :
  Calls prog 114 #[.string (strOfNums K), .slice ra rn rc] w (PairO w K R) := by
 have HCS := hid (fun W => Qi_ W (strOfNums K))
 have hcs := HCS.out
 have HRR := hid (And.intro hR (And.intro hrn (And.intro hl hr)))
 have HK := hid (And.intro bK hn)
 have HSZ := hid (xq_ K)
 clear hR hrn hl hr bK hn
 go_enter func114, ntmps114
 go_wp2_with fail
 have HA := hid (bl1 w (.cells #[.slice none 0 0, .slice none 0 0] 78))
 have HB := hid (qI_ (w.alloc (.cells #[.slice none 0 0, .slice none 0 0] 78)) (strOfNums K))
 refine (zZ_ ra R rn rc HRR.out.1 HRR.out.2.1 HRR.out.2.2.1 _ (HRR.out.2.2.2.below (za_ HA.out HB.out))).mono ?_; rintro r w1 ⟨⟨v, rfl, hc⟩, hb1⟩
 obtain ⟨a8, c8, R8, hv8, hl8, hm8, hst8⟩ := cpR_stayW (S := fun k => k <= w.heap.size) hc HRR.out.1 (fun k hk => by rw [Lib.bytesWorld_size, World.size_alloc]; omega)
 subst hv8
 have hst6 := (bw_stay (S := fun k => k <= w.heap.size) (w.alloc (.cells #[.slice none 0 0, .slice none 0 0] 78)) HK.out.1 (xO_ HK.out.2) (fun k hk => by rw [World.size_alloc]; omega)).below hb1
 have hbx := ((zg_.new w #[.slice none 0 0, .slice none 0 0] 78).below HB.out).below hb1
 have HBX := hid hbx
 have HST := hid (And.intro hst8 (And.intro hst6 (And.intro hl8 hm8)))
 have HB1 := hid (za_ (za_ HA.out HB.out) hb1)
 have x0 := hbx.cell 0
 have x1 := hbx.cell 1
 have f0 := hbx.frozen 0
 have f1 := hbx.frozen 1
 clear hc hb1 hl8 hm8 hst8 hst6 hbx
 go_wp2_with fail
 rw [HSZ.out]
 have hb2 := zg_.set2 (x := .slice (some ⟨w.heap.size + 1, 0, none⟩) K.length (grownCap (w.alloc (.cells #[.slice none 0 0, .slice none 0 0] 78)) K.length 0 5)) (y := .slice a8 rn c8) HBX.out
 have hof : Off (fun k => k <= w.heap.size) w1 ((w1.setCell ⟨w.heap.size, 0, none⟩ (.slice (some ⟨w.heap.size + 1, 0, none⟩) K.length (grownCap (w.alloc (.cells #[.slice none 0 0, .slice none 0 0] 78)) K.length 0 5))).setCell ⟨w.heap.size, 1, none⟩ (.slice a8 rn c8)) :=
  Off.set (S := fun k => k <= w.heap.size) (Off.set (S := fun k => k <= w.heap.size) (Off.refl _ w1) ⟨w.heap.size, 0, none⟩ (Nat.le_refl _) _) ⟨w.heap.size, 1, none⟩ (Nat.le_refl _) _
 have hbl : Below w.heap.size w ((w1.setCell ⟨w.heap.size, 0, none⟩ (.slice (some ⟨w.heap.size + 1, 0, none⟩) K.length (grownCap (w.alloc (.cells #[.slice none 0 0, .slice none 0 0] 78)) K.length 0 5))).setCell ⟨w.heap.size, 1, none⟩ (.slice a8 rn c8)) := (HB1.out.setCell (Nat.le_refl _) _).setCell (Nat.le_refl _) _
 revert hb2 hof hbl
 generalize (w1.setCell ⟨w.heap.size, 0, none⟩ (.slice (some ⟨w.heap.size + 1, 0, none⟩) K.length (grownCap (w.alloc (.cells #[.slice none 0 0, .slice none 0 0] 78)) K.length 0 5))).setCell ⟨w.heap.size, 1, none⟩ (.slice a8 rn c8) = w2
 intro hb2 hof hbl
 have c0 := hb2.cell 0
 have c1 := hb2.cell 1
 have HBL := hid hbl
 have HS2 := hid (And.intro (HST.out.1.off hof) (HST.out.2.1.off hof))
 clear hb2 hof hbl x0 x1 f0 f1
 refine bodyPost_end (v := .agg #[.slice (some ⟨w.heap.size + 1, 0, none⟩) K.length (grownCap (w.alloc (.cells #[.slice none 0 0, .slice none 0 0] 78)) K.length 0 5), .slice a8 rn c8]) (by simp [results, results114, go_sem, c0, c1]) rfl ?_
 have hs2 := HS2.out
 rw [HSZ.out, World.size_alloc] at hs2
 refine ⟨⟨_, _, K, a8, c8, R8⟩, by rw [← HST.out.2.2.1], rfl, HST.out.2.2.2, HBL.out, fun S hS => ?_⟩
 exact fun W' o => by
  have q1 := (hs2.2.less (fun k hk => Nat.le_of_lt (hS k hk))) W' o
  have q2 := (hs2.1.less (fun k hk => Nat.le_of_lt (hS k hk))) W' o
  exact ⟨q1.1, q2.1, q1.2, by show WrB W' 42 a8 R8.length; rw [HST.out.2.2.1]; exact q2.2⟩
end
section
open Go.Shelf
structure DI (q : E1 -> Bool) (L M : List E1) (i j : Nat) : Prop where
 len : M.length = L.length
 pre : M.take i = (L.take j).filter fun x => !q x
 post : M.drop j = L.drop j
 lt : i < j
 le : j <= L.length
def kB : List Bool := [false, false, false, false, false, false, true, true, false, false, false, false, true, true, true, false, false, true, true, true, true, false, false, true, true, true, false, false, false, true, true, false, false, true, false, false, true, false, false, true, true, false]
def kV : Array Value := (kB.map Value.bool).toArray
def kZ : Array Value := ((List.replicate 42 false).map Value.bool).toArray
theorem info155 : (prog.info? 213).map (·.size) = some 42 := by kernel_rfl
theorem j8_ : kV.size = 42 := by decide
theorem kZ_size : kZ.size = 42 := by decide
theorem kV_one : kV.all (·.oneCell') = true := by
 rw [Array.all_eq_true]
 intro i hi
 simp [kV, Value.oneCell']
theorem kst (w : World) : (storeCells ⟨w.heap.size, 0, none⟩ kV.toList 0).run prog (w.alloc (.cells kZ 213)) = .ok () (w.alloc (.cells kV 213)) :=
 run_storeCells_new w 213 kZ kV (by rw [info155, j8_]) (by rw [j8_, kZ_size]) kV_one
theorem kld (w : World) : (loadVar 213 ⟨w.heap.size, 0, none⟩).run prog (w.alloc (.cells kV 213)) = .ok (.agg kV) (w.alloc (.cells kV 213)) :=
 run_loadVar_new w 213 kV 7 197 underlying213 (by rw [info155, j8_])
theorem build_to {ops : Array Oper} {rest : List Oper} {o : Oper} {a : Act} {w : World} {Q : Exit -> Act -> World -> Prop} (hg : o.guard = none) (t : TypeId) (parts : Array (Nat × Operand)) (ho : o.op = .build t parts) (cells : Array Value)
  (hc : prog.built t (parts.map fun (i, x) => (i, a.eval x)).toList = some cells)
  (h : wpList prog ops Q rest (a.put o.dst (.agg cells)) w) : wpList prog ops Q (o :: rest) a w :=
 wpList_build hg t parts ho (by rw [hc]; rfl) (by rw [hc]; exact h)
def kN (a b c d e f : Bool) : Value := .agg #[.bool a, .bool b, .bool c, .bool d, .bool e, .bool f]
theorem built155 : prog.built 213 [(1, kN true true false false false false), (2, kN true true true false false true), (3, kN true true true false false true), (4, kN true true false false false true), (5, kN true false false true false false), (6, kN true false false true true false)] = some kV := by kernel_rfl
theorem kinds_law (w : World) : Calls prog 139 #[] w fun r w' => r = .returned (.agg kV) /\ Below w.heap.size w w' := by
 have hst := kst w
 have hsz := j8_
 simp only [kZ, List.map_cons, List.map_nil, List.replicate_succ, List.replicate_zero] at hst
 go_enter func139, ntmps139
 go_wp2_with (refine build_to rfl 213 _ rfl kV ?hc ?hk; case hc => (simp only [List.map_toArray, List.map_cons, List.map_nil]; simp only [go_sem]; exact built155))
 refine bodyPost_ret (v := .agg kV) ?_ rfl ⟨rfl, (Below.refl _ _).alloc (Nat.le_refl _) _⟩
 simp [results, results139, Act.put, Sem.run_bind, Sem.run_pure, asAddr, Result.andThen, kld w]
theorem zg_.setC {W : World} {B : Nat} {cs : Array Value} {t : TypeId} (h : zg_ W B cs t) (i : Nat) (v : Value) : zg_ (W.setCell ⟨B, i, none⟩ v) B (cs.setIfInBounds i v) t := heap_setCell_same W B i cs t v h
theorem xN_ (k : Nat) (hk : k <= 6) (a b c d e f : Bool) (hix : ∀ W : World, (Instr.index 213 (.agg kV) (.int .i64 (k : Int))).run prog W = .ok (kN a b c d e f) W) (tb ix mo : Int) (ka ta ra : Option Addr) (kn kc tn tc rn rc : Nat) (w : World) :
  Calls prog 122 #[.agg #[.int .i64 (k : Int), .int .i64 tb, .int .i64 ix, .slice ka kn kc, .slice ta tn tc, .int .i64 mo, .slice ra rn rc]] w fun r w' => r = .returned (kN a b c d e f) /\ Below w.heap.size w w' := by
 have hk0 : ¬ (k : Int) < 0 := by omega
 have hk6 : ¬ 6 < (k : Int) := by omega
 unfold kN at *
 go_enter func122, ntmps122
 go_wp2_with fail
 have b0 := ((Below.refl w.heap.size w).alloc (Nat.le_refl _) (.cells #[.int .i64 (k : Int), .int .i64 tb, .int .i64 ix, .slice ka kn kc, .slice ta tn tc, .int .i64 mo, .slice ra rn rc] 74)).alloc Xt5 (.cells #[.bool false, .bool false, .bool false, .bool false, .bool false, .bool false] 197)
 have hb := (zg_.new w #[.int .i64 (k : Int), .int .i64 tb, .int .i64 ix, .slice ka kn kc, .slice ta tn tc, .int .i64 mo, .slice ra rn rc] 74).below ((Below.refl _ _).alloc (Nat.le_refl _) (.cells #[.bool false, .bool false, .bool false, .bool false, .bool false, .bool false] 197))
 have hr := zg_.new (w.alloc (.cells #[.int .i64 (k : Int), .int .i64 tb, .int .i64 ix, .slice ka kn kc, .slice ta tn tc, .int .i64 mo, .slice ra rn rc] 74)) #[.bool false, .bool false, .bool false, .bool false, .bool false, .bool false] 197
 rw [World.size_alloc] at hr
 generalize ((w.alloc (.cells #[.int .i64 (k : Int), .int .i64 tb, .int .i64 ix, .slice ka kn kc, .slice ta tn tc, .int .i64 mo, .slice ra rn rc] 74)).alloc (.cells #[.bool false, .bool false, .bool false, .bool false, .bool false, .bool false] 197)) = W0 at *
 have c0 : W0.cell? ⟨w.heap.size, 0, none⟩ = some (.int .i64 (k : Int)) := hb.cell 0
 have hsz : w.heap.size + 1 < W0.heap.size := hr.lt
 have HK := hid (fun W => kinds_law W)
 have HB0 := hid b0
 have HB := hid hb
 have HR := hid hr
 clear b0 hb hr
 go_region_with (go_at_call 139; refine (HK.out _).mono ?_; rintro r w3 ⟨rfl, B3⟩; have hbd : zg_ W0.drew _ _ _ := HB.out; have hrd : zg_ W0.drew _ _ _ := HR.out; have g0 : w3.cell? ⟨w.heap.size, 0, none⟩ = some (.int .i64 (k : Int)) := (hbd.below B3).cell 0; have R0 : w3.cell? ⟨w.heap.size + 1, 0, none⟩ = some (.bool false) := (hrd.below B3).cell 0; have R1 : w3.cell? ⟨w.heap.size + 1, 1, none⟩ = some (.bool false) := (hrd.below B3).cell 1; have R2 : w3.cell? ⟨w.heap.size + 1, 2, none⟩ = some (.bool false) := (hrd.below B3).cell 2; have R3 : w3.cell? ⟨w.heap.size + 1, 3, none⟩ = some (.bool false) := (hrd.below B3).cell 3; have R4 : w3.cell? ⟨w.heap.size + 1, 4, none⟩ = some (.bool false) := (hrd.below B3).cell 4; have R5 : w3.cell? ⟨w.heap.size + 1, 5, none⟩ = some (.bool false) := (hrd.below B3).cell 5; have F0 : w3.frozen? ⟨w.heap.size + 1, 0, none⟩ = false := frozen_of_row w3 _ 0 _ 197 (hrd.below B3); have F1 : w3.frozen? ⟨w.heap.size + 1, 1, none⟩ = false := frozen_of_row w3 _ 1 _ 197 (hrd.below B3); have F2 : w3.frozen? ⟨w.heap.size + 1, 2, none⟩ = false := frozen_of_row w3 _ 2 _ 197 (hrd.below B3); have F3 : w3.frozen? ⟨w.heap.size + 1, 3, none⟩ = false := frozen_of_row w3 _ 3 _ 197 (hrd.below B3); have F4 : w3.frozen? ⟨w.heap.size + 1, 4, none⟩ = false := frozen_of_row w3 _ 4 _ 197 (hrd.below B3); have F5 : w3.frozen? ⟨w.heap.size + 1, 5, none⟩ = false := frozen_of_row w3 _ 5 _ 197 (hrd.below B3); have HB3 := hid B3; have HR3 := hid (hrd.below B3); clear hbd hrd B3)
 all_goals
  have hX := ((((((HR3.out.setC 0 (.bool a)).setC 1 (.bool b)).setC 2 (.bool c)).setC 3 (.bool d)).setC 4 (.bool e)).setC 5 (.bool f))
  simp only [List.setIfInBounds_toArray, List.set_cons_zero, List.set_cons_succ] at hX
  have hb3 : Below w.heap.size w w3 := HB0.out.trans ((show Below W0.heap.size W0.drew w3 from HB3.out).mono HB0.out.size |> fun h => ⟨h.os, h.tape, h.output, h.size, h.block⟩)
  have hB9 : Below w.heap.size w ((((((w3.setCell ⟨w.heap.size + 1, 0, none⟩ (.bool a)).setCell ⟨w.heap.size + 1, 1, none⟩ (.bool b)).setCell ⟨w.heap.size + 1, 2, none⟩ (.bool c)).setCell ⟨w.heap.size + 1, 3, none⟩ (.bool d)).setCell ⟨w.heap.size + 1, 4, none⟩ (.bool e)).setCell ⟨w.heap.size + 1, 5, none⟩ (.bool f)) := ((((((hb3.setCell Xt5 _).setCell Xt5 _).setCell Xt5 _).setCell Xt5 _).setCell Xt5 _).setCell Xt5 _)
  have HX := hid hX
  have HB9 := hid hB9
  clear hX hb3 hB9 g0 R0 R1 R2 R3 R4 R5 F0 F1 F2 F3 F4 F5 HB3 HR3
  generalize ((((((w3.setCell ⟨w.heap.size + 1, 0, none⟩ (.bool a)).setCell ⟨w.heap.size + 1, 1, none⟩ (.bool b)).setCell ⟨w.heap.size + 1, 2, none⟩ (.bool c)).setCell ⟨w.heap.size + 1, 3, none⟩ (.bool d)).setCell ⟨w.heap.size + 1, 4, none⟩ (.bool e)).setCell ⟨w.heap.size + 1, 5, none⟩ (.bool f)) = W9 at *
  go_wp2_with fail
  refine bodyPost_ret (v := .agg #[.bool a, .bool b, .bool c, .bool d, .bool e, .bool f]) ?_ rfl ⟨rfl, HB9.out⟩
  have x0 := HX.out.cell 0
  have x1 := HX.out.cell 1
  have x2 := HX.out.cell 2
  have x3 := HX.out.cell 3
  have x4 := HX.out.cell 4
  have x5 := HX.out.cell 5
  simp only [gtA, gtB, gtC] at x0 x1 x2 x3 x4 x5
  simp [results, results122, go_sem, x0, x1, x2, x3, x4, x5]
end
theorem mayR_no {R : List P1} (h : Za_ R = false) : y4_ R = false := by simp [y4_, h]
theorem mayR_big {R : List P1} {n : Nat} (hn : R.length = n) (h : 3 < n) : y4_ R = false := by
 have : y4_ R ≠ true := fun e => by have := ((xx_ R).1 e).2.2; omega
 simpa using this
theorem mayR_none {R : List P1} {n : Nat} (hn : R.length = n) (h : n < 1) : y4_ R = false := by
 have : y4_ R ≠ true := fun e => by have := ((xx_ R).1 e).2.1; omega
 simpa using this
theorem refmay_law (a : Option Addr) (R : List P1) (n cap : Nat) (hn : R.length = n) (w : World) (hR : RdR w a R) :
  Calls prog 57 #[.slice a n cap] w fun r w' => r = .returned (.bool (y4_ R)) /\ w = w' := by
 have HR := hid hR
 have HN := hid hn
 clear hR hn
 go_enter func57, ntmps57
 go_wp2_with fail
 go_loopw [3] (fun i wr => ∃ k : Nat, k <= n /\ k <= 4 /\ i = .int .i64 k /\ (∀ j < k, ∀ p, R[j]? = some p -> p.bs.length <= 24) /\ w = wr) (fun i _ => n - (intOf i).toNat)
 case atStart => exact ⟨0, by omega, by omega, rfl, fun j hj => absurd hj Xt0, rfl⟩
 case round =>
  obtain ⟨k, hk, hk4, rfl, hpre, rfl⟩ := hrel
  have HP := hid hpre
  clear hpre
  by_cases hlt : k < n
  ·have hkl : (k : Int) < (n : Int) := by omega
   by_cases h4 : k < 4
   ·have hk4l : (k : Int) < 4 := by omega
    obtain ⟨p, hp⟩ : ∃ p, R[k]? = some p := ⟨_, List.getElem?_eq_getElem Xt8⟩
    obtain ⟨b1, o1, e1, c1, l1⟩ := HR.out k p hp
    subst e1
    have c2 : w.cell? ⟨b1, o1 + k, none⟩ = some (.slice p.ad p.bs.length p.cap) := c1
    obtain ⟨m, hm⟩ := gtx (p.bs.length)
    rw [hm] at c2
    have HM := hid hm
    have HPP := hid hp
    clear c1 hp hm l1
    by_cases hm2 : 24 < m
    ·have hml : (24 : Int) < (m : Int) := by omega
     have HA := hid (mayR_no (allB_not HPP.out (by rw [HM.out]; omega)))
     exact Xb55
    ·have hml : ¬ (24 : Int) < (m : Int) := by omega
     go_wp2_with fail
     go_roundw
     case rel => exact ⟨k + 1, by omega, by omega, by go_num, jstep HP.out (fun p' hp' => by have := HPP.out; rw [hp'] at this; cases this; have := HM.out; omega), trivial⟩
     case measure => simp [intOf]; omega
   ·have hk4l : ¬ (k : Int) < 4 := by omega
    have HA := hid (mayR_big HN.out Xt0)
    have h1 : (1 : Int) <= (n : Int) := by omega
    have h3 : ¬ (n : Int) <= 3 := by omega
    exact Xb55
  ·have hkl : ¬ (k : Int) < (n : Int) := by omega
   by_cases h1 : 1 <= n
   ·have h1i : (1 : Int) <= (n : Int) := by omega
    by_cases h3 : n <= 3
    ·have h3i : (n : Int) <= 3 := by omega
     have HA := hid (show y4_ R = true from (xx_ R).2 ⟨fun p hp => by
      obtain ⟨j, hj, e⟩ := List.mem_iff_getElem.1 hp
      exact HP.out j (by have := HN.out; omega) p (by rw [List.getElem?_eq_getElem hj, e]), by have := HN.out; omega, by have := HN.out; omega⟩)
     exact Xb55
    ·have h3i : ¬ (n : Int) <= 3 := by omega
     have HA := hid (mayR_big HN.out Xt0)
     exact Xb55
   ·have h1i : ¬ (1 : Int) <= (n : Int) := by omega
    have HA := hid (mayR_none HN.out Xt0)
    exact Xb55
theorem zh_ (a : Option Addr) (n cap : Nat) (w : World) : Calls prog 56 #[.slice a n cap] w fun r w' => r = .returned (.bool (yA_ n)) /\ w = w' := by
 unfold yA_
 rcases (show n < 1 ∨ (1 <= n /\ n <= 32) ∨ (1 <= n /\ ¬ n <= 32) by omega) with h | ⟨h1, h2⟩ | ⟨h1, h2⟩
 ·rw [decide_eq_false Xt0]
  have hi : ¬ (1 : Int) <= (n : Int) := by omega
  go_enter func56, ntmps56
  exact Xb19
 ·rw [decide_eq_true Xt0]
  have hi : (1 : Int) <= (n : Int) := by omega
  have hj : (n : Int) <= 32 := by omega
  go_enter func56, ntmps56
  exact Xb19
 ·rw [decide_eq_false Xt0]
  have hi : (1 : Int) <= (n : Int) := by omega
  have hj : ¬ (n : Int) <= 32 := by omega
  go_enter func56, ntmps56
  exact Xb19
theorem js_ (a : Option Addr) (L : List Int) (n cap : Nat) (hL : L.length = n) (hn : n <= 300000) (w : World) (hR : Ls .u8 w a cap L) :
  Calls prog 115 #[.slice a n cap] w fun r w' => ∃ v, r = .returned v /\ w'.ownsRow w.heap.size 5 1 v (zk_ L).length (iv .u8 (zk_ L)) /\ Below w.heap.size w w' := by
 have HR := hid hR
 have HL := hid hL
 clear hR hL
 go_enter func115, ntmps115
 go_wp2_with fail
 go_loopw [3, 4] (fun v i wr => ∃ k : Nat, k <= n /\ i = .int .i64 k /\ wr.ownsRow w.heap.size 5 1 v (zk_ (L.take k)).length (iv .u8 (zk_ (L.take k))) /\ Below w.heap.size w wr) (fun _ i _ => n - (intOf i).toNat)
 case atStart => exact ⟨0, by omega, rfl, World.ownsRow_nil _ _ _ _, Below.refl _ _⟩
 case round =>
  obtain ⟨k, hk, rfl, hown, B⟩ := hrel
  by_cases hlt : k < n
  ·have hkl : (k : Int) < (n : Int) := by omega
   have hkL : k < L.length := by rw [HL.out]; exact hlt
   obtain ⟨b1, o1, e1, c1⟩ := (HR.out.below B).get k hkL
   subst e1
   have hs1 := B.size
   have hts := xb_ L k hkL
   have hfl := yx_ (L.take k)
   rw [List.length_take] at hfl
   obtain ⟨x, hx⟩ := gtx (L.getD k 0)
   rw [hx] at hts c1
   obtain ⟨F, hF⟩ := gtx (zk_ (L.take k))
   have hF2 : zk_ (L.take (k + 1)) = F ++ esc x := by rw [hts, ye_, hF, xy_]
   rw [hF] at hown hfl
   obtain ⟨m, hm⟩ := gtx (F.length)
   rw [hm] at hown hfl
   have HF2 := hid hF2
   have HM := hid hm
   have hm48 := hid (show m <= 600000 by omega)
   have HOWN := hid hown
   have hbl := World.block_lt_of_cell? wr _ c1
   clear hts hx hF hF2 hm hfl hown
   have HLR := hid (fun W (b : Below w.heap.size wr W) => (show W.cell? ⟨b1, o1 + k, none⟩ = some (.int .u8 x) from by
    obtain ⟨b2, o2, e2, c2⟩ := (HR.out.below (B.trans b)).get k hkL
    cases e2
    obtain ⟨b3, o3, e3, c3⟩ := (HR.out.below B).get k hkL
    cases e3
    rw [c3] at c1
    rw [c2]
    exact c1))
   by_cases q : x = 0
   ·have t1 : (x == 0) = true := by rw [q]; rfl
    have HQ := hid (show esc x = [x] ++ [255] by rw [q]; rfl)
    clear q
    go_wp2_with (at_builtin; refine zB_ Qg_ rfl (.tmp 11) (.tmp 16) rfl w.heap.size _ m (iv .u8 F) rfl (HOWN.out.alloc _) _ _ 1 [x] rfl rfl (y5_ .u8 _ [x] _ _ _ rfl 1 rfl) Xt45 Xt7 ?_)
    intro v2 w2 hown2 hgrow2
    rw [← zI_] at hown2
    have b2 : Below w.heap.size wr w2 := ((Below.refl _ wr).alloc hs1 _).grown hgrow2 Xt7 (fun j hj => (HOWN.out.lt j hj).1)
    have B2 := B.trans b2
    have c2 := HLR.out _ b2
    have hs2 := B2.size
    have HOWN2 := hid hown2
    clear hown2 hgrow2 c1
    go_wp2_with (at_builtin; refine zB_ Qg_ rfl (.tmp 23) (.tmp 24) rfl w.heap.size v2 (m + 1) (iv .u8 (F ++ [x])) rfl (HOWN2.out.alloc _) _ _ 1 [255] rfl rfl (y5_ .u8 _ [255] _ _ _ rfl 1 rfl) Xt45 Xt7 ?_)
    exact Xb37
   ·have t1 : (x == 0) = false := by simpa using q
    have HQ := hid (show esc x = [x] by rw [esc, if_neg q])
    clear q
    go_wp2_with (at_builtin; refine zB_ Qg_ rfl (.tmp 11) (.tmp 16) rfl w.heap.size _ m (iv .u8 F) rfl (HOWN.out.alloc _) _ _ 1 [x] rfl rfl (y5_ .u8 _ [x] _ _ _ rfl 1 rfl) Xt45 Xt7 ?_)
    intro v2 w2 hown2 hgrow2
    rw [← zI_] at hown2
    have b2 : Below w.heap.size wr w2 := ((Below.refl _ wr).alloc hs1 _).grown hgrow2 Xt7 (fun j hj => (HOWN.out.lt j hj).1)
    have B2 := B.trans b2
    have c2 := HLR.out _ b2
    have HOWN2 := hid hown2
    clear hown2 hgrow2 c1
    exact Xb67
  ·have hkl : ¬ (k : Int) < (n : Int) := by omega
   have e : k = n := by omega
   subst e
   rw [List.take_of_length_le (by rw [HL.out]; exact Nat.le_refl _)] at hown
   have HOWN := hid hown
   clear hown
   go_wp2_with fail
   go_ret
   exact ⟨_, rfl, HOWN.out, B⟩
theorem jt_ (a : Option Addr) (L : List Int) (n cap : Nat) (hL : L.length = n) (hn : n <= 300000) (w : World) (hR : Ls .u8 w a cap L) :
  Calls prog 115 #[.slice a n cap] w fun r w' => ∃ a' c', r = .returned (.slice a' (zk_ L).length c') /\ Ls .u8 w' a' c' (zk_ L) /\ Below w.heap.size w w' :=
 (js_ a L n cap hL hn w hR).mono fun r w' ⟨v, h1, h2, h3⟩ => by
  obtain ⟨a', c', rfl, l', _⟩ := yy_ h2 rfl
  exact ⟨a', c', h1, l', h3⟩
section
open Go.Shelf
structure zj_ where
 k : Int
 t : Int
 i : Int
 ka : Option Addr
 kn : Nat
 kc : Nat
 K : List Int
 ta : Option Addr
 tn : Nat
 tc : Nat
 T : List Int
 m : Int
 ra : Option Addr
 rn : Nat
 rc : Nat
 R : List P1
structure zy_ (W : World) (o : zj_) : Prop where
 ks : Ls .u8 W o.ka o.kc o.K
 kl : o.K.length = o.kn
 kb : Byt o.K
 ts : Ls .u8 W o.ta o.tc o.T
 tl : o.T.length = o.tn
 tb : Byt o.T
 rs : RdR W o.ra o.R
 rl : o.R.length = o.rn
 rb : ∀ p ∈ o.R, Byt p.bs
theorem zy_.below {W W' : World} {o : zj_} (h : zy_ W o) (b : Below W.heap.size W W') : zy_ W' o := ⟨h.ks.below b, h.kl, h.kb, h.ts.below b, h.tl, h.tb, h.rs.below b, h.rl, h.rb⟩
def kf (k : Int) (i : Nat) : Bool := if 0 <= k /\ k <= 6 then kB.getD (k.toNat * 6 + i) false else false
theorem kf_in (n : Nat) (h : n <= 6) (i : Nat) : kf (n : Int) i = kB.getD (n * 6 + i) false := by
 unfold kf
 rw [if_pos Xt0, Int.toNat_natCast]
theorem jD_ (k : Int) (h : k < 0 ∨ 6 < k) (i : Nat) : kf k i = false := if_neg Xt0
theorem kind_out (k : Int) (h : k < 0 ∨ 6 < k) (tb ix mo : Int) (ka ta ra : Option Addr) (kn kc tn tc rn rc : Nat) (w : World) :
  Calls prog 122 #[.agg #[.int .i64 k, .int .i64 tb, .int .i64 ix, .slice ka kn kc, .slice ta tn tc, .int .i64 mo, .slice ra rn rc]] w fun r w' => r = .returned (kN false false false false false false) /\ Below w.heap.size w w' := by
 have b0 := ((Below.refl w.heap.size w).alloc (Nat.le_refl _) (.cells #[.int .i64 k, .int .i64 tb, .int .i64 ix, .slice ka kn kc, .slice ta tn tc, .int .i64 mo, .slice ra rn rc] 74)).alloc Xt5 (.cells #[.bool false, .bool false, .bool false, .bool false, .bool false, .bool false] 197)
 have hb := (zg_.new w #[.int .i64 k, .int .i64 tb, .int .i64 ix, .slice ka kn kc, .slice ta tn tc, .int .i64 mo, .slice ra rn rc] 74).below ((Below.refl _ _).alloc (Nat.le_refl _) (.cells #[.bool false, .bool false, .bool false, .bool false, .bool false, .bool false] 197))
 have hr := zg_.new (w.alloc (.cells #[.int .i64 k, .int .i64 tb, .int .i64 ix, .slice ka kn kc, .slice ta tn tc, .int .i64 mo, .slice ra rn rc] 74)) #[.bool false, .bool false, .bool false, .bool false, .bool false, .bool false] 197
 rw [World.size_alloc] at hr
 unfold kN
 rcases h with h | h
 ·exact Xb24
 ·have h0 : ¬ k < 0 := by omega
  exact Xb24
theorem j7_ (k tb ix mo : Int) (ka ta ra : Option Addr) (kn kc tn tc rn rc : Nat) (w : World) :
  Calls prog 122 #[.agg #[.int .i64 k, .int .i64 tb, .int .i64 ix, .slice ka kn kc, .slice ta tn tc, .int .i64 mo, .slice ra rn rc]] w fun r w' => r = .returned (kN (kf k 0) (kf k 1) (kf k 2) (kf k 3) (kf k 4) (kf k 5)) /\ Below w.heap.size w w' := by
 by_cases h : k < 0 ∨ 6 < k
 ·simp only [jD_ k h]
  exact kind_out k h tb ix mo ka ta ra kn kc tn tc rn rc w
 ·obtain ⟨n, rfl⟩ : ∃ n : Nat, k = (n : Int) := ⟨k.toNat, by omega⟩
  have hn : n <= 6 := by omega
  simp only [kf_in n hn]
  rcases (show n = 0 ∨ n = 1 ∨ n = 2 ∨ n = 3 ∨ n = 4 ∨ n = 5 ∨ n = 6 by omega) with rfl | rfl | rfl | rfl | rfl | rfl | rfl
  ·exact xN_ 0 Xt4 false false false false false false Xt47 tb ix mo ka ta ra kn kc tn tc rn rc w
  ·exact xN_ 1 Xt4 true true false false false false Xt47 tb ix mo ka ta ra kn kc tn tc rn rc w
  ·exact xN_ 2 Xt4 true true true false false true Xt47 tb ix mo ka ta ra kn kc tn tc rn rc w
  ·exact xN_ 3 Xt4 true true true false false true Xt47 tb ix mo ka ta ra kn kc tn tc rn rc w
  ·exact xN_ 4 Xt4 true true false false false true Xt47 tb ix mo ka ta ra kn kc tn tc rn rc w
  ·exact xN_ 5 Xt4 true false false true false false Xt47 tb ix mo ka ta ra kn kc tn tc rn rc w
  ·exact xN_ 6 Xt4 true false false true true false Xt47 tb ix mo ka ta ra kn kc tn tc rn rc w
theorem yr_ (w : World) (A B : Array Value) (a b : TypeId) : Below w.heap.size w ((w.alloc (.cells A a)).alloc (.cells B b)) /\ ∀ W, Below ((w.alloc (.cells A a)).alloc (.cells B b)).heap.size ((w.alloc (.cells A a)).alloc (.cells B b)) W -> zg_ W w.heap.size A a /\ zg_ W (w.heap.size + 1) B b := by
 refine ⟨((Below.refl _ _).alloc (Nat.le_refl _) _).alloc Xt5 _, fun W h => ?_⟩
 have e1 := zg_.new w A a
 have e2 := zg_.new (w.alloc (.cells A a)) B b
 have b2 : Below (w.alloc (.cells A a)).heap.size (w.alloc (.cells A a)) ((w.alloc (.cells A a)).alloc (.cells B b)) := (Below.refl _ _).alloc (Nat.le_refl _) _
 refine ⟨(e1.below b2).below h, ?_⟩
 have := e2.below h
 simpa using this
def idxV (j : Job) (o : zj_) : Int := if kf o.k 4 then j.T.getD o.t.toNat 0 else 1
def mostV (o : zj_) : Nat := if kf o.k 4 then 24 else 32
def endB (o : zj_) : Bool := if kf o.k 3 then decide (o.kn <= mostV o) && decide (o.tn <= mostV o) && inB o.m 1 64 else yA_ o.kn && (o.tn == 0) && (o.m == 0)
def pO (j : Job) (o : zj_) : Bool := okB j && kf o.k 0 && inB o.t 0 ((j.n : Int) - 1) && inB o.i 0 (idxV j o - 1) && (kf o.k 2 == decide (0 < o.rn)) && (!kf o.k 2 || y4_ o.R) && endB o
theorem QP_ (j : Job) (o : zj_) (hrn : o.rn <= 1000000) (w : World) (hj : z2_ w j) (ho : zy_ w o) :
  Calls prog 121 #[.agg #[.int .i64 j.w, .int .i64 j.l, .int .i64 j.d, .int .i64 j.c, .int .i64 j.k, .int .i64 j.e, .slice j.a j.n j.cap], .agg #[.int .i64 o.k, .int .i64 o.t, .int .i64 o.i, .slice o.ka o.kn o.kc, .slice o.ta o.tn o.tc, .int .i64 o.m, .slice o.ra o.rn o.rc]] w fun r w' => r = .returned (.bool (pO j o)) /\ Below w.heap.size w w' := by
 obtain ⟨k, t, i, ka, kn, kc, K, ta, tn, tc, TT, m, ra, rn, rc, R⟩ := o
 have hp : pO j ⟨k, t, i, ka, kn, kc, K, ta, tn, tc, TT, m, ra, rn, rc, R⟩ = (okB j && kf k 0 && inB t 0 ((j.n : Int) - 1) && inB i 0 ((if kf k 4 then j.T.getD t.toNat 0 else 1) - 1) && (kf k 2 == decide (0 < rn)) && (!kf k 2 || y4_ R) && (if kf k 3 then decide (kn <= (if kf k 4 then 24 else 32)) && decide (tn <= (if kf k 4 then 24 else 32)) && inB m 1 64 else yA_ kn && (tn == 0) && (m == 0))) := rfl
 generalize pO j _ = ans at hp ⊢
 simp only at hrn ho ⊢
 obtain ⟨hb0, hbx⟩ := yr_ w #[.int .i64 j.w, .int .i64 j.l, .int .i64 j.d, .int .i64 j.c, .int .i64 j.k, .int .i64 j.e, .slice j.a j.n j.cap] #[.int .i64 k, .int .i64 t, .int .i64 i, .slice ka kn kc, .slice ta tn tc, .int .i64 m, .slice ra rn rc] 24 74
 have hri : (rn : Int) <= 1000000 := by omega
 have HKL := hid (fun W => j7_ k t i m ka ta ra kn kc tn tc rn rc W)
 have HCK := hid (show qi_ j = if okB j then 0 else 2 from rfl)
 have hln := hj.len
 have hle := hj.le
 have hlei : (j.n : Int) <= 1000000 := by omega
 have HLN := hid hln
 clear hln hle
 go_enter func121, ntmps121
 go_wp2_with fail
 generalize ((w.alloc (.cells #[.int .i64 j.w, .int .i64 j.l, .int .i64 j.d, .int .i64 j.c, .int .i64 j.k, .int .i64 j.e, .slice j.a j.n j.cap] 24)).alloc (.cells #[.int .i64 k, .int .i64 t, .int .i64 i, .slice ka kn kc, .slice ta tn tc, .int .i64 m, .slice ra rn rc] 74)) = W0 at *
 have FG := hid (fun W (b : Below W0.heap.size W0 W) => (by
  obtain ⟨x, y⟩ := hbx W b
  exact ⟨x.cell 0, x.cell 1, x.cell 2, x.cell 3, x.cell 4, x.cell 5, x.cell 6, y.cell 0, y.cell 1, y.cell 2, y.cell 3, y.cell 4, y.cell 5, y.cell 6⟩ : W.cell? ⟨w.heap.size, 0, none⟩ = some (.int .i64 j.w) /\ W.cell? ⟨w.heap.size, 1, none⟩ = some (.int .i64 j.l) /\ W.cell? ⟨w.heap.size, 2, none⟩ = some (.int .i64 j.d) /\ W.cell? ⟨w.heap.size, 3, none⟩ = some (.int .i64 j.c) /\ W.cell? ⟨w.heap.size, 4, none⟩ = some (.int .i64 j.k) /\ W.cell? ⟨w.heap.size, 5, none⟩ = some (.int .i64 j.e) /\ W.cell? ⟨w.heap.size, 6, none⟩ = some (.slice j.a j.n j.cap) /\ W.cell? ⟨w.heap.size + 1, 0, none⟩ = some (.int .i64 k) /\ W.cell? ⟨w.heap.size + 1, 1, none⟩ = some (.int .i64 t) /\ W.cell? ⟨w.heap.size + 1, 2, none⟩ = some (.int .i64 i) /\ W.cell? ⟨w.heap.size + 1, 3, none⟩ = some (.slice ka kn kc) /\ W.cell? ⟨w.heap.size + 1, 4, none⟩ = some (.slice ta tn tc) /\ W.cell? ⟨w.heap.size + 1, 5, none⟩ = some (.int .i64 m) /\ W.cell? ⟨w.heap.size + 1, 6, none⟩ = some (.slice ra rn rc)))
 have FJ := hid (fun W (b : Below W0.heap.size W0 W) => (hj.below hb0).below b)
 have FO := hid (fun W (b : Below W0.heap.size W0 W) => (ho.below hb0).below b)
 have HB0 := hid hb0
 have HP := hid hp
 clear hb0 hbx hj ho hp
 generalize kf k 0 = a at *
 generalize kf k 1 = b at *
 generalize kf k 2 = c at *
 generalize kf k 3 = d at *
 generalize kf k 4 = e at *
 generalize kf k 5 = f at *
 refine (HKL.out _).mono ?_; rintro r w2 ⟨rfl, B2⟩
 unfold kN
 have HB2 := hid B2
 have HB3 := hid (za_ B2 ((Below.refl w2.heap.size w2).alloc (Nat.le_refl _) (.cells #[.bool a, .bool b, .bool c, .bool d, .bool e, .bool f] 197)))
 have hbk := zg_.new w2 #[.bool a, .bool b, .bool c, .bool d, .bool e, .bool f] 197
 obtain ⟨g0, g1, g2, g3, g4, g5, g6, o0, o1, o2, o3, o4, o5, o6⟩ := FG.out _ HB3.out
 clear B2
 go_wp2_with fail
 generalize w2.alloc (.cells #[.bool a, .bool b, .bool c, .bool d, .bool e, .bool f] 197) = W3 at *
 have HBK := hid hbk
 clear hbk g0 g1 g2 g3 g4 g5 g6 o0 o1 o2 o3 o4 o5 o6
 refine (qd_ j W3 (FJ.out _ HB3.out)).mono ?_; rintro r w3 ⟨rfl, B3⟩
 have HBW := hid (za_ HB3.out B3)
 have FK := hid (fun W (b : Below w3.heap.size w3 W) => (HBK.out.below B3).below b)
 rw [HCK.out]
 clear B3 HB3 HBK
 obtain ⟨ok, hok⟩ := gtx (okB j)
 rw [hok] at HP ⊢
 have HOK := hid hok
 clear hok
 obtain ⟨g0, g1, g2, g3, g4, g5, g6, o0, o1, o2, o3, o4, o5, o6⟩ := FG.out _ HBW.out
 have k0 := (FK.out _ (Below.refl _ _)).cell 0
 have k2 := (FK.out _ (Below.refl _ _)).cell 2
 have k3 := (FK.out _ (Below.refl _ _)).cell 3
 have k4 := (FK.out _ (Below.refl _ _)).cell 4
 simp only [gtA, gtB, gtC] at k0 k2 k3 k4
 cases ok
 ·exact Xb18
 simp only [↓reduceIte]
 cases a
 ·exact Xb18
 go_wp2_with fail
 refine (zT_ _ _ _ _).mono ?_; rintro r w9 ⟨rfl, rfl⟩
 obtain ⟨bt, hbt⟩ := gtx (inB t 0 ((j.n : Int) - 1))
 rw [hbt] at HP ⊢
 cases bt
 ·clear hbt
  exact Xb18
 obtain ⟨tk, rfl, htk⟩ : ∃ tk : Nat, t = (tk : Int) /\ tk < j.n := by
  unfold inB at hbt
  have := of_decide_eq_true hbt
  exact ⟨t.toNat, by omega, by omega⟩
 obtain ⟨b1, o1', ea, dd⟩ := (FJ.out _ HBW.out).ls.get tk Xt78
 obtain ⟨x, hx⟩ := gtx (j.T.getD tk 0)
 rw [hx] at dd
 rw [Int.toNat_natCast, hx] at HP
 have hxb : 0 <= x /\ x <= 2 := by rw [← hx]; exact jh_ HOK.out tk Xt78
 have hx0 : 0 <= x := hxb.1
 have hx2 : x <= 2 := hxb.2
 have htki : (tk : Int) < (j.n : Int) := by omega
 have HEA := hid ea
 have DD := hid dd
 clear hbt hx hxb ea dd
 cases e
 ·go_wp2_with fail
  refine (zT_ _ _ _ _).mono ?_; rintro r w9 ⟨rfl, rfl⟩
  simp only [Bool.false_eq_true, if_false, if_true, ↓reduceIte] at HP
  obtain ⟨bi, hbi⟩ := gtx (inB i 0 (1 - 1))
  simp only [Int.sub_self] at hbi HP ⊢
  rw [hbi] at HP ⊢
  clear hbi
  cases bi
  ·exact Xb18
  by_cases hr0 : 0 < rn
  ·have hr0i : (0 : Int) < (rn : Int) := by omega
   have hrd : decide (0 < rn) = true := decide_eq_true hr0
   rw [hrd] at HP
   clear hrd
   cases c
   ·exact Xb18
   ·go_wp2_with fail
    refine (x7_ ra R rn rc (FO.out _ HBW.out).rl hrn _ ((FO.out _ HBW.out).rs.below (Below.refl _ _))).mono ?_; rintro r w5 ⟨rfl, B5⟩
    have HB5 := hid (za_ HBW.out (za_ (Below.refl _ _) B5))
    have FK5 := (FK.out _ (za_ (Below.refl _ _) B5))
    clear B5 g0 g1 g2 g3 g4 g5 g6 o0 o1 o2 o3 o4 o5 o6 k0 k2 k3 k4
    obtain ⟨g0, g1, g2, g3, g4, g5, g6, o0, o1, o2, o3, o4, o5, o6⟩ := FG.out _ HB5.out
    have k3 := FK5.cell 3
    simp only [gtA, gtB, gtC] at k3
    clear FK5
    obtain ⟨mr, hmr⟩ := gtx (y4_ R)
    rw [hmr] at HP ⊢
    clear hmr
    cases mr
    ·exact Xb27
    ·cases d
     ·exact Xb22
     ·simp only [if_true, ↓reduceIte] at HP
      by_cases hk3 : kn <= 32
      ·have hk3i : (kn : Int) <= 32 := by omega
       have hk3d : decide (kn <= 32) = true := decide_eq_true hk3
       rw [hk3d] at HP
       clear hk3d
       by_cases ht3 : tn <= 32
       ·have ht3i : (tn : Int) <= 32 := by omega
        have ht3d : decide (tn <= 32) = true := decide_eq_true ht3
        rw [ht3d] at HP
        clear ht3d
        go_wp2_with fail
        refine (zT_ _ _ _ _).mono ?_; rintro r w9 ⟨rfl, rfl⟩
        exact Xb60
       ·have ht3i : ¬ (tn : Int) <= 32 := by omega
        have ht3d : decide (tn <= 32) = false := decide_eq_false ht3
        rw [ht3d] at HP
        clear ht3d
        exact Xb27
      ·have hk3i : ¬ (kn : Int) <= 32 := by omega
       have hk3d : decide (kn <= 32) = false := decide_eq_false hk3
       rw [hk3d] at HP
       clear hk3d
       exact Xb27
  ·have hr0i : ¬ (0 : Int) < (rn : Int) := by omega
   have hrd : decide (0 < rn) = false := decide_eq_false hr0
   rw [hrd] at HP
   clear hrd
   cases c
   ·cases d
    ·simp only [Bool.false_eq_true, if_false, ↓reduceIte] at HP
     obtain ⟨mk, hmk⟩ := gtx (yA_ kn)
     rw [hmk] at HP
     have HMK := hid hmk
     clear hmk
     go_wp2_with fail
     refine (zN_ _ _ _ _).mono ?_; rintro r w9 ⟨rfl, rfl⟩
     rw [HMK.out]
     cases mk
     ·exact Xb18
     by_cases ht0 : tn = 0
     ·subst ht0
      exact Xb59
     ·have ht1 : ((tn : Int) == 0) = false := by simpa using ht0
      have ht2 : (tn == 0) = false := by simpa using ht0
      rw [ht2] at HP
      clear ht2
      exact Xb18
    ·simp only [if_true, ↓reduceIte] at HP
     by_cases hk3 : kn <= 32
     ·have hk3i : (kn : Int) <= 32 := by omega
      have hk3d : decide (kn <= 32) = true := decide_eq_true hk3
      rw [hk3d] at HP
      clear hk3d
      by_cases ht3 : tn <= 32
      ·have ht3i : (tn : Int) <= 32 := by omega
       have ht3d : decide (tn <= 32) = true := decide_eq_true ht3
       rw [ht3d] at HP
       clear ht3d
       go_wp2_with fail
       refine (zT_ _ _ _ _).mono ?_; rintro r w9 ⟨rfl, rfl⟩
       exact Xb59
      ·have ht3i : ¬ (tn : Int) <= 32 := by omega
       have ht3d : decide (tn <= 32) = false := decide_eq_false ht3
       rw [ht3d] at HP
       clear ht3d
       exact Xb18
     ·have hk3i : ¬ (kn : Int) <= 32 := by omega
      have hk3d : decide (kn <= 32) = false := decide_eq_false hk3
      rw [hk3d] at HP
      clear hk3d
      exact Xb18
   ·exact Xb18
 ·rw [HEA.out] at g6
  have dd := DD.out
  go_wp2_with fail
  go_quiet (fail)
  go_wp2_with fail
  refine (zT_ _ _ _ _).mono ?_; rintro r w9 ⟨rfl, rfl⟩
  simp only [Bool.false_eq_true, if_false, if_true, ↓reduceIte] at HP
  obtain ⟨bi, hbi⟩ := gtx (inB i 0 (x - 1))
  simp only [Int.sub_self] at hbi HP ⊢
  rw [hbi] at HP ⊢
  clear hbi
  cases bi
  ·exact Xb28
  by_cases hr0 : 0 < rn
  ·have hr0i : (0 : Int) < (rn : Int) := by omega
   have hrd : decide (0 < rn) = true := decide_eq_true hr0
   rw [hrd] at HP
   clear hrd
   cases c
   ·exact Xb28
   ·go_wp2_with fail
    refine (x7_ ra R rn rc (FO.out _ HBW.out).rl hrn _ ((FO.out _ HBW.out).rs.below (zl_ (Below.refl _ _) _))).mono ?_; rintro r w5 ⟨rfl, B5⟩
    have HB5 := hid (za_ HBW.out (za_ (zl_ (Below.refl _ _) _) B5))
    have FK5 := (FK.out _ (za_ (zl_ (Below.refl _ _) _) B5))
    clear B5 g0 g1 g2 g3 g4 g5 g6 o0 o1 o2 o3 o4 o5 o6 k0 k2 k3 k4
    obtain ⟨g0, g1, g2, g3, g4, g5, g6, o0, o1, o2, o3, o4, o5, o6⟩ := FG.out _ HB5.out
    have k3 := FK5.cell 3
    simp only [gtA, gtB, gtC] at k3
    clear FK5
    obtain ⟨mr, hmr⟩ := gtx (y4_ R)
    rw [hmr] at HP ⊢
    clear hmr
    cases mr
    ·exact Xb27
    ·cases d
     ·exact Xb22
     ·simp only [if_true, ↓reduceIte] at HP
      by_cases hk3 : kn <= 24
      ·have hk3i : (kn : Int) <= 24 := by omega
       have hk3d : decide (kn <= 24) = true := decide_eq_true hk3
       rw [hk3d] at HP
       clear hk3d
       by_cases ht3 : tn <= 24
       ·have ht3i : (tn : Int) <= 24 := by omega
        have ht3d : decide (tn <= 24) = true := decide_eq_true ht3
        rw [ht3d] at HP
        clear ht3d
        go_wp2_with fail
        refine (zT_ _ _ _ _).mono ?_; rintro r w9 ⟨rfl, rfl⟩
        exact Xb60
       ·have ht3i : ¬ (tn : Int) <= 24 := by omega
        have ht3d : decide (tn <= 24) = false := decide_eq_false ht3
        rw [ht3d] at HP
        clear ht3d
        exact Xb27
      ·have hk3i : ¬ (kn : Int) <= 24 := by omega
       have hk3d : decide (kn <= 24) = false := decide_eq_false hk3
       rw [hk3d] at HP
       clear hk3d
       exact Xb27
  ·have hr0i : ¬ (0 : Int) < (rn : Int) := by omega
   have hrd : decide (0 < rn) = false := decide_eq_false hr0
   rw [hrd] at HP
   clear hrd
   cases c
   ·cases d
    ·simp only [Bool.false_eq_true, if_false, ↓reduceIte] at HP
     obtain ⟨mk, hmk⟩ := gtx (yA_ kn)
     rw [hmk] at HP
     have HMK := hid hmk
     clear hmk
     go_wp2_with fail
     refine (zN_ _ _ _ _).mono ?_; rintro r w9 ⟨rfl, rfl⟩
     rw [HMK.out]
     cases mk
     ·exact Xb28
     by_cases ht0 : tn = 0
     ·subst ht0
      exact Xb113
     ·have ht1 : ((tn : Int) == 0) = false := by simpa using ht0
      have ht2 : (tn == 0) = false := by simpa using ht0
      rw [ht2] at HP
      clear ht2
      exact Xb28
    ·simp only [if_true, ↓reduceIte] at HP
     by_cases hk3 : kn <= 24
     ·have hk3i : (kn : Int) <= 24 := by omega
      have hk3d : decide (kn <= 24) = true := decide_eq_true hk3
      rw [hk3d] at HP
      clear hk3d
      by_cases ht3 : tn <= 24
      ·have ht3i : (tn : Int) <= 24 := by omega
       have ht3d : decide (tn <= 24) = true := decide_eq_true ht3
       rw [ht3d] at HP
       clear ht3d
       go_wp2_with fail
       refine (zT_ _ _ _ _).mono ?_; rintro r w9 ⟨rfl, rfl⟩
       exact Xb113
      ·have ht3i : ¬ (tn : Int) <= 24 := by omega
       have ht3d : decide (tn <= 24) = false := decide_eq_false ht3
       rw [ht3d] at HP
       clear ht3d
       exact Xb28
     ·have hk3i : ¬ (kn : Int) <= 24 := by omega
      have hk3d : decide (kn <= 24) = false := decide_eq_false hk3
      rw [hk3d] at HP
      clear hk3d
      exact Xb28
   ·exact Xb28
def OpsR (W : World) (a : Option Addr) (L : List zj_) : Prop := ∀ (k : Nat) (o : zj_), L[k]? = some o -> ∃ b off, a = some ⟨b, off, none⟩ /\ (W.cell? ⟨b, off + k * 7, none⟩ = some (.int .i64 o.k) /\ W.cell? ⟨b, off + k * 7 + 1, none⟩ = some (.int .i64 o.t) /\ W.cell? ⟨b, off + k * 7 + 2, none⟩ = some (.int .i64 o.i) /\ W.cell? ⟨b, off + k * 7 + 3, none⟩ = some (.slice o.ka o.kn o.kc) /\ W.cell? ⟨b, off + k * 7 + 4, none⟩ = some (.slice o.ta o.tn o.tc) /\ W.cell? ⟨b, off + k * 7 + 5, none⟩ = some (.int .i64 o.m) /\ W.cell? ⟨b, off + k * 7 + 6, none⟩ = some (.slice o.ra o.rn o.rc)) /\ zy_ W o
theorem OpsR.below {W W' : World} {a : Option Addr} {L : List zj_} (h : OpsR W a L) (b : Below W.heap.size W W') : OpsR W' a L := fun k o ho => by
 obtain ⟨g, off, e, ⟨h0, h1, h2, h3, h4, h5, h6⟩, hc⟩ := h k o ho
 have f : ∀ {p v}, W.cell? p = some v -> W'.cell? p = some v := fun h => tcb b h
 exact ⟨g, off, e, ⟨f h0, f h1, f h2, f h3, f h4, f h5, f h6⟩, hc.below b⟩
structure zW_ where
 oa : Option Addr
 on : Nat
 oc : Nat
 ops : List zj_
 sn : Bool
 ab : Bool
structure zM_ (W : World) (x : zW_) : Prop where
 os : OpsR W x.oa x.ops
 ol : x.ops.length = x.on
theorem zM_.below {W W' : World} {x : zW_} (h : zM_ W x) (b : Below W.heap.size W W') : zM_ W' x := ⟨h.os.below b, h.ol⟩
def opB (j : Job) (sn : Bool) (o : zj_) : Bool := pO j o && !(sn && kf o.k 5)
def yQ_ (j : Job) (x : zW_) : Bool := okB j && decide (x.on <= 16) && !(x.sn && x.ab) && x.ops.all (opB j x.sn)
theorem put_eq {K : Act -> World -> Prop} {a : Act} {d : Option Tmp} {u v : Value} {w : World} (e : u = v) (h : K (a.put d v) w) : K (a.put d u) w := e ▸ h
theorem all_take {α : Type} (L : List α) (f : α -> Bool) {k : Nat} {o : α} (h : L[k]? = some o) : (L.take (k + 1)).all f = ((L.take k).all f && f o) := by
 rw [List.take_add_one, h]; simp
theorem maytxn_law (j : Job) (x : zW_) (hon : x.on <= 1000000) (hrn : ∀ o ∈ x.ops, o.rn <= 1000000) (w : World) (hj : z2_ w j) (hx : zM_ w x) :
  Calls prog 95 #[.agg #[.int .i64 j.w, .int .i64 j.l, .int .i64 j.d, .int .i64 j.c, .int .i64 j.k, .int .i64 j.e, .slice j.a j.n j.cap], .agg #[.slice x.oa x.on x.oc, .bool x.sn, .bool x.ab]] w fun r w' => r = .returned (.bool (yQ_ j x)) /\ Below w.heap.size w w' := by
 obtain ⟨hb0, hbx⟩ := yr_ w #[.int .i64 j.w, .int .i64 j.l, .int .i64 j.d, .int .i64 j.c, .int .i64 j.k, .int .i64 j.e, .slice j.a j.n j.cap] #[.slice x.oa x.on x.oc, .bool x.sn, .bool x.ab] 24 38
 have HCK := hid (show qi_ j = if okB j then 0 else 2 from rfl)
 have hlei : (j.n : Int) <= 1000000 := by have := hj.le; omega
 have hoi : (x.on : Int) <= 1000000 := by omega
 have HRN := hid hrn
 obtain ⟨ans, hans⟩ := gtx (yQ_ j x)
 obtain ⟨bs, hbs⟩ := gtx ((okB j && decide (x.on <= 16) && !(x.sn && x.ab)))
 have HP := hid (show ans = (bs && x.ops.all (opB j x.sn)) by rw [← hans, ← hbs]; rfl)
 rw [hans]
 have HBS := hid hbs
 obtain ⟨sn, hsn⟩ := gtx (x.sn)
 obtain ⟨ab, hab⟩ := gtx (x.ab)
 rw [hsn] at HP HBS
 rw [hab] at HBS
 rw [hsn, hab] at hb0 hbx ⊢
 clear hans hbs hrn hsn hab
 go_enter func95, ntmps95
 go_upto_region 1 with (fail)
 generalize ((w.alloc (.cells #[.int .i64 j.w, .int .i64 j.l, .int .i64 j.d, .int .i64 j.c, .int .i64 j.k, .int .i64 j.e, .slice j.a j.n j.cap] 24)).alloc (.cells #[.slice x.oa x.on x.oc, .bool sn, .bool ab] 38)) = W0 at *
 have FG := hid (fun W (b : Below W0.heap.size W0 W) => (by
  obtain ⟨x, y⟩ := hbx W b
  exact ⟨x.cell 0, x.cell 1, x.cell 2, x.cell 3, x.cell 4, x.cell 5, x.cell 6⟩ : W.cell? ⟨w.heap.size, 0, none⟩ = some (.int .i64 j.w) /\ W.cell? ⟨w.heap.size, 1, none⟩ = some (.int .i64 j.l) /\ W.cell? ⟨w.heap.size, 2, none⟩ = some (.int .i64 j.d) /\ W.cell? ⟨w.heap.size, 3, none⟩ = some (.int .i64 j.c) /\ W.cell? ⟨w.heap.size, 4, none⟩ = some (.int .i64 j.k) /\ W.cell? ⟨w.heap.size, 5, none⟩ = some (.int .i64 j.e) /\ W.cell? ⟨w.heap.size, 6, none⟩ = some (.slice j.a j.n j.cap)))
 have FX := hid (fun W (b : Below W0.heap.size W0 W) => (by
  obtain ⟨y, z⟩ := hbx W b
  exact ⟨z.cell 0, z.cell 1, z.cell 2⟩ : W.cell? ⟨w.heap.size + 1, 0, none⟩ = some (.slice x.oa x.on x.oc) /\ W.cell? ⟨w.heap.size + 1, 1, none⟩ = some (.bool sn) /\ W.cell? ⟨w.heap.size + 1, 2, none⟩ = some (.bool ab)))
 have FJ := hid (fun W (b : Below W0.heap.size W0 W) => (hj.below hb0).below b)
 have FO := hid (fun W (b : Below W0.heap.size W0 W) => (hx.below hb0).below b)
 have HB0 := hid hb0
 have HOL := hid hx.ol
 clear hb0 hbx hj hx
 go_cut [5] (fun v wx => v = .bool bs /\ Hid (Below W0.heap.size W0 wx))
 case first =>
  obtain ⟨g0, g1, g2, g3, g4, g5, g6⟩ := FG.out _ (Below.refl _ _)
  go_wp2_with fail
  refine (qd_ j W0 (FJ.out _ (Below.refl _ _))).mono ?_; rintro r w3 ⟨rfl, B3⟩
  have HBW := hid B3
  rw [HCK.out]
  clear B3
  obtain ⟨x0, x1, x2⟩ := FX.out _ HBW.out
  obtain ⟨ok, hok⟩ := gtx (okB j)
  rw [hok] at HBS ⊢
  clear hok
  by_cases h16 : x.on <= 16
  ·have h16i : (x.on : Int) <= 16 := by omega
   have hd : decide (x.on <= 16) = true := decide_eq_true h16
   rw [hd] at HBS
   clear hd
   cases ok
   all_goals cases sn
   all_goals cases ab
   all_goals
    exact Xb99
  ·have h16i : ¬ (x.on : Int) <= 16 := by omega
   have hd : decide (x.on <= 16) = false := decide_eq_false h16
   rw [hd] at HBS
   clear hd
   cases ok
   all_goals
    exact Xb99
 case rest =>
  obtain ⟨rfl, HBW⟩ := hcut
  clear HBS
  obtain ⟨w3, hw3⟩ := gty (wc)
  rw [← hw3] at HBW ⊢
  clear hw3
  obtain ⟨x0, x1, x2⟩ := FX.out _ HBW.out
  go_wp2_with fail
  go_loopw [5, 29] (fun v i wr => ∃ k : Nat, k <= x.on /\ i = .int .i64 (k : Int) /\ v = .bool (bs && (x.ops.take k).all (opB j sn)) /\ Hid (Below w3.heap.size w3 wr)) (fun _ i _ => x.on - (intOf i).toNat)
  case atStart => exact ⟨0, by omega, rfl, by simp, hid (Below.refl _ _)⟩
  case round =>
   obtain ⟨k, hk, rfl, rfl, BR⟩ := hrel
   clear x0 x1 x2
   obtain ⟨bk, hbk⟩ := gtx ((bs && (x.ops.take k).all (opB j sn)))
   rw [hbk]
   by_cases hlt : k < x.on
   ·have hkl : (k : Int) < (x.on : Int) := by omega
    obtain ⟨o, ho⟩ : ∃ o, x.ops[k]? = some o := ⟨_, List.getElem?_eq_getElem (by rw [HOL.out]; exact hlt)⟩
    have HN := hid (show (bs && (x.ops.take (k + 1)).all (opB j sn)) = (bk && opB j sn o) by rw [all_take _ _ ho, ← Bool.and_assoc, hbk])
    have hor := HRN.out o (List.mem_of_getElem? ho)
    obtain ⟨b1, o1, ea, ⟨d0, d1, d2, d3, d4, d5, d6⟩, hc⟩ := (FO.out _ (za_ HBW.out BR.out)).os k o ho
    have HOB := hid (show opB j sn o = (pO j o && !(sn && kf o.k 5)) from rfl)
    have HEA := hid ea
    have HC := hid hc
    have HLT := hid hlt
    have HBX := zg_.new wr #[.int .i64 o.k, .int .i64 o.t, .int .i64 o.i, .slice o.ka o.kn o.kc, .slice o.ta o.tn o.tc, .int .i64 o.m, .slice o.ra o.rn o.rc] 74
    have HB98 : Below wr.heap.size wr (wr.alloc (.cells #[.int .i64 o.k, .int .i64 o.t, .int .i64 o.i, .slice o.ka o.kn o.kc, .slice o.ta o.tn o.tc, .int .i64 o.m, .slice o.ra o.rn o.rc] 74)) := (Below.refl _ _).alloc (Nat.le_refl _) _
    have H98 := hid HB98
    have H99 := hid (za_ BR.out HB98)
    have HCB := hid HBX
    clear hbk ho hc hlt HBX HB98
    rw [ea]
    obtain ⟨pb, hpb⟩ := gtx (pO j o)
    obtain ⟨f5, hf5⟩ := gtx (kf o.k 5)
    have HM := hid (fun W (b : Below wr.heap.size wr W) => (by have h := QP_ j o hor W (FJ.out _ (za_ (za_ HBW.out BR.out) b)) (HC.out.below b); rwa [hpb] at h : Calls prog 121 #[.agg #[.int .i64 j.w, .int .i64 j.l, .int .i64 j.d, .int .i64 j.c, .int .i64 j.k, .int .i64 j.e, .slice j.a j.n j.cap], .agg #[.int .i64 o.k, .int .i64 o.t, .int .i64 o.i, .slice o.ka o.kn o.kc, .slice o.ta o.tn o.tc, .int .i64 o.m, .slice o.ra o.rn o.rc]] W fun r w' => r = .returned (.bool pb) /\ Below W.heap.size W w'))
    have HKD := hid (fun W => (by have h := j7_ o.k o.t o.i o.m o.ka o.ta o.ra o.kn o.kc o.tn o.tc o.rn o.rc W; rwa [hf5] at h : Calls prog 122 #[.agg #[.int .i64 o.k, .int .i64 o.t, .int .i64 o.i, .slice o.ka o.kn o.kc, .slice o.ta o.tn o.tc, .int .i64 o.m, .slice o.ra o.rn o.rc]] W fun r w' => r = .returned (kN (kf o.k 0) (kf o.k 1) (kf o.k 2) (kf o.k 3) (kf o.k 4) f5) /\ Below W.heap.size W w'))
    rw [hpb, hf5] at HOB
    clear hpb hf5 ea
    cases bk
    ·go_wp2_with fail
     go_roundw
     case rel => exact ⟨k + 1, by have := HLT.out; omega, by go_num, by rw [HN.out]; rfl, H99⟩
     case measure => simp [intOf]; have := HLT.out; omega
    ·obtain ⟨g0, g1, g2, g3, g4, g5, g6⟩ := FG.out _ (za_ HBW.out H99.out)
     go_wp2_with fail
     generalize wr.alloc (.cells #[.int .i64 o.k, .int .i64 o.t, .int .i64 o.i, .slice o.ka o.kn o.kc, .slice o.ta o.tn o.tc, .int .i64 o.m, .slice o.ra o.rn o.rc] 74) = W9 at *
     refine (HM.out _ H98.out).mono ?_; rintro r w5 ⟨rfl, B5⟩
     have H5 := hid (za_ H99.out B5)
     have hcb := HCB.out.below B5
     obtain ⟨x0, x1, x2⟩ := FX.out _ (za_ HBW.out H5.out)
     have c0 := hcb.cell 0
     have c1 := hcb.cell 1
     have c2 := hcb.cell 2
     have c3 := hcb.cell 3
     have c4 := hcb.cell 4
     have c5 := hcb.cell 5
     have c6 := hcb.cell 6
     simp only [gtA, gtB, gtC] at c0 c1 c2 c3 c4 c5 c6
     clear B5 hcb g0 g1 g2 g3 g4 g5 g6
     cases pb
     ·exact Xb68
     ·cases sn
      ·exact Xb68
      ·go_wp2_with fail
       refine (HKD.out _).mono ?_; rintro r w6 ⟨rfl, B6⟩
       unfold kN
       have H6 := hid (za_ H5.out B6)
       clear B6 x0 x1 x2 c0 c1 c2 c3 c4 c5 c6
       go_wp2_with fail
       refine put_eq (v := .bool f5) rfl ?_
       go_wp2_with fail
       go_roundw
       case rel => exact ⟨k + 1, by have := HLT.out; omega, by go_num, by rw [HN.out, HOB.out]; simp, H6⟩
       case measure => simp [intOf]; have := HLT.out; omega
   ·have hkl : ¬ (k : Int) < (x.on : Int) := by omega
    have HE := hid (show ans = bk by rw [HP.out, ← hbk, List.take_of_length_le (by rw [HOL.out]; omega)])
    clear hbk
    go_wp2_with fail
    go_ret
    exact ⟨zc_ HE.out.symm, za_ HB0.out (za_ HBW.out BR.out)⟩
theorem boxes3' (w : World) (A B C : Array Value) (a b c : TypeId) : Below w.heap.size w (((w.alloc (.cells A a)).alloc (.cells B b)).alloc (.cells C c)) /\ ∀ W, Below (((w.alloc (.cells A a)).alloc (.cells B b)).alloc (.cells C c)).heap.size (((w.alloc (.cells A a)).alloc (.cells B b)).alloc (.cells C c)) W -> zg_ W w.heap.size A a /\ zg_ W (w.heap.size + 1) B b /\ zg_ W (w.heap.size + 1 + 1) C c := by
 refine ⟨(((Below.refl _ _).alloc (Nat.le_refl _) _).alloc Xt5 _).alloc Xt7 _, fun W h => ?_⟩
 have e1 := zg_.new w A a
 have e2 := zg_.new (w.alloc (.cells A a)) B b
 have e3 := zg_.new ((w.alloc (.cells A a)).alloc (.cells B b)) C c
 have b2 : Below (w.alloc (.cells A a)).heap.size (w.alloc (.cells A a)) ((w.alloc (.cells A a)).alloc (.cells B b)) := (Below.refl _ _).alloc (Nat.le_refl _) _
 have b3 : Below ((w.alloc (.cells A a)).alloc (.cells B b)).heap.size ((w.alloc (.cells A a)).alloc (.cells B b)) (((w.alloc (.cells A a)).alloc (.cells B b)).alloc (.cells C c)) := (Below.refl _ _).alloc (Nat.le_refl _) _
 refine ⟨((e1.below b2).below b3).below h, ?_, ?_⟩
 ·have := (e2.below b3).below h
  simpa using this
 ·have := e3.below h
  simpa using this
abbrev RgT := Int × List Int × List Int × Bool × Int
def zE_ (j : Job) (o : zj_) : RgT := if pO j o && kf o.k 3 then (if kf o.k 4 then ((trV j o.t o.i).1, zk_ o.K, zk_ o.T, decide (0 < o.tn), 0) else ((trV j o.t (-1)).1, o.K, o.T, decide (0 < o.tn), 0)) else (0, [], [], false, 2)
def RgP (V : RgT) (r : Ending) (w' : World) : Prop := ∃ (fa : Option Addr) (fc : Nat) (ta : Option Addr) (tc : Nat), r = .returned (.tuple #[.agg #[.int .i64 V.1, .slice fa V.2.1.length fc, .slice ta V.2.2.1.length tc, .bool V.2.2.2.1], .int .i64 V.2.2.2.2]) /\ Ls .u8 w' fa fc V.2.1 /\ Ls .u8 w' ta tc V.2.2.1
theorem qy_ {W : World} {a : Option Addr} {cap : Nat} {L : List Int} (h : Ls .u8 W a cap L) {p : Addr} {v : Value} (hp : W.cell? p = some v) (hv : ∀ x, v ≠ .int .u8 x) (u : Value) : Ls .u8 (W.setCell p u) a cap L := ⟨fun k hk => by
 obtain ⟨b, off, e, c⟩ := h.rd k hk
 refine ⟨b, off, e, ?_⟩
 rw [World.cell?_setCell_other W p ⟨b, off + k, none⟩ _ (by rintro rfl; rw [c] at hp; cases hp; exact hv _ rfl)]
 exact c, h.nl, h.le⟩
structure Set4 (b0 : Nat) (w W : World) (B : Nat) (c0 c1 c2 c3 v0 v1 v2 v3 : Value) : Prop where
 box : zg_ ((((W.setCell ⟨B, 0, none⟩ v0).setCell ⟨B, 1, none⟩ v1).setCell ⟨B, 2, none⟩ v2).setCell ⟨B, 3, none⟩ v3) B #[v0, v1, v2, v3] 169
 bel : Below b0 w ((((W.setCell ⟨B, 0, none⟩ v0).setCell ⟨B, 1, none⟩ v1).setCell ⟨B, 2, none⟩ v2).setCell ⟨B, 3, none⟩ v3)
 ls : ∀ {a cap L}, Ls .u8 W a cap L -> Ls .u8 ((((W.setCell ⟨B, 0, none⟩ v0).setCell ⟨B, 1, none⟩ v1).setCell ⟨B, 2, none⟩ v2).setCell ⟨B, 3, none⟩ v3) a cap L
theorem set4 {b0 : Nat} {w W : World} {B : Nat} {c0 c1 c2 c3 : Value} (hb : zg_ W B #[c0, c1, c2, c3] 169) (h : Below b0 w W) (hB : b0 <= B) (n0 : ∀ x, c0 ≠ .int .u8 x) (n1 : ∀ x, c1 ≠ .int .u8 x) (n2 : ∀ x, c2 ≠ .int .u8 x) (n3 : ∀ x, c3 ≠ .int .u8 x) (v0 v1 v2 v3 : Value) : Set4 b0 w W B c0 c1 c2 c3 v0 v1 v2 v3 := by
 have h1 := hb.setC 0 v0
 have h2 := h1.setC 1 v1
 have h3 := h2.setC 2 v2
 have h4 := h3.setC 3 v3
 simp only [List.setIfInBounds_toArray, List.set_cons_zero, List.set_cons_succ] at h1 h2 h3 h4
 refine ⟨h4, (((h.setCell hB _).setCell hB _).setCell hB _).setCell hB _, fun hl => ?_⟩
 have k1 := qy_ hl (p := ⟨B, 0, none⟩) (v := c0) (hb.cell 0) n0 v0
 have k2 := qy_ k1 (p := ⟨B, 1, none⟩) (v := c1) (h1.cell 1) n1 v1
 have k3 := qy_ k2 (p := ⟨B, 2, none⟩) (v := c2) (h2.cell 2) n2 v2
 exact qy_ k3 (p := ⟨B, 3, none⟩) (v := c3) (h3.cell 3) n3 v3
def Cl2 (o : zj_) (w4 : World) (x y : Value) (wx : World) : Prop := ∃ (fa : Option Addr) (fc : Nat) (ta : Option Addr) (tc : Nat), x = .slice fa o.kn fc /\ y = .slice ta o.tn tc /\ Ls .u8 wx fa fc o.K /\ Ls .u8 wx ta tc o.T /\ Below w4.heap.size w4 wx
theorem pO_len {j : Job} {o : zj_} (h : pO j o = true) (h3 : kf o.k 3 = true) : (o.kn <= 32 /\ o.tn <= 32) /\ (kf o.k 4 = true -> o.kn <= 24 /\ o.tn <= 24) := by
 have he : endB o = true := by
  unfold pO at h
  simp only [Bool.and_eq_true] at h
  exact h.2
 unfold endB mostV at he
 rw [if_pos h3] at he
 cases h4 : kf o.k 4
 ·rw [h4] at he
  simp at he
  exact ⟨by omega, fun h => by cases h⟩
 ·rw [h4] at he
  simp at he
  exact ⟨by omega, fun _ => by omega⟩
theorem x3_ (j : Job) (o : zj_) (hrn : o.rn <= 1000000) (w : World) (hj : z2_ w j) (ho : zy_ w o) :
  Calls prog 141 #[.agg #[.int .i64 j.w, .int .i64 j.l, .int .i64 j.d, .int .i64 j.c, .int .i64 j.k, .int .i64 j.e, .slice j.a j.n j.cap], .agg #[.int .i64 o.k, .int .i64 o.t, .int .i64 o.i, .slice o.ka o.kn o.kc, .slice o.ta o.tn o.tc, .int .i64 o.m, .slice o.ra o.rn o.rc]] w fun r w' => RgP (zE_ j o) r w' /\ Below w.heap.size w w' := by
 obtain ⟨hb0, hbx⟩ := boxes3' w #[.int .i64 j.w, .int .i64 j.l, .int .i64 j.d, .int .i64 j.c, .int .i64 j.k, .int .i64 j.e, .slice j.a j.n j.cap] #[.int .i64 o.k, .int .i64 o.t, .int .i64 o.i, .slice o.ka o.kn o.kc, .slice o.ta o.tn o.tc, .int .i64 o.m, .slice o.ra o.rn o.rc] #[.int .i64 0, .slice none 0 0, .slice none 0 0, .bool false] 24 74 169
 have hlei : (j.n : Int) <= 1000000 := by have := hj.le; omega
 have HV := hid (show zE_ j o = if pO j o && kf o.k 3 then (if kf o.k 4 then ((trV j o.t o.i).1, zk_ o.K, zk_ o.T, decide (0 < o.tn), 0) else ((trV j o.t (-1)).1, o.K, o.T, decide (0 < o.tn), 0)) else (0, [], [], false, 2) from rfl)
 obtain ⟨V, hV⟩ := gtx (zE_ j o)
 rw [hV] at HV ⊢
 clear hV
 go_enter func141, ntmps141
 go_upto_region 1 with (fail)
 generalize (((w.alloc (.cells #[.int .i64 j.w, .int .i64 j.l, .int .i64 j.d, .int .i64 j.c, .int .i64 j.k, .int .i64 j.e, .slice j.a j.n j.cap] 24)).alloc (.cells #[.int .i64 o.k, .int .i64 o.t, .int .i64 o.i, .slice o.ka o.kn o.kc, .slice o.ta o.tn o.tc, .int .i64 o.m, .slice o.ra o.rn o.rc] 74)).alloc (.cells #[.int .i64 0, .slice none 0 0, .slice none 0 0, .bool false] 169)) = W0 at *
 have FG := hid (fun W (b : Below W0.heap.size W0 W) => (by
  obtain ⟨x, y, z⟩ := hbx W b
  exact ⟨x.cell 0, x.cell 1, x.cell 2, x.cell 3, x.cell 4, x.cell 5, x.cell 6, y.cell 0, y.cell 1, y.cell 2, y.cell 3, y.cell 4, y.cell 5, y.cell 6⟩ : W.cell? ⟨w.heap.size, 0, none⟩ = some (.int .i64 j.w) /\ W.cell? ⟨w.heap.size, 1, none⟩ = some (.int .i64 j.l) /\ W.cell? ⟨w.heap.size, 2, none⟩ = some (.int .i64 j.d) /\ W.cell? ⟨w.heap.size, 3, none⟩ = some (.int .i64 j.c) /\ W.cell? ⟨w.heap.size, 4, none⟩ = some (.int .i64 j.k) /\ W.cell? ⟨w.heap.size, 5, none⟩ = some (.int .i64 j.e) /\ W.cell? ⟨w.heap.size, 6, none⟩ = some (.slice j.a j.n j.cap) /\ W.cell? ⟨w.heap.size + 1, 0, none⟩ = some (.int .i64 o.k) /\ W.cell? ⟨w.heap.size + 1, 1, none⟩ = some (.int .i64 o.t) /\ W.cell? ⟨w.heap.size + 1, 2, none⟩ = some (.int .i64 o.i) /\ W.cell? ⟨w.heap.size + 1, 3, none⟩ = some (.slice o.ka o.kn o.kc) /\ W.cell? ⟨w.heap.size + 1, 4, none⟩ = some (.slice o.ta o.tn o.tc) /\ W.cell? ⟨w.heap.size + 1, 5, none⟩ = some (.int .i64 o.m) /\ W.cell? ⟨w.heap.size + 1, 6, none⟩ = some (.slice o.ra o.rn o.rc)))
 have FB := hid (fun W (b : Below W0.heap.size W0 W) => (hbx W b).2.2)
 have FJ := hid (fun W (b : Below W0.heap.size W0 W) => (hj.below hb0).below b)
 have FO := hid (fun W (b : Below W0.heap.size W0 W) => (ho.below hb0).below b)
 have HB0 := hid hb0
 clear hb0 hbx hj ho
 obtain ⟨pb, hpb⟩ := gtx (pO j o)
 obtain ⟨f3, hf3⟩ := gtx (kf o.k 3)
 obtain ⟨f4, hf4⟩ := gtx (kf o.k 4)
 have HPB := hid hpb
 have HMO := hid (by have h := QP_ j o hrn W0 (FJ.out _ (Below.refl _ _)) (FO.out _ (Below.refl _ _)); rwa [hpb] at h : Calls prog 121 #[.agg #[.int .i64 j.w, .int .i64 j.l, .int .i64 j.d, .int .i64 j.c, .int .i64 j.k, .int .i64 j.e, .slice j.a j.n j.cap], .agg #[.int .i64 o.k, .int .i64 o.t, .int .i64 o.i, .slice o.ka o.kn o.kc, .slice o.ta o.tn o.tc, .int .i64 o.m, .slice o.ra o.rn o.rc]] W0 fun r w' => r = .returned (.bool pb) /\ Below W0.heap.size W0 w')
 have HKD := hid (fun W => (by have h := j7_ o.k o.t o.i o.m o.ka o.ta o.ra o.kn o.kc o.tn o.tc o.rn o.rc W; rwa [hf3, hf4] at h : Calls prog 122 #[.agg #[.int .i64 o.k, .int .i64 o.t, .int .i64 o.i, .slice o.ka o.kn o.kc, .slice o.ta o.tn o.tc, .int .i64 o.m, .slice o.ra o.rn o.rc]] W fun r w' => r = .returned (kN (kf o.k 0) (kf o.k 1) (kf o.k 2) f3 f4 (kf o.k 5)) /\ Below W.heap.size W w'))
 have HLEN := hid (fun (h : pO j o = true) (h3 : kf o.k 3 = true) => (pO_len h h3 : (o.kn <= 32 /\ o.tn <= 32) /\ (kf o.k 4 = true -> o.kn <= 24 /\ o.tn <= 24)))
 rw [hpb, hf3, hf4] at HLEN
 rw [hpb, hf3, hf4] at HV
 clear hpb hf3 hf4
 obtain ⟨g0, g1, g2, g3, g4, g5, g6, o0, o1, o2, o3, o4, o5, o6⟩ := FG.out _ (Below.refl _ _)
 go_wp2_with fail
 refine HMO.out.mono ?_; rintro r w3 ⟨rfl, B3⟩
 have HB3 := hid B3
 clear B3 g0 g1 g2 g3 g4 g5 g6 o0 o1 o2 o3 o4 o5 o6
 obtain ⟨g0, g1, g2, g3, g4, g5, g6, o0, o1, o2, o3, o4, o5, o6⟩ := FG.out _ HB3.out
 cases pb
 ·simp only [Bool.false_and, Bool.false_eq_true, if_false, ↓reduceIte] at HV
  have hB := FB.out _ HB3.out
  have q0 := hB.cell 0
  have q1 := hB.cell 1
  have q2 := hB.cell 2
  have q3 := hB.cell 3
  simp only [gtA, gtB, gtC] at q0 q1 q2 q3
  have z0 : w3.frozen? ⟨w.heap.size + 1 + 1, 0, none⟩ = false := frozen_of_row w3 _ 0 _ 169 hB
  have z1 : w3.frozen? ⟨w.heap.size + 1 + 1, 1, none⟩ = false := frozen_of_row w3 _ 1 _ 169 hB
  have z2 : w3.frozen? ⟨w.heap.size + 1 + 1, 2, none⟩ = false := frozen_of_row w3 _ 2 _ 169 hB
  have z3 : w3.frozen? ⟨w.heap.size + 1 + 1, 3, none⟩ = false := frozen_of_row w3 _ 3 _ 169 hB
  have HS4 := hid (set4 hB (za_ HB0.out HB3.out) Xt0 Xt5 Xt5 Xt5 Xt5 (.int .i64 0) (.slice none 0 0) (.slice none 0 0) (.bool false))
  clear hB
  go_wp2_with fail
  refine bodyPost_ret (v := .tuple #[.agg #[.int .i64 0, .slice none 0 0, .slice none 0 0, .bool false], .int .i64 2]) ?_ rfl ⟨⟨none, 0, none, 0, by rw [HV.out]; rfl, by rw [HV.out]; exact Ls.nul _ _, by rw [HV.out]; exact Ls.nul _ _⟩, HS4.out.bel⟩
  exact Xb25
 go_wp2_with fail
 refine (HKD.out _).mono ?_; rintro r w4 ⟨rfl, B4⟩
 unfold kN
 have HB4 := hid (za_ HB3.out B4)
 clear B4 g0 g1 g2 g3 g4 g5 g6 o0 o1 o2 o3 o4 o5 o6
 go_wp2_with fail
 refine put_eq (v := .bool f3) rfl ?_
 cases f3
 ·simp only [Bool.true_and, Bool.false_eq_true, if_false, ↓reduceIte] at HV
  have hB := FB.out _ HB4.out
  have q0 := hB.cell 0
  have q1 := hB.cell 1
  have q2 := hB.cell 2
  have q3 := hB.cell 3
  simp only [gtA, gtB, gtC] at q0 q1 q2 q3
  have z0 : w4.frozen? ⟨w.heap.size + 1 + 1, 0, none⟩ = false := frozen_of_row w4 _ 0 _ 169 hB
  have z1 : w4.frozen? ⟨w.heap.size + 1 + 1, 1, none⟩ = false := frozen_of_row w4 _ 1 _ 169 hB
  have z2 : w4.frozen? ⟨w.heap.size + 1 + 1, 2, none⟩ = false := frozen_of_row w4 _ 2 _ 169 hB
  have z3 : w4.frozen? ⟨w.heap.size + 1 + 1, 3, none⟩ = false := frozen_of_row w4 _ 3 _ 169 hB
  have HS4 := hid (set4 hB (za_ HB0.out HB4.out) Xt0 Xt5 Xt5 Xt5 Xt5 (.int .i64 0) (.slice none 0 0) (.slice none 0 0) (.bool false))
  clear hB
  go_wp2_with fail
  refine bodyPost_ret (v := .tuple #[.agg #[.int .i64 0, .slice none 0 0, .slice none 0 0, .bool false], .int .i64 2]) ?_ rfl ⟨⟨none, 0, none, 0, by rw [HV.out]; rfl, by rw [HV.out]; exact Ls.nul _ _, by rw [HV.out]; exact Ls.nul _ _⟩, HS4.out.bel⟩
  exact Xb25
 simp only [Bool.true_and, if_true, ↓reduceIte] at HV
 obtain ⟨⟨hk32, ht32⟩, h24⟩ := HLEN.out Xt36 Xt36
 have H24 := hid h24
 have HK32 := hid hk32
 have HT32 := hid ht32
 clear h24 hk32 ht32
 go_wp2_with fail
 go_cut [7, 8] (fun x y wx => Cl2 o w4 x y wx)
 case first =>
  refine wp_region_held_drew (S := (fun W => Below w4.heap.size w4 W)) Xt3 ((Below.refl _ _).drew) fun hH => ?_
  refine tkq 0 ?_
  refine tkr 1 rfl Xf27 ?_
  refine tkq 3 ?_
  refine tkr 4 rfl Xf27 ?_
  refine tk1 2 rfl fun K hK => ?_
  go_simp
  refine (Q6_ o.ka o.K o.kn o.kc (FO.out _ HB4.out).kl (by have := HK32.out; omega) _ (FO.out _ (za_ HB4.out hH)).ks).mono ?_; rintro r W5 ⟨a5, c5, rfl, l5, B5⟩
  go_wp2_with fail
  refine hK.out _ _ (za_ hH B5) fun hH => ?_
  have L5 := hid l5
  clear l5 B5
  refine stP ?_
  refine tk1 5 rfl fun K hK => ?_
  go_simp
  refine (Q6_ o.ta o.T o.tn o.tc (FO.out _ HB4.out).tl (by have := HT32.out; omega) _ (FO.out _ (za_ HB4.out hH)).ts).mono ?_; rintro r W6 ⟨a6, c6, rfl, l6, B6⟩
  go_wp2_with fail
  refine hK.out _ _ (za_ hH B6) fun hH => ?_
  have L6 := hid l6
  have B56 := hid B6
  clear l6 B6
  refine stP ?_
  refine tkq2 6 7 ?_
  refine adn ?_
  go_wp2_with fail
  go_meet
  exact ⟨a5, c5, a6, c6, rfl, rfl, L5.out.below B56.out, L6.out, hH⟩
 case rest =>
  obtain ⟨fa, fc, ta, tc, rfl, rfl, lK, lT, BC⟩ := hcut
  have HBC := hid (za_ HB4.out BC)
  have LK := hid (fun W (b : Below wc.heap.size wc W) => lK.below b)
  have LT := hid (fun W (b : Below wc.heap.size wc W) => lT.below b)
  clear lK lT BC
  obtain ⟨g0, g1, g2, g3, g4, g5, g6, o0, o1, o2, o3, o4, o5, o6⟩ := FG.out _ HBC.out
  go_wp2_with fail
  refine (HKD.out _).mono ?_; rintro r w5 ⟨rfl, B5⟩
  unfold kN
  have HC5 := hid B5
  have HB5 := hid (za_ HBC.out B5)
  clear B5 g0 g1 g2 g3 g4 g5 g6 o0 o1 o2 o3 o4 o5 o6
  obtain ⟨g0, g1, g2, g3, g4, g5, g6, o0, o1, o2, o3, o4, o5, o6⟩ := FG.out _ HB5.out
  go_wp2_with fail
  refine put_eq (v := .bool f4) rfl ?_
  cases f4
  ·simp only [Bool.false_eq_true, if_false, ↓reduceIte] at HV
   go_wp2_with fail
   refine (qA_ j o.t (-1) _ (FJ.out _ HB5.out)).mono ?_; rintro r w6 ⟨rfl, B6⟩
   have HC6 := hid (za_ HC5.out B6)
   have HB6 := hid (za_ HB5.out B6)
   clear B6 g0 g1 g2 g3 g4 g5 g6 o0 o1 o2 o3 o4 o5 o6
   obtain ⟨g0, g1, g2, g3, g4, g5, g6, o0, o1, o2, o3, o4, o5, o6⟩ := FG.out _ HB6.out
   obtain ⟨tr, htr⟩ := gtx ((trV j o.t (-1)).1)
   obtain ⟨er, her⟩ := gtx ((if (trV j o.t (-1)).2.2.2 = true then (0 : Int) else 2))
   rw [htr] at HV ⊢
   rw [her]
   clear htr her
   have hB := FB.out _ HB6.out
   have q0 := hB.cell 0
   have q1 := hB.cell 1
   have q2 := hB.cell 2
   have q3 := hB.cell 3
   simp only [gtA, gtB, gtC] at q0 q1 q2 q3
   have z0 : w6.frozen? ⟨w.heap.size + 1 + 1, 0, none⟩ = false := frozen_of_row w6 _ 0 _ 169 hB
   have z1 : w6.frozen? ⟨w.heap.size + 1 + 1, 1, none⟩ = false := frozen_of_row w6 _ 1 _ 169 hB
   have z2 : w6.frozen? ⟨w.heap.size + 1 + 1, 2, none⟩ = false := frozen_of_row w6 _ 2 _ 169 hB
   have z3 : w6.frozen? ⟨w.heap.size + 1 + 1, 3, none⟩ = false := frozen_of_row w6 _ 3 _ 169 hB
   have HS4 := hid (set4 hB (za_ HB0.out HB6.out) Xt0 Xt5 Xt5 Xt5 Xt5 (.int .i64 tr) (.slice fa o.kn fc) (.slice ta o.tn tc) (.bool (decide (0 < o.tn))))
   clear hB
   go_wp2_with fail
   refine bodyPost_ret (v := .tuple #[.agg #[.int .i64 tr, .slice fa o.kn fc, .slice ta o.tn tc, .bool (decide (0 < o.tn))], .int .i64 0]) ?_ rfl ⟨⟨fa, fc, ta, tc, by rw [HV.out]; simp only [(FO.out _ HB6.out).kl, (FO.out _ HB6.out).tl], by rw [HV.out]; exact HS4.out.ls (LK.out _ HC6.out), by rw [HV.out]; exact HS4.out.ls (LT.out _ HC6.out)⟩, HS4.out.bel⟩
   exact Xb25
  ·simp only [if_true, ↓reduceIte] at HV
   obtain ⟨hk24, ht24⟩ := H24.out Xt36
   go_wp2_with fail
   refine (Qd_ o.ka o.K o.kn o.kc (FO.out _ HB5.out).kl hk24 _ (FO.out _ HB5.out).ks).mono ?_; rintro r w6 ⟨pa, pc, rfl, lp, B6⟩
   have HC6 := hid (za_ HC5.out B6)
   have HB6 := hid (za_ HB5.out B6)
   have LP := hid (fun W (b : Below w6.heap.size w6 W) => lp.below b)
   clear B6 lp g0 g1 g2 g3 g4 g5 g6 o0 o1 o2 o3 o4 o5 o6
   obtain ⟨g0, g1, g2, g3, g4, g5, g6, o0, o1, o2, o3, o4, o5, o6⟩ := FG.out _ HB6.out
   go_wp2_with fail
   refine (Qd_ o.ta o.T o.tn o.tc (FO.out _ HB6.out).tl ht24 _ (FO.out _ HB6.out).ts).mono ?_; rintro r w7 ⟨qa, qc, rfl, lq, B7⟩
   have HP7 := hid B7
   have HB7 := hid (za_ HB6.out B7)
   have LQ := hid (fun W (b : Below w7.heap.size w7 W) => lq.below b)
   clear B7 lq g0 g1 g2 g3 g4 g5 g6 o0 o1 o2 o3 o4 o5 o6
   obtain ⟨g0, g1, g2, g3, g4, g5, g6, o0, o1, o2, o3, o4, o5, o6⟩ := FG.out _ HB7.out
   go_wp2_with fail
   refine (qA_ j o.t o.i _ (FJ.out _ HB7.out)).mono ?_; rintro r w8 ⟨rfl, B8⟩
   have HQ8 := hid B8
   have HP8 := hid (za_ HP7.out B8)
   have HB8 := hid (za_ HB7.out B8)
   clear B8 g0 g1 g2 g3 g4 g5 g6 o0 o1 o2 o3 o4 o5 o6
   obtain ⟨g0, g1, g2, g3, g4, g5, g6, o0, o1, o2, o3, o4, o5, o6⟩ := FG.out _ HB8.out
   obtain ⟨tr, htr⟩ := gtx ((trV j o.t o.i).1)
   obtain ⟨er, her⟩ := gtx ((if (trV j o.t o.i).2.2.2 = true then (0 : Int) else 2))
   rw [htr] at HV ⊢
   rw [her]
   clear htr her
   have hB := FB.out _ HB8.out
   have q0 := hB.cell 0
   have q1 := hB.cell 1
   have q2 := hB.cell 2
   have q3 := hB.cell 3
   simp only [gtA, gtB, gtC] at q0 q1 q2 q3
   have z0 : w8.frozen? ⟨w.heap.size + 1 + 1, 0, none⟩ = false := frozen_of_row w8 _ 0 _ 169 hB
   have z1 : w8.frozen? ⟨w.heap.size + 1 + 1, 1, none⟩ = false := frozen_of_row w8 _ 1 _ 169 hB
   have z2 : w8.frozen? ⟨w.heap.size + 1 + 1, 2, none⟩ = false := frozen_of_row w8 _ 2 _ 169 hB
   have z3 : w8.frozen? ⟨w.heap.size + 1 + 1, 3, none⟩ = false := frozen_of_row w8 _ 3 _ 169 hB
   have HS4 := hid (set4 hB (za_ HB0.out HB8.out) Xt0 Xt5 Xt5 Xt5 Xt5 (.int .i64 tr) (.slice pa (zk_ o.K).length pc) (.slice qa (zk_ o.T).length qc) (.bool (decide (0 < o.tn))))
   clear hB
   go_wp2_with fail
   refine bodyPost_ret (v := .tuple #[.agg #[.int .i64 tr, .slice pa (zk_ o.K).length pc, .slice qa (zk_ o.T).length qc, .bool (decide (0 < o.tn))], .int .i64 0]) ?_ rfl ⟨⟨pa, pc, qa, qc, by rw [HV.out], by rw [HV.out]; exact HS4.out.ls (LP.out _ HP8.out), by rw [HV.out]; exact HS4.out.ls (LQ.out _ HQ8.out)⟩, HS4.out.bel⟩
   exact Xb25
def qE (j : Job) (o : zj_) : Bool :=
 if o.k = 1 ∨ o.k = 4 then yA_ o.kn && decide (o.rn = 0) && decide (o.tn = 0) && decide (o.m = 0) && decide (o.i = 0)
 else if o.k = 2 ∨ o.k = 3 then yA_ o.kn && y4_ o.R && decide (o.tn = 0) && decide (o.m = 0) && decide (o.i = 0)
 else if o.k = 5 then decide (o.kn <= 32) && decide (o.tn <= 32) && decide (1 <= o.m) && decide (o.m <= 64) && decide (o.i = 0) && decide (o.rn = 0)
 else if o.k = 6 then decide (o.kn <= 24) && decide (o.tn <= 24) && decide (1 <= o.m) && decide (o.m <= 64) && decide (0 <= o.i) && decide (o.i < j.T.getD o.t.toNat 0) && decide (o.rn = 0)
 else false
def qO (j : Job) (o : zj_) : Bool := okB j && !decide (o.t < 0) && !decide ((j.n : Int) <= o.t) && qE j o
theorem mayR_pos {R : List P1} (h : y4_ R = true) : 0 < R.length := by
 have := ((xx_ R).1 h).2.1; omega
theorem pO_qO (j : Job) (o : zj_) (hl : o.R.length = o.rn) : pO j o = qO j o := by
 have hm := @mayR_pos o.R
 rw [hl] at hm
 obtain ⟨k, t, i, ka, kn, kc, K, ta, tn, tc, TT, m, ra, rn, rc, R⟩ := o
 simp only at hm
 unfold pO qO qE endB idxV mostV
 simp only
 have ht : inB t 0 ((j.n : Int) - 1) = (!decide (t < 0) && !decide ((j.n : Int) <= t)) := by
  unfold inB
  rw [Bool.eq_iff_iff]; simp; omega
 rw [ht]
 clear hl
 generalize j.T.getD t.toNat 0 = xx
 by_cases h : k < 0 ∨ 6 < k
 ·have e1 : k ≠ 1 := by omega
  have e2 : k ≠ 2 := by omega
  have e3 : k ≠ 3 := by omega
  have e4 : k ≠ 4 := by omega
  have e5 : k ≠ 5 := by omega
  have e6 : k ≠ 6 := by omega
  simp only [jD_ k h]
  simp [e1, e2, e3, e4, e5, e6]
 obtain ⟨n, rfl⟩ : ∃ n : Nat, k = (n : Int) := ⟨k.toNat, by omega⟩
 have hn : n <= 6 := by omega
 simp only [kf_in n hn]
 cases hR : y4_ R
 ·clear hm
  cases okB j
  ·simp
  rcases (show n = 0 ∨ n = 1 ∨ n = 2 ∨ n = 3 ∨ n = 4 ∨ n = 5 ∨ n = 6 by omega) with rfl | rfl | rfl | rfl | rfl | rfl | rfl
  all_goals simp only [kB, List.getD]
  all_goals simp [inB, yA_]
  all_goals first | done | (rw [Bool.eq_iff_iff]; simp; omega)
 ·have hm' := hm hR
  clear hm
  have hr0 : rn ≠ 0 := by omega
  cases okB j
  ·simp
  rcases (show n = 0 ∨ n = 1 ∨ n = 2 ∨ n = 3 ∨ n = 4 ∨ n = 5 ∨ n = 6 by omega) with rfl | rfl | rfl | rfl | rfl | rfl | rfl
  all_goals simp only [kB, List.getD]
  all_goals simp [inB, yA_, hm', hr0]
  all_goals first | done | (rw [Bool.eq_iff_iff]; simp; omega)
theorem jv_ (j : Job) (o : zj_) (w : World) (hj : z2_ w j) (ho : zy_ w o) :
  Calls prog 104 #[.agg #[.int .i64 j.w, .int .i64 j.l, .int .i64 j.d, .int .i64 j.c, .int .i64 j.k, .int .i64 j.e, .slice j.a j.n j.cap], .agg #[.int .i64 o.k, .int .i64 o.t, .int .i64 o.i, .slice o.ka o.kn o.kc, .slice o.ta o.tn o.tc, .int .i64 o.m, .slice o.ra o.rn o.rc]] w fun r w' => r = .returned (.bool (qO j o)) /\ Below w.heap.size w w' := by
 obtain ⟨k, t, i, ka, kn, kc, K, ta, tn, tc, TT, m, ra, rn, rc, R⟩ := o
 have hp : qO j ⟨k, t, i, ka, kn, kc, K, ta, tn, tc, TT, m, ra, rn, rc, R⟩ = (okB j && !decide (t < 0) && !decide ((j.n : Int) <= t) && (if k = 1 ∨ k = 4 then yA_ kn && decide (rn = 0) && decide (tn = 0) && decide (m = 0) && decide (i = 0)
 else if k = 2 ∨ k = 3 then yA_ kn && y4_ R && decide (tn = 0) && decide (m = 0) && decide (i = 0)
 else if k = 5 then decide (kn <= 32) && decide (tn <= 32) && decide (1 <= m) && decide (m <= 64) && decide (i = 0) && decide (rn = 0)
 else if k = 6 then decide (kn <= 24) && decide (tn <= 24) && decide (1 <= m) && decide (m <= 64) && decide (0 <= i) && decide (i < j.T.getD t.toNat 0) && decide (rn = 0)
 else false)) := rfl
 generalize qO j _ = ans at hp ⊢
 simp only at ho ⊢
 obtain ⟨hb0, hbx⟩ := yr_ w #[.int .i64 j.w, .int .i64 j.l, .int .i64 j.d, .int .i64 j.c, .int .i64 j.k, .int .i64 j.e, .slice j.a j.n j.cap] #[.int .i64 k, .int .i64 t, .int .i64 i, .slice ka kn kc, .slice ta tn tc, .int .i64 m, .slice ra rn rc] 24 74
 have HCK := hid (show qi_ j = if okB j then 0 else 2 from rfl)
 have hln := hj.len
 have hlei : (j.n : Int) <= 1000000 := by have := hj.le; omega
 have HLN := hid hln
 clear hln
 go_enter func104, ntmps104
 go_wp2_with fail
 generalize ((w.alloc (.cells #[.int .i64 j.w, .int .i64 j.l, .int .i64 j.d, .int .i64 j.c, .int .i64 j.k, .int .i64 j.e, .slice j.a j.n j.cap] 24)).alloc (.cells #[.int .i64 k, .int .i64 t, .int .i64 i, .slice ka kn kc, .slice ta tn tc, .int .i64 m, .slice ra rn rc] 74)) = W0 at *
 have FG := hid (fun W (b : Below W0.heap.size W0 W) => (by
  obtain ⟨x, y⟩ := hbx W b
  exact ⟨x.cell 0, x.cell 1, x.cell 2, x.cell 3, x.cell 4, x.cell 5, x.cell 6, y.cell 0, y.cell 1, y.cell 2, y.cell 3, y.cell 4, y.cell 5, y.cell 6⟩ : W.cell? ⟨w.heap.size, 0, none⟩ = some (.int .i64 j.w) /\ W.cell? ⟨w.heap.size, 1, none⟩ = some (.int .i64 j.l) /\ W.cell? ⟨w.heap.size, 2, none⟩ = some (.int .i64 j.d) /\ W.cell? ⟨w.heap.size, 3, none⟩ = some (.int .i64 j.c) /\ W.cell? ⟨w.heap.size, 4, none⟩ = some (.int .i64 j.k) /\ W.cell? ⟨w.heap.size, 5, none⟩ = some (.int .i64 j.e) /\ W.cell? ⟨w.heap.size, 6, none⟩ = some (.slice j.a j.n j.cap) /\ W.cell? ⟨w.heap.size + 1, 0, none⟩ = some (.int .i64 k) /\ W.cell? ⟨w.heap.size + 1, 1, none⟩ = some (.int .i64 t) /\ W.cell? ⟨w.heap.size + 1, 2, none⟩ = some (.int .i64 i) /\ W.cell? ⟨w.heap.size + 1, 3, none⟩ = some (.slice ka kn kc) /\ W.cell? ⟨w.heap.size + 1, 4, none⟩ = some (.slice ta tn tc) /\ W.cell? ⟨w.heap.size + 1, 5, none⟩ = some (.int .i64 m) /\ W.cell? ⟨w.heap.size + 1, 6, none⟩ = some (.slice ra rn rc)))
 have FJ := hid (fun W (b : Below W0.heap.size W0 W) => (hj.below hb0).below b)
 have FO := hid (fun W (b : Below W0.heap.size W0 W) => (ho.below hb0).below b)
 have HB0 := hid hb0
 have HP := hid hp
 clear hb0 hbx hj ho hp
 refine (xs_ j W0 (FJ.out _ (Below.refl _ _))).mono ?_; rintro r w3 ⟨rfl, B3⟩
 have HBW := hid B3
 rw [HCK.out]
 clear B3
 obtain ⟨ok, hok⟩ := gtx (okB j)
 rw [hok] at HP ⊢
 have HOK := hid hok
 clear hok
 obtain ⟨g0, g1, g2, g3, g4, g5, g6, o0, o1, o2, o3, o4, o5, o6⟩ := FG.out _ HBW.out
 cases ok
 ·exact Xb18
 simp only [↓reduceIte]
 by_cases ht0 : t < 0
 ·have hd : decide (t < 0) = true := decide_eq_true ht0
  rw [hd] at HP
  clear hd
  exact Xb18
 by_cases htn : (j.n : Int) <= t
 ·have hd : decide ((j.n : Int) <= t) = true := decide_eq_true htn
  rw [hd] at HP
  clear hd
  exact Xb59
 obtain ⟨tk, rfl⟩ : ∃ tk : Nat, t = (tk : Int) := ⟨t.toNat, by omega⟩
 have htk : tk < j.n := by omega
 obtain ⟨b1, o1', ea, dd⟩ := (FJ.out _ HBW.out).ls.get tk Xt78
 obtain ⟨x, hx⟩ := gtx (j.T.getD tk 0)
 rw [hx] at dd
 rw [Int.toNat_natCast, hx, decide_eq_false ht0, decide_eq_false htn] at HP
 have hxb : 0 <= x /\ x <= 2 := by rw [← hx]; exact jh_ HOK.out tk Xt78
 have hx0 : 0 <= x := hxb.1
 have hx2 : x <= 2 := hxb.2
 have htki : (tk : Int) < (j.n : Int) := by omega
 have HEA := hid ea
 have DD := hid dd
 have HRM := hid (refmay_law ra R rn rc (FO.out _ HBW.out).rl w3 (FO.out _ HBW.out).rs)
 obtain ⟨mk, hmk⟩ := gtx (yA_ kn)
 obtain ⟨mr, hmr⟩ := gtx (y4_ R)
 rw [hmk, hmr] at HP
 rw [hmr] at HRM
 have HMK := hid hmk
 clear hx hxb ea dd hmk hmr
 by_cases h1 : k = 1
 ·subst h1
  rw [if_pos Xt4] at HP
  cases mk
  ·exact Xb1
  ·by_cases hrn : rn = 0
   ·subst hrn
    by_cases htn : tn = 0
    ·subst htn
     by_cases hm : m = 0
     ·subst hm
      by_cases hi : i = 0
      ·subst hi
       exact Xb1
      ·have hib : (i == 0) = false := by simpa using hi
       exact Xb1
     ·have hmb : (m == 0) = false := by simpa using hm
      exact Xb1
    ·have htnb : ((tn : Int) == 0) = false := by simpa using htn
     exact Xb1
   ·have hrnb : ((rn : Int) == 0) = false := by simpa using hrn
    exact Xb1
 have b1 : (k == 1) = false := by simpa using h1
 by_cases h4 : k = 4
 ·subst h4
  rw [if_pos Xt4] at HP
  cases mk
  ·exact Xb1
  ·by_cases hrn : rn = 0
   ·subst hrn
    by_cases htn : tn = 0
    ·subst htn
     by_cases hm : m = 0
     ·subst hm
      by_cases hi : i = 0
      ·subst hi
       exact Xb1
      ·have hib : (i == 0) = false := by simpa using hi
       exact Xb1
     ·have hmb : (m == 0) = false := by simpa using hm
      exact Xb1
    ·have htnb : ((tn : Int) == 0) = false := by simpa using htn
     exact Xb1
   ·have hrnb : ((rn : Int) == 0) = false := by simpa using hrn
    exact Xb1
 have b4 : (k == 4) = false := by simpa using h4
 by_cases h2 : k = 2
 ·subst h2
  rw [if_neg Xt4, if_pos Xt4] at HP
  cases mk
  ·exact Xb1
  ·cases mr
   ·exact Xb1
   ·by_cases htn : tn = 0
    ·subst htn
     by_cases hm : m = 0
     ·subst hm
      by_cases hi : i = 0
      ·subst hi
       exact Xb1
      ·have hib : (i == 0) = false := by simpa using hi
       exact Xb1
     ·have hmb : (m == 0) = false := by simpa using hm
      exact Xb1
    ·have htnb : ((tn : Int) == 0) = false := by simpa using htn
     exact Xb1
 have b2 : (k == 2) = false := by simpa using h2
 by_cases h3 : k = 3
 ·subst h3
  rw [if_neg Xt4, if_pos Xt4] at HP
  cases mk
  ·exact Xb1
  ·cases mr
   ·exact Xb1
   ·by_cases htn : tn = 0
    ·subst htn
     by_cases hm : m = 0
     ·subst hm
      by_cases hi : i = 0
      ·subst hi
       exact Xb1
      ·have hib : (i == 0) = false := by simpa using hi
       exact Xb1
     ·have hmb : (m == 0) = false := by simpa using hm
      exact Xb1
    ·have htnb : ((tn : Int) == 0) = false := by simpa using htn
     exact Xb1
 have b3 : (k == 3) = false := by simpa using h3
 by_cases h5 : k = 5
 ·subst h5
  rw [if_neg Xt4, if_neg Xt4, if_pos Xt4] at HP
  by_cases hkn : kn <= 32
  ·have hkni : (kn : Int) <= 32 := by omega
   by_cases htn : tn <= 32
   ·have htni : (tn : Int) <= 32 := by omega
    by_cases hm1 : 1 <= m
    ·by_cases hm64 : m <= 64
     ·by_cases hi : i = 0
      ·subst hi
       by_cases hrn : rn = 0
       ·subst hrn
        exact Xb1
       ·have hrnb : ((rn : Int) == 0) = false := by simpa using hrn
        exact Xb1
      ·have hib : (i == 0) = false := by simpa using hi
       exact Xb1
     ·have hm64d : decide (m <= 64) = false := decide_eq_false hm64
      exact Xb1
    ·have hm1d : decide (1 <= m) = false := decide_eq_false hm1
     exact Xb1
   ·have htni : ¬ (tn : Int) <= 32 := by omega
    have htnd : decide ((tn : Int) <= 32) = false := decide_eq_false htni
    have htnn : decide (tn <= 32) = false := decide_eq_false htn
    exact Xb1
  ·have hkni : ¬ (kn : Int) <= 32 := by omega
   have hknd : decide ((kn : Int) <= 32) = false := decide_eq_false hkni
   have hknn : decide (kn <= 32) = false := decide_eq_false hkn
   exact Xb1
 have b5 : (k == 5) = false := by simpa using h5
 by_cases h6 : k = 6
 ·subst h6
  rw [if_neg Xt4, if_neg Xt4, if_neg Xt4, if_pos Xt4] at HP
  rw [HEA.out] at g6
  have dd := DD.out
  by_cases hkn : kn <= 24
  ·have hkni : (kn : Int) <= 24 := by omega
   by_cases htn : tn <= 24
   ·have htni : (tn : Int) <= 24 := by omega
    by_cases hm1 : 1 <= m
    ·by_cases hm64 : m <= 64
     ·by_cases hi0 : 0 <= i
      ·by_cases hix : i < x
       ·by_cases hrn : rn = 0
        ·subst hrn
         exact Xb15
        ·have hrnb : ((rn : Int) == 0) = false := by simpa using hrn
         exact Xb15
       ·have hixd : decide (i < x) = false := decide_eq_false hix
        exact Xb15
      ·have hi0d : decide (0 <= i) = false := decide_eq_false hi0
       exact Xb15
     ·have hm64d : decide (m <= 64) = false := decide_eq_false hm64
      exact Xb15
    ·have hm1d : decide (1 <= m) = false := decide_eq_false hm1
     exact Xb15
   ·have htni : ¬ (tn : Int) <= 24 := by omega
    have htnd : decide ((tn : Int) <= 24) = false := decide_eq_false htni
    have htnn : decide (tn <= 24) = false := decide_eq_false htn
    exact Xb15
  ·have hkni : ¬ (kn : Int) <= 24 := by omega
   have hknd : decide ((kn : Int) <= 24) = false := decide_eq_false hkni
   have hknn : decide (kn <= 24) = false := decide_eq_false hkn
   exact Xb15
 have b6 : (k == 6) = false := by simpa using h6
 rw [if_neg Xt0, if_neg Xt0, if_neg Xt0, if_neg Xt0] at HP
 exact Xb59
end
end Go.Proofs.YthmofoldmdafoaaGreat
