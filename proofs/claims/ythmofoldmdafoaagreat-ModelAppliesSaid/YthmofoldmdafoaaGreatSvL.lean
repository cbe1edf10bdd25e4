/- Part of the proof that ModelApplies holds for every input: writes that are done on tables leave them as the document says. Part 38. -/
import Derived.Test.YthmofoldmdafoaaGreatSvK
set_option linter.unusedVariables false
set_option linter.unusedSimpArgs false
set_option maxRecDepth 100000
set_option maxHeartbeats 4000000
namespace Go.Proofs.YthmofoldmdafoaaGreat
open Go.ChangeShapes Go.WideShapes Go.ChangeAt Go.RowKit
open Go.Lib (hid)
open Go.Proofs.Tryz
def RApR (S : Nat -> Prop) (w : World) (f : Rf) (L : List WrV) (r : Ending) (w' : World) : Prop :=
 ∃ g, r = .returned (.int .i64 (if L.all (wrB f.Ts.length) then 0 else 2)) /\ RfS f g /\ RfR S w' g /\ g.P = (if L.all (wrB f.Ts.length) then zZ_ f.P (L.map WrV.P) else f.P) /\ Off (fun k => k = f.b1) w w' /\ ∀ N : Nat, (∀ x ∈ f.Ts, x.P.length <= N) -> ∀ x ∈ g.Ts, x.P.length <= N + L.length
theorem rapply_law {S : Nat -> Prop} {f : Rf} {w : World} (h : RfR S w f) (hS : ∀ k, S k -> k < w.heap.size) (a : Option Addr) (n c : Nat) (L : List WrV) (hn : L.length = n) (hn2 : n <= 90000) (hL : zs_ S w fun W => WrR W a L) (hb : ∀ x ∈ L, Byt x.K /\ x.K.length <= 1000000 /\ x.r.R.length <= 1000000 /\ ∀ p ∈ x.r.R, Byt p.bs) (hf : ∀ x ∈ f.Ts, x.P.length <= 900000) :
  Calls prog 17 #[.pointer (some ⟨f.p, 0, none⟩), .slice a n c] w (RApR S w f L) := by
 have HH := hid h
 have HL := hid hL
 have HN := hid hn
 have HS := hid hS
 have HB := hid hb
 have HF := hid hf
 have hni : (n : Int) <= 1000000 := by omega
 have hfw := h.few
 have htn4 : (f.Ts.length : Int) <= 4 := by omega
 clear h hS hn hL hb hf
 go_enter func17, ntmps17
 go_wp2_with fail
 go_loopw [5] (fun i wr => ∃ k : Nat, k <= n /\ i = .int .i64 (k : Int) /\ (L.take k).all (wrB f.Ts.length) = true /\ Hid (Below w.heap.size w wr)) (fun i _ => n - (intOf i).toNat)
 case atStart => exact ⟨0, by omega, rfl, rfl, hid (Below.refl _ _)⟩
 case round =>
  obtain ⟨k, hk, rfl, hall, HBW⟩ := hrel
  by_cases hlt : k < n
  ·have d3 : (k : Int) < (n : Int) := by omega
   obtain ⟨x, hx⟩ : ∃ x, L[k]? = some x := ⟨_, List.getElem?_eq_getElem Xt9⟩
   have hlr := HL.out.below HBW.out
   obtain ⟨b1, o1, ea, c0, c1, c2, l, rr⟩ := hlr.now k x hx
   subst ea
   have HX := hid hx
   have HA := hid hall
   have HC := hid (fun W (b : Below wr.heap.size wr W) => (⟨tcb b c0, tcb b c1, tcb b c2⟩ : W.cell? ⟨b1, o1 + k * 3, none⟩ = some (.int .i64 x.t) /\ W.cell? ⟨b1, o1 + k * 3 + 1, none⟩ = some (.slice x.ka x.K.length x.kc) /\ W.cell? ⟨b1, o1 + k * 3 + 2, none⟩ = some (.slice x.r.ra x.r.R.length x.r.rc)))
   have HRR := hid (fun W (b : Below wr.heap.size wr W) => rr.below b)
   have HP7 := hid (fun W (b : Below wr.heap.size wr W) => ((HH.out.below HBW.out).below b).c)
   clear hx hall hlr c0 c1 c2 l rr
   go_upto_region 6 with (fail)
   by_cases h0 : x.t < 0
   ·have d0 : x.t < 0 := h0
    have HWB := hid (show wrB f.Ts.length x = false by unfold wrB; rw [decide_eq_false Xt0]; rfl)
    clear h0
    refine rgw wr (Below.refl _ _).drew fun hH => ?_
    refine tkq4 0 1 2 3 ?_
    refine tkr 4 rfl Xf1 ?_
    refine tkp 5 (.bool true) rfl (.inl ⟨by rfl, ?_⟩) ?_
    ·exact Xb11
    refine tkq 6 ?_
    refine tkn 7 ?_
    refine tkn 8 ?_
    refine tkn 9 ?_
    refine tkn 10 ?_
    refine tkn 11 ?_
    refine tkn 12 ?_
    refine tkn 13 ?_
    refine tkn 14 ?_
    refine tkn 15 ?_
    refine tkn 16 ?_
    refine tkn 17 ?_
    refine tkq2 18 19 ?_
    refine tkn 20 ?_
    refine tkn 21 ?_
    refine tkn 22 ?_
    refine tkn 23 ?_
    refine tkn 24 ?_
    refine tkn 25 ?_
    refine tkn 26 ?_
    refine tkq2 27 28 ?_
    exact Xb12
   ·have d0 : ¬ x.t < 0 := h0
    by_cases h1 : (f.Ts.length : Int) <= x.t
    ·have d1 : (f.Ts.length : Int) <= x.t := h1
     have HWB := hid (show wrB f.Ts.length x = false by unfold wrB; rw [decide_eq_false Xt0]; rfl)
     clear h0 h1
     refine rgw wr (Below.refl _ _).drew fun hH => ?_
     refine tkq4 0 1 2 3 ?_
     refine tkr 4 rfl Xf1 ?_
     refine tkp 5 (.bool false) rfl (.inl ⟨by rfl, ?_⟩) ?_
     ·exact Xb11
     refine tkq4 6 7 8 9 ?_
     refine tkq 10 ?_
     refine tkr 11 rfl Xf1 ?_
     refine tkq3 12 13 14 ?_
     refine tkr 15 rfl Xf25 ?_
     refine tkq 16 ?_
     refine tkp 17 (.bool true) rfl (.inl ⟨by rfl, ?_⟩) ?_
     ·exact Xb11
     refine tkq2 18 19 ?_
     refine tkn 20 ?_
     refine tkn 21 ?_
     refine tkn 22 ?_
     refine tkn 23 ?_
     refine tkn 24 ?_
     refine tkn 25 ?_
     refine tkn 26 ?_
     refine tkq2 27 28 ?_
     exact Xb12
    ·have d1 : ¬ (f.Ts.length : Int) <= x.t := h1
     have HT1 := hid (show decide (0 <= x.t /\ x.t < (f.Ts.length : Int)) = true from decide_eq_true Xt0)
     cases hmk : yz_ x.K.length with
     | false =>
      have HMK := hid hmk
      have HWB := hid (show wrB f.Ts.length x = false by unfold wrB; rw [hmk]; simp)
      clear h0 h1 hmk
      refine rgw wr (Below.refl _ _).drew fun hH => ?_
      refine tkq4 0 1 2 3 ?_
      refine tkr 4 rfl Xf1 ?_
      refine tkp 5 (.bool false) rfl (.inl ⟨by rfl, ?_⟩) ?_
      ·exact Xb11
      refine tkq4 6 7 8 9 ?_
      refine tkq 10 ?_
      refine tkr 11 rfl Xf1 ?_
      refine tkq3 12 13 14 ?_
      refine tkr 15 rfl Xf25 ?_
      refine tkq 16 ?_
      refine tkp 17 (.bool false) rfl (.inl ⟨by rfl, ?_⟩) ?_
      ·exact Xb11
      refine tkq4 18 19 20 21 ?_
      refine tkq2 22 23 ?_
      refine tkr 24 rfl Xf1 ?_
      refine tk1 25 rfl fun K hK => ?_
      go_simp
      refine (zh_ x.ka x.K.length x.kc wr.drew).mono ?_; rintro r w5 ⟨rfl, rfl⟩
      rw [HMK.out]
      go_wp2_with fail
      refine hK.out _ _ hH fun hH => ?_
      refine stP ?_
      refine tkq3 26 27 28 ?_
      exact Xb12
     | true =>
      have HMK := hid hmk
      by_cases h2 : x.r.R.length = 0
      ·have DL := hid (List.length_eq_zero_iff.1 h2)
       have HWB := hid (show wrB f.Ts.length x = true by unfold wrB; rw [HT1.out, hmk, decide_eq_true h2]; rfl)
       clear h0 h1 hmk h2
       refine rgw wr (Below.refl _ _).drew fun hH => ?_
       refine tkq4 0 1 2 3 ?_
       refine tkr 4 rfl Xf1 ?_
       refine tkp 5 (.bool false) rfl (.inl ⟨by rfl, ?_⟩) ?_
       ·exact Xb11
       refine tkq4 6 7 8 9 ?_
       refine tkq 10 ?_
       refine tkr 11 rfl Xf1 ?_
       refine tkq3 12 13 14 ?_
       refine tkr 15 rfl Xf25 ?_
       refine tkq 16 ?_
       refine tkp 17 (.bool false) rfl (.inl ⟨by rfl, ?_⟩) ?_
       ·exact Xb11
       refine tkq4 18 19 20 21 ?_
       refine tkq2 22 23 ?_
       refine tkr 24 rfl Xf1 ?_
       refine tk1 25 rfl fun K hK => ?_
       go_simp
       refine (zh_ x.ka x.K.length x.kc wr.drew).mono ?_; rintro r w5 ⟨rfl, rfl⟩
       rw [HMK.out]
       go_wp2_with fail
       refine hK.out _ _ hH fun hH => ?_
       refine stP ?_
       refine tkq4 26 27 28 29 ?_
       refine tkq3 30 31 32 ?_
       refine tkr 33 rfl Xf1 ?_
       refine tkq 34 ?_
       refine tkp 35 (.bool false) rfl (.inl ⟨by rfl, ?_⟩) ?_
       ·exact Xb11
       refine tkq 36 ?_
       refine tkn 37 ?_
       refine tkn 38 ?_
       refine tkn 39 ?_
       refine tkn 40 ?_
       refine tkn 41 ?_
       refine tkn 42 ?_
       refine tkn 43 ?_
       refine tkq2 44 45 ?_
       exact Xb46
      ·have DL := hid (show 0 < x.r.R.length by omega)
       cases hmr : yU_ x.r.R with
       | false =>
        have HMR := hid hmr
        have HWB := hid (show wrB f.Ts.length x = false by unfold wrB; rw [HT1.out, hmk, hmr, decide_eq_false h2]; rfl)
        clear h0 h1 hmk h2 hmr
        refine rgw wr (Below.refl _ _).drew fun hH => ?_
        refine tkq4 0 1 2 3 ?_
        refine tkr 4 rfl Xf1 ?_
        refine tkp 5 (.bool false) rfl (.inl ⟨by rfl, ?_⟩) ?_
        ·exact Xb11
        refine tkq4 6 7 8 9 ?_
        refine tkq 10 ?_
        refine tkr 11 rfl Xf1 ?_
        refine tkq3 12 13 14 ?_
        refine tkr 15 rfl Xf25 ?_
        refine tkq 16 ?_
        refine tkp 17 (.bool false) rfl (.inl ⟨by rfl, ?_⟩) ?_
        ·exact Xb11
        refine tkq4 18 19 20 21 ?_
        refine tkq2 22 23 ?_
        refine tkr 24 rfl Xf1 ?_
        refine tk1 25 rfl fun K hK => ?_
        go_simp
        refine (zh_ x.ka x.K.length x.kc wr.drew).mono ?_; rintro r w5 ⟨rfl, rfl⟩
        rw [HMK.out]
        go_wp2_with fail
        refine hK.out _ _ hH fun hH => ?_
        refine stP ?_
        refine tkq4 26 27 28 29 ?_
        refine tkq3 30 31 32 ?_
        refine tkr 33 rfl Xf1 ?_
        refine tkq 34 ?_
        refine tkp 35 (.bool true) rfl (.inl ⟨by rfl, ?_⟩) ?_
        ·exact Xb11
        refine tkq4 36 37 38 39 ?_
        refine tkq 40 ?_
        refine tkr 41 rfl Xf1 ?_
        refine tk1 42 rfl fun K hK => ?_
        go_simp
        refine (qj_ x.r.ra x.r.R x.r.R.length x.r.rc rfl wr.drew (HRR.out wr.drew hH)).mono ?_; rintro r w6 ⟨rfl, rfl⟩
        rw [HMR.out]
        go_wp2_with fail
        refine hK.out _ _ hH fun hH => ?_
        refine stP ?_
        refine tkq3 43 44 45 ?_
        refine adn ?_
        skip
        have HB9 := hid (HBW.out.trans ((show Below wr.heap.size wr wr.drew from hH).mono HBW.out.size))
        clear hH
        go_wp2_with fail
        go_ret
        have hv := yy_ HX.out HWB.out
        exact ⟨f, by rw [hv]; rfl, RfS.rfl' f, HH.out.below HB9.out, by rw [hv]; rfl, Off.of HB9.out, fun N h z hz => by have := h z hz; omega⟩
       | true =>
        have HMR := hid hmr
        have HWB := hid (show wrB f.Ts.length x = true by unfold wrB; rw [HT1.out, hmk, hmr]; simp)
        clear h0 h1 hmk h2 hmr
        refine rgw wr (Below.refl _ _).drew fun hH => ?_
        refine tkq4 0 1 2 3 ?_
        refine tkr 4 rfl Xf1 ?_
        refine tkp 5 (.bool false) rfl (.inl ⟨by rfl, ?_⟩) ?_
        ·exact Xb11
        refine tkq4 6 7 8 9 ?_
        refine tkq 10 ?_
        refine tkr 11 rfl Xf1 ?_
        refine tkq3 12 13 14 ?_
        refine tkr 15 rfl Xf25 ?_
        refine tkq 16 ?_
        refine tkp 17 (.bool false) rfl (.inl ⟨by rfl, ?_⟩) ?_
        ·exact Xb11
        refine tkq4 18 19 20 21 ?_
        refine tkq2 22 23 ?_
        refine tkr 24 rfl Xf1 ?_
        refine tk1 25 rfl fun K hK => ?_
        go_simp
        refine (zh_ x.ka x.K.length x.kc wr.drew).mono ?_; rintro r w5 ⟨rfl, rfl⟩
        rw [HMK.out]
        go_wp2_with fail
        refine hK.out _ _ hH fun hH => ?_
        refine stP ?_
        refine tkq4 26 27 28 29 ?_
        refine tkq3 30 31 32 ?_
        refine tkr 33 rfl Xf1 ?_
        refine tkq 34 ?_
        refine tkp 35 (.bool true) rfl (.inl ⟨by rfl, ?_⟩) ?_
        ·exact Xb11
        refine tkq4 36 37 38 39 ?_
        refine tkq 40 ?_
        refine tkr 41 rfl Xf1 ?_
        refine tk1 42 rfl fun K hK => ?_
        go_simp
        refine (qj_ x.r.ra x.r.R x.r.R.length x.r.rc rfl wr.drew (HRR.out wr.drew hH)).mono ?_; rintro r w6 ⟨rfl, rfl⟩
        rw [HMR.out]
        go_wp2_with fail
        refine hK.out _ _ hH fun hH => ?_
        refine stP ?_
        refine tkq3 43 44 45 ?_
        exact Xb46
  ·have d3 : ¬ (k : Int) < (n : Int) := by omega
   have HA := hid (show L.all (wrB f.Ts.length) = true by rw [List.take_of_length_le Xt18] at hall; exact hall)
   have HBW1 := HBW
   clear hall hlt hk HBW
   go_wp2_with fail
   go_loopw [6] (fun i wr => ∃ (k : Nat) (g : Rf), k <= n /\ i = .int .i64 (k : Int) /\ Hid (RfS f g) /\ Hid (RfR S wr g) /\ Hid (g.P = zZ_ f.P ((L.take k).map WrV.P)) /\ Hid (Off (fun k => k = f.b1) w wr) /\ Hid (∀ N : Nat, (∀ x ∈ f.Ts, x.P.length <= N) -> ∀ x ∈ g.Ts, x.P.length <= N + k)) (fun i _ => n - (intOf i).toNat)
   case atStart => exact ⟨0, f, by omega, rfl, hid (RfS.rfl' f), hid (HH.out.below HBW1.out), hid rfl, hid (Off.of HBW1.out), hid (fun N h z hz => by have := h z hz; omega)⟩
   case round =>
    obtain ⟨k, g, hk, rfl, HSM, HM, HP, HOF, HFW⟩ := hrel
    by_cases hlt : k < n
    ·have d4 : (k : Int) < (n : Int) := by omega
     obtain ⟨x, hx⟩ : ∃ x, L[k]? = some x := ⟨_, List.getElem?_eq_getElem Xt9⟩
     have hoS : Off S w wr := HOF.out.mono fun k hk => hk ▸ HH.out.hb
     obtain ⟨b1, o1, ea, c0, c1, c2, l, rr⟩ := (HL.out wr hoS) k x hx
     subst ea
     have hxm : x ∈ L := List.mem_of_getElem? hx
     have hwb := List.all_eq_true.1 HA.out x hxm
     have hxb := HB.out x hxm
     unfold wrB at hwb
     simp only [Bool.and_eq_true, Bool.or_eq_true, decide_eq_true_eq] at hwb
     obtain ⟨⟨⟨t0, t1⟩, hmk⟩, hmr⟩ := hwb
     obtain ⟨t, ht⟩ : ∃ t : Nat, x.t = (t : Int) := ⟨x.t.toNat, by omega⟩
     rw [ht] at c0 t1
     have hko : zH_ x.K := mayK_ok hmk hxb.1
     have hro : x.r.R ≠ [] -> rOk (x.r.R.map P1.bs) := fun hne => j3_ (hmr.resolve_left fun e => hne (List.length_eq_zero_iff.1 e)) hxb.2.2.2
     have HC := hid (fun W (b : Below wr.heap.size wr W) => (⟨tcb b c0, tcb b c1, tcb b c2⟩ : W.cell? ⟨b1, o1 + k * 3, none⟩ = some (.int .i64 (t : Int)) /\ W.cell? ⟨b1, o1 + k * 3 + 1, none⟩ = some (.slice x.ka x.K.length x.kc) /\ W.cell? ⟨b1, o1 + k * 3 + 2, none⟩ = some (.slice x.r.ra x.r.R.length x.r.rc)))
     have hd := (Below.refl wr.heap.size wr).drew
     have key := rset_m (HM.out.below hd) (fun k hk => Nat.lt_of_lt_of_le (HS.out k hk) (Nat.le_trans HOF.out.size hd.size)) t (by rw [HSM.out.n]; omega) x.K hko x.ka x.K.length x.kc rfl x.r.R hro x.r.ra x.r.R.length x.r.rc rfl (fun z hz => by have := HFW.out 900000 HF.out z hz; omega) (l.below hd) (rr.below hd)
     rw [HSM.out.p] at key
     have HSET := hid key
     have HTK := hid (xN_ f.P L hx)
     have HTT := hid (show x.t.toNat = t by rw [ht]; simp)
     clear hx hoS c0 c1 c2 l rr hxm hxb t0 t1 hmk hmr ht hko hro hd key
     go_upto_region 11 with (fail)
     refine zq_ (z := 16) (S := (fun X => Below wr.heap.size wr X)) Xt3 ((Below.refl wr.heap.size wr).drew) fun hH => ?_
     refine tlk 0 rfl Xt2 ?_
     refine tlf 1 rfl Xt2 ?_
     refine tlf 2 rfl Xt2 ?_
     refine tlf 3 rfl Xt2 ?_
     refine tlf 4 rfl Xt2 ?_
     refine tlk 5 rfl Xf1 ?_
     refine tlf 6 rfl Xt2 ?_
     refine tlf 7 rfl Xt2 ?_
     refine tlf 8 rfl Xt2 ?_
     refine tlf 9 rfl Xt2 ?_
     refine tlk 10 rfl Xf1 ?_
     refine tlf 11 rfl Xt2 ?_
     refine tlf 12 rfl Xt2 ?_
     refine tlf 13 rfl Xt2 ?_
     refine tlf 14 rfl Xt2 ?_
     refine tlk 15 rfl Xf1 ?_
     refine tlz rfl fun K hK => ?_
     go_simp
     refine HSET.out.mono ?_; rintro r w5 ⟨v5, g2, rfl, hs, hg, ho5, hP, hN⟩
     have HG2 := hid (And.intro hs (And.intro hg (And.intro ho5 (And.intro hP hN))))
     clear hs hg ho5 hP hN
     go_wp2_with fail
     refine hK.out _ _ ?_
     clear hK K
     refine stP ?_
     refine zv_ Xt3 ?_ _
     skip
     clear hH
     go_wp2_with fail
     go_roundw
     case rel =>
      obtain ⟨h1, h2, h3, h4, h5⟩ := HG2.out
      refine ⟨k + 1, g2, by omega, by go_num, hid (HSM.out.trans h1), hid h2, hid ?_, hid ?_, hid (fun N hN z hz => by have := h5 (N + k) (HFW.out N hN) z hz; omega)⟩
      ·rw [h4, HTK.out, HP.out, HTT.out]; rfl
      ·exact HOF.out.trans ((Off.of (Below.refl wr.heap.size wr).drew).trans (h3.mono fun k hk => by rw [hk, HSM.out.b]))
     case measure => simp [intOf]; omega
    ·have d4 : ¬ (k : Int) < (n : Int) := by omega
     have HTA := hid (show L.take k = L from List.take_of_length_le Xt18)
     have hke : k = n := by omega
     have HKE := hid hke
     clear hke
     go_wp2_with fail
     go_ret
     refine ⟨g, by rw [HA.out]; rfl, HSM.out, HM.out, by rw [HA.out, HP.out, HTA.out]; rfl, HOF.out, fun N hN z hz => ?_⟩
     have := HFW.out N hN z hz
     rw [HN.out, ← HKE.out]; exact this
section
open Go.Maps Go.Shelf
def getO (P : List (List Pr)) (t : Int) (K : List Int) : Option (List (List Int)) := if 0 <= t /\ t < P.length then y4_ (P.getD t.toNat []) K else none
def AnyG (w : World) (o : Option (List (List Int))) (r : Ending) (w' : World) : Prop :=
 (∃ a c R, r = .returned (.tuple #[.slice a R.length c, .bool o.isSome]) /\ RdR w' a R /\ R.map P1.bs = o.getD [] /\ R.length <= 1000000 /\ ∀ p ∈ R, Byt p.bs) /\ Below w.heap.size w w'
theorem AnyG.nul {w : World} {w' : World} (b : Below w.heap.size w w') : AnyG w none (.returned (.tuple #[.slice none 0 0, .bool false])) w' :=
 ⟨⟨none, 0, [], rfl, fun k x hx => by simp at hx, rfl, Nat.zero_le _, fun p hp => by cases hp⟩, b⟩
theorem AnyG.of {w w' : World} {o : Option (List (List Int))} {R : List P1} {n : Nat} {v : Value} (hn : R.length = n) (hc : CpR w.heap.size R n v w') (ho : R.map P1.bs = o.getD []) (hk : ∀ F, o = some F -> rOk F) (b : Below w.heap.size w w') : AnyG w o (.returned (.tuple #[v, .bool o.isSome])) w' := by
 obtain ⟨a, c, R', rfl, h1, h2, h3, _⟩ := hc.lies hn
 have h4 : R'.map P1.bs = o.getD [] := h3.trans ho
 refine ⟨⟨a, c, R', by rw [h2], h1, h4, ?_, fun p hp => ?_⟩, b⟩
 ·cases o with
  | none => have := congrArg List.length h4; rw [List.length_map] at this; simp at this; rw [this]; simp
  | some F =>
   have h5 := hk F rfl
   have := congrArg List.length h4
   rw [List.length_map] at this
   have h6 := h5.2.1
   simp at this
   omega
 ·have h5 : p.bs ∈ R'.map P1.bs := List.mem_map.2 ⟨p, hp, rfl⟩
  rw [h4] at h5
  cases o with
  | none => cases h5
  | some F => exact ((hk F rfl).2.2 _ h5).1
theorem mget_no {S : Nat -> Prop} {m : Md} {w : World} (h : MdR S w m) (t : Int) (ht : ¬ (0 <= t /\ t < m.tabs.length)) (ka : Option Addr) (kn kc : Nat) :
  Calls prog 18 #[.pointer (some ⟨m.p, 0, none⟩), .int .i64 t, .slice ka kn kc] w fun r w' => r = .returned (.tuple #[.slice none 0 0, .bool false]) /\ Below w.heap.size w w' := by
 have HM := hid (show Calls prog 52 #[.pointer (some ⟨m.p, 0, none⟩), .int .i64 t] w fun e w' => e = .returned (.bool false) /\ w = w' from (yB_ h t).mono (by
  rintro e w' ⟨h1, h2⟩
  refine ⟨?_, h2⟩
  rw [h1, decide_eq_false ht]))
 clear h ht
 go_enter func18, ntmps18
 go_wp2_with fail
 refine HM.out.mono ?_; rintro r w1 ⟨rfl, rfl⟩
 exact Xb98
theorem rget_no {S : Nat -> Prop} {f : Rf} {w : World} (h : RfR S w f) (t : Int) (ht : ¬ (0 <= t /\ t < f.Ts.length)) (ka : Option Addr) (kn kc : Nat) :
  Calls prog 19 #[.pointer (some ⟨f.p, 0, none⟩), .int .i64 t, .slice ka kn kc] w fun r w' => r = .returned (.tuple #[.slice none 0 0, .bool false]) /\ Below w.heap.size w w' := by
 have c7 := h.c
 by_cases h0 : t < 0
 ·clear h ht
  go_enter func19, ntmps19
  exact Xb98
 ·have h1 : (f.Ts.length : Int) <= t := by omega
  clear h ht
  go_enter func19, ntmps19
  exact Xb98
theorem mget_any {S : Nat -> Prop} {m : Md} {w : World} (h : MdR S w m) (t : Int) (ka : Option Addr) (kn kc : Nat) (K : List Int) (hK : K.length = kn) (hkn : kn <= 1000000) (bK : Byt K) (hk : Ls .u8 w ka kc K) :
  Calls prog 18 #[.pointer (some ⟨m.p, 0, none⟩), .int .i64 t, .slice ka kn kc] w (AnyG w (getO m.P t K)) := by
 by_cases ht : 0 <= t /\ t < m.tabs.length
 ·obtain ⟨k, rfl⟩ := Int.eq_ofNat_of_zero_le ht.1
  obtain ⟨x, hx⟩ : ∃ x, m.tabs[k]? = some x := ⟨_, List.getElem?_eq_getElem Xt0⟩
  have hin := List.mem_of_getElem? hx
  have ho : getO m.P (k : Int) K = (z1_ x.2 K).map RV.P := by
   unfold getO
   rw [if_pos (by rw [m.P_len]; exact ht), Int.toNat_natCast, ← jR_]
   unfold Md.P
   rw [List.getD_eq_getElem?_getD, List.getElem?_map, hx]
   rfl
  refine (mget_law h k x hx ka kn kc K hK hkn bK hk).mono ?_
  rintro r w' ⟨⟨v, rfl, hc⟩, hb⟩
  have e1 : ((z1_ x.2 K).map RV.R).isSome = (getO m.P (k : Int) K).isSome := by rw [ho]; cases z1_ x.2 K <;> rfl
  rw [e1]
  refine AnyG.of rfl hc (by rw [ho]; cases z1_ x.2 K <;> rfl) (fun F hF => ?_) hb
  rw [ho] at hF
  cases hg : z1_ x.2 K with
  | none => rw [hg] at hF; cases hF
  | some rv =>
   rw [hg] at hF
   cases hF
   have h1 := (yn_ (h.maps x hin).ris).1 hg
   exact ((h.lim x hin).2 (K, rv.P) (List.mem_map.2 ⟨(K, rv), h1, rfl⟩)).2
 ·refine (mget_no h t ht ka kn kc).mono ?_
  rintro r w' ⟨rfl, hb⟩
  unfold getO
  rw [if_neg (by rw [m.P_len]; exact ht)]
  exact AnyG.nul hb
theorem rget_any {S : Nat -> Prop} {f : Rf} {w : World} (h : RfR S w f) (t : Int) (ka : Option Addr) (kn kc : Nat) (K : List Int) (hK : K.length = kn) (bK : Byt K) (hk : Ls .u8 w ka kc K) (hl : ∀ x ∈ f.Ts, x.P.length <= 1000000) :
  Calls prog 19 #[.pointer (some ⟨f.p, 0, none⟩), .int .i64 t, .slice ka kn kc] w (AnyG w (getO f.P t K)) := by
 by_cases ht : 0 <= t /\ t < f.Ts.length
 ·obtain ⟨k, rfl⟩ := Int.eq_ofNat_of_zero_le ht.1
  obtain ⟨q, hq1, hq2, hq3⟩ := qw_ h k Xt0 K bK ka kn kc hK hl hk
  have ho : getO f.P (k : Int) K = q.map fun R => R.map P1.bs := by
   unfold getO
   rw [if_pos (by rw [f.P_len]; exact ht), Int.toNat_natCast, hq1]
  refine hq3.mono ?_
  rintro r w' ⟨hr, hb⟩
  rw [ho]
  cases q with
  | none =>
   have hr : r = .returned (.tuple #[.slice none 0 0, .bool false]) := hr
   subst hr
   exact AnyG.nul hb
  | some R =>
   obtain ⟨v, rfl, hc⟩ := hr
   exact AnyG.of rfl hc rfl (fun F hF => by cases hF; exact hq2 R rfl) hb
 ·refine (rget_no h t ht ka kn kc).mono ?_
  rintro r w' ⟨rfl, hb⟩
  unfold getO
  rw [if_neg (by rw [f.P_len]; exact ht)]
  exact AnyG.nul hb
theorem not_maps {S S2 : Nat -> Prop} {W : World} {m : Md} {f : Rf} (hm : MdR S W m) (hf : RfR S2 W f) : ¬ yq_ m f.p /\ ¬ yq_ m f.b1 :=
 ⟨fun ⟨z, hz, e⟩ => (hm.maps z hz).ne_box hf.box e.symm, fun ⟨z, hz, e⟩ => by obtain ⟨cs, hc⟩ := hf.tb; exact (hm.maps z hz).ne_box hc e.symm⟩
theorem Qx_ {lo : Nat} {w : World} {m0 m : Md} {p0 : Nat} {f : Rf} {S : Nat -> Prop} {N : Nat} (h : TwoM lo w m0 m p0 f S N) (hN : N <= 200000) (a : Option Addr) (n c : Nat) (L : List WrV) (hn : L.length = n) (hn2 : n <= 9000) (hL : zs_ (yq_ m) w fun W => WrR W a L) (hb : ∀ x ∈ L, Byt x.K /\ x.K.length <= 1000000 /\ x.r.R.length <= 1000000 /\ ∀ p ∈ x.r.R, Byt p.bs) :
  Calls prog 16 #[.pointer (some ⟨m0.p, 0, none⟩), .slice a n c] w fun r w' => ∃ m', r = .returned (.int .i64 (if L.all (wrB m.tabs.length) then 0 else 2)) /\ MdR S w' m' /\ RfR S w' f /\ zG_ m m' /\ m'.P = (if L.all (wrB m.tabs.length) then zZ_ m.P (L.map WrV.P) else m.P) /\ Off (yq_ m) w w' /\ ∀ z ∈ m'.tabs, z.2.length <= N + 9000 := by
 have key := qX_ h.hm h.hs a n c L hn Xt0 hL hb (fun z hz => by have := h.lm z hz; omega)
 rw [h.ms.p] at key
 refine key.mono ?_
 rintro r w' ⟨m', rfl, h1, h2, h3, h4, h5⟩
 obtain ⟨n1, n2⟩ := not_maps h.hm h.hf
 refine ⟨m', rfl, h1, h.hf.off h4 (fun k ⟨z, hz, e⟩ => e ▸ h.hm.hS z hz) n1 n2 (fun _ h => .inl h) h.hf.hp h.hf.hb, h2, h3, h4, fun z hz => ?_⟩
 have := h5 N h.lm z hz
 omega
theorem jn_ {lo : Nat} {w w1 : World} {m0 m m' : Md} {p0 : Nat} {f : Rf} {S : Nat -> Prop} {N : Nat} (h : TwoM lo w m0 m p0 f S N) (hN : N <= 200000) (a : Option Addr) (n c : Nat) (L : List WrV) (hn : L.length = n) (hn2 : n <= 9000) (hb : ∀ x ∈ L, Byt x.K /\ x.K.length <= 1000000 /\ x.r.R.length <= 1000000 /\ ∀ p ∈ x.r.R, Byt p.bs)
  (hm : MdR S w1 m') (hf : RfR S w1 f) (hms : zG_ m m') (hP : m'.P = (if L.all (wrB m.tabs.length) then zZ_ m.P (L.map WrV.P) else m.P)) (hlm : ∀ z ∈ m'.tabs, z.2.length <= N + 9000) (hsz : w.heap.size <= w1.heap.size) (hL : zs_ S w1 fun W => WrR W a L) :
  Calls prog 17 #[.pointer (some ⟨p0, 0, none⟩), .slice a n c] w1 fun r w' => r = .returned (.int .i64 (if L.all (wrB m.tabs.length) then 0 else 2)) /\ (∃ g, TwoM lo w' m0 m' p0 g S (N + 9000)) /\ Off (fun k => k = f.b1) w1 w' := by
 have hml : m.tabs.length = f.Ts.length := by rw [← m.P_len, ← h.P, f.P_len]
 have hs : ∀ k, S k -> k < w1.heap.size := fun k hk => Nat.lt_of_lt_of_le (h.hs k hk) hsz
 have key := rapply_law hf hs a n c L hn Xt0 hL hb (fun z hz => by have := h.lf z hz; omega)
 rw [h.fp] at key
 refine key.mono ?_
 intro r w' hr
 unfold RApR at hr
 rw [← hml] at hr
 obtain ⟨g, rfl, h1, h2, h3, h4, h5⟩ := hr
 obtain ⟨n1, n2⟩ := not_maps hm hf
 refine ⟨rfl, ⟨g, ?_, h2, fun k hk => Nat.lt_of_lt_of_le (hs k hk) h4.size, h.ge, Nat.le_trans h.lw (Nat.le_trans hsz h4.size), h.ms.trans hms, h1.p.trans h.fp, ?_, ?_, hlm, fun z hz => ?_⟩, h4⟩
 ·exact hm.off h4 (fun k e => e ▸ hf.hb) (fun z hz e => n2 ⟨z, hz, e.symm⟩) (fun _ h => .inl h) hm.hS
 ·rw [h1.j, hms.j]; exact h.je
 ·rw [h3, hP, h.P]
 ·have := h5 N h.lf z hz
  omega
def SmW (xs : List WrV) : Prop := xs.length <= 9000 /\ ∀ x ∈ xs, x.K.length <= 9000 /\ x.r.R.length <= 9000 /\ ∀ p ∈ x.r.R, p.bs.length <= 9000
def MuW (xs : List WrV) (r : Ending) : Prop := ∃ b, r = .returned (.bool b) /\ (b = false -> SmW xs)
def BgW (xs : List WrV) : Prop := xs.length <= 140737488355328 /\ ∀ x ∈ xs, x.r.R.length <= 140737488355328
theorem muchw_law (a : Option Addr) (xs : List WrV) (n cap : Nat) (hL : xs.length = n) (hB : BgW xs) (w : World) (hA : WrR w a xs) :
  Calls prog 15 #[.slice a n cap, .int .i64 9000] w fun r w' => MuW xs r /\ Below w.heap.size w w' := by
 have HA := hid (fun W (b : Below w.heap.size w W) => hA.below b)
 have HL := hid hL
 have HBD := hid hB.2
 have hn := hB.1
 rw [hL] at hn
 have hni : (n : Int) <= 140737488355328 := by omega
 clear hA hL hB
 go_enter func15, ntmps15
 go_wp2_with fail
 go_loopw [5, 6] (fun x i wr => ∃ k s : Nat, k <= n /\ i = .int .i64 (k : Int) /\ x = .int .i64 (s : Int) /\ k <= s /\ s <= 281474976710656 /\ Hid (s <= 9000 -> ∀ q, q < k -> ∀ o, xs[q]? = some o -> o.K.length <= 9000 /\ o.r.R.length <= 9000 /\ ∀ p ∈ o.r.R, p.bs.length <= 9000) /\ Hid (Below w.heap.size w wr)) (fun _ i _ => n - (intOf i).toNat)
 case atStart => exact ⟨0, 0, by omega, rfl, rfl, by omega, by omega, hid (fun _ q hq => absurd hq Xt0), hid (Below.refl _ _)⟩
 case round =>
  obtain ⟨k, s, hk, rfl, rfl, hks, hs2, HP, BB⟩ := hrel
  have hsb : (s : Int) <= 281474976710656 := by omega
  by_cases hlt : k < n
  ·have hkl : (k : Int) < (n : Int) := by omega
   by_cases hs : s <= 9000
   ·have hsi : (s : Int) <= 9000 := by omega
    have hki : (k : Int) <= 9000 := by omega
    obtain ⟨o, ho⟩ : ∃ o, xs[k]? = some o := ⟨_, List.getElem?_eq_getElem Xt80⟩
    obtain ⟨b1, o1, ea, d0, d1, d2, hcl, hc⟩ := HA.out _ BB.out k o ho
    subst ea
    have hrn := HBD.out o (List.mem_of_getElem? ho)
    have hg := szF_ge o.r.R
    have hle := szF_le o.r.R
    have HSZ := hid (fun m => (Qz_ o.r.ra o.r.R o.r.R.length o.r.rc rfl (wr.drewN m) (hc.below (zl_ (Below.refl _ _) m))))
    obtain ⟨z, hz⟩ := gtx (szF o.r.R)
    rw [hz] at hg hle HSZ
    have HZ := hid hz
    have HO := hid ho
    have hz0 : (0 : Int) <= (z : Int) := by omega
    have hz1 : (z : Int) <= 140737490452480 := by omega
    obtain ⟨kn, hkn⟩ := gtx (o.K.length)
    obtain ⟨rn, hrn2⟩ := gtx (o.r.R.length)
    obtain ⟨oka, hoka⟩ := gtx (o.ka)
    obtain ⟨okc, hokc⟩ := gtx (o.kc)
    obtain ⟨ora, hora⟩ := gtx (o.r.ra)
    obtain ⟨orc, horc⟩ := gtx (o.r.rc)
    obtain ⟨km, hkm⟩ : ∃ km : Nat, km = min kn 9001 := ⟨_, rfl⟩
    have HST := hid (show s + 1 + km + z <= 9000 -> ∀ q, q < k + 1 -> ∀ o, xs[q]? = some o -> o.K.length <= 9000 /\ o.r.R.length <= 9000 /\ ∀ p ∈ o.r.R, p.bs.length <= 9000 from fun h q hq p hp => by
     by_cases e : q = k
     ·subst e
      rw [HO.out] at hp
      cases hp
      have h1 : szF o.r.R <= 9000 := by rw [HZ.out]; omega
      exact ⟨by rw [hkn]; omega, by omega, szF_mem h1⟩
     ·exact HP.out Xt0 q Xt0 p hp)
    rw [hrn2, hora, horc] at HSZ
    rw [hoka, hkn, hokc] at d1
    rw [hora, hrn2, horc] at d2
    have w1 : IntKind.i64.wrap ((s : Int) + 1) = (s : Int) + 1 := IntWalk.i64_in _ Xt0
    have w2 : IntKind.i64.wrap ((9000 : Int) + 1) = 9001 := by decide
    have w3 : IntKind.i64.wrap ((s : Int) + 1 + (km : Int)) = (s : Int) + 1 + (km : Int) := IntWalk.i64_in _ Xt0
    have w5 : IntKind.i64.wrap ((s : Int) + 1 + (km : Int) + (z : Int)) = (s : Int) + 1 + (km : Int) + (z : Int) := IntWalk.i64_in _ Xt0
    have hfin : s + 1 + km + z <= 281474976710656 := by omega
    have m1 : min (kn : Int) 9001 = (km : Int) := by omega
    have hkz : k + 1 <= s + 1 + km + z := by omega
    have hcast : ((s : Int) + 1 + (km : Int) + (z : Int)) = ((s + 1 + km + z : Nat) : Int) := by omega
    have HC := hid hcast
    have HKM := hid hkm
    clear hkm hcast ho hc hcl hz hkn hrn2 hoka hokc hora horc hrn
    go_wp2_with fail
    go_quiet ((go_at_call 50; exact Calls.quiet_of_same (HSZ.out _)))
    go_wp2_with fail
    go_roundw
    case rel => exact ⟨k + 1, s + 1 + km + z, by omega, by go_num, by have h1 := HKM.out; congr 1, hkz, hfin, HST, hid (zl_ BB.out _)⟩
    case measure => simp [intOf]; omega
   ·have hsi : ¬ (s : Int) <= 9000 := by omega
    have hsj : (9000 : Int) < (s : Int) := by omega
    exact Xb38
  ·have hkl : ¬ (k : Int) < (n : Int) := by omega
   by_cases hs : s <= 9000
   ·have hsi : ¬ (9000 : Int) < (s : Int) := by omega
    have HR := hid (show SmW xs from ⟨by rw [HL.out]; omega, fun o ho => by
     obtain ⟨q, hq⟩ := List.mem_iff_getElem?.1 ho
     exact HP.out hs q Xt32 o hq⟩)
    exact Xb75
   ·have hsi : (9000 : Int) < (s : Int) := by omega
    exact Xb38
end
end Go.Proofs.YthmofoldmdafoaaGreat
