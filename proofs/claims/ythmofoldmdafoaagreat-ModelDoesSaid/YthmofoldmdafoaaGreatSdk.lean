/- Part of the proof that ModelDoes holds for every input: tables, under any transactions, answer, write and stand as the document says. Part 11. -/
import Derived.Test.YthmofoldmdafoaaGreatSdj
set_option linter.unusedVariables false
set_option linter.unusedSimpArgs false
set_option maxRecDepth 100000
set_option maxHeartbeats 4000000
namespace Go.Proofs.YthmofoldmdafoaaGreat
open Go.ChangeShapes Go.WideShapes Go.ChangeAt Go.RowKit
open Go.Lib (hid)
open Go.Proofs.Tryz
section
open Go.Shelf
def qE (j : Job) (o : zj_) : Bool :=
 if o.k = 1 ∨ o.k = 4 then yw_ o.kn && decide (o.rn = 0) && decide (o.tn = 0) && decide (o.m = 0) && decide (o.i = 0)
 else if o.k = 2 ∨ o.k = 3 then yw_ o.kn && yZ_ o.R && decide (o.tn = 0) && decide (o.m = 0) && decide (o.i = 0)
 else if o.k = 5 then decide (o.kn <= 32) && decide (o.tn <= 32) && decide (1 <= o.m) && decide (o.m <= 64) && decide (o.i = 0) && decide (o.rn = 0)
 else if o.k = 6 then decide (o.kn <= 24) && decide (o.tn <= 24) && decide (1 <= o.m) && decide (o.m <= 64) && decide (0 <= o.i) && decide (o.i < j.T.getD o.t.toNat 0) && decide (o.rn = 0)
 else false
def qO (j : Job) (o : zj_) : Bool := okB j && !decide (o.t < 0) && !decide ((j.n : Int) <= o.t) && qE j o
theorem mayR_pos {R : List P1} (h : yZ_ R = true) : 0 < R.length := by
 have := ((xq_ R).1 h).2.1; omega
theorem pO_qO (j : Job) (o : zj_) (hl : o.R.length = o.rn) : pO j o = qO j o := by
 have hm := @mayR_pos o.R
 rw [hl] at hm
 obtain ⟨k, t, i, ka, kn, kc, K, ta, tn, tc, TT, m, ra, rn, rc, R⟩ := o
 simp only at hm
 unfold pO qO qE endB idxV mostV
 simp only
 have ht : inB t 0 ((j.n : Int) - 1) = (!decide (t < 0) && !decide ((j.n : Int) <= t)) := by
  unfold inB
  rw [Bool.eq_iff_iff]; simp; omega
 rw [ht]
 clear hl
 generalize j.T.getD t.toNat 0 = xx
 by_cases h : k < 0 ∨ 6 < k
 ·have e1 : k ≠ 1 := by omega
  have e2 : k ≠ 2 := by omega
  have e3 : k ≠ 3 := by omega
  have e4 : k ≠ 4 := by omega
  have e5 : k ≠ 5 := by omega
  have e6 : k ≠ 6 := by omega
  simp only [jw_ k h]
  simp [e1, e2, e3, e4, e5, e6]
 obtain ⟨n, rfl⟩ : ∃ n : Nat, k = (n : Int) := ⟨k.toNat, by omega⟩
 have hn : n <= 6 := by omega
 simp only [kf_in n hn]
 cases hR : yZ_ R
 ·clear hm
  cases okB j
  ·simp
  rcases (show n = 0 ∨ n = 1 ∨ n = 2 ∨ n = 3 ∨ n = 4 ∨ n = 5 ∨ n = 6 by omega) with rfl | rfl | rfl | rfl | rfl | rfl | rfl
  all_goals simp only [kB, List.getD]
  all_goals simp [inB, yw_]
  all_goals first | done | (rw [Bool.eq_iff_iff]; simp; omega)
 ·have hm' := hm hR
  clear hm
  have hr0 : rn ≠ 0 := by omega
  cases okB j
  ·simp
  rcases (show n = 0 ∨ n = 1 ∨ n = 2 ∨ n = 3 ∨ n = 4 ∨ n = 5 ∨ n = 6 by omega) with rfl | rfl | rfl | rfl | rfl | rfl | rfl
  all_goals simp only [kB, List.getD]
  all_goals simp [inB, yw_, hm', hr0]
  all_goals first | done | (rw [Bool.eq_iff_iff]; simp; omega)
theorem jp_ (j : Job) (o : zj_) (w : World) (hj : yb_ w j) (ho : zy_ w o) :
  Calls prog 104 #[.agg #[.int .i64 j.w, .int .i64 j.l, .int .i64 j.d, .int .i64 j.c, .int .i64 j.k, .int .i64 j.e, .slice j.a j.n j.cap], .agg #[.int .i64 o.k, .int .i64 o.t, .int .i64 o.i, .slice o.ka o.kn o.kc, .slice o.ta o.tn o.tc, .int .i64 o.m, .slice o.ra o.rn o.rc]] w fun r w' => r = .returned (.bool (qO j o)) /\ Below w.heap.size w w' := by
 obtain ⟨k, t, i, ka, kn, kc, K, ta, tn, tc, TT, m, ra, rn, rc, R⟩ := o
 have hp : qO j ⟨k, t, i, ka, kn, kc, K, ta, tn, tc, TT, m, ra, rn, rc, R⟩ = (okB j && !decide (t < 0) && !decide ((j.n : Int) <= t) && (if k = 1 ∨ k = 4 then yw_ kn && decide (rn = 0) && decide (tn = 0) && decide (m = 0) && decide (i = 0)
 else if k = 2 ∨ k = 3 then yw_ kn && yZ_ R && decide (tn = 0) && decide (m = 0) && decide (i = 0)
 else if k = 5 then decide (kn <= 32) && decide (tn <= 32) && decide (1 <= m) && decide (m <= 64) && decide (i = 0) && decide (rn = 0)
 else if k = 6 then decide (kn <= 24) && decide (tn <= 24) && decide (1 <= m) && decide (m <= 64) && decide (0 <= i) && decide (i < j.T.getD t.toNat 0) && decide (rn = 0)
 else false)) := rfl
 generalize qO j _ = ans at hp ⊢
 simp only at ho ⊢
 obtain ⟨hb0, hbx⟩ := yl_ w #[.int .i64 j.w, .int .i64 j.l, .int .i64 j.d, .int .i64 j.c, .int .i64 j.k, .int .i64 j.e, .slice j.a j.n j.cap] #[.int .i64 k, .int .i64 t, .int .i64 i, .slice ka kn kc, .slice ta tn tc, .int .i64 m, .slice ra rn rc] 24 74
 have HCK := hid (show qb_ j = if okB j then 0 else 2 from rfl)
 have hln := hj.len
 have hlei : (j.n : Int) <= 1000000 := by have := hj.le; omega
 have HLN := hid hln
 clear hln
 go_enter func104, ntmps104
 go_wp2_with fail
 generalize ((w.alloc (.cells #[.int .i64 j.w, .int .i64 j.l, .int .i64 j.d, .int .i64 j.c, .int .i64 j.k, .int .i64 j.e, .slice j.a j.n j.cap] 24)).alloc (.cells #[.int .i64 k, .int .i64 t, .int .i64 i, .slice ka kn kc, .slice ta tn tc, .int .i64 m, .slice ra rn rc] 74)) = W0 at *
 have FG := hid (fun W (b : Below W0.heap.size W0 W) => (by
  obtain ⟨x, y⟩ := hbx W b
  exact ⟨x.cell 0, x.cell 1, x.cell 2, x.cell 3, x.cell 4, x.cell 5, x.cell 6, y.cell 0, y.cell 1, y.cell 2, y.cell 3, y.cell 4, y.cell 5, y.cell 6⟩ : W.cell? ⟨w.heap.size, 0, none⟩ = some (.int .i64 j.w) /\ W.cell? ⟨w.heap.size, 1, none⟩ = some (.int .i64 j.l) /\ W.cell? ⟨w.heap.size, 2, none⟩ = some (.int .i64 j.d) /\ W.cell? ⟨w.heap.size, 3, none⟩ = some (.int .i64 j.c) /\ W.cell? ⟨w.heap.size, 4, none⟩ = some (.int .i64 j.k) /\ W.cell? ⟨w.heap.size, 5, none⟩ = some (.int .i64 j.e) /\ W.cell? ⟨w.heap.size, 6, none⟩ = some (.slice j.a j.n j.cap) /\ W.cell? ⟨w.heap.size + 1, 0, none⟩ = some (.int .i64 k) /\ W.cell? ⟨w.heap.size + 1, 1, none⟩ = some (.int .i64 t) /\ W.cell? ⟨w.heap.size + 1, 2, none⟩ = some (.int .i64 i) /\ W.cell? ⟨w.heap.size + 1, 3, none⟩ = some (.slice ka kn kc) /\ W.cell? ⟨w.heap.size + 1, 4, none⟩ = some (.slice ta tn tc) /\ W.cell? ⟨w.heap.size + 1, 5, none⟩ = some (.int .i64 m) /\ W.cell? ⟨w.heap.size + 1, 6, none⟩ = some (.slice ra rn rc)))
 have FJ := hid (fun W (b : Below W0.heap.size W0 W) => (hj.below hb0).below b)
 have FO := hid (fun W (b : Below W0.heap.size W0 W) => (ho.below hb0).below b)
 have HB0 := hid hb0
 have HP := hid hp
 clear hb0 hbx hj ho hp
 refine (xl_ j W0 (FJ.out _ (Below.refl _ _))).mono ?_; rintro r w3 ⟨rfl, B3⟩
 have HBW := hid B3
 rw [HCK.out]
 clear B3
 obtain ⟨ok, hok⟩ := gtx (okB j)
 rw [hok] at HP ⊢
 have HOK := hid hok
 clear hok
 obtain ⟨g0, g1, g2, g3, g4, g5, g6, o0, o1, o2, o3, o4, o5, o6⟩ := FG.out _ HBW.out
 cases ok
 ·exact Xb18
 simp only [↓reduceIte]
 by_cases ht0 : t < 0
 ·have hd : decide (t < 0) = true := decide_eq_true ht0
  rw [hd] at HP
  clear hd
  exact Xb18
 by_cases htn : (j.n : Int) <= t
 ·have hd : decide ((j.n : Int) <= t) = true := decide_eq_true htn
  rw [hd] at HP
  clear hd
  exact Xb56
 obtain ⟨tk, rfl⟩ : ∃ tk : Nat, t = (tk : Int) := ⟨t.toNat, by omega⟩
 have htk : tk < j.n := by omega
 obtain ⟨b1, o1', ea, dd⟩ := (FJ.out _ HBW.out).ls.get tk Xt74
 obtain ⟨x, hx⟩ := gtx (j.T.getD tk 0)
 rw [hx] at dd
 rw [Int.toNat_natCast, hx, decide_eq_false ht0, decide_eq_false htn] at HP
 have hxb : 0 <= x /\ x <= 2 := by rw [← hx]; exact jb_ HOK.out tk Xt74
 have hx0 : 0 <= x := hxb.1
 have hx2 : x <= 2 := hxb.2
 have htki : (tk : Int) < (j.n : Int) := by omega
 have HEA := hid ea
 have DD := hid dd
 have HRM := hid (refmay_law ra R rn rc (FO.out _ HBW.out).rl w3 (FO.out _ HBW.out).rs)
 obtain ⟨mk, hmk⟩ := gtx (yw_ kn)
 obtain ⟨mr, hmr⟩ := gtx (yZ_ R)
 rw [hmk, hmr] at HP
 rw [hmr] at HRM
 have HMK := hid hmk
 clear hx hxb ea dd hmk hmr
 by_cases h1 : k = 1
 ·subst h1
  rw [if_pos Xt4] at HP
  cases mk
  ·exact Xb1
  ·by_cases hrn : rn = 0
   ·subst hrn
    by_cases htn : tn = 0
    ·subst htn
     by_cases hm : m = 0
     ·subst hm
      by_cases hi : i = 0
      ·subst hi
       exact Xb1
      ·have hib : (i == 0) = false := by simpa using hi
       exact Xb1
     ·have hmb : (m == 0) = false := by simpa using hm
      exact Xb1
    ·have htnb : ((tn : Int) == 0) = false := by simpa using htn
     exact Xb1
   ·have hrnb : ((rn : Int) == 0) = false := by simpa using hrn
    exact Xb1
 have b1 : (k == 1) = false := by simpa using h1
 by_cases h4 : k = 4
 ·subst h4
  rw [if_pos Xt4] at HP
  cases mk
  ·exact Xb1
  ·by_cases hrn : rn = 0
   ·subst hrn
    by_cases htn : tn = 0
    ·subst htn
     by_cases hm : m = 0
     ·subst hm
      by_cases hi : i = 0
      ·subst hi
       exact Xb1
      ·have hib : (i == 0) = false := by simpa using hi
       exact Xb1
     ·have hmb : (m == 0) = false := by simpa using hm
      exact Xb1
    ·have htnb : ((tn : Int) == 0) = false := by simpa using htn
     exact Xb1
   ·have hrnb : ((rn : Int) == 0) = false := by simpa using hrn
    exact Xb1
 have b4 : (k == 4) = false := by simpa using h4
 by_cases h2 : k = 2
 ·subst h2
  rw [if_neg Xt4, if_pos Xt4] at HP
  cases mk
  ·exact Xb1
  ·cases mr
   ·exact Xb1
   ·by_cases htn : tn = 0
    ·subst htn
     by_cases hm : m = 0
     ·subst hm
      by_cases hi : i = 0
      ·subst hi
       exact Xb1
      ·have hib : (i == 0) = false := by simpa using hi
       exact Xb1
     ·have hmb : (m == 0) = false := by simpa using hm
      exact Xb1
    ·have htnb : ((tn : Int) == 0) = false := by simpa using htn
     exact Xb1
 have b2 : (k == 2) = false := by simpa using h2
 by_cases h3 : k = 3
 ·subst h3
  rw [if_neg Xt4, if_pos Xt4] at HP
  cases mk
  ·exact Xb1
  ·cases mr
   ·exact Xb1
   ·by_cases htn : tn = 0
    ·subst htn
     by_cases hm : m = 0
     ·subst hm
      by_cases hi : i = 0
      ·subst hi
       exact Xb1
      ·have hib : (i == 0) = false := by simpa using hi
       exact Xb1
     ·have hmb : (m == 0) = false := by simpa using hm
      exact Xb1
    ·have htnb : ((tn : Int) == 0) = false := by simpa using htn
     exact Xb1
 have b3 : (k == 3) = false := by simpa using h3
 by_cases h5 : k = 5
 ·subst h5
  rw [if_neg Xt4, if_neg Xt4, if_pos Xt4] at HP
  by_cases hkn : kn <= 32
  ·have hkni : (kn : Int) <= 32 := by omega
   by_cases htn : tn <= 32
   ·have htni : (tn : Int) <= 32 := by omega
    by_cases hm1 : 1 <= m
    ·by_cases hm64 : m <= 64
     ·by_cases hi : i = 0
      ·subst hi
       by_cases hrn : rn = 0
       ·subst hrn
        exact Xb1
       ·have hrnb : ((rn : Int) == 0) = false := by simpa using hrn
        exact Xb1
      ·have hib : (i == 0) = false := by simpa using hi
       exact Xb1
     ·have hm64d : decide (m <= 64) = false := decide_eq_false hm64
      exact Xb1
    ·have hm1d : decide (1 <= m) = false := decide_eq_false hm1
     exact Xb1
   ·have htni : ¬ (tn : Int) <= 32 := by omega
    have htnd : decide ((tn : Int) <= 32) = false := decide_eq_false htni
    have htnn : decide (tn <= 32) = false := decide_eq_false htn
    exact Xb1
  ·have hkni : ¬ (kn : Int) <= 32 := by omega
   have hknd : decide ((kn : Int) <= 32) = false := decide_eq_false hkni
   have hknn : decide (kn <= 32) = false := decide_eq_false hkn
   exact Xb1
 have b5 : (k == 5) = false := by simpa using h5
 by_cases h6 : k = 6
 ·subst h6
  rw [if_neg Xt4, if_neg Xt4, if_neg Xt4, if_pos Xt4] at HP
  rw [HEA.out] at g6
  have dd := DD.out
  by_cases hkn : kn <= 24
  ·have hkni : (kn : Int) <= 24 := by omega
   by_cases htn : tn <= 24
   ·have htni : (tn : Int) <= 24 := by omega
    by_cases hm1 : 1 <= m
    ·by_cases hm64 : m <= 64
     ·by_cases hi0 : 0 <= i
      ·by_cases hix : i < x
       ·by_cases hrn : rn = 0
        ·subst hrn
         exact Xb15
        ·have hrnb : ((rn : Int) == 0) = false := by simpa using hrn
         exact Xb15
       ·have hixd : decide (i < x) = false := decide_eq_false hix
        exact Xb15
      ·have hi0d : decide (0 <= i) = false := decide_eq_false hi0
       exact Xb15
     ·have hm64d : decide (m <= 64) = false := decide_eq_false hm64
      exact Xb15
    ·have hm1d : decide (1 <= m) = false := decide_eq_false hm1
     exact Xb15
   ·have htni : ¬ (tn : Int) <= 24 := by omega
    have htnd : decide ((tn : Int) <= 24) = false := decide_eq_false htni
    have htnn : decide (tn <= 24) = false := decide_eq_false htn
    exact Xb15
  ·have hkni : ¬ (kn : Int) <= 24 := by omega
   have hknd : decide ((kn : Int) <= 24) = false := decide_eq_false hkni
   have hknn : decide (kn <= 24) = false := decide_eq_false hkn
   exact Xb15
 have b6 : (k == 6) = false := by simpa using h6
 rw [if_neg Xt0, if_neg Xt0, if_neg Xt0, if_neg Xt0] at HP
 exact Xb56
theorem xb_ (k : Int) : kf k 3 = ((k == 5) || (k == 6)) := by
 exact Xb20
theorem jx_ (k : Int) : kf k 4 = (k == 6) := by
 exact Xb20
def Rg7 (o : zj_) (w : World) (tr : Int) (wx : World) : Prop := ∃ (fa : Option Addr) (fc : Nat) (ta : Option Addr) (tc : Nat), zg_ wx (w.heap.size + 1 + 1) #[.int .i64 tr, .slice fa (zk_ o.K).length fc, .slice ta (zk_ o.T).length tc, .bool (decide (0 < o.tn))] 169 /\ Ls .u8 wx fa fc (zk_ o.K) /\ Ls .u8 wx ta tc (zk_ o.T) /\ Below w.heap.size w wx
theorem xk_ (j : Job) (o : zj_) (hrn : o.rn <= 1000000) (w : World) (hj : yb_ w j) (ho : zy_ w o) :
  Calls prog 105 #[.agg #[.int .i64 j.w, .int .i64 j.l, .int .i64 j.d, .int .i64 j.c, .int .i64 j.k, .int .i64 j.e, .slice j.a j.n j.cap], .agg #[.int .i64 o.k, .int .i64 o.t, .int .i64 o.i, .slice o.ka o.kn o.kc, .slice o.ta o.tn o.tc, .int .i64 o.m, .slice o.ra o.rn o.rc]] w fun r w' => RgP (zD_ j o) r w' /\ Below w.heap.size w w' := by
 obtain ⟨hb0, hbx⟩ := boxes3' w #[.int .i64 j.w, .int .i64 j.l, .int .i64 j.d, .int .i64 j.c, .int .i64 j.k, .int .i64 j.e, .slice j.a j.n j.cap] #[.int .i64 o.k, .int .i64 o.t, .int .i64 o.i, .slice o.ka o.kn o.kc, .slice o.ta o.tn o.tc, .int .i64 o.m, .slice o.ra o.rn o.rc] #[.int .i64 0, .slice none 0 0, .slice none 0 0, .bool false] 24 74 169
 have hlei : (j.n : Int) <= 1000000 := by have := hj.le; omega
 have hv : zD_ j o = if pO j o && kf o.k 3 then (if kf o.k 4 then ((trV j o.t o.i).1, zk_ o.K, zk_ o.T, decide (0 < o.tn), 0) else ((trV j o.t (-1)).1, o.K, o.T, decide (0 < o.tn), 0)) else (0, [], [], false, 2) := rfl
 have hlen := fun (h : pO j o = true) (h3 : kf o.k 3 = true) => (pO_len h h3 : (o.kn <= 32 /\ o.tn <= 32) /\ (kf o.k 4 = true -> o.kn <= 24 /\ o.tn <= 24))
 rw [xb_, jx_] at hv hlen
 have HV := hid hv
 have HLEN := hid hlen
 clear hv hlen
 obtain ⟨V, hV⟩ := gtx (zD_ j o)
 rw [hV] at HV ⊢
 clear hV
 have hpq := pO_qO j o ho.rl
 go_enter func105, ntmps105
 go_upto_region 1 with (fail)
 generalize (((w.alloc (.cells #[.int .i64 j.w, .int .i64 j.l, .int .i64 j.d, .int .i64 j.c, .int .i64 j.k, .int .i64 j.e, .slice j.a j.n j.cap] 24)).alloc (.cells #[.int .i64 o.k, .int .i64 o.t, .int .i64 o.i, .slice o.ka o.kn o.kc, .slice o.ta o.tn o.tc, .int .i64 o.m, .slice o.ra o.rn o.rc] 74)).alloc (.cells #[.int .i64 0, .slice none 0 0, .slice none 0 0, .bool false] 169)) = W0 at *
 have FG := hid (fun W (b : Below W0.heap.size W0 W) => (by
  obtain ⟨x, y, z⟩ := hbx W b
  exact ⟨x.cell 0, x.cell 1, x.cell 2, x.cell 3, x.cell 4, x.cell 5, x.cell 6, y.cell 0, y.cell 1, y.cell 2, y.cell 3, y.cell 4, y.cell 5, y.cell 6⟩ : W.cell? ⟨w.heap.size, 0, none⟩ = some (.int .i64 j.w) /\ W.cell? ⟨w.heap.size, 1, none⟩ = some (.int .i64 j.l) /\ W.cell? ⟨w.heap.size, 2, none⟩ = some (.int .i64 j.d) /\ W.cell? ⟨w.heap.size, 3, none⟩ = some (.int .i64 j.c) /\ W.cell? ⟨w.heap.size, 4, none⟩ = some (.int .i64 j.k) /\ W.cell? ⟨w.heap.size, 5, none⟩ = some (.int .i64 j.e) /\ W.cell? ⟨w.heap.size, 6, none⟩ = some (.slice j.a j.n j.cap) /\ W.cell? ⟨w.heap.size + 1, 0, none⟩ = some (.int .i64 o.k) /\ W.cell? ⟨w.heap.size + 1, 1, none⟩ = some (.int .i64 o.t) /\ W.cell? ⟨w.heap.size + 1, 2, none⟩ = some (.int .i64 o.i) /\ W.cell? ⟨w.heap.size + 1, 3, none⟩ = some (.slice o.ka o.kn o.kc) /\ W.cell? ⟨w.heap.size + 1, 4, none⟩ = some (.slice o.ta o.tn o.tc) /\ W.cell? ⟨w.heap.size + 1, 5, none⟩ = some (.int .i64 o.m) /\ W.cell? ⟨w.heap.size + 1, 6, none⟩ = some (.slice o.ra o.rn o.rc)))
 have FB := hid (fun W (b : Below W0.heap.size W0 W) => (hbx W b).2.2)
 have FJ := hid (fun W (b : Below W0.heap.size W0 W) => (hj.below hb0).below b)
 have FO := hid (fun W (b : Below W0.heap.size W0 W) => (ho.below hb0).below b)
 have HB0 := hid hb0
 clear hb0 hbx hj ho
 obtain ⟨pb, hpb⟩ := gtx (pO j o)
 have HMO := hid (by have h := jp_ j o W0 (FJ.out _ (Below.refl _ _)) (FO.out _ (Below.refl _ _)); rwa [← hpq, hpb] at h : Calls prog 104 #[.agg #[.int .i64 j.w, .int .i64 j.l, .int .i64 j.d, .int .i64 j.c, .int .i64 j.k, .int .i64 j.e, .slice j.a j.n j.cap], .agg #[.int .i64 o.k, .int .i64 o.t, .int .i64 o.i, .slice o.ka o.kn o.kc, .slice o.ta o.tn o.tc, .int .i64 o.m, .slice o.ra o.rn o.rc]] W0 fun r w' => r = .returned (.bool pb) /\ Below W0.heap.size W0 w')
 rw [hpb] at HLEN HV
 clear hpb hpq
 obtain ⟨g0, g1, g2, g3, g4, g5, g6, o0, o1, o2, o3, o4, o5, o6⟩ := FG.out _ (Below.refl _ _)
 go_wp2_with fail
 refine HMO.out.mono ?_; rintro r w3 ⟨rfl, B3⟩
 have HB3 := hid B3
 clear B3 g0 g1 g2 g3 g4 g5 g6 o0 o1 o2 o3 o4 o5 o6
 obtain ⟨g0, g1, g2, g3, g4, g5, g6, o0, o1, o2, o3, o4, o5, o6⟩ := FG.out _ HB3.out
 cases pb
 ·simp only [Bool.false_and, Bool.false_eq_true, if_false, ↓reduceIte] at HV
  exact Xb11
 by_cases h5 : o.k = 5
 ·replace HV := hid (show V = ((trV j o.t (-1)).1, o.K, o.T, decide (0 < o.tn), 0) by rw [HV.out, h5]; simp)
  rw [h5] at o0
  go_wp2_with fail
  refine (Qv_ j o.t (-1) _ (FJ.out _ HB3.out)).mono ?_; rintro r w6 ⟨rfl, B6⟩
  have HB6 := hid (za_ HB3.out B6)
  clear B6 g0 g1 g2 g3 g4 g5 g6 o0 o1 o2 o3 o4 o5 o6
  obtain ⟨g0, g1, g2, g3, g4, g5, g6, o0, o1, o2, o3, o4, o5, o6⟩ := FG.out _ HB6.out
  obtain ⟨tr, htr⟩ := gtx ((trV j o.t (-1)).1)
  obtain ⟨er, her⟩ := gtx ((if (trV j o.t (-1)).2.2.2 = true then (0 : Int) else 2))
  rw [htr] at HV ⊢
  rw [her]
  clear htr her
  have hB := FB.out _ HB6.out
  have q0 := hB.cell 0
  have q1 := hB.cell 1
  have q2 := hB.cell 2
  have q3 := hB.cell 3
  simp only [gtA, gtB, gtC] at q0 q1 q2 q3
  have z0 : w6.frozen? ⟨w.heap.size + 1 + 1, 0, none⟩ = false := frozen_of_row w6 _ 0 _ 169 hB
  have z1 : w6.frozen? ⟨w.heap.size + 1 + 1, 1, none⟩ = false := frozen_of_row w6 _ 1 _ 169 hB
  have z2 : w6.frozen? ⟨w.heap.size + 1 + 1, 2, none⟩ = false := frozen_of_row w6 _ 2 _ 169 hB
  have z3 : w6.frozen? ⟨w.heap.size + 1 + 1, 3, none⟩ = false := frozen_of_row w6 _ 3 _ 169 hB
  have HS4 := hid (set4 hB (za_ HB0.out HB6.out) Xt0 Xt5 Xt5 Xt5 Xt5 (.int .i64 tr) (.slice o.ka o.kn o.kc) (.slice o.ta o.tn o.tc) (.bool (decide (0 < o.tn))))
  clear hB
  go_wp2_with fail
  refine bodyPost_ret (v := .tuple #[.agg #[.int .i64 tr, .slice o.ka o.kn o.kc, .slice o.ta o.tn o.tc, .bool (decide (0 < o.tn))], .int .i64 0]) ?_ rfl ⟨⟨o.ka, o.kc, o.ta, o.tc, by rw [HV.out]; simp only [(FO.out _ HB6.out).kl, (FO.out _ HB6.out).tl], by rw [HV.out]; exact HS4.out.ls (FO.out _ HB6.out).ks, by rw [HV.out]; exact HS4.out.ls (FO.out _ HB6.out).ts⟩, HS4.out.bel⟩
  have x0 := HS4.out.box.cell 0
  have x1 := HS4.out.box.cell 1
  have x2 := HS4.out.box.cell 2
  have x3 := HS4.out.box.cell 3
  exact Xb47
 by_cases h6 : o.k = 6
 ·replace HV := hid (show V = ((trV j o.t o.i).1, zk_ o.K, zk_ o.T, decide (0 < o.tn), 0) by rw [HV.out, h6]; simp)
  rw [h6] at HLEN o0
  obtain ⟨_, h24⟩ := HLEN.out Xt34 Xt4
  obtain ⟨hk24, ht24⟩ := h24 Xt4
  clear h24
  go_wp2_with fail
  refine (Qv_ j o.t o.i _ (FJ.out _ HB3.out)).mono ?_; rintro r w6 ⟨rfl, B6⟩
  have HB6 := hid (za_ HB3.out B6)
  clear B6 g0 g1 g2 g3 g4 g5 g6 o0 o1 o2 o3 o4 o5 o6
  obtain ⟨g0, g1, g2, g3, g4, g5, g6, o0, o1, o2, o3, o4, o5, o6⟩ := FG.out _ HB6.out
  obtain ⟨tr, htr⟩ := gtx ((trV j o.t o.i).1)
  obtain ⟨er, her⟩ := gtx ((if (trV j o.t o.i).2.2.2 = true then (0 : Int) else 2))
  rw [htr] at HV ⊢
  rw [her]
  clear htr her
  go_wp2_with fail
  go_cut [5] (fun x wx => x = .int .i64 0 /\ Rg7 o w tr wx)
  case first =>
   refine wp_region_held_drew (S := (fun W => W.cell? ⟨w.heap.size + 1, 3, none⟩ = some (.slice o.ka o.kn o.kc) /\ W.cell? ⟨w.heap.size + 1, 4, none⟩ = some (.slice o.ta o.tn o.tc))) Xt3 (⟨o3, o4⟩) fun hH => ?_
   refine tkq2 0 1 ?_
   refine tkr 2 rfl Xf38 ?_
   refine tkq 4 ?_
   refine tkr 5 rfl Xf38 ?_
   refine tkq 7 ?_
   refine tkr 8 rfl Xf38 ?_
   refine tkq2 9 10 ?_
   refine tk1 3 rfl fun K hK => ?_
   go_simp
   refine (jn_ o.ka o.K o.kn o.kc (FO.out _ HB6.out).kl Xt0 _ (FO.out _ (show Below W0.heap.size W0 w6.drew from HB6.out.drew)).ks).mono ?_; rintro r W5 ⟨a5, c5, rfl, l5, B5⟩
   go_wp2_with fail
   refine hK.out _ _ (⟨tcb B5 hH.1, tcb B5 hH.2⟩) fun hH => ?_
   have L5 := hid (fun W (b : Below W5.heap.size W5 W) => l5.below b)
   have H5 := hid (za_ (show Below W0.heap.size W0 w6.drew from HB6.out.drew) B5)
   clear l5 B5
   refine stP ?_
   refine tk1 6 rfl fun K hK => ?_
   go_simp
   refine (jn_ o.ta o.T o.tn o.tc (FO.out _ H5.out).tl Xt0 _ (FO.out _ H5.out).ts).mono ?_; rintro r W6 ⟨a6, c6, rfl, l6, B5⟩
   go_wp2_with fail
   refine hK.out _ _ (⟨tcb B5 hH.1, tcb B5 hH.2⟩) fun hH => ?_
   have L6 := hid l6
   have L56 := hid (L5.out _ B5)
   have H6 := hid (za_ H5.out B5)
   clear l6 B5
   have hB := FB.out _ H6.out
   have q0 := hB.cell 0
   have q1 := hB.cell 1
   have q2 := hB.cell 2
   have q3 := hB.cell 3
   simp only [gtA, gtB, gtC] at q0 q1 q2 q3
   have z0 : W6.frozen? ⟨w.heap.size + 1 + 1, 0, none⟩ = false := frozen_of_row W6 _ 0 _ 169 hB
   have z1 : W6.frozen? ⟨w.heap.size + 1 + 1, 1, none⟩ = false := frozen_of_row W6 _ 1 _ 169 hB
   have z2 : W6.frozen? ⟨w.heap.size + 1 + 1, 2, none⟩ = false := frozen_of_row W6 _ 2 _ 169 hB
   have z3 : W6.frozen? ⟨w.heap.size + 1 + 1, 3, none⟩ = false := frozen_of_row W6 _ 3 _ 169 hB
   have HS4 := hid (set4 hB (za_ HB0.out H6.out) Xt0 Xt5 Xt5 Xt5 Xt5 (.int .i64 tr) (.slice a5 (zk_ o.K).length c5) (.slice a6 (zk_ o.T).length c6) (.bool (decide (0 < o.tn))))
   clear hB
   refine stP ?_
   refine tkq 11 ?_
   refine tk1 12 rfl fun K hK => ?_
   go_simp
   refine hK.out _ _ ?_ (fun hHeldn => ?_)
   ·constructor
    ·rw [World.cell?_setCell_far _ _ _ _ Xt5, World.cell?_setCell_far _ _ _ _ Xt5, World.cell?_setCell_far _ _ _ _ Xt5, World.cell?_setCell_far _ _ _ _ Xt5]; exact hH.1
    ·rw [World.cell?_setCell_far _ _ _ _ Xt5, World.cell?_setCell_far _ _ _ _ Xt5, World.cell?_setCell_far _ _ _ _ Xt5, World.cell?_setCell_far _ _ _ _ Xt5]; exact hH.2
   clear hK K hH q0 q1 q2 q3 z0 z1 z2 z3; have hH := hHeldn; clear hHeldn
   refine stP ?_
   refine tkq 13 ?_
   refine adn ?_
   go_wp2_with fail
   go_meet
   exact ⟨rfl, a5, c5, a6, c6, HS4.out.box, HS4.out.ls L56.out, HS4.out.ls L6.out, HS4.out.bel⟩
  case rest =>
   obtain ⟨rfl, fa, fc, ta, tc, hbox, lK, lT, hbel⟩ := hcut
   go_wp2_with fail
   refine bodyPost_ret (v := .tuple #[.agg #[.int .i64 tr, .slice fa (zk_ o.K).length fc, .slice ta (zk_ o.T).length tc, .bool (decide (0 < o.tn))], .int .i64 0]) ?_ rfl ⟨⟨fa, fc, ta, tc, by rw [HV.out], by rw [HV.out]; exact lK, by rw [HV.out]; exact lT⟩, hbel⟩
   have x0 := hbox.cell 0
   have x1 := hbox.cell 1
   have x2 := hbox.cell 2
   have x3 := hbox.cell 3
   exact Xb47
 ·have f5 : (o.k == 5) = false := by simpa using h5
  have f6 : (o.k == 6) = false := by simpa using h6
  have g5' : (o.k != 5) = true := by simpa using h5
  have g6' : (o.k != 6) = true := by simpa using h6
  replace HV := hid (show V = (0, [], [], false, 2) by rw [HV.out, f5, f6]; simp)
  exact Xb11
end
end Go.Proofs.YthmofoldmdafoaaGreat
