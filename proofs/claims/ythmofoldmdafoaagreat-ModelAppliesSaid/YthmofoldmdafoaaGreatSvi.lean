/- Part of the proof that ModelApplies holds for every input: writes that are done on tables leave them as the document says. Part 9. -/
import Derived.Test.YthmofoldmdafoaaGreatSvh
set_option linter.unusedVariables false
set_option linter.unusedSimpArgs false
set_option maxRecDepth 100000
set_option maxHeartbeats 4000000
namespace Go.Proofs.YthmofoldmdafoaaGreat
open Go.ChangeShapes Go.WideShapes Go.ChangeAt Go.RowKit
open Go.Lib (hid)
open Go.Proofs.Tryz
section
open Go.Shelf
theorem zg_.setC {W : World} {B : Nat} {cs : Array Value} {t : TypeId} (h : zg_ W B cs t) (i : Nat) (v : Value) : zg_ (W.setCell ⟨B, i, none⟩ v) B (cs.setIfInBounds i v) t := heap_setCell_same W B i cs t v h
theorem xH_ (k : Nat) (hk : k <= 6) (a b c d e f : Bool) (hix : ∀ W : World, (Instr.index 213 (.agg kV) (.int .i64 (k : Int))).run prog W = .ok (kN a b c d e f) W) (tb ix mo : Int) (ka ta ra : Option Addr) (kn kc tn tc rn rc : Nat) (w : World) :
  Calls prog 122 #[.agg #[.int .i64 (k : Int), .int .i64 tb, .int .i64 ix, .slice ka kn kc, .slice ta tn tc, .int .i64 mo, .slice ra rn rc]] w fun r w' => r = .returned (kN a b c d e f) /\ Below w.heap.size w w' := by
 have hk0 : ¬ (k : Int) < 0 := by omega
 have hk6 : ¬ 6 < (k : Int) := by omega
 unfold kN at *
 go_enter func122, ntmps122
 go_wp2_with fail
 have b0 := ((Below.refl w.heap.size w).alloc (Nat.le_refl _) (.cells #[.int .i64 (k : Int), .int .i64 tb, .int .i64 ix, .slice ka kn kc, .slice ta tn tc, .int .i64 mo, .slice ra rn rc] 74)).alloc Xt5 (.cells #[.bool false, .bool false, .bool false, .bool false, .bool false, .bool false] 197)
 have hb := (zg_.new w #[.int .i64 (k : Int), .int .i64 tb, .int .i64 ix, .slice ka kn kc, .slice ta tn tc, .int .i64 mo, .slice ra rn rc] 74).below ((Below.refl _ _).alloc (Nat.le_refl _) (.cells #[.bool false, .bool false, .bool false, .bool false, .bool false, .bool false] 197))
 have hr := zg_.new (w.alloc (.cells #[.int .i64 (k : Int), .int .i64 tb, .int .i64 ix, .slice ka kn kc, .slice ta tn tc, .int .i64 mo, .slice ra rn rc] 74)) #[.bool false, .bool false, .bool false, .bool false, .bool false, .bool false] 197
 rw [World.size_alloc] at hr
 generalize ((w.alloc (.cells #[.int .i64 (k : Int), .int .i64 tb, .int .i64 ix, .slice ka kn kc, .slice ta tn tc, .int .i64 mo, .slice ra rn rc] 74)).alloc (.cells #[.bool false, .bool false, .bool false, .bool false, .bool false, .bool false] 197)) = W0 at *
 have c0 : W0.cell? ⟨w.heap.size, 0, none⟩ = some (.int .i64 (k : Int)) := hb.cell 0
 have hsz : w.heap.size + 1 < W0.heap.size := hr.lt
 have HK := hid (fun W => kinds_law W)
 have HB0 := hid b0
 have HB := hid hb
 have HR := hid hr
 clear b0 hb hr
 go_region_with (go_at_call 139; refine (HK.out _).mono ?_; rintro r w3 ⟨rfl, B3⟩; have hbd : zg_ W0.drew _ _ _ := HB.out; have hrd : zg_ W0.drew _ _ _ := HR.out; have g0 : w3.cell? ⟨w.heap.size, 0, none⟩ = some (.int .i64 (k : Int)) := (hbd.below B3).cell 0; have R0 : w3.cell? ⟨w.heap.size + 1, 0, none⟩ = some (.bool false) := (hrd.below B3).cell 0; have R1 : w3.cell? ⟨w.heap.size + 1, 1, none⟩ = some (.bool false) := (hrd.below B3).cell 1; have R2 : w3.cell? ⟨w.heap.size + 1, 2, none⟩ = some (.bool false) := (hrd.below B3).cell 2; have R3 : w3.cell? ⟨w.heap.size + 1, 3, none⟩ = some (.bool false) := (hrd.below B3).cell 3; have R4 : w3.cell? ⟨w.heap.size + 1, 4, none⟩ = some (.bool false) := (hrd.below B3).cell 4; have R5 : w3.cell? ⟨w.heap.size + 1, 5, none⟩ = some (.bool false) := (hrd.below B3).cell 5; have F0 : w3.frozen? ⟨w.heap.size + 1, 0, none⟩ = false := frozen_of_row w3 _ 0 _ 197 (hrd.below B3); have F1 : w3.frozen? ⟨w.heap.size + 1, 1, none⟩ = false := frozen_of_row w3 _ 1 _ 197 (hrd.below B3); have F2 : w3.frozen? ⟨w.heap.size + 1, 2, none⟩ = false := frozen_of_row w3 _ 2 _ 197 (hrd.below B3); have F3 : w3.frozen? ⟨w.heap.size + 1, 3, none⟩ = false := frozen_of_row w3 _ 3 _ 197 (hrd.below B3); have F4 : w3.frozen? ⟨w.heap.size + 1, 4, none⟩ = false := frozen_of_row w3 _ 4 _ 197 (hrd.below B3); have F5 : w3.frozen? ⟨w.heap.size + 1, 5, none⟩ = false := frozen_of_row w3 _ 5 _ 197 (hrd.below B3); have HB3 := hid B3; have HR3 := hid (hrd.below B3); clear hbd hrd B3)
 all_goals
  have hX := ((((((HR3.out.setC 0 (.bool a)).setC 1 (.bool b)).setC 2 (.bool c)).setC 3 (.bool d)).setC 4 (.bool e)).setC 5 (.bool f))
  simp only [List.setIfInBounds_toArray, List.set_cons_zero, List.set_cons_succ] at hX
  have hb3 : Below w.heap.size w w3 := HB0.out.trans ((show Below W0.heap.size W0.drew w3 from HB3.out).mono HB0.out.size |> fun h => ⟨h.os, h.tape, h.output, h.size, h.block⟩)
  have hB9 : Below w.heap.size w ((((((w3.setCell ⟨w.heap.size + 1, 0, none⟩ (.bool a)).setCell ⟨w.heap.size + 1, 1, none⟩ (.bool b)).setCell ⟨w.heap.size + 1, 2, none⟩ (.bool c)).setCell ⟨w.heap.size + 1, 3, none⟩ (.bool d)).setCell ⟨w.heap.size + 1, 4, none⟩ (.bool e)).setCell ⟨w.heap.size + 1, 5, none⟩ (.bool f)) := ((((((hb3.setCell Xt5 _).setCell Xt5 _).setCell Xt5 _).setCell Xt5 _).setCell Xt5 _).setCell Xt5 _)
  have HX := hid hX
  have HB9 := hid hB9
  clear hX hb3 hB9 g0 R0 R1 R2 R3 R4 R5 F0 F1 F2 F3 F4 F5 HB3 HR3
  generalize ((((((w3.setCell ⟨w.heap.size + 1, 0, none⟩ (.bool a)).setCell ⟨w.heap.size + 1, 1, none⟩ (.bool b)).setCell ⟨w.heap.size + 1, 2, none⟩ (.bool c)).setCell ⟨w.heap.size + 1, 3, none⟩ (.bool d)).setCell ⟨w.heap.size + 1, 4, none⟩ (.bool e)).setCell ⟨w.heap.size + 1, 5, none⟩ (.bool f)) = W9 at *
  go_wp2_with fail
  refine bodyPost_ret (v := .agg #[.bool a, .bool b, .bool c, .bool d, .bool e, .bool f]) ?_ rfl ⟨rfl, HB9.out⟩
  have x0 := HX.out.cell 0
  have x1 := HX.out.cell 1
  have x2 := HX.out.cell 2
  have x3 := HX.out.cell 3
  have x4 := HX.out.cell 4
  have x5 := HX.out.cell 5
  simp only [gtA, gtB, gtC] at x0 x1 x2 x3 x4 x5
  simp [results, results122, go_sem, x0, x1, x2, x3, x4, x5]
end
theorem mayR_no {R : List P1} (h : Q7_ R = false) : yU_ R = false := by simp [yU_, h]
theorem mayR_big {R : List P1} {n : Nat} (hn : R.length = n) (h : 3 < n) : yU_ R = false := by
 have : yU_ R ≠ true := fun e => by have := ((xs_ R).1 e).2.2; omega
 simpa using this
theorem mayR_none {R : List P1} {n : Nat} (hn : R.length = n) (h : n < 1) : yU_ R = false := by
 have : yU_ R ≠ true := fun e => by have := ((xs_ R).1 e).2.1; omega
 simpa using this
theorem qj_ (a : Option Addr) (R : List P1) (n cap : Nat) (hn : R.length = n) (w : World) (hR : RdR w a R) :
  Calls prog 57 #[.slice a n cap] w fun r w' => r = .returned (.bool (yU_ R)) /\ w = w' := by
 have HR := hid hR
 have HN := hid hn
 clear hR hn
 go_enter func57, ntmps57
 go_wp2_with fail
 go_loopw [3] (fun i wr => ∃ k : Nat, k <= n /\ k <= 4 /\ i = .int .i64 k /\ (∀ j < k, ∀ p, R[j]? = some p -> p.bs.length <= 24) /\ w = wr) (fun i _ => n - (intOf i).toNat)
 case atStart => exact ⟨0, by omega, by omega, rfl, fun j hj => absurd hj Xt0, rfl⟩
 case round =>
  obtain ⟨k, hk, hk4, rfl, hpre, rfl⟩ := hrel
  have HP := hid hpre
  clear hpre
  by_cases hlt : k < n
  ·have hkl : (k : Int) < (n : Int) := by omega
   by_cases h4 : k < 4
   ·have hk4l : (k : Int) < 4 := by omega
    obtain ⟨p, hp⟩ : ∃ p, R[k]? = some p := ⟨_, List.getElem?_eq_getElem Xt9⟩
    obtain ⟨b1, o1, e1, c1, l1⟩ := HR.out k p hp
    subst e1
    have c2 : w.cell? ⟨b1, o1 + k, none⟩ = some (.slice p.ad p.bs.length p.cap) := c1
    obtain ⟨m, hm⟩ := gtx (p.bs.length)
    rw [hm] at c2
    have HM := hid hm
    have HPP := hid hp
    clear c1 hp hm l1
    by_cases hm2 : 24 < m
    ·have hml : (24 : Int) < (m : Int) := by omega
     have HA := hid (mayR_no (allB_not HPP.out (by rw [HM.out]; omega)))
     exact Xb57
    ·have hml : ¬ (24 : Int) < (m : Int) := by omega
     go_wp2_with fail
     go_roundw
     case rel => exact ⟨k + 1, by omega, by omega, by go_num, jstep HP.out (fun p' hp' => by have := HPP.out; rw [hp'] at this; cases this; have := HM.out; omega), trivial⟩
     case measure => simp [intOf]; omega
   ·have hk4l : ¬ (k : Int) < 4 := by omega
    have HA := hid (mayR_big HN.out Xt0)
    have h1 : (1 : Int) <= (n : Int) := by omega
    have h3 : ¬ (n : Int) <= 3 := by omega
    exact Xb57
  ·have hkl : ¬ (k : Int) < (n : Int) := by omega
   by_cases h1 : 1 <= n
   ·have h1i : (1 : Int) <= (n : Int) := by omega
    by_cases h3 : n <= 3
    ·have h3i : (n : Int) <= 3 := by omega
     have HA := hid (show yU_ R = true from (xs_ R).2 ⟨fun p hp => by
      obtain ⟨j, hj, e⟩ := List.mem_iff_getElem.1 hp
      exact HP.out j (by have := HN.out; omega) p (by rw [List.getElem?_eq_getElem hj, e]), by have := HN.out; omega, by have := HN.out; omega⟩)
     exact Xb57
    ·have h3i : ¬ (n : Int) <= 3 := by omega
     have HA := hid (mayR_big HN.out Xt0)
     exact Xb57
   ·have h1i : ¬ (1 : Int) <= (n : Int) := by omega
    have HA := hid (mayR_none HN.out Xt0)
    exact Xb57
theorem zh_ (a : Option Addr) (n cap : Nat) (w : World) : Calls prog 56 #[.slice a n cap] w fun r w' => r = .returned (.bool (yz_ n)) /\ w = w' := by
 unfold yz_
 rcases (show n < 1 ∨ (1 <= n /\ n <= 32) ∨ (1 <= n /\ ¬ n <= 32) by omega) with h | ⟨h1, h2⟩ | ⟨h1, h2⟩
 ·rw [decide_eq_false Xt0]
  have hi : ¬ (1 : Int) <= (n : Int) := by omega
  go_enter func56, ntmps56
  exact Xb30
 ·rw [decide_eq_true Xt0]
  have hi : (1 : Int) <= (n : Int) := by omega
  have hj : (n : Int) <= 32 := by omega
  go_enter func56, ntmps56
  exact Xb30
 ·rw [decide_eq_false Xt0]
  have hi : (1 : Int) <= (n : Int) := by omega
  have hj : ¬ (n : Int) <= 32 := by omega
  go_enter func56, ntmps56
  exact Xb30
theorem jt_ (a : Option Addr) (L : List Int) (n cap : Nat) (hL : L.length = n) (hn : n <= 300000) (w : World) (hR : Ls .u8 w a cap L) :
  Calls prog 115 #[.slice a n cap] w fun r w' => ∃ v, r = .returned v /\ w'.ownsRow w.heap.size 5 1 v (zk_ L).length (iv .u8 (zk_ L)) /\ Below w.heap.size w w' := by
 have HR := hid hR
 have HL := hid hL
 clear hR hL
 go_enter func115, ntmps115
 go_wp2_with fail
 go_loopw [3, 4] (fun v i wr => ∃ k : Nat, k <= n /\ i = .int .i64 k /\ wr.ownsRow w.heap.size 5 1 v (zk_ (L.take k)).length (iv .u8 (zk_ (L.take k))) /\ Below w.heap.size w wr) (fun _ i _ => n - (intOf i).toNat)
 case atStart => exact ⟨0, by omega, rfl, World.ownsRow_nil _ _ _ _, Below.refl _ _⟩
 case round =>
  obtain ⟨k, hk, rfl, hown, B⟩ := hrel
  by_cases hlt : k < n
  ·have hkl : (k : Int) < (n : Int) := by omega
   have hkL : k < L.length := by rw [HL.out]; exact hlt
   obtain ⟨b1, o1, e1, c1⟩ := (HR.out.below B).get k hkL
   subst e1
   have hs1 := B.size
   have hts := y6_ L k hkL
   have hfl := yu_ (L.take k)
   rw [List.length_take] at hfl
   obtain ⟨x, hx⟩ := gtx (L.getD k 0)
   rw [hx] at hts c1
   obtain ⟨F, hF⟩ := gtx (zk_ (L.take k))
   have hF2 : zk_ (L.take (k + 1)) = F ++ esc x := by rw [hts, ya_, hF, xt_]
   rw [hF] at hown hfl
   obtain ⟨m, hm⟩ := gtx (F.length)
   rw [hm] at hown hfl
   have HF2 := hid hF2
   have HM := hid hm
   have hm48 := hid (show m <= 600000 by omega)
   have HOWN := hid hown
   have hbl := World.block_lt_of_cell? wr _ c1
   clear hts hx hF hF2 hm hfl hown
   have HLR := hid (fun W (b : Below w.heap.size wr W) => (show W.cell? ⟨b1, o1 + k, none⟩ = some (.int .u8 x) from by
    obtain ⟨b2, o2, e2, c2⟩ := (HR.out.below (B.trans b)).get k hkL
    cases e2
    obtain ⟨b3, o3, e3, c3⟩ := (HR.out.below B).get k hkL
    cases e3
    rw [c3] at c1
    rw [c2]
    exact c1))
   by_cases q : x = 0
   ·have t1 : (x == 0) = true := by rw [q]; rfl
    have HQ := hid (show esc x = [x] ++ [255] by rw [q]; rfl)
    clear q
    go_wp2_with (at_builtin; refine zB_ Qe_ rfl (.tmp 11) (.tmp 16) rfl w.heap.size _ m (iv .u8 F) rfl (HOWN.out.alloc _) _ _ 1 [x] rfl rfl (xd_ .u8 _ [x] _ _ _ rfl 1 rfl) Xt44 Xt7 ?_)
    intro v2 w2 hown2 hgrow2
    rw [← zM_] at hown2
    have b2 : Below w.heap.size wr w2 := ((Below.refl _ wr).alloc hs1 _).grown hgrow2 Xt7 (fun j hj => (HOWN.out.lt j hj).1)
    have B2 := B.trans b2
    have c2 := HLR.out _ b2
    have hs2 := B2.size
    have HOWN2 := hid hown2
    clear hown2 hgrow2 c1
    go_wp2_with (at_builtin; refine zB_ Qe_ rfl (.tmp 23) (.tmp 24) rfl w.heap.size v2 (m + 1) (iv .u8 (F ++ [x])) rfl (HOWN2.out.alloc _) _ _ 1 [255] rfl rfl (xd_ .u8 _ [255] _ _ _ rfl 1 rfl) Xt44 Xt7 ?_)
    exact Xb40
   ·have t1 : (x == 0) = false := by simpa using q
    have HQ := hid (show esc x = [x] by rw [esc, if_neg q])
    clear q
    go_wp2_with (at_builtin; refine zB_ Qe_ rfl (.tmp 11) (.tmp 16) rfl w.heap.size _ m (iv .u8 F) rfl (HOWN.out.alloc _) _ _ 1 [x] rfl rfl (xd_ .u8 _ [x] _ _ _ rfl 1 rfl) Xt44 Xt7 ?_)
    intro v2 w2 hown2 hgrow2
    rw [← zM_] at hown2
    have b2 : Below w.heap.size wr w2 := ((Below.refl _ wr).alloc hs1 _).grown hgrow2 Xt7 (fun j hj => (HOWN.out.lt j hj).1)
    have B2 := B.trans b2
    have c2 := HLR.out _ b2
    have HOWN2 := hid hown2
    clear hown2 hgrow2 c1
    exact Xb69
  ·have hkl : ¬ (k : Int) < (n : Int) := by omega
   have e : k = n := by omega
   subst e
   rw [List.take_of_length_le (by rw [HL.out]; exact Nat.le_refl _)] at hown
   have HOWN := hid hown
   clear hown
   go_wp2_with fail
   go_ret
   exact ⟨_, rfl, HOWN.out, B⟩
theorem ju_ (a : Option Addr) (L : List Int) (n cap : Nat) (hL : L.length = n) (hn : n <= 300000) (w : World) (hR : Ls .u8 w a cap L) :
  Calls prog 115 #[.slice a n cap] w fun r w' => ∃ a' c', r = .returned (.slice a' (zk_ L).length c') /\ Ls .u8 w' a' c' (zk_ L) /\ Below w.heap.size w w' :=
 (jt_ a L n cap hL hn w hR).mono fun r w' ⟨v, h1, h2, h3⟩ => by
  obtain ⟨a', c', rfl, l', _⟩ := yv_ h2 rfl
  exact ⟨a', c', h1, l', h3⟩
section
open Go.Shelf
structure zj_ where
 k : Int
 t : Int
 i : Int
 ka : Option Addr
 kn : Nat
 kc : Nat
 K : List Int
 ta : Option Addr
 tn : Nat
 tc : Nat
 T : List Int
 m : Int
 ra : Option Addr
 rn : Nat
 rc : Nat
 R : List P1
structure zz_ (W : World) (o : zj_) : Prop where
 ks : Ls .u8 W o.ka o.kc o.K
 kl : o.K.length = o.kn
 kb : Byt o.K
 ts : Ls .u8 W o.ta o.tc o.T
 tl : o.T.length = o.tn
 tb : Byt o.T
 rs : RdR W o.ra o.R
 rl : o.R.length = o.rn
 rb : ∀ p ∈ o.R, Byt p.bs
theorem zz_.below {W W' : World} {o : zj_} (h : zz_ W o) (b : Below W.heap.size W W') : zz_ W' o := ⟨h.ks.below b, h.kl, h.kb, h.ts.below b, h.tl, h.tb, h.rs.below b, h.rl, h.rb⟩
def kf (k : Int) (i : Nat) : Bool := if 0 <= k /\ k <= 6 then kB.getD (k.toNat * 6 + i) false else false
theorem kf_in (n : Nat) (h : n <= 6) (i : Nat) : kf (n : Int) i = kB.getD (n * 6 + i) false := by
 unfold kf
 rw [if_pos Xt0, Int.toNat_natCast]
theorem jD_ (k : Int) (h : k < 0 ∨ 6 < k) (i : Nat) : kf k i = false := if_neg Xt0
theorem kind_out (k : Int) (h : k < 0 ∨ 6 < k) (tb ix mo : Int) (ka ta ra : Option Addr) (kn kc tn tc rn rc : Nat) (w : World) :
  Calls prog 122 #[.agg #[.int .i64 k, .int .i64 tb, .int .i64 ix, .slice ka kn kc, .slice ta tn tc, .int .i64 mo, .slice ra rn rc]] w fun r w' => r = .returned (kN false false false false false false) /\ Below w.heap.size w w' := by
 have b0 := ((Below.refl w.heap.size w).alloc (Nat.le_refl _) (.cells #[.int .i64 k, .int .i64 tb, .int .i64 ix, .slice ka kn kc, .slice ta tn tc, .int .i64 mo, .slice ra rn rc] 74)).alloc Xt5 (.cells #[.bool false, .bool false, .bool false, .bool false, .bool false, .bool false] 197)
 have hb := (zg_.new w #[.int .i64 k, .int .i64 tb, .int .i64 ix, .slice ka kn kc, .slice ta tn tc, .int .i64 mo, .slice ra rn rc] 74).below ((Below.refl _ _).alloc (Nat.le_refl _) (.cells #[.bool false, .bool false, .bool false, .bool false, .bool false, .bool false] 197))
 have hr := zg_.new (w.alloc (.cells #[.int .i64 k, .int .i64 tb, .int .i64 ix, .slice ka kn kc, .slice ta tn tc, .int .i64 mo, .slice ra rn rc] 74)) #[.bool false, .bool false, .bool false, .bool false, .bool false, .bool false] 197
 rw [World.size_alloc] at hr
 unfold kN
 rcases h with h | h
 ·exact Xb26
 ·have h0 : ¬ k < 0 := by omega
  exact Xb26
theorem j6_ (k tb ix mo : Int) (ka ta ra : Option Addr) (kn kc tn tc rn rc : Nat) (w : World) :
  Calls prog 122 #[.agg #[.int .i64 k, .int .i64 tb, .int .i64 ix, .slice ka kn kc, .slice ta tn tc, .int .i64 mo, .slice ra rn rc]] w fun r w' => r = .returned (kN (kf k 0) (kf k 1) (kf k 2) (kf k 3) (kf k 4) (kf k 5)) /\ Below w.heap.size w w' := by
 by_cases h : k < 0 ∨ 6 < k
 ·simp only [jD_ k h]
  exact kind_out k h tb ix mo ka ta ra kn kc tn tc rn rc w
 ·obtain ⟨n, rfl⟩ : ∃ n : Nat, k = (n : Int) := ⟨k.toNat, by omega⟩
  have hn : n <= 6 := by omega
  simp only [kf_in n hn]
  rcases (show n = 0 ∨ n = 1 ∨ n = 2 ∨ n = 3 ∨ n = 4 ∨ n = 5 ∨ n = 6 by omega) with rfl | rfl | rfl | rfl | rfl | rfl | rfl
  ·exact xH_ 0 Xt4 false false false false false false Xt46 tb ix mo ka ta ra kn kc tn tc rn rc w
  ·exact xH_ 1 Xt4 true true false false false false Xt46 tb ix mo ka ta ra kn kc tn tc rn rc w
  ·exact xH_ 2 Xt4 true true true false false true Xt46 tb ix mo ka ta ra kn kc tn tc rn rc w
  ·exact xH_ 3 Xt4 true true true false false true Xt46 tb ix mo ka ta ra kn kc tn tc rn rc w
  ·exact xH_ 4 Xt4 true true false false false true Xt46 tb ix mo ka ta ra kn kc tn tc rn rc w
  ·exact xH_ 5 Xt4 true false false true false false Xt46 tb ix mo ka ta ra kn kc tn tc rn rc w
  ·exact xH_ 6 Xt4 true false false true true false Xt46 tb ix mo ka ta ra kn kc tn tc rn rc w
theorem yo_ (w : World) (A B : Array Value) (a b : TypeId) : Below w.heap.size w ((w.alloc (.cells A a)).alloc (.cells B b)) /\ ∀ W, Below ((w.alloc (.cells A a)).alloc (.cells B b)).heap.size ((w.alloc (.cells A a)).alloc (.cells B b)) W -> zg_ W w.heap.size A a /\ zg_ W (w.heap.size + 1) B b := by
 refine ⟨((Below.refl _ _).alloc (Nat.le_refl _) _).alloc Xt5 _, fun W h => ?_⟩
 have e1 := zg_.new w A a
 have e2 := zg_.new (w.alloc (.cells A a)) B b
 have b2 : Below (w.alloc (.cells A a)).heap.size (w.alloc (.cells A a)) ((w.alloc (.cells A a)).alloc (.cells B b)) := (Below.refl _ _).alloc (Nat.le_refl _) _
 refine ⟨(e1.below b2).below h, ?_⟩
 have := e2.below h
 simpa using this
def idxV (j : Job) (o : zj_) : Int := if kf o.k 4 then j.T.getD o.t.toNat 0 else 1
def mostV (o : zj_) : Nat := if kf o.k 4 then 24 else 32
def endB (o : zj_) : Bool := if kf o.k 3 then decide (o.kn <= mostV o) && decide (o.tn <= mostV o) && inB o.m 1 64 else yz_ o.kn && (o.tn == 0) && (o.m == 0)
def pO (j : Job) (o : zj_) : Bool := okB j && kf o.k 0 && inB o.t 0 ((j.n : Int) - 1) && inB o.i 0 (idxV j o - 1) && (kf o.k 2 == decide (0 < o.rn)) && (!kf o.k 2 || yU_ o.R) && endB o
theorem QO_ (j : Job) (o : zj_) (hrn : o.rn <= 1000000) (w : World) (hj : yd_ w j) (ho : zz_ w o) :
  Calls prog 121 #[.agg #[.int .i64 j.w, .int .i64 j.l, .int .i64 j.d, .int .i64 j.c, .int .i64 j.k, .int .i64 j.e, .slice j.a j.n j.cap], .agg #[.int .i64 o.k, .int .i64 o.t, .int .i64 o.i, .slice o.ka o.kn o.kc, .slice o.ta o.tn o.tc, .int .i64 o.m, .slice o.ra o.rn o.rc]] w fun r w' => r = .returned (.bool (pO j o)) /\ Below w.heap.size w w' := by
 obtain ⟨k, t, i, ka, kn, kc, K, ta, tn, tc, TT, m, ra, rn, rc, R⟩ := o
 have hp : pO j ⟨k, t, i, ka, kn, kc, K, ta, tn, tc, TT, m, ra, rn, rc, R⟩ = (okB j && kf k 0 && inB t 0 ((j.n : Int) - 1) && inB i 0 ((if kf k 4 then j.T.getD t.toNat 0 else 1) - 1) && (kf k 2 == decide (0 < rn)) && (!kf k 2 || yU_ R) && (if kf k 3 then decide (kn <= (if kf k 4 then 24 else 32)) && decide (tn <= (if kf k 4 then 24 else 32)) && inB m 1 64 else yz_ kn && (tn == 0) && (m == 0))) := rfl
 generalize pO j _ = ans at hp ⊢
 simp only at hrn ho ⊢
 obtain ⟨hb0, hbx⟩ := yo_ w #[.int .i64 j.w, .int .i64 j.l, .int .i64 j.d, .int .i64 j.c, .int .i64 j.k, .int .i64 j.e, .slice j.a j.n j.cap] #[.int .i64 k, .int .i64 t, .int .i64 i, .slice ka kn kc, .slice ta tn tc, .int .i64 m, .slice ra rn rc] 24 74
 have hri : (rn : Int) <= 1000000 := by omega
 have HKL := hid (fun W => j6_ k t i m ka ta ra kn kc tn tc rn rc W)
 have HCK := hid (show qf_ j = if okB j then 0 else 2 from rfl)
 have hln := hj.len
 have hle := hj.le
 have hlei : (j.n : Int) <= 1000000 := by omega
 have HLN := hid hln
 clear hln hle
 go_enter func121, ntmps121
 go_wp2_with fail
 generalize ((w.alloc (.cells #[.int .i64 j.w, .int .i64 j.l, .int .i64 j.d, .int .i64 j.c, .int .i64 j.k, .int .i64 j.e, .slice j.a j.n j.cap] 24)).alloc (.cells #[.int .i64 k, .int .i64 t, .int .i64 i, .slice ka kn kc, .slice ta tn tc, .int .i64 m, .slice ra rn rc] 74)) = W0 at *
 have FG := hid (fun W (b : Below W0.heap.size W0 W) => (by
  obtain ⟨x, y⟩ := hbx W b
  exact ⟨x.cell 0, x.cell 1, x.cell 2, x.cell 3, x.cell 4, x.cell 5, x.cell 6, y.cell 0, y.cell 1, y.cell 2, y.cell 3, y.cell 4, y.cell 5, y.cell 6⟩ : W.cell? ⟨w.heap.size, 0, none⟩ = some (.int .i64 j.w) /\ W.cell? ⟨w.heap.size, 1, none⟩ = some (.int .i64 j.l) /\ W.cell? ⟨w.heap.size, 2, none⟩ = some (.int .i64 j.d) /\ W.cell? ⟨w.heap.size, 3, none⟩ = some (.int .i64 j.c) /\ W.cell? ⟨w.heap.size, 4, none⟩ = some (.int .i64 j.k) /\ W.cell? ⟨w.heap.size, 5, none⟩ = some (.int .i64 j.e) /\ W.cell? ⟨w.heap.size, 6, none⟩ = some (.slice j.a j.n j.cap) /\ W.cell? ⟨w.heap.size + 1, 0, none⟩ = some (.int .i64 k) /\ W.cell? ⟨w.heap.size + 1, 1, none⟩ = some (.int .i64 t) /\ W.cell? ⟨w.heap.size + 1, 2, none⟩ = some (.int .i64 i) /\ W.cell? ⟨w.heap.size + 1, 3, none⟩ = some (.slice ka kn kc) /\ W.cell? ⟨w.heap.size + 1, 4, none⟩ = some (.slice ta tn tc) /\ W.cell? ⟨w.heap.size + 1, 5, none⟩ = some (.int .i64 m) /\ W.cell? ⟨w.heap.size + 1, 6, none⟩ = some (.slice ra rn rc)))
 have FJ := hid (fun W (b : Below W0.heap.size W0 W) => (hj.below hb0).below b)
 have FO := hid (fun W (b : Below W0.heap.size W0 W) => (ho.below hb0).below b)
 have HB0 := hid hb0
 have HP := hid hp
 clear hb0 hbx hj ho hp
 generalize kf k 0 = a at *
 generalize kf k 1 = b at *
 generalize kf k 2 = c at *
 generalize kf k 3 = d at *
 generalize kf k 4 = e at *
 generalize kf k 5 = f at *
 refine (HKL.out _).mono ?_; rintro r w2 ⟨rfl, B2⟩
 unfold kN
 have HB2 := hid B2
 have HB3 := hid (za_ B2 ((Below.refl w2.heap.size w2).alloc (Nat.le_refl _) (.cells #[.bool a, .bool b, .bool c, .bool d, .bool e, .bool f] 197)))
 have hbk := zg_.new w2 #[.bool a, .bool b, .bool c, .bool d, .bool e, .bool f] 197
 obtain ⟨g0, g1, g2, g3, g4, g5, g6, o0, o1, o2, o3, o4, o5, o6⟩ := FG.out _ HB3.out
 clear B2
 go_wp2_with fail
 generalize w2.alloc (.cells #[.bool a, .bool b, .bool c, .bool d, .bool e, .bool f] 197) = W3 at *
 have HBK := hid hbk
 clear hbk g0 g1 g2 g3 g4 g5 g6 o0 o1 o2 o3 o4 o5 o6
 refine (x8_ j W3 (FJ.out _ HB3.out)).mono ?_; rintro r w3 ⟨rfl, B3⟩
 have HBW := hid (za_ HB3.out B3)
 have FK := hid (fun W (b : Below w3.heap.size w3 W) => (HBK.out.below B3).below b)
 rw [HCK.out]
 clear B3 HB3 HBK
 obtain ⟨ok, hok⟩ := gtx (okB j)
 rw [hok] at HP ⊢
 have HOK := hid hok
 clear hok
 obtain ⟨g0, g1, g2, g3, g4, g5, g6, o0, o1, o2, o3, o4, o5, o6⟩ := FG.out _ HBW.out
 have k0 := (FK.out _ (Below.refl _ _)).cell 0
 have k2 := (FK.out _ (Below.refl _ _)).cell 2
 have k3 := (FK.out _ (Below.refl _ _)).cell 3
 have k4 := (FK.out _ (Below.refl _ _)).cell 4
 simp only [gtA, gtB, gtC] at k0 k2 k3 k4
 cases ok
 ·exact Xb21
 simp only [↓reduceIte]
 cases a
 ·exact Xb21
 go_wp2_with fail
 refine (zQ_ _ _ _ _).mono ?_; rintro r w9 ⟨rfl, rfl⟩
 obtain ⟨bt, hbt⟩ := gtx (inB t 0 ((j.n : Int) - 1))
 rw [hbt] at HP ⊢
 cases bt
 ·clear hbt
  exact Xb21
 obtain ⟨tk, rfl, htk⟩ : ∃ tk : Nat, t = (tk : Int) /\ tk < j.n := by
  unfold inB at hbt
  have := of_decide_eq_true hbt
  exact ⟨t.toNat, by omega, by omega⟩
 obtain ⟨b1, o1', ea, dd⟩ := (FJ.out _ HBW.out).ls.get tk Xt75
 obtain ⟨x, hx⟩ := gtx (j.T.getD tk 0)
 rw [hx] at dd
 rw [Int.toNat_natCast, hx] at HP
 have hxb : 0 <= x /\ x <= 2 := by rw [← hx]; exact jg_ HOK.out tk Xt75
 have hx0 : 0 <= x := hxb.1
 have hx2 : x <= 2 := hxb.2
 have htki : (tk : Int) < (j.n : Int) := by omega
 have HEA := hid ea
 have DD := hid dd
 clear hbt hx hxb ea dd
 cases e
 ·go_wp2_with fail
  refine (zQ_ _ _ _ _).mono ?_; rintro r w9 ⟨rfl, rfl⟩
  simp only [Bool.false_eq_true, if_false, if_true, ↓reduceIte] at HP
  obtain ⟨bi, hbi⟩ := gtx (inB i 0 (1 - 1))
  simp only [Int.sub_self] at hbi HP ⊢
  rw [hbi] at HP ⊢
  clear hbi
  cases bi
  ·exact Xb21
  by_cases hr0 : 0 < rn
  ·have hr0i : (0 : Int) < (rn : Int) := by omega
   have hrd : decide (0 < rn) = true := decide_eq_true hr0
   rw [hrd] at HP
   clear hrd
   cases c
   ·exact Xb21
   ·go_wp2_with fail
    refine (x2_ ra R rn rc (FO.out _ HBW.out).rl hrn _ ((FO.out _ HBW.out).rs.below (Below.refl _ _))).mono ?_; rintro r w5 ⟨rfl, B5⟩
    have HB5 := hid (za_ HBW.out (za_ (Below.refl _ _) B5))
    have FK5 := (FK.out _ (za_ (Below.refl _ _) B5))
    clear B5 g0 g1 g2 g3 g4 g5 g6 o0 o1 o2 o3 o4 o5 o6 k0 k2 k3 k4
    obtain ⟨g0, g1, g2, g3, g4, g5, g6, o0, o1, o2, o3, o4, o5, o6⟩ := FG.out _ HB5.out
    have k3 := FK5.cell 3
    simp only [gtA, gtB, gtC] at k3
    clear FK5
    obtain ⟨mr, hmr⟩ := gtx (yU_ R)
    rw [hmr] at HP ⊢
    clear hmr
    cases mr
    ·exact Xb29
    ·cases d
     ·exact Xb24
     ·simp only [if_true, ↓reduceIte] at HP
      by_cases hk3 : kn <= 32
      ·have hk3i : (kn : Int) <= 32 := by omega
       have hk3d : decide (kn <= 32) = true := decide_eq_true hk3
       rw [hk3d] at HP
       clear hk3d
       by_cases ht3 : tn <= 32
       ·have ht3i : (tn : Int) <= 32 := by omega
        have ht3d : decide (tn <= 32) = true := decide_eq_true ht3
        rw [ht3d] at HP
        clear ht3d
        go_wp2_with fail
        refine (zQ_ _ _ _ _).mono ?_; rintro r w9 ⟨rfl, rfl⟩
        exact Xb62
       ·have ht3i : ¬ (tn : Int) <= 32 := by omega
        have ht3d : decide (tn <= 32) = false := decide_eq_false ht3
        rw [ht3d] at HP
        clear ht3d
        exact Xb29
      ·have hk3i : ¬ (kn : Int) <= 32 := by omega
       have hk3d : decide (kn <= 32) = false := decide_eq_false hk3
       rw [hk3d] at HP
       clear hk3d
       exact Xb29
  ·have hr0i : ¬ (0 : Int) < (rn : Int) := by omega
   have hrd : decide (0 < rn) = false := decide_eq_false hr0
   rw [hrd] at HP
   clear hrd
   cases c
   ·cases d
    ·simp only [Bool.false_eq_true, if_false, ↓reduceIte] at HP
     obtain ⟨mk, hmk⟩ := gtx (yz_ kn)
     rw [hmk] at HP
     have HMK := hid hmk
     clear hmk
     go_wp2_with fail
     refine (zN_ _ _ _ _).mono ?_; rintro r w9 ⟨rfl, rfl⟩
     rw [HMK.out]
     cases mk
     ·exact Xb21
     by_cases ht0 : tn = 0
     ·subst ht0
      exact Xb61
     ·have ht1 : ((tn : Int) == 0) = false := by simpa using ht0
      have ht2 : (tn == 0) = false := by simpa using ht0
      rw [ht2] at HP
      clear ht2
      exact Xb21
    ·simp only [if_true, ↓reduceIte] at HP
     by_cases hk3 : kn <= 32
     ·have hk3i : (kn : Int) <= 32 := by omega
      have hk3d : decide (kn <= 32) = true := decide_eq_true hk3
      rw [hk3d] at HP
      clear hk3d
      by_cases ht3 : tn <= 32
      ·have ht3i : (tn : Int) <= 32 := by omega
       have ht3d : decide (tn <= 32) = true := decide_eq_true ht3
       rw [ht3d] at HP
       clear ht3d
       go_wp2_with fail
       refine (zQ_ _ _ _ _).mono ?_; rintro r w9 ⟨rfl, rfl⟩
       exact Xb61
      ·have ht3i : ¬ (tn : Int) <= 32 := by omega
       have ht3d : decide (tn <= 32) = false := decide_eq_false ht3
       rw [ht3d] at HP
       clear ht3d
       exact Xb21
     ·have hk3i : ¬ (kn : Int) <= 32 := by omega
      have hk3d : decide (kn <= 32) = false := decide_eq_false hk3
      rw [hk3d] at HP
      clear hk3d
      exact Xb21
   ·exact Xb21
 ·rw [HEA.out] at g6
  have dd := DD.out
  go_wp2_with fail
  go_quiet (fail)
  go_wp2_with fail
  refine (zQ_ _ _ _ _).mono ?_; rintro r w9 ⟨rfl, rfl⟩
  simp only [Bool.false_eq_true, if_false, if_true, ↓reduceIte] at HP
  obtain ⟨bi, hbi⟩ := gtx (inB i 0 (x - 1))
  simp only [Int.sub_self] at hbi HP ⊢
  rw [hbi] at HP ⊢
  clear hbi
  cases bi
  ·exact Xb31
  by_cases hr0 : 0 < rn
  ·have hr0i : (0 : Int) < (rn : Int) := by omega
   have hrd : decide (0 < rn) = true := decide_eq_true hr0
   rw [hrd] at HP
   clear hrd
   cases c
   ·exact Xb31
   ·go_wp2_with fail
    refine (x2_ ra R rn rc (FO.out _ HBW.out).rl hrn _ ((FO.out _ HBW.out).rs.below (zl_ (Below.refl _ _) _))).mono ?_; rintro r w5 ⟨rfl, B5⟩
    have HB5 := hid (za_ HBW.out (za_ (zl_ (Below.refl _ _) _) B5))
    have FK5 := (FK.out _ (za_ (zl_ (Below.refl _ _) _) B5))
    clear B5 g0 g1 g2 g3 g4 g5 g6 o0 o1 o2 o3 o4 o5 o6 k0 k2 k3 k4
    obtain ⟨g0, g1, g2, g3, g4, g5, g6, o0, o1, o2, o3, o4, o5, o6⟩ := FG.out _ HB5.out
    have k3 := FK5.cell 3
    simp only [gtA, gtB, gtC] at k3
    clear FK5
    obtain ⟨mr, hmr⟩ := gtx (yU_ R)
    rw [hmr] at HP ⊢
    clear hmr
    cases mr
    ·exact Xb29
    ·cases d
     ·exact Xb24
     ·simp only [if_true, ↓reduceIte] at HP
      by_cases hk3 : kn <= 24
      ·have hk3i : (kn : Int) <= 24 := by omega
       have hk3d : decide (kn <= 24) = true := decide_eq_true hk3
       rw [hk3d] at HP
       clear hk3d
       by_cases ht3 : tn <= 24
       ·have ht3i : (tn : Int) <= 24 := by omega
        have ht3d : decide (tn <= 24) = true := decide_eq_true ht3
        rw [ht3d] at HP
        clear ht3d
        go_wp2_with fail
        refine (zQ_ _ _ _ _).mono ?_; rintro r w9 ⟨rfl, rfl⟩
        exact Xb62
       ·have ht3i : ¬ (tn : Int) <= 24 := by omega
        have ht3d : decide (tn <= 24) = false := decide_eq_false ht3
        rw [ht3d] at HP
        clear ht3d
        exact Xb29
      ·have hk3i : ¬ (kn : Int) <= 24 := by omega
       have hk3d : decide (kn <= 24) = false := decide_eq_false hk3
       rw [hk3d] at HP
       clear hk3d
       exact Xb29
  ·have hr0i : ¬ (0 : Int) < (rn : Int) := by omega
   have hrd : decide (0 < rn) = false := decide_eq_false hr0
   rw [hrd] at HP
   clear hrd
   cases c
   ·cases d
    ·simp only [Bool.false_eq_true, if_false, ↓reduceIte] at HP
     obtain ⟨mk, hmk⟩ := gtx (yz_ kn)
     rw [hmk] at HP
     have HMK := hid hmk
     clear hmk
     go_wp2_with fail
     refine (zN_ _ _ _ _).mono ?_; rintro r w9 ⟨rfl, rfl⟩
     rw [HMK.out]
     cases mk
     ·exact Xb31
     by_cases ht0 : tn = 0
     ·subst ht0
      exact Xb114
     ·have ht1 : ((tn : Int) == 0) = false := by simpa using ht0
      have ht2 : (tn == 0) = false := by simpa using ht0
      rw [ht2] at HP
      clear ht2
      exact Xb31
    ·simp only [if_true, ↓reduceIte] at HP
     by_cases hk3 : kn <= 24
     ·have hk3i : (kn : Int) <= 24 := by omega
      have hk3d : decide (kn <= 24) = true := decide_eq_true hk3
      rw [hk3d] at HP
      clear hk3d
      by_cases ht3 : tn <= 24
      ·have ht3i : (tn : Int) <= 24 := by omega
       have ht3d : decide (tn <= 24) = true := decide_eq_true ht3
       rw [ht3d] at HP
       clear ht3d
       go_wp2_with fail
       refine (zQ_ _ _ _ _).mono ?_; rintro r w9 ⟨rfl, rfl⟩
       exact Xb114
      ·have ht3i : ¬ (tn : Int) <= 24 := by omega
       have ht3d : decide (tn <= 24) = false := decide_eq_false ht3
       rw [ht3d] at HP
       clear ht3d
       exact Xb31
     ·have hk3i : ¬ (kn : Int) <= 24 := by omega
      have hk3d : decide (kn <= 24) = false := decide_eq_false hk3
      rw [hk3d] at HP
      clear hk3d
      exact Xb31
   ·exact Xb31
end
end Go.Proofs.YthmofoldmdafoaaGreat
