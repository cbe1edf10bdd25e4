/- ModelReads: a transaction that reads alone writes nothing, and is answered the same again and again; for every input. Part 4. -/
import Derived.Test.YthmofoldmdafoaaGreatRrc
import Derived.Laws.Tables
import Derived.BigRegion
import Derived.Test.YthmofoldmdafoaaGreatRra
import Derived.ProofKit
import Derived.Deep.RegionHeld
import Derived.Test.YthmofoldmdafoaaGreatRrb
namespace Go.Proofs.YthmofoldmdafoaaGreat
open Go.ChangeShapes Go.WideShapes Go.ChangeAt Go.RowKit Go.Shelf
set_option linter.unusedVariables false
set_option linter.unusedSimpArgs false

theorem build_to {ops : Array Oper} {rest : List Oper} {o : Oper} {a : Act} {w : World} {Q : Exit → Act → World → Prop} (hg : o.guard = none) (t : TypeId) (parts : Array (Nat × Operand)) (ho : o.op = .build t parts) (cells : Array Value)
    (hc : Tryz.prog.built t (parts.map fun (i, x) => (i, a.eval x)).toList = some cells)
    (h : wpList Tryz.prog ops Q rest (a.put o.dst (.agg cells)) w) : wpList Tryz.prog ops Q (o :: rest) a w :=
  wpList_build hg t parts ho (by rw [hc]; rfl) (by rw [hc]; exact h)
def kN (a b c d e f : Bool) : Value := .agg #[.bool a, .bool b, .bool c, .bool d, .bool e, .bool f]
theorem built155 : Tryz.prog.built 213 [(1, kN true true false false false false), (2, kN true true true false false true), (3, kN true true true false false true), (4, kN true true false false false true), (5, kN true false false true false false), (6, kN true false false true true false)] = some kV := by kernel_rfl
set_option maxRecDepth 100000 in
set_option maxHeartbeats 1000000 in
theorem kinds_law (w : World) : Calls Tryz.prog 139 #[] w fun r w' => r = .returned (.agg kV) ∧ Below w.heap.size w w' := by
  have hst := kst w
  have hsz := kV_size
  simp only [kZ, List.map_cons, List.map_nil, List.replicate_succ, List.replicate_zero] at hst
  go_enter Tryz.func139, Tryz.ntmps139
  go_wp2_with (refine build_to rfl 213 _ rfl kV ?hc ?hk; case hc => (simp only [List.map_toArray, List.map_cons, List.map_nil]; simp only [go_sem]; exact built155))
  refine bodyPost_ret (v := .agg kV) ?_ rfl ⟨rfl, (Below.refl _ _).alloc (Nat.le_refl _) _⟩
  simp [results, Tryz.results139, Act.put, Sem.run_bind, Sem.run_pure, asAddr, Result.andThen, kld w]
end Go.Proofs.YthmofoldmdafoaaGreat
namespace Go.Proofs.YthmofoldmdafoaaGreat
open Go.ChangeShapes Go.WideShapes Go.ChangeAt Go.RowKit Go.Shelf
set_option linter.unusedVariables false
set_option linter.unusedSimpArgs false

theorem BoxC.setC {W : World} {B : Nat} {cs : Array Value} {t : TypeId} (h : BoxC W B cs t) (i : Nat) (v : Value) : BoxC (W.setCell ⟨B, i, none⟩ v) B (cs.setIfInBounds i v) t := heap_setCell_same W B i cs t v h
set_option maxRecDepth 100000 in
set_option maxHeartbeats 2000000 in
theorem kind_in (k : Nat) (hk : k ≤ 6) (a b c d e f : Bool) (hix : ∀ W : World, (Instr.index 213 (.agg kV) (.int .i64 (k : Int))).run Tryz.prog W = .ok (kN a b c d e f) W) (tb ix mo : Int) (ka ta ra : Option Addr) (kn kc tn tc rn rc : Nat) (w : World) :
    Calls Tryz.prog 122 #[.agg #[.int .i64 (k : Int), .int .i64 tb, .int .i64 ix, .slice ka kn kc, .slice ta tn tc, .int .i64 mo, .slice ra rn rc]] w fun r w' => r = .returned (kN a b c d e f) ∧ Below w.heap.size w w' := by
  have hk0 : ¬ (k : Int) < 0 := by omega
  have hk6 : ¬ 6 < (k : Int) := by omega
  unfold kN at *
  go_enter Tryz.func122, Tryz.ntmps122
  go_wp2_with fail
  have b0 := ((Below.refl w.heap.size w).alloc (Nat.le_refl _) (.cells #[.int .i64 (k : Int), .int .i64 tb, .int .i64 ix, .slice ka kn kc, .slice ta tn tc, .int .i64 mo, .slice ra rn rc] 74)).alloc (by simp) (.cells #[.bool false, .bool false, .bool false, .bool false, .bool false, .bool false] 197)
  have hb := (BoxC.new w #[.int .i64 (k : Int), .int .i64 tb, .int .i64 ix, .slice ka kn kc, .slice ta tn tc, .int .i64 mo, .slice ra rn rc] 74).below ((Below.refl _ _).alloc (Nat.le_refl _) (.cells #[.bool false, .bool false, .bool false, .bool false, .bool false, .bool false] 197))
  have hr := BoxC.new (w.alloc (.cells #[.int .i64 (k : Int), .int .i64 tb, .int .i64 ix, .slice ka kn kc, .slice ta tn tc, .int .i64 mo, .slice ra rn rc] 74)) #[.bool false, .bool false, .bool false, .bool false, .bool false, .bool false] 197
  rw [World.size_alloc] at hr
  generalize ((w.alloc (.cells #[.int .i64 (k : Int), .int .i64 tb, .int .i64 ix, .slice ka kn kc, .slice ta tn tc, .int .i64 mo, .slice ra rn rc] 74)).alloc (.cells #[.bool false, .bool false, .bool false, .bool false, .bool false, .bool false] 197)) = W0 at *
  have c0 : W0.cell? ⟨w.heap.size, 0, none⟩ = some (.int .i64 (k : Int)) := hb.cell 0
  have hsz : w.heap.size + 1 < W0.heap.size := hr.lt
  have HK := Lib.hid (fun W => kinds_law W)
  have HB0 := Lib.hid b0
  have HB := Lib.hid hb
  have HR := Lib.hid hr
  clear b0 hb hr
  go_region_with (go_at_call 139; refine (HK.out _).mono ?_; rintro r w3 ⟨rfl, B3⟩; have hbd : BoxC W0.drew _ _ _ := HB.out; have hrd : BoxC W0.drew _ _ _ := HR.out; have g0 : w3.cell? ⟨w.heap.size, 0, none⟩ = some (.int .i64 (k : Int)) := (hbd.below B3).cell 0; have R0 : w3.cell? ⟨w.heap.size + 1, 0, none⟩ = some (.bool false) := (hrd.below B3).cell 0; have R1 : w3.cell? ⟨w.heap.size + 1, 1, none⟩ = some (.bool false) := (hrd.below B3).cell 1; have R2 : w3.cell? ⟨w.heap.size + 1, 2, none⟩ = some (.bool false) := (hrd.below B3).cell 2; have R3 : w3.cell? ⟨w.heap.size + 1, 3, none⟩ = some (.bool false) := (hrd.below B3).cell 3; have R4 : w3.cell? ⟨w.heap.size + 1, 4, none⟩ = some (.bool false) := (hrd.below B3).cell 4; have R5 : w3.cell? ⟨w.heap.size + 1, 5, none⟩ = some (.bool false) := (hrd.below B3).cell 5; have F0 : w3.frozen? ⟨w.heap.size + 1, 0, none⟩ = false := frozen_of_row w3 _ 0 _ 197 (hrd.below B3); have F1 : w3.frozen? ⟨w.heap.size + 1, 1, none⟩ = false := frozen_of_row w3 _ 1 _ 197 (hrd.below B3); have F2 : w3.frozen? ⟨w.heap.size + 1, 2, none⟩ = false := frozen_of_row w3 _ 2 _ 197 (hrd.below B3); have F3 : w3.frozen? ⟨w.heap.size + 1, 3, none⟩ = false := frozen_of_row w3 _ 3 _ 197 (hrd.below B3); have F4 : w3.frozen? ⟨w.heap.size + 1, 4, none⟩ = false := frozen_of_row w3 _ 4 _ 197 (hrd.below B3); have F5 : w3.frozen? ⟨w.heap.size + 1, 5, none⟩ = false := frozen_of_row w3 _ 5 _ 197 (hrd.below B3); have HB3 := Lib.hid B3; have HR3 := Lib.hid (hrd.below B3); clear hbd hrd B3)
  all_goals
    have hX := ((((((HR3.out.setC 0 (.bool a)).setC 1 (.bool b)).setC 2 (.bool c)).setC 3 (.bool d)).setC 4 (.bool e)).setC 5 (.bool f))
    simp only [List.setIfInBounds_toArray, List.set_cons_zero, List.set_cons_succ] at hX
    have hb3 : Below w.heap.size w w3 := HB0.out.trans ((show Below W0.heap.size W0.drew w3 from HB3.out).mono HB0.out.size |> fun h => ⟨h.os, h.tape, h.output, h.size, h.block⟩)
    have hB9 : Below w.heap.size w ((((((w3.setCell ⟨w.heap.size + 1, 0, none⟩ (.bool a)).setCell ⟨w.heap.size + 1, 1, none⟩ (.bool b)).setCell ⟨w.heap.size + 1, 2, none⟩ (.bool c)).setCell ⟨w.heap.size + 1, 3, none⟩ (.bool d)).setCell ⟨w.heap.size + 1, 4, none⟩ (.bool e)).setCell ⟨w.heap.size + 1, 5, none⟩ (.bool f)) := ((((((hb3.setCell (by simp) _).setCell (by simp) _).setCell (by simp) _).setCell (by simp) _).setCell (by simp) _).setCell (by simp) _)
    have HX := Lib.hid hX
    have HB9 := Lib.hid hB9
    clear hX hb3 hB9 g0 R0 R1 R2 R3 R4 R5 F0 F1 F2 F3 F4 F5 HB3 HR3
    generalize ((((((w3.setCell ⟨w.heap.size + 1, 0, none⟩ (.bool a)).setCell ⟨w.heap.size + 1, 1, none⟩ (.bool b)).setCell ⟨w.heap.size + 1, 2, none⟩ (.bool c)).setCell ⟨w.heap.size + 1, 3, none⟩ (.bool d)).setCell ⟨w.heap.size + 1, 4, none⟩ (.bool e)).setCell ⟨w.heap.size + 1, 5, none⟩ (.bool f)) = W9 at *
    go_wp2_with fail
    refine bodyPost_ret (v := .agg #[.bool a, .bool b, .bool c, .bool d, .bool e, .bool f]) ?_ rfl ⟨rfl, HB9.out⟩
    have x0 := HX.out.cell 0
    have x1 := HX.out.cell 1
    have x2 := HX.out.cell 2
    have x3 := HX.out.cell 3
    have x4 := HX.out.cell 4
    have x5 := HX.out.cell 5
    simp only [List.getElem?_toArray, List.getElem?_cons_zero, List.getElem?_cons_succ] at x0 x1 x2 x3 x4 x5
    simp [results, Tryz.results122, go_sem, x0, x1, x2, x3, x4, x5]
end Go.Proofs.YthmofoldmdafoaaGreat
namespace Go.Proofs.YthmofoldmdafoaaGreat
open Go.ChangeShapes Go.WideShapes Go.ChangeAt Go.RowKit
set_option linter.unusedVariables false
set_option linter.unusedSimpArgs false

end Go.Proofs.YthmofoldmdafoaaGreat
namespace Go.Proofs.YthmofoldmdafoaaGreat
open Go.ChangeShapes Go.WideShapes Go.ChangeAt Go.RowKit
set_option linter.unusedVariables false
set_option linter.unusedSimpArgs false

end Go.Proofs.YthmofoldmdafoaaGreat
namespace Go.Proofs.YthmofoldmdafoaaGreat
open Go.ChangeShapes Go.WideShapes Go.ChangeAt Go.RowKit Go.Shelf
set_option linter.unusedVariables false
set_option linter.unusedSimpArgs false

/-- A call. -/
structure CallV where
  k : Int
  t : Int
  i : Int
  ka : Option Addr
  kn : Nat
  kc : Nat
  K : List Int
  ta : Option Addr
  tn : Nat
  tc : Nat
  T : List Int
  m : Int
  ra : Option Addr
  rn : Nat
  rc : Nat
  R : List P1
structure CallAt (W : World) (o : CallV) : Prop where
  ks : Ls .u8 W o.ka o.kc o.K
  kl : o.K.length = o.kn
  kb : Byt o.K
  ts : Ls .u8 W o.ta o.tc o.T
  tl : o.T.length = o.tn
  tb : Byt o.T
  rs : RdR W o.ra o.R
  rl : o.R.length = o.rn
  rb : ∀ p ∈ o.R, Byt p.bs
theorem CallAt.below {W W' : World} {o : CallV} (h : CallAt W o) (b : Below W.heap.size W W') : CallAt W' o := ⟨h.ks.below b, h.kl, h.kb, h.ts.below b, h.tl, h.tb, h.rs.below b, h.rl, h.rb⟩
/-- What a kind names. -/
def kf (k : Int) (i : Nat) : Bool := if 0 ≤ k ∧ k ≤ 6 then kB.getD (k.toNat * 6 + i) false else false
theorem kf_in (n : Nat) (h : n ≤ 6) (i : Nat) : kf (n : Int) i = kB.getD (n * 6 + i) false := by
  unfold kf
  rw [if_pos (by omega), Int.toNat_natCast]
theorem kf_out (k : Int) (h : k < 0 ∨ 6 < k) (i : Nat) : kf k i = false := if_neg (by omega)
set_option maxRecDepth 100000 in
set_option maxHeartbeats 2000000 in
theorem kind_out (k : Int) (h : k < 0 ∨ 6 < k) (tb ix mo : Int) (ka ta ra : Option Addr) (kn kc tn tc rn rc : Nat) (w : World) :
    Calls Tryz.prog 122 #[.agg #[.int .i64 k, .int .i64 tb, .int .i64 ix, .slice ka kn kc, .slice ta tn tc, .int .i64 mo, .slice ra rn rc]] w fun r w' => r = .returned (kN false false false false false false) ∧ Below w.heap.size w w' := by
  have b0 := ((Below.refl w.heap.size w).alloc (Nat.le_refl _) (.cells #[.int .i64 k, .int .i64 tb, .int .i64 ix, .slice ka kn kc, .slice ta tn tc, .int .i64 mo, .slice ra rn rc] 74)).alloc (by simp) (.cells #[.bool false, .bool false, .bool false, .bool false, .bool false, .bool false] 197)
  have hb := (BoxC.new w #[.int .i64 k, .int .i64 tb, .int .i64 ix, .slice ka kn kc, .slice ta tn tc, .int .i64 mo, .slice ra rn rc] 74).below ((Below.refl _ _).alloc (Nat.le_refl _) (.cells #[.bool false, .bool false, .bool false, .bool false, .bool false, .bool false] 197))
  have hr := BoxC.new (w.alloc (.cells #[.int .i64 k, .int .i64 tb, .int .i64 ix, .slice ka kn kc, .slice ta tn tc, .int .i64 mo, .slice ra rn rc] 74)) #[.bool false, .bool false, .bool false, .bool false, .bool false, .bool false] 197
  rw [World.size_alloc] at hr
  unfold kN
  rcases h with h | h
  · go_enter Tryz.func122, Tryz.ntmps122
    go_wp2_with fail
    generalize ((w.alloc (.cells #[.int .i64 k, .int .i64 tb, .int .i64 ix, .slice ka kn kc, .slice ta tn tc, .int .i64 mo, .slice ra rn rc] 74)).alloc (.cells #[.bool false, .bool false, .bool false, .bool false, .bool false, .bool false] 197)) = W0 at *
    refine bodyPost_ret (v := .agg #[.bool false, .bool false, .bool false, .bool false, .bool false, .bool false]) ?_ rfl ⟨rfl, b0⟩
    have x0 := hr.cell 0
    have x1 := hr.cell 1
    have x2 := hr.cell 2
    have x3 := hr.cell 3
    have x4 := hr.cell 4
    have x5 := hr.cell 5
    simp only [List.getElem?_toArray, List.getElem?_cons_zero, List.getElem?_cons_succ] at x0 x1 x2 x3 x4 x5
    simp [results, Tryz.results122, go_sem, x0, x1, x2, x3, x4, x5]
  · have h0 : ¬ k < 0 := by omega
    go_enter Tryz.func122, Tryz.ntmps122
    go_wp2_with fail
    generalize ((w.alloc (.cells #[.int .i64 k, .int .i64 tb, .int .i64 ix, .slice ka kn kc, .slice ta tn tc, .int .i64 mo, .slice ra rn rc] 74)).alloc (.cells #[.bool false, .bool false, .bool false, .bool false, .bool false, .bool false] 197)) = W0 at *
    refine bodyPost_ret (v := .agg #[.bool false, .bool false, .bool false, .bool false, .bool false, .bool false]) ?_ rfl ⟨rfl, b0⟩
    have x0 := hr.cell 0
    have x1 := hr.cell 1
    have x2 := hr.cell 2
    have x3 := hr.cell 3
    have x4 := hr.cell 4
    have x5 := hr.cell 5
    simp only [List.getElem?_toArray, List.getElem?_cons_zero, List.getElem?_cons_succ] at x0 x1 x2 x3 x4 x5
    simp [results, Tryz.results122, go_sem, x0, x1, x2, x3, x4, x5]
theorem kind_law (k tb ix mo : Int) (ka ta ra : Option Addr) (kn kc tn tc rn rc : Nat) (w : World) :
    Calls Tryz.prog 122 #[.agg #[.int .i64 k, .int .i64 tb, .int .i64 ix, .slice ka kn kc, .slice ta tn tc, .int .i64 mo, .slice ra rn rc]] w fun r w' => r = .returned (kN (kf k 0) (kf k 1) (kf k 2) (kf k 3) (kf k 4) (kf k 5)) ∧ Below w.heap.size w w' := by
  by_cases h : k < 0 ∨ 6 < k
  · simp only [kf_out k h]
    exact kind_out k h tb ix mo ka ta ra kn kc tn tc rn rc w
  · obtain ⟨n, rfl⟩ : ∃ n : Nat, k = (n : Int) := ⟨k.toNat, by omega⟩
    have hn : n ≤ 6 := by omega
    simp only [kf_in n hn]
    rcases (show n = 0 ∨ n = 1 ∨ n = 2 ∨ n = 3 ∨ n = 4 ∨ n = 5 ∨ n = 6 by omega) with rfl | rfl | rfl | rfl | rfl | rfl | rfl
    · exact kind_in 0 (by decide) false false false false false false (fun W => by kernel_rfl) tb ix mo ka ta ra kn kc tn tc rn rc w
    · exact kind_in 1 (by decide) true true false false false false (fun W => by kernel_rfl) tb ix mo ka ta ra kn kc tn tc rn rc w
    · exact kind_in 2 (by decide) true true true false false true (fun W => by kernel_rfl) tb ix mo ka ta ra kn kc tn tc rn rc w
    · exact kind_in 3 (by decide) true true true false false true (fun W => by kernel_rfl) tb ix mo ka ta ra kn kc tn tc rn rc w
    · exact kind_in 4 (by decide) true true false false false true (fun W => by kernel_rfl) tb ix mo ka ta ra kn kc tn tc rn rc w
    · exact kind_in 5 (by decide) true false false true false false (fun W => by kernel_rfl) tb ix mo ka ta ra kn kc tn tc rn rc w
    · exact kind_in 6 (by decide) true false false true true false (fun W => by kernel_rfl) tb ix mo ka ta ra kn kc tn tc rn rc w
end Go.Proofs.YthmofoldmdafoaaGreat
namespace Go.Proofs.YthmofoldmdafoaaGreat
open Go.ChangeShapes Go.WideShapes Go.ChangeAt Go.RowKit Go.Shelf
set_option linter.unusedVariables false
set_option linter.unusedSimpArgs false

/-- Two boxes, one behind the other. -/
theorem boxes2 (w : World) (A B : Array Value) (a b : TypeId) : Below w.heap.size w ((w.alloc (.cells A a)).alloc (.cells B b)) ∧ ∀ W, Below ((w.alloc (.cells A a)).alloc (.cells B b)).heap.size ((w.alloc (.cells A a)).alloc (.cells B b)) W → BoxC W w.heap.size A a ∧ BoxC W (w.heap.size + 1) B b := by
  refine ⟨((Below.refl _ _).alloc (Nat.le_refl _) _).alloc (by simp) _, fun W h => ?_⟩
  have e1 := BoxC.new w A a
  have e2 := BoxC.new (w.alloc (.cells A a)) B b
  have b2 : Below (w.alloc (.cells A a)).heap.size (w.alloc (.cells A a)) ((w.alloc (.cells A a)).alloc (.cells B b)) := (Below.refl _ _).alloc (Nat.le_refl _) _
  refine ⟨(e1.below b2).below h, ?_⟩
  have := e2.below h
  simpa using this
def idxV (j : Job) (o : CallV) : Int := if kf o.k 4 then j.T.getD o.t.toNat 0 else 1
def mostV (o : CallV) : Nat := if kf o.k 4 then 24 else 32
def endB (o : CallV) : Bool := if kf o.k 3 then decide (o.kn ≤ mostV o) && decide (o.tn ≤ mostV o) && inB o.m 1 64 else mayK o.kn && (o.tn == 0) && (o.m == 0)
/-- May it be a call? As the program asks. -/
def pO (j : Job) (o : CallV) : Bool := okB j && kf o.k 0 && inB o.t 0 ((j.n : Int) - 1) && inB o.i 0 (idxV j o - 1) && (kf o.k 2 == decide (0 < o.rn)) && (!kf o.k 2 || mayR o.R) && endB o
set_option maxRecDepth 100000 in
set_option maxHeartbeats 4000000 in
theorem mayop_law (j : Job) (o : CallV) (hrn : o.rn ≤ 1000000) (w : World) (hj : JobAt w j) (ho : CallAt w o) :
    Calls Tryz.prog 121 #[.agg #[.int .i64 j.w, .int .i64 j.l, .int .i64 j.d, .int .i64 j.c, .int .i64 j.k, .int .i64 j.e, .slice j.a j.n j.cap], .agg #[.int .i64 o.k, .int .i64 o.t, .int .i64 o.i, .slice o.ka o.kn o.kc, .slice o.ta o.tn o.tc, .int .i64 o.m, .slice o.ra o.rn o.rc]] w fun r w' => r = .returned (.bool (pO j o)) ∧ Below w.heap.size w w' := by
  obtain ⟨k, t, i, ka, kn, kc, K, ta, tn, tc, TT, m, ra, rn, rc, R⟩ := o
  have hp : pO j ⟨k, t, i, ka, kn, kc, K, ta, tn, tc, TT, m, ra, rn, rc, R⟩ = (okB j && kf k 0 && inB t 0 ((j.n : Int) - 1) && inB i 0 ((if kf k 4 then j.T.getD t.toNat 0 else 1) - 1) && (kf k 2 == decide (0 < rn)) && (!kf k 2 || mayR R) && (if kf k 3 then decide (kn ≤ (if kf k 4 then 24 else 32)) && decide (tn ≤ (if kf k 4 then 24 else 32)) && inB m 1 64 else mayK kn && (tn == 0) && (m == 0))) := rfl
  generalize pO j _ = ans at hp ⊢
  simp only at hrn ho ⊢
  obtain ⟨hb0, hbx⟩ := boxes2 w #[.int .i64 j.w, .int .i64 j.l, .int .i64 j.d, .int .i64 j.c, .int .i64 j.k, .int .i64 j.e, .slice j.a j.n j.cap] #[.int .i64 k, .int .i64 t, .int .i64 i, .slice ka kn kc, .slice ta tn tc, .int .i64 m, .slice ra rn rc] 24 74
  have hri : (rn : Int) ≤ 1000000 := by omega
  have HKL := Lib.hid (fun W => kind_law k t i m ka ta ra kn kc tn tc rn rc W)
  have HCK := Lib.hid (show chkV j = if okB j then 0 else 2 from rfl)
  have hln := hj.len
  have hle := hj.le
  have hlei : (j.n : Int) ≤ 1000000 := by omega
  have HLN := Lib.hid hln
  clear hln hle
  go_enter Tryz.func121, Tryz.ntmps121
  go_wp2_with fail
  generalize ((w.alloc (.cells #[.int .i64 j.w, .int .i64 j.l, .int .i64 j.d, .int .i64 j.c, .int .i64 j.k, .int .i64 j.e, .slice j.a j.n j.cap] 24)).alloc (.cells #[.int .i64 k, .int .i64 t, .int .i64 i, .slice ka kn kc, .slice ta tn tc, .int .i64 m, .slice ra rn rc] 74)) = W0 at *
  have FG := Lib.hid (fun W (b : Below W0.heap.size W0 W) => (by
    obtain ⟨x, y⟩ := hbx W b
    exact ⟨x.cell 0, x.cell 1, x.cell 2, x.cell 3, x.cell 4, x.cell 5, x.cell 6, y.cell 0, y.cell 1, y.cell 2, y.cell 3, y.cell 4, y.cell 5, y.cell 6⟩ : W.cell? ⟨w.heap.size, 0, none⟩ = some (.int .i64 j.w) ∧ W.cell? ⟨w.heap.size, 1, none⟩ = some (.int .i64 j.l) ∧ W.cell? ⟨w.heap.size, 2, none⟩ = some (.int .i64 j.d) ∧ W.cell? ⟨w.heap.size, 3, none⟩ = some (.int .i64 j.c) ∧ W.cell? ⟨w.heap.size, 4, none⟩ = some (.int .i64 j.k) ∧ W.cell? ⟨w.heap.size, 5, none⟩ = some (.int .i64 j.e) ∧ W.cell? ⟨w.heap.size, 6, none⟩ = some (.slice j.a j.n j.cap) ∧ W.cell? ⟨w.heap.size + 1, 0, none⟩ = some (.int .i64 k) ∧ W.cell? ⟨w.heap.size + 1, 1, none⟩ = some (.int .i64 t) ∧ W.cell? ⟨w.heap.size + 1, 2, none⟩ = some (.int .i64 i) ∧ W.cell? ⟨w.heap.size + 1, 3, none⟩ = some (.slice ka kn kc) ∧ W.cell? ⟨w.heap.size + 1, 4, none⟩ = some (.slice ta tn tc) ∧ W.cell? ⟨w.heap.size + 1, 5, none⟩ = some (.int .i64 m) ∧ W.cell? ⟨w.heap.size + 1, 6, none⟩ = some (.slice ra rn rc)))
  have FJ := Lib.hid (fun W (b : Below W0.heap.size W0 W) => (hj.below hb0).below b)
  have FO := Lib.hid (fun W (b : Below W0.heap.size W0 W) => (ho.below hb0).below b)
  have HB0 := Lib.hid hb0
  have HP := Lib.hid hp
  clear hb0 hbx hj ho hp
  generalize kf k 0 = a at *
  generalize kf k 1 = b at *
  generalize kf k 2 = c at *
  generalize kf k 3 = d at *
  generalize kf k 4 = e at *
  generalize kf k 5 = f at *
  refine (HKL.out _).mono ?_; rintro r w2 ⟨rfl, B2⟩
  unfold kN
  have HB2 := Lib.hid B2
  have HB3 := Lib.hid (step_below B2 ((Below.refl w2.heap.size w2).alloc (Nat.le_refl _) (.cells #[.bool a, .bool b, .bool c, .bool d, .bool e, .bool f] 197)))
  have hbk := BoxC.new w2 #[.bool a, .bool b, .bool c, .bool d, .bool e, .bool f] 197
  obtain ⟨g0, g1, g2, g3, g4, g5, g6, o0, o1, o2, o3, o4, o5, o6⟩ := FG.out _ HB3.out
  clear B2
  go_wp2_with fail
  generalize w2.alloc (.cells #[.bool a, .bool b, .bool c, .bool d, .bool e, .bool f] 197) = W3 at *
  have HBK := Lib.hid hbk
  clear hbk g0 g1 g2 g3 g4 g5 g6 o0 o1 o2 o3 o4 o5 o6
  refine (check_law j W3 (FJ.out _ HB3.out)).mono ?_; rintro r w3 ⟨rfl, B3⟩
  have HBW := Lib.hid (step_below HB3.out B3)
  have FK := Lib.hid (fun W (b : Below w3.heap.size w3 W) => (HBK.out.below B3).below b)
  rw [HCK.out]
  clear B3 HB3 HBK
  obtain ⟨ok, hok⟩ : ∃ x, okB j = x := ⟨_, rfl⟩
  rw [hok] at HP ⊢
  have HOK := Lib.hid hok
  clear hok
  obtain ⟨g0, g1, g2, g3, g4, g5, g6, o0, o1, o2, o3, o4, o5, o6⟩ := FG.out _ HBW.out
  have k0 := (FK.out _ (Below.refl _ _)).cell 0
  have k2 := (FK.out _ (Below.refl _ _)).cell 2
  have k3 := (FK.out _ (Below.refl _ _)).cell 3
  have k4 := (FK.out _ (Below.refl _ _)).cell 4
  simp only [List.getElem?_toArray, List.getElem?_cons_zero, List.getElem?_cons_succ] at k0 k2 k3 k4
  cases ok
  · go_wp2_with fail
    go_ret
    exact ⟨ret_bool (by rw [HP.out]; rfl), step_below HB0.out HBW.out⟩
  simp only [↓reduceIte]
  cases a
  · go_wp2_with fail
    go_ret
    exact ⟨ret_bool (by rw [HP.out]; rfl), step_below HB0.out HBW.out⟩
  go_wp2_with fail
  refine (within_law _ _ _ _).mono ?_; rintro r w9 ⟨rfl, rfl⟩
  obtain ⟨bt, hbt⟩ : ∃ x, inB t 0 ((j.n : Int) - 1) = x := ⟨_, rfl⟩
  rw [hbt] at HP ⊢
  cases bt
  · clear hbt
    go_wp2_with fail
    go_ret
    exact ⟨ret_bool (by rw [HP.out]; rfl), step_below HB0.out HBW.out⟩
  obtain ⟨tk, rfl, htk⟩ : ∃ tk : Nat, t = (tk : Int) ∧ tk < j.n := by
    unfold inB at hbt
    have := of_decide_eq_true hbt
    exact ⟨t.toNat, by omega, by omega⟩
  obtain ⟨b1, o1', ea, dd⟩ := (FJ.out _ HBW.out).ls.get tk (by rw [HLN.out]; exact htk)
  obtain ⟨x, hx⟩ : ∃ x, j.T.getD tk 0 = x := ⟨_, rfl⟩
  rw [hx] at dd
  rw [Int.toNat_natCast, hx] at HP
  have hxb : 0 ≤ x ∧ x ≤ 2 := by rw [← hx]; exact okB_T HOK.out tk (by rw [HLN.out]; exact htk)
  have hx0 : 0 ≤ x := hxb.1
  have hx2 : x ≤ 2 := hxb.2
  have htki : (tk : Int) < (j.n : Int) := by omega
  have HEA := Lib.hid ea
  have DD := Lib.hid dd
  clear hbt hx hxb ea dd
  cases e
  · go_wp2_with fail
    refine (within_law _ _ _ _).mono ?_; rintro r w9 ⟨rfl, rfl⟩
    simp only [Bool.false_eq_true, if_false, if_true, ↓reduceIte] at HP
    obtain ⟨bi, hbi⟩ : ∃ z, inB i 0 (1 - 1) = z := ⟨_, rfl⟩
    simp only [Int.sub_self] at hbi HP ⊢
    rw [hbi] at HP ⊢
    clear hbi
    cases bi
    · go_wp2_with fail
      go_ret
      exact ⟨ret_bool (by rw [HP.out]; rfl), step_below HB0.out HBW.out⟩
    by_cases hr0 : 0 < rn
    · have hr0i : (0 : Int) < (rn : Int) := by omega
      have hrd : decide (0 < rn) = true := decide_eq_true hr0
      rw [hrd] at HP
      clear hrd
      cases c
      · go_wp2_with fail
        go_ret
        exact ⟨ret_bool (by rw [HP.out]; rfl), step_below HB0.out HBW.out⟩
      · go_wp2_with fail
        refine (mayr_law ra R rn rc (FO.out _ HBW.out).rl hrn _ ((FO.out _ HBW.out).rs.below (Below.refl _ _))).mono ?_; rintro r w5 ⟨rfl, B5⟩
        have HB5 := Lib.hid (step_below HBW.out (step_below (Below.refl _ _) B5))
        have FK5 := (FK.out _ (step_below (Below.refl _ _) B5))
        clear B5 g0 g1 g2 g3 g4 g5 g6 o0 o1 o2 o3 o4 o5 o6 k0 k2 k3 k4
        obtain ⟨g0, g1, g2, g3, g4, g5, g6, o0, o1, o2, o3, o4, o5, o6⟩ := FG.out _ HB5.out
        have k3 := FK5.cell 3
        simp only [List.getElem?_toArray, List.getElem?_cons_zero, List.getElem?_cons_succ] at k3
        clear FK5
        obtain ⟨mr, hmr⟩ : ∃ x, mayR R = x := ⟨_, rfl⟩
        rw [hmr] at HP ⊢
        clear hmr
        cases mr
        · go_wp2_with fail
          go_ret
          exact ⟨ret_bool (by rw [HP.out]; rfl), step_below HB0.out HB5.out⟩
        · cases d
          · simp only [Bool.false_eq_true, if_false, ↓reduceIte] at HP
            obtain ⟨mk, hmk⟩ : ∃ x, mayK kn = x := ⟨_, rfl⟩
            rw [hmk] at HP
            have HMK := Lib.hid hmk
            clear hmk
            go_wp2_with fail
            refine (maykey_law _ _ _ _).mono ?_; rintro r w9 ⟨rfl, rfl⟩
            rw [HMK.out]
            cases mk
            · go_wp2_with fail
              go_ret
              exact ⟨ret_bool (by rw [HP.out]; rfl), step_below HB0.out HB5.out⟩
            by_cases ht0 : tn = 0
            · subst ht0
              go_wp2_with fail
              go_ret
              exact ⟨ret_bool (by rw [HP.out]; simp), step_below HB0.out HB5.out⟩
            · have ht1 : ((tn : Int) == 0) = false := by simpa using ht0
              have ht2 : (tn == 0) = false := by simpa using ht0
              rw [ht2] at HP
              clear ht2
              go_wp2_with fail
              go_ret
              exact ⟨ret_bool (by rw [HP.out]; rfl), step_below HB0.out HB5.out⟩
          · simp only [if_true, ↓reduceIte] at HP
            by_cases hk3 : kn ≤ 32
            · have hk3i : (kn : Int) ≤ 32 := by omega
              have hk3d : decide (kn ≤ 32) = true := decide_eq_true hk3
              rw [hk3d] at HP
              clear hk3d
              by_cases ht3 : tn ≤ 32
              · have ht3i : (tn : Int) ≤ 32 := by omega
                have ht3d : decide (tn ≤ 32) = true := decide_eq_true ht3
                rw [ht3d] at HP
                clear ht3d
                go_wp2_with fail
                refine (within_law _ _ _ _).mono ?_; rintro r w9 ⟨rfl, rfl⟩
                go_wp2_with fail
                go_ret
                exact ⟨ret_bool (by rw [HP.out]; simp), step_below HB0.out HB5.out⟩
              · have ht3i : ¬ (tn : Int) ≤ 32 := by omega
                have ht3d : decide (tn ≤ 32) = false := decide_eq_false ht3
                rw [ht3d] at HP
                clear ht3d
                go_wp2_with fail
                go_ret
                exact ⟨ret_bool (by rw [HP.out]; rfl), step_below HB0.out HB5.out⟩
            · have hk3i : ¬ (kn : Int) ≤ 32 := by omega
              have hk3d : decide (kn ≤ 32) = false := decide_eq_false hk3
              rw [hk3d] at HP
              clear hk3d
              go_wp2_with fail
              go_ret
              exact ⟨ret_bool (by rw [HP.out]; rfl), step_below HB0.out HB5.out⟩
    · have hr0i : ¬ (0 : Int) < (rn : Int) := by omega
      have hrd : decide (0 < rn) = false := decide_eq_false hr0
      rw [hrd] at HP
      clear hrd
      cases c
      · cases d
        · simp only [Bool.false_eq_true, if_false, ↓reduceIte] at HP
          obtain ⟨mk, hmk⟩ : ∃ x, mayK kn = x := ⟨_, rfl⟩
          rw [hmk] at HP
          have HMK := Lib.hid hmk
          clear hmk
          go_wp2_with fail
          refine (maykey_law _ _ _ _).mono ?_; rintro r w9 ⟨rfl, rfl⟩
          rw [HMK.out]
          cases mk
          · go_wp2_with fail
            go_ret
            exact ⟨ret_bool (by rw [HP.out]; rfl), step_below HB0.out HBW.out⟩
          by_cases ht0 : tn = 0
          · subst ht0
            go_wp2_with fail
            go_ret
            exact ⟨ret_bool (by rw [HP.out]; simp), step_below HB0.out HBW.out⟩
          · have ht1 : ((tn : Int) == 0) = false := by simpa using ht0
            have ht2 : (tn == 0) = false := by simpa using ht0
            rw [ht2] at HP
            clear ht2
            go_wp2_with fail
            go_ret
            exact ⟨ret_bool (by rw [HP.out]; rfl), step_below HB0.out HBW.out⟩
        · simp only [if_true, ↓reduceIte] at HP
          by_cases hk3 : kn ≤ 32
          · have hk3i : (kn : Int) ≤ 32 := by omega
            have hk3d : decide (kn ≤ 32) = true := decide_eq_true hk3
            rw [hk3d] at HP
            clear hk3d
            by_cases ht3 : tn ≤ 32
            · have ht3i : (tn : Int) ≤ 32 := by omega
              have ht3d : decide (tn ≤ 32) = true := decide_eq_true ht3
              rw [ht3d] at HP
              clear ht3d
              go_wp2_with fail
              refine (within_law _ _ _ _).mono ?_; rintro r w9 ⟨rfl, rfl⟩
              go_wp2_with fail
              go_ret
              exact ⟨ret_bool (by rw [HP.out]; simp), step_below HB0.out HBW.out⟩
            · have ht3i : ¬ (tn : Int) ≤ 32 := by omega
              have ht3d : decide (tn ≤ 32) = false := decide_eq_false ht3
              rw [ht3d] at HP
              clear ht3d
              go_wp2_with fail
              go_ret
              exact ⟨ret_bool (by rw [HP.out]; rfl), step_below HB0.out HBW.out⟩
          · have hk3i : ¬ (kn : Int) ≤ 32 := by omega
            have hk3d : decide (kn ≤ 32) = false := decide_eq_false hk3
            rw [hk3d] at HP
            clear hk3d
            go_wp2_with fail
            go_ret
            exact ⟨ret_bool (by rw [HP.out]; rfl), step_below HB0.out HBW.out⟩
      · go_wp2_with fail
        go_ret
        exact ⟨ret_bool (by rw [HP.out]; rfl), step_below HB0.out HBW.out⟩

  · rw [HEA.out] at g6
    have dd := DD.out
    go_wp2_with fail
    go_quiet (fail)
    go_wp2_with fail
    refine (within_law _ _ _ _).mono ?_; rintro r w9 ⟨rfl, rfl⟩
    simp only [Bool.false_eq_true, if_false, if_true, ↓reduceIte] at HP
    obtain ⟨bi, hbi⟩ : ∃ z, inB i 0 (x - 1) = z := ⟨_, rfl⟩
    simp only [Int.sub_self] at hbi HP ⊢
    rw [hbi] at HP ⊢
    clear hbi
    cases bi
    · go_wp2_with fail
      go_ret
      exact ⟨ret_bool (by rw [HP.out]; rfl), step_below HB0.out (step_below HBW.out (below_drewN (Below.refl _ _) _))⟩
    by_cases hr0 : 0 < rn
    · have hr0i : (0 : Int) < (rn : Int) := by omega
      have hrd : decide (0 < rn) = true := decide_eq_true hr0
      rw [hrd] at HP
      clear hrd
      cases c
      · go_wp2_with fail
        go_ret
        exact ⟨ret_bool (by rw [HP.out]; rfl), step_below HB0.out (step_below HBW.out (below_drewN (Below.refl _ _) _))⟩
      · go_wp2_with fail
        refine (mayr_law ra R rn rc (FO.out _ HBW.out).rl hrn _ ((FO.out _ HBW.out).rs.below (below_drewN (Below.refl _ _) _))).mono ?_; rintro r w5 ⟨rfl, B5⟩
        have HB5 := Lib.hid (step_below HBW.out (step_below (below_drewN (Below.refl _ _) _) B5))
        have FK5 := (FK.out _ (step_below (below_drewN (Below.refl _ _) _) B5))
        clear B5 g0 g1 g2 g3 g4 g5 g6 o0 o1 o2 o3 o4 o5 o6 k0 k2 k3 k4
        obtain ⟨g0, g1, g2, g3, g4, g5, g6, o0, o1, o2, o3, o4, o5, o6⟩ := FG.out _ HB5.out
        have k3 := FK5.cell 3
        simp only [List.getElem?_toArray, List.getElem?_cons_zero, List.getElem?_cons_succ] at k3
        clear FK5
        obtain ⟨mr, hmr⟩ : ∃ x, mayR R = x := ⟨_, rfl⟩
        rw [hmr] at HP ⊢
        clear hmr
        cases mr
        · go_wp2_with fail
          go_ret
          exact ⟨ret_bool (by rw [HP.out]; rfl), step_below HB0.out HB5.out⟩
        · cases d
          · simp only [Bool.false_eq_true, if_false, ↓reduceIte] at HP
            obtain ⟨mk, hmk⟩ : ∃ x, mayK kn = x := ⟨_, rfl⟩
            rw [hmk] at HP
            have HMK := Lib.hid hmk
            clear hmk
            go_wp2_with fail
            refine (maykey_law _ _ _ _).mono ?_; rintro r w9 ⟨rfl, rfl⟩
            rw [HMK.out]
            cases mk
            · go_wp2_with fail
              go_ret
              exact ⟨ret_bool (by rw [HP.out]; rfl), step_below HB0.out HB5.out⟩
            by_cases ht0 : tn = 0
            · subst ht0
              go_wp2_with fail
              go_ret
              exact ⟨ret_bool (by rw [HP.out]; simp), step_below HB0.out HB5.out⟩
            · have ht1 : ((tn : Int) == 0) = false := by simpa using ht0
              have ht2 : (tn == 0) = false := by simpa using ht0
              rw [ht2] at HP
              clear ht2
              go_wp2_with fail
              go_ret
              exact ⟨ret_bool (by rw [HP.out]; rfl), step_below HB0.out HB5.out⟩
          · simp only [if_true, ↓reduceIte] at HP
            by_cases hk3 : kn ≤ 24
            · have hk3i : (kn : Int) ≤ 24 := by omega
              have hk3d : decide (kn ≤ 24) = true := decide_eq_true hk3
              rw [hk3d] at HP
              clear hk3d
              by_cases ht3 : tn ≤ 24
              · have ht3i : (tn : Int) ≤ 24 := by omega
                have ht3d : decide (tn ≤ 24) = true := decide_eq_true ht3
                rw [ht3d] at HP
                clear ht3d
                go_wp2_with fail
                refine (within_law _ _ _ _).mono ?_; rintro r w9 ⟨rfl, rfl⟩
                go_wp2_with fail
                go_ret
                exact ⟨ret_bool (by rw [HP.out]; simp), step_below HB0.out HB5.out⟩
              · have ht3i : ¬ (tn : Int) ≤ 24 := by omega
                have ht3d : decide (tn ≤ 24) = false := decide_eq_false ht3
                rw [ht3d] at HP
                clear ht3d
                go_wp2_with fail
                go_ret
                exact ⟨ret_bool (by rw [HP.out]; rfl), step_below HB0.out HB5.out⟩
            · have hk3i : ¬ (kn : Int) ≤ 24 := by omega
              have hk3d : decide (kn ≤ 24) = false := decide_eq_false hk3
              rw [hk3d] at HP
              clear hk3d
              go_wp2_with fail
              go_ret
              exact ⟨ret_bool (by rw [HP.out]; rfl), step_below HB0.out HB5.out⟩
    · have hr0i : ¬ (0 : Int) < (rn : Int) := by omega
      have hrd : decide (0 < rn) = false := decide_eq_false hr0
      rw [hrd] at HP
      clear hrd
      cases c
      · cases d
        · simp only [Bool.false_eq_true, if_false, ↓reduceIte] at HP
          obtain ⟨mk, hmk⟩ : ∃ x, mayK kn = x := ⟨_, rfl⟩
          rw [hmk] at HP
          have HMK := Lib.hid hmk
          clear hmk
          go_wp2_with fail
          refine (maykey_law _ _ _ _).mono ?_; rintro r w9 ⟨rfl, rfl⟩
          rw [HMK.out]
          cases mk
          · go_wp2_with fail
            go_ret
            exact ⟨ret_bool (by rw [HP.out]; rfl), step_below HB0.out (step_below HBW.out (below_drewN (Below.refl _ _) _))⟩
          by_cases ht0 : tn = 0
          · subst ht0
            go_wp2_with fail
            go_ret
            exact ⟨ret_bool (by rw [HP.out]; simp), step_below HB0.out (step_below HBW.out (below_drewN (Below.refl _ _) _))⟩
          · have ht1 : ((tn : Int) == 0) = false := by simpa using ht0
            have ht2 : (tn == 0) = false := by simpa using ht0
            rw [ht2] at HP
            clear ht2
            go_wp2_with fail
            go_ret
            exact ⟨ret_bool (by rw [HP.out]; rfl), step_below HB0.out (step_below HBW.out (below_drewN (Below.refl _ _) _))⟩
        · simp only [if_true, ↓reduceIte] at HP
          by_cases hk3 : kn ≤ 24
          · have hk3i : (kn : Int) ≤ 24 := by omega
            have hk3d : decide (kn ≤ 24) = true := decide_eq_true hk3
            rw [hk3d] at HP
            clear hk3d
            by_cases ht3 : tn ≤ 24
            · have ht3i : (tn : Int) ≤ 24 := by omega
              have ht3d : decide (tn ≤ 24) = true := decide_eq_true ht3
              rw [ht3d] at HP
              clear ht3d
              go_wp2_with fail
              refine (within_law _ _ _ _).mono ?_; rintro r w9 ⟨rfl, rfl⟩
              go_wp2_with fail
              go_ret
              exact ⟨ret_bool (by rw [HP.out]; simp), step_below HB0.out (step_below HBW.out (below_drewN (Below.refl _ _) _))⟩
            · have ht3i : ¬ (tn : Int) ≤ 24 := by omega
              have ht3d : decide (tn ≤ 24) = false := decide_eq_false ht3
              rw [ht3d] at HP
              clear ht3d
              go_wp2_with fail
              go_ret
              exact ⟨ret_bool (by rw [HP.out]; rfl), step_below HB0.out (step_below HBW.out (below_drewN (Below.refl _ _) _))⟩
          · have hk3i : ¬ (kn : Int) ≤ 24 := by omega
            have hk3d : decide (kn ≤ 24) = false := decide_eq_false hk3
            rw [hk3d] at HP
            clear hk3d
            go_wp2_with fail
            go_ret
            exact ⟨ret_bool (by rw [HP.out]; rfl), step_below HB0.out (step_below HBW.out (below_drewN (Below.refl _ _) _))⟩
      · go_wp2_with fail
        go_ret
        exact ⟨ret_bool (by rw [HP.out]; rfl), step_below HB0.out (step_below HBW.out (below_drewN (Below.refl _ _) _))⟩

end Go.Proofs.YthmofoldmdafoaaGreat
namespace Go.Proofs.YthmofoldmdafoaaGreat
open Go.ChangeShapes Go.WideShapes Go.ChangeAt Go.RowKit Go.Shelf
set_option linter.unusedVariables false
set_option linter.unusedSimpArgs false

/-- Calls in a row, read. -/
def OpsR (W : World) (a : Option Addr) (L : List CallV) : Prop := ∀ (k : Nat) (o : CallV), L[k]? = some o → ∃ b off, a = some ⟨b, off, none⟩ ∧ (W.cell? ⟨b, off + k * 7, none⟩ = some (.int .i64 o.k) ∧ W.cell? ⟨b, off + k * 7 + 1, none⟩ = some (.int .i64 o.t) ∧ W.cell? ⟨b, off + k * 7 + 2, none⟩ = some (.int .i64 o.i) ∧ W.cell? ⟨b, off + k * 7 + 3, none⟩ = some (.slice o.ka o.kn o.kc) ∧ W.cell? ⟨b, off + k * 7 + 4, none⟩ = some (.slice o.ta o.tn o.tc) ∧ W.cell? ⟨b, off + k * 7 + 5, none⟩ = some (.int .i64 o.m) ∧ W.cell? ⟨b, off + k * 7 + 6, none⟩ = some (.slice o.ra o.rn o.rc)) ∧ CallAt W o
theorem OpsR.below {W W' : World} {a : Option Addr} {L : List CallV} (h : OpsR W a L) (b : Below W.heap.size W W') : OpsR W' a L := fun k o ho => by
  obtain ⟨g, off, e, ⟨h0, h1, h2, h3, h4, h5, h6⟩, hc⟩ := h k o ho
  have f : ∀ {p v}, W.cell? p = some v → W'.cell? p = some v := fun h => (b.cell (World.block_lt_of_cell? W _ h)).trans h
  exact ⟨g, off, e, ⟨f h0, f h1, f h2, f h3, f h4, f h5, f h6⟩, hc.below b⟩
/-- A transaction. -/
structure TxnV where
  oa : Option Addr
  on : Nat
  oc : Nat
  ops : List CallV
  sn : Bool
  ab : Bool
structure TxnAt (W : World) (x : TxnV) : Prop where
  os : OpsR W x.oa x.ops
  ol : x.ops.length = x.on
theorem TxnAt.below {W W' : World} {x : TxnV} (h : TxnAt W x) (b : Below W.heap.size W W') : TxnAt W' x := ⟨h.os.below b, h.ol⟩
def opB (j : Job) (sn : Bool) (o : CallV) : Bool := pO j o && !(sn && kf o.k 5)
/-- May it be a transaction? -/
def mayT (j : Job) (x : TxnV) : Bool := okB j && decide (x.on ≤ 16) && !(x.sn && x.ab) && x.ops.all (opB j x.sn)
theorem put_eq {K : Act → World → Prop} {a : Act} {d : Option Tmp} {u v : Value} {w : World} (e : u = v) (h : K (a.put d v) w) : K (a.put d u) w := e ▸ h
theorem all_take {α : Type} (L : List α) (f : α → Bool) {k : Nat} {o : α} (h : L[k]? = some o) : (L.take (k + 1)).all f = ((L.take k).all f && f o) := by
  rw [List.take_add_one, h]; simp
set_option maxRecDepth 100000 in
set_option maxHeartbeats 4000000 in
theorem maytxn_law (j : Job) (x : TxnV) (hon : x.on ≤ 1000000) (hrn : ∀ o ∈ x.ops, o.rn ≤ 1000000) (w : World) (hj : JobAt w j) (hx : TxnAt w x) :
    Calls Tryz.prog 95 #[.agg #[.int .i64 j.w, .int .i64 j.l, .int .i64 j.d, .int .i64 j.c, .int .i64 j.k, .int .i64 j.e, .slice j.a j.n j.cap], .agg #[.slice x.oa x.on x.oc, .bool x.sn, .bool x.ab]] w fun r w' => r = .returned (.bool (mayT j x)) ∧ Below w.heap.size w w' := by
  obtain ⟨hb0, hbx⟩ := boxes2 w #[.int .i64 j.w, .int .i64 j.l, .int .i64 j.d, .int .i64 j.c, .int .i64 j.k, .int .i64 j.e, .slice j.a j.n j.cap] #[.slice x.oa x.on x.oc, .bool x.sn, .bool x.ab] 24 38
  have HCK := Lib.hid (show chkV j = if okB j then 0 else 2 from rfl)
  have hlei : (j.n : Int) ≤ 1000000 := by have := hj.le; omega
  have hoi : (x.on : Int) ≤ 1000000 := by omega
  have HRN := Lib.hid hrn
  obtain ⟨ans, hans⟩ : ∃ a, mayT j x = a := ⟨_, rfl⟩
  obtain ⟨bs, hbs⟩ : ∃ b, (okB j && decide (x.on ≤ 16) && !(x.sn && x.ab)) = b := ⟨_, rfl⟩
  have HP := Lib.hid (show ans = (bs && x.ops.all (opB j x.sn)) by rw [← hans, ← hbs]; rfl)
  rw [hans]
  have HBS := Lib.hid hbs
  obtain ⟨sn, hsn⟩ : ∃ s, x.sn = s := ⟨_, rfl⟩
  obtain ⟨ab, hab⟩ : ∃ s, x.ab = s := ⟨_, rfl⟩
  rw [hsn] at HP HBS
  rw [hab] at HBS
  rw [hsn, hab] at hb0 hbx ⊢
  clear hans hbs hrn hsn hab
  go_enter Tryz.func95, Tryz.ntmps95
  go_upto_region 1 with (fail)
  generalize ((w.alloc (.cells #[.int .i64 j.w, .int .i64 j.l, .int .i64 j.d, .int .i64 j.c, .int .i64 j.k, .int .i64 j.e, .slice j.a j.n j.cap] 24)).alloc (.cells #[.slice x.oa x.on x.oc, .bool sn, .bool ab] 38)) = W0 at *
  have FG := Lib.hid (fun W (b : Below W0.heap.size W0 W) => (by
    obtain ⟨x, y⟩ := hbx W b
    exact ⟨x.cell 0, x.cell 1, x.cell 2, x.cell 3, x.cell 4, x.cell 5, x.cell 6⟩ : W.cell? ⟨w.heap.size, 0, none⟩ = some (.int .i64 j.w) ∧ W.cell? ⟨w.heap.size, 1, none⟩ = some (.int .i64 j.l) ∧ W.cell? ⟨w.heap.size, 2, none⟩ = some (.int .i64 j.d) ∧ W.cell? ⟨w.heap.size, 3, none⟩ = some (.int .i64 j.c) ∧ W.cell? ⟨w.heap.size, 4, none⟩ = some (.int .i64 j.k) ∧ W.cell? ⟨w.heap.size, 5, none⟩ = some (.int .i64 j.e) ∧ W.cell? ⟨w.heap.size, 6, none⟩ = some (.slice j.a j.n j.cap)))
  have FX := Lib.hid (fun W (b : Below W0.heap.size W0 W) => (by
    obtain ⟨y, z⟩ := hbx W b
    exact ⟨z.cell 0, z.cell 1, z.cell 2⟩ : W.cell? ⟨w.heap.size + 1, 0, none⟩ = some (.slice x.oa x.on x.oc) ∧ W.cell? ⟨w.heap.size + 1, 1, none⟩ = some (.bool sn) ∧ W.cell? ⟨w.heap.size + 1, 2, none⟩ = some (.bool ab)))
  have FJ := Lib.hid (fun W (b : Below W0.heap.size W0 W) => (hj.below hb0).below b)
  have FO := Lib.hid (fun W (b : Below W0.heap.size W0 W) => (hx.below hb0).below b)
  have HB0 := Lib.hid hb0
  have HOL := Lib.hid hx.ol
  clear hb0 hbx hj hx
  go_cut [5] (fun v wx => v = .bool bs ∧ Hid (Below W0.heap.size W0 wx))
  case first =>
    obtain ⟨g0, g1, g2, g3, g4, g5, g6⟩ := FG.out _ (Below.refl _ _)
    go_wp2_with fail
    refine (check_law j W0 (FJ.out _ (Below.refl _ _))).mono ?_; rintro r w3 ⟨rfl, B3⟩
    have HBW := Lib.hid B3
    rw [HCK.out]
    clear B3
    obtain ⟨x0, x1, x2⟩ := FX.out _ HBW.out
    obtain ⟨ok, hok⟩ : ∃ x, okB j = x := ⟨_, rfl⟩
    rw [hok] at HBS ⊢
    clear hok
    by_cases h16 : x.on ≤ 16
    · have h16i : (x.on : Int) ≤ 16 := by omega
      have hd : decide (x.on ≤ 16) = true := decide_eq_true h16
      rw [hd] at HBS
      clear hd
      cases ok
      all_goals cases sn
      all_goals cases ab
      all_goals
        simp only [Bool.false_eq_true, ↓reduceIte]
        go_wp2_with fail
        go_meet
        exact ⟨by rw [← HBS.out]; rfl, HBW⟩
    · have h16i : ¬ (x.on : Int) ≤ 16 := by omega
      have hd : decide (x.on ≤ 16) = false := decide_eq_false h16
      rw [hd] at HBS
      clear hd
      cases ok
      all_goals
        simp only [Bool.false_eq_true, ↓reduceIte]
        go_wp2_with fail
        go_meet
        exact ⟨by rw [← HBS.out]; rfl, HBW⟩
  case rest =>
    obtain ⟨rfl, HBW⟩ := hcut
    clear HBS
    obtain ⟨w3, hw3⟩ : ∃ W, W = wc := ⟨_, rfl⟩
    rw [← hw3] at HBW ⊢
    clear hw3
    obtain ⟨x0, x1, x2⟩ := FX.out _ HBW.out
    go_wp2_with fail
    go_loopw [5, 29] (fun v i wr => ∃ k : Nat, k ≤ x.on ∧ i = .int .i64 (k : Int) ∧ v = .bool (bs && (x.ops.take k).all (opB j sn)) ∧ Hid (Below w3.heap.size w3 wr)) (fun _ i _ => x.on - (intOf i).toNat)
    case atStart => exact ⟨0, by omega, rfl, by simp, Lib.hid (Below.refl _ _)⟩
    case round =>
      obtain ⟨k, hk, rfl, rfl, BR⟩ := hrel
      clear x0 x1 x2
      obtain ⟨bk, hbk⟩ : ∃ b, (bs && (x.ops.take k).all (opB j sn)) = b := ⟨_, rfl⟩
      rw [hbk]
      by_cases hlt : k < x.on
      · have hkl : (k : Int) < (x.on : Int) := by omega
        obtain ⟨o, ho⟩ : ∃ o, x.ops[k]? = some o := ⟨_, List.getElem?_eq_getElem (by rw [HOL.out]; exact hlt)⟩
        have HN := Lib.hid (show (bs && (x.ops.take (k + 1)).all (opB j sn)) = (bk && opB j sn o) by rw [all_take _ _ ho, ← Bool.and_assoc, hbk])
        have hor := HRN.out o (List.mem_of_getElem? ho)
        obtain ⟨b1, o1, ea, ⟨d0, d1, d2, d3, d4, d5, d6⟩, hc⟩ := (FO.out _ (step_below HBW.out BR.out)).os k o ho
        have HOB := Lib.hid (show opB j sn o = (pO j o && !(sn && kf o.k 5)) from rfl)
        have HEA := Lib.hid ea
        have HC := Lib.hid hc
        have HLT := Lib.hid hlt
        have HBX := BoxC.new wr #[.int .i64 o.k, .int .i64 o.t, .int .i64 o.i, .slice o.ka o.kn o.kc, .slice o.ta o.tn o.tc, .int .i64 o.m, .slice o.ra o.rn o.rc] 74
        have HB98 : Below wr.heap.size wr (wr.alloc (.cells #[.int .i64 o.k, .int .i64 o.t, .int .i64 o.i, .slice o.ka o.kn o.kc, .slice o.ta o.tn o.tc, .int .i64 o.m, .slice o.ra o.rn o.rc] 74)) := (Below.refl _ _).alloc (Nat.le_refl _) _
        have H98 := Lib.hid HB98
        have H99 := Lib.hid (step_below BR.out HB98)
        have HCB := Lib.hid HBX
        clear hbk ho hc hlt HBX HB98
        rw [ea]
        obtain ⟨pb, hpb⟩ : ∃ b, pO j o = b := ⟨_, rfl⟩
        obtain ⟨f5, hf5⟩ : ∃ b, kf o.k 5 = b := ⟨_, rfl⟩
        have HM := Lib.hid (fun W (b : Below wr.heap.size wr W) => (by have h := mayop_law j o hor W (FJ.out _ (step_below (step_below HBW.out BR.out) b)) (HC.out.below b); rwa [hpb] at h : Calls Tryz.prog 121 #[.agg #[.int .i64 j.w, .int .i64 j.l, .int .i64 j.d, .int .i64 j.c, .int .i64 j.k, .int .i64 j.e, .slice j.a j.n j.cap], .agg #[.int .i64 o.k, .int .i64 o.t, .int .i64 o.i, .slice o.ka o.kn o.kc, .slice o.ta o.tn o.tc, .int .i64 o.m, .slice o.ra o.rn o.rc]] W fun r w' => r = .returned (.bool pb) ∧ Below W.heap.size W w'))
        have HKD := Lib.hid (fun W => (by have h := kind_law o.k o.t o.i o.m o.ka o.ta o.ra o.kn o.kc o.tn o.tc o.rn o.rc W; rwa [hf5] at h : Calls Tryz.prog 122 #[.agg #[.int .i64 o.k, .int .i64 o.t, .int .i64 o.i, .slice o.ka o.kn o.kc, .slice o.ta o.tn o.tc, .int .i64 o.m, .slice o.ra o.rn o.rc]] W fun r w' => r = .returned (kN (kf o.k 0) (kf o.k 1) (kf o.k 2) (kf o.k 3) (kf o.k 4) f5) ∧ Below W.heap.size W w'))
        rw [hpb, hf5] at HOB
        clear hpb hf5 ea
        cases bk
        · go_wp2_with fail
          go_roundw
          case rel => exact ⟨k + 1, by have := HLT.out; omega, by go_num, by rw [HN.out]; rfl, H99⟩
          case measure => simp [intOf]; have := HLT.out; omega
        · obtain ⟨g0, g1, g2, g3, g4, g5, g6⟩ := FG.out _ (step_below HBW.out H99.out)
          go_wp2_with fail
          generalize wr.alloc (.cells #[.int .i64 o.k, .int .i64 o.t, .int .i64 o.i, .slice o.ka o.kn o.kc, .slice o.ta o.tn o.tc, .int .i64 o.m, .slice o.ra o.rn o.rc] 74) = W9 at *
          refine (HM.out _ H98.out).mono ?_; rintro r w5 ⟨rfl, B5⟩
          have H5 := Lib.hid (step_below H99.out B5)
          have hcb := HCB.out.below B5
          obtain ⟨x0, x1, x2⟩ := FX.out _ (step_below HBW.out H5.out)
          have c0 := hcb.cell 0
          have c1 := hcb.cell 1
          have c2 := hcb.cell 2
          have c3 := hcb.cell 3
          have c4 := hcb.cell 4
          have c5 := hcb.cell 5
          have c6 := hcb.cell 6
          simp only [List.getElem?_toArray, List.getElem?_cons_zero, List.getElem?_cons_succ] at c0 c1 c2 c3 c4 c5 c6
          clear B5 hcb g0 g1 g2 g3 g4 g5 g6
          cases pb
          · go_wp2_with fail
            go_roundw
            case rel => exact ⟨k + 1, by have := HLT.out; omega, by go_num, by rw [HN.out, HOB.out]; rfl, H5⟩
            case measure => simp [intOf]; have := HLT.out; omega
          · cases sn
            · go_wp2_with fail
              go_roundw
              case rel => exact ⟨k + 1, by have := HLT.out; omega, by go_num, by rw [HN.out, HOB.out]; rfl, H5⟩
              case measure => simp [intOf]; have := HLT.out; omega
            · go_wp2_with fail
              refine (HKD.out _).mono ?_; rintro r w6 ⟨rfl, B6⟩
              unfold kN
              have H6 := Lib.hid (step_below H5.out B6)
              clear B6 x0 x1 x2 c0 c1 c2 c3 c4 c5 c6
              go_wp2_with fail
              refine put_eq (v := .bool f5) rfl ?_
              go_wp2_with fail
              go_roundw
              case rel => exact ⟨k + 1, by have := HLT.out; omega, by go_num, by rw [HN.out, HOB.out]; simp, H6⟩
              case measure => simp [intOf]; have := HLT.out; omega
      · have hkl : ¬ (k : Int) < (x.on : Int) := by omega
        have HE := Lib.hid (show ans = bk by rw [HP.out, ← hbk, List.take_of_length_le (by rw [HOL.out]; omega)])
        clear hbk
        go_wp2_with fail
        go_ret
        exact ⟨ret_bool HE.out.symm, step_below HB0.out (step_below HBW.out BR.out)⟩
end Go.Proofs.YthmofoldmdafoaaGreat
namespace Go.Proofs.YthmofoldmdafoaaGreat
open Go.ChangeShapes Go.WideShapes Go.ChangeAt Go.RowKit Go.Shelf
set_option linter.unusedVariables false
set_option linter.unusedSimpArgs false

/-- Three boxes, one behind the other. -/
theorem boxes3' (w : World) (A B C : Array Value) (a b c : TypeId) : Below w.heap.size w (((w.alloc (.cells A a)).alloc (.cells B b)).alloc (.cells C c)) ∧ ∀ W, Below (((w.alloc (.cells A a)).alloc (.cells B b)).alloc (.cells C c)).heap.size (((w.alloc (.cells A a)).alloc (.cells B b)).alloc (.cells C c)) W → BoxC W w.heap.size A a ∧ BoxC W (w.heap.size + 1) B b ∧ BoxC W (w.heap.size + 1 + 1) C c := by
  refine ⟨(((Below.refl _ _).alloc (Nat.le_refl _) _).alloc (by simp) _).alloc (by simp; omega) _, fun W h => ?_⟩
  have e1 := BoxC.new w A a
  have e2 := BoxC.new (w.alloc (.cells A a)) B b
  have e3 := BoxC.new ((w.alloc (.cells A a)).alloc (.cells B b)) C c
  have b2 : Below (w.alloc (.cells A a)).heap.size (w.alloc (.cells A a)) ((w.alloc (.cells A a)).alloc (.cells B b)) := (Below.refl _ _).alloc (Nat.le_refl _) _
  have b3 : Below ((w.alloc (.cells A a)).alloc (.cells B b)).heap.size ((w.alloc (.cells A a)).alloc (.cells B b)) (((w.alloc (.cells A a)).alloc (.cells B b)).alloc (.cells C c)) := (Below.refl _ _).alloc (Nat.le_refl _) _
  refine ⟨((e1.below b2).below b3).below h, ?_, ?_⟩
  · have := (e2.below b3).below h
    simpa using this
  · have := e3.below h
    simpa using this
abbrev RgT := Int × List Int × List Int × Bool × Int
def rngV (j : Job) (o : CallV) : RgT := if pO j o && kf o.k 3 then (if kf o.k 4 then ((trV j o.t o.i).1, frontL o.K, frontL o.T, decide (0 < o.tn), 0) else ((trV j o.t (-1)).1, o.K, o.T, decide (0 < o.tn), 0)) else (0, [], [], false, 2)
def RgP (V : RgT) (r : Ending) (w' : World) : Prop := ∃ (fa : Option Addr) (fc : Nat) (ta : Option Addr) (tc : Nat), r = .returned (.tuple #[.agg #[.int .i64 V.1, .slice fa V.2.1.length fc, .slice ta V.2.2.1.length tc, .bool V.2.2.2.1], .int .i64 V.2.2.2.2]) ∧ Ls .u8 w' fa fc V.2.1 ∧ Ls .u8 w' ta tc V.2.2.1
/-- A list of bytes stays where a cell of another kind is written. -/
theorem ls_set {W : World} {a : Option Addr} {cap : Nat} {L : List Int} (h : Ls .u8 W a cap L) {p : Addr} {v : Value} (hp : W.cell? p = some v) (hv : ∀ x, v ≠ .int .u8 x) (u : Value) : Ls .u8 (W.setCell p u) a cap L := ⟨fun k hk => by
  obtain ⟨b, off, e, c⟩ := h.rd k hk
  refine ⟨b, off, e, ?_⟩
  rw [World.cell?_setCell_other W p ⟨b, off + k, none⟩ _ (by rintro rfl; rw [c] at hp; cases hp; exact hv _ rfl)]
  exact c, h.nl, h.le⟩
/-- Four cells are written: what becomes of the world. -/
structure Set4 (b0 : Nat) (w W : World) (B : Nat) (c0 c1 c2 c3 v0 v1 v2 v3 : Value) : Prop where
  box : BoxC ((((W.setCell ⟨B, 0, none⟩ v0).setCell ⟨B, 1, none⟩ v1).setCell ⟨B, 2, none⟩ v2).setCell ⟨B, 3, none⟩ v3) B #[v0, v1, v2, v3] 169
  bel : Below b0 w ((((W.setCell ⟨B, 0, none⟩ v0).setCell ⟨B, 1, none⟩ v1).setCell ⟨B, 2, none⟩ v2).setCell ⟨B, 3, none⟩ v3)
  ls : ∀ {a cap L}, Ls .u8 W a cap L → Ls .u8 ((((W.setCell ⟨B, 0, none⟩ v0).setCell ⟨B, 1, none⟩ v1).setCell ⟨B, 2, none⟩ v2).setCell ⟨B, 3, none⟩ v3) a cap L
theorem set4 {b0 : Nat} {w W : World} {B : Nat} {c0 c1 c2 c3 : Value} (hb : BoxC W B #[c0, c1, c2, c3] 169) (h : Below b0 w W) (hB : b0 ≤ B) (n0 : ∀ x, c0 ≠ .int .u8 x) (n1 : ∀ x, c1 ≠ .int .u8 x) (n2 : ∀ x, c2 ≠ .int .u8 x) (n3 : ∀ x, c3 ≠ .int .u8 x) (v0 v1 v2 v3 : Value) : Set4 b0 w W B c0 c1 c2 c3 v0 v1 v2 v3 := by
  have h1 := hb.setC 0 v0
  have h2 := h1.setC 1 v1
  have h3 := h2.setC 2 v2
  have h4 := h3.setC 3 v3
  simp only [List.setIfInBounds_toArray, List.set_cons_zero, List.set_cons_succ] at h1 h2 h3 h4
  refine ⟨h4, (((h.setCell hB _).setCell hB _).setCell hB _).setCell hB _, fun hl => ?_⟩
  have k1 := ls_set hl (p := ⟨B, 0, none⟩) (v := c0) (hb.cell 0) n0 v0
  have k2 := ls_set k1 (p := ⟨B, 1, none⟩) (v := c1) (h1.cell 1) n1 v1
  have k3 := ls_set k2 (p := ⟨B, 2, none⟩) (v := c2) (h2.cell 2) n2 v2
  exact ls_set k3 (p := ⟨B, 3, none⟩) (v := c3) (h3.cell 3) n3 v3
/-- Key and end, cloned. -/
def Cl2 (o : CallV) (w4 : World) (x y : Value) (wx : World) : Prop := ∃ (fa : Option Addr) (fc : Nat) (ta : Option Addr) (tc : Nat), x = .slice fa o.kn fc ∧ y = .slice ta o.tn tc ∧ Ls .u8 wx fa fc o.K ∧ Ls .u8 wx ta tc o.T ∧ Below w4.heap.size w4 wx
theorem pO_len {j : Job} {o : CallV} (h : pO j o = true) (h3 : kf o.k 3 = true) : (o.kn ≤ 32 ∧ o.tn ≤ 32) ∧ (kf o.k 4 = true → o.kn ≤ 24 ∧ o.tn ≤ 24) := by
  have he : endB o = true := by
    unfold pO at h
    simp only [Bool.and_eq_true] at h
    exact h.2
  unfold endB mostV at he
  rw [if_pos h3] at he
  cases h4 : kf o.k 4
  · rw [h4] at he
    simp at he
    exact ⟨by omega, fun h => by cases h⟩
  · rw [h4] at he
    simp at he
    exact ⟨by omega, fun _ => by omega⟩
set_option maxRecDepth 100000 in
set_option maxHeartbeats 4000000 in
theorem range_law (j : Job) (o : CallV) (hrn : o.rn ≤ 1000000) (w : World) (hj : JobAt w j) (ho : CallAt w o) :
    Calls Tryz.prog 141 #[.agg #[.int .i64 j.w, .int .i64 j.l, .int .i64 j.d, .int .i64 j.c, .int .i64 j.k, .int .i64 j.e, .slice j.a j.n j.cap], .agg #[.int .i64 o.k, .int .i64 o.t, .int .i64 o.i, .slice o.ka o.kn o.kc, .slice o.ta o.tn o.tc, .int .i64 o.m, .slice o.ra o.rn o.rc]] w fun r w' => RgP (rngV j o) r w' ∧ Below w.heap.size w w' := by
  obtain ⟨hb0, hbx⟩ := boxes3' w #[.int .i64 j.w, .int .i64 j.l, .int .i64 j.d, .int .i64 j.c, .int .i64 j.k, .int .i64 j.e, .slice j.a j.n j.cap] #[.int .i64 o.k, .int .i64 o.t, .int .i64 o.i, .slice o.ka o.kn o.kc, .slice o.ta o.tn o.tc, .int .i64 o.m, .slice o.ra o.rn o.rc] #[.int .i64 0, .slice none 0 0, .slice none 0 0, .bool false] 24 74 169
  have hlei : (j.n : Int) ≤ 1000000 := by have := hj.le; omega
  have HV := Lib.hid (show rngV j o = if pO j o && kf o.k 3 then (if kf o.k 4 then ((trV j o.t o.i).1, frontL o.K, frontL o.T, decide (0 < o.tn), 0) else ((trV j o.t (-1)).1, o.K, o.T, decide (0 < o.tn), 0)) else (0, [], [], false, 2) from rfl)
  obtain ⟨V, hV⟩ : ∃ V, rngV j o = V := ⟨_, rfl⟩
  rw [hV] at HV ⊢
  clear hV
  go_enter Tryz.func141, Tryz.ntmps141
  go_upto_region 1 with (fail)
  generalize (((w.alloc (.cells #[.int .i64 j.w, .int .i64 j.l, .int .i64 j.d, .int .i64 j.c, .int .i64 j.k, .int .i64 j.e, .slice j.a j.n j.cap] 24)).alloc (.cells #[.int .i64 o.k, .int .i64 o.t, .int .i64 o.i, .slice o.ka o.kn o.kc, .slice o.ta o.tn o.tc, .int .i64 o.m, .slice o.ra o.rn o.rc] 74)).alloc (.cells #[.int .i64 0, .slice none 0 0, .slice none 0 0, .bool false] 169)) = W0 at *
  have FG := Lib.hid (fun W (b : Below W0.heap.size W0 W) => (by
    obtain ⟨x, y, z⟩ := hbx W b
    exact ⟨x.cell 0, x.cell 1, x.cell 2, x.cell 3, x.cell 4, x.cell 5, x.cell 6, y.cell 0, y.cell 1, y.cell 2, y.cell 3, y.cell 4, y.cell 5, y.cell 6⟩ : W.cell? ⟨w.heap.size, 0, none⟩ = some (.int .i64 j.w) ∧ W.cell? ⟨w.heap.size, 1, none⟩ = some (.int .i64 j.l) ∧ W.cell? ⟨w.heap.size, 2, none⟩ = some (.int .i64 j.d) ∧ W.cell? ⟨w.heap.size, 3, none⟩ = some (.int .i64 j.c) ∧ W.cell? ⟨w.heap.size, 4, none⟩ = some (.int .i64 j.k) ∧ W.cell? ⟨w.heap.size, 5, none⟩ = some (.int .i64 j.e) ∧ W.cell? ⟨w.heap.size, 6, none⟩ = some (.slice j.a j.n j.cap) ∧ W.cell? ⟨w.heap.size + 1, 0, none⟩ = some (.int .i64 o.k) ∧ W.cell? ⟨w.heap.size + 1, 1, none⟩ = some (.int .i64 o.t) ∧ W.cell? ⟨w.heap.size + 1, 2, none⟩ = some (.int .i64 o.i) ∧ W.cell? ⟨w.heap.size + 1, 3, none⟩ = some (.slice o.ka o.kn o.kc) ∧ W.cell? ⟨w.heap.size + 1, 4, none⟩ = some (.slice o.ta o.tn o.tc) ∧ W.cell? ⟨w.heap.size + 1, 5, none⟩ = some (.int .i64 o.m) ∧ W.cell? ⟨w.heap.size + 1, 6, none⟩ = some (.slice o.ra o.rn o.rc)))
  have FB := Lib.hid (fun W (b : Below W0.heap.size W0 W) => (hbx W b).2.2)
  have FJ := Lib.hid (fun W (b : Below W0.heap.size W0 W) => (hj.below hb0).below b)
  have FO := Lib.hid (fun W (b : Below W0.heap.size W0 W) => (ho.below hb0).below b)
  have HB0 := Lib.hid hb0
  clear hb0 hbx hj ho
  obtain ⟨pb, hpb⟩ : ∃ b, pO j o = b := ⟨_, rfl⟩
  obtain ⟨f3, hf3⟩ : ∃ b, kf o.k 3 = b := ⟨_, rfl⟩
  obtain ⟨f4, hf4⟩ : ∃ b, kf o.k 4 = b := ⟨_, rfl⟩
  have HPB := Lib.hid hpb
  have HMO := Lib.hid (by have h := mayop_law j o hrn W0 (FJ.out _ (Below.refl _ _)) (FO.out _ (Below.refl _ _)); rwa [hpb] at h : Calls Tryz.prog 121 #[.agg #[.int .i64 j.w, .int .i64 j.l, .int .i64 j.d, .int .i64 j.c, .int .i64 j.k, .int .i64 j.e, .slice j.a j.n j.cap], .agg #[.int .i64 o.k, .int .i64 o.t, .int .i64 o.i, .slice o.ka o.kn o.kc, .slice o.ta o.tn o.tc, .int .i64 o.m, .slice o.ra o.rn o.rc]] W0 fun r w' => r = .returned (.bool pb) ∧ Below W0.heap.size W0 w')
  have HKD := Lib.hid (fun W => (by have h := kind_law o.k o.t o.i o.m o.ka o.ta o.ra o.kn o.kc o.tn o.tc o.rn o.rc W; rwa [hf3, hf4] at h : Calls Tryz.prog 122 #[.agg #[.int .i64 o.k, .int .i64 o.t, .int .i64 o.i, .slice o.ka o.kn o.kc, .slice o.ta o.tn o.tc, .int .i64 o.m, .slice o.ra o.rn o.rc]] W fun r w' => r = .returned (kN (kf o.k 0) (kf o.k 1) (kf o.k 2) f3 f4 (kf o.k 5)) ∧ Below W.heap.size W w'))
  have HLEN := Lib.hid (fun (h : pO j o = true) (h3 : kf o.k 3 = true) => (pO_len h h3 : (o.kn ≤ 32 ∧ o.tn ≤ 32) ∧ (kf o.k 4 = true → o.kn ≤ 24 ∧ o.tn ≤ 24)))
  rw [hpb, hf3, hf4] at HLEN
  rw [hpb, hf3, hf4] at HV
  clear hpb hf3 hf4
  obtain ⟨g0, g1, g2, g3, g4, g5, g6, o0, o1, o2, o3, o4, o5, o6⟩ := FG.out _ (Below.refl _ _)
  go_wp2_with fail
  refine HMO.out.mono ?_; rintro r w3 ⟨rfl, B3⟩
  have HB3 := Lib.hid B3
  clear B3 g0 g1 g2 g3 g4 g5 g6 o0 o1 o2 o3 o4 o5 o6
  obtain ⟨g0, g1, g2, g3, g4, g5, g6, o0, o1, o2, o3, o4, o5, o6⟩ := FG.out _ HB3.out
  cases pb
  · simp only [Bool.false_and, Bool.false_eq_true, if_false, ↓reduceIte] at HV
    have hB := FB.out _ HB3.out
    have q0 := hB.cell 0
    have q1 := hB.cell 1
    have q2 := hB.cell 2
    have q3 := hB.cell 3
    simp only [List.getElem?_toArray, List.getElem?_cons_zero, List.getElem?_cons_succ] at q0 q1 q2 q3
    have z0 : w3.frozen? ⟨w.heap.size + 1 + 1, 0, none⟩ = false := frozen_of_row w3 _ 0 _ 169 hB
    have z1 : w3.frozen? ⟨w.heap.size + 1 + 1, 1, none⟩ = false := frozen_of_row w3 _ 1 _ 169 hB
    have z2 : w3.frozen? ⟨w.heap.size + 1 + 1, 2, none⟩ = false := frozen_of_row w3 _ 2 _ 169 hB
    have z3 : w3.frozen? ⟨w.heap.size + 1 + 1, 3, none⟩ = false := frozen_of_row w3 _ 3 _ 169 hB
    have HS4 := Lib.hid (set4 hB (step_below HB0.out HB3.out) (by omega) (by simp) (by simp) (by simp) (by simp) (.int .i64 0) (.slice none 0 0) (.slice none 0 0) (.bool false))
    clear hB
    go_wp2_with fail
    refine bodyPost_ret (v := .tuple #[.agg #[.int .i64 0, .slice none 0 0, .slice none 0 0, .bool false], .int .i64 2]) ?_ rfl ⟨⟨none, 0, none, 0, by rw [HV.out]; rfl, by rw [HV.out]; exact Ls.nul _ _, by rw [HV.out]; exact Ls.nul _ _⟩, HS4.out.bel⟩
    have x0 := HS4.out.box.cell 0
    have x1 := HS4.out.box.cell 1
    have x2 := HS4.out.box.cell 2
    have x3 := HS4.out.box.cell 3
    simp only [List.getElem?_toArray, List.getElem?_cons_zero, List.getElem?_cons_succ] at x0 x1 x2 x3
    simp [results, Tryz.results141, go_sem, x0, x1, x2, x3]
  go_wp2_with fail
  refine (HKD.out _).mono ?_; rintro r w4 ⟨rfl, B4⟩
  unfold kN
  have HB4 := Lib.hid (step_below HB3.out B4)
  clear B4 g0 g1 g2 g3 g4 g5 g6 o0 o1 o2 o3 o4 o5 o6
  go_wp2_with fail
  refine put_eq (v := .bool f3) rfl ?_
  cases f3
  · simp only [Bool.true_and, Bool.false_eq_true, if_false, ↓reduceIte] at HV
    have hB := FB.out _ HB4.out
    have q0 := hB.cell 0
    have q1 := hB.cell 1
    have q2 := hB.cell 2
    have q3 := hB.cell 3
    simp only [List.getElem?_toArray, List.getElem?_cons_zero, List.getElem?_cons_succ] at q0 q1 q2 q3
    have z0 : w4.frozen? ⟨w.heap.size + 1 + 1, 0, none⟩ = false := frozen_of_row w4 _ 0 _ 169 hB
    have z1 : w4.frozen? ⟨w.heap.size + 1 + 1, 1, none⟩ = false := frozen_of_row w4 _ 1 _ 169 hB
    have z2 : w4.frozen? ⟨w.heap.size + 1 + 1, 2, none⟩ = false := frozen_of_row w4 _ 2 _ 169 hB
    have z3 : w4.frozen? ⟨w.heap.size + 1 + 1, 3, none⟩ = false := frozen_of_row w4 _ 3 _ 169 hB
    have HS4 := Lib.hid (set4 hB (step_below HB0.out HB4.out) (by omega) (by simp) (by simp) (by simp) (by simp) (.int .i64 0) (.slice none 0 0) (.slice none 0 0) (.bool false))
    clear hB
    go_wp2_with fail
    refine bodyPost_ret (v := .tuple #[.agg #[.int .i64 0, .slice none 0 0, .slice none 0 0, .bool false], .int .i64 2]) ?_ rfl ⟨⟨none, 0, none, 0, by rw [HV.out]; rfl, by rw [HV.out]; exact Ls.nul _ _, by rw [HV.out]; exact Ls.nul _ _⟩, HS4.out.bel⟩
    have x0 := HS4.out.box.cell 0
    have x1 := HS4.out.box.cell 1
    have x2 := HS4.out.box.cell 2
    have x3 := HS4.out.box.cell 3
    simp only [List.getElem?_toArray, List.getElem?_cons_zero, List.getElem?_cons_succ] at x0 x1 x2 x3
    simp [results, Tryz.results141, go_sem, x0, x1, x2, x3]
  simp only [Bool.true_and, if_true, ↓reduceIte] at HV
  obtain ⟨⟨hk32, ht32⟩, h24⟩ := HLEN.out (by first | exact rfl | trivial) (by first | exact rfl | trivial)
  have H24 := Lib.hid h24
  have HK32 := Lib.hid hk32
  have HT32 := Lib.hid ht32
  clear h24 hk32 ht32
  go_wp2_with fail
  go_cut [7, 8] (fun x y wx => Cl2 o w4 x y wx)
  case first =>
    refine wp_region_held_drew (S := (fun W => Below w4.heap.size w4 W)) (by kernel_rfl) ((Below.refl _ _).drew) (fun hHeld => ?_)
    refine tp 0 ?_ rfl (.inl ⟨by rfl, ?_⟩) ?_
    rotate_left
    · intro W hSw; go_simp; try with_reducible rfl
    refine tp 1 ?_ rfl (.inl ⟨by rfl, ?_⟩) ?_
    rotate_left
    · intro W hSw; obtain ⟨g0, g1, g2, g3, g4, g5, g6, o0, o1, o2, o3, o4, o5, o6⟩ := FG.out W (step_below HB4.out hSw); go_simp; try with_reducible rfl
    refine tp 3 ?_ rfl (.inl ⟨by rfl, ?_⟩) ?_
    rotate_left
    · intro W hSw; go_simp; try with_reducible rfl
    refine tp 4 ?_ rfl (.inl ⟨by rfl, ?_⟩) ?_
    rotate_left
    · intro W hSw; obtain ⟨g0, g1, g2, g3, g4, g5, g6, o0, o1, o2, o3, o4, o5, o6⟩ := FG.out W (step_below HB4.out hSw); go_simp; try with_reducible rfl
    refine wpAnyH_ready (rs := [2]) (by kernel_rfl) (by simp) ?_
    refine AllReadyH.cons (o := { dst := some 24, op := Op.call { callee := Callee.value (Operand.func 92), args := #[Operand.tmp 23], argTypes := #[42] }, type := 42, pos := "catalog.go:194", after := #[{ on := 1, ground := Ground.data }], guard := none }) rfl (fun K hK => ?_) AllReadyH.nil
    go_simp
    refine (clone_law o.ka o.K o.kn o.kc (FO.out _ HB4.out).kl (by have := HK32.out; omega) _ (FO.out _ (step_below HB4.out hHeld)).ks).mono ?_; rintro r W5 ⟨a5, c5, rfl, l5, B5⟩
    go_wp2_with fail
    refine hK.out _ _ (step_below hHeld B5) (fun hHeldn => ?_)
    clear hK K hHeld; have hHeld := hHeldn; clear hHeldn
    have L5 := Lib.hid l5
    clear l5 B5
    try simp only [Act.put, List.setIfInBounds_toArray, List.set_cons_zero, List.set_cons_succ]
    refine wpAnyH_ready (rs := [5]) (by kernel_rfl) (by simp) ?_
    refine AllReadyH.cons (o := { dst := some 27, op := Op.call { callee := Callee.value (Operand.func 92), args := #[Operand.tmp 26], argTypes := #[42] }, type := 42, pos := "catalog.go:194", after := #[{ on := 4, ground := Ground.data }, { on := 2, ground := Ground.chain }], guard := none }) rfl (fun K hK => ?_) AllReadyH.nil
    go_simp
    refine (clone_law o.ta o.T o.tn o.tc (FO.out _ HB4.out).tl (by have := HT32.out; omega) _ (FO.out _ (step_below HB4.out hHeld)).ts).mono ?_; rintro r W6 ⟨a6, c6, rfl, l6, B6⟩
    go_wp2_with fail
    refine hK.out _ _ (step_below hHeld B6) (fun hHeldn => ?_)
    clear hK K hHeld; have hHeld := hHeldn; clear hHeldn
    have L6 := Lib.hid l6
    have B56 := Lib.hid B6
    clear l6 B6
    try simp only [Act.put, List.setIfInBounds_toArray, List.set_cons_zero, List.set_cons_succ]
    refine tp 6 ?_ rfl (.inl ⟨by rfl, ?_⟩) ?_
    rotate_left
    · intro W hSw; go_simp; try with_reducible rfl
    refine tp 7 ?_ rfl (.inl ⟨by rfl, ?_⟩) ?_
    rotate_left
    · intro W hSw; go_simp; try with_reducible rfl
    refine wpAnyH_done (by kernel_rfl) ?_ _
    go_wp2_with fail
    go_meet
    exact ⟨a5, c5, a6, c6, rfl, rfl, L5.out.below B56.out, L6.out, hHeld⟩
  case rest =>
    obtain ⟨fa, fc, ta, tc, rfl, rfl, lK, lT, BC⟩ := hcut
    have HBC := Lib.hid (step_below HB4.out BC)
    have LK := Lib.hid (fun W (b : Below wc.heap.size wc W) => lK.below b)
    have LT := Lib.hid (fun W (b : Below wc.heap.size wc W) => lT.below b)
    clear lK lT BC
    obtain ⟨g0, g1, g2, g3, g4, g5, g6, o0, o1, o2, o3, o4, o5, o6⟩ := FG.out _ HBC.out
    go_wp2_with fail
    refine (HKD.out _).mono ?_; rintro r w5 ⟨rfl, B5⟩
    unfold kN
    have HC5 := Lib.hid B5
    have HB5 := Lib.hid (step_below HBC.out B5)
    clear B5 g0 g1 g2 g3 g4 g5 g6 o0 o1 o2 o3 o4 o5 o6
    obtain ⟨g0, g1, g2, g3, g4, g5, g6, o0, o1, o2, o3, o4, o5, o6⟩ := FG.out _ HB5.out
    go_wp2_with fail
    refine put_eq (v := .bool f4) rfl ?_
    cases f4
    · simp only [Bool.false_eq_true, if_false, ↓reduceIte] at HV
      go_wp2_with fail
      refine (tree_law j o.t (-1) _ (FJ.out _ HB5.out)).mono ?_; rintro r w6 ⟨rfl, B6⟩
      have HC6 := Lib.hid (step_below HC5.out B6)
      have HB6 := Lib.hid (step_below HB5.out B6)
      clear B6 g0 g1 g2 g3 g4 g5 g6 o0 o1 o2 o3 o4 o5 o6
      obtain ⟨g0, g1, g2, g3, g4, g5, g6, o0, o1, o2, o3, o4, o5, o6⟩ := FG.out _ HB6.out
      obtain ⟨tr, htr⟩ : ∃ x, (trV j o.t (-1)).1 = x := ⟨_, rfl⟩
      obtain ⟨er, her⟩ : ∃ x, (if (trV j o.t (-1)).2.2.2 = true then (0 : Int) else 2) = x := ⟨_, rfl⟩
      rw [htr] at HV ⊢
      rw [her]
      clear htr her
      have hB := FB.out _ HB6.out
      have q0 := hB.cell 0
      have q1 := hB.cell 1
      have q2 := hB.cell 2
      have q3 := hB.cell 3
      simp only [List.getElem?_toArray, List.getElem?_cons_zero, List.getElem?_cons_succ] at q0 q1 q2 q3
      have z0 : w6.frozen? ⟨w.heap.size + 1 + 1, 0, none⟩ = false := frozen_of_row w6 _ 0 _ 169 hB
      have z1 : w6.frozen? ⟨w.heap.size + 1 + 1, 1, none⟩ = false := frozen_of_row w6 _ 1 _ 169 hB
      have z2 : w6.frozen? ⟨w.heap.size + 1 + 1, 2, none⟩ = false := frozen_of_row w6 _ 2 _ 169 hB
      have z3 : w6.frozen? ⟨w.heap.size + 1 + 1, 3, none⟩ = false := frozen_of_row w6 _ 3 _ 169 hB
      have HS4 := Lib.hid (set4 hB (step_below HB0.out HB6.out) (by omega) (by simp) (by simp) (by simp) (by simp) (.int .i64 tr) (.slice fa o.kn fc) (.slice ta o.tn tc) (.bool (decide (0 < o.tn))))
      clear hB
      go_wp2_with fail
      refine bodyPost_ret (v := .tuple #[.agg #[.int .i64 tr, .slice fa o.kn fc, .slice ta o.tn tc, .bool (decide (0 < o.tn))], .int .i64 0]) ?_ rfl ⟨⟨fa, fc, ta, tc, by rw [HV.out]; simp only [(FO.out _ HB6.out).kl, (FO.out _ HB6.out).tl], by rw [HV.out]; exact HS4.out.ls (LK.out _ HC6.out), by rw [HV.out]; exact HS4.out.ls (LT.out _ HC6.out)⟩, HS4.out.bel⟩
      have x0 := HS4.out.box.cell 0
      have x1 := HS4.out.box.cell 1
      have x2 := HS4.out.box.cell 2
      have x3 := HS4.out.box.cell 3
      simp only [List.getElem?_toArray, List.getElem?_cons_zero, List.getElem?_cons_succ] at x0 x1 x2 x3
      simp [results, Tryz.results141, go_sem, x0, x1, x2, x3]
    · simp only [if_true, ↓reduceIte] at HV
      obtain ⟨hk24, ht24⟩ := H24.out (by first | exact rfl | trivial)
      go_wp2_with fail
      refine (front_ok o.ka o.K o.kn o.kc (FO.out _ HB5.out).kl hk24 _ (FO.out _ HB5.out).ks).mono ?_; rintro r w6 ⟨pa, pc, rfl, lp, B6⟩
      have HC6 := Lib.hid (step_below HC5.out B6)
      have HB6 := Lib.hid (step_below HB5.out B6)
      have LP := Lib.hid (fun W (b : Below w6.heap.size w6 W) => lp.below b)
      clear B6 lp g0 g1 g2 g3 g4 g5 g6 o0 o1 o2 o3 o4 o5 o6
      obtain ⟨g0, g1, g2, g3, g4, g5, g6, o0, o1, o2, o3, o4, o5, o6⟩ := FG.out _ HB6.out
      go_wp2_with fail
      refine (front_ok o.ta o.T o.tn o.tc (FO.out _ HB6.out).tl ht24 _ (FO.out _ HB6.out).ts).mono ?_; rintro r w7 ⟨qa, qc, rfl, lq, B7⟩
      have HP7 := Lib.hid B7
      have HB7 := Lib.hid (step_below HB6.out B7)
      have LQ := Lib.hid (fun W (b : Below w7.heap.size w7 W) => lq.below b)
      clear B7 lq g0 g1 g2 g3 g4 g5 g6 o0 o1 o2 o3 o4 o5 o6
      obtain ⟨g0, g1, g2, g3, g4, g5, g6, o0, o1, o2, o3, o4, o5, o6⟩ := FG.out _ HB7.out
      go_wp2_with fail
      refine (tree_law j o.t o.i _ (FJ.out _ HB7.out)).mono ?_; rintro r w8 ⟨rfl, B8⟩
      have HQ8 := Lib.hid B8
      have HP8 := Lib.hid (step_below HP7.out B8)
      have HB8 := Lib.hid (step_below HB7.out B8)
      clear B8 g0 g1 g2 g3 g4 g5 g6 o0 o1 o2 o3 o4 o5 o6
      obtain ⟨g0, g1, g2, g3, g4, g5, g6, o0, o1, o2, o3, o4, o5, o6⟩ := FG.out _ HB8.out
      obtain ⟨tr, htr⟩ : ∃ x, (trV j o.t o.i).1 = x := ⟨_, rfl⟩
      obtain ⟨er, her⟩ : ∃ x, (if (trV j o.t o.i).2.2.2 = true then (0 : Int) else 2) = x := ⟨_, rfl⟩
      rw [htr] at HV ⊢
      rw [her]
      clear htr her
      have hB := FB.out _ HB8.out
      have q0 := hB.cell 0
      have q1 := hB.cell 1
      have q2 := hB.cell 2
      have q3 := hB.cell 3
      simp only [List.getElem?_toArray, List.getElem?_cons_zero, List.getElem?_cons_succ] at q0 q1 q2 q3
      have z0 : w8.frozen? ⟨w.heap.size + 1 + 1, 0, none⟩ = false := frozen_of_row w8 _ 0 _ 169 hB
      have z1 : w8.frozen? ⟨w.heap.size + 1 + 1, 1, none⟩ = false := frozen_of_row w8 _ 1 _ 169 hB
      have z2 : w8.frozen? ⟨w.heap.size + 1 + 1, 2, none⟩ = false := frozen_of_row w8 _ 2 _ 169 hB
      have z3 : w8.frozen? ⟨w.heap.size + 1 + 1, 3, none⟩ = false := frozen_of_row w8 _ 3 _ 169 hB
      have HS4 := Lib.hid (set4 hB (step_below HB0.out HB8.out) (by omega) (by simp) (by simp) (by simp) (by simp) (.int .i64 tr) (.slice pa (frontL o.K).length pc) (.slice qa (frontL o.T).length qc) (.bool (decide (0 < o.tn))))
      clear hB
      go_wp2_with fail
      refine bodyPost_ret (v := .tuple #[.agg #[.int .i64 tr, .slice pa (frontL o.K).length pc, .slice qa (frontL o.T).length qc, .bool (decide (0 < o.tn))], .int .i64 0]) ?_ rfl ⟨⟨pa, pc, qa, qc, by rw [HV.out], by rw [HV.out]; exact HS4.out.ls (LP.out _ HP8.out), by rw [HV.out]; exact HS4.out.ls (LQ.out _ HQ8.out)⟩, HS4.out.bel⟩
      have x0 := HS4.out.box.cell 0
      have x1 := HS4.out.box.cell 1
      have x2 := HS4.out.box.cell 2
      have x3 := HS4.out.box.cell 3
      simp only [List.getElem?_toArray, List.getElem?_cons_zero, List.getElem?_cons_succ] at x0 x1 x2 x3
      simp [results, Tryz.results141, go_sem, x0, x1, x2, x3]
end Go.Proofs.YthmofoldmdafoaaGreat
namespace Go.Proofs.YthmofoldmdafoaaGreat
open Go.ChangeShapes Go.WideShapes Go.ChangeAt Go.RowKit Go.Shelf
set_option linter.unusedVariables false
set_option linter.unusedSimpArgs false

end Go.Proofs.YthmofoldmdafoaaGreat
namespace Go.Proofs.YthmofoldmdafoaaGreat
open Go.ChangeShapes Go.WideShapes Go.ChangeAt Go.RowKit Go.Shelf
set_option linter.unusedVariables false
set_option linter.unusedSimpArgs false

theorem kf3_eq (k : Int) : kf k 3 = ((k == 5) || (k == 6)) := by
  by_cases h : k < 0 ∨ 6 < k
  · rw [kf_out k h, Bool.eq_iff_iff]
    simp; omega
  · obtain ⟨n, rfl⟩ : ∃ n : Nat, k = (n : Int) := ⟨k.toNat, by omega⟩
    have hn : n ≤ 6 := by omega
    rw [kf_in n hn]
    rcases (show n = 0 ∨ n = 1 ∨ n = 2 ∨ n = 3 ∨ n = 4 ∨ n = 5 ∨ n = 6 by omega) with rfl | rfl | rfl | rfl | rfl | rfl | rfl <;> rfl
theorem kf4_eq (k : Int) : kf k 4 = (k == 6) := by
  by_cases h : k < 0 ∨ 6 < k
  · rw [kf_out k h, Bool.eq_iff_iff]
    simp; omega
  · obtain ⟨n, rfl⟩ : ∃ n : Nat, k = (n : Int) := ⟨k.toNat, by omega⟩
    have hn : n ≤ 6 := by omega
    rw [kf_in n hn]
    rcases (show n = 0 ∨ n = 1 ∨ n = 2 ∨ n = 3 ∨ n = 4 ∨ n = 5 ∨ n = 6 by omega) with rfl | rfl | rfl | rfl | rfl | rfl | rfl <;> rfl
end Go.Proofs.YthmofoldmdafoaaGreat
namespace Go.Proofs.YthmofoldmdafoaaGreat
open Go.ChangeShapes Go.WideShapes Go.ChangeAt Go.RowKit Go.Shelf
set_option linter.unusedVariables false
set_option linter.unusedSimpArgs false

end Go.Proofs.YthmofoldmdafoaaGreat
namespace Go.Proofs.YthmofoldmdafoaaGreat
open Go.ChangeShapes Go.WideShapes Go.ChangeAt Go.RowKit Go.Maps
set_option linter.unusedVariables false
set_option linter.unusedSimpArgs false

theorem TlR.wr {S : Nat → Prop} {base : Nat} {w w' : World} {m : Md} {x : Tl} (h : TlR S base w m x) {B : Nat} (hS : S B) (hB : base ≤ B) (hn : ¬ Mut x B) (hr : x.rv.ownBlock ≠ some B) (o : Off (fun k => k = B) w w') : TlR S base w' m x := by
  have hT : ∀ k, (fun k => k = B) k → S k ∧ base ≤ k := fun k hk => by cases hk; exact ⟨hS, hB⟩
  have hS' : ∀ k, S k → S k ∨ w.heap.size ≤ k := fun k hk => .inl hk
  exact h.next o hT x rfl rfl rfl rfl rfl (o.box h.box fun e => hn (.inl e.symm)) (fun y hy => (h.wmaps y hy).off o fun e => hn (.inr (.inl ⟨y, hy, e.symm⟩))) (own_offb h.own o fun g hg e => hn (.inr (.inr (by rw [hg, e])))) (own_offb h.rown o fun g hg e => hr (by rw [hg, e])) S (fun _ h => h) hS'
    (fun k hk => Nat.lt_of_lt_of_le (h.bd k hk) o.size) h.hw h.hr (h.keepw o hT hS') h.wok (h.keepr o hT hS') h.coh h.wl h.few h.rfew
/-- New blocks are S's, too. -/
def Grow (S : Nat → Prop) (a b : Nat) (k : Nat) : Prop := S k ∨ (a ≤ k ∧ k < b)
theorem TlR.grow {S : Nat → Prop} {base : Nat} {w w' : World} {m : Md} {x : Tl} (h : TlR S base w m x) (b : Below w.heap.size w w') : TlR (Grow S w.heap.size w'.heap.size) base w' m x := by
  have o : Off (fun _ => False) w w' := Off.of b
  have hT : ∀ k, (fun _ : Nat => False) k → S k ∧ base ≤ k := fun k hk => hk.elim
  have hS' : ∀ k, Grow S w.heap.size w'.heap.size k → S k ∨ w.heap.size ≤ k := fun k hk => hk.imp id And.left
  exact h.next o hT x rfl rfl rfl rfl rfl (h.box.below b) (fun y hy => (h.wmaps y hy).below b) (own_kept h.own b) (own_kept h.rown b) _ (fun _ h => .inl h) hS' (fun k hk => hk.elim (fun hk => Nat.lt_of_lt_of_le (h.bd k hk) b.size) And.right) (fun g hg => .inl (h.hw g hg)) (fun g hg => .inl (h.hr g hg)) (h.keepw o hT hS') h.wok (h.keepr o hT hS') h.coh h.wl h.few h.rfew
theorem Stay.grow {S : Nat → Prop} {w w' : World} {P : World → Prop} (h : Stay S w P) (b : Below w.heap.size w w') : Stay (Grow S w.heap.size w'.heap.size) w' P := h.step (Off.of b) fun k hk => hk.imp id And.left
/-- A step inside a call that has boxes of its own, and writes one of them at its end. -/
theorem TSt.box {S S3 : Nat → Prop} {base : Nat} {w w2 w3 w4 : World} {m : Md} {x x' : Tl} (h : TlR S base w m x) (hb : base ≤ w.heap.size) (b : Below w.heap.size w w2) (st : TSt (Grow S w.heap.size w2.heap.size) S3 base w2 m x w3 x') {B : Nat} (h1 : w.heap.size ≤ B) (h2 : B < w2.heap.size) (o : Off (fun k => k = B) w3 w4) : TSt S S3 base w m x w4 x' := by
  have hsd : ∀ k, S3 k → S k ∨ w.heap.size ≤ k := fun k hk => by
    rcases st.sd k hk with (hk | hk) | hk
    · exact .inl hk
    · exact .inr hk.1
    · have := b.size; exact .inr (by omega)
  have hmu : ∀ k, Mut x' k → Mut x k ∨ w.heap.size ≤ k := fun k hk => (st.mu k hk).imp id fun hk => by have := b.size; omega
  refine ⟨?_, fun k hk => st.su k (.inl hk), hsd, ?_, hmu, st.px, st.bx, st.bm, st.rv, st.rs⟩
  · refine st.tl.wr (st.su B (.inr ⟨h1, h2⟩)) (by omega) (fun hk => ?_) (fun hk => ?_) o
    · rcases st.mu B hk with hk | hk
      · have := h.bd B (h.mut B hk).1; omega
      · omega
    · rw [st.rv] at hk
      have := (own_blk h.rown hk).2.1
      omega
  · have o2 : Off (Mut x) w w3 := (Off.of b).trans st.off
    refine ⟨o.os.trans o2.os, o.tape.trans o2.tape, o.output.trans o2.output, Nat.le_trans o2.size o.size, fun k hk hn => ?_⟩
    exact (o.block k (Nat.lt_of_lt_of_le hk o2.size) (fun e => by cases e; omega)).trans (o2.block k hk hn)
theorem TSt.same {S : Nat → Prop} {base : Nat} {w w' : World} {m : Md} {x : Tl} (h : TlR S base w m x) (b : Below w.heap.size w w') : TSt S S base w m x w' x :=
  ⟨h.below b, fun _ h => h, fun _ h => .inl h, Off.of b, fun _ h => .inl h, rfl, rfl, rfl, rfl, rfl⟩
/-- What a key has: tables, and writes over them. -/
def getWP (T : List (List Pr)) (ws : List (Nat × List Int × List (List Int))) (t : Nat) (K : List Int) : Option (List (List Int)) :=
  match ws.find? fun w => decide (w.1 = t ∧ w.2.1 = K) with
  | some w => if w.2.2 = [] then none else some w.2.2
  | none => getT (T.getD t []) K
theorem getX_P (m : Md) (x : Tl) {t : Nat} (ht : t < m.tabs.length) (K : List Int) : (getX m x t K).map RV.P = getWP m.P (x.ws.map WtV.P) t K := by
  unfold getX getWP
  rw [List.find?_map]
  have : ((fun w : Nat × List Int × List (List Int) => decide (w.1 = t ∧ w.2.1 = K)) ∘ WtV.P) = fun w : WtV => decide (w.t = t ∧ w.K = K) := rfl
  rw [this]
  cases x.ws.find? (fun w : WtV => decide (w.t = t ∧ w.K = K)) with
  | some w =>
    show Option.map RV.P (if w.r.R = [] then none else some w.r) = if w.r.P = [] then none else some w.r.P
    by_cases e : w.r.R = []
    · rw [if_pos e, if_pos (by unfold RV.P; rw [e]; rfl)]; rfl
    · rw [if_neg e, if_neg (by unfold RV.P; simpa using e)]; rfl
  | none =>
    obtain ⟨z, hz⟩ : ∃ z, m.tabs[t]? = some z := ⟨_, List.getElem?_eq_getElem ht⟩
    have e : m.P.getD t [] = tabP z.2 := by
      unfold Md.P
      rw [List.getD_eq_getElem?_getD, List.getElem?_map, hz]; rfl
    show Option.map RV.P (match m.tabs[t]? with | some y => getM y.2 K | none => none) = getT (m.P.getD t []) K
    rw [hz, e, tabP_get]
/-- How a call ends. -/
def CallR (S : Nat → Prop) (base : Nat) (w : World) (m : Md) (x : Tl) (ans : Int × List Pr) (ws : List (Nat × List Int × List (List Int))) (r : Ending) (w' : World) : Prop :=
  ∃ S' x' y, r = .returned (.agg #[.int .i64 y.e, .slice y.pa y.P.length y.pc]) ∧ TSt S S' base w m x w' x' ∧ resC y = ans ∧ ResOk y ∧ Stay S' w' (fun W' => PairsR W' y.pa y.P) ∧ x'.ws.map WtV.P = ws
/-- What is asked of a call. -/
structure OpG (S : Nat → Prop) (w : World) (m : Md) (o : CallV) (t : Nat) : Prop where
  at' : Stay S w fun W => CallAt W o
  te : o.t = (t : Int)
  tl : t < m.tabs.length
  ko : keyOk o.K
  ro : o.R ≠ [] → rOk (o.R.map P1.bs)
theorem OpG.grow {S : Nat → Prop} {w w' : World} {m : Md} {o : CallV} {t : Nat} (h : OpG S w m o t) (b : Below w.heap.size w w') : OpG (Grow S w.heap.size w'.heap.size) w' m o t := ⟨h.at'.grow b, h.te, h.tl, h.ko, h.ro⟩
theorem res_zero : ResOk ⟨0, none, 0, []⟩ := ⟨by simp, fun p hp => by simp at hp⟩
theorem PairsR.nil (W : World) (a : Option Addr) : PairsR W a [] := fun k x h => by simp at h
set_option maxRecDepth 100000 in
set_option maxHeartbeats 4000000 in
/-- put (124). -/
theorem tput_law {S : Nat → Prop} {base : Nat} {w : World} {m : Md} {x : Tl} (h : TlR S base w m x) (hbs : base ≤ w.heap.size) (o : CallV) (t : Nat) (ho : OpG S w m o t) (hf : x.ws.length < 1000) :
    Calls Tryz.prog 124 #[.pointer (some ⟨x.px, 0, none⟩), .agg #[.int .i64 o.k, .int .i64 o.t, .int .i64 o.i, .slice o.ka o.kn o.kc, .slice o.ta o.tn o.tc, .int .i64 o.m, .slice o.ra o.rn o.rc]] w (CallR S base w m x (0, []) (setW (x.ws.map WtV.P) t o.K (o.R.map P1.bs))) := by
  obtain ⟨hb, hbx⟩ := boxes2 w #[.int .i64 o.k, .int .i64 o.t, .int .i64 o.i, .slice o.ka o.kn o.kc, .slice o.ta o.tn o.tc, .int .i64 o.m, .slice o.ra o.rn o.rc] #[.int .i64 0, .slice none 0 0] 74 81
  have h2 := h.grow hb
  have ho2 := ho.grow hb
  have hst := ho2.at'.now
  have HS := Lib.hid (tset_law h2 (Nat.le_trans hbs hb.size) t ho.tl o.K ho.ko o.ka o.kn o.kc hst.kl (ho2.at'.mono fun W hW => hW.ks) o.ra o.rn o.rc o.R hst.rl ho.ro (ho2.at'.mono fun W hW => hW.rs) hf)
  rw [← ho.te] at HS
  have HH := Lib.hid (And.intro h (And.intro hbs (And.intro hb hbx)))
  obtain ⟨b0, b1⟩ := hbx _ (Below.refl _ _)
  have c1 := b0.cell 1
  have c3 := b0.cell 3
  have c6 := b0.cell 6
  simp only [List.getElem?_toArray, List.getElem?_cons_zero, List.getElem?_cons_succ] at c1 c3 c6
  clear h hbs ho hf h2 ho2 hst hb hbx b0 b1
  go_enter Tryz.func124, Tryz.ntmps124
  go_wp2_with fail
  refine HS.out.mono ?_; rintro r w3 ⟨rfl, S3, x', hst, hws⟩
  have HST := Lib.hid (And.intro hst hws)
  have HB3 := Lib.hid (hst.off.box (HH.out.2.2.2 _ (Below.refl _ _)).2 (fun hk => by have := HH.out.1.bd _ (HH.out.1.mut _ hk).1; omega))
  clear hst hws
  have g0 := HB3.out.cell 0
  have g1 := HB3.out.cell 1
  have i0 := HB3.out.frozen 0
  have i1 := HB3.out.frozen 1
  simp only [List.getElem?_toArray, List.getElem?_cons_zero, List.getElem?_cons_succ] at g0 g1
  go_wp2_with fail
  clear g0 g1 i0 i1
  have hb4 := BoxC.set2 (x := .int .i64 0) (y := .slice none 0 0) HB3.out
  have ho4 : Off (fun k => k = w.heap.size + 1) w3 ((w3.setCell ⟨w.heap.size + 1, 0, none⟩ (.int .i64 0)).setCell ⟨w.heap.size + 1, 1, none⟩ (.slice none 0 0)) :=
    Off.set (S := fun k => k = w.heap.size + 1) (Off.set (S := fun k => k = w.heap.size + 1) (Off.refl _ w3) ⟨w.heap.size + 1, 0, none⟩ rfl _) ⟨w.heap.size + 1, 1, none⟩ rfl _
  revert hb4 ho4
  generalize (w3.setCell ⟨w.heap.size + 1, 0, none⟩ (.int .i64 0)).setCell ⟨w.heap.size + 1, 1, none⟩ (.slice none 0 0) = w4
  intro hb4 ho4
  have q0 := hb4.cell 0
  have q1 := hb4.cell 1
  have HO4 := Lib.hid ho4
  clear hb4 ho4
  refine bodyPost_end (v := .agg #[.int .i64 0, .slice none 0 0]) (by simp [results, Tryz.results124, go_sem, q0, q1]) rfl ?_
  refine ⟨S3, x', ⟨0, none, 0, []⟩, rfl, HST.out.1.box HH.out.1 HH.out.2.1 HH.out.2.2.1 (Nat.le_succ _) (by simp) HO4.out, rfl, res_zero, fun W' o => PairsR.nil _ _, HST.out.2⟩
end Go.Proofs.YthmofoldmdafoaaGreat
namespace Go.Proofs.YthmofoldmdafoaaGreat
open Go.ChangeShapes Go.WideShapes Go.ChangeAt Go.RowKit Go.Maps
set_option linter.unusedVariables false
set_option linter.unusedSimpArgs false
theorem res_zero' (e : Int) : ResOk ⟨e, none, 0, []⟩ := ⟨by simp, fun p hp => by simp at hp⟩
set_option maxRecDepth 100000 in
set_option maxHeartbeats 4000000 in
/-- insert (125). -/
theorem tinsert_law {S : Nat → Prop} {base : Nat} {w : World} {m : Md} {x : Tl} (h : TlR S base w m x) (hbs : base ≤ w.heap.size) (o : CallV) (t : Nat) (ho : OpG S w m o t) (hf : x.ws.length < 1000) :
    Calls Tryz.prog 125 #[.pointer (some ⟨x.px, 0, none⟩), .agg #[.int .i64 o.k, .int .i64 o.t, .int .i64 o.i, .slice o.ka o.kn o.kc, .slice o.ta o.tn o.tc, .int .i64 o.m, .slice o.ra o.rn o.rc]] w (CallR S base w m x (if (getWP m.P (x.ws.map WtV.P) t o.K).isSome then ((7, []) : Int × List Pr) else (0, [])) (if (getWP m.P (x.ws.map WtV.P) t o.K).isSome then x.ws.map WtV.P else setW (x.ws.map WtV.P) t o.K (o.R.map P1.bs))) := by
  obtain ⟨hb, hbx⟩ := boxes2 w #[.int .i64 o.k, .int .i64 o.t, .int .i64 o.i, .slice o.ka o.kn o.kc, .slice o.ta o.tn o.tc, .int .i64 o.m, .slice o.ra o.rn o.rc] #[.int .i64 0, .slice none 0 0] 74 81
  have hst := ho.at'.now
  obtain ⟨w2, hw2⟩ : ∃ W, W = ((w.alloc (.cells #[.int .i64 o.k, .int .i64 o.t, .int .i64 o.i, .slice o.ka o.kn o.kc, .slice o.ta o.tn o.tc, .int .i64 o.m, .slice o.ra o.rn o.rc] 74)).alloc (.cells #[.int .i64 0, .slice none 0 0] 81)) := ⟨_, rfl⟩
  rw [← hw2] at hb hbx
  have h2 := h.below hb
  have hat2 := ho.at'.below hb
  obtain ⟨c0, c1, c2, c3, c4⟩ := h2.c
  have hbx2 := hbx w2 (Below.refl _ _)
  have HX := Lib.hid (fun X (b : Below w2.heap.size w2 X) => (⟨(b.cell (World.block_lt_of_cell? w2 _ c4)).trans c4, by rw [(hbx X b).1.cell]; simp only [List.getElem?_toArray, List.getElem?_cons_zero, List.getElem?_cons_succ]; rw [ho.te], by rw [(hbx X b).1.cell]; simp only [List.getElem?_toArray, List.getElem?_cons_zero, List.getElem?_cons_succ], conv_ls X o.ka o.kn o.kc o.K hst.kl (hat2.below b).now.ks.rd⟩ : X.cell? ⟨x.px, 4, none⟩ = some (.func (.func 107) #[] #[.pointer (some ⟨x.bx, 0, none⟩), .pointer (some ⟨x.bm, 0, none⟩)]) ∧ X.cell? ⟨w.heap.size, 1, none⟩ = some (.int .i64 (t : Int)) ∧ X.cell? ⟨w.heap.size, 3, none⟩ = some (.slice o.ka o.kn o.kc) ∧ (convert 42 9 (.slice o.ka o.kn o.kc)).run Tryz.prog X = .ok (.string (strOfNums o.K)) X))
  have HG := Lib.hid (fun X (b : Below w2.heap.size w2 X) => tget_law (h2.below b) t ho.tl o.K ho.ko.1 (by have := ho.ko.2; omega))
  have HH := Lib.hid (And.intro h (And.intro hbs (And.intro hb hbx)))
  have HO := Lib.hid ho
  have HP := Lib.hid (getX_P m x ho.tl o.K)
  have HW2 := Lib.hid hw2
  have HF := Lib.hid hf
  obtain ⟨g, hg⟩ : ∃ g, getX m x t o.K = g := ⟨_, rfl⟩
  rw [hg] at HG HP
  have HGX := Lib.hid hg
  clear h hbs ho hf h2 hat2 hst hb hbx hbx2 c0 c1 c2 c3 c4 hg
  rw [← HP.out]
  clear HP
  cases g with
  | some y =>
    rw [if_pos (show (Option.map RV.P (some y)).isSome = true from rfl), if_pos (show (Option.map RV.P (some y)).isSome = true from rfl)]
    go_enter Tryz.func125, Tryz.ntmps125
    go_upto_region 1 with (fail)
    rw [← hw2]
    clear hw2
    refine wp_region_held_drew (S := (fun X => Below w2.heap.size w2 X)) (by kernel_rfl) ((Below.refl _ _).drew) (fun hHeld => ?_)
    refine tp 0 ?_ rfl (.inl ⟨by rfl, ?_⟩) ?_
    rotate_left
    · intro W hSw; go_simp; try with_reducible rfl
    refine tp 1 ?_ rfl (.inl ⟨by rfl, ?_⟩) ?_
    rotate_left
    · intro W hSw; go_simp; try with_reducible rfl
    refine tp 2 ?_ rfl (.inl ⟨by rfl, ?_⟩) ?_
    rotate_left
    · intro W hSw; go_simp; try with_reducible rfl
    refine tp 3 ?_ rfl (.inl ⟨by rfl, ?_⟩) ?_
    rotate_left
    · intro W hSw; have m := (HX.out W hSw).1; go_simp; try with_reducible rfl
    refine tp 4 ?_ rfl (.inl ⟨by rfl, ?_⟩) ?_
    rotate_left
    · intro W hSw; go_simp; try with_reducible rfl
    refine tp 5 ?_ rfl (.inl ⟨by rfl, ?_⟩) ?_
    rotate_left
    · intro W hSw; have m := (HX.out W hSw).2.1; go_simp; try with_reducible rfl
    refine tp 6 ?_ rfl (.inl ⟨by rfl, ?_⟩) ?_
    rotate_left
    · intro W hSw; go_simp; try with_reducible rfl
    refine tp 7 ?_ rfl (.inl ⟨by rfl, ?_⟩) ?_
    rotate_left
    · intro W hSw; have m := (HX.out W hSw).2.2.1; go_simp; try with_reducible rfl
    refine tp 8 ?_ rfl (.inl ⟨by rfl, ?_⟩) ?_
    rotate_left
    · intro W hSw; have m := (HX.out W hSw).2.2.2; go_simp; try with_reducible rfl
    refine wpAnyH_ready (rs := [9]) (by kernel_rfl) (by simp) ?_
    refine AllReadyH.cons (o := { dst := some 17, op := Op.call { callee := Callee.value (Operand.tmp 11), args := #[Operand.tmp 13, Operand.tmp 16], argTypes := #[3, 9] }, type := 51, pos := "trial.go:75", after := #[{ on := 3, ground := Ground.data }, { on := 5, ground := Ground.data }, { on := 8, ground := Ground.data }], guard := none }) rfl (fun K hK => ?_) AllReadyH.nil
    go_simp
    refine (HG.out _ hHeld).mono ?_; rintro r w5 ⟨⟨v5, rfl, hv5⟩, rfl⟩
    have HV5 := Lib.hid hv5
    go_wp2_with fail
    try simp only [Option.isSome_some, Option.isSome_none]
    refine hK.out _ _ hHeld (fun hHeldn => ?_)
    clear hK K hHeld hv5; have hHeld := hHeldn; clear hHeldn
    try simp only [Act.put, List.setIfInBounds_toArray, List.set_cons_zero, List.set_cons_succ]
    refine tp 10 ?_ rfl (.inl ⟨by rfl, ?_⟩) ?_
    rotate_left
    · intro W hSw; go_simp; try with_reducible rfl
    refine tp 11 ?_ rfl (.inl ⟨by rfl, ?_⟩) ?_
    rotate_left
    · intro W hSw; go_simp; try with_reducible rfl
    refine tp 12 ?_ rfl (.inl ⟨by rfl, ?_⟩) ?_
    rotate_left
    · intro W hSw; go_simp; try with_reducible rfl
    refine tp 13 ?_ rfl (.inl ⟨by rfl, ?_⟩) ?_
    rotate_left
    · intro W hSw; go_simp; try with_reducible rfl
    refine tp 14 ?_ rfl (.inl ⟨by rfl, ?_⟩) ?_
    rotate_left
    · intro W hSw; go_simp; try with_reducible rfl
    refine wpAnyH_done (by kernel_rfl) ?_ _
    skip

    obtain ⟨w3, hw3⟩ : ∃ W, W = w2.drew := ⟨_, rfl⟩
    rw [← hw3] at hHeld ⊢
    have HB3 := Lib.hid ((HH.out.2.2.2 w3 hHeld).2)
    have HBW := Lib.hid (HH.out.2.2.1.trans (hHeld.mono HH.out.2.2.1.size))
    clear hHeld hw3
    have g0 := HB3.out.cell 0
    have g1 := HB3.out.cell 1
    have i0 := HB3.out.frozen 0
    have i1 := HB3.out.frozen 1
    simp only [List.getElem?_toArray, List.getElem?_cons_zero, List.getElem?_cons_succ] at g0 g1
    go_wp2_with fail
    clear g0 g1 i0 i1
    have hb4 := BoxC.set2 (x := .int .i64 7) (y := .slice none 0 0) HB3.out
    have ho4 : Off (fun k => k = w.heap.size + 1) w3 ((w3.setCell ⟨w.heap.size + 1, 0, none⟩ (.int .i64 7)).setCell ⟨w.heap.size + 1, 1, none⟩ (.slice none 0 0)) :=
      Off.set (S := fun k => k = w.heap.size + 1) (Off.set (S := fun k => k = w.heap.size + 1) (Off.refl _ w3) ⟨w.heap.size + 1, 0, none⟩ rfl _) ⟨w.heap.size + 1, 1, none⟩ rfl _
    revert hb4 ho4
    generalize (w3.setCell ⟨w.heap.size + 1, 0, none⟩ (.int .i64 7)).setCell ⟨w.heap.size + 1, 1, none⟩ (.slice none 0 0) = w4
    intro hb4 ho4
    have q0 := hb4.cell 0
    have q1 := hb4.cell 1
    have HO4 := Lib.hid ho4
    clear hb4 ho4
    refine bodyPost_end (v := .agg #[.int .i64 7, .slice none 0 0]) (by simp [results, Tryz.results125, go_sem, q0, q1]) rfl ?_
    refine ⟨S, x, ⟨7, none, 0, []⟩, rfl, TSt.same HH.out.1 (by
      refine Off.below HBW.out HO4.out HBW.out.size (fun k hk => by cases hk; omega)), rfl, res_zero' _, fun W' o => PairsR.nil _ _, rfl⟩
  | none =>
    rw [if_neg (show ¬ (Option.map RV.P (none : Option RV)).isSome = true from fun e => by cases e), if_neg (show ¬ (Option.map RV.P (none : Option RV)).isSome = true from fun e => by cases e)]
    go_enter Tryz.func125, Tryz.ntmps125
    go_upto_region 1 with (fail)
    rw [← hw2]
    clear hw2
    refine wp_region_held_drew (S := (fun X => Below w2.heap.size w2 X)) (by kernel_rfl) ((Below.refl _ _).drew) (fun hHeld => ?_)
    refine tp 0 ?_ rfl (.inl ⟨by rfl, ?_⟩) ?_
    rotate_left
    · intro W hSw; go_simp; try with_reducible rfl
    refine tp 1 ?_ rfl (.inl ⟨by rfl, ?_⟩) ?_
    rotate_left
    · intro W hSw; go_simp; try with_reducible rfl
    refine tp 2 ?_ rfl (.inl ⟨by rfl, ?_⟩) ?_
    rotate_left
    · intro W hSw; go_simp; try with_reducible rfl
    refine tp 3 ?_ rfl (.inl ⟨by rfl, ?_⟩) ?_
    rotate_left
    · intro W hSw; have m := (HX.out W hSw).1; go_simp; try with_reducible rfl
    refine tp 4 ?_ rfl (.inl ⟨by rfl, ?_⟩) ?_
    rotate_left
    · intro W hSw; go_simp; try with_reducible rfl
    refine tp 5 ?_ rfl (.inl ⟨by rfl, ?_⟩) ?_
    rotate_left
    · intro W hSw; have m := (HX.out W hSw).2.1; go_simp; try with_reducible rfl
    refine tp 6 ?_ rfl (.inl ⟨by rfl, ?_⟩) ?_
    rotate_left
    · intro W hSw; go_simp; try with_reducible rfl
    refine tp 7 ?_ rfl (.inl ⟨by rfl, ?_⟩) ?_
    rotate_left
    · intro W hSw; have m := (HX.out W hSw).2.2.1; go_simp; try with_reducible rfl
    refine tp 8 ?_ rfl (.inl ⟨by rfl, ?_⟩) ?_
    rotate_left
    · intro W hSw; have m := (HX.out W hSw).2.2.2; go_simp; try with_reducible rfl
    refine wpAnyH_ready (rs := [9]) (by kernel_rfl) (by simp) ?_
    refine AllReadyH.cons (o := { dst := some 17, op := Op.call { callee := Callee.value (Operand.tmp 11), args := #[Operand.tmp 13, Operand.tmp 16], argTypes := #[3, 9] }, type := 51, pos := "trial.go:75", after := #[{ on := 3, ground := Ground.data }, { on := 5, ground := Ground.data }, { on := 8, ground := Ground.data }], guard := none }) rfl (fun K hK => ?_) AllReadyH.nil
    go_simp
    refine (HG.out _ hHeld).mono ?_; rintro r w5 ⟨⟨v5, rfl, hv5⟩, rfl⟩
    have HV5 := Lib.hid hv5
    go_wp2_with fail
    try simp only [Option.isSome_some, Option.isSome_none]
    refine hK.out _ _ hHeld (fun hHeldn => ?_)
    clear hK K hHeld hv5; have hHeld := hHeldn; clear hHeldn
    try simp only [Act.put, List.setIfInBounds_toArray, List.set_cons_zero, List.set_cons_succ]
    refine tp 10 ?_ rfl (.inl ⟨by rfl, ?_⟩) ?_
    rotate_left
    · intro W hSw; go_simp; try with_reducible rfl
    refine tp 11 ?_ rfl (.inl ⟨by rfl, ?_⟩) ?_
    rotate_left
    · intro W hSw; go_simp; try with_reducible rfl
    refine tp 12 ?_ rfl (.inl ⟨by rfl, ?_⟩) ?_
    rotate_left
    · intro W hSw; go_simp; try with_reducible rfl
    refine tp 13 ?_ rfl (.inl ⟨by rfl, ?_⟩) ?_
    rotate_left
    · intro W hSw; go_simp; try with_reducible rfl
    refine tp 14 ?_ rfl (.inl ⟨by rfl, ?_⟩) ?_
    rotate_left
    · intro W hSw; go_simp; try with_reducible rfl
    refine wpAnyH_done (by kernel_rfl) ?_ _
    skip
    obtain ⟨w6, hw6⟩ : ∃ W, W = w2.drew := ⟨_, rfl⟩
    rw [← hw6] at hHeld ⊢
    have HB6 := Lib.hid (HH.out.2.2.1.trans (hHeld.mono HH.out.2.2.1.size))
    have HX6 := Lib.hid (HH.out.2.2.2 w6 hHeld)
    have HPUT := Lib.hid (tput_law (HH.out.1.grow HB6.out) (Nat.le_trans HH.out.2.1 HB6.out.size) o t (HO.out.grow HB6.out) HF.out)
    have c0 := HX6.out.1.cell 0
    have c1 := HX6.out.1.cell 1
    have c2 := HX6.out.1.cell 2
    have c3 := HX6.out.1.cell 3
    have c4 := HX6.out.1.cell 4
    have c5 := HX6.out.1.cell 5
    have c6 := HX6.out.1.cell 6
    simp only [List.getElem?_toArray, List.getElem?_cons_zero, List.getElem?_cons_succ] at c0 c1 c2 c3 c4 c5 c6
    clear hHeld hw6
    go_wp2_with fail
    refine HPUT.out.mono ?_; rintro r w3 ⟨S3, x', y, rfl, hst, hans, hok, hpr, hws⟩
    have HST := Lib.hid (And.intro hst (And.intro hans (And.intro hok (And.intro hpr hws))))
    have HB3 := Lib.hid (hst.off.box HX6.out.2 (fun hk => by have := HH.out.1.bd _ (HH.out.1.mut _ hk).1; omega))
    have HL6 := Lib.hid (show w.heap.size + 1 < w6.heap.size from HX6.out.2.lt)
    clear hst hans hok hpr hws c0 c1 c2 c3 c4 c5 c6
    have g0 := HB3.out.cell 0
    have g1 := HB3.out.cell 1
    have i0 := HB3.out.frozen 0
    have i1 := HB3.out.frozen 1
    simp only [List.getElem?_toArray, List.getElem?_cons_zero, List.getElem?_cons_succ] at g0 g1
    go_wp2_with fail
    clear g0 g1 i0 i1
    have hb4 := BoxC.set2 (x := .int .i64 y.e) (y := .slice y.pa y.P.length y.pc) HB3.out
    have ho4 : Off (fun k => k = w.heap.size + 1) w3 ((w3.setCell ⟨w.heap.size + 1, 0, none⟩ (.int .i64 y.e)).setCell ⟨w.heap.size + 1, 1, none⟩ (.slice y.pa y.P.length y.pc)) :=
      Off.set (S := fun k => k = w.heap.size + 1) (Off.set (S := fun k => k = w.heap.size + 1) (Off.refl _ w3) ⟨w.heap.size + 1, 0, none⟩ rfl _) ⟨w.heap.size + 1, 1, none⟩ rfl _
    revert hb4 ho4
    generalize (w3.setCell ⟨w.heap.size + 1, 0, none⟩ (.int .i64 y.e)).setCell ⟨w.heap.size + 1, 1, none⟩ (.slice y.pa y.P.length y.pc) = w4
    intro hb4 ho4
    have q0 := hb4.cell 0
    have q1 := hb4.cell 1
    have HO4 := Lib.hid ho4
    clear hb4 ho4
    refine bodyPost_end (v := .agg #[.int .i64 y.e, .slice y.pa y.P.length y.pc]) (by simp [results, Tryz.results125, go_sem, q0, q1]) rfl ?_
    refine ⟨S3, x', y, rfl, HST.out.1.box HH.out.1 HH.out.2.1 HB6.out (Nat.le_succ _) HL6.out HO4.out, HST.out.2.1, HST.out.2.2.1, HST.out.2.2.2.1.off (HO4.out.mono fun k hk => by cases hk; exact HST.out.1.su _ (.inr ⟨Nat.le_succ _, HL6.out⟩)), HST.out.2.2.2.2⟩
end Go.Proofs.YthmofoldmdafoaaGreat
