/- CatalogTells' walk. -/
import Derived.Test.YtkgcbhpgkcfkhaaCth
import Derived.Test.YtkgcbhpgkcfkhaaCkw
import Derived.Test.YtkgcbhpgkcfkhaaRsp
namespace Go.Proofs.Ytkgcbhpgkcfkhaa
open Go.ChangeShapes Go.WideShapes Go.ChangeAt Go.RowKit Go.Shelf
set_option linter.unusedVariables false
set_option linter.unusedSimpArgs false

theorem num35q (e : Int) (w : World) : Calls Try.prog 35 #[.int .i64 e] w fun r w' => r = .returned (.int .i64 e) ∧ w' = w := (num35 e w).mono fun _ _ h => ⟨h.1, h.2.symm⟩
/-- Three boxes, one behind the other. -/
theorem boxes3 (w : World) (A B C : Array Value) (a b c : TypeId) : Below w.heap.size w (((w.alloc (.cells A a)).alloc (.cells B b)).alloc (.cells C c)) ∧ ∀ W, Below (((w.alloc (.cells A a)).alloc (.cells B b)).alloc (.cells C c)).heap.size (((w.alloc (.cells A a)).alloc (.cells B b)).alloc (.cells C c)) W → BoxC W w.heap.size A a ∧ BoxC W (w.heap.size + 1) B b ∧ BoxC W (w.heap.size + 1 + 1) C c := by
  refine ⟨(((Below.refl _ _).alloc (Nat.le_refl _) _).alloc (by simp) _).alloc (by simp; omega) _, fun W h => ?_⟩
  have e1 := BoxC.new w A a
  have e2 := BoxC.new (w.alloc (.cells A a)) B b
  have e3 := BoxC.new ((w.alloc (.cells A a)).alloc (.cells B b)) C c
  have b2 : Below (w.alloc (.cells A a)).heap.size (w.alloc (.cells A a)) ((w.alloc (.cells A a)).alloc (.cells B b)) := (Below.refl _ _).alloc (Nat.le_refl _) _
  have b3 : Below ((w.alloc (.cells A a)).alloc (.cells B b)).heap.size ((w.alloc (.cells A a)).alloc (.cells B b)) (((w.alloc (.cells A a)).alloc (.cells B b)).alloc (.cells C c)) := (Below.refl _ _).alloc (Nat.le_refl _) _
  refine ⟨((e1.below b2).below b3).below h, ?_, ?_⟩
  · have := (e2.below b3).below h
    simpa using this
  · have := e3.below h
    simpa using this
theorem entV_err (j : Job) (t : Int) (R : List P1) (K : List Int) : (entV j t R K).2 = 0 ∨ (entV j t R K).2 = 2 := by
  unfold entV
  split
  · exact .inl rfl
  · exact .inr rfl
set_option maxRecDepth 100000 in
set_option maxHeartbeats 4000000 in
theorem tells_bad (j : Job) (t : Int) (ka0 ka1 : Option Addr) (K0 K1 : List Int) (n0 n1 c0 c1 : Nat) (ra0 ra1 : Option Addr) (R0 R1 : List P1) (m0 m1 d0 d1 : Nat) (hK0 : K0.length = n0) (hK1 : K1.length = n1) (hR0 : R0.length = m0) (hR1 : R1.length = m1) (s0 : n0 ≤ 140737488355328) (s1 : n1 ≤ 140737488355328) (bK0 : Byt K0) (bK1 : Byt K1) (bR0 : ∀ p ∈ R0, Byt p.bs) (bR1 : ∀ p ∈ R1, Byt p.bs) (w : World) (hl : Ls .i64 w j.a j.cap j.T) (hn : j.T.length = j.n) (hk0 : Ls .u8 w ka0 c0 K0) (hk1 : Ls .u8 w ka1 c1 K1) (hr0 : RdR w ra0 R0) (hr1 : RdR w ra1 R1) (hbad : ¬ ((entV j t R0 K0).2 = 0 ∧ (entV j t R1 K1).2 = 0)) :
    Calls Try.prog 10 #[.agg #[.int .i64 j.w, .int .i64 j.l, .int .i64 j.d, .int .i64 j.c, .int .i64 j.k, .int .i64 j.e, .slice j.a j.n j.cap], .int .i64 t, .agg #[.slice ka0 n0 c0, .slice ka1 n1 c1], .agg #[.slice ra0 m0 d0, .slice ra1 m1 d1]] w fun r w' => r = .returned (.bool true) ∧ Below w.heap.size w w' := by
  have he0 := entV_err j t R0 K0
  have he1 := entV_err j t R1 K1
  have hsum : ((entV j t R0 K0).2 + (entV j t R1 K1).2 != 0) = true := by
    simp only [bne_iff_ne, ne_eq]; omega
  have hbd0 : 0 ≤ (entV j t R0 K0).2 ∧ (entV j t R0 K0).2 ≤ 2 := by omega
  have hbd1 : 0 ≤ (entV j t R1 K1).2 ∧ (entV j t R1 K1).2 ≤ 2 := by omega
  have HS := Lib.hid (And.intro hsum (And.intro hbd0 hbd1))
  clear he0 he1 hsum hbd0 hbd1 hbad
  obtain ⟨hb0, HCE⟩ := boxes3 w #[.int .i64 j.w, .int .i64 j.l, .int .i64 j.d, .int .i64 j.c, .int .i64 j.k, .int .i64 j.e, .slice j.a j.n j.cap] #[.slice ka0 n0 c0, .slice ka1 n1 c1] #[.slice ra0 m0 d0, .slice ra1 m1 d1] 53 88 89
  have i0 : (n0 : Int) ≤ 140737488355328 := by omega
  have i1 : (n1 : Int) ≤ 140737488355328 := by omega
  go_enter Try.func10, Try.ntmps10
  go_wp2_with fail
  generalize (((w.alloc (.cells #[.int .i64 j.w, .int .i64 j.l, .int .i64 j.d, .int .i64 j.c, .int .i64 j.k, .int .i64 j.e, .slice j.a j.n j.cap] 53)).alloc (.cells #[.slice ka0 n0 c0, .slice ka1 n1 c1] 88)).alloc (.cells #[.slice ra0 m0 d0, .slice ra1 m1 d1] 89)) = W0 at *
  have FG := Lib.hid (fun W (b : Below W0.heap.size W0 W) => (by
    obtain ⟨x, y, z⟩ := HCE W b
    exact ⟨x.cell 0, x.cell 1, x.cell 2, x.cell 3, x.cell 4, x.cell 5, x.cell 6, y.cell 0, y.cell 1, z.cell 0, z.cell 1⟩ : W.cell? ⟨w.heap.size, 0, none⟩ = some (.int .i64 j.w) ∧ W.cell? ⟨w.heap.size, 1, none⟩ = some (.int .i64 j.l) ∧ W.cell? ⟨w.heap.size, 2, none⟩ = some (.int .i64 j.d) ∧ W.cell? ⟨w.heap.size, 3, none⟩ = some (.int .i64 j.c) ∧ W.cell? ⟨w.heap.size, 4, none⟩ = some (.int .i64 j.k) ∧ W.cell? ⟨w.heap.size, 5, none⟩ = some (.int .i64 j.e) ∧ W.cell? ⟨w.heap.size, 6, none⟩ = some (.slice j.a j.n j.cap) ∧ W.cell? ⟨w.heap.size + 1, 0, none⟩ = some (.slice ka0 n0 c0) ∧ W.cell? ⟨w.heap.size + 1, 1, none⟩ = some (.slice ka1 n1 c1) ∧ W.cell? ⟨w.heap.size + 1 + 1, 0, none⟩ = some (.slice ra0 m0 d0) ∧ W.cell? ⟨w.heap.size + 1 + 1, 1, none⟩ = some (.slice ra1 m1 d1)))
  have FJ := Lib.hid (fun W (b : Below W0.heap.size W0 W) => (⟨(hl.below hb0).below b, hn⟩ : Ls .i64 W j.a j.cap j.T ∧ j.T.length = j.n))
  have FK := Lib.hid (fun W (b : Below W0.heap.size W0 W) => (⟨(hk0.below hb0).below b, (hk1.below hb0).below b⟩ : Ls .u8 W ka0 c0 K0 ∧ Ls .u8 W ka1 c1 K1))
  have FR := Lib.hid (fun W (b : Below W0.heap.size W0 W) => (⟨(hr0.below hb0).below b, (hr1.below hb0).below b⟩ : RdR W ra0 R0 ∧ RdR W ra1 R1))
  have HB0 := Lib.hid hb0
  have HLEN := Lib.hid (And.intro (And.intro hK0 hK1) (And.intro hR0 hR1))
  have HBYT := Lib.hid (And.intro (And.intro bK0 bK1) (And.intro bR0 bR1))
  clear hb0 HCE hl hn hk0 hk1 hr0 hr1 hK0 hK1 hR0 hR1 bK0 bK1 bR0 bR1 s0 s1
  refine (known33 _).mono ?_; rintro r w1 ⟨rfl, B1⟩
  have HB1 := Lib.hid B1
  clear B1
  obtain ⟨g0, g1, g2, g3, g4, g5, g6, y0, y1, z0, z1⟩ := FG.out _ HB1.out
  by_cases hjn : 2000 < j.n
  · have hjni : (2000 : Int) < (j.n : Int) := by omega
    clear hjn
    go_wp2_with fail
    go_ret
    exact ⟨rfl, step_below HB0.out HB1.out⟩
  have hjni : ¬ (2000 : Int) < (j.n : Int) := by omega
  by_cases hkn : 9000 < n0 + n1
  · have hkni : (9000 : Int) < (n0 : Int) + (n1 : Int) := by omega
    clear hjn hkn
    go_wp2_with fail
    go_ret
    exact ⟨rfl, step_below HB0.out HB1.out⟩
  have hkni : ¬ (9000 : Int) < (n0 : Int) + (n1 : Int) := by omega
  have hnj := Lib.hid (show j.n ≤ 1000000 by omega)
  clear hjn hkn
  go_wp2_with fail
  refine (sizes_law ra0 R0 m0 d0 HLEN.out.2.1 _ (FR.out _ HB1.out).1).mono ?_; rintro r w' ⟨⟨z3, rfl, hz3, hzl3⟩, rfl⟩
  by_cases hzb : 9000 < z3
  · have hzbi : (9000 : Int) < (z3 : Int) := by omega
    clear hzl3
    go_wp2_with fail
    go_ret
    exact ⟨rfl, step_below HB0.out HB1.out⟩
  have hzbi : ¬ (9000 : Int) < (z3 : Int) := by omega
  clear hzl3
  go_wp2_with fail
  refine (sizes_law ra1 R1 m1 d1 HLEN.out.2.2 _ (FR.out _ HB1.out).2).mono ?_; rintro r w' ⟨⟨z4, rfl, hz4, hzl4⟩, rfl⟩
  by_cases hzc : 9000 < z4
  · have hzci : (9000 : Int) < (z4 : Int) := by omega
    clear hzl4
    go_wp2_with fail
    go_ret
    exact ⟨rfl, step_below HB0.out HB1.out⟩
  have hzci : ¬ (9000 : Int) < (z4 : Int) := by omega
  have hm0 := Lib.hid (show m0 ≤ 1000000 by omega)
  have hm1 := Lib.hid (show m1 ≤ 1000000 by omega)
  have hm0i : (m0 : Int) ≤ 9000 := by omega
  have hm1i : (m1 : Int) ≤ 9000 := by omega
  clear hzl4 hzb hzc hz3 hz4
  have HE0 := Lib.hid (fun W (b : Below W0.heap.size W0 W) => entries_law j t ka0 K0 n0 c0 ra0 R0 m0 d0 HLEN.out.1.1 HLEN.out.2.1 hm0.out W ⟨(FJ.out W b).1, (FJ.out W b).2, hnj.out⟩ (FK.out W b).1 (FR.out W b).1)
  have HE1 := Lib.hid (fun W (b : Below W0.heap.size W0 W) => entries_law j t ka1 K1 n1 c1 ra1 R1 m1 d1 HLEN.out.1.2 HLEN.out.2.2 hm1.out W ⟨(FJ.out W b).1, (FJ.out W b).2, hnj.out⟩ (FK.out W b).2 (FR.out W b).2)
  have hs := HS.out
  generalize entV j t R0 K0 = V0 at *
  generalize entV j t R1 K1 = V1 at *
  obtain ⟨V0, e0⟩ := V0
  obtain ⟨V1, e1⟩ := V1
  obtain ⟨hsum, ⟨q0, q1⟩, q2, q3⟩ := hs
  simp only at hsum q0 q1 q2 q3
  unfold EnP at HE0 HE1
  simp only at HE0 HE1
  clear HS
  go_wp2_with fail
  refine (HE0.out _ HB1.out).mono ?_; rintro r w3 ⟨⟨a0, x0, L0, rfl, _, _⟩, B3⟩
  have HB3 := Lib.hid (step_below HB1.out B3)
  clear B3 g0 g1 g2 g3 g4 g5 g6 y0 y1 z0 z1
  obtain ⟨g0, g1, g2, g3, g4, g5, g6, y0, y1, z0, z1⟩ := FG.out _ HB3.out
  go_wp2_with fail
  refine (HE1.out _ HB3.out).mono ?_; rintro r w4 ⟨⟨a1, x1, L1, rfl, _, _⟩, B4⟩
  have HB4 := Lib.hid (step_below HB3.out B4)
  clear B4 g0 g1 g2 g3 g4 g5 g6 y0 y1 z0 z1
  go_wp2_with fail
  refine (num35 _ _).mono ?_; rintro r w' ⟨rfl, rfl⟩
  go_wp2_with fail
  refine (num35 _ _).mono ?_; rintro r w' ⟨rfl, rfl⟩
  go_wp2_with fail
  go_ret
  exact ⟨rfl, step_below HB0.out HB4.out⟩
end Go.Proofs.Ytkgcbhpgkcfkhaa
