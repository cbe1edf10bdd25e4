/- Calls that came in, and what their kinds name, by contracts. -/
import Derived.Test.YtkgcbhpgkcfkhaaCk3
import Derived.Test.YtkgcbhpgkcfkhaaRby
import Derived.Test.YtkgcbhpgkcfkhaaRfr
namespace Go.Proofs.Ytkgcbhpgkcfkhaa
open Go.ChangeShapes Go.WideShapes Go.ChangeAt Go.RowKit Go.Shelf
set_option linter.unusedVariables false
set_option linter.unusedSimpArgs false

/-- A call. -/
structure CallV where
  k : Int
  t : Int
  i : Int
  ka : Option Addr
  kn : Nat
  kc : Nat
  K : List Int
  ta : Option Addr
  tn : Nat
  tc : Nat
  T : List Int
  m : Int
  ra : Option Addr
  rn : Nat
  rc : Nat
  R : List P1
structure CallAt (W : World) (o : CallV) : Prop where
  ks : Ls .u8 W o.ka o.kc o.K
  kl : o.K.length = o.kn
  kb : Byt o.K
  ts : Ls .u8 W o.ta o.tc o.T
  tl : o.T.length = o.tn
  tb : Byt o.T
  rs : RdR W o.ra o.R
  rl : o.R.length = o.rn
  rb : ∀ p ∈ o.R, Byt p.bs
theorem CallAt.below {W W' : World} {o : CallV} (h : CallAt W o) (b : Below W.heap.size W W') : CallAt W' o := ⟨h.ks.below b, h.kl, h.kb, h.ts.below b, h.tl, h.tb, h.rs.below b, h.rl, h.rb⟩
/-- What a kind names. -/
def kf (k : Int) (i : Nat) : Bool := if 0 ≤ k ∧ k ≤ 6 then kB.getD (k.toNat * 6 + i) false else false
theorem kf_in (n : Nat) (h : n ≤ 6) (i : Nat) : kf (n : Int) i = kB.getD (n * 6 + i) false := by
  unfold kf
  rw [if_pos (by omega), Int.toNat_natCast]
theorem kf_out (k : Int) (h : k < 0 ∨ 6 < k) (i : Nat) : kf k i = false := if_neg (by omega)
set_option maxRecDepth 100000 in
set_option maxHeartbeats 2000000 in
theorem kind_out (k : Int) (h : k < 0 ∨ 6 < k) (tb ix mo : Int) (ka ta ra : Option Addr) (kn kc tn tc rn rc : Nat) (w : World) :
    Calls Try.prog 89 #[.agg #[.int .i64 k, .int .i64 tb, .int .i64 ix, .slice ka kn kc, .slice ta tn tc, .int .i64 mo, .slice ra rn rc]] w fun r w' => r = .returned (kN false false false false false false) ∧ Below w.heap.size w w' := by
  have b0 := ((Below.refl w.heap.size w).alloc (Nat.le_refl _) (.cells #[.int .i64 k, .int .i64 tb, .int .i64 ix, .slice ka kn kc, .slice ta tn tc, .int .i64 mo, .slice ra rn rc] 98)).alloc (by simp) (.cells #[.bool false, .bool false, .bool false, .bool false, .bool false, .bool false] 133)
  have hb := (BoxC.new w #[.int .i64 k, .int .i64 tb, .int .i64 ix, .slice ka kn kc, .slice ta tn tc, .int .i64 mo, .slice ra rn rc] 98).below ((Below.refl _ _).alloc (Nat.le_refl _) (.cells #[.bool false, .bool false, .bool false, .bool false, .bool false, .bool false] 133))
  have hr := BoxC.new (w.alloc (.cells #[.int .i64 k, .int .i64 tb, .int .i64 ix, .slice ka kn kc, .slice ta tn tc, .int .i64 mo, .slice ra rn rc] 98)) #[.bool false, .bool false, .bool false, .bool false, .bool false, .bool false] 133
  rw [World.size_alloc] at hr
  unfold kN
  rcases h with h | h
  · go_enter Try.func89, Try.ntmps89
    go_wp2_with fail
    generalize ((w.alloc (.cells #[.int .i64 k, .int .i64 tb, .int .i64 ix, .slice ka kn kc, .slice ta tn tc, .int .i64 mo, .slice ra rn rc] 98)).alloc (.cells #[.bool false, .bool false, .bool false, .bool false, .bool false, .bool false] 133)) = W0 at *
    refine bodyPost_ret (v := .agg #[.bool false, .bool false, .bool false, .bool false, .bool false, .bool false]) ?_ rfl ⟨rfl, b0⟩
    have x0 := hr.cell 0
    have x1 := hr.cell 1
    have x2 := hr.cell 2
    have x3 := hr.cell 3
    have x4 := hr.cell 4
    have x5 := hr.cell 5
    simp only [List.getElem?_toArray, List.getElem?_cons_zero, List.getElem?_cons_succ] at x0 x1 x2 x3 x4 x5
    simp [results, Try.results89, go_sem, x0, x1, x2, x3, x4, x5]
  · have h0 : ¬ k < 0 := by omega
    go_enter Try.func89, Try.ntmps89
    go_wp2_with fail
    generalize ((w.alloc (.cells #[.int .i64 k, .int .i64 tb, .int .i64 ix, .slice ka kn kc, .slice ta tn tc, .int .i64 mo, .slice ra rn rc] 98)).alloc (.cells #[.bool false, .bool false, .bool false, .bool false, .bool false, .bool false] 133)) = W0 at *
    refine bodyPost_ret (v := .agg #[.bool false, .bool false, .bool false, .bool false, .bool false, .bool false]) ?_ rfl ⟨rfl, b0⟩
    have x0 := hr.cell 0
    have x1 := hr.cell 1
    have x2 := hr.cell 2
    have x3 := hr.cell 3
    have x4 := hr.cell 4
    have x5 := hr.cell 5
    simp only [List.getElem?_toArray, List.getElem?_cons_zero, List.getElem?_cons_succ] at x0 x1 x2 x3 x4 x5
    simp [results, Try.results89, go_sem, x0, x1, x2, x3, x4, x5]
theorem kind_law (k tb ix mo : Int) (ka ta ra : Option Addr) (kn kc tn tc rn rc : Nat) (w : World) :
    Calls Try.prog 89 #[.agg #[.int .i64 k, .int .i64 tb, .int .i64 ix, .slice ka kn kc, .slice ta tn tc, .int .i64 mo, .slice ra rn rc]] w fun r w' => r = .returned (kN (kf k 0) (kf k 1) (kf k 2) (kf k 3) (kf k 4) (kf k 5)) ∧ Below w.heap.size w w' := by
  by_cases h : k < 0 ∨ 6 < k
  · simp only [kf_out k h]
    exact kind_out k h tb ix mo ka ta ra kn kc tn tc rn rc w
  · obtain ⟨n, rfl⟩ : ∃ n : Nat, k = (n : Int) := ⟨k.toNat, by omega⟩
    have hn : n ≤ 6 := by omega
    simp only [kf_in n hn]
    rcases (show n = 0 ∨ n = 1 ∨ n = 2 ∨ n = 3 ∨ n = 4 ∨ n = 5 ∨ n = 6 by omega) with rfl | rfl | rfl | rfl | rfl | rfl | rfl
    · exact kind_in 0 (by decide) false false false false false false (fun W => by kernel_rfl) tb ix mo ka ta ra kn kc tn tc rn rc w
    · exact kind_in 1 (by decide) true true false false false false (fun W => by kernel_rfl) tb ix mo ka ta ra kn kc tn tc rn rc w
    · exact kind_in 2 (by decide) true true true false false true (fun W => by kernel_rfl) tb ix mo ka ta ra kn kc tn tc rn rc w
    · exact kind_in 3 (by decide) true true true false false true (fun W => by kernel_rfl) tb ix mo ka ta ra kn kc tn tc rn rc w
    · exact kind_in 4 (by decide) true true false false false true (fun W => by kernel_rfl) tb ix mo ka ta ra kn kc tn tc rn rc w
    · exact kind_in 5 (by decide) true false false true false false (fun W => by kernel_rfl) tb ix mo ka ta ra kn kc tn tc rn rc w
    · exact kind_in 6 (by decide) true false false true true false (fun W => by kernel_rfl) tb ix mo ka ta ra kn kc tn tc rn rc w
end Go.Proofs.Ytkgcbhpgkcfkhaa
