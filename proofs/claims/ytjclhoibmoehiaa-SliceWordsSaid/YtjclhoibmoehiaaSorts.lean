/- Slices are compared as an order: the law's walk. -/
import Derived.Test.YtjclhoibmoehiaaKnown
import Derived.StillTailTactics
import Derived.Deep.RegionHeld3
namespace Go.Proofs.Ytjclhoibmoehiaa
open Go.ChangeShapes Go.WideShapes Go.ChangeAt Go.RowKit
open SM
set_option linter.unusedVariables false
set_option linter.unusedSimpArgs false

theorem cmpV_anti (a b : Int) : cmpV a b = -cmpV b a := by unfold cmpV; split <;> split <;> omega
theorem cmpV_zero (a b : Int) : cmpV a b = 0 ↔ a = b := by unfold cmpV; split <;> (try split) <;> omega
theorem cmpS_anti (x m y n : Int) : cmpS y n x m = -cmpS x m y n := by
  unfold cmpS; rw [cmpV_anti y x, cmpV_anti n m]; split <;> split <;> omega
theorem cmpS_zero (x m y n : Int) : cmpS x m y n = 0 ↔ x = y ∧ m = n := by
  unfold cmpS
  have h := cmpV_zero x y
  have k := cmpV_zero m n
  by_cases e : cmpV x y = 0
  · rw [if_neg (by simpa using e)]; exact ⟨fun q => ⟨h.1 e, k.1 q⟩, fun q => k.2 q.2⟩
  · rw [if_pos e]; exact ⟨fun q => absurd q e, fun q => absurd (h.2 q.1) e⟩
theorem cmpS_three (x m y n : Int) : cmpS x m y n = -1 ∨ cmpS x m y n = 0 ∨ cmpS x m y n = 1 := by
  unfold cmpS cmpV; repeat' split <;> omega
theorem cmpS_trans (x m y n z o : Int) (h : cmpS x m y n ≤ 0) (k : cmpS y n z o ≤ 0) : cmpS x m z o ≤ 0 := by
  unfold cmpS cmpV at *; repeat' split at h <;> repeat' split at k <;> repeat' split <;> omega

theorem compare_at (x m y n c : Int) (h : cmpS x m y n = c) (w : World) : Calls Try.prog 21 #[.agg #[.int .u64 x, .int .i64 m], .agg #[.int .u64 y, .int .i64 n]] w fun e w' => e = .returned (.int .i64 c) ∧ Below w.heap.size w w' := by
  subst h; exact compare_law x m y n w

structure Keep (X L : Nat → Int) (w W : World) : Prop where
  sls : Sls W (some ⟨w.heap.size, 0, none⟩) 3 X L
  lt : w.heap.size < W.heap.size
  below : Below w.heap.size w W
theorem Keep.next {X L : Nat → Int} {w W W' : World} (h : Keep X L w W) (hb : Below W.heap.size W W') : Keep X L w W' := ⟨h.sls.below hb, Nat.lt_of_lt_of_le h.lt hb.size, step_below h.below hb⟩
theorem Keep.drew {X L : Nat → Int} {w W : World} (h : Keep X L w W) : Keep X L w W.drew := ⟨h.sls, h.lt, h.below.drew⟩
theorem keep5 {X L : Nat → Int} {a b c d : Nat} {x y z o : Value} {w W W' : World} (h0 : W.cell? ⟨w.heap.size, a, none⟩ = some x) (h1 : W.cell? ⟨w.heap.size, b, none⟩ = some y) (h2 : W.cell? ⟨w.heap.size, c, none⟩ = some z) (h3 : W.cell? ⟨w.heap.size, d, none⟩ = some o) (h4 : Keep X L w W) (hb : Below W.heap.size W W') :
    W'.cell? ⟨w.heap.size, a, none⟩ = some x ∧ W'.cell? ⟨w.heap.size, b, none⟩ = some y ∧ W'.cell? ⟨w.heap.size, c, none⟩ = some z ∧ W'.cell? ⟨w.heap.size, d, none⟩ = some o ∧ Keep X L w W' :=
  ⟨(hb.cell (p := ⟨_, a, none⟩) h4.lt).trans h0, (hb.cell (p := ⟨_, b, none⟩) h4.lt).trans h1, (hb.cell (p := ⟨_, c, none⟩) h4.lt).trans h2, (hb.cell (p := ⟨_, d, none⟩) h4.lt).trans h3, h4.next hb⟩
theorem keep5d {X L : Nat → Int} {a b c d : Nat} {x y z o : Value} {w W : World} (h0 : W.cell? ⟨w.heap.size, a, none⟩ = some x) (h1 : W.cell? ⟨w.heap.size, b, none⟩ = some y) (h2 : W.cell? ⟨w.heap.size, c, none⟩ = some z) (h3 : W.cell? ⟨w.heap.size, d, none⟩ = some o) (h4 : Keep X L w W) :
    W.drew.cell? ⟨w.heap.size, a, none⟩ = some x ∧ W.drew.cell? ⟨w.heap.size, b, none⟩ = some y ∧ W.drew.cell? ⟨w.heap.size, c, none⟩ = some z ∧ W.drew.cell? ⟨w.heap.size, d, none⟩ = some o ∧ Keep X L w W.drew :=
  ⟨h0, h1, h2, h3, h4.drew⟩

theorem Keep.six {X L : Nat → Int} {w W : World} (h : Keep X L w W) : W.cell? ⟨w.heap.size, 0, none⟩ = some (.int .u64 (X 0)) ∧ W.cell? ⟨w.heap.size, 1, none⟩ = some (.int .i64 (L 0)) ∧ W.cell? ⟨w.heap.size, 2, none⟩ = some (.int .u64 (X 1)) ∧ W.cell? ⟨w.heap.size, 3, none⟩ = some (.int .i64 (L 1)) ∧ W.cell? ⟨w.heap.size, 4, none⟩ = some (.int .u64 (X 2)) ∧ W.cell? ⟨w.heap.size, 5, none⟩ = some (.int .i64 (L 2)) := by
  obtain ⟨b1, o1, e1, a0, a1⟩ := h.sls 0 (by omega)
  cases e1
  obtain ⟨b1, o1, e1, a2, a3⟩ := h.sls 1 (by omega)
  cases e1
  obtain ⟨b1, o1, e1, a4, a5⟩ := h.sls 2 (by omega)
  cases e1
  simp only [Nat.zero_mul, Nat.one_mul, Nat.zero_add, Nat.reduceMul, Nat.reduceAdd] at a0 a1 a2 a3 a4 a5
  exact ⟨a0, a1, a2, a3, a4, a5⟩
set_option maxHeartbeats 4000000 in
theorem sorts_law (X L : Nat → Int) (w : World) :
    Calls Try.prog 5 #[.agg #[.int .u64 (X 0), .int .i64 (L 0), .int .u64 (X 1), .int .i64 (L 1), .int .u64 (X 2), .int .i64 (L 2)]] w fun e w' => e = .returned (.bool true) ∧ Below w.heap.size w w' := by
  have hS0 : Sls (w.alloc (.cells #[.int .u64 (X 0), .int .i64 (L 0), .int .u64 (X 1), .int .i64 (L 1), .int .u64 (X 2), .int .i64 (L 2)] 46)) (some ⟨w.heap.size, 0, none⟩) 3 X L := by
    refine sls_new _ _ _ _ _ _ _ fun k hk => ?_
    rcases (show k = 0 ∨ k = 1 ∨ k = 2 from by omega) with rfl | rfl | rfl <;> exact ⟨rfl, rfl⟩
  go_enter Try.func5, Try.ntmps5
  go_wp2
  have K0 : Keep X L w (w.alloc (.cells #[.int .u64 (X 0), .int .i64 (L 0), .int .u64 (X 1), .int .i64 (L 1), .int .u64 (X 2), .int .i64 (L 2)] 46)) := ⟨hS0, by simp, (Below.refl _ _).alloc (Nat.le_refl _) _⟩
  generalize w.alloc (.cells #[.int .u64 (X 0), .int .i64 (L 0), .int .u64 (X 1), .int .i64 (L 1), .int .u64 (X 2), .int .i64 (L 2)] 46) = W0 at K0 ⊢
  clear hS0
  go_loopw [3] (fun i wr => ∃ k : Nat, k ≤ 3 ∧ i = .int .i64 k ∧ Keep X L w wr) (fun i _ => 3 - (intOf i).toNat)
  case atStart => exact ⟨0, by omega, rfl, K0⟩
  case round =>
    clear K0
    obtain ⟨i, hi, rfl, hK⟩ := hrel
    obtain ⟨wo, rfl⟩ : ∃ wo : World, wo = wr := ⟨_, rfl⟩
    by_cases hlt : i < 3
    · have hil : (i : Int) < 3 := by omega
      go_wp2
      go_loopw [4] (fun j wr => ∃ k : Nat, k ≤ 3 ∧ j = .int .i64 k ∧ Keep X L w wr) (fun j _ => 3 - (intOf j).toNat)
      case atStart => exact ⟨0, by omega, rfl, hK⟩
      case round =>
        clear hK
        obtain ⟨j, hj, rfl, hK⟩ := hrel
        by_cases hlj : j < 3
        · have hjl : (j : Int) < 3 := by omega
          obtain ⟨b1, o1, e1, a0, a1⟩ := hK.sls i hlt
          cases e1
          obtain ⟨b2, o2, e2, c0, c1⟩ := hK.sls j hlj
          cases e2
          simp only [Nat.zero_add] at a0 a1 c0 c1
          have hmx : Try.prog.follows .mixedOrders = true := by kernel_rfl
          go_wp2
          go_still_tail 6, (by kernel_rfl)
          change wpList _ _ _ _ _ wr.drew
          obtain ⟨d0, d1, f0, f1, K1⟩ := keep5d a0 a1 c0 c1 hK
          clear a0 a1 c0 c1 hK
          generalize wr.drew = W2 at d0 d1 f0 f1 K1 ⊢
          go_wp2_with fail
          refine (compare_law _ _ _ _ _).mono ?_; rintro e W3 ⟨rfl, B3⟩
          go_wp2_with fail
          obtain ⟨d0', d1', f0', f1', K3⟩ := keep5 d0 d1 f0 f1 K1 B3
          clear d0 d1 f0 f1 K1 B3
          have anti := cmpS_anti (X i) (L i) (X j) (L j)
          have zero := cmpS_zero (X i) (L i) (X j) (L j)
          rcases (show (X i = X j ∧ L i = L j) ∨ X i ≠ X j ∨ (X i = X j ∧ L i ≠ L j) from by omega) with ⟨h1, h2⟩ | h1 | ⟨h1, h2⟩
          · have hc := zero.2 ⟨h1, h2⟩
            have hk : cmpS (X j) (L j) (X i) (L i) = 0 := by omega
            rw [← h1] at f0' hk
            rw [← h2] at f1' hk
            have HK := Lib.hid hk
            rw [hc]
            clear anti zero hc hk h1 h2
            go_region_held3 (fun w' => w'.cell? ⟨w.heap.size, i * 2, none⟩ = some (.int .u64 (X i)) ∧ w'.cell? ⟨w.heap.size, i * 2 + 1, none⟩ = some (.int .i64 (L i)) ∧ w'.cell? ⟨w.heap.size, j * 2, none⟩ = some (.int .u64 (X i)) ∧ w'.cell? ⟨w.heap.size, j * 2 + 1, none⟩ = some (.int .i64 (L i)) ∧ Keep X L w w')
              (first | (exact keep5d d0' d1' f0' f1' K3) | (go_split_ands; exact keep5 ‹_› ‹_› ‹_› ‹_› ‹_› B4))
              (first | (go_at_call 21; refine (compare_at _ _ _ _ _ HK.out _).mono ?_; rintro e W4 ⟨rfl, B4⟩))
            go_split_ands
            go_wp2
            go_roundw
            case rel => exact ⟨j + 1, by omega, by go_num, ‹_›⟩
            case measure => simp [intOf]; omega
          · rcases cmpS_three (X i) (L i) (X j) (L j) with hc | hc | hc
            · have hk : cmpS (X j) (L j) (X i) (L i) = 1 := by omega
              have HK := Lib.hid hk
              have t1 : (X i == X j) = false := by simpa using h1
              rw [hc]
              clear anti hk zero hc h1
              go_region_held3 (fun w' => w'.cell? ⟨w.heap.size, i * 2, none⟩ = some (.int .u64 (X i)) ∧ w'.cell? ⟨w.heap.size, i * 2 + 1, none⟩ = some (.int .i64 (L i)) ∧ w'.cell? ⟨w.heap.size, j * 2, none⟩ = some (.int .u64 (X j)) ∧ w'.cell? ⟨w.heap.size, j * 2 + 1, none⟩ = some (.int .i64 (L j)) ∧ Keep X L w w')
                (first | (exact keep5d d0' d1' f0' f1' K3) | (go_split_ands; exact keep5 ‹_› ‹_› ‹_› ‹_› ‹_› B4))
                (first | (go_at_call 21; refine (compare_at _ _ _ _ _ HK.out _).mono ?_; rintro e W4 ⟨rfl, B4⟩))
              go_split_ands
              go_wp2
              go_roundw
              case rel => exact ⟨j + 1, by omega, by go_num, ‹_›⟩
              case measure => simp [intOf]; omega
            · exact absurd (zero.1 hc).1 h1
            · have hk : cmpS (X j) (L j) (X i) (L i) = -1 := by omega
              have HK := Lib.hid hk
              have t1 : (X i == X j) = false := by simpa using h1
              rw [hc]
              clear anti hk zero hc h1
              go_region_held3 (fun w' => w'.cell? ⟨w.heap.size, i * 2, none⟩ = some (.int .u64 (X i)) ∧ w'.cell? ⟨w.heap.size, i * 2 + 1, none⟩ = some (.int .i64 (L i)) ∧ w'.cell? ⟨w.heap.size, j * 2, none⟩ = some (.int .u64 (X j)) ∧ w'.cell? ⟨w.heap.size, j * 2 + 1, none⟩ = some (.int .i64 (L j)) ∧ Keep X L w w')
                (first | (exact keep5d d0' d1' f0' f1' K3) | (go_split_ands; exact keep5 ‹_› ‹_› ‹_› ‹_› ‹_› B4))
                (first | (go_at_call 21; refine (compare_at _ _ _ _ _ HK.out _).mono ?_; rintro e W4 ⟨rfl, B4⟩))
              go_split_ands
              go_wp2
              go_roundw
              case rel => exact ⟨j + 1, by omega, by go_num, ‹_›⟩
              case measure => simp [intOf]; omega
          · rcases cmpS_three (X i) (L i) (X j) (L j) with hc | hc | hc
            · have hk : cmpS (X j) (L j) (X i) (L i) = 1 := by omega
              rw [← h1] at hk f0'
              have HK := Lib.hid hk
              have t1 : (L i == L j) = false := by simpa using h2
              rw [hc]
              clear anti hk zero hc h1 h2
              go_region_held3 (fun w' => w'.cell? ⟨w.heap.size, i * 2, none⟩ = some (.int .u64 (X i)) ∧ w'.cell? ⟨w.heap.size, i * 2 + 1, none⟩ = some (.int .i64 (L i)) ∧ w'.cell? ⟨w.heap.size, j * 2, none⟩ = some (.int .u64 (X i)) ∧ w'.cell? ⟨w.heap.size, j * 2 + 1, none⟩ = some (.int .i64 (L j)) ∧ Keep X L w w')
                (first | (exact keep5d d0' d1' f0' f1' K3) | (go_split_ands; exact keep5 ‹_› ‹_› ‹_› ‹_› ‹_› B4))
                (first | (go_at_call 21; refine (compare_at _ _ _ _ _ HK.out _).mono ?_; rintro e W4 ⟨rfl, B4⟩))
              go_split_ands
              go_wp2
              go_roundw
              case rel => exact ⟨j + 1, by omega, by go_num, ‹_›⟩
              case measure => simp [intOf]; omega
            · exact absurd (zero.1 hc).2 h2
            · have hk : cmpS (X j) (L j) (X i) (L i) = -1 := by omega
              rw [← h1] at hk f0'
              have HK := Lib.hid hk
              have t1 : (L i == L j) = false := by simpa using h2
              rw [hc]
              clear anti hk zero hc h1 h2
              go_region_held3 (fun w' => w'.cell? ⟨w.heap.size, i * 2, none⟩ = some (.int .u64 (X i)) ∧ w'.cell? ⟨w.heap.size, i * 2 + 1, none⟩ = some (.int .i64 (L i)) ∧ w'.cell? ⟨w.heap.size, j * 2, none⟩ = some (.int .u64 (X i)) ∧ w'.cell? ⟨w.heap.size, j * 2 + 1, none⟩ = some (.int .i64 (L j)) ∧ Keep X L w w')
                (first | (exact keep5d d0' d1' f0' f1' K3) | (go_split_ands; exact keep5 ‹_› ‹_› ‹_› ‹_› ‹_› B4))
                (first | (go_at_call 21; refine (compare_at _ _ _ _ _ HK.out _).mono ?_; rintro e W4 ⟨rfl, B4⟩))
              go_split_ands
              go_wp2
              go_roundw
              case rel => exact ⟨j + 1, by omega, by go_num, ‹_›⟩
              case measure => simp [intOf]; omega
        · obtain rfl : j = 3 := by omega
          go_wp2
          go_roundw
          case rel => exact ⟨i + 1, by omega, by go_num, hK⟩
          case measure => simp [intOf]; omega
    · obtain rfl : i = 3 := by omega
      have tr := cmpS_trans (X 0) (L 0) (X 1) (L 1) (X 2) (L 2)
      obtain ⟨a0, a1, a2, a3, a4, a5⟩ := hK.six
      by_cases p01 : cmpS (X 0) (L 0) (X 1) (L 1) ≤ 0
      · by_cases p12 : cmpS (X 1) (L 1) (X 2) (L 2) ≤ 0
        · have p02 := tr p01 p12
          clear tr
          go_wp2_with fail
          refine (compare_law _ _ _ _ _).mono ?_; rintro e W3 ⟨rfl, B3⟩
          replace hK := hK.next B3
          clear a0 a1 a2 a3 a4 a5 B3
          obtain ⟨a0, a1, a2, a3, a4, a5⟩ := hK.six
          go_wp2_with fail
          refine (compare_law _ _ _ _ _).mono ?_; rintro e W4 ⟨rfl, B3⟩
          replace hK := hK.next B3
          clear a0 a1 a2 a3 a4 a5 B3
          obtain ⟨a0, a1, a2, a3, a4, a5⟩ := hK.six
          go_wp2_with fail
          refine (compare_law _ _ _ _ _).mono ?_; rintro e W5 ⟨rfl, B3⟩
          replace hK := hK.next B3
          clear a0 a1 a2 a3 a4 a5 B3
          go_wp2_with fail
          refine (known_law _).mono ?_; rintro e W9 ⟨rfl, B9⟩
          go_wp2
          go_ret
          exact ⟨rfl, step_below hK.below B9⟩
        · clear tr
          go_wp2_with fail
          refine (compare_law _ _ _ _ _).mono ?_; rintro e W3 ⟨rfl, B3⟩
          replace hK := hK.next B3
          clear a0 a1 a2 a3 a4 a5 B3
          obtain ⟨a0, a1, a2, a3, a4, a5⟩ := hK.six
          go_wp2_with fail
          refine (compare_law _ _ _ _ _).mono ?_; rintro e W4 ⟨rfl, B3⟩
          replace hK := hK.next B3
          clear a0 a1 a2 a3 a4 a5 B3
          go_wp2_with fail
          refine (known_law _).mono ?_; rintro e W9 ⟨rfl, B9⟩
          go_wp2
          go_ret
          exact ⟨rfl, step_below hK.below B9⟩
      · clear tr
        go_wp2_with fail
        refine (compare_law _ _ _ _ _).mono ?_; rintro e W3 ⟨rfl, B3⟩
        replace hK := hK.next B3
        clear a0 a1 a2 a3 a4 a5 B3
        go_wp2_with fail
        refine (known_law _).mono ?_; rintro e W9 ⟨rfl, B9⟩
        go_wp2
        go_ret
        exact ⟨rfl, step_below hK.below B9⟩

end Go.Proofs.Ytjclhoibmoehiaa
