/- Slices and their bytes as the chapter says: the law's walk. -/
import Derived.Test.YtjclhoibmoehiaaWrdJ
namespace Go.Proofs.Ytjclhoibmoehiaa
open Go.ChangeShapes Go.WideShapes Go.ChangeAt Go.RowKit
open SM
set_option linter.unusedVariables false
set_option linter.unusedSimpArgs false

def flf (X L : Nat → Int) : Nat → Nat → Int
  | 0, _ => 0
  | k + 1, j => if j < tot L k then flf X L k j else bytV (X k) (j - tot L k)
theorem flat_bvs (X L : Nat → Int) : ∀ k, flat X L k = bvs (flf X L k) (tot L k)
  | 0 => rfl
  | k + 1 => by
    rw [flat, tot, bvs_add, flat_bvs X L k]
    congr 1
    · unfold bvs; refine List.map_congr_left fun j hj => ?_
      simp only [flf]; rw [if_pos (List.mem_range.1 hj)]
    · unfold bytL; refine List.map_congr_left fun j hj => ?_
      simp only [flf]; rw [if_neg (by omega), show tot L k + j - tot L k = j from by omega]

structure KeepW (X L : Nat → Int) (w : World) (b off n : Nat) (va ya : Option Addr) (m : Nat) (f : Nat → Int) (W : World) : Prop where
  sls : Sls W (some ⟨b, off, none⟩) n X L
  below : Below w.heap.size w W
  bx : Bts W va m f
  bY : Bts W ya m f
theorem KeepW.next {X L : Nat → Int} {w : World} {b off n : Nat} {va ya : Option Addr} {m : Nat} {f : Nat → Int} {W W' : World} (h : KeepW X L w b off n va ya m f W) (hb : Below W.heap.size W W') : KeepW X L w b off n va ya m f W' :=
  ⟨h.sls.below hb, step_below h.below hb, h.bx.below hb, h.bY.below hb⟩
theorem KeepW.drew {X L : Nat → Int} {w : World} {b off n : Nat} {va ya : Option Addr} {m : Nat} {f : Nat → Int} {W : World} (h : KeepW X L w b off n va ya m f W) : KeepW X L w b off n va ya m f W.drew :=
  ⟨h.sls, h.below.drew, h.bx, h.bY⟩
theorem KeepW.all {X L : Nat → Int} {w : World} {b off n : Nat} {va ya : Option Addr} {m vc yc : Nat} {f : Nat → Int} {W : World} (h : KeepW X L w b off n va ya m f W) (k : Nat) (hk : k < n) :
    W.cell? ⟨b, off + k * 2, none⟩ = some (.int .u64 (X k)) ∧ W.cell? ⟨b, off + k * 2 + 1, none⟩ = some (.int .i64 (L k)) ∧ W.cell? ⟨b, off, none⟩ = some (.int .u64 (X 0)) ∧ W.cell? ⟨b, off + 1, none⟩ = some (.int .i64 (L 0)) ∧
    (convert 22 9 (.slice va m vc)).run Try.prog W = .ok (.string (strOfNums (fl f m))) W ∧ (convert 22 9 (.slice ya m yc)).run Try.prog W = .ok (.string (strOfNums (fl f m))) W ∧ KeepW X L w b off n va ya m f W := by
  obtain ⟨b1, o1, e1, a0, a1⟩ := h.sls k hk
  cases e1
  obtain ⟨b1, o1, e1, a2, a3⟩ := h.sls 0 (by omega)
  cases e1
  exact ⟨a0, a1, by simpa using a2, by simpa using a3, conv_bts W va m vc f h.bx, conv_bts W ya m yc f h.bY, h⟩

set_option maxRecDepth 100000 in
set_option maxHeartbeats 1000000 in
theorem words_long (a : Option Addr) (n cap : Nat) (h : 2000 < n) (w : World) :
    Calls Try.prog 4 #[.slice a n cap] w fun e w' => e = .returned (.bool true) ∧ Below w.heap.size w w' := by
  have h1i : 2000 < (n : Int) := by omega
  go_enter Try.func4, Try.ntmps4
  go_wp2_with fail
  refine (known_law _).mono ?_; rintro e W9 ⟨rfl, B9⟩
  go_wp2
  go_ret
  exact ⟨rfl, B9⟩
set_option maxRecDepth 100000 in
set_option maxHeartbeats 1000000 in
theorem words_none (a : Option Addr) (cap : Nat) (w : World) :
    Calls Try.prog 4 #[.slice a 0 cap] w fun e w' => e = .returned (.bool true) ∧ Below w.heap.size w w' := by
  go_enter Try.func4, Try.ntmps4
  go_wp2_with fail
  refine (join_none _ _ _).mono ?_; rintro e w' ⟨rfl, rfl⟩
  go_wp2_with fail
  refine (refjoin_none _ _ _).mono ?_; rintro e w' ⟨rfl, rfl⟩
  have q := conv_bts w none 0 0 (fun _ => 0) (fun k hk => absurd hk (by omega))
  go_wp2_with fail
  refine (num_law _ _).mono ?_; rintro e w' ⟨rfl, rfl⟩
  go_wp2_with fail
  clear q
  go_loopw [7] (fun i wr => i = .int .i64 0 ∧ wr = w) (fun i _ => 0)
  case atStart => exact ⟨rfl, rfl⟩
  case round =>
    obtain ⟨rfl, rfl⟩ := hrel
    go_wp2_with fail
    refine (known_law _).mono ?_; rintro e W9 ⟨rfl, B9⟩
    go_wp2
    go_ret
    exact ⟨rfl, B9⟩

open Classical in
noncomputable def jE (X L : Nat → Int) (n : Nat) : Int := if jall X L n then 0 else 2
open Classical in
noncomputable def jm (X L : Nat → Int) (n : Nat) : Nat := if jall X L n then tot L n else 0
def bE (x n : Int) : Int := if mayV x n = true then 0 else 2
def bm (x n : Int) : Nat := if mayV x n = true then bl n else 0

theorem join_uni (b off n cap : Nat) (X L : Nat → Int) (hX : Words X) (hn0 : 0 < n) (hn : n ≤ 1048576) (w : World) (hS : Sls w (some ⟨b, off, none⟩) n X L) :
    Calls Try.prog 15 #[.slice (some ⟨b, off, none⟩) n cap] w fun e w' => ∃ va vc, e = .returned (.tuple #[.slice va (jm X L n) vc, .int .i64 (jE X L n)]) ∧ Bts w' va (jm X L n) (flf X L n) ∧ Below w.heap.size w w' := by
  refine (join_some b off n cap X L hX hn0 hn w hS).mono ?_
  rintro e w' (⟨hj, v, rfl, ho, B⟩ | ⟨hj, rfl, B⟩)
  · rw [flat_bvs] at ho
    obtain ⟨va, vc, rfl, hv⟩ := own_bvs ho
    exact ⟨va, vc, by rw [jm, if_pos hj, jE, if_pos hj], by rw [jm, if_pos hj]; exact hv, B⟩
  · exact ⟨none, 0, by rw [jm, if_neg hj, jE, if_neg hj], by rw [jm, if_neg hj]; exact fun k hk => absurd hk (by omega), B⟩
theorem refjoin_uni (b off n cap : Nat) (X L : Nat → Int) (hX : Words X) (hn0 : 0 < n) (hn : n ≤ 1048576) (w : World) (hS : Sls w (some ⟨b, off, none⟩) n X L) :
    Calls Try.prog 16 #[.slice (some ⟨b, off, none⟩) n cap] w fun e w' => ∃ va vc, e = .returned (.tuple #[.slice va (jm X L n) vc, .int .i64 (jE X L n)]) ∧ Bts w' va (jm X L n) (flf X L n) ∧ Below w.heap.size w w' := by
  refine (refjoin_some b off n cap X L hX hn0 hn w hS).mono ?_
  rintro e w' (⟨hj, v, rfl, ho, B⟩ | ⟨hj, rfl, B⟩)
  · rw [flat_bvs] at ho
    obtain ⟨va, vc, rfl, hv⟩ := own_bvs ho
    exact ⟨va, vc, by rw [jm, if_pos hj, jE, if_pos hj], by rw [jm, if_pos hj]; exact hv, B⟩
  · exact ⟨none, 0, by rw [jm, if_neg hj, jE, if_neg hj], by rw [jm, if_neg hj]; exact fun k hk => absurd hk (by omega), B⟩
theorem bytes_uni (x n : Int) (hx : 0 ≤ x) (hx1 : x < 18446744073709551616) (w : World) :
    Calls Try.prog 17 #[.agg #[.int .u64 x, .int .i64 n]] w fun e w' => ∃ va vc, e = .returned (.tuple #[.slice va (bm x n) vc, .int .i64 (bE x n)]) ∧ Bts w' va (bm x n) (bytV x) ∧ Below w.heap.size w w' := by
  by_cases hm : mayV x n = true
  · refine (bytes_any x n hx hx1 hm w).mono ?_
    rintro e w' ⟨v, rfl, ho, B⟩
    obtain ⟨va, vc, rfl, _, hv⟩ := own_slice ho
    exact ⟨va, vc, by rw [bm, if_pos hm, bE, if_pos hm], by rw [bm, if_pos hm]; exact hv, B⟩
  · refine (bytes_bad x n hx hx1 (by simpa using hm) w).mono ?_
    rintro e w' ⟨rfl, B⟩
    exact ⟨none, 0, by rw [bm, if_neg hm, bE, if_neg hm], by rw [bm, if_neg hm]; exact fun k hk => absurd hk (by omega), B⟩
theorem refbytes_uni (x n : Int) (hx : 0 ≤ x) (hx1 : x < 18446744073709551616) (w : World) :
    Calls Try.prog 18 #[.agg #[.int .u64 x, .int .i64 n]] w fun e w' => ∃ va vc, e = .returned (.tuple #[.slice va (bm x n) vc, .int .i64 (bE x n)]) ∧ Bts w' va (bm x n) (bytV x) ∧ Below w.heap.size w w' := by
  by_cases hm : mayV x n = true
  · refine (refbytes_any x n hx hx1 hm w).mono ?_
    rintro e w' ⟨v, rfl, ho, B⟩
    obtain ⟨va, vc, rfl, _, hv⟩ := own_slice ho
    exact ⟨va, vc, by rw [bm, if_pos hm, bE, if_pos hm], by rw [bm, if_pos hm]; exact hv, B⟩
  · refine (refbytes_bad x n hx hx1 (by simpa using hm) w).mono ?_
    rintro e w' ⟨rfl, B⟩
    exact ⟨none, 0, by rw [bm, if_neg hm, bE, if_neg hm], by rw [bm, if_neg hm]; exact fun k hk => absurd hk (by omega), B⟩

set_option maxRecDepth 100000 in
set_option maxHeartbeats 8000000 in
theorem words_some (b off n cap : Nat) (X L : Nat → Int) (hX : Words X) (hn0 : 0 < n) (hn : n ≤ 2000) (w : World) (hS : Sls w (some ⟨b, off, none⟩) n X L) :
    Calls Try.prog 4 #[.slice (some ⟨b, off, none⟩) n cap] w fun e w' => e = .returned (.bool true) ∧ Below w.heap.size w w' := by
  have hni : ¬ 2000 < (n : Int) := by omega
  have HS := Lib.hid hS
  have HX := Lib.hid hX
  clear hS hX
  go_enter Try.func4, Try.ntmps4
  go_wp2_with fail
  refine (join_uni b off n cap X L HX.out hn0 (by omega) w HS.out).mono ?_
  rintro e W1 ⟨va, vc, rfl, hv1, B1⟩
  go_wp2_with fail
  refine (refjoin_uni b off n cap X L HX.out hn0 (by omega) W1 (HS.out.below B1)).mono ?_
  rintro e W2 ⟨ya, yc, rfl, hv2, B2⟩
  have q1 := conv_bts W2 _ _ vc _ (hv1.below B2)
  have q2 := conv_bts W2 _ _ yc _ hv2
  replace B2 := step_below B1 B2
  clear hv1 hv2 B1
  go_wp2_with fail
  refine (num_law _ _).mono ?_; rintro e w' ⟨rfl, rfl⟩
  go_wp2_with fail
  clear q1 q2
  go_loopw [7] (fun i wr => ∃ k : Nat, k ≤ n ∧ i = .int .i64 k ∧ Below w.heap.size w wr) (fun i _ => n - (intOf i).toNat)
  case atStart => exact ⟨0, by omega, rfl, B2⟩
  case round =>
    clear B2
    obtain ⟨k, hk, rfl, B⟩ := hrel
    by_cases hlt : k < n
    · have hkl : (k : Int) < (n : Int) := by omega
      have h0l : (0 : Int) < (n : Int) := by omega
      obtain ⟨b', off', e, c0, c1⟩ := HS.out.below B k hlt
      cases e
      have hXk := HX.out k
      go_wp2_with fail
      refine (bytes_uni _ _ hXk.1 hXk.2 _).mono ?_
      rintro e W1 ⟨va, vc, rfl, hv1, B1⟩
      replace B1 := step_below B B1
      clear c0 c1 B
      obtain ⟨b', off', e, c0, c1⟩ := HS.out.below B1 k hlt
      cases e
      go_wp2_with fail
      refine (refbytes_uni _ _ hXk.1 hXk.2 _).mono ?_
      rintro e W2 ⟨ya, yc, rfl, hv2, B2⟩
      have hv1' := hv1.below B2
      replace B2 := step_below B1 B2
      have KW : KeepW X L w b off n va ya (bm (X k) (L k)) (bytV (X k)) W2 := ⟨HS.out.below B2, B2, hv1', hv2⟩
      clear hv1 hv1' hv2 c0 c1 B1 B2
      go_wp2_with fail
      have hxb := Lib.hid hXk
      clear hXk
      have hmx : Try.prog.follows .mixedOrders = true := by kernel_rfl
      go_region_held3 (fun W => W.cell? ⟨b, off + k * 2, none⟩ = some (.int .u64 (X k)) ∧ W.cell? ⟨b, off + k * 2 + 1, none⟩ = some (.int .i64 (L k)) ∧ W.cell? ⟨b, off, none⟩ = some (.int .u64 (X 0)) ∧ W.cell? ⟨b, off + 1, none⟩ = some (.int .i64 (L 0)) ∧
          (convert 22 9 (.slice va (bm (X k) (L k)) vc)).run Try.prog W = .ok (.string (strOfNums (fl (bytV (X k)) (bm (X k) (L k))))) W ∧ (convert 22 9 (.slice ya (bm (X k) (L k)) yc)).run Try.prog W = .ok (.string (strOfNums (fl (bytV (X k)) (bm (X k) (L k))))) W ∧ KeepW X L w b off n va ya (bm (X k) (L k)) (bytV (X k)) W)
        (first | (exact KW.drew.all k hlt) | (go_split_ands; exact (KeepW.next ‹_› B4).all k hlt) | (go_split_ands; exact KeepW.all ‹_› k hlt))
        (first | (go_at_call 19; refine (may_any _ _ hxb.out.1 hxb.out.2 _).mono ?_; rintro e W4 ⟨rfl, B4⟩) | (go_at_call 20; refine (refmay_any _ _ hxb.out.1 hxb.out.2 _).mono ?_; rintro e W4 ⟨rfl, B4⟩) | (go_at_call 11; refine (num_law _ _).mono ?_; rintro e W4 ⟨rfl, rfl⟩) | (go_at_call 21; refine (compare_law _ _ _ _ _).mono ?_; rintro e W4 ⟨rfl, B4⟩) | (go_at_call 22; refine (refcompare_law _ _ _ _ _).mono ?_; rintro e W4 ⟨rfl, B4⟩))
      go_split_ands
      have hB := KeepW.below ‹_›
      go_wp2_with fail
      go_roundw
      case rel => exact ⟨k + 1, by omega, by go_num, hB⟩
      case measure => simp [intOf]; omega
    · have hkl : ¬ (k : Int) < (n : Int) := by omega
      go_wp2_with fail
      refine (known_law _).mono ?_; rintro e W9 ⟨rfl, B9⟩
      go_wp2
      go_ret
      exact ⟨rfl, step_below B B9⟩
theorem words_law (w : World) (a : Option Addr) (n cap : Nat) (h : n = 0 ∨ ∃ b off X L, a = some ⟨b, off, none⟩ ∧ Words X ∧ Sls w (some ⟨b, off, none⟩) n X L) :
    Calls Try.prog 4 #[.slice a n cap] w fun e w' => e = .returned (.bool true) ∧ Below w.heap.size w w' := by
  rcases h with rfl | ⟨b, off, X, L, rfl, hX, hS⟩
  · exact words_none a cap w
  · by_cases hn : n ≤ 2000
    · by_cases h0 : n = 0
      · subst h0; exact words_none _ cap w
      · exact words_some b off n cap X L hX (by omega) hn w hS
    · exact words_long _ n cap (by omega) w
end Go.Proofs.Ytjclhoibmoehiaa
