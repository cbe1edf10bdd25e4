/- One slice: there and back. -/
import Derived.Test.YtjclhoibmoehiaaKnown
import Derived.Laws.BytesArg
namespace Go.Proofs.Ytjclhoibmoehiaa
open Go.ChangeShapes Go.WideShapes Go.ChangeAt Go.RowKit
open SM
set_option linter.unusedVariables false
set_option linter.unusedSimpArgs false

def fl (f : Nat → Int) (n : Nat) : List Int := (List.range n).map f
theorem fl_at (f : Nat → Int) (n i : Nat) (h : i < n) : (fl f n).getD i 0 = f i := by simp [fl, h]
theorem conv_bts (w : World) (a : Option Addr) (len cap : Nat) (f : Nat → Int) (h : Bts w a len f) : (convert 22 9 (.slice a len cap)).run Try.prog w = .ok (.string (strOfNums (fl f len))) w := by
  by_cases h0 : len = 0
  · subst h0
    cases a with
    | none => exact run_convert_bytes_nil w 22 5 Try.underlying22 Try.underlying5 0 cap 9 Try.underlying9
    | some a =>
      rw [run_convert_bytes_string w 22 9 5 _ 0 cap Try.underlying22 Try.underlying5 Try.underlying9, run_bytesToString w a 0 cap [] (run_loadCells_list w a [] (fun j v hj => by simp at hj))]
      rfl
  · obtain ⟨b, off, rfl, _⟩ := h 0 (by omega)
    refine run_convert_bytes_arg w 22 5 Try.underlying22 Try.underlying5 b off len cap (fl f len) (by simp [fl]) (fun i hi => ?_) 9 Try.underlying9
    obtain ⟨b', off', e, hc⟩ := h i hi
    cases e
    rw [fl_at f len i hi]; exact hc
theorem fl_congr (f g : Nat → Int) (n : Nat) (h : ∀ i < n, f i = g i) : fl f n = fl g n := List.map_congr_left fun i hi => h i (List.mem_range.1 hi)

theorem own_slice {w : World} {base n : Nat} {v : Value} {x : Int} (h : w.ownsRow base 5 1 v n (bytL x n)) : ∃ a cap, v = .slice a n cap ∧ n ≤ cap ∧ Bts w a n (bytV x) := by
  have h' := h
  rcases h.2 with ⟨e, h0⟩ | ⟨g, cap, cur, rfl, _, _, hc, _⟩
  · subst h0; exact ⟨none, 0, e, Nat.le_refl _, fun k hk => absurd hk (by omega)⟩
  · exact ⟨_, cap, rfl, hc, fun k hk => ⟨g, 0, rfl, by rw [Nat.zero_add, h'.cellAt k (by omega)]; simp [bytL, hk]⟩⟩

theorem byt_fits (x : Int) : Fits (bytV x) := fun i => by unfold bytV; omega
theorem lt9 {k : Nat} (h : k ≤ 8) : k = 0 ∨ k = 1 ∨ k = 2 ∨ k = 3 ∨ k = 4 ∨ k = 5 ∨ k = 6 ∨ k = 7 ∨ k = 8 := by omega
theorem may_low (x : Int) (k : Nat) (hk : k ≤ 8) (hx : 0 ≤ x) (hx1 : x < 18446744073709551616) (h : mayV x k = true) : x % 2 ^ (64 - 8 * k) = 0 := by
  unfold mayV at h
  rcases lt9 hk with rfl | rfl | rfl | rfl | rfl | rfl | rfl | rfl | rfl <;> simp [shlV, IntKind.wrap_u64] at h ⊢ <;> omega
theorem wd_byt (x : Int) (k : Nat) (hk : k ≤ 8) (hx : 0 ≤ x) (hx1 : x < 18446744073709551616) (h : x % 2 ^ (64 - 8 * k) = 0) : wd (bytV x) k = x := by
  rcases lt9 hk with rfl | rfl | rfl | rfl | rfl | rfl | rfl | rfl | rfl <;> simp [wd, bytV] at h ⊢ <;> omega
theorem byt_wd (f : Nat → Int) (hf : Fits f) (k : Nat) (hk : k ≤ 8) : ∀ i < k, bytV (wd f k) i = f i := fun i hi => by
  have h0 := hf 0; have h1 := hf 1; have h2 := hf 2; have h3 := hf 3; have h4 := hf 4; have h5 := hf 5; have h6 := hf 6; have h7 := hf 7
  rcases lt9 hk with rfl | rfl | rfl | rfl | rfl | rfl | rfl | rfl | rfl <;> rcases lt8 (show i < 8 by omega) with rfl | rfl | rfl | rfl | rfl | rfl | rfl | rfl <;> first | omega | (simp [wd, bytV]; omega)
theorem may_wd (f : Nat → Int) (hf : Fits f) (k : Nat) (hk : k ≤ 8) : mayV (wd f k) k = true := by
  have h := wd_bd f hf k hk
  unfold mayV
  rcases lt9 hk with rfl | rfl | rfl | rfl | rfl | rfl | rfl | rfl | rfl <;> simp [shlV, IntKind.wrap_u64] at h ⊢ <;> omega
theorem of_back (x : Int) (k : Nat) (hk : k ≤ 8) (hx : 0 ≤ x) (hx1 : x < 18446744073709551616) (h : mayV x k = true) : ofV (bytV x) k 0 = (x, (k : Int), 0) := by
  have e1 : slW (bytV x) k 0 = x := by
    unfold slW
    rw [show min (k - 8 * 0) 8 = k from by omega, show (fun j => bytV x (8 * 0 + j)) = bytV x from by funext j; rw [Nat.mul_zero, Nat.zero_add]]
    exact wd_byt x k hk hx hx1 (may_low x k hk hx hx1 h)
  have e2 : slL k 0 = k := by unfold slL; omega
  rw [ofV, if_pos (by unfold cnt; omega), e1, e2]
theorem of_short1 (f : Nat → Int) (k : Nat) (hk : k ≤ 8) : ofV f k 0 = (wd f k, (k : Int), 0) := by
  have e1 : slW f k 0 = wd f k := by
    unfold slW
    rw [show min (k - 8 * 0) 8 = k from by omega, show (fun j => f (8 * 0 + j)) = f from by funext j; rw [Nat.mul_zero, Nat.zero_add]]
  have e2 : slL k 0 = k := by unfold slL; omega
  rw [ofV, if_pos (by unfold cnt; omega), e1, e2]
theorem cnt_one (k : Nat) (hk : k ≤ 8) : cnt k = 1 := by unfold cnt; omega
theorem bytes_le8 (x : Int) (k : Nat) (hx : 0 ≤ x) (hx1 : x < 18446744073709551616) (hk : k ≤ 8) (h : mayV x k = true) (w : World) :
    Calls Try.prog 17 #[.agg #[.int .u64 x, .int .i64 k]] w fun e w' => ∃ v, e = .returned (.tuple #[v, .int .i64 0]) ∧ w'.ownsRow (w.heap.size + 1) 5 1 v k (bytL x k) ∧ Below w.heap.size w w' := by
  rcases (show k < 8 ∨ k = 8 from by omega) with h8 | rfl
  · exact bytes_few x k hx hx1 h8 h w
  · exact bytes_eight x hx hx1 h w

set_option maxRecDepth 100000 in
set_option maxHeartbeats 2000000 in
theorem single_bad_long (a : Option Addr) (len cap : Nat) (x n : Int) (h8 : 9 ≤ len) (hx : 0 ≤ x) (hx1 : x < 18446744073709551616) (hm : mayV x n = false) (w : World) :
    Calls Try.prog 6 #[.slice a len cap, .agg #[.int .u64 x, .int .i64 n]] w fun e w' => e = .returned (.bool true) ∧ Below w.heap.size w w' := by
  have hlk : (8 : Int) < (len : Int) := by omega
  go_enter Try.func6, Try.ntmps6
  go_wp2_with fail
  refine (bytes_bad _ _ hx hx1 hm _).mono ?_; rintro e W1 ⟨rfl, B1⟩
  have S := (box2_new w x n).below B1
  replace B1 := step_below ((Below.refl _ _).alloc (Nat.le_refl _) _) B1
  have c0 := S.c0
  have c1 := S.c1
  go_wp2_with fail
  clear c0 c1
  refine (may_any _ _ hx hx1 _).mono ?_; rintro e W2 ⟨rfl, B2⟩
  rw [hm]
  replace S := S.below B2
  replace B2 := step_below B1 B2
  clear B1
  have c0 := S.c0
  have c1 := S.c1
  go_wp2_with fail
  refine (num_law _ _).mono ?_; rintro e w' ⟨rfl, rfl⟩
  go_wp2_with fail
  refine (num_law _ _).mono ?_; rintro e w' ⟨rfl, rfl⟩
  go_wp2_with fail
  refine (num_law _ _).mono ?_; rintro e w' ⟨rfl, rfl⟩
  go_wp2_with fail
  refine (known_law _).mono ?_; rintro e W9 ⟨rfl, B9⟩
  go_wp2
  go_ret
  exact ⟨rfl, step_below B2 B9⟩

set_option maxRecDepth 100000 in
set_option maxHeartbeats 2000000 in
theorem single_bad_short (a : Option Addr) (len cap : Nat) (x n : Int) (fz : Nat → Int) (hfz : Fits fz) (hlc : len ≤ cap) (h8 : len ≤ 8) (hx : 0 ≤ x) (hx1 : x < 18446744073709551616) (hm : mayV x n = false) (w : World) (hK : Bts w a len fz) :
    Calls Try.prog 6 #[.slice a len cap, .agg #[.int .u64 x, .int .i64 n]] w fun e w' => e = .returned (.bool true) ∧ Below w.heap.size w w' := by
  have hlk : (len : Int) ≤ 8 := by omega
  have hwb0 := wd_bd fz hfz len h8
  have hp : (0 : Int) < 2 ^ (64 - 8 * len) := by rcases lt9 h8 with h | h | h | h | h | h | h | h | h <;> rw [h] <;> decide
  have hwb : 0 ≤ wd fz len ∧ wd fz len < 18446744073709551616 := ⟨hwb0.1, by omega⟩
  clear hwb0 hp
  have HK := Lib.hid hK
  clear hK
  go_enter Try.func6, Try.ntmps6
  go_wp2_with fail
  refine (bytes_bad _ _ hx hx1 hm _).mono ?_; rintro e W1 ⟨rfl, B1⟩
  have S := (box2_new w x n).below B1
  replace B1 := step_below ((Below.refl _ _).alloc (Nat.le_refl _) _) B1
  have c0 := S.c0
  have c1 := S.c1
  go_wp2_with fail
  clear c0 c1
  refine (may_any _ _ hx hx1 _).mono ?_; rintro e W2 ⟨rfl, B2⟩
  rw [hm]
  replace S := S.below B2
  replace B2 := step_below B1 B2
  clear B1
  have c0 := S.c0
  have c1 := S.c1
  go_wp2_with fail
  refine (num_law _ _).mono ?_; rintro e w' ⟨rfl, rfl⟩
  go_wp2_with fail
  refine (num_law _ _).mono ?_; rintro e w' ⟨rfl, rfl⟩
  go_wp2_with fail
  refine (num_law _ _).mono ?_; rintro e w' ⟨rfl, rfl⟩
  have K0 := Lib.hid (HK.out.below B2)
  go_wp2_with fail
  refine (Of_any _ len cap fz 0 (by omega) hlc _ hfz K0.out).mono ?_; rintro e W5 ⟨rfl, B5⟩
  rw [of_short1 fz len h8]
  have K1 := Lib.hid (bts_past (K0.out.below B5) (.cells #[.int .u64 (wd fz len), .int .i64 len] 26))
  have X9 := box2_new W5 (wd fz len) len
  replace B5 := step_below B2 B5
  replace B5 := B5.alloc B5.size (.cells #[.int .u64 (wd fz len), .int .i64 len] 26)
  clear B2 K0
  go_wp2_with fail
  refine (bytes_le8 _ len hwb.1 (by omega) h8 (may_wd fz hfz len h8) _).mono ?_; rintro e W6 ⟨v6, rfl, ho, B6⟩
  obtain ⟨va6, vc6, rfl, hvc6, hv6⟩ := own_slice ho
  replace X9 := X9.below B6
  have K2 := K1.out.below B6
  have q1 := conv_bts W6 _ _ vc6 _ hv6
  have q2 := conv_bts W6 _ _ cap _ K2
  rw [fl_congr _ _ len (byt_wd fz hfz len h8)] at q1
  replace B6 := step_below B5 B6
  have d1 := X9.c1
  clear ho hv6 K1 K2 B5
  go_wp2_with fail
  refine (num_law _ _).mono ?_; rintro e w' ⟨rfl, rfl⟩
  go_wp2_with fail
  refine (num_law _ _).mono ?_; rintro e w' ⟨rfl, rfl⟩
  go_wp2_with fail
  clear q1 q2 d1 X9
  refine (count_any _ len _ (by omega) _).mono ?_; rintro e w' ⟨rfl, rfl⟩
  rw [cnt_one len h8]
  go_wp2_with fail
  refine (known_law _).mono ?_; rintro e W9 ⟨rfl, B9⟩
  go_wp2
  go_ret
  exact ⟨rfl, step_below B6 B9⟩

set_option maxRecDepth 100000 in
set_option maxHeartbeats 2000000 in
theorem single_le8_long (a : Option Addr) (len cap : Nat) (x : Int) (k : Nat) (hk : k ≤ 8) (h8 : 9 ≤ len) (hx : 0 ≤ x) (hx1 : x < 18446744073709551616) (hm : mayV x k = true) (w : World) :
    Calls Try.prog 6 #[.slice a len cap, .agg #[.int .u64 x, .int .i64 k]] w fun e w' => e = .returned (.bool true) ∧ Below w.heap.size w w' := by
  have hlk : (8 : Int) < (len : Int) := by omega
  have hkk : (k : Int) ≤ 8 := by omega
  go_enter Try.func6, Try.ntmps6
  go_wp2_with fail
  refine (bytes_le8 _ k hx hx1 hk hm _).mono ?_; rintro e W1 ⟨v, rfl, ho, B1⟩
  obtain ⟨va, vc, rfl, hvc, hv⟩ := own_slice ho
  clear ho
  have V := Lib.hid hv
  clear hv
  have S := (box2_new w x k).below B1
  replace B1 := step_below ((Below.refl _ _).alloc (Nat.le_refl _) _) B1
  have c0 := S.c0
  have c1 := S.c1
  go_wp2_with fail
  clear c0 c1
  refine (may_any _ _ hx hx1 _).mono ?_; rintro e W2 ⟨rfl, B2⟩
  rw [hm]
  replace S := S.below B2
  replace V := Lib.hid (V.out.below B2)
  replace B2 := step_below B1 B2
  clear B1
  have c0 := S.c0
  have c1 := S.c1
  go_wp2_with fail
  refine (num_law _ _).mono ?_; rintro e w' ⟨rfl, rfl⟩
  go_wp2_with fail
  refine (num_law _ _).mono ?_; rintro e w' ⟨rfl, rfl⟩
  go_wp2_with fail
  refine (num_law _ _).mono ?_; rintro e w' ⟨rfl, rfl⟩
  go_wp2_with fail
  clear c0 c1
  refine (Of_any _ k vc (bytV x) 0 (by omega) hvc _ (byt_fits x) V.out).mono ?_; rintro e W3 ⟨rfl, B3⟩
  rw [of_back x k hk hx hx1 hm]
  replace S := S.below B3
  replace B3 := step_below B2 B3
  clear B2 V
  have c0 := S.c0
  have c1 := S.c1
  have l0 := S.lt
  go_wp2_with fail
  refine (num_law _ _).mono ?_; rintro e w' ⟨rfl, rfl⟩
  go_wp2_with fail
  clear c0 c1 l0
  refine (count_any _ k _ (by omega) _).mono ?_; rintro e w' ⟨rfl, rfl⟩
  rw [cnt_one k hk]
  have B4 := B3.alloc B3.size (.cells #[.int .u64 x, .int .i64 k] 26)
  clear S
  go_wp2_with fail
  refine (known_law _).mono ?_; rintro e W9 ⟨rfl, B9⟩
  go_wp2
  go_ret
  exact ⟨rfl, step_below B4 B9⟩

set_option maxRecDepth 100000 in
set_option maxHeartbeats 2000000 in
theorem single_le8_short (a : Option Addr) (len cap : Nat) (x : Int) (k : Nat) (hk : k ≤ 8) (fz : Nat → Int) (hfz : Fits fz) (hlc : len ≤ cap) (h8 : len ≤ 8) (hx : 0 ≤ x) (hx1 : x < 18446744073709551616) (hm : mayV x k = true) (w : World) (hK : Bts w a len fz) :
    Calls Try.prog 6 #[.slice a len cap, .agg #[.int .u64 x, .int .i64 k]] w fun e w' => e = .returned (.bool true) ∧ Below w.heap.size w w' := by
  have hlk : (len : Int) ≤ 8 := by omega
  have hwb0 := wd_bd fz hfz len h8
  have hp : (0 : Int) < 2 ^ (64 - 8 * len) := by rcases lt9 h8 with h | h | h | h | h | h | h | h | h <;> rw [h] <;> decide
  have hwb : 0 ≤ wd fz len ∧ wd fz len < 18446744073709551616 := ⟨hwb0.1, by omega⟩
  clear hwb0 hp
  have HK := Lib.hid hK
  clear hK
  have hkk : (k : Int) ≤ 8 := by omega
  go_enter Try.func6, Try.ntmps6
  go_wp2_with fail
  refine (bytes_le8 _ k hx hx1 hk hm _).mono ?_; rintro e W1 ⟨v, rfl, ho, B1⟩
  obtain ⟨va, vc, rfl, hvc, hv⟩ := own_slice ho
  clear ho
  have V := Lib.hid hv
  clear hv
  have S := (box2_new w x k).below B1
  replace B1 := step_below ((Below.refl _ _).alloc (Nat.le_refl _) _) B1
  have c0 := S.c0
  have c1 := S.c1
  go_wp2_with fail
  clear c0 c1
  refine (may_any _ _ hx hx1 _).mono ?_; rintro e W2 ⟨rfl, B2⟩
  rw [hm]
  replace S := S.below B2
  replace V := Lib.hid (V.out.below B2)
  replace B2 := step_below B1 B2
  clear B1
  have c0 := S.c0
  have c1 := S.c1
  go_wp2_with fail
  refine (num_law _ _).mono ?_; rintro e w' ⟨rfl, rfl⟩
  go_wp2_with fail
  refine (num_law _ _).mono ?_; rintro e w' ⟨rfl, rfl⟩
  go_wp2_with fail
  refine (num_law _ _).mono ?_; rintro e w' ⟨rfl, rfl⟩
  go_wp2_with fail
  clear c0 c1
  refine (Of_any _ k vc (bytV x) 0 (by omega) hvc _ (byt_fits x) V.out).mono ?_; rintro e W3 ⟨rfl, B3⟩
  rw [of_back x k hk hx hx1 hm]
  replace S := S.below B3
  replace B3 := step_below B2 B3
  clear B2 V
  have c0 := S.c0
  have c1 := S.c1
  have l0 := S.lt
  go_wp2_with fail
  refine (num_law _ _).mono ?_; rintro e w' ⟨rfl, rfl⟩
  go_wp2_with fail
  clear c0 c1 l0
  refine (count_any _ k _ (by omega) _).mono ?_; rintro e w' ⟨rfl, rfl⟩
  rw [cnt_one k hk]
  have B4 := B3.alloc B3.size (.cells #[.int .u64 x, .int .i64 k] 26)
  clear S
  have K0 := Lib.hid (HK.out.below B4)
  go_wp2_with fail
  refine (Of_any _ len cap fz 0 (by omega) hlc _ hfz K0.out).mono ?_; rintro e W5 ⟨rfl, B5⟩
  rw [of_short1 fz len h8]
  have K1 := Lib.hid (bts_past (K0.out.below B5) (.cells #[.int .u64 (wd fz len), .int .i64 len] 26))
  have X9 := box2_new W5 (wd fz len) len
  replace B5 := step_below B4 B5
  replace B5 := B5.alloc B5.size (.cells #[.int .u64 (wd fz len), .int .i64 len] 26)
  clear B4 K0
  go_wp2_with fail
  refine (bytes_le8 _ len hwb.1 (by omega) h8 (may_wd fz hfz len h8) _).mono ?_; rintro e W6 ⟨v6, rfl, ho, B6⟩
  obtain ⟨va6, vc6, rfl, hvc6, hv6⟩ := own_slice ho
  replace X9 := X9.below B6
  have K2 := K1.out.below B6
  have q1 := conv_bts W6 _ _ vc6 _ hv6
  have q2 := conv_bts W6 _ _ cap _ K2
  rw [fl_congr _ _ len (byt_wd fz hfz len h8)] at q1
  replace B6 := step_below B5 B6
  have d1 := X9.c1
  clear ho hv6 K1 K2 B5
  go_wp2_with fail
  refine (num_law _ _).mono ?_; rintro e w' ⟨rfl, rfl⟩
  go_wp2_with fail
  refine (num_law _ _).mono ?_; rintro e w' ⟨rfl, rfl⟩
  go_wp2_with fail
  clear q1 q2 d1 X9
  refine (count_any _ len _ (by omega) _).mono ?_; rintro e w' ⟨rfl, rfl⟩
  rw [cnt_one len h8]
  go_wp2_with fail
  refine (known_law _).mono ?_; rintro e W9 ⟨rfl, B9⟩
  go_wp2
  go_ret
  exact ⟨rfl, step_below B6 B9⟩

set_option maxRecDepth 100000 in
set_option maxHeartbeats 2000000 in
theorem single_nine_long (a : Option Addr) (len cap : Nat) (x : Int) (h8 : 9 ≤ len) (hx : 0 ≤ x) (hx1 : x < 18446744073709551616) (hm : mayV x 9 = true) (w : World) :
    Calls Try.prog 6 #[.slice a len cap, .agg #[.int .u64 x, .int .i64 9]] w fun e w' => e = .returned (.bool true) ∧ Below w.heap.size w w' := by
  have hlk : (8 : Int) < (len : Int) := by omega
  go_enter Try.func6, Try.ntmps6
  go_wp2_with fail
  refine (bytes_nine _ hx hx1 hm _).mono ?_; rintro e W1 ⟨v, rfl, ho, B1⟩
  obtain ⟨va, vc, rfl, hvc, hv⟩ := own_slice ho
  clear ho
  have V := Lib.hid hv
  clear hv
  have S := (box2_new w x 9).below B1
  replace B1 := step_below ((Below.refl _ _).alloc (Nat.le_refl _) _) B1
  have c0 := S.c0
  have c1 := S.c1
  go_wp2_with fail
  clear c0 c1
  refine (may_any _ _ hx hx1 _).mono ?_; rintro e W2 ⟨rfl, B2⟩
  rw [hm]
  replace S := S.below B2
  replace V := Lib.hid (V.out.below B2)
  replace B2 := step_below B1 B2
  clear B1
  have c0 := S.c0
  have c1 := S.c1
  go_wp2_with fail
  refine (num_law _ _).mono ?_; rintro e w' ⟨rfl, rfl⟩
  go_wp2_with fail
  refine (num_law _ _).mono ?_; rintro e w' ⟨rfl, rfl⟩
  go_wp2_with fail
  refine (num_law _ _).mono ?_; rintro e w' ⟨rfl, rfl⟩
  go_wp2_with fail
  refine (known_law _).mono ?_; rintro e W9 ⟨rfl, B9⟩
  go_wp2
  go_ret
  exact ⟨rfl, step_below B2 B9⟩

set_option maxRecDepth 100000 in
set_option maxHeartbeats 2000000 in
theorem single_nine_short (a : Option Addr) (len cap : Nat) (x : Int) (fz : Nat → Int) (hfz : Fits fz) (hlc : len ≤ cap) (h8 : len ≤ 8) (hx : 0 ≤ x) (hx1 : x < 18446744073709551616) (hm : mayV x 9 = true) (w : World) (hK : Bts w a len fz) :
    Calls Try.prog 6 #[.slice a len cap, .agg #[.int .u64 x, .int .i64 9]] w fun e w' => e = .returned (.bool true) ∧ Below w.heap.size w w' := by
  have hlk : (len : Int) ≤ 8 := by omega
  have hwb0 := wd_bd fz hfz len h8
  have hp : (0 : Int) < 2 ^ (64 - 8 * len) := by rcases lt9 h8 with h | h | h | h | h | h | h | h | h <;> rw [h] <;> decide
  have hwb : 0 ≤ wd fz len ∧ wd fz len < 18446744073709551616 := ⟨hwb0.1, by omega⟩
  clear hwb0 hp
  have HK := Lib.hid hK
  clear hK
  go_enter Try.func6, Try.ntmps6
  go_wp2_with fail
  refine (bytes_nine _ hx hx1 hm _).mono ?_; rintro e W1 ⟨v, rfl, ho, B1⟩
  obtain ⟨va, vc, rfl, hvc, hv⟩ := own_slice ho
  clear ho
  have V := Lib.hid hv
  clear hv
  have S := (box2_new w x 9).below B1
  replace B1 := step_below ((Below.refl _ _).alloc (Nat.le_refl _) _) B1
  have c0 := S.c0
  have c1 := S.c1
  go_wp2_with fail
  clear c0 c1
  refine (may_any _ _ hx hx1 _).mono ?_; rintro e W2 ⟨rfl, B2⟩
  rw [hm]
  replace S := S.below B2
  replace V := Lib.hid (V.out.below B2)
  replace B2 := step_below B1 B2
  clear B1
  have c0 := S.c0
  have c1 := S.c1
  go_wp2_with fail
  refine (num_law _ _).mono ?_; rintro e w' ⟨rfl, rfl⟩
  go_wp2_with fail
  refine (num_law _ _).mono ?_; rintro e w' ⟨rfl, rfl⟩
  go_wp2_with fail
  refine (num_law _ _).mono ?_; rintro e w' ⟨rfl, rfl⟩
  have K0 := Lib.hid (HK.out.below B2)
  go_wp2_with fail
  refine (Of_any _ len cap fz 0 (by omega) hlc _ hfz K0.out).mono ?_; rintro e W5 ⟨rfl, B5⟩
  rw [of_short1 fz len h8]
  have K1 := Lib.hid (bts_past (K0.out.below B5) (.cells #[.int .u64 (wd fz len), .int .i64 len] 26))
  have X9 := box2_new W5 (wd fz len) len
  replace B5 := step_below B2 B5
  replace B5 := B5.alloc B5.size (.cells #[.int .u64 (wd fz len), .int .i64 len] 26)
  clear B2 K0
  go_wp2_with fail
  refine (bytes_le8 _ len hwb.1 (by omega) h8 (may_wd fz hfz len h8) _).mono ?_; rintro e W6 ⟨v6, rfl, ho, B6⟩
  obtain ⟨va6, vc6, rfl, hvc6, hv6⟩ := own_slice ho
  replace X9 := X9.below B6
  have K2 := K1.out.below B6
  have q1 := conv_bts W6 _ _ vc6 _ hv6
  have q2 := conv_bts W6 _ _ cap _ K2
  rw [fl_congr _ _ len (byt_wd fz hfz len h8)] at q1
  replace B6 := step_below B5 B6
  have d1 := X9.c1
  clear ho hv6 K1 K2 B5
  go_wp2_with fail
  refine (num_law _ _).mono ?_; rintro e w' ⟨rfl, rfl⟩
  go_wp2_with fail
  refine (num_law _ _).mono ?_; rintro e w' ⟨rfl, rfl⟩
  go_wp2_with fail
  clear q1 q2 d1 X9
  refine (count_any _ len _ (by omega) _).mono ?_; rintro e w' ⟨rfl, rfl⟩
  rw [cnt_one len h8]
  go_wp2_with fail
  refine (known_law _).mono ?_; rintro e W9 ⟨rfl, B9⟩
  go_wp2
  go_ret
  exact ⟨rfl, step_below B6 B9⟩

end Go.Proofs.Ytjclhoibmoehiaa
