/- A key's slices and no others: the law's walk. -/
import Derived.Test.YtagkomamphbdgaaOnce
import Derived.Test.YtagkomamphbdgaaRow
import Derived.Laws.Concat
namespace Go.Proofs.Ytagkomamphbdgaa
open Go.ChangeShapes Go.WideShapes Go.ChangeAt Go.RowKit
open SM
set_option linter.unusedVariables false
set_option linter.unusedSimpArgs false

def fo (f : Nat → Int) (n : Nat) (k : Nat) : Int := if k < n then f k else 119
theorem fo_fits (f : Nat → Int) (n : Nat) (hf : Fits f) : Fits (fo f n) := fun i => by unfold fo; split; exact hf i; omega
theorem bvs_fo (f : Nat → Int) (n : Nat) : bvs f n ++ [.int .u8 119] = bvs (fo f n) (n + 1) := by
  unfold bvs
  rw [List.range_succ, List.map_append]
  congr 1
  · exact List.map_congr_left fun i hi => by rw [fo, if_pos (List.mem_range.1 hi)]
  · simp [fo]
theorem str_fo (f : Nat → Int) (n : Nat) : strOfNums (fl f n) ++ (⟨#[119]⟩ : ByteArray) = strOfNums (fl (fo f n) (n + 1)) := by
  have e : fl (fo f n) (n + 1) = fl f n ++ [119] := by
    unfold fl
    rw [List.range_succ, List.map_append]
    congr 1
    · exact List.map_congr_left fun i hi => by rw [fo, if_pos (List.mem_range.1 hi)]
    · simp [fo]
  rw [e]
  apply ByteArray.ext
  simp [strOfNums, ByteArray.data_append]
theorem Bts.sub {w : World} {a : Option Addr} {n m : Nat} {f g : Nat → Int} (h : Bts w a n f) (hm : m ≤ n) (hg : ∀ k < m, f k = g k) : Bts w a m g := fun k hk => by
  obtain ⟨b, off, e, hc⟩ := h k (by omega)
  exact ⟨b, off, e, by rw [hc, hg k hk]⟩

set_option maxRecDepth 100000 in
set_option maxHeartbeats 2000000 in
theorem lawof_long (a : Option Addr) (len cap : Nat) (i l : Int) (h : 9000 < len) (w : World) :
    Calls Try.prog 3 #[.slice a len cap, .int .i64 i, .int .i64 l] w fun e w' => e = .returned (.bool true) ∧ Below w.heap.size w w' := by
  have hl : (9000 : Int) < (len : Int) := by omega
  go_enter Try.func3, Try.ntmps3
  go_wp2_with fail
  refine (known_law _).mono ?_; rintro e W1 ⟨rfl, B1⟩
  go_wp2
  go_ret
  exact ⟨rfl, B1⟩

set_option maxRecDepth 100000 in
set_option maxHeartbeats 2000000 in
theorem lawof_pos (b off len cap : Nat) (fz : Nat → Int) (hfz : Fits fz) (i : Nat) (l : Int) (h : len ≤ 9000) (h0 : 0 < len) (hlc : len ≤ cap) (w : World) (hK : Bts w (some ⟨b, off, none⟩) len fz) :
    Calls Try.prog 3 #[.slice (some ⟨b, off, none⟩) len cap, .int .i64 i, .int .i64 l] w fun e w' => e = .returned (.bool true) ∧ Below w.heap.size w w' := by
  have hl : (len : Int) ≤ 9000 := by omega
  obtain ⟨i0, hi, hz0, hz1, hz2⟩ := info_parts info5
  have HK := Lib.hid hK
  clear hK
  go_enter Try.func3, Try.ntmps3
  go_wp2_with (at_builtin; refine wpList_append_own _ rfl _ _ 22 rfl w.heap.size 5 i0 (.int .u8 0) 1 1 Try.underlying22 hi hz0 hz1 hz2 rfl (by decide) (.slice none 0 0) 0 [] rfl (World.ownsRow_nil _ _ _ _) ⟨b, off, none⟩ len cap (bvs fz len) rfl (by simp [bvs]) ?c1 ?c2 (by unfold maxLen; omega) (by omega) (Nat.le_refl _) ?_)
  case c1 =>
    intro j u hj
    have hjl : j < len := by
      have := (List.getElem?_eq_some_iff.1 hj).1
      simpa [bvs] using this
    rw [bvs_at fz len j hjl] at hj
    cases hj
    obtain ⟨b', off', e, hcc⟩ := HK.out j hjl
    cases e
    rw [addr_add]; exact hcc
  case c2 =>
    intro u hu
    obtain ⟨k, _, rfl⟩ := List.mem_map.1 hu
    rfl
  intro v1 W1 hown hgrow _
  try simp only [Nat.zero_add, List.nil_append] at hown
  have B1 : Below w.heap.size w W1 := (Below.refl _ _).grown hgrow (Nat.le_refl _) (fun j e => by cases e)
  obtain ⟨g, gc, rfl, hg, hgc, hBg⟩ := bts_of_own hown h0
  have HO := Lib.hid hown
  clear hown hgrow hBg
  go_wp2_with (at_builtin; refine wpList_append_own _ rfl _ _ 22 rfl w.heap.size 5 i0 (.int .u8 0) 1 1 Try.underlying22 hi hz0 hz1 hz2 rfl (by decide) _ _ _ rfl (HO.out.alloc _) ⟨W1.heap.size, 0, none⟩ 1 1 [.int .u8 119] rfl rfl ?d1 ?d2 ?d3 ?d4 ?d5 ?_)
  case d1 =>
    intro j u hj
    match j, hj with
    | 0, hj => simp at hj; subst hj; simp [Addr.add, go_sem]
  case d2 => intro u hu; simp at hu; subst hu; rfl
  case d3 => unfold maxLen; omega
  case d4 => omega
  case d5 => have := B1.size; simp; omega
  intro v2 W2 hown2 hgrow2 _
  rw [bvs_fo] at hown2
  have B2 : Below w.heap.size w W2 := (B1.alloc B1.size _).grown hgrow2 (by have := B1.size; simp; omega) (fun j e => by cases e; exact hg)
  obtain ⟨g2, gc2, rfl, hg2, hgc2, hB2⟩ := bts_of_own hown2 (by omega)
  have HO2 := Lib.hid hB2
  clear hown2 hgrow2 hB2 HO B1
  have hlg : (len : Int) ≤ (gc2 : Int) := by omega
  go_wp2_with fail
  refine (Of_any _ len gc2 fz i (by omega) (by omega) _ hfz (HO2.out.sub (by omega) (fun k hk => by rw [fo, if_pos hk]))).mono ?_
  rintro e W3 ⟨rfl, B3⟩
  have O3 := Lib.hid (bts_past (HO2.out.below B3) (.cells #[.int .u64 (ofV fz len i).1, .int .i64 (ofV fz len i).2.1] 26))
  have X8 := box2_new W3 (ofV fz len i).1 (ofV fz len i).2.1
  replace B3 := step_below B2 B3
  replace B3 := B3.alloc B3.size (.cells #[.int .u64 (ofV fz len i).1, .int .i64 (ofV fz len i).2.1] 26)
  clear HO2 B2
  have K3 := Lib.hid (HK.out.below B3)
  go_wp2_with fail
  refine (refof_any _ len cap fz i (by omega) hlc _ hfz K3.out).mono ?_
  rintro e W4 ⟨rfl, B4⟩
  replace O3 := Lib.hid (bts_past (O3.out.below B4) (.cells #[.int .u64 (ofV fz len i).1, .int .i64 (ofV fz len i).2.1] 26))
  replace K3 := Lib.hid (bts_past (K3.out.below B4) (.cells #[.int .u64 (ofV fz len i).1, .int .i64 (ofV fz len i).2.1] 26))
  replace X8 := box2_past (X8.below B4) (.cells #[.int .u64 (ofV fz len i).1, .int .i64 (ofV fz len i).2.1] 26)
  have X10 := box2_new W4 (ofV fz len i).1 (ofV fz len i).2.1
  replace B4 := step_below B3 B4
  replace B4 := B4.alloc B4.size (.cells #[.int .u64 (ofV fz len i).1, .int .i64 (ofV fz len i).2.1] 26)
  clear B3
  have c0 := X8.c0
  have c1 := X8.c1
  have l8 := X8.lt
  clear X10
  go_wp2_with fail
  refine (num_law _ _).mono ?_; rintro e w' ⟨rfl, rfl⟩
  go_wp2_with fail
  refine (count_any _ len _ (by omega) _).mono ?_; rintro e w' ⟨rfl, rfl⟩
  go_wp2_with fail
  clear c0 c1 l8 X8
  refine (refcount _ len _ (by omega) _).mono ?_; rintro e w' ⟨rfl, rfl⟩
  go_wp2_with fail
  refine (once_law _ len cap fz l hfz (by omega) hlc _ K3.out).mono ?_
  rintro e W5 ⟨rfl, B5⟩
  replace O3 := Lib.hid (O3.out.below B5)
  replace K3 := Lib.hid (K3.out.below B5)
  replace B5 := step_below B4 B5
  clear B4
  go_wp2_with fail
  refine (once_law _ len cap fz 0 hfz (by omega) hlc _ K3.out).mono ?_
  rintro e W6 ⟨rfl, B6⟩
  have q1 := conv_bts W6 _ (len + 1) gc2 _ (O3.out.below B6)
  have q2 := conv_bts W6 _ len cap _ (K3.out.below B6)
  replace B6 := step_below B5 B6
  have q3 := run_string_add (P := Try.prog) W6 (strOfNums (fl fz len)) ⟨#[119]⟩ (by rw [strOfNums_size]; simp [fl] <;> omega) (by decide)
  rw [str_fo] at q3
  clear B5 O3 K3
  go_wp2_with fail
  refine (known_law _).mono ?_; rintro e W7 ⟨rfl, B7⟩
  go_wp2
  go_ret
  exact ⟨rfl, step_below B6 B7⟩
set_option maxRecDepth 100000 in
set_option maxHeartbeats 2000000 in
theorem lawof_pos_neg (b off len cap : Nat) (fz : Nat → Int) (hfz : Fits fz) (i : Int) (hin : i < 0) (hin2 : -9223372036854775808 ≤ i) (l : Int) (h : len ≤ 9000) (h0 : 0 < len) (hlc : len ≤ cap) (w : World) (hK : Bts w (some ⟨b, off, none⟩) len fz) :
    Calls Try.prog 3 #[.slice (some ⟨b, off, none⟩) len cap, .int .i64 i, .int .i64 l] w fun e w' => e = .returned (.bool true) ∧ Below w.heap.size w w' := by
  have hl : (len : Int) ≤ 9000 := by omega
  obtain ⟨i0, hi, hz0, hz1, hz2⟩ := info_parts info5
  have HK := Lib.hid hK
  clear hK
  go_enter Try.func3, Try.ntmps3
  go_wp2_with (at_builtin; refine wpList_append_own _ rfl _ _ 22 rfl w.heap.size 5 i0 (.int .u8 0) 1 1 Try.underlying22 hi hz0 hz1 hz2 rfl (by decide) (.slice none 0 0) 0 [] rfl (World.ownsRow_nil _ _ _ _) ⟨b, off, none⟩ len cap (bvs fz len) rfl (by simp [bvs]) ?c1 ?c2 (by unfold maxLen; omega) (by omega) (Nat.le_refl _) ?_)
  case c1 =>
    intro j u hj
    have hjl : j < len := by
      have := (List.getElem?_eq_some_iff.1 hj).1
      simpa [bvs] using this
    rw [bvs_at fz len j hjl] at hj
    cases hj
    obtain ⟨b', off', e, hcc⟩ := HK.out j hjl
    cases e
    rw [addr_add]; exact hcc
  case c2 =>
    intro u hu
    obtain ⟨k, _, rfl⟩ := List.mem_map.1 hu
    rfl
  intro v1 W1 hown hgrow _
  try simp only [Nat.zero_add, List.nil_append] at hown
  have B1 : Below w.heap.size w W1 := (Below.refl _ _).grown hgrow (Nat.le_refl _) (fun j e => by cases e)
  obtain ⟨g, gc, rfl, hg, hgc, hBg⟩ := bts_of_own hown h0
  have HO := Lib.hid hown
  clear hown hgrow hBg
  go_wp2_with (at_builtin; refine wpList_append_own _ rfl _ _ 22 rfl w.heap.size 5 i0 (.int .u8 0) 1 1 Try.underlying22 hi hz0 hz1 hz2 rfl (by decide) _ _ _ rfl (HO.out.alloc _) ⟨W1.heap.size, 0, none⟩ 1 1 [.int .u8 119] rfl rfl ?d1 ?d2 ?d3 ?d4 ?d5 ?_)
  case d1 =>
    intro j u hj
    match j, hj with
    | 0, hj => simp at hj; subst hj; simp [Addr.add, go_sem]
  case d2 => intro u hu; simp at hu; subst hu; rfl
  case d3 => unfold maxLen; omega
  case d4 => omega
  case d5 => have := B1.size; simp; omega
  intro v2 W2 hown2 hgrow2 _
  rw [bvs_fo] at hown2
  have B2 : Below w.heap.size w W2 := (B1.alloc B1.size _).grown hgrow2 (by have := B1.size; simp; omega) (fun j e => by cases e; exact hg)
  obtain ⟨g2, gc2, rfl, hg2, hgc2, hB2⟩ := bts_of_own hown2 (by omega)
  have HO2 := Lib.hid hB2
  clear hown2 hgrow2 hB2 HO B1
  have hlg : (len : Int) ≤ (gc2 : Int) := by omega
  go_wp2_with fail
  refine (Of_neg _ len gc2 i hin hin2 _).mono ?_
  rintro e W3 ⟨rfl, B3⟩
  have O3 := Lib.hid (bts_past (HO2.out.below B3) (.cells #[.int .u64 0, .int .i64 0] 26))
  have X8 := box2_new W3 0 0
  replace B3 := step_below B2 B3
  replace B3 := B3.alloc B3.size (.cells #[.int .u64 0, .int .i64 0] 26)
  clear HO2 B2
  have K3 := Lib.hid (HK.out.below B3)
  go_wp2_with fail
  refine (refof_neg _ len cap i hin _).mono ?_
  rintro e W4 ⟨rfl, B4⟩
  replace O3 := Lib.hid (bts_past (O3.out.below B4) (.cells #[.int .u64 0, .int .i64 0] 26))
  replace K3 := Lib.hid (bts_past (K3.out.below B4) (.cells #[.int .u64 0, .int .i64 0] 26))
  replace X8 := box2_past (X8.below B4) (.cells #[.int .u64 0, .int .i64 0] 26)
  have X10 := box2_new W4 0 0
  replace B4 := step_below B3 B4
  replace B4 := B4.alloc B4.size (.cells #[.int .u64 0, .int .i64 0] 26)
  clear B3
  have c0 := X8.c0
  have c1 := X8.c1
  have l8 := X8.lt
  clear X10
  go_wp2_with fail
  refine (num_law _ _).mono ?_; rintro e w' ⟨rfl, rfl⟩
  go_wp2_with fail
  refine (count_any _ len _ (by omega) _).mono ?_; rintro e w' ⟨rfl, rfl⟩
  go_wp2_with fail
  clear c0 c1 l8 X8
  refine (refcount _ len _ (by omega) _).mono ?_; rintro e w' ⟨rfl, rfl⟩
  go_wp2_with fail
  refine (once_law _ len cap fz l hfz (by omega) hlc _ K3.out).mono ?_
  rintro e W5 ⟨rfl, B5⟩
  replace O3 := Lib.hid (O3.out.below B5)
  replace K3 := Lib.hid (K3.out.below B5)
  replace B5 := step_below B4 B5
  clear B4
  go_wp2_with fail
  refine (once_law _ len cap fz 0 hfz (by omega) hlc _ K3.out).mono ?_
  rintro e W6 ⟨rfl, B6⟩
  have q1 := conv_bts W6 _ (len + 1) gc2 _ (O3.out.below B6)
  have q2 := conv_bts W6 _ len cap _ (K3.out.below B6)
  replace B6 := step_below B5 B6
  have q3 := run_string_add (P := Try.prog) W6 (strOfNums (fl fz len)) ⟨#[119]⟩ (by rw [strOfNums_size]; simp [fl] <;> omega) (by decide)
  rw [str_fo] at q3
  clear B5 O3 K3
  go_wp2_with fail
  refine (known_law _).mono ?_; rintro e W7 ⟨rfl, B7⟩
  go_wp2
  go_ret
  exact ⟨rfl, step_below B6 B7⟩
set_option maxRecDepth 100000 in
set_option maxHeartbeats 2000000 in
theorem lawof_none (cap : Nat) (fz : Nat → Int) (hfz : Fits fz) (i : Nat) (l : Int) (w : World) :
    Calls Try.prog 3 #[.slice none 0 cap, .int .i64 i, .int .i64 l] w fun e w' => e = .returned (.bool true) ∧ Below w.heap.size w w' := by
  have hK : Bts w none 0 fz := fun k hk => absurd hk (by omega)
  obtain ⟨i0, hi, hz0, hz1, hz2⟩ := info_parts info5
  have HK := Lib.hid hK
  clear hK
  go_enter Try.func3, Try.ntmps3
  have hg0 : True := trivial
  go_wp2_with (at_builtin; refine wpList_append_own _ rfl _ _ 22 rfl w.heap.size 5 i0 (.int .u8 0) 1 1 Try.underlying22 hi hz0 hz1 hz2 rfl (by decide) (.slice none 0 0) 0 [] rfl (World.ownsRow_nil _ _ _ _) ⟨w.heap.size, 0, none⟩ 1 1 [.int .u8 119] rfl rfl ?d1 ?d2 ?d3 ?d4 ?d5 ?_)
  case d1 =>
    intro j u hj
    match j, hj with
    | 0, hj => simp at hj; subst hj; simp [Addr.add, go_sem]
  case d2 => intro u hu; simp at hu; subst hu; rfl
  case d3 => unfold maxLen; omega
  case d4 => omega
  case d5 => simp
  intro v2 W2 hown2 hgrow2 _
  replace hown2 : W2.ownsRow w.heap.size 5 1 v2 (0 + 1) (bvs (fo fz 0) (0 + 1)) := by rw [← bvs_fo]; exact hown2
  have B2 : Below w.heap.size w W2 := ((Below.refl w.heap.size w).alloc (Nat.le_refl _) _).grown hgrow2 (by simp) (fun j e => by cases e)
  obtain ⟨g2, gc2, rfl, hg2, hgc2, hB2⟩ := bts_of_own hown2 (by omega)
  have HO2 := Lib.hid hB2
  clear hown2 hgrow2 hB2
  have hlg : (0 : Int) ≤ (gc2 : Int) := by omega
  go_wp2_with fail
  refine (Of_any _ 0 gc2 fz i (by omega) (by omega) _ hfz (HO2.out.sub (by omega) (fun k hk => by rw [fo, if_pos hk]))).mono ?_
  rintro e W3 ⟨rfl, B3⟩
  have O3 := Lib.hid (bts_past (HO2.out.below B3) (.cells #[.int .u64 (ofV fz 0 i).1, .int .i64 (ofV fz 0 i).2.1] 26))
  have X8 := box2_new W3 (ofV fz 0 i).1 (ofV fz 0 i).2.1
  replace B3 := step_below B2 B3
  replace B3 := B3.alloc B3.size (.cells #[.int .u64 (ofV fz 0 i).1, .int .i64 (ofV fz 0 i).2.1] 26)
  clear HO2 B2
  have K3 := Lib.hid (HK.out.below B3)
  go_wp2_with fail
  refine (refof_any _ 0 cap fz i (by omega) (Nat.zero_le _) _ hfz K3.out).mono ?_
  rintro e W4 ⟨rfl, B4⟩
  replace O3 := Lib.hid (bts_past (O3.out.below B4) (.cells #[.int .u64 (ofV fz 0 i).1, .int .i64 (ofV fz 0 i).2.1] 26))
  replace K3 := Lib.hid (bts_past (K3.out.below B4) (.cells #[.int .u64 (ofV fz 0 i).1, .int .i64 (ofV fz 0 i).2.1] 26))
  replace X8 := box2_past (X8.below B4) (.cells #[.int .u64 (ofV fz 0 i).1, .int .i64 (ofV fz 0 i).2.1] 26)
  have X10 := box2_new W4 (ofV fz 0 i).1 (ofV fz 0 i).2.1
  replace B4 := step_below B3 B4
  replace B4 := B4.alloc B4.size (.cells #[.int .u64 (ofV fz 0 i).1, .int .i64 (ofV fz 0 i).2.1] 26)
  clear B3
  have c0 := X8.c0
  have c1 := X8.c1
  have l8 := X8.lt
  clear X10
  go_wp2_with fail
  refine (num_law _ _).mono ?_; rintro e w' ⟨rfl, rfl⟩
  go_wp2_with fail
  refine (count_any _ 0 _ (by omega) _).mono ?_; rintro e w' ⟨rfl, rfl⟩
  go_wp2_with fail
  clear c0 c1 l8 X8
  refine (refcount _ 0 _ (by omega) _).mono ?_; rintro e w' ⟨rfl, rfl⟩
  go_wp2_with fail
  refine (once_law _ 0 cap fz l hfz (by omega) (Nat.zero_le _) _ K3.out).mono ?_
  rintro e W5 ⟨rfl, B5⟩
  replace O3 := Lib.hid (O3.out.below B5)
  replace K3 := Lib.hid (K3.out.below B5)
  replace B5 := step_below B4 B5
  clear B4
  go_wp2_with fail
  refine (once_law _ 0 cap fz 0 hfz (by omega) (Nat.zero_le _) _ K3.out).mono ?_
  rintro e W6 ⟨rfl, B6⟩
  have q1 := conv_bts W6 _ (0 + 1) gc2 _ (O3.out.below B6)
  have q2 := conv_bts W6 _ 0 cap _ (K3.out.below B6)
  replace B6 := step_below B5 B6
  have q3 := run_string_add (P := Try.prog) W6 (strOfNums (fl fz 0)) ⟨#[119]⟩ (by rw [strOfNums_size]; simp [fl] <;> omega) (by decide)
  rw [str_fo] at q3
  clear B5 O3 K3
  go_wp2_with fail
  refine (known_law _).mono ?_; rintro e W7 ⟨rfl, B7⟩
  go_wp2
  go_ret
  exact ⟨rfl, step_below B6 B7⟩
set_option maxRecDepth 100000 in
set_option maxHeartbeats 2000000 in
theorem lawof_none_neg (cap : Nat) (fz : Nat → Int) (hfz : Fits fz) (i : Int) (hin : i < 0) (hin2 : -9223372036854775808 ≤ i) (l : Int) (w : World) :
    Calls Try.prog 3 #[.slice none 0 cap, .int .i64 i, .int .i64 l] w fun e w' => e = .returned (.bool true) ∧ Below w.heap.size w w' := by
  have hK : Bts w none 0 fz := fun k hk => absurd hk (by omega)
  obtain ⟨i0, hi, hz0, hz1, hz2⟩ := info_parts info5
  have HK := Lib.hid hK
  clear hK
  go_enter Try.func3, Try.ntmps3
  have hg0 : True := trivial
  go_wp2_with (at_builtin; refine wpList_append_own _ rfl _ _ 22 rfl w.heap.size 5 i0 (.int .u8 0) 1 1 Try.underlying22 hi hz0 hz1 hz2 rfl (by decide) (.slice none 0 0) 0 [] rfl (World.ownsRow_nil _ _ _ _) ⟨w.heap.size, 0, none⟩ 1 1 [.int .u8 119] rfl rfl ?d1 ?d2 ?d3 ?d4 ?d5 ?_)
  case d1 =>
    intro j u hj
    match j, hj with
    | 0, hj => simp at hj; subst hj; simp [Addr.add, go_sem]
  case d2 => intro u hu; simp at hu; subst hu; rfl
  case d3 => unfold maxLen; omega
  case d4 => omega
  case d5 => simp
  intro v2 W2 hown2 hgrow2 _
  replace hown2 : W2.ownsRow w.heap.size 5 1 v2 (0 + 1) (bvs (fo fz 0) (0 + 1)) := by rw [← bvs_fo]; exact hown2
  have B2 : Below w.heap.size w W2 := ((Below.refl w.heap.size w).alloc (Nat.le_refl _) _).grown hgrow2 (by simp) (fun j e => by cases e)
  obtain ⟨g2, gc2, rfl, hg2, hgc2, hB2⟩ := bts_of_own hown2 (by omega)
  have HO2 := Lib.hid hB2
  clear hown2 hgrow2 hB2
  have hlg : (0 : Int) ≤ (gc2 : Int) := by omega
  go_wp2_with fail
  refine (Of_neg _ 0 gc2 i hin hin2 _).mono ?_
  rintro e W3 ⟨rfl, B3⟩
  have O3 := Lib.hid (bts_past (HO2.out.below B3) (.cells #[.int .u64 0, .int .i64 0] 26))
  have X8 := box2_new W3 0 0
  replace B3 := step_below B2 B3
  replace B3 := B3.alloc B3.size (.cells #[.int .u64 0, .int .i64 0] 26)
  clear HO2 B2
  have K3 := Lib.hid (HK.out.below B3)
  go_wp2_with fail
  refine (refof_neg _ 0 cap i hin _).mono ?_
  rintro e W4 ⟨rfl, B4⟩
  replace O3 := Lib.hid (bts_past (O3.out.below B4) (.cells #[.int .u64 0, .int .i64 0] 26))
  replace K3 := Lib.hid (bts_past (K3.out.below B4) (.cells #[.int .u64 0, .int .i64 0] 26))
  replace X8 := box2_past (X8.below B4) (.cells #[.int .u64 0, .int .i64 0] 26)
  have X10 := box2_new W4 0 0
  replace B4 := step_below B3 B4
  replace B4 := B4.alloc B4.size (.cells #[.int .u64 0, .int .i64 0] 26)
  clear B3
  have c0 := X8.c0
  have c1 := X8.c1
  have l8 := X8.lt
  clear X10
  go_wp2_with fail
  refine (num_law _ _).mono ?_; rintro e w' ⟨rfl, rfl⟩
  go_wp2_with fail
  refine (count_any _ 0 _ (by omega) _).mono ?_; rintro e w' ⟨rfl, rfl⟩
  go_wp2_with fail
  clear c0 c1 l8 X8
  refine (refcount _ 0 _ (by omega) _).mono ?_; rintro e w' ⟨rfl, rfl⟩
  go_wp2_with fail
  refine (once_law _ 0 cap fz l hfz (by omega) (Nat.zero_le _) _ K3.out).mono ?_
  rintro e W5 ⟨rfl, B5⟩
  replace O3 := Lib.hid (O3.out.below B5)
  replace K3 := Lib.hid (K3.out.below B5)
  replace B5 := step_below B4 B5
  clear B4
  go_wp2_with fail
  refine (once_law _ 0 cap fz 0 hfz (by omega) (Nat.zero_le _) _ K3.out).mono ?_
  rintro e W6 ⟨rfl, B6⟩
  have q1 := conv_bts W6 _ (0 + 1) gc2 _ (O3.out.below B6)
  have q2 := conv_bts W6 _ 0 cap _ (K3.out.below B6)
  replace B6 := step_below B5 B6
  have q3 := run_string_add (P := Try.prog) W6 (strOfNums (fl fz 0)) ⟨#[119]⟩ (by rw [strOfNums_size]; simp [fl] <;> omega) (by decide)
  rw [str_fo] at q3
  clear B5 O3 K3
  go_wp2_with fail
  refine (known_law _).mono ?_; rintro e W7 ⟨rfl, B7⟩
  go_wp2
  go_ret
  exact ⟨rfl, step_below B6 B7⟩
set_option maxRecDepth 100000 in
set_option maxHeartbeats 2000000 in
theorem lawof_some (cap : Nat) (ad : Addr) (fz : Nat → Int) (hfz : Fits fz) (i : Nat) (l : Int) (w : World) :
    Calls Try.prog 3 #[.slice (some ad) 0 cap, .int .i64 i, .int .i64 l] w fun e w' => e = .returned (.bool true) ∧ Below w.heap.size w w' := by
  have hK : Bts w (some ad) 0 fz := fun k hk => absurd hk (by omega)
  obtain ⟨i0, hi, hz0, hz1, hz2⟩ := info_parts info5
  have HK := Lib.hid hK
  clear hK
  go_enter Try.func3, Try.ntmps3
  go_wp2_with (at_builtin; refine wpList_append_own _ rfl _ _ 22 rfl w.heap.size 5 i0 (.int .u8 0) 1 1 Try.underlying22 hi hz0 hz1 hz2 rfl (by decide) (.slice none 0 0) 0 [] rfl (World.ownsRow_nil _ _ _ _) ad 0 cap [] rfl rfl (fun j u hj => by simp at hj) (fun u hu => by simp at hu) (by unfold maxLen; omega) (by omega) (Nat.le_refl _) ?_)
  intro v1 W1 hown hgrow hnil
  obtain rfl := hnil
  have B1 : Below w.heap.size w W1 := (Below.refl _ _).grown hgrow (Nat.le_refl _) (fun j e => by cases e)
  clear hown hgrow
  go_wp2_with (at_builtin; refine wpList_append_own _ rfl _ _ 22 rfl w.heap.size 5 i0 (.int .u8 0) 1 1 Try.underlying22 hi hz0 hz1 hz2 rfl (by decide) (.slice none 0 0) 0 [] rfl (World.ownsRow_nil _ _ _ _) ⟨W1.heap.size, 0, none⟩ 1 1 [.int .u8 119] rfl rfl ?d1 ?d2 ?d3 ?d4 ?d5 ?_)
  case d1 =>
    intro j u hj
    match j, hj with
    | 0, hj => simp at hj; subst hj; simp [Addr.add, go_sem]
  case d2 => intro u hu; simp at hu; subst hu; rfl
  case d3 => unfold maxLen; omega
  case d4 => omega
  case d5 => have := B1.size; simp; omega
  intro v2 W2 hown2 hgrow2 _
  replace hown2 : W2.ownsRow w.heap.size 5 1 v2 (0 + 1) (bvs (fo fz 0) (0 + 1)) := by rw [← bvs_fo]; exact hown2
  have B2 : Below w.heap.size w W2 := (B1.alloc B1.size _).grown hgrow2 (by have := B1.size; simp; omega) (fun j e => by cases e)
  obtain ⟨g2, gc2, rfl, hg2, hgc2, hB2⟩ := bts_of_own hown2 (by omega)
  have HO2 := Lib.hid hB2
  clear hown2 hgrow2 hB2 B1
  have hlg : (0 : Int) ≤ (gc2 : Int) := by omega
  go_wp2_with fail
  refine (Of_any _ 0 gc2 fz i (by omega) (by omega) _ hfz (HO2.out.sub (by omega) (fun k hk => by rw [fo, if_pos hk]))).mono ?_
  rintro e W3 ⟨rfl, B3⟩
  have O3 := Lib.hid (bts_past (HO2.out.below B3) (.cells #[.int .u64 (ofV fz 0 i).1, .int .i64 (ofV fz 0 i).2.1] 26))
  have X8 := box2_new W3 (ofV fz 0 i).1 (ofV fz 0 i).2.1
  replace B3 := step_below B2 B3
  replace B3 := B3.alloc B3.size (.cells #[.int .u64 (ofV fz 0 i).1, .int .i64 (ofV fz 0 i).2.1] 26)
  clear HO2 B2
  have K3 := Lib.hid (HK.out.below B3)
  go_wp2_with fail
  refine (refof_any _ 0 cap fz i (by omega) (Nat.zero_le _) _ hfz K3.out).mono ?_
  rintro e W4 ⟨rfl, B4⟩
  replace O3 := Lib.hid (bts_past (O3.out.below B4) (.cells #[.int .u64 (ofV fz 0 i).1, .int .i64 (ofV fz 0 i).2.1] 26))
  replace K3 := Lib.hid (bts_past (K3.out.below B4) (.cells #[.int .u64 (ofV fz 0 i).1, .int .i64 (ofV fz 0 i).2.1] 26))
  replace X8 := box2_past (X8.below B4) (.cells #[.int .u64 (ofV fz 0 i).1, .int .i64 (ofV fz 0 i).2.1] 26)
  have X10 := box2_new W4 (ofV fz 0 i).1 (ofV fz 0 i).2.1
  replace B4 := step_below B3 B4
  replace B4 := B4.alloc B4.size (.cells #[.int .u64 (ofV fz 0 i).1, .int .i64 (ofV fz 0 i).2.1] 26)
  clear B3
  have c0 := X8.c0
  have c1 := X8.c1
  have l8 := X8.lt
  clear X10
  go_wp2_with fail
  refine (num_law _ _).mono ?_; rintro e w' ⟨rfl, rfl⟩
  go_wp2_with fail
  refine (count_any _ 0 _ (by omega) _).mono ?_; rintro e w' ⟨rfl, rfl⟩
  go_wp2_with fail
  clear c0 c1 l8 X8
  refine (refcount _ 0 _ (by omega) _).mono ?_; rintro e w' ⟨rfl, rfl⟩
  go_wp2_with fail
  refine (once_law _ 0 cap fz l hfz (by omega) (Nat.zero_le _) _ K3.out).mono ?_
  rintro e W5 ⟨rfl, B5⟩
  replace O3 := Lib.hid (O3.out.below B5)
  replace K3 := Lib.hid (K3.out.below B5)
  replace B5 := step_below B4 B5
  clear B4
  go_wp2_with fail
  refine (once_law _ 0 cap fz 0 hfz (by omega) (Nat.zero_le _) _ K3.out).mono ?_
  rintro e W6 ⟨rfl, B6⟩
  have q1 := conv_bts W6 _ (0 + 1) gc2 _ (O3.out.below B6)
  have q2 := conv_bts W6 _ 0 cap _ (K3.out.below B6)
  replace B6 := step_below B5 B6
  have q3 := run_string_add (P := Try.prog) W6 (strOfNums (fl fz 0)) ⟨#[119]⟩ (by rw [strOfNums_size]; simp [fl] <;> omega) (by decide)
  rw [str_fo] at q3
  clear B5 O3 K3
  go_wp2_with fail
  refine (known_law _).mono ?_; rintro e W7 ⟨rfl, B7⟩
  go_wp2
  go_ret
  exact ⟨rfl, step_below B6 B7⟩
set_option maxRecDepth 100000 in
set_option maxHeartbeats 2000000 in
theorem lawof_some_neg (cap : Nat) (ad : Addr) (fz : Nat → Int) (hfz : Fits fz) (i : Int) (hin : i < 0) (hin2 : -9223372036854775808 ≤ i) (l : Int) (w : World) :
    Calls Try.prog 3 #[.slice (some ad) 0 cap, .int .i64 i, .int .i64 l] w fun e w' => e = .returned (.bool true) ∧ Below w.heap.size w w' := by
  have hK : Bts w (some ad) 0 fz := fun k hk => absurd hk (by omega)
  obtain ⟨i0, hi, hz0, hz1, hz2⟩ := info_parts info5
  have HK := Lib.hid hK
  clear hK
  go_enter Try.func3, Try.ntmps3
  go_wp2_with (at_builtin; refine wpList_append_own _ rfl _ _ 22 rfl w.heap.size 5 i0 (.int .u8 0) 1 1 Try.underlying22 hi hz0 hz1 hz2 rfl (by decide) (.slice none 0 0) 0 [] rfl (World.ownsRow_nil _ _ _ _) ad 0 cap [] rfl rfl (fun j u hj => by simp at hj) (fun u hu => by simp at hu) (by unfold maxLen; omega) (by omega) (Nat.le_refl _) ?_)
  intro v1 W1 hown hgrow hnil
  obtain rfl := hnil
  have B1 : Below w.heap.size w W1 := (Below.refl _ _).grown hgrow (Nat.le_refl _) (fun j e => by cases e)
  clear hown hgrow
  go_wp2_with (at_builtin; refine wpList_append_own _ rfl _ _ 22 rfl w.heap.size 5 i0 (.int .u8 0) 1 1 Try.underlying22 hi hz0 hz1 hz2 rfl (by decide) (.slice none 0 0) 0 [] rfl (World.ownsRow_nil _ _ _ _) ⟨W1.heap.size, 0, none⟩ 1 1 [.int .u8 119] rfl rfl ?d1 ?d2 ?d3 ?d4 ?d5 ?_)
  case d1 =>
    intro j u hj
    match j, hj with
    | 0, hj => simp at hj; subst hj; simp [Addr.add, go_sem]
  case d2 => intro u hu; simp at hu; subst hu; rfl
  case d3 => unfold maxLen; omega
  case d4 => omega
  case d5 => have := B1.size; simp; omega
  intro v2 W2 hown2 hgrow2 _
  replace hown2 : W2.ownsRow w.heap.size 5 1 v2 (0 + 1) (bvs (fo fz 0) (0 + 1)) := by rw [← bvs_fo]; exact hown2
  have B2 : Below w.heap.size w W2 := (B1.alloc B1.size _).grown hgrow2 (by have := B1.size; simp; omega) (fun j e => by cases e)
  obtain ⟨g2, gc2, rfl, hg2, hgc2, hB2⟩ := bts_of_own hown2 (by omega)
  have HO2 := Lib.hid hB2
  clear hown2 hgrow2 hB2 B1
  have hlg : (0 : Int) ≤ (gc2 : Int) := by omega
  go_wp2_with fail
  refine (Of_neg _ 0 gc2 i hin hin2 _).mono ?_
  rintro e W3 ⟨rfl, B3⟩
  have O3 := Lib.hid (bts_past (HO2.out.below B3) (.cells #[.int .u64 0, .int .i64 0] 26))
  have X8 := box2_new W3 0 0
  replace B3 := step_below B2 B3
  replace B3 := B3.alloc B3.size (.cells #[.int .u64 0, .int .i64 0] 26)
  clear HO2 B2
  have K3 := Lib.hid (HK.out.below B3)
  go_wp2_with fail
  refine (refof_neg _ 0 cap i hin _).mono ?_
  rintro e W4 ⟨rfl, B4⟩
  replace O3 := Lib.hid (bts_past (O3.out.below B4) (.cells #[.int .u64 0, .int .i64 0] 26))
  replace K3 := Lib.hid (bts_past (K3.out.below B4) (.cells #[.int .u64 0, .int .i64 0] 26))
  replace X8 := box2_past (X8.below B4) (.cells #[.int .u64 0, .int .i64 0] 26)
  have X10 := box2_new W4 0 0
  replace B4 := step_below B3 B4
  replace B4 := B4.alloc B4.size (.cells #[.int .u64 0, .int .i64 0] 26)
  clear B3
  have c0 := X8.c0
  have c1 := X8.c1
  have l8 := X8.lt
  clear X10
  go_wp2_with fail
  refine (num_law _ _).mono ?_; rintro e w' ⟨rfl, rfl⟩
  go_wp2_with fail
  refine (count_any _ 0 _ (by omega) _).mono ?_; rintro e w' ⟨rfl, rfl⟩
  go_wp2_with fail
  clear c0 c1 l8 X8
  refine (refcount _ 0 _ (by omega) _).mono ?_; rintro e w' ⟨rfl, rfl⟩
  go_wp2_with fail
  refine (once_law _ 0 cap fz l hfz (by omega) (Nat.zero_le _) _ K3.out).mono ?_
  rintro e W5 ⟨rfl, B5⟩
  replace O3 := Lib.hid (O3.out.below B5)
  replace K3 := Lib.hid (K3.out.below B5)
  replace B5 := step_below B4 B5
  clear B4
  go_wp2_with fail
  refine (once_law _ 0 cap fz 0 hfz (by omega) (Nat.zero_le _) _ K3.out).mono ?_
  rintro e W6 ⟨rfl, B6⟩
  have q1 := conv_bts W6 _ (0 + 1) gc2 _ (O3.out.below B6)
  have q2 := conv_bts W6 _ 0 cap _ (K3.out.below B6)
  replace B6 := step_below B5 B6
  have q3 := run_string_add (P := Try.prog) W6 (strOfNums (fl fz 0)) ⟨#[119]⟩ (by rw [strOfNums_size]; simp [fl] <;> omega) (by decide)
  rw [str_fo] at q3
  clear B5 O3 K3
  go_wp2_with fail
  refine (known_law _).mono ?_; rintro e W7 ⟨rfl, B7⟩
  go_wp2
  go_ret
  exact ⟨rfl, step_below B6 B7⟩

theorem of_law (a : Option Addr) (len cap : Nat) (zs : List Int) (i l : Int) (bi : -9223372036854775808 ≤ i ∧ i ≤ 9223372036854775807) (bl' : -9223372036854775808 ≤ l ∧ l ≤ 9223372036854775807) (w : World) (hr : IsRow .u8 w a len cap zs) :
    Calls Try.prog 3 #[.slice a len cap, .int .i64 i, .int .i64 l] w fun e w' => e = .returned (.bool true) ∧ Below w.heap.size w w' := by
  have hK := hr.bts
  have hF := hr.fits
  have hL := hr.le
  by_cases h : len ≤ 9000
  · by_cases h0 : len = 0
    · subst h0
      by_cases hi : i < 0
      · cases a with
        | none => exact lawof_none_neg cap _ hF i hi bi.1 l w
        | some ad => exact lawof_some_neg cap ad _ hF i hi bi.1 l w
      · obtain ⟨k, rfl⟩ : ∃ k : Nat, i = k := ⟨i.toNat, by omega⟩
        cases a with
        | none => exact lawof_none cap _ hF k l w
        | some ad => exact lawof_some cap ad _ hF k l w
    · obtain ⟨b, off, rfl, _⟩ := hK 0 (by omega)
      by_cases hi : i < 0
      · exact lawof_pos_neg b off len cap _ hF i hi bi.1 l h (by omega) hL w hK
      · obtain ⟨k, rfl⟩ : ∃ k : Nat, i = k := ⟨i.toNat, by omega⟩
        exact lawof_pos b off len cap _ hF k l h (by omega) hL w hK
  · exact lawof_long a len cap i l (by omega) w

end Go.Proofs.Ytagkomamphbdgaa
