/- Slices tell keys, and their order: the law's walk. -/
import Derived.Test.YtjclhoibmoehiaaLexR
import Derived.Test.YtjclhoibmoehiaaRow
namespace Go.Proofs.Ytjclhoibmoehiaa
open Go.ChangeShapes Go.WideShapes Go.ChangeAt Go.RowKit
open SM
set_option linter.unusedVariables false
set_option linter.unusedSimpArgs false

theorem info26 : (Try.prog.info? 26).map (fun i => (i.zero, i.size, i.bytes)) = some (some (.agg #[.int .u64 0, .int .i64 0]), 2, 16) := by kernel_rfl
/-- The slices of a key, one behind the other, as cells. -/
def slv (X L : Nat → Int) : Nat → List Value
  | 0 => []
  | k + 1 => slv X L k ++ [.int .u64 (X k), .int .i64 (L k)]
theorem slv_length (X L : Nat → Int) : ∀ k, (slv X L k).length = 2 * k
  | 0 => rfl
  | k + 1 => by rw [slv, List.length_append, slv_length X L k]; simp; omega
theorem slv_at (X L : Nat → Int) : ∀ n k, k < n → (slv X L n)[k * 2]? = some (.int .u64 (X k)) ∧ (slv X L n)[k * 2 + 1]? = some (.int .i64 (L k))
  | 0, k, h => absurd h (by omega)
  | n + 1, k, h => by
    rcases (show k < n ∨ k = n from by omega) with h' | rfl
    · have := slv_at X L n k h'
      have l := slv_length X L n
      rw [slv, List.getElem?_append_left (by omega), List.getElem?_append_left (by omega)]
      exact this
    · have l := slv_length X L k
      rw [slv, List.getElem?_append_right (by omega), List.getElem?_append_right (by omega), l]
      rw [show k * 2 - 2 * k = 0 from by omega, show k * 2 + 1 - 2 * k = 1 from by omega]
      exact ⟨rfl, rfl⟩
theorem own_sls {w : World} {base n : Nat} {v : Value} {X L : Nat → Int} (h : w.ownsRow base 26 2 v n (slv X L n)) (hn : 0 < n) : ∃ g cap, v = .slice (some ⟨g, 0, none⟩) n cap ∧ Sls w (some ⟨g, 0, none⟩) n X L := by
  have h' := h
  have l := slv_length X L n
  rcases h.2 with ⟨_, h0⟩ | ⟨g, cap, cur, rfl, hg, _⟩
  · omega
  · refine ⟨g, cap, rfl, fun k hk => ⟨g, 0, rfl, ?_, ?_⟩⟩
    · rw [Nat.zero_add, h'.cellAt (k * 2) (by omega)]; exact (slv_at X L n k hk).1
    · rw [Nat.zero_add, h'.cellAt (k * 2 + 1) (by omega)]; exact (slv_at X L n k hk).2
theorem own_bvs {w : World} {base n : Nat} {v : Value} {f : Nat → Int} (h : w.ownsRow base 5 1 v n (bvs f n)) : ∃ a cap, v = .slice a n cap ∧ Bts w a n f := by
  by_cases hn : 0 < n
  · obtain ⟨g, cap, e, _, _, hb⟩ := bts_of_own h hn
    exact ⟨_, cap, e, hb⟩
  · obtain rfl : n = 0 := by omega
    rcases own_zero h rfl with e | ⟨g, cap, e⟩
    · exact ⟨_, _, e, fun k hk => absurd hk (by omega)⟩
    · exact ⟨_, _, e, fun k hk => absurd hk (by omega)⟩

theorem Of_at (a : Option Addr) (len cap : Nat) (f : Nat → Int) (i : Nat) (x n : Int) (hl : len ≤ 1152921504606846976) (hlc : len ≤ cap) (w : World) (hf : Fits f) (hc : Bts w a len f) (hi : i < cnt len) (hx : slW f len i = x) (hn : ((slL len i : Nat) : Int) = n) :
    Calls Try.prog 9 #[.slice a len cap, .int .i64 i] w fun e w' => e = .returned (.tuple #[.agg #[.int .u64 x, .int .i64 n], .int .i64 0]) ∧ Below w.heap.size w w' := by
  have h := Of_any a len cap f i hl hlc w hf hc
  rw [ofV_ok f len i hi] at h
  subst hx hn
  exact h
theorem ck_at (a b : Option Addr) (la ca lb cb : Nat) (fa fb : Nat → Int) (r : Int) (hr : ckV fb lb (upto fa la (cnt la)) = r) (hfa : Fits fa) (hfb : Fits fb) (hla : la ≤ 1048576) (hlb : lb ≤ 1048576) (hca : la ≤ ca) (hcb : lb ≤ cb) (w : World) (hA : Bts w a la fa) (hB : Bts w b lb fb) :
    Calls Try.prog 25 #[.slice a la ca, .slice b lb cb] w fun e W' => e = .returned (.int .i64 r) ∧ Below w.heap.size w W' := by
  subst hr; exact comparekeys_law a b la ca lb cb fa fb hfa hfb hla hlb hca hcb w hA hB
theorem sh_at (a b : Option Addr) (la ca lb cb : Nat) (fa fb : Nat → Int) (n : Nat) (hn : Sh fa la fb lb n) (hfa : Fits fa) (hfb : Fits fb) (hla : la ≤ 1048576) (hlb : lb ≤ 1048576) (hca : la ≤ ca) (hcb : lb ≤ cb) (w : World) (hA : Bts w a la fa) (hB : Bts w b lb fb) :
    Calls Try.prog 24 #[.slice a la ca, .slice b lb cb] w fun e W' => e = .returned (.int .i64 n) ∧ Below w.heap.size w W' := by
  have h := shared_law a b la ca lb cb fa fb hfa hfb hla hlb hca hcb w hA hB
  rwa [shV_sh fa fb hfa hfb la lb n hn] at h
theorem refck_at (a b : Option Addr) (la ca lb cb : Nat) (fa fb : Nat → Int) (r : Int) (hr : Lex fa la fb lb r) (hla : la ≤ 1048576) (hlb : lb ≤ 1048576) (w : World) (hA : Bts w a la fa) (hB : Bts w b lb fb) :
    Calls Try.prog 23 #[.slice a la ca, .slice b lb cb] w fun e w' => e = .returned (.int .i64 r) ∧ Below w.heap.size w w' :=
  (refck_law a b la ca lb cb fa fb hla hlb w hA hB).mono fun e w' ⟨⟨s, he, hs⟩, hb⟩ => ⟨by rw [he, hs.unique hr], hb⟩
theorem refsh_at (a b : Option Addr) (la ca lb cb : Nat) (fa fb : Nat → Int) (n : Nat) (hn : Sh fa la fb lb n) (hla : la ≤ 1048576) (hlb : lb ≤ 1048576) (w : World) (hA : Bts w a la fa) (hB : Bts w b lb fb) :
    Calls Try.prog 26 #[.slice a la ca, .slice b lb cb] w fun e w' => e = .returned (.int .i64 n) ∧ Below w.heap.size w w' :=
  (refsh_law a b la ca lb cb fa fb hla hlb w hA hB).mono fun e w' ⟨⟨s, he, hs⟩, hb⟩ => ⟨by rw [he, hs.unique hn], hb⟩
theorem may_true (x n : Int) (hx : 0 ≤ x) (hx1 : x < 18446744073709551616) (h : mayV x n = true) (w : World) : Calls Try.prog 19 #[.agg #[.int .u64 x, .int .i64 n]] w fun e w' => e = .returned (.bool true) ∧ Below w.heap.size w w' := by
  have := may_any x n hx hx1 w
  rwa [h] at this
theorem join_key (b off cap la : Nat) (fa : Nat → Int) (hfa : Fits fa) (hl : la ≤ 1048576) (w : World) (hS : Sls w (some ⟨b, off, none⟩) (cnt la) (slW fa la) (fun i => ((slL la i : Nat) : Int))) :
    Calls Try.prog 15 #[.slice (some ⟨b, off, none⟩) (cnt la) cap] w fun e w' => ∃ v, e = .returned (.tuple #[v, .int .i64 0]) ∧ w'.ownsRow w.heap.size 5 1 v la (bvs fa la) ∧ Below w.heap.size w w' := by
  refine (join_some b off (cnt la) cap _ _ (slW_words fa hfa la) (by unfold cnt; omega) (by unfold cnt; omega) w hS).mono ?_
  rintro e w' (⟨_, v, rfl, ho, B⟩ | ⟨hn, _⟩)
  · rw [tot_slL la _ (Nat.le_refl _), flat_slW fa hfa la _ (Nat.le_refl _)] at ho
    have e1 : min la (8 * cnt la) = la := by unfold cnt; omega
    rw [e1] at ho
    exact ⟨v, rfl, ho, B⟩
  · exact absurd (jall_slW fa hfa la) hn

set_option maxRecDepth 100000 in
set_option maxHeartbeats 4000000 in
theorem order_long (a b : Option Addr) (la ca lb cb : Nat) (h : 9000 < la ∨ 9000 < lb) (w : World) :
    Calls Try.prog 7 #[.slice a la ca, .slice b lb cb] w fun e w' => e = .returned (.bool true) ∧ Below w.heap.size w w' := by
  by_cases h1 : 9000 < la
  · have h1i : 9000 < (la : Int) := by omega
    go_enter Try.func7, Try.ntmps7
    go_wp2_with fail
    refine (known_law _).mono ?_; rintro e W9 ⟨rfl, B9⟩
    go_wp2
    go_ret
    exact ⟨rfl, B9⟩
  · have h1i : ¬ 9000 < (la : Int) := by omega
    have h2i : 9000 < (lb : Int) := by omega
    go_enter Try.func7, Try.ntmps7
    go_wp2_with fail
    refine (known_law _).mono ?_; rintro e W9 ⟨rfl, B9⟩
    go_wp2
    go_ret
    exact ⟨rfl, B9⟩

set_option maxRecDepth 100000 in
set_option maxHeartbeats 8000000 in
theorem order_short (a b : Option Addr) (la ca lb cb : Nat) (fa fb : Nat → Int) (hfa : Fits fa) (hfb : Fits fb) (hla : la ≤ 9000) (hlb : lb ≤ 9000) (hca : la ≤ ca) (hcb : lb ≤ cb) (w : World) (hA : Bts w a la fa) (hB : Bts w b lb fb) :
    Calls Try.prog 7 #[.slice a la ca, .slice b lb cb] w fun e w' => e = .returned (.bool true) ∧ Below w.heap.size w w' := by
  obtain ⟨n, hn⟩ := Sh.exists fa fb la lb
  obtain ⟨r, hr⟩ : ∃ r, r = cmpS (slW fa la n) (slL la n : Nat) (slW fb lb n) (slL lb n : Nat) := ⟨_, rfl⟩
  have hlex : Lex fa la fb lb r := by rw [hr]; exact slice_lex fa fb hfa hfb la lb n hn
  have hck1 : ckV fb lb (upto fa la (cnt la)) = r := by rw [hr]; exact ckV_sh fa fb hfa hfb la lb n hn
  have hck2 : ckV fa la (upto fb lb (cnt lb)) = -r := by rw [hr, ckV_sh fb fa hfb hfa lb la n hn.symm]; exact cmpS_anti _ _ _ _
  have hr3 : r = -1 ∨ r = 0 ∨ r = 1 := by rw [hr]; exact cmpS_three _ _ _ _
  have hrl : -1 ≤ r := by omega
  have hrh : r ≤ 1 := by omega
  have HN := Lib.hid hn
  have HR := Lib.hid hr.symm
  have HL := Lib.hid hlex
  have HC1 := Lib.hid hck1
  have HC2 := Lib.hid hck2
  have HA := Lib.hid hA
  have HB := Lib.hid hB
  have hcn : cnt la ≤ 1126 := by unfold cnt; omega
  have hci : (cnt la : Int) ≤ 1126 := by omega
  have hc0 : 0 < cnt la := by unfold cnt; omega
  have hlai : ¬ 9000 < (la : Int) := by omega
  have hlbi : ¬ 9000 < (lb : Int) := by omega
  have hnl : (n : Int) ≤ 1126 := by have := hn.lt.1; omega
  clear hn hr hlex hck1 hck2 hr3 hA hB
  obtain ⟨i0, hi, hz0, hz1, hz2⟩ := info_parts info26
  go_enter Try.func7, Try.ntmps7
  go_wp2_with fail
  go_loopw [5, 6] (fun v i wr => ∃ k : Nat, k ≤ cnt la ∧ i = .int .i64 k ∧ wr.ownsRow w.heap.size 26 2 v k (slv (slW fa la) (fun i => ((slL la i : Nat) : Int)) k) ∧ Below w.heap.size w wr) (fun _ i _ => cnt la - (intOf i).toNat)
  case atStart => exact ⟨0, by omega, rfl, World.ownsRow_nil _ _ _ _, Below.refl _ _⟩
  case round =>
    obtain ⟨k, hk, rfl, hown, B⟩ := hrel
    by_cases hlt : k < cnt la
    · have hkl : (k : Int) < (cnt la : Int) := by omega
      have hk2 : (k : Int) < 2000 := by omega
      go_wp2_with fail
      refine (count_any _ _ _ (by omega) _).mono ?_; rintro e w' ⟨rfl, rfl⟩
      go_wp2_with fail
      refine (Of_at a la ca fa k (slW fa la k) ((slL la k : Nat) : Int) (by omega) hca _ hfa (HA.out.below B) hlt rfl rfl).mono ?_
      rintro e W1 ⟨rfl, B1⟩
      go_wp2_with fail
      refine (num_law _ _).mono ?_; rintro e w' ⟨rfl, rfl⟩
      have own1 := own_kept hown B1
      have X1 := box2_new W1 (slW fa la k) ((slL la k : Nat) : Int)
      have own2 := own1.alloc (.cells #[.int .u64 (slW fa la k), .int .i64 ((slL la k : Nat) : Int)] 26)
      have B2 := (step_below B B1).alloc (Nat.le_trans B.size B1.size) (.cells #[.int .u64 (slW fa la k), .int .i64 ((slL la k : Nat) : Int)] 26)
      have hwk := slW_words fa hfa la k
      have hmk := (jall_slW fa hfa la).2 k hlt
      have c0 := X1.c0
      have c1 := X1.c1
      clear own1 hown B B1
      go_wp2_with fail
      refine (may_true _ _ hwk.1 hwk.2 hmk.1 _).mono ?_; rintro e W2 ⟨rfl, B3⟩
      replace X1 := X1.below B3
      clear hmk
      have own3 := own_kept own2 B3
      replace B2 := step_below B2 B3
      clear own2 c0 c1
      have c0 := X1.c0
      have c1 := X1.c1
      have hs2 : w.heap.size ≤ W2.heap.size := B2.size
      go_wp2_with (at_builtin; refine wpList_append_own _ rfl _ _ 36 rfl w.heap.size 26 i0 (.agg #[.int .u64 0, .int .i64 0]) 2 16 Try.underlying36 hi hz0 hz1 hz2 rfl (by decide) _ _ _ rfl (own3.alloc _) ⟨W2.heap.size, 0, none⟩ 1 1 [.int .u64 (slW fa la k), .int .i64 ((slL la k : Nat) : Int)] ?r1 rfl ?c1 ?c2 ?c3 ?c4 ?c5 ?_)
      case r1 => rfl
      case c1 =>
        intro j u hj
        match j, hj with
        | 0, hj => simp at hj; subst hj; simp [Addr.add, go_sem]
        | 1, hj => simp at hj; subst hj; simp [Addr.add, go_sem]
      case c2 => intro u hu; simp at hu; rcases hu with rfl | rfl <;> rfl
      case c3 => unfold maxLen; omega
      case c4 => omega
      case c5 => simp; omega
      intro v' w1 hown' hgrow _
      have B4 : Below w.heap.size w w1 := (B2.alloc hs2 _).grown hgrow (by simp; omega) (fun j hj => (own3.lt j hj).1)
      clear hgrow own3 B2 X1 c0 c1 hwk B3 hs2
      go_wp2_with fail
      go_roundw
      case rel => exact ⟨k + 1, by omega, by go_num, hown', B4⟩
      case measure => simp [intOf]; omega
    · have e : k = cnt la := by omega
      have hkl : ¬ (k : Int) < (cnt la : Int) := by omega
      rw [e] at hown
      obtain ⟨g, gc, rfl, hS⟩ := own_sls hown hc0
      clear hown e
      go_wp2_with fail
      refine (count_any _ _ _ (by omega) _).mono ?_; rintro e w' ⟨rfl, rfl⟩
      go_wp2_with fail
      refine (join_key g 0 gc la fa hfa (by omega) _ hS).mono ?_
      rintro e W1 ⟨v1, rfl, hown1, B1⟩
      obtain ⟨ba, bc, rfl, hbk⟩ := own_bvs hown1
      replace B1 := step_below B B1
      have q1 := conv_bts W1 _ _ bc _ hbk
      have q2 := conv_bts W1 _ _ ca _ (HA.out.below B1)
      clear hown1 hbk B hS
      go_wp2_with fail
      refine (num_law _ _).mono ?_; rintro e w' ⟨rfl, rfl⟩
      go_wp2_with fail
      clear q1 q2
      refine (refck_at a b la ca lb cb fa fb r HL.out (by omega) (by omega) _ (HA.out.below B1) (HB.out.below B1)).mono ?_
      rintro e W2 ⟨rfl, B2⟩
      replace B2 := step_below B1 B2
      clear B1
      go_wp2_with fail
      refine (sh_at a b la ca lb cb fa fb n HN.out hfa hfb (by omega) (by omega) hca hcb _ (HA.out.below B2) (HB.out.below B2)).mono ?_
      rintro e W3 ⟨rfl, B3⟩
      replace B3 := step_below B2 B3
      clear B2
      go_wp2_with fail
      refine (ck_at a b la ca lb cb fa fb r HC1.out hfa hfb (by omega) (by omega) hca hcb _ (HA.out.below B3) (HB.out.below B3)).mono ?_
      rintro e W4 ⟨rfl, B4⟩
      replace B4 := step_below B3 B4
      clear B3
      go_wp2_with fail
      refine (ck_at b a lb cb la ca fb fa (-r) HC2.out hfb hfa (by omega) (by omega) hcb hca _ (HB.out.below B4) (HA.out.below B4)).mono ?_
      rintro e W5 ⟨rfl, B5⟩
      replace B5 := step_below B4 B5
      clear B4
      go_wp2_with fail
      refine (refsh_at a b la ca lb cb fa fb n HN.out (by omega) (by omega) _ (HA.out.below B5) (HB.out.below B5)).mono ?_
      rintro e W6 ⟨rfl, B6⟩
      replace B6 := step_below B5 B6
      clear B5
      go_wp2_with fail
      refine (sh_at b a lb cb la ca fb fa n HN.out.symm hfb hfa (by omega) (by omega) hcb hca _ (HB.out.below B6) (HA.out.below B6)).mono ?_
      rintro e W7 ⟨rfl, B7⟩
      replace B7 := step_below B6 B7
      clear B6
      go_wp2_with fail
      go_loopw [13] (fun i wr => ∃ m : Nat, m ≤ n ∧ i = .int .i64 m ∧ Below w.heap.size w wr) (fun i _ => n - (intOf i).toNat)
      case atStart => exact ⟨0, by omega, rfl, B7⟩
      case round =>
        clear B7
        obtain ⟨m, hm, rfl, B⟩ := hrel
        by_cases hlt : m < n
        · have hml : (m : Int) < (n : Int) := by omega
          obtain ⟨b1, b2, b3, b4, b5⟩ := both_slice (HN.out.1 m hlt)
          obtain ⟨x, hx⟩ : ∃ x, x = slW fa la m := ⟨_, rfl⟩
          have D1 := Lib.hid hx.symm
          have D2 := Lib.hid (b3.symm.trans hx.symm)
          have D4 := Lib.hid (show ((slL la m : Nat) : Int) = 9 by rw [b4]; rfl)
          have D5 := Lib.hid (show ((slL lb m : Nat) : Int) = 9 by rw [b5]; rfl)
          clear hx b3 b4 b5
          go_wp2_with fail
          refine (Of_at a la ca fa m x 9 (by omega) hca _ hfa (HA.out.below B) b1 D1.out D4.out).mono ?_
          rintro e W1 ⟨rfl, B1⟩
          replace B1 := step_below B B1
          have X1 := box2_new W1 x 9
          replace B1 := B1.alloc B1.size (.cells #[.int .u64 x, .int .i64 9] 26)
          clear B
          go_wp2_with fail
          refine (Of_at b lb cb fb m x 9 (by omega) hcb _ hfb (HB.out.below B1) b2 D2.out D5.out).mono ?_
          rintro e W2 ⟨rfl, B2⟩
          replace X1 := box2_past (X1.below B2) (.cells #[.int .u64 x, .int .i64 9] 26)
          have X2 := box2_new W2 x 9
          replace B2 := step_below B1 B2
          replace B2 := B2.alloc B2.size (.cells #[.int .u64 x, .int .i64 9] 26)
          have c0 := X1.c0
          have c1 := X1.c1
          clear B1 b1 b2 X1
          go_wp2_with fail
          go_roundw
          case rel => exact ⟨m + 1, by omega, by go_num, B2⟩
          case measure => simp [intOf]; omega
        · have e : m = n := by omega
          have hml : ¬ (m : Int) < (n : Int) := by omega
          clear e
          go_wp2_with fail
          refine (Of_at a la ca fa n _ _ (by omega) hca _ hfa (HA.out.below B) HN.out.lt.1 rfl rfl).mono ?_
          rintro e W1 ⟨rfl, B1⟩
          replace B1 := step_below B B1
          have X1 := box2_new W1 (slW fa la n) ((slL la n : Nat) : Int)
          replace B1 := B1.alloc B1.size (.cells #[.int .u64 (slW fa la n), .int .i64 ((slL la n : Nat) : Int)] 26)
          clear B
          go_wp2_with fail
          refine (Of_at b lb cb fb n _ _ (by omega) hcb _ hfb (HB.out.below B1) HN.out.symm.lt.1 rfl rfl).mono ?_
          rintro e W2 ⟨rfl, B2⟩
          replace X1 := box2_past (X1.below B2) (.cells #[.int .u64 (slW fb lb n), .int .i64 ((slL lb n : Nat) : Int)] 26)
          have X2 := box2_new W2 (slW fb lb n) ((slL lb n : Nat) : Int)
          replace B2 := step_below B1 B2
          replace B2 := B2.alloc B2.size (.cells #[.int .u64 (slW fb lb n), .int .i64 ((slL lb n : Nat) : Int)] 26)
          have c0 := X1.c0
          have c1 := X1.c1
          clear B1 X1
          go_wp2_with fail
          refine (num_law _ _).mono ?_; rintro e w' ⟨rfl, rfl⟩
          go_wp2_with fail
          refine (num_law _ _).mono ?_; rintro e w' ⟨rfl, rfl⟩
          go_wp2_with fail
          refine (compare_at _ _ _ _ r HR.out _).mono ?_
          rintro e W3 ⟨rfl, B3⟩
          replace B3 := step_below B2 B3
          clear B2 c0 c1 X2
          go_wp2_with fail
          refine (known_law _).mono ?_; rintro e W9 ⟨rfl, B9⟩
          go_wp2
          go_ret
          exact ⟨rfl, step_below B3 B9⟩
theorem order_law (a b : Option Addr) (la ca lb cb : Nat) (za zb : List Int) (w : World) (ha : IsRow .u8 w a la ca za) (hb : IsRow .u8 w b lb cb zb) :
    Calls Try.prog 7 #[.slice a la ca, .slice b lb cb] w fun e w' => e = .returned (.bool true) ∧ Below w.heap.size w w' := by
  rcases (show (9000 < la ∨ 9000 < lb) ∨ (la ≤ 9000 ∧ lb ≤ 9000) from by omega) with h | ⟨h1, h2⟩
  · exact order_long a b la ca lb cb h w
  · exact order_short a b la ca lb cb _ _ ha.fits hb.fits h1 h2 ha.le hb.le w ha.bts hb.bts
end Go.Proofs.Ytjclhoibmoehiaa
