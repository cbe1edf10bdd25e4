/- The walk of TidTexts. -/
import Derived.Test.YtfdboihfgpibcaaDoorTxf
namespace Go.Proofs.YtfdboihfgpibcaaDoor
open Go.ChangeShapes Go.WideShapes Go.ChangeAt Go.RowKit
open TM
set_option linter.unusedVariables false
set_option linter.unusedSimpArgs false

theorem good_uniq {L : List UInt8} {e n e' n' : Nat} {l d a l' d' a' : Bool} (h : Good L e n l d a) (k : Good L e' n' l' d' a') : e = e' ∧ n = n' ∧ l = l' ∧ d = d' ∧ a = a' := by
  obtain ⟨h1, h2, h3, h4, h5⟩ := good_parse h
  obtain ⟨k1, k2, k3, k4, k5⟩ := good_parse k
  have i1 := h4.symm.trans k4
  have i2 := h5.symm.trans k5
  injection i1 with i1
  injection i2 with i2
  exact ⟨by omega, by omega, h1.symm.trans k1, h2.symm.trans k2, h3.symm.trans k3⟩
def valW (e n : Nat) (l d a : Bool) : Int := wordV e n + b2i l + 2 * b2i d + 4 * b2i a
theorem parse_good (s : ByteArray) (hn9 : s.size ≤ 9000) (L : List UInt8) (hL : L = s.data.toList) {e n : Nat} {l d a : Bool} (hg : Good L e n l d a) (v : Int) (hv : valW e n l d a = v) (w : World) (he : EnvAt w) :
    Calls Tryd.prog 27 #[.string s] w fun r w' => r = .returned (.tuple #[.int .u64 v, .int .i64 0]) ∧ Below w.heap.size w w' :=
  (parse_any s hn9 L hL w he).mono fun r w' ⟨hr, hb⟩ => by
    rcases hr with ⟨e', n', l', d', a', h, rfl⟩ | ⟨h, _⟩
    · obtain ⟨rfl, rfl, rfl, rfl, rfl⟩ := good_uniq hg h
      subst hv
      exact ⟨rfl, hb⟩
    · exact absurd hg (h _ _ _ _ _)
theorem parse_bad (s : ByteArray) (hn9 : s.size ≤ 9000) (L : List UInt8) (hL : L = s.data.toList) (hg : ¬ ∃ e n l d a, Good L e n l d a) (w : World) (he : EnvAt w) :
    Calls Tryd.prog 27 #[.string s] w fun r w' => r = .returned (.tuple #[.int .u64 0, .int .i64 4]) ∧ Below w.heap.size w w' :=
  (parse_any s hn9 L hL w he).mono fun r w' ⟨hr, hb⟩ => by
    rcases hr with ⟨e', n', l', d', a', h, rfl⟩ | ⟨h, rfl⟩
    · exact absurd ⟨_, _, _, _, _, h⟩ hg
    · exact ⟨rfl, hb⟩
theorem ref_good (s : ByteArray) (hn9 : s.size ≤ 9000) (L : List UInt8) (hL : L = s.data.toList) {e n : Nat} {l d a : Bool} (hg : Good L e n l d a) (w : World) :
    Calls Tryd.prog 28 #[.string s] w fun r w' => r = .returned (.tuple #[.agg #[.int .i64 (e : Int), .int .i64 (n : Int), .bool l, .bool d, .bool a], .bool true]) ∧ Below w.heap.size w w' :=
  (refparse_any s _ rfl hn9 L hL w).mono fun r w' ⟨hr, hb⟩ => by
    rcases hr with ⟨e', n', l', d', a', h, rfl⟩ | ⟨h, _⟩
    · obtain ⟨rfl, rfl, rfl, rfl, rfl⟩ := good_uniq hg h
      exact ⟨rfl, hb⟩
    · exact absurd hg (h _ _ _ _ _)
theorem ref_bad (s : ByteArray) (hn9 : s.size ≤ 9000) (L : List UInt8) (hL : L = s.data.toList) (hg : ¬ ∃ e n l d a, Good L e n l d a) (w : World) :
    Calls Tryd.prog 28 #[.string s] w fun r w' => r = .returned (.tuple #[.agg #[.int .i64 0, .int .i64 0, .bool false, .bool false, .bool false], .bool false]) ∧ Below w.heap.size w w' :=
  (refparse_any s _ rfl hn9 L hL w).mono fun r w' ⟨hr, hb⟩ => by
    rcases hr with ⟨e', n', l', d', a', h, rfl⟩ | ⟨h, rfl⟩
    · exact absurd ⟨_, _, _, _, _, h⟩ hg
    · exact ⟨rfl, hb⟩
theorem own_text (x : Int) (h0 : 0 ≤ x) (hm : mayB x = true) : ∃ (e n : Nat) (l d a : Bool), epV x = e ∧ nuV x = n ∧ bitB x 1 = l ∧ bitB x 2 = d ∧ bitB x 4 = a ∧ e ≤ 16777215 ∧ n ≤ 2147483647 ∧ Good (tx x) e n l d a ∧ valW e n l d a = x ∧ tx x = TX.textL e n l d a := by
  obtain ⟨e, n, hE, e1, hN, n1⟩ := epnu x
  have ht : tx x = TX.textL e n (bitB x 1) (bitB x 2) (bitB x 4) := by unfold tx; rw [hE, hN]; rfl
  refine ⟨e, n, _, _, _, hE, hN, rfl, rfl, rfl, e1, n1, ⟨e1, n1, ht⟩, ?_, ht⟩
  have hlt := may_lt hm
  have p1 : b2i (bitB x 1) = x % 2 := by unfold bitB b2i; rw [Int.ediv_one]; rcases Int.emod_two_eq x with h | h <;> simp [h]
  have p2 : b2i (bitB x 2) = x / 2 % 2 := by unfold bitB b2i; rcases Int.emod_two_eq (x / 2) with h | h <;> simp [h]
  have p4 : b2i (bitB x 4) = x / 4 % 2 := by unfold bitB b2i; rcases Int.emod_two_eq (x / 4) with h | h <;> simp [h]
  unfold valW
  rw [p1, p2, p4, ← hE, ← hN]
  unfold wordV epV nuV
  omega
theorem known_env {w : World} (h : EnvAt w) : Calls Tryd.prog 11 #[] w fun e w' => e = .returned (.bool true) ∧ Below w.heap.size w w' := by
  obtain ⟨m, hm⟩ := h.mx
  exact known_any w m hm
set_option maxRecDepth 100000 in
set_option maxHeartbeats 2000000 in
theorem texts_law (x : Int) (h0 : 0 ≤ x) (h1 : x < 18446744073709551616) (s : ByteArray) (w : World) (he : EnvAt w) :
    Calls Tryd.prog 9 #[.int .u64 x, .string s] w fun r w' => r = .returned (.bool true) ∧ Below w.heap.size w w' := by
  have HE := Lib.hid he
  have HX := Lib.hid (And.intro h0 h1)
  clear he
  obtain ⟨ms, hms⟩ : ∃ n, s.size = n := ⟨_, rfl⟩
  have HMS := Lib.hid hms
  obtain ⟨b, hb⟩ : ∃ b, mayB x = b := ⟨_, rfl⟩
  have HRO := Lib.hid (fun w => refOf_any x h0 h1 w)
  cases b with
  | true =>
    obtain ⟨e, n, l, d, a, hE, hN, hl, hd, ha, he9, hn9, hg, hv, ht⟩ := own_text x h0 hb
    have HTX := Lib.hid (fun w hw => text_any x h0 h1 hb w hw)
    rw [hE, hN, hl, hd, ha, hb] at HRO
    have HRT := Lib.hid (fun w => reftext_any e n l d a he9 hn9 w)
    rw [← ht] at HRT
    obtain ⟨tS, htS⟩ : ∃ t, (⟨(tx x).toArray⟩ : ByteArray) = t := ⟨_, rfl⟩
    have hPG := fun w hw => parse_good tS (by rw [← htS]; have := txk_size x 3; exact Nat.le_trans this (by decide)) (tx x) (by rw [← htS]) hg x hv w hw
    rw [htS] at HTX HRT
    have HPG := Lib.hid hPG
    have q1 : (tS.toList == tS.toList) = true := beq_self_eq_true _
    have q2 : ((x : Int) != x) = false := by simp
    have q3 : (true != true) = false := rfl
    clear hPG hE hN hl hd ha he9 hn9 hg hv ht htS hb h0 h1
    go_enter Tryd.func9, Tryd.ntmps9
    go_wp2_with fail
    refine (HRO.out _).mono ?_; rintro r W1 ⟨rfl, B1⟩
    go_wp2_with fail
    have hC := C5.new W1 (.int .i64 (e : Int)) (.int .i64 (n : Int)) (.bool l) (.bool d) (.bool a)
    have B2 := step_below B1 (below_box W1 (.cells #[.int .i64 (e : Int), .int .i64 (n : Int), .bool l, .bool d, .bool a] 28 (0, 0)))
    have HE2 := Lib.hid (HE.out.below B2)
    have HB2 := Lib.hid B2
    have HC := Lib.hid hC
    clear hC B1 B2
    refine (HTX.out _ HE2.out).mono ?_; rintro r W3 ⟨rfl, B3⟩
    have HE3 := Lib.hid (HE2.out.below B3)
    have hC3 := HC.out.below B3
    have k0 := hC3.c0
    have k1 := hC3.c1
    have k2 := hC3.c2
    have k3 := hC3.c3
    have k4 := hC3.c4
    replace B3 := step_below HB2.out B3
    clear hC3
    go_wp2_with fail
    refine (HRT.out _).mono ?_; rintro r W4 ⟨rfl, B4⟩
    have HE4 := Lib.hid (HE3.out.below B4)
    replace B4 := step_below B3 B4
    clear B3 k0 k1 k2 k3 k4
    go_wp2_with fail
    refine (HPG.out _ HE4.out).mono ?_; rintro r Wf ⟨rfl, B5⟩
    have HEf := Lib.hid (HE4.out.below B5)
    have BW := step_below B4 B5
    clear B4 B5 q1 q2 q3
    by_cases h40 : 40 < ms
    · have h40i : (40 : Int) < (ms : Int) := by omega
      clear h40
      go_wp2_with fail
      refine (known_env HEf.out).mono ?_; rintro r Wk ⟨rfl, Bk⟩
      replace BW := step_below BW Bk
      go_wp2_with fail
      go_ret
      exact ⟨rfl, BW⟩
    · have h40i : ¬ (40 : Int) < (ms : Int) := by omega
      have hs9 : s.size ≤ 9000 := by rw [HMS.out]; omega
      by_cases hG : ∃ e n l d a, Good s.data.toList e n l d a
      · obtain ⟨e2, n2, l2, d2, a2, hg2⟩ := hG
        obtain ⟨v2, hv2⟩ : ∃ v, valW e2 n2 l2 d2 a2 = v := ⟨_, rfl⟩
        have HP2 := Lib.hid (fun w hw => parse_good s hs9 _ rfl hg2 v2 hv2 w hw)
        have HR2 := Lib.hid (fun w => ref_good s hs9 _ rfl hg2 w)
        have hO := fun w => to_any (e2 : Int) (n2 : Int) l2 d2 a2 (by omega) (by have := hg2.1; omega) (by omega) (by have := hg2.2.1; omega) w
        rw [show wordV (e2 : Int) n2 + b2i l2 + 2 * b2i d2 + 4 * b2i a2 = v2 from hv2] at hO
        have HO := Lib.hid hO
        have u1 : (v2 != v2) = false := by simp
        have u2 : (true != true) = false := rfl
        clear hO hv2 hg2 hs9 h40
        go_wp2_with fail
        refine (HP2.out _ HEf.out).mono ?_; rintro r W6 ⟨rfl, B6⟩
        have HE6 := Lib.hid (HEf.out.below B6)
        replace B6 := step_below BW B6
        clear BW
        go_wp2_with fail
        refine (HR2.out _).mono ?_; rintro r W7 ⟨rfl, B7⟩
        have HE7 := Lib.hid (HE6.out.below B7)
        replace B7 := step_below B6 B7
        clear B6
        have hC7 := C5.new W7 (.int .i64 (e2 : Int)) (.int .i64 (n2 : Int)) (.bool l2) (.bool d2) (.bool a2)
        have k0 := hC7.c0
        have k1 := hC7.c1
        have k2 := hC7.c2
        have k3 := hC7.c3
        have k4 := hC7.c4
        have B8 := below_box W7 (.cells #[.int .i64 (e2 : Int), .int .i64 (n2 : Int), .bool l2, .bool d2, .bool a2] 28 (0, 0))
        have HE8 := Lib.hid (HE7.out.below B8)
        replace B8 := Lib.hid (step_below B7 B8)
        clear B7
        go_wp2_with fail
        refine (HO.out _).mono ?_; rintro r W9 ⟨rfl, B9⟩
        have HE9 := Lib.hid (HE8.out.below B9)
        replace B9 := step_below B8.out B9
        go_wp2_with fail
        refine (known_env HE9.out).mono ?_; rintro r Wk ⟨rfl, Bk⟩
        replace Bk := step_below B9 Bk
        go_wp2_with fail
        go_ret
        exact ⟨rfl, Bk⟩
      · have HP2 := Lib.hid (fun w hw => parse_bad s hs9 _ rfl hG w hw)
        have HR2 := Lib.hid (fun w => ref_bad s hs9 _ rfl hG w)
        clear hG hs9 h40
        go_wp2_with fail
        refine (HP2.out _ HEf.out).mono ?_; rintro r W6 ⟨rfl, B6⟩
        have HE6 := Lib.hid (HEf.out.below B6)
        replace B6 := step_below BW B6
        clear BW
        go_wp2_with fail
        refine (HR2.out _).mono ?_; rintro r W7 ⟨rfl, B7⟩
        have B8 := below_box W7 (.cells #[.int .i64 0, .int .i64 0, .bool false, .bool false, .bool false] 28 (0, 0))
        have HE8 := Lib.hid ((HE6.out.below B7).below B8)
        replace B8 := Lib.hid (step_below (step_below B6 B7) B8)
        clear B6 B7
        go_wp2_with fail
        refine (known_env HE8.out).mono ?_; rintro r Wk ⟨rfl, Bk⟩
        replace Bk := step_below B8.out Bk
        go_wp2_with fail
        go_ret
        exact ⟨rfl, Bk⟩
  | false =>
    rw [hb] at HRO
    have HTN := Lib.hid (fun w => text_no x h0 h1 hb w)
    generalize epV x = ee at HRO
    generalize nuV x = nn at HRO
    generalize bitB x 1 = l at HRO
    generalize bitB x 2 = d at HRO
    generalize bitB x 4 = a at HRO
    have q3 : (false != false) = false := rfl
    clear hb h0 h1
    go_enter Tryd.func9, Tryd.ntmps9
    go_wp2_with fail
    refine (HRO.out _).mono ?_; rintro r W1 ⟨rfl, B1⟩
    have B2 := step_below B1 (below_box W1 (.cells #[.int .i64 ee, .int .i64 nn, .bool l, .bool d, .bool a] 28 (0, 0)))
    have HEf := Lib.hid (HE.out.below B2)
    have BW := B2
    clear B1 B2
    go_wp2_with fail
    refine (HTN.out _).mono ?_; rintro r w' ⟨rfl, rfl⟩
    by_cases h40 : 40 < ms
    · have h40i : (40 : Int) < (ms : Int) := by omega
      clear h40
      go_wp2_with fail
      refine (known_env HEf.out).mono ?_; rintro r Wk ⟨rfl, Bk⟩
      replace BW := step_below BW Bk
      go_wp2_with fail
      go_ret
      exact ⟨rfl, BW⟩
    · have h40i : ¬ (40 : Int) < (ms : Int) := by omega
      have hs9 : s.size ≤ 9000 := by rw [HMS.out]; omega
      by_cases hG : ∃ e n l d a, Good s.data.toList e n l d a
      · obtain ⟨e2, n2, l2, d2, a2, hg2⟩ := hG
        obtain ⟨v2, hv2⟩ : ∃ v, valW e2 n2 l2 d2 a2 = v := ⟨_, rfl⟩
        have HP2 := Lib.hid (fun w hw => parse_good s hs9 _ rfl hg2 v2 hv2 w hw)
        have HR2 := Lib.hid (fun w => ref_good s hs9 _ rfl hg2 w)
        have hO := fun w => to_any (e2 : Int) (n2 : Int) l2 d2 a2 (by omega) (by have := hg2.1; omega) (by omega) (by have := hg2.2.1; omega) w
        rw [show wordV (e2 : Int) n2 + b2i l2 + 2 * b2i d2 + 4 * b2i a2 = v2 from hv2] at hO
        have HO := Lib.hid hO
        have u1 : (v2 != v2) = false := by simp
        have u2 : (true != true) = false := rfl
        clear hO hv2 hg2 hs9 h40
        go_wp2_with fail
        refine (HP2.out _ HEf.out).mono ?_; rintro r W6 ⟨rfl, B6⟩
        have HE6 := Lib.hid (HEf.out.below B6)
        replace B6 := step_below BW B6
        clear BW
        go_wp2_with fail
        refine (HR2.out _).mono ?_; rintro r W7 ⟨rfl, B7⟩
        have HE7 := Lib.hid (HE6.out.below B7)
        replace B7 := step_below B6 B7
        clear B6
        have hC7 := C5.new W7 (.int .i64 (e2 : Int)) (.int .i64 (n2 : Int)) (.bool l2) (.bool d2) (.bool a2)
        have k0 := hC7.c0
        have k1 := hC7.c1
        have k2 := hC7.c2
        have k3 := hC7.c3
        have k4 := hC7.c4
        have B8 := below_box W7 (.cells #[.int .i64 (e2 : Int), .int .i64 (n2 : Int), .bool l2, .bool d2, .bool a2] 28 (0, 0))
        have HE8 := Lib.hid (HE7.out.below B8)
        replace B8 := Lib.hid (step_below B7 B8)
        clear B7
        go_wp2_with fail
        refine (HO.out _).mono ?_; rintro r W9 ⟨rfl, B9⟩
        have HE9 := Lib.hid (HE8.out.below B9)
        replace B9 := step_below B8.out B9
        go_wp2_with fail
        refine (known_env HE9.out).mono ?_; rintro r Wk ⟨rfl, Bk⟩
        replace Bk := step_below B9 Bk
        go_wp2_with fail
        go_ret
        exact ⟨rfl, Bk⟩
      · have HP2 := Lib.hid (fun w hw => parse_bad s hs9 _ rfl hG w hw)
        have HR2 := Lib.hid (fun w => ref_bad s hs9 _ rfl hG w)
        clear hG hs9 h40
        go_wp2_with fail
        refine (HP2.out _ HEf.out).mono ?_; rintro r W6 ⟨rfl, B6⟩
        have HE6 := Lib.hid (HEf.out.below B6)
        replace B6 := step_below BW B6
        clear BW
        go_wp2_with fail
        refine (HR2.out _).mono ?_; rintro r W7 ⟨rfl, B7⟩
        have B8 := below_box W7 (.cells #[.int .i64 0, .int .i64 0, .bool false, .bool false, .bool false] 28 (0, 0))
        have HE8 := Lib.hid ((HE6.out.below B7).below B8)
        replace B8 := Lib.hid (step_below (step_below B6 B7) B8)
        clear B6 B7
        go_wp2_with fail
        refine (known_env HE8.out).mono ?_; rintro r Wk ⟨rfl, Bk⟩
        replace Bk := step_below B8.out Bk
        go_wp2_with fail
        go_ret
        exact ⟨rfl, Bk⟩
end Go.Proofs.YtfdboihfgpibcaaDoor
