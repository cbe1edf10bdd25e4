/- The program's own reading of a text, by contracts. -/
import Derived.Test.YtfdboihfgpibcaaDoorTxe
namespace Go.Proofs.YtfdboihfgpibcaaDoor
open Go.ChangeShapes Go.WideShapes Go.ChangeAt Go.RowKit
open TM
set_option linter.unusedVariables false
set_option linter.unusedSimpArgs false

def bvK (l d a : Bool) : Nat → Int
  | 0 => 0
  | 1 => b2i l
  | 2 => b2i l + 2 * b2i d
  | _ => b2i l + 2 * b2i d + 4 * b2i a
theorem or8 (y b : Nat) (hb : b < 8) (hy : 8 * y + 7 < 18446744073709551616) : bits .or .u64 ((8 * y : Nat) : Int) (b : Int) = ((8 * y + b : Nat) : Int) := by
  rw [u64_or_nat _ _ (by omega) (by omega)]
  congr 1
  exact (Nat.two_pow_add_eq_or_of_lt (i := 3) hb y).symm
theorem or_bv (e n : Int) (h0 : 0 ≤ e) (h1 : e ≤ 16777215) (k0 : 0 ≤ n) (k1 : n ≤ 2147483647) (l d a : Bool) :
    bits .or .u64 (wordV e n) (bvK l d a 3) = wordV e n + b2i l + 2 * b2i d + 4 * b2i a := by
  obtain ⟨y, hy⟩ : ∃ y : Nat, wordV e n = ((8 * y : Nat) : Int) := ⟨(e * 2147483648 + n).toNat, by unfold wordV; omega⟩
  obtain ⟨b, hb, hb8⟩ : ∃ b : Nat, bvK l d a 3 = (b : Int) ∧ b < 8 := by
    cases l <;> cases d <;> cases a <;> exact ⟨_, rfl, by decide⟩
  have hb2 : (b : Int) = b2i l + 2 * b2i d + 4 * b2i a := hb.symm
  have hlt : 8 * y < 288230376151711744 := by unfold wordV at hy; omega
  rw [hy, hb, or8 y b hb8 (by omega)]
  omega
theorem word_parts (e n : Int) (h0 : 0 ≤ e) (h1 : e ≤ 16777215) (k0 : 0 ≤ n) (k1 : n ≤ 2147483647) (l d a : Bool) (X : Int) (hX : X = wordV e n + b2i l + 2 * b2i d + 4 * b2i a) :
    0 ≤ X ∧ X < 18446744073709551616 ∧ mayB X = true ∧ tx X = TX.textL e.toNat n.toNat l d a := by
  have b1 := b2i_bd l
  have b2 := b2i_bd d
  have b3 := b2i_bd a
  have q1 : epV X = e := by rw [hX]; unfold epV wordV; omega
  have q2 : nuV X = n := by rw [hX]; unfold nuV wordV; omega
  refine ⟨by rw [hX]; unfold wordV; omega, by rw [hX]; unfold wordV; omega, ?_, ?_⟩
  · unfold mayB; rw [decide_eq_true_eq, hX]; unfold wordV; omega
  · unfold tx
    rw [q1, q2]
    congr 1
    · unfold bitB; cases l <;> (simp only [hX, wordV, b2i] ; rw [Bool.eq_iff_iff]; simp; omega)
    · unfold bitB; cases d <;> (simp only [hX, wordV, b2i] ; rw [Bool.eq_iff_iff]; unfold b2i at b1 b3; simp; omega)
    · unfold bitB; cases a <;> (simp only [hX, wordV, b2i] ; rw [Bool.eq_iff_iff]; unfold b2i at b1 b2; simp; omega)
theorem good_parse {L : List UInt8} {e n : Nat} {l d a : Bool} (h : Good L e n l d a) :
    decide (0 ≤ Lib.indexByte L 76) = l ∧ decide (0 ≤ Lib.indexByte L 68) = d ∧ decide (0 ≤ Lib.indexByte L 65) = a ∧
    Lib.parseIntB 64 (Lib.cut (Lib.trimRightS L [76, 68, 65]) [46]).1 = .ok (e : Int) ∧ Lib.parseIntB 64 (Lib.cut (Lib.trimRightS L [76, 68, 65]) [46]).2.1 = .ok (n : Int) := by
  obtain ⟨h1, h2, rfl⟩ := h
  rw [TX.trim_sfx, TX.cut_body]
  exact ⟨TX.has_l e n l d a, TX.has_d e n l d a, TX.has_a e n l d a, TX.parse_dec e (by omega), TX.parse_dec n (by omega)⟩
theorem hasr (s : ByteArray) (L : List UInt8) (hL : L = s.data.toList) (r : Int) (c : UInt8) (hc : r.toNat.toUInt8 = c) (b : Bool) (h0 : 0 ≤ r) (h1 : r < 128) (hb : decide (0 ≤ Lib.indexByte L c) = b) (w : World) :
    Calls Tryd.prog 32 #[.string s, .int .i32 r] w fun e w' => e = .returned (.bool b) ∧ w = w' :=
  hasrune s r b h0 h1 (by rw [← hL, hc]; exact hb) w
/-- What ParseInt answers, an error or none. -/
theorem parsed_any (s : ByteArray) (hs : s.size ≤ 281474976710656) (p : Lib.NumEnd Int) (hp : Lib.parseIntB 64 s.data.toList = p) (w : World) (he : EnvAt w) :
    Calls Tryd.prog 35 #[.string s, .int .i64 10, .int .i64 64] w fun r w' =>
      ((∃ v, p = .ok v ∧ r = .returned (.tuple #[.int .i64 v, .nilIface])) ∨ ((∀ v, p ≠ .ok v) ∧ ∃ v tp q, r = .returned (.tuple #[.int .i64 v, .iface tp q]))) ∧ Below w.heap.size w w' := by
  obtain ⟨t1, p1, h1⟩ := he.syn
  obtain ⟨t2, p2, h2⟩ := he.rng
  cases p
  case ok v => exact (Tryd.strconv_ParseInt_10_at64_ok s (by omega) v hp w).mono fun _ _ ⟨a, c⟩ => ⟨.inl ⟨v, rfl, a⟩, below_of_bytes c⟩
  case range => exact (Tryd.strconv_ParseInt_10_at64_range s hs hp _ w h2 (.inr ⟨t2, p2, rfl⟩)).mono fun _ _ ⟨N, a, _, _, c⟩ => ⟨.inr ⟨(fun v h => by cases h), _, _, _, a⟩, c⟩
  all_goals exact (Any.strconv_ParseInt_10_at64_syntax Tryd.laysC174 s hs hp _ w h1 (.inr ⟨t1, p1, rfl⟩)).mono fun _ _ ⟨N, a, _, _, c⟩ => ⟨.inr ⟨(fun v h => by cases h), _, _, _, a⟩, c⟩
/-- How the program reads a text. -/
def CP (L : List UInt8) (r : Ending) : Prop :=
  (∃ (e n : Nat) (l d a : Bool), Good L e n l d a ∧ r = .returned (.tuple #[.int .u64 (wordV e n + b2i l + 2 * b2i d + 4 * b2i a), .int .i64 0])) ∨
  ((∀ (e n : Nat) (l d a : Bool), ¬ Good L e n l d a) ∧ r = .returned (.tuple #[.int .u64 0, .int .i64 4]))
theorem trim_len (L c : List UInt8) : (Lib.trimRightS L c).length ≤ L.length := by
  unfold Lib.trimRightS
  rw [List.length_reverse]
  have := (List.dropWhile_sublist (l := L.reverse) (c.contains ·)).length_le
  simpa using this
theorem cut_len (T c : List UInt8) : (Lib.cut T c).1.length ≤ T.length ∧ (Lib.cut T c).2.1.length ≤ T.length := by
  unfold Lib.cut
  split
  · simp only [List.length_take, List.length_drop]; omega
  · simp
set_option maxRecDepth 100000 in
set_option maxHeartbeats 2000000 in
theorem parse_any (s : ByteArray) (hn9 : s.size ≤ 9000) (L : List UInt8) (hL : L = s.data.toList) (w : World) (he : EnvAt w) : Calls Tryd.prog 27 #[.string s] w fun r w' => CP L r ∧ Below w.heap.size w w' := by
  obtain ⟨l, hl⟩ : ∃ b, decide (0 ≤ Lib.indexByte L 76) = b := ⟨_, rfl⟩
  obtain ⟨d, hd⟩ : ∃ b, decide (0 ≤ Lib.indexByte L 68) = b := ⟨_, rfl⟩
  obtain ⟨a, ha⟩ : ∃ b, decide (0 ≤ Lib.indexByte L 65) = b := ⟨_, rfl⟩
  have H0 := Lib.hid (fun w => hasr s L hL 76 76 rfl l (by decide) (by decide) hl w)
  have H1 := Lib.hid (fun w => hasr s L hL 68 68 rfl d (by decide) (by decide) hd w)
  have H2 := Lib.hid (fun w => hasr s L hL 65 65 rfl a (by decide) (by decide) ha w)
  have HE := Lib.hid he
  have HS := Lib.hid hn9
  have HLL := Lib.hid hL
  have HLDA := Lib.hid (And.intro hl (And.intro hd ha))
  clear he hn9 hL hl hd ha
  go_enter Tryd.func27, Tryd.ntmps27
  go_wp2_with fail
  go_loopw [4] (fun v wr => ∃ k : Nat, k ≤ 3 ∧ v = .int .u64 (bvK l d a k) ∧ wr = w.iter ⟨#[76, 68, 65]⟩ k) (fun _ wr => 3 - wr.iterPos w.heap.size)
  case atStart => exact ⟨0, by decide, rfl, rfl⟩
  case round =>
    obtain ⟨k, hk, rfl, rfl⟩ := hrel
    rcases (show k = 0 ∨ k = 1 ∨ k = 2 ∨ k = 3 from by omega) with rfl | rfl | rfl | rfl
    · have hn := fun ty => run_next_ascii (P := Tryd.prog) w ⟨#[76, 68, 65]⟩ 0 ty (by decide) (by decide)
      go_wp2_with fail
      refine (H0.out _).mono ?_; rintro e w' ⟨rfl, rfl⟩
      cases l with
      | true =>
        go_wp2_with fail
        go_roundw
        case rel => exact ⟨1, by decide, congrArg (Value.int .u64) (by cases d <;> cases a <;> decide +kernel), rfl⟩
        case measure => simp [World.iterPos, World.iter_heap]
      | false =>
        go_wp2_with fail
        go_roundw
        case rel => exact ⟨1, by decide, congrArg (Value.int .u64) (by cases d <;> cases a <;> decide +kernel), rfl⟩
        case measure => simp [World.iterPos, World.iter_heap]
    · have hn := fun ty => run_next_ascii (P := Tryd.prog) w ⟨#[76, 68, 65]⟩ 1 ty (by decide) (by decide)
      go_wp2_with fail
      refine (H1.out _).mono ?_; rintro e w' ⟨rfl, rfl⟩
      cases d with
      | true =>
        go_wp2_with fail
        go_roundw
        case rel => exact ⟨2, by decide, congrArg (Value.int .u64) (by cases l <;> cases a <;> decide +kernel), rfl⟩
        case measure => simp [World.iterPos, World.iter_heap]
      | false =>
        go_wp2_with fail
        go_roundw
        case rel => exact ⟨2, by decide, congrArg (Value.int .u64) (by cases l <;> cases a <;> decide +kernel), rfl⟩
        case measure => simp [World.iterPos, World.iter_heap]
    · have hn := fun ty => run_next_ascii (P := Tryd.prog) w ⟨#[76, 68, 65]⟩ 2 ty (by decide) (by decide)
      go_wp2_with fail
      refine (H2.out _).mono ?_; rintro e w' ⟨rfl, rfl⟩
      cases a with
      | true =>
        go_wp2_with fail
        go_roundw
        case rel => exact ⟨3, by decide, congrArg (Value.int .u64) (by cases l <;> cases d <;> decide +kernel), rfl⟩
        case measure => simp [World.iterPos, World.iter_heap]
      | false =>
        go_wp2_with fail
        go_roundw
        case rel => exact ⟨3, by decide, congrArg (Value.int .u64) (by cases l <;> cases d <;> decide +kernel), rfl⟩
        case measure => simp [World.iterPos, World.iter_heap]
    · have hn := fun ty => run_next_end (P := Tryd.prog) w ⟨#[76, 68, 65]⟩ 3 ty (by decide)
      have b0 : Below w.heap.size w (w.iter ⟨#[76, 68, 65]⟩ 3) := (Below.refl _ _).alloc (Nat.le_refl _) _
      have HB0 := Lib.hid b0
      have hE0 := HE.out.below b0
      have HE0 := Lib.hid hE0
      clear b0 hE0
      have hLn : L.length ≤ 9000 := by rw [HLL.out, ← Lib.size_eq]; exact HS.out
      obtain ⟨T, hT⟩ : ∃ T, Lib.trimRightS L [76, 68, 65] = T := ⟨_, rfl⟩
      have hTn : T.length ≤ 9000 := by rw [← hT]; exact Nat.le_trans (trim_len _ _) hLn
      obtain ⟨X, Y, F, hC⟩ : ∃ X Y F, Lib.cut T [46] = (X, Y, F) := ⟨_, _, _, rfl⟩
      have hXY := cut_len T [46]
      rw [hC] at hXY
      obtain ⟨hXn, hYn⟩ := hXY
      simp only at hXn hYn
      obtain ⟨px, hpx⟩ : ∃ p, Lib.parseIntB 64 X = p := ⟨_, rfl⟩
      obtain ⟨py, hpy⟩ : ∃ p, Lib.parseIntB 64 Y = p := ⟨_, rfl⟩
      have HG := Lib.hid (show ∀ (e n : Nat) (l' d' a' : Bool), Good L e n l' d' a' → l' = l ∧ d' = d ∧ a' = a ∧ px = .ok (e : Int) ∧ py = .ok (n : Int) ∧ e ≤ 16777215 ∧ n ≤ 2147483647 ∧ L = TX.textL e n l' d' a' from fun e n l' d' a' h => by
        obtain ⟨g1, g2, g3, g4, g5⟩ := good_parse h
        rw [hT, hC] at g4 g5
        simp only at g4 g5
        have q := HLDA.out
        exact ⟨g1.symm.trans q.1, g2.symm.trans q.2.1, g3.symm.trans q.2.2, hpx.symm.trans g4, hpy.symm.trans g5, h.1, h.2.1, h.2.2⟩)
      have HTR := Lib.hid (fun w => trimmed s ⟨T.toArray⟩ (by have := HS.out; omega) (by rw [← HLL.out, hT]) w)
      have HCT := Lib.hid (fun w m hm => (Tryd.strings_Cut ⟨T.toArray⟩ ⟨#[46]⟩ m w (by show T.toArray.size < _; simp; omega) hm))
      have hCT2 : (Lib.cut (⟨T.toArray⟩ : ByteArray).data.toList (⟨#[46]⟩ : ByteArray).data.toList) = (X, Y, F) := hC
      rw [hCT2] at HCT
      have HPX := Lib.hid (fun w hw => parsed_any ⟨X.toArray⟩ (by show X.toArray.size ≤ _; simp; omega) px hpx w hw)
      have HPY := Lib.hid (fun w hw => parsed_any ⟨Y.toArray⟩ (by show Y.toArray.size ≤ _; simp; omega) py hpy w hw)
      clear hLn hTn hT hC hXn hYn hpx hpy hCT2
      go_wp2_with fail
      refine (HTR.out _).mono ?_; rintro r W1 ⟨rfl, B1⟩
      have HE1 := Lib.hid (HE0.out.below B1)
      replace B1 := step_below HB0.out B1
      obtain ⟨m, hm⟩ := HE1.out.mx
      have HM := Lib.hid hm
      clear hm
      go_wp2_with fail
      refine (HCT.out _ m HM.out).mono ?_; rintro r W2 ⟨rfl, nq, rfl⟩
      have HB1 := Lib.hid (show Below W1.heap.size W1 (W1.drewN nq) from below_drewN (Below.refl _ W1) nq)
      have HE2 := Lib.hid (HE1.out.below HB1.out)
      replace B1 := step_below B1 HB1.out
      go_wp2_with fail
      refine (HPX.out _ HE2.out).mono ?_; rintro r W3 ⟨hr, B3⟩
      have HE3 := Lib.hid (HE2.out.below B3)
      replace B3 := step_below B1 B3
      clear B1
      rcases hr with ⟨v1, hv1, rfl⟩ | ⟨hv1, v1, t1, q1, rfl⟩
      · have HV1 := Lib.hid hv1
        clear hv1
        go_wp2_with fail
        refine (HPY.out _ HE3.out).mono ?_; rintro r W4 ⟨hr, B4⟩
        have HE4 := Lib.hid (HE3.out.below B4)
        replace B4 := step_below B3 B4
        clear B3
        rcases hr with ⟨v2, hv2, rfl⟩ | ⟨hv2, v2, t2, q2, rfl⟩
        · have HV2 := Lib.hid hv2
          clear hv2
          by_cases hin : 0 ≤ v1 ∧ v1 ≤ 16777215 ∧ 0 ≤ v2 ∧ v2 ≤ 2147483647
          · obtain ⟨e, he⟩ : ∃ e : Nat, v1 = e := ⟨v1.toNat, by omega⟩
            obtain ⟨n, hn2⟩ : ∃ n : Nat, v2 = n := ⟨v2.toNat, by omega⟩
            subst he hn2
            obtain ⟨X0, hX0⟩ : ∃ X0, wordV e n + b2i l + 2 * b2i d + 4 * b2i a = X0 := ⟨_, rfl⟩
            have hor := or_bv e n hin.1 hin.2.1 hin.2.2.1 hin.2.2.2 l d a
            rw [hX0] at hor
            obtain ⟨x0, x1, x2, x3⟩ := word_parts e n hin.1 hin.2.1 hin.2.2.1 hin.2.2.2 l d a X0 hX0.symm
            rw [Int.toNat_natCast, Int.toNat_natCast] at x3
            have HXX := Lib.hid (And.intro hX0 (And.intro x3 (And.intro x0 (And.intro x1 x2))))
            have HIN := Lib.hid hin
            obtain ⟨wv, hwv⟩ : ∃ v, wordV (e : Int) n = v := ⟨_, rfl⟩
            have HWD := Lib.hid (fun w => (word_ok (e : Int) n hin.1 hin.2.1 hin.2.2.1 hin.2.2.2 w))
            rw [hwv] at HWD hor
            obtain ⟨bv, hbv⟩ : ∃ v, bvK l d a 3 = v := ⟨_, rfl⟩
            rw [hbv] at hor ⊢
            clear hin hX0 x0 x1 x2 x3 hwv hbv hn
            go_wp2_with fail
            refine (HWD.out _).mono ?_; rintro r w' ⟨rfl, rfl⟩
            have htx := fun w hw => text_any X0 HXX.out.2.2.1 HXX.out.2.2.2.1 HXX.out.2.2.2.2 w hw
            obtain ⟨tS, htS⟩ : ∃ t, (⟨(tx X0).toArray⟩ : ByteArray) = t := ⟨_, rfl⟩
            rw [htS] at htx
            have HTX := Lib.hid htx
            have HTS := Lib.hid htS
            clear htx htS
            go_wp2_with fail
            refine (HTX.out _ HE4.out).mono ?_; rintro r W5 ⟨rfl, B5⟩
            replace B5 := step_below B4 B5
            clear B4
            have hLs : tS = s ↔ L = TX.textL e n l d a := by
              rw [← HTS.out, HXX.out.2.1, HLL.out]
              constructor
              · intro h; rw [← h]
              · intro h; rw [← h]
            by_cases heq : tS = s
            · have hb : (tS.toList == s.toList) = true := by rw [heq]; exact beq_self_eq_true _
              have HGD := Lib.hid (show Good L e n l d a from ⟨by have := HIN.out; omega, by have := HIN.out; omega, hLs.1 heq⟩)
              clear hLs heq
              go_wp2_with fail
              go_ret2
              refine ⟨.inl ⟨e, n, l, d, a, HGD.out, ?_⟩, B5⟩
              rw [HXX.out.1]; rfl
            · have hb : (tS.toList == s.toList) = false := by
                rw [beq_eq_false_iff_ne]
                intro h
                rw [Lib.toList_data, Lib.toList_data] at h
                exact heq (ByteArray.ext (Array.ext' h))
              have HNG := Lib.hid (show ∀ (e n : Nat) (l' d' a' : Bool), ¬ Good L e n l' d' a' from fun e' n' l' d' a' h => by
                obtain ⟨g1, g2, g3, g4, g5, g6, g7, g8⟩ := HG.out e' n' l' d' a' h
                have i1 := HV1.out.symm.trans g4
                have i2 := HV2.out.symm.trans g5
                injection i1 with i1
                injection i2 with i2
                have i1' : e = e' := by omega
                have i2' : n = n' := by omega
                subst i1' i2' g1 g2 g3
                exact heq (hLs.2 g8))
              clear hLs heq
              go_wp2_with fail
              go_ret2
              exact ⟨.inr ⟨HNG.out, rfl⟩, B5⟩
          · have HNG := Lib.hid (show ∀ (e n : Nat) (l' d' a' : Bool), ¬ Good L e n l' d' a' from fun e' n' l' d' a' h => by
              obtain ⟨g1, g2, g3, g4, g5, g6, g7, g8⟩ := HG.out e' n' l' d' a' h
              have i1 := HV1.out.symm.trans g4
              have i2 := HV2.out.symm.trans g5
              injection i1 with i1
              injection i2 with i2
              exact hin (by omega))
            have HWD := Lib.hid (fun w => word_bad v1 v2 (by omega) w)
            obtain ⟨bv, hbv⟩ : ∃ v, bvK l d a 3 = v := ⟨_, rfl⟩
            have hor : bits .or .u64 0 bv = bv := by rw [← hbv]; cases l <;> cases d <;> cases a <;> decide +kernel
            have hbd : 0 ≤ bv ∧ bv < 18446744073709551616 ∧ mayB bv = true := by rw [← hbv]; cases l <;> cases d <;> cases a <;> decide +kernel
            have HTX := Lib.hid (fun w hw => text_any bv hbd.1 hbd.2.1 hbd.2.2 w hw)
            rw [hbv]
            clear hin hbv hbd hn
            go_wp2_with fail
            refine (HWD.out _).mono ?_; rintro r w' ⟨rfl, rfl⟩
            go_wp2_with fail
            refine (HTX.out _ HE4.out).mono ?_; rintro r W5 ⟨rfl, B5⟩
            replace B5 := step_below B4 B5
            clear B4
            go_wp2_with fail
            go_ret2
            exact ⟨.inr ⟨HNG.out, rfl⟩, B5⟩
        · have HNG := Lib.hid (show ∀ (e n : Nat) (l' d' a' : Bool), ¬ Good L e n l' d' a' from fun e n l' d' a' h => hv2 _ (HG.out e n l' d' a' h).2.2.2.2.1)
          clear hv2
          go_wp2_with fail
          go_ret2
          exact ⟨.inr ⟨HNG.out, rfl⟩, B4⟩
      · have HNG := Lib.hid (show ∀ (e n : Nat) (l' d' a' : Bool), ¬ Good L e n l' d' a' from fun e n l' d' a' h => hv1 _ (HG.out e n l' d' a' h).2.2.2.1)
        clear hv1
        go_wp2_with fail
        refine (HPY.out _ HE3.out).mono ?_; rintro r W4 ⟨hr, B4⟩
        replace B4 := step_below B3 B4
        clear B3
        rcases hr with ⟨v2, hv2, rfl⟩ | ⟨hv2, v2, t2, q2, rfl⟩
        all_goals clear hv2
        all_goals go_wp2_with fail
        all_goals go_ret2
        all_goals exact ⟨.inr ⟨HNG.out, rfl⟩, B4⟩
end Go.Proofs.YtfdboihfgpibcaaDoor
