/- RowBack: the first block. -/
import Derived.Test.YtkgcbhpgkcfkhaaDoorBk0
namespace Go.Proofs.YtkgcbhpgkcfkhaaDoor
open Go.ChangeShapes Go.WideShapes Go.ChangeAt Go.RowKit
set_option linter.unusedVariables false
set_option linter.unusedSimpArgs false
set_option maxRecDepth 100000 in
set_option maxHeartbeats 8000000 in
theorem back_law (a : Option Addr) (R : List P1) (n cap : Nat) (hn : R.length = n) (bR : ∀ p ∈ R, Byt p.bs)
    (f0 f1 k0 k1 b : Option Addr) (F0 F1 K0 K1 L : List Int) (l0 l1 m0 m1 nb c0 c1 e0 e1 cb : Nat)
    (hl0 : F0.length = l0) (hl1 : F1.length = l1) (hm0 : K0.length = m0) (hm1 : K1.length = m1) (hnb : L.length = nb)
    (bF0 : Byt F0) (bF1 : Byt F1) (bK0 : Byt K0) (bK1 : Byt K1) (bL : Byt L)
    (w : World) (hNext : Blk (sndC (sndC (sndC bodyC))) a n cap f0 f1 k0 k1 b l0 l1 m0 m1 nb c0 c1 e0 e1 cb w) (hR : RdR w a R) (hF0 : Ls .u8 w f0 c0 F0) (hF1 : Ls .u8 w f1 c1 F1) (hK0 : Ls .u8 w k0 e0 K0) (hK1 : Ls .u8 w k1 e1 K1) (hL : Ls .u8 w b cb L) :
    Calls Tryd.prog 4 #[.slice a n cap, .agg #[.slice f0 l0 c0, .slice f1 l1 c1], .agg #[.slice k0 m0 e0, .slice k1 m1 e1], .slice b nb cb] w fun r w' => r = .returned (.bool true) ∧ Below w.heap.size w w' := by
  replace hNext := Lib.hid hNext
  have HR := Lib.hid hR
  have HF := Lib.hid (And.intro hF0 hF1)
  have HK := Lib.hid (And.intro hK0 hK1)
  have HL := Lib.hid hL
  have HN := Lib.hid (And.intro hn bR)
  have HLF := Lib.hid (And.intro (And.intro hl0 hl1) (And.intro bF0 bF1))
  have HLK := Lib.hid (And.intro (And.intro hm0 hm1) (And.intro bK0 bK1))
  have HNB := Lib.hid (And.intro hnb bL)
  clear hR hF0 hF1 hK0 hK1 hL hn bR hl0 hl1 bF0 bF1 hm0 hm1 bK0 bK1 hnb bL
  go_enter Tryd.func4, Tryd.ntmps4
  go_wp2_with fail
  have hW := bk_new w (.slice f0 l0 c0) (.slice f1 l1 c1) (.slice k0 m0 e0) (.slice k1 m1 e1)
  refine (known_law _).mono ?_; rintro r Wk ⟨rfl, B⟩
  have HX := Lib.hid (hW.below B)
  clear hW B
  go_wp2_with fail
  refine (size_law a R n cap HN.out.1 _ (HR.out.below HX.out.b)).mono ?_
  rintro r w' ⟨⟨s, rfl, hs⟩, rfl⟩
  have HS := Lib.hid hs
  clear hs
  go_upto_if 41 with (fail)
  go_cut [] (fun wx => Hid (BkW w wx w.heap.size (w.heap.size + 1) (.slice f0 l0 c0) (.slice f1 l1 c1) (.slice k0 m0 e0) (.slice k1 m1 e1)))
  case first =>
    by_cases h9 : s ≤ 9000
    · have h9i : (s : Int) ≤ 9000 := by omega
      have hn9 : n ≤ 9000 := Nat.le_trans HS.out h9
      have HN9 := Lib.hid hn9
      clear h9 hn9
      cases hm : mayR R with
      | true =>
        have HM := Lib.hid hm
        obtain ⟨q1, hq1⟩ : ∃ q, (rbytesL R).length = q := ⟨_, rfl⟩
        obtain ⟨q2, hq2⟩ : ∃ q, (wordsL (rbytesL R)).length = q := ⟨_, rfl⟩
        have hb := bytes_ok a R n cap HN.out.1 hm Wk (HR.out.below HX.out.b)
        rw [hq1] at hb
        have HB1 := Lib.hid hb
        have HB2 := Lib.hid (fun W (h : Below w.heap.size w W) => words_ok a R n cap HN.out.1 hm HN.out.2 W (HR.out.below h))
        rw [hq2] at HB2
        have HQ := Lib.hid (And.intro hq1 hq2)
        clear hq1 hq2 hb hm
        go_wp2_with fail
        refine HB1.out.mono ?_; rintro r W1 ⟨a1, c1', rfl, l1', B⟩
        replace HX := Lib.hid (HX.out.below B)
        have HL1 := Lib.hid l1'
        clear B l1' HB1
        go_wp2_with fail
        refine (HB2.out _ HX.out.b).mono ?_; rintro r W2 ⟨a2, c2', rfl, l2', B⟩
        replace HX := Lib.hid (HX.out.below B)
        replace HL1 := Lib.hid (HL1.out.below B)
        have HL2 := Lib.hid l2'
        clear B l2' HB2
        go_wp2_with (go_at_call 12; refine (num_law _ _).mono ?_; rintro r w' ⟨rfl, rfl⟩)
        refine (rd_row R n q1 HN.out.1 HM.out HN.out.2 HQ.out.1 a1 c1' _ HL1.out).mono ?_; rintro r W3 ⟨⟨a3, c3, S3, rfl, s3, r3⟩, B⟩
        replace HX := Lib.hid (HX.out.below B)
        replace HL2 := Lib.hid (HL2.out.below B)
        have H3 := Lib.hid (And.intro s3 r3)
        clear B s3 r3 HL1
        go_wp2_with fail
        refine (of_row R n q2 HN.out.1 HM.out HN.out.2 HQ.out.2 a2 c2' _ HL2.out).mono ?_; rintro r W4 ⟨⟨a4, c4, S4, rfl, s4, r4⟩, B⟩
        replace HX := Lib.hid (HX.out.below B)
        replace H3 := Lib.hid (And.intro H3.out.1 (H3.out.2.below B))
        have H4 := Lib.hid (And.intro s4 r4)
        clear B s4 r4 HL2
        go_wp2_with (go_at_call 12; refine (num_law _ _).mono ?_; rintro r w' ⟨rfl, rfl⟩)
        refine (back_same HN.out.1 (Nat.le_trans HN9.out (by decide)) HN.out.2 H3.out.1 a3 a c3 cap W4 H3.out.2 (HR.out.below HX.out.b)).mono ?_; rintro r W5 ⟨rfl, B⟩
        replace HX := Lib.hid (HX.out.below B)
        replace H4 := Lib.hid (And.intro H4.out.1 (H4.out.2.below B))
        clear B
        go_wp2_with fail
        refine (back_same HN.out.1 (Nat.le_trans HN9.out (by decide)) HN.out.2 H4.out.1 a4 a c4 cap W5 H4.out.2 (HR.out.below HX.out.b)).mono ?_; rintro r W6 ⟨rfl, B⟩
        replace HX := Lib.hid (HX.out.below B)
        clear B
        go_wp2_with fail
        go_meet
        exact HX
      | false =>
        have HB1 := Lib.hid (bytes_bad a R n cap HN.out.1 (Nat.le_trans HN9.out (by decide)) hm Wk (HR.out.below HX.out.b))
        have HB2 := Lib.hid (fun W (h : Below w.heap.size w W) => words_bad a R n cap HN.out.1 (Nat.le_trans HN9.out (by decide)) hm W (HR.out.below h))
        clear hm
        go_wp2_with fail
        refine HB1.out.mono ?_; rintro r W1 ⟨rfl, B⟩
        replace HX := Lib.hid (HX.out.below B)
        clear B HB1
        go_wp2_with fail
        refine (HB2.out _ HX.out.b).mono ?_; rintro r W2 ⟨rfl, B⟩
        replace HX := Lib.hid (HX.out.below B)
        clear B HB2
        go_wp2_with (go_at_call 12; refine (num_law _ _).mono ?_; rintro r w' ⟨rfl, rfl⟩)
        refine (read_nil _).mono ?_; rintro r W3 ⟨rfl, B⟩
        replace HX := Lib.hid (HX.out.below B)
        clear B
        go_wp2_with fail
        refine (of_nil _).mono ?_; rintro r W4 ⟨rfl, B⟩
        replace HX := Lib.hid (HX.out.below B)
        clear B
        go_wp2_with (go_at_call 12; refine (num_law _ _).mono ?_; rintro r w' ⟨rfl, rfl⟩)
        go_meet
        exact HX
    · have h9i : ¬ (s : Int) ≤ 9000 := by omega
      clear h9
      go_wp2_with fail
      go_meet
      exact HX
  case rest =>
    have hg := hcut
    rename_i hK
    refine hK _ _ ?_
    have hn' := hNext.out
    unfold Blk at hn'
    exact hn' _ _ _ _ _ _ _ _ _ _ _ _ _ _ _ _ _ _ _ _ _ _ _ _ _ _ _ _ _ _ _ _ _ _ _ _ _ _ _ _ _ _ _ _ _ _ _ _ _ _ _ _ _ _ _ _ _ _ _ _ _ _ _ _ _ _ _ _ _ _ _ _ _ _ _ _ _ _ _ _ _ _ _ _ _ _ _ _ _ _ _ _ _ _ _ _ _ _ _ _ _ _ _ _ _ _ _ _ _ _ _ _ _ _ _ _ _ _ _ _ _ _ _ _ _ _ _ _ _ _ _ _ _ _ _ _ _ _ _ _ _ _ _ _ _ _ _ _ _ _ _ _ _ _ _ _ _ _ _ _ _ _ _ _ _ _ _ _ _ _ _ _ _ _ _ _ _ _ _ _ _ _ _ _ _ _ _ _ _ _ _ _ _ _ _ _ _ _ _ _ _ _ _ _ _ _ _ _ _ _ _ _ _ _ _ _ _ _ _ _ _ _ _ _ _ _ _ _ _ _ _ _ _ _ _ _ _ _ _ _ _ _ _ _ _ _ _ _ _ _ _ _ _ _ _ _ _ _ _ _ _ _ _ _ _ _ _ _ _ _ _ _ _ _ _ wc hg.out
end Go.Proofs.YtkgcbhpgkcfkhaaDoor
