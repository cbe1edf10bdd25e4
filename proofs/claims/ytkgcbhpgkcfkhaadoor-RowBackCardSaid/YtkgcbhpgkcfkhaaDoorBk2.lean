/- RowBack: the second block. -/
import Derived.Test.YtkgcbhpgkcfkhaaDoorBk0
namespace Go.Proofs.YtkgcbhpgkcfkhaaDoor
open Go.ChangeShapes Go.WideShapes Go.ChangeAt Go.RowKit
set_option linter.unusedVariables false
set_option linter.unusedSimpArgs false
set_option maxRecDepth 100000 in
set_option maxHeartbeats 8000000 in
theorem blk2 (a : Option Addr) (n cap : Nat) (f0 f1 k0 k1 b : Option Addr) (L : List Int) (l0 l1 m0 m1 nb c0 c1 e0 e1 cb : Nat) (hnb : L.length = nb) (bL : Byt L) (w : World) (hL : Ls .u8 w b cb L)
    (hNext : Blk (sndC (sndC (sndC (sndC bodyC)))) a n cap f0 f1 k0 k1 b l0 l1 m0 m1 nb c0 c1 e0 e1 cb w) : Blk (sndC (sndC (sndC bodyC))) a n cap f0 f1 k0 k1 b l0 l1 m0 m1 nb c0 c1 e0 e1 cb w := by
  replace hNext := Lib.hid hNext
  have HL := Lib.hid hL
  have HNB := Lib.hid (And.intro hnb bL)
  clear hL hnb bL
  intro u4 u7 u8 u9 u10 u11 u12 u13 u14 u15 u16 u17 u18 u19 u20 u21 u22 u23 u24 u25 u26 u27 u28 u29 u30 u31 u32 u33 u34 u35 u36 u37 u38 u39 u40 u41 u42 u43 u44 u45 u46 u47 u48 u49 u50 u51 u52 u53 u54 u55 u56 u57 u58 u59 u60 u61 u62 u63 u64 u65 u66 u67 u68 u69 u70 u71 u72 u73 u74 u75 u76 u77 u78 u79 u80 u81 u82 u83 u84 u85 u86 u87 u88 u89 u90 u91 u92 u93 u94 u95 u96 u97 u98 u99 u100 u101 u102 u103 u104 u105 u106 u107 u108 u109 u110 u111 u112 u113 u114 u115 u116 u117 u118 u119 u120 u121 u122 u123 u124 u125 u126 u127 u128 u129 u130 u131 u132 u133 u134 u135 u136 u137 u138 u139 u140 u141 u142 u143 u144 u145 u146 u147 u148 u149 u150 u151 u152 u153 u154 u155 u156 u157 u158 u159 u160 u161 u162 u163 u164 u165 u166 u167 u168 u169 u170 u171 u172 u173 u174 u175 u176 u177 u178 u179 u180 u181 u182 u183 u184 u185 u186 u187 u188 u189 u190 u191 u192 u193 u194 u195 u196 u197 u198 u199 u200 u201 u202 u203 u204 u205 u206 u207 u208 u209 u210 u211 u212 u213 u214 u215 u216 u217 u218 u219 u220 u221 u222 u223 u224 u225 u226 u227 u228 u229 u230 u231 u232 u233 u234 u235 u236 u237 u238 u239 u240 u241 u242 u243 u244 u245 u246 u247 u248 u249 u250 u251 u252 u253 u254 u255 u256 u257 u258 u259 u260 u261 u262 u263 u264 u265 u266 u267 u268 u269 u270 u271 u272 u273 u274 u275 u276 u277 u278 u279 u280 Wk hX
  have HX := Lib.hid hX
  clear hX
  obtain ⟨c, hc⟩ : ∃ c, sndC (sndC (sndC bodyC)) = c := ⟨_, rfl⟩
  rw [hc]
  simp only [bodyC, sndC, Tryd.f4, Option.getD] at hc
  subst hc
  go_upto_if 92 with (fail)
  go_cut [] (fun wx => Hid (BkW w wx w.heap.size (w.heap.size + 1) (.slice f0 l0 c0) (.slice f1 l1 c1) (.slice k0 m0 e0) (.slice k1 m1 e1)))
  case first =>
    by_cases h9 : nb ≤ 9000
    · have h9i : (nb : Int) ≤ 9000 := by omega
      have HSP := Lib.hid (split_any L)
      go_wp2_with fail
      refine (read_any b L nb cb HNB.out.1 (by omega) HNB.out.2 _ (HL.out.below HX.out.b)).mono ?_; rintro r W1 ⟨hr, B⟩
      replace HX := Lib.hid (HX.out.below B)
      clear B
      rcases hr with ⟨fs, a1, c1', S, hv, hL1, rfl, hS, hr1⟩ | ⟨_, rfl⟩
      · have HB := Lib.hid (bytes_read L fs hv hL1 S hS nb HNB.out.1 a1 c1' W1 hr1)
        obtain ⟨nf, hnf⟩ : ∃ q, fs.length = q := ⟨_, rfl⟩
        rw [hnf] at HB ⊢
        clear hv hL1 hS hr1 hnf
        go_wp2_with fail
        refine HB.out.mono ?_; rintro r W2 ⟨a2, c2, rfl, l2, B⟩
        replace HX := Lib.hid (HX.out.below B)
        have kA := conv_ls W2 a2 nb c2 L HNB.out.1 l2.rd
        have kB := conv_ls W2 b nb cb L HNB.out.1 (HL.out.below HX.out.b).rd
        have he : ((strOfNums L).toList == (strOfNums L).toList) = true := beq_self_eq_true _
        clear B HB l2
        go_wp2_with (go_at_call 12; refine (num_law _ _).mono ?_; rintro r w' ⟨rfl, rfl⟩)
        clear kA kB he
        rcases HSP.out with hsp | ⟨F, K, hsp, hL, hF24, hK32⟩
        · refine (split_law b L nb cb HNB.out.1 (by omega) [] [] 4 hsp _ (HL.out.below HX.out.b)).mono ?_; rintro r W3 ⟨a3, c3, a4, c4, rfl, l3, l4, B⟩
          replace HX := Lib.hid (HX.out.below B)
          have HL3 := Lib.hid l3
          clear B l3 l4 hsp
          go_wp2_with fail
          refine (entry_nils a3 a4 c3 c4 W3 HL3.out).mono ?_; rintro r W4 ⟨rfl, B⟩
          replace HX := Lib.hid (HX.out.below B)
          clear B HL3
          go_wp2_with (go_at_call 12; refine (num_law _ _).mono ?_; rintro r w' ⟨rfl, rfl⟩)
          go_meet
          exact HX
        · refine (split_law b L nb cb HNB.out.1 (by omega) F K 0 hsp _ (HL.out.below HX.out.b)).mono ?_; rintro r W3 ⟨a3, c3, a4, c4, rfl, l3, l4, B⟩
          replace HX := Lib.hid (HX.out.below B)
          have hen := fun q1 q2 (h1 : F.length = q1) (h2 : K.length = q2) => entry_ok a3 a4 F K q1 q2 c3 c4 h1 h2 (by omega) (by rw [← h2]; exact hK32) W3 l3 l4
          obtain ⟨q1, hq1⟩ : ∃ q, F.length = q := ⟨_, rfl⟩
          obtain ⟨q2, hq2⟩ : ∃ q, K.length = q := ⟨_, rfl⟩
          replace hen := hen q1 q2 hq1 hq2
          rw [← hL, HNB.out.1] at hen
          rw [hq1, hq2]
          have HE := Lib.hid hen
          clear B l3 l4 hsp hen hL hF24 hK32 hq1 hq2
          go_wp2_with fail
          refine HE.out.mono ?_; rintro r W4 ⟨a5, c5, rfl, l5, B⟩
          replace HX := Lib.hid (HX.out.below B)
          have kA := conv_ls W4 a5 nb c5 L HNB.out.1 l5.rd
          have kB := conv_ls W4 b nb cb L HNB.out.1 (HL.out.below HX.out.b).rd
          have he : ((strOfNums L).toList == (strOfNums L).toList) = true := beq_self_eq_true _
          clear B HE l5
          go_wp2_with (go_at_call 12; refine (num_law _ _).mono ?_; rintro r w' ⟨rfl, rfl⟩)
          go_meet
          exact HX

      · go_wp2_with fail
        refine (bytes_nil _).mono ?_; rintro r W2 ⟨rfl, B⟩
        replace HX := Lib.hid (HX.out.below B)
        clear B
        go_wp2_with (go_at_call 12; refine (num_law _ _).mono ?_; rintro r w' ⟨rfl, rfl⟩)
        rcases HSP.out with hsp | ⟨F, K, hsp, hL, hF24, hK32⟩
        · refine (split_law b L nb cb HNB.out.1 (by omega) [] [] 4 hsp _ (HL.out.below HX.out.b)).mono ?_; rintro r W3 ⟨a3, c3, a4, c4, rfl, l3, l4, B⟩
          replace HX := Lib.hid (HX.out.below B)
          have HL3 := Lib.hid l3
          clear B l3 l4 hsp
          go_wp2_with fail
          refine (entry_nils a3 a4 c3 c4 W3 HL3.out).mono ?_; rintro r W4 ⟨rfl, B⟩
          replace HX := Lib.hid (HX.out.below B)
          clear B HL3
          go_wp2_with (go_at_call 12; refine (num_law _ _).mono ?_; rintro r w' ⟨rfl, rfl⟩)
          go_meet
          exact HX
        · refine (split_law b L nb cb HNB.out.1 (by omega) F K 0 hsp _ (HL.out.below HX.out.b)).mono ?_; rintro r W3 ⟨a3, c3, a4, c4, rfl, l3, l4, B⟩
          replace HX := Lib.hid (HX.out.below B)
          have hen := fun q1 q2 (h1 : F.length = q1) (h2 : K.length = q2) => entry_ok a3 a4 F K q1 q2 c3 c4 h1 h2 (by omega) (by rw [← h2]; exact hK32) W3 l3 l4
          obtain ⟨q1, hq1⟩ : ∃ q, F.length = q := ⟨_, rfl⟩
          obtain ⟨q2, hq2⟩ : ∃ q, K.length = q := ⟨_, rfl⟩
          replace hen := hen q1 q2 hq1 hq2
          rw [← hL, HNB.out.1] at hen
          rw [hq1, hq2]
          have HE := Lib.hid hen
          clear B l3 l4 hsp hen hL hF24 hK32 hq1 hq2
          go_wp2_with fail
          refine HE.out.mono ?_; rintro r W4 ⟨a5, c5, rfl, l5, B⟩
          replace HX := Lib.hid (HX.out.below B)
          have kA := conv_ls W4 a5 nb c5 L HNB.out.1 l5.rd
          have kB := conv_ls W4 b nb cb L HNB.out.1 (HL.out.below HX.out.b).rd
          have he : ((strOfNums L).toList == (strOfNums L).toList) = true := beq_self_eq_true _
          clear B HE l5
          go_wp2_with (go_at_call 12; refine (num_law _ _).mono ?_; rintro r w' ⟨rfl, rfl⟩)
          go_meet
          exact HX

    · have h9i : ¬ (nb : Int) ≤ 9000 := by omega
      clear h9
      go_wp2_with fail
      go_meet
      exact HX
  case rest =>
    have hg := hcut
    rename_i hK
    refine hK _ _ ?_
    have hn' := hNext.out
    unfold Blk at hn'
    exact hn' _ _ _ _ _ _ _ _ _ _ _ _ _ _ _ _ _ _ _ _ _ _ _ _ _ _ _ _ _ _ _ _ _ _ _ _ _ _ _ _ _ _ _ _ _ _ _ _ _ _ _ _ _ _ _ _ _ _ _ _ _ _ _ _ _ _ _ _ _ _ _ _ _ _ _ _ _ _ _ _ _ _ _ _ _ _ _ _ _ _ _ _ _ _ _ _ _ _ _ _ _ _ _ _ _ _ _ _ _ _ _ _ _ _ _ _ _ _ _ _ _ _ _ _ _ _ _ _ _ _ _ _ _ _ _ _ _ _ _ _ _ _ _ _ _ _ _ _ _ _ _ _ _ _ _ _ _ _ _ _ _ _ _ _ _ _ _ _ _ _ _ _ _ _ _ _ _ _ _ _ _ _ _ _ _ _ _ _ _ _ _ _ _ _ _ _ _ _ _ _ _ _ _ _ _ _ _ _ _ _ _ _ _ _ _ _ _ _ _ _ _ _ _ _ _ _ _ _ _ _ _ _ _ _ _ _ _ _ _ _ _ _ _ _ _ _ _ _ _ _ _ _ _ _ _ _ _ _ _ _ _ _ _ _ _ _ _ _ _ _ _ _ _ _ _ wc hg.out
end Go.Proofs.YtkgcbhpgkcfkhaaDoor
