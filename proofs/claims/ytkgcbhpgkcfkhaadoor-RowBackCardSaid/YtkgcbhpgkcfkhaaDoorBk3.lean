/- RowBack: the third block. -/
import Derived.Test.YtkgcbhpgkcfkhaaDoorBk0
namespace Go.Proofs.YtkgcbhpgkcfkhaaDoor
open Go.ChangeShapes Go.WideShapes Go.ChangeAt Go.RowKit
set_option linter.unusedVariables false
set_option linter.unusedSimpArgs false
theorem entry_len (f k : List Int) (hf : f.length ≤ 24) (hk : mayK k.length = true) : (entryL f k).length ≤ 1000000 := by
  have h1 : ∀ g : List Int, (frontL g).length ≤ 2 * g.length := fun g => by
    induction g with
    | nil => simp [frontL]
    | cons x g ih =>
      rw [frontL, List.length_append, List.length_cons]
      have : (esc x).length ≤ 2 := by unfold esc; split <;> simp
      omega
  have h2 := h1 f
  simp [mayK] at hk
  simp only [entryL, List.length_append, List.length_cons, List.length_nil]
  omega
theorem entryL_byt {f k : List Int} (hf : Byt f) (hk : Byt k) : Byt (entryL f k) := fun x hx => by
  unfold entryL at hx
  rcases List.mem_append.1 hx with h | h
  · exact frontL_byt hf x h
  · rcases List.mem_append.1 h with h | h
    · simp at h; omega
    · exact hk x h
/-- Entry, whichever way. -/
def EnP (F K : List Int) (l m : Nat) (a : Option Addr) (q c : Nat) (e : Int) (W : World) : Prop := (e = 0 ∧ q = (entryL F K).length ∧ Ls .u8 W a c (entryL F K) ∧ l ≤ 24 ∧ mayK m = true) ∨ e = 2
theorem entry_any (a b : Option Addr) (F K : List Int) (n m ca cb : Nat) (hf : F.length = n) (hk : K.length = m) (w : World) (hA : Ls .u8 w a ca F) (hB : Ls .u8 w b cb K) :
    Calls Tryd.prog 18 #[.slice a n ca, .slice b m cb] w fun r w' => (∃ a' q c' e, r = .returned (.tuple #[.slice a' q c', .int .i64 e]) ∧ EnP F K n m a' q c' e w') ∧ Below w.heap.size w w' := by
  by_cases h : n ≤ 24 ∧ mayK m = true
  · exact (entry_ok a b F K n m ca cb hf hk h.1 h.2 w hA hB).mono fun r w' ⟨a', c', h1, h2, h3⟩ => ⟨⟨a', _, c', 0, h1, .inl ⟨rfl, rfl, h2, h.1, h.2⟩⟩, h3⟩
  · have h' : 24 < n ∨ mayK m = false := by
      by_cases h1 : n ≤ 24
      · right
        cases hm : mayK m with
        | true => exact absurd ⟨h1, hm⟩ h
        | false => rfl
      · exact .inl (by omega)
    exact (entry_bad a b F n m ca cb hf h' w hA).mono fun r w' ⟨h1, h3⟩ => ⟨⟨none, 0, 0, 2, h1, .inr rfl⟩, h3⟩
set_option maxRecDepth 100000 in
set_option maxHeartbeats 8000000 in
theorem blk3 (a : Option Addr) (n cap : Nat) (f0 f1 k0 k1 b : Option Addr) (F0 F1 K0 K1 : List Int) (l0 l1 m0 m1 nb c0 c1 e0 e1 cb : Nat)
    (hl0 : F0.length = l0) (hl1 : F1.length = l1) (hm0 : K0.length = m0) (hm1 : K1.length = m1) (z0 : l0 ≤ 140737488355328) (z1 : l1 ≤ 140737488355328) (z2 : m0 ≤ 140737488355328) (z3 : m1 ≤ 140737488355328)
    (bF0 : Byt F0) (bF1 : Byt F1) (bK0 : Byt K0) (bK1 : Byt K1)
    (w : World) (hF0 : Ls .u8 w f0 c0 F0) (hF1 : Ls .u8 w f1 c1 F1) (hK0 : Ls .u8 w k0 e0 K0) (hK1 : Ls .u8 w k1 e1 K1) : Blk (sndC (sndC (sndC (sndC bodyC)))) a n cap f0 f1 k0 k1 b l0 l1 m0 m1 nb c0 c1 e0 e1 cb w := by
  have HF := Lib.hid (And.intro hF0 hF1)
  have HK := Lib.hid (And.intro hK0 hK1)
  have HLF := Lib.hid (And.intro (And.intro hl0 hl1) (And.intro bF0 bF1))
  have HLK := Lib.hid (And.intro (And.intro hm0 hm1) (And.intro bK0 bK1))
  clear hF0 hF1 hK0 hK1 hl0 hl1 bF0 bF1 hm0 hm1 bK0 bK1
  intro u4 u7 u8 u9 u10 u11 u12 u13 u14 u15 u16 u17 u18 u19 u20 u21 u22 u23 u24 u25 u26 u27 u28 u29 u30 u31 u32 u33 u34 u35 u36 u37 u38 u39 u40 u41 u42 u43 u44 u45 u46 u47 u48 u49 u50 u51 u52 u53 u54 u55 u56 u57 u58 u59 u60 u61 u62 u63 u64 u65 u66 u67 u68 u69 u70 u71 u72 u73 u74 u75 u76 u77 u78 u79 u80 u81 u82 u83 u84 u85 u86 u87 u88 u89 u90 u91 u92 u93 u94 u95 u96 u97 u98 u99 u100 u101 u102 u103 u104 u105 u106 u107 u108 u109 u110 u111 u112 u113 u114 u115 u116 u117 u118 u119 u120 u121 u122 u123 u124 u125 u126 u127 u128 u129 u130 u131 u132 u133 u134 u135 u136 u137 u138 u139 u140 u141 u142 u143 u144 u145 u146 u147 u148 u149 u150 u151 u152 u153 u154 u155 u156 u157 u158 u159 u160 u161 u162 u163 u164 u165 u166 u167 u168 u169 u170 u171 u172 u173 u174 u175 u176 u177 u178 u179 u180 u181 u182 u183 u184 u185 u186 u187 u188 u189 u190 u191 u192 u193 u194 u195 u196 u197 u198 u199 u200 u201 u202 u203 u204 u205 u206 u207 u208 u209 u210 u211 u212 u213 u214 u215 u216 u217 u218 u219 u220 u221 u222 u223 u224 u225 u226 u227 u228 u229 u230 u231 u232 u233 u234 u235 u236 u237 u238 u239 u240 u241 u242 u243 u244 u245 u246 u247 u248 u249 u250 u251 u252 u253 u254 u255 u256 u257 u258 u259 u260 u261 u262 u263 u264 u265 u266 u267 u268 u269 u270 u271 u272 u273 u274 u275 u276 u277 u278 u279 u280 Wk hX
  have HX := Lib.hid hX
  clear hX
  obtain ⟨c, hc⟩ : ∃ c, sndC (sndC (sndC (sndC bodyC))) = c := ⟨_, rfl⟩
  rw [hc]
  simp only [bodyC, sndC, Tryd.f4, Option.getD] at hc
  subst hc
  have i0 : (l0 : Int) ≤ 140737488355328 := by omega
  have i1 : (l1 : Int) ≤ 140737488355328 := by omega
  have i2 : (m0 : Int) ≤ 140737488355328 := by omega
  have i3 : (m1 : Int) ≤ 140737488355328 := by omega
  have x0 := HX.out.c0
  have x1 := HX.out.c1
  have y0 := HX.out.d0
  have y1 := HX.out.d1
  by_cases h9 : 9000 < l0 + l1 + m0 + m1
  · have i4 : (9000 : Int) < (l0 : Int) + (l1 : Int) + (m0 : Int) + (m1 : Int) := by omega
    clear h9
    go_wp2_with fail
    go_ret
    exact ⟨rfl, HX.out.b⟩
  · have i4 : ¬ (9000 : Int) < (l0 : Int) + (l1 : Int) + (m0 : Int) + (m1 : Int) := by omega
    have HZ := Lib.hid (show l0 ≤ 9000 ∧ l1 ≤ 9000 by omega)
    clear h9
    go_wp2_with fail
    refine (entry_any f0 k0 F0 K0 l0 m0 c0 e0 HLF.out.1.1 HLK.out.1.1 _ (HF.out.1.below HX.out.b) (HK.out.1.below HX.out.b)).mono ?_; rintro r W1 ⟨⟨a1, q1, c1', ea, rfl, hea⟩, B⟩
    replace HX := Lib.hid (HX.out.below B)
    have HA := Lib.hid hea
    clear B hea x0 x1 y0 y1 i0 i1 i2 i3 i4 z0 z1 z2 z3
    have x0 := HX.out.c0
    have x1 := HX.out.c1
    have y0 := HX.out.d0
    have y1 := HX.out.d1
    go_wp2_with fail
    refine (entry_any f1 k1 F1 K1 l1 m1 c1 e1 HLF.out.1.2 HLK.out.1.2 _ (HF.out.2.below HX.out.b) (HK.out.2.below HX.out.b)).mono ?_; rintro r W2 ⟨⟨a2, q2, c2', eb, rfl, heb⟩, B⟩
    replace HX := Lib.hid (HX.out.below B)
    have HB := Lib.hid heb
    have HBA := Lib.hid B
    clear B heb x0 x1 y0 y1
    have x0 := HX.out.c0
    have x1 := HX.out.c1
    have y0 := HX.out.d0
    have y1 := HX.out.d1
    rcases HB.out with ⟨rfl, hq2, l2', hl1, hm1⟩ | rfl
    · rcases HA.out with ⟨rfl, hq1, l1', hl0, hm0⟩ | rfl
      · have HA := Lib.hid (And.intro (l1'.below HBA.out) (And.intro hl0 hm0))
        have HB := Lib.hid (And.intro l2' (And.intro hl1 hm1))
        have HQ := Lib.hid (And.intro hq1 hq2)
        clear l1' l2' hl0 hm0 hl1 hm1 hq1 hq2 HBA
        have HD := Lib.hid (less_law f0 f1 F0 F1 l0 l1 c0 c1 HLF.out.1.1 HLF.out.1.2 HLF.out.2.1 HLF.out.2.2 W2 (HF.out.1.below HX.out.b) (HF.out.2.below HX.out.b))
        have HE := Lib.hid (less_law k0 k1 K0 K1 m0 m1 e0 e1 HLK.out.1.1 HLK.out.1.2 HLK.out.2.1 HLK.out.2.2 W2 (HK.out.1.below HX.out.b) (HK.out.2.below HX.out.b))
        have HO := Lib.hid (entry_order F0 F1 K0 K1 (fun x hx => (HLF.out.2.1 x hx).1) (fun x hx => (HLF.out.2.2 x hx).1))
        have HD3 := Lib.hid (lexC_three F0 F1)
        have HP := Lib.hid (show lexC F0 F1 = lexC F0 F1 from rfl)
        obtain ⟨d, hd⟩ : ∃ d, lexC F0 F1 = d := ⟨_, rfl⟩
        have HDD := Lib.hid hd
        rw [hd] at HD HO HD3
        clear HP hd
        go_wp2_with (go_at_call 12; refine (num_law _ _).mono ?_; rintro r w' ⟨rfl, rfl⟩)
        refine HD.out.mono ?_; rintro r w' ⟨rfl, rfl⟩
        go_upto_if 189 with (fail)
        go_cut [30] (fun v wx => v = .int .i64 (lexC (entryL F0 K0) (entryL F1 K1)) ∧ wx = W2)
        case first =>
          by_cases h0 : d = 0
          · subst h0
            go_wp2_with fail
            refine HE.out.mono ?_; rintro r w' ⟨rfl, rfl⟩
            go_wp2_with fail
            go_meet
            exact ⟨by rw [HO.out]; simp, rfl⟩
          · have h0' : (d == 0) = false := by simpa using h0
            have HN0 := Lib.hid h0
            clear h0
            go_wp2_with fail
            go_meet
            exact ⟨by rw [HO.out, if_neg HN0.out], rfl⟩
        case rest =>
          obtain ⟨rfl, hwc⟩ := hcut
          subst hwc
          clear x0 y0 y1 HE HO
          obtain ⟨D, hD⟩ : ∃ D, lexC (entryL F0 K0) (entryL F1 K1) = D := ⟨_, rfl⟩
          rw [hD]
          have HDL := Lib.hid hD
          clear hD
          go_wp2_with fail
          refine (front_ok f1 F1 l1 c1 HLF.out.1.2 HB.out.2.1 _ (HF.out.2.below HX.out.b)).mono ?_; rintro r W3 ⟨a3, c3, rfl, l3, B⟩
          replace HX := Lib.hid (HX.out.below B)
          replace HA := Lib.hid (And.intro (HA.out.1.below B) HA.out.2)
          replace HB := Lib.hid (And.intro (HB.out.1.below B) HB.out.2)
          have H3 := Lib.hid l3
          clear B l3 x1
          obtain ⟨q3, hq3⟩ : ∃ q, (frontL F1).length = q := ⟨_, rfl⟩
          rw [hq3]
          have HQ3 := Lib.hid hq3
          clear hq3
          go_wp2_with fail
          have hsp : splitV (entryL F0 K0) = (F0, K0, 0) := by
            unfold splitV
            rw [split_entry F0 [] K0 (by simp [HLF.out.1.1, HA.out.2.1]) (by rw [HLK.out.1.1]; exact HA.out.2.2) (by have := HA.out.2.2; rw [HLK.out.1.1]; simp [mayK] at this; omega)]
            rfl
          refine (split_law a1 (entryL F0 K0) q1 c1' HQ.out.1.symm (by have := HQ.out.1; have h1 := HLF.out.1.1; have h2 := HA.out.2.1; have h3 := HLK.out.1.1; have h4 := entry_len F0 K0 (by omega) (by rw [h3]; exact HA.out.2.2); omega) F0 K0 0 hsp _ HA.out.1).mono ?_; rintro r W4 ⟨a4, c4, a5, c5, rfl, l4, l5, B⟩
          replace HX := Lib.hid (HX.out.below B)
          replace HA := Lib.hid (And.intro (HA.out.1.below B) HA.out.2)
          replace HB := Lib.hid (And.intro (HB.out.1.below B) HB.out.2)
          replace H3 := Lib.hid (H3.out.below B)
          have H4 := Lib.hid (And.intro l4 l5)
          clear B l4 l5 hsp
          rw [HLF.out.1.1, HLK.out.1.1]
          go_upto_region 32 with (fail)
          obtain ⟨bg, hbg⟩ : ∃ bg, decide (l1 ≤ l0 ∧ F0.take l1 = F1) = bg := ⟨_, rfl⟩
          have HBG := Lib.hid hbg
          clear hbg
          have HC0 := Lib.hid (show W4.drew.cell? ⟨w.heap.size, 0, none⟩ = some (.slice f0 l0 c0) from HX.out.c0)
          have HC1 := Lib.hid (show W4.drew.cell? ⟨w.heap.size, 1, none⟩ = some (.slice f1 l1 c1) from HX.out.c1)
          have HV1 := Lib.hid (conv_ls W4.drew f1 l1 c1 F1 HLF.out.1.2 (HF.out.2.below HX.out.b).drew.rd)
          go_cut [36] (fun v wx => v = .bool bg ∧ wx = W4.drew)
          case first =>
            by_cases hle : l1 ≤ l0
            · obtain ⟨sa, sc, hsl, lsl⟩ := Ls.hi eltB (HF.out.1.below HX.out.b) l0 l1 HLF.out.1.1 hle
              have hlei : (l1 : Int) ≤ (l0 : Int) := by omega
              have HV0 := Lib.hid (conv_ls W4.drew sa l1 sc (F0.take l1) (by rw [List.length_take, HLF.out.1.1]; omega) lsl.drew.rd)
              have hq : ((strOfNums (F0.take l1)).toList == (strOfNums F1).toList) = bg := by
                rw [← HBG.out]
                by_cases h : F0.take l1 = F1
                · rw [h, decide_eq_true ⟨hle, rfl⟩]; exact beq_self_eq_true _
                · rw [decide_eq_false (fun c => h c.2)]; exact str_ne (fun x hx => HLF.out.2.1 x (List.mem_of_mem_take hx)) HLF.out.2.2 h
              clear lsl
              go_region_held3 (fun W => W = W4.drew ∧ W.cell? ⟨w.heap.size, 0, none⟩ = some (.slice f0 l0 c0) ∧ W.cell? ⟨w.heap.size, 1, none⟩ = some (.slice f1 l1 c1) ∧ (convert 22 9 (.slice sa l1 sc)).run Tryd.prog W = .ok (.string (strOfNums (F0.take l1))) W ∧ (convert 22 9 (.slice f1 l1 c1)).run Tryd.prog W = .ok (.string (strOfNums F1)) W)
                (exact ⟨rfl, HC0.out, HC1.out, HV0.out, HV1.out⟩)
                (fail)
              go_wp2_with fail
              go_meet
              exact ⟨rfl, rfl⟩
            · have hlei : ¬ (l1 : Int) ≤ (l0 : Int) := by omega
              have hbf : bg = false := by rw [← HBG.out, decide_eq_false (fun c => hle c.1)]
              subst hbf
              have hlt : (l0 : Int) < (l1 : Int) := by omega
              have hltn : l0 < l1 := by omega
              have hdc : decide ((l1 : Int) ≤ (l0 : Int)) = false := decide_eq_false hlei
              have hdn : decide (l1 ≤ l0) = false := decide_eq_false hle
              have x0 := HX.out.c0
              have x1 := HX.out.c1
              go_region
              all_goals go_wp2_with fail
              all_goals go_meet
              all_goals exact ⟨rfl, rfl⟩
          case rest =>
            obtain ⟨rfl, hwc⟩ := hcut
            subst hwc
            as_aux_lemma =>
              have bD : Below W4.heap.size W4 W4.drew := (Below.refl _ _).drew
              replace HX := Lib.hid (HX.out.below bD)
              replace HA := Lib.hid (And.intro (HA.out.1.below bD) HA.out.2)
              replace HB := Lib.hid (And.intro (HB.out.1.below bD) HB.out.2)
              replace H3 := Lib.hid (H3.out.below bD)
              replace H4 := Lib.hid (And.intro (H4.out.1.below bD) (H4.out.2.below bD))
              clear bD HD
              obtain ⟨W5, hW5⟩ : ∃ W, W4.drew = W := ⟨_, rfl⟩
              rw [hW5] at HX HA HB H3 H4 HC0 HC1 HV1 ⊢
              clear hW5
              have x0 := HC0.out
              have x1 := HC1.out
              have BE := fun x hx => (HLF.out.2.1 x hx)
              have HLX := Lib.hid (less_law a1 a3 (entryL F0 K0) (frontL F1) q1 q3 c1' c3 HQ.out.1.symm HQ3.out (entryL_byt HLF.out.2.1 HLK.out.2.1) (frontL_byt HLF.out.2.2) W5 HA.out.1 H3.out)
              have HLD := Lib.hid (less_law f0 f1 F0 F1 l0 l1 c0 c1 HLF.out.1.1 HLF.out.1.2 HLF.out.2.1 HLF.out.2.2 W5 (HF.out.1.below HX.out.b) (HF.out.2.below HX.out.b))
              have HLY := Lib.hid (less_law a1 a2 (entryL F0 K0) (entryL F1 K1) q1 q2 c1' c2' HQ.out.1.symm HQ.out.2.symm (entryL_byt HLF.out.2.1 HLK.out.2.1) (entryL_byt HLF.out.2.2 HLK.out.2.2) W5 HA.out.1 HB.out.1)
              rw [HDL.out] at HLY
              have HVP := Lib.hid (conv_ls W5 a4 l0 c4 F0 HLF.out.1.1 H4.out.1.rd)
              have HVF := Lib.hid (conv_ls W5 f0 l0 c0 F0 HLF.out.1.1 (HF.out.1.below HX.out.b).rd)
              have HVQ := Lib.hid (conv_ls W5 a5 m0 c5 K0 HLK.out.1.1 H4.out.2.rd)
              have HVK := Lib.hid (conv_ls W5 k0 m0 e0 K0 HLK.out.1.1 (HK.out.1.below HX.out.b).rd)
              have q0 : ((strOfNums F0).toList == (strOfNums F0).toList) = true := beq_self_eq_true _
              have p0 : ((strOfNums K0).toList == (strOfNums K0).toList) = true := beq_self_eq_true _
              clear BE
              cases bg with
              | true =>
                have hbt := of_decide_eq_true HBG.out
                have hge : 0 ≤ lexC (entryL F0 K0) (frontL F1) := by
                  have h := begins_front F1 (F0.drop l1) K0
                  rwa [← hbt.2, List.take_append_drop, hbt.2] at h
                obtain ⟨g, hg⟩ : ∃ g, lexC (entryL F0 K0) (frontL F1) = g := ⟨_, rfl⟩
                rw [hg] at HLX hge
                have hgn : ¬ g < 0 := by omega
                clear hbt hg hge
                go_wp2_with fail
                refine HLX.out.mono ?_; rintro r w' ⟨rfl, rfl⟩
                have y0 := HX.out.d0
                have kP := HVP.out
                have kF := HVF.out
                have kQ := HVQ.out
                have kK := HVK.out
                go_wp2_with (go_at_call 12; refine (num_law _ _).mono ?_; rintro r w' ⟨rfl, rfl⟩)
                refine HLY.out.mono ?_; rintro r w' ⟨rfl, rfl⟩
                go_wp2_with fail
                go_ret
                exact ⟨rfl, HX.out.b⟩
              | false =>
                have hnp : ¬ F1 <+: F0 := fun hp => by
                  refine of_decide_eq_false HBG.out ⟨?_, ?_⟩
                  · have h := hp.length_le
                    rw [HLF.out.1.1, HLF.out.1.2] at h
                    exact h
                  · obtain ⟨t, ht⟩ := hp
                    rw [← ht, ← HLF.out.1.2]
                    simp
                have hap := apart_front F0 F1 K0 (fun x hx => (HLF.out.2.1 x hx).1) (fun x hx => (HLF.out.2.2 x hx).1) hnp
                rw [HDD.out] at hap
                rw [hap] at HLX
                rw [HDD.out] at HLD
                clear hnp hap
                have y0 := HX.out.d0
                by_cases hd : d < 0
                · have hd' : ¬ 0 ≤ d := by omega
                  go_wp2_with fail
                  refine HLD.out.mono ?_; rintro r w' ⟨rfl, rfl⟩
                  go_wp2_with fail
                  refine HLX.out.mono ?_; rintro r w' ⟨rfl, rfl⟩
                  have kP := HVP.out
                  have kF := HVF.out
                  have kQ := HVQ.out
                  have kK := HVK.out
                  go_wp2_with (go_at_call 12; refine (num_law _ _).mono ?_; rintro r w' ⟨rfl, rfl⟩)
                  refine HLY.out.mono ?_; rintro r w' ⟨rfl, rfl⟩
                  go_wp2_with fail
                  go_ret
                  exact ⟨rfl, HX.out.b⟩
                · go_wp2_with fail
                  refine HLD.out.mono ?_; rintro r w' ⟨rfl, rfl⟩
                  have kP := HVP.out
                  have kF := HVF.out
                  have kQ := HVQ.out
                  have kK := HVK.out
                  go_wp2_with (go_at_call 12; refine (num_law _ _).mono ?_; rintro r w' ⟨rfl, rfl⟩)
                  refine HLY.out.mono ?_; rintro r w' ⟨rfl, rfl⟩
                  go_wp2_with fail
                  go_ret
                  exact ⟨rfl, HX.out.b⟩
      · go_wp2_with (go_at_call 12; refine (num_law _ _).mono ?_; rintro r w' ⟨rfl, rfl⟩)
        go_ret
        exact ⟨rfl, HX.out.b⟩
    · rcases HA.out with ⟨rfl, hq1, l1', hl0, hm0⟩ | rfl
      · clear hq1 l1' hl0 hm0
        go_wp2_with (go_at_call 12; refine (num_law _ _).mono ?_; rintro r w' ⟨rfl, rfl⟩)
        go_ret
        exact ⟨rfl, HX.out.b⟩
      · go_wp2_with (go_at_call 12; refine (num_law _ _).mono ?_; rintro r w' ⟨rfl, rfl⟩)
        go_ret
        exact ⟨rfl, HX.out.b⟩
end Go.Proofs.YtkgcbhpgkcfkhaaDoor
