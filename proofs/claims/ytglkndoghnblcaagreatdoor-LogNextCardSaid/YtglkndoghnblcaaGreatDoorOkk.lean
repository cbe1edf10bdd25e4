/- known: the chapter's rows. -/
import Derived.Test.YtglkndoghnblcaaGreatDoorOkj
import Derived.Deep.RegionHeld
import Derived.Test.YtglkndoghnblcaaGreatDoorOka
namespace Go.Proofs.YtglkndoghnblcaaGreatDoor
open Go.ChangeShapes Go.WideShapes Go.ChangeAt Go.RowKit
set_option linter.unusedVariables false
set_option linter.unusedSimpArgs false
set_option maxRecDepth 100000 in
set_option maxHeartbeats 4000000 in
theorem kw5 (w : World) (hNext : Blk6 w) : Blk5 w := by
  replace hNext := Lib.hid hNext
  intro a1 c1 a4 c4 a6 c6 u9 u10 u11 u12 u13 u14 u15 u16 u17 u18 u19 u20 u21 u22 u23 u24 u25 u26 u27 u28 u29 u30 u31 u32 u33 u34 u35 u36 u37 u38 u39 u40 u41 u42 u43 u44 u45 u46 u47 u48 u49 u50 u51 u52 u53 u54 u55 u56 u57 u58 u59 u60 u61 u62 u63 u64 u65 u66 u67 u68 u69 u70 u71 u72 u73 u74 u75 u76 u77 u78 u79 u80 u81 u82 u83 u84 u85 u86 u87 u88 u89 u90 u91 u92 u93 u94 u95 u96 u97 u98 u99 u100 u101 u102 u103 u104 u105 u106 u107 u108 u109 u110 u111 u112 u113 u114 u115 u116 u117 u118 u119 u120 u121 u122 u123 u124 u125 u126 u127 u128 u129 u130 u131 u132 u133 u134 u135 u136 u137 u138 u139 u140 u141 u142 u143 u144 u145 u146 u147 u148 u149 u150 u151 u152 u153 u154 u155 u156 u157 u158 u159 u160 u161 u162 u163 u164 u165 u166 u167 u168 u169 u170 u171 u172 u173 u174 u175 u176 u177 u178 u179 u180 u181 u182 u183 u184 u185 u186 u187 u188 u189 u190 u191 u192 u193 u194 u195 u196 u197 u198 u199 u200 u201 u202 u203 u204 u205 u206 u207 u208 u209 u210 u211 u212 u213 u214 u215 u216 u217 u218 u219 u220 u221 u222 u223 u224 u225 u226 u227 u228 u229 u230 u231 u232 u233 u234 u235 u236 u237 u238 u239 u240 u241 u242 u243 u244 u245 u246 u247 u248 u249 u250 u251 u252 u253 u254 u255 u256 u257 u258 u259 u260 u261 u262 u263 u264 u265 u266 u267 u268 u269 u270 u271 u272 u273 u274 u275 W0 hX
  have HX := Lib.hid hX
  clear hX
  obtain ⟨c, hc⟩ : ∃ c, sndC (sndC (sndC (sndC (sndC bodyK)))) = c := ⟨_, rfl⟩
  rw [hc]
  simp only [bodyK, sndC, Tryz.f5, Option.getD] at hc
  subst hc
  have hmx : Tryz.prog.follows .mixedOrders = true := by kernel_rfl
  go_upto_region 5 with (fail)
  go_cut [9] (fun v9 wx => ∃ (a9 : Option Addr) (c9 : Nat), v9 = .slice a9 9 c9 ∧ Hid (D9 a9 c9 wx) ∧ Hid (Below W0.heap.size W0 wx))
  case first =>
    go_wp2_with fail
    refine (frame_ok (some ⟨W0.heap.size, 0, none⟩) [0] 1 1 rfl (by decide) (by decide) (byt_dec (by kernel_rfl)) _ (ls_new .u8 W0 [0] #[.int .u8 0] 5 (0, 0) rfl 1 rfl)).mono ?_
    rintro r w1 ⟨a', c', rfl, _, hl, hb⟩
    have HL := Lib.hid hl
    have HB := Lib.hid (step_below (bl1 W0 (.cells #[.int .u8 0] 5)) hb)
    clear hl hb
    go_wp2_with fail
    go_meet
    exact ⟨a', c', rfl, HL, HB⟩
  case rest =>
    obtain ⟨a9, c9, rfl, ND9, HBW⟩ := hcut
    rename_i hK
    refine hK _ _ ?_
    have hn' := hNext.out
    unfold Blk6 at hn'
    exact hn' a1 c1 a4 c4 a6 c6 a9 c9 _ _ _ _ _ _ _ _ _ _ _ _ _ _ _ _ _ _ _ _ _ _ _ _ _ _ _ _ _ _ _ _ _ _ _ _ _ _ _ _ _ _ _ _ _ _ _ _ _ _ _ _ _ _ _ _ _ _ _ _ _ _ _ _ _ _ _ _ _ _ _ _ _ _ _ _ _ _ _ _ _ _ _ _ _ _ _ _ _ _ _ _ _ _ _ _ _ _ _ _ _ _ _ _ _ _ _ _ _ _ _ _ _ _ _ _ _ _ _ _ _ _ _ _ _ _ _ _ _ _ _ _ _ _ _ _ _ _ _ _ _ _ _ _ _ _ _ _ _ _ _ _ _ _ _ _ _ _ _ _ _ _ _ _ _ _ _ _ _ _ _ _ _ _ _ _ _ _ _ _ _ _ _ _ _ _ _ _ _ _ _ _ _ _ _ _ _ _ _ _ _ _ _ _ _ _ _ _ _ _ _ _ _ _ _ _ _ _ _ _ _ _ _ _ _ _ _ _ _ _ _ _ _ _ _ _ _ _ _ _ _ _ _ _ _ _ _ _ _ _ _ _ _ _ _ _ _ _ _ _ _ _ _ _ _ _ _ ⟨(step_below HX.out.1 HBW.out), (HX.out.2.1.below HBW.out), (HX.out.2.2.1.below HBW.out), (HX.out.2.2.2.below HBW.out), (ND9.out)⟩
set_option maxRecDepth 100000 in
set_option maxHeartbeats 4000000 in
theorem kw6 (w : World) (hNext : Blk7 w) : Blk6 w := by
  replace hNext := Lib.hid hNext
  intro a1 c1 a4 c4 a6 c6 a9 c9 u10 u11 u12 u13 u14 u15 u16 u17 u18 u19 u20 u21 u22 u23 u24 u25 u26 u27 u28 u29 u30 u31 u32 u33 u34 u35 u36 u37 u38 u39 u40 u41 u42 u43 u44 u45 u46 u47 u48 u49 u50 u51 u52 u53 u54 u55 u56 u57 u58 u59 u60 u61 u62 u63 u64 u65 u66 u67 u68 u69 u70 u71 u72 u73 u74 u75 u76 u77 u78 u79 u80 u81 u82 u83 u84 u85 u86 u87 u88 u89 u90 u91 u92 u93 u94 u95 u96 u97 u98 u99 u100 u101 u102 u103 u104 u105 u106 u107 u108 u109 u110 u111 u112 u113 u114 u115 u116 u117 u118 u119 u120 u121 u122 u123 u124 u125 u126 u127 u128 u129 u130 u131 u132 u133 u134 u135 u136 u137 u138 u139 u140 u141 u142 u143 u144 u145 u146 u147 u148 u149 u150 u151 u152 u153 u154 u155 u156 u157 u158 u159 u160 u161 u162 u163 u164 u165 u166 u167 u168 u169 u170 u171 u172 u173 u174 u175 u176 u177 u178 u179 u180 u181 u182 u183 u184 u185 u186 u187 u188 u189 u190 u191 u192 u193 u194 u195 u196 u197 u198 u199 u200 u201 u202 u203 u204 u205 u206 u207 u208 u209 u210 u211 u212 u213 u214 u215 u216 u217 u218 u219 u220 u221 u222 u223 u224 u225 u226 u227 u228 u229 u230 u231 u232 u233 u234 u235 u236 u237 u238 u239 u240 u241 u242 u243 u244 u245 u246 u247 u248 u249 u250 u251 u252 u253 u254 u255 u256 u257 u258 u259 u260 u261 u262 u263 u264 u265 u266 u267 u268 u269 u270 u271 u272 u273 u274 u275 W0 hX
  have HX := Lib.hid hX
  clear hX
  obtain ⟨c, hc⟩ : ∃ c, sndC (sndC (sndC (sndC (sndC (sndC bodyK))))) = c := ⟨_, rfl⟩
  rw [hc]
  simp only [bodyK, sndC, Tryz.f5, Option.getD] at hc
  subst hc
  have hmx : Tryz.prog.follows .mixedOrders = true := by kernel_rfl
  go_upto_region 6 with (fail)
  go_cut [11, 12, 13] (fun v11 v12 v13 wx => ∃ (a11 : Option Addr) (c11 : Nat), v11 = .slice a11 0 c11 ∧ v12 = .int .i64 0 ∧ v13 = .bool false ∧ Hid (Below W0.heap.size W0 wx))
  case first =>
    have HT := Lib.hid (fun h => txns_bad a9 9 c9 rfl W0 (h : D9 a9 c9 W0))
    go_wp2_with fail
    refine (HT.out HX.out.2.2.2.2).mono ?_
    rintro r w1 ⟨a', c', rfl, hb⟩
    have HB := Lib.hid hb
    clear hb HT
    go_wp2_with fail
    go_meet
    exact ⟨a', c', rfl, rfl, rfl, HB⟩
  case rest =>
    obtain ⟨a11, c11, rfl, rfl, rfl, HBW⟩ := hcut
    rename_i hK
    refine hK _ _ ?_
    have hn' := hNext.out
    unfold Blk7 at hn'
    exact hn' a1 c1 a4 c4 a6 c6 a11 c11 _ _ _ _ _ _ _ _ _ _ _ _ _ _ _ _ _ _ _ _ _ _ _ _ _ _ _ _ _ _ _ _ _ _ _ _ _ _ _ _ _ _ _ _ _ _ _ _ _ _ _ _ _ _ _ _ _ _ _ _ _ _ _ _ _ _ _ _ _ _ _ _ _ _ _ _ _ _ _ _ _ _ _ _ _ _ _ _ _ _ _ _ _ _ _ _ _ _ _ _ _ _ _ _ _ _ _ _ _ _ _ _ _ _ _ _ _ _ _ _ _ _ _ _ _ _ _ _ _ _ _ _ _ _ _ _ _ _ _ _ _ _ _ _ _ _ _ _ _ _ _ _ _ _ _ _ _ _ _ _ _ _ _ _ _ _ _ _ _ _ _ _ _ _ _ _ _ _ _ _ _ _ _ _ _ _ _ _ _ _ _ _ _ _ _ _ _ _ _ _ _ _ _ _ _ _ _ _ _ _ _ _ _ _ _ _ _ _ _ _ _ _ _ _ _ _ _ _ _ _ _ _ _ _ _ _ _ _ _ _ _ _ _ _ _ _ _ _ _ _ _ _ _ _ _ _ _ _ _ _ _ _ _ _ _ ⟨(step_below HX.out.1 HBW.out), (HX.out.2.1.below HBW.out), (HX.out.2.2.1.below HBW.out), (HX.out.2.2.2.1.below HBW.out)⟩
set_option maxRecDepth 100000 in
set_option maxHeartbeats 4000000 in
theorem kw7 (w : World) (hNext : Blk8 w) : Blk7 w := by
  replace hNext := Lib.hid hNext
  intro a1 c1 a4 c4 a6 c6 a11 c11 u9 u10 u14 u15 u16 u17 u18 u19 u20 u21 u22 u23 u24 u25 u26 u27 u28 u29 u30 u31 u32 u33 u34 u35 u36 u37 u38 u39 u40 u41 u42 u43 u44 u45 u46 u47 u48 u49 u50 u51 u52 u53 u54 u55 u56 u57 u58 u59 u60 u61 u62 u63 u64 u65 u66 u67 u68 u69 u70 u71 u72 u73 u74 u75 u76 u77 u78 u79 u80 u81 u82 u83 u84 u85 u86 u87 u88 u89 u90 u91 u92 u93 u94 u95 u96 u97 u98 u99 u100 u101 u102 u103 u104 u105 u106 u107 u108 u109 u110 u111 u112 u113 u114 u115 u116 u117 u118 u119 u120 u121 u122 u123 u124 u125 u126 u127 u128 u129 u130 u131 u132 u133 u134 u135 u136 u137 u138 u139 u140 u141 u142 u143 u144 u145 u146 u147 u148 u149 u150 u151 u152 u153 u154 u155 u156 u157 u158 u159 u160 u161 u162 u163 u164 u165 u166 u167 u168 u169 u170 u171 u172 u173 u174 u175 u176 u177 u178 u179 u180 u181 u182 u183 u184 u185 u186 u187 u188 u189 u190 u191 u192 u193 u194 u195 u196 u197 u198 u199 u200 u201 u202 u203 u204 u205 u206 u207 u208 u209 u210 u211 u212 u213 u214 u215 u216 u217 u218 u219 u220 u221 u222 u223 u224 u225 u226 u227 u228 u229 u230 u231 u232 u233 u234 u235 u236 u237 u238 u239 u240 u241 u242 u243 u244 u245 u246 u247 u248 u249 u250 u251 u252 u253 u254 u255 u256 u257 u258 u259 u260 u261 u262 u263 u264 u265 u266 u267 u268 u269 u270 u271 u272 u273 u274 u275 W0 hX
  have HX := Lib.hid hX
  clear hX
  obtain ⟨c, hc⟩ : ∃ c, sndC (sndC (sndC (sndC (sndC (sndC (sndC bodyK)))))) = c := ⟨_, rfl⟩
  rw [hc]
  simp only [bodyK, sndC, Tryz.f5, Option.getD] at hc
  subst hc
  have hmx : Tryz.prog.follows .mixedOrders = true := by kernel_rfl
  go_upto_region 7 with (fail)
  go_cut [14, 15] (fun v14 v15 wx => ∃ (a14 : Option Addr) (c14 : Nat), v14 = .slice a14 13 c14 ∧ v15 = .int .i64 0 ∧ Hid (D14 a14 c14 wx) ∧ Hid (Below W0.heap.size W0 wx))
  case first =>
    go_wp2_with fail
    refine (putman_law 1 0 0 ⟨#[]⟩ none [] 0 0 (by simp [maxLen, ByteArray.size]) (fun x hx => by simp at hx) rfl (by omega) (by omega) W0 (fun k x hx => by simp at hx)).mono ?_
    rintro r w1 ⟨⟨h, _⟩ | ⟨_, a', c', rfl, _, hl⟩, hb⟩
    · rw [kMan_b] at h; cases h
    have HL := Lib.hid hl
    have HB := Lib.hid hb
    clear hl hb
    simp only [Int.toNat_zero, Int.toNat_one] at HL ⊢
    rw [kMan_w] at HL ⊢
    go_wp2_with fail
    go_meet
    exact ⟨a', c', rfl, rfl, HL, HB⟩
  case rest =>
    obtain ⟨a14, c14, rfl, rfl, ND14, HBW⟩ := hcut
    rename_i hK
    refine hK _ _ ?_
    have hn' := hNext.out
    unfold Blk8 at hn'
    exact hn' a1 c1 a4 c4 a6 c6 a11 c11 a14 c14 _ _ _ _ _ _ _ _ _ _ _ _ _ _ _ _ _ _ _ _ _ _ _ _ _ _ _ _ _ _ _ _ _ _ _ _ _ _ _ _ _ _ _ _ _ _ _ _ _ _ _ _ _ _ _ _ _ _ _ _ _ _ _ _ _ _ _ _ _ _ _ _ _ _ _ _ _ _ _ _ _ _ _ _ _ _ _ _ _ _ _ _ _ _ _ _ _ _ _ _ _ _ _ _ _ _ _ _ _ _ _ _ _ _ _ _ _ _ _ _ _ _ _ _ _ _ _ _ _ _ _ _ _ _ _ _ _ _ _ _ _ _ _ _ _ _ _ _ _ _ _ _ _ _ _ _ _ _ _ _ _ _ _ _ _ _ _ _ _ _ _ _ _ _ _ _ _ _ _ _ _ _ _ _ _ _ _ _ _ _ _ _ _ _ _ _ _ _ _ _ _ _ _ _ _ _ _ _ _ _ _ _ _ _ _ _ _ _ _ _ _ _ _ _ _ _ _ _ _ _ _ _ _ _ _ _ _ _ _ _ _ _ _ _ _ _ _ _ _ _ _ _ _ _ _ _ _ _ _ _ _ _ _ ⟨(step_below HX.out.1 HBW.out), (HX.out.2.1.below HBW.out), (HX.out.2.2.1.below HBW.out), (HX.out.2.2.2.below HBW.out), (ND14.out)⟩
end Go.Proofs.YtglkndoghnblcaaGreatDoor
namespace Go.Proofs.YtglkndoghnblcaaGreatDoor
open Go.ChangeShapes Go.WideShapes Go.ChangeAt Go.RowKit
set_option linter.unusedVariables false
set_option linter.unusedSimpArgs false
set_option maxRecDepth 100000 in
set_option maxHeartbeats 4000000 in
theorem kw8 (w : World) (hNext : Blk9 w) : Blk8 w := by
  replace hNext := Lib.hid hNext
  intro a1 c1 a4 c4 a6 c6 a11 c11 a14 c14 u9 u10 u16 u17 u18 u19 u20 u21 u22 u23 u24 u25 u26 u27 u28 u29 u30 u31 u32 u33 u34 u35 u36 u37 u38 u39 u40 u41 u42 u43 u44 u45 u46 u47 u48 u49 u50 u51 u52 u53 u54 u55 u56 u57 u58 u59 u60 u61 u62 u63 u64 u65 u66 u67 u68 u69 u70 u71 u72 u73 u74 u75 u76 u77 u78 u79 u80 u81 u82 u83 u84 u85 u86 u87 u88 u89 u90 u91 u92 u93 u94 u95 u96 u97 u98 u99 u100 u101 u102 u103 u104 u105 u106 u107 u108 u109 u110 u111 u112 u113 u114 u115 u116 u117 u118 u119 u120 u121 u122 u123 u124 u125 u126 u127 u128 u129 u130 u131 u132 u133 u134 u135 u136 u137 u138 u139 u140 u141 u142 u143 u144 u145 u146 u147 u148 u149 u150 u151 u152 u153 u154 u155 u156 u157 u158 u159 u160 u161 u162 u163 u164 u165 u166 u167 u168 u169 u170 u171 u172 u173 u174 u175 u176 u177 u178 u179 u180 u181 u182 u183 u184 u185 u186 u187 u188 u189 u190 u191 u192 u193 u194 u195 u196 u197 u198 u199 u200 u201 u202 u203 u204 u205 u206 u207 u208 u209 u210 u211 u212 u213 u214 u215 u216 u217 u218 u219 u220 u221 u222 u223 u224 u225 u226 u227 u228 u229 u230 u231 u232 u233 u234 u235 u236 u237 u238 u239 u240 u241 u242 u243 u244 u245 u246 u247 u248 u249 u250 u251 u252 u253 u254 u255 u256 u257 u258 u259 u260 u261 u262 u263 u264 u265 u266 u267 u268 u269 u270 u271 u272 u273 u274 u275 W0 hX
  have HX := Lib.hid hX
  clear hX
  obtain ⟨c, hc⟩ : ∃ c, sndC (sndC (sndC (sndC (sndC (sndC (sndC (sndC bodyK))))))) = c := ⟨_, rfl⟩
  rw [hc]
  simp only [bodyK, sndC, Tryz.f5, Option.getD] at hc
  subst hc
  have hmx : Tryz.prog.follows .mixedOrders = true := by kernel_rfl
  go_upto_region 8 with (fail)
  go_cut [16, 17] (fun v16 v17 wx => ∃ (b16 : Nat), v16 = .pointer (some ⟨b16, 0, none⟩) ∧ v17 = .int .i64 0 ∧ Hid (D16 b16 wx) ∧ Hid (Below W0.heap.size W0 wx))
  case first =>
    have HD := Lib.hid (fun h => readman_law a14 (frameL kMan) 13 c14 (by rw [frameL_len]; rfl) (by omega) (byt_dec (by kernel_rfl)) W0 (h : D14 a14 c14 W0))
    go_wp2_with fail
    refine (HD.out HX.out.2.2.2.2).mono ?_
    rw [kMan_r]
    rintro r w1 ⟨⟨h, _⟩ | ⟨x, v, h, rfl, a', c', rfl, _⟩, hb⟩
    · cases h
    cases h
    have HB := Lib.hid hb
    clear hb HD
    go_wp2_with fail
    go_meet
    exact ⟨_, rfl, rfl, Lib.hid (show D16 w1.heap.size _ from (BoxC.new w1 _ 39).cell 0), Lib.hid (step_below HB.out (bl1 _ _))⟩
  case rest =>
    obtain ⟨b16, rfl, rfl, ND16, HBW⟩ := hcut
    rename_i hK
    refine hK _ _ ?_
    have hn' := hNext.out
    unfold Blk9 at hn'
    exact hn' a1 c1 a4 c4 a6 c6 a11 c11 a14 c14 b16 _ _ _ _ _ _ _ _ _ _ _ _ _ _ _ _ _ _ _ _ _ _ _ _ _ _ _ _ _ _ _ _ _ _ _ _ _ _ _ _ _ _ _ _ _ _ _ _ _ _ _ _ _ _ _ _ _ _ _ _ _ _ _ _ _ _ _ _ _ _ _ _ _ _ _ _ _ _ _ _ _ _ _ _ _ _ _ _ _ _ _ _ _ _ _ _ _ _ _ _ _ _ _ _ _ _ _ _ _ _ _ _ _ _ _ _ _ _ _ _ _ _ _ _ _ _ _ _ _ _ _ _ _ _ _ _ _ _ _ _ _ _ _ _ _ _ _ _ _ _ _ _ _ _ _ _ _ _ _ _ _ _ _ _ _ _ _ _ _ _ _ _ _ _ _ _ _ _ _ _ _ _ _ _ _ _ _ _ _ _ _ _ _ _ _ _ _ _ _ _ _ _ _ _ _ _ _ _ _ _ _ _ _ _ _ _ _ _ _ _ _ _ _ _ _ _ _ _ _ _ _ _ _ _ _ _ _ _ _ _ _ _ _ _ _ _ _ _ _ _ _ _ _ _ _ _ _ _ _ _ _ ⟨(step_below HX.out.1 HBW.out), (HX.out.2.1.below HBW.out), (HX.out.2.2.1.below HBW.out), (HX.out.2.2.2.1.below HBW.out), (HX.out.2.2.2.2.below HBW.out), (ND16.out)⟩
set_option maxRecDepth 100000 in
set_option maxHeartbeats 4000000 in
theorem kw9 (w : World) (hNext : Blk10 w) : Blk9 w := by
  replace hNext := Lib.hid hNext
  intro a1 c1 a4 c4 a6 c6 a11 c11 a14 c14 b16 u9 u10 u18 u19 u20 u21 u22 u23 u24 u25 u26 u27 u28 u29 u30 u31 u32 u33 u34 u35 u36 u37 u38 u39 u40 u41 u42 u43 u44 u45 u46 u47 u48 u49 u50 u51 u52 u53 u54 u55 u56 u57 u58 u59 u60 u61 u62 u63 u64 u65 u66 u67 u68 u69 u70 u71 u72 u73 u74 u75 u76 u77 u78 u79 u80 u81 u82 u83 u84 u85 u86 u87 u88 u89 u90 u91 u92 u93 u94 u95 u96 u97 u98 u99 u100 u101 u102 u103 u104 u105 u106 u107 u108 u109 u110 u111 u112 u113 u114 u115 u116 u117 u118 u119 u120 u121 u122 u123 u124 u125 u126 u127 u128 u129 u130 u131 u132 u133 u134 u135 u136 u137 u138 u139 u140 u141 u142 u143 u144 u145 u146 u147 u148 u149 u150 u151 u152 u153 u154 u155 u156 u157 u158 u159 u160 u161 u162 u163 u164 u165 u166 u167 u168 u169 u170 u171 u172 u173 u174 u175 u176 u177 u178 u179 u180 u181 u182 u183 u184 u185 u186 u187 u188 u189 u190 u191 u192 u193 u194 u195 u196 u197 u198 u199 u200 u201 u202 u203 u204 u205 u206 u207 u208 u209 u210 u211 u212 u213 u214 u215 u216 u217 u218 u219 u220 u221 u222 u223 u224 u225 u226 u227 u228 u229 u230 u231 u232 u233 u234 u235 u236 u237 u238 u239 u240 u241 u242 u243 u244 u245 u246 u247 u248 u249 u250 u251 u252 u253 u254 u255 u256 u257 u258 u259 u260 u261 u262 u263 u264 u265 u266 u267 u268 u269 u270 u271 u272 u273 u274 u275 W0 hX
  have HX := Lib.hid hX
  clear hX
  obtain ⟨c, hc⟩ : ∃ c, sndC (sndC (sndC (sndC (sndC (sndC (sndC (sndC (sndC bodyK)))))))) = c := ⟨_, rfl⟩
  rw [hc]
  simp only [bodyK, sndC, Tryz.f5, Option.getD] at hc
  subst hc
  have hmx : Tryz.prog.follows .mixedOrders = true := by kernel_rfl
  go_upto_region 9 with (fail)
  go_cut [19] (fun v19 wx => v19 = .int .i64 4 ∧ Hid (Below W0.heap.size W0 wx))
  case first =>
    have HD := Lib.hid (show Ls .u8 W0 a14 c14 (frameL kMan) from HX.out.2.2.2.2.1)
    have hkl : (frameL kMan).length = 13 := by rw [frameL_len]; rfl
    have HKL := Lib.hid hkl
    clear hkl
    go_wp2_with (at_builtin; refine append_ls eltB rfl (.const (.slice none 0 0)) (.tmp 86) rfl W0.heap.size _ 0 [] rfl (World.ownsRow_nil _ _ _ _) _ _ 13 (frameL kMan) HKL.out rfl HD.out (by omega) (Nat.le_refl _) ?_; intro v1 w1 hown1 hgrow1; rw [Nat.zero_add, List.nil_append] at hown1; have HO1 := Lib.hid hown1; have HB1 := Lib.hid ((Below.refl W0.heap.size W0).grown hgrow1 (Nat.le_refl _) (fun j hj => by cases hj)); have hs1 := HB1.out.size; clear hown1 hgrow1; go_wp2_with (at_builtin; refine append_ls eltB rfl (.tmp 87) (.tmp 88) rfl W0.heap.size _ 13 (iv .u8 (frameL kMan)) rfl (HO1.out.alloc _) _ _ 1 [0] rfl rfl (ls_new .u8 w1 [0] #[.int .u8 0] 5 (0, 0) rfl 1 rfl) (by omega) (by rw [World.size_alloc]; omega) ?_; intro v2 w2 hown2 hgrow2; rw [← iv_append] at hown2; obtain ⟨a2, c2, e2, hl2, _⟩ := own_ls (show w2.ownsRow W0.heap.size 5 1 v2 14 (iv .u8 (frameL kMan ++ [0])) from hown2) (by rw [List.length_append, HKL.out]; rfl); subst e2; have HL2 := Lib.hid hl2; have HB2 := Lib.hid ((HB1.out.alloc hs1 (.cells #[.int .u8 0] 5)).grown hgrow2 (by rw [World.size_alloc]; omega) (fun j hj => (HO1.out.lt j hj).1)); clear hown2 hgrow2 hl2))
    refine (readman_law a2 (frameL kMan ++ [0]) 14 c2 (by rw [List.length_append, HKL.out]; rfl) (by omega) (byt_dec (by kernel_rfl)) w2 HL2.out).mono ?_
    rw [kMan_no]
    rintro r w3 ⟨⟨_, rfl⟩ | ⟨x, v, h, _⟩, hb⟩
    · have HB := Lib.hid (step_below HB2.out hb)
      clear hb HO1 HL2
      go_wp2_with fail
      go_meet
      exact ⟨rfl, Lib.hid (step_below HB.out (bl1 _ _))⟩
    · cases h
  case rest =>
    obtain ⟨rfl, HBW⟩ := hcut
    rename_i hK
    refine hK _ _ ?_
    have hn' := hNext.out
    unfold Blk10 at hn'
    exact hn' a1 c1 a4 c4 a6 c6 a11 c11 b16 _ _ _ _ _ _ _ _ _ _ _ _ _ _ _ _ _ _ _ _ _ _ _ _ _ _ _ _ _ _ _ _ _ _ _ _ _ _ _ _ _ _ _ _ _ _ _ _ _ _ _ _ _ _ _ _ _ _ _ _ _ _ _ _ _ _ _ _ _ _ _ _ _ _ _ _ _ _ _ _ _ _ _ _ _ _ _ _ _ _ _ _ _ _ _ _ _ _ _ _ _ _ _ _ _ _ _ _ _ _ _ _ _ _ _ _ _ _ _ _ _ _ _ _ _ _ _ _ _ _ _ _ _ _ _ _ _ _ _ _ _ _ _ _ _ _ _ _ _ _ _ _ _ _ _ _ _ _ _ _ _ _ _ _ _ _ _ _ _ _ _ _ _ _ _ _ _ _ _ _ _ _ _ _ _ _ _ _ _ _ _ _ _ _ _ _ _ _ _ _ _ _ _ _ _ _ _ _ _ _ _ _ _ _ _ _ _ _ _ _ _ _ _ _ _ _ _ _ _ _ _ _ _ _ _ _ _ _ _ _ _ _ _ _ _ _ _ _ _ _ _ _ _ _ _ _ _ _ _ _ _ ⟨(step_below HX.out.1 HBW.out), (HX.out.2.1.below HBW.out), (HX.out.2.2.1.below HBW.out), (HX.out.2.2.2.1.below HBW.out), (HX.out.2.2.2.2.2.below HBW.out)⟩
end Go.Proofs.YtglkndoghnblcaaGreatDoor
namespace Go.Proofs.YtglkndoghnblcaaGreatDoor
open Go.ChangeShapes Go.WideShapes Go.ChangeAt Go.RowKit
set_option linter.unusedVariables false
set_option linter.unusedSimpArgs false
set_option maxRecDepth 100000 in
set_option maxHeartbeats 4000000 in
theorem kw10 (w : World) (hNext : Blk11 w) : Blk10 w := by
  replace hNext := Lib.hid hNext
  intro a1 c1 a4 c4 a6 c6 a11 c11 b16 u9 u10 u14 u18 u20 u21 u22 u23 u24 u25 u26 u27 u28 u29 u30 u31 u32 u33 u34 u35 u36 u37 u38 u39 u40 u41 u42 u43 u44 u45 u46 u47 u48 u49 u50 u51 u52 u53 u54 u55 u56 u57 u58 u59 u60 u61 u62 u63 u64 u65 u66 u67 u68 u69 u70 u71 u72 u73 u74 u75 u76 u77 u78 u79 u80 u81 u82 u83 u84 u85 u86 u87 u88 u89 u90 u91 u92 u93 u94 u95 u96 u97 u98 u99 u100 u101 u102 u103 u104 u105 u106 u107 u108 u109 u110 u111 u112 u113 u114 u115 u116 u117 u118 u119 u120 u121 u122 u123 u124 u125 u126 u127 u128 u129 u130 u131 u132 u133 u134 u135 u136 u137 u138 u139 u140 u141 u142 u143 u144 u145 u146 u147 u148 u149 u150 u151 u152 u153 u154 u155 u156 u157 u158 u159 u160 u161 u162 u163 u164 u165 u166 u167 u168 u169 u170 u171 u172 u173 u174 u175 u176 u177 u178 u179 u180 u181 u182 u183 u184 u185 u186 u187 u188 u189 u190 u191 u192 u193 u194 u195 u196 u197 u198 u199 u200 u201 u202 u203 u204 u205 u206 u207 u208 u209 u210 u211 u212 u213 u214 u215 u216 u217 u218 u219 u220 u221 u222 u223 u224 u225 u226 u227 u228 u229 u230 u231 u232 u233 u234 u235 u236 u237 u238 u239 u240 u241 u242 u243 u244 u245 u246 u247 u248 u249 u250 u251 u252 u253 u254 u255 u256 u257 u258 u259 u260 u261 u262 u263 u264 u265 u266 u267 u268 u269 u270 u271 u272 u273 u274 u275 W0 hX
  have HX := Lib.hid hX
  clear hX
  obtain ⟨c, hc⟩ : ∃ c, sndC (sndC (sndC (sndC (sndC (sndC (sndC (sndC (sndC (sndC bodyK))))))))) = c := ⟨_, rfl⟩
  rw [hc]
  simp only [bodyK, sndC, Tryz.f5, Option.getD] at hc
  subst hc
  have hmx : Tryz.prog.follows .mixedOrders = true := by kernel_rfl
  go_upto_region 10 with (fail)
  go_cut [21] (fun v21 wx => v21 = .int .i64 2 ∧ Hid (Below W0.heap.size W0 wx))
  case first =>
    go_wp2_with fail
    refine (ltxn_law 0 2 { data := #[107] } _).mono ?_
    rintro r w1 ⟨g, p, rfl, ho, hok, h0, h1, h2, hb⟩
    have HW := Lib.hid (puttx_bad 0 2 (some ⟨g, 0, none⟩) [p] 1 1 rfl (by omega) (fun x hx => by simp only [List.mem_singleton] at hx; subst hx; exact r1_small h2) (by rw [kPay_b p 0 2 h0 (by rw [h1]; rfl) h2]; rfl) w1 (wts_of ho hok))
    have HB := Lib.hid hb
    clear ho hok h0 h1 h2 hb
    go_wp2_with fail
    refine HW.out.mono ?_
    rintro r w2 ⟨rfl, hb2⟩
    have HB2 := Lib.hid (step_below HB.out hb2)
    clear hb2
    go_wp2_with fail
    go_meet
    exact ⟨rfl, HB2⟩
  case rest =>
    obtain ⟨rfl, HBW⟩ := hcut
    rename_i hK
    refine hK _ _ ?_
    have hn' := hNext.out
    unfold Blk11 at hn'
    exact hn' a1 c1 a4 c4 a6 c6 a11 c11 b16 _ _ _ _ _ _ _ _ _ _ _ _ _ _ _ _ _ _ _ _ _ _ _ _ _ _ _ _ _ _ _ _ _ _ _ _ _ _ _ _ _ _ _ _ _ _ _ _ _ _ _ _ _ _ _ _ _ _ _ _ _ _ _ _ _ _ _ _ _ _ _ _ _ _ _ _ _ _ _ _ _ _ _ _ _ _ _ _ _ _ _ _ _ _ _ _ _ _ _ _ _ _ _ _ _ _ _ _ _ _ _ _ _ _ _ _ _ _ _ _ _ _ _ _ _ _ _ _ _ _ _ _ _ _ _ _ _ _ _ _ _ _ _ _ _ _ _ _ _ _ _ _ _ _ _ _ _ _ _ _ _ _ _ _ _ _ _ _ _ _ _ _ _ _ _ _ _ _ _ _ _ _ _ _ _ _ _ _ _ _ _ _ _ _ _ _ _ _ _ _ _ _ _ _ _ _ _ _ _ _ _ _ _ _ _ _ _ _ _ _ _ _ _ _ _ _ _ _ _ _ _ _ _ _ _ _ _ _ _ _ _ _ _ _ _ _ _ _ _ _ _ _ _ _ _ _ _ _ _ _ ⟨(step_below HX.out.1 HBW.out), (HX.out.2.1.below HBW.out), (HX.out.2.2.1.below HBW.out), (HX.out.2.2.2.1.below HBW.out), (HX.out.2.2.2.2.below HBW.out)⟩
set_option maxRecDepth 100000 in
set_option maxHeartbeats 4000000 in
theorem kw11 (w : World) (hNext : Blk12 w) : Blk11 w := by
  replace hNext := Lib.hid hNext
  intro a1 c1 a4 c4 a6 c6 a11 c11 b16 u9 u10 u14 u18 u20 u22 u23 u24 u25 u26 u27 u28 u29 u30 u31 u32 u33 u34 u35 u36 u37 u38 u39 u40 u41 u42 u43 u44 u45 u46 u47 u48 u49 u50 u51 u52 u53 u54 u55 u56 u57 u58 u59 u60 u61 u62 u63 u64 u65 u66 u67 u68 u69 u70 u71 u72 u73 u74 u75 u76 u77 u78 u79 u80 u81 u82 u83 u84 u85 u86 u87 u88 u89 u90 u91 u92 u93 u94 u95 u96 u97 u98 u99 u100 u101 u102 u103 u104 u105 u106 u107 u108 u109 u110 u111 u112 u113 u114 u115 u116 u117 u118 u119 u120 u121 u122 u123 u124 u125 u126 u127 u128 u129 u130 u131 u132 u133 u134 u135 u136 u137 u138 u139 u140 u141 u142 u143 u144 u145 u146 u147 u148 u149 u150 u151 u152 u153 u154 u155 u156 u157 u158 u159 u160 u161 u162 u163 u164 u165 u166 u167 u168 u169 u170 u171 u172 u173 u174 u175 u176 u177 u178 u179 u180 u181 u182 u183 u184 u185 u186 u187 u188 u189 u190 u191 u192 u193 u194 u195 u196 u197 u198 u199 u200 u201 u202 u203 u204 u205 u206 u207 u208 u209 u210 u211 u212 u213 u214 u215 u216 u217 u218 u219 u220 u221 u222 u223 u224 u225 u226 u227 u228 u229 u230 u231 u232 u233 u234 u235 u236 u237 u238 u239 u240 u241 u242 u243 u244 u245 u246 u247 u248 u249 u250 u251 u252 u253 u254 u255 u256 u257 u258 u259 u260 u261 u262 u263 u264 u265 u266 u267 u268 u269 u270 u271 u272 u273 u274 u275 W0 hX
  have HX := Lib.hid hX
  clear hX
  obtain ⟨c, hc⟩ : ∃ c, sndC (sndC (sndC (sndC (sndC (sndC (sndC (sndC (sndC (sndC (sndC bodyK)))))))))) = c := ⟨_, rfl⟩
  rw [hc]
  simp only [bodyK, sndC, Tryz.f5, Option.getD] at hc
  subst hc
  have hmx : Tryz.prog.follows .mixedOrders = true := by kernel_rfl
  go_upto_region 11 with (fail)
  go_cut [23] (fun v23 wx => v23 = .int .i64 2 ∧ Hid (Below W0.heap.size W0 wx))
  case first =>
    go_wp2_with fail
    refine (puttx_bad 1 1 none [] 0 0 rfl (by omega) (fun x hx => by simp at hx) rfl W0 (fun k x hx => by simp at hx)).mono ?_
    rintro r w2 ⟨rfl, hb2⟩
    have HB2 := Lib.hid hb2
    clear hb2
    go_wp2_with fail
    go_meet
    exact ⟨rfl, HB2⟩
  case rest =>
    obtain ⟨rfl, HBW⟩ := hcut
    rename_i hK
    refine hK _ _ ?_
    have hn' := hNext.out
    unfold Blk12 at hn'
    exact hn' a1 c1 a4 c4 a6 c6 a11 c11 b16 _ _ _ _ _ _ _ _ _ _ _ _ _ _ _ _ _ _ _ _ _ _ _ _ _ _ _ _ _ _ _ _ _ _ _ _ _ _ _ _ _ _ _ _ _ _ _ _ _ _ _ _ _ _ _ _ _ _ _ _ _ _ _ _ _ _ _ _ _ _ _ _ _ _ _ _ _ _ _ _ _ _ _ _ _ _ _ _ _ _ _ _ _ _ _ _ _ _ _ _ _ _ _ _ _ _ _ _ _ _ _ _ _ _ _ _ _ _ _ _ _ _ _ _ _ _ _ _ _ _ _ _ _ _ _ _ _ _ _ _ _ _ _ _ _ _ _ _ _ _ _ _ _ _ _ _ _ _ _ _ _ _ _ _ _ _ _ _ _ _ _ _ _ _ _ _ _ _ _ _ _ _ _ _ _ _ _ _ _ _ _ _ _ _ _ _ _ _ _ _ _ _ _ _ _ _ _ _ _ _ _ _ _ _ _ _ _ _ _ _ _ _ _ _ _ _ _ _ _ _ _ _ _ _ _ _ _ _ _ _ _ _ _ _ _ _ _ _ _ _ _ _ _ _ _ _ _ _ _ ⟨(step_below HX.out.1 HBW.out), (HX.out.2.1.below HBW.out), (HX.out.2.2.1.below HBW.out), (HX.out.2.2.2.1.below HBW.out), (HX.out.2.2.2.2.below HBW.out)⟩
set_option maxRecDepth 100000 in
set_option maxHeartbeats 4000000 in
theorem kw12 (w : World) (hNext : Blk13 w) : Blk12 w := by
  replace hNext := Lib.hid hNext
  intro a1 c1 a4 c4 a6 c6 a11 c11 b16 u9 u10 u14 u18 u20 u22 u24 u25 u26 u27 u28 u29 u30 u31 u32 u33 u34 u35 u36 u37 u38 u39 u40 u41 u42 u43 u44 u45 u46 u47 u48 u49 u50 u51 u52 u53 u54 u55 u56 u57 u58 u59 u60 u61 u62 u63 u64 u65 u66 u67 u68 u69 u70 u71 u72 u73 u74 u75 u76 u77 u78 u79 u80 u81 u82 u83 u84 u85 u86 u87 u88 u89 u90 u91 u92 u93 u94 u95 u96 u97 u98 u99 u100 u101 u102 u103 u104 u105 u106 u107 u108 u109 u110 u111 u112 u113 u114 u115 u116 u117 u118 u119 u120 u121 u122 u123 u124 u125 u126 u127 u128 u129 u130 u131 u132 u133 u134 u135 u136 u137 u138 u139 u140 u141 u142 u143 u144 u145 u146 u147 u148 u149 u150 u151 u152 u153 u154 u155 u156 u157 u158 u159 u160 u161 u162 u163 u164 u165 u166 u167 u168 u169 u170 u171 u172 u173 u174 u175 u176 u177 u178 u179 u180 u181 u182 u183 u184 u185 u186 u187 u188 u189 u190 u191 u192 u193 u194 u195 u196 u197 u198 u199 u200 u201 u202 u203 u204 u205 u206 u207 u208 u209 u210 u211 u212 u213 u214 u215 u216 u217 u218 u219 u220 u221 u222 u223 u224 u225 u226 u227 u228 u229 u230 u231 u232 u233 u234 u235 u236 u237 u238 u239 u240 u241 u242 u243 u244 u245 u246 u247 u248 u249 u250 u251 u252 u253 u254 u255 u256 u257 u258 u259 u260 u261 u262 u263 u264 u265 u266 u267 u268 u269 u270 u271 u272 u273 u274 u275 W0 hX
  have HX := Lib.hid hX
  clear hX
  obtain ⟨c, hc⟩ : ∃ c, sndC (sndC (sndC (sndC (sndC (sndC (sndC (sndC (sndC (sndC (sndC (sndC bodyK))))))))))) = c := ⟨_, rfl⟩
  rw [hc]
  simp only [bodyK, sndC, Tryz.f5, Option.getD] at hc
  subst hc
  have hmx : Tryz.prog.follows .mixedOrders = true := by kernel_rfl
  go_upto_region 12 with (fail)
  go_cut [25] (fun v25 wx => v25 = .int .i64 2 ∧ Hid (Below W0.heap.size W0 wx))
  case first =>
    go_wp2_with fail
    refine (ltxn_law 1 0 { data := #[107] } _).mono ?_
    rintro r w1 ⟨g, p, rfl, ho, hok, h0, h1, h2, hb⟩
    have HW := Lib.hid (puttx_bad 1 0 (some ⟨g, 0, none⟩) [p] 1 1 rfl (by omega) (fun x hx => by simp only [List.mem_singleton] at hx; subst hx; exact r1_small h2) (by rw [kPay_b p 1 0 h0 (by rw [h1]; rfl) h2]; rfl) w1 (wts_of ho hok))
    have HB := Lib.hid hb
    clear ho hok h0 h1 h2 hb
    go_wp2_with fail
    refine HW.out.mono ?_
    rintro r w2 ⟨rfl, hb2⟩
    have HB2 := Lib.hid (step_below HB.out hb2)
    clear hb2
    go_wp2_with fail
    go_meet
    exact ⟨rfl, HB2⟩
  case rest =>
    obtain ⟨rfl, HBW⟩ := hcut
    rename_i hK
    refine hK _ _ ?_
    have hn' := hNext.out
    unfold Blk13 at hn'
    exact hn' a1 c1 a4 c4 a6 c6 a11 c11 b16 _ _ _ _ _ _ _ _ _ _ _ _ _ _ _ _ _ _ _ _ _ _ _ _ _ _ _ _ _ _ _ _ _ _ _ _ _ _ _ _ _ _ _ _ _ _ _ _ _ _ _ _ _ _ _ _ _ _ _ _ _ _ _ _ _ _ _ _ _ _ _ _ _ _ _ _ _ _ _ _ _ _ _ _ _ _ _ _ _ _ _ _ _ _ _ _ _ _ _ _ _ _ _ _ _ _ _ _ _ _ _ _ _ _ _ _ _ _ _ _ _ _ _ _ _ _ _ _ _ _ _ _ _ _ _ _ _ _ _ _ _ _ _ _ _ _ _ _ _ _ _ _ _ _ _ _ _ _ _ _ _ _ _ _ _ _ _ _ _ _ _ _ _ _ _ _ _ _ _ _ _ _ _ _ _ _ _ _ _ _ _ _ _ _ _ _ _ _ _ _ _ _ _ _ _ _ _ _ _ _ _ _ _ _ _ _ _ _ _ _ _ _ _ _ _ _ _ _ _ _ _ _ _ _ _ _ _ _ _ _ _ _ _ _ _ _ _ _ _ _ _ _ _ _ _ _ _ _ ⟨(step_below HX.out.1 HBW.out), (HX.out.2.1.below HBW.out), (HX.out.2.2.1.below HBW.out), (HX.out.2.2.2.1.below HBW.out), (HX.out.2.2.2.2.below HBW.out)⟩
end Go.Proofs.YtglkndoghnblcaaGreatDoor
namespace Go.Proofs.YtglkndoghnblcaaGreatDoor
open Go.ChangeShapes Go.WideShapes Go.ChangeAt Go.RowKit
set_option linter.unusedVariables false
set_option linter.unusedSimpArgs false
set_option maxRecDepth 100000 in
set_option maxHeartbeats 4000000 in
theorem kw13 (w : World) (hNext : Blk14 w) : Blk13 w := by
  replace hNext := Lib.hid hNext
  intro a1 c1 a4 c4 a6 c6 a11 c11 b16 u9 u10 u14 u18 u20 u22 u24 u26 u27 u28 u29 u30 u31 u32 u33 u34 u35 u36 u37 u38 u39 u40 u41 u42 u43 u44 u45 u46 u47 u48 u49 u50 u51 u52 u53 u54 u55 u56 u57 u58 u59 u60 u61 u62 u63 u64 u65 u66 u67 u68 u69 u70 u71 u72 u73 u74 u75 u76 u77 u78 u79 u80 u81 u82 u83 u84 u85 u86 u87 u88 u89 u90 u91 u92 u93 u94 u95 u96 u97 u98 u99 u100 u101 u102 u103 u104 u105 u106 u107 u108 u109 u110 u111 u112 u113 u114 u115 u116 u117 u118 u119 u120 u121 u122 u123 u124 u125 u126 u127 u128 u129 u130 u131 u132 u133 u134 u135 u136 u137 u138 u139 u140 u141 u142 u143 u144 u145 u146 u147 u148 u149 u150 u151 u152 u153 u154 u155 u156 u157 u158 u159 u160 u161 u162 u163 u164 u165 u166 u167 u168 u169 u170 u171 u172 u173 u174 u175 u176 u177 u178 u179 u180 u181 u182 u183 u184 u185 u186 u187 u188 u189 u190 u191 u192 u193 u194 u195 u196 u197 u198 u199 u200 u201 u202 u203 u204 u205 u206 u207 u208 u209 u210 u211 u212 u213 u214 u215 u216 u217 u218 u219 u220 u221 u222 u223 u224 u225 u226 u227 u228 u229 u230 u231 u232 u233 u234 u235 u236 u237 u238 u239 u240 u241 u242 u243 u244 u245 u246 u247 u248 u249 u250 u251 u252 u253 u254 u255 u256 u257 u258 u259 u260 u261 u262 u263 u264 u265 u266 u267 u268 u269 u270 u271 u272 u273 u274 u275 W0 hX
  have HX := Lib.hid hX
  clear hX
  obtain ⟨c, hc⟩ : ∃ c, sndC (sndC (sndC (sndC (sndC (sndC (sndC (sndC (sndC (sndC (sndC (sndC (sndC bodyK)))))))))))) = c := ⟨_, rfl⟩
  rw [hc]
  simp only [bodyK, sndC, Tryz.f5, Option.getD] at hc
  subst hc
  have hmx : Tryz.prog.follows .mixedOrders = true := by kernel_rfl
  go_upto_region 13 with (fail)
  go_cut [26] (fun v26 wx => ∃ (b26 : Nat), v26 = .pointer (some ⟨b26, 0, none⟩) ∧ Hid (D26 b26 wx) ∧ Hid (Below W0.heap.size W0 wx))
  case first =>
    have kc := bconst W0 97 W0.heap.size rfl
    obtain ⟨W1, hW1⟩ : ∃ W1, W0.alloc (.cells #[.int .u8 97] 5 (1, 2)) = W1 := ⟨_, rfl⟩
    have hs1 : W1.heap.size = W0.heap.size + 1 := by rw [← hW1, World.size_alloc]
    have l1 : Ls .u8 W1 (some ⟨W0.heap.size, 0, none⟩) 1 [97] := by rw [← hW1]; exact ls_new .u8 W0 [97] _ 5 (1, 2) rfl 1 rfl
    have b1 : Below W0.heap.size W0 W1 := by rw [← hW1]; exact bl1 _ _
    obtain ⟨W2, hW2⟩ : ∃ W2, W1.alloc (.cells #[.slice none 0 0] 54) = W2 := ⟨_, rfl⟩
    have hs2 : W2.heap.size = W0.heap.size + 1 + 1 := by rw [← hW2, World.size_alloc, hs1]
    have b2 : Below W1.heap.size W1 W2 := by rw [← hW2]; exact bl1 _ _
    have r2 : RdR W2 (some ⟨W0.heap.size + 1, 0, none⟩) [⟨none, 0, []⟩] := by
      rw [← hW2, ← hs1]
      exact rdR_new W1 _ _ 54 (0, 0) (by simp [P1.v]) (by intro p hp; simp only [List.mem_singleton] at hp; subst hp; exact Ls.nul _ _)
    obtain ⟨W3, hW3⟩ : ∃ W3, W2.alloc (.cells #[.slice (some ⟨W0.heap.size, 0, none⟩) 1 1, .slice (some ⟨W0.heap.size + 1, 0, none⟩) 1 1, .int .i64 3, .int .i64 1] 72) = W3 := ⟨_, rfl⟩
    have b3 : Below W2.heap.size W2 W3 := by rw [← hW3]; exact bl1 _ _
    have bx : BoxC W3 (W0.heap.size + 1 + 1) #[.slice (some ⟨W0.heap.size, 0, none⟩) 1 1, .slice (some ⟨W0.heap.size + 1, 0, none⟩) 1 1, .int .i64 3, .int .i64 1] 72 := by rw [← hW3, ← hs2]; exact BoxC.new _ _ _
    have HD := Lib.hid (show D26 (W0.heap.size + 1 + 1) W3 from ⟨⟨some ⟨W0.heap.size, 0, none⟩, 1, [97], some ⟨W0.heap.size + 1, 0, none⟩, 1, [⟨none, 0, []⟩], 3, 1⟩, bx, ⟨(l1.below b2).below b3, r2.below b3, byt_dec (by kernel_rfl), fun p hp => (by simp only [List.mem_singleton] at hp; subst hp; exact fun x hx => by simp at hx)⟩, rfl, rfl, rfl, rfl⟩)
    have HB := Lib.hid (step_below (step_below b1 b2) b3)
    have hkc : (convert 54 54 (.slice (some ⟨W0.heap.size, 0, none⟩) 1 1)).run Tryz.prog (W0.alloc (.cells #[.int .u8 97] 5)) = .ok (.slice (some ⟨W0.heap.size, 0, none⟩) 1 1) W1 := by rw [kc, hW1]
    clear l1 b1 b2 r2 b3 bx kc
    go_wp2_with fail
    go_meet
    exact ⟨_, rfl, HD, HB⟩
  case rest =>
    obtain ⟨b26, rfl, ND26, HBW⟩ := hcut
    rename_i hK
    refine hK _ _ ?_
    have hn' := hNext.out
    unfold Blk14 at hn'
    exact hn' a1 c1 a4 c4 a6 c6 a11 c11 b16 b26 _ _ _ _ _ _ _ _ _ _ _ _ _ _ _ _ _ _ _ _ _ _ _ _ _ _ _ _ _ _ _ _ _ _ _ _ _ _ _ _ _ _ _ _ _ _ _ _ _ _ _ _ _ _ _ _ _ _ _ _ _ _ _ _ _ _ _ _ _ _ _ _ _ _ _ _ _ _ _ _ _ _ _ _ _ _ _ _ _ _ _ _ _ _ _ _ _ _ _ _ _ _ _ _ _ _ _ _ _ _ _ _ _ _ _ _ _ _ _ _ _ _ _ _ _ _ _ _ _ _ _ _ _ _ _ _ _ _ _ _ _ _ _ _ _ _ _ _ _ _ _ _ _ _ _ _ _ _ _ _ _ _ _ _ _ _ _ _ _ _ _ _ _ _ _ _ _ _ _ _ _ _ _ _ _ _ _ _ _ _ _ _ _ _ _ _ _ _ _ _ _ _ _ _ _ _ _ _ _ _ _ _ _ _ _ _ _ _ _ _ _ _ _ _ _ _ _ _ _ _ _ _ _ _ _ _ _ _ _ _ _ _ _ _ _ _ _ _ _ _ _ _ _ _ _ _ _ ⟨(step_below HX.out.1 HBW.out), (HX.out.2.1.below HBW.out), (HX.out.2.2.1.below HBW.out), (HX.out.2.2.2.1.below HBW.out), (HX.out.2.2.2.2.below HBW.out), (ND26.out)⟩
set_option maxRecDepth 100000 in
set_option maxHeartbeats 4000000 in
theorem kw14 (w : World) (hNext : Blk15 w) : Blk14 w := by
  replace hNext := Lib.hid hNext
  intro a1 c1 a4 c4 a6 c6 a11 c11 b16 b26 u9 u10 u14 u18 u20 u22 u24 u27 u28 u29 u30 u31 u32 u33 u34 u35 u36 u37 u38 u39 u40 u41 u42 u43 u44 u45 u46 u47 u48 u49 u50 u51 u52 u53 u54 u55 u56 u57 u58 u59 u60 u61 u62 u63 u64 u65 u66 u67 u68 u69 u70 u71 u72 u73 u74 u75 u76 u77 u78 u79 u80 u81 u82 u83 u84 u85 u86 u87 u88 u89 u90 u91 u92 u93 u94 u95 u96 u97 u98 u99 u100 u101 u102 u103 u104 u105 u106 u107 u108 u109 u110 u111 u112 u113 u114 u115 u116 u117 u118 u119 u120 u121 u122 u123 u124 u125 u126 u127 u128 u129 u130 u131 u132 u133 u134 u135 u136 u137 u138 u139 u140 u141 u142 u143 u144 u145 u146 u147 u148 u149 u150 u151 u152 u153 u154 u155 u156 u157 u158 u159 u160 u161 u162 u163 u164 u165 u166 u167 u168 u169 u170 u171 u172 u173 u174 u175 u176 u177 u178 u179 u180 u181 u182 u183 u184 u185 u186 u187 u188 u189 u190 u191 u192 u193 u194 u195 u196 u197 u198 u199 u200 u201 u202 u203 u204 u205 u206 u207 u208 u209 u210 u211 u212 u213 u214 u215 u216 u217 u218 u219 u220 u221 u222 u223 u224 u225 u226 u227 u228 u229 u230 u231 u232 u233 u234 u235 u236 u237 u238 u239 u240 u241 u242 u243 u244 u245 u246 u247 u248 u249 u250 u251 u252 u253 u254 u255 u256 u257 u258 u259 u260 u261 u262 u263 u264 u265 u266 u267 u268 u269 u270 u271 u272 u273 u274 u275 W0 hX
  have HX := Lib.hid hX
  clear hX
  obtain ⟨c, hc⟩ : ∃ c, sndC (sndC (sndC (sndC (sndC (sndC (sndC (sndC (sndC (sndC (sndC (sndC (sndC (sndC bodyK))))))))))))) = c := ⟨_, rfl⟩
  rw [hc]
  simp only [bodyK, sndC, Tryz.f5, Option.getD] at hc
  subst hc
  have hmx : Tryz.prog.follows .mixedOrders = true := by kernel_rfl
  go_upto_region 14 with (fail)
  go_cut [28] (fun v28 wx => v28 = .int .i64 2 ∧ Hid (Below W0.heap.size W0 wx))
  case first =>
    obtain ⟨x, hbx, hok, hk, hr, he, hs⟩ := HX.out.2.2.2.2.2
    have hck : ckB 2 [⟨some ⟨W0.heap.size, 0, none⟩, 1, [x]⟩] = false := by
      unfold ckB
      show okT 2 [_] 1 = false
      rw [okT_next (t := ⟨some ⟨W0.heap.size, 0, none⟩, 1, [x]⟩) rfl]
      have h1 : tbB 2 [x] = false := by
        unfold tbB
        show okR 2 [x] 1 = false
        rw [okR_first (x := x) rfl]
        unfold stB
        rw [he]
        simp
      simp only
      rw [h1, Bool.and_false]
    have HXX := Lib.hid (And.intro hbx (And.intro hok (And.intro hk (And.intro hr (And.intro he (And.intro hs hck))))))
    have x0 := hbx.cell 0
    have x1 := hbx.cell 1
    have x2 := hbx.cell 2
    have x3 := hbx.cell 3
    simp only [List.getElem?_toArray, List.getElem?_cons_zero, List.getElem?_cons_succ] at x0 x1 x2 x3
    have hrl : x.R.length = 1 := by have := congrArg List.length hr; simpa using this
    have hkl : x.key.length = 1 := by rw [hk]; rfl
    have bs1 : BoxC (W0.alloc (.cells #[.slice x.ka 1 x.kc, .slice x.ra 1 x.rc, .int .i64 3, .int .i64 1] 72)) W0.heap.size #[.slice x.ka 1 x.kc, .slice x.ra 1 x.rc, .int .i64 3, .int .i64 1] 72 := BoxC.new _ _ _
    obtain ⟨W1, hW1⟩ : ∃ W1, W0.alloc (.cells #[.slice x.ka 1 x.kc, .slice x.ra 1 x.rc, .int .i64 3, .int .i64 1] 72) = W1 := ⟨_, rfl⟩
    rw [hW1] at bs1
    have hs1 : W1.heap.size = W0.heap.size + 1 := by rw [← hW1, World.size_alloc]
    have b1 : Below W0.heap.size W0 W1 := by rw [← hW1]; exact bl1 _ _
    obtain ⟨W2, hW2⟩ : ∃ W2, W1.alloc (.cells #[.slice (some ⟨W0.heap.size, 0, none⟩) 1 1] 74) = W2 := ⟨_, rfl⟩
    have b2 : Below W1.heap.size W1 W2 := by rw [← hW2]; exact bl1 _ _
    have bs2 : BoxC W2 (W0.heap.size + 1) #[.slice (some ⟨W0.heap.size, 0, none⟩) 1 1] 74 := by rw [← hW2, ← hs1]; exact BoxC.new _ _ _
    have hb02 := step_below b1 b2
    have hts : TbsR W2 (some ⟨W0.heap.size + 1, 0, none⟩) [⟨some ⟨W0.heap.size, 0, none⟩, 1, [x]⟩] := fun k t ht => by
      have hk0 : k = 0 := by have := (List.getElem?_eq_some_iff.1 ht).1; simpa using this
      subst hk0
      simp only [List.getElem?_cons_zero, Option.some.injEq] at ht
      subst ht
      refine ⟨_, 0, rfl, ?_, fun j y hy => ?_⟩
      · exact bs2.cell 0
      · have hj0 : j = 0 := by have := (List.getElem?_eq_some_iff.1 hy).1; simpa using this
        subst hj0
        simp only [List.getElem?_cons_zero, Option.some.injEq] at hy
        subst hy
        have bs := bs1.below b2
        refine ⟨_, 0, rfl, ?_, ?_, ?_, ?_, hok.below hb02⟩
        · rw [hkl]; exact bs.cell 0
        · rw [hrl]; exact bs.cell 1
        · rw [he]; exact bs.cell 2
        · rw [hs]; exact bs.cell 3
    have HP := Lib.hid (putck_no 2 (some ⟨W0.heap.size + 1, 0, none⟩) [⟨some ⟨W0.heap.size, 0, none⟩, 1, [x]⟩] 1 1 rfl (by omega) (fun t ht => by simp only [List.mem_singleton] at ht; subst ht; exact ⟨by simp, fun y hy => by simp only [List.mem_singleton] at hy; subst hy; omega⟩) W2 hts hck)
    have HB := Lib.hid hb02
    clear hbx hok hk hr he hs hrl hkl bs1 b1 b2 bs2 hb02 hts hck
    go_wp2_with fail
    refine HP.out.mono ?_
    rintro r w3 ⟨⟨_, rfl⟩ | ⟨h, _⟩ | ⟨h, _⟩, hb⟩
    · have HB3 := Lib.hid (step_below HB.out hb)
      clear hb HP
      go_wp2_with fail
      go_meet
      exact ⟨rfl, HB3⟩
    · rw [HXX.out.2.2.2.2.2.2] at h; cases h
    · rw [HXX.out.2.2.2.2.2.2] at h; cases h
  case rest =>
    obtain ⟨rfl, HBW⟩ := hcut
    rename_i hK
    refine hK _ _ ?_
    have hn' := hNext.out
    unfold Blk15 at hn'
    exact hn' a1 c1 a4 c4 a6 c6 a11 c11 b16 b26 _ _ _ _ _ _ _ _ _ _ _ _ _ _ _ _ _ _ _ _ _ _ _ _ _ _ _ _ _ _ _ _ _ _ _ _ _ _ _ _ _ _ _ _ _ _ _ _ _ _ _ _ _ _ _ _ _ _ _ _ _ _ _ _ _ _ _ _ _ _ _ _ _ _ _ _ _ _ _ _ _ _ _ _ _ _ _ _ _ _ _ _ _ _ _ _ _ _ _ _ _ _ _ _ _ _ _ _ _ _ _ _ _ _ _ _ _ _ _ _ _ _ _ _ _ _ _ _ _ _ _ _ _ _ _ _ _ _ _ _ _ _ _ _ _ _ _ _ _ _ _ _ _ _ _ _ _ _ _ _ _ _ _ _ _ _ _ _ _ _ _ _ _ _ _ _ _ _ _ _ _ _ _ _ _ _ _ _ _ _ _ _ _ _ _ _ _ _ _ _ _ _ _ _ _ _ _ _ _ _ _ _ _ _ _ _ _ _ _ _ _ _ _ _ _ _ _ _ _ _ _ _ _ _ _ _ _ _ _ _ _ _ _ _ _ _ _ _ _ _ _ _ _ _ _ _ ⟨(step_below HX.out.1 HBW.out), (HX.out.2.1.below HBW.out), (HX.out.2.2.1.below HBW.out), (HX.out.2.2.2.1.below HBW.out), (HX.out.2.2.2.2.1.below HBW.out), (HX.out.2.2.2.2.2.below HBW.out)⟩
end Go.Proofs.YtglkndoghnblcaaGreatDoor
namespace Go.Proofs.YtglkndoghnblcaaGreatDoor
open Go.ChangeShapes Go.WideShapes Go.ChangeAt Go.RowKit
set_option linter.unusedVariables false
set_option linter.unusedSimpArgs false
theorem kx_one {x : StP} (hr : x.R.map P1.bs = [[]]) : ∃ ad cap, x.R = [⟨ad, cap, []⟩] := by
  obtain ⟨ka, kc, key, ra, rc, R, e, s⟩ := x
  simp only at hr ⊢
  cases R with
  | nil => cases hr
  | cons r R => cases R with
    | nil =>
      obtain ⟨ad, cap, bs⟩ := r
      simp only [List.map_cons, List.map_nil, List.cons.injEq, and_true] at hr
      subst hr
      exact ⟨ad, cap, rfl⟩
    | cons s R => simp at hr
theorem kx_st {x : StP} (hk : x.key = [97]) (hr : x.R.map P1.bs = [[]]) (he : x.e = 3) (hs : x.s = 1) (i : Nat) (hi : i ≤ 127) : stW i x = kS (i : Int) := by
  obtain ⟨ad, cap, hR⟩ := kx_one hr
  have e0 := numW_small (n := 0) (by omega)
  have e1 := numW_small (n := 1) (by omega)
  have e2 := numW_small (n := 2) (by omega)
  have e3 := numW_small (n := 3) (by omega)
  unfold stW tidW
  rw [hk, hR, he, hs, numW_small hi]
  unfold putL bsW bytesW
  simp [e0, e1, e2, e3, kS, bytesW]
theorem kx_ok {x : StP} (hk : x.key = [97]) (hr : x.R.map P1.bs = [[]]) (he : x.e = 3) (hs : x.s = 1) (a b : Option Addr) : ckB 3 [⟨a, 1, [x]⟩, ⟨b, 1, [x]⟩] = true := by
  obtain ⟨ad, cap, hR⟩ := kx_one hr
  have h1 : tbB 3 [x] = true := by
    unfold tbB
    show okR 3 [x] 1 = true
    rw [okR_first (x := x) rfl]
    unfold stB
    rw [hk, hR, he, hs]
    rfl
  unfold ckB
  show okT 3 [_, _] 2 = true
  rw [okT_next (k := 1) (t := ⟨b, 1, [x]⟩) rfl, okT_next (k := 0) (t := ⟨a, 1, [x]⟩) rfl]
  simp only
  rw [h1]
  rfl
theorem kx_ck {x : StP} (hk : x.key = [97]) (hr : x.R.map P1.bs = [[]]) (he : x.e = 3) (hs : x.s = 1) (a b : Option Addr) : ckW 3 [⟨a, 1, [x]⟩, ⟨b, 1, [x]⟩] = frameL kH ++ frameL (kS 0) ++ frameL (kS 1) := by
  have h0 := kx_st hk hr he hs 0 (by omega)
  have h1 := kx_st hk hr he hs 1 (by omega)
  have e0 := numW_small (n := 0) (by omega)
  have e1 := numW_small (n := 1) (by omega)
  have e2 := numW_small (n := 2) (by omega)
  have e3 := numW_small (n := 3) (by omega)
  have hh : hdW 3 [⟨a, 1, [x]⟩, ⟨b, 1, [x]⟩] = kH := by
    unfold hdW cntsL putL nuW
    simp [e1, e2, e3, kH]
  unfold ckW
  rw [hh]
  show frameL kH ++ tabsW [_, _] 2 = _
  rw [tabsW_next (i := 1) (t := ⟨b, 1, [x]⟩) rfl, tabsW_next (i := 0) (t := ⟨a, 1, [x]⟩) rfl]
  have r0 : rowsW 0 [x] 1 = frameL (kS 0) := by unfold rowsW; simp [h0]
  have r1 : rowsW 1 [x] 1 = frameL (kS 1) := by unfold rowsW; simp [h1]
  show frameL kH ++ ((tabsW _ 0 ++ rowsW 0 [x] 1) ++ rowsW 1 [x] 1) = _
  rw [r0, r1]
  simp [tabsW]
theorem kx_cnt (a b : Option Addr) (x : StP) : cntT [⟨a, 1, [x]⟩, ⟨b, 1, [x]⟩] 2 = 2 := rfl
end Go.Proofs.YtglkndoghnblcaaGreatDoor
namespace Go.Proofs.YtglkndoghnblcaaGreatDoor
open Go.ChangeShapes Go.WideShapes Go.ChangeAt Go.RowKit
set_option linter.unusedVariables false
set_option linter.unusedSimpArgs false
set_option maxRecDepth 100000 in
set_option maxHeartbeats 4000000 in
theorem kw15 (w : World) (hNext : Blk16 w) : Blk15 w := by
  replace hNext := Lib.hid hNext
  intro a1 c1 a4 c4 a6 c6 a11 c11 b16 b26 u9 u10 u14 u18 u20 u22 u24 u27 u29 u30 u31 u32 u33 u34 u35 u36 u37 u38 u39 u40 u41 u42 u43 u44 u45 u46 u47 u48 u49 u50 u51 u52 u53 u54 u55 u56 u57 u58 u59 u60 u61 u62 u63 u64 u65 u66 u67 u68 u69 u70 u71 u72 u73 u74 u75 u76 u77 u78 u79 u80 u81 u82 u83 u84 u85 u86 u87 u88 u89 u90 u91 u92 u93 u94 u95 u96 u97 u98 u99 u100 u101 u102 u103 u104 u105 u106 u107 u108 u109 u110 u111 u112 u113 u114 u115 u116 u117 u118 u119 u120 u121 u122 u123 u124 u125 u126 u127 u128 u129 u130 u131 u132 u133 u134 u135 u136 u137 u138 u139 u140 u141 u142 u143 u144 u145 u146 u147 u148 u149 u150 u151 u152 u153 u154 u155 u156 u157 u158 u159 u160 u161 u162 u163 u164 u165 u166 u167 u168 u169 u170 u171 u172 u173 u174 u175 u176 u177 u178 u179 u180 u181 u182 u183 u184 u185 u186 u187 u188 u189 u190 u191 u192 u193 u194 u195 u196 u197 u198 u199 u200 u201 u202 u203 u204 u205 u206 u207 u208 u209 u210 u211 u212 u213 u214 u215 u216 u217 u218 u219 u220 u221 u222 u223 u224 u225 u226 u227 u228 u229 u230 u231 u232 u233 u234 u235 u236 u237 u238 u239 u240 u241 u242 u243 u244 u245 u246 u247 u248 u249 u250 u251 u252 u253 u254 u255 u256 u257 u258 u259 u260 u261 u262 u263 u264 u265 u266 u267 u268 u269 u270 u271 u272 u273 u274 u275 W0 hX
  have HX := Lib.hid hX
  clear hX
  obtain ⟨c, hc⟩ : ∃ c, sndC (sndC (sndC (sndC (sndC (sndC (sndC (sndC (sndC (sndC (sndC (sndC (sndC (sndC (sndC bodyK)))))))))))))) = c := ⟨_, rfl⟩
  rw [hc]
  simp only [bodyK, sndC, Tryz.f5, Option.getD] at hc
  subst hc
  have hmx : Tryz.prog.follows .mixedOrders = true := by kernel_rfl
  go_upto_region 15 with (fail)
  go_cut [29] (fun v29 wx => ∃ (a29 : Option Addr) (c29 : Nat), v29 = .slice a29 3 c29 ∧ Hid (D29 a29 c29 wx) ∧ Hid (Below W0.heap.size W0 wx))
  case first =>
    obtain ⟨x, hbx, hok, hk, hr, he, hs⟩ := HX.out.2.2.2.2.2
    have HXX := Lib.hid (And.intro hk (And.intro hr (And.intro he hs)))
    have x0 := hbx.cell 0
    have x1 := hbx.cell 1
    have x2 := hbx.cell 2
    have x3 := hbx.cell 3
    simp only [List.getElem?_toArray, List.getElem?_cons_zero, List.getElem?_cons_succ] at x0 x1 x2 x3
    have hrl : x.R.length = 1 := by have := congrArg List.length hr; simpa using this
    have hkl : x.key.length = 1 := by rw [hk]; rfl
    obtain ⟨W1, hW1⟩ : ∃ W1, W0.alloc (.cells #[.slice x.ka 1 x.kc, .slice x.ra 1 x.rc, .int .i64 3, .int .i64 1] 72) = W1 := ⟨_, rfl⟩
    have bs1 : BoxC W1 W0.heap.size #[.slice x.ka 1 x.kc, .slice x.ra 1 x.rc, .int .i64 3, .int .i64 1] 72 := by rw [← hW1]; exact BoxC.new _ _ _
    have hs1 : W1.heap.size = W0.heap.size + 1 := by rw [← hW1, World.size_alloc]
    have b1 : Below W0.heap.size W0 W1 := by rw [← hW1]; exact bl1 _ _
    have hbx1 := hbx.below b1
    have y0 := hbx1.cell 0
    have y1 := hbx1.cell 1
    have y2 := hbx1.cell 2
    have y3 := hbx1.cell 3
    simp only [List.getElem?_toArray, List.getElem?_cons_zero, List.getElem?_cons_succ] at y0 y1 y2 y3
    obtain ⟨W2, hW2⟩ : ∃ W2, W1.alloc (.cells #[.slice x.ka 1 x.kc, .slice x.ra 1 x.rc, .int .i64 3, .int .i64 1] 72) = W2 := ⟨_, rfl⟩
    have b2 : Below W1.heap.size W1 W2 := by rw [← hW2]; exact bl1 _ _
    have hs2 : W2.heap.size = W0.heap.size + 1 + 1 := by rw [← hW2, World.size_alloc, hs1]
    have bs2 : BoxC W2 (W0.heap.size + 1) #[.slice x.ka 1 x.kc, .slice x.ra 1 x.rc, .int .i64 3, .int .i64 1] 72 := by rw [← hW2, ← hs1]; exact BoxC.new _ _ _
    obtain ⟨W3, hW3⟩ : ∃ W3, W2.alloc (.cells #[.slice (some ⟨W0.heap.size, 0, none⟩) 1 1, .slice (some ⟨W0.heap.size + 1, 0, none⟩) 1 1] 74) = W3 := ⟨_, rfl⟩
    have b3 : Below W2.heap.size W2 W3 := by rw [← hW3]; exact bl1 _ _
    have bs3 : BoxC W3 (W0.heap.size + 1 + 1) #[.slice (some ⟨W0.heap.size, 0, none⟩) 1 1, .slice (some ⟨W0.heap.size + 1, 0, none⟩) 1 1] 74 := by rw [← hW3, ← hs2]; exact BoxC.new _ _ _
    have hb03 := step_below (step_below b1 b2) b3
    have hst : ∀ g, BoxC W3 g #[.slice x.ka 1 x.kc, .slice x.ra 1 x.rc, .int .i64 3, .int .i64 1] 72 → StsR W3 (some ⟨g, 0, none⟩) [x] := fun g bs j y hy => by
      have hj0 : j = 0 := by have := (List.getElem?_eq_some_iff.1 hy).1; simpa using this
      subst hj0
      simp only [List.getElem?_cons_zero, Option.some.injEq] at hy
      subst hy
      refine ⟨_, 0, rfl, ?_, ?_, ?_, ?_, hok.below hb03⟩
      · rw [hkl]; exact bs.cell 0
      · rw [hrl]; exact bs.cell 1
      · rw [he]; exact bs.cell 2
      · rw [hs]; exact bs.cell 3
    have hts : TbsR W3 (some ⟨W0.heap.size + 1 + 1, 0, none⟩) [⟨some ⟨W0.heap.size, 0, none⟩, 1, [x]⟩, ⟨some ⟨W0.heap.size + 1, 0, none⟩, 1, [x]⟩] := fun k t ht => by
      have hk0 : k < 2 := by have := (List.getElem?_eq_some_iff.1 ht).1; simpa using this
      match k, hk0, ht with
      | 0, _, ht =>
        simp only [List.getElem?_cons_zero, Option.some.injEq] at ht
        subst ht
        exact ⟨_, 0, rfl, bs3.cell 0, hst _ ((bs1.below b2).below b3)⟩
      | 1, _, ht =>
        simp only [List.getElem?_cons_succ, List.getElem?_cons_zero, Option.some.injEq] at ht
        subst ht
        exact ⟨_, 0, rfl, bs3.cell 1, hst _ (bs2.below b3)⟩
    have hP := rputck_own 3 (some ⟨W0.heap.size + 1 + 1, 0, none⟩) [⟨some ⟨W0.heap.size, 0, none⟩, 1, [x]⟩, ⟨some ⟨W0.heap.size + 1, 0, none⟩, 1, [x]⟩] 2 2 rfl W3 hts (kx_ok hk hr he hs _ _) (by rw [kx_cnt]; omega)
    rw [kx_ck hk hr he hs] at hP
    have HP := Lib.hid hP
    have HB := Lib.hid hb03
    have hf := three kH_byt (kS_byt 0 (by omega) (by omega)) (kS_byt 1 (by omega) (by omega)) (by decide) (by decide) (by decide) (by decide) (by decide) (by decide)
    have hby : Byt (frameL kH ++ frameL (kS 0) ++ frameL (kS 1)) := byt_dec (by kernel_rfl)
    have hln : (frameL kH ++ frameL (kS 0) ++ frameL (kS 1)).length ≤ 1000000 := by simp only [List.length_append, frameL_len]; decide
    obtain ⟨CK, hCK⟩ : ∃ CK, frameL kH ++ frameL (kS 0) ++ frameL (kS 1) = CK := ⟨_, rfl⟩
    rw [hCK] at HP hf hby hln
    have HF := Lib.hid (And.intro hf (And.intro hby hln))
    clear hbx hok hk hr he hs hrl hkl bs1 b1 b2 bs2 b3 bs3 hbx1 hb03 hst hts hP hf hby hln hCK
    go_wp2_with fail
    refine HP.out.mono ?_
    rintro r w4 ⟨a4', c4', rfl, _, hl4, hb4⟩
    have HL4 := Lib.hid hl4.ls
    have HB4 := Lib.hid (step_below HB.out hb4)
    clear hl4 hb4 HP
    go_wp2_with fail
    refine (rframes_law a4' CK CK.length c4' rfl HF.out.2.2 HF.out.2.1 w4 HL4.out).mono ?_
    rintro r w5 ⟨v, rfl, hR, hb5⟩
    rw [HF.out.1] at hR
    obtain ⟨a5, c5, RR, rfl, hq, hrr⟩ := hR.rdr
    have HD := Lib.hid (show D29 a5 c5 w5 from ⟨RR, hrr, hq⟩)
    have HB5 := Lib.hid (step_below HB4.out hb5)
    clear hR hq hrr hb5
    go_wp2_with fail
    go_meet
    exact ⟨a5, c5, rfl, HD, HB5⟩
  case rest =>
    obtain ⟨a29, c29, rfl, ND29, HBW⟩ := hcut
    rename_i hK
    refine hK _ _ ?_
    have hn' := hNext.out
    unfold Blk16 at hn'
    exact hn' a1 c1 a4 c4 a6 c6 a11 c11 b16 a29 c29 _ _ _ _ _ _ _ _ _ _ _ _ _ _ _ _ _ _ _ _ _ _ _ _ _ _ _ _ _ _ _ _ _ _ _ _ _ _ _ _ _ _ _ _ _ _ _ _ _ _ _ _ _ _ _ _ _ _ _ _ _ _ _ _ _ _ _ _ _ _ _ _ _ _ _ _ _ _ _ _ _ _ _ _ _ _ _ _ _ _ _ _ _ _ _ _ _ _ _ _ _ _ _ _ _ _ _ _ _ _ _ _ _ _ _ _ _ _ _ _ _ _ _ _ _ _ _ _ _ _ _ _ _ _ _ _ _ _ _ _ _ _ _ _ _ _ _ _ _ _ _ _ _ _ _ _ _ _ _ _ _ _ _ _ _ _ _ _ _ _ _ _ _ _ _ _ _ _ _ _ _ _ _ _ _ _ _ _ _ _ _ _ _ _ _ _ _ _ _ _ _ _ _ _ _ _ _ _ _ _ _ _ _ _ _ _ _ _ _ _ _ _ _ _ _ _ _ _ _ _ _ _ _ _ _ _ _ _ _ _ _ _ _ _ _ _ _ _ _ _ _ _ _ _ _ _ ⟨(step_below HX.out.1 HBW.out), (HX.out.2.1.below HBW.out), (HX.out.2.2.1.below HBW.out), (HX.out.2.2.2.1.below HBW.out), (HX.out.2.2.2.2.1.below HBW.out), (ND29.out)⟩
end Go.Proofs.YtglkndoghnblcaaGreatDoor
namespace Go.Proofs.YtglkndoghnblcaaGreatDoor
open Go.ChangeShapes Go.WideShapes Go.ChangeAt Go.RowKit
set_option linter.unusedVariables false
set_option linter.unusedSimpArgs false
set_option maxRecDepth 100000 in
set_option maxHeartbeats 4000000 in
theorem kw16 (w : World) (hNext : Blk17 w) : Blk16 w := by
  replace hNext := Lib.hid hNext
  intro a1 c1 a4 c4 a6 c6 a11 c11 b16 a29 c29 u9 u10 u14 u18 u20 u22 u24 u26 u27 u30 u31 u32 u33 u34 u35 u36 u37 u38 u39 u40 u41 u42 u43 u44 u45 u46 u47 u48 u49 u50 u51 u52 u53 u54 u55 u56 u57 u58 u59 u60 u61 u62 u63 u64 u65 u66 u67 u68 u69 u70 u71 u72 u73 u74 u75 u76 u77 u78 u79 u80 u81 u82 u83 u84 u85 u86 u87 u88 u89 u90 u91 u92 u93 u94 u95 u96 u97 u98 u99 u100 u101 u102 u103 u104 u105 u106 u107 u108 u109 u110 u111 u112 u113 u114 u115 u116 u117 u118 u119 u120 u121 u122 u123 u124 u125 u126 u127 u128 u129 u130 u131 u132 u133 u134 u135 u136 u137 u138 u139 u140 u141 u142 u143 u144 u145 u146 u147 u148 u149 u150 u151 u152 u153 u154 u155 u156 u157 u158 u159 u160 u161 u162 u163 u164 u165 u166 u167 u168 u169 u170 u171 u172 u173 u174 u175 u176 u177 u178 u179 u180 u181 u182 u183 u184 u185 u186 u187 u188 u189 u190 u191 u192 u193 u194 u195 u196 u197 u198 u199 u200 u201 u202 u203 u204 u205 u206 u207 u208 u209 u210 u211 u212 u213 u214 u215 u216 u217 u218 u219 u220 u221 u222 u223 u224 u225 u226 u227 u228 u229 u230 u231 u232 u233 u234 u235 u236 u237 u238 u239 u240 u241 u242 u243 u244 u245 u246 u247 u248 u249 u250 u251 u252 u253 u254 u255 u256 u257 u258 u259 u260 u261 u262 u263 u264 u265 u266 u267 u268 u269 u270 u271 u272 u273 u274 u275 W0 hX
  have HX := Lib.hid hX
  clear hX
  obtain ⟨c, hc⟩ : ∃ c, sndC (sndC (sndC (sndC (sndC (sndC (sndC (sndC (sndC (sndC (sndC (sndC (sndC (sndC (sndC (sndC bodyK))))))))))))))) = c := ⟨_, rfl⟩
  rw [hc]
  simp only [bodyK, sndC, Tryz.f5, Option.getD] at hc
  subst hc
  have hmx : Tryz.prog.follows .mixedOrders = true := by kernel_rfl
  go_upto_region 16 with (fail)
  go_cut [31] (fun v31 wx => ∃ (a31 : Option Addr) (n31 c31 : Nat), v31 = .slice a31 n31 c31 ∧ Hid (D31 a31 n31 c31 wx) ∧ Hid (Below W0.heap.size W0 wx))
  case first =>
    obtain ⟨R, hR, hq⟩ := HX.out.2.2.2.2.2
    obtain ⟨d0, e0, d1, e1, d2, e2, rfl⟩ : ∃ d0 e0 d1 e1 d2 e2, R = [⟨d0, e0, kH⟩, ⟨d1, e1, kS 0⟩, ⟨d2, e2, kS 1⟩] := by
      match R, hq with
      | [⟨d0, e0, b0⟩, ⟨d1, e1, b1⟩, ⟨d2, e2, b2⟩], hq =>
        simp only [List.map_cons, List.map_nil, List.cons.injEq, and_true] at hq
        obtain ⟨rfl, rfl, rfl⟩ := hq
        exact ⟨d0, e0, d1, e1, d2, e2, rfl⟩
    obtain ⟨bb, off, rfl, k0, l0⟩ := hR 0 _ rfl
    obtain ⟨bb1, off1, hh1, k1, l1⟩ := hR 1 _ rfl
    cases hh1
    obtain ⟨bb2, off2, hh2, k2, l2⟩ := hR 2 _ rfl
    cases hh2
    have HLS := Lib.hid (And.intro l0 (And.intro l1 l2))
    have FQ := Lib.hid (fun X (b : Below W0.heap.size W0 X) => (⟨(b.cell (cell_lt k0)).trans k0, (b.cell (cell_lt k1)).trans k1, (b.cell (cell_lt k2)).trans k2⟩ : X.cell? ⟨bb, off, none⟩ = some (.slice d0 4 e0) ∧ X.cell? ⟨bb, off + 1, none⟩ = some (.slice d1 8 e1) ∧ X.cell? ⟨bb, off + 2, none⟩ = some (.slice d2 8 e2)))
    have hfl : (frameL kH).length + (frameL (kS 1)).length + (frameL (kS 0)).length = 44 := by rw [frameL_len, frameL_len, frameL_len]; rfl
    have hf1 : (frameL kH).length + (frameL (kS 1)).length ≤ 44 := by omega
    clear hR hq k0 k1 k2 l0 l1 l2
    go_wp2_with fail
    refine wp_region_held_drew (S := (fun X => Below W0.heap.size W0 X)) (by kernel_rfl) ((Below.refl _ _).drew) (fun hHeld => ?_)
    refine tp 0 ?_ rfl (.inl ⟨by rfl, ?_⟩) ?_
    rotate_left
    · intro W hSw; go_simp; try with_reducible rfl
    refine tp 1 ?_ rfl (.inl ⟨by rfl, ?_⟩) ?_
    rotate_left
    · intro W hSw; go_simp; try with_reducible rfl
    refine tp 2 ?_ rfl (.inl ⟨by rfl, ?_⟩) ?_
    rotate_left
    · intro W hSw; obtain ⟨z0, z1, z2⟩ := FQ.out W hSw; go_simp; try with_reducible rfl
    refine tp 4 ?_ rfl (.inl ⟨by rfl, ?_⟩) ?_
    rotate_left
    · intro W hSw; go_simp; try with_reducible rfl
    refine tp 5 ?_ rfl (.inl ⟨by rfl, ?_⟩) ?_
    rotate_left
    · intro W hSw; go_simp; try with_reducible rfl
    refine tp 6 ?_ rfl (.inl ⟨by rfl, ?_⟩) ?_
    rotate_left
    · intro W hSw; obtain ⟨z0, z1, z2⟩ := FQ.out W hSw; go_simp; try with_reducible rfl
    refine tp 9 ?_ rfl (.inl ⟨by rfl, ?_⟩) ?_
    rotate_left
    · intro W hSw; go_simp; try with_reducible rfl
    refine tp 10 ?_ rfl (.inl ⟨by rfl, ?_⟩) ?_
    rotate_left
    · intro W hSw; go_simp; try with_reducible rfl
    refine tp 11 ?_ rfl (.inl ⟨by rfl, ?_⟩) ?_
    rotate_left
    · intro W hSw; obtain ⟨z0, z1, z2⟩ := FQ.out W hSw; go_simp; try with_reducible rfl
    refine Go.Proofs.YtglkndoghnblcaaGreatDoor.a1 3 rfl (fun K hK => ?_)
    go_simp
    refine (rframe_own d0 kH 4 e0 rfl (by omega) kH_byt _ (HLS.out.1.below hHeld)).mono ?_; rintro e9 w3 ⟨a3, c3, rfl, ho3, hl3, hb3⟩; have HA := Lib.hid (own_base (b := W0.heap.size) hHeld.size ho3)
    go_wp2_with fail
    refine hK.out _ _ (step_below hHeld hb3) (fun hHeldn => ?_)
    clear hK K hHeld; have hHeld := hHeldn; clear hHeldn
    clear ho3 hl3 hb3
    try simp only [Act.put, List.setIfInBounds_toArray, List.set_cons_zero, List.set_cons_succ]
    refine Go.Proofs.YtglkndoghnblcaaGreatDoor.a1 7 rfl (fun K hK => ?_)
    go_simp
    refine (rframe_own d2 (kS 1) 8 e2 rfl (by omega) (kS_byt _ (by omega) (by omega)) _ (HLS.out.2.2.below hHeld)).mono ?_; rintro e9 w4 ⟨a4x, c4x, rfl, ho4, hl4, hb4⟩; have HC := Lib.hid hl4.ls; have HA2 := Lib.hid (own_below HA.out hb4)
    go_wp2_with fail
    refine hK.out _ _ (step_below hHeld hb4) (fun hHeldn => ?_)
    clear hK K hHeld; have hHeld := hHeldn; clear hHeldn
    clear ho4 hl4 hb4
    try simp only [Act.put, List.setIfInBounds_toArray, List.set_cons_zero, List.set_cons_succ]
    refine Go.Proofs.YtglkndoghnblcaaGreatDoor.a1 8 rfl (fun K hK => ?_)
    refine step_append_ls eltB rfl _ _ rfl W0.heap.size W0 hHeld (_) ((frameL kH).length) (iv .u8 (frameL kH)) rfl HA2.out _ _ ((frameL (kS 1)).length) (frameL (kS 1)) rfl rfl HC.out (by omega) hHeld.size ?_
    intro v1 X1 ho1 hb1 hg1
    rw [← iv_append] at ho1; have HP1 := Lib.hid ho1
    clear ho1 hg1
    refine hK.out _ _ hb1 (fun hHeldn => ?_)
    clear hK K hHeld; have hHeld := hHeldn; clear hHeldn hb1
    try simp only [Act.put, List.setIfInBounds_toArray, List.set_cons_zero, List.set_cons_succ]
    refine Go.Proofs.YtglkndoghnblcaaGreatDoor.a1 12 rfl (fun K hK => ?_)
    go_simp
    refine (rframe_own d1 (kS 0) 8 e1 rfl (by omega) (kS_byt _ (by omega) (by omega)) _ (HLS.out.2.1.below hHeld)).mono ?_; rintro e9 w5 ⟨a5, c5, rfl, ho5, hl5, hb5⟩; have HC5 := Lib.hid hl5.ls; have HP2 := Lib.hid (own_below HP1.out hb5)
    go_wp2_with fail
    refine hK.out _ _ (step_below hHeld hb5) (fun hHeldn => ?_)
    clear hK K hHeld; have hHeld := hHeldn; clear hHeldn
    clear ho5 hl5 hb5
    try simp only [Act.put, List.setIfInBounds_toArray, List.set_cons_zero, List.set_cons_succ]
    refine Go.Proofs.YtglkndoghnblcaaGreatDoor.a1 13 rfl (fun K hK => ?_)
    refine step_append_ls eltB rfl _ _ rfl W0.heap.size W0 hHeld (_) ((frameL kH).length + (frameL (kS 1)).length) (iv .u8 (frameL kH ++ frameL (kS 1))) rfl HP2.out _ _ ((frameL (kS 0)).length) (frameL (kS 0)) rfl rfl HC5.out (by omega) hHeld.size ?_
    intro v3 X3 ho3 hb3 hg3
    rw [← iv_append] at ho3; have HP3 := Lib.hid ho3
    clear ho3 hg3
    refine hK.out _ _ hb3 (fun hHeldn => ?_)
    clear hK K hHeld; have hHeld := hHeldn; clear hHeldn hb3
    try simp only [Act.put, List.setIfInBounds_toArray, List.set_cons_zero, List.set_cons_succ]
    refine tp 14 ?_ rfl (.inl ⟨by rfl, ?_⟩) ?_
    rotate_left
    · intro W hSw; go_simp; try with_reducible rfl
    refine wpAnyH_done (by kernel_rfl) ?_ _
    have HBF := Lib.hid hHeld
    obtain ⟨n9, hn9⟩ : ∃ n, (frameL kH).length + (frameL (kS 1)).length + (frameL (kS 0)).length = n := ⟨_, rfl⟩
    have hp3 := HP3.out
    rw [hn9] at hp3
    obtain ⟨a9, c9, e9, hl9, _⟩ := own_ls hp3 (by rw [List.length_append, List.length_append, hn9])
    subst e9
    have HD := Lib.hid (show D31 a9 n9 c9 X3 from ⟨by rw [← hn9]; unfold kTu; rw [List.length_append, List.length_append], hl9⟩)
    clear hHeld hp3 hl9 HP3
    go_wp2_with fail
    go_meet
    exact ⟨a9, n9, c9, rfl, HD, HBF⟩
  case rest =>
    obtain ⟨a31, n31, c31, rfl, ND31, HBW⟩ := hcut
    rename_i hK
    refine hK _ _ ?_
    have hn' := hNext.out
    unfold Blk17 at hn'
    exact hn' a1 c1 a4 c4 a6 c6 a11 c11 b16 a31 n31 c31 _ _ _ _ _ _ _ _ _ _ _ _ _ _ _ _ _ _ _ _ _ _ _ _ _ _ _ _ _ _ _ _ _ _ _ _ _ _ _ _ _ _ _ _ _ _ _ _ _ _ _ _ _ _ _ _ _ _ _ _ _ _ _ _ _ _ _ _ _ _ _ _ _ _ _ _ _ _ _ _ _ _ _ _ _ _ _ _ _ _ _ _ _ _ _ _ _ _ _ _ _ _ _ _ _ _ _ _ _ _ _ _ _ _ _ _ _ _ _ _ _ _ _ _ _ _ _ _ _ _ _ _ _ _ _ _ _ _ _ _ _ _ _ _ _ _ _ _ _ _ _ _ _ _ _ _ _ _ _ _ _ _ _ _ _ _ _ _ _ _ _ _ _ _ _ _ _ _ _ _ _ _ _ _ _ _ _ _ _ _ _ _ _ _ _ _ _ _ _ _ _ _ _ _ _ _ _ _ _ _ _ _ _ _ _ _ _ _ _ _ _ _ _ _ _ _ _ _ _ _ _ _ _ _ _ _ _ _ _ _ _ _ _ _ _ _ _ _ _ _ _ _ _ _ _ _ ⟨(step_below HX.out.1 HBW.out), (HX.out.2.1.below HBW.out), (HX.out.2.2.1.below HBW.out), (HX.out.2.2.2.1.below HBW.out), (HX.out.2.2.2.2.1.below HBW.out), (ND31.out)⟩
end Go.Proofs.YtglkndoghnblcaaGreatDoor
namespace Go.Proofs.YtglkndoghnblcaaGreatDoor
open Go.ChangeShapes Go.WideShapes Go.ChangeAt Go.RowKit
set_option linter.unusedVariables false
set_option linter.unusedSimpArgs false
set_option maxRecDepth 100000 in
set_option maxHeartbeats 4000000 in
theorem kw17 (w : World) (hNext : Blk18 w) : Blk17 w := by
  replace hNext := Lib.hid hNext
  intro a1 c1 a4 c4 a6 c6 a11 c11 b16 a31 n31 c31 u9 u10 u14 u18 u20 u22 u24 u26 u27 u29 u30 u32 u33 u34 u35 u36 u37 u38 u39 u40 u41 u42 u43 u44 u45 u46 u47 u48 u49 u50 u51 u52 u53 u54 u55 u56 u57 u58 u59 u60 u61 u62 u63 u64 u65 u66 u67 u68 u69 u70 u71 u72 u73 u74 u75 u76 u77 u78 u79 u80 u81 u82 u83 u84 u85 u86 u87 u88 u89 u90 u91 u92 u93 u94 u95 u96 u97 u98 u99 u100 u101 u102 u103 u104 u105 u106 u107 u108 u109 u110 u111 u112 u113 u114 u115 u116 u117 u118 u119 u120 u121 u122 u123 u124 u125 u126 u127 u128 u129 u130 u131 u132 u133 u134 u135 u136 u137 u138 u139 u140 u141 u142 u143 u144 u145 u146 u147 u148 u149 u150 u151 u152 u153 u154 u155 u156 u157 u158 u159 u160 u161 u162 u163 u164 u165 u166 u167 u168 u169 u170 u171 u172 u173 u174 u175 u176 u177 u178 u179 u180 u181 u182 u183 u184 u185 u186 u187 u188 u189 u190 u191 u192 u193 u194 u195 u196 u197 u198 u199 u200 u201 u202 u203 u204 u205 u206 u207 u208 u209 u210 u211 u212 u213 u214 u215 u216 u217 u218 u219 u220 u221 u222 u223 u224 u225 u226 u227 u228 u229 u230 u231 u232 u233 u234 u235 u236 u237 u238 u239 u240 u241 u242 u243 u244 u245 u246 u247 u248 u249 u250 u251 u252 u253 u254 u255 u256 u257 u258 u259 u260 u261 u262 u263 u264 u265 u266 u267 u268 u269 u270 u271 u272 u273 u274 u275 W0 hX
  have HX := Lib.hid hX
  clear hX
  obtain ⟨c, hc⟩ : ∃ c, sndC (sndC (sndC (sndC (sndC (sndC (sndC (sndC (sndC (sndC (sndC (sndC (sndC (sndC (sndC (sndC (sndC bodyK)))))))))))))))) = c := ⟨_, rfl⟩
  rw [hc]
  simp only [bodyK, sndC, Tryz.f5, Option.getD] at hc
  subst hc
  have hmx : Tryz.prog.follows .mixedOrders = true := by kernel_rfl
  go_upto_region 17 with (fail)
  go_cut [33] (fun v33 wx => v33 = .int .i64 4 ∧ Hid (Below W0.heap.size W0 wx))
  case first =>
    have HD := Lib.hid HX.out.2.2.2.2.2
    have hby : Byt kTu := byt_dec (by kernel_rfl)
    have hln : kTu.length ≤ 1000000 := by unfold kTu; simp only [List.length_append, frameL_len]; decide
    have HP := Lib.hid (readck_law a31 kTu n31 c31 HD.out.1.symm (by rw [HD.out.1]; exact hln) hby W0 HD.out.2)
    clear hby hln
    go_wp2_with fail
    refine HP.out.mono ?_
    rintro r w1 ⟨⟨e, tabs, h, _⟩ | ⟨_, rfl⟩, hb⟩
    · exact absurd h (kTurn e tabs)
    have HB := Lib.hid hb
    clear hb HP
    go_wp2_with fail
    go_meet
    exact ⟨rfl, Lib.hid (step_below HB.out (bl1 _ _))⟩
  case rest =>
    obtain ⟨rfl, HBW⟩ := hcut
    rename_i hK
    refine hK _ _ ?_
    have hn' := hNext.out
    unfold Blk18 at hn'
    exact hn' a1 c1 a4 c4 a6 c6 a11 c11 b16 _ _ _ _ _ _ _ _ _ _ _ _ _ _ _ _ _ _ _ _ _ _ _ _ _ _ _ _ _ _ _ _ _ _ _ _ _ _ _ _ _ _ _ _ _ _ _ _ _ _ _ _ _ _ _ _ _ _ _ _ _ _ _ _ _ _ _ _ _ _ _ _ _ _ _ _ _ _ _ _ _ _ _ _ _ _ _ _ _ _ _ _ _ _ _ _ _ _ _ _ _ _ _ _ _ _ _ _ _ _ _ _ _ _ _ _ _ _ _ _ _ _ _ _ _ _ _ _ _ _ _ _ _ _ _ _ _ _ _ _ _ _ _ _ _ _ _ _ _ _ _ _ _ _ _ _ _ _ _ _ _ _ _ _ _ _ _ _ _ _ _ _ _ _ _ _ _ _ _ _ _ _ _ _ _ _ _ _ _ _ _ _ _ _ _ _ _ _ _ _ _ _ _ _ _ _ _ _ _ _ _ _ _ _ _ _ _ _ _ _ _ _ _ _ _ _ _ _ _ _ _ _ _ _ _ _ _ _ _ _ _ _ _ _ _ _ _ _ _ _ _ _ _ _ _ _ ⟨(step_below HX.out.1 HBW.out), (HX.out.2.1.below HBW.out), (HX.out.2.2.1.below HBW.out), (HX.out.2.2.2.1.below HBW.out), (HX.out.2.2.2.2.1.below HBW.out)⟩
end Go.Proofs.YtglkndoghnblcaaGreatDoor
namespace Go.Proofs.YtglkndoghnblcaaGreatDoor
open Go
set_option linter.unusedVariables false
set_option linter.unusedSimpArgs false
variable {P : Program} {md : Region.Mode} {ops : Array Oper} {Q : Exit → Act → World → Prop} {S : World → Prop} {z : Nat}
/-- Number z waits for number i. -/
def waitsB (md : Region.Mode) (ops : Array Oper) (z i : Nat) : Bool := match ops[z]? with | some o => o.after.toList.any fun e => Region.binds md e && e.on == i | none => false
/-- Whatever order is picked: S holds behind each operation, till number z has come up. -/
def wpAnyL (P : Program) (md : Region.Mode) (ops : Array Oper) (Q : Exit → Act → World → Prop) (S : World → Prop) (z : Nat) : Nat → Array Bool → Act → World → Prop
  | 0, listed, a, w => Region.ready md ops listed = [] ∧ Q .normal a w
  | fuel + 1, listed, a, w =>
    (Region.ready md ops listed = [] → Q .normal a w) ∧
    ∀ i ∈ Region.ready md ops listed, wpOp P ops Q i (fun a' w' => (i ≠ z → listed.getD z true = false → S w') ∧ wpAnyL P md ops Q S z fuel (listed.setIfInBounds i true) a' w') a w
theorem any_of_L : ∀ (fuel : Nat) (listed : Array Bool) (a : Act) (w : World), wpAnyL P md ops Q S z fuel listed a w → wpAny P md ops Q fuel listed a w
  | 0, _, _, _, h => h
  | fuel + 1, _, _, _, h => ⟨h.1, fun i hi => wpOp_mono (fun a' w' h' => any_of_L fuel _ a' w' h'.2) (h.2 i hi)⟩
theorem get_set {listed : Array Bool} {i z : Nat} (h : i ≠ z) (b : Bool) : (listed.setIfInBounds i b).getD z true = listed.getD z true := by
  simp only [Array.getD_eq_getD_getElem?, Array.getElem?_setIfInBounds_ne h]
theorem get_own {listed : Array Bool} {z : Nat} : (listed.setIfInBounds z true).getD z true = true := by
  by_cases h : z < listed.size
  · simp [Array.getD_eq_getD_getElem?, h]
  · simp [Array.getD_eq_getD_getElem?, Array.getElem?_eq_none (Nat.le_of_not_lt h)]
/-- Number i may be taken first: z waits for it, or it asks nothing of the world. -/
theorem L_first {i : Nat} {oi : Oper} {v : Value} {T : World → Prop} (hT : waitsB md ops z i = true ∧ T = S ∨ T = fun _ => True) (hiz : i ≠ z) (hi : ops[i]? = some oi) (hsel : ∀ (j : Nat) (o : Oper) cs b, ops[j]? = some o → o.op ≠ .select cs b)
    (hQ : ∀ c a w, Q (.panic c) (a.put oi.dst v) w → Q (.panic c) a w) :
    ∀ (fuel : Nat) (listed : Array Bool) (a : Act) (w : World),
      (∀ j oj, ops[j]? = some oj → j ≠ i → listed.getD j true = false → (∀ e ∈ oj.after, Region.binds md e = true → e.on ≠ i) → oi.apart ops oj = true) →
      i ∈ Region.ready md ops listed → YieldsIf P ops T oi v a → (waitsB md ops z i = true → T = S → listed.getD z true = false) → (listed.getD z true = false → S w) →
      wpAnyL P md ops Q S z fuel (listed.setIfInBounds i true) (a.put oi.dst v) w → wpAnyL P md ops Q S z (fuel + 1) listed a w
  | 0, listed, a, w, _, hr, hy, hzl, hS, H => by
    have hTw : T w := by
      rcases hT with ⟨h1, h2⟩ | h2
      · rw [h2]; exact hS (hzl h1 h2)
      · rw [h2]; trivial
    refine ⟨fun h => (by rw [h] at hr; cases hr), fun j hj => ?_⟩
    by_cases hji : j = i
    · subst hji
      exact hy.wpOp hi hTw ⟨fun _ => hS, H⟩
    · have := ready_mono hj hji
      rw [H.1] at this
      cases this
  | fuel + 1, listed, a, w, hfree, hr, hy, hzl, hS, H => by
    have hTw : T w := by
      rcases hT with ⟨h1, h2⟩ | h2
      · rw [h2]; exact hS (hzl h1 h2)
      · rw [h2]; trivial
    refine ⟨fun h => (by rw [h] at hr; cases hr), fun j hj => ?_⟩
    by_cases hji : j = i
    · subst hji
      exact hy.wpOp hi hTw ⟨fun _ => hS, H⟩
    have hH := H.2 j (ready_mono hj hji)
    obtain ⟨hjun, oj, hoj, hall⟩ := mem_ready.1 hj
    have hnot : ∀ e ∈ oj.after, Region.binds md e = true → e.on ≠ i := fun e he hb heq => by
      have hx := hall e he hb
      have h0 := (mem_ready.1 hr).1
      rw [heq] at hx
      rcases Nat.lt_or_ge i listed.size with h' | h'
      · simp [h'] at h0 hx; rw [h0] at hx; cases hx
      · simp [Array.getElem?_eq_none h'] at hx
    have hjz : waitsB md ops z i = true → j ≠ z := fun hw e => by
      subst e
      simp only [waitsB, hoj, List.any_eq_true, Bool.and_eq_true, Array.mem_toList_iff, beq_iff_eq] at hw
      obtain ⟨e, he, h1, h2⟩ := hw
      exact hnot e he h1 h2
    have hput := wpOp_putIf hoj (hfree j oj hoj hji hjun hnot) (fun cs b => hsel i oi cs b hi) (fun cs b => hsel j oj cs b hoj) hQ hy hH
    have hfree' : ∀ k ok, ops[k]? = some ok → k ≠ i → (listed.setIfInBounds j true).getD k true = false → (∀ e ∈ ok.after, Region.binds md e = true → e.on ≠ i) → oi.apart ops ok = true := fun k ok hk hki hun hno => by
      refine hfree k ok hk hki ?_ hno
      by_cases hjk : j = k
      · subst hjk; exact hjun
      · rw [getD_set_ne true hjk] at hun; exact hun
    refine wpOp_mono (fun a' w' h3 => ?_) hput
    have hSj : j ≠ z → listed.getD z true = false → S w' := fun h1 h2 => h3.2.1 h1 (by rw [get_set hiz]; exact h2)
    refine ⟨hSj, L_first hT hiz hi hsel hQ fuel (listed.setIfInBounds j true) a' w' hfree' (ready_mono hr (Ne.symm hji)) h3.1 (fun h1 h2 => by rw [get_set (hjz h1)]; exact hzl h1 h2) (fun h => ?_) ?_⟩
    · by_cases e : j = z
      · subst e
        rw [get_own] at h; cases h
      · rw [get_set e] at h
        exact hSj e h
    · rw [Array.setIfInBounds_comm _ _ hji]
      exact h3.2.2
theorem wpAnyL_take {i : Nat} {oi : Oper} {v : Value} {fuel : Nat} {listed : Array Bool} {a : Act} {w : World} (hz : waitsB md ops z i = true) (hiz : (i == z) = false) (hzl : listed.getD z true = false) (hi : ops[i]? = some oi)
    (hs : Region.noSelect ops = true) (hf : Region.free md ops listed i = true) (hr : (Region.ready md ops listed).contains i = true)
    (hQ : ∀ c a w, Q (.panic c) (a.put oi.dst v) w → Q (.panic c) a w) (hy : YieldsIf P ops S oi v a) (hS : S w)
    (h : wpAnyL P md ops Q S z fuel (listed.setIfInBounds i true) (a.put oi.dst v) w) : wpAnyL P md ops Q S z (fuel + 1) listed a w :=
  L_first (T := S) (Or.inl ⟨hz, rfl⟩) (by simpa using hiz) hi (Region.noSelect_spec hs) hQ fuel listed a w (Region.free_spec hi hf) (by simpa using hr) hy (fun _ _ => hzl) (fun _ => hS) h
theorem wpAnyL_done {listed : Array Bool} {a : Act} {w : World} (hr : Region.ready md ops listed = []) (h : Q .normal a w) : ∀ fuel, wpAnyL P md ops Q S z fuel listed a w
  | 0 => ⟨hr, h⟩
  | _ + 1 => ⟨fun _ => h, by rw [hr]; simp⟩
/-- Each of these comes up next. -/
def AllL (P : Program) (md : Region.Mode) (ops : Array Oper) (Q : Exit → Act → World → Prop) (S : World → Prop) (z fuel : Nat) (listed : Array Bool) (a : Act) (w : World) (rs : List Nat) : Prop :=
  ∀ i ∈ rs, wpOp P ops Q i (fun a' w' => (i ≠ z → listed.getD z true = false → S w') ∧ wpAnyL P md ops Q S z fuel (listed.setIfInBounds i true) a' w') a w
theorem AllL.nil {fuel : Nat} {listed : Array Bool} {a : Act} {w : World} : AllL P md ops Q S z fuel listed a w [] := fun _ h => by cases h
theorem AllL.cons {fuel : Nat} {listed : Array Bool} {a : Act} {w : World} {i : Nat} {o : Oper} {rs : List Nat} (ho : ops[i]? = some o)
    (h : ∀ K' : Act → World → Prop, Shut (∀ a w, S w → (S w → wpAnyL P md ops Q S z fuel (listed.setIfInBounds i true) a w) → K' a w) → if Region.wanted o (yielded ops a.tmps) = true then Oper.wp P o a w K' Q else K' (a.put o.dst undef) w)
    (hs : AllL P md ops Q S z fuel listed a w rs) : AllL P md ops Q S z fuel listed a w (i :: rs) := fun j hj => by
  rcases List.mem_cons.1 hj with rfl | hj
  · exact wpOp_step ho (fun K' hK => h K' (fun a w hS hW => hK a w ⟨fun _ _ => hS, hW hS⟩))
  · exact hs j hj
/-- The one that waits for all. -/
theorem AllL.last {fuel : Nat} {listed : Array Bool} {a : Act} {w : World} {o : Oper} (ho : ops[z]? = some o)
    (h : ∀ K' : Act → World → Prop, Shut (∀ a w, wpAnyL P md ops Q S z fuel (listed.setIfInBounds z true) a w → K' a w) → if Region.wanted o (yielded ops a.tmps) = true then Oper.wp P o a w K' Q else K' (a.put o.dst undef) w) : AllL P md ops Q S z fuel listed a w [z] := fun j hj => by
  rcases List.mem_singleton.1 hj with rfl
  exact wpOp_step ho (fun K' hK => h K' (fun a w hW => hK a w ⟨fun hne => absurd rfl hne, hW⟩))
theorem wpAnyL_ready {rs : List Nat} {fuel : Nat} {listed : Array Bool} {a : Act} {w : World} (hr : Region.ready md ops listed = rs) (hne : rs ≠ [])
    (h : AllL P md ops Q S z fuel listed a w rs) : wpAnyL P md ops Q S z (fuel + 1) listed a w := ⟨fun h0 => absurd (hr ▸ h0) hne, hr ▸ h⟩
theorem wp_region_last {id : Nat} {a : Act} {w : World} (hm : P.follows .mixedOrders = true) (hS : S w.drew)
    (h : S w.drew → wpAnyL P .any ops Q S z ops.size (Array.replicate ops.size false) a w.drew) : (Code.region id ops true).wp P Q a w :=
  wp_region_any hm (any_of_L _ _ _ _ (h hS))
end Go.Proofs.YtglkndoghnblcaaGreatDoor
namespace Go.Proofs.YtglkndoghnblcaaGreatDoor
open Go.ChangeShapes Go.WideShapes Go.ChangeAt Go.RowKit
set_option linter.unusedVariables false
set_option linter.unusedSimpArgs false
def zo (n : Nat) : Obj := .cells (madeCells #[.int .u8 0] n) 5 (0, 0)
theorem mk_run (n : Nat) (hn : n ≤ 1000000) (w : World) : (Instr.makeSlice 54 (.int .i64 (n : Int)) (.int .i64 (n : Int))).run Tryz.prog w = .ok (.slice (some ⟨w.heap.size, 0, none⟩) n n) (w.alloc (zo n)) := by
  obtain ⟨i0, hi, hz0, hz1, hz2⟩ := info_parts eltB.inf
  have hr := run_make (P := Tryz.prog) w 54 5 i0 (.int .u8 0) Tryz.underlying54 hi hz0 .i64 .i64 n n (by omega) (Int.le_refl _) (by rw [hz2]; omega) (by omega)
  simp only [Int.toNat_natCast] at hr
  rw [hr, hz1]
  simp [zo, Value.cells]
theorem zo_ls (w : World) (n : Nat) : Ls .u8 (w.alloc (zo n)) (some ⟨w.heap.size, 0, none⟩) n (List.replicate n 0) := by
  refine ls_new .u8 w (List.replicate n 0) _ _ _ ?_ n (by simp)
  apply Array.ext'
  rw [toList_madeCells_one]
  simp [iv]
theorem zo_byt (n : Nat) : Byt (List.replicate n (0 : Int)) := fun x hx => by rw [List.eq_of_mem_replicate hx]; omega
theorem step_append_wt {ops : Array Oper} {o : Oper} {a : Act} {w : World} {Kt : Act → World → Prop} {Q : Exit → Act → World → Prop} {Z : Prop} (hgd : o.guard = none) (s x : Operand) (ho : o.op = .call { callee := .builtin .append, args := #[s, x], argTypes := #[60, 60] })
    (base : Nat) (v : Value) (n : Nat) (xs : List Value) (hs : a.eval s = v) (hown : w.ownsRow base 86 3 v n xs) (ad : Addr) (c : Nat) (cs : List Value) (hx : a.eval x = .slice (some ad) 1 c) (h3 : cs.length = 1 * 3)
    (hc : ∀ (j : Nat) (u : Value), cs[j]? = some u → w.cell? (ad.add j) = some u) (h1 : ∀ u ∈ cs, u.oneCell' = true) (hb : n + 1 ≤ 1000000) (hbase : base ≤ w.heap.size)
    (h : ∀ v' w', w'.ownsRow base 86 3 v' (n + 1) (xs ++ cs) → w.grownBy w' v.ownBlock → Kt (a.put o.dst v') w') :
    if Region.wanted o (yielded ops a.tmps) = true then Oper.wp Tryz.prog o a w Kt Q else Z := by
  have hw : Region.wanted o (yielded ops a.tmps) = true := by simp [Region.wanted, hgd]
  rw [if_pos hw]
  obtain ⟨i0, hi, hz0, hz1, hz2⟩ := info_parts info51
  obtain ⟨v', w', k1, k2, k3, _⟩ := run_append_own (P := Tryz.prog) w base 60 o.type 86 i0 (.agg #[.int .i64 0, .slice none 0 0, .slice none 0 0]) 3 56 Tryz.underlying60 hi hz0 hz1 hz2 rfl (by decide) v n xs hown ad 1 c cs h3 hc h1 (by unfold maxLen; omega) (by omega) hbase
  unfold Oper.wp execOp
  simp only [ho, resolve, invoke, builtin, Sem.run_bind, Sem.run_pure, Result.andThen_ok, List.map_toArray, List.map_cons, List.map_nil, hs, hx, k1]
  exact h v' w' k2 k3
end Go.Proofs.YtglkndoghnblcaaGreatDoor
namespace Go.Proofs.YtglkndoghnblcaaGreatDoor
open Go.ChangeShapes Go.WideShapes Go.ChangeAt Go.RowKit
set_option linter.unusedVariables false
set_option linter.unusedSimpArgs false
def Far (N M g : Nat) (p : WtP) : Prop := (∀ b, p.ka = some b → N ≤ b.block ∧ b.block < M ∧ b.block ≠ g) ∧ (∀ b, p.ra = some b → N ≤ b.block ∧ b.block < M ∧ b.block ≠ g) ∧ ∀ q ∈ p.R, ∀ b, q.ad = some b → N ≤ b.block ∧ b.block < M ∧ b.block ≠ g
def LtS (w : World) (e s : Int) (st : ByteArray) (r : Ending) (w' : World) : Prop :=
  ∃ g p, r = .returned (.agg #[.int .i64 e, .int .i64 s, .slice (some ⟨g, 0, none⟩) 1 1]) ∧ w'.ownsRow w.heap.size 86 3 (.slice (some ⟨g, 0, none⟩) 1 1) 1 p.cells ∧ WtOk w' p ∧ p.tab = 0 ∧ p.key = byts st ∧ p.R.map P1.bs = [[97]] ∧ Far w.heap.size w'.heap.size g p ∧ Below w.heap.size w w'
theorem cell_gr {W W' : World} {B : Nat} {p : Addr} {v : Value} (g : W.grownBy W' (some B)) (h : W.cell? p = some v) (hne : p.block ≠ B) : W'.cell? p = some v := by
  have h1 := g.block p.block (cell_lt h) (fun e => by cases e; exact hne rfl)
  rw [← h]
  simp only [World.cell?, h1]
theorem Ls.gr {K : IntKind} {W W' : World} {B : Nat} {a : Option Addr} {cap : Nat} {L : List Int} (h : Ls K W a cap L) (g : W.grownBy W' (some B)) (hne : ∀ b, a = some b → b.block ≠ B) : Ls K W' a cap L :=
  ⟨fun k hk => by
    obtain ⟨b, off, e, hc⟩ := h.rd k hk
    exact ⟨b, off, e, cell_gr g hc (hne ⟨b, off, none⟩ e)⟩, h.nl, h.le⟩
theorem WtOk.gr {W W' : World} {B : Nat} {p : WtP} (h : WtOk W p) (g : W.grownBy W' (some B)) (h1 : ∀ b, p.ka = some b → b.block ≠ B) (h2 : ∀ b, p.ra = some b → b.block ≠ B) (h3 : ∀ q ∈ p.R, ∀ b, q.ad = some b → b.block ≠ B) : WtOk W' p :=
  ⟨h.ls.gr g h1, fun k x hx => by
    obtain ⟨b, off, e, hc, hl⟩ := h.row k x hx
    exact ⟨b, off, e, cell_gr g hc (h2 ⟨b, off, none⟩ e), hl.gr g (h3 x (List.mem_of_getElem? hx))⟩, h.kb, h.rb⟩
theorem WtOk.off {W : World} {B o : Nat} {v : Value} {p : WtP} (h : WtOk W p) (h1 : ∀ b, p.ka = some b → b.block ≠ B) (h2 : ∀ b, p.ra = some b → b.block ≠ B) (h3 : ∀ q ∈ p.R, ∀ b, q.ad = some b → b.block ≠ B) : WtOk (W.setCell ⟨B, o, none⟩ v) p := ⟨h.ls.off h1, h.row.off h2 h3, h.kb, h.rb⟩
theorem box_apart {W : World} {b n sz B : Nat} {ty t2 : TypeId} {u : Value} {xs : List Value} {cs : Array Value} (h : W.ownsRow b ty sz u n xs) (k : BoxC W B cs t2) (hne : ty ≠ t2) : u.ownBlock = none ∨ u.ownBlock ≠ some B := by
  rcases h.2 with ⟨rfl, _⟩ | ⟨g, cap, cur, rfl, _, hg, _⟩
  · exact .inl rfl
  · refine .inr fun e => ?_
    have e' : g = B := by simpa [Value.ownBlock] using e
    subst e'
    unfold BoxC at k
    rw [hg] at k
    cases k
    exact hne rfl
theorem own_lt {W : World} {b g n c sz : Nat} {ty : TypeId} {xs : List Value} (h : W.ownsRow b ty sz (.slice (some ⟨g, 0, none⟩) n c) n xs) : b ≤ g ∧ g < W.heap.size := h.lt g rfl
theorem wts_two {W : World} {b g c : Nat} {a : Option Addr} {p q : WtP} (h : W.ownsRow b 86 3 (.slice a 2 c) 2 (p.cells ++ q.cells)) (hp : WtOk W p) (hq : WtOk W q) : WtsR W a [p, q] := fun k x hx => by
  rcases h.2 with ⟨_, h0⟩ | ⟨g, cap, cur, e0, _⟩
  · cases h0
  · cases e0
    have hk : k < 2 := by have := (List.getElem?_eq_some_iff.1 hx).1; simpa using this
    match k, hk, hx with
    | 0, _, hx =>
      simp only [List.getElem?_cons_zero, Option.some.injEq] at hx
      subst hx
      exact ⟨g, 0, rfl, h.cellAt 0 (by omega), h.cellAt 1 (by omega), h.cellAt 2 (by omega), hp⟩
    | 1, _, hx =>
      simp only [List.getElem?_cons_succ, List.getElem?_cons_zero, Option.some.injEq] at hx
      subst hx
      exact ⟨g, 0, rfl, h.cellAt 3 (by omega), h.cellAt 4 (by omega), h.cellAt 5 (by omega), hq⟩
set_option maxRecDepth 100000 in
set_option maxHeartbeats 4000000 in
/-- The law's txn (48). -/
theorem ltxn_law2 (e s : Int) (st : ByteArray) (w : World) : Calls Tryz.prog 24 #[.int .i64 e, .int .i64 s, .string st] w (LtS w e s st) := by
  have kc := fun (w : World) (C : Array Value) (n c b : Nat) (hb : b = w.heap.size) => (by subst hb; exact Lib.run_convert_bytes_const w 54 5 C n c Tryz.underlying54 Tryz.underlying5 : (convert 54 54 (.slice (some ⟨b, 0, none⟩) n c)).run Tryz.prog (w.alloc (.cells C 5)) = .ok (.slice (some ⟨b, 0, none⟩) n c) (w.alloc (.cells C 5 (C.size, C.size + 1))))
  obtain ⟨W1, hW1⟩ : ∃ W1, w.alloc (.cells #[.int .i64 0, .int .i64 0, .slice none 0 0] 62) = W1 := ⟨_, rfl⟩
  have hs1 : W1.heap.size = w.heap.size + 1 := by rw [← hW1]; simp
  have bx1 : BoxC W1 w.heap.size #[.int .i64 0, .int .i64 0, .slice none 0 0] 62 := by rw [← hW1]; exact BoxC.new _ _ _
  have hb1 : Below w.heap.size w W1 := by rw [← hW1]; exact bl1 _ _
  have cs := conv_str W1 st
  obtain ⟨kq, hkq⟩ : ∃ kq, grownCap W1 st.size 0 5 = kq := ⟨_, rfl⟩
  obtain ⟨W2, hW2⟩ : ∃ W2, Lib.bytesWorld W1 5 st = W2 := ⟨_, rfl⟩
  have hls := str_ls W1 st
  have hbb := bytes_below W1 st
  rw [hkq, hW2, hs1] at hls
  rw [hkq, hW2, hs1] at cs
  rw [hW2] at hbb
  have hs2 : W2.heap.size = w.heap.size + 1 + 1 := by rw [← hW2, Lib.bytesWorld_size, hs1]
  have bx2 := bx1.below hbb
  have hb2 := step_below hb1 hbb
  have HB2 := Lib.hid hb2
  have HLS := Lib.hid hls
  have kc2 : (convert 54 54 (.slice (some ⟨w.heap.size + 1 + 1, 0, none⟩) 1 1)).run Tryz.prog (W2.alloc (.cells #[.int .u8 97] 5)) = .ok (.slice (some ⟨w.heap.size + 1 + 1, 0, none⟩) 1 1) (W2.alloc (.cells #[.int .u8 97] 5 (1, 2))) := kc W2 _ 1 1 _ hs2.symm
  obtain ⟨W3, hW3⟩ : ∃ W3, W2.alloc (.cells #[.int .u8 97] 5 (1, 2)) = W3 := ⟨_, rfl⟩
  have hs3 : W3.heap.size = w.heap.size + 1 + 1 + 1 := by rw [← hW3, World.size_alloc, hs2]
  have bx3 : BoxC W3 w.heap.size #[.int .i64 0, .int .i64 0, .slice none 0 0] 62 := by rw [← hW3]; exact bx2.alloc _
  have hb3 : Below w.heap.size w W3 := by rw [← hW3]; exact hb2.alloc hb2.size _
  have l3 : Ls .u8 W3 (some ⟨w.heap.size + 1 + 1, 0, none⟩) 1 [97] := by
    rw [← hW3, ← hs2]
    exact ls_new .u8 W2 [97] _ 5 (1, 2) rfl 1 rfl
  have q3 : Ls .u8 W3 (some ⟨w.heap.size + 1, 0, none⟩) kq (byts st) := by rw [← hW3]; exact hls.below (bl1 _ _)
  obtain ⟨W4, hW4⟩ : ∃ W4, W3.alloc (.cells #[.slice (some ⟨w.heap.size + 1 + 1, 0, none⟩) 1 1] 54) = W4 := ⟨_, rfl⟩
  have b34 : Below W3.heap.size W3 W4 := by rw [← hW4]; exact bl1 _ _
  have hs4 : W4.heap.size = w.heap.size + 1 + 1 + 1 + 1 := by rw [← hW4, World.size_alloc, hs3]
  have r4 : RdR W4 (some ⟨w.heap.size + 1 + 1 + 1, 0, none⟩) [⟨some ⟨w.heap.size + 1 + 1, 0, none⟩, 1, [97]⟩] := by
    rw [← hW4, ← hs3]
    exact rdR_new W3 _ _ 54 (0, 0) (by simp [P1.v, hs3]) (by intro p hp; simp only [List.mem_singleton] at hp; subst hp; first | exact l3 | (simp only [hs3]; exact l3))
  obtain ⟨W5, hW5⟩ : ∃ W5, W4.alloc (.cells #[.int .i64 0, .slice (some ⟨w.heap.size + 1, 0, none⟩) st.size kq, .slice (some ⟨w.heap.size + 1 + 1 + 1, 0, none⟩) 1 1] 86) = W5 := ⟨_, rfl⟩
  have b45 : Below W4.heap.size W4 W5 := by rw [← hW5]; exact bl1 _ _
  have o5 : W5.ownsRow (w.heap.size + 1) 86 3 (.slice (some ⟨w.heap.size + 1 + 1 + 1 + 1, 0, none⟩) 1 1) 1 [.int .i64 0, .slice (some ⟨w.heap.size + 1, 0, none⟩) st.size kq, .slice (some ⟨w.heap.size + 1 + 1 + 1, 0, none⟩) 1 1] := by
    rw [← hW5, ← hs4]
    exact own_new3 (base := w.heap.size + 1) (by omega) (by rfl) (by decide)
  have bx5 := (bx3.below b34).below b45
  have hb5 := step_below (step_below hb3 b34) b45
  have HF := Lib.hid (And.intro o5 (And.intro (q3.below b34 |>.below b45) (And.intro (r4.below b45) (And.intro hb5 bx5))))
  have x0 := bx5.cell 0
  have x1 := bx5.cell 1
  have x2 := bx5.cell 2
  have f0 := bx5.frozen 0
  have f1 := bx5.frozen 1
  have f2 := bx5.frozen 2
  simp only [List.getElem?_toArray, List.getElem?_cons_zero, List.getElem?_cons_succ] at x0 x1 x2
  clear bx1 hb1 hls hbb bx2 hb2 hW2 hkq hb3 bx3 l3 q3 r4 b34 b45 o5 bx5 hb5 kc
  go_enter Tryz.func24, Tryz.ntmps24
  go_wp2_with fail
  obtain ⟨o5, q5, r5, b5, bx5⟩ := HF.out
  have X9 := Lib.hid (((bx5.put 0 (.int .i64 e)).put 1 (.int .i64 s)).put 2 (.slice (some ⟨w.heap.size + 1 + 1 + 1 + 1, 0, none⟩) 1 1))
  have hbF := ((b5.setCell (p := ⟨w.heap.size, 0, none⟩) (Nat.le_refl _) (.int .i64 e)).setCell (p := ⟨w.heap.size, 1, none⟩) (Nat.le_refl _) (.int .i64 s)).setCell (p := ⟨w.heap.size, 2, none⟩) (Nat.le_refl _) (.slice (some ⟨w.heap.size + 1 + 1 + 1 + 1, 0, none⟩) 1 1)
  have oF := ((own_oth o5 (Nat.lt_succ_self w.heap.size) (oth_set _ w.heap.size 0 (.int .i64 e))))
  have oG := own_oth oF (Nat.lt_succ_self w.heap.size) (oth_set _ w.heap.size 1 (.int .i64 s))
  have oH := own_oth oG (Nat.lt_succ_self w.heap.size) (oth_set _ w.heap.size 2 (.slice (some ⟨w.heap.size + 1 + 1 + 1 + 1, 0, none⟩) 1 1))
  have n1 : ∀ b, (some (⟨w.heap.size + 1, 0, none⟩ : Addr)) = some b → b.block ≠ w.heap.size := fun b e => by cases e; simp
  have n2 : ∀ b, (some (⟨w.heap.size + 1 + 1 + 1, 0, none⟩ : Addr)) = some b → b.block ≠ w.heap.size := fun b e => by cases e; simp; omega
  have n3 : ∀ p ∈ [(⟨some ⟨w.heap.size + 1 + 1, 0, none⟩, 1, [97]⟩ : P1)], ∀ b, p.ad = some b → b.block ≠ w.heap.size := fun p hp b e => by simp only [List.mem_singleton] at hp; subst hp; cases e; simp; omega
  have qH := ((q5.off (o := 0) (v := .int .i64 e) n1).off (o := 1) (v := .int .i64 s) n1).off (o := 2) (v := .slice (some ⟨w.heap.size + 1 + 1 + 1 + 1, 0, none⟩) 1 1) n1
  have rH := ((r5.off (o := 0) (v := .int .i64 e) n2 n3).off (o := 1) (v := .int .i64 s) n2 n3).off (o := 2) (v := .slice (some ⟨w.heap.size + 1 + 1 + 1 + 1, 0, none⟩) 1 1) n2 n3
  have hsF : (((W5.setCell ⟨w.heap.size, 0, none⟩ (.int .i64 e)).setCell ⟨w.heap.size, 1, none⟩ (.int .i64 s)).setCell ⟨w.heap.size, 2, none⟩ (.slice (some ⟨w.heap.size + 1 + 1 + 1 + 1, 0, none⟩) 1 1)).heap.size = w.heap.size + 5 := by rw [show (((W5.setCell ⟨w.heap.size, 0, none⟩ (.int .i64 e)).setCell ⟨w.heap.size, 1, none⟩ (.int .i64 s)).setCell ⟨w.heap.size, 2, none⟩ (.slice (some ⟨w.heap.size + 1 + 1 + 1 + 1, 0, none⟩) 1 1)).heap.size = W5.heap.size by simp [World.setCell], ← hW5, World.size_alloc, hs4]
  refine bodyPost_ret (v := .agg #[.int .i64 e, .int .i64 s, .slice (some ⟨w.heap.size + 1 + 1 + 1 + 1, 0, none⟩) 1 1]) ?_ rfl ⟨_, ⟨0, some ⟨w.heap.size + 1, 0, none⟩, kq, byts st, some ⟨w.heap.size + 1 + 1 + 1, 0, none⟩, 1, [⟨some ⟨w.heap.size + 1 + 1, 0, none⟩, 1, [97]⟩]⟩, rfl, ?_, ⟨qH, rH, byts_byt _, fun p hp => (by simp only [List.mem_singleton] at hp; subst hp; intro x hx; simp only [List.mem_singleton] at hx; omega)⟩, rfl, rfl, rfl, ⟨fun b e => (by cases e; rw [hsF]; simp <;> omega), fun b e => (by cases e; rw [hsF]; simp <;> omega), fun q hq b e => (by simp only [List.mem_singleton] at hq; subst hq; cases e; rw [hsF]; simp <;> omega)⟩, hbF⟩
  · have x0 := X9.out.cell 0
    have x1 := X9.out.cell 1
    have x2 := X9.out.cell 2
    simp at x0 x1 x2
    simp [results, Tryz.results24, go_sem, x0, x1, x2]
  · have := own_base (b := w.heap.size) (Nat.le_succ _) oH
    simp only [WtP.cells, byts_len]
    exact this
end Go.Proofs.YtglkndoghnblcaaGreatDoor
namespace Go.Proofs.YtglkndoghnblcaaGreatDoor
open Go.ChangeShapes Go.WideShapes Go.ChangeAt Go.RowKit
set_option linter.unusedVariables false
set_option linter.unusedSimpArgs false
set_option maxRecDepth 100000 in
set_option maxHeartbeats 2000000 in
theorem kw18 (w : World) (hNext : Blk23 w) : Blk18 w := by
  replace hNext := Lib.hid hNext
  intro a1 c1 a4 c4 a6 c6 a11 c11 b16 u9 u10 u14 u18 u20 u22 u24 u26 u27 u29 u30 u31 u32 u34 u35 u36 u37 u38 u39 u40 u41 u42 u43 u44 u45 u46 u47 u48 u49 u50 u51 u52 u53 u54 u55 u56 u57 u58 u59 u60 u61 u62 u63 u64 u65 u66 u67 u68 u69 u70 u71 u72 u73 u74 u75 u76 u77 u78 u79 u80 u81 u82 u83 u84 u85 u86 u87 u88 u89 u90 u91 u92 u93 u94 u95 u96 u97 u98 u99 u100 u101 u102 u103 u104 u105 u106 u107 u108 u109 u110 u111 u112 u113 u114 u115 u116 u117 u118 u119 u120 u121 u122 u123 u124 u125 u126 u127 u128 u129 u130 u131 u132 u133 u134 u135 u136 u137 u138 u139 u140 u141 u142 u143 u144 u145 u146 u147 u148 u149 u150 u151 u152 u153 u154 u155 u156 u157 u158 u159 u160 u161 u162 u163 u164 u165 u166 u167 u168 u169 u170 u171 u172 u173 u174 u175 u176 u177 u178 u179 u180 u181 u182 u183 u184 u185 u186 u187 u188 u189 u190 u191 u192 u193 u194 u195 u196 u197 u198 u199 u200 u201 u202 u203 u204 u205 u206 u207 u208 u209 u210 u211 u212 u213 u214 u215 u216 u217 u218 u219 u220 u221 u222 u223 u224 u225 u226 u227 u228 u229 u230 u231 u232 u233 u234 u235 u236 u237 u238 u239 u240 u241 u242 u243 u244 u245 u246 u247 u248 u249 u250 u251 u252 u253 u254 u255 u256 u257 u258 u259 u260 u261 u262 u263 u264 u265 u266 u267 u268 u269 u270 u271 u272 u273 u274 u275 W0 hX
  have HX := Lib.hid hX
  clear hX
  obtain ⟨c, hc⟩ : ∃ c, sndC (sndC (sndC (sndC (sndC (sndC (sndC (sndC (sndC (sndC (sndC (sndC (sndC (sndC (sndC (sndC (sndC (sndC bodyK))))))))))))))))) = c := ⟨_, rfl⟩
  rw [hc]
  simp only [bodyK, sndC, Tryz.f5, Option.getD] at hc
  subst hc
  have hmx : Tryz.prog.follows .mixedOrders = true := by kernel_rfl
  have k97 : ∀ W : World, (Instr.makeSlice 54 (.int .i64 4097) (.int .i64 4097)).run Tryz.prog W = .ok (.slice (some ⟨W.heap.size, 0, none⟩) 4097 4097) (W.alloc (zo 4097)) := fun W => mk_run 4097 (by omega) W
  have k96 : ∀ W : World, (Instr.makeSlice 54 (.int .i64 4096) (.int .i64 4096)).run Tryz.prog W = .ok (.slice (some ⟨W.heap.size, 0, none⟩) 4096 4096) (W.alloc (zo 4096)) := fun W => mk_run 4096 (by omega) W
  go_wp2_with fail
  refine (num_law 2 _).mono ?_; rintro r w1 ⟨rfl, rfl⟩
  go_wp2_with fail
  refine (num_law 2 _).mono ?_; rintro r w1 ⟨rfl, rfl⟩
  go_wp2_with fail
  refine (num_law 4 _).mono ?_; rintro r w1 ⟨rfl, rfl⟩
  go_wp2_with fail
  obtain ⟨WP0, rfl⟩ : ∃ W, W = W0 := ⟨_, rfl⟩
  have HBP0 := Lib.hid (Below.refl WP0.heap.size WP0)
  refine (rframe_own (some ⟨WP0.heap.size, 0, none⟩) (List.replicate 4097 0) 4097 4097 (by simp) (by omega) (zo_byt 4097) _ (zo_ls WP0 4097)).mono ?_
  rintro r w0 ⟨a', c', rfl, _, hl, hb⟩
  have HB0 := Lib.hid (step_below (HBP0.out.alloc HBP0.out.size (zo 4097)) hb)
  have hfl := frameL_len (List.replicate 4097 (0 : Int))
  rw [List.length_replicate] at hfl
  have HW := Lib.hid (whole_law a' (frameL (List.replicate 4097 0)) (frameL (List.replicate 4097 0)).length c' rfl (by omega) (frameL_byt (zo_byt 4097)) w0 hl.ls)
  rw [kBig (by simp)] at HW
  obtain ⟨fz, hfz⟩ : ∃ fz, (frameL (List.replicate 4097 (0 : Int))).length = fz := ⟨_, rfl⟩
  rw [hfz] at HW ⊢
  clear hl hb hfl hfz
  go_wp2_with fail
  refine HW.out.mono ?_
  rintro r WP1 ⟨rfl, hb⟩
  have HBP1 := Lib.hid (step_below HB0.out hb)
  clear hb HW HB0 HBP0
  go_wp2_with fail
  refine (rframe_own (some ⟨WP1.heap.size, 0, none⟩) (List.replicate 4096 0) 4096 4096 (by simp) (by omega) (zo_byt 4096) _ (zo_ls WP1 4096)).mono ?_
  rintro r w1 ⟨a', c', rfl, _, hl, hb⟩
  have HB1 := Lib.hid (step_below (HBP1.out.alloc HBP1.out.size (zo 4096)) hb)
  have hfl := frameL_len (List.replicate 4096 (0 : Int))
  rw [List.length_replicate] at hfl
  have HW := Lib.hid (whole_law a' (frameL (List.replicate 4096 0)) (frameL (List.replicate 4096 0)).length c' rfl (by omega) (frameL_byt (zo_byt 4096)) w1 hl.ls)
  rw [kFit (zo_byt 4096) (by simp)] at HW
  obtain ⟨fz, hfz⟩ : ∃ fz, (frameL (List.replicate 4096 (0 : Int))).length = fz := ⟨_, rfl⟩
  rw [hfz] at HW ⊢
  clear hl hb hfl hfz
  go_wp2_with fail
  refine HW.out.mono ?_
  rintro r WP2 ⟨rfl, hb⟩
  have HBP2 := Lib.hid (step_below HB1.out hb)
  clear hb HW HB1 HBP1
  obtain ⟨WS, rfl⟩ : ∃ W, W = WP2 := ⟨_, rfl⟩
  obtain ⟨W0, rfl⟩ : ∃ W, W = WP0 := ⟨_, rfl⟩
  have HWP := HBP2
  clear k97 k96
  go_wp2_with fail
  refine (ltxn_law2 1 1 { data := #[98] } _).mono ?_
  rintro r w5 ⟨g1, p1, rfl, ho1, hok1, h10, h11, h12, hf1, hb1⟩
  have HP1 := Lib.hid (And.intro h10 (And.intro h11 h12))
  have hgl := (own_lt ho1).2
  go_wp2_with fail
  obtain ⟨W2, hW2⟩ : ∃ W2, w5.alloc (.cells #[.int .i64 1, .int .i64 1, .slice (some ⟨g1, 0, none⟩) 1 1] 62) = W2 := ⟨_, rfl⟩
  obtain ⟨b34, hb34⟩ : ∃ b, w5.heap.size = b := ⟨_, rfl⟩
  have bx : BoxC W2 b34 #[.int .i64 1, .int .i64 1, .slice (some ⟨g1, 0, none⟩) 1 1] 62 := by rw [← hW2, ← hb34]; exact BoxC.new _ _ _
  have hb2 : Below w5.heap.size w5 W2 := by rw [← hW2]; exact bl1 _ _
  have HBS := Lib.hid (step_below hb1 hb2)
  have HBX := Lib.hid bx
  have HO1 := Lib.hid ((own_below ho1 hb2).drew)
  have HK1 := Lib.hid ((hok1.below hb2).below (Below.refl _ _).drew)
  have HNE := Lib.hid (show ¬ b34 = g1 by omega)
  have HWS := Lib.hid (show WS.heap.size ≤ b34 by rw [← hb34]; exact hb1.size)
  have HF1 := Lib.hid (show (∀ b, p1.ka = some b → b.block ≠ g1 ∧ b.block ≠ b34) ∧ (∀ b, p1.ra = some b → b.block ≠ g1 ∧ b.block ≠ b34) ∧ (∀ q ∈ p1.R, ∀ b, q.ad = some b → b.block ≠ g1 ∧ b.block ≠ b34) from ⟨fun b e => by have := hf1.1 b e; omega, fun b e => by have := hf1.2.1 b e; omega, fun q hq b e => by have := hf1.2.2 q hq b e; omega⟩)
  rw [hW2, hb34]
  clear hW2 hb34 bx hb2 ho1 hok1 h10 h11 h12 hf1 hb1 hgl
  rename_i KK hKK
  refine Code.wp_mono (Q := Exit.then KK (fun _ _ _ => False)) (fun e a' w' h => by cases e <;> first | exact h | exact h.elim) ?_
  refine wp_region_last (z := 9) (S := (fun X => Below WS.heap.size WS X ∧ BoxC X b34 #[.int .i64 1, .int .i64 1, .slice (some ⟨g1, 0, none⟩) 1 1] 62)) (by kernel_rfl) (⟨HBS.out.drew, HBX.out.below (Below.refl _ _).drew⟩) (fun hHeld => ?_)
  refine wpAnyL_take (i := 0) (oi := { dst := some 178, op := Op.fieldAddr 62 (Operand.tmp 34) 1, type := 0, pos := "law.go:44", after := #[], guard := none }) (v := ?_) (by kernel_rfl) rfl (by kernel_rfl) rfl (by kernel_rfl) (by kernel_rfl) (by kernel_rfl) (fun _ _ _ h => h) (Or.inl ⟨by rfl, ?_⟩) (by assumption) ?_
  rotate_left
  · intro W hSw; go_simp; try with_reducible rfl
  try simp only [Act.put, List.setIfInBounds_toArray, List.set_cons_zero, List.set_cons_succ]
  refine wpAnyL_take (i := 1) (oi := { dst := some 179, op := Op.load 60 (Operand.tmp 178), type := 60, pos := "law.go:44", after := #[{ on := 0, ground := Ground.data }], guard := none }) (v := ?_) (by kernel_rfl) rfl (by kernel_rfl) rfl (by kernel_rfl) (by kernel_rfl) (by kernel_rfl) (fun _ _ _ h => h) (Or.inl ⟨by rfl, ?_⟩) (by assumption) ?_
  rotate_left
  · intro W hSw; have x2 := hSw.2.cell 2; simp only [List.getElem?_toArray, List.getElem?_cons_zero, List.getElem?_cons_succ] at x2; go_simp; try with_reducible rfl
  try simp only [Act.put, List.setIfInBounds_toArray, List.set_cons_zero, List.set_cons_succ]
  refine wpAnyL_ready (rs := [2]) (by kernel_rfl) (by simp) ?_
  refine AllL.cons (o := { dst := some 180, op := Op.call { callee := Callee.value (Operand.func 24), args := #[Operand.const (Value.int IntKind.i64 1), Operand.const (Value.int IntKind.i64 1), Operand.const (Value.string { data := #[97] })], argTypes := #[2, 2, 9] }, type := 62, pos := "law.go:44", after := #[], guard := none }) rfl (fun K hK => ?_) AllL.nil
  go_simp
  refine (ltxn_law2 1 1 { data := #[97] } _).mono ?_; rintro e9 w3 ⟨g2, p2, rfl, ho2, hok2, h20, h21, h22, hf2, hb2⟩
  have hfld : ∀ W : World, (Instr.field 62 (.agg #[.int .i64 1, .int .i64 1, .slice (some ⟨g2, 0, none⟩) 1 1]) 1).run Tryz.prog W = .ok (.slice (some ⟨g2, 0, none⟩) 1 1) W := fun _ => by kernel_rfl
  have hg1 := (own_lt HO1.out).2
  have hb34 := hHeld.2.lt
  have HP2 := Lib.hid (And.intro ho2 (And.intro hok2 (And.intro h20 (And.intro h21 h22))))
  have HF2 := Lib.hid (show (∀ b, p2.ka = some b → b.block ≠ g1 ∧ b.block ≠ b34) ∧ (∀ b, p2.ra = some b → b.block ≠ g1 ∧ b.block ≠ b34) ∧ (∀ q ∈ p2.R, ∀ b, q.ad = some b → b.block ≠ g1 ∧ b.block ≠ b34) from ⟨fun b e => by have := (hf2.1 b e).1; omega, fun b e => by have := (hf2.2.1 b e).1; omega, fun q hq b e => by have := (hf2.2.2 q hq b e).1; omega⟩)
  have HO2 := Lib.hid (own_below HO1.out hb2)
  have HK2 := Lib.hid (HK1.out.below hb2)
  go_wp2_with fail
  refine hK.out _ _ (⟨step_below hHeld.1 hb2, hHeld.2.below hb2⟩) (fun hHeldn => ?_)
  clear hK K hHeld ho2 hok2 h20 h21 h22 hf2 hb2 hg1 hb34; have hHeld := hHeldn; clear hHeldn
  try simp only [Act.put, List.setIfInBounds_toArray, List.set_cons_zero, List.set_cons_succ]
  refine wpAnyL_take (i := 3) (oi := { dst := some 181, op := Op.field 62 (Operand.tmp 180) 1, type := 60, pos := "law.go:44", after := #[{ on := 2, ground := Ground.data }], guard := none }) (v := ?_) (by kernel_rfl) rfl (by kernel_rfl) rfl (by kernel_rfl) (by kernel_rfl) (by kernel_rfl) (fun _ _ _ h => h) (Or.inl ⟨by rfl, ?_⟩) (by assumption) ?_
  rotate_left
  · intro W hSw; go_simp; try with_reducible rfl
  try simp only [Act.put, List.setIfInBounds_toArray, List.set_cons_zero, List.set_cons_succ]
  refine wpAnyL_take (i := 4) (oi := { dst := some 182, op := Op.indexAddr 60 (Operand.tmp 181) (Operand.const (Value.int IntKind.i64 0)), type := 0, pos := "law.go:44", after := #[{ on := 3, ground := Ground.data }], guard := none }) (v := ?_) (by kernel_rfl) rfl (by kernel_rfl) rfl (by kernel_rfl) (by kernel_rfl) (by kernel_rfl) (fun _ _ _ h => h) (Or.inl ⟨by rfl, ?_⟩) (by assumption) ?_
  rotate_left
  · intro W hSw; go_simp; try with_reducible rfl
  try simp only [Act.put, List.setIfInBounds_toArray, List.set_cons_zero, List.set_cons_succ]
  refine wpAnyL_ready (rs := [5]) (by kernel_rfl) (by simp) ?_
  refine AllL.cons (o := { dst := some 183, op := Op.load 86 (Operand.tmp 182), type := 86, pos := "law.go:44", after := #[{ on := 4, ground := Ground.data }], guard := none }) rfl (fun K hK => ?_) AllL.nil
  have y0 : w3.cell? ⟨g2, 0, none⟩ = some (.int .i64 p2.tab) := HP2.out.1.cellAt 0 (by omega)
  have y1 : w3.cell? ⟨g2, 1, none⟩ = some (.slice p2.ka p2.key.length p2.kc) := HP2.out.1.cellAt 1 (by omega)
  have y2 : w3.cell? ⟨g2, 2, none⟩ = some (.slice p2.ra p2.R.length p2.rc) := HP2.out.1.cellAt 2 (by omega)
  go_simp
  refine hK.out _ _ (hHeld) (fun hHeldn => ?_)
  clear hK K hHeld; have hHeld := hHeldn; clear hHeldn
  clear y0 y1 y2
  try simp only [Act.put, List.setIfInBounds_toArray, List.set_cons_zero, List.set_cons_succ]
  refine wpAnyL_ready (rs := [6]) (by kernel_rfl) (by simp) ?_
  refine AllL.cons (o := { dst := some 184, op := Op.buildSlice 60 1 #[(0, Operand.tmp 183)], type := 60, pos := "law.go:44", after := #[{ on := 5, ground := Ground.data }], guard := none }) rfl (fun K hK => ?_) AllL.nil
  go_simp
  refine hK.out _ _ (⟨hHeld.1.alloc hHeld.1.size _, hHeld.2.alloc _⟩) (fun hHeldn => ?_)
  clear hK K hHeld; have hHeld := hHeldn; clear hHeldn
  try simp only [Act.put, List.setIfInBounds_toArray, List.set_cons_zero, List.set_cons_succ]
  refine wpAnyL_ready (rs := [7]) (by kernel_rfl) (by simp) ?_
  refine AllL.cons (o := { dst := some 185, op := Op.call { callee := Callee.builtin Builtin.append, args := #[Operand.tmp 179, Operand.tmp 184], argTypes := #[60, 60] }, type := 60, pos := "law.go:44", after := #[{ on := 1, ground := Ground.data }, { on := 6, ground := Ground.data }, { on := 2, ground := Ground.chain }], guard := none }) rfl (fun K hK => ?_) AllL.nil
  have bq := BoxC.new w3 #[.int .i64 p2.tab, .slice p2.ka p2.key.length p2.kc, .slice p2.ra p2.R.length p2.rc] 86
  have hok2 := HP2.out.2.1.below (bl1 w3 (.cells #[.int .i64 p2.tab, .slice p2.ka p2.key.length p2.kc, .slice p2.ra p2.R.length p2.rc] 86))
  have hok1 := HK2.out.below (bl1 w3 (.cells #[.int .i64 p2.tab, .slice p2.ka p2.key.length p2.kc, .slice p2.ra p2.R.length p2.rc] 86))
  have hown1 := HO2.out.alloc (.cells #[.int .i64 p2.tab, .slice p2.ka p2.key.length p2.kc, .slice p2.ra p2.R.length p2.rc] 86)
  refine step_append_wt rfl _ _ rfl WS.heap.size (.slice (some ⟨g1, 0, none⟩) 1 1) 1 p1.cells rfl hown1 ⟨w3.heap.size, 0, none⟩ 1 p2.cells rfl rfl (fun j u hj => by match j, hj with | 0, hj => (simp [WtP.cells] at hj; subst hj; simp [Addr.add]) | 1, hj => (simp [WtP.cells] at hj; subst hj; simp [Addr.add]) | 2, hj => (simp [WtP.cells] at hj; subst hj; simp [Addr.add]) | j + 3, hj => simp [WtP.cells] at hj) (by intro u hu; simp [WtP.cells] at hu; rcases hu with rfl | rfl | rfl <;> rfl) (by omega) hHeld.1.size ?_
  intro v9 w9 hown9 hgrow9
  obtain ⟨a9, c9, e9⟩ := own_form hown9
  subst e9
  have HBB := Lib.hid (hHeld.1.grown hgrow9 hHeld.1.size (fun j hj => (hown1.lt j hj).1))
  have HBX9 := Lib.hid (hHeld.2.kept hgrow9 (fun e => HNE.out (by simpa [Value.ownBlock] using e)))
  have HO9 := Lib.hid hown9
  have HK19 := Lib.hid (hok1.gr hgrow9 (fun b e => (HF1.out.1 b e).1) (fun b e => (HF1.out.2.1 b e).1) (fun q hq b e => (HF1.out.2.2 q hq b e).1))
  have HK29 := Lib.hid (hok2.gr hgrow9 (fun b e => (HF2.out.1 b e).1) (fun b e => (HF2.out.2.1 b e).1) (fun q hq b e => (HF2.out.2.2 q hq b e).1))
  clear bq hok1 hok2 hown1 hown9 hgrow9
  refine hK.out _ _ (⟨HBB.out, HBX9.out⟩) (fun hHeldn => ?_)
  clear hK K hHeld; have hHeld := hHeldn; clear hHeldn
  try simp only [Act.put, List.setIfInBounds_toArray, List.set_cons_zero, List.set_cons_succ]
  refine wpAnyL_take (i := 8) (oi := { dst := some 186, op := Op.fieldAddr 62 (Operand.tmp 34) 1, type := 0, pos := "law.go:44", after := #[{ on := 0, ground := Ground.phase }, { on := 1, ground := Ground.phase }, { on := 2, ground := Ground.phase }, { on := 3, ground := Ground.phase }, { on := 4, ground := Ground.phase }, { on := 5, ground := Ground.phase }, { on := 6, ground := Ground.phase }, { on := 7, ground := Ground.phase }], guard := none }) (v := ?_) (by kernel_rfl) rfl (by kernel_rfl) rfl (by kernel_rfl) (by kernel_rfl) (by kernel_rfl) (fun _ _ _ h => h) (Or.inl ⟨by rfl, ?_⟩) (by assumption) ?_
  rotate_left
  · intro W hSw; go_simp; try with_reducible rfl
  try simp only [Act.put, List.setIfInBounds_toArray, List.set_cons_zero, List.set_cons_succ]
  refine wpAnyL_ready (rs := [9]) (by kernel_rfl) (by simp) ?_
  refine AllL.last (o := { dst := none, op := Op.store 60 (Operand.tmp 186) (Operand.tmp 185), type := 0, pos := "law.go:44", after := #[{ on := 8, ground := Ground.data }, { on := 7, ground := Ground.data }, { on := 7, ground := Ground.chain }, { on := 0, ground := Ground.phase }, { on := 1, ground := Ground.phase }, { on := 2, ground := Ground.phase }, { on := 3, ground := Ground.phase }, { on := 4, ground := Ground.phase }, { on := 5, ground := Ground.phase }, { on := 6, ground := Ground.phase }, { on := 7, ground := Ground.phase }], guard := none }) rfl (fun K hK => ?_)
  have x2 := hHeld.2.cell 2
  have f2 := hHeld.2.frozen 2
  simp only [List.getElem?_toArray, List.getElem?_cons_zero, List.getElem?_cons_succ] at x2
  go_simp
  refine hK.out _ _ ?_
  clear hK K
  try simp only [Act.put, List.setIfInBounds_toArray, List.set_cons_zero, List.set_cons_succ]
  refine wpAnyL_done (by kernel_rfl) ?_ _
  refine hKK _ _ ?_
  have HB9 := Lib.hid (HBB.out.setCell (p := ⟨b34, 2, none⟩) HWS.out (.slice a9 2 c9))
  have HX9 := Lib.hid (HBX9.out.put 2 (.slice a9 2 c9))
  have hoF := HO9.out.kept (oth_set w9 b34 2 (.slice a9 2 c9)) (box_apart HO9.out HBX9.out (by decide))
  have HWT := Lib.hid (wts_two (g := 0) (c := c9) hoF (HK19.out.off (fun b e => (HF1.out.1 b e).2) (fun b e => (HF1.out.2.1 b e).2) (fun q hq b e => (HF1.out.2.2 q hq b e).2)) (HK29.out.off (fun b e => (HF2.out.1 b e).2) (fun b e => (HF2.out.2.1 b e).2) (fun q hq b e => (HF2.out.2.2 q hq b e).2)))
  clear hoF HO9 HK19 HK29 HBX9 HBB hKK hHeld x2 f2
  generalize w9.setCell ⟨b34, 2, none⟩ (.slice a9 2 c9) = W9 at *
  have q0 := HX9.out.cell 0
  have q1 := HX9.out.cell 1
  have q2 := HX9.out.cell 2
  simp at q0 q1 q2
  have HPT := Lib.hid (puttx_bad 1 1 a9 [p1, p2] 2 c9 rfl (by omega) (fun x hx => by simp only [List.mem_cons, List.not_mem_nil, or_false] at hx; rcases hx with rfl | rfl; exact r1_small HP1.out.2.2; exact r1_small HP2.out.2.2.2.2) (two_bad p1 p2 HP1.out.1 (by rw [HP1.out.2.1]; rfl) HP1.out.2.2 HP2.out.2.2.1 (by rw [HP2.out.2.2.2.1]; rfl) HP2.out.2.2.2.2) W9 HWT.out)
  go_upto_region 22 with (fail)
  go_cut [36] (fun v wx => v = .int .i64 2 ∧ Hid (Below W0.heap.size W0 wx))
  case first =>
    go_wp2_with fail
    refine HPT.out.mono ?_
    rintro r wz ⟨rfl, hbz⟩
    have HBZ := Lib.hid (step_below (step_below HWP.out HB9.out) hbz)
    clear hbz q0 q1 q2
    go_wp2_with fail
    go_meet
    exact ⟨rfl, HBZ⟩
  case rest =>
    obtain ⟨rfl, HBW⟩ := hcut
    rename_i hK
    refine hK _ _ ?_
    have hn' := hNext.out
    unfold Blk23 at hn'
    exact hn' a1 c1 a4 c4 a6 c6 a11 c11 b16 _ _ _ _ _ _ _ _ _ _ _ _ _ _ _ _ _ _ _ _ _ _ _ _ _ _ _ _ _ _ _ _ _ _ _ _ _ _ _ _ _ _ _ _ _ _ _ _ _ _ _ _ _ _ _ _ _ _ _ _ _ _ _ _ _ _ _ _ _ _ _ _ _ _ _ _ _ _ _ _ _ _ _ _ _ _ _ _ _ _ _ _ _ _ _ _ _ _ _ _ _ _ _ _ _ _ _ _ _ _ _ _ _ _ _ _ _ _ _ _ _ _ _ _ _ _ _ _ _ _ _ _ _ _ _ _ _ _ _ _ _ _ _ _ _ _ _ _ _ _ _ _ _ _ _ _ _ _ _ _ _ _ _ _ _ _ _ _ _ _ _ _ _ _ _ _ _ _ _ _ _ _ _ _ _ _ _ _ _ _ _ _ _ _ _ _ _ _ _ _ _ _ _ _ _ _ _ _ _ _ _ _ _ _ _ _ _ _ _ _ _ _ _ _ _ _ _ _ _ _ _ _ _ _ _ _ _ _ _ _ _ _ _ _ _ _ _ _ _ _ _ _ _ _ _ ⟨step_below HX.out.1 HBW.out, (HX.out.2.1.below HBW.out), (HX.out.2.2.1.below HBW.out), (HX.out.2.2.2.1.below HBW.out), (HX.out.2.2.2.2.below HBW.out)⟩
end Go.Proofs.YtglkndoghnblcaaGreatDoor
namespace Go.Proofs.YtglkndoghnblcaaGreatDoor
open Go.ChangeShapes Go.WideShapes Go.ChangeAt Go.RowKit
set_option linter.unusedVariables false
set_option linter.unusedSimpArgs false
set_option maxRecDepth 100000 in
set_option maxHeartbeats 2000000 in
theorem kw23 (w : World) : Blk23 w := by
  intro a1 c1 a4 c4 a6 c6 a11 c11 b16 u9 u10 u14 u18 u20 u22 u24 u26 u27 u29 u30 u31 u32 u34 u35 u37 u38 u39 u40 u41 u42 u43 u44 u45 u46 u47 u48 u49 u50 u51 u52 u53 u54 u55 u56 u57 u58 u59 u60 u61 u62 u63 u64 u65 u66 u67 u68 u69 u70 u71 u72 u73 u74 u75 u76 u77 u78 u79 u80 u81 u82 u83 u84 u85 u86 u87 u88 u89 u90 u91 u92 u93 u94 u95 u96 u97 u98 u99 u100 u101 u102 u103 u104 u105 u106 u107 u108 u109 u110 u111 u112 u113 u114 u115 u116 u117 u118 u119 u120 u121 u122 u123 u124 u125 u126 u127 u128 u129 u130 u131 u132 u133 u134 u135 u136 u137 u138 u139 u140 u141 u142 u143 u144 u145 u146 u147 u148 u149 u150 u151 u152 u153 u154 u155 u156 u157 u158 u159 u160 u161 u162 u163 u164 u165 u166 u167 u168 u169 u170 u171 u172 u173 u174 u175 u176 u177 u178 u179 u180 u181 u182 u183 u184 u185 u186 u187 u188 u189 u190 u191 u192 u193 u194 u195 u196 u197 u198 u199 u200 u201 u202 u203 u204 u205 u206 u207 u208 u209 u210 u211 u212 u213 u214 u215 u216 u217 u218 u219 u220 u221 u222 u223 u224 u225 u226 u227 u228 u229 u230 u231 u232 u233 u234 u235 u236 u237 u238 u239 u240 u241 u242 u243 u244 u245 u246 u247 u248 u249 u250 u251 u252 u253 u254 u255 u256 u257 u258 u259 u260 u261 u262 u263 u264 u265 u266 u267 u268 u269 u270 u271 u272 u273 u274 u275 W0 hX
  have HX := Lib.hid hX
  clear hX
  obtain ⟨c, hc⟩ : ∃ c, sndC (sndC (sndC (sndC (sndC (sndC (sndC (sndC (sndC (sndC (sndC (sndC (sndC (sndC (sndC (sndC (sndC (sndC (sndC (sndC (sndC (sndC bodyK))))))))))))))))))))) = c := ⟨_, rfl⟩
  rw [hc]
  simp only [bodyK, sndC, Tryz.f5, Option.getD] at hc
  subst hc
  have hmx : Tryz.prog.follows .mixedOrders = true := by kernel_rfl
  have HD := Lib.hid HX.out.2.1
  have HQ := Lib.hid HX.out.2.2.2.1
  have HG := Lib.hid HX.out.2.2.2.2
  have hl9 : (frameL [97]).length = 9 := by rw [frameL_len]; rfl
  obtain ⟨bb, off, rfl, x3⟩ := HD.out.get 3 (by omega)
  obtain ⟨_, _, hh, x7⟩ := HD.out.get 7 (by omega)
  cases hh
  obtain ⟨m, hm⟩ : ∃ m : Nat, crcV [97] % 256 = m := ⟨_, rfl⟩
  rw [show (frameL [97]).getD 3 0 = 1 by kernel_rfl] at x3
  rw [show (frameL [97]).getD 7 0 = ((crcV [97] % 256 : Nat) : Int) by kernel_rfl, hm] at x7
  obtain ⟨cv, hcv⟩ : ∃ cv, crcV [97] = cv := ⟨_, rfl⟩
  rw [hcv] at hm ⊢
  have hw7 : IntKind.u8.wrap (cv : Int) = (m : Int) := by rw [IntKind.wrap_u8]; omega
  have hw0 : IntKind.i64.wrap 0 = 0 := by rw [IntKind.wrap_i64] <;> omega
  have e7 : ((m : Int) == (m : Int)) = true := by simp
  clear hm hcv hl9
  go_wp2_with fail
  refine (num_law 0 _).mono ?_; rintro r wq ⟨rfl, rfl⟩
  go_wp2_with fail
  refine (num_law 0 _).mono ?_; rintro r wq ⟨rfl, rfl⟩
  go_wp2_with fail
  refine (num_law 0 _).mono ?_; rintro r wq ⟨rfl, rfl⟩
  go_wp2_with fail
  refine (num_law 0 _).mono ?_; rintro r wq ⟨rfl, rfl⟩
  go_wp2_with fail
  refine (ltxn_law 1 2 { data := #[107] } _).mono ?_
  rintro r w1 ⟨g, p, rfl, ho, hok, h0, h1, h2, hb⟩
  obtain ⟨q, hq1, hq2, hq3⟩ := HQ.out
  obtain ⟨W2, hW2⟩ : ∃ W2, w1.alloc (.cells #[.int .i64 1, .int .i64 2, .slice (some ⟨g, 0, none⟩) 1 1] 62) = W2 := ⟨_, rfl⟩
  have hb2 : Below w1.heap.size w1 W2 := by rw [← hW2]; exact bl1 _ _
  have hB2 := step_below hb hb2
  have bx2 : BoxC W2 w1.heap.size #[.int .i64 1, .int .i64 2, .slice (some ⟨g, 0, none⟩) 1 1] 62 := by rw [← hW2]; exact BoxC.new _ _ _
  have ht : TxqR W2 (some ⟨w1.heap.size, 0, none⟩) [⟨1, 2, some ⟨g, 0, none⟩, 1, [p]⟩] := fun k x hx => by
    have hk : k = 0 := by have := (List.getElem?_eq_some_iff.1 hx).1; simpa using this
    subst hk
    simp only [List.getElem?_cons_zero, Option.some.injEq] at hx
    subst hx
    exact ⟨_, 0, rfl, bx2.cell 0, bx2.cell 1, bx2.cell 2, (wts_of ho hok).below hb2⟩
  have hST := stxns_law a6 (some ⟨w1.heap.size, 0, none⟩) [q] [⟨1, 2, some ⟨g, 0, none⟩, 1, [p]⟩] 1 1 c6 1 rfl rfl (by omega) (by omega) (fun x hx => by simp only [List.mem_singleton] at hx; subst hx; exact hq2) (fun x hx => by simp only [List.mem_singleton] at hx; subst hx; exact ⟨by simp, fun y hy => by simp only [List.mem_singleton] at hy; subst hy; exact r1_small h2⟩) W2 (hq1.below hB2) ht
  have hdd : decide ([q].map txC = [(⟨1, 2, some ⟨g, 0, none⟩, 1, [p]⟩ : TxQ)].map txC) = true := by
    refine decide_eq_true ?_
    simp only [List.map_cons, List.map_nil, hq3]
    unfold txC wtC kTc
    simp only [List.map_cons, List.map_nil, h0, h1, h2]
    rfl
  rw [hdd] at hST
  have HST := Lib.hid hST
  have HB2 := Lib.hid hB2
  clear ho hok h0 h1 h2 hb hq1 hq2 hq3 hb2 hB2 bx2 ht hST hdd
  go_wp2_with fail
  refine HST.out.mono ?_
  rintro r w3 ⟨rfl, hb3⟩
  have HB3 := Lib.hid (step_below HB2.out hb3)
  have x16 : w3.cell? ⟨b16, 0, none⟩ = some (.int .i64 1) := HG.out.below HB3.out
  clear hb3 HST
  go_wp2_with fail
  refine (num_law 4 _).mono ?_; rintro r wq ⟨rfl, rfl⟩
  go_wp2_with fail
  refine (num_law 2 _).mono ?_; rintro r wq ⟨rfl, rfl⟩
  go_wp2_with fail
  refine (num_law 2 _).mono ?_; rintro r wq ⟨rfl, rfl⟩
  go_wp2_with fail
  refine (num_law 2 _).mono ?_; rintro r wq ⟨rfl, rfl⟩
  go_wp2_with fail
  go_ret
  exact ⟨rfl, step_below HX.out.1 HB3.out⟩
end Go.Proofs.YtglkndoghnblcaaGreatDoor
namespace Go.Proofs.YtglkndoghnblcaaGreatDoor
open Go.ChangeShapes Go.WideShapes Go.ChangeAt Go.RowKit
set_option linter.unusedVariables false
set_option linter.unusedSimpArgs false
/-- known (10): the chapter's rows hold. -/
theorem known_law (w : World) : Calls Tryz.prog 5 #[] w fun r w' => r = .returned (.bool true) ∧ Below w.heap.size w w' := kw0 w (kw2 w (kw3 w (kw4 w (kw5 w (kw6 w (kw7 w (kw8 w (kw9 w (kw10 w (kw11 w (kw12 w (kw13 w (kw14 w (kw15 w (kw16 w (kw17 w (kw18 w (kw23 w))))))))))))))))))
end Go.Proofs.YtglkndoghnblcaaGreatDoor
