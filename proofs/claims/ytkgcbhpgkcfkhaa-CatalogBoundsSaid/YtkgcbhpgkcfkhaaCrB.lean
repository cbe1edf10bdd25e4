/- CatalogBounds' walk: pieces 0, 1. -/
import Derived.Test.YtkgcbhpgkcfkhaaCrA
namespace Go.Proofs.Ytkgcbhpgkcfkhaa
open Go.ChangeShapes Go.WideShapes Go.ChangeAt Go.RowKit Go.Shelf
set_option linter.unusedVariables false
set_option linter.unusedSimpArgs false
set_option maxRecDepth 100000 in
set_option maxHeartbeats 100000000 in
theorem cbd0 (w : World) (hNext : Blk1 w) : Calls Try.prog 11 #[] w fun r w' => r = .returned (.bool true) ∧ Below w.heap.size w w' := by
  replace hNext := Lib.hid hNext
  have hmx : Try.prog.follows .mixedOrders = true := by kernel_rfl
  go_enter Try.func11, Try.ntmps11
  go_upto_block 0 with (fail)
  have HB0 : Below w.heap.size w (((w.alloc (.cells #[.int .i64 2, .int .i64 2, .int .i64 2, .int .i64 2] 3)).alloc (.cells (jvL w.heap.size).toArray 53)).alloc (.cells (arrL w.heap.size 0).toArray 94)) := (((Below.refl _ _).alloc (Nat.le_refl _) _).alloc (by simp) _).alloc (by simp; omega) _
  have H0 : J8 w.heap.size (arrL w.heap.size 0) (((w.alloc (.cells #[.int .i64 2, .int .i64 2, .int .i64 2, .int .i64 2] 3)).alloc (.cells (jvL w.heap.size).toArray 53)).alloc (.cells (arrL w.heap.size 0).toArray 94)) := by
    have hl := BoxC.new w #[.int .i64 2, .int .i64 2, .int .i64 2, .int .i64 2] 3
    have hb := BoxC.new (w.alloc (.cells #[.int .i64 2, .int .i64 2, .int .i64 2, .int .i64 2] 3)) (jvL w.heap.size).toArray 53
    have ha := BoxC.new ((w.alloc (.cells #[.int .i64 2, .int .i64 2, .int .i64 2, .int .i64 2] 3)).alloc (.cells (jvL w.heap.size).toArray 53)) (arrL w.heap.size 0).toArray 94
    simp only [World.size_alloc] at hb ha
    exact ⟨(hl.alloc _).alloc _, hb.alloc _, ha⟩
  unfold jvL arrL zvL at H0 HB0
  simp only [Nat.sub_zero, List.replicate, List.flatten_cons, List.flatten_nil, List.nil_append, List.cons_append, List.append_nil] at H0 HB0
  generalize hW : World.alloc _ _ = W0 at H0 HB0 ⊢
  clear hW
  replace H0 := Lib.hid (show Below w.heap.size w W0 ∧ J8 w.heap.size (arrL w.heap.size 0) W0 from ⟨HB0, H0⟩)
  clear HB0
  go_cut [3] (fun v wx => Hid (Below w.heap.size w wx ∧ J8 w.heap.size (arrL w.heap.size 8) wx))
  case first =>
    go_wp2_with fail
    go_loopw [3] (fun i wr => ∃ k : Nat, k ≤ 8 ∧ i = .int .i64 (k : Int) ∧ Hid (Below w.heap.size w wr ∧ J8 w.heap.size (arrL w.heap.size k) wr)) (fun i _ => 8 - (intOf i).toNat)
    case atStart => exact ⟨0, by omega, rfl, H0⟩
    obtain ⟨k, hk, rfl, BR⟩ := hrel
    by_cases hlt : k < 8
    · have hkl : (k : Int) < 8 := by omega
      have c0 := BR.out.2.job.cell 0
      have c1 := BR.out.2.job.cell 1
      have c2 := BR.out.2.job.cell 2
      have c3 := BR.out.2.job.cell 3
      have c4 := BR.out.2.job.cell 4
      have c5 := BR.out.2.job.cell 5
      have c6 := BR.out.2.job.cell 6
      simp only [jvL, List.getElem?_toArray, List.getElem?_cons_zero, List.getElem?_cons_succ] at c0 c1 c2 c3 c4 c5 c6
      have harr := BR.out.2.arr
      have HR := Lib.hid harr
      clear hk
      revert BR hkl harr HR
      rcases (by omega : k = 0 ∨ k = 1 ∨ k = 2 ∨ k = 3 ∨ k = 4 ∨ k = 5 ∨ k = 6 ∨ k = 7) with rfl | rfl | rfl | rfl | rfl | rfl | rfl | rfl
      · intro BR hkl harr HR
        have d0 := harr.cell 0
        have f0 := harr.frozen 0
        rw [show (arrL w.heap.size 0).toArray[0]? = some (.int .i64 0) from rfl] at d0
        have d1 := harr.cell 1
        have f1 := harr.frozen 1
        rw [show (arrL w.heap.size 0).toArray[1]? = some (.int .i64 0) from rfl] at d1
        have d2 := harr.cell 2
        have f2 := harr.frozen 2
        rw [show (arrL w.heap.size 0).toArray[2]? = some (.int .i64 0) from rfl] at d2
        have d3 := harr.cell 3
        have f3 := harr.frozen 3
        rw [show (arrL w.heap.size 0).toArray[3]? = some (.int .i64 0) from rfl] at d3
        have d4 := harr.cell 4
        have f4 := harr.frozen 4
        rw [show (arrL w.heap.size 0).toArray[4]? = some (.int .i64 0) from rfl] at d4
        have d5 := harr.cell 5
        have f5 := harr.frozen 5
        rw [show (arrL w.heap.size 0).toArray[5]? = some (.int .i64 0) from rfl] at d5
        have d6 := harr.cell 6
        have f6 := harr.frozen 6
        rw [show (arrL w.heap.size 0).toArray[6]? = some (.slice none 0 0) from rfl] at d6
        clear harr hkl
        go_wp2_with fail
        go_roundw
        case rel => exact ⟨1, by omega, rfl, Lib.hid ⟨below7 BR.out.1 (by omega), BR.out.2.round 0 0 rfl⟩⟩
        case measure => simp [intOf]
      · intro BR hkl harr HR
        have d0 := harr.cell 7
        have f0 := harr.frozen 7
        rw [show (arrL w.heap.size 1).toArray[7]? = some (.int .i64 0) from rfl] at d0
        have d1 := harr.cell 8
        have f1 := harr.frozen 8
        rw [show (arrL w.heap.size 1).toArray[8]? = some (.int .i64 0) from rfl] at d1
        have d2 := harr.cell 9
        have f2 := harr.frozen 9
        rw [show (arrL w.heap.size 1).toArray[9]? = some (.int .i64 0) from rfl] at d2
        have d3 := harr.cell 10
        have f3 := harr.frozen 10
        rw [show (arrL w.heap.size 1).toArray[10]? = some (.int .i64 0) from rfl] at d3
        have d4 := harr.cell 11
        have f4 := harr.frozen 11
        rw [show (arrL w.heap.size 1).toArray[11]? = some (.int .i64 0) from rfl] at d4
        have d5 := harr.cell 12
        have f5 := harr.frozen 12
        rw [show (arrL w.heap.size 1).toArray[12]? = some (.int .i64 0) from rfl] at d5
        have d6 := harr.cell 13
        have f6 := harr.frozen 13
        rw [show (arrL w.heap.size 1).toArray[13]? = some (.slice none 0 0) from rfl] at d6
        clear harr hkl
        go_wp2_with fail
        go_roundw
        case rel => exact ⟨2, by omega, rfl, Lib.hid ⟨below7 BR.out.1 (by omega), BR.out.2.round 1 7 rfl⟩⟩
        case measure => simp [intOf]
      · intro BR hkl harr HR
        have d0 := harr.cell 14
        have f0 := harr.frozen 14
        rw [show (arrL w.heap.size 2).toArray[14]? = some (.int .i64 0) from rfl] at d0
        have d1 := harr.cell 15
        have f1 := harr.frozen 15
        rw [show (arrL w.heap.size 2).toArray[15]? = some (.int .i64 0) from rfl] at d1
        have d2 := harr.cell 16
        have f2 := harr.frozen 16
        rw [show (arrL w.heap.size 2).toArray[16]? = some (.int .i64 0) from rfl] at d2
        have d3 := harr.cell 17
        have f3 := harr.frozen 17
        rw [show (arrL w.heap.size 2).toArray[17]? = some (.int .i64 0) from rfl] at d3
        have d4 := harr.cell 18
        have f4 := harr.frozen 18
        rw [show (arrL w.heap.size 2).toArray[18]? = some (.int .i64 0) from rfl] at d4
        have d5 := harr.cell 19
        have f5 := harr.frozen 19
        rw [show (arrL w.heap.size 2).toArray[19]? = some (.int .i64 0) from rfl] at d5
        have d6 := harr.cell 20
        have f6 := harr.frozen 20
        rw [show (arrL w.heap.size 2).toArray[20]? = some (.slice none 0 0) from rfl] at d6
        clear harr hkl
        go_wp2_with fail
        go_roundw
        case rel => exact ⟨3, by omega, rfl, Lib.hid ⟨below7 BR.out.1 (by omega), BR.out.2.round 2 14 rfl⟩⟩
        case measure => simp [intOf]
      · intro BR hkl harr HR
        have d0 := harr.cell 21
        have f0 := harr.frozen 21
        rw [show (arrL w.heap.size 3).toArray[21]? = some (.int .i64 0) from rfl] at d0
        have d1 := harr.cell 22
        have f1 := harr.frozen 22
        rw [show (arrL w.heap.size 3).toArray[22]? = some (.int .i64 0) from rfl] at d1
        have d2 := harr.cell 23
        have f2 := harr.frozen 23
        rw [show (arrL w.heap.size 3).toArray[23]? = some (.int .i64 0) from rfl] at d2
        have d3 := harr.cell 24
        have f3 := harr.frozen 24
        rw [show (arrL w.heap.size 3).toArray[24]? = some (.int .i64 0) from rfl] at d3
        have d4 := harr.cell 25
        have f4 := harr.frozen 25
        rw [show (arrL w.heap.size 3).toArray[25]? = some (.int .i64 0) from rfl] at d4
        have d5 := harr.cell 26
        have f5 := harr.frozen 26
        rw [show (arrL w.heap.size 3).toArray[26]? = some (.int .i64 0) from rfl] at d5
        have d6 := harr.cell 27
        have f6 := harr.frozen 27
        rw [show (arrL w.heap.size 3).toArray[27]? = some (.slice none 0 0) from rfl] at d6
        clear harr hkl
        go_wp2_with fail
        go_roundw
        case rel => exact ⟨4, by omega, rfl, Lib.hid ⟨below7 BR.out.1 (by omega), BR.out.2.round 3 21 rfl⟩⟩
        case measure => simp [intOf]
      · intro BR hkl harr HR
        have d0 := harr.cell 28
        have f0 := harr.frozen 28
        rw [show (arrL w.heap.size 4).toArray[28]? = some (.int .i64 0) from rfl] at d0
        have d1 := harr.cell 29
        have f1 := harr.frozen 29
        rw [show (arrL w.heap.size 4).toArray[29]? = some (.int .i64 0) from rfl] at d1
        have d2 := harr.cell 30
        have f2 := harr.frozen 30
        rw [show (arrL w.heap.size 4).toArray[30]? = some (.int .i64 0) from rfl] at d2
        have d3 := harr.cell 31
        have f3 := harr.frozen 31
        rw [show (arrL w.heap.size 4).toArray[31]? = some (.int .i64 0) from rfl] at d3
        have d4 := harr.cell 32
        have f4 := harr.frozen 32
        rw [show (arrL w.heap.size 4).toArray[32]? = some (.int .i64 0) from rfl] at d4
        have d5 := harr.cell 33
        have f5 := harr.frozen 33
        rw [show (arrL w.heap.size 4).toArray[33]? = some (.int .i64 0) from rfl] at d5
        have d6 := harr.cell 34
        have f6 := harr.frozen 34
        rw [show (arrL w.heap.size 4).toArray[34]? = some (.slice none 0 0) from rfl] at d6
        clear harr hkl
        go_wp2_with fail
        go_roundw
        case rel => exact ⟨5, by omega, rfl, Lib.hid ⟨below7 BR.out.1 (by omega), BR.out.2.round 4 28 rfl⟩⟩
        case measure => simp [intOf]
      · intro BR hkl harr HR
        have d0 := harr.cell 35
        have f0 := harr.frozen 35
        rw [show (arrL w.heap.size 5).toArray[35]? = some (.int .i64 0) from rfl] at d0
        have d1 := harr.cell 36
        have f1 := harr.frozen 36
        rw [show (arrL w.heap.size 5).toArray[36]? = some (.int .i64 0) from rfl] at d1
        have d2 := harr.cell 37
        have f2 := harr.frozen 37
        rw [show (arrL w.heap.size 5).toArray[37]? = some (.int .i64 0) from rfl] at d2
        have d3 := harr.cell 38
        have f3 := harr.frozen 38
        rw [show (arrL w.heap.size 5).toArray[38]? = some (.int .i64 0) from rfl] at d3
        have d4 := harr.cell 39
        have f4 := harr.frozen 39
        rw [show (arrL w.heap.size 5).toArray[39]? = some (.int .i64 0) from rfl] at d4
        have d5 := harr.cell 40
        have f5 := harr.frozen 40
        rw [show (arrL w.heap.size 5).toArray[40]? = some (.int .i64 0) from rfl] at d5
        have d6 := harr.cell 41
        have f6 := harr.frozen 41
        rw [show (arrL w.heap.size 5).toArray[41]? = some (.slice none 0 0) from rfl] at d6
        clear harr hkl
        go_wp2_with fail
        go_roundw
        case rel => exact ⟨6, by omega, rfl, Lib.hid ⟨below7 BR.out.1 (by omega), BR.out.2.round 5 35 rfl⟩⟩
        case measure => simp [intOf]
      · intro BR hkl harr HR
        have d0 := harr.cell 42
        have f0 := harr.frozen 42
        rw [show (arrL w.heap.size 6).toArray[42]? = some (.int .i64 0) from rfl] at d0
        have d1 := harr.cell 43
        have f1 := harr.frozen 43
        rw [show (arrL w.heap.size 6).toArray[43]? = some (.int .i64 0) from rfl] at d1
        have d2 := harr.cell 44
        have f2 := harr.frozen 44
        rw [show (arrL w.heap.size 6).toArray[44]? = some (.int .i64 0) from rfl] at d2
        have d3 := harr.cell 45
        have f3 := harr.frozen 45
        rw [show (arrL w.heap.size 6).toArray[45]? = some (.int .i64 0) from rfl] at d3
        have d4 := harr.cell 46
        have f4 := harr.frozen 46
        rw [show (arrL w.heap.size 6).toArray[46]? = some (.int .i64 0) from rfl] at d4
        have d5 := harr.cell 47
        have f5 := harr.frozen 47
        rw [show (arrL w.heap.size 6).toArray[47]? = some (.int .i64 0) from rfl] at d5
        have d6 := harr.cell 48
        have f6 := harr.frozen 48
        rw [show (arrL w.heap.size 6).toArray[48]? = some (.slice none 0 0) from rfl] at d6
        clear harr hkl
        go_wp2_with fail
        go_roundw
        case rel => exact ⟨7, by omega, rfl, Lib.hid ⟨below7 BR.out.1 (by omega), BR.out.2.round 6 42 rfl⟩⟩
        case measure => simp [intOf]
      · intro BR hkl harr HR
        have d0 := harr.cell 49
        have f0 := harr.frozen 49
        rw [show (arrL w.heap.size 7).toArray[49]? = some (.int .i64 0) from rfl] at d0
        have d1 := harr.cell 50
        have f1 := harr.frozen 50
        rw [show (arrL w.heap.size 7).toArray[50]? = some (.int .i64 0) from rfl] at d1
        have d2 := harr.cell 51
        have f2 := harr.frozen 51
        rw [show (arrL w.heap.size 7).toArray[51]? = some (.int .i64 0) from rfl] at d2
        have d3 := harr.cell 52
        have f3 := harr.frozen 52
        rw [show (arrL w.heap.size 7).toArray[52]? = some (.int .i64 0) from rfl] at d3
        have d4 := harr.cell 53
        have f4 := harr.frozen 53
        rw [show (arrL w.heap.size 7).toArray[53]? = some (.int .i64 0) from rfl] at d4
        have d5 := harr.cell 54
        have f5 := harr.frozen 54
        rw [show (arrL w.heap.size 7).toArray[54]? = some (.int .i64 0) from rfl] at d5
        have d6 := harr.cell 55
        have f6 := harr.frozen 55
        rw [show (arrL w.heap.size 7).toArray[55]? = some (.slice none 0 0) from rfl] at d6
        clear harr hkl
        go_wp2_with fail
        go_roundw
        case rel => exact ⟨8, by omega, rfl, Lib.hid ⟨below7 BR.out.1 (by omega), BR.out.2.round 7 49 rfl⟩⟩
        case measure => simp [intOf]

    · obtain rfl : k = 8 := by omega
      go_wp2_with fail
      go_meet
      exact BR
  case rest =>
    rename_i hK
    refine hK _ _ ?_
    have hn' := hNext.out
    unfold Blk1 at hn'
    exact hn'  _ _ _ _ _ _ _ _ _ _ _ _ _ _ _ _ _ _ _ _ _ _ _ _ _ _ _ _ _ _ _ _ _ _ _ _ _ _ _ _ _ _ _ _ _ _ _ _ _ _ _ _ _ _ _ _ _ _ _ _ _ _ _ _ _ _ _ _ _ _ _ _ _ _ _ _ _ _ _ _ _ _ _ _ _ _ _ _ _ _ _ _ _ _ _ _ _ _ _ _ _ _ _ _ _ _ _ _ _ _ _ _ _ _ _ _ _ _ _ _ _ _ _ _ _ _ _ _ _ _ _ _ _ _ _ _ _ _ _ _ _ _ _ _ _ _ _ _ _ _ _ _ _ _ _ _ _ _ _ _ _ _ _ _ _ _ _ _ _ _ _ _ _ _ _ _ _ _ _ _ _ _ _ _ _ _ _ _ _ _ _ _ _ _ _ _ _ _ _ _ _ _ _ _ _ _ _ _ _ _ _ _ _ _ _ _ _ _ _ _ _ _ _ _ _ _ _ _ _ _ _ _ _ _ _ _ _ _ _ _ _ _ _ _ _ _ _ _ _ _ _ _ _ _ _ _ _ _ _ _ _ _ _ _ _ _ _ _ _ _ _ _ _ _ _ _ _ _ _ _ _ _ _ _ _ _ _ _ _ _ _ _ _ _ _ _ _ wc (hcut.out)
end Go.Proofs.Ytkgcbhpgkcfkhaa

namespace Go.Proofs.Ytkgcbhpgkcfkhaa
open Go.ChangeShapes Go.WideShapes Go.ChangeAt Go.RowKit Go.Shelf
set_option linter.unusedVariables false
set_option linter.unusedSimpArgs false
set_option maxRecDepth 100000 in
set_option maxHeartbeats 100000000 in
theorem cbd1 (w : World) (hNext : Blk2 w) : Blk1 w := by
  replace hNext := Lib.hid hNext
  intro  u0 u3 u4 u5 u6 u7 u8 u9 u10 u11 u12 u13 u14 u15 u16 u17 u18 u19 u20 u21 u22 u23 u24 u25 u26 u27 u28 u29 u30 u31 u32 u33 u34 u35 u36 u37 u38 u39 u40 u41 u42 u43 u44 u45 u46 u47 u48 u49 u50 u51 u52 u53 u54 u55 u56 u57 u58 u59 u60 u61 u62 u63 u64 u65 u66 u67 u68 u69 u70 u71 u72 u73 u74 u75 u76 u77 u78 u79 u80 u81 u82 u83 u84 u85 u86 u87 u88 u89 u90 u91 u92 u93 u94 u95 u96 u97 u98 u99 u100 u101 u102 u103 u104 u105 u106 u107 u108 u109 u110 u111 u112 u113 u114 u115 u116 u117 u118 u119 u120 u121 u122 u123 u124 u125 u126 u127 u128 u129 u130 u131 u132 u133 u134 u135 u136 u137 u138 u139 u140 u141 u142 u143 u144 u145 u146 u147 u148 u149 u150 u151 u152 u153 u154 u155 u156 u157 u158 u159 u160 u161 u162 u163 u164 u165 u166 u167 u168 u169 u170 u171 u172 u173 u174 u175 u176 u177 u178 u179 u180 u181 u182 u183 u184 u185 u186 u187 u188 u189 u190 u191 u192 u193 u194 u195 u196 u197 u198 u199 u200 u201 u202 u203 u204 u205 u206 u207 u208 u209 u210 u211 u212 u213 u214 u215 u216 u217 u218 u219 u220 u221 u222 u223 u224 u225 u226 u227 u228 u229 u230 u231 u232 u233 u234 u235 u236 u237 u238 u239 u240 u241 u242 u243 u244 u245 u246 u247 u248 u249 u250 u251 u252 u253 u254 u255 u256 u257 u258 u259 u260 u261 u262 u263 u264 u265 u266 u267 u268 u269 u270 u271 u272 u273 u274 u275 u276 u277 u278 u279 u280 u281 u282 u283 u284 u285 u286 u287 u288 u289 u290 u291 u292 u293 u294 u295 u296 u297 u298 wc hX
  have hcut := Lib.hid hX
  clear hX
  obtain ⟨c, hc⟩ : ∃ c, sndC (sndC (sndC (sndC bodyC))) = c := ⟨_, rfl⟩
  rw [hc]
  simp only [bodyC, sndC, Try.f11, Option.getD] at hc
  subst hc
  have hmx : Try.prog.follows .mixedOrders = true := by kernel_rfl
  have harr := hcut.out.2.arr
  have d0 := harr.cell 0
  have f0 := harr.frozen 0
  rw [show (arrL w.heap.size 8).toArray[0]? = some (.int .i64 4) from rfl] at d0
  have d1 := harr.cell 8
  have f1 := harr.frozen 8
  rw [show (arrL w.heap.size 8).toArray[8]? = some (.int .i64 2) from rfl] at d1
  have d2 := harr.cell 16
  have f2 := harr.frozen 16
  rw [show (arrL w.heap.size 8).toArray[16]? = some (.int .i64 15) from rfl] at d2
  have d3 := harr.cell 24
  have f3 := harr.frozen 24
  rw [show (arrL w.heap.size 8).toArray[24]? = some (.int .i64 65536) from rfl] at d3
  have d4 := harr.cell 32
  have f4 := harr.frozen 32
  rw [show (arrL w.heap.size 8).toArray[32]? = some (.int .i64 1048576) from rfl] at d4
  have d5 := harr.cell 40
  have f5 := harr.frozen 40
  rw [show (arrL w.heap.size 8).toArray[40]? = some (.int .i64 100) from rfl] at d5
  have d6 := harr.cell 48
  have f6 := harr.frozen 48
  rw [show (arrL w.heap.size 8).toArray[48]? = some (.slice (some ⟨w.heap.size, 0, none⟩) 4 4) from rfl] at d6
  have d7 := harr.cell 55
  have f7 := harr.frozen 55
  rw [show (arrL w.heap.size 8).toArray[55]? = some (.slice (some ⟨w.heap.size, 0, none⟩) 4 4) from rfl] at d7
  have HJ := Lib.hid (show Below w.heap.size w _ ∧ J8 w.heap.size (arrL1 w.heap.size) _ from ⟨(((((hcut.out.1.setCell (p := ⟨w.heap.size + 1 + 1, 0, none⟩) (by show w.heap.size ≤ w.heap.size + 1 + 1; omega) (.int .i64 5)).setCell (p := ⟨w.heap.size + 1 + 1, 8, none⟩) (by show w.heap.size ≤ w.heap.size + 1 + 1; omega) (.int .i64 3)).setCell (p := ⟨w.heap.size + 1 + 1, 16, none⟩) (by show w.heap.size ≤ w.heap.size + 1 + 1; omega) (.int .i64 16)).setCell (p := ⟨w.heap.size + 1 + 1, 24, none⟩) (by show w.heap.size ≤ w.heap.size + 1 + 1; omega) (.int .i64 65537)).setCell (p := ⟨w.heap.size + 1 + 1, 32, none⟩) (by show w.heap.size ≤ w.heap.size + 1 + 1; omega) (.int .i64 1048577)).setCell (p := ⟨w.heap.size + 1 + 1, 40, none⟩) (by show w.heap.size ≤ w.heap.size + 1 + 1; omega) (.int .i64 101),
    (((((hcut.out.2.put 0 (.int .i64 5)).put 8 (.int .i64 3)).put 16 (.int .i64 16)).put 24 (.int .i64 65537)).put 32 (.int .i64 1048577)).put 40 (.int .i64 101)⟩)
  clear hcut harr
  go_upto_region 8 with (fail)
  generalize World.setCell _ _ _ = W1 at HJ ⊢
  clear d0 d1 d2 d3 d4 d5 d6 d7 f0 f1 f2 f3 f4 f5 f6 f7
  have d6 := (HJ.out.2.arr.alloc (.cells #[.int .i64 3] 3)).cell 48
  have f6 := (HJ.out.2.arr.alloc (.cells #[.int .i64 3] 3)).frozen 48
  rw [show (arrL1 w.heap.size).toArray[48]? = some (.slice (some ⟨w.heap.size, 0, none⟩) 4 4) from rfl] at d6
  have HE := Lib.hid (BoxC.new W1 #[.int .i64 3] 3)
  replace HJ := Lib.hid (show Below w.heap.size w ((W1.alloc (.cells #[.int .i64 3] 3)).setCell ⟨w.heap.size + 1 + 1, 48, none⟩ (.slice (some ⟨W1.heap.size, 0, none⟩) 1 1)) ∧ W1.heap.size = W1.heap.size ∧ w.heap.size + 1 + 1 < W1.heap.size ∧ BoxC ((W1.alloc (.cells #[.int .i64 3] 3)).setCell ⟨w.heap.size + 1 + 1, 48, none⟩ (.slice (some ⟨W1.heap.size, 0, none⟩) 1 1)) W1.heap.size #[.int .i64 3] 3 ∧ J8 w.heap.size ((arrL1 w.heap.size).set 48 (.slice (some ⟨W1.heap.size, 0, none⟩) 1 1)) ((W1.alloc (.cells #[.int .i64 3] 3)).setCell ⟨w.heap.size + 1 + 1, 48, none⟩ (.slice (some ⟨W1.heap.size, 0, none⟩) 1 1)) from
    ⟨(HJ.out.1.alloc HJ.out.1.size (.cells #[.int .i64 3] 3)).setCell (p := ⟨w.heap.size + 1 + 1, 48, none⟩) (by show w.heap.size ≤ w.heap.size + 1 + 1; omega) (.slice (some ⟨W1.heap.size, 0, none⟩) 1 1), rfl, HJ.out.2.arr.lt,
     BoxC.oth (B' := w.heap.size + 1 + 1) (by have := HJ.out.2.arr.lt; omega) HE.out, (HJ.out.2.alloc (.cells #[.int .i64 3] 3)).put 48 (.slice (some ⟨W1.heap.size, 0, none⟩) 1 1)⟩)
  clear HE
  go_upto_region 9 with (fail)
  clear d6 f6
  generalize World.setCell _ _ _ = W2 at HJ ⊢
  generalize W1.heap.size = t6 at HJ ⊢
  have d7 := (HJ.out.2.2.2.2.arr.alloc (.cells #[.int .i64 0, .int .i64 0, .int .i64 0, .int .i64 0, .int .i64 0] 3)).cell 55
  have f7 := (HJ.out.2.2.2.2.arr.alloc (.cells #[.int .i64 0, .int .i64 0, .int .i64 0, .int .i64 0, .int .i64 0] 3)).frozen 55
  rw [show ((arrL1 w.heap.size).set 48 (.slice (some ⟨t6, 0, none⟩) 1 1)).toArray[55]? = some (.slice (some ⟨w.heap.size, 0, none⟩) 4 4) from rfl] at d7
  have HE := Lib.hid (BoxC.new W2 #[.int .i64 0, .int .i64 0, .int .i64 0, .int .i64 0, .int .i64 0] 3)
  replace HJ := Lib.hid (show Below w.heap.size w ((W2.alloc (.cells #[.int .i64 0, .int .i64 0, .int .i64 0, .int .i64 0, .int .i64 0] 3)).setCell ⟨w.heap.size + 1 + 1, 55, none⟩ (.slice (some ⟨W2.heap.size, 0, none⟩) 5 5)) ∧ BoxC ((W2.alloc (.cells #[.int .i64 0, .int .i64 0, .int .i64 0, .int .i64 0, .int .i64 0] 3)).setCell ⟨w.heap.size + 1 + 1, 55, none⟩ (.slice (some ⟨W2.heap.size, 0, none⟩) 5 5)) t6 #[.int .i64 3] 3 ∧ BoxC ((W2.alloc (.cells #[.int .i64 0, .int .i64 0, .int .i64 0, .int .i64 0, .int .i64 0] 3)).setCell ⟨w.heap.size + 1 + 1, 55, none⟩ (.slice (some ⟨W2.heap.size, 0, none⟩) 5 5)) W2.heap.size #[.int .i64 0, .int .i64 0, .int .i64 0, .int .i64 0, .int .i64 0] 3 ∧ J8 w.heap.size (((arrL1 w.heap.size).set 48 (.slice (some ⟨t6, 0, none⟩) 1 1)).set 55 (.slice (some ⟨W2.heap.size, 0, none⟩) 5 5)) ((W2.alloc (.cells #[.int .i64 0, .int .i64 0, .int .i64 0, .int .i64 0, .int .i64 0] 3)).setCell ⟨w.heap.size + 1 + 1, 55, none⟩ (.slice (some ⟨W2.heap.size, 0, none⟩) 5 5)) from
    ⟨(HJ.out.1.alloc HJ.out.1.size (.cells #[.int .i64 0, .int .i64 0, .int .i64 0, .int .i64 0, .int .i64 0] 3)).setCell (p := ⟨w.heap.size + 1 + 1, 55, none⟩) (by show w.heap.size ≤ w.heap.size + 1 + 1; omega) (.slice (some ⟨W2.heap.size, 0, none⟩) 5 5),
     BoxC.oth (B' := w.heap.size + 1 + 1) (by have := HJ.out.2.2.1; omega) (HJ.out.2.2.2.1.alloc _), BoxC.oth (B' := w.heap.size + 1 + 1) (by have := HJ.out.2.2.2.2.arr.lt; omega) HE.out, (HJ.out.2.2.2.2.alloc (.cells #[.int .i64 0, .int .i64 0, .int .i64 0, .int .i64 0, .int .i64 0] 3)).put 55 (.slice (some ⟨W2.heap.size, 0, none⟩) 5 5)⟩)
  clear HE
  go_upto_block 2 with (fail)
  clear d7 f7
  generalize World.setCell _ _ _ = W3 at HJ ⊢
  generalize W2.heap.size = t7 at HJ ⊢
  rw [arrF_eq] at HJ
  go_cut [4] (fun v wx => Hid (BJ8 w.heap.size t6 t7 w wx))
  case first =>
    go_wp2_with fail
    go_loopw [0, 4] (fun v i wr => ∃ k : Nat, k ≤ 8 ∧ i = .int .i64 (k : Int) ∧ Hid (BJ8 w.heap.size t6 t7 w wr)) (fun _ i _ => 8 - (intOf i).toNat)
    case atStart => exact ⟨0, by omega, rfl, HJ⟩
    obtain ⟨k, hk, rfl, BR⟩ := hrel
    clear HJ
    by_cases hlt : k < 8
    · have hkl : (k : Int) < 8 := by omega
      clear hk
      revert BR hkl
      rcases (by omega : k = 0 ∨ k = 1 ∨ k = 2 ∨ k = 3 ∨ k = 4 ∨ k = 5 ∨ k = 6 ∨ k = 7) with rfl | rfl | rfl | rfl | rfl | rfl | rfl | rfl
      · intro BR hkl
        have FC := Lib.hid (fun W (b : BJ8 w.heap.size t6 t7 w W) => fc0 b)
        have FK := Lib.hid (fun W (b : BJ8 w.heap.size t6 t7 w W) => fk0 b)
        have FT := Lib.hid (fun W (b : BJ8 w.heap.size t6 t7 w W) => ft0 b)
        obtain ⟨c0, c1, c2, c3, c4, c5, c6⟩ := FC.out _ BR.out
        go_wp2_with fail
        refine (FK.out _ BR.out).mono ?_; rintro r W4 ⟨rfl, B4⟩
        have BR4 := Lib.hid (BR.out.below B4)
        clear B4 c0 c1 c2 c3 c4 c5 c6
        obtain ⟨c0, c1, c2, c3, c4, c5, c6⟩ := FC.out _ BR4.out
        go_wp2_with fail
        refine (num35 _ _).mono ?_; rintro r W5 ⟨rfl, rfl⟩
        go_wp2_with fail
        refine (FT.out _ BR4.out).mono ?_; rintro r W6 ⟨rfl, B6⟩
        have BR6 := Lib.hid (BR4.out.below B6)
        clear B6 c0 c1 c2 c3 c4 c5 c6
        go_wp2_with fail
        go_roundw
        case rel => exact ⟨1, by omega, rfl, BR6⟩
        case measure => simp [intOf]
      · intro BR hkl
        have FC := Lib.hid (fun W (b : BJ8 w.heap.size t6 t7 w W) => fc1 b)
        have FK := Lib.hid (fun W (b : BJ8 w.heap.size t6 t7 w W) => fk1 b)
        have FT := Lib.hid (fun W (b : BJ8 w.heap.size t6 t7 w W) => ft1 b)
        obtain ⟨c0, c1, c2, c3, c4, c5, c6⟩ := FC.out _ BR.out
        go_wp2_with fail
        refine (FK.out _ BR.out).mono ?_; rintro r W4 ⟨rfl, B4⟩
        have BR4 := Lib.hid (BR.out.below B4)
        clear B4 c0 c1 c2 c3 c4 c5 c6
        obtain ⟨c0, c1, c2, c3, c4, c5, c6⟩ := FC.out _ BR4.out
        go_wp2_with fail
        refine (num35 _ _).mono ?_; rintro r W5 ⟨rfl, rfl⟩
        go_wp2_with fail
        refine (FT.out _ BR4.out).mono ?_; rintro r W6 ⟨rfl, B6⟩
        have BR6 := Lib.hid (BR4.out.below B6)
        clear B6 c0 c1 c2 c3 c4 c5 c6
        go_wp2_with fail
        go_roundw
        case rel => exact ⟨2, by omega, rfl, BR6⟩
        case measure => simp [intOf]
      · intro BR hkl
        have FC := Lib.hid (fun W (b : BJ8 w.heap.size t6 t7 w W) => fc2 b)
        have FK := Lib.hid (fun W (b : BJ8 w.heap.size t6 t7 w W) => fk2 b)
        have FT := Lib.hid (fun W (b : BJ8 w.heap.size t6 t7 w W) => ft2 b)
        obtain ⟨c0, c1, c2, c3, c4, c5, c6⟩ := FC.out _ BR.out
        go_wp2_with fail
        refine (FK.out _ BR.out).mono ?_; rintro r W4 ⟨rfl, B4⟩
        have BR4 := Lib.hid (BR.out.below B4)
        clear B4 c0 c1 c2 c3 c4 c5 c6
        obtain ⟨c0, c1, c2, c3, c4, c5, c6⟩ := FC.out _ BR4.out
        go_wp2_with fail
        refine (num35 _ _).mono ?_; rintro r W5 ⟨rfl, rfl⟩
        go_wp2_with fail
        refine (FT.out _ BR4.out).mono ?_; rintro r W6 ⟨rfl, B6⟩
        have BR6 := Lib.hid (BR4.out.below B6)
        clear B6 c0 c1 c2 c3 c4 c5 c6
        go_wp2_with fail
        go_roundw
        case rel => exact ⟨3, by omega, rfl, BR6⟩
        case measure => simp [intOf]
      · intro BR hkl
        have FC := Lib.hid (fun W (b : BJ8 w.heap.size t6 t7 w W) => fc3 b)
        have FK := Lib.hid (fun W (b : BJ8 w.heap.size t6 t7 w W) => fk3 b)
        have FT := Lib.hid (fun W (b : BJ8 w.heap.size t6 t7 w W) => ft3 b)
        obtain ⟨c0, c1, c2, c3, c4, c5, c6⟩ := FC.out _ BR.out
        go_wp2_with fail
        refine (FK.out _ BR.out).mono ?_; rintro r W4 ⟨rfl, B4⟩
        have BR4 := Lib.hid (BR.out.below B4)
        clear B4 c0 c1 c2 c3 c4 c5 c6
        obtain ⟨c0, c1, c2, c3, c4, c5, c6⟩ := FC.out _ BR4.out
        go_wp2_with fail
        refine (num35 _ _).mono ?_; rintro r W5 ⟨rfl, rfl⟩
        go_wp2_with fail
        refine (FT.out _ BR4.out).mono ?_; rintro r W6 ⟨rfl, B6⟩
        have BR6 := Lib.hid (BR4.out.below B6)
        clear B6 c0 c1 c2 c3 c4 c5 c6
        go_wp2_with fail
        go_roundw
        case rel => exact ⟨4, by omega, rfl, BR6⟩
        case measure => simp [intOf]
      · intro BR hkl
        have FC := Lib.hid (fun W (b : BJ8 w.heap.size t6 t7 w W) => fc4 b)
        have FK := Lib.hid (fun W (b : BJ8 w.heap.size t6 t7 w W) => fk4 b)
        have FT := Lib.hid (fun W (b : BJ8 w.heap.size t6 t7 w W) => ft4 b)
        obtain ⟨c0, c1, c2, c3, c4, c5, c6⟩ := FC.out _ BR.out
        go_wp2_with fail
        refine (FK.out _ BR.out).mono ?_; rintro r W4 ⟨rfl, B4⟩
        have BR4 := Lib.hid (BR.out.below B4)
        clear B4 c0 c1 c2 c3 c4 c5 c6
        obtain ⟨c0, c1, c2, c3, c4, c5, c6⟩ := FC.out _ BR4.out
        go_wp2_with fail
        refine (num35 _ _).mono ?_; rintro r W5 ⟨rfl, rfl⟩
        go_wp2_with fail
        refine (FT.out _ BR4.out).mono ?_; rintro r W6 ⟨rfl, B6⟩
        have BR6 := Lib.hid (BR4.out.below B6)
        clear B6 c0 c1 c2 c3 c4 c5 c6
        go_wp2_with fail
        go_roundw
        case rel => exact ⟨5, by omega, rfl, BR6⟩
        case measure => simp [intOf]
      · intro BR hkl
        have FC := Lib.hid (fun W (b : BJ8 w.heap.size t6 t7 w W) => fc5 b)
        have FK := Lib.hid (fun W (b : BJ8 w.heap.size t6 t7 w W) => fk5 b)
        have FT := Lib.hid (fun W (b : BJ8 w.heap.size t6 t7 w W) => ft5 b)
        obtain ⟨c0, c1, c2, c3, c4, c5, c6⟩ := FC.out _ BR.out
        go_wp2_with fail
        refine (FK.out _ BR.out).mono ?_; rintro r W4 ⟨rfl, B4⟩
        have BR4 := Lib.hid (BR.out.below B4)
        clear B4 c0 c1 c2 c3 c4 c5 c6
        obtain ⟨c0, c1, c2, c3, c4, c5, c6⟩ := FC.out _ BR4.out
        go_wp2_with fail
        refine (num35 _ _).mono ?_; rintro r W5 ⟨rfl, rfl⟩
        go_wp2_with fail
        refine (FT.out _ BR4.out).mono ?_; rintro r W6 ⟨rfl, B6⟩
        have BR6 := Lib.hid (BR4.out.below B6)
        clear B6 c0 c1 c2 c3 c4 c5 c6
        go_wp2_with fail
        go_roundw
        case rel => exact ⟨6, by omega, rfl, BR6⟩
        case measure => simp [intOf]
      · intro BR hkl
        have FC := Lib.hid (fun W (b : BJ8 w.heap.size t6 t7 w W) => fc6 b)
        have FK := Lib.hid (fun W (b : BJ8 w.heap.size t6 t7 w W) => fk6 b)
        have FT := Lib.hid (fun W (b : BJ8 w.heap.size t6 t7 w W) => ft6 b)
        obtain ⟨c0, c1, c2, c3, c4, c5, c6⟩ := FC.out _ BR.out
        go_wp2_with fail
        refine (FK.out _ BR.out).mono ?_; rintro r W4 ⟨rfl, B4⟩
        have BR4 := Lib.hid (BR.out.below B4)
        clear B4 c0 c1 c2 c3 c4 c5 c6
        obtain ⟨c0, c1, c2, c3, c4, c5, c6⟩ := FC.out _ BR4.out
        go_wp2_with fail
        refine (num35 _ _).mono ?_; rintro r W5 ⟨rfl, rfl⟩
        go_wp2_with fail
        refine (FT.out _ BR4.out).mono ?_; rintro r W6 ⟨rfl, B6⟩
        have BR6 := Lib.hid (BR4.out.below B6)
        clear B6 c0 c1 c2 c3 c4 c5 c6
        go_wp2_with fail
        go_roundw
        case rel => exact ⟨7, by omega, rfl, BR6⟩
        case measure => simp [intOf]
      · intro BR hkl
        have FC := Lib.hid (fun W (b : BJ8 w.heap.size t6 t7 w W) => fc7 b)
        have FK := Lib.hid (fun W (b : BJ8 w.heap.size t6 t7 w W) => fk7 b)
        have FT := Lib.hid (fun W (b : BJ8 w.heap.size t6 t7 w W) => ft7 b)
        obtain ⟨c0, c1, c2, c3, c4, c5, c6⟩ := FC.out _ BR.out
        go_wp2_with fail
        refine (FK.out _ BR.out).mono ?_; rintro r W4 ⟨rfl, B4⟩
        have BR4 := Lib.hid (BR.out.below B4)
        clear B4 c0 c1 c2 c3 c4 c5 c6
        obtain ⟨c0, c1, c2, c3, c4, c5, c6⟩ := FC.out _ BR4.out
        go_wp2_with fail
        refine (num35 _ _).mono ?_; rintro r W5 ⟨rfl, rfl⟩
        go_wp2_with fail
        refine (FT.out _ BR4.out).mono ?_; rintro r W6 ⟨rfl, B6⟩
        have BR6 := Lib.hid (BR4.out.below B6)
        clear B6 c0 c1 c2 c3 c4 c5 c6
        go_wp2_with fail
        go_roundw
        case rel => exact ⟨8, by omega, rfl, BR6⟩
        case measure => simp [intOf]

    · obtain rfl : k = 8 := by omega
      go_wp2_with fail
      go_meet
      exact BR
  case rest =>
    rename_i hK
    refine hK _ _ ?_
    have hn' := hNext.out
    unfold Blk2 at hn'
    exact hn' t6 t7 _ _ _ _ _ _ _ _ _ _ _ _ _ _ _ _ _ _ _ _ _ _ _ _ _ _ _ _ _ _ _ _ _ _ _ _ _ _ _ _ _ _ _ _ _ _ _ _ _ _ _ _ _ _ _ _ _ _ _ _ _ _ _ _ _ _ _ _ _ _ _ _ _ _ _ _ _ _ _ _ _ _ _ _ _ _ _ _ _ _ _ _ _ _ _ _ _ _ _ _ _ _ _ _ _ _ _ _ _ _ _ _ _ _ _ _ _ _ _ _ _ _ _ _ _ _ _ _ _ _ _ _ _ _ _ _ _ _ _ _ _ _ _ _ _ _ _ _ _ _ _ _ _ _ _ _ _ _ _ _ _ _ _ _ _ _ _ _ _ _ _ _ _ _ _ _ _ _ _ _ _ _ _ _ _ _ _ _ _ _ _ _ _ _ _ _ _ _ _ _ _ _ _ _ _ _ _ _ _ _ _ _ _ _ _ _ _ _ _ _ _ _ _ _ _ _ _ _ _ _ _ _ _ _ _ _ _ _ _ _ _ _ _ _ _ _ _ _ _ _ _ _ _ _ _ _ _ _ _ _ _ _ _ _ _ _ _ _ _ _ _ _ _ _ _ _ _ _ _ _ _ _ _ _ _ _ _ _ _ _ _ _ _ _ _ _ _ wc (hcut.out)
end Go.Proofs.Ytkgcbhpgkcfkhaa
