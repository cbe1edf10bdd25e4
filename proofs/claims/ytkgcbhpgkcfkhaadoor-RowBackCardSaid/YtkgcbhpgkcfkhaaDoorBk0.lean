/- RowBack: what its blocks hand on. -/
import Derived.Test.YtkgcbhpgkcfkhaaDoorBc
import Derived.Deep.DeepCutAuto
namespace Go.Proofs.YtkgcbhpgkcfkhaaDoor
open Go.ChangeShapes Go.WideShapes Go.ChangeAt Go.RowKit
set_option linter.unusedVariables false
set_option linter.unusedSimpArgs false
theorem below_box (w : World) (o : Obj) : Below w.heap.size w (w.alloc o) := (Below.refl _ w).alloc (Nat.le_refl _) o
/-- What lies while the law runs. -/
structure BkW (w W : World) (g h : Nat) (f0 f1 k0 k1 : Value) : Prop where
  b : Below w.heap.size w W
  c0 : W.cell? ⟨g, 0, none⟩ = some f0
  c1 : W.cell? ⟨g, 1, none⟩ = some f1
  d0 : W.cell? ⟨h, 0, none⟩ = some k0
  d1 : W.cell? ⟨h, 1, none⟩ = some k1
theorem BkW.below {w W W' : World} {g h : Nat} {f0 f1 k0 k1 : Value} (H : BkW w W g h f0 f1 k0 k1) (B : Below W.heap.size W W') : BkW w W' g h f0 f1 k0 k1 :=
  ⟨step_below H.b B, (B.cell (p := ⟨g, 0, none⟩) (World.block_lt_of_cell? W _ H.c0)).trans H.c0, (B.cell (p := ⟨g, 1, none⟩) (World.block_lt_of_cell? W _ H.c1)).trans H.c1,
   (B.cell (p := ⟨h, 0, none⟩) (World.block_lt_of_cell? W _ H.d0)).trans H.d0, (B.cell (p := ⟨h, 1, none⟩) (World.block_lt_of_cell? W _ H.d1)).trans H.d1⟩
theorem bk_new (w : World) (f0 f1 k0 k1 : Value) : BkW w ((w.alloc (.cells #[f0, f1] 37)).alloc (.cells #[k0, k1] 37)) w.heap.size (w.heap.size + 1) f0 f1 k0 k1 := by
  refine ⟨step_below (below_box w _) (below_box _ _), ?_, ?_, ?_, ?_⟩ <;> simp
def sndC : Code → Code
  | .seq _ c => c
  | c => c
noncomputable def bodyC : Code := Tryd.f4.body.getD .skip
/-- From block k on it goes well. -/
def Blk (c : Code) (a : Option Addr) (n cap : Nat) (f0 f1 k0 k1 b : Option Addr) (l0 l1 m0 m1 nb c0 c1 e0 e1 cb : Nat) (w : World) : Prop := ∀ (u4 u7 u8 u9 u10 u11 u12 u13 u14 u15 u16 u17 u18 u19 u20 u21 u22 u23 u24 u25 u26 u27 u28 u29 u30 u31 u32 u33 u34 u35 u36 u37 u38 u39 u40 u41 u42 u43 u44 u45 u46 u47 u48 u49 u50 u51 u52 u53 u54 u55 u56 u57 u58 u59 u60 u61 u62 u63 u64 u65 u66 u67 u68 u69 u70 u71 u72 u73 u74 u75 u76 u77 u78 u79 u80 u81 u82 u83 u84 u85 u86 u87 u88 u89 u90 u91 u92 u93 u94 u95 u96 u97 u98 u99 u100 u101 u102 u103 u104 u105 u106 u107 u108 u109 u110 u111 u112 u113 u114 u115 u116 u117 u118 u119 u120 u121 u122 u123 u124 u125 u126 u127 u128 u129 u130 u131 u132 u133 u134 u135 u136 u137 u138 u139 u140 u141 u142 u143 u144 u145 u146 u147 u148 u149 u150 u151 u152 u153 u154 u155 u156 u157 u158 u159 u160 u161 u162 u163 u164 u165 u166 u167 u168 u169 u170 u171 u172 u173 u174 u175 u176 u177 u178 u179 u180 u181 u182 u183 u184 u185 u186 u187 u188 u189 u190 u191 u192 u193 u194 u195 u196 u197 u198 u199 u200 u201 u202 u203 u204 u205 u206 u207 u208 u209 u210 u211 u212 u213 u214 u215 u216 u217 u218 u219 u220 u221 u222 u223 u224 u225 u226 u227 u228 u229 u230 u231 u232 u233 u234 u235 u236 u237 u238 u239 u240 u241 u242 u243 u244 u245 u246 u247 u248 u249 u250 u251 u252 u253 u254 u255 u256 u257 u258 u259 u260 u261 u262 u263 u264 u265 u266 u267 u268 u269 u270 u271 u272 u273 u274 u275 u276 u277 u278 u279 u280 : Value) (W : World), BkW w W w.heap.size (w.heap.size + 1) (.slice f0 l0 c0) (.slice f1 l1 c1) (.slice k0 m0 e0) (.slice k1 m1 e1) → Code.wp Tryd.prog c (bodyPost Tryd.prog Tryd.f4 fun r w' => r = .returned (.bool true) ∧ Below w.heap.size w w') ⟨#[.slice a n cap, .agg #[.slice f0 l0 c0, .slice f1 l1 c1], .agg #[.slice k0 m0 e0, .slice k1 m1 e1], .slice b nb cb, u4, .pointer (some ⟨w.heap.size, 0, none⟩), .pointer (some ⟨w.heap.size + 1, 0, none⟩), u7, u8, u9, u10, u11, u12, u13, u14, u15, u16, u17, u18, u19, u20, u21, u22, u23, u24, u25, u26, u27, u28, u29, u30, u31, u32, u33, u34, u35, u36, u37, u38, u39, u40, u41, u42, u43, u44, u45, u46, u47, u48, u49, u50, u51, u52, u53, u54, u55, u56, u57, u58, u59, u60, u61, u62, u63, u64, u65, u66, u67, u68, u69, u70, u71, u72, u73, u74, u75, u76, u77, u78, u79, u80, u81, u82, u83, u84, u85, u86, u87, u88, u89, u90, u91, u92, u93, u94, u95, u96, u97, u98, u99, u100, u101, u102, u103, u104, u105, u106, u107, u108, u109, u110, u111, u112, u113, u114, u115, u116, u117, u118, u119, u120, u121, u122, u123, u124, u125, u126, u127, u128, u129, u130, u131, u132, u133, u134, u135, u136, u137, u138, u139, u140, u141, u142, u143, u144, u145, u146, u147, u148, u149, u150, u151, u152, u153, u154, u155, u156, u157, u158, u159, u160, u161, u162, u163, u164, u165, u166, u167, u168, u169, u170, u171, u172, u173, u174, u175, u176, u177, u178, u179, u180, u181, u182, u183, u184, u185, u186, u187, u188, u189, u190, u191, u192, u193, u194, u195, u196, u197, u198, u199, u200, u201, u202, u203, u204, u205, u206, u207, u208, u209, u210, u211, u212, u213, u214, u215, u216, u217, u218, u219, u220, u221, u222, u223, u224, u225, u226, u227, u228, u229, u230, u231, u232, u233, u234, u235, u236, u237, u238, u239, u240, u241, u242, u243, u244, u245, u246, u247, u248, u249, u250, u251, u252, u253, u254, u255, u256, u257, u258, u259, u260, u261, u262, u263, u264, u265, u266, u267, u268, u269, u270, u271, u272, u273, u274, u275, u276, u277, u278, u279, u280], []⟩ W
end Go.Proofs.YtkgcbhpgkcfkhaaDoor
