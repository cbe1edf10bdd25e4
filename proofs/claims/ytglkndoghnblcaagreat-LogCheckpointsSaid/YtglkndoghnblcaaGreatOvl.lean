/- The chapter's rows of layer 15 hold. -/
import Derived.Test.YtglkndoghnblcaaGreatOvk
import Derived.Test.YtglkndoghnblcaaGreatOvj
namespace Go.Proofs.YtglkndoghnblcaaGreat
open Go.ChangeShapes Go.WideShapes Go.ChangeAt Go.RowKit
set_option linter.unusedVariables false
set_option linter.unusedSimpArgs false
set_option maxRecDepth 100000 in
set_option maxHeartbeats 2000000 in
theorem kw18 (w : World) (hNext : Blk23 w) : Blk18 w := by
  replace hNext := Lib.hid hNext
  intro a1 c1 a4 c4 a6 c6 a11 c11 b16 u9 u10 u14 u18 u20 u22 u24 u26 u27 u29 u30 u31 u32 u34 u35 u36 u37 u38 u39 u40 u41 u42 u43 u44 u45 u46 u47 u48 u49 u50 u51 u52 u53 u54 u55 u56 u57 u58 u59 u60 u61 u62 u63 u64 u65 u66 u67 u68 u69 u70 u71 u72 u73 u74 u75 u76 u77 u78 u79 u80 u81 u82 u83 u84 u85 u86 u87 u88 u89 u90 u91 u92 u93 u94 u95 u96 u97 u98 u99 u100 u101 u102 u103 u104 u105 u106 u107 u108 u109 u110 u111 u112 u113 u114 u115 u116 u117 u118 u119 u120 u121 u122 u123 u124 u125 u126 u127 u128 u129 u130 u131 u132 u133 u134 u135 u136 u137 u138 u139 u140 u141 u142 u143 u144 u145 u146 u147 u148 u149 u150 u151 u152 u153 u154 u155 u156 u157 u158 u159 u160 u161 u162 u163 u164 u165 u166 u167 u168 u169 u170 u171 u172 u173 u174 u175 u176 u177 u178 u179 u180 u181 u182 u183 u184 u185 u186 u187 u188 u189 u190 u191 u192 u193 u194 u195 u196 u197 u198 u199 u200 u201 u202 u203 u204 u205 u206 u207 u208 u209 u210 u211 u212 u213 u214 u215 u216 u217 u218 u219 u220 u221 u222 u223 u224 u225 u226 u227 u228 u229 u230 u231 u232 u233 u234 u235 u236 u237 u238 u239 u240 u241 u242 u243 u244 u245 u246 u247 u248 u249 u250 u251 u252 u253 u254 u255 u256 u257 u258 u259 u260 u261 u262 u263 u264 u265 u266 u267 u268 u269 u270 u271 u272 u273 u274 u275 W0 hX
  have HX := Lib.hid hX
  clear hX
  obtain ⟨c, hc⟩ : ∃ c, sndC (sndC (sndC (sndC (sndC (sndC (sndC (sndC (sndC (sndC (sndC (sndC (sndC (sndC (sndC (sndC (sndC (sndC bodyK))))))))))))))))) = c := ⟨_, rfl⟩
  rw [hc]
  simp only [bodyK, sndC, Tryz.f10, Option.getD] at hc
  subst hc
  have hmx : Tryz.prog.follows .mixedOrders = true := by kernel_rfl
  have k97 : ∀ W : World, (Instr.makeSlice 22 (.int .i64 4097) (.int .i64 4097)).run Tryz.prog W = .ok (.slice (some ⟨W.heap.size, 0, none⟩) 4097 4097) (W.alloc (zo 4097)) := fun W => mk_run 4097 (by omega) W
  have k96 : ∀ W : World, (Instr.makeSlice 22 (.int .i64 4096) (.int .i64 4096)).run Tryz.prog W = .ok (.slice (some ⟨W.heap.size, 0, none⟩) 4096 4096) (W.alloc (zo 4096)) := fun W => mk_run 4096 (by omega) W
  go_wp2_with fail
  refine (num_law 2 _).mono ?_; rintro r w1 ⟨rfl, rfl⟩
  go_wp2_with fail
  refine (num_law 2 _).mono ?_; rintro r w1 ⟨rfl, rfl⟩
  go_wp2_with fail
  refine (num_law 4 _).mono ?_; rintro r w1 ⟨rfl, rfl⟩
  go_wp2_with fail
  obtain ⟨WP0, rfl⟩ : ∃ W, W = W0 := ⟨_, rfl⟩
  have HBP0 := Lib.hid (Below.refl WP0.heap.size WP0)
  refine (rframe_own (some ⟨WP0.heap.size, 0, none⟩) (List.replicate 4097 0) 4097 4097 (by simp) (by omega) (zo_byt 4097) _ (zo_ls WP0 4097)).mono ?_
  rintro r w0 ⟨a', c', rfl, _, hl, hb⟩
  have HB0 := Lib.hid (step_below (HBP0.out.alloc HBP0.out.size (zo 4097)) hb)
  have hfl := frameL_len (List.replicate 4097 (0 : Int))
  rw [List.length_replicate] at hfl
  have HW := Lib.hid (whole_law a' (frameL (List.replicate 4097 0)) (frameL (List.replicate 4097 0)).length c' rfl (by omega) (frameL_byt (zo_byt 4097)) w0 hl.ls)
  rw [kBig (by simp)] at HW
  obtain ⟨fz, hfz⟩ : ∃ fz, (frameL (List.replicate 4097 (0 : Int))).length = fz := ⟨_, rfl⟩
  rw [hfz] at HW ⊢
  clear hl hb hfl hfz
  go_wp2_with fail
  refine HW.out.mono ?_
  rintro r WP1 ⟨rfl, hb⟩
  have HBP1 := Lib.hid (step_below HB0.out hb)
  clear hb HW HB0 HBP0
  go_wp2_with fail
  refine (rframe_own (some ⟨WP1.heap.size, 0, none⟩) (List.replicate 4096 0) 4096 4096 (by simp) (by omega) (zo_byt 4096) _ (zo_ls WP1 4096)).mono ?_
  rintro r w1 ⟨a', c', rfl, _, hl, hb⟩
  have HB1 := Lib.hid (step_below (HBP1.out.alloc HBP1.out.size (zo 4096)) hb)
  have hfl := frameL_len (List.replicate 4096 (0 : Int))
  rw [List.length_replicate] at hfl
  have HW := Lib.hid (whole_law a' (frameL (List.replicate 4096 0)) (frameL (List.replicate 4096 0)).length c' rfl (by omega) (frameL_byt (zo_byt 4096)) w1 hl.ls)
  rw [kFit (zo_byt 4096) (by simp)] at HW
  obtain ⟨fz, hfz⟩ : ∃ fz, (frameL (List.replicate 4096 (0 : Int))).length = fz := ⟨_, rfl⟩
  rw [hfz] at HW ⊢
  clear hl hb hfl hfz
  go_wp2_with fail
  refine HW.out.mono ?_
  rintro r WP2 ⟨rfl, hb⟩
  have HBP2 := Lib.hid (step_below HB1.out hb)
  clear hb HW HB1 HBP1
  obtain ⟨WS, rfl⟩ : ∃ W, W = WP2 := ⟨_, rfl⟩
  obtain ⟨W0, rfl⟩ : ∃ W, W = WP0 := ⟨_, rfl⟩
  have HWP := HBP2
  clear k97 k96
  go_wp2_with fail
  refine (ltxn_law2 1 1 { data := #[98] } _).mono ?_
  rintro r w5 ⟨g1, p1, rfl, ho1, hok1, h10, h11, h12, hf1, hb1⟩
  have HP1 := Lib.hid (And.intro h10 (And.intro h11 h12))
  have hgl := (own_lt ho1).2
  go_wp2_with fail
  obtain ⟨W2, hW2⟩ : ∃ W2, w5.alloc (.cells #[.int .i64 1, .int .i64 1, .slice (some ⟨g1, 0, none⟩) 1 1] 39) = W2 := ⟨_, rfl⟩
  obtain ⟨b34, hb34⟩ : ∃ b, w5.heap.size = b := ⟨_, rfl⟩
  have bx : BoxC W2 b34 #[.int .i64 1, .int .i64 1, .slice (some ⟨g1, 0, none⟩) 1 1] 39 := by rw [← hW2, ← hb34]; exact BoxC.new _ _ _
  have hb2 : Below w5.heap.size w5 W2 := by rw [← hW2]; exact bl1 _ _
  have HBS := Lib.hid (step_below hb1 hb2)
  have HBX := Lib.hid bx
  have HO1 := Lib.hid ((own_below ho1 hb2).drew)
  have HK1 := Lib.hid ((hok1.below hb2).below (Below.refl _ _).drew)
  have HNE := Lib.hid (show ¬ b34 = g1 by omega)
  have HWS := Lib.hid (show WS.heap.size ≤ b34 by rw [← hb34]; exact hb1.size)
  have HF1 := Lib.hid (show (∀ b, p1.ka = some b → b.block ≠ g1 ∧ b.block ≠ b34) ∧ (∀ b, p1.ra = some b → b.block ≠ g1 ∧ b.block ≠ b34) ∧ (∀ q ∈ p1.R, ∀ b, q.ad = some b → b.block ≠ g1 ∧ b.block ≠ b34) from ⟨fun b e => by have := hf1.1 b e; omega, fun b e => by have := hf1.2.1 b e; omega, fun q hq b e => by have := hf1.2.2 q hq b e; omega⟩)
  rw [hW2, hb34]
  clear hW2 hb34 bx hb2 ho1 hok1 h10 h11 h12 hf1 hb1 hgl
  rename_i KK hKK
  refine Code.wp_mono (Q := Exit.then KK (fun _ _ _ => False)) (fun e a' w' h => by cases e <;> first | exact h | exact h.elim) ?_
  refine wp_region_last (z := 9) (S := (fun X => Below WS.heap.size WS X ∧ BoxC X b34 #[.int .i64 1, .int .i64 1, .slice (some ⟨g1, 0, none⟩) 1 1] 39)) (by kernel_rfl) (⟨HBS.out.drew, HBX.out.below (Below.refl _ _).drew⟩) (fun hHeld => ?_)
  refine wpAnyL_take (i := 0) (oi := { dst := some 178, op := Op.fieldAddr 39 (Operand.tmp 34) 1, type := 0, pos := "law.go:44", after := #[], guard := none }) (v := ?_) (by kernel_rfl) rfl (by kernel_rfl) rfl (by kernel_rfl) (by kernel_rfl) (by kernel_rfl) (fun _ _ _ h => h) (Or.inl ⟨by rfl, ?_⟩) (by assumption) ?_
  rotate_left
  · intro W hSw; go_simp; try with_reducible rfl
  try simp only [Act.put, List.setIfInBounds_toArray, List.set_cons_zero, List.set_cons_succ]
  refine wpAnyL_take (i := 1) (oi := { dst := some 179, op := Op.load 37 (Operand.tmp 178), type := 37, pos := "law.go:44", after := #[{ on := 0, ground := Ground.data }], guard := none }) (v := ?_) (by kernel_rfl) rfl (by kernel_rfl) rfl (by kernel_rfl) (by kernel_rfl) (by kernel_rfl) (fun _ _ _ h => h) (Or.inl ⟨by rfl, ?_⟩) (by assumption) ?_
  rotate_left
  · intro W hSw; have x2 := hSw.2.cell 2; simp only [List.getElem?_toArray, List.getElem?_cons_zero, List.getElem?_cons_succ] at x2; go_simp; try with_reducible rfl
  try simp only [Act.put, List.setIfInBounds_toArray, List.set_cons_zero, List.set_cons_succ]
  refine wpAnyL_ready (rs := [2]) (by kernel_rfl) (by simp) ?_
  refine AllL.cons (o := { dst := some 180, op := Op.call { callee := Callee.value (Operand.func 48), args := #[Operand.const (Value.int IntKind.i64 1), Operand.const (Value.int IntKind.i64 1), Operand.const (Value.string { data := #[97] })], argTypes := #[2, 2, 9] }, type := 39, pos := "law.go:44", after := #[], guard := none }) rfl (fun K hK => ?_) AllL.nil
  go_simp
  refine (ltxn_law2 1 1 { data := #[97] } _).mono ?_; rintro e9 w3 ⟨g2, p2, rfl, ho2, hok2, h20, h21, h22, hf2, hb2⟩
  have hfld : ∀ W : World, (Instr.field 39 (.agg #[.int .i64 1, .int .i64 1, .slice (some ⟨g2, 0, none⟩) 1 1]) 1).run Tryz.prog W = .ok (.slice (some ⟨g2, 0, none⟩) 1 1) W := fun _ => by kernel_rfl
  have hg1 := (own_lt HO1.out).2
  have hb34 := hHeld.2.lt
  have HP2 := Lib.hid (And.intro ho2 (And.intro hok2 (And.intro h20 (And.intro h21 h22))))
  have HF2 := Lib.hid (show (∀ b, p2.ka = some b → b.block ≠ g1 ∧ b.block ≠ b34) ∧ (∀ b, p2.ra = some b → b.block ≠ g1 ∧ b.block ≠ b34) ∧ (∀ q ∈ p2.R, ∀ b, q.ad = some b → b.block ≠ g1 ∧ b.block ≠ b34) from ⟨fun b e => by have := (hf2.1 b e).1; omega, fun b e => by have := (hf2.2.1 b e).1; omega, fun q hq b e => by have := (hf2.2.2 q hq b e).1; omega⟩)
  have HO2 := Lib.hid (own_below HO1.out hb2)
  have HK2 := Lib.hid (HK1.out.below hb2)
  go_wp2_with fail
  refine hK.out _ _ (⟨step_below hHeld.1 hb2, hHeld.2.below hb2⟩) (fun hHeldn => ?_)
  clear hK K hHeld ho2 hok2 h20 h21 h22 hf2 hb2 hg1 hb34; have hHeld := hHeldn; clear hHeldn
  try simp only [Act.put, List.setIfInBounds_toArray, List.set_cons_zero, List.set_cons_succ]
  refine wpAnyL_take (i := 3) (oi := { dst := some 181, op := Op.field 39 (Operand.tmp 180) 1, type := 37, pos := "law.go:44", after := #[{ on := 2, ground := Ground.data }], guard := none }) (v := ?_) (by kernel_rfl) rfl (by kernel_rfl) rfl (by kernel_rfl) (by kernel_rfl) (by kernel_rfl) (fun _ _ _ h => h) (Or.inl ⟨by rfl, ?_⟩) (by assumption) ?_
  rotate_left
  · intro W hSw; go_simp; try with_reducible rfl
  try simp only [Act.put, List.setIfInBounds_toArray, List.set_cons_zero, List.set_cons_succ]
  refine wpAnyL_take (i := 4) (oi := { dst := some 182, op := Op.indexAddr 37 (Operand.tmp 181) (Operand.const (Value.int IntKind.i64 0)), type := 0, pos := "law.go:44", after := #[{ on := 3, ground := Ground.data }], guard := none }) (v := ?_) (by kernel_rfl) rfl (by kernel_rfl) rfl (by kernel_rfl) (by kernel_rfl) (by kernel_rfl) (fun _ _ _ h => h) (Or.inl ⟨by rfl, ?_⟩) (by assumption) ?_
  rotate_left
  · intro W hSw; go_simp; try with_reducible rfl
  try simp only [Act.put, List.setIfInBounds_toArray, List.set_cons_zero, List.set_cons_succ]
  refine wpAnyL_ready (rs := [5]) (by kernel_rfl) (by simp) ?_
  refine AllL.cons (o := { dst := some 183, op := Op.load 51 (Operand.tmp 182), type := 51, pos := "law.go:44", after := #[{ on := 4, ground := Ground.data }], guard := none }) rfl (fun K hK => ?_) AllL.nil
  have y0 : w3.cell? ⟨g2, 0, none⟩ = some (.int .i64 p2.tab) := HP2.out.1.cellAt 0 (by omega)
  have y1 : w3.cell? ⟨g2, 1, none⟩ = some (.slice p2.ka p2.key.length p2.kc) := HP2.out.1.cellAt 1 (by omega)
  have y2 : w3.cell? ⟨g2, 2, none⟩ = some (.slice p2.ra p2.R.length p2.rc) := HP2.out.1.cellAt 2 (by omega)
  go_simp
  refine hK.out _ _ (hHeld) (fun hHeldn => ?_)
  clear hK K hHeld; have hHeld := hHeldn; clear hHeldn
  clear y0 y1 y2
  try simp only [Act.put, List.setIfInBounds_toArray, List.set_cons_zero, List.set_cons_succ]
  refine wpAnyL_ready (rs := [6]) (by kernel_rfl) (by simp) ?_
  refine AllL.cons (o := { dst := some 184, op := Op.buildSlice 37 1 #[(0, Operand.tmp 183)], type := 37, pos := "law.go:44", after := #[{ on := 5, ground := Ground.data }], guard := none }) rfl (fun K hK => ?_) AllL.nil
  go_simp
  refine hK.out _ _ (⟨hHeld.1.alloc hHeld.1.size _, hHeld.2.alloc _⟩) (fun hHeldn => ?_)
  clear hK K hHeld; have hHeld := hHeldn; clear hHeldn
  try simp only [Act.put, List.setIfInBounds_toArray, List.set_cons_zero, List.set_cons_succ]
  refine wpAnyL_ready (rs := [7]) (by kernel_rfl) (by simp) ?_
  refine AllL.cons (o := { dst := some 185, op := Op.call { callee := Callee.builtin Builtin.append, args := #[Operand.tmp 179, Operand.tmp 184], argTypes := #[37, 37] }, type := 37, pos := "law.go:44", after := #[{ on := 1, ground := Ground.data }, { on := 6, ground := Ground.data }, { on := 2, ground := Ground.chain }], guard := none }) rfl (fun K hK => ?_) AllL.nil
  have bq := BoxC.new w3 #[.int .i64 p2.tab, .slice p2.ka p2.key.length p2.kc, .slice p2.ra p2.R.length p2.rc] 51
  have hok2 := HP2.out.2.1.below (bl1 w3 (.cells #[.int .i64 p2.tab, .slice p2.ka p2.key.length p2.kc, .slice p2.ra p2.R.length p2.rc] 51))
  have hok1 := HK2.out.below (bl1 w3 (.cells #[.int .i64 p2.tab, .slice p2.ka p2.key.length p2.kc, .slice p2.ra p2.R.length p2.rc] 51))
  have hown1 := HO2.out.alloc (.cells #[.int .i64 p2.tab, .slice p2.ka p2.key.length p2.kc, .slice p2.ra p2.R.length p2.rc] 51)
  refine step_append_wt rfl _ _ rfl WS.heap.size (.slice (some ⟨g1, 0, none⟩) 1 1) 1 p1.cells rfl hown1 ⟨w3.heap.size, 0, none⟩ 1 p2.cells rfl rfl (fun j u hj => by match j, hj with | 0, hj => (simp [WtP.cells] at hj; subst hj; simp [Addr.add]) | 1, hj => (simp [WtP.cells] at hj; subst hj; simp [Addr.add]) | 2, hj => (simp [WtP.cells] at hj; subst hj; simp [Addr.add]) | j + 3, hj => simp [WtP.cells] at hj) (by intro u hu; simp [WtP.cells] at hu; rcases hu with rfl | rfl | rfl <;> rfl) (by omega) hHeld.1.size ?_
  intro v9 w9 hown9 hgrow9
  obtain ⟨a9, c9, e9⟩ := own_form hown9
  subst e9
  have HBB := Lib.hid (hHeld.1.grown hgrow9 hHeld.1.size (fun j hj => (hown1.lt j hj).1))
  have HBX9 := Lib.hid (hHeld.2.kept hgrow9 (fun e => HNE.out (by simpa [Value.ownBlock] using e)))
  have HO9 := Lib.hid hown9
  have HK19 := Lib.hid (hok1.gr hgrow9 (fun b e => (HF1.out.1 b e).1) (fun b e => (HF1.out.2.1 b e).1) (fun q hq b e => (HF1.out.2.2 q hq b e).1))
  have HK29 := Lib.hid (hok2.gr hgrow9 (fun b e => (HF2.out.1 b e).1) (fun b e => (HF2.out.2.1 b e).1) (fun q hq b e => (HF2.out.2.2 q hq b e).1))
  clear bq hok1 hok2 hown1 hown9 hgrow9
  refine hK.out _ _ (⟨HBB.out, HBX9.out⟩) (fun hHeldn => ?_)
  clear hK K hHeld; have hHeld := hHeldn; clear hHeldn
  try simp only [Act.put, List.setIfInBounds_toArray, List.set_cons_zero, List.set_cons_succ]
  refine wpAnyL_take (i := 8) (oi := { dst := some 186, op := Op.fieldAddr 39 (Operand.tmp 34) 1, type := 0, pos := "law.go:44", after := #[{ on := 0, ground := Ground.phase }, { on := 1, ground := Ground.phase }, { on := 2, ground := Ground.phase }, { on := 3, ground := Ground.phase }, { on := 4, ground := Ground.phase }, { on := 5, ground := Ground.phase }, { on := 6, ground := Ground.phase }, { on := 7, ground := Ground.phase }], guard := none }) (v := ?_) (by kernel_rfl) rfl (by kernel_rfl) rfl (by kernel_rfl) (by kernel_rfl) (by kernel_rfl) (fun _ _ _ h => h) (Or.inl ⟨by rfl, ?_⟩) (by assumption) ?_
  rotate_left
  · intro W hSw; go_simp; try with_reducible rfl
  try simp only [Act.put, List.setIfInBounds_toArray, List.set_cons_zero, List.set_cons_succ]
  refine wpAnyL_ready (rs := [9]) (by kernel_rfl) (by simp) ?_
  refine AllL.last (o := { dst := none, op := Op.store 37 (Operand.tmp 186) (Operand.tmp 185), type := 0, pos := "law.go:44", after := #[{ on := 8, ground := Ground.data }, { on := 7, ground := Ground.data }, { on := 7, ground := Ground.chain }, { on := 0, ground := Ground.phase }, { on := 1, ground := Ground.phase }, { on := 2, ground := Ground.phase }, { on := 3, ground := Ground.phase }, { on := 4, ground := Ground.phase }, { on := 5, ground := Ground.phase }, { on := 6, ground := Ground.phase }, { on := 7, ground := Ground.phase }], guard := none }) rfl (fun K hK => ?_)
  have x2 := hHeld.2.cell 2
  have f2 := hHeld.2.frozen 2
  simp only [List.getElem?_toArray, List.getElem?_cons_zero, List.getElem?_cons_succ] at x2
  go_simp
  refine hK.out _ _ ?_
  clear hK K
  try simp only [Act.put, List.setIfInBounds_toArray, List.set_cons_zero, List.set_cons_succ]
  refine wpAnyL_done (by kernel_rfl) ?_ _
  refine hKK _ _ ?_
  have HB9 := Lib.hid (HBB.out.setCell (p := ⟨b34, 2, none⟩) HWS.out (.slice a9 2 c9))
  have HX9 := Lib.hid (HBX9.out.put 2 (.slice a9 2 c9))
  have hoF := HO9.out.kept (oth_set w9 b34 2 (.slice a9 2 c9)) (box_apart HO9.out HBX9.out (by decide))
  have HWT := Lib.hid (wts_two (g := 0) (c := c9) hoF (HK19.out.off (fun b e => (HF1.out.1 b e).2) (fun b e => (HF1.out.2.1 b e).2) (fun q hq b e => (HF1.out.2.2 q hq b e).2)) (HK29.out.off (fun b e => (HF2.out.1 b e).2) (fun b e => (HF2.out.2.1 b e).2) (fun q hq b e => (HF2.out.2.2 q hq b e).2)))
  clear hoF HO9 HK19 HK29 HBX9 HBB hKK hHeld x2 f2
  generalize w9.setCell ⟨b34, 2, none⟩ (.slice a9 2 c9) = W9 at *
  have q0 := HX9.out.cell 0
  have q1 := HX9.out.cell 1
  have q2 := HX9.out.cell 2
  simp at q0 q1 q2
  have HPT := Lib.hid (puttx_bad 1 1 a9 [p1, p2] 2 c9 rfl (by omega) (fun x hx => by simp only [List.mem_cons, List.not_mem_nil, or_false] at hx; rcases hx with rfl | rfl; exact r1_small HP1.out.2.2; exact r1_small HP2.out.2.2.2.2) (two_bad p1 p2 HP1.out.1 (by rw [HP1.out.2.1]; rfl) HP1.out.2.2 HP2.out.2.2.1 (by rw [HP2.out.2.2.2.1]; rfl) HP2.out.2.2.2.2) W9 HWT.out)
  go_upto_region 22 with (fail)
  go_cut [36] (fun v wx => v = .int .i64 2 ∧ Hid (Below W0.heap.size W0 wx))
  case first =>
    go_wp2_with fail
    refine HPT.out.mono ?_
    rintro r wz ⟨rfl, hbz⟩
    have HBZ := Lib.hid (step_below (step_below HWP.out HB9.out) hbz)
    clear hbz q0 q1 q2
    go_wp2_with fail
    go_meet
    exact ⟨rfl, HBZ⟩
  case rest =>
    obtain ⟨rfl, HBW⟩ := hcut
    rename_i hK
    refine hK _ _ ?_
    have hn' := hNext.out
    unfold Blk23 at hn'
    exact hn' a1 c1 a4 c4 a6 c6 a11 c11 b16 _ _ _ _ _ _ _ _ _ _ _ _ _ _ _ _ _ _ _ _ _ _ _ _ _ _ _ _ _ _ _ _ _ _ _ _ _ _ _ _ _ _ _ _ _ _ _ _ _ _ _ _ _ _ _ _ _ _ _ _ _ _ _ _ _ _ _ _ _ _ _ _ _ _ _ _ _ _ _ _ _ _ _ _ _ _ _ _ _ _ _ _ _ _ _ _ _ _ _ _ _ _ _ _ _ _ _ _ _ _ _ _ _ _ _ _ _ _ _ _ _ _ _ _ _ _ _ _ _ _ _ _ _ _ _ _ _ _ _ _ _ _ _ _ _ _ _ _ _ _ _ _ _ _ _ _ _ _ _ _ _ _ _ _ _ _ _ _ _ _ _ _ _ _ _ _ _ _ _ _ _ _ _ _ _ _ _ _ _ _ _ _ _ _ _ _ _ _ _ _ _ _ _ _ _ _ _ _ _ _ _ _ _ _ _ _ _ _ _ _ _ _ _ _ _ _ _ _ _ _ _ _ _ _ _ _ _ _ _ _ _ _ _ _ _ _ _ _ _ _ _ _ _ _ _ ⟨step_below HX.out.1 HBW.out, (HX.out.2.1.below HBW.out), (HX.out.2.2.1.below HBW.out), (HX.out.2.2.2.1.below HBW.out), (HX.out.2.2.2.2.below HBW.out)⟩
end Go.Proofs.YtglkndoghnblcaaGreat
namespace Go.Proofs.YtglkndoghnblcaaGreat
open Go.ChangeShapes Go.WideShapes Go.ChangeAt Go.RowKit
set_option linter.unusedVariables false
set_option linter.unusedSimpArgs false
set_option maxRecDepth 100000 in
set_option maxHeartbeats 2000000 in
theorem kw23 (w : World) : Blk23 w := by
  intro a1 c1 a4 c4 a6 c6 a11 c11 b16 u9 u10 u14 u18 u20 u22 u24 u26 u27 u29 u30 u31 u32 u34 u35 u37 u38 u39 u40 u41 u42 u43 u44 u45 u46 u47 u48 u49 u50 u51 u52 u53 u54 u55 u56 u57 u58 u59 u60 u61 u62 u63 u64 u65 u66 u67 u68 u69 u70 u71 u72 u73 u74 u75 u76 u77 u78 u79 u80 u81 u82 u83 u84 u85 u86 u87 u88 u89 u90 u91 u92 u93 u94 u95 u96 u97 u98 u99 u100 u101 u102 u103 u104 u105 u106 u107 u108 u109 u110 u111 u112 u113 u114 u115 u116 u117 u118 u119 u120 u121 u122 u123 u124 u125 u126 u127 u128 u129 u130 u131 u132 u133 u134 u135 u136 u137 u138 u139 u140 u141 u142 u143 u144 u145 u146 u147 u148 u149 u150 u151 u152 u153 u154 u155 u156 u157 u158 u159 u160 u161 u162 u163 u164 u165 u166 u167 u168 u169 u170 u171 u172 u173 u174 u175 u176 u177 u178 u179 u180 u181 u182 u183 u184 u185 u186 u187 u188 u189 u190 u191 u192 u193 u194 u195 u196 u197 u198 u199 u200 u201 u202 u203 u204 u205 u206 u207 u208 u209 u210 u211 u212 u213 u214 u215 u216 u217 u218 u219 u220 u221 u222 u223 u224 u225 u226 u227 u228 u229 u230 u231 u232 u233 u234 u235 u236 u237 u238 u239 u240 u241 u242 u243 u244 u245 u246 u247 u248 u249 u250 u251 u252 u253 u254 u255 u256 u257 u258 u259 u260 u261 u262 u263 u264 u265 u266 u267 u268 u269 u270 u271 u272 u273 u274 u275 W0 hX
  have HX := Lib.hid hX
  clear hX
  obtain ⟨c, hc⟩ : ∃ c, sndC (sndC (sndC (sndC (sndC (sndC (sndC (sndC (sndC (sndC (sndC (sndC (sndC (sndC (sndC (sndC (sndC (sndC (sndC (sndC (sndC (sndC bodyK))))))))))))))))))))) = c := ⟨_, rfl⟩
  rw [hc]
  simp only [bodyK, sndC, Tryz.f10, Option.getD] at hc
  subst hc
  have hmx : Tryz.prog.follows .mixedOrders = true := by kernel_rfl
  have HD := Lib.hid HX.out.2.1
  have HQ := Lib.hid HX.out.2.2.2.1
  have HG := Lib.hid HX.out.2.2.2.2
  have hl9 : (frameL [97]).length = 9 := by rw [frameL_len]; rfl
  obtain ⟨bb, off, rfl, x3⟩ := HD.out.get 3 (by omega)
  obtain ⟨_, _, hh, x7⟩ := HD.out.get 7 (by omega)
  cases hh
  obtain ⟨m, hm⟩ : ∃ m : Nat, crcV [97] % 256 = m := ⟨_, rfl⟩
  rw [show (frameL [97]).getD 3 0 = 1 by kernel_rfl] at x3
  rw [show (frameL [97]).getD 7 0 = ((crcV [97] % 256 : Nat) : Int) by kernel_rfl, hm] at x7
  obtain ⟨cv, hcv⟩ : ∃ cv, crcV [97] = cv := ⟨_, rfl⟩
  rw [hcv] at hm ⊢
  have hw7 : IntKind.u8.wrap (cv : Int) = (m : Int) := by rw [IntKind.wrap_u8]; omega
  have hw0 : IntKind.i64.wrap 0 = 0 := by rw [IntKind.wrap_i64] <;> omega
  have e7 : ((m : Int) == (m : Int)) = true := by simp
  clear hm hcv hl9
  go_wp2_with fail
  refine (num_law 0 _).mono ?_; rintro r wq ⟨rfl, rfl⟩
  go_wp2_with fail
  refine (num_law 0 _).mono ?_; rintro r wq ⟨rfl, rfl⟩
  go_wp2_with fail
  refine (num_law 0 _).mono ?_; rintro r wq ⟨rfl, rfl⟩
  go_wp2_with fail
  refine (num_law 0 _).mono ?_; rintro r wq ⟨rfl, rfl⟩
  go_wp2_with fail
  refine (ltxn_law 1 2 { data := #[107] } _).mono ?_
  rintro r w1 ⟨g, p, rfl, ho, hok, h0, h1, h2, hb⟩
  obtain ⟨q, hq1, hq2, hq3⟩ := HQ.out
  obtain ⟨W2, hW2⟩ : ∃ W2, w1.alloc (.cells #[.int .i64 1, .int .i64 2, .slice (some ⟨g, 0, none⟩) 1 1] 39) = W2 := ⟨_, rfl⟩
  have hb2 : Below w1.heap.size w1 W2 := by rw [← hW2]; exact bl1 _ _
  have hB2 := step_below hb hb2
  have bx2 : BoxC W2 w1.heap.size #[.int .i64 1, .int .i64 2, .slice (some ⟨g, 0, none⟩) 1 1] 39 := by rw [← hW2]; exact BoxC.new _ _ _
  have ht : TxqR W2 (some ⟨w1.heap.size, 0, none⟩) [⟨1, 2, some ⟨g, 0, none⟩, 1, [p]⟩] := fun k x hx => by
    have hk : k = 0 := by have := (List.getElem?_eq_some_iff.1 hx).1; simpa using this
    subst hk
    simp only [List.getElem?_cons_zero, Option.some.injEq] at hx
    subst hx
    exact ⟨_, 0, rfl, bx2.cell 0, bx2.cell 1, bx2.cell 2, (wts_of ho hok).below hb2⟩
  have hST := stxns_law a6 (some ⟨w1.heap.size, 0, none⟩) [q] [⟨1, 2, some ⟨g, 0, none⟩, 1, [p]⟩] 1 1 c6 1 rfl rfl (by omega) (by omega) (fun x hx => by simp only [List.mem_singleton] at hx; subst hx; exact hq2) (fun x hx => by simp only [List.mem_singleton] at hx; subst hx; exact ⟨by simp, fun y hy => by simp only [List.mem_singleton] at hy; subst hy; exact r1_small h2⟩) W2 (hq1.below hB2) ht
  have hdd : decide ([q].map txC = [(⟨1, 2, some ⟨g, 0, none⟩, 1, [p]⟩ : TxQ)].map txC) = true := by
    refine decide_eq_true ?_
    simp only [List.map_cons, List.map_nil, hq3]
    unfold txC wtC kTc
    simp only [List.map_cons, List.map_nil, h0, h1, h2]
    rfl
  rw [hdd] at hST
  have HST := Lib.hid hST
  have HB2 := Lib.hid hB2
  clear ho hok h0 h1 h2 hb hq1 hq2 hq3 hb2 hB2 bx2 ht hST hdd
  go_wp2_with fail
  refine HST.out.mono ?_
  rintro r w3 ⟨rfl, hb3⟩
  have HB3 := Lib.hid (step_below HB2.out hb3)
  have x16 : w3.cell? ⟨b16, 0, none⟩ = some (.int .i64 1) := HG.out.below HB3.out
  clear hb3 HST
  go_wp2_with fail
  refine (num_law 4 _).mono ?_; rintro r wq ⟨rfl, rfl⟩
  go_wp2_with fail
  refine (num_law 2 _).mono ?_; rintro r wq ⟨rfl, rfl⟩
  go_wp2_with fail
  refine (num_law 2 _).mono ?_; rintro r wq ⟨rfl, rfl⟩
  go_wp2_with fail
  refine (num_law 2 _).mono ?_; rintro r wq ⟨rfl, rfl⟩
  go_wp2_with fail
  go_ret
  exact ⟨rfl, step_below HX.out.1 HB3.out⟩
end Go.Proofs.YtglkndoghnblcaaGreat
namespace Go.Proofs.YtglkndoghnblcaaGreat
open Go.ChangeShapes Go.WideShapes Go.ChangeAt Go.RowKit
set_option linter.unusedVariables false
set_option linter.unusedSimpArgs false
/-- known (10): the chapter's rows hold. -/
theorem known_law (w : World) : Calls Tryz.prog 10 #[] w fun r w' => r = .returned (.bool true) ∧ Below w.heap.size w w' := kw0 w (kw2 w (kw3 w (kw4 w (kw5 w (kw6 w (kw7 w (kw8 w (kw9 w (kw10 w (kw11 w (kw12 w (kw13 w (kw14 w (kw15 w (kw16 w (kw17 w (kw18 w (kw23 w))))))))))))))))))
end Go.Proofs.YtglkndoghnblcaaGreat
