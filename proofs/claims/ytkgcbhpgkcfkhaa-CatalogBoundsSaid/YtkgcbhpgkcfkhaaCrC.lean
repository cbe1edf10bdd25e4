/- CatalogBounds' walk: piece 2. -/
import Derived.Test.YtkgcbhpgkcfkhaaCrA
namespace Go.Proofs.Ytkgcbhpgkcfkhaa
open Go.ChangeShapes Go.WideShapes Go.ChangeAt Go.RowKit Go.Shelf
set_option linter.unusedVariables false
set_option linter.unusedSimpArgs false
set_option maxRecDepth 100000 in
set_option maxHeartbeats 100000000 in
theorem cbd2 (w : World) (hNext : Blk3 w) : Blk2 w := by
  replace hNext := Lib.hid hNext
  intro t6 t7 u0 u3 u4 u5 u6 u7 u8 u9 u10 u11 u12 u13 u14 u15 u16 u17 u18 u19 u20 u21 u22 u23 u24 u25 u26 u27 u28 u29 u30 u31 u32 u33 u34 u35 u36 u37 u38 u39 u40 u41 u42 u43 u44 u45 u46 u47 u48 u49 u50 u51 u52 u53 u54 u55 u56 u57 u58 u59 u60 u61 u62 u63 u64 u65 u66 u67 u68 u69 u70 u71 u72 u73 u74 u75 u76 u77 u78 u79 u80 u81 u82 u83 u84 u85 u86 u87 u88 u89 u90 u91 u92 u93 u94 u95 u96 u97 u98 u99 u100 u101 u102 u103 u104 u105 u106 u107 u108 u109 u110 u111 u112 u113 u114 u115 u116 u117 u118 u119 u120 u121 u122 u123 u124 u125 u126 u127 u128 u129 u130 u131 u132 u133 u134 u135 u136 u137 u138 u139 u140 u141 u142 u143 u144 u145 u146 u147 u148 u149 u150 u151 u152 u153 u154 u155 u156 u157 u158 u159 u160 u161 u162 u163 u164 u165 u166 u167 u168 u169 u170 u171 u172 u173 u174 u175 u176 u177 u178 u179 u180 u181 u182 u183 u184 u185 u186 u187 u188 u189 u190 u191 u192 u193 u194 u195 u196 u197 u198 u199 u200 u201 u202 u203 u204 u205 u206 u207 u208 u209 u210 u211 u212 u213 u214 u215 u216 u217 u218 u219 u220 u221 u222 u223 u224 u225 u226 u227 u228 u229 u230 u231 u232 u233 u234 u235 u236 u237 u238 u239 u240 u241 u242 u243 u244 u245 u246 u247 u248 u249 u250 u251 u252 u253 u254 u255 u256 u257 u258 u259 u260 u261 u262 u263 u264 u265 u266 u267 u268 u269 u270 u271 u272 u273 u274 u275 u276 u277 u278 u279 u280 u281 u282 u283 u284 u285 u286 u287 u288 u289 u290 u291 u292 u293 u294 u295 u296 u297 u298 wc hX
  have hcut := Lib.hid hX
  clear hX
  obtain ⟨c, hc⟩ : ∃ c, sndC (sndC (sndC (sndC (sndC (sndC (sndC (sndC bodyC))))))) = c := ⟨_, rfl⟩
  rw [hc]
  simp only [bodyC, sndC, Try.f11, Option.getD] at hc
  subst hc
  have hmx : Try.prog.follows .mixedOrders = true := by kernel_rfl
  have HJ := hcut
  clear hcut
  go_wp2_with fail
  refine (job_law _).mono ?_; rintro r W4 ⟨⟨bj, rfl, hj⟩, B4⟩
  unfold kjV
  replace HJ := Lib.hid (HJ.out.below B4)
  have HK := Lib.hid hj
  clear B4 hj
  go_upto_region 17 with (fail)
  have HL := Lib.hid (BoxC.new W4 #[.int .i64 1, .int .i64 2, .int .i64 3, .int .i64 1024, .int .i64 1024, .int .i64 1, .slice (some ⟨bj, 0, none⟩) 2 2] 53)
  have HA := Lib.hid ((Below.refl W4.heap.size W4).alloc (Nat.le_refl _) (.cells #[.int .i64 1, .int .i64 2, .int .i64 3, .int .i64 1024, .int .i64 1024, .int .i64 1, .slice (some ⟨bj, 0, none⟩) 2 2] 53))
  generalize World.alloc _ _ = W5 at HL HA ⊢
  replace HJ := Lib.hid (HJ.out.below HA.out)
  replace HK := Lib.hid (HK.out.below HA.out)
  clear HA
  generalize W4.heap.size = b5 at HL ⊢
  have kc : (convert 24 24 (.slice (some ⟨W5.heap.size, 0, none⟩) 1 1)).run Try.prog (W5.alloc (.cells #[.int .u8 107] 5)) = .ok (.slice (some ⟨W5.heap.size, 0, none⟩) 1 1) (W5.alloc (.cells #[.int .u8 107] 5 (1, 2))) := Lib.run_convert_bytes_const W5 24 5 #[.int .u8 107] 1 1 Try.underlying24 Try.underlying5
  go_upto_region 18 with (fail)
  clear kc
  have HKy := Lib.hid (ls_new .u8 W5 [107] #[.int .u8 107] 5 (1, 2) rfl 1 rfl)
  have HA := Lib.hid ((Below.refl W5.heap.size W5).alloc (Nat.le_refl _) (.cells #[.int .u8 107] 5 (1, 2)))
  generalize World.alloc _ _ = W6 at HKy HA ⊢
  replace HJ := Lib.hid (HJ.out.below HA.out)
  replace HK := Lib.hid (HK.out.below HA.out)
  replace HL := Lib.hid (HL.out.below HA.out)
  clear HA
  generalize W5.heap.size = b6 at HKy ⊢
  go_upto_region 19 with (fail)
  have HC7 := Lib.hid (BoxC.new W6 #[.int .i64 1, .int .i64 0, .int .i64 0, .slice (some ⟨b6, 0, none⟩) 1 1, .slice none 0 0, .int .i64 0, .slice none 0 0] 98)
  have HA := Lib.hid ((Below.refl W6.heap.size W6).alloc (Nat.le_refl _) (.cells #[.int .i64 1, .int .i64 0, .int .i64 0, .slice (some ⟨b6, 0, none⟩) 1 1, .slice none 0 0, .int .i64 0, .slice none 0 0] 98))
  generalize World.alloc _ _ = W7 at HC7 HA ⊢
  replace HJ := Lib.hid (HJ.out.below HA.out)
  replace HK := Lib.hid (HK.out.below HA.out)
  replace HL := Lib.hid (HL.out.below HA.out)
  replace HKy := Lib.hid (HKy.out.below HA.out)
  clear HA
  generalize W6.heap.size = b7 at HC7 ⊢
  have HB := Lib.hid (show BW w w.heap.size bj b5 b6 b7 W7 from ⟨HJ.out.1, HJ.out.job 4 2 15 65536 1048576 100, HJ.out.2.2.2.job, HK.out, HL.out, HKy.out, HC7.out⟩)
  clear HJ HK HL HKy HC7
  have k25 : ∀ W : World, (Instr.makeSlice 24 (.int .i64 25) (.int .i64 25)).run Try.prog W = .ok (.slice (some ⟨W.heap.size, 0, none⟩) 25 25) (W.alloc (zo 25)) := fun W => mk_run 25 (by omega) W
  have k33 : ∀ W : World, (Instr.makeSlice 24 (.int .i64 33) (.int .i64 33)).run Try.prog W = .ok (.slice (some ⟨W.heap.size, 0, none⟩) 33 33) (W.alloc (zo 33)) := fun W => mk_run 33 (by omega) W
  go_cut [8] (fun v wx => ∃ r1 m25 m33 bo : Nat, v = .slice (some ⟨bo, 0, none⟩) 12 12 ∧ Hid (BW w w.heap.size bj b5 b6 b7 wx ∧ OB b6 r1 m25 m33 bo wx))
  case first =>
    refine wp_region_held_drew (S := (fun W => Below W7.heap.size W7 W)) (by kernel_rfl) ((Below.refl _ _).drew) (fun hHeld => ?_)
    refine wpAnyH_take (i := 0) (oi := { dst := some 73, op := Op.move (Operand.tmp 6), type := 24, pos := "law.go:205", after := #[], guard := none }) (v := ?_) rfl (by kernel_rfl) (by kernel_rfl) (by kernel_rfl) (fun _ _ _ h => h) (Or.inl ⟨by rfl, ?_⟩) (by assumption) ?_
    rotate_left
    · intro W hSw; go_simp; try with_reducible rfl
    try simp only [Act.put, List.setIfInBounds_toArray, List.set_cons_zero, List.set_cons_succ]
    refine wpAnyH_take (i := 1) (oi := { dst := some 74, op := Op.build 98 #[(0, Operand.const (Value.int IntKind.i64 1)), (3, Operand.tmp 73), (5, Operand.const (Value.int IntKind.i64 1))], type := 98, pos := "law.go:205", after := #[{ on := 0, ground := Ground.data }], guard := none }) (v := ?_) rfl (by kernel_rfl) (by kernel_rfl) (by kernel_rfl) (fun _ _ _ h => h) (Or.inl ⟨by rfl, ?_⟩) (by assumption) ?_
    rotate_left
    · intro W hSw; go_simp; try with_reducible rfl
    try simp only [Act.put, List.setIfInBounds_toArray, List.set_cons_zero, List.set_cons_succ]
    refine wpAnyH_take (i := 2) (oi := { dst := some 75, op := Op.move (Operand.tmp 6), type := 24, pos := "law.go:205", after := #[], guard := none }) (v := ?_) rfl (by kernel_rfl) (by kernel_rfl) (by kernel_rfl) (fun _ _ _ h => h) (Or.inl ⟨by rfl, ?_⟩) (by assumption) ?_
    rotate_left
    · intro W hSw; go_simp; try with_reducible rfl
    try simp only [Act.put, List.setIfInBounds_toArray, List.set_cons_zero, List.set_cons_succ]
    refine wpAnyH_take (i := 3) (oi := { dst := some 76, op := Op.move (Operand.tmp 6), type := 24, pos := "law.go:205", after := #[], guard := none }) (v := ?_) rfl (by kernel_rfl) (by kernel_rfl) (by kernel_rfl) (fun _ _ _ h => h) (Or.inl ⟨by rfl, ?_⟩) (by assumption) ?_
    rotate_left
    · intro W hSw; go_simp; try with_reducible rfl
    try simp only [Act.put, List.setIfInBounds_toArray, List.set_cons_zero, List.set_cons_succ]
    refine wpAnyH_take (i := 4) (oi := { dst := some 77, op := Op.build 98 #[(0, Operand.const (Value.int IntKind.i64 1)), (3, Operand.tmp 75), (4, Operand.tmp 76)], type := 98, pos := "law.go:205", after := #[{ on := 2, ground := Ground.data }, { on := 3, ground := Ground.data }], guard := none }) (v := ?_) rfl (by kernel_rfl) (by kernel_rfl) (by kernel_rfl) (fun _ _ _ h => h) (Or.inl ⟨by rfl, ?_⟩) (by assumption) ?_
    rotate_left
    · intro W hSw; go_simp; try with_reducible rfl
    try simp only [Act.put, List.setIfInBounds_toArray, List.set_cons_zero, List.set_cons_succ]
    refine wpAnyH_take (i := 5) (oi := { dst := some 78, op := Op.move (Operand.tmp 6), type := 24, pos := "law.go:205", after := #[], guard := none }) (v := ?_) rfl (by kernel_rfl) (by kernel_rfl) (by kernel_rfl) (fun _ _ _ h => h) (Or.inl ⟨by rfl, ?_⟩) (by assumption) ?_
    rotate_left
    · intro W hSw; go_simp; try with_reducible rfl
    try simp only [Act.put, List.setIfInBounds_toArray, List.set_cons_zero, List.set_cons_succ]
    refine wpAnyH_take (i := 6) (oi := { dst := some 79, op := Op.build 98 #[(0, Operand.const (Value.int IntKind.i64 1)), (3, Operand.tmp 78), (2, Operand.const (Value.int IntKind.i64 1))], type := 98, pos := "law.go:205", after := #[{ on := 5, ground := Ground.data }], guard := none }) (v := ?_) rfl (by kernel_rfl) (by kernel_rfl) (by kernel_rfl) (fun _ _ _ h => h) (Or.inl ⟨by rfl, ?_⟩) (by assumption) ?_
    rotate_left
    · intro W hSw; go_simp; try with_reducible rfl
    try simp only [Act.put, List.setIfInBounds_toArray, List.set_cons_zero, List.set_cons_succ]
    refine wpAnyH_take (i := 7) (oi := { dst := some 80, op := Op.move (Operand.tmp 6), type := 24, pos := "law.go:205", after := #[], guard := none }) (v := ?_) rfl (by kernel_rfl) (by kernel_rfl) (by kernel_rfl) (fun _ _ _ h => h) (Or.inl ⟨by rfl, ?_⟩) (by assumption) ?_
    rotate_left
    · intro W hSw; go_simp; try with_reducible rfl
    try simp only [Act.put, List.setIfInBounds_toArray, List.set_cons_zero, List.set_cons_succ]
    refine wpAnyH_take (i := 8) (oi := { dst := some 81, op := Op.move (Operand.tmp 6), type := 24, pos := "law.go:205", after := #[], guard := none }) (v := ?_) rfl (by kernel_rfl) (by kernel_rfl) (by kernel_rfl) (fun _ _ _ h => h) (Or.inl ⟨by rfl, ?_⟩) (by assumption) ?_
    rotate_left
    · intro W hSw; go_simp; try with_reducible rfl
    try simp only [Act.put, List.setIfInBounds_toArray, List.set_cons_zero, List.set_cons_succ]
    refine wpAnyH_take (i := 11) (oi := { dst := some 84, op := Op.build 98 #[(0, Operand.const (Value.int IntKind.i64 1))], type := 98, pos := "law.go:205", after := #[], guard := none }) (v := ?_) rfl (by kernel_rfl) (by kernel_rfl) (by kernel_rfl) (fun _ _ _ h => h) (Or.inl ⟨by rfl, ?_⟩) (by assumption) ?_
    rotate_left
    · intro W hSw; go_simp; try with_reducible rfl
    try simp only [Act.put, List.setIfInBounds_toArray, List.set_cons_zero, List.set_cons_succ]
    refine wpAnyH_take (i := 12) (oi := { dst := some 85, op := Op.move (Operand.tmp 6), type := 24, pos := "law.go:205", after := #[], guard := none }) (v := ?_) rfl (by kernel_rfl) (by kernel_rfl) (by kernel_rfl) (fun _ _ _ h => h) (Or.inl ⟨by rfl, ?_⟩) (by assumption) ?_
    rotate_left
    · intro W hSw; go_simp; try with_reducible rfl
    try simp only [Act.put, List.setIfInBounds_toArray, List.set_cons_zero, List.set_cons_succ]
    refine wpAnyH_take (i := 13) (oi := { dst := some 86, op := Op.build 98 #[(0, Operand.const (Value.int IntKind.i64 7)), (3, Operand.tmp 85)], type := 98, pos := "law.go:205", after := #[{ on := 12, ground := Ground.data }], guard := none }) (v := ?_) rfl (by kernel_rfl) (by kernel_rfl) (by kernel_rfl) (fun _ _ _ h => h) (Or.inl ⟨by rfl, ?_⟩) (by assumption) ?_
    rotate_left
    · intro W hSw; go_simp; try with_reducible rfl
    try simp only [Act.put, List.setIfInBounds_toArray, List.set_cons_zero, List.set_cons_succ]
    refine wpAnyH_take (i := 14) (oi := { dst := some 87, op := Op.build 98 #[(0, Operand.const (Value.int IntKind.i64 5)), (5, Operand.const (Value.int IntKind.i64 1)), (2, Operand.const (Value.int IntKind.i64 1))], type := 98, pos := "law.go:205", after := #[], guard := none }) (v := ?_) rfl (by kernel_rfl) (by kernel_rfl) (by kernel_rfl) (fun _ _ _ h => h) (Or.inl ⟨by rfl, ?_⟩) (by assumption) ?_
    rotate_left
    · intro W hSw; go_simp; try with_reducible rfl
    try simp only [Act.put, List.setIfInBounds_toArray, List.set_cons_zero, List.set_cons_succ]
    refine wpAnyH_take (i := 15) (oi := { dst := some 88, op := Op.build 98 #[(0, Operand.const (Value.int IntKind.i64 6)), (5, Operand.const (Value.int IntKind.i64 1)), (2, Operand.const (Value.int IntKind.i64 2))], type := 98, pos := "law.go:205", after := #[], guard := none }) (v := ?_) rfl (by kernel_rfl) (by kernel_rfl) (by kernel_rfl) (fun _ _ _ h => h) (Or.inl ⟨by rfl, ?_⟩) (by assumption) ?_
    rotate_left
    · intro W hSw; go_simp; try with_reducible rfl
    try simp only [Act.put, List.setIfInBounds_toArray, List.set_cons_zero, List.set_cons_succ]
    refine wpAnyH_take (i := 20) (oi := { dst := some 93, op := Op.build 98 #[(0, Operand.const (Value.int IntKind.i64 5))], type := 98, pos := "law.go:205", after := #[], guard := none }) (v := ?_) rfl (by kernel_rfl) (by kernel_rfl) (by kernel_rfl) (fun _ _ _ h => h) (Or.inl ⟨by rfl, ?_⟩) (by assumption) ?_
    rotate_left
    · intro W hSw; go_simp; try with_reducible rfl
    try simp only [Act.put, List.setIfInBounds_toArray, List.set_cons_zero, List.set_cons_succ]
    refine wpAnyH_take (i := 21) (oi := { dst := some 94, op := Op.move (Operand.tmp 6), type := 24, pos := "law.go:205", after := #[], guard := none }) (v := ?_) rfl (by kernel_rfl) (by kernel_rfl) (by kernel_rfl) (fun _ _ _ h => h) (Or.inl ⟨by rfl, ?_⟩) (by assumption) ?_
    rotate_left
    · intro W hSw; go_simp; try with_reducible rfl
    try simp only [Act.put, List.setIfInBounds_toArray, List.set_cons_zero, List.set_cons_succ]
    refine wpAnyH_take (i := 22) (oi := { dst := some 95, op := Op.build 98 #[(0, Operand.const (Value.int IntKind.i64 1)), (3, Operand.tmp 94), (1, Operand.const (Value.int IntKind.i64 4))], type := 98, pos := "law.go:205", after := #[{ on := 21, ground := Ground.data }], guard := none }) (v := ?_) rfl (by kernel_rfl) (by kernel_rfl) (by kernel_rfl) (fun _ _ _ h => h) (Or.inl ⟨by rfl, ?_⟩) (by assumption) ?_
    rotate_left
    · intro W hSw; go_simp; try with_reducible rfl
    try simp only [Act.put, List.setIfInBounds_toArray, List.set_cons_zero, List.set_cons_succ]
    refine wpAnyH_ready (rs := [9, 16, 18]) (by kernel_rfl) (by simp) ?_
    refine AllReadyH.cons (o := { dst := some 82, op := Op.buildSlice 23 1 #[(0, Operand.tmp 81)], type := 23, pos := "law.go:205", after := #[{ on := 8, ground := Ground.data }], guard := none }) rfl (fun K hK => ?_) ?_
    · skip
      go_simp
      refine hK.out _ _ (hHeld.alloc hHeld.size _) (fun hHeldn => ?_)
      clear hK K hHeld; have hHeld := hHeldn; clear hHeldn
      try simp only [Act.put, List.setIfInBounds_toArray, List.set_cons_zero, List.set_cons_succ]
      refine wpAnyH_take (i := 10) (oi := { dst := some 83, op := Op.build 98 #[(0, Operand.const (Value.int IntKind.i64 1)), (3, Operand.tmp 80), (6, Operand.tmp 82)], type := 98, pos := "law.go:205", after := #[{ on := 7, ground := Ground.data }, { on := 9, ground := Ground.data }], guard := none }) (v := ?_) rfl (by kernel_rfl) (by kernel_rfl) (by kernel_rfl) (fun _ _ _ h => h) (Or.inl ⟨by rfl, ?_⟩) (by assumption) ?_
      rotate_left
      · intro W hSw; go_simp; try with_reducible rfl
      try simp only [Act.put, List.setIfInBounds_toArray, List.set_cons_zero, List.set_cons_succ]
      refine wpAnyH_ready (rs := [16, 18]) (by kernel_rfl) (by simp) ?_
      refine AllReadyH.cons (o := { dst := some 89, op := Op.makeSlice 24 (Operand.const (Value.int IntKind.i64 25)) (Operand.const (Value.int IntKind.i64 25)), type := 24, pos := "law.go:205", after := #[], guard := none }) rfl (fun K hK => ?_) ?_
      · skip
        go_simp
        refine hK.out _ _ (hHeld.alloc hHeld.size _) (fun hHeldn => ?_)
        clear hK K hHeld; have hHeld := hHeldn; clear hHeldn
        try simp only [Act.put, List.setIfInBounds_toArray, List.set_cons_zero, List.set_cons_succ]
        refine wpAnyH_take (i := 17) (oi := { dst := some 90, op := Op.build 98 #[(0, Operand.const (Value.int IntKind.i64 6)), (5, Operand.const (Value.int IntKind.i64 1)), (3, Operand.tmp 89)], type := 98, pos := "law.go:205", after := #[{ on := 16, ground := Ground.data }], guard := none }) (v := ?_) rfl (by kernel_rfl) (by kernel_rfl) (by kernel_rfl) (fun _ _ _ h => h) (Or.inl ⟨by rfl, ?_⟩) (by assumption) ?_
        rotate_left
        · intro W hSw; go_simp; try with_reducible rfl
        try simp only [Act.put, List.setIfInBounds_toArray, List.set_cons_zero, List.set_cons_succ]
        refine wpAnyH_ready (rs := [18]) (by kernel_rfl) (by simp) ?_
        refine AllReadyH.cons (o := { dst := some 91, op := Op.makeSlice 24 (Operand.const (Value.int IntKind.i64 33)) (Operand.const (Value.int IntKind.i64 33)), type := 24, pos := "law.go:205", after := #[], guard := none }) rfl (fun K hK => ?_) AllReadyH.nil
        go_simp
        refine hK.out _ _ (hHeld.alloc hHeld.size _) (fun hHeldn => ?_)
        clear hK K hHeld; have hHeld := hHeldn; clear hHeldn
        try simp only [Act.put, List.setIfInBounds_toArray, List.set_cons_zero, List.set_cons_succ]
        refine wpAnyH_take (i := 19) (oi := { dst := some 92, op := Op.build 98 #[(0, Operand.const (Value.int IntKind.i64 5)), (5, Operand.const (Value.int IntKind.i64 1)), (3, Operand.tmp 91)], type := 98, pos := "law.go:205", after := #[{ on := 18, ground := Ground.data }], guard := none }) (v := ?_) rfl (by kernel_rfl) (by kernel_rfl) (by kernel_rfl) (fun _ _ _ h => h) (Or.inl ⟨by rfl, ?_⟩) (by assumption) ?_
        rotate_left
        · intro W hSw; go_simp; try with_reducible rfl
        try simp only [Act.put, List.setIfInBounds_toArray, List.set_cons_zero, List.set_cons_succ]
        refine wpAnyH_ready (rs := [23]) (by kernel_rfl) (by simp) ?_
        refine AllReadyH.cons (o := { dst := some 96, op := Op.buildSlice 84 12 #[(0, Operand.tmp 74), (1, Operand.tmp 77), (2, Operand.tmp 79), (3, Operand.tmp 83), (4, Operand.tmp 84), (5, Operand.tmp 86), (6, Operand.tmp 87), (7, Operand.tmp 88), (8, Operand.tmp 90), (9, Operand.tmp 92), (10, Operand.tmp 93), (11, Operand.tmp 95)], type := 84, pos := "law.go:205", after := #[{ on := 1, ground := Ground.data }, { on := 4, ground := Ground.data }, { on := 6, ground := Ground.data }, { on := 10, ground := Ground.data }, { on := 11, ground := Ground.data }, { on := 13, ground := Ground.data }, { on := 14, ground := Ground.data }, { on := 15, ground := Ground.data }, { on := 17, ground := Ground.data }, { on := 19, ground := Ground.data }, { on := 20, ground := Ground.data }, { on := 22, ground := Ground.data }], guard := none }) rfl (fun K hK => ?_) AllReadyH.nil
        go_simp
        refine hK.out _ _ (hHeld.alloc hHeld.size _) (fun hHeldn => ?_)
        clear hK K hHeld; have hHeld := hHeldn; clear hHeldn
        try simp only [Act.put, List.setIfInBounds_toArray, List.set_cons_zero, List.set_cons_succ]
        refine wpAnyH_take (i := 24) (oi := { dst := some 8, op := Op.assign (Operand.tmp 96), type := 84, pos := "law.go:205", after := #[{ on := 23, ground := Ground.data }, { on := 0, ground := Ground.phase }, { on := 1, ground := Ground.phase }, { on := 2, ground := Ground.phase }, { on := 3, ground := Ground.phase }, { on := 4, ground := Ground.phase }, { on := 5, ground := Ground.phase }, { on := 6, ground := Ground.phase }, { on := 7, ground := Ground.phase }, { on := 8, ground := Ground.phase }, { on := 9, ground := Ground.phase }, { on := 10, ground := Ground.phase }, { on := 11, ground := Ground.phase }, { on := 12, ground := Ground.phase }, { on := 13, ground := Ground.phase }, { on := 14, ground := Ground.phase }, { on := 15, ground := Ground.phase }, { on := 16, ground := Ground.phase }, { on := 17, ground := Ground.phase }, { on := 18, ground := Ground.phase }, { on := 19, ground := Ground.phase }, { on := 20, ground := Ground.phase }, { on := 21, ground := Ground.phase }, { on := 22, ground := Ground.phase }, { on := 23, ground := Ground.phase }], guard := none }) (v := ?_) rfl (by kernel_rfl) (by kernel_rfl) (by kernel_rfl) (fun _ _ _ h => h) (Or.inl ⟨by rfl, ?_⟩) (by assumption) ?_
        rotate_left
        · intro W hSw; go_simp; try with_reducible rfl
        try simp only [Act.put, List.setIfInBounds_toArray, List.set_cons_zero, List.set_cons_succ]
        refine wpAnyH_done (by kernel_rfl) ?_ _
        go_wp2_with fail
        go_meet
        exact ⟨W7.heap.size, W7.heap.size + 1, W7.heap.size + 1 + 1, W7.heap.size + 1 + 1 + 1, rfl, Lib.hid ⟨HB.out.below hHeld, ⟨al_box (((W7.drew.alloc (.cells #[.slice (some ⟨b6, 0, none⟩) 1 1] 24)).alloc (zo 25)).alloc (zo 33)) _ (by simp) _ 98, (al_row W7.drew _ (by first | rfl | simp) b6 (HB.out.key.below (show Below W7.heap.size W7 _ from (Below.refl _ _).drew))).below (bl3 _ _ _ _), (al_zs (W7.drew.alloc (.cells #[.slice (some ⟨b6, 0, none⟩) 1 1] 24)) _ (by first | rfl | simp) 25).below (bl2 _ _ _), (al_zs ((W7.drew.alloc (.cells #[.slice (some ⟨b6, 0, none⟩) 1 1] 24)).alloc (zo 25)) _ (by first | rfl | simp) 33).below (bl1 _ _)⟩⟩⟩
      refine AllReadyH.cons (o := { dst := some 91, op := Op.makeSlice 24 (Operand.const (Value.int IntKind.i64 33)) (Operand.const (Value.int IntKind.i64 33)), type := 24, pos := "law.go:205", after := #[], guard := none }) rfl (fun K hK => ?_) AllReadyH.nil
      go_simp
      refine hK.out _ _ (hHeld.alloc hHeld.size _) (fun hHeldn => ?_)
      clear hK K hHeld; have hHeld := hHeldn; clear hHeldn
      try simp only [Act.put, List.setIfInBounds_toArray, List.set_cons_zero, List.set_cons_succ]
      refine wpAnyH_take (i := 19) (oi := { dst := some 92, op := Op.build 98 #[(0, Operand.const (Value.int IntKind.i64 5)), (5, Operand.const (Value.int IntKind.i64 1)), (3, Operand.tmp 91)], type := 98, pos := "law.go:205", after := #[{ on := 18, ground := Ground.data }], guard := none }) (v := ?_) rfl (by kernel_rfl) (by kernel_rfl) (by kernel_rfl) (fun _ _ _ h => h) (Or.inl ⟨by rfl, ?_⟩) (by assumption) ?_
      rotate_left
      · intro W hSw; go_simp; try with_reducible rfl
      try simp only [Act.put, List.setIfInBounds_toArray, List.set_cons_zero, List.set_cons_succ]
      refine wpAnyH_ready (rs := [16]) (by kernel_rfl) (by simp) ?_
      refine AllReadyH.cons (o := { dst := some 89, op := Op.makeSlice 24 (Operand.const (Value.int IntKind.i64 25)) (Operand.const (Value.int IntKind.i64 25)), type := 24, pos := "law.go:205", after := #[], guard := none }) rfl (fun K hK => ?_) AllReadyH.nil
      go_simp
      refine hK.out _ _ (hHeld.alloc hHeld.size _) (fun hHeldn => ?_)
      clear hK K hHeld; have hHeld := hHeldn; clear hHeldn
      try simp only [Act.put, List.setIfInBounds_toArray, List.set_cons_zero, List.set_cons_succ]
      refine wpAnyH_take (i := 17) (oi := { dst := some 90, op := Op.build 98 #[(0, Operand.const (Value.int IntKind.i64 6)), (5, Operand.const (Value.int IntKind.i64 1)), (3, Operand.tmp 89)], type := 98, pos := "law.go:205", after := #[{ on := 16, ground := Ground.data }], guard := none }) (v := ?_) rfl (by kernel_rfl) (by kernel_rfl) (by kernel_rfl) (fun _ _ _ h => h) (Or.inl ⟨by rfl, ?_⟩) (by assumption) ?_
      rotate_left
      · intro W hSw; go_simp; try with_reducible rfl
      try simp only [Act.put, List.setIfInBounds_toArray, List.set_cons_zero, List.set_cons_succ]
      refine wpAnyH_ready (rs := [23]) (by kernel_rfl) (by simp) ?_
      refine AllReadyH.cons (o := { dst := some 96, op := Op.buildSlice 84 12 #[(0, Operand.tmp 74), (1, Operand.tmp 77), (2, Operand.tmp 79), (3, Operand.tmp 83), (4, Operand.tmp 84), (5, Operand.tmp 86), (6, Operand.tmp 87), (7, Operand.tmp 88), (8, Operand.tmp 90), (9, Operand.tmp 92), (10, Operand.tmp 93), (11, Operand.tmp 95)], type := 84, pos := "law.go:205", after := #[{ on := 1, ground := Ground.data }, { on := 4, ground := Ground.data }, { on := 6, ground := Ground.data }, { on := 10, ground := Ground.data }, { on := 11, ground := Ground.data }, { on := 13, ground := Ground.data }, { on := 14, ground := Ground.data }, { on := 15, ground := Ground.data }, { on := 17, ground := Ground.data }, { on := 19, ground := Ground.data }, { on := 20, ground := Ground.data }, { on := 22, ground := Ground.data }], guard := none }) rfl (fun K hK => ?_) AllReadyH.nil
      go_simp
      refine hK.out _ _ (hHeld.alloc hHeld.size _) (fun hHeldn => ?_)
      clear hK K hHeld; have hHeld := hHeldn; clear hHeldn
      try simp only [Act.put, List.setIfInBounds_toArray, List.set_cons_zero, List.set_cons_succ]
      refine wpAnyH_take (i := 24) (oi := { dst := some 8, op := Op.assign (Operand.tmp 96), type := 84, pos := "law.go:205", after := #[{ on := 23, ground := Ground.data }, { on := 0, ground := Ground.phase }, { on := 1, ground := Ground.phase }, { on := 2, ground := Ground.phase }, { on := 3, ground := Ground.phase }, { on := 4, ground := Ground.phase }, { on := 5, ground := Ground.phase }, { on := 6, ground := Ground.phase }, { on := 7, ground := Ground.phase }, { on := 8, ground := Ground.phase }, { on := 9, ground := Ground.phase }, { on := 10, ground := Ground.phase }, { on := 11, ground := Ground.phase }, { on := 12, ground := Ground.phase }, { on := 13, ground := Ground.phase }, { on := 14, ground := Ground.phase }, { on := 15, ground := Ground.phase }, { on := 16, ground := Ground.phase }, { on := 17, ground := Ground.phase }, { on := 18, ground := Ground.phase }, { on := 19, ground := Ground.phase }, { on := 20, ground := Ground.phase }, { on := 21, ground := Ground.phase }, { on := 22, ground := Ground.phase }, { on := 23, ground := Ground.phase }], guard := none }) (v := ?_) rfl (by kernel_rfl) (by kernel_rfl) (by kernel_rfl) (fun _ _ _ h => h) (Or.inl ⟨by rfl, ?_⟩) (by assumption) ?_
      rotate_left
      · intro W hSw; go_simp; try with_reducible rfl
      try simp only [Act.put, List.setIfInBounds_toArray, List.set_cons_zero, List.set_cons_succ]
      refine wpAnyH_done (by kernel_rfl) ?_ _
      go_wp2_with fail
      go_meet
      exact ⟨W7.heap.size, W7.heap.size + 1 + 1, W7.heap.size + 1, W7.heap.size + 1 + 1 + 1, rfl, Lib.hid ⟨HB.out.below hHeld, ⟨al_box (((W7.drew.alloc (.cells #[.slice (some ⟨b6, 0, none⟩) 1 1] 24)).alloc (zo 33)).alloc (zo 25)) _ (by simp) _ 98, (al_row W7.drew _ (by first | rfl | simp) b6 (HB.out.key.below (show Below W7.heap.size W7 _ from (Below.refl _ _).drew))).below (bl3 _ _ _ _), (al_zs ((W7.drew.alloc (.cells #[.slice (some ⟨b6, 0, none⟩) 1 1] 24)).alloc (zo 33)) _ (by first | rfl | simp) 25).below (bl1 _ _), (al_zs (W7.drew.alloc (.cells #[.slice (some ⟨b6, 0, none⟩) 1 1] 24)) _ (by first | rfl | simp) 33).below (bl2 _ _ _)⟩⟩⟩
    refine AllReadyH.cons (o := { dst := some 89, op := Op.makeSlice 24 (Operand.const (Value.int IntKind.i64 25)) (Operand.const (Value.int IntKind.i64 25)), type := 24, pos := "law.go:205", after := #[], guard := none }) rfl (fun K hK => ?_) ?_
    · skip
      go_simp
      refine hK.out _ _ (hHeld.alloc hHeld.size _) (fun hHeldn => ?_)
      clear hK K hHeld; have hHeld := hHeldn; clear hHeldn
      try simp only [Act.put, List.setIfInBounds_toArray, List.set_cons_zero, List.set_cons_succ]
      refine wpAnyH_take (i := 17) (oi := { dst := some 90, op := Op.build 98 #[(0, Operand.const (Value.int IntKind.i64 6)), (5, Operand.const (Value.int IntKind.i64 1)), (3, Operand.tmp 89)], type := 98, pos := "law.go:205", after := #[{ on := 16, ground := Ground.data }], guard := none }) (v := ?_) rfl (by kernel_rfl) (by kernel_rfl) (by kernel_rfl) (fun _ _ _ h => h) (Or.inl ⟨by rfl, ?_⟩) (by assumption) ?_
      rotate_left
      · intro W hSw; go_simp; try with_reducible rfl
      try simp only [Act.put, List.setIfInBounds_toArray, List.set_cons_zero, List.set_cons_succ]
      refine wpAnyH_ready (rs := [9, 18]) (by kernel_rfl) (by simp) ?_
      refine AllReadyH.cons (o := { dst := some 82, op := Op.buildSlice 23 1 #[(0, Operand.tmp 81)], type := 23, pos := "law.go:205", after := #[{ on := 8, ground := Ground.data }], guard := none }) rfl (fun K hK => ?_) ?_
      · skip
        go_simp
        refine hK.out _ _ (hHeld.alloc hHeld.size _) (fun hHeldn => ?_)
        clear hK K hHeld; have hHeld := hHeldn; clear hHeldn
        try simp only [Act.put, List.setIfInBounds_toArray, List.set_cons_zero, List.set_cons_succ]
        refine wpAnyH_take (i := 10) (oi := { dst := some 83, op := Op.build 98 #[(0, Operand.const (Value.int IntKind.i64 1)), (3, Operand.tmp 80), (6, Operand.tmp 82)], type := 98, pos := "law.go:205", after := #[{ on := 7, ground := Ground.data }, { on := 9, ground := Ground.data }], guard := none }) (v := ?_) rfl (by kernel_rfl) (by kernel_rfl) (by kernel_rfl) (fun _ _ _ h => h) (Or.inl ⟨by rfl, ?_⟩) (by assumption) ?_
        rotate_left
        · intro W hSw; go_simp; try with_reducible rfl
        try simp only [Act.put, List.setIfInBounds_toArray, List.set_cons_zero, List.set_cons_succ]
        refine wpAnyH_ready (rs := [18]) (by kernel_rfl) (by simp) ?_
        refine AllReadyH.cons (o := { dst := some 91, op := Op.makeSlice 24 (Operand.const (Value.int IntKind.i64 33)) (Operand.const (Value.int IntKind.i64 33)), type := 24, pos := "law.go:205", after := #[], guard := none }) rfl (fun K hK => ?_) AllReadyH.nil
        go_simp
        refine hK.out _ _ (hHeld.alloc hHeld.size _) (fun hHeldn => ?_)
        clear hK K hHeld; have hHeld := hHeldn; clear hHeldn
        try simp only [Act.put, List.setIfInBounds_toArray, List.set_cons_zero, List.set_cons_succ]
        refine wpAnyH_take (i := 19) (oi := { dst := some 92, op := Op.build 98 #[(0, Operand.const (Value.int IntKind.i64 5)), (5, Operand.const (Value.int IntKind.i64 1)), (3, Operand.tmp 91)], type := 98, pos := "law.go:205", after := #[{ on := 18, ground := Ground.data }], guard := none }) (v := ?_) rfl (by kernel_rfl) (by kernel_rfl) (by kernel_rfl) (fun _ _ _ h => h) (Or.inl ⟨by rfl, ?_⟩) (by assumption) ?_
        rotate_left
        · intro W hSw; go_simp; try with_reducible rfl
        try simp only [Act.put, List.setIfInBounds_toArray, List.set_cons_zero, List.set_cons_succ]
        refine wpAnyH_ready (rs := [23]) (by kernel_rfl) (by simp) ?_
        refine AllReadyH.cons (o := { dst := some 96, op := Op.buildSlice 84 12 #[(0, Operand.tmp 74), (1, Operand.tmp 77), (2, Operand.tmp 79), (3, Operand.tmp 83), (4, Operand.tmp 84), (5, Operand.tmp 86), (6, Operand.tmp 87), (7, Operand.tmp 88), (8, Operand.tmp 90), (9, Operand.tmp 92), (10, Operand.tmp 93), (11, Operand.tmp 95)], type := 84, pos := "law.go:205", after := #[{ on := 1, ground := Ground.data }, { on := 4, ground := Ground.data }, { on := 6, ground := Ground.data }, { on := 10, ground := Ground.data }, { on := 11, ground := Ground.data }, { on := 13, ground := Ground.data }, { on := 14, ground := Ground.data }, { on := 15, ground := Ground.data }, { on := 17, ground := Ground.data }, { on := 19, ground := Ground.data }, { on := 20, ground := Ground.data }, { on := 22, ground := Ground.data }], guard := none }) rfl (fun K hK => ?_) AllReadyH.nil
        go_simp
        refine hK.out _ _ (hHeld.alloc hHeld.size _) (fun hHeldn => ?_)
        clear hK K hHeld; have hHeld := hHeldn; clear hHeldn
        try simp only [Act.put, List.setIfInBounds_toArray, List.set_cons_zero, List.set_cons_succ]
        refine wpAnyH_take (i := 24) (oi := { dst := some 8, op := Op.assign (Operand.tmp 96), type := 84, pos := "law.go:205", after := #[{ on := 23, ground := Ground.data }, { on := 0, ground := Ground.phase }, { on := 1, ground := Ground.phase }, { on := 2, ground := Ground.phase }, { on := 3, ground := Ground.phase }, { on := 4, ground := Ground.phase }, { on := 5, ground := Ground.phase }, { on := 6, ground := Ground.phase }, { on := 7, ground := Ground.phase }, { on := 8, ground := Ground.phase }, { on := 9, ground := Ground.phase }, { on := 10, ground := Ground.phase }, { on := 11, ground := Ground.phase }, { on := 12, ground := Ground.phase }, { on := 13, ground := Ground.phase }, { on := 14, ground := Ground.phase }, { on := 15, ground := Ground.phase }, { on := 16, ground := Ground.phase }, { on := 17, ground := Ground.phase }, { on := 18, ground := Ground.phase }, { on := 19, ground := Ground.phase }, { on := 20, ground := Ground.phase }, { on := 21, ground := Ground.phase }, { on := 22, ground := Ground.phase }, { on := 23, ground := Ground.phase }], guard := none }) (v := ?_) rfl (by kernel_rfl) (by kernel_rfl) (by kernel_rfl) (fun _ _ _ h => h) (Or.inl ⟨by rfl, ?_⟩) (by assumption) ?_
        rotate_left
        · intro W hSw; go_simp; try with_reducible rfl
        try simp only [Act.put, List.setIfInBounds_toArray, List.set_cons_zero, List.set_cons_succ]
        refine wpAnyH_done (by kernel_rfl) ?_ _
        go_wp2_with fail
        go_meet
        exact ⟨W7.heap.size + 1, W7.heap.size, W7.heap.size + 1 + 1, W7.heap.size + 1 + 1 + 1, rfl, Lib.hid ⟨HB.out.below hHeld, ⟨al_box (((W7.drew.alloc (zo 25)).alloc (.cells #[.slice (some ⟨b6, 0, none⟩) 1 1] 24)).alloc (zo 33)) _ (by simp) _ 98, (al_row (W7.drew.alloc (zo 25)) _ (by first | rfl | simp) b6 (HB.out.key.below (show Below W7.heap.size W7 _ from below_trans' (Below.refl _ _).drew (bl1 _ _)))).below (bl2 _ _ _), (al_zs W7.drew _ (by first | rfl | simp) 25).below (bl3 _ _ _ _), (al_zs ((W7.drew.alloc (zo 25)).alloc (.cells #[.slice (some ⟨b6, 0, none⟩) 1 1] 24)) _ (by first | rfl | simp) 33).below (bl1 _ _)⟩⟩⟩
      refine AllReadyH.cons (o := { dst := some 91, op := Op.makeSlice 24 (Operand.const (Value.int IntKind.i64 33)) (Operand.const (Value.int IntKind.i64 33)), type := 24, pos := "law.go:205", after := #[], guard := none }) rfl (fun K hK => ?_) AllReadyH.nil
      go_simp
      refine hK.out _ _ (hHeld.alloc hHeld.size _) (fun hHeldn => ?_)
      clear hK K hHeld; have hHeld := hHeldn; clear hHeldn
      try simp only [Act.put, List.setIfInBounds_toArray, List.set_cons_zero, List.set_cons_succ]
      refine wpAnyH_take (i := 19) (oi := { dst := some 92, op := Op.build 98 #[(0, Operand.const (Value.int IntKind.i64 5)), (5, Operand.const (Value.int IntKind.i64 1)), (3, Operand.tmp 91)], type := 98, pos := "law.go:205", after := #[{ on := 18, ground := Ground.data }], guard := none }) (v := ?_) rfl (by kernel_rfl) (by kernel_rfl) (by kernel_rfl) (fun _ _ _ h => h) (Or.inl ⟨by rfl, ?_⟩) (by assumption) ?_
      rotate_left
      · intro W hSw; go_simp; try with_reducible rfl
      try simp only [Act.put, List.setIfInBounds_toArray, List.set_cons_zero, List.set_cons_succ]
      refine wpAnyH_ready (rs := [9]) (by kernel_rfl) (by simp) ?_
      refine AllReadyH.cons (o := { dst := some 82, op := Op.buildSlice 23 1 #[(0, Operand.tmp 81)], type := 23, pos := "law.go:205", after := #[{ on := 8, ground := Ground.data }], guard := none }) rfl (fun K hK => ?_) AllReadyH.nil
      go_simp
      refine hK.out _ _ (hHeld.alloc hHeld.size _) (fun hHeldn => ?_)
      clear hK K hHeld; have hHeld := hHeldn; clear hHeldn
      try simp only [Act.put, List.setIfInBounds_toArray, List.set_cons_zero, List.set_cons_succ]
      refine wpAnyH_take (i := 10) (oi := { dst := some 83, op := Op.build 98 #[(0, Operand.const (Value.int IntKind.i64 1)), (3, Operand.tmp 80), (6, Operand.tmp 82)], type := 98, pos := "law.go:205", after := #[{ on := 7, ground := Ground.data }, { on := 9, ground := Ground.data }], guard := none }) (v := ?_) rfl (by kernel_rfl) (by kernel_rfl) (by kernel_rfl) (fun _ _ _ h => h) (Or.inl ⟨by rfl, ?_⟩) (by assumption) ?_
      rotate_left
      · intro W hSw; go_simp; try with_reducible rfl
      try simp only [Act.put, List.setIfInBounds_toArray, List.set_cons_zero, List.set_cons_succ]
      refine wpAnyH_ready (rs := [23]) (by kernel_rfl) (by simp) ?_
      refine AllReadyH.cons (o := { dst := some 96, op := Op.buildSlice 84 12 #[(0, Operand.tmp 74), (1, Operand.tmp 77), (2, Operand.tmp 79), (3, Operand.tmp 83), (4, Operand.tmp 84), (5, Operand.tmp 86), (6, Operand.tmp 87), (7, Operand.tmp 88), (8, Operand.tmp 90), (9, Operand.tmp 92), (10, Operand.tmp 93), (11, Operand.tmp 95)], type := 84, pos := "law.go:205", after := #[{ on := 1, ground := Ground.data }, { on := 4, ground := Ground.data }, { on := 6, ground := Ground.data }, { on := 10, ground := Ground.data }, { on := 11, ground := Ground.data }, { on := 13, ground := Ground.data }, { on := 14, ground := Ground.data }, { on := 15, ground := Ground.data }, { on := 17, ground := Ground.data }, { on := 19, ground := Ground.data }, { on := 20, ground := Ground.data }, { on := 22, ground := Ground.data }], guard := none }) rfl (fun K hK => ?_) AllReadyH.nil
      go_simp
      refine hK.out _ _ (hHeld.alloc hHeld.size _) (fun hHeldn => ?_)
      clear hK K hHeld; have hHeld := hHeldn; clear hHeldn
      try simp only [Act.put, List.setIfInBounds_toArray, List.set_cons_zero, List.set_cons_succ]
      refine wpAnyH_take (i := 24) (oi := { dst := some 8, op := Op.assign (Operand.tmp 96), type := 84, pos := "law.go:205", after := #[{ on := 23, ground := Ground.data }, { on := 0, ground := Ground.phase }, { on := 1, ground := Ground.phase }, { on := 2, ground := Ground.phase }, { on := 3, ground := Ground.phase }, { on := 4, ground := Ground.phase }, { on := 5, ground := Ground.phase }, { on := 6, ground := Ground.phase }, { on := 7, ground := Ground.phase }, { on := 8, ground := Ground.phase }, { on := 9, ground := Ground.phase }, { on := 10, ground := Ground.phase }, { on := 11, ground := Ground.phase }, { on := 12, ground := Ground.phase }, { on := 13, ground := Ground.phase }, { on := 14, ground := Ground.phase }, { on := 15, ground := Ground.phase }, { on := 16, ground := Ground.phase }, { on := 17, ground := Ground.phase }, { on := 18, ground := Ground.phase }, { on := 19, ground := Ground.phase }, { on := 20, ground := Ground.phase }, { on := 21, ground := Ground.phase }, { on := 22, ground := Ground.phase }, { on := 23, ground := Ground.phase }], guard := none }) (v := ?_) rfl (by kernel_rfl) (by kernel_rfl) (by kernel_rfl) (fun _ _ _ h => h) (Or.inl ⟨by rfl, ?_⟩) (by assumption) ?_
      rotate_left
      · intro W hSw; go_simp; try with_reducible rfl
      try simp only [Act.put, List.setIfInBounds_toArray, List.set_cons_zero, List.set_cons_succ]
      refine wpAnyH_done (by kernel_rfl) ?_ _
      go_wp2_with fail
      go_meet
      exact ⟨W7.heap.size + 1 + 1, W7.heap.size, W7.heap.size + 1, W7.heap.size + 1 + 1 + 1, rfl, Lib.hid ⟨HB.out.below hHeld, ⟨al_box (((W7.drew.alloc (zo 25)).alloc (zo 33)).alloc (.cells #[.slice (some ⟨b6, 0, none⟩) 1 1] 24)) _ (by simp) _ 98, (al_row ((W7.drew.alloc (zo 25)).alloc (zo 33)) _ (by first | rfl | simp) b6 (HB.out.key.below (show Below W7.heap.size W7 _ from below_trans' (Below.refl _ _).drew (bl2 _ _ _)))).below (bl1 _ _), (al_zs W7.drew _ (by first | rfl | simp) 25).below (bl3 _ _ _ _), (al_zs (W7.drew.alloc (zo 25)) _ (by first | rfl | simp) 33).below (bl2 _ _ _)⟩⟩⟩
    refine AllReadyH.cons (o := { dst := some 91, op := Op.makeSlice 24 (Operand.const (Value.int IntKind.i64 33)) (Operand.const (Value.int IntKind.i64 33)), type := 24, pos := "law.go:205", after := #[], guard := none }) rfl (fun K hK => ?_) AllReadyH.nil
    go_simp
    refine hK.out _ _ (hHeld.alloc hHeld.size _) (fun hHeldn => ?_)
    clear hK K hHeld; have hHeld := hHeldn; clear hHeldn
    try simp only [Act.put, List.setIfInBounds_toArray, List.set_cons_zero, List.set_cons_succ]
    refine wpAnyH_take (i := 19) (oi := { dst := some 92, op := Op.build 98 #[(0, Operand.const (Value.int IntKind.i64 5)), (5, Operand.const (Value.int IntKind.i64 1)), (3, Operand.tmp 91)], type := 98, pos := "law.go:205", after := #[{ on := 18, ground := Ground.data }], guard := none }) (v := ?_) rfl (by kernel_rfl) (by kernel_rfl) (by kernel_rfl) (fun _ _ _ h => h) (Or.inl ⟨by rfl, ?_⟩) (by assumption) ?_
    rotate_left
    · intro W hSw; go_simp; try with_reducible rfl
    try simp only [Act.put, List.setIfInBounds_toArray, List.set_cons_zero, List.set_cons_succ]
    refine wpAnyH_ready (rs := [9, 16]) (by kernel_rfl) (by simp) ?_
    refine AllReadyH.cons (o := { dst := some 82, op := Op.buildSlice 23 1 #[(0, Operand.tmp 81)], type := 23, pos := "law.go:205", after := #[{ on := 8, ground := Ground.data }], guard := none }) rfl (fun K hK => ?_) ?_
    · skip
      go_simp
      refine hK.out _ _ (hHeld.alloc hHeld.size _) (fun hHeldn => ?_)
      clear hK K hHeld; have hHeld := hHeldn; clear hHeldn
      try simp only [Act.put, List.setIfInBounds_toArray, List.set_cons_zero, List.set_cons_succ]
      refine wpAnyH_take (i := 10) (oi := { dst := some 83, op := Op.build 98 #[(0, Operand.const (Value.int IntKind.i64 1)), (3, Operand.tmp 80), (6, Operand.tmp 82)], type := 98, pos := "law.go:205", after := #[{ on := 7, ground := Ground.data }, { on := 9, ground := Ground.data }], guard := none }) (v := ?_) rfl (by kernel_rfl) (by kernel_rfl) (by kernel_rfl) (fun _ _ _ h => h) (Or.inl ⟨by rfl, ?_⟩) (by assumption) ?_
      rotate_left
      · intro W hSw; go_simp; try with_reducible rfl
      try simp only [Act.put, List.setIfInBounds_toArray, List.set_cons_zero, List.set_cons_succ]
      refine wpAnyH_ready (rs := [16]) (by kernel_rfl) (by simp) ?_
      refine AllReadyH.cons (o := { dst := some 89, op := Op.makeSlice 24 (Operand.const (Value.int IntKind.i64 25)) (Operand.const (Value.int IntKind.i64 25)), type := 24, pos := "law.go:205", after := #[], guard := none }) rfl (fun K hK => ?_) AllReadyH.nil
      go_simp
      refine hK.out _ _ (hHeld.alloc hHeld.size _) (fun hHeldn => ?_)
      clear hK K hHeld; have hHeld := hHeldn; clear hHeldn
      try simp only [Act.put, List.setIfInBounds_toArray, List.set_cons_zero, List.set_cons_succ]
      refine wpAnyH_take (i := 17) (oi := { dst := some 90, op := Op.build 98 #[(0, Operand.const (Value.int IntKind.i64 6)), (5, Operand.const (Value.int IntKind.i64 1)), (3, Operand.tmp 89)], type := 98, pos := "law.go:205", after := #[{ on := 16, ground := Ground.data }], guard := none }) (v := ?_) rfl (by kernel_rfl) (by kernel_rfl) (by kernel_rfl) (fun _ _ _ h => h) (Or.inl ⟨by rfl, ?_⟩) (by assumption) ?_
      rotate_left
      · intro W hSw; go_simp; try with_reducible rfl
      try simp only [Act.put, List.setIfInBounds_toArray, List.set_cons_zero, List.set_cons_succ]
      refine wpAnyH_ready (rs := [23]) (by kernel_rfl) (by simp) ?_
      refine AllReadyH.cons (o := { dst := some 96, op := Op.buildSlice 84 12 #[(0, Operand.tmp 74), (1, Operand.tmp 77), (2, Operand.tmp 79), (3, Operand.tmp 83), (4, Operand.tmp 84), (5, Operand.tmp 86), (6, Operand.tmp 87), (7, Operand.tmp 88), (8, Operand.tmp 90), (9, Operand.tmp 92), (10, Operand.tmp 93), (11, Operand.tmp 95)], type := 84, pos := "law.go:205", after := #[{ on := 1, ground := Ground.data }, { on := 4, ground := Ground.data }, { on := 6, ground := Ground.data }, { on := 10, ground := Ground.data }, { on := 11, ground := Ground.data }, { on := 13, ground := Ground.data }, { on := 14, ground := Ground.data }, { on := 15, ground := Ground.data }, { on := 17, ground := Ground.data }, { on := 19, ground := Ground.data }, { on := 20, ground := Ground.data }, { on := 22, ground := Ground.data }], guard := none }) rfl (fun K hK => ?_) AllReadyH.nil
      go_simp
      refine hK.out _ _ (hHeld.alloc hHeld.size _) (fun hHeldn => ?_)
      clear hK K hHeld; have hHeld := hHeldn; clear hHeldn
      try simp only [Act.put, List.setIfInBounds_toArray, List.set_cons_zero, List.set_cons_succ]
      refine wpAnyH_take (i := 24) (oi := { dst := some 8, op := Op.assign (Operand.tmp 96), type := 84, pos := "law.go:205", after := #[{ on := 23, ground := Ground.data }, { on := 0, ground := Ground.phase }, { on := 1, ground := Ground.phase }, { on := 2, ground := Ground.phase }, { on := 3, ground := Ground.phase }, { on := 4, ground := Ground.phase }, { on := 5, ground := Ground.phase }, { on := 6, ground := Ground.phase }, { on := 7, ground := Ground.phase }, { on := 8, ground := Ground.phase }, { on := 9, ground := Ground.phase }, { on := 10, ground := Ground.phase }, { on := 11, ground := Ground.phase }, { on := 12, ground := Ground.phase }, { on := 13, ground := Ground.phase }, { on := 14, ground := Ground.phase }, { on := 15, ground := Ground.phase }, { on := 16, ground := Ground.phase }, { on := 17, ground := Ground.phase }, { on := 18, ground := Ground.phase }, { on := 19, ground := Ground.phase }, { on := 20, ground := Ground.phase }, { on := 21, ground := Ground.phase }, { on := 22, ground := Ground.phase }, { on := 23, ground := Ground.phase }], guard := none }) (v := ?_) rfl (by kernel_rfl) (by kernel_rfl) (by kernel_rfl) (fun _ _ _ h => h) (Or.inl ⟨by rfl, ?_⟩) (by assumption) ?_
      rotate_left
      · intro W hSw; go_simp; try with_reducible rfl
      try simp only [Act.put, List.setIfInBounds_toArray, List.set_cons_zero, List.set_cons_succ]
      refine wpAnyH_done (by kernel_rfl) ?_ _
      go_wp2_with fail
      go_meet
      exact ⟨W7.heap.size + 1, W7.heap.size + 1 + 1, W7.heap.size, W7.heap.size + 1 + 1 + 1, rfl, Lib.hid ⟨HB.out.below hHeld, ⟨al_box (((W7.drew.alloc (zo 33)).alloc (.cells #[.slice (some ⟨b6, 0, none⟩) 1 1] 24)).alloc (zo 25)) _ (by simp) _ 98, (al_row (W7.drew.alloc (zo 33)) _ (by first | rfl | simp) b6 (HB.out.key.below (show Below W7.heap.size W7 _ from below_trans' (Below.refl _ _).drew (bl1 _ _)))).below (bl2 _ _ _), (al_zs ((W7.drew.alloc (zo 33)).alloc (.cells #[.slice (some ⟨b6, 0, none⟩) 1 1] 24)) _ (by first | rfl | simp) 25).below (bl1 _ _), (al_zs W7.drew _ (by first | rfl | simp) 33).below (bl3 _ _ _ _)⟩⟩⟩
    refine AllReadyH.cons (o := { dst := some 89, op := Op.makeSlice 24 (Operand.const (Value.int IntKind.i64 25)) (Operand.const (Value.int IntKind.i64 25)), type := 24, pos := "law.go:205", after := #[], guard := none }) rfl (fun K hK => ?_) AllReadyH.nil
    go_simp
    refine hK.out _ _ (hHeld.alloc hHeld.size _) (fun hHeldn => ?_)
    clear hK K hHeld; have hHeld := hHeldn; clear hHeldn
    try simp only [Act.put, List.setIfInBounds_toArray, List.set_cons_zero, List.set_cons_succ]
    refine wpAnyH_take (i := 17) (oi := { dst := some 90, op := Op.build 98 #[(0, Operand.const (Value.int IntKind.i64 6)), (5, Operand.const (Value.int IntKind.i64 1)), (3, Operand.tmp 89)], type := 98, pos := "law.go:205", after := #[{ on := 16, ground := Ground.data }], guard := none }) (v := ?_) rfl (by kernel_rfl) (by kernel_rfl) (by kernel_rfl) (fun _ _ _ h => h) (Or.inl ⟨by rfl, ?_⟩) (by assumption) ?_
    rotate_left
    · intro W hSw; go_simp; try with_reducible rfl
    try simp only [Act.put, List.setIfInBounds_toArray, List.set_cons_zero, List.set_cons_succ]
    refine wpAnyH_ready (rs := [9]) (by kernel_rfl) (by simp) ?_
    refine AllReadyH.cons (o := { dst := some 82, op := Op.buildSlice 23 1 #[(0, Operand.tmp 81)], type := 23, pos := "law.go:205", after := #[{ on := 8, ground := Ground.data }], guard := none }) rfl (fun K hK => ?_) AllReadyH.nil
    go_simp
    refine hK.out _ _ (hHeld.alloc hHeld.size _) (fun hHeldn => ?_)
    clear hK K hHeld; have hHeld := hHeldn; clear hHeldn
    try simp only [Act.put, List.setIfInBounds_toArray, List.set_cons_zero, List.set_cons_succ]
    refine wpAnyH_take (i := 10) (oi := { dst := some 83, op := Op.build 98 #[(0, Operand.const (Value.int IntKind.i64 1)), (3, Operand.tmp 80), (6, Operand.tmp 82)], type := 98, pos := "law.go:205", after := #[{ on := 7, ground := Ground.data }, { on := 9, ground := Ground.data }], guard := none }) (v := ?_) rfl (by kernel_rfl) (by kernel_rfl) (by kernel_rfl) (fun _ _ _ h => h) (Or.inl ⟨by rfl, ?_⟩) (by assumption) ?_
    rotate_left
    · intro W hSw; go_simp; try with_reducible rfl
    try simp only [Act.put, List.setIfInBounds_toArray, List.set_cons_zero, List.set_cons_succ]
    refine wpAnyH_ready (rs := [23]) (by kernel_rfl) (by simp) ?_
    refine AllReadyH.cons (o := { dst := some 96, op := Op.buildSlice 84 12 #[(0, Operand.tmp 74), (1, Operand.tmp 77), (2, Operand.tmp 79), (3, Operand.tmp 83), (4, Operand.tmp 84), (5, Operand.tmp 86), (6, Operand.tmp 87), (7, Operand.tmp 88), (8, Operand.tmp 90), (9, Operand.tmp 92), (10, Operand.tmp 93), (11, Operand.tmp 95)], type := 84, pos := "law.go:205", after := #[{ on := 1, ground := Ground.data }, { on := 4, ground := Ground.data }, { on := 6, ground := Ground.data }, { on := 10, ground := Ground.data }, { on := 11, ground := Ground.data }, { on := 13, ground := Ground.data }, { on := 14, ground := Ground.data }, { on := 15, ground := Ground.data }, { on := 17, ground := Ground.data }, { on := 19, ground := Ground.data }, { on := 20, ground := Ground.data }, { on := 22, ground := Ground.data }], guard := none }) rfl (fun K hK => ?_) AllReadyH.nil
    go_simp
    refine hK.out _ _ (hHeld.alloc hHeld.size _) (fun hHeldn => ?_)
    clear hK K hHeld; have hHeld := hHeldn; clear hHeldn
    try simp only [Act.put, List.setIfInBounds_toArray, List.set_cons_zero, List.set_cons_succ]
    refine wpAnyH_take (i := 24) (oi := { dst := some 8, op := Op.assign (Operand.tmp 96), type := 84, pos := "law.go:205", after := #[{ on := 23, ground := Ground.data }, { on := 0, ground := Ground.phase }, { on := 1, ground := Ground.phase }, { on := 2, ground := Ground.phase }, { on := 3, ground := Ground.phase }, { on := 4, ground := Ground.phase }, { on := 5, ground := Ground.phase }, { on := 6, ground := Ground.phase }, { on := 7, ground := Ground.phase }, { on := 8, ground := Ground.phase }, { on := 9, ground := Ground.phase }, { on := 10, ground := Ground.phase }, { on := 11, ground := Ground.phase }, { on := 12, ground := Ground.phase }, { on := 13, ground := Ground.phase }, { on := 14, ground := Ground.phase }, { on := 15, ground := Ground.phase }, { on := 16, ground := Ground.phase }, { on := 17, ground := Ground.phase }, { on := 18, ground := Ground.phase }, { on := 19, ground := Ground.phase }, { on := 20, ground := Ground.phase }, { on := 21, ground := Ground.phase }, { on := 22, ground := Ground.phase }, { on := 23, ground := Ground.phase }], guard := none }) (v := ?_) rfl (by kernel_rfl) (by kernel_rfl) (by kernel_rfl) (fun _ _ _ h => h) (Or.inl ⟨by rfl, ?_⟩) (by assumption) ?_
    rotate_left
    · intro W hSw; go_simp; try with_reducible rfl
    try simp only [Act.put, List.setIfInBounds_toArray, List.set_cons_zero, List.set_cons_succ]
    refine wpAnyH_done (by kernel_rfl) ?_ _
    go_wp2_with fail
    go_meet
    exact ⟨W7.heap.size + 1 + 1, W7.heap.size + 1, W7.heap.size, W7.heap.size + 1 + 1 + 1, rfl, Lib.hid ⟨HB.out.below hHeld, ⟨al_box (((W7.drew.alloc (zo 33)).alloc (zo 25)).alloc (.cells #[.slice (some ⟨b6, 0, none⟩) 1 1] 24)) _ (by simp) _ 98, (al_row ((W7.drew.alloc (zo 33)).alloc (zo 25)) _ (by first | rfl | simp) b6 (HB.out.key.below (show Below W7.heap.size W7 _ from below_trans' (Below.refl _ _).drew (bl2 _ _ _)))).below (bl1 _ _), (al_zs (W7.drew.alloc (zo 33)) _ (by first | rfl | simp) 25).below (bl2 _ _ _), (al_zs W7.drew _ (by first | rfl | simp) 33).below (bl3 _ _ _ _)⟩⟩⟩
  case rest =>
    obtain ⟨r1, m25, m33, bo, rfl, HO⟩ := hcut
    rename_i hK
    refine hK _ _ ?_
    have hn' := hNext.out
    unfold Blk3 at hn'
    exact hn' bj b5 b6 b7 r1 m25 m33 bo _ _ _ _ _ _ _ _ _ _ _ _ _ _ _ _ _ _ _ _ _ _ _ _ _ _ _ _ _ _ _ _ _ _ _ _ _ _ _ _ _ _ _ _ _ _ _ _ _ _ _ _ _ _ _ _ _ _ _ _ _ _ _ _ _ _ _ _ _ _ _ _ _ _ _ _ _ _ _ _ _ _ _ _ _ _ _ _ _ _ _ _ _ _ _ _ _ _ _ _ _ _ _ _ _ _ _ _ _ _ _ _ _ _ _ _ _ _ _ _ _ _ _ _ _ _ _ _ _ _ _ _ _ _ _ _ _ _ _ _ _ _ _ _ _ _ _ _ _ _ _ _ _ _ _ _ _ _ _ _ _ _ _ _ _ _ _ _ _ _ _ _ _ _ _ _ _ _ _ _ _ _ _ _ _ _ _ _ _ _ _ _ _ _ _ _ _ _ _ _ _ _ _ _ _ _ _ _ _ _ _ _ _ _ _ _ _ _ _ _ _ _ _ _ _ _ _ _ _ _ _ _ _ _ _ _ _ _ _ _ _ _ _ _ _ _ _ _ _ _ _ _ _ _ _ _ _ _ _ _ _ _ _ _ _ _ _ _ _ _ _ _ _ _ _ _ _ _ _ _ _ _ _ _ _ _ _ _ _ _ _ _ _ wc (HO.out)
end Go.Proofs.Ytkgcbhpgkcfkhaa
