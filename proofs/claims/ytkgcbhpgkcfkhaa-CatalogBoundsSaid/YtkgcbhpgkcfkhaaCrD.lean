/- CatalogBounds' walk: pieces 3, 4. -/
import Derived.Test.YtkgcbhpgkcfkhaaCrA
namespace Go.Proofs.Ytkgcbhpgkcfkhaa
open Go.ChangeShapes Go.WideShapes Go.ChangeAt Go.RowKit Go.Shelf
set_option linter.unusedVariables false
set_option linter.unusedSimpArgs false
set_option maxRecDepth 100000 in
set_option maxHeartbeats 100000000 in
theorem cbd3 (w : World) (hNext : Blk4 w) : Blk3 w := by
  replace hNext := Lib.hid hNext
  intro bj b5 b6 b7 r1 m25 m33 bo u0 u3 u4 u9 u10 u11 u12 u13 u14 u15 u16 u17 u18 u19 u20 u21 u22 u23 u24 u25 u26 u27 u28 u29 u30 u31 u32 u33 u34 u35 u36 u37 u38 u39 u40 u41 u42 u43 u44 u45 u46 u47 u48 u49 u50 u51 u52 u53 u54 u55 u56 u57 u58 u59 u60 u61 u62 u63 u64 u65 u66 u67 u68 u69 u70 u71 u72 u73 u74 u75 u76 u77 u78 u79 u80 u81 u82 u83 u84 u85 u86 u87 u88 u89 u90 u91 u92 u93 u94 u95 u96 u97 u98 u99 u100 u101 u102 u103 u104 u105 u106 u107 u108 u109 u110 u111 u112 u113 u114 u115 u116 u117 u118 u119 u120 u121 u122 u123 u124 u125 u126 u127 u128 u129 u130 u131 u132 u133 u134 u135 u136 u137 u138 u139 u140 u141 u142 u143 u144 u145 u146 u147 u148 u149 u150 u151 u152 u153 u154 u155 u156 u157 u158 u159 u160 u161 u162 u163 u164 u165 u166 u167 u168 u169 u170 u171 u172 u173 u174 u175 u176 u177 u178 u179 u180 u181 u182 u183 u184 u185 u186 u187 u188 u189 u190 u191 u192 u193 u194 u195 u196 u197 u198 u199 u200 u201 u202 u203 u204 u205 u206 u207 u208 u209 u210 u211 u212 u213 u214 u215 u216 u217 u218 u219 u220 u221 u222 u223 u224 u225 u226 u227 u228 u229 u230 u231 u232 u233 u234 u235 u236 u237 u238 u239 u240 u241 u242 u243 u244 u245 u246 u247 u248 u249 u250 u251 u252 u253 u254 u255 u256 u257 u258 u259 u260 u261 u262 u263 u264 u265 u266 u267 u268 u269 u270 u271 u272 u273 u274 u275 u276 u277 u278 u279 u280 u281 u282 u283 u284 u285 u286 u287 u288 u289 u290 u291 u292 u293 u294 u295 u296 u297 u298 wc hX
  have hcut := Lib.hid hX
  clear hX
  obtain ⟨c, hc⟩ : ∃ c, sndC (sndC (sndC (sndC (sndC (sndC (sndC (sndC (sndC (sndC (sndC (sndC (sndC bodyC)))))))))))) = c := ⟨_, rfl⟩
  rw [hc]
  simp only [bodyC, sndC, Try.f11, Option.getD] at hc
  subst hc
  have hmx : Try.prog.follows .mixedOrders = true := by kernel_rfl
  have HO := hcut
  clear hcut
  go_upto_block 4 with (fail)
  go_cut [9] (fun v wx => Hid (BW w w.heap.size bj b5 b6 b7 wx ∧ OB b6 r1 m25 m33 bo wx))
  case first =>
    go_wp2_with fail
    go_loopw [0, 9] (fun v i wr => ∃ k : Nat, k ≤ 12 ∧ i = .int .i64 (k : Int) ∧ Hid (BW w w.heap.size bj b5 b6 b7 wr ∧ OB b6 r1 m25 m33 bo wr)) (fun _ i _ => 12 - (intOf i).toNat)
    case atStart => exact ⟨0, by omega, rfl, HO⟩
    obtain ⟨k, hk, rfl, BR⟩ := hrel
    clear HO
    by_cases hlt : k < 12
    · have hkl : (k : Int) < 12 := by omega
      clear hk
      revert BR hkl
      rcases (by omega : k = 0 ∨ k = 1 ∨ k = 2 ∨ k = 3 ∨ k = 4 ∨ k = 5 ∨ k = 6 ∨ k = 7 ∨ k = 8 ∨ k = 9 ∨ k = 10 ∨ k = 11) with rfl | rfl | rfl | rfl | rfl | rfl | rfl | rfl | rfl | rfl | rfl | rfl
      · intro BR hkl
        have FC := Lib.hid (fun W (b : Below wr.heap.size wr W) => And.intro (jcell (BR.out.1.below b)) (o84_0 (BR.out.2.below b)))
        clear hkl
        go_wp2_with fail
        refine wp_region_held_drew (S := (fun W => Below wr.heap.size wr W)) (by kernel_rfl) ((Below.refl _ _).drew) (fun hHeld => ?_)
        refine wpAnyH_take (i := 0) (oi := { dst := some 103, op := Op.load 53 (Operand.tmp 1), type := 53, pos := "law.go:207", after := #[], guard := none }) (v := ?_) rfl (by kernel_rfl) (by kernel_rfl) (by kernel_rfl) (fun _ _ _ h => h) (Or.inl ⟨by rfl, ?_⟩) (by assumption) ?_
        rotate_left
        · intro W hSw; obtain ⟨⟨c0, c1, c2, c3, c4, c5, c6⟩, d0, d1, d2, d3, d4, d5, d6⟩ := FC.out W hSw; go_simp; try with_reducible rfl
        try simp only [Act.put, List.setIfInBounds_toArray, List.set_cons_zero, List.set_cons_succ]
        refine wpAnyH_take (i := 1) (oi := { dst := some 104, op := Op.move (Operand.tmp 8), type := 84, pos := "law.go:207", after := #[], guard := none }) (v := ?_) rfl (by kernel_rfl) (by kernel_rfl) (by kernel_rfl) (fun _ _ _ h => h) (Or.inl ⟨by rfl, ?_⟩) (by assumption) ?_
        rotate_left
        · intro W hSw; go_simp; try with_reducible rfl
        try simp only [Act.put, List.setIfInBounds_toArray, List.set_cons_zero, List.set_cons_succ]
        refine wpAnyH_take (i := 2) (oi := { dst := some 105, op := Op.move (Operand.tmp 9), type := 3, pos := "law.go:207", after := #[], guard := none }) (v := ?_) rfl (by kernel_rfl) (by kernel_rfl) (by kernel_rfl) (fun _ _ _ h => h) (Or.inl ⟨by rfl, ?_⟩) (by assumption) ?_
        rotate_left
        · intro W hSw; go_simp; try with_reducible rfl
        try simp only [Act.put, List.setIfInBounds_toArray, List.set_cons_zero, List.set_cons_succ]
        refine wpAnyH_take (i := 3) (oi := { dst := some 106, op := Op.indexAddr 84 (Operand.tmp 104) (Operand.tmp 105), type := 0, pos := "law.go:207", after := #[{ on := 1, ground := Ground.data }, { on := 2, ground := Ground.data }], guard := none }) (v := ?_) rfl (by kernel_rfl) (by kernel_rfl) (by kernel_rfl) (fun _ _ _ h => h) (Or.inl ⟨by rfl, ?_⟩) (by assumption) ?_
        rotate_left
        · intro W hSw; go_simp; try with_reducible rfl
        try simp only [Act.put, List.setIfInBounds_toArray, List.set_cons_zero, List.set_cons_succ]
        refine wpAnyH_take (i := 4) (oi := { dst := some 107, op := Op.load 98 (Operand.tmp 106), type := 98, pos := "law.go:207", after := #[{ on := 3, ground := Ground.data }], guard := none }) (v := ?_) rfl (by kernel_rfl) (by kernel_rfl) (by kernel_rfl) (fun _ _ _ h => h) (Or.inl ⟨by rfl, ?_⟩) (by assumption) ?_
        rotate_left
        · intro W hSw; obtain ⟨⟨c0, c1, c2, c3, c4, c5, c6⟩, d0, d1, d2, d3, d4, d5, d6⟩ := FC.out W hSw; go_simp; try with_reducible rfl
        try simp only [Act.put, List.setIfInBounds_toArray, List.set_cons_zero, List.set_cons_succ]
        refine wpAnyH_ready (rs := [5]) (by kernel_rfl) (by simp) ?_
        refine AllReadyH.cons (o := { dst := some 108, op := Op.call { callee := Callee.value (Operand.func 56), args := #[Operand.tmp 103, Operand.tmp 107], argTypes := #[53, 98] }, type := 4, pos := "law.go:207", after := #[{ on := 0, ground := Ground.data }, { on := 4, ground := Ground.data }], guard := none }) rfl (fun K hK => ?_) AllReadyH.nil
        go_simp
        refine (c56_0 (BR.out.1.below hHeld) (BR.out.2.below hHeld)).mono ?_; rintro r W5 ⟨rfl, B5⟩
        go_wp2_with fail
        refine hK.out _ _ (step_below hHeld B5) (fun hHeldn => ?_)
        clear hK K hHeld; have hHeld := hHeldn; clear hHeldn
        clear B5
        try simp only [Act.put, List.setIfInBounds_toArray, List.set_cons_zero, List.set_cons_succ]
        refine wpAnyH_done (by kernel_rfl) ?_ _
        go_wp2_with fail
        go_roundw
        case rel => exact ⟨1, by omega, rfl, Lib.hid ⟨BR.out.1.below hHeld, BR.out.2.below hHeld⟩⟩
        case measure => simp [intOf]
      · intro BR hkl
        have FC := Lib.hid (fun W (b : Below wr.heap.size wr W) => And.intro (jcell (BR.out.1.below b)) (o84_1 (BR.out.2.below b)))
        clear hkl
        go_wp2_with fail
        refine wp_region_held_drew (S := (fun W => Below wr.heap.size wr W)) (by kernel_rfl) ((Below.refl _ _).drew) (fun hHeld => ?_)
        refine wpAnyH_take (i := 0) (oi := { dst := some 103, op := Op.load 53 (Operand.tmp 1), type := 53, pos := "law.go:207", after := #[], guard := none }) (v := ?_) rfl (by kernel_rfl) (by kernel_rfl) (by kernel_rfl) (fun _ _ _ h => h) (Or.inl ⟨by rfl, ?_⟩) (by assumption) ?_
        rotate_left
        · intro W hSw; obtain ⟨⟨c0, c1, c2, c3, c4, c5, c6⟩, d0, d1, d2, d3, d4, d5, d6⟩ := FC.out W hSw; go_simp; try with_reducible rfl
        try simp only [Act.put, List.setIfInBounds_toArray, List.set_cons_zero, List.set_cons_succ]
        refine wpAnyH_take (i := 1) (oi := { dst := some 104, op := Op.move (Operand.tmp 8), type := 84, pos := "law.go:207", after := #[], guard := none }) (v := ?_) rfl (by kernel_rfl) (by kernel_rfl) (by kernel_rfl) (fun _ _ _ h => h) (Or.inl ⟨by rfl, ?_⟩) (by assumption) ?_
        rotate_left
        · intro W hSw; go_simp; try with_reducible rfl
        try simp only [Act.put, List.setIfInBounds_toArray, List.set_cons_zero, List.set_cons_succ]
        refine wpAnyH_take (i := 2) (oi := { dst := some 105, op := Op.move (Operand.tmp 9), type := 3, pos := "law.go:207", after := #[], guard := none }) (v := ?_) rfl (by kernel_rfl) (by kernel_rfl) (by kernel_rfl) (fun _ _ _ h => h) (Or.inl ⟨by rfl, ?_⟩) (by assumption) ?_
        rotate_left
        · intro W hSw; go_simp; try with_reducible rfl
        try simp only [Act.put, List.setIfInBounds_toArray, List.set_cons_zero, List.set_cons_succ]
        refine wpAnyH_take (i := 3) (oi := { dst := some 106, op := Op.indexAddr 84 (Operand.tmp 104) (Operand.tmp 105), type := 0, pos := "law.go:207", after := #[{ on := 1, ground := Ground.data }, { on := 2, ground := Ground.data }], guard := none }) (v := ?_) rfl (by kernel_rfl) (by kernel_rfl) (by kernel_rfl) (fun _ _ _ h => h) (Or.inl ⟨by rfl, ?_⟩) (by assumption) ?_
        rotate_left
        · intro W hSw; go_simp; try with_reducible rfl
        try simp only [Act.put, List.setIfInBounds_toArray, List.set_cons_zero, List.set_cons_succ]
        refine wpAnyH_take (i := 4) (oi := { dst := some 107, op := Op.load 98 (Operand.tmp 106), type := 98, pos := "law.go:207", after := #[{ on := 3, ground := Ground.data }], guard := none }) (v := ?_) rfl (by kernel_rfl) (by kernel_rfl) (by kernel_rfl) (fun _ _ _ h => h) (Or.inl ⟨by rfl, ?_⟩) (by assumption) ?_
        rotate_left
        · intro W hSw; obtain ⟨⟨c0, c1, c2, c3, c4, c5, c6⟩, d0, d1, d2, d3, d4, d5, d6⟩ := FC.out W hSw; go_simp; try with_reducible rfl
        try simp only [Act.put, List.setIfInBounds_toArray, List.set_cons_zero, List.set_cons_succ]
        refine wpAnyH_ready (rs := [5]) (by kernel_rfl) (by simp) ?_
        refine AllReadyH.cons (o := { dst := some 108, op := Op.call { callee := Callee.value (Operand.func 56), args := #[Operand.tmp 103, Operand.tmp 107], argTypes := #[53, 98] }, type := 4, pos := "law.go:207", after := #[{ on := 0, ground := Ground.data }, { on := 4, ground := Ground.data }], guard := none }) rfl (fun K hK => ?_) AllReadyH.nil
        go_simp
        refine (c56_1 (BR.out.1.below hHeld) (BR.out.2.below hHeld)).mono ?_; rintro r W5 ⟨rfl, B5⟩
        go_wp2_with fail
        refine hK.out _ _ (step_below hHeld B5) (fun hHeldn => ?_)
        clear hK K hHeld; have hHeld := hHeldn; clear hHeldn
        clear B5
        try simp only [Act.put, List.setIfInBounds_toArray, List.set_cons_zero, List.set_cons_succ]
        refine wpAnyH_done (by kernel_rfl) ?_ _
        go_wp2_with fail
        go_roundw
        case rel => exact ⟨2, by omega, rfl, Lib.hid ⟨BR.out.1.below hHeld, BR.out.2.below hHeld⟩⟩
        case measure => simp [intOf]
      · intro BR hkl
        have FC := Lib.hid (fun W (b : Below wr.heap.size wr W) => And.intro (jcell (BR.out.1.below b)) (o84_2 (BR.out.2.below b)))
        clear hkl
        go_wp2_with fail
        refine wp_region_held_drew (S := (fun W => Below wr.heap.size wr W)) (by kernel_rfl) ((Below.refl _ _).drew) (fun hHeld => ?_)
        refine wpAnyH_take (i := 0) (oi := { dst := some 103, op := Op.load 53 (Operand.tmp 1), type := 53, pos := "law.go:207", after := #[], guard := none }) (v := ?_) rfl (by kernel_rfl) (by kernel_rfl) (by kernel_rfl) (fun _ _ _ h => h) (Or.inl ⟨by rfl, ?_⟩) (by assumption) ?_
        rotate_left
        · intro W hSw; obtain ⟨⟨c0, c1, c2, c3, c4, c5, c6⟩, d0, d1, d2, d3, d4, d5, d6⟩ := FC.out W hSw; go_simp; try with_reducible rfl
        try simp only [Act.put, List.setIfInBounds_toArray, List.set_cons_zero, List.set_cons_succ]
        refine wpAnyH_take (i := 1) (oi := { dst := some 104, op := Op.move (Operand.tmp 8), type := 84, pos := "law.go:207", after := #[], guard := none }) (v := ?_) rfl (by kernel_rfl) (by kernel_rfl) (by kernel_rfl) (fun _ _ _ h => h) (Or.inl ⟨by rfl, ?_⟩) (by assumption) ?_
        rotate_left
        · intro W hSw; go_simp; try with_reducible rfl
        try simp only [Act.put, List.setIfInBounds_toArray, List.set_cons_zero, List.set_cons_succ]
        refine wpAnyH_take (i := 2) (oi := { dst := some 105, op := Op.move (Operand.tmp 9), type := 3, pos := "law.go:207", after := #[], guard := none }) (v := ?_) rfl (by kernel_rfl) (by kernel_rfl) (by kernel_rfl) (fun _ _ _ h => h) (Or.inl ⟨by rfl, ?_⟩) (by assumption) ?_
        rotate_left
        · intro W hSw; go_simp; try with_reducible rfl
        try simp only [Act.put, List.setIfInBounds_toArray, List.set_cons_zero, List.set_cons_succ]
        refine wpAnyH_take (i := 3) (oi := { dst := some 106, op := Op.indexAddr 84 (Operand.tmp 104) (Operand.tmp 105), type := 0, pos := "law.go:207", after := #[{ on := 1, ground := Ground.data }, { on := 2, ground := Ground.data }], guard := none }) (v := ?_) rfl (by kernel_rfl) (by kernel_rfl) (by kernel_rfl) (fun _ _ _ h => h) (Or.inl ⟨by rfl, ?_⟩) (by assumption) ?_
        rotate_left
        · intro W hSw; go_simp; try with_reducible rfl
        try simp only [Act.put, List.setIfInBounds_toArray, List.set_cons_zero, List.set_cons_succ]
        refine wpAnyH_take (i := 4) (oi := { dst := some 107, op := Op.load 98 (Operand.tmp 106), type := 98, pos := "law.go:207", after := #[{ on := 3, ground := Ground.data }], guard := none }) (v := ?_) rfl (by kernel_rfl) (by kernel_rfl) (by kernel_rfl) (fun _ _ _ h => h) (Or.inl ⟨by rfl, ?_⟩) (by assumption) ?_
        rotate_left
        · intro W hSw; obtain ⟨⟨c0, c1, c2, c3, c4, c5, c6⟩, d0, d1, d2, d3, d4, d5, d6⟩ := FC.out W hSw; go_simp; try with_reducible rfl
        try simp only [Act.put, List.setIfInBounds_toArray, List.set_cons_zero, List.set_cons_succ]
        refine wpAnyH_ready (rs := [5]) (by kernel_rfl) (by simp) ?_
        refine AllReadyH.cons (o := { dst := some 108, op := Op.call { callee := Callee.value (Operand.func 56), args := #[Operand.tmp 103, Operand.tmp 107], argTypes := #[53, 98] }, type := 4, pos := "law.go:207", after := #[{ on := 0, ground := Ground.data }, { on := 4, ground := Ground.data }], guard := none }) rfl (fun K hK => ?_) AllReadyH.nil
        go_simp
        refine (c56_2 (BR.out.1.below hHeld) (BR.out.2.below hHeld)).mono ?_; rintro r W5 ⟨rfl, B5⟩
        go_wp2_with fail
        refine hK.out _ _ (step_below hHeld B5) (fun hHeldn => ?_)
        clear hK K hHeld; have hHeld := hHeldn; clear hHeldn
        clear B5
        try simp only [Act.put, List.setIfInBounds_toArray, List.set_cons_zero, List.set_cons_succ]
        refine wpAnyH_done (by kernel_rfl) ?_ _
        go_wp2_with fail
        go_roundw
        case rel => exact ⟨3, by omega, rfl, Lib.hid ⟨BR.out.1.below hHeld, BR.out.2.below hHeld⟩⟩
        case measure => simp [intOf]
      · intro BR hkl
        have FC := Lib.hid (fun W (b : Below wr.heap.size wr W) => And.intro (jcell (BR.out.1.below b)) (o84_3 (BR.out.2.below b)))
        clear hkl
        go_wp2_with fail
        refine wp_region_held_drew (S := (fun W => Below wr.heap.size wr W)) (by kernel_rfl) ((Below.refl _ _).drew) (fun hHeld => ?_)
        refine wpAnyH_take (i := 0) (oi := { dst := some 103, op := Op.load 53 (Operand.tmp 1), type := 53, pos := "law.go:207", after := #[], guard := none }) (v := ?_) rfl (by kernel_rfl) (by kernel_rfl) (by kernel_rfl) (fun _ _ _ h => h) (Or.inl ⟨by rfl, ?_⟩) (by assumption) ?_
        rotate_left
        · intro W hSw; obtain ⟨⟨c0, c1, c2, c3, c4, c5, c6⟩, d0, d1, d2, d3, d4, d5, d6⟩ := FC.out W hSw; go_simp; try with_reducible rfl
        try simp only [Act.put, List.setIfInBounds_toArray, List.set_cons_zero, List.set_cons_succ]
        refine wpAnyH_take (i := 1) (oi := { dst := some 104, op := Op.move (Operand.tmp 8), type := 84, pos := "law.go:207", after := #[], guard := none }) (v := ?_) rfl (by kernel_rfl) (by kernel_rfl) (by kernel_rfl) (fun _ _ _ h => h) (Or.inl ⟨by rfl, ?_⟩) (by assumption) ?_
        rotate_left
        · intro W hSw; go_simp; try with_reducible rfl
        try simp only [Act.put, List.setIfInBounds_toArray, List.set_cons_zero, List.set_cons_succ]
        refine wpAnyH_take (i := 2) (oi := { dst := some 105, op := Op.move (Operand.tmp 9), type := 3, pos := "law.go:207", after := #[], guard := none }) (v := ?_) rfl (by kernel_rfl) (by kernel_rfl) (by kernel_rfl) (fun _ _ _ h => h) (Or.inl ⟨by rfl, ?_⟩) (by assumption) ?_
        rotate_left
        · intro W hSw; go_simp; try with_reducible rfl
        try simp only [Act.put, List.setIfInBounds_toArray, List.set_cons_zero, List.set_cons_succ]
        refine wpAnyH_take (i := 3) (oi := { dst := some 106, op := Op.indexAddr 84 (Operand.tmp 104) (Operand.tmp 105), type := 0, pos := "law.go:207", after := #[{ on := 1, ground := Ground.data }, { on := 2, ground := Ground.data }], guard := none }) (v := ?_) rfl (by kernel_rfl) (by kernel_rfl) (by kernel_rfl) (fun _ _ _ h => h) (Or.inl ⟨by rfl, ?_⟩) (by assumption) ?_
        rotate_left
        · intro W hSw; go_simp; try with_reducible rfl
        try simp only [Act.put, List.setIfInBounds_toArray, List.set_cons_zero, List.set_cons_succ]
        refine wpAnyH_take (i := 4) (oi := { dst := some 107, op := Op.load 98 (Operand.tmp 106), type := 98, pos := "law.go:207", after := #[{ on := 3, ground := Ground.data }], guard := none }) (v := ?_) rfl (by kernel_rfl) (by kernel_rfl) (by kernel_rfl) (fun _ _ _ h => h) (Or.inl ⟨by rfl, ?_⟩) (by assumption) ?_
        rotate_left
        · intro W hSw; obtain ⟨⟨c0, c1, c2, c3, c4, c5, c6⟩, d0, d1, d2, d3, d4, d5, d6⟩ := FC.out W hSw; go_simp; try with_reducible rfl
        try simp only [Act.put, List.setIfInBounds_toArray, List.set_cons_zero, List.set_cons_succ]
        refine wpAnyH_ready (rs := [5]) (by kernel_rfl) (by simp) ?_
        refine AllReadyH.cons (o := { dst := some 108, op := Op.call { callee := Callee.value (Operand.func 56), args := #[Operand.tmp 103, Operand.tmp 107], argTypes := #[53, 98] }, type := 4, pos := "law.go:207", after := #[{ on := 0, ground := Ground.data }, { on := 4, ground := Ground.data }], guard := none }) rfl (fun K hK => ?_) AllReadyH.nil
        go_simp
        refine (c56_3 (BR.out.1.below hHeld) (BR.out.2.below hHeld)).mono ?_; rintro r W5 ⟨rfl, B5⟩
        go_wp2_with fail
        refine hK.out _ _ (step_below hHeld B5) (fun hHeldn => ?_)
        clear hK K hHeld; have hHeld := hHeldn; clear hHeldn
        clear B5
        try simp only [Act.put, List.setIfInBounds_toArray, List.set_cons_zero, List.set_cons_succ]
        refine wpAnyH_done (by kernel_rfl) ?_ _
        go_wp2_with fail
        go_roundw
        case rel => exact ⟨4, by omega, rfl, Lib.hid ⟨BR.out.1.below hHeld, BR.out.2.below hHeld⟩⟩
        case measure => simp [intOf]
      · intro BR hkl
        have FC := Lib.hid (fun W (b : Below wr.heap.size wr W) => And.intro (jcell (BR.out.1.below b)) (o84_4 (BR.out.2.below b)))
        clear hkl
        go_wp2_with fail
        refine wp_region_held_drew (S := (fun W => Below wr.heap.size wr W)) (by kernel_rfl) ((Below.refl _ _).drew) (fun hHeld => ?_)
        refine wpAnyH_take (i := 0) (oi := { dst := some 103, op := Op.load 53 (Operand.tmp 1), type := 53, pos := "law.go:207", after := #[], guard := none }) (v := ?_) rfl (by kernel_rfl) (by kernel_rfl) (by kernel_rfl) (fun _ _ _ h => h) (Or.inl ⟨by rfl, ?_⟩) (by assumption) ?_
        rotate_left
        · intro W hSw; obtain ⟨⟨c0, c1, c2, c3, c4, c5, c6⟩, d0, d1, d2, d3, d4, d5, d6⟩ := FC.out W hSw; go_simp; try with_reducible rfl
        try simp only [Act.put, List.setIfInBounds_toArray, List.set_cons_zero, List.set_cons_succ]
        refine wpAnyH_take (i := 1) (oi := { dst := some 104, op := Op.move (Operand.tmp 8), type := 84, pos := "law.go:207", after := #[], guard := none }) (v := ?_) rfl (by kernel_rfl) (by kernel_rfl) (by kernel_rfl) (fun _ _ _ h => h) (Or.inl ⟨by rfl, ?_⟩) (by assumption) ?_
        rotate_left
        · intro W hSw; go_simp; try with_reducible rfl
        try simp only [Act.put, List.setIfInBounds_toArray, List.set_cons_zero, List.set_cons_succ]
        refine wpAnyH_take (i := 2) (oi := { dst := some 105, op := Op.move (Operand.tmp 9), type := 3, pos := "law.go:207", after := #[], guard := none }) (v := ?_) rfl (by kernel_rfl) (by kernel_rfl) (by kernel_rfl) (fun _ _ _ h => h) (Or.inl ⟨by rfl, ?_⟩) (by assumption) ?_
        rotate_left
        · intro W hSw; go_simp; try with_reducible rfl
        try simp only [Act.put, List.setIfInBounds_toArray, List.set_cons_zero, List.set_cons_succ]
        refine wpAnyH_take (i := 3) (oi := { dst := some 106, op := Op.indexAddr 84 (Operand.tmp 104) (Operand.tmp 105), type := 0, pos := "law.go:207", after := #[{ on := 1, ground := Ground.data }, { on := 2, ground := Ground.data }], guard := none }) (v := ?_) rfl (by kernel_rfl) (by kernel_rfl) (by kernel_rfl) (fun _ _ _ h => h) (Or.inl ⟨by rfl, ?_⟩) (by assumption) ?_
        rotate_left
        · intro W hSw; go_simp; try with_reducible rfl
        try simp only [Act.put, List.setIfInBounds_toArray, List.set_cons_zero, List.set_cons_succ]
        refine wpAnyH_take (i := 4) (oi := { dst := some 107, op := Op.load 98 (Operand.tmp 106), type := 98, pos := "law.go:207", after := #[{ on := 3, ground := Ground.data }], guard := none }) (v := ?_) rfl (by kernel_rfl) (by kernel_rfl) (by kernel_rfl) (fun _ _ _ h => h) (Or.inl ⟨by rfl, ?_⟩) (by assumption) ?_
        rotate_left
        · intro W hSw; obtain ⟨⟨c0, c1, c2, c3, c4, c5, c6⟩, d0, d1, d2, d3, d4, d5, d6⟩ := FC.out W hSw; go_simp; try with_reducible rfl
        try simp only [Act.put, List.setIfInBounds_toArray, List.set_cons_zero, List.set_cons_succ]
        refine wpAnyH_ready (rs := [5]) (by kernel_rfl) (by simp) ?_
        refine AllReadyH.cons (o := { dst := some 108, op := Op.call { callee := Callee.value (Operand.func 56), args := #[Operand.tmp 103, Operand.tmp 107], argTypes := #[53, 98] }, type := 4, pos := "law.go:207", after := #[{ on := 0, ground := Ground.data }, { on := 4, ground := Ground.data }], guard := none }) rfl (fun K hK => ?_) AllReadyH.nil
        go_simp
        refine (c56_4 (BR.out.1.below hHeld) (BR.out.2.below hHeld)).mono ?_; rintro r W5 ⟨rfl, B5⟩
        go_wp2_with fail
        refine hK.out _ _ (step_below hHeld B5) (fun hHeldn => ?_)
        clear hK K hHeld; have hHeld := hHeldn; clear hHeldn
        clear B5
        try simp only [Act.put, List.setIfInBounds_toArray, List.set_cons_zero, List.set_cons_succ]
        refine wpAnyH_done (by kernel_rfl) ?_ _
        go_wp2_with fail
        go_roundw
        case rel => exact ⟨5, by omega, rfl, Lib.hid ⟨BR.out.1.below hHeld, BR.out.2.below hHeld⟩⟩
        case measure => simp [intOf]
      · intro BR hkl
        have FC := Lib.hid (fun W (b : Below wr.heap.size wr W) => And.intro (jcell (BR.out.1.below b)) (o84_5 (BR.out.2.below b)))
        clear hkl
        go_wp2_with fail
        refine wp_region_held_drew (S := (fun W => Below wr.heap.size wr W)) (by kernel_rfl) ((Below.refl _ _).drew) (fun hHeld => ?_)
        refine wpAnyH_take (i := 0) (oi := { dst := some 103, op := Op.load 53 (Operand.tmp 1), type := 53, pos := "law.go:207", after := #[], guard := none }) (v := ?_) rfl (by kernel_rfl) (by kernel_rfl) (by kernel_rfl) (fun _ _ _ h => h) (Or.inl ⟨by rfl, ?_⟩) (by assumption) ?_
        rotate_left
        · intro W hSw; obtain ⟨⟨c0, c1, c2, c3, c4, c5, c6⟩, d0, d1, d2, d3, d4, d5, d6⟩ := FC.out W hSw; go_simp; try with_reducible rfl
        try simp only [Act.put, List.setIfInBounds_toArray, List.set_cons_zero, List.set_cons_succ]
        refine wpAnyH_take (i := 1) (oi := { dst := some 104, op := Op.move (Operand.tmp 8), type := 84, pos := "law.go:207", after := #[], guard := none }) (v := ?_) rfl (by kernel_rfl) (by kernel_rfl) (by kernel_rfl) (fun _ _ _ h => h) (Or.inl ⟨by rfl, ?_⟩) (by assumption) ?_
        rotate_left
        · intro W hSw; go_simp; try with_reducible rfl
        try simp only [Act.put, List.setIfInBounds_toArray, List.set_cons_zero, List.set_cons_succ]
        refine wpAnyH_take (i := 2) (oi := { dst := some 105, op := Op.move (Operand.tmp 9), type := 3, pos := "law.go:207", after := #[], guard := none }) (v := ?_) rfl (by kernel_rfl) (by kernel_rfl) (by kernel_rfl) (fun _ _ _ h => h) (Or.inl ⟨by rfl, ?_⟩) (by assumption) ?_
        rotate_left
        · intro W hSw; go_simp; try with_reducible rfl
        try simp only [Act.put, List.setIfInBounds_toArray, List.set_cons_zero, List.set_cons_succ]
        refine wpAnyH_take (i := 3) (oi := { dst := some 106, op := Op.indexAddr 84 (Operand.tmp 104) (Operand.tmp 105), type := 0, pos := "law.go:207", after := #[{ on := 1, ground := Ground.data }, { on := 2, ground := Ground.data }], guard := none }) (v := ?_) rfl (by kernel_rfl) (by kernel_rfl) (by kernel_rfl) (fun _ _ _ h => h) (Or.inl ⟨by rfl, ?_⟩) (by assumption) ?_
        rotate_left
        · intro W hSw; go_simp; try with_reducible rfl
        try simp only [Act.put, List.setIfInBounds_toArray, List.set_cons_zero, List.set_cons_succ]
        refine wpAnyH_take (i := 4) (oi := { dst := some 107, op := Op.load 98 (Operand.tmp 106), type := 98, pos := "law.go:207", after := #[{ on := 3, ground := Ground.data }], guard := none }) (v := ?_) rfl (by kernel_rfl) (by kernel_rfl) (by kernel_rfl) (fun _ _ _ h => h) (Or.inl ⟨by rfl, ?_⟩) (by assumption) ?_
        rotate_left
        · intro W hSw; obtain ⟨⟨c0, c1, c2, c3, c4, c5, c6⟩, d0, d1, d2, d3, d4, d5, d6⟩ := FC.out W hSw; go_simp; try with_reducible rfl
        try simp only [Act.put, List.setIfInBounds_toArray, List.set_cons_zero, List.set_cons_succ]
        refine wpAnyH_ready (rs := [5]) (by kernel_rfl) (by simp) ?_
        refine AllReadyH.cons (o := { dst := some 108, op := Op.call { callee := Callee.value (Operand.func 56), args := #[Operand.tmp 103, Operand.tmp 107], argTypes := #[53, 98] }, type := 4, pos := "law.go:207", after := #[{ on := 0, ground := Ground.data }, { on := 4, ground := Ground.data }], guard := none }) rfl (fun K hK => ?_) AllReadyH.nil
        go_simp
        refine (c56_5 (BR.out.1.below hHeld) (BR.out.2.below hHeld)).mono ?_; rintro r W5 ⟨rfl, B5⟩
        go_wp2_with fail
        refine hK.out _ _ (step_below hHeld B5) (fun hHeldn => ?_)
        clear hK K hHeld; have hHeld := hHeldn; clear hHeldn
        clear B5
        try simp only [Act.put, List.setIfInBounds_toArray, List.set_cons_zero, List.set_cons_succ]
        refine wpAnyH_done (by kernel_rfl) ?_ _
        go_wp2_with fail
        go_roundw
        case rel => exact ⟨6, by omega, rfl, Lib.hid ⟨BR.out.1.below hHeld, BR.out.2.below hHeld⟩⟩
        case measure => simp [intOf]
      · intro BR hkl
        have FC := Lib.hid (fun W (b : Below wr.heap.size wr W) => And.intro (jcell (BR.out.1.below b)) (o84_6 (BR.out.2.below b)))
        clear hkl
        go_wp2_with fail
        refine wp_region_held_drew (S := (fun W => Below wr.heap.size wr W)) (by kernel_rfl) ((Below.refl _ _).drew) (fun hHeld => ?_)
        refine wpAnyH_take (i := 0) (oi := { dst := some 103, op := Op.load 53 (Operand.tmp 1), type := 53, pos := "law.go:207", after := #[], guard := none }) (v := ?_) rfl (by kernel_rfl) (by kernel_rfl) (by kernel_rfl) (fun _ _ _ h => h) (Or.inl ⟨by rfl, ?_⟩) (by assumption) ?_
        rotate_left
        · intro W hSw; obtain ⟨⟨c0, c1, c2, c3, c4, c5, c6⟩, d0, d1, d2, d3, d4, d5, d6⟩ := FC.out W hSw; go_simp; try with_reducible rfl
        try simp only [Act.put, List.setIfInBounds_toArray, List.set_cons_zero, List.set_cons_succ]
        refine wpAnyH_take (i := 1) (oi := { dst := some 104, op := Op.move (Operand.tmp 8), type := 84, pos := "law.go:207", after := #[], guard := none }) (v := ?_) rfl (by kernel_rfl) (by kernel_rfl) (by kernel_rfl) (fun _ _ _ h => h) (Or.inl ⟨by rfl, ?_⟩) (by assumption) ?_
        rotate_left
        · intro W hSw; go_simp; try with_reducible rfl
        try simp only [Act.put, List.setIfInBounds_toArray, List.set_cons_zero, List.set_cons_succ]
        refine wpAnyH_take (i := 2) (oi := { dst := some 105, op := Op.move (Operand.tmp 9), type := 3, pos := "law.go:207", after := #[], guard := none }) (v := ?_) rfl (by kernel_rfl) (by kernel_rfl) (by kernel_rfl) (fun _ _ _ h => h) (Or.inl ⟨by rfl, ?_⟩) (by assumption) ?_
        rotate_left
        · intro W hSw; go_simp; try with_reducible rfl
        try simp only [Act.put, List.setIfInBounds_toArray, List.set_cons_zero, List.set_cons_succ]
        refine wpAnyH_take (i := 3) (oi := { dst := some 106, op := Op.indexAddr 84 (Operand.tmp 104) (Operand.tmp 105), type := 0, pos := "law.go:207", after := #[{ on := 1, ground := Ground.data }, { on := 2, ground := Ground.data }], guard := none }) (v := ?_) rfl (by kernel_rfl) (by kernel_rfl) (by kernel_rfl) (fun _ _ _ h => h) (Or.inl ⟨by rfl, ?_⟩) (by assumption) ?_
        rotate_left
        · intro W hSw; go_simp; try with_reducible rfl
        try simp only [Act.put, List.setIfInBounds_toArray, List.set_cons_zero, List.set_cons_succ]
        refine wpAnyH_take (i := 4) (oi := { dst := some 107, op := Op.load 98 (Operand.tmp 106), type := 98, pos := "law.go:207", after := #[{ on := 3, ground := Ground.data }], guard := none }) (v := ?_) rfl (by kernel_rfl) (by kernel_rfl) (by kernel_rfl) (fun _ _ _ h => h) (Or.inl ⟨by rfl, ?_⟩) (by assumption) ?_
        rotate_left
        · intro W hSw; obtain ⟨⟨c0, c1, c2, c3, c4, c5, c6⟩, d0, d1, d2, d3, d4, d5, d6⟩ := FC.out W hSw; go_simp; try with_reducible rfl
        try simp only [Act.put, List.setIfInBounds_toArray, List.set_cons_zero, List.set_cons_succ]
        refine wpAnyH_ready (rs := [5]) (by kernel_rfl) (by simp) ?_
        refine AllReadyH.cons (o := { dst := some 108, op := Op.call { callee := Callee.value (Operand.func 56), args := #[Operand.tmp 103, Operand.tmp 107], argTypes := #[53, 98] }, type := 4, pos := "law.go:207", after := #[{ on := 0, ground := Ground.data }, { on := 4, ground := Ground.data }], guard := none }) rfl (fun K hK => ?_) AllReadyH.nil
        go_simp
        refine (c56_6 (BR.out.1.below hHeld) (BR.out.2.below hHeld)).mono ?_; rintro r W5 ⟨rfl, B5⟩
        go_wp2_with fail
        refine hK.out _ _ (step_below hHeld B5) (fun hHeldn => ?_)
        clear hK K hHeld; have hHeld := hHeldn; clear hHeldn
        clear B5
        try simp only [Act.put, List.setIfInBounds_toArray, List.set_cons_zero, List.set_cons_succ]
        refine wpAnyH_done (by kernel_rfl) ?_ _
        go_wp2_with fail
        go_roundw
        case rel => exact ⟨7, by omega, rfl, Lib.hid ⟨BR.out.1.below hHeld, BR.out.2.below hHeld⟩⟩
        case measure => simp [intOf]
      · intro BR hkl
        have FC := Lib.hid (fun W (b : Below wr.heap.size wr W) => And.intro (jcell (BR.out.1.below b)) (o84_7 (BR.out.2.below b)))
        clear hkl
        go_wp2_with fail
        refine wp_region_held_drew (S := (fun W => Below wr.heap.size wr W)) (by kernel_rfl) ((Below.refl _ _).drew) (fun hHeld => ?_)
        refine wpAnyH_take (i := 0) (oi := { dst := some 103, op := Op.load 53 (Operand.tmp 1), type := 53, pos := "law.go:207", after := #[], guard := none }) (v := ?_) rfl (by kernel_rfl) (by kernel_rfl) (by kernel_rfl) (fun _ _ _ h => h) (Or.inl ⟨by rfl, ?_⟩) (by assumption) ?_
        rotate_left
        · intro W hSw; obtain ⟨⟨c0, c1, c2, c3, c4, c5, c6⟩, d0, d1, d2, d3, d4, d5, d6⟩ := FC.out W hSw; go_simp; try with_reducible rfl
        try simp only [Act.put, List.setIfInBounds_toArray, List.set_cons_zero, List.set_cons_succ]
        refine wpAnyH_take (i := 1) (oi := { dst := some 104, op := Op.move (Operand.tmp 8), type := 84, pos := "law.go:207", after := #[], guard := none }) (v := ?_) rfl (by kernel_rfl) (by kernel_rfl) (by kernel_rfl) (fun _ _ _ h => h) (Or.inl ⟨by rfl, ?_⟩) (by assumption) ?_
        rotate_left
        · intro W hSw; go_simp; try with_reducible rfl
        try simp only [Act.put, List.setIfInBounds_toArray, List.set_cons_zero, List.set_cons_succ]
        refine wpAnyH_take (i := 2) (oi := { dst := some 105, op := Op.move (Operand.tmp 9), type := 3, pos := "law.go:207", after := #[], guard := none }) (v := ?_) rfl (by kernel_rfl) (by kernel_rfl) (by kernel_rfl) (fun _ _ _ h => h) (Or.inl ⟨by rfl, ?_⟩) (by assumption) ?_
        rotate_left
        · intro W hSw; go_simp; try with_reducible rfl
        try simp only [Act.put, List.setIfInBounds_toArray, List.set_cons_zero, List.set_cons_succ]
        refine wpAnyH_take (i := 3) (oi := { dst := some 106, op := Op.indexAddr 84 (Operand.tmp 104) (Operand.tmp 105), type := 0, pos := "law.go:207", after := #[{ on := 1, ground := Ground.data }, { on := 2, ground := Ground.data }], guard := none }) (v := ?_) rfl (by kernel_rfl) (by kernel_rfl) (by kernel_rfl) (fun _ _ _ h => h) (Or.inl ⟨by rfl, ?_⟩) (by assumption) ?_
        rotate_left
        · intro W hSw; go_simp; try with_reducible rfl
        try simp only [Act.put, List.setIfInBounds_toArray, List.set_cons_zero, List.set_cons_succ]
        refine wpAnyH_take (i := 4) (oi := { dst := some 107, op := Op.load 98 (Operand.tmp 106), type := 98, pos := "law.go:207", after := #[{ on := 3, ground := Ground.data }], guard := none }) (v := ?_) rfl (by kernel_rfl) (by kernel_rfl) (by kernel_rfl) (fun _ _ _ h => h) (Or.inl ⟨by rfl, ?_⟩) (by assumption) ?_
        rotate_left
        · intro W hSw; obtain ⟨⟨c0, c1, c2, c3, c4, c5, c6⟩, d0, d1, d2, d3, d4, d5, d6⟩ := FC.out W hSw; go_simp; try with_reducible rfl
        try simp only [Act.put, List.setIfInBounds_toArray, List.set_cons_zero, List.set_cons_succ]
        refine wpAnyH_ready (rs := [5]) (by kernel_rfl) (by simp) ?_
        refine AllReadyH.cons (o := { dst := some 108, op := Op.call { callee := Callee.value (Operand.func 56), args := #[Operand.tmp 103, Operand.tmp 107], argTypes := #[53, 98] }, type := 4, pos := "law.go:207", after := #[{ on := 0, ground := Ground.data }, { on := 4, ground := Ground.data }], guard := none }) rfl (fun K hK => ?_) AllReadyH.nil
        go_simp
        refine (c56_7 (BR.out.1.below hHeld) (BR.out.2.below hHeld)).mono ?_; rintro r W5 ⟨rfl, B5⟩
        go_wp2_with fail
        refine hK.out _ _ (step_below hHeld B5) (fun hHeldn => ?_)
        clear hK K hHeld; have hHeld := hHeldn; clear hHeldn
        clear B5
        try simp only [Act.put, List.setIfInBounds_toArray, List.set_cons_zero, List.set_cons_succ]
        refine wpAnyH_done (by kernel_rfl) ?_ _
        go_wp2_with fail
        go_roundw
        case rel => exact ⟨8, by omega, rfl, Lib.hid ⟨BR.out.1.below hHeld, BR.out.2.below hHeld⟩⟩
        case measure => simp [intOf]
      · intro BR hkl
        have FC := Lib.hid (fun W (b : Below wr.heap.size wr W) => And.intro (jcell (BR.out.1.below b)) (o84_8 (BR.out.2.below b)))
        clear hkl
        go_wp2_with fail
        refine wp_region_held_drew (S := (fun W => Below wr.heap.size wr W)) (by kernel_rfl) ((Below.refl _ _).drew) (fun hHeld => ?_)
        refine wpAnyH_take (i := 0) (oi := { dst := some 103, op := Op.load 53 (Operand.tmp 1), type := 53, pos := "law.go:207", after := #[], guard := none }) (v := ?_) rfl (by kernel_rfl) (by kernel_rfl) (by kernel_rfl) (fun _ _ _ h => h) (Or.inl ⟨by rfl, ?_⟩) (by assumption) ?_
        rotate_left
        · intro W hSw; obtain ⟨⟨c0, c1, c2, c3, c4, c5, c6⟩, d0, d1, d2, d3, d4, d5, d6⟩ := FC.out W hSw; go_simp; try with_reducible rfl
        try simp only [Act.put, List.setIfInBounds_toArray, List.set_cons_zero, List.set_cons_succ]
        refine wpAnyH_take (i := 1) (oi := { dst := some 104, op := Op.move (Operand.tmp 8), type := 84, pos := "law.go:207", after := #[], guard := none }) (v := ?_) rfl (by kernel_rfl) (by kernel_rfl) (by kernel_rfl) (fun _ _ _ h => h) (Or.inl ⟨by rfl, ?_⟩) (by assumption) ?_
        rotate_left
        · intro W hSw; go_simp; try with_reducible rfl
        try simp only [Act.put, List.setIfInBounds_toArray, List.set_cons_zero, List.set_cons_succ]
        refine wpAnyH_take (i := 2) (oi := { dst := some 105, op := Op.move (Operand.tmp 9), type := 3, pos := "law.go:207", after := #[], guard := none }) (v := ?_) rfl (by kernel_rfl) (by kernel_rfl) (by kernel_rfl) (fun _ _ _ h => h) (Or.inl ⟨by rfl, ?_⟩) (by assumption) ?_
        rotate_left
        · intro W hSw; go_simp; try with_reducible rfl
        try simp only [Act.put, List.setIfInBounds_toArray, List.set_cons_zero, List.set_cons_succ]
        refine wpAnyH_take (i := 3) (oi := { dst := some 106, op := Op.indexAddr 84 (Operand.tmp 104) (Operand.tmp 105), type := 0, pos := "law.go:207", after := #[{ on := 1, ground := Ground.data }, { on := 2, ground := Ground.data }], guard := none }) (v := ?_) rfl (by kernel_rfl) (by kernel_rfl) (by kernel_rfl) (fun _ _ _ h => h) (Or.inl ⟨by rfl, ?_⟩) (by assumption) ?_
        rotate_left
        · intro W hSw; go_simp; try with_reducible rfl
        try simp only [Act.put, List.setIfInBounds_toArray, List.set_cons_zero, List.set_cons_succ]
        refine wpAnyH_take (i := 4) (oi := { dst := some 107, op := Op.load 98 (Operand.tmp 106), type := 98, pos := "law.go:207", after := #[{ on := 3, ground := Ground.data }], guard := none }) (v := ?_) rfl (by kernel_rfl) (by kernel_rfl) (by kernel_rfl) (fun _ _ _ h => h) (Or.inl ⟨by rfl, ?_⟩) (by assumption) ?_
        rotate_left
        · intro W hSw; obtain ⟨⟨c0, c1, c2, c3, c4, c5, c6⟩, d0, d1, d2, d3, d4, d5, d6⟩ := FC.out W hSw; go_simp; try with_reducible rfl
        try simp only [Act.put, List.setIfInBounds_toArray, List.set_cons_zero, List.set_cons_succ]
        refine wpAnyH_ready (rs := [5]) (by kernel_rfl) (by simp) ?_
        refine AllReadyH.cons (o := { dst := some 108, op := Op.call { callee := Callee.value (Operand.func 56), args := #[Operand.tmp 103, Operand.tmp 107], argTypes := #[53, 98] }, type := 4, pos := "law.go:207", after := #[{ on := 0, ground := Ground.data }, { on := 4, ground := Ground.data }], guard := none }) rfl (fun K hK => ?_) AllReadyH.nil
        go_simp
        refine (c56_8 (BR.out.1.below hHeld) (BR.out.2.below hHeld)).mono ?_; rintro r W5 ⟨rfl, B5⟩
        go_wp2_with fail
        refine hK.out _ _ (step_below hHeld B5) (fun hHeldn => ?_)
        clear hK K hHeld; have hHeld := hHeldn; clear hHeldn
        clear B5
        try simp only [Act.put, List.setIfInBounds_toArray, List.set_cons_zero, List.set_cons_succ]
        refine wpAnyH_done (by kernel_rfl) ?_ _
        go_wp2_with fail
        go_roundw
        case rel => exact ⟨9, by omega, rfl, Lib.hid ⟨BR.out.1.below hHeld, BR.out.2.below hHeld⟩⟩
        case measure => simp [intOf]
      · intro BR hkl
        have FC := Lib.hid (fun W (b : Below wr.heap.size wr W) => And.intro (jcell (BR.out.1.below b)) (o84_9 (BR.out.2.below b)))
        clear hkl
        go_wp2_with fail
        refine wp_region_held_drew (S := (fun W => Below wr.heap.size wr W)) (by kernel_rfl) ((Below.refl _ _).drew) (fun hHeld => ?_)
        refine wpAnyH_take (i := 0) (oi := { dst := some 103, op := Op.load 53 (Operand.tmp 1), type := 53, pos := "law.go:207", after := #[], guard := none }) (v := ?_) rfl (by kernel_rfl) (by kernel_rfl) (by kernel_rfl) (fun _ _ _ h => h) (Or.inl ⟨by rfl, ?_⟩) (by assumption) ?_
        rotate_left
        · intro W hSw; obtain ⟨⟨c0, c1, c2, c3, c4, c5, c6⟩, d0, d1, d2, d3, d4, d5, d6⟩ := FC.out W hSw; go_simp; try with_reducible rfl
        try simp only [Act.put, List.setIfInBounds_toArray, List.set_cons_zero, List.set_cons_succ]
        refine wpAnyH_take (i := 1) (oi := { dst := some 104, op := Op.move (Operand.tmp 8), type := 84, pos := "law.go:207", after := #[], guard := none }) (v := ?_) rfl (by kernel_rfl) (by kernel_rfl) (by kernel_rfl) (fun _ _ _ h => h) (Or.inl ⟨by rfl, ?_⟩) (by assumption) ?_
        rotate_left
        · intro W hSw; go_simp; try with_reducible rfl
        try simp only [Act.put, List.setIfInBounds_toArray, List.set_cons_zero, List.set_cons_succ]
        refine wpAnyH_take (i := 2) (oi := { dst := some 105, op := Op.move (Operand.tmp 9), type := 3, pos := "law.go:207", after := #[], guard := none }) (v := ?_) rfl (by kernel_rfl) (by kernel_rfl) (by kernel_rfl) (fun _ _ _ h => h) (Or.inl ⟨by rfl, ?_⟩) (by assumption) ?_
        rotate_left
        · intro W hSw; go_simp; try with_reducible rfl
        try simp only [Act.put, List.setIfInBounds_toArray, List.set_cons_zero, List.set_cons_succ]
        refine wpAnyH_take (i := 3) (oi := { dst := some 106, op := Op.indexAddr 84 (Operand.tmp 104) (Operand.tmp 105), type := 0, pos := "law.go:207", after := #[{ on := 1, ground := Ground.data }, { on := 2, ground := Ground.data }], guard := none }) (v := ?_) rfl (by kernel_rfl) (by kernel_rfl) (by kernel_rfl) (fun _ _ _ h => h) (Or.inl ⟨by rfl, ?_⟩) (by assumption) ?_
        rotate_left
        · intro W hSw; go_simp; try with_reducible rfl
        try simp only [Act.put, List.setIfInBounds_toArray, List.set_cons_zero, List.set_cons_succ]
        refine wpAnyH_take (i := 4) (oi := { dst := some 107, op := Op.load 98 (Operand.tmp 106), type := 98, pos := "law.go:207", after := #[{ on := 3, ground := Ground.data }], guard := none }) (v := ?_) rfl (by kernel_rfl) (by kernel_rfl) (by kernel_rfl) (fun _ _ _ h => h) (Or.inl ⟨by rfl, ?_⟩) (by assumption) ?_
        rotate_left
        · intro W hSw; obtain ⟨⟨c0, c1, c2, c3, c4, c5, c6⟩, d0, d1, d2, d3, d4, d5, d6⟩ := FC.out W hSw; go_simp; try with_reducible rfl
        try simp only [Act.put, List.setIfInBounds_toArray, List.set_cons_zero, List.set_cons_succ]
        refine wpAnyH_ready (rs := [5]) (by kernel_rfl) (by simp) ?_
        refine AllReadyH.cons (o := { dst := some 108, op := Op.call { callee := Callee.value (Operand.func 56), args := #[Operand.tmp 103, Operand.tmp 107], argTypes := #[53, 98] }, type := 4, pos := "law.go:207", after := #[{ on := 0, ground := Ground.data }, { on := 4, ground := Ground.data }], guard := none }) rfl (fun K hK => ?_) AllReadyH.nil
        go_simp
        refine (c56_9 (BR.out.1.below hHeld) (BR.out.2.below hHeld)).mono ?_; rintro r W5 ⟨rfl, B5⟩
        go_wp2_with fail
        refine hK.out _ _ (step_below hHeld B5) (fun hHeldn => ?_)
        clear hK K hHeld; have hHeld := hHeldn; clear hHeldn
        clear B5
        try simp only [Act.put, List.setIfInBounds_toArray, List.set_cons_zero, List.set_cons_succ]
        refine wpAnyH_done (by kernel_rfl) ?_ _
        go_wp2_with fail
        go_roundw
        case rel => exact ⟨10, by omega, rfl, Lib.hid ⟨BR.out.1.below hHeld, BR.out.2.below hHeld⟩⟩
        case measure => simp [intOf]
      · intro BR hkl
        have FC := Lib.hid (fun W (b : Below wr.heap.size wr W) => And.intro (jcell (BR.out.1.below b)) (o84_10 (BR.out.2.below b)))
        clear hkl
        go_wp2_with fail
        refine wp_region_held_drew (S := (fun W => Below wr.heap.size wr W)) (by kernel_rfl) ((Below.refl _ _).drew) (fun hHeld => ?_)
        refine wpAnyH_take (i := 0) (oi := { dst := some 103, op := Op.load 53 (Operand.tmp 1), type := 53, pos := "law.go:207", after := #[], guard := none }) (v := ?_) rfl (by kernel_rfl) (by kernel_rfl) (by kernel_rfl) (fun _ _ _ h => h) (Or.inl ⟨by rfl, ?_⟩) (by assumption) ?_
        rotate_left
        · intro W hSw; obtain ⟨⟨c0, c1, c2, c3, c4, c5, c6⟩, d0, d1, d2, d3, d4, d5, d6⟩ := FC.out W hSw; go_simp; try with_reducible rfl
        try simp only [Act.put, List.setIfInBounds_toArray, List.set_cons_zero, List.set_cons_succ]
        refine wpAnyH_take (i := 1) (oi := { dst := some 104, op := Op.move (Operand.tmp 8), type := 84, pos := "law.go:207", after := #[], guard := none }) (v := ?_) rfl (by kernel_rfl) (by kernel_rfl) (by kernel_rfl) (fun _ _ _ h => h) (Or.inl ⟨by rfl, ?_⟩) (by assumption) ?_
        rotate_left
        · intro W hSw; go_simp; try with_reducible rfl
        try simp only [Act.put, List.setIfInBounds_toArray, List.set_cons_zero, List.set_cons_succ]
        refine wpAnyH_take (i := 2) (oi := { dst := some 105, op := Op.move (Operand.tmp 9), type := 3, pos := "law.go:207", after := #[], guard := none }) (v := ?_) rfl (by kernel_rfl) (by kernel_rfl) (by kernel_rfl) (fun _ _ _ h => h) (Or.inl ⟨by rfl, ?_⟩) (by assumption) ?_
        rotate_left
        · intro W hSw; go_simp; try with_reducible rfl
        try simp only [Act.put, List.setIfInBounds_toArray, List.set_cons_zero, List.set_cons_succ]
        refine wpAnyH_take (i := 3) (oi := { dst := some 106, op := Op.indexAddr 84 (Operand.tmp 104) (Operand.tmp 105), type := 0, pos := "law.go:207", after := #[{ on := 1, ground := Ground.data }, { on := 2, ground := Ground.data }], guard := none }) (v := ?_) rfl (by kernel_rfl) (by kernel_rfl) (by kernel_rfl) (fun _ _ _ h => h) (Or.inl ⟨by rfl, ?_⟩) (by assumption) ?_
        rotate_left
        · intro W hSw; go_simp; try with_reducible rfl
        try simp only [Act.put, List.setIfInBounds_toArray, List.set_cons_zero, List.set_cons_succ]
        refine wpAnyH_take (i := 4) (oi := { dst := some 107, op := Op.load 98 (Operand.tmp 106), type := 98, pos := "law.go:207", after := #[{ on := 3, ground := Ground.data }], guard := none }) (v := ?_) rfl (by kernel_rfl) (by kernel_rfl) (by kernel_rfl) (fun _ _ _ h => h) (Or.inl ⟨by rfl, ?_⟩) (by assumption) ?_
        rotate_left
        · intro W hSw; obtain ⟨⟨c0, c1, c2, c3, c4, c5, c6⟩, d0, d1, d2, d3, d4, d5, d6⟩ := FC.out W hSw; go_simp; try with_reducible rfl
        try simp only [Act.put, List.setIfInBounds_toArray, List.set_cons_zero, List.set_cons_succ]
        refine wpAnyH_ready (rs := [5]) (by kernel_rfl) (by simp) ?_
        refine AllReadyH.cons (o := { dst := some 108, op := Op.call { callee := Callee.value (Operand.func 56), args := #[Operand.tmp 103, Operand.tmp 107], argTypes := #[53, 98] }, type := 4, pos := "law.go:207", after := #[{ on := 0, ground := Ground.data }, { on := 4, ground := Ground.data }], guard := none }) rfl (fun K hK => ?_) AllReadyH.nil
        go_simp
        refine (c56_10 (BR.out.1.below hHeld) (BR.out.2.below hHeld)).mono ?_; rintro r W5 ⟨rfl, B5⟩
        go_wp2_with fail
        refine hK.out _ _ (step_below hHeld B5) (fun hHeldn => ?_)
        clear hK K hHeld; have hHeld := hHeldn; clear hHeldn
        clear B5
        try simp only [Act.put, List.setIfInBounds_toArray, List.set_cons_zero, List.set_cons_succ]
        refine wpAnyH_done (by kernel_rfl) ?_ _
        go_wp2_with fail
        go_roundw
        case rel => exact ⟨11, by omega, rfl, Lib.hid ⟨BR.out.1.below hHeld, BR.out.2.below hHeld⟩⟩
        case measure => simp [intOf]
      · intro BR hkl
        have FC := Lib.hid (fun W (b : Below wr.heap.size wr W) => And.intro (jcell (BR.out.1.below b)) (o84_11 (BR.out.2.below b)))
        clear hkl
        go_wp2_with fail
        refine wp_region_held_drew (S := (fun W => Below wr.heap.size wr W)) (by kernel_rfl) ((Below.refl _ _).drew) (fun hHeld => ?_)
        refine wpAnyH_take (i := 0) (oi := { dst := some 103, op := Op.load 53 (Operand.tmp 1), type := 53, pos := "law.go:207", after := #[], guard := none }) (v := ?_) rfl (by kernel_rfl) (by kernel_rfl) (by kernel_rfl) (fun _ _ _ h => h) (Or.inl ⟨by rfl, ?_⟩) (by assumption) ?_
        rotate_left
        · intro W hSw; obtain ⟨⟨c0, c1, c2, c3, c4, c5, c6⟩, d0, d1, d2, d3, d4, d5, d6⟩ := FC.out W hSw; go_simp; try with_reducible rfl
        try simp only [Act.put, List.setIfInBounds_toArray, List.set_cons_zero, List.set_cons_succ]
        refine wpAnyH_take (i := 1) (oi := { dst := some 104, op := Op.move (Operand.tmp 8), type := 84, pos := "law.go:207", after := #[], guard := none }) (v := ?_) rfl (by kernel_rfl) (by kernel_rfl) (by kernel_rfl) (fun _ _ _ h => h) (Or.inl ⟨by rfl, ?_⟩) (by assumption) ?_
        rotate_left
        · intro W hSw; go_simp; try with_reducible rfl
        try simp only [Act.put, List.setIfInBounds_toArray, List.set_cons_zero, List.set_cons_succ]
        refine wpAnyH_take (i := 2) (oi := { dst := some 105, op := Op.move (Operand.tmp 9), type := 3, pos := "law.go:207", after := #[], guard := none }) (v := ?_) rfl (by kernel_rfl) (by kernel_rfl) (by kernel_rfl) (fun _ _ _ h => h) (Or.inl ⟨by rfl, ?_⟩) (by assumption) ?_
        rotate_left
        · intro W hSw; go_simp; try with_reducible rfl
        try simp only [Act.put, List.setIfInBounds_toArray, List.set_cons_zero, List.set_cons_succ]
        refine wpAnyH_take (i := 3) (oi := { dst := some 106, op := Op.indexAddr 84 (Operand.tmp 104) (Operand.tmp 105), type := 0, pos := "law.go:207", after := #[{ on := 1, ground := Ground.data }, { on := 2, ground := Ground.data }], guard := none }) (v := ?_) rfl (by kernel_rfl) (by kernel_rfl) (by kernel_rfl) (fun _ _ _ h => h) (Or.inl ⟨by rfl, ?_⟩) (by assumption) ?_
        rotate_left
        · intro W hSw; go_simp; try with_reducible rfl
        try simp only [Act.put, List.setIfInBounds_toArray, List.set_cons_zero, List.set_cons_succ]
        refine wpAnyH_take (i := 4) (oi := { dst := some 107, op := Op.load 98 (Operand.tmp 106), type := 98, pos := "law.go:207", after := #[{ on := 3, ground := Ground.data }], guard := none }) (v := ?_) rfl (by kernel_rfl) (by kernel_rfl) (by kernel_rfl) (fun _ _ _ h => h) (Or.inl ⟨by rfl, ?_⟩) (by assumption) ?_
        rotate_left
        · intro W hSw; obtain ⟨⟨c0, c1, c2, c3, c4, c5, c6⟩, d0, d1, d2, d3, d4, d5, d6⟩ := FC.out W hSw; go_simp; try with_reducible rfl
        try simp only [Act.put, List.setIfInBounds_toArray, List.set_cons_zero, List.set_cons_succ]
        refine wpAnyH_ready (rs := [5]) (by kernel_rfl) (by simp) ?_
        refine AllReadyH.cons (o := { dst := some 108, op := Op.call { callee := Callee.value (Operand.func 56), args := #[Operand.tmp 103, Operand.tmp 107], argTypes := #[53, 98] }, type := 4, pos := "law.go:207", after := #[{ on := 0, ground := Ground.data }, { on := 4, ground := Ground.data }], guard := none }) rfl (fun K hK => ?_) AllReadyH.nil
        go_simp
        refine (c56_11 (BR.out.1.below hHeld) (BR.out.2.below hHeld)).mono ?_; rintro r W5 ⟨rfl, B5⟩
        go_wp2_with fail
        refine hK.out _ _ (step_below hHeld B5) (fun hHeldn => ?_)
        clear hK K hHeld; have hHeld := hHeldn; clear hHeldn
        clear B5
        try simp only [Act.put, List.setIfInBounds_toArray, List.set_cons_zero, List.set_cons_succ]
        refine wpAnyH_done (by kernel_rfl) ?_ _
        go_wp2_with fail
        go_roundw
        case rel => exact ⟨12, by omega, rfl, Lib.hid ⟨BR.out.1.below hHeld, BR.out.2.below hHeld⟩⟩
        case measure => simp [intOf]
    · obtain rfl : k = 12 := by omega
      go_wp2_with fail
      go_meet
      exact BR

  case rest =>
    rename_i hK
    refine hK _ _ ?_
    have hn' := hNext.out
    unfold Blk4 at hn'
    exact hn' bj b5 b6 b7 r1 m25 m33 bo _ _ _ _ _ _ _ _ _ _ _ _ _ _ _ _ _ _ _ _ _ _ _ _ _ _ _ _ _ _ _ _ _ _ _ _ _ _ _ _ _ _ _ _ _ _ _ _ _ _ _ _ _ _ _ _ _ _ _ _ _ _ _ _ _ _ _ _ _ _ _ _ _ _ _ _ _ _ _ _ _ _ _ _ _ _ _ _ _ _ _ _ _ _ _ _ _ _ _ _ _ _ _ _ _ _ _ _ _ _ _ _ _ _ _ _ _ _ _ _ _ _ _ _ _ _ _ _ _ _ _ _ _ _ _ _ _ _ _ _ _ _ _ _ _ _ _ _ _ _ _ _ _ _ _ _ _ _ _ _ _ _ _ _ _ _ _ _ _ _ _ _ _ _ _ _ _ _ _ _ _ _ _ _ _ _ _ _ _ _ _ _ _ _ _ _ _ _ _ _ _ _ _ _ _ _ _ _ _ _ _ _ _ _ _ _ _ _ _ _ _ _ _ _ _ _ _ _ _ _ _ _ _ _ _ _ _ _ _ _ _ _ _ _ _ _ _ _ _ _ _ _ _ _ _ _ _ _ _ _ _ _ _ _ _ _ _ _ _ _ _ _ _ _ _ _ _ _ _ _ _ _ _ _ _ _ _ _ _ _ _ _ _ _ wc (hcut.out)
end Go.Proofs.Ytkgcbhpgkcfkhaa

namespace Go.Proofs.Ytkgcbhpgkcfkhaa
open Go.ChangeShapes Go.WideShapes Go.ChangeAt Go.RowKit Go.Shelf
set_option linter.unusedVariables false
set_option linter.unusedSimpArgs false
set_option maxRecDepth 100000 in
set_option maxHeartbeats 100000000 in
theorem cbd4 (w : World) (hNext : Blk5 w) : Blk4 w := by
  replace hNext := Lib.hid hNext
  intro bj b5 b6 b7 r1 m25 m33 bo u0 u3 u4 u8 u9 u10 u11 u12 u13 u14 u15 u16 u17 u18 u19 u20 u21 u22 u23 u24 u25 u26 u27 u28 u29 u30 u31 u32 u33 u34 u35 u36 u37 u38 u39 u40 u41 u42 u43 u44 u45 u46 u47 u48 u49 u50 u51 u52 u53 u54 u55 u56 u57 u58 u59 u60 u61 u62 u63 u64 u65 u66 u67 u68 u69 u70 u71 u72 u73 u74 u75 u76 u77 u78 u79 u80 u81 u82 u83 u84 u85 u86 u87 u88 u89 u90 u91 u92 u93 u94 u95 u96 u97 u98 u99 u100 u101 u102 u103 u104 u105 u106 u107 u108 u109 u110 u111 u112 u113 u114 u115 u116 u117 u118 u119 u120 u121 u122 u123 u124 u125 u126 u127 u128 u129 u130 u131 u132 u133 u134 u135 u136 u137 u138 u139 u140 u141 u142 u143 u144 u145 u146 u147 u148 u149 u150 u151 u152 u153 u154 u155 u156 u157 u158 u159 u160 u161 u162 u163 u164 u165 u166 u167 u168 u169 u170 u171 u172 u173 u174 u175 u176 u177 u178 u179 u180 u181 u182 u183 u184 u185 u186 u187 u188 u189 u190 u191 u192 u193 u194 u195 u196 u197 u198 u199 u200 u201 u202 u203 u204 u205 u206 u207 u208 u209 u210 u211 u212 u213 u214 u215 u216 u217 u218 u219 u220 u221 u222 u223 u224 u225 u226 u227 u228 u229 u230 u231 u232 u233 u234 u235 u236 u237 u238 u239 u240 u241 u242 u243 u244 u245 u246 u247 u248 u249 u250 u251 u252 u253 u254 u255 u256 u257 u258 u259 u260 u261 u262 u263 u264 u265 u266 u267 u268 u269 u270 u271 u272 u273 u274 u275 u276 u277 u278 u279 u280 u281 u282 u283 u284 u285 u286 u287 u288 u289 u290 u291 u292 u293 u294 u295 u296 u297 u298 wc hX
  have hcut := Lib.hid hX
  clear hX
  obtain ⟨c, hc⟩ : ∃ c, sndC (sndC (sndC (sndC (sndC (sndC (sndC (sndC (sndC (sndC (sndC (sndC (sndC (sndC bodyC))))))))))))) = c := ⟨_, rfl⟩
  rw [hc]
  simp only [bodyC, sndC, Try.f11, Option.getD] at hc
  subst hc
  have hmx : Try.prog.follows .mixedOrders = true := by kernel_rfl
  obtain ⟨WA, hWA⟩ : ∃ W, W = wc := ⟨_, rfl⟩
  rw [← hWA] at hcut ⊢
  clear hWA
  go_wp2_with fail
  refine (job_law _).mono ?_; rintro r WB ⟨⟨bk, rfl, hjk⟩, BB⟩
  unfold kjV
  have HB := Lib.hid (hcut.out.1.below BB)
  have HR := Lib.hid (hcut.out.2.row.below BB)
  have HK := Lib.hid hjk
  clear BB hjk hcut
  go_upto_region 26 with (fail)
  have HX := Lib.hid (BoxC.new WB #[.int .i64 1, .int .i64 1, .int .i64 3, .int .i64 1024, .int .i64 1024, .int .i64 1, .slice (some ⟨bk, 0, none⟩) 2 2] 53)
  have HA := Lib.hid (bl1 WB (.cells #[.int .i64 1, .int .i64 1, .int .i64 3, .int .i64 1024, .int .i64 1024, .int .i64 1, .slice (some ⟨bk, 0, none⟩) 2 2] 53))
  generalize World.alloc _ _ = WC at HX HA ⊢
  have d6 : (WC.alloc (.cells #[.int .i64 1] 3)).cell? ⟨WB.heap.size, 6, none⟩ = some (.slice (some ⟨bk, 0, none⟩) 2 2) := (HX.out.alloc (.cells #[.int .i64 1] 3)).cell 6
  have f6 := (HX.out.alloc (.cells #[.int .i64 1] 3)).frozen 6
  go_upto_region 27 with (fail)
  clear d6 f6
  have HS := Lib.hid (small_of WB WC bk HX.out HA.out)
  clear HX HA HK
  generalize World.setCell _ _ _ = WD at HS ⊢
  replace HB := Lib.hid (HB.out.below HS.out.2)
  replace HR := Lib.hid (HR.out.below HS.out.2)
  replace HS := Lib.hid HS.out.1
  generalize WC.heap.size = b11 at HS ⊢
  generalize WB.heap.size = b10 at HS ⊢
  have kc := fun (w : World) (C : Array Value) (n c b : Nat) (hb : b = w.heap.size) => (by subst hb; exact Lib.run_convert_bytes_const w 24 5 C n c Try.underlying24 Try.underlying5 : (convert 24 24 (.slice (some ⟨b, 0, none⟩) n c)).run Try.prog (w.alloc (.cells C 5)) = .ok (.slice (some ⟨b, 0, none⟩) n c) (w.alloc (.cells C 5 (C.size, C.size + 1))))
  obtain ⟨c0, c1, c2, c3, c4, c5, c6⟩ := jcell HB.out
  go_wp2_with fail
  clear c0 c1 c2 c3 c4 c5 c6
  have HA := Lib.hid (bl2 WD (.cells #[.int .u8 97, .int .u8 0] 5 (2, 3)) (.cells #[.int .u8 98, .int .u8 0] 5 (2, 3)))
  have L1 := Lib.hid ((ls_new .u8 WD [97, 0] #[.int .u8 97, .int .u8 0] 5 (2, 3) rfl 2 rfl).below (bl1 _ (.cells #[.int .u8 98, .int .u8 0] 5 (2, 3))))
  have L2 := Lib.hid (al_ls (WD.alloc (.cells #[.int .u8 97, .int .u8 0] 5 (2, 3))) (WD.heap.size + 1) (by simp) [98, 0] #[.int .u8 98, .int .u8 0] (2, 3) rfl 2 rfl)
  generalize World.alloc _ _ = WE at HA L1 L2 ⊢
  replace HB := Lib.hid (HB.out.below (HA.out))
  replace HR := Lib.hid (HR.out.below (HA.out))
  replace HS := Lib.hid (HS.out.below (HA.out))
  clear HA
  refine (c57_look HB.out L1.out L2.out).mono ?_; rintro r WF ⟨⟨fa, fc, ta, tc, rfl, lf, lt⟩, BF⟩
  replace HB := Lib.hid (HB.out.below (BF))
  replace HR := Lib.hid (HR.out.below (BF))
  replace HS := Lib.hid (HS.out.below (BF))
  have HF := Lib.hid (And.intro lf lt)
  clear lf lt BF L1 L2
  go_upto_region 28 with (fail)
  have HX := Lib.hid (BoxC.new WF #[.int .i64 1, .slice fa 3 fc, .slice ta 3 tc, .bool true] 101)
  have HA := Lib.hid (bl1 WF (.cells #[.int .i64 1, .slice fa 3 fc, .slice ta 3 tc, .bool true] 101))
  generalize World.alloc _ _ = WG at HX HA ⊢
  replace HB := Lib.hid (HB.out.below (HA.out))
  replace HR := Lib.hid (HR.out.below (HA.out))
  replace HS := Lib.hid (HS.out.below (HA.out))
  replace HF := Lib.hid (And.intro (HF.out.1.below HA.out) (HF.out.2.below HA.out))
  clear HA
  generalize WF.heap.size = b13 at HX ⊢
  obtain ⟨c0, c1, c2, c3, c4, c5, c6⟩ := jcell HB.out
  go_wp2_with fail
  clear c0 c1 c2 c3 c4 c5 c6
  have HA := Lib.hid (bl1 WG (.cells #[] 5))
  have L1 := Lib.hid (ls_new .u8 WG [] #[] 5 (0, 0) rfl 0 rfl)
  generalize World.alloc _ _ = WH at HA L1 ⊢
  replace HB := Lib.hid (HB.out.below (HA.out))
  replace HR := Lib.hid (HR.out.below (HA.out))
  replace HS := Lib.hid (HS.out.below (HA.out))
  replace HF := Lib.hid (And.intro (HF.out.1.below HA.out) (HF.out.2.below HA.out))
  replace HX := Lib.hid (HX.out.below HA.out)
  clear HA
  refine (c57_scan HB.out L1.out).mono ?_; rintro r WI ⟨⟨ga, gc, ua, uc, rfl⟩, BI⟩
  replace HB := Lib.hid (HB.out.below (BI))
  replace HR := Lib.hid (HR.out.below (BI))
  replace HS := Lib.hid (HS.out.below (BI))
  replace HF := Lib.hid (And.intro (HF.out.1.below BI) (HF.out.2.below BI))
  replace HX := Lib.hid (HX.out.below BI)
  clear BI L1
  go_upto_region 29 with (fail)
  have HY := Lib.hid (BoxC.new WI #[.int .i64 0, .slice ga 0 gc, .slice ua 0 uc, .bool false] 101)
  have HA := Lib.hid (bl1 WI (.cells #[.int .i64 0, .slice ga 0 gc, .slice ua 0 uc, .bool false] 101))
  generalize World.alloc _ _ = WJ at HY HA ⊢
  replace HB := Lib.hid (HB.out.below (HA.out))
  replace HR := Lib.hid (HR.out.below (HA.out))
  replace HS := Lib.hid (HS.out.below (HA.out))
  replace HF := Lib.hid (And.intro (HF.out.1.below HA.out) (HF.out.2.below HA.out))
  replace HX := Lib.hid (HX.out.below HA.out)
  clear HA
  generalize WI.heap.size = b14 at HY ⊢
  obtain ⟨c0, c1, c2, c3, c4, c5, c6⟩ := HS.out.c
  go_wp2_with fail
  clear c0 c1 c2 c3 c4 c5 c6
  refine (c56_small HS.out).mono ?_; rintro r WK ⟨rfl, BK⟩
  replace HB := Lib.hid (HB.out.below (BK))
  replace HR := Lib.hid (HR.out.below (BK))
  replace HS := Lib.hid (HS.out.below (BK))
  replace HF := Lib.hid (And.intro (HF.out.1.below BK) (HF.out.2.below BK))
  replace HX := Lib.hid (HX.out.below BK)
  replace HY := Lib.hid (HY.out.below BK)
  clear BK HS
  obtain ⟨c0, c1, c2, c3, c4, c5, c6⟩ := jcell HB.out
  go_wp2_with fail
  clear c0 c1 c2 c3 c4 c5 c6
  have HA := Lib.hid (bl2 WK (.cells #[.slice (some ⟨b6, 0, none⟩) 1 1] 24) (.cells #[.int .i64 3, .int .i64 0, .int .i64 0, .slice (some ⟨b6, 0, none⟩) 1 1, .slice none 0 0, .int .i64 0, .slice (some ⟨WK.heap.size, 0, none⟩) 1 1] 98))
  have HRw := Lib.hid ((al_row WK WK.heap.size rfl b6 HB.out.key).below (bl1 _ (.cells #[.int .i64 3, .int .i64 0, .int .i64 0, .slice (some ⟨b6, 0, none⟩) 1 1, .slice none 0 0, .int .i64 0, .slice (some ⟨WK.heap.size, 0, none⟩) 1 1] 98)))
  have HIn := Lib.hid (al_box (WK.alloc (.cells #[.slice (some ⟨b6, 0, none⟩) 1 1] 24)) (WK.heap.size + 1) (by simp) #[.int .i64 3, .int .i64 0, .int .i64 0, .slice (some ⟨b6, 0, none⟩) 1 1, .slice none 0 0, .int .i64 0, .slice (some ⟨WK.heap.size, 0, none⟩) 1 1] 98)
  generalize World.alloc _ _ = WL at HA HRw HIn ⊢
  replace HB := Lib.hid (HB.out.below HA.out)
  replace HF := Lib.hid (And.intro (HF.out.1.below HA.out) (HF.out.2.below HA.out))
  replace HX := Lib.hid (HX.out.below HA.out)
  replace HY := Lib.hid (HY.out.below HA.out)
  clear HA HR
  refine (c51_ins HB.out HRw.out HIn.out).mono ?_; rintro r WM ⟨rfl, BM⟩
  replace HB := Lib.hid (HB.out.below BM)
  replace HF := Lib.hid (And.intro (HF.out.1.below BM) (HF.out.2.below BM))
  replace HX := Lib.hid (HX.out.below BM)
  replace HY := Lib.hid (HY.out.below BM)
  clear BM HRw HIn
  have x1 := HX.out.cell 1
  have x2 := HX.out.cell 2
  have x3 := HX.out.cell 3
  have y3 := HY.out.cell 3
  simp only [List.getElem?_toArray, List.getElem?_cons_zero, List.getElem?_cons_succ] at x1 x2 x3 y3
  have e1 := kc_ls fa 3 fc [97, 0, 255] ⟨#[97, 0, 255]⟩ rfl rfl WM HF.out.1
  have e2 := kc_ls ta 3 tc [98, 0, 255] ⟨#[98, 0, 255]⟩ rfl rfl WM HF.out.2
  go_wp2_with fail
  refine (num35 _ _).mono ?_; rintro r W35 ⟨rfl, rfl⟩
  go_wp2_with fail
  refine (num35 _ _).mono ?_; rintro r W35 ⟨rfl, rfl⟩
  go_upto_region 31 with (fail)
  clear x1 x2 x3 y3 e1 e2 HX HY HF
  obtain ⟨c0, c1, c2, c3, c4, c5, c6⟩ := jcell HB.out
  go_wp2_with fail
  clear c0 c1 c2 c3 c4 c5 c6
  have HD := Lib.hid (rows6 WM)
  generalize World.alloc _ _ = WN at HD ⊢
  replace HB := Lib.hid (HB.out.below HD.out.2.2)
  refine (c45_chg HB.out rfl rfl rfl rfl HD.out.1 HD.out.2.1).mono ?_; rintro r WO ⟨⟨x, y, cx, cy, rfl⟩, BO⟩
  replace HB := Lib.hid (HB.out.below BO)
  clear BO HD kc
  go_wp2_with fail
  refine (num35 _ _).mono ?_; rintro r W35 ⟨rfl, rfl⟩
  have k17 := fun W => mk17 W b6
  go_upto_block 6 with (fail)
  go_cut [19] (fun v wx => Hid (Below WO.heap.size WO wx ∧ BoxC wx WO.heap.size (sevL b6 17).toArray 98))
  case first =>
    go_wp2_with fail
    go_loopw [19] (fun i wr => ∃ k : Nat, k ≤ 17 ∧ i = .int .i64 (k : Int) ∧ Hid (Below WO.heap.size WO wr ∧ BoxC wr WO.heap.size (sevL b6 k).toArray 98)) (fun i _ => 17 - (intOf i).toNat)
    case atStart => exact ⟨0, by omega, rfl, Lib.hid ⟨bl1 _ _, BoxC.new WO _ 98⟩⟩
    obtain ⟨k, hk, rfl, BR⟩ := hrel
    by_cases hlt : k < 17
    · have hkl : (k : Int) < 17 := by omega
      obtain ⟨g0, g1, g2, g3, g4, g5, g6⟩ := gcell (HB.out.below BR.out.1)
      clear hk
      revert BR hkl
      rcases (by omega : k = 0 ∨ k = 1 ∨ k = 2 ∨ k = 3 ∨ k = 4 ∨ k = 5 ∨ k = 6 ∨ k = 7 ∨ k = 8 ∨ k = 9 ∨ k = 10 ∨ k = 11 ∨ k = 12 ∨ k = 13 ∨ k = 14 ∨ k = 15 ∨ k = 16) with rfl | rfl | rfl | rfl | rfl | rfl | rfl | rfl | rfl | rfl | rfl | rfl | rfl | rfl | rfl | rfl | rfl
      · intro BR hkl
        have d0 : wr.cell? ⟨WO.heap.size, 0, none⟩ = some (.int .i64 0) := BR.out.2.cell 0
        have f0 := BR.out.2.frozen 0
        have d1 : wr.cell? ⟨WO.heap.size, 1, none⟩ = some (.int .i64 0) := BR.out.2.cell 1
        have f1 := BR.out.2.frozen 1
        have d2 : wr.cell? ⟨WO.heap.size, 2, none⟩ = some (.int .i64 0) := BR.out.2.cell 2
        have f2 := BR.out.2.frozen 2
        have d3 : wr.cell? ⟨WO.heap.size, 3, none⟩ = some (.slice none 0 0) := BR.out.2.cell 3
        have f3 := BR.out.2.frozen 3
        have d4 : wr.cell? ⟨WO.heap.size, 4, none⟩ = some (.slice none 0 0) := BR.out.2.cell 4
        have f4 := BR.out.2.frozen 4
        have d5 : wr.cell? ⟨WO.heap.size, 5, none⟩ = some (.int .i64 0) := BR.out.2.cell 5
        have f5 := BR.out.2.frozen 5
        have d6 : wr.cell? ⟨WO.heap.size, 6, none⟩ = some (.slice none 0 0) := BR.out.2.cell 6
        have f6 := BR.out.2.frozen 6
        clear hkl
        go_wp2_with fail
        go_roundw
        case rel => exact ⟨1, by omega, rfl, Lib.hid ⟨sev_below BR.out.1 _ _, sev_put BR.out.2 0 rfl⟩⟩
        case measure => simp [intOf]
      · intro BR hkl
        have d0 : wr.cell? ⟨WO.heap.size, 7, none⟩ = some (.int .i64 0) := BR.out.2.cell 7
        have f0 := BR.out.2.frozen 7
        have d1 : wr.cell? ⟨WO.heap.size, 8, none⟩ = some (.int .i64 0) := BR.out.2.cell 8
        have f1 := BR.out.2.frozen 8
        have d2 : wr.cell? ⟨WO.heap.size, 9, none⟩ = some (.int .i64 0) := BR.out.2.cell 9
        have f2 := BR.out.2.frozen 9
        have d3 : wr.cell? ⟨WO.heap.size, 10, none⟩ = some (.slice none 0 0) := BR.out.2.cell 10
        have f3 := BR.out.2.frozen 10
        have d4 : wr.cell? ⟨WO.heap.size, 11, none⟩ = some (.slice none 0 0) := BR.out.2.cell 11
        have f4 := BR.out.2.frozen 11
        have d5 : wr.cell? ⟨WO.heap.size, 12, none⟩ = some (.int .i64 0) := BR.out.2.cell 12
        have f5 := BR.out.2.frozen 12
        have d6 : wr.cell? ⟨WO.heap.size, 13, none⟩ = some (.slice none 0 0) := BR.out.2.cell 13
        have f6 := BR.out.2.frozen 13
        clear hkl
        go_wp2_with fail
        go_roundw
        case rel => exact ⟨2, by omega, rfl, Lib.hid ⟨sev_below BR.out.1 _ _, sev_put BR.out.2 7 rfl⟩⟩
        case measure => simp [intOf]
      · intro BR hkl
        have d0 : wr.cell? ⟨WO.heap.size, 14, none⟩ = some (.int .i64 0) := BR.out.2.cell 14
        have f0 := BR.out.2.frozen 14
        have d1 : wr.cell? ⟨WO.heap.size, 15, none⟩ = some (.int .i64 0) := BR.out.2.cell 15
        have f1 := BR.out.2.frozen 15
        have d2 : wr.cell? ⟨WO.heap.size, 16, none⟩ = some (.int .i64 0) := BR.out.2.cell 16
        have f2 := BR.out.2.frozen 16
        have d3 : wr.cell? ⟨WO.heap.size, 17, none⟩ = some (.slice none 0 0) := BR.out.2.cell 17
        have f3 := BR.out.2.frozen 17
        have d4 : wr.cell? ⟨WO.heap.size, 18, none⟩ = some (.slice none 0 0) := BR.out.2.cell 18
        have f4 := BR.out.2.frozen 18
        have d5 : wr.cell? ⟨WO.heap.size, 19, none⟩ = some (.int .i64 0) := BR.out.2.cell 19
        have f5 := BR.out.2.frozen 19
        have d6 : wr.cell? ⟨WO.heap.size, 20, none⟩ = some (.slice none 0 0) := BR.out.2.cell 20
        have f6 := BR.out.2.frozen 20
        clear hkl
        go_wp2_with fail
        go_roundw
        case rel => exact ⟨3, by omega, rfl, Lib.hid ⟨sev_below BR.out.1 _ _, sev_put BR.out.2 14 rfl⟩⟩
        case measure => simp [intOf]
      · intro BR hkl
        have d0 : wr.cell? ⟨WO.heap.size, 21, none⟩ = some (.int .i64 0) := BR.out.2.cell 21
        have f0 := BR.out.2.frozen 21
        have d1 : wr.cell? ⟨WO.heap.size, 22, none⟩ = some (.int .i64 0) := BR.out.2.cell 22
        have f1 := BR.out.2.frozen 22
        have d2 : wr.cell? ⟨WO.heap.size, 23, none⟩ = some (.int .i64 0) := BR.out.2.cell 23
        have f2 := BR.out.2.frozen 23
        have d3 : wr.cell? ⟨WO.heap.size, 24, none⟩ = some (.slice none 0 0) := BR.out.2.cell 24
        have f3 := BR.out.2.frozen 24
        have d4 : wr.cell? ⟨WO.heap.size, 25, none⟩ = some (.slice none 0 0) := BR.out.2.cell 25
        have f4 := BR.out.2.frozen 25
        have d5 : wr.cell? ⟨WO.heap.size, 26, none⟩ = some (.int .i64 0) := BR.out.2.cell 26
        have f5 := BR.out.2.frozen 26
        have d6 : wr.cell? ⟨WO.heap.size, 27, none⟩ = some (.slice none 0 0) := BR.out.2.cell 27
        have f6 := BR.out.2.frozen 27
        clear hkl
        go_wp2_with fail
        go_roundw
        case rel => exact ⟨4, by omega, rfl, Lib.hid ⟨sev_below BR.out.1 _ _, sev_put BR.out.2 21 rfl⟩⟩
        case measure => simp [intOf]
      · intro BR hkl
        have d0 : wr.cell? ⟨WO.heap.size, 28, none⟩ = some (.int .i64 0) := BR.out.2.cell 28
        have f0 := BR.out.2.frozen 28
        have d1 : wr.cell? ⟨WO.heap.size, 29, none⟩ = some (.int .i64 0) := BR.out.2.cell 29
        have f1 := BR.out.2.frozen 29
        have d2 : wr.cell? ⟨WO.heap.size, 30, none⟩ = some (.int .i64 0) := BR.out.2.cell 30
        have f2 := BR.out.2.frozen 30
        have d3 : wr.cell? ⟨WO.heap.size, 31, none⟩ = some (.slice none 0 0) := BR.out.2.cell 31
        have f3 := BR.out.2.frozen 31
        have d4 : wr.cell? ⟨WO.heap.size, 32, none⟩ = some (.slice none 0 0) := BR.out.2.cell 32
        have f4 := BR.out.2.frozen 32
        have d5 : wr.cell? ⟨WO.heap.size, 33, none⟩ = some (.int .i64 0) := BR.out.2.cell 33
        have f5 := BR.out.2.frozen 33
        have d6 : wr.cell? ⟨WO.heap.size, 34, none⟩ = some (.slice none 0 0) := BR.out.2.cell 34
        have f6 := BR.out.2.frozen 34
        clear hkl
        go_wp2_with fail
        go_roundw
        case rel => exact ⟨5, by omega, rfl, Lib.hid ⟨sev_below BR.out.1 _ _, sev_put BR.out.2 28 rfl⟩⟩
        case measure => simp [intOf]
      · intro BR hkl
        have d0 : wr.cell? ⟨WO.heap.size, 35, none⟩ = some (.int .i64 0) := BR.out.2.cell 35
        have f0 := BR.out.2.frozen 35
        have d1 : wr.cell? ⟨WO.heap.size, 36, none⟩ = some (.int .i64 0) := BR.out.2.cell 36
        have f1 := BR.out.2.frozen 36
        have d2 : wr.cell? ⟨WO.heap.size, 37, none⟩ = some (.int .i64 0) := BR.out.2.cell 37
        have f2 := BR.out.2.frozen 37
        have d3 : wr.cell? ⟨WO.heap.size, 38, none⟩ = some (.slice none 0 0) := BR.out.2.cell 38
        have f3 := BR.out.2.frozen 38
        have d4 : wr.cell? ⟨WO.heap.size, 39, none⟩ = some (.slice none 0 0) := BR.out.2.cell 39
        have f4 := BR.out.2.frozen 39
        have d5 : wr.cell? ⟨WO.heap.size, 40, none⟩ = some (.int .i64 0) := BR.out.2.cell 40
        have f5 := BR.out.2.frozen 40
        have d6 : wr.cell? ⟨WO.heap.size, 41, none⟩ = some (.slice none 0 0) := BR.out.2.cell 41
        have f6 := BR.out.2.frozen 41
        clear hkl
        go_wp2_with fail
        go_roundw
        case rel => exact ⟨6, by omega, rfl, Lib.hid ⟨sev_below BR.out.1 _ _, sev_put BR.out.2 35 rfl⟩⟩
        case measure => simp [intOf]
      · intro BR hkl
        have d0 : wr.cell? ⟨WO.heap.size, 42, none⟩ = some (.int .i64 0) := BR.out.2.cell 42
        have f0 := BR.out.2.frozen 42
        have d1 : wr.cell? ⟨WO.heap.size, 43, none⟩ = some (.int .i64 0) := BR.out.2.cell 43
        have f1 := BR.out.2.frozen 43
        have d2 : wr.cell? ⟨WO.heap.size, 44, none⟩ = some (.int .i64 0) := BR.out.2.cell 44
        have f2 := BR.out.2.frozen 44
        have d3 : wr.cell? ⟨WO.heap.size, 45, none⟩ = some (.slice none 0 0) := BR.out.2.cell 45
        have f3 := BR.out.2.frozen 45
        have d4 : wr.cell? ⟨WO.heap.size, 46, none⟩ = some (.slice none 0 0) := BR.out.2.cell 46
        have f4 := BR.out.2.frozen 46
        have d5 : wr.cell? ⟨WO.heap.size, 47, none⟩ = some (.int .i64 0) := BR.out.2.cell 47
        have f5 := BR.out.2.frozen 47
        have d6 : wr.cell? ⟨WO.heap.size, 48, none⟩ = some (.slice none 0 0) := BR.out.2.cell 48
        have f6 := BR.out.2.frozen 48
        clear hkl
        go_wp2_with fail
        go_roundw
        case rel => exact ⟨7, by omega, rfl, Lib.hid ⟨sev_below BR.out.1 _ _, sev_put BR.out.2 42 rfl⟩⟩
        case measure => simp [intOf]
      · intro BR hkl
        have d0 : wr.cell? ⟨WO.heap.size, 49, none⟩ = some (.int .i64 0) := BR.out.2.cell 49
        have f0 := BR.out.2.frozen 49
        have d1 : wr.cell? ⟨WO.heap.size, 50, none⟩ = some (.int .i64 0) := BR.out.2.cell 50
        have f1 := BR.out.2.frozen 50
        have d2 : wr.cell? ⟨WO.heap.size, 51, none⟩ = some (.int .i64 0) := BR.out.2.cell 51
        have f2 := BR.out.2.frozen 51
        have d3 : wr.cell? ⟨WO.heap.size, 52, none⟩ = some (.slice none 0 0) := BR.out.2.cell 52
        have f3 := BR.out.2.frozen 52
        have d4 : wr.cell? ⟨WO.heap.size, 53, none⟩ = some (.slice none 0 0) := BR.out.2.cell 53
        have f4 := BR.out.2.frozen 53
        have d5 : wr.cell? ⟨WO.heap.size, 54, none⟩ = some (.int .i64 0) := BR.out.2.cell 54
        have f5 := BR.out.2.frozen 54
        have d6 : wr.cell? ⟨WO.heap.size, 55, none⟩ = some (.slice none 0 0) := BR.out.2.cell 55
        have f6 := BR.out.2.frozen 55
        clear hkl
        go_wp2_with fail
        go_roundw
        case rel => exact ⟨8, by omega, rfl, Lib.hid ⟨sev_below BR.out.1 _ _, sev_put BR.out.2 49 rfl⟩⟩
        case measure => simp [intOf]
      · intro BR hkl
        have d0 : wr.cell? ⟨WO.heap.size, 56, none⟩ = some (.int .i64 0) := BR.out.2.cell 56
        have f0 := BR.out.2.frozen 56
        have d1 : wr.cell? ⟨WO.heap.size, 57, none⟩ = some (.int .i64 0) := BR.out.2.cell 57
        have f1 := BR.out.2.frozen 57
        have d2 : wr.cell? ⟨WO.heap.size, 58, none⟩ = some (.int .i64 0) := BR.out.2.cell 58
        have f2 := BR.out.2.frozen 58
        have d3 : wr.cell? ⟨WO.heap.size, 59, none⟩ = some (.slice none 0 0) := BR.out.2.cell 59
        have f3 := BR.out.2.frozen 59
        have d4 : wr.cell? ⟨WO.heap.size, 60, none⟩ = some (.slice none 0 0) := BR.out.2.cell 60
        have f4 := BR.out.2.frozen 60
        have d5 : wr.cell? ⟨WO.heap.size, 61, none⟩ = some (.int .i64 0) := BR.out.2.cell 61
        have f5 := BR.out.2.frozen 61
        have d6 : wr.cell? ⟨WO.heap.size, 62, none⟩ = some (.slice none 0 0) := BR.out.2.cell 62
        have f6 := BR.out.2.frozen 62
        clear hkl
        go_wp2_with fail
        go_roundw
        case rel => exact ⟨9, by omega, rfl, Lib.hid ⟨sev_below BR.out.1 _ _, sev_put BR.out.2 56 rfl⟩⟩
        case measure => simp [intOf]
      · intro BR hkl
        have d0 : wr.cell? ⟨WO.heap.size, 63, none⟩ = some (.int .i64 0) := BR.out.2.cell 63
        have f0 := BR.out.2.frozen 63
        have d1 : wr.cell? ⟨WO.heap.size, 64, none⟩ = some (.int .i64 0) := BR.out.2.cell 64
        have f1 := BR.out.2.frozen 64
        have d2 : wr.cell? ⟨WO.heap.size, 65, none⟩ = some (.int .i64 0) := BR.out.2.cell 65
        have f2 := BR.out.2.frozen 65
        have d3 : wr.cell? ⟨WO.heap.size, 66, none⟩ = some (.slice none 0 0) := BR.out.2.cell 66
        have f3 := BR.out.2.frozen 66
        have d4 : wr.cell? ⟨WO.heap.size, 67, none⟩ = some (.slice none 0 0) := BR.out.2.cell 67
        have f4 := BR.out.2.frozen 67
        have d5 : wr.cell? ⟨WO.heap.size, 68, none⟩ = some (.int .i64 0) := BR.out.2.cell 68
        have f5 := BR.out.2.frozen 68
        have d6 : wr.cell? ⟨WO.heap.size, 69, none⟩ = some (.slice none 0 0) := BR.out.2.cell 69
        have f6 := BR.out.2.frozen 69
        clear hkl
        go_wp2_with fail
        go_roundw
        case rel => exact ⟨10, by omega, rfl, Lib.hid ⟨sev_below BR.out.1 _ _, sev_put BR.out.2 63 rfl⟩⟩
        case measure => simp [intOf]
      · intro BR hkl
        have d0 : wr.cell? ⟨WO.heap.size, 70, none⟩ = some (.int .i64 0) := BR.out.2.cell 70
        have f0 := BR.out.2.frozen 70
        have d1 : wr.cell? ⟨WO.heap.size, 71, none⟩ = some (.int .i64 0) := BR.out.2.cell 71
        have f1 := BR.out.2.frozen 71
        have d2 : wr.cell? ⟨WO.heap.size, 72, none⟩ = some (.int .i64 0) := BR.out.2.cell 72
        have f2 := BR.out.2.frozen 72
        have d3 : wr.cell? ⟨WO.heap.size, 73, none⟩ = some (.slice none 0 0) := BR.out.2.cell 73
        have f3 := BR.out.2.frozen 73
        have d4 : wr.cell? ⟨WO.heap.size, 74, none⟩ = some (.slice none 0 0) := BR.out.2.cell 74
        have f4 := BR.out.2.frozen 74
        have d5 : wr.cell? ⟨WO.heap.size, 75, none⟩ = some (.int .i64 0) := BR.out.2.cell 75
        have f5 := BR.out.2.frozen 75
        have d6 : wr.cell? ⟨WO.heap.size, 76, none⟩ = some (.slice none 0 0) := BR.out.2.cell 76
        have f6 := BR.out.2.frozen 76
        clear hkl
        go_wp2_with fail
        go_roundw
        case rel => exact ⟨11, by omega, rfl, Lib.hid ⟨sev_below BR.out.1 _ _, sev_put BR.out.2 70 rfl⟩⟩
        case measure => simp [intOf]
      · intro BR hkl
        have d0 : wr.cell? ⟨WO.heap.size, 77, none⟩ = some (.int .i64 0) := BR.out.2.cell 77
        have f0 := BR.out.2.frozen 77
        have d1 : wr.cell? ⟨WO.heap.size, 78, none⟩ = some (.int .i64 0) := BR.out.2.cell 78
        have f1 := BR.out.2.frozen 78
        have d2 : wr.cell? ⟨WO.heap.size, 79, none⟩ = some (.int .i64 0) := BR.out.2.cell 79
        have f2 := BR.out.2.frozen 79
        have d3 : wr.cell? ⟨WO.heap.size, 80, none⟩ = some (.slice none 0 0) := BR.out.2.cell 80
        have f3 := BR.out.2.frozen 80
        have d4 : wr.cell? ⟨WO.heap.size, 81, none⟩ = some (.slice none 0 0) := BR.out.2.cell 81
        have f4 := BR.out.2.frozen 81
        have d5 : wr.cell? ⟨WO.heap.size, 82, none⟩ = some (.int .i64 0) := BR.out.2.cell 82
        have f5 := BR.out.2.frozen 82
        have d6 : wr.cell? ⟨WO.heap.size, 83, none⟩ = some (.slice none 0 0) := BR.out.2.cell 83
        have f6 := BR.out.2.frozen 83
        clear hkl
        go_wp2_with fail
        go_roundw
        case rel => exact ⟨12, by omega, rfl, Lib.hid ⟨sev_below BR.out.1 _ _, sev_put BR.out.2 77 rfl⟩⟩
        case measure => simp [intOf]
      · intro BR hkl
        have d0 : wr.cell? ⟨WO.heap.size, 84, none⟩ = some (.int .i64 0) := BR.out.2.cell 84
        have f0 := BR.out.2.frozen 84
        have d1 : wr.cell? ⟨WO.heap.size, 85, none⟩ = some (.int .i64 0) := BR.out.2.cell 85
        have f1 := BR.out.2.frozen 85
        have d2 : wr.cell? ⟨WO.heap.size, 86, none⟩ = some (.int .i64 0) := BR.out.2.cell 86
        have f2 := BR.out.2.frozen 86
        have d3 : wr.cell? ⟨WO.heap.size, 87, none⟩ = some (.slice none 0 0) := BR.out.2.cell 87
        have f3 := BR.out.2.frozen 87
        have d4 : wr.cell? ⟨WO.heap.size, 88, none⟩ = some (.slice none 0 0) := BR.out.2.cell 88
        have f4 := BR.out.2.frozen 88
        have d5 : wr.cell? ⟨WO.heap.size, 89, none⟩ = some (.int .i64 0) := BR.out.2.cell 89
        have f5 := BR.out.2.frozen 89
        have d6 : wr.cell? ⟨WO.heap.size, 90, none⟩ = some (.slice none 0 0) := BR.out.2.cell 90
        have f6 := BR.out.2.frozen 90
        clear hkl
        go_wp2_with fail
        go_roundw
        case rel => exact ⟨13, by omega, rfl, Lib.hid ⟨sev_below BR.out.1 _ _, sev_put BR.out.2 84 rfl⟩⟩
        case measure => simp [intOf]
      · intro BR hkl
        have d0 : wr.cell? ⟨WO.heap.size, 91, none⟩ = some (.int .i64 0) := BR.out.2.cell 91
        have f0 := BR.out.2.frozen 91
        have d1 : wr.cell? ⟨WO.heap.size, 92, none⟩ = some (.int .i64 0) := BR.out.2.cell 92
        have f1 := BR.out.2.frozen 92
        have d2 : wr.cell? ⟨WO.heap.size, 93, none⟩ = some (.int .i64 0) := BR.out.2.cell 93
        have f2 := BR.out.2.frozen 93
        have d3 : wr.cell? ⟨WO.heap.size, 94, none⟩ = some (.slice none 0 0) := BR.out.2.cell 94
        have f3 := BR.out.2.frozen 94
        have d4 : wr.cell? ⟨WO.heap.size, 95, none⟩ = some (.slice none 0 0) := BR.out.2.cell 95
        have f4 := BR.out.2.frozen 95
        have d5 : wr.cell? ⟨WO.heap.size, 96, none⟩ = some (.int .i64 0) := BR.out.2.cell 96
        have f5 := BR.out.2.frozen 96
        have d6 : wr.cell? ⟨WO.heap.size, 97, none⟩ = some (.slice none 0 0) := BR.out.2.cell 97
        have f6 := BR.out.2.frozen 97
        clear hkl
        go_wp2_with fail
        go_roundw
        case rel => exact ⟨14, by omega, rfl, Lib.hid ⟨sev_below BR.out.1 _ _, sev_put BR.out.2 91 rfl⟩⟩
        case measure => simp [intOf]
      · intro BR hkl
        have d0 : wr.cell? ⟨WO.heap.size, 98, none⟩ = some (.int .i64 0) := BR.out.2.cell 98
        have f0 := BR.out.2.frozen 98
        have d1 : wr.cell? ⟨WO.heap.size, 99, none⟩ = some (.int .i64 0) := BR.out.2.cell 99
        have f1 := BR.out.2.frozen 99
        have d2 : wr.cell? ⟨WO.heap.size, 100, none⟩ = some (.int .i64 0) := BR.out.2.cell 100
        have f2 := BR.out.2.frozen 100
        have d3 : wr.cell? ⟨WO.heap.size, 101, none⟩ = some (.slice none 0 0) := BR.out.2.cell 101
        have f3 := BR.out.2.frozen 101
        have d4 : wr.cell? ⟨WO.heap.size, 102, none⟩ = some (.slice none 0 0) := BR.out.2.cell 102
        have f4 := BR.out.2.frozen 102
        have d5 : wr.cell? ⟨WO.heap.size, 103, none⟩ = some (.int .i64 0) := BR.out.2.cell 103
        have f5 := BR.out.2.frozen 103
        have d6 : wr.cell? ⟨WO.heap.size, 104, none⟩ = some (.slice none 0 0) := BR.out.2.cell 104
        have f6 := BR.out.2.frozen 104
        clear hkl
        go_wp2_with fail
        go_roundw
        case rel => exact ⟨15, by omega, rfl, Lib.hid ⟨sev_below BR.out.1 _ _, sev_put BR.out.2 98 rfl⟩⟩
        case measure => simp [intOf]
      · intro BR hkl
        have d0 : wr.cell? ⟨WO.heap.size, 105, none⟩ = some (.int .i64 0) := BR.out.2.cell 105
        have f0 := BR.out.2.frozen 105
        have d1 : wr.cell? ⟨WO.heap.size, 106, none⟩ = some (.int .i64 0) := BR.out.2.cell 106
        have f1 := BR.out.2.frozen 106
        have d2 : wr.cell? ⟨WO.heap.size, 107, none⟩ = some (.int .i64 0) := BR.out.2.cell 107
        have f2 := BR.out.2.frozen 107
        have d3 : wr.cell? ⟨WO.heap.size, 108, none⟩ = some (.slice none 0 0) := BR.out.2.cell 108
        have f3 := BR.out.2.frozen 108
        have d4 : wr.cell? ⟨WO.heap.size, 109, none⟩ = some (.slice none 0 0) := BR.out.2.cell 109
        have f4 := BR.out.2.frozen 109
        have d5 : wr.cell? ⟨WO.heap.size, 110, none⟩ = some (.int .i64 0) := BR.out.2.cell 110
        have f5 := BR.out.2.frozen 110
        have d6 : wr.cell? ⟨WO.heap.size, 111, none⟩ = some (.slice none 0 0) := BR.out.2.cell 111
        have f6 := BR.out.2.frozen 111
        clear hkl
        go_wp2_with fail
        go_roundw
        case rel => exact ⟨16, by omega, rfl, Lib.hid ⟨sev_below BR.out.1 _ _, sev_put BR.out.2 105 rfl⟩⟩
        case measure => simp [intOf]
      · intro BR hkl
        have d0 : wr.cell? ⟨WO.heap.size, 112, none⟩ = some (.int .i64 0) := BR.out.2.cell 112
        have f0 := BR.out.2.frozen 112
        have d1 : wr.cell? ⟨WO.heap.size, 113, none⟩ = some (.int .i64 0) := BR.out.2.cell 113
        have f1 := BR.out.2.frozen 113
        have d2 : wr.cell? ⟨WO.heap.size, 114, none⟩ = some (.int .i64 0) := BR.out.2.cell 114
        have f2 := BR.out.2.frozen 114
        have d3 : wr.cell? ⟨WO.heap.size, 115, none⟩ = some (.slice none 0 0) := BR.out.2.cell 115
        have f3 := BR.out.2.frozen 115
        have d4 : wr.cell? ⟨WO.heap.size, 116, none⟩ = some (.slice none 0 0) := BR.out.2.cell 116
        have f4 := BR.out.2.frozen 116
        have d5 : wr.cell? ⟨WO.heap.size, 117, none⟩ = some (.int .i64 0) := BR.out.2.cell 117
        have f5 := BR.out.2.frozen 117
        have d6 : wr.cell? ⟨WO.heap.size, 118, none⟩ = some (.slice none 0 0) := BR.out.2.cell 118
        have f6 := BR.out.2.frozen 118
        clear hkl
        go_wp2_with fail
        go_roundw
        case rel => exact ⟨17, by omega, rfl, Lib.hid ⟨sev_below BR.out.1 _ _, sev_put BR.out.2 112 rfl⟩⟩
        case measure => simp [intOf]
    · obtain rfl : k = 17 := by omega
      go_wp2_with fail
      go_meet
      exact BR

  case rest =>
    rename_i hK
    refine hK _ _ ?_
    have hn' := hNext.out
    unfold Blk5 at hn'
    exact hn' bj b5 b6 b7 WO.heap.size _ _ _ _ _ _ _ _ _ _ _ _ _ _ _ _ _ _ _ _ _ _ _ _ _ _ _ _ _ _ _ _ _ _ _ _ _ _ _ _ _ _ _ _ _ _ _ _ _ _ _ _ _ _ _ _ _ _ _ _ _ _ _ _ _ _ _ _ _ _ _ _ _ _ _ _ _ _ _ _ _ _ _ _ _ _ _ _ _ _ _ _ _ _ _ _ _ _ _ _ _ _ _ _ _ _ _ _ _ _ _ _ _ _ _ _ _ _ _ _ _ _ _ _ _ _ _ _ _ _ _ _ _ _ _ _ _ _ _ _ _ _ _ _ _ _ _ _ _ _ _ _ _ _ _ _ _ _ _ _ _ _ _ _ _ _ _ _ _ _ _ _ _ _ _ _ _ _ _ _ _ _ _ _ _ _ _ _ _ _ _ _ _ _ _ _ _ _ _ _ _ _ _ _ _ _ _ _ _ _ _ _ _ _ _ _ _ _ _ _ _ _ _ _ _ _ _ _ _ _ _ _ _ _ _ _ _ _ _ _ _ _ _ _ _ _ _ _ _ _ _ _ _ _ _ _ _ _ _ _ _ _ _ _ _ _ _ _ _ _ _ _ _ _ _ _ _ _ _ _ _ _ _ _ _ _ _ _ _ _ _ _ _ wc (⟨HB.out.below hcut.out.1, hcut.out.2⟩)
end Go.Proofs.Ytkgcbhpgkcfkhaa
