/- Disks of the document: put, where there is no file. -/
import Derived.Test.YtbjhcbiihekceaaDf4
namespace Go.Proofs.Ytbjhcbiihekceaa
open Go.ChangeShapes Go.WideShapes Go.ChangeAt Go.RowKit Go.Maps
set_option linter.unusedVariables false
set_option linter.unusedSimpArgs false
set_option maxRecDepth 8192 in
set_option maxHeartbeats 4000000 in
theorem rput_none {w : World} {q room : Nat} (h : RDk w q room [] none 0) (x : Fil) (hx : Ls .u8 w x.ad x.cap x.bs) (hxa : ∀ b, x.ad = some b → q < b.block ∧ b.block < w.heap.size) :
    Calls Try.prog 98 #[.pointer (some ⟨q, 0, none⟩), .agg #[.string x.nm, .slice x.ad x.bs.length x.cap, .int .i64 x.last]] w fun e w' => e = .returned (.tuple #[]) ∧ PutEnd w w' q room [] x := by
  obtain ⟨W0, hW0⟩ : ∃ W0, w.alloc (.cells #[.string x.nm, .slice x.ad x.bs.length x.cap, .int .i64 x.last] 111) = W0 := ⟨_, rfl⟩
  have hb0 : Below w.heap.size w W0 := by rw [← hW0]; exact bl1 _ _
  have bx0 : BoxC W0 w.heap.size #[.string x.nm, .slice x.ad x.bs.length x.cap, .int .i64 x.last] 111 := by rw [← hW0]; exact BoxC.new _ _ _
  have H0 := Lib.hid (h.below hb0)
  have HX0 := Lib.hid hx
  have HXA := Lib.hid hxa
  have HB0 := Lib.hid hb0
  have BX := Lib.hid bx0
  have c1 : W0.cell? ⟨q, 1, none⟩ = some (.slice none 0 0) := H0.out.c1
  clear h hx hxa hb0 bx0
  go_enter Try.func98, Try.ntmps98
  go_wp2
  clear hW0
  go_loopw [4] (fun i wr => i = .int .i64 0 ∧ Below W0.heap.size W0 wr) (fun i _ => (intOf i).toNat)
  case atStart => exact ⟨rfl, Below.refl _ _⟩
  case round =>
  obtain ⟨rfl, hbj⟩ := hrel
  have HBJ := Lib.hid hbj
  have c2 : wr.cell? ⟨q, 1, none⟩ = some (.slice none 0 0) := (H0.out.below hbj).c1
  clear hbj c1
  go_wp2
  go_quiet (fail)
  go_wp2
  have HBJ2 := Lib.hid (HBJ.out.trans (show Below W0.heap.size wr (wr.drewN nq) from ⟨rfl, rfl, rfl, Nat.le_refl _, fun _ _ => rfl⟩))
  clear HBJ c2
  generalize wr.drewN nq = wr at HBJ2 ⊢
  have HBJ := HBJ2
  have FQ := Lib.hid (fun X (b : Below wr.heap.size wr X) => (show X.cell? ⟨q, 1, none⟩ = some (.slice none 0 0) from (H0.out.below (step_below HBJ.out b)).c1))
  have FX := Lib.hid (fun X (b : Below wr.heap.size wr X) => (⟨((BX.out.below HBJ.out).below b).cell 0, ((BX.out.below HBJ.out).below b).cell 1, ((BX.out.below HBJ.out).below b).cell 2⟩ : X.cell? ⟨w.heap.size, 0, none⟩ = some (.string x.nm) ∧ X.cell? ⟨w.heap.size, 1, none⟩ = some (.slice x.ad x.bs.length x.cap) ∧ X.cell? ⟨w.heap.size, 2, none⟩ = some (.int .i64 x.last)))
  have hb0' := HB0.out
  have HWS := Lib.hid (show w.heap.size ≤ wr.heap.size from Nat.le_trans HB0.out.size HBJ.out.size)
  refine wp_region_last (z := 20) (S := (fun X => Below wr.heap.size wr X)) (by kernel_rfl) ((Below.refl _ _).drew) (fun hHeld => ?_)
  refine wpAnyL_take (i := 0) (oi := { dst := some 27, op := Op.move (Operand.tmp 0), type := 27, pos := "ref.go:93", after := #[], guard := none }) (v := ?_) (by kernel_rfl) rfl (by kernel_rfl) rfl (by kernel_rfl) (by kernel_rfl) (by kernel_rfl) (fun _ _ _ h => h) (Or.inl ⟨by rfl, ?_⟩) (by assumption) ?_
  rotate_left
  · intro W hSw; go_simp; try with_reducible rfl
  try simp only [Act.put, List.setIfInBounds_toArray, List.set_cons_zero, List.set_cons_succ]
  refine wpAnyL_take (i := 1) (oi := { dst := some 28, op := Op.move (Operand.tmp 0), type := 27, pos := "ref.go:93", after := #[], guard := none }) (v := ?_) (by kernel_rfl) rfl (by kernel_rfl) rfl (by kernel_rfl) (by kernel_rfl) (by kernel_rfl) (fun _ _ _ h => h) (Or.inl ⟨by rfl, ?_⟩) (by assumption) ?_
  rotate_left
  · intro W hSw; go_simp; try with_reducible rfl
  try simp only [Act.put, List.setIfInBounds_toArray, List.set_cons_zero, List.set_cons_succ]
  refine wpAnyL_take (i := 2) (oi := { dst := some 29, op := Op.nilCheck (Operand.tmp 28), type := 0, pos := "ref.go:93", after := #[{ on := 1, ground := Ground.data }], guard := none }) (v := ?_) (by kernel_rfl) rfl (by kernel_rfl) rfl (by kernel_rfl) (by kernel_rfl) (by kernel_rfl) (fun _ _ _ h => h) (Or.inl ⟨by rfl, ?_⟩) (by assumption) ?_
  rotate_left
  · intro W hSw; go_simp; try with_reducible rfl
  try simp only [Act.put, List.setIfInBounds_toArray, List.set_cons_zero, List.set_cons_succ]
  refine wpAnyL_take (i := 3) (oi := { dst := some 30, op := Op.fieldAddr 97 (Operand.tmp 29) 1, type := 0, pos := "ref.go:93", after := #[{ on := 2, ground := Ground.data }], guard := none }) (v := ?_) (by kernel_rfl) rfl (by kernel_rfl) rfl (by kernel_rfl) (by kernel_rfl) (by kernel_rfl) (fun _ _ _ h => h) (Or.inl ⟨by rfl, ?_⟩) (by assumption) ?_
  rotate_left
  · intro W hSw; go_simp; try with_reducible rfl
  try simp only [Act.put, List.setIfInBounds_toArray, List.set_cons_zero, List.set_cons_succ]
  refine wpAnyL_take (i := 4) (oi := { dst := some 31, op := Op.load 95 (Operand.tmp 30), type := 95, pos := "ref.go:93", after := #[{ on := 3, ground := Ground.data }], guard := none }) (v := ?_) (by kernel_rfl) rfl (by kernel_rfl) rfl (by kernel_rfl) (by kernel_rfl) (by kernel_rfl) (fun _ _ _ h => h) (Or.inl ⟨by rfl, ?_⟩) (by assumption) ?_
  rotate_left
  · intro W hSw; have a0 := FQ.out W hSw; go_simp; try with_reducible rfl
  try simp only [Act.put, List.setIfInBounds_toArray, List.set_cons_zero, List.set_cons_succ]
  refine wpAnyL_take (i := 5) (oi := { dst := some 32, op := Op.move (Operand.tmp 4), type := 3, pos := "ref.go:93", after := #[], guard := none }) (v := ?_) (by kernel_rfl) rfl (by kernel_rfl) rfl (by kernel_rfl) (by kernel_rfl) (by kernel_rfl) (fun _ _ _ h => h) (Or.inl ⟨by rfl, ?_⟩) (by assumption) ?_
  rotate_left
  · intro W hSw; go_simp; try with_reducible rfl
  try simp only [Act.put, List.setIfInBounds_toArray, List.set_cons_zero, List.set_cons_succ]
  refine wpAnyL_take (i := 6) (oi := { dst := some 33, op := Op.slice 95 (Operand.tmp 31) none (some (Operand.tmp 32)) none, type := 95, pos := "ref.go:93", after := #[{ on := 4, ground := Ground.data }, { on := 5, ground := Ground.data }], guard := none }) (v := ?_) (by kernel_rfl) rfl (by kernel_rfl) rfl (by kernel_rfl) (by kernel_rfl) (by kernel_rfl) (fun _ _ _ h => h) (Or.inl ⟨by rfl, ?_⟩) (by assumption) ?_
  rotate_left
  · intro W hSw; go_simp; try with_reducible rfl
  try simp only [Act.put, List.setIfInBounds_toArray, List.set_cons_zero, List.set_cons_succ]
  refine wpAnyL_take (i := 8) (oi := { dst := some 35, op := Op.load 111 (Operand.tmp 3), type := 111, pos := "ref.go:93", after := #[], guard := none }) (v := ?_) (by kernel_rfl) rfl (by kernel_rfl) rfl (by kernel_rfl) (by kernel_rfl) (by kernel_rfl) (fun _ _ _ h => h) (Or.inl ⟨by rfl, ?_⟩) (by assumption) ?_
  rotate_left
  · intro W hSw; obtain ⟨a0, a1, a2⟩ := FX.out W hSw; go_simp; try with_reducible rfl
  try simp only [Act.put, List.setIfInBounds_toArray, List.set_cons_zero, List.set_cons_succ]
  refine wpAnyL_take (i := 11) (oi := { dst := some 38, op := Op.move (Operand.tmp 0), type := 27, pos := "ref.go:93", after := #[], guard := none }) (v := ?_) (by kernel_rfl) rfl (by kernel_rfl) rfl (by kernel_rfl) (by kernel_rfl) (by kernel_rfl) (fun _ _ _ h => h) (Or.inl ⟨by rfl, ?_⟩) (by assumption) ?_
  rotate_left
  · intro W hSw; go_simp; try with_reducible rfl
  try simp only [Act.put, List.setIfInBounds_toArray, List.set_cons_zero, List.set_cons_succ]
  refine wpAnyL_take (i := 12) (oi := { dst := some 39, op := Op.nilCheck (Operand.tmp 38), type := 0, pos := "ref.go:93", after := #[{ on := 11, ground := Ground.data }], guard := none }) (v := ?_) (by kernel_rfl) rfl (by kernel_rfl) rfl (by kernel_rfl) (by kernel_rfl) (by kernel_rfl) (fun _ _ _ h => h) (Or.inl ⟨by rfl, ?_⟩) (by assumption) ?_
  rotate_left
  · intro W hSw; go_simp; try with_reducible rfl
  try simp only [Act.put, List.setIfInBounds_toArray, List.set_cons_zero, List.set_cons_succ]
  refine wpAnyL_take (i := 13) (oi := { dst := some 40, op := Op.fieldAddr 97 (Operand.tmp 39) 1, type := 0, pos := "ref.go:93", after := #[{ on := 12, ground := Ground.data }], guard := none }) (v := ?_) (by kernel_rfl) rfl (by kernel_rfl) rfl (by kernel_rfl) (by kernel_rfl) (by kernel_rfl) (fun _ _ _ h => h) (Or.inl ⟨by rfl, ?_⟩) (by assumption) ?_
  rotate_left
  · intro W hSw; go_simp; try with_reducible rfl
  try simp only [Act.put, List.setIfInBounds_toArray, List.set_cons_zero, List.set_cons_succ]
  refine wpAnyL_take (i := 14) (oi := { dst := some 41, op := Op.load 95 (Operand.tmp 40), type := 95, pos := "ref.go:93", after := #[{ on := 13, ground := Ground.data }], guard := none }) (v := ?_) (by kernel_rfl) rfl (by kernel_rfl) rfl (by kernel_rfl) (by kernel_rfl) (by kernel_rfl) (fun _ _ _ h => h) (Or.inl ⟨by rfl, ?_⟩) (by assumption) ?_
  rotate_left
  · intro W hSw; have a0 := FQ.out W hSw; go_simp; try with_reducible rfl
  try simp only [Act.put, List.setIfInBounds_toArray, List.set_cons_zero, List.set_cons_succ]
  refine wpAnyL_take (i := 15) (oi := { dst := some 42, op := Op.move (Operand.tmp 4), type := 3, pos := "ref.go:93", after := #[], guard := none }) (v := ?_) (by kernel_rfl) rfl (by kernel_rfl) rfl (by kernel_rfl) (by kernel_rfl) (by kernel_rfl) (fun _ _ _ h => h) (Or.inl ⟨by rfl, ?_⟩) (by assumption) ?_
  rotate_left
  · intro W hSw; go_simp; try with_reducible rfl
  try simp only [Act.put, List.setIfInBounds_toArray, List.set_cons_zero, List.set_cons_succ]
  refine wpAnyL_take (i := 16) (oi := { dst := some 43, op := Op.slice 95 (Operand.tmp 41) (some (Operand.tmp 42)) none none, type := 95, pos := "ref.go:93", after := #[{ on := 14, ground := Ground.data }, { on := 15, ground := Ground.data }], guard := none }) (v := ?_) (by kernel_rfl) rfl (by kernel_rfl) rfl (by kernel_rfl) (by kernel_rfl) (by kernel_rfl) (fun _ _ _ h => h) (Or.inl ⟨by rfl, ?_⟩) (by assumption) ?_
  rotate_left
  · intro W hSw; go_simp; try with_reducible rfl
  try simp only [Act.put, List.setIfInBounds_toArray, List.set_cons_zero, List.set_cons_succ]
  refine wpAnyL_ready (rs := [7, 9]) (by kernel_rfl) (by simp) ?_
  refine AllL.cons (o := { dst := some 34, op := Op.call { callee := Callee.builtin Builtin.append, args := #[Operand.const (Value.slice none 0 0), Operand.tmp 33], argTypes := #[95, 95] }, type := 95, pos := "ref.go:93", after := #[{ on := 6, ground := Ground.data }], guard := none }) rfl (fun K hK => ?_) ?_
  · skip
    refine step_append_fl rfl _ _ rfl wr.heap.size wr hHeld (.slice none 0 0) 0 [] rfl ⟨rfl, Or.inl ⟨rfl, rfl⟩⟩ (none) 0 0 ([] : List Fil) rfl rfl (CellsL.nil _ _) (fun e => by first | rfl | cases e) (by omega) hHeld.size ?_
    intro v1 X1 ho1 hb2 hg1
    have HO1 := Lib.hid (show X1.ownsRow wr.heap.size 111 3 v1 0 (fcs ([] : List Fil)) by simpa using ho1)
    clear ho1 hg1
    refine hK.out _ _ (hb2) (fun hHeldn => ?_)
    clear hK K hHeld; have hHeld := hHeldn; clear hHeldn
    clear hb2
    try simp only [Act.put, List.setIfInBounds_toArray, List.set_cons_zero, List.set_cons_succ]
    refine wpAnyL_ready (rs := [9]) (by kernel_rfl) (by simp) ?_
    refine AllL.cons (o := { dst := some 36, op := Op.buildSlice 95 1 #[(0, Operand.tmp 35)], type := 95, pos := "ref.go:93", after := #[{ on := 8, ground := Ground.data }], guard := none }) rfl (fun K hK => ?_) AllL.nil
    obtain ⟨X9, hX9⟩ : ∃ X9, X1.alloc (.cells #[.string x.nm, .slice x.ad x.bs.length x.cap, .int .i64 x.last] 111) = X9 := ⟨_, rfl⟩
    have hb9 : Below wr.heap.size wr X9 := by rw [← hX9]; exact hHeld.alloc hHeld.size _
    have HC9 := Lib.hid (show CellsL X9 (some ⟨X1.heap.size, 0, none⟩) (fcs [x]) by rw [← hX9]; exact cells_new _ _ _)
    replace HO1 := Lib.hid (show X9.ownsRow wr.heap.size 111 3 v1 0 (fcs ([] : List Fil)) by rw [← hX9]; exact own_kept HO1.out (bl1 _ _))
    go_simp
    try rw [hX9]
    refine hK.out _ _ (hb9) (fun hHeldn => ?_)
    clear hK K hHeld; have hHeld := hHeldn; clear hHeldn
    clear hb9 hX9
    try simp only [Act.put, List.setIfInBounds_toArray, List.set_cons_zero, List.set_cons_succ]
    refine wpAnyL_ready (rs := [10]) (by kernel_rfl) (by simp) ?_
    refine AllL.cons (o := { dst := some 37, op := Op.call { callee := Callee.builtin Builtin.append, args := #[Operand.tmp 34, Operand.tmp 36], argTypes := #[95, 95] }, type := 95, pos := "ref.go:93", after := #[{ on := 7, ground := Ground.data }, { on := 9, ground := Ground.data }, { on := 7, ground := Ground.chain }], guard := none }) rfl (fun K hK => ?_) AllL.nil
    refine step_append_fl rfl _ _ rfl wr.heap.size wr hHeld v1 0 ([] : List Fil) rfl HO1.out (some ⟨X1.heap.size, 0, none⟩) 1 1 [x] rfl rfl HC9.out (fun e => by cases e) (by omega) hHeld.size ?_
    intro v2 X2 ho2 hb3 hg2
    have HO2 := Lib.hid ho2
    clear ho2 hg2 HO1 HC9
    refine hK.out _ _ (hb3) (fun hHeldn => ?_)
    clear hK K hHeld; have hHeld := hHeldn; clear hHeldn
    clear hb3
    try simp only [Act.put, List.setIfInBounds_toArray, List.set_cons_zero, List.set_cons_succ]
    refine wpAnyL_ready (rs := [17]) (by kernel_rfl) (by simp) ?_
    refine AllL.cons (o := { dst := some 44, op := Op.call { callee := Callee.builtin Builtin.append, args := #[Operand.tmp 37, Operand.tmp 43], argTypes := #[95, 95] }, type := 95, pos := "ref.go:93", after := #[{ on := 10, ground := Ground.data }, { on := 16, ground := Ground.data }, { on := 10, ground := Ground.chain }], guard := none }) rfl (fun K hK => ?_) AllL.nil
    refine step_append_fl rfl _ _ rfl wr.heap.size wr hHeld v2 (0 + 1) (([] : List Fil) ++ [x]) rfl HO2.out none 0 0 ([] : List Fil) rfl rfl (CellsL.nil _ _) (fun e => by first | rfl | (split at e <;> cases e)) (by omega) hHeld.size ?_
    intro v3 X3 ho3 hb4 hg3
    have HO3 := Lib.hid ho3
    clear ho3 hg3 HO2
    refine hK.out _ _ (hb4) (fun hHeldn => ?_)
    clear hK K hHeld; have hHeld := hHeldn; clear hHeldn
    clear hb4
    try simp only [Act.put, List.setIfInBounds_toArray, List.set_cons_zero, List.set_cons_succ]
    refine wpAnyL_free (i := 18) (oi := { dst := some 45, op := Op.nilCheck (Operand.tmp 27), type := 0, pos := "ref.go:93", after := #[{ on := 0, ground := Ground.data }, { on := 0, ground := Ground.phase }, { on := 1, ground := Ground.phase }, { on := 2, ground := Ground.phase }, { on := 3, ground := Ground.phase }, { on := 4, ground := Ground.phase }, { on := 5, ground := Ground.phase }, { on := 6, ground := Ground.phase }, { on := 7, ground := Ground.phase }, { on := 8, ground := Ground.phase }, { on := 9, ground := Ground.phase }, { on := 10, ground := Ground.phase }, { on := 11, ground := Ground.phase }, { on := 12, ground := Ground.phase }, { on := 13, ground := Ground.phase }, { on := 14, ground := Ground.phase }, { on := 15, ground := Ground.phase }, { on := 16, ground := Ground.phase }, { on := 17, ground := Ground.phase }], guard := none }) (v := ?_) (by kernel_rfl) rfl rfl (by kernel_rfl) (by kernel_rfl) (by kernel_rfl) (fun _ _ _ h => h) (Or.inl ⟨by rfl, ?_⟩) (by assumption) ?_
    rotate_left
    · intro W hSw; go_simp; try with_reducible rfl
    try simp only [Act.put, List.setIfInBounds_toArray, List.set_cons_zero, List.set_cons_succ]
    refine wpAnyL_take (i := 19) (oi := { dst := some 46, op := Op.fieldAddr 97 (Operand.tmp 45) 1, type := 0, pos := "ref.go:93", after := #[{ on := 18, ground := Ground.data }, { on := 0, ground := Ground.phase }, { on := 1, ground := Ground.phase }, { on := 2, ground := Ground.phase }, { on := 3, ground := Ground.phase }, { on := 4, ground := Ground.phase }, { on := 5, ground := Ground.phase }, { on := 6, ground := Ground.phase }, { on := 7, ground := Ground.phase }, { on := 8, ground := Ground.phase }, { on := 9, ground := Ground.phase }, { on := 10, ground := Ground.phase }, { on := 11, ground := Ground.phase }, { on := 12, ground := Ground.phase }, { on := 13, ground := Ground.phase }, { on := 14, ground := Ground.phase }, { on := 15, ground := Ground.phase }, { on := 16, ground := Ground.phase }, { on := 17, ground := Ground.phase }], guard := none }) (v := ?_) (by kernel_rfl) rfl (by kernel_rfl) rfl (by kernel_rfl) (by kernel_rfl) (by kernel_rfl) (fun _ _ _ h => h) (Or.inl ⟨by rfl, ?_⟩) (by assumption) ?_
    rotate_left
    · intro W hSw; go_simp; try with_reducible rfl
    try simp only [Act.put, List.setIfInBounds_toArray, List.set_cons_zero, List.set_cons_succ]
    refine wpAnyL_ready (rs := [20]) (by kernel_rfl) (by simp) ?_
    refine AllL.last (o := { dst := none, op := Op.store 95 (Operand.tmp 46) (Operand.tmp 44), type := 0, pos := "ref.go:93", after := #[{ on := 19, ground := Ground.data }, { on := 17, ground := Ground.data }, { on := 17, ground := Ground.chain }, { on := 0, ground := Ground.phase }, { on := 1, ground := Ground.phase }, { on := 2, ground := Ground.phase }, { on := 3, ground := Ground.phase }, { on := 4, ground := Ground.phase }, { on := 5, ground := Ground.phase }, { on := 6, ground := Ground.phase }, { on := 7, ground := Ground.phase }, { on := 8, ground := Ground.phase }, { on := 9, ground := Ground.phase }, { on := 10, ground := Ground.phase }, { on := 11, ground := Ground.phase }, { on := 12, ground := Ground.phase }, { on := 13, ground := Ground.phase }, { on := 14, ground := Ground.phase }, { on := 15, ground := Ground.phase }, { on := 16, ground := Ground.phase }, { on := 17, ground := Ground.phase }], guard := none }) rfl (fun K hK => ?_)
    obtain ⟨a2, cap2, rfl, hcl2, hle2, hno2, hge2⟩ := own_cells HO3.out
    have f1 := (H0.out.below (step_below HBJ.out hHeld)).f1
    have c1' := FQ.out _ hHeld
    go_simp
    refine hK.out _ _ ?_
    clear hK K
    try simp only [Act.put, List.setIfInBounds_toArray, List.set_cons_zero, List.set_cons_succ]
    refine wpAnyL_done (by kernel_rfl) ?_ _
    obtain ⟨X5, hX5⟩ : ∃ X5, X3.setCell ⟨q, 1, none⟩ (.slice a2 (0 + 1 + 0) cap2) = X5 := ⟨_, rfl⟩
    have HR := Lib.hid (rdk_put (H0.out.below (step_below HBJ.out hHeld)) HO3.out (by have := H0.out.box.lt; have := HBJ.out.size; omega) (show ∀ y ∈ ([] : List Fil).take 0 ++ [x] ++ ([] : List Fil).drop 0, y = x ∨ y ∈ ([] : List Fil) from tk_mem) (HX0.out.below (step_below hb0' (step_below HBJ.out hHeld))) (fun b e => ⟨(HXA.out b e).1, Nat.lt_of_lt_of_le (HXA.out b e).2 (step_below hb0' (step_below HBJ.out hHeld)).size⟩) hX5)
    have HOF := Lib.hid (show Off (fun k => k = q) w X5 by rw [← hX5]; exact Off.set (S := fun k => k = q) (Off.of (step_below hb0' (step_below HBJ.out hHeld))) ⟨q, 1, none⟩ rfl _)
    have e5 : X3.setCell ⟨q, 1, none⟩ (.slice a2 (0 + 1 + 0) cap2) = X5 := hX5
    try rw [hX5]
    try simp only [Nat.zero_add, Nat.add_zero] at hX5
    try rw [hX5]
    clear hX5 e5 hHeld hcl2 hle2 hno2 hge2
    go_wp2
    all_goals
      go_end0
      exact ⟨rfl, ⟨0, a2, cap2, ⟨Nat.le_refl _, fun j hj => absurd hj (by omega), fun f2 hf2 => by simp at hf2⟩, HR.out.1, fun g' e => Nat.le_trans HWS.out (HR.out.2 g' e)⟩, HOF.out⟩
  refine AllL.cons (o := { dst := some 36, op := Op.buildSlice 95 1 #[(0, Operand.tmp 35)], type := 95, pos := "ref.go:93", after := #[{ on := 8, ground := Ground.data }], guard := none }) rfl (fun K hK => ?_) AllL.nil
  obtain ⟨X9, hX9⟩ : ∃ X9, wr.drew.alloc (.cells #[.string x.nm, .slice x.ad x.bs.length x.cap, .int .i64 x.last] 111) = X9 := ⟨_, rfl⟩
  have hb9 : Below wr.heap.size wr X9 := by rw [← hX9]; exact hHeld.alloc hHeld.size _
  have HC9 := Lib.hid (show CellsL X9 (some ⟨wr.drew.heap.size, 0, none⟩) (fcs [x]) by rw [← hX9]; exact cells_new _ _ _)
  go_simp
  try rw [hX9]
  refine hK.out _ _ (hb9) (fun hHeldn => ?_)
  clear hK K hHeld; have hHeld := hHeldn; clear hHeldn
  clear hb9 hX9
  try simp only [Act.put, List.setIfInBounds_toArray, List.set_cons_zero, List.set_cons_succ]
  refine wpAnyL_ready (rs := [7]) (by kernel_rfl) (by simp) ?_
  refine AllL.cons (o := { dst := some 34, op := Op.call { callee := Callee.builtin Builtin.append, args := #[Operand.const (Value.slice none 0 0), Operand.tmp 33], argTypes := #[95, 95] }, type := 95, pos := "ref.go:93", after := #[{ on := 6, ground := Ground.data }], guard := none }) rfl (fun K hK => ?_) AllL.nil
  refine step_append_fl rfl _ _ rfl wr.heap.size wr hHeld (.slice none 0 0) 0 [] rfl ⟨rfl, Or.inl ⟨rfl, rfl⟩⟩ (none) 0 0 ([] : List Fil) rfl rfl (CellsL.nil _ _) (fun e => by first | rfl | cases e) (by omega) hHeld.size ?_
  intro v1 X1 ho1 hb2 hg1
  have HO1 := Lib.hid (show X1.ownsRow wr.heap.size 111 3 v1 0 (fcs ([] : List Fil)) by simpa using ho1)
  have hbn : Below X9.heap.size X9 X1 := ⟨hg1.os, hg1.tape, hg1.output, hg1.size, fun j hj => hg1.block j hj (by simp [Value.ownBlock])⟩
  replace HC9 := Lib.hid (HC9.out.below hbn)
  clear hbn
  clear ho1 hg1
  refine hK.out _ _ (hb2) (fun hHeldn => ?_)
  clear hK K hHeld; have hHeld := hHeldn; clear hHeldn
  clear hb2
  try simp only [Act.put, List.setIfInBounds_toArray, List.set_cons_zero, List.set_cons_succ]
  refine wpAnyL_ready (rs := [10]) (by kernel_rfl) (by simp) ?_
  refine AllL.cons (o := { dst := some 37, op := Op.call { callee := Callee.builtin Builtin.append, args := #[Operand.tmp 34, Operand.tmp 36], argTypes := #[95, 95] }, type := 95, pos := "ref.go:93", after := #[{ on := 7, ground := Ground.data }, { on := 9, ground := Ground.data }, { on := 7, ground := Ground.chain }], guard := none }) rfl (fun K hK => ?_) AllL.nil
  refine step_append_fl rfl _ _ rfl wr.heap.size wr hHeld v1 0 ([] : List Fil) rfl HO1.out (some ⟨wr.drew.heap.size, 0, none⟩) 1 1 [x] rfl rfl HC9.out (fun e => by cases e) (by omega) hHeld.size ?_
  intro v2 X2 ho2 hb3 hg2
  have HO2 := Lib.hid ho2
  clear ho2 hg2 HO1 HC9
  refine hK.out _ _ (hb3) (fun hHeldn => ?_)
  clear hK K hHeld; have hHeld := hHeldn; clear hHeldn
  clear hb3
  try simp only [Act.put, List.setIfInBounds_toArray, List.set_cons_zero, List.set_cons_succ]
  refine wpAnyL_ready (rs := [17]) (by kernel_rfl) (by simp) ?_
  refine AllL.cons (o := { dst := some 44, op := Op.call { callee := Callee.builtin Builtin.append, args := #[Operand.tmp 37, Operand.tmp 43], argTypes := #[95, 95] }, type := 95, pos := "ref.go:93", after := #[{ on := 10, ground := Ground.data }, { on := 16, ground := Ground.data }, { on := 10, ground := Ground.chain }], guard := none }) rfl (fun K hK => ?_) AllL.nil
  refine step_append_fl rfl _ _ rfl wr.heap.size wr hHeld v2 (0 + 1) (([] : List Fil) ++ [x]) rfl HO2.out none 0 0 ([] : List Fil) rfl rfl (CellsL.nil _ _) (fun e => by first | rfl | (split at e <;> cases e)) (by omega) hHeld.size ?_
  intro v3 X3 ho3 hb4 hg3
  have HO3 := Lib.hid ho3
  clear ho3 hg3 HO2
  refine hK.out _ _ (hb4) (fun hHeldn => ?_)
  clear hK K hHeld; have hHeld := hHeldn; clear hHeldn
  clear hb4
  try simp only [Act.put, List.setIfInBounds_toArray, List.set_cons_zero, List.set_cons_succ]
  refine wpAnyL_free (i := 18) (oi := { dst := some 45, op := Op.nilCheck (Operand.tmp 27), type := 0, pos := "ref.go:93", after := #[{ on := 0, ground := Ground.data }, { on := 0, ground := Ground.phase }, { on := 1, ground := Ground.phase }, { on := 2, ground := Ground.phase }, { on := 3, ground := Ground.phase }, { on := 4, ground := Ground.phase }, { on := 5, ground := Ground.phase }, { on := 6, ground := Ground.phase }, { on := 7, ground := Ground.phase }, { on := 8, ground := Ground.phase }, { on := 9, ground := Ground.phase }, { on := 10, ground := Ground.phase }, { on := 11, ground := Ground.phase }, { on := 12, ground := Ground.phase }, { on := 13, ground := Ground.phase }, { on := 14, ground := Ground.phase }, { on := 15, ground := Ground.phase }, { on := 16, ground := Ground.phase }, { on := 17, ground := Ground.phase }], guard := none }) (v := ?_) (by kernel_rfl) rfl rfl (by kernel_rfl) (by kernel_rfl) (by kernel_rfl) (fun _ _ _ h => h) (Or.inl ⟨by rfl, ?_⟩) (by assumption) ?_
  rotate_left
  · intro W hSw; go_simp; try with_reducible rfl
  try simp only [Act.put, List.setIfInBounds_toArray, List.set_cons_zero, List.set_cons_succ]
  refine wpAnyL_take (i := 19) (oi := { dst := some 46, op := Op.fieldAddr 97 (Operand.tmp 45) 1, type := 0, pos := "ref.go:93", after := #[{ on := 18, ground := Ground.data }, { on := 0, ground := Ground.phase }, { on := 1, ground := Ground.phase }, { on := 2, ground := Ground.phase }, { on := 3, ground := Ground.phase }, { on := 4, ground := Ground.phase }, { on := 5, ground := Ground.phase }, { on := 6, ground := Ground.phase }, { on := 7, ground := Ground.phase }, { on := 8, ground := Ground.phase }, { on := 9, ground := Ground.phase }, { on := 10, ground := Ground.phase }, { on := 11, ground := Ground.phase }, { on := 12, ground := Ground.phase }, { on := 13, ground := Ground.phase }, { on := 14, ground := Ground.phase }, { on := 15, ground := Ground.phase }, { on := 16, ground := Ground.phase }, { on := 17, ground := Ground.phase }], guard := none }) (v := ?_) (by kernel_rfl) rfl (by kernel_rfl) rfl (by kernel_rfl) (by kernel_rfl) (by kernel_rfl) (fun _ _ _ h => h) (Or.inl ⟨by rfl, ?_⟩) (by assumption) ?_
  rotate_left
  · intro W hSw; go_simp; try with_reducible rfl
  try simp only [Act.put, List.setIfInBounds_toArray, List.set_cons_zero, List.set_cons_succ]
  refine wpAnyL_ready (rs := [20]) (by kernel_rfl) (by simp) ?_
  refine AllL.last (o := { dst := none, op := Op.store 95 (Operand.tmp 46) (Operand.tmp 44), type := 0, pos := "ref.go:93", after := #[{ on := 19, ground := Ground.data }, { on := 17, ground := Ground.data }, { on := 17, ground := Ground.chain }, { on := 0, ground := Ground.phase }, { on := 1, ground := Ground.phase }, { on := 2, ground := Ground.phase }, { on := 3, ground := Ground.phase }, { on := 4, ground := Ground.phase }, { on := 5, ground := Ground.phase }, { on := 6, ground := Ground.phase }, { on := 7, ground := Ground.phase }, { on := 8, ground := Ground.phase }, { on := 9, ground := Ground.phase }, { on := 10, ground := Ground.phase }, { on := 11, ground := Ground.phase }, { on := 12, ground := Ground.phase }, { on := 13, ground := Ground.phase }, { on := 14, ground := Ground.phase }, { on := 15, ground := Ground.phase }, { on := 16, ground := Ground.phase }, { on := 17, ground := Ground.phase }], guard := none }) rfl (fun K hK => ?_)
  obtain ⟨a2, cap2, rfl, hcl2, hle2, hno2, hge2⟩ := own_cells HO3.out
  have f1 := (H0.out.below (step_below HBJ.out hHeld)).f1
  have c1' := FQ.out _ hHeld
  go_simp
  refine hK.out _ _ ?_
  clear hK K
  try simp only [Act.put, List.setIfInBounds_toArray, List.set_cons_zero, List.set_cons_succ]
  refine wpAnyL_done (by kernel_rfl) ?_ _
  obtain ⟨X5, hX5⟩ : ∃ X5, X3.setCell ⟨q, 1, none⟩ (.slice a2 (0 + 1 + 0) cap2) = X5 := ⟨_, rfl⟩
  have HR := Lib.hid (rdk_put (H0.out.below (step_below HBJ.out hHeld)) HO3.out (by have := H0.out.box.lt; have := HBJ.out.size; omega) (show ∀ y ∈ ([] : List Fil).take 0 ++ [x] ++ ([] : List Fil).drop 0, y = x ∨ y ∈ ([] : List Fil) from tk_mem) (HX0.out.below (step_below hb0' (step_below HBJ.out hHeld))) (fun b e => ⟨(HXA.out b e).1, Nat.lt_of_lt_of_le (HXA.out b e).2 (step_below hb0' (step_below HBJ.out hHeld)).size⟩) hX5)
  have HOF := Lib.hid (show Off (fun k => k = q) w X5 by rw [← hX5]; exact Off.set (S := fun k => k = q) (Off.of (step_below hb0' (step_below HBJ.out hHeld))) ⟨q, 1, none⟩ rfl _)
  have e5 : X3.setCell ⟨q, 1, none⟩ (.slice a2 (0 + 1 + 0) cap2) = X5 := hX5
  try rw [hX5]
  try simp only [Nat.zero_add, Nat.add_zero] at hX5
  try rw [hX5]
  clear hX5 e5 hHeld hcl2 hle2 hno2 hge2
  go_wp2
  all_goals
    go_end0
    exact ⟨rfl, ⟨0, a2, cap2, ⟨Nat.le_refl _, fun j hj => absurd hj (by omega), fun f2 hf2 => by simp at hf2⟩, HR.out.1, fun g' e => Nat.le_trans HWS.out (HR.out.2 g' e)⟩, HOF.out⟩
/-- put (98). -/
theorem rput_law {w : World} {q room : Nat} {L : List Fil} {a : Option Addr} {cap : Nat} (h : RDk w q room L a cap) (hl : L.length ≤ 64) (x : Fil) (hx : Ls .u8 w x.ad x.cap x.bs) (hxa : ∀ b, x.ad = some b → q < b.block ∧ b.block < w.heap.size) :
    Calls Try.prog 98 #[.pointer (some ⟨q, 0, none⟩), .agg #[.string x.nm, .slice x.ad x.bs.length x.cap, .int .i64 x.last]] w fun e w' => e = .returned (.tuple #[]) ∧ PutEnd w w' q room L x := by
  obtain ⟨a', cap', e, _, _, h4, h5⟩ := own_cells h.own
  injection e with e1 _ e3
  subst e1 e3
  cases a with
  | none =>
    obtain ⟨h6, h7⟩ := h4 rfl
    have hL : L = [] := List.length_eq_zero_iff.1 h6
    subst hL h7
    exact rput_none h x hx hxa
  | some g =>
    obtain ⟨b, off, spot⟩ := g
    obtain ⟨_, _, h8, h9⟩ := h5 _ rfl
    simp only at h8 h9
    subst h8 h9
    exact rput_some h hl x hx hxa
end Go.Proofs.Ytbjhcbiihekceaa
