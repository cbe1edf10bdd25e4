/- Disks: one step: Append. -/
import Derived.Test.YtbjhcbiihekceaaDg4
namespace Go.Proofs.Ytbjhcbiihekceaa
open Go.ChangeShapes Go.WideShapes Go.ChangeAt Go.RowKit Go.Maps Go.Shelf
set_option linter.unusedVariables false
set_option linter.unusedSimpArgs false
theorem FlB.off {base n g : Nat} {T : Nat → Prop} {W W' : World} (h : FlB base (some ⟨g, 0, none⟩) n W) (o : Off T W W') (hg : ¬ T g) : FlB base (some ⟨g, 0, none⟩) n W' := fun j hj => by
  obtain ⟨g', x, e1, e2, e3, e4⟩ := h j hj
  cases e1
  have hb := o.block g (cell_lt e3) hg
  refine ⟨g, x, rfl, e2, (World.cell?_of_block (w := W) hb).trans e3, ?_⟩
  rw [← e4]
  unfold World.frozen?
  simp only [hb]
theorem Ls.anyP {S : Nat → Prop} {K : IntKind} {W W' : World} {a : Option Addr} {cap : Nat} {L : List Int} (h : Ls K W a cap L) (o : Off S W W') (hn : ∀ b, a = some b → 0 < L.length → ¬ S b.block) : Ls K W' a cap L := by
  refine ⟨fun k hk => ?_, h.nl, h.le⟩
  obtain ⟨b, off, e, hc⟩ := h.rd k hk
  exact ⟨b, off, e, (World.cell?_of_block (w := W) (o.block b (cell_lt hc) (hn _ e (by omega)))).trans hc⟩
set_option maxRecDepth 100000 in
set_option maxHeartbeats 4000000 in
theorem do_1 {w : World} {p bm q room : Nat} {C : List CF} {S : Nat → Prop} (h : Two w p bm q room C C S) (hS : ∀ k, w.heap.size ≤ k → S k) (sA sB : ByteArray) (hA : sA.size ≤ maxLen) (da ka : Option Addr) (dn dc kn kc : Nat)
    (D : List Int) (hDn : D.length = dn) (hdn : dn ≤ 300000) (hDB : Byt D) (hLD : Ls .u8 w da dc D) (hda : ∀ b, da = some b → 0 < dn → ¬ S b.block) :
    Calls Try.prog 17 #[.pointer (some ⟨p, 0, none⟩), .pointer (some ⟨q, 0, none⟩), .agg #[.int .i64 1, .string sA, .string sB, .slice da dn dc, .slice ka kn kc]] w (DoR w room S) := by
  have HF := Lib.hid h.fine
  have H := Lib.hid h
  have HS0 := Lib.hid hS
  have HDN := Lib.hid hDn
  have HDB := Lib.hid hDB
  have HLD := Lib.hid hLD
  have HDA := Lib.hid hda
  clear h hS hDn hDB hLD hda
  go_enter Try.func17, Try.ntmps17
  go_wp2_with (at_builtin; obtain ⟨W0, hW0⟩ : ∃ W0, w.alloc (.cells #[.int .i64 1, .string sA, .string sB, .slice da dn dc, .slice ka kn kc] 37) = W0 := ⟨_, rfl⟩; have hb0 : Below w.heap.size w W0 := (by rw [← hW0]; exact bl1 _ _); have bx : BoxC W0 w.heap.size #[.int .i64 1, .string sA, .string sB, .slice da dn dc, .slice ka kn kc] 37 := (by rw [← hW0]; exact BoxC.new w _ 37); have hs0 : W0.heap.size = w.heap.size + 1 := (by rw [← hW0, World.size_alloc]); try rw [hW0]; clear hW0; refine append_ls eltB rfl (.const (.slice none 0 0)) (.tmp 23) rfl W0.heap.size (.slice none 0 0) 0 [] rfl (own_nil _ _) da dc dn D HDN.out rfl (HLD.out.below hb0) (by omega) (Nat.le_refl _) ?_; intro v1 X1 ho1 hg1; have HO1 := Lib.hid (show X1.ownsRow W0.heap.size 5 1 v1 dn (iv .u8 D) by simpa using ho1); have hx1 : Below W0.heap.size W0 X1 := (Below.refl W0.heap.size W0).grown hg1 (Nat.le_refl _) (fun j hj => by cases hj); clear ho1 hg1; have HX1 := Lib.hid hx1; have HBX := Lib.hid bx; have HB0 := Lib.hid hb0; clear hx1 bx hb0; go_wp2_with (at_builtin; refine append_ls eltB rfl (.tmp 24) (.tmp 25) rfl W0.heap.size v1 dn (iv .u8 D) rfl (HO1.out.alloc _) _ _ 1 [119] rfl rfl (ls_new .u8 _ [119] _ _ _ rfl 1 rfl) (by omega) (by have := HX1.out.size; rw [World.size_alloc]; omega) ?_; intro v2 W3 ho2 hg2; have hx3 : Below W0.heap.size W0 W3 := (HX1.out.alloc HX1.out.size _).grown hg2 (by have := HX1.out.size; rw [World.size_alloc]; omega) (fun j hj => own_ge HO1.out hj); rw [← iv_append] at ho2; obtain ⟨a2, cap2, rfl, hls2, hfl2⟩ := own_flb ho2 (by rw [List.length_append, HDN.out] <;> rfl); obtain ⟨g, x0, rfl, hg, hgc, _⟩ := hfl2 0 (by omega); have hg3 := cell_lt hgc; have hgw : w.heap.size + 1 ≤ g := (by omega); clear hg2 ho2 hgc hg HO1))
  obtain ⟨S1, hS1⟩ : ∃ S1 : Nat → Prop, S1 = fun k => S k ∧ k ≠ w.heap.size ∧ k ≠ g := ⟨_, rfl⟩
  have HS1S := Lib.hid (show ∀ k, S1 k → S k ∧ k ≠ w.heap.size ∧ k ≠ g by rw [hS1]; exact fun k h => h)
  have hb3 : Below w.heap.size w W3 := step_below HB0.out hx3
  have HT := Lib.hid (show Two W3 p bm q room C C S1 by
    rw [hS1]
    exact (H.out.sub (S' := fun k => S k ∧ k ≠ w.heap.size ∧ k ≠ g) fun k hk h => ⟨h, by omega, by omega⟩).below hb3)
  have HS := Lib.hid (show ∀ k, W3.heap.size ≤ k → S1 k by
    rw [hS1]
    have h3 := hb3.size
    have h4 := hx3.size
    exact fun k hk => ⟨HS0.out k (by omega), by omega, by omega⟩)
  have bx3 := HBX.out.below hx3
  have hld3 := HLD.out.below hb3
  have FQ := Lib.hid (fun X (b : Off S1 W3 X) => (⟨(b.box bx3 (fun h => (HS1S.out _ h).2.1 rfl)).cell 1, (b.box bx3 (fun h => (HS1S.out _ h).2.1 rfl)).cell 3, hld3.anyP b (fun b e hl h => HDA.out b e (by rw [HDN.out] at hl; exact hl) (HS1S.out _ h).1), hls2.any b (fun b e h => (HS1S.out _ h).2.2 (by cases e; rfl))⟩ : X.cell? ⟨w.heap.size, 1, none⟩ = some (.string sA) ∧ X.cell? ⟨w.heap.size, 3, none⟩ = some (.slice da dn dc) ∧ Ls .u8 X da dc D ∧ Ls .u8 X (some ⟨g, 0, none⟩) cap2 (D ++ [119])))
  have HB3 := Lib.hid hb3
  have HFL := Lib.hid hfl2
  obtain ⟨a5, c5, hsl1, hsl2⟩ := hls2.hi eltB (dn + 1) dn (by rw [List.length_append, HDN.out] <;> rfl) (by omega)
  have htk : (D ++ [119]).take dn = D := by rw [← HDN.out, List.take_left']; rfl
  rw [htk] at hsl2
  have HSL := Lib.hid (And.intro hsl1 hsl2)
  obtain ⟨str, hstr⟩ : ∃ str, strOfNums D = str := ⟨_, rfl⟩
  have hssz : ¬ 9223372036854775807 < str.size + 1 := by rw [← hstr, strOfNums_size, HDN.out]; omega
  have hstr2 : strOfNums (D ++ [119]) = str ++ ⟨#[119]⟩ := by rw [str_append, hstr]; rfl
  have HCV := Lib.hid (And.intro
    (fun X (h : Ls .u8 X (some ⟨g, 0, none⟩) cap2 (D ++ [119])) => by have := conv_ls X (some ⟨g, 0, none⟩) (dn + 1) cap2 (D ++ [119]) (by rw [List.length_append, HDN.out] <;> rfl) h.rd; rw [hstr2] at this; exact this)
    (fun X (h : Ls .u8 X da dc D) => by have := conv_ls X da dn dc D HDN.out h.rd; rw [hstr] at this; exact this))
  clear hx3 hls2 hfl2 hg3 hS1 hb3 bx3 hld3 hsl1 hsl2 htk hstr hstr2 HBX HB0 HX1
  rename_i KK hKK
  refine Code.wp_mono (Q := Exit.then KK (fun _ _ _ => False)) (fun e a' w' h => by cases e <;> first | exact h | exact h.elim) ?_
  refine wp_region_held_drew (S := (fun X => Off S1 W3 X)) (by kernel_rfl) (Off.of ((Below.refl _ _).drew)) (fun hHeld => ?_)
  refine wpAnyH_take (i := 0) (oi := { dst := some 27, op := Op.move (Operand.tmp 0), type := 23, pos := "law.go:90", after := #[], guard := none }) (v := ?_) rfl (by kernel_rfl) (by kernel_rfl) (by kernel_rfl) (fun _ _ _ h => h) (Or.inl ⟨by rfl, ?_⟩) (by assumption) ?_
  rotate_left
  · intro W hSw; go_simp; try with_reducible rfl
  try simp only [Act.put, List.setIfInBounds_toArray, List.set_cons_zero, List.set_cons_succ]
  refine wpAnyH_take (i := 1) (oi := { dst := some 28, op := Op.fieldAddr 37 (Operand.tmp 5) 1, type := 0, pos := "law.go:90", after := #[], guard := none }) (v := ?_) rfl (by kernel_rfl) (by kernel_rfl) (by kernel_rfl) (fun _ _ _ h => h) (Or.inl ⟨by rfl, ?_⟩) (by assumption) ?_
  rotate_left
  · intro W hSw; go_simp; try with_reducible rfl
  try simp only [Act.put, List.setIfInBounds_toArray, List.set_cons_zero, List.set_cons_succ]
  refine wpAnyH_take (i := 2) (oi := { dst := some 29, op := Op.load 9 (Operand.tmp 28), type := 9, pos := "law.go:90", after := #[{ on := 1, ground := Ground.data }], guard := none }) (v := ?_) rfl (by kernel_rfl) (by kernel_rfl) (by kernel_rfl) (fun _ _ _ h => h) (Or.inl ⟨by rfl, ?_⟩) (by assumption) ?_
  rotate_left
  · intro W hSw; obtain ⟨a0, a1, a2, a3⟩ := FQ.out W hSw; go_simp; try with_reducible rfl
  try simp only [Act.put, List.setIfInBounds_toArray, List.set_cons_zero, List.set_cons_succ]
  refine wpAnyH_take (i := 3) (oi := { dst := some 30, op := Op.move (Operand.tmp 9), type := 34, pos := "law.go:90", after := #[], guard := none }) (v := ?_) rfl (by kernel_rfl) (by kernel_rfl) (by kernel_rfl) (fun _ _ _ h => h) (Or.inl ⟨by rfl, ?_⟩) (by assumption) ?_
  rotate_left
  · intro W hSw; go_simp; try with_reducible rfl
  try simp only [Act.put, List.setIfInBounds_toArray, List.set_cons_zero, List.set_cons_succ]
  refine wpAnyH_take (i := 4) (oi := { dst := some 31, op := Op.fieldAddr 37 (Operand.tmp 5) 3, type := 0, pos := "law.go:90", after := #[], guard := none }) (v := ?_) rfl (by kernel_rfl) (by kernel_rfl) (by kernel_rfl) (fun _ _ _ h => h) (Or.inl ⟨by rfl, ?_⟩) (by assumption) ?_
  rotate_left
  · intro W hSw; go_simp; try with_reducible rfl
  try simp only [Act.put, List.setIfInBounds_toArray, List.set_cons_zero, List.set_cons_succ]
  refine wpAnyH_take (i := 5) (oi := { dst := some 32, op := Op.load 34 (Operand.tmp 31), type := 34, pos := "law.go:90", after := #[{ on := 4, ground := Ground.data }], guard := none }) (v := ?_) rfl (by kernel_rfl) (by kernel_rfl) (by kernel_rfl) (fun _ _ _ h => h) (Or.inl ⟨by rfl, ?_⟩) (by assumption) ?_
  rotate_left
  · intro W hSw; obtain ⟨a0, a1, a2, a3⟩ := FQ.out W hSw; go_simp; try with_reducible rfl
  try simp only [Act.put, List.setIfInBounds_toArray, List.set_cons_zero, List.set_cons_succ]
  refine wpAnyH_take (i := 6) (oi := { dst := some 33, op := Op.call { callee := Callee.builtin Builtin.len, args := #[Operand.tmp 32], argTypes := #[34] }, type := 3, pos := "law.go:90", after := #[{ on := 5, ground := Ground.data }], guard := none }) (v := ?_) rfl (by kernel_rfl) (by kernel_rfl) (by kernel_rfl) (fun _ _ _ h => h) (Or.inl ⟨by rfl, ?_⟩) (by assumption) ?_
  rotate_left
  · intro W hSw; go_simp; try with_reducible rfl
  try simp only [Act.put, List.setIfInBounds_toArray, List.set_cons_zero, List.set_cons_succ]
  refine wpAnyH_take (i := 7) (oi := { dst := some 34, op := Op.slice 34 (Operand.tmp 30) none (some (Operand.tmp 33)) none, type := 34, pos := "law.go:90", after := #[{ on := 3, ground := Ground.data }, { on := 6, ground := Ground.data }], guard := none }) (v := ?_) rfl (by kernel_rfl) (by kernel_rfl) (by kernel_rfl) (fun _ _ _ h => h) (Or.inl ⟨by rfl, ?_⟩) (by assumption) ?_
  rotate_left
  · intro W hSw; have e := HSL.out.1 W; go_simp; try with_reducible rfl
  try simp only [Act.put, List.setIfInBounds_toArray, List.set_cons_zero, List.set_cons_succ]
  refine wpAnyH_take (i := 10) (oi := { dst := some 37, op := Op.move (Operand.tmp 1), type := 27, pos := "law.go:90", after := #[], guard := none }) (v := ?_) rfl (by kernel_rfl) (by kernel_rfl) (by kernel_rfl) (fun _ _ _ h => h) (Or.inl ⟨by rfl, ?_⟩) (by assumption) ?_
  rotate_left
  · intro W hSw; go_simp; try with_reducible rfl
  try simp only [Act.put, List.setIfInBounds_toArray, List.set_cons_zero, List.set_cons_succ]
  refine wpAnyH_take (i := 11) (oi := { dst := some 38, op := Op.fieldAddr 37 (Operand.tmp 5) 1, type := 0, pos := "law.go:90", after := #[], guard := none }) (v := ?_) rfl (by kernel_rfl) (by kernel_rfl) (by kernel_rfl) (fun _ _ _ h => h) (Or.inl ⟨by rfl, ?_⟩) (by assumption) ?_
  rotate_left
  · intro W hSw; go_simp; try with_reducible rfl
  try simp only [Act.put, List.setIfInBounds_toArray, List.set_cons_zero, List.set_cons_succ]
  refine wpAnyH_take (i := 12) (oi := { dst := some 39, op := Op.load 9 (Operand.tmp 38), type := 9, pos := "law.go:90", after := #[{ on := 11, ground := Ground.data }], guard := none }) (v := ?_) rfl (by kernel_rfl) (by kernel_rfl) (by kernel_rfl) (fun _ _ _ h => h) (Or.inl ⟨by rfl, ?_⟩) (by assumption) ?_
  rotate_left
  · intro W hSw; obtain ⟨a0, a1, a2, a3⟩ := FQ.out W hSw; go_simp; try with_reducible rfl
  try simp only [Act.put, List.setIfInBounds_toArray, List.set_cons_zero, List.set_cons_succ]
  refine wpAnyH_take (i := 13) (oi := { dst := some 40, op := Op.fieldAddr 37 (Operand.tmp 5) 3, type := 0, pos := "law.go:90", after := #[], guard := none }) (v := ?_) rfl (by kernel_rfl) (by kernel_rfl) (by kernel_rfl) (fun _ _ _ h => h) (Or.inl ⟨by rfl, ?_⟩) (by assumption) ?_
  rotate_left
  · intro W hSw; go_simp; try with_reducible rfl
  try simp only [Act.put, List.setIfInBounds_toArray, List.set_cons_zero, List.set_cons_succ]
  refine wpAnyH_take (i := 14) (oi := { dst := some 41, op := Op.load 34 (Operand.tmp 40), type := 34, pos := "law.go:90", after := #[{ on := 13, ground := Ground.data }], guard := none }) (v := ?_) rfl (by kernel_rfl) (by kernel_rfl) (by kernel_rfl) (fun _ _ _ h => h) (Or.inl ⟨by rfl, ?_⟩) (by assumption) ?_
  rotate_left
  · intro W hSw; obtain ⟨a0, a1, a2, a3⟩ := FQ.out W hSw; go_simp; try with_reducible rfl
  try simp only [Act.put, List.setIfInBounds_toArray, List.set_cons_zero, List.set_cons_succ]
  refine wpAnyH_ready (rs := [8]) (by kernel_rfl) (by simp) ?_
  refine AllReadyH.cons (o := { dst := some 35, op := Op.call { callee := Callee.value (Operand.func 27), args := #[Operand.tmp 27, Operand.tmp 29, Operand.tmp 34], argTypes := #[23, 9, 34] }, type := 24, pos := "law.go:90", after := #[{ on := 0, ground := Ground.data }, { on := 2, ground := Ground.data }, { on := 7, ground := Ground.data }], guard := none }) rfl (fun K hK => ?_) AllReadyH.nil
  go_simp
  refine ((HT.out.below (Below.refl _ _).drew).l (fun k hk => HS.out k hk) (R := fun e => e = .returned (.int .i64 (appE room C sA dn))) (fun O hd => c_append hd sA hA a5 dn c5 D HDN.out (by omega) HDB.out HSL.out.2.drew)).mono ?_; rintro e w1 ⟨rfl, ht1, ho1⟩; have HT1 := Lib.hid ht1; have HS1 := Lib.hid (fun k (hk : w1.heap.size ≤ k) => HS.out k (Nat.le_trans ho1.size hk))
  go_wp2_with fail
  refine hK.out _ _ (Off.trans hHeld ho1) (fun hHeldn => ?_)
  clear hK K hHeld; have hHeld := hHeldn; clear hHeldn
  clear ht1 ho1
  try simp only [Act.put, List.setIfInBounds_toArray, List.set_cons_zero, List.set_cons_succ]
  refine wpAnyH_ready (rs := [9]) (by kernel_rfl) (by simp) ?_
  refine AllReadyH.cons (o := { dst := some 36, op := Op.call { callee := Callee.value (Operand.func 14), args := #[Operand.tmp 35], argTypes := #[24] }, type := 3, pos := "law.go:90", after := #[{ on := 8, ground := Ground.data }, { on := 8, ground := Ground.chain }], guard := none }) rfl (fun K hK => ?_) AllReadyH.nil
  go_simp
  refine (dnum_law _ _).mono ?_; rintro e w9 ⟨rfl, rfl⟩
  go_wp2_with fail
  refine hK.out _ _ (hHeld) (fun hHeldn => ?_)
  clear hK K hHeld; have hHeld := hHeldn; clear hHeldn
  try simp only [Act.put, List.setIfInBounds_toArray, List.set_cons_zero, List.set_cons_succ]
  refine wpAnyH_ready (rs := [15]) (by kernel_rfl) (by simp) ?_
  refine AllReadyH.cons (o := { dst := some 42, op := Op.call { callee := Callee.value (Operand.func 48), args := #[Operand.tmp 37, Operand.tmp 39, Operand.tmp 41], argTypes := #[27, 9, 34] }, type := 3, pos := "law.go:90", after := #[{ on := 10, ground := Ground.data }, { on := 12, ground := Ground.data }, { on := 14, ground := Ground.data }, { on := 9, ground := Ground.chain }], guard := none }) rfl (fun K hK => ?_) AllReadyH.nil
  go_simp
  refine (HT1.out.r (fun k hk => HS1.out k hk) (R := fun e => e = .returned (.int .i64 (appE room C sA dn))) (fun O hd => r_append hd HF.out sA hA da dn dc D HDN.out (by omega) (FQ.out _ hHeld).2.2.1)).mono ?_; rintro e w2 ⟨rfl, ht2, ho2⟩; have HT2 := Lib.hid ht2
  go_wp2_with fail
  refine hK.out _ _ (Off.trans hHeld ho2) (fun hHeldn => ?_)
  clear hK K hHeld; have hHeld := hHeldn; clear hHeldn
  clear ht2 ho2
  try simp only [Act.put, List.setIfInBounds_toArray, List.set_cons_zero, List.set_cons_succ]
  refine wpAnyH_take (i := 16) (oi := { dst := some 43, op := Op.binOp BinOp.eql 3 (Operand.tmp 36) (Operand.tmp 42) 3, type := 4, pos := "law.go:90", after := #[{ on := 9, ground := Ground.data }, { on := 15, ground := Ground.data }], guard := none }) (v := ?_) rfl (by kernel_rfl) (by kernel_rfl) (by kernel_rfl) (fun _ _ _ h => h) (Or.inl ⟨by rfl, ?_⟩) (by assumption) ?_
  rotate_left
  · intro W hSw; go_simp; try with_reducible rfl
  try simp only [Act.put, List.setIfInBounds_toArray, List.set_cons_zero, List.set_cons_succ]
  refine wpAnyH_take (i := 17) (oi := { dst := some 44, op := Op.move (Operand.tmp 43), type := 4, pos := "law.go:90", after := #[{ on := 16, ground := Ground.data }, { on := 15, ground := Ground.chain }], guard := none }) (v := ?_) rfl (by kernel_rfl) (by kernel_rfl) (by kernel_rfl) (fun _ _ _ h => h) (Or.inl ⟨by rfl, ?_⟩) (by assumption) ?_
  rotate_left
  · intro W hSw; go_simp; try with_reducible rfl
  try simp only [Act.put, List.setIfInBounds_toArray, List.set_cons_zero, List.set_cons_succ]
  refine wpAnyH_take (i := 18) (oi := { dst := some 45, op := Op.move (Operand.tmp 9), type := 34, pos := "law.go:90", after := #[{ on := 17, ground := Ground.guard }], guard := some (17, true) }) (v := ?_) rfl (by kernel_rfl) (by kernel_rfl) (by kernel_rfl) (fun _ _ _ h => h) (Or.inl ⟨by rfl, ?_⟩) (by assumption) ?_
  rotate_left
  · intro W hSw; go_simp; try with_reducible rfl
  try simp only [Act.put, List.setIfInBounds_toArray, List.set_cons_zero, List.set_cons_succ]
  refine wpAnyH_take (i := 19) (oi := { dst := some 46, op := Op.convert 34 9 (Operand.tmp 45), type := 9, pos := "law.go:90", after := #[{ on := 18, ground := Ground.data }, { on := 17, ground := Ground.guard }], guard := some (17, true) }) (v := ?_) rfl (by kernel_rfl) (by kernel_rfl) (by kernel_rfl) (fun _ _ _ h => h) (Or.inl ⟨by rfl, ?_⟩) (by assumption) ?_
  rotate_left
  · intro W hSw; have e := HCV.out.1 W (FQ.out W hSw).2.2.2; go_simp; try with_reducible rfl
  try simp only [Act.put, List.setIfInBounds_toArray, List.set_cons_zero, List.set_cons_succ]
  refine wpAnyH_take (i := 20) (oi := { dst := some 47, op := Op.fieldAddr 37 (Operand.tmp 5) 3, type := 0, pos := "law.go:90", after := #[{ on := 17, ground := Ground.guard }], guard := some (17, true) }) (v := ?_) rfl (by kernel_rfl) (by kernel_rfl) (by kernel_rfl) (fun _ _ _ h => h) (Or.inl ⟨by rfl, ?_⟩) (by assumption) ?_
  rotate_left
  · intro W hSw; go_simp; try with_reducible rfl
  try simp only [Act.put, List.setIfInBounds_toArray, List.set_cons_zero, List.set_cons_succ]
  refine wpAnyH_take (i := 21) (oi := { dst := some 48, op := Op.load 34 (Operand.tmp 47), type := 34, pos := "law.go:90", after := #[{ on := 20, ground := Ground.data }, { on := 17, ground := Ground.guard }], guard := some (17, true) }) (v := ?_) rfl (by kernel_rfl) (by kernel_rfl) (by kernel_rfl) (fun _ _ _ h => h) (Or.inl ⟨by rfl, ?_⟩) (by assumption) ?_
  rotate_left
  · intro W hSw; obtain ⟨a0, a1, a2, a3⟩ := FQ.out W hSw; go_simp; try with_reducible rfl
  try simp only [Act.put, List.setIfInBounds_toArray, List.set_cons_zero, List.set_cons_succ]
  refine wpAnyH_take (i := 22) (oi := { dst := some 49, op := Op.convert 34 9 (Operand.tmp 48), type := 9, pos := "law.go:90", after := #[{ on := 21, ground := Ground.data }, { on := 17, ground := Ground.guard }], guard := some (17, true) }) (v := ?_) rfl (by kernel_rfl) (by kernel_rfl) (by kernel_rfl) (fun _ _ _ h => h) (Or.inl ⟨by rfl, ?_⟩) (by assumption) ?_
  rotate_left
  · intro W hSw; have e := HCV.out.2 W (FQ.out W hSw).2.2.1; go_simp; try with_reducible rfl
  try simp only [Act.put, List.setIfInBounds_toArray, List.set_cons_zero, List.set_cons_succ]
  refine wpAnyH_take (i := 23) (oi := { dst := some 50, op := Op.binOp BinOp.add 9 (Operand.tmp 49) (Operand.const (Value.string { data := #[119] })) 9, type := 9, pos := "law.go:90", after := #[{ on := 22, ground := Ground.data }, { on := 17, ground := Ground.guard }], guard := some (17, true) }) (v := ?_) rfl (by kernel_rfl) (by kernel_rfl) (by kernel_rfl) (fun _ _ _ h => h) (Or.inl ⟨by rfl, ?_⟩) (by assumption) ?_
  rotate_left
  · intro W hSw; go_simp; try with_reducible rfl
  try simp only [Act.put, List.setIfInBounds_toArray, List.set_cons_zero, List.set_cons_succ]
  refine wpAnyH_take (i := 24) (oi := { dst := some 51, op := Op.binOp BinOp.eql 9 (Operand.tmp 46) (Operand.tmp 50) 9, type := 4, pos := "law.go:90", after := #[{ on := 19, ground := Ground.data }, { on := 23, ground := Ground.data }, { on := 17, ground := Ground.guard }], guard := some (17, true) }) (v := ?_) rfl (by kernel_rfl) (by kernel_rfl) (by kernel_rfl) (fun _ _ _ h => h) (Or.inl ⟨by rfl, ?_⟩) (by assumption) ?_
  rotate_left
  · intro W hSw; go_simp; try with_reducible rfl
  try simp only [Act.put, List.setIfInBounds_toArray, List.set_cons_zero, List.set_cons_succ]
  refine wpAnyH_take (i := 25) (oi := { dst := some 52, op := Op.pick (Operand.tmp 44) (Operand.tmp 51) (Operand.const (Value.bool false)), type := 4, pos := "law.go:90", after := #[{ on := 17, ground := Ground.data }, { on := 24, ground := Ground.data }], guard := none }) (v := ?_) rfl (by kernel_rfl) (by kernel_rfl) (by kernel_rfl) (fun _ _ _ h => h) (Or.inl ⟨by rfl, ?_⟩) (by assumption) ?_
  rotate_left
  · intro W hSw; go_simp; try with_reducible rfl
  try simp only [Act.put, List.setIfInBounds_toArray, List.set_cons_zero, List.set_cons_succ]
  refine wpAnyH_take (i := 26) (oi := { dst := some 10, op := Op.assign (Operand.tmp 52), type := 4, pos := "law.go:90", after := #[{ on := 25, ground := Ground.data }, { on := 17, ground := Ground.chain }, { on := 0, ground := Ground.phase }, { on := 1, ground := Ground.phase }, { on := 2, ground := Ground.phase }, { on := 3, ground := Ground.phase }, { on := 4, ground := Ground.phase }, { on := 5, ground := Ground.phase }, { on := 6, ground := Ground.phase }, { on := 7, ground := Ground.phase }, { on := 8, ground := Ground.phase }, { on := 9, ground := Ground.phase }, { on := 10, ground := Ground.phase }, { on := 11, ground := Ground.phase }, { on := 12, ground := Ground.phase }, { on := 13, ground := Ground.phase }, { on := 14, ground := Ground.phase }, { on := 15, ground := Ground.phase }, { on := 16, ground := Ground.phase }, { on := 17, ground := Ground.phase }, { on := 18, ground := Ground.phase }, { on := 19, ground := Ground.phase }, { on := 20, ground := Ground.phase }, { on := 21, ground := Ground.phase }, { on := 22, ground := Ground.phase }, { on := 23, ground := Ground.phase }, { on := 24, ground := Ground.phase }, { on := 25, ground := Ground.phase }], guard := none }) (v := ?_) rfl (by kernel_rfl) (by kernel_rfl) (by kernel_rfl) (fun _ _ _ h => h) (Or.inl ⟨by rfl, ?_⟩) (by assumption) ?_
  rotate_left
  · intro W hSw; go_simp; try with_reducible rfl
  try simp only [Act.put, List.setIfInBounds_toArray, List.set_cons_zero, List.set_cons_succ]
  refine wpAnyH_done (by kernel_rfl) ?_ _
  skip
  refine hKK _ _ ?_
  clear hKK
  have HFL2 := Lib.hid (HFL.out.off hHeld (fun h => (HS1S.out _ h).2.2 rfl))
  have HOF := Lib.hid ((Off.of (S := S) HB3.out).trans (hHeld.mono fun k hk => (HS1S.out k hk).1))
  clear hHeld FQ HSL HCV HFL
  go_wp2_with fail
  go_loopw [11] (fun i wr => ∃ j : Nat, j ≤ dn + 1 ∧ i = .int .i64 (j : Int) ∧ FlB W0.heap.size (some ⟨g, 0, none⟩) (dn + 1) wr ∧ Two wr p bm q room (appC room C sA D) (appC room C sA D) S1 ∧ Off S w wr) (fun i _ => dn + 1 - (intOf i).toNat)
  case atStart => exact ⟨0, Nat.zero_le _, rfl, HFL2.out, HT2.out, HOF.out⟩
  case round =>
    obtain ⟨j, hj, rfl, hfl, ht, ho⟩ := hrel
    have HFX := Lib.hid hfl
    have HTX := Lib.hid ht
    have HOX := Lib.hid ho
    clear ht ho HFL2 HT2 HOF
    by_cases hlt : j < dn + 1
    · have d2 : (j : Int) < ((dn + 1 : Nat) : Int) := by omega
      obtain ⟨g', x, e, hg', hcx, hfx⟩ := hfl j hlt
      cases e
      clear hfl
      go_wp2_with fail
      go_roundw
      case rel => exact ⟨j + 1, by omega, by go_num, HFX.out.set hcx _, HTX.out.off (T := fun k => k = g) (Off.set (S := fun k => k = g) (Off.refl _ wr) ⟨g, j, none⟩ rfl _) (fun k _ hk => (HS1S.out k hk).2.2), HOX.out.setnew ⟨g, j, none⟩ (by simp only; omega) _⟩
      case measure => simp [intOf]; omega
    · have d2 : ¬ (j : Int) < ((dn + 1 : Nat) : Int) := by omega
      clear hfl
      go_wp2_with fail
      refine bodyPost_ret (v := .tuple #[.pointer (some ⟨p, 0, none⟩), .pointer (some ⟨q, 0, none⟩), .bool true]) (by simp [results, Try.f17, go_sem]) rfl ?_
      exact ⟨p, bm, q, _, rfl, HTX.out.sub fun k _ hk => (HS1S.out k hk).1, HOX.out⟩
end Go.Proofs.Ytbjhcbiihekceaa
