/- Disks of the document: put. -/
import Derived.Test.YtbjhcbiihekceaaDf3
namespace Go.Proofs.Ytbjhcbiihekceaa
open Go.ChangeShapes Go.WideShapes Go.ChangeAt Go.RowKit Go.Maps
set_option linter.unusedVariables false
set_option linter.unusedSimpArgs false
theorem cells_new (w : World) (x : Fil) (fr : Nat × Nat) : CellsL (w.alloc (.cells #[.string x.nm, .slice x.ad x.bs.length x.cap, .int .i64 x.last] 111 fr)) (some ⟨w.heap.size, 0, none⟩) (fcs [x]) := fun j u hj => by
  refine ⟨w.heap.size, 0, rfl, ?_⟩
  rw [cell_new, Nat.zero_add]
  rw [show fcs [x] = [.string x.nm, .slice x.ad x.bs.length x.cap, .int .i64 x.last] from rfl] at hj
  simpa using hj
/-- The disk's row written anew, with a file more. -/
theorem rdk_put {W X : World} {q room : Nat} {L M : List Fil} {a a2 : Option Addr} {cap cap2 n base : Nat} {x : Fil} (h : RDk W q room L a cap) (ho : W.ownsRow base 111 3 (.slice a2 n cap2) n (fcs M)) (hb : q < base) (hM : ∀ y ∈ M, y = x ∨ y ∈ L) (hx : Ls .u8 W x.ad x.cap x.bs) (hxa : ∀ b, x.ad = some b → q < b.block ∧ b.block < W.heap.size) (hX : W.setCell ⟨q, 1, none⟩ (.slice a2 n cap2) = X) : RDk X q room M a2 cap2 ∧ ∀ g, a2 = some g → base ≤ g.block := by
  subst hX
  have hn : M.length = n := by have := ho.1; rw [fcs_length] at this; omega
  subst hn
  have o : Off (fun k => k = q) W (W.setCell ⟨q, 1, none⟩ (.slice a2 M.length cap2)) := Off.set (S := fun k => k = q) (Off.refl _ W) ⟨q, 1, none⟩ rfl _
  have hge : ∀ g, a2 = some g → base ≤ g.block := fun g e => by
    obtain ⟨a', cap', e2, _, _, _, h5⟩ := own_cells ho
    injection e2 with e3
    exact (h5 g (e3 ▸ e)).1
  have each : ∀ f ∈ M, Ls .u8 W f.ad f.cap f.bs ∧ ∀ b, f.ad = some b → q < b.block ∧ b.block < W.heap.size := fun f hf => by
    rcases hM f hf with rfl | hf
    · exact ⟨hx, hxa⟩
    · exact h.rows f hf
  refine ⟨⟨h.box.put 1 _, own_mono (own_off ho o fun g k c e hk => ?_) (by omega), fun f hf => ⟨(each f hf).1.any o fun b e hk => ?_, fun b e => ⟨((each f hf).2 b e).1, Nat.lt_of_lt_of_le ((each f hf).2 b e).2 o.size⟩⟩⟩, hge⟩
  · injection e with e1
    have := hge g e1
    omega
  · have := ((each f hf).2 b e).1
    omega
theorem tk_mem {L : List Fil} {k : Nat} {x : Fil} : ∀ y ∈ L.take k ++ [x] ++ L.drop k, y = x ∨ y ∈ L := fun y hy => by
  rcases List.mem_append.1 hy with hy | hy
  · rcases List.mem_append.1 hy with hy | hy
    · exact Or.inr (List.mem_of_mem_take hy)
    · exact Or.inl (by simpa using hy)
  · exact Or.inr (List.mem_of_mem_drop hy)
/-- Where a name belongs: behind all that are less. -/
def PutAt (L : List Fil) (x : Fil) (k : Nat) : Prop := k ≤ L.length ∧ (∀ j < k, ∀ f, L[j]? = some f → Op.bytesLess f.nm.toList x.nm.toList = true) ∧ ∀ f, L[k]? = some f → Op.bytesLess f.nm.toList x.nm.toList = false
/-- How put ends. -/
def PutEnd (w w' : World) (q room : Nat) (L : List Fil) (x : Fil) : Prop := (∃ k a' cap', PutAt L x k ∧ RDk w' q room (L.take k ++ [x] ++ L.drop k) a' cap' ∧ ∀ g, a' = some g → w.heap.size ≤ g.block) ∧ Off (fun k => k = q) w w'
set_option maxRecDepth 8192 in
set_option maxHeartbeats 4000000 in
theorem rput_some {w : World} {q room : Nat} {L : List Fil} {g : Nat} {cap : Nat} (h : RDk w q room L (some ⟨g, 0, none⟩) cap) (hl : L.length ≤ 64) (x : Fil) (hx : Ls .u8 w x.ad x.cap x.bs) (hxa : ∀ b, x.ad = some b → q < b.block ∧ b.block < w.heap.size) :
    Calls Try.prog 98 #[.pointer (some ⟨q, 0, none⟩), .agg #[.string x.nm, .slice x.ad x.bs.length x.cap, .int .i64 x.last]] w fun e w' => e = .returned (.tuple #[]) ∧ PutEnd w w' q room L x := by
  obtain ⟨W0, hW0⟩ : ∃ W0, w.alloc (.cells #[.string x.nm, .slice x.ad x.bs.length x.cap, .int .i64 x.last] 111) = W0 := ⟨_, rfl⟩
  have hb0 : Below w.heap.size w W0 := by rw [← hW0]; exact bl1 _ _
  have bx0 : BoxC W0 w.heap.size #[.string x.nm, .slice x.ad x.bs.length x.cap, .int .i64 x.last] 111 := by rw [← hW0]; exact BoxC.new _ _ _
  have H0 := Lib.hid (h.below hb0)
  have HX0 := Lib.hid hx
  have HXA := Lib.hid hxa
  have HB0 := Lib.hid hb0
  have BX := Lib.hid bx0
  obtain ⟨n, hn⟩ : ∃ n, L.length = n := ⟨_, rfl⟩
  have hcap : L.length ≤ cap := h.cells.2.1
  rw [hn] at hl hcap
  have HN := Lib.hid hn
  clear h hn hx hxa hb0 bx0
  go_enter Try.func98, Try.ntmps98
  go_wp2
  clear hW0
  go_loopw [4] (fun i wr => ∃ k : Nat, k ≤ n ∧ i = .int .i64 (k : Int) ∧ Below W0.heap.size W0 wr ∧ Hid (∀ j < k, ∀ f, L[j]? = some f → Op.bytesLess f.nm.toList x.nm.toList = true)) (fun i _ => n - (intOf i).toNat)
  case atStart => exact ⟨0, Nat.zero_le _, rfl, Below.refl _ _, Lib.hid (fun j hj => absurd hj (by omega))⟩
  case round =>
    obtain ⟨k, hk, rfl, hbj, HP⟩ := hrel
    have HBJ := Lib.hid hbj
    have c1 := (H0.out.below hbj).c1
    rw [HN.out] at c1
    have y0 : wr.cell? ⟨w.heap.size, 0, none⟩ = some (.string x.nm) := (BX.out.below hbj).cell 0
    clear hbj
    by_cases hlt : k < n
    · have hkl : (k : Int) < (n : Int) := by omega
      obtain ⟨f, hf⟩ : ∃ f, L[k]? = some f := ⟨_, List.getElem?_eq_getElem (by rw [HN.out]; exact hlt)⟩
      obtain ⟨g', e, hg, x1, x2, x3⟩ := (H0.out.below HBJ.out).file hf
      cases e
      have HF := Lib.hid hf
      clear hf x2 x3
      cases hless : Op.bytesLess f.nm.toList x.nm.toList with
      | true =>
        have HLS := Lib.hid hless
        go_wp2
        go_quiet (fail)
        go_wp2
        go_roundw
        case rel =>
          refine ⟨k + 1, by omega, by go_num, HBJ.out.trans ⟨rfl, rfl, rfl, Nat.le_refl _, fun _ _ => rfl⟩, Lib.hid (fun j hj f' hf' => ?_)⟩
          by_cases e : j = k
          · subst e
            rw [HF.out] at hf'; cases hf'; exact HLS.out
          · exact HP.out j (by omega) f' hf'
        case measure => simp [intOf]; omega
      | false =>
        have HLS := Lib.hid hless
        go_wp2
        go_quiet (fail)
        go_wp2
        clear x1 hless hkl
        have HBJ2 := Lib.hid (HBJ.out.trans (show Below W0.heap.size wr (wr.drewN nq) from ⟨rfl, rfl, rfl, Nat.le_refl _, fun _ _ => rfl⟩))
        clear HBJ c1 y0
        generalize wr.drewN nq = wr at HBJ2 ⊢
        have HBJ := HBJ2
        have FQ := Lib.hid (fun X (b : Below wr.heap.size wr X) => (show X.cell? ⟨q, 1, none⟩ = some (.slice (some ⟨g, 0, none⟩) n cap) by
          have := (H0.out.below (step_below HBJ.out b)).c1
          rwa [HN.out] at this))
        have FX := Lib.hid (fun X (b : Below wr.heap.size wr X) => (⟨((BX.out.below HBJ.out).below b).cell 0, ((BX.out.below HBJ.out).below b).cell 1, ((BX.out.below HBJ.out).below b).cell 2⟩ : X.cell? ⟨w.heap.size, 0, none⟩ = some (.string x.nm) ∧ X.cell? ⟨w.heap.size, 1, none⟩ = some (.slice x.ad x.bs.length x.cap) ∧ X.cell? ⟨w.heap.size, 2, none⟩ = some (.int .i64 x.last)))
        have HCC := Lib.hid (fun X (b : Below wr.heap.size wr X) => (H0.out.below (step_below HBJ.out b)).cells.1)
        have hb0' := HB0.out
        have HWS := Lib.hid (show w.heap.size ≤ wr.heap.size from Nat.le_trans HB0.out.size HBJ.out.size)
        have HT := Lib.hid (show (L.take k).length = k by rw [List.length_take, HN.out]; omega)
        have HCT := Lib.hid (fun X (b : Below wr.heap.size wr X) => (show CellsL X (some ⟨g, 0, none⟩) (fcs (L.take k)) by rw [fcs_take]; exact (HCC.out X b).take _))
        have HTD := Lib.hid (show (L.drop k).length = n - k by rw [List.length_drop, HN.out])
        have HCD := Lib.hid (fun X (b : Below wr.heap.size wr X) => (show CellsL X (if cap = k then some ⟨g, 0, none⟩ else some ⟨g, k * 3, none⟩) (fcs (L.drop k)) by
          split
          · rw [List.drop_eq_nil_of_le (by rw [HN.out]; omega)]; exact CellsL.nil _ _
          · rw [fcs_drop]
            have := (HCC.out X b).drop (k * 3)
            rwa [Nat.zero_add] at this))
        have hic : k ≤ cap := by omega
        have hkn : (k : Int) ≤ (n : Int) := by omega
        refine wp_region_last (z := 20) (S := (fun X => Below wr.heap.size wr X)) (by kernel_rfl) ((Below.refl _ _).drew) (fun hHeld => ?_)
        refine wpAnyL_take (i := 0) (oi := { dst := some 27, op := Op.move (Operand.tmp 0), type := 27, pos := "ref.go:93", after := #[], guard := none }) (v := ?_) (by kernel_rfl) rfl (by kernel_rfl) rfl (by kernel_rfl) (by kernel_rfl) (by kernel_rfl) (fun _ _ _ h => h) (Or.inl ⟨by rfl, ?_⟩) (by assumption) ?_
        rotate_left
        · intro W hSw; go_simp; try with_reducible rfl
        try simp only [Act.put, List.setIfInBounds_toArray, List.set_cons_zero, List.set_cons_succ]
        refine wpAnyL_take (i := 1) (oi := { dst := some 28, op := Op.move (Operand.tmp 0), type := 27, pos := "ref.go:93", after := #[], guard := none }) (v := ?_) (by kernel_rfl) rfl (by kernel_rfl) rfl (by kernel_rfl) (by kernel_rfl) (by kernel_rfl) (fun _ _ _ h => h) (Or.inl ⟨by rfl, ?_⟩) (by assumption) ?_
        rotate_left
        · intro W hSw; go_simp; try with_reducible rfl
        try simp only [Act.put, List.setIfInBounds_toArray, List.set_cons_zero, List.set_cons_succ]
        refine wpAnyL_take (i := 2) (oi := { dst := some 29, op := Op.nilCheck (Operand.tmp 28), type := 0, pos := "ref.go:93", after := #[{ on := 1, ground := Ground.data }], guard := none }) (v := ?_) (by kernel_rfl) rfl (by kernel_rfl) rfl (by kernel_rfl) (by kernel_rfl) (by kernel_rfl) (fun _ _ _ h => h) (Or.inl ⟨by rfl, ?_⟩) (by assumption) ?_
        rotate_left
        · intro W hSw; go_simp; try with_reducible rfl
        try simp only [Act.put, List.setIfInBounds_toArray, List.set_cons_zero, List.set_cons_succ]
        refine wpAnyL_take (i := 3) (oi := { dst := some 30, op := Op.fieldAddr 97 (Operand.tmp 29) 1, type := 0, pos := "ref.go:93", after := #[{ on := 2, ground := Ground.data }], guard := none }) (v := ?_) (by kernel_rfl) rfl (by kernel_rfl) rfl (by kernel_rfl) (by kernel_rfl) (by kernel_rfl) (fun _ _ _ h => h) (Or.inl ⟨by rfl, ?_⟩) (by assumption) ?_
        rotate_left
        · intro W hSw; go_simp; try with_reducible rfl
        try simp only [Act.put, List.setIfInBounds_toArray, List.set_cons_zero, List.set_cons_succ]
        refine wpAnyL_take (i := 4) (oi := { dst := some 31, op := Op.load 95 (Operand.tmp 30), type := 95, pos := "ref.go:93", after := #[{ on := 3, ground := Ground.data }], guard := none }) (v := ?_) (by kernel_rfl) rfl (by kernel_rfl) rfl (by kernel_rfl) (by kernel_rfl) (by kernel_rfl) (fun _ _ _ h => h) (Or.inl ⟨by rfl, ?_⟩) (by assumption) ?_
        rotate_left
        · intro W hSw; have a0 := FQ.out W hSw; go_simp; try with_reducible rfl
        try simp only [Act.put, List.setIfInBounds_toArray, List.set_cons_zero, List.set_cons_succ]
        refine wpAnyL_take (i := 5) (oi := { dst := some 32, op := Op.move (Operand.tmp 4), type := 3, pos := "ref.go:93", after := #[], guard := none }) (v := ?_) (by kernel_rfl) rfl (by kernel_rfl) rfl (by kernel_rfl) (by kernel_rfl) (by kernel_rfl) (fun _ _ _ h => h) (Or.inl ⟨by rfl, ?_⟩) (by assumption) ?_
        rotate_left
        · intro W hSw; go_simp; try with_reducible rfl
        try simp only [Act.put, List.setIfInBounds_toArray, List.set_cons_zero, List.set_cons_succ]
        refine wpAnyL_take (i := 6) (oi := { dst := some 33, op := Op.slice 95 (Operand.tmp 31) none (some (Operand.tmp 32)) none, type := 95, pos := "ref.go:93", after := #[{ on := 4, ground := Ground.data }, { on := 5, ground := Ground.data }], guard := none }) (v := ?_) (by kernel_rfl) rfl (by kernel_rfl) rfl (by kernel_rfl) (by kernel_rfl) (by kernel_rfl) (fun _ _ _ h => h) (Or.inl ⟨by rfl, ?_⟩) (by assumption) ?_
        rotate_left
        · intro W hSw; go_simp; try with_reducible rfl
        try simp only [Act.put, List.setIfInBounds_toArray, List.set_cons_zero, List.set_cons_succ]
        refine wpAnyL_take (i := 8) (oi := { dst := some 35, op := Op.load 111 (Operand.tmp 3), type := 111, pos := "ref.go:93", after := #[], guard := none }) (v := ?_) (by kernel_rfl) rfl (by kernel_rfl) rfl (by kernel_rfl) (by kernel_rfl) (by kernel_rfl) (fun _ _ _ h => h) (Or.inl ⟨by rfl, ?_⟩) (by assumption) ?_
        rotate_left
        · intro W hSw; obtain ⟨a0, a1, a2⟩ := FX.out W hSw; go_simp; try with_reducible rfl
        try simp only [Act.put, List.setIfInBounds_toArray, List.set_cons_zero, List.set_cons_succ]
        refine wpAnyL_take (i := 11) (oi := { dst := some 38, op := Op.move (Operand.tmp 0), type := 27, pos := "ref.go:93", after := #[], guard := none }) (v := ?_) (by kernel_rfl) rfl (by kernel_rfl) rfl (by kernel_rfl) (by kernel_rfl) (by kernel_rfl) (fun _ _ _ h => h) (Or.inl ⟨by rfl, ?_⟩) (by assumption) ?_
        rotate_left
        · intro W hSw; go_simp; try with_reducible rfl
        try simp only [Act.put, List.setIfInBounds_toArray, List.set_cons_zero, List.set_cons_succ]
        refine wpAnyL_take (i := 12) (oi := { dst := some 39, op := Op.nilCheck (Operand.tmp 38), type := 0, pos := "ref.go:93", after := #[{ on := 11, ground := Ground.data }], guard := none }) (v := ?_) (by kernel_rfl) rfl (by kernel_rfl) rfl (by kernel_rfl) (by kernel_rfl) (by kernel_rfl) (fun _ _ _ h => h) (Or.inl ⟨by rfl, ?_⟩) (by assumption) ?_
        rotate_left
        · intro W hSw; go_simp; try with_reducible rfl
        try simp only [Act.put, List.setIfInBounds_toArray, List.set_cons_zero, List.set_cons_succ]
        refine wpAnyL_take (i := 13) (oi := { dst := some 40, op := Op.fieldAddr 97 (Operand.tmp 39) 1, type := 0, pos := "ref.go:93", after := #[{ on := 12, ground := Ground.data }], guard := none }) (v := ?_) (by kernel_rfl) rfl (by kernel_rfl) rfl (by kernel_rfl) (by kernel_rfl) (by kernel_rfl) (fun _ _ _ h => h) (Or.inl ⟨by rfl, ?_⟩) (by assumption) ?_
        rotate_left
        · intro W hSw; go_simp; try with_reducible rfl
        try simp only [Act.put, List.setIfInBounds_toArray, List.set_cons_zero, List.set_cons_succ]
        refine wpAnyL_take (i := 14) (oi := { dst := some 41, op := Op.load 95 (Operand.tmp 40), type := 95, pos := "ref.go:93", after := #[{ on := 13, ground := Ground.data }], guard := none }) (v := ?_) (by kernel_rfl) rfl (by kernel_rfl) rfl (by kernel_rfl) (by kernel_rfl) (by kernel_rfl) (fun _ _ _ h => h) (Or.inl ⟨by rfl, ?_⟩) (by assumption) ?_
        rotate_left
        · intro W hSw; have a0 := FQ.out W hSw; go_simp; try with_reducible rfl
        try simp only [Act.put, List.setIfInBounds_toArray, List.set_cons_zero, List.set_cons_succ]
        refine wpAnyL_take (i := 15) (oi := { dst := some 42, op := Op.move (Operand.tmp 4), type := 3, pos := "ref.go:93", after := #[], guard := none }) (v := ?_) (by kernel_rfl) rfl (by kernel_rfl) rfl (by kernel_rfl) (by kernel_rfl) (by kernel_rfl) (fun _ _ _ h => h) (Or.inl ⟨by rfl, ?_⟩) (by assumption) ?_
        rotate_left
        · intro W hSw; go_simp; try with_reducible rfl
        try simp only [Act.put, List.setIfInBounds_toArray, List.set_cons_zero, List.set_cons_succ]
        refine wpAnyL_take (i := 16) (oi := { dst := some 43, op := Op.slice 95 (Operand.tmp 41) (some (Operand.tmp 42)) none none, type := 95, pos := "ref.go:93", after := #[{ on := 14, ground := Ground.data }, { on := 15, ground := Ground.data }], guard := none }) (v := ?_) (by kernel_rfl) rfl (by kernel_rfl) rfl (by kernel_rfl) (by kernel_rfl) (by kernel_rfl) (fun _ _ _ h => h) (Or.inl ⟨by rfl, ?_⟩) (by assumption) ?_
        rotate_left
        · intro W hSw; go_simp; try with_reducible rfl
        try simp only [Act.put, List.setIfInBounds_toArray, List.set_cons_zero, List.set_cons_succ]
        refine wpAnyL_ready (rs := [7, 9]) (by kernel_rfl) (by simp) ?_
        refine AllL.cons (o := { dst := some 34, op := Op.call { callee := Callee.builtin Builtin.append, args := #[Operand.const (Value.slice none 0 0), Operand.tmp 33], argTypes := #[95, 95] }, type := 95, pos := "ref.go:93", after := #[{ on := 6, ground := Ground.data }], guard := none }) rfl (fun K hK => ?_) ?_
        · skip
          refine step_append_fl rfl _ _ rfl wr.heap.size wr hHeld (.slice none 0 0) 0 [] rfl ⟨rfl, Or.inl ⟨rfl, rfl⟩⟩ (some ⟨g, 0, none⟩) cap k (L.take k) HT.out rfl (HCT.out _ hHeld) (fun e => by first | rfl | cases e) (by omega) hHeld.size ?_
          intro v1 X1 ho1 hb2 hg1
          have HO1 := Lib.hid (show X1.ownsRow wr.heap.size 111 3 v1 k (fcs (L.take k)) by simpa using ho1)
          clear ho1 hg1
          refine hK.out _ _ (hb2) (fun hHeldn => ?_)
          clear hK K hHeld; have hHeld := hHeldn; clear hHeldn
          clear hb2
          try simp only [Act.put, List.setIfInBounds_toArray, List.set_cons_zero, List.set_cons_succ]
          refine wpAnyL_ready (rs := [9]) (by kernel_rfl) (by simp) ?_
          refine AllL.cons (o := { dst := some 36, op := Op.buildSlice 95 1 #[(0, Operand.tmp 35)], type := 95, pos := "ref.go:93", after := #[{ on := 8, ground := Ground.data }], guard := none }) rfl (fun K hK => ?_) AllL.nil
          obtain ⟨X9, hX9⟩ : ∃ X9, X1.alloc (.cells #[.string x.nm, .slice x.ad x.bs.length x.cap, .int .i64 x.last] 111) = X9 := ⟨_, rfl⟩
          have hb9 : Below wr.heap.size wr X9 := by rw [← hX9]; exact hHeld.alloc hHeld.size _
          have HC9 := Lib.hid (show CellsL X9 (some ⟨X1.heap.size, 0, none⟩) (fcs [x]) by rw [← hX9]; exact cells_new _ _ _)
          replace HO1 := Lib.hid (show X9.ownsRow wr.heap.size 111 3 v1 k (fcs (L.take k)) by rw [← hX9]; exact own_kept HO1.out (bl1 _ _))
          go_simp
          try rw [hX9]
          refine hK.out _ _ (hb9) (fun hHeldn => ?_)
          clear hK K hHeld; have hHeld := hHeldn; clear hHeldn
          clear hb9 hX9
          try simp only [Act.put, List.setIfInBounds_toArray, List.set_cons_zero, List.set_cons_succ]
          refine wpAnyL_ready (rs := [10]) (by kernel_rfl) (by simp) ?_
          refine AllL.cons (o := { dst := some 37, op := Op.call { callee := Callee.builtin Builtin.append, args := #[Operand.tmp 34, Operand.tmp 36], argTypes := #[95, 95] }, type := 95, pos := "ref.go:93", after := #[{ on := 7, ground := Ground.data }, { on := 9, ground := Ground.data }, { on := 7, ground := Ground.chain }], guard := none }) rfl (fun K hK => ?_) AllL.nil
          refine step_append_fl rfl _ _ rfl wr.heap.size wr hHeld v1 k (L.take k) rfl HO1.out (some ⟨X1.heap.size, 0, none⟩) 1 1 [x] rfl rfl HC9.out (fun e => by cases e) (by omega) hHeld.size ?_
          intro v2 X2 ho2 hb3 hg2
          have HO2 := Lib.hid ho2
          clear ho2 hg2 HO1 HC9
          refine hK.out _ _ (hb3) (fun hHeldn => ?_)
          clear hK K hHeld; have hHeld := hHeldn; clear hHeldn
          clear hb3
          try simp only [Act.put, List.setIfInBounds_toArray, List.set_cons_zero, List.set_cons_succ]
          refine wpAnyL_ready (rs := [17]) (by kernel_rfl) (by simp) ?_
          refine AllL.cons (o := { dst := some 44, op := Op.call { callee := Callee.builtin Builtin.append, args := #[Operand.tmp 37, Operand.tmp 43], argTypes := #[95, 95] }, type := 95, pos := "ref.go:93", after := #[{ on := 10, ground := Ground.data }, { on := 16, ground := Ground.data }, { on := 10, ground := Ground.chain }], guard := none }) rfl (fun K hK => ?_) AllL.nil
          refine step_append_fl rfl _ _ rfl wr.heap.size wr hHeld v2 (k + 1) (L.take k ++ [x]) rfl HO2.out (if cap = k then some ⟨g, 0, none⟩ else some ⟨g, k * 3, none⟩) (cap - k) (n - k) (L.drop k) HTD.out rfl (HCD.out _ hHeld) (fun e => by first | rfl | (split at e <;> cases e)) (by omega) hHeld.size ?_
          intro v3 X3 ho3 hb4 hg3
          have HO3 := Lib.hid ho3
          clear ho3 hg3 HO2
          refine hK.out _ _ (hb4) (fun hHeldn => ?_)
          clear hK K hHeld; have hHeld := hHeldn; clear hHeldn
          clear hb4
          try simp only [Act.put, List.setIfInBounds_toArray, List.set_cons_zero, List.set_cons_succ]
          refine wpAnyL_free (i := 18) (oi := { dst := some 45, op := Op.nilCheck (Operand.tmp 27), type := 0, pos := "ref.go:93", after := #[{ on := 0, ground := Ground.data }, { on := 0, ground := Ground.phase }, { on := 1, ground := Ground.phase }, { on := 2, ground := Ground.phase }, { on := 3, ground := Ground.phase }, { on := 4, ground := Ground.phase }, { on := 5, ground := Ground.phase }, { on := 6, ground := Ground.phase }, { on := 7, ground := Ground.phase }, { on := 8, ground := Ground.phase }, { on := 9, ground := Ground.phase }, { on := 10, ground := Ground.phase }, { on := 11, ground := Ground.phase }, { on := 12, ground := Ground.phase }, { on := 13, ground := Ground.phase }, { on := 14, ground := Ground.phase }, { on := 15, ground := Ground.phase }, { on := 16, ground := Ground.phase }, { on := 17, ground := Ground.phase }], guard := none }) (v := ?_) (by kernel_rfl) rfl rfl (by kernel_rfl) (by kernel_rfl) (by kernel_rfl) (fun _ _ _ h => h) (Or.inl ⟨by rfl, ?_⟩) (by assumption) ?_
          rotate_left
          · intro W hSw; go_simp; try with_reducible rfl
          try simp only [Act.put, List.setIfInBounds_toArray, List.set_cons_zero, List.set_cons_succ]
          refine wpAnyL_take (i := 19) (oi := { dst := some 46, op := Op.fieldAddr 97 (Operand.tmp 45) 1, type := 0, pos := "ref.go:93", after := #[{ on := 18, ground := Ground.data }, { on := 0, ground := Ground.phase }, { on := 1, ground := Ground.phase }, { on := 2, ground := Ground.phase }, { on := 3, ground := Ground.phase }, { on := 4, ground := Ground.phase }, { on := 5, ground := Ground.phase }, { on := 6, ground := Ground.phase }, { on := 7, ground := Ground.phase }, { on := 8, ground := Ground.phase }, { on := 9, ground := Ground.phase }, { on := 10, ground := Ground.phase }, { on := 11, ground := Ground.phase }, { on := 12, ground := Ground.phase }, { on := 13, ground := Ground.phase }, { on := 14, ground := Ground.phase }, { on := 15, ground := Ground.phase }, { on := 16, ground := Ground.phase }, { on := 17, ground := Ground.phase }], guard := none }) (v := ?_) (by kernel_rfl) rfl (by kernel_rfl) rfl (by kernel_rfl) (by kernel_rfl) (by kernel_rfl) (fun _ _ _ h => h) (Or.inl ⟨by rfl, ?_⟩) (by assumption) ?_
          rotate_left
          · intro W hSw; go_simp; try with_reducible rfl
          try simp only [Act.put, List.setIfInBounds_toArray, List.set_cons_zero, List.set_cons_succ]
          refine wpAnyL_ready (rs := [20]) (by kernel_rfl) (by simp) ?_
          refine AllL.last (o := { dst := none, op := Op.store 95 (Operand.tmp 46) (Operand.tmp 44), type := 0, pos := "ref.go:93", after := #[{ on := 19, ground := Ground.data }, { on := 17, ground := Ground.data }, { on := 17, ground := Ground.chain }, { on := 0, ground := Ground.phase }, { on := 1, ground := Ground.phase }, { on := 2, ground := Ground.phase }, { on := 3, ground := Ground.phase }, { on := 4, ground := Ground.phase }, { on := 5, ground := Ground.phase }, { on := 6, ground := Ground.phase }, { on := 7, ground := Ground.phase }, { on := 8, ground := Ground.phase }, { on := 9, ground := Ground.phase }, { on := 10, ground := Ground.phase }, { on := 11, ground := Ground.phase }, { on := 12, ground := Ground.phase }, { on := 13, ground := Ground.phase }, { on := 14, ground := Ground.phase }, { on := 15, ground := Ground.phase }, { on := 16, ground := Ground.phase }, { on := 17, ground := Ground.phase }], guard := none }) rfl (fun K hK => ?_)
          obtain ⟨a2, cap2, rfl, hcl2, hle2, hno2, hge2⟩ := own_cells HO3.out
          have f1 := (H0.out.below (step_below HBJ.out hHeld)).f1
          have c1' := FQ.out _ hHeld
          go_simp
          refine hK.out _ _ ?_
          clear hK K
          try simp only [Act.put, List.setIfInBounds_toArray, List.set_cons_zero, List.set_cons_succ]
          refine wpAnyL_done (by kernel_rfl) ?_ _
          obtain ⟨X5, hX5⟩ : ∃ X5, X3.setCell ⟨q, 1, none⟩ (.slice a2 (k + 1 + (n - k)) cap2) = X5 := ⟨_, rfl⟩
          have HR := Lib.hid (rdk_put (H0.out.below (step_below HBJ.out hHeld)) HO3.out (by have := H0.out.box.lt; have := HBJ.out.size; omega) (show ∀ y ∈ L.take k ++ [x] ++ L.drop k, y = x ∨ y ∈ L from tk_mem) (HX0.out.below (step_below hb0' (step_below HBJ.out hHeld))) (fun b e => ⟨(HXA.out b e).1, Nat.lt_of_lt_of_le (HXA.out b e).2 (step_below hb0' (step_below HBJ.out hHeld)).size⟩) hX5)
          have HOF := Lib.hid (show Off (fun k => k = q) w X5 by rw [← hX5]; exact Off.set (S := fun k => k = q) (Off.of (step_below hb0' (step_below HBJ.out hHeld))) ⟨q, 1, none⟩ rfl _)
          have e5 : X3.setCell ⟨q, 1, none⟩ (.slice a2 (k + 1 + (n - k)) cap2) = X5 := hX5
          try rw [hX5]
          try simp only [Nat.zero_add, Nat.add_zero] at hX5
          try rw [hX5]
          clear hX5 e5 hHeld hcl2 hle2 hno2 hge2
          go_wp2
          all_goals
            go_end0
            exact ⟨rfl, ⟨k, a2, cap2, ⟨by rw [HN.out]; omega, HP.out, fun f2 hf2 => by rw [HF.out] at hf2; cases hf2; exact HLS.out⟩, HR.out.1, fun g' e => Nat.le_trans HWS.out (HR.out.2 g' e)⟩, HOF.out⟩
        refine AllL.cons (o := { dst := some 36, op := Op.buildSlice 95 1 #[(0, Operand.tmp 35)], type := 95, pos := "ref.go:93", after := #[{ on := 8, ground := Ground.data }], guard := none }) rfl (fun K hK => ?_) AllL.nil
        obtain ⟨X9, hX9⟩ : ∃ X9, wr.drew.alloc (.cells #[.string x.nm, .slice x.ad x.bs.length x.cap, .int .i64 x.last] 111) = X9 := ⟨_, rfl⟩
        have hb9 : Below wr.heap.size wr X9 := by rw [← hX9]; exact hHeld.alloc hHeld.size _
        have HC9 := Lib.hid (show CellsL X9 (some ⟨wr.drew.heap.size, 0, none⟩) (fcs [x]) by rw [← hX9]; exact cells_new _ _ _)
        go_simp
        try rw [hX9]
        refine hK.out _ _ (hb9) (fun hHeldn => ?_)
        clear hK K hHeld; have hHeld := hHeldn; clear hHeldn
        clear hb9 hX9
        try simp only [Act.put, List.setIfInBounds_toArray, List.set_cons_zero, List.set_cons_succ]
        refine wpAnyL_ready (rs := [7]) (by kernel_rfl) (by simp) ?_
        refine AllL.cons (o := { dst := some 34, op := Op.call { callee := Callee.builtin Builtin.append, args := #[Operand.const (Value.slice none 0 0), Operand.tmp 33], argTypes := #[95, 95] }, type := 95, pos := "ref.go:93", after := #[{ on := 6, ground := Ground.data }], guard := none }) rfl (fun K hK => ?_) AllL.nil
        refine step_append_fl rfl _ _ rfl wr.heap.size wr hHeld (.slice none 0 0) 0 [] rfl ⟨rfl, Or.inl ⟨rfl, rfl⟩⟩ (some ⟨g, 0, none⟩) cap k (L.take k) HT.out rfl (HCT.out _ hHeld) (fun e => by first | rfl | cases e) (by omega) hHeld.size ?_
        intro v1 X1 ho1 hb2 hg1
        have HO1 := Lib.hid (show X1.ownsRow wr.heap.size 111 3 v1 k (fcs (L.take k)) by simpa using ho1)
        have hbn : Below X9.heap.size X9 X1 := ⟨hg1.os, hg1.tape, hg1.output, hg1.size, fun j hj => hg1.block j hj (by simp [Value.ownBlock])⟩
        replace HC9 := Lib.hid (HC9.out.below hbn)
        clear hbn
        clear ho1 hg1
        refine hK.out _ _ (hb2) (fun hHeldn => ?_)
        clear hK K hHeld; have hHeld := hHeldn; clear hHeldn
        clear hb2
        try simp only [Act.put, List.setIfInBounds_toArray, List.set_cons_zero, List.set_cons_succ]
        refine wpAnyL_ready (rs := [10]) (by kernel_rfl) (by simp) ?_
        refine AllL.cons (o := { dst := some 37, op := Op.call { callee := Callee.builtin Builtin.append, args := #[Operand.tmp 34, Operand.tmp 36], argTypes := #[95, 95] }, type := 95, pos := "ref.go:93", after := #[{ on := 7, ground := Ground.data }, { on := 9, ground := Ground.data }, { on := 7, ground := Ground.chain }], guard := none }) rfl (fun K hK => ?_) AllL.nil
        refine step_append_fl rfl _ _ rfl wr.heap.size wr hHeld v1 k (L.take k) rfl HO1.out (some ⟨wr.drew.heap.size, 0, none⟩) 1 1 [x] rfl rfl HC9.out (fun e => by cases e) (by omega) hHeld.size ?_
        intro v2 X2 ho2 hb3 hg2
        have HO2 := Lib.hid ho2
        clear ho2 hg2 HO1 HC9
        refine hK.out _ _ (hb3) (fun hHeldn => ?_)
        clear hK K hHeld; have hHeld := hHeldn; clear hHeldn
        clear hb3
        try simp only [Act.put, List.setIfInBounds_toArray, List.set_cons_zero, List.set_cons_succ]
        refine wpAnyL_ready (rs := [17]) (by kernel_rfl) (by simp) ?_
        refine AllL.cons (o := { dst := some 44, op := Op.call { callee := Callee.builtin Builtin.append, args := #[Operand.tmp 37, Operand.tmp 43], argTypes := #[95, 95] }, type := 95, pos := "ref.go:93", after := #[{ on := 10, ground := Ground.data }, { on := 16, ground := Ground.data }, { on := 10, ground := Ground.chain }], guard := none }) rfl (fun K hK => ?_) AllL.nil
        refine step_append_fl rfl _ _ rfl wr.heap.size wr hHeld v2 (k + 1) (L.take k ++ [x]) rfl HO2.out (if cap = k then some ⟨g, 0, none⟩ else some ⟨g, k * 3, none⟩) (cap - k) (n - k) (L.drop k) HTD.out rfl (HCD.out _ hHeld) (fun e => by first | rfl | (split at e <;> cases e)) (by omega) hHeld.size ?_
        intro v3 X3 ho3 hb4 hg3
        have HO3 := Lib.hid ho3
        clear ho3 hg3 HO2
        refine hK.out _ _ (hb4) (fun hHeldn => ?_)
        clear hK K hHeld; have hHeld := hHeldn; clear hHeldn
        clear hb4
        try simp only [Act.put, List.setIfInBounds_toArray, List.set_cons_zero, List.set_cons_succ]
        refine wpAnyL_free (i := 18) (oi := { dst := some 45, op := Op.nilCheck (Operand.tmp 27), type := 0, pos := "ref.go:93", after := #[{ on := 0, ground := Ground.data }, { on := 0, ground := Ground.phase }, { on := 1, ground := Ground.phase }, { on := 2, ground := Ground.phase }, { on := 3, ground := Ground.phase }, { on := 4, ground := Ground.phase }, { on := 5, ground := Ground.phase }, { on := 6, ground := Ground.phase }, { on := 7, ground := Ground.phase }, { on := 8, ground := Ground.phase }, { on := 9, ground := Ground.phase }, { on := 10, ground := Ground.phase }, { on := 11, ground := Ground.phase }, { on := 12, ground := Ground.phase }, { on := 13, ground := Ground.phase }, { on := 14, ground := Ground.phase }, { on := 15, ground := Ground.phase }, { on := 16, ground := Ground.phase }, { on := 17, ground := Ground.phase }], guard := none }) (v := ?_) (by kernel_rfl) rfl rfl (by kernel_rfl) (by kernel_rfl) (by kernel_rfl) (fun _ _ _ h => h) (Or.inl ⟨by rfl, ?_⟩) (by assumption) ?_
        rotate_left
        · intro W hSw; go_simp; try with_reducible rfl
        try simp only [Act.put, List.setIfInBounds_toArray, List.set_cons_zero, List.set_cons_succ]
        refine wpAnyL_take (i := 19) (oi := { dst := some 46, op := Op.fieldAddr 97 (Operand.tmp 45) 1, type := 0, pos := "ref.go:93", after := #[{ on := 18, ground := Ground.data }, { on := 0, ground := Ground.phase }, { on := 1, ground := Ground.phase }, { on := 2, ground := Ground.phase }, { on := 3, ground := Ground.phase }, { on := 4, ground := Ground.phase }, { on := 5, ground := Ground.phase }, { on := 6, ground := Ground.phase }, { on := 7, ground := Ground.phase }, { on := 8, ground := Ground.phase }, { on := 9, ground := Ground.phase }, { on := 10, ground := Ground.phase }, { on := 11, ground := Ground.phase }, { on := 12, ground := Ground.phase }, { on := 13, ground := Ground.phase }, { on := 14, ground := Ground.phase }, { on := 15, ground := Ground.phase }, { on := 16, ground := Ground.phase }, { on := 17, ground := Ground.phase }], guard := none }) (v := ?_) (by kernel_rfl) rfl (by kernel_rfl) rfl (by kernel_rfl) (by kernel_rfl) (by kernel_rfl) (fun _ _ _ h => h) (Or.inl ⟨by rfl, ?_⟩) (by assumption) ?_
        rotate_left
        · intro W hSw; go_simp; try with_reducible rfl
        try simp only [Act.put, List.setIfInBounds_toArray, List.set_cons_zero, List.set_cons_succ]
        refine wpAnyL_ready (rs := [20]) (by kernel_rfl) (by simp) ?_
        refine AllL.last (o := { dst := none, op := Op.store 95 (Operand.tmp 46) (Operand.tmp 44), type := 0, pos := "ref.go:93", after := #[{ on := 19, ground := Ground.data }, { on := 17, ground := Ground.data }, { on := 17, ground := Ground.chain }, { on := 0, ground := Ground.phase }, { on := 1, ground := Ground.phase }, { on := 2, ground := Ground.phase }, { on := 3, ground := Ground.phase }, { on := 4, ground := Ground.phase }, { on := 5, ground := Ground.phase }, { on := 6, ground := Ground.phase }, { on := 7, ground := Ground.phase }, { on := 8, ground := Ground.phase }, { on := 9, ground := Ground.phase }, { on := 10, ground := Ground.phase }, { on := 11, ground := Ground.phase }, { on := 12, ground := Ground.phase }, { on := 13, ground := Ground.phase }, { on := 14, ground := Ground.phase }, { on := 15, ground := Ground.phase }, { on := 16, ground := Ground.phase }, { on := 17, ground := Ground.phase }], guard := none }) rfl (fun K hK => ?_)
        obtain ⟨a2, cap2, rfl, hcl2, hle2, hno2, hge2⟩ := own_cells HO3.out
        have f1 := (H0.out.below (step_below HBJ.out hHeld)).f1
        have c1' := FQ.out _ hHeld
        go_simp
        refine hK.out _ _ ?_
        clear hK K
        try simp only [Act.put, List.setIfInBounds_toArray, List.set_cons_zero, List.set_cons_succ]
        refine wpAnyL_done (by kernel_rfl) ?_ _
        obtain ⟨X5, hX5⟩ : ∃ X5, X3.setCell ⟨q, 1, none⟩ (.slice a2 (k + 1 + (n - k)) cap2) = X5 := ⟨_, rfl⟩
        have HR := Lib.hid (rdk_put (H0.out.below (step_below HBJ.out hHeld)) HO3.out (by have := H0.out.box.lt; have := HBJ.out.size; omega) (show ∀ y ∈ L.take k ++ [x] ++ L.drop k, y = x ∨ y ∈ L from tk_mem) (HX0.out.below (step_below hb0' (step_below HBJ.out hHeld))) (fun b e => ⟨(HXA.out b e).1, Nat.lt_of_lt_of_le (HXA.out b e).2 (step_below hb0' (step_below HBJ.out hHeld)).size⟩) hX5)
        have HOF := Lib.hid (show Off (fun k => k = q) w X5 by rw [← hX5]; exact Off.set (S := fun k => k = q) (Off.of (step_below hb0' (step_below HBJ.out hHeld))) ⟨q, 1, none⟩ rfl _)
        have e5 : X3.setCell ⟨q, 1, none⟩ (.slice a2 (k + 1 + (n - k)) cap2) = X5 := hX5
        try rw [hX5]
        try simp only [Nat.zero_add, Nat.add_zero] at hX5
        try rw [hX5]
        clear hX5 e5 hHeld hcl2 hle2 hno2 hge2
        go_wp2
        all_goals
          go_end0
          exact ⟨rfl, ⟨k, a2, cap2, ⟨by rw [HN.out]; omega, HP.out, fun f2 hf2 => by rw [HF.out] at hf2; cases hf2; exact HLS.out⟩, HR.out.1, fun g' e => Nat.le_trans HWS.out (HR.out.2 g' e)⟩, HOF.out⟩
    · have hkl : ¬ (k : Int) < (n : Int) := by omega
      go_wp2
      go_quiet (fail)
      go_wp2
      clear hkl
      have HBJ2 := Lib.hid (HBJ.out.trans (show Below W0.heap.size wr (wr.drewN nq) from ⟨rfl, rfl, rfl, Nat.le_refl _, fun _ _ => rfl⟩))
      clear HBJ c1 y0
      generalize wr.drewN nq = wr at HBJ2 ⊢
      have HBJ := HBJ2
      have FQ := Lib.hid (fun X (b : Below wr.heap.size wr X) => (show X.cell? ⟨q, 1, none⟩ = some (.slice (some ⟨g, 0, none⟩) n cap) by
        have := (H0.out.below (step_below HBJ.out b)).c1
        rwa [HN.out] at this))
      have FX := Lib.hid (fun X (b : Below wr.heap.size wr X) => (⟨((BX.out.below HBJ.out).below b).cell 0, ((BX.out.below HBJ.out).below b).cell 1, ((BX.out.below HBJ.out).below b).cell 2⟩ : X.cell? ⟨w.heap.size, 0, none⟩ = some (.string x.nm) ∧ X.cell? ⟨w.heap.size, 1, none⟩ = some (.slice x.ad x.bs.length x.cap) ∧ X.cell? ⟨w.heap.size, 2, none⟩ = some (.int .i64 x.last)))
      have HCC := Lib.hid (fun X (b : Below wr.heap.size wr X) => (H0.out.below (step_below HBJ.out b)).cells.1)
      have hb0' := HB0.out
      have HWS := Lib.hid (show w.heap.size ≤ wr.heap.size from Nat.le_trans HB0.out.size HBJ.out.size)
      have HT := Lib.hid (show (L.take k).length = k by rw [List.length_take, HN.out]; omega)
      have HCT := Lib.hid (fun X (b : Below wr.heap.size wr X) => (show CellsL X (some ⟨g, 0, none⟩) (fcs (L.take k)) by rw [fcs_take]; exact (HCC.out X b).take _))
      have HTD := Lib.hid (show (L.drop k).length = n - k by rw [List.length_drop, HN.out])
      have HCD := Lib.hid (fun X (b : Below wr.heap.size wr X) => (show CellsL X (if cap = k then some ⟨g, 0, none⟩ else some ⟨g, k * 3, none⟩) (fcs (L.drop k)) by
        split
        · rw [List.drop_eq_nil_of_le (by rw [HN.out]; omega)]; exact CellsL.nil _ _
        · rw [fcs_drop]
          have := (HCC.out X b).drop (k * 3)
          rwa [Nat.zero_add] at this))
      have hic : k ≤ cap := by omega
      have hkn : (k : Int) ≤ (n : Int) := by omega
      refine wp_region_last (z := 20) (S := (fun X => Below wr.heap.size wr X)) (by kernel_rfl) ((Below.refl _ _).drew) (fun hHeld => ?_)
      refine wpAnyL_take (i := 0) (oi := { dst := some 27, op := Op.move (Operand.tmp 0), type := 27, pos := "ref.go:93", after := #[], guard := none }) (v := ?_) (by kernel_rfl) rfl (by kernel_rfl) rfl (by kernel_rfl) (by kernel_rfl) (by kernel_rfl) (fun _ _ _ h => h) (Or.inl ⟨by rfl, ?_⟩) (by assumption) ?_
      rotate_left
      · intro W hSw; go_simp; try with_reducible rfl
      try simp only [Act.put, List.setIfInBounds_toArray, List.set_cons_zero, List.set_cons_succ]
      refine wpAnyL_take (i := 1) (oi := { dst := some 28, op := Op.move (Operand.tmp 0), type := 27, pos := "ref.go:93", after := #[], guard := none }) (v := ?_) (by kernel_rfl) rfl (by kernel_rfl) rfl (by kernel_rfl) (by kernel_rfl) (by kernel_rfl) (fun _ _ _ h => h) (Or.inl ⟨by rfl, ?_⟩) (by assumption) ?_
      rotate_left
      · intro W hSw; go_simp; try with_reducible rfl
      try simp only [Act.put, List.setIfInBounds_toArray, List.set_cons_zero, List.set_cons_succ]
      refine wpAnyL_take (i := 2) (oi := { dst := some 29, op := Op.nilCheck (Operand.tmp 28), type := 0, pos := "ref.go:93", after := #[{ on := 1, ground := Ground.data }], guard := none }) (v := ?_) (by kernel_rfl) rfl (by kernel_rfl) rfl (by kernel_rfl) (by kernel_rfl) (by kernel_rfl) (fun _ _ _ h => h) (Or.inl ⟨by rfl, ?_⟩) (by assumption) ?_
      rotate_left
      · intro W hSw; go_simp; try with_reducible rfl
      try simp only [Act.put, List.setIfInBounds_toArray, List.set_cons_zero, List.set_cons_succ]
      refine wpAnyL_take (i := 3) (oi := { dst := some 30, op := Op.fieldAddr 97 (Operand.tmp 29) 1, type := 0, pos := "ref.go:93", after := #[{ on := 2, ground := Ground.data }], guard := none }) (v := ?_) (by kernel_rfl) rfl (by kernel_rfl) rfl (by kernel_rfl) (by kernel_rfl) (by kernel_rfl) (fun _ _ _ h => h) (Or.inl ⟨by rfl, ?_⟩) (by assumption) ?_
      rotate_left
      · intro W hSw; go_simp; try with_reducible rfl
      try simp only [Act.put, List.setIfInBounds_toArray, List.set_cons_zero, List.set_cons_succ]
      refine wpAnyL_take (i := 4) (oi := { dst := some 31, op := Op.load 95 (Operand.tmp 30), type := 95, pos := "ref.go:93", after := #[{ on := 3, ground := Ground.data }], guard := none }) (v := ?_) (by kernel_rfl) rfl (by kernel_rfl) rfl (by kernel_rfl) (by kernel_rfl) (by kernel_rfl) (fun _ _ _ h => h) (Or.inl ⟨by rfl, ?_⟩) (by assumption) ?_
      rotate_left
      · intro W hSw; have a0 := FQ.out W hSw; go_simp; try with_reducible rfl
      try simp only [Act.put, List.setIfInBounds_toArray, List.set_cons_zero, List.set_cons_succ]
      refine wpAnyL_take (i := 5) (oi := { dst := some 32, op := Op.move (Operand.tmp 4), type := 3, pos := "ref.go:93", after := #[], guard := none }) (v := ?_) (by kernel_rfl) rfl (by kernel_rfl) rfl (by kernel_rfl) (by kernel_rfl) (by kernel_rfl) (fun _ _ _ h => h) (Or.inl ⟨by rfl, ?_⟩) (by assumption) ?_
      rotate_left
      · intro W hSw; go_simp; try with_reducible rfl
      try simp only [Act.put, List.setIfInBounds_toArray, List.set_cons_zero, List.set_cons_succ]
      refine wpAnyL_take (i := 6) (oi := { dst := some 33, op := Op.slice 95 (Operand.tmp 31) none (some (Operand.tmp 32)) none, type := 95, pos := "ref.go:93", after := #[{ on := 4, ground := Ground.data }, { on := 5, ground := Ground.data }], guard := none }) (v := ?_) (by kernel_rfl) rfl (by kernel_rfl) rfl (by kernel_rfl) (by kernel_rfl) (by kernel_rfl) (fun _ _ _ h => h) (Or.inl ⟨by rfl, ?_⟩) (by assumption) ?_
      rotate_left
      · intro W hSw; go_simp; try with_reducible rfl
      try simp only [Act.put, List.setIfInBounds_toArray, List.set_cons_zero, List.set_cons_succ]
      refine wpAnyL_take (i := 8) (oi := { dst := some 35, op := Op.load 111 (Operand.tmp 3), type := 111, pos := "ref.go:93", after := #[], guard := none }) (v := ?_) (by kernel_rfl) rfl (by kernel_rfl) rfl (by kernel_rfl) (by kernel_rfl) (by kernel_rfl) (fun _ _ _ h => h) (Or.inl ⟨by rfl, ?_⟩) (by assumption) ?_
      rotate_left
      · intro W hSw; obtain ⟨a0, a1, a2⟩ := FX.out W hSw; go_simp; try with_reducible rfl
      try simp only [Act.put, List.setIfInBounds_toArray, List.set_cons_zero, List.set_cons_succ]
      refine wpAnyL_take (i := 11) (oi := { dst := some 38, op := Op.move (Operand.tmp 0), type := 27, pos := "ref.go:93", after := #[], guard := none }) (v := ?_) (by kernel_rfl) rfl (by kernel_rfl) rfl (by kernel_rfl) (by kernel_rfl) (by kernel_rfl) (fun _ _ _ h => h) (Or.inl ⟨by rfl, ?_⟩) (by assumption) ?_
      rotate_left
      · intro W hSw; go_simp; try with_reducible rfl
      try simp only [Act.put, List.setIfInBounds_toArray, List.set_cons_zero, List.set_cons_succ]
      refine wpAnyL_take (i := 12) (oi := { dst := some 39, op := Op.nilCheck (Operand.tmp 38), type := 0, pos := "ref.go:93", after := #[{ on := 11, ground := Ground.data }], guard := none }) (v := ?_) (by kernel_rfl) rfl (by kernel_rfl) rfl (by kernel_rfl) (by kernel_rfl) (by kernel_rfl) (fun _ _ _ h => h) (Or.inl ⟨by rfl, ?_⟩) (by assumption) ?_
      rotate_left
      · intro W hSw; go_simp; try with_reducible rfl
      try simp only [Act.put, List.setIfInBounds_toArray, List.set_cons_zero, List.set_cons_succ]
      refine wpAnyL_take (i := 13) (oi := { dst := some 40, op := Op.fieldAddr 97 (Operand.tmp 39) 1, type := 0, pos := "ref.go:93", after := #[{ on := 12, ground := Ground.data }], guard := none }) (v := ?_) (by kernel_rfl) rfl (by kernel_rfl) rfl (by kernel_rfl) (by kernel_rfl) (by kernel_rfl) (fun _ _ _ h => h) (Or.inl ⟨by rfl, ?_⟩) (by assumption) ?_
      rotate_left
      · intro W hSw; go_simp; try with_reducible rfl
      try simp only [Act.put, List.setIfInBounds_toArray, List.set_cons_zero, List.set_cons_succ]
      refine wpAnyL_take (i := 14) (oi := { dst := some 41, op := Op.load 95 (Operand.tmp 40), type := 95, pos := "ref.go:93", after := #[{ on := 13, ground := Ground.data }], guard := none }) (v := ?_) (by kernel_rfl) rfl (by kernel_rfl) rfl (by kernel_rfl) (by kernel_rfl) (by kernel_rfl) (fun _ _ _ h => h) (Or.inl ⟨by rfl, ?_⟩) (by assumption) ?_
      rotate_left
      · intro W hSw; have a0 := FQ.out W hSw; go_simp; try with_reducible rfl
      try simp only [Act.put, List.setIfInBounds_toArray, List.set_cons_zero, List.set_cons_succ]
      refine wpAnyL_take (i := 15) (oi := { dst := some 42, op := Op.move (Operand.tmp 4), type := 3, pos := "ref.go:93", after := #[], guard := none }) (v := ?_) (by kernel_rfl) rfl (by kernel_rfl) rfl (by kernel_rfl) (by kernel_rfl) (by kernel_rfl) (fun _ _ _ h => h) (Or.inl ⟨by rfl, ?_⟩) (by assumption) ?_
      rotate_left
      · intro W hSw; go_simp; try with_reducible rfl
      try simp only [Act.put, List.setIfInBounds_toArray, List.set_cons_zero, List.set_cons_succ]
      refine wpAnyL_take (i := 16) (oi := { dst := some 43, op := Op.slice 95 (Operand.tmp 41) (some (Operand.tmp 42)) none none, type := 95, pos := "ref.go:93", after := #[{ on := 14, ground := Ground.data }, { on := 15, ground := Ground.data }], guard := none }) (v := ?_) (by kernel_rfl) rfl (by kernel_rfl) rfl (by kernel_rfl) (by kernel_rfl) (by kernel_rfl) (fun _ _ _ h => h) (Or.inl ⟨by rfl, ?_⟩) (by assumption) ?_
      rotate_left
      · intro W hSw; go_simp; try with_reducible rfl
      try simp only [Act.put, List.setIfInBounds_toArray, List.set_cons_zero, List.set_cons_succ]
      refine wpAnyL_ready (rs := [7, 9]) (by kernel_rfl) (by simp) ?_
      refine AllL.cons (o := { dst := some 34, op := Op.call { callee := Callee.builtin Builtin.append, args := #[Operand.const (Value.slice none 0 0), Operand.tmp 33], argTypes := #[95, 95] }, type := 95, pos := "ref.go:93", after := #[{ on := 6, ground := Ground.data }], guard := none }) rfl (fun K hK => ?_) ?_
      · skip
        refine step_append_fl rfl _ _ rfl wr.heap.size wr hHeld (.slice none 0 0) 0 [] rfl ⟨rfl, Or.inl ⟨rfl, rfl⟩⟩ (some ⟨g, 0, none⟩) cap k (L.take k) HT.out rfl (HCT.out _ hHeld) (fun e => by first | rfl | cases e) (by omega) hHeld.size ?_
        intro v1 X1 ho1 hb2 hg1
        have HO1 := Lib.hid (show X1.ownsRow wr.heap.size 111 3 v1 k (fcs (L.take k)) by simpa using ho1)
        clear ho1 hg1
        refine hK.out _ _ (hb2) (fun hHeldn => ?_)
        clear hK K hHeld; have hHeld := hHeldn; clear hHeldn
        clear hb2
        try simp only [Act.put, List.setIfInBounds_toArray, List.set_cons_zero, List.set_cons_succ]
        refine wpAnyL_ready (rs := [9]) (by kernel_rfl) (by simp) ?_
        refine AllL.cons (o := { dst := some 36, op := Op.buildSlice 95 1 #[(0, Operand.tmp 35)], type := 95, pos := "ref.go:93", after := #[{ on := 8, ground := Ground.data }], guard := none }) rfl (fun K hK => ?_) AllL.nil
        obtain ⟨X9, hX9⟩ : ∃ X9, X1.alloc (.cells #[.string x.nm, .slice x.ad x.bs.length x.cap, .int .i64 x.last] 111) = X9 := ⟨_, rfl⟩
        have hb9 : Below wr.heap.size wr X9 := by rw [← hX9]; exact hHeld.alloc hHeld.size _
        have HC9 := Lib.hid (show CellsL X9 (some ⟨X1.heap.size, 0, none⟩) (fcs [x]) by rw [← hX9]; exact cells_new _ _ _)
        replace HO1 := Lib.hid (show X9.ownsRow wr.heap.size 111 3 v1 k (fcs (L.take k)) by rw [← hX9]; exact own_kept HO1.out (bl1 _ _))
        go_simp
        try rw [hX9]
        refine hK.out _ _ (hb9) (fun hHeldn => ?_)
        clear hK K hHeld; have hHeld := hHeldn; clear hHeldn
        clear hb9 hX9
        try simp only [Act.put, List.setIfInBounds_toArray, List.set_cons_zero, List.set_cons_succ]
        refine wpAnyL_ready (rs := [10]) (by kernel_rfl) (by simp) ?_
        refine AllL.cons (o := { dst := some 37, op := Op.call { callee := Callee.builtin Builtin.append, args := #[Operand.tmp 34, Operand.tmp 36], argTypes := #[95, 95] }, type := 95, pos := "ref.go:93", after := #[{ on := 7, ground := Ground.data }, { on := 9, ground := Ground.data }, { on := 7, ground := Ground.chain }], guard := none }) rfl (fun K hK => ?_) AllL.nil
        refine step_append_fl rfl _ _ rfl wr.heap.size wr hHeld v1 k (L.take k) rfl HO1.out (some ⟨X1.heap.size, 0, none⟩) 1 1 [x] rfl rfl HC9.out (fun e => by cases e) (by omega) hHeld.size ?_
        intro v2 X2 ho2 hb3 hg2
        have HO2 := Lib.hid ho2
        clear ho2 hg2 HO1 HC9
        refine hK.out _ _ (hb3) (fun hHeldn => ?_)
        clear hK K hHeld; have hHeld := hHeldn; clear hHeldn
        clear hb3
        try simp only [Act.put, List.setIfInBounds_toArray, List.set_cons_zero, List.set_cons_succ]
        refine wpAnyL_ready (rs := [17]) (by kernel_rfl) (by simp) ?_
        refine AllL.cons (o := { dst := some 44, op := Op.call { callee := Callee.builtin Builtin.append, args := #[Operand.tmp 37, Operand.tmp 43], argTypes := #[95, 95] }, type := 95, pos := "ref.go:93", after := #[{ on := 10, ground := Ground.data }, { on := 16, ground := Ground.data }, { on := 10, ground := Ground.chain }], guard := none }) rfl (fun K hK => ?_) AllL.nil
        refine step_append_fl rfl _ _ rfl wr.heap.size wr hHeld v2 (k + 1) (L.take k ++ [x]) rfl HO2.out (if cap = k then some ⟨g, 0, none⟩ else some ⟨g, k * 3, none⟩) (cap - k) (n - k) (L.drop k) HTD.out rfl (HCD.out _ hHeld) (fun e => by first | rfl | (split at e <;> cases e)) (by omega) hHeld.size ?_
        intro v3 X3 ho3 hb4 hg3
        have HO3 := Lib.hid ho3
        clear ho3 hg3 HO2
        refine hK.out _ _ (hb4) (fun hHeldn => ?_)
        clear hK K hHeld; have hHeld := hHeldn; clear hHeldn
        clear hb4
        try simp only [Act.put, List.setIfInBounds_toArray, List.set_cons_zero, List.set_cons_succ]
        refine wpAnyL_free (i := 18) (oi := { dst := some 45, op := Op.nilCheck (Operand.tmp 27), type := 0, pos := "ref.go:93", after := #[{ on := 0, ground := Ground.data }, { on := 0, ground := Ground.phase }, { on := 1, ground := Ground.phase }, { on := 2, ground := Ground.phase }, { on := 3, ground := Ground.phase }, { on := 4, ground := Ground.phase }, { on := 5, ground := Ground.phase }, { on := 6, ground := Ground.phase }, { on := 7, ground := Ground.phase }, { on := 8, ground := Ground.phase }, { on := 9, ground := Ground.phase }, { on := 10, ground := Ground.phase }, { on := 11, ground := Ground.phase }, { on := 12, ground := Ground.phase }, { on := 13, ground := Ground.phase }, { on := 14, ground := Ground.phase }, { on := 15, ground := Ground.phase }, { on := 16, ground := Ground.phase }, { on := 17, ground := Ground.phase }], guard := none }) (v := ?_) (by kernel_rfl) rfl rfl (by kernel_rfl) (by kernel_rfl) (by kernel_rfl) (fun _ _ _ h => h) (Or.inl ⟨by rfl, ?_⟩) (by assumption) ?_
        rotate_left
        · intro W hSw; go_simp; try with_reducible rfl
        try simp only [Act.put, List.setIfInBounds_toArray, List.set_cons_zero, List.set_cons_succ]
        refine wpAnyL_take (i := 19) (oi := { dst := some 46, op := Op.fieldAddr 97 (Operand.tmp 45) 1, type := 0, pos := "ref.go:93", after := #[{ on := 18, ground := Ground.data }, { on := 0, ground := Ground.phase }, { on := 1, ground := Ground.phase }, { on := 2, ground := Ground.phase }, { on := 3, ground := Ground.phase }, { on := 4, ground := Ground.phase }, { on := 5, ground := Ground.phase }, { on := 6, ground := Ground.phase }, { on := 7, ground := Ground.phase }, { on := 8, ground := Ground.phase }, { on := 9, ground := Ground.phase }, { on := 10, ground := Ground.phase }, { on := 11, ground := Ground.phase }, { on := 12, ground := Ground.phase }, { on := 13, ground := Ground.phase }, { on := 14, ground := Ground.phase }, { on := 15, ground := Ground.phase }, { on := 16, ground := Ground.phase }, { on := 17, ground := Ground.phase }], guard := none }) (v := ?_) (by kernel_rfl) rfl (by kernel_rfl) rfl (by kernel_rfl) (by kernel_rfl) (by kernel_rfl) (fun _ _ _ h => h) (Or.inl ⟨by rfl, ?_⟩) (by assumption) ?_
        rotate_left
        · intro W hSw; go_simp; try with_reducible rfl
        try simp only [Act.put, List.setIfInBounds_toArray, List.set_cons_zero, List.set_cons_succ]
        refine wpAnyL_ready (rs := [20]) (by kernel_rfl) (by simp) ?_
        refine AllL.last (o := { dst := none, op := Op.store 95 (Operand.tmp 46) (Operand.tmp 44), type := 0, pos := "ref.go:93", after := #[{ on := 19, ground := Ground.data }, { on := 17, ground := Ground.data }, { on := 17, ground := Ground.chain }, { on := 0, ground := Ground.phase }, { on := 1, ground := Ground.phase }, { on := 2, ground := Ground.phase }, { on := 3, ground := Ground.phase }, { on := 4, ground := Ground.phase }, { on := 5, ground := Ground.phase }, { on := 6, ground := Ground.phase }, { on := 7, ground := Ground.phase }, { on := 8, ground := Ground.phase }, { on := 9, ground := Ground.phase }, { on := 10, ground := Ground.phase }, { on := 11, ground := Ground.phase }, { on := 12, ground := Ground.phase }, { on := 13, ground := Ground.phase }, { on := 14, ground := Ground.phase }, { on := 15, ground := Ground.phase }, { on := 16, ground := Ground.phase }, { on := 17, ground := Ground.phase }], guard := none }) rfl (fun K hK => ?_)
        obtain ⟨a2, cap2, rfl, hcl2, hle2, hno2, hge2⟩ := own_cells HO3.out
        have f1 := (H0.out.below (step_below HBJ.out hHeld)).f1
        have c1' := FQ.out _ hHeld
        go_simp
        refine hK.out _ _ ?_
        clear hK K
        try simp only [Act.put, List.setIfInBounds_toArray, List.set_cons_zero, List.set_cons_succ]
        refine wpAnyL_done (by kernel_rfl) ?_ _
        obtain ⟨X5, hX5⟩ : ∃ X5, X3.setCell ⟨q, 1, none⟩ (.slice a2 (k + 1 + (n - k)) cap2) = X5 := ⟨_, rfl⟩
        have HR := Lib.hid (rdk_put (H0.out.below (step_below HBJ.out hHeld)) HO3.out (by have := H0.out.box.lt; have := HBJ.out.size; omega) (show ∀ y ∈ L.take k ++ [x] ++ L.drop k, y = x ∨ y ∈ L from tk_mem) (HX0.out.below (step_below hb0' (step_below HBJ.out hHeld))) (fun b e => ⟨(HXA.out b e).1, Nat.lt_of_lt_of_le (HXA.out b e).2 (step_below hb0' (step_below HBJ.out hHeld)).size⟩) hX5)
        have HOF := Lib.hid (show Off (fun k => k = q) w X5 by rw [← hX5]; exact Off.set (S := fun k => k = q) (Off.of (step_below hb0' (step_below HBJ.out hHeld))) ⟨q, 1, none⟩ rfl _)
        have e5 : X3.setCell ⟨q, 1, none⟩ (.slice a2 (k + 1 + (n - k)) cap2) = X5 := hX5
        try rw [hX5]
        try simp only [Nat.zero_add, Nat.add_zero] at hX5
        try rw [hX5]
        clear hX5 e5 hHeld hcl2 hle2 hno2 hge2
        go_wp2
        all_goals
          go_end0
          exact ⟨rfl, ⟨k, a2, cap2, ⟨by rw [HN.out]; omega, HP.out, fun f2 hf2 => by have := (List.getElem?_eq_some_iff.1 hf2).1; rw [HN.out] at this; omega⟩, HR.out.1, fun g' e => Nat.le_trans HWS.out (HR.out.2 g' e)⟩, HOF.out⟩
      refine AllL.cons (o := { dst := some 36, op := Op.buildSlice 95 1 #[(0, Operand.tmp 35)], type := 95, pos := "ref.go:93", after := #[{ on := 8, ground := Ground.data }], guard := none }) rfl (fun K hK => ?_) AllL.nil
      obtain ⟨X9, hX9⟩ : ∃ X9, wr.drew.alloc (.cells #[.string x.nm, .slice x.ad x.bs.length x.cap, .int .i64 x.last] 111) = X9 := ⟨_, rfl⟩
      have hb9 : Below wr.heap.size wr X9 := by rw [← hX9]; exact hHeld.alloc hHeld.size _
      have HC9 := Lib.hid (show CellsL X9 (some ⟨wr.drew.heap.size, 0, none⟩) (fcs [x]) by rw [← hX9]; exact cells_new _ _ _)
      go_simp
      try rw [hX9]
      refine hK.out _ _ (hb9) (fun hHeldn => ?_)
      clear hK K hHeld; have hHeld := hHeldn; clear hHeldn
      clear hb9 hX9
      try simp only [Act.put, List.setIfInBounds_toArray, List.set_cons_zero, List.set_cons_succ]
      refine wpAnyL_ready (rs := [7]) (by kernel_rfl) (by simp) ?_
      refine AllL.cons (o := { dst := some 34, op := Op.call { callee := Callee.builtin Builtin.append, args := #[Operand.const (Value.slice none 0 0), Operand.tmp 33], argTypes := #[95, 95] }, type := 95, pos := "ref.go:93", after := #[{ on := 6, ground := Ground.data }], guard := none }) rfl (fun K hK => ?_) AllL.nil
      refine step_append_fl rfl _ _ rfl wr.heap.size wr hHeld (.slice none 0 0) 0 [] rfl ⟨rfl, Or.inl ⟨rfl, rfl⟩⟩ (some ⟨g, 0, none⟩) cap k (L.take k) HT.out rfl (HCT.out _ hHeld) (fun e => by first | rfl | cases e) (by omega) hHeld.size ?_
      intro v1 X1 ho1 hb2 hg1
      have HO1 := Lib.hid (show X1.ownsRow wr.heap.size 111 3 v1 k (fcs (L.take k)) by simpa using ho1)
      have hbn : Below X9.heap.size X9 X1 := ⟨hg1.os, hg1.tape, hg1.output, hg1.size, fun j hj => hg1.block j hj (by simp [Value.ownBlock])⟩
      replace HC9 := Lib.hid (HC9.out.below hbn)
      clear hbn
      clear ho1 hg1
      refine hK.out _ _ (hb2) (fun hHeldn => ?_)
      clear hK K hHeld; have hHeld := hHeldn; clear hHeldn
      clear hb2
      try simp only [Act.put, List.setIfInBounds_toArray, List.set_cons_zero, List.set_cons_succ]
      refine wpAnyL_ready (rs := [10]) (by kernel_rfl) (by simp) ?_
      refine AllL.cons (o := { dst := some 37, op := Op.call { callee := Callee.builtin Builtin.append, args := #[Operand.tmp 34, Operand.tmp 36], argTypes := #[95, 95] }, type := 95, pos := "ref.go:93", after := #[{ on := 7, ground := Ground.data }, { on := 9, ground := Ground.data }, { on := 7, ground := Ground.chain }], guard := none }) rfl (fun K hK => ?_) AllL.nil
      refine step_append_fl rfl _ _ rfl wr.heap.size wr hHeld v1 k (L.take k) rfl HO1.out (some ⟨wr.drew.heap.size, 0, none⟩) 1 1 [x] rfl rfl HC9.out (fun e => by cases e) (by omega) hHeld.size ?_
      intro v2 X2 ho2 hb3 hg2
      have HO2 := Lib.hid ho2
      clear ho2 hg2 HO1 HC9
      refine hK.out _ _ (hb3) (fun hHeldn => ?_)
      clear hK K hHeld; have hHeld := hHeldn; clear hHeldn
      clear hb3
      try simp only [Act.put, List.setIfInBounds_toArray, List.set_cons_zero, List.set_cons_succ]
      refine wpAnyL_ready (rs := [17]) (by kernel_rfl) (by simp) ?_
      refine AllL.cons (o := { dst := some 44, op := Op.call { callee := Callee.builtin Builtin.append, args := #[Operand.tmp 37, Operand.tmp 43], argTypes := #[95, 95] }, type := 95, pos := "ref.go:93", after := #[{ on := 10, ground := Ground.data }, { on := 16, ground := Ground.data }, { on := 10, ground := Ground.chain }], guard := none }) rfl (fun K hK => ?_) AllL.nil
      refine step_append_fl rfl _ _ rfl wr.heap.size wr hHeld v2 (k + 1) (L.take k ++ [x]) rfl HO2.out (if cap = k then some ⟨g, 0, none⟩ else some ⟨g, k * 3, none⟩) (cap - k) (n - k) (L.drop k) HTD.out rfl (HCD.out _ hHeld) (fun e => by first | rfl | (split at e <;> cases e)) (by omega) hHeld.size ?_
      intro v3 X3 ho3 hb4 hg3
      have HO3 := Lib.hid ho3
      clear ho3 hg3 HO2
      refine hK.out _ _ (hb4) (fun hHeldn => ?_)
      clear hK K hHeld; have hHeld := hHeldn; clear hHeldn
      clear hb4
      try simp only [Act.put, List.setIfInBounds_toArray, List.set_cons_zero, List.set_cons_succ]
      refine wpAnyL_free (i := 18) (oi := { dst := some 45, op := Op.nilCheck (Operand.tmp 27), type := 0, pos := "ref.go:93", after := #[{ on := 0, ground := Ground.data }, { on := 0, ground := Ground.phase }, { on := 1, ground := Ground.phase }, { on := 2, ground := Ground.phase }, { on := 3, ground := Ground.phase }, { on := 4, ground := Ground.phase }, { on := 5, ground := Ground.phase }, { on := 6, ground := Ground.phase }, { on := 7, ground := Ground.phase }, { on := 8, ground := Ground.phase }, { on := 9, ground := Ground.phase }, { on := 10, ground := Ground.phase }, { on := 11, ground := Ground.phase }, { on := 12, ground := Ground.phase }, { on := 13, ground := Ground.phase }, { on := 14, ground := Ground.phase }, { on := 15, ground := Ground.phase }, { on := 16, ground := Ground.phase }, { on := 17, ground := Ground.phase }], guard := none }) (v := ?_) (by kernel_rfl) rfl rfl (by kernel_rfl) (by kernel_rfl) (by kernel_rfl) (fun _ _ _ h => h) (Or.inl ⟨by rfl, ?_⟩) (by assumption) ?_
      rotate_left
      · intro W hSw; go_simp; try with_reducible rfl
      try simp only [Act.put, List.setIfInBounds_toArray, List.set_cons_zero, List.set_cons_succ]
      refine wpAnyL_take (i := 19) (oi := { dst := some 46, op := Op.fieldAddr 97 (Operand.tmp 45) 1, type := 0, pos := "ref.go:93", after := #[{ on := 18, ground := Ground.data }, { on := 0, ground := Ground.phase }, { on := 1, ground := Ground.phase }, { on := 2, ground := Ground.phase }, { on := 3, ground := Ground.phase }, { on := 4, ground := Ground.phase }, { on := 5, ground := Ground.phase }, { on := 6, ground := Ground.phase }, { on := 7, ground := Ground.phase }, { on := 8, ground := Ground.phase }, { on := 9, ground := Ground.phase }, { on := 10, ground := Ground.phase }, { on := 11, ground := Ground.phase }, { on := 12, ground := Ground.phase }, { on := 13, ground := Ground.phase }, { on := 14, ground := Ground.phase }, { on := 15, ground := Ground.phase }, { on := 16, ground := Ground.phase }, { on := 17, ground := Ground.phase }], guard := none }) (v := ?_) (by kernel_rfl) rfl (by kernel_rfl) rfl (by kernel_rfl) (by kernel_rfl) (by kernel_rfl) (fun _ _ _ h => h) (Or.inl ⟨by rfl, ?_⟩) (by assumption) ?_
      rotate_left
      · intro W hSw; go_simp; try with_reducible rfl
      try simp only [Act.put, List.setIfInBounds_toArray, List.set_cons_zero, List.set_cons_succ]
      refine wpAnyL_ready (rs := [20]) (by kernel_rfl) (by simp) ?_
      refine AllL.last (o := { dst := none, op := Op.store 95 (Operand.tmp 46) (Operand.tmp 44), type := 0, pos := "ref.go:93", after := #[{ on := 19, ground := Ground.data }, { on := 17, ground := Ground.data }, { on := 17, ground := Ground.chain }, { on := 0, ground := Ground.phase }, { on := 1, ground := Ground.phase }, { on := 2, ground := Ground.phase }, { on := 3, ground := Ground.phase }, { on := 4, ground := Ground.phase }, { on := 5, ground := Ground.phase }, { on := 6, ground := Ground.phase }, { on := 7, ground := Ground.phase }, { on := 8, ground := Ground.phase }, { on := 9, ground := Ground.phase }, { on := 10, ground := Ground.phase }, { on := 11, ground := Ground.phase }, { on := 12, ground := Ground.phase }, { on := 13, ground := Ground.phase }, { on := 14, ground := Ground.phase }, { on := 15, ground := Ground.phase }, { on := 16, ground := Ground.phase }, { on := 17, ground := Ground.phase }], guard := none }) rfl (fun K hK => ?_)
      obtain ⟨a2, cap2, rfl, hcl2, hle2, hno2, hge2⟩ := own_cells HO3.out
      have f1 := (H0.out.below (step_below HBJ.out hHeld)).f1
      have c1' := FQ.out _ hHeld
      go_simp
      refine hK.out _ _ ?_
      clear hK K
      try simp only [Act.put, List.setIfInBounds_toArray, List.set_cons_zero, List.set_cons_succ]
      refine wpAnyL_done (by kernel_rfl) ?_ _
      obtain ⟨X5, hX5⟩ : ∃ X5, X3.setCell ⟨q, 1, none⟩ (.slice a2 (k + 1 + (n - k)) cap2) = X5 := ⟨_, rfl⟩
      have HR := Lib.hid (rdk_put (H0.out.below (step_below HBJ.out hHeld)) HO3.out (by have := H0.out.box.lt; have := HBJ.out.size; omega) (show ∀ y ∈ L.take k ++ [x] ++ L.drop k, y = x ∨ y ∈ L from tk_mem) (HX0.out.below (step_below hb0' (step_below HBJ.out hHeld))) (fun b e => ⟨(HXA.out b e).1, Nat.lt_of_lt_of_le (HXA.out b e).2 (step_below hb0' (step_below HBJ.out hHeld)).size⟩) hX5)
      have HOF := Lib.hid (show Off (fun k => k = q) w X5 by rw [← hX5]; exact Off.set (S := fun k => k = q) (Off.of (step_below hb0' (step_below HBJ.out hHeld))) ⟨q, 1, none⟩ rfl _)
      have e5 : X3.setCell ⟨q, 1, none⟩ (.slice a2 (k + 1 + (n - k)) cap2) = X5 := hX5
      try rw [hX5]
      try simp only [Nat.zero_add, Nat.add_zero] at hX5
      try rw [hX5]
      clear hX5 e5 hHeld hcl2 hle2 hno2 hge2
      go_wp2
      all_goals
        go_end0
        exact ⟨rfl, ⟨k, a2, cap2, ⟨by rw [HN.out]; omega, HP.out, fun f2 hf2 => by have := (List.getElem?_eq_some_iff.1 hf2).1; rw [HN.out] at this; omega⟩, HR.out.1, fun g' e => Nat.le_trans HWS.out (HR.out.2 g' e)⟩, HOF.out⟩
end Go.Proofs.Ytbjhcbiihekceaa
