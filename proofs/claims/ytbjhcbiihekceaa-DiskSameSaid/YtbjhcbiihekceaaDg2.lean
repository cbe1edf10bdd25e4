/- Disks: stands. -/
import Derived.Test.YtbjhcbiihekceaaDg1
import Derived.Test.YtbjhcbiihekceaaDd5
namespace Go.Proofs.Ytbjhcbiihekceaa
open Go.ChangeShapes Go.WideShapes Go.ChangeAt Go.RowKit Go.Maps Go.Shelf
set_option linter.unusedVariables false
set_option linter.unusedSimpArgs false
/-- A row of bytes that may be written. -/
def FlB (base : Nat) (a : Option Addr) (n : Nat) (W : World) : Prop := ∀ j < n, ∃ g x, a = some ⟨g, 0, none⟩ ∧ base ≤ g ∧ W.cell? ⟨g, j, none⟩ = some (.int .u8 x) ∧ W.frozen? ⟨g, j, none⟩ = false
theorem FlB.below {base n : Nat} {a : Option Addr} {W W' : World} (h : FlB base a n W) (hb : Below W.heap.size W W') : FlB base a n W' := fun j hj => by
  obtain ⟨g, x, e1, e2, e3, e4⟩ := h j hj
  exact ⟨g, x, e1, e2, (hb.cell (cell_lt e3)).trans e3, (hb.frozen (cell_lt e3)).trans e4⟩
theorem FlB.set {base n : Nat} {a : Option Addr} {W : World} (h : FlB base a n W) {g j : Nat} {x : Int} (hc : W.cell? ⟨g, j, none⟩ = some (.int .u8 x)) (y : Int) : FlB base a n (W.setCell ⟨g, j, none⟩ (.int .u8 y)) := fun i hi => by
  obtain ⟨g', x', e1, e2, e3, e4⟩ := h i hi
  by_cases q : (⟨g', i, none⟩ : Addr) = ⟨g, j, none⟩
  · refine ⟨g', y, e1, e2, ?_, by rw [World.frozen?_setCell]; exact e4⟩
    rw [q, World.cell?_setCell_same W ⟨g, j, none⟩ _ hc]
  · refine ⟨g', x', e1, e2, ?_, by rw [World.frozen?_setCell]; exact e4⟩
    rw [World.cell?_setCell_other W ⟨g, j, none⟩ ⟨g', i, none⟩ _ (by first | exact q | exact Ne.symm q)]
    exact e3
theorem own_flb {W : World} {base n : Nat} {v : Value} {L : List Int} (h : W.ownsRow base 5 1 v n (iv .u8 L)) (hn : L.length = n) : ∃ a cap, v = .slice a n cap ∧ Ls .u8 W a cap L ∧ FlB base a n W := by
  obtain ⟨a, cap, rfl, hl, _⟩ := own_ls h hn
  refine ⟨a, cap, rfl, hl, fun j hj => ?_⟩
  rcases h.2 with ⟨_, h0⟩ | ⟨g, cap', cur, hv, hg, hc, h1, h2, h3, h4⟩
  · omega
  · injection hv with e1 _ _
    have hj2 : (iv .u8 L)[j]? = some (.int .u8 (L.getD j 0)) := by
      unfold iv
      rw [List.getElem?_map, List.getElem?_eq_getElem (by omega)]
      simp [List.getD_eq_getElem?_getD, List.getElem?_eq_getElem (show j < L.length by omega)]
    refine ⟨g, L.getD j 0, e1, hg, ?_, ?_⟩
    · rw [← h4, List.getElem?_take] at hj2
      split at hj2
      · simp only [World.cell?, hc]
        simpa using hj2
      · cases hj2
    · simp [World.frozen?, hc]
theorem rused_c {w : World} {q room : Nat} {L : List Fil} {a : Option Addr} {cap : Nat} {C : List CF} (h : RDk w q room L a cap) (hC : L.map core = C) (hf : Fine room C) : Calls Try.prog 56 #[.pointer (some ⟨q, 0, none⟩)] w fun e w' => e = .returned (.int .i64 (cSum C : Nat)) ∧ w = w' := by
  have hl : L.length ≤ 64 := by have := hf.few; rw [← hC, List.length_map] at this; exact this
  have hu : (L.map fun f => f.bs.length).sum ≤ 1048576 := by rw [sum_core, hC]; exact Nat.le_trans hf.used hf.big
  rw [← hC, ← sum_core]
  exact rused_dk h hl hu
theorem one_self {room : Nat} {C : List CF} (hf : Fine room C) {c : CF} (hc : c ∈ C) : oneE C c.1 = 0 ∧ lastV C c.1 = c.2.2 := by
  have hfc : cFind C c.1 = some c := by
    cases h : cFind C c.1 with
    | none => exact absurd rfl (cFind_none.1 h c hc)
    | some d =>
      obtain ⟨h1, h2⟩ := cFind_some h
      have : d = c := by
        apply Classical.byContradiction
        intro hne
        exact pair_of (fun h => Ne.symm h) hf.apart h1 hc hne h2
      rw [this]
  have h0 : oneE C c.1 = 0 := by unfold oneE; rw [(hf.each c hc).1, hfc]; simp
  refine ⟨h0, ?_⟩
  unfold lastV cOld
  rw [if_pos h0, hfc]
  rfl
theorem sum_ge {d : CF} : ∀ {C : List CF}, d ∈ C → d.2.1.length ≤ cSum C
  | g :: r, h => by
    show _ ≤ ((g :: r).map fun c : CF => c.2.1.length).sum
    rw [List.map_cons, List.sum_cons]
    rcases List.mem_cons.1 h with rfl | h
    · omega
    · have := sum_ge h
      unfold cSum at this
      omega
theorem read_len {room : Nat} {C : List CF} (hf : Fine room C) (s : ByteArray) : (readV C s).length ≤ room := by
  unfold readV cOld
  split
  · cases h : cFind C s with
    | none => simp
    | some d =>
      have hm := (cFind_some h).1
      have : d.2.1.length ≤ cSum C := sum_ge hm
      exact Nat.le_trans this hf.used
  · simp
theorem last_at {w : World} {p bm room : Nat} {C : List CF} {O : Nat → Prop} (h : DC w p bm room C O) (s : ByteArray) (hs : s.size ≤ maxLen) (l e0 : Nat) (hl : lastV C s = l) (he : oneE C s = e0) :
    Calls Try.prog 46 #[.pointer (some ⟨p, 0, none⟩), .string s] w fun e w' => e = .returned (.tuple #[.int .i64 l, .int .i64 e0]) ∧ Below w.heap.size w w' := by
  subst hl he
  exact c_last h s hs
set_option maxRecDepth 100000 in
set_option maxHeartbeats 4000000 in
/-- stands (18): true. -/
theorem c_stands {w : World} {p bm room q : Nat} {C : List CF} {O O' : Nat → Prop} (h : DC w p bm room C O) (h2 : RDC w q room C O') (kd : Int) (sA sB : ByteArray) (hA : sA.size ≤ maxLen) (da ka : Option Addr) (dn dc kn kc : Nat) (leave : Int) :
    Calls Try.prog 18 #[.pointer (some ⟨p, 0, none⟩), .pointer (some ⟨q, 0, none⟩), .agg #[.int .i64 kd, .string sA, .string sB, .slice da dn dc, .slice ka kn kc], .int .i64 leave] w fun e w' => e = .returned (.bool true) ∧ Below w.heap.size w w' := by
  have HF := Lib.hid h.fine
  have HRD := Lib.hid h2
  obtain ⟨R, ra, rcap, hr, hrC, _⟩ := h2
  have H := Lib.hid h
  have HR := Lib.hid hr
  have HRC := Lib.hid hrC
  obtain ⟨n, hn⟩ : ∃ n, C.length = n := ⟨_, rfl⟩
  have hn64 : n ≤ 64 := by rw [← hn]; exact h.few
  have HN := Lib.hid hn
  have HRN := Lib.hid (show R.length = n by rw [← hn, ← hrC, List.length_map])
  clear h hr hn hrC
  go_enter Try.func18, Try.ntmps18
  go_wp2_with fail
  obtain ⟨W0, hW0⟩ : ∃ W0, w.alloc (.cells #[.int .i64 kd, .string sA, .string sB, .slice da dn dc, .slice ka kn kc] 37) = W0 := ⟨_, rfl⟩
  have hb0 : Below w.heap.size w W0 := by rw [← hW0]; exact bl1 _ _
  have bx : BoxC W0 w.heap.size #[.int .i64 kd, .string sA, .string sB, .slice da dn dc, .slice ka kn kc] 37 := by rw [← hW0]; exact BoxC.new w _ 37
  rw [hW0]
  clear hW0
  refine (names_of (H.out.below hb0) HN.out).mono ?_
  rintro e w1 ⟨na, nc, rfl, hst, hb1⟩
  have HB1 := Lib.hid (step_below hb0 hb1)
  have BX1 := Lib.hid (bx.below hb1)
  have HST := Lib.hid hst
  have HD1 := Lib.hid ((H.out.below hb0).below hb1)
  have HR1 := Lib.hid ((HR.out.below hb0).below hb1)
  have y0 := HR1.out.c0
  have y1 := HR1.out.c1
  rw [HRN.out] at y1
  have FQ := Lib.hid (fun X (b : Below w1.heap.size w1 X) => (⟨(b.cell (cell_lt y1)).trans y1, (b.cell (cell_lt y0)).trans y0⟩ : X.cell? ⟨q, 1, none⟩ = some (.slice ra n rcap) ∧ X.cell? ⟨q, 0, none⟩ = some (.int .i64 (room : Int))))
  clear hb0 hb1 bx hst y0 y1
  go_wp2_with fail
  rename_i KK hKK
  refine Code.wp_mono (Q := Exit.then KK (fun _ _ _ => False)) (fun e a' w' h => by cases e <;> first | exact h | exact h.elim) ?_
  refine wp_region_held_drew (S := (fun X => Below w1.heap.size w1 X)) (by kernel_rfl) ((Below.refl _ _).drew) (fun hHeld => ?_)
  refine wpAnyH_take (i := 0) (oi := { dst := some 23, op := Op.move (Operand.tmp 9), type := 45, pos := "law.go:64", after := #[], guard := none }) (v := ?_) rfl (by kernel_rfl) (by kernel_rfl) (by kernel_rfl) (fun _ _ _ h => h) (Or.inl ⟨by rfl, ?_⟩) (by assumption) ?_
  rotate_left
  · intro W hSw; go_simp; try with_reducible rfl
  try simp only [Act.put, List.setIfInBounds_toArray, List.set_cons_zero, List.set_cons_succ]
  refine wpAnyH_take (i := 1) (oi := { dst := some 24, op := Op.call { callee := Callee.builtin Builtin.len, args := #[Operand.tmp 23], argTypes := #[45] }, type := 3, pos := "law.go:64", after := #[{ on := 0, ground := Ground.data }], guard := none }) (v := ?_) rfl (by kernel_rfl) (by kernel_rfl) (by kernel_rfl) (fun _ _ _ h => h) (Or.inl ⟨by rfl, ?_⟩) (by assumption) ?_
  rotate_left
  · intro W hSw; go_simp; try with_reducible rfl
  try simp only [Act.put, List.setIfInBounds_toArray, List.set_cons_zero, List.set_cons_succ]
  refine wpAnyH_take (i := 2) (oi := { dst := some 25, op := Op.move (Operand.tmp 1), type := 27, pos := "law.go:64", after := #[], guard := none }) (v := ?_) rfl (by kernel_rfl) (by kernel_rfl) (by kernel_rfl) (fun _ _ _ h => h) (Or.inl ⟨by rfl, ?_⟩) (by assumption) ?_
  rotate_left
  · intro W hSw; go_simp; try with_reducible rfl
  try simp only [Act.put, List.setIfInBounds_toArray, List.set_cons_zero, List.set_cons_succ]
  refine wpAnyH_take (i := 3) (oi := { dst := some 26, op := Op.nilCheck (Operand.tmp 25), type := 0, pos := "law.go:64", after := #[{ on := 2, ground := Ground.data }], guard := none }) (v := ?_) rfl (by kernel_rfl) (by kernel_rfl) (by kernel_rfl) (fun _ _ _ h => h) (Or.inl ⟨by rfl, ?_⟩) (by assumption) ?_
  rotate_left
  · intro W hSw; go_simp; try with_reducible rfl
  try simp only [Act.put, List.setIfInBounds_toArray, List.set_cons_zero, List.set_cons_succ]
  refine wpAnyH_take (i := 4) (oi := { dst := some 27, op := Op.fieldAddr 97 (Operand.tmp 26) 1, type := 0, pos := "law.go:64", after := #[{ on := 3, ground := Ground.data }], guard := none }) (v := ?_) rfl (by kernel_rfl) (by kernel_rfl) (by kernel_rfl) (fun _ _ _ h => h) (Or.inl ⟨by rfl, ?_⟩) (by assumption) ?_
  rotate_left
  · intro W hSw; go_simp; try with_reducible rfl
  try simp only [Act.put, List.setIfInBounds_toArray, List.set_cons_zero, List.set_cons_succ]
  refine wpAnyH_take (i := 5) (oi := { dst := some 28, op := Op.load 95 (Operand.tmp 27), type := 95, pos := "law.go:64", after := #[{ on := 4, ground := Ground.data }], guard := none }) (v := ?_) rfl (by kernel_rfl) (by kernel_rfl) (by kernel_rfl) (fun _ _ _ h => h) (Or.inl ⟨by rfl, ?_⟩) (by assumption) ?_
  rotate_left
  · intro W hSw; obtain ⟨a0, a1⟩ := FQ.out W hSw; go_simp; try with_reducible rfl
  try simp only [Act.put, List.setIfInBounds_toArray, List.set_cons_zero, List.set_cons_succ]
  refine wpAnyH_take (i := 6) (oi := { dst := some 29, op := Op.call { callee := Callee.builtin Builtin.len, args := #[Operand.tmp 28], argTypes := #[95] }, type := 3, pos := "law.go:64", after := #[{ on := 5, ground := Ground.data }], guard := none }) (v := ?_) rfl (by kernel_rfl) (by kernel_rfl) (by kernel_rfl) (fun _ _ _ h => h) (Or.inl ⟨by rfl, ?_⟩) (by assumption) ?_
  rotate_left
  · intro W hSw; go_simp; try with_reducible rfl
  try simp only [Act.put, List.setIfInBounds_toArray, List.set_cons_zero, List.set_cons_succ]
  refine wpAnyH_take (i := 7) (oi := { dst := some 30, op := Op.binOp BinOp.neq 3 (Operand.tmp 24) (Operand.tmp 29) 3, type := 4, pos := "law.go:64", after := #[{ on := 1, ground := Ground.data }, { on := 6, ground := Ground.data }], guard := none }) (v := ?_) rfl (by kernel_rfl) (by kernel_rfl) (by kernel_rfl) (fun _ _ _ h => h) (Or.inl ⟨by rfl, ?_⟩) (by assumption) ?_
  rotate_left
  · intro W hSw; go_simp; try with_reducible rfl
  try simp only [Act.put, List.setIfInBounds_toArray, List.set_cons_zero, List.set_cons_succ]
  refine wpAnyH_take (i := 8) (oi := { dst := some 31, op := Op.move (Operand.tmp 30), type := 4, pos := "law.go:64", after := #[{ on := 7, ground := Ground.data }], guard := none }) (v := ?_) rfl (by kernel_rfl) (by kernel_rfl) (by kernel_rfl) (fun _ _ _ h => h) (Or.inl ⟨by rfl, ?_⟩) (by assumption) ?_
  rotate_left
  · intro W hSw; go_simp; try with_reducible rfl
  try simp only [Act.put, List.setIfInBounds_toArray, List.set_cons_zero, List.set_cons_succ]
  refine wpAnyH_take (i := 9) (oi := { dst := some 32, op := Op.move (Operand.tmp 0), type := 23, pos := "law.go:64", after := #[{ on := 8, ground := Ground.guard }], guard := some (8, false) }) (v := ?_) rfl (by kernel_rfl) (by kernel_rfl) (by kernel_rfl) (fun _ _ _ h => h) (Or.inl ⟨by rfl, ?_⟩) (by assumption) ?_
  rotate_left
  · intro W hSw; go_simp; try with_reducible rfl
  try simp only [Act.put, List.setIfInBounds_toArray, List.set_cons_zero, List.set_cons_succ]
  refine wpAnyH_take (i := 11) (oi := { dst := some 34, op := Op.move (Operand.tmp 1), type := 27, pos := "law.go:64", after := #[{ on := 8, ground := Ground.guard }], guard := some (8, false) }) (v := ?_) rfl (by kernel_rfl) (by kernel_rfl) (by kernel_rfl) (fun _ _ _ h => h) (Or.inl ⟨by rfl, ?_⟩) (by assumption) ?_
  rotate_left
  · intro W hSw; go_simp; try with_reducible rfl
  try simp only [Act.put, List.setIfInBounds_toArray, List.set_cons_zero, List.set_cons_succ]
  refine wpAnyH_ready (rs := [10]) (by kernel_rfl) (by simp) ?_
  refine AllReadyH.cons (o := { dst := some 33, op := Op.call { callee := Callee.value (Operand.func 23), args := #[Operand.tmp 32], argTypes := #[23] }, type := 3, pos := "law.go:64", after := #[{ on := 9, ground := Ground.data }, { on := 8, ground := Ground.chain }, { on := 8, ground := Ground.guard }], guard := some (8, false) }) rfl (fun K hK => ?_) AllReadyH.nil
  go_simp
  refine (c_used (HD1.out.below hHeld)).mono ?_; rintro e w2 ⟨rfl, hb2⟩
  go_wp2_with fail
  refine hK.out _ _ (step_below hHeld hb2) (fun hHeldn => ?_)
  clear hK K hHeld; have hHeld := hHeldn; clear hHeldn
  clear hb2
  try simp only [Act.put, List.setIfInBounds_toArray, List.set_cons_zero, List.set_cons_succ]
  refine wpAnyH_ready (rs := [12]) (by kernel_rfl) (by simp) ?_
  refine AllReadyH.cons (o := { dst := some 35, op := Op.call { callee := Callee.value (Operand.func 56), args := #[Operand.tmp 34], argTypes := #[27] }, type := 3, pos := "law.go:64", after := #[{ on := 11, ground := Ground.data }, { on := 10, ground := Ground.chain }, { on := 8, ground := Ground.guard }], guard := some (8, false) }) rfl (fun K hK => ?_) AllReadyH.nil
  go_simp
  refine (rused_c (HR1.out.below hHeld) HRC.out HF.out).mono ?_; rintro e w3 ⟨rfl, rfl⟩
  go_wp2_with fail
  refine hK.out _ _ (hHeld) (fun hHeldn => ?_)
  clear hK K hHeld; have hHeld := hHeldn; clear hHeldn
  try simp only [Act.put, List.setIfInBounds_toArray, List.set_cons_zero, List.set_cons_succ]
  refine wpAnyH_take (i := 13) (oi := { dst := some 36, op := Op.binOp BinOp.neq 3 (Operand.tmp 33) (Operand.tmp 35) 3, type := 4, pos := "law.go:64", after := #[{ on := 10, ground := Ground.data }, { on := 12, ground := Ground.data }, { on := 8, ground := Ground.guard }], guard := some (8, false) }) (v := ?_) rfl (by kernel_rfl) (by kernel_rfl) (by kernel_rfl) (fun _ _ _ h => h) (Or.inl ⟨by rfl, ?_⟩) (by assumption) ?_
  rotate_left
  · intro W hSw; go_simp; try with_reducible rfl
  try simp only [Act.put, List.setIfInBounds_toArray, List.set_cons_zero, List.set_cons_succ]
  refine wpAnyH_take (i := 14) (oi := { dst := some 37, op := Op.pick (Operand.tmp 31) (Operand.const (Value.bool true)) (Operand.tmp 36), type := 4, pos := "law.go:64", after := #[{ on := 8, ground := Ground.data }, { on := 13, ground := Ground.data }], guard := none }) (v := ?_) rfl (by kernel_rfl) (by kernel_rfl) (by kernel_rfl) (fun _ _ _ h => h) (Or.inl ⟨by rfl, ?_⟩) (by assumption) ?_
  rotate_left
  · intro W hSw; go_simp; try with_reducible rfl
  try simp only [Act.put, List.setIfInBounds_toArray, List.set_cons_zero, List.set_cons_succ]
  refine wpAnyH_take (i := 15) (oi := { dst := some 38, op := Op.move (Operand.tmp 37), type := 4, pos := "law.go:64", after := #[{ on := 14, ground := Ground.data }, { on := 12, ground := Ground.chain }], guard := none }) (v := ?_) rfl (by kernel_rfl) (by kernel_rfl) (by kernel_rfl) (fun _ _ _ h => h) (Or.inl ⟨by rfl, ?_⟩) (by assumption) ?_
  rotate_left
  · intro W hSw; go_simp; try with_reducible rfl
  try simp only [Act.put, List.setIfInBounds_toArray, List.set_cons_zero, List.set_cons_succ]
  refine wpAnyH_take (i := 16) (oi := { dst := some 39, op := Op.move (Operand.tmp 0), type := 23, pos := "law.go:64", after := #[{ on := 15, ground := Ground.guard }], guard := some (15, false) }) (v := ?_) rfl (by kernel_rfl) (by kernel_rfl) (by kernel_rfl) (fun _ _ _ h => h) (Or.inl ⟨by rfl, ?_⟩) (by assumption) ?_
  rotate_left
  · intro W hSw; go_simp; try with_reducible rfl
  try simp only [Act.put, List.setIfInBounds_toArray, List.set_cons_zero, List.set_cons_succ]
  refine wpAnyH_take (i := 18) (oi := { dst := some 41, op := Op.move (Operand.tmp 1), type := 27, pos := "law.go:64", after := #[{ on := 15, ground := Ground.guard }], guard := some (15, false) }) (v := ?_) rfl (by kernel_rfl) (by kernel_rfl) (by kernel_rfl) (fun _ _ _ h => h) (Or.inl ⟨by rfl, ?_⟩) (by assumption) ?_
  rotate_left
  · intro W hSw; go_simp; try with_reducible rfl
  try simp only [Act.put, List.setIfInBounds_toArray, List.set_cons_zero, List.set_cons_succ]
  refine wpAnyH_take (i := 19) (oi := { dst := some 42, op := Op.nilCheck (Operand.tmp 41), type := 0, pos := "law.go:64", after := #[{ on := 18, ground := Ground.data }, { on := 15, ground := Ground.guard }], guard := some (15, false) }) (v := ?_) rfl (by kernel_rfl) (by kernel_rfl) (by kernel_rfl) (fun _ _ _ h => h) (Or.inl ⟨by rfl, ?_⟩) (by assumption) ?_
  rotate_left
  · intro W hSw; go_simp; try with_reducible rfl
  try simp only [Act.put, List.setIfInBounds_toArray, List.set_cons_zero, List.set_cons_succ]
  refine wpAnyH_take (i := 20) (oi := { dst := some 43, op := Op.fieldAddr 97 (Operand.tmp 42) 0, type := 0, pos := "law.go:64", after := #[{ on := 19, ground := Ground.data }, { on := 15, ground := Ground.guard }], guard := some (15, false) }) (v := ?_) rfl (by kernel_rfl) (by kernel_rfl) (by kernel_rfl) (fun _ _ _ h => h) (Or.inl ⟨by rfl, ?_⟩) (by assumption) ?_
  rotate_left
  · intro W hSw; go_simp; try with_reducible rfl
  try simp only [Act.put, List.setIfInBounds_toArray, List.set_cons_zero, List.set_cons_succ]
  refine wpAnyH_take (i := 21) (oi := { dst := some 44, op := Op.load 3 (Operand.tmp 43), type := 3, pos := "law.go:64", after := #[{ on := 20, ground := Ground.data }, { on := 15, ground := Ground.guard }], guard := some (15, false) }) (v := ?_) rfl (by kernel_rfl) (by kernel_rfl) (by kernel_rfl) (fun _ _ _ h => h) (Or.inl ⟨by rfl, ?_⟩) (by assumption) ?_
  rotate_left
  · intro W hSw; obtain ⟨a0, a1⟩ := FQ.out W hSw; go_simp; try with_reducible rfl
  try simp only [Act.put, List.setIfInBounds_toArray, List.set_cons_zero, List.set_cons_succ]
  refine wpAnyH_ready (rs := [17]) (by kernel_rfl) (by simp) ?_
  refine AllReadyH.cons (o := { dst := some 40, op := Op.call { callee := Callee.value (Operand.func 24), args := #[Operand.tmp 39], argTypes := #[23] }, type := 3, pos := "law.go:64", after := #[{ on := 16, ground := Ground.data }, { on := 15, ground := Ground.chain }, { on := 15, ground := Ground.guard }], guard := some (15, false) }) rfl (fun K hK => ?_) AllReadyH.nil
  go_simp
  refine (c_room (HD1.out.below hHeld)).mono ?_; rintro e w4 ⟨rfl, rfl⟩
  go_wp2_with fail
  refine hK.out _ _ (hHeld) (fun hHeldn => ?_)
  clear hK K hHeld; have hHeld := hHeldn; clear hHeldn
  try simp only [Act.put, List.setIfInBounds_toArray, List.set_cons_zero, List.set_cons_succ]
  refine wpAnyH_take (i := 22) (oi := { dst := some 45, op := Op.binOp BinOp.neq 3 (Operand.tmp 40) (Operand.tmp 44) 3, type := 4, pos := "law.go:64", after := #[{ on := 17, ground := Ground.data }, { on := 21, ground := Ground.data }, { on := 15, ground := Ground.guard }], guard := some (15, false) }) (v := ?_) rfl (by kernel_rfl) (by kernel_rfl) (by kernel_rfl) (fun _ _ _ h => h) (Or.inl ⟨by rfl, ?_⟩) (by assumption) ?_
  rotate_left
  · intro W hSw; go_simp; try with_reducible rfl
  try simp only [Act.put, List.setIfInBounds_toArray, List.set_cons_zero, List.set_cons_succ]
  refine wpAnyH_take (i := 23) (oi := { dst := some 46, op := Op.pick (Operand.tmp 38) (Operand.const (Value.bool true)) (Operand.tmp 45), type := 4, pos := "law.go:64", after := #[{ on := 15, ground := Ground.data }, { on := 22, ground := Ground.data }], guard := none }) (v := ?_) rfl (by kernel_rfl) (by kernel_rfl) (by kernel_rfl) (fun _ _ _ h => h) (Or.inl ⟨by rfl, ?_⟩) (by assumption) ?_
  rotate_left
  · intro W hSw; go_simp; try with_reducible rfl
  try simp only [Act.put, List.setIfInBounds_toArray, List.set_cons_zero, List.set_cons_succ]
  refine wpAnyH_done (by kernel_rfl) ?_ _
  skip
  refine hKK _ _ ?_
  have HB2 := Lib.hid (step_below HB1.out hHeld)
  have BX2 := Lib.hid (BX1.out.below hHeld)
  have HST2 := Lib.hid (HST.out.below hHeld)
  have HD2 := Lib.hid (HD1.out.below hHeld)
  have HR2 := Lib.hid (HR1.out.below hHeld)
  clear hKK hHeld FQ HB1 BX1 HST HD1 HR1
  go_wp2_with fail
  go_loopw [10] (fun i wr => ∃ k : Nat, k ≤ n ∧ i = .int .i64 (k : Int) ∧ Below w2.heap.size w2 wr) (fun i _ => n - (intOf i).toNat)
  case atStart => exact ⟨0, Nat.zero_le _, rfl, Below.refl _ _⟩
  case round =>
    obtain ⟨k, hk, rfl, hbr⟩ := hrel
    by_cases hlt : k < n
    · have d1 : (k : Int) < (n : Int) := by omega
      obtain ⟨f, hf⟩ : ∃ f, R[k]? = some f := ⟨_, List.getElem?_eq_getElem (by rw [HRN.out]; exact hlt)⟩
      have hcf : core f ∈ C := by rw [← HRC.out]; exact List.mem_map.2 ⟨f, List.mem_of_getElem? hf, rfl⟩
      obtain ⟨e0, e1⟩ := one_self HF.out hcf
      have hsz : f.nm.size ≤ maxLen := may_size (HF.out.each _ hcf).1
      obtain ⟨gn, go, rfl, hcn⟩ := (HST2.out.below hbr) k f.nm (by rw [← HRC.out, List.map_map, List.getElem?_map, hf]; rfl)
      have hrk := HR2.out.below hbr
      obtain ⟨g, rfl, hg, x1, x2, x3⟩ := hrk.file hf
      have y1 := hrk.c1
      rw [HRN.out] at y1
      have HLA := Lib.hid (last_at (HD2.out.below hbr) f.nm hsz f.last 0 e1 e0)
      have HBR := Lib.hid hbr
      have FQ := Lib.hid (fun X (b : Below wr.heap.size wr X) => (⟨(b.cell (cell_lt hcn)).trans hcn, (b.cell (cell_lt y1)).trans y1, (b.cell (cell_lt x1)).trans x1, (b.cell (cell_lt x3)).trans x3⟩ : X.cell? ⟨gn, go + k, none⟩ = some (.string f.nm) ∧ X.cell? ⟨q, 1, none⟩ = some (.slice (some ⟨g, 0, none⟩) n rcap) ∧ X.cell? ⟨g, k * 3, none⟩ = some (.string f.nm) ∧ X.cell? ⟨g, k * 3 + 2, none⟩ = some (.int .i64 f.last)))
      clear hbr hf hcf e0 e1 hsz hrk hg x1 x2 x3 y1
      go_wp2_with fail
      refine HLA.out.mono ?_
      rintro e w3 ⟨rfl, hb3⟩
      have HB3 := Lib.hid hb3
      obtain ⟨a0, a1, a2, a3⟩ := FQ.out w3 hb3
      clear hcn hb3
      go_wp2_with fail
      go_quiet ((go_at_call 14; exact Calls.quiet_of_same ((dnum_law _ _).mono fun e w' h => ⟨h.1, h.2.symm⟩)))
      go_wp2_with fail
      go_roundw
      case rel => exact ⟨k + 1, by omega, by go_num, step_below HBR.out (below_drewN HB3.out nq)⟩
      case measure => simp [intOf]; omega
    · have d1 : ¬ (k : Int) < (n : Int) := by omega
      have HBR := Lib.hid (step_below HB2.out hbr)
      have HD3 := Lib.hid (HD2.out.below hbr)
      have HR3 := Lib.hid (HRD.out.below (step_below HB2.out hbr))
      have bx := BX2.out.below hbr
      have c0 : wr.cell? ⟨w.heap.size, 1, none⟩ = some (.string sA) := bx.cell 1
      have hsb : w.heap.size < wr.heap.size := cell_lt c0
      clear HB2 BX2 HD2 HR2 HST2 hbr bx
      obtain ⟨E, hE⟩ : ∃ E, oneE C sA = E := ⟨_, rfl⟩
      obtain ⟨La, hLa⟩ : ∃ La, lastV C sA = La := ⟨_, rfl⟩
      obtain ⟨B, hB⟩ : ∃ B, readV C sA = B := ⟨_, rfl⟩
      have HEL := Lib.hid (And.intro hE (And.intro hLa hB))
      go_wp2_with fail
      refine (c_read HD3.out sA hA).mono ?_
      rintro e w3 ⟨v3, rfl, ho3, hb3⟩
      rw [HEL.out.2.2] at ho3
      rw [HEL.out.1]
      obtain ⟨a3, c3, rfl, hl3, hfl3⟩ := own_flb ho3 rfl
      have HB3 := Lib.hid (step_below HBR.out hb3)
      have HD4 := Lib.hid (HD3.out.below hb3)
      have HR4 := Lib.hid (HR3.out.below hb3)
      have HL3 := Lib.hid hl3
      have HFL := Lib.hid hfl3
      have c1 : w3.cell? ⟨w.heap.size, 1, none⟩ = some (.string sA) := (hb3.cell (cell_lt c0)).trans c0
      have HX3 := Lib.hid hb3
      clear c0 ho3 hl3 hfl3 hb3
      go_wp2_with fail
      refine (r_read HR4.out HF.out sA hA).mono ?_
      rintro e w4 ⟨⟨v4, rfl, ho4⟩, hb4⟩
      rw [HEL.out.2.2] at ho4
      rw [HEL.out.1, HEL.out.2.1]
      obtain ⟨a4, c4, rfl, hl4, _⟩ := own_flb ho4 rfl
      have HB4 := Lib.hid (step_below HB3.out hb4)
      have HX4 := Lib.hid (step_below HX3.out hb4)
      have HD5 := Lib.hid (HD4.out.below hb4)
      have HR5 := Lib.hid (HR4.out.below hb4)
      have HL4 := Lib.hid (And.intro (HL3.out.below hb4) hl4)
      have HFL4 := Lib.hid (HFL.out.below hb4)
      have c2 : w4.cell? ⟨w.heap.size, 1, none⟩ = some (.string sA) := (hb4.cell (cell_lt c1)).trans c1
      clear c1 ho4 hl4 hb4 HB3 HD4 HR4 HL3 HFL
      go_wp2_with fail
      refine (last_at HD5.out sA hA La E HEL.out.2.1 HEL.out.1).mono ?_
      rintro e w5 ⟨rfl, hb5⟩
      have HB5 := Lib.hid (step_below HB4.out hb5)
      have HX5 := Lib.hid (step_below HX4.out hb5)
      have HD6 := Lib.hid (HD5.out.below hb5)
      have HR6 := Lib.hid (HR5.out.below hb5)
      have HFL5 := Lib.hid (HFL4.out.below hb5)
      have q1 := conv_ls w5 a3 B.length c3 B rfl (HL4.out.1.below hb5).rd
      have q2 := conv_ls w5 a4 B.length c4 B rfl (HL4.out.2.below hb5).rd
      obtain ⟨str, hstr⟩ : ∃ str, strOfNums B = str := ⟨_, rfl⟩
      rw [hstr] at q1 q2
      clear c2 hb5 HB4 HD5 HR5 HL4 HFL4 hstr HEL hE hLa
      obtain ⟨nb, hnb⟩ : ∃ nb, B.length = nb := ⟨_, rfl⟩
      have hnb2 : nb ≤ 1048576 := by rw [← hnb, ← hB]; exact Nat.le_trans (read_len HF.out sA) HF.out.big
      rw [hnb] at q1 q2 HFL5 ⊢
      go_wp2_with (go_at_call 14; refine (dnum_law _ _).mono ?_; rintro e w' ⟨rfl, rfl⟩)
      clear q1 q2
      go_loopw [20] (fun i wr2 => ∃ j : Nat, j ≤ nb ∧ i = .int .i64 (j : Int) ∧ FlB wr.heap.size a3 nb wr2 ∧ Below wr.heap.size wr wr2) (fun i _ => nb - (intOf i).toNat)
      case atStart => exact ⟨0, Nat.zero_le _, rfl, HFL5.out, HX5.out⟩
      case round =>
        obtain ⟨j, hj, rfl, hfl, hbx⟩ := hrel
        have HX := Lib.hid hbx
        have HFX := Lib.hid hfl
        clear hbx
        by_cases hlt2 : j < nb
        · have d2 : (j : Int) < (nb : Int) := by omega
          obtain ⟨g, x, rfl, hg, hcx, hfx⟩ := hfl j hlt2
          clear hfl
          go_wp2_with fail
          go_roundw
          case rel => exact ⟨j + 1, by omega, by go_num, HFX.out.set hcx _, HX.out.setCell (p := ⟨g, j, none⟩) hg _⟩
          case measure => simp [intOf]; omega
        · have d2 : ¬ (j : Int) < (nb : Int) := by omega
          clear hfl
          go_wp2_with fail
          refine (c_once (HD3.out.below HX.out) (HR3.out.below HX.out) leave).mono ?_
          rintro e w6 ⟨rfl, hb6⟩
          have HX6 := Lib.hid (step_below HX.out hb6)
          clear hb6
          go_wp2_with fail
          refine (c_once (HD3.out.below HX6.out) (HR3.out.below HX6.out) 0).mono ?_
          rintro e w7 ⟨rfl, hb7⟩
          have HX7 := Lib.hid (step_below HX6.out hb7)
          clear hb7
          go_wp2_with fail
          go_ret
          exact ⟨rfl, HBR.out.trans (HX7.out.mono HBR.out.size)⟩
end Go.Proofs.Ytbjhcbiihekceaa
