/- Disks: much. -/
import Derived.Test.YtbjhcbiihekceaaDg7
namespace Go.Proofs.Ytbjhcbiihekceaa
open Go.ChangeShapes Go.WideShapes Go.ChangeAt Go.RowKit Go.Maps Go.Shelf
set_option linter.unusedVariables false
set_option linter.unusedSimpArgs false
/-- A step's fields. -/
structure StepV where
  kd : Int
  sA : ByteArray
  sB : ByteArray
  da : Option Addr
  dn : Nat
  dc : Nat
  D : List Int
  ka : Option Addr
  kn : Nat
  kc : Nat
  ks : List (ByteArray × Int)
def StepV.v (x : StepV) : Value := .agg #[.int .i64 x.kd, .string x.sA, .string x.sB, .slice x.da x.dn x.dc, .slice x.ka x.kn x.kc]
structure StepOk (W : World) (x : StepV) : Prop where
  a : x.sA.size ≤ maxLen
  b : x.sB.size ≤ maxLen
  dn : x.D.length = x.dn
  byt : Byt x.D
  ls : Ls .u8 W x.da x.dc x.D
  kn : x.ks.length = x.kn
  kps : Kps W x.ka x.ks
  nms : ∀ k ∈ x.ks, k.1.size ≤ maxLen
theorem StepOk.below {W W' : World} {x : StepV} (h : StepOk W x) (b : Below W.heap.size W W') : StepOk W' x := ⟨h.a, h.b, h.dn, h.byt, h.ls.below b, h.kn, h.kps.below b, h.nms⟩
/-- Steps in a row. -/
def StepsR (W : World) (a : Option Addr) (L : List StepV) : Prop := ∀ (k : Nat) (x : StepV), L[k]? = some x → ∃ b off, a = some ⟨b, off, none⟩ ∧ W.cell? ⟨b, off + k * 5, none⟩ = some (.int .i64 x.kd) ∧ W.cell? ⟨b, off + k * 5 + 1, none⟩ = some (.string x.sA) ∧ W.cell? ⟨b, off + k * 5 + 2, none⟩ = some (.string x.sB) ∧ W.cell? ⟨b, off + k * 5 + 3, none⟩ = some (.slice x.da x.dn x.dc) ∧ W.cell? ⟨b, off + k * 5 + 4, none⟩ = some (.slice x.ka x.kn x.kc)
theorem StepsR.below {W W' : World} {a : Option Addr} {L : List StepV} (h : StepsR W a L) (hb : Below W.heap.size W W') : StepsR W' a L := fun k x hx => by
  obtain ⟨b, off, e, c0, c1, c2, c3, c4⟩ := h k x hx
  exact ⟨b, off, e, (hb.cell (cell_lt c0)).trans c0, (hb.cell (cell_lt c1)).trans c1, (hb.cell (cell_lt c2)).trans c2, (hb.cell (cell_lt c3)).trans c3, (hb.cell (cell_lt c4)).trans c4⟩
def MuchR (w : World) (L : List StepV) (e : Ending) (w' : World) : Prop := ∃ b : Bool, e = .returned (.bool b) ∧ Below w.heap.size w w' ∧ (b = false → ∀ (j : Nat) (x : StepV), j < 100 → L[j]? = some x → x.dn ≤ 300000 ∧ x.kn ≤ 1000000)
theorem MuchR.mk {w w' : World} {L : List StepV} (b : Bool) (hb : Below w.heap.size w w') (h : b = false → ∀ (j : Nat) (x : StepV), j < 100 → L[j]? = some x → x.dn ≤ 300000 ∧ x.kn ≤ 1000000) : MuchR w L (.returned (.bool b)) w' := ⟨b, rfl, hb, h⟩
set_option maxRecDepth 100000 in
set_option maxHeartbeats 4000000 in
/-- much (16). -/
theorem much_law (a : Option Addr) (L : List StepV) (n c : Nat) (w : World) (hn : L.length = n) (hR : StepsR w a L) (hOk : ∀ x ∈ L, StepOk w x) :
    Calls Try.prog 16 #[.slice a n c] w (MuchR w L) := by
  have HN := Lib.hid hn
  have HR := Lib.hid hR
  have HOK := Lib.hid hOk
  clear hn hR hOk
  go_enter Try.func16, Try.ntmps16
  go_wp2
  go_loopw [3, 4] (fun v i wr => ∃ (j : Nat) (z : Int), j ≤ n ∧ j ≤ 100 ∧ v = .int .i64 z ∧ i = .int .i64 (j : Int) ∧ 0 ≤ z ∧ z ≤ 2000000 ∧ Below w.heap.size w wr ∧ Hid (z ≤ 300000 → ∀ (i : Nat) (x : StepV), i < j → L[i]? = some x → x.dn ≤ 300000 ∧ x.kn ≤ 1000000)) (fun _ i _ => n - (intOf i).toNat)
  case atStart => exact ⟨0, 0, Nat.zero_le _, by omega, rfl, rfl, by omega, by omega, Below.refl _ _, Lib.hid (fun _ i x h => absurd h (Nat.not_lt_zero _))⟩
  case round =>
    obtain ⟨j, z, hj, hj100, rfl, rfl, hz0, hz1, hbw, HI⟩ := hrel
    by_cases hc : j < n ∧ j < 100 ∧ z ≤ 300000
    · obtain ⟨h1, h2, h3⟩ := hc
      have d1 : (j : Int) < (n : Int) := by omega
      have d2 : (j : Int) < 100 := by omega
      obtain ⟨x, hx⟩ : ∃ x, L[j]? = some x := ⟨_, List.getElem?_eq_getElem (by rw [HN.out]; exact h1)⟩
      have HX := Lib.hid hx
      obtain ⟨b, off, rfl, _, c1, c2, c3, c4⟩ := (HR.out.below hbw) j x hx
      have hok := HOK.out x (List.mem_of_getElem? hx)
      have hsA := hok.a
      have hsB := hok.b
      have HKO := Lib.hid hok
      unfold maxLen at hsA hsB
      obtain ⟨m1, hm1⟩ : ∃ m : Int, min (x.dn : Int) 300001 = m := ⟨_, rfl⟩
      obtain ⟨m2, hm2⟩ : ∃ m : Int, min (x.sA.size : Int) 300001 = m := ⟨_, rfl⟩
      obtain ⟨m3, hm3⟩ : ∃ m : Int, min (x.sB.size : Int) 300001 = m := ⟨_, rfl⟩
      have e1 : 0 ≤ m1 ∧ m1 ≤ 300001 ∧ (m1 ≤ 300000 → x.dn ≤ 300000) := by omega
      have e2 : 0 ≤ m2 ∧ m2 ≤ 300001 := by omega
      have e3 : 0 ≤ m3 ∧ m3 ≤ 300001 := by omega
      have hw1 : IntKind.i64.wrap (z + m1) = z + m1 := by rw [IntKind.wrap_i64] <;> omega
      have hw2 : IntKind.i64.wrap (z + m1 + m2) = z + m1 + m2 := by rw [IntKind.wrap_i64] <;> omega
      have hw3 : IntKind.i64.wrap (z + m1 + m2 + m3) = z + m1 + m2 + m3 := by rw [IntKind.wrap_i64] <;> omega
      have FQ := Lib.hid (fun X (b0 : Below wr.heap.size wr X) => (⟨(b0.cell (cell_lt c1)).trans c1, (b0.cell (cell_lt c2)).trans c2, (b0.cell (cell_lt c3)).trans c3⟩ : X.cell? ⟨b, off + j * 5 + 1, none⟩ = some (.string x.sA) ∧ X.cell? ⟨b, off + j * 5 + 2, none⟩ = some (.string x.sB) ∧ X.cell? ⟨b, off + j * 5 + 3, none⟩ = some (.slice x.da x.dn x.dc)))
      have HC4 := Lib.hid c4
      have HBW := Lib.hid hbw
      clear hx c1 c2 c3 c4 hok hbw
      go_wp2_with fail
      rename_i KK hKK
      refine Code.wp_mono (Q := Exit.then KK (fun _ _ _ => False)) (fun e a' w' h => by cases e <;> first | exact h | exact h.elim) ?_
      refine wp_region_held_drew (S := (fun X => Below wr.heap.size wr X)) (by kernel_rfl) ((Below.refl _ _).drew) (fun hHeld => ?_)
      refine wpAnyH_take (i := 0) (oi := { dst := some 20, op := Op.move (Operand.tmp 3), type := 3, pos := "law.go:126", after := #[], guard := none }) (v := ?_) rfl (by kernel_rfl) (by kernel_rfl) (by kernel_rfl) (fun _ _ _ h => h) (Or.inl ⟨by rfl, ?_⟩) (by assumption) ?_
      rotate_left
      · intro W hSw; go_simp; try with_reducible rfl
      try simp only [Act.put, List.setIfInBounds_toArray, List.set_cons_zero, List.set_cons_succ]
      refine wpAnyH_take (i := 1) (oi := { dst := some 21, op := Op.move (Operand.tmp 0), type := 22, pos := "law.go:126", after := #[], guard := none }) (v := ?_) rfl (by kernel_rfl) (by kernel_rfl) (by kernel_rfl) (fun _ _ _ h => h) (Or.inl ⟨by rfl, ?_⟩) (by assumption) ?_
      rotate_left
      · intro W hSw; go_simp; try with_reducible rfl
      try simp only [Act.put, List.setIfInBounds_toArray, List.set_cons_zero, List.set_cons_succ]
      refine wpAnyH_take (i := 2) (oi := { dst := some 22, op := Op.move (Operand.tmp 4), type := 3, pos := "law.go:126", after := #[], guard := none }) (v := ?_) rfl (by kernel_rfl) (by kernel_rfl) (by kernel_rfl) (fun _ _ _ h => h) (Or.inl ⟨by rfl, ?_⟩) (by assumption) ?_
      rotate_left
      · intro W hSw; go_simp; try with_reducible rfl
      try simp only [Act.put, List.setIfInBounds_toArray, List.set_cons_zero, List.set_cons_succ]
      refine wpAnyH_take (i := 3) (oi := { dst := some 23, op := Op.indexAddr 22 (Operand.tmp 21) (Operand.tmp 22), type := 0, pos := "law.go:126", after := #[{ on := 1, ground := Ground.data }, { on := 2, ground := Ground.data }], guard := none }) (v := ?_) rfl (by kernel_rfl) (by kernel_rfl) (by kernel_rfl) (fun _ _ _ h => h) (Or.inl ⟨by rfl, ?_⟩) (by assumption) ?_
      rotate_left
      · intro W hSw; go_simp; try with_reducible rfl
      try simp only [Act.put, List.setIfInBounds_toArray, List.set_cons_zero, List.set_cons_succ]
      refine wpAnyH_take (i := 4) (oi := { dst := some 24, op := Op.fieldAddr 37 (Operand.tmp 23) 3, type := 0, pos := "law.go:126", after := #[{ on := 3, ground := Ground.data }], guard := none }) (v := ?_) rfl (by kernel_rfl) (by kernel_rfl) (by kernel_rfl) (fun _ _ _ h => h) (Or.inl ⟨by rfl, ?_⟩) (by assumption) ?_
      rotate_left
      · intro W hSw; go_simp; try with_reducible rfl
      try simp only [Act.put, List.setIfInBounds_toArray, List.set_cons_zero, List.set_cons_succ]
      refine wpAnyH_take (i := 5) (oi := { dst := some 25, op := Op.load 34 (Operand.tmp 24), type := 34, pos := "law.go:126", after := #[{ on := 4, ground := Ground.data }], guard := none }) (v := ?_) rfl (by kernel_rfl) (by kernel_rfl) (by kernel_rfl) (fun _ _ _ h => h) (Or.inl ⟨by rfl, ?_⟩) (by assumption) ?_
      rotate_left
      · intro W hSw; obtain ⟨a0, a1, a2⟩ := FQ.out W hSw; go_simp; try with_reducible rfl
      try simp only [Act.put, List.setIfInBounds_toArray, List.set_cons_zero, List.set_cons_succ]
      refine wpAnyH_take (i := 6) (oi := { dst := some 26, op := Op.call { callee := Callee.builtin Builtin.len, args := #[Operand.tmp 25], argTypes := #[34] }, type := 3, pos := "law.go:126", after := #[{ on := 5, ground := Ground.data }], guard := none }) (v := ?_) rfl (by kernel_rfl) (by kernel_rfl) (by kernel_rfl) (fun _ _ _ h => h) (Or.inl ⟨by rfl, ?_⟩) (by assumption) ?_
      rotate_left
      · intro W hSw; go_simp; try with_reducible rfl
      try simp only [Act.put, List.setIfInBounds_toArray, List.set_cons_zero, List.set_cons_succ]
      refine wpAnyH_take (i := 7) (oi := { dst := some 27, op := Op.call { callee := Callee.builtin Builtin.min, args := #[Operand.tmp 26, Operand.const (Value.int IntKind.i64 300001)], argTypes := #[3, 3] }, type := 3, pos := "law.go:126", after := #[{ on := 6, ground := Ground.data }], guard := none }) (v := ?_) rfl (by kernel_rfl) (by kernel_rfl) (by kernel_rfl) (fun _ _ _ h => h) (Or.inl ⟨by rfl, ?_⟩) (by assumption) ?_
      rotate_left
      · intro W hSw; go_simp; try with_reducible rfl
      try simp only [Act.put, List.setIfInBounds_toArray, List.set_cons_zero, List.set_cons_succ]
      refine wpAnyH_take (i := 8) (oi := { dst := some 28, op := Op.binOp BinOp.add 3 (Operand.tmp 20) (Operand.tmp 27) 3, type := 3, pos := "law.go:126", after := #[{ on := 0, ground := Ground.data }, { on := 7, ground := Ground.data }], guard := none }) (v := ?_) rfl (by kernel_rfl) (by kernel_rfl) (by kernel_rfl) (fun _ _ _ h => h) (Or.inl ⟨by rfl, ?_⟩) (by assumption) ?_
      rotate_left
      · intro W hSw; go_simp; try with_reducible rfl
      try simp only [Act.put, List.setIfInBounds_toArray, List.set_cons_zero, List.set_cons_succ]
      refine wpAnyH_take (i := 9) (oi := { dst := some 29, op := Op.move (Operand.tmp 0), type := 22, pos := "law.go:126", after := #[], guard := none }) (v := ?_) rfl (by kernel_rfl) (by kernel_rfl) (by kernel_rfl) (fun _ _ _ h => h) (Or.inl ⟨by rfl, ?_⟩) (by assumption) ?_
      rotate_left
      · intro W hSw; go_simp; try with_reducible rfl
      try simp only [Act.put, List.setIfInBounds_toArray, List.set_cons_zero, List.set_cons_succ]
      refine wpAnyH_take (i := 10) (oi := { dst := some 30, op := Op.move (Operand.tmp 4), type := 3, pos := "law.go:126", after := #[], guard := none }) (v := ?_) rfl (by kernel_rfl) (by kernel_rfl) (by kernel_rfl) (fun _ _ _ h => h) (Or.inl ⟨by rfl, ?_⟩) (by assumption) ?_
      rotate_left
      · intro W hSw; go_simp; try with_reducible rfl
      try simp only [Act.put, List.setIfInBounds_toArray, List.set_cons_zero, List.set_cons_succ]
      refine wpAnyH_take (i := 11) (oi := { dst := some 31, op := Op.indexAddr 22 (Operand.tmp 29) (Operand.tmp 30), type := 0, pos := "law.go:126", after := #[{ on := 9, ground := Ground.data }, { on := 10, ground := Ground.data }], guard := none }) (v := ?_) rfl (by kernel_rfl) (by kernel_rfl) (by kernel_rfl) (fun _ _ _ h => h) (Or.inl ⟨by rfl, ?_⟩) (by assumption) ?_
      rotate_left
      · intro W hSw; go_simp; try with_reducible rfl
      try simp only [Act.put, List.setIfInBounds_toArray, List.set_cons_zero, List.set_cons_succ]
      refine wpAnyH_take (i := 12) (oi := { dst := some 32, op := Op.fieldAddr 37 (Operand.tmp 31) 1, type := 0, pos := "law.go:126", after := #[{ on := 11, ground := Ground.data }], guard := none }) (v := ?_) rfl (by kernel_rfl) (by kernel_rfl) (by kernel_rfl) (fun _ _ _ h => h) (Or.inl ⟨by rfl, ?_⟩) (by assumption) ?_
      rotate_left
      · intro W hSw; go_simp; try with_reducible rfl
      try simp only [Act.put, List.setIfInBounds_toArray, List.set_cons_zero, List.set_cons_succ]
      refine wpAnyH_take (i := 13) (oi := { dst := some 33, op := Op.load 9 (Operand.tmp 32), type := 9, pos := "law.go:126", after := #[{ on := 12, ground := Ground.data }], guard := none }) (v := ?_) rfl (by kernel_rfl) (by kernel_rfl) (by kernel_rfl) (fun _ _ _ h => h) (Or.inl ⟨by rfl, ?_⟩) (by assumption) ?_
      rotate_left
      · intro W hSw; obtain ⟨a0, a1, a2⟩ := FQ.out W hSw; go_simp; try with_reducible rfl
      try simp only [Act.put, List.setIfInBounds_toArray, List.set_cons_zero, List.set_cons_succ]
      refine wpAnyH_take (i := 14) (oi := { dst := some 34, op := Op.call { callee := Callee.builtin Builtin.len, args := #[Operand.tmp 33], argTypes := #[9] }, type := 3, pos := "law.go:126", after := #[{ on := 13, ground := Ground.data }], guard := none }) (v := ?_) rfl (by kernel_rfl) (by kernel_rfl) (by kernel_rfl) (fun _ _ _ h => h) (Or.inl ⟨by rfl, ?_⟩) (by assumption) ?_
      rotate_left
      · intro W hSw; go_simp; try with_reducible rfl
      try simp only [Act.put, List.setIfInBounds_toArray, List.set_cons_zero, List.set_cons_succ]
      refine wpAnyH_take (i := 15) (oi := { dst := some 35, op := Op.call { callee := Callee.builtin Builtin.min, args := #[Operand.tmp 34, Operand.const (Value.int IntKind.i64 300001)], argTypes := #[3, 3] }, type := 3, pos := "law.go:126", after := #[{ on := 14, ground := Ground.data }], guard := none }) (v := ?_) rfl (by kernel_rfl) (by kernel_rfl) (by kernel_rfl) (fun _ _ _ h => h) (Or.inl ⟨by rfl, ?_⟩) (by assumption) ?_
      rotate_left
      · intro W hSw; go_simp; try with_reducible rfl
      try simp only [Act.put, List.setIfInBounds_toArray, List.set_cons_zero, List.set_cons_succ]
      refine wpAnyH_take (i := 16) (oi := { dst := some 36, op := Op.binOp BinOp.add 3 (Operand.tmp 28) (Operand.tmp 35) 3, type := 3, pos := "law.go:126", after := #[{ on := 8, ground := Ground.data }, { on := 15, ground := Ground.data }], guard := none }) (v := ?_) rfl (by kernel_rfl) (by kernel_rfl) (by kernel_rfl) (fun _ _ _ h => h) (Or.inl ⟨by rfl, ?_⟩) (by assumption) ?_
      rotate_left
      · intro W hSw; go_simp; try with_reducible rfl
      try simp only [Act.put, List.setIfInBounds_toArray, List.set_cons_zero, List.set_cons_succ]
      refine wpAnyH_take (i := 17) (oi := { dst := some 37, op := Op.move (Operand.tmp 0), type := 22, pos := "law.go:126", after := #[], guard := none }) (v := ?_) rfl (by kernel_rfl) (by kernel_rfl) (by kernel_rfl) (fun _ _ _ h => h) (Or.inl ⟨by rfl, ?_⟩) (by assumption) ?_
      rotate_left
      · intro W hSw; go_simp; try with_reducible rfl
      try simp only [Act.put, List.setIfInBounds_toArray, List.set_cons_zero, List.set_cons_succ]
      refine wpAnyH_take (i := 18) (oi := { dst := some 38, op := Op.move (Operand.tmp 4), type := 3, pos := "law.go:126", after := #[], guard := none }) (v := ?_) rfl (by kernel_rfl) (by kernel_rfl) (by kernel_rfl) (fun _ _ _ h => h) (Or.inl ⟨by rfl, ?_⟩) (by assumption) ?_
      rotate_left
      · intro W hSw; go_simp; try with_reducible rfl
      try simp only [Act.put, List.setIfInBounds_toArray, List.set_cons_zero, List.set_cons_succ]
      refine wpAnyH_take (i := 19) (oi := { dst := some 39, op := Op.indexAddr 22 (Operand.tmp 37) (Operand.tmp 38), type := 0, pos := "law.go:126", after := #[{ on := 17, ground := Ground.data }, { on := 18, ground := Ground.data }], guard := none }) (v := ?_) rfl (by kernel_rfl) (by kernel_rfl) (by kernel_rfl) (fun _ _ _ h => h) (Or.inl ⟨by rfl, ?_⟩) (by assumption) ?_
      rotate_left
      · intro W hSw; go_simp; try with_reducible rfl
      try simp only [Act.put, List.setIfInBounds_toArray, List.set_cons_zero, List.set_cons_succ]
      refine wpAnyH_take (i := 20) (oi := { dst := some 40, op := Op.fieldAddr 37 (Operand.tmp 39) 2, type := 0, pos := "law.go:126", after := #[{ on := 19, ground := Ground.data }], guard := none }) (v := ?_) rfl (by kernel_rfl) (by kernel_rfl) (by kernel_rfl) (fun _ _ _ h => h) (Or.inl ⟨by rfl, ?_⟩) (by assumption) ?_
      rotate_left
      · intro W hSw; go_simp; try with_reducible rfl
      try simp only [Act.put, List.setIfInBounds_toArray, List.set_cons_zero, List.set_cons_succ]
      refine wpAnyH_take (i := 21) (oi := { dst := some 41, op := Op.load 9 (Operand.tmp 40), type := 9, pos := "law.go:126", after := #[{ on := 20, ground := Ground.data }], guard := none }) (v := ?_) rfl (by kernel_rfl) (by kernel_rfl) (by kernel_rfl) (fun _ _ _ h => h) (Or.inl ⟨by rfl, ?_⟩) (by assumption) ?_
      rotate_left
      · intro W hSw; obtain ⟨a0, a1, a2⟩ := FQ.out W hSw; go_simp; try with_reducible rfl
      try simp only [Act.put, List.setIfInBounds_toArray, List.set_cons_zero, List.set_cons_succ]
      refine wpAnyH_take (i := 22) (oi := { dst := some 42, op := Op.call { callee := Callee.builtin Builtin.len, args := #[Operand.tmp 41], argTypes := #[9] }, type := 3, pos := "law.go:126", after := #[{ on := 21, ground := Ground.data }], guard := none }) (v := ?_) rfl (by kernel_rfl) (by kernel_rfl) (by kernel_rfl) (fun _ _ _ h => h) (Or.inl ⟨by rfl, ?_⟩) (by assumption) ?_
      rotate_left
      · intro W hSw; go_simp; try with_reducible rfl
      try simp only [Act.put, List.setIfInBounds_toArray, List.set_cons_zero, List.set_cons_succ]
      refine wpAnyH_take (i := 23) (oi := { dst := some 43, op := Op.call { callee := Callee.builtin Builtin.min, args := #[Operand.tmp 42, Operand.const (Value.int IntKind.i64 300001)], argTypes := #[3, 3] }, type := 3, pos := "law.go:126", after := #[{ on := 22, ground := Ground.data }], guard := none }) (v := ?_) rfl (by kernel_rfl) (by kernel_rfl) (by kernel_rfl) (fun _ _ _ h => h) (Or.inl ⟨by rfl, ?_⟩) (by assumption) ?_
      rotate_left
      · intro W hSw; go_simp; try with_reducible rfl
      try simp only [Act.put, List.setIfInBounds_toArray, List.set_cons_zero, List.set_cons_succ]
      refine wpAnyH_take (i := 24) (oi := { dst := some 44, op := Op.binOp BinOp.add 3 (Operand.tmp 36) (Operand.tmp 43) 3, type := 3, pos := "law.go:126", after := #[{ on := 16, ground := Ground.data }, { on := 23, ground := Ground.data }], guard := none }) (v := ?_) rfl (by kernel_rfl) (by kernel_rfl) (by kernel_rfl) (fun _ _ _ h => h) (Or.inl ⟨by rfl, ?_⟩) (by assumption) ?_
      rotate_left
      · intro W hSw; go_simp; try with_reducible rfl
      try simp only [Act.put, List.setIfInBounds_toArray, List.set_cons_zero, List.set_cons_succ]
      refine wpAnyH_take (i := 25) (oi := { dst := some 3, op := Op.assign (Operand.tmp 44), type := 3, pos := "law.go:126", after := #[{ on := 24, ground := Ground.data }, { on := 0, ground := Ground.phase }, { on := 1, ground := Ground.phase }, { on := 2, ground := Ground.phase }, { on := 3, ground := Ground.phase }, { on := 4, ground := Ground.phase }, { on := 5, ground := Ground.phase }, { on := 6, ground := Ground.phase }, { on := 7, ground := Ground.phase }, { on := 8, ground := Ground.phase }, { on := 9, ground := Ground.phase }, { on := 10, ground := Ground.phase }, { on := 11, ground := Ground.phase }, { on := 12, ground := Ground.phase }, { on := 13, ground := Ground.phase }, { on := 14, ground := Ground.phase }, { on := 15, ground := Ground.phase }, { on := 16, ground := Ground.phase }, { on := 17, ground := Ground.phase }, { on := 18, ground := Ground.phase }, { on := 19, ground := Ground.phase }, { on := 20, ground := Ground.phase }, { on := 21, ground := Ground.phase }, { on := 22, ground := Ground.phase }, { on := 23, ground := Ground.phase }, { on := 24, ground := Ground.phase }], guard := none }) (v := ?_) rfl (by kernel_rfl) (by kernel_rfl) (by kernel_rfl) (fun _ _ _ h => h) (Or.inl ⟨by rfl, ?_⟩) (by assumption) ?_
      rotate_left
      · intro W hSw; go_simp; try with_reducible rfl
      try simp only [Act.put, List.setIfInBounds_toArray, List.set_cons_zero, List.set_cons_succ]
      refine wpAnyH_done (by kernel_rfl) ?_ _
      skip
      refine hKK _ _ ?_
      obtain ⟨wa, hwa⟩ : ∃ wa, wr.drew = wa := ⟨_, rfl⟩
      have HBA := Lib.hid (show Below w.heap.size w wa by rw [← hwa]; exact HBW.out.drew)
      have HC4A := Lib.hid (show wa.cell? ⟨b, off + j * 5 + 4, none⟩ = some (.slice x.ka x.kn x.kc) by rw [← hwa]; exact HC4.out)
      rw [hwa]
      obtain ⟨z1, hz1'⟩ : ∃ z1 : Int, z + m1 + m2 + m3 = z1 := ⟨_, rfl⟩
      rw [hz1']
      have e4 : z ≤ z1 ∧ m1 ≤ z1 ∧ 0 ≤ z1 ∧ z1 ≤ 1200003 := by omega
      clear hKK FQ hHeld hwa HBW HC4 hz1' hw1 hw2 hw3
      go_wp2_with fail
      go_loopw [3, 5] (fun v i wb => ∃ (k : Nat) (y : Int), k ≤ x.kn ∧ v = .int .i64 y ∧ i = .int .i64 (k : Int) ∧ z1 + 100 * (k : Int) ≤ y ∧ y ≤ 2000000 ∧ Below wa.heap.size wa wb) (fun _ i _ => x.kn - (intOf i).toNat)
      case atStart => exact ⟨0, z1, Nat.zero_le _, rfl, rfl, by omega, by omega, Below.refl _ _⟩
      case round =>
        obtain ⟨k, y, hk, rfl, rfl, hy0, hy1, hbb⟩ := hrel
        have c4 := (hbb.cell (cell_lt HC4A.out)).trans HC4A.out
        have HBB := Lib.hid hbb
        clear hbb
        by_cases hc2 : k < x.kn ∧ y ≤ 300000
        · obtain ⟨g1, g2⟩ := hc2
          have d4 : (k : Int) < (x.kn : Int) := by omega
          obtain ⟨kp, hkp⟩ : ∃ kp, x.ks[k]? = some kp := ⟨_, List.getElem?_eq_getElem (by rw [HKO.out.kn]; exact g1)⟩
          have hkz := HKO.out.nms kp (List.mem_of_getElem? hkp)
          unfold maxLen at hkz
          obtain ⟨kb, ko, hka, kc1, _⟩ := ((HKO.out.kps.below HBA.out).below HBB.out) k kp hkp
          obtain ⟨m4, hm4⟩ : ∃ m : Int, min (kp.1.size : Int) 300001 = m := ⟨_, rfl⟩
          have e5 : 0 ≤ m4 ∧ m4 ≤ 300001 := by omega
          rw [hka] at c4
          clear hkp hka
          go_wp2
          go_roundw
          case rel => exact ⟨k + 1, y + 100 + m4, by omega, by go_num, by go_num, by omega, by omega, HBB.out⟩
          case measure => simp [intOf]; omega
        · have HI2 := Lib.hid (show y ≤ 300000 → ∀ (i : Nat) (x' : StepV), i < j + 1 → L[i]? = some x' → x'.dn ≤ 300000 ∧ x'.kn ≤ 1000000 from fun hy i x' hi hx' => by
            by_cases hij : i = j
            · subst hij
              rw [HX.out] at hx'
              cases hx'
              exact ⟨e1.2.2 (by omega), by omega⟩
            · exact HI.out (by omega) i x' (by omega) hx')
          by_cases g1 : k < x.kn
          · have d4 : (k : Int) < (x.kn : Int) := by omega
            have d5 : ¬ y ≤ 300000 := by omega
            clear hc2
            go_wp2
            go_roundw
            case rel => exact ⟨j + 1, y, by omega, by omega, by go_num, by go_num, by omega, by omega, step_below HBA.out HBB.out, HI2⟩
            case measure => simp [intOf]; omega
          · have d4 : ¬ (k : Int) < (x.kn : Int) := by omega
            clear hc2
            go_wp2
            go_roundw
            case rel => exact ⟨j + 1, y, by omega, by omega, by go_num, by go_num, by omega, by omega, step_below HBA.out HBB.out, HI2⟩
            case measure => simp [intOf]; omega
    · have HE := Lib.hid (show decide (300000 < z) = false → ∀ (i : Nat) (x : StepV), i < 100 → L[i]? = some x → x.dn ≤ 300000 ∧ x.kn ≤ 1000000 from fun hf i x hi hx => by
        have hz : z ≤ 300000 := by simpa using hf
        have hin := (List.getElem?_eq_some_iff.1 hx).1
        rw [HN.out] at hin
        exact HI.out hz i x (by omega) hx)
      have HBW := Lib.hid hbw
      clear hbw
      by_cases h1 : j < n
      · have d1 : (j : Int) < (n : Int) := by omega
        by_cases h2 : j < 100
        · have d2 : (j : Int) < 100 := by omega
          have d3 : ¬ z ≤ 300000 := by omega
          clear hc
          go_wp2
          go_ret
          exact MuchR.mk true HBW.out (fun h => by cases h)
        · have d2 : ¬ (j : Int) < 100 := by omega
          clear hc
          go_wp2
          go_ret
          exact MuchR.mk _ HBW.out HE.out
      · have d1 : ¬ (j : Int) < (n : Int) := by omega
        clear hc
        go_wp2
        go_ret
        exact MuchR.mk _ HBW.out HE.out
end Go.Proofs.Ytbjhcbiihekceaa
