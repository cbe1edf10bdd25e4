/- Disks: with. -/
import Derived.Test.YtbjhcbiihekceaaDko
namespace Go.Proofs.Ytbjhcbiihekceaa
open Go.ChangeShapes Go.WideShapes Go.ChangeAt Go.RowKit Go.Maps
set_option linter.unusedVariables false
set_option linter.unusedSimpArgs false
theorem zero118 (w : World) : (zeroValue 118).run Try.prog w = .ok (fv none 0 0 0) w := by kernel_rfl
theorem may_size {s : ByteArray} (h : mayB s = true) : s.size ≤ maxLen := by
  unfold mayB at h
  simp at h
  unfold maxLen
  omega
theorem look_run {W : World} {p bm room : Nat} {L : List Fil} (h : Dk W p bm room L) {s : ByteArray} (hs : s.size ≤ maxLen) {f : Fil} (hf : look L s = some f) : (Instr.lookup 92 (.map (some bm)) (.string s) true).run Try.prog W = .ok (.tuple #[.agg #[.slice f.ad f.bs.length f.cap, .int .i64 f.last], .bool true]) W := by
  obtain ⟨v, ps, hr, hv⟩ := h.map.look_ok law9 Try.underlying92 (zero118 W) (RF_fv _ _ _ _) (key_of s hs)
  rw [has_dOf, hf] at hr
  rw [at_dOf, hf] at hv
  obtain ⟨_, e⟩ := RF_inv hv
  have : f.v = v := by have := (Prod.mk.inj e).1; simpa using this
  subst this
  exact hr
theorem look_run_no {W : World} {p bm room : Nat} {L : List Fil} (h : Dk W p bm room L) {s : ByteArray} (hs : s.size ≤ maxLen) (hf : look L s = none) : (Instr.lookup 92 (.map (some bm)) (.string s) true).run Try.prog W = .ok (.tuple #[.agg #[.slice none 0 0, .int .i64 0], .bool false]) W := by
  obtain ⟨v, ps, hr, hv⟩ := h.map.look_ok law9 Try.underlying92 (zero118 W) (RF_fv _ _ _ _) (key_of s hs)
  rw [has_dOf, hf] at hr
  rw [at_dOf, hf] at hv
  obtain ⟨_, e⟩ := RF_inv hv
  have : fv none 0 0 0 = v := by have := (Prod.mk.inj e).1; simpa using this
  subst this
  exact hr
set_option maxHeartbeats 1000000 in
theorem dwith1_law {w : World} {p bm room : Nat} {L : List Fil} (h : Dk w p bm room L) (b0 b1 b2 : Nat) (s : ByteArray) (g : Nat) (caps : Array Value) (h0 : BoxC w b0 #[.pointer (some ⟨p, 0, none⟩)] 23) (h1 : BoxC w b1 #[.string s] 9) (h2 : BoxC w b2 #[.func (.func g) #[] caps] 129)
    (hs : s.size ≤ maxLen) (f : Fil) (hf : look L s = some f) (eg : ∀ args w, (callFunc g args).run Try.prog w = .ok (.enter g args) w) (R : World → Prop)
    (hdo : ∀ W, Below w.heap.size w W → Calls Try.prog g (#[.agg #[.slice f.ad f.bs.length f.cap, .int .i64 f.last]] ++ caps) W fun e w' => e = .returned (.tuple #[]) ∧ R w') :
    Calls Try.prog 106 #[.pointer (some ⟨b0, 0, none⟩), .pointer (some ⟨b1, 0, none⟩), .pointer (some ⟨b2, 0, none⟩)] w fun e w' => e = .returned (.int .i64 0) ∧ R w' := by
  have HH := Lib.hid h
  have HD := Lib.hid hdo
  have FC := Lib.hid (fun W (b : Below w.heap.size w W) => (⟨(h0.below b).cell 0, (h1.below b).cell 0, (h.below b).c1, look_run (h.below b) hs hf⟩ : W.cell? ⟨b0, 0, none⟩ = some (.pointer (some ⟨p, 0, none⟩)) ∧ W.cell? ⟨b1, 0, none⟩ = some (.string s) ∧ W.cell? ⟨p, 1, none⟩ = some (.map (some bm)) ∧ (Instr.lookup 92 (.map (some bm)) (.string s) true).run Try.prog W = .ok (.tuple #[.agg #[.slice f.ad f.bs.length f.cap, .int .i64 f.last], .bool true]) W))
  have F2 := Lib.hid (fun W (b : Below w.heap.size w W) => ((h2.below b).cell 0 : W.cell? ⟨b2, 0, none⟩ = some (.func (.func g) #[] caps)))
  clear h hdo h0 h1 h2 hf
  go_enter Try.func106, Try.ntmps106
  go_wp2
  refine wp_region_held_drew (S := (fun W => Below w.heap.size w W)) (by kernel_rfl) ((Below.refl _ _).drew) (fun hHeld => ?_)
  refine wpAnyH_take (i := 0) (oi := { dst := some 7, op := Op.load 23 (Operand.tmp 0), type := 23, pos := "disk.go:74", after := #[], guard := none }) (v := ?_) rfl (by kernel_rfl) (by kernel_rfl) (by kernel_rfl) (fun _ _ _ h => h) (Or.inl ⟨by rfl, ?_⟩) (by assumption) ?_
  rotate_left
  · intro W hSw; obtain ⟨a0, a1, a3, a4⟩ := FC.out W hSw; go_simp; try with_reducible rfl
  try simp only [Act.put, List.setIfInBounds_toArray, List.set_cons_zero, List.set_cons_succ]
  refine wpAnyH_take (i := 1) (oi := { dst := some 8, op := Op.nilCheck (Operand.tmp 7), type := 0, pos := "disk.go:74", after := #[{ on := 0, ground := Ground.data }], guard := none }) (v := ?_) rfl (by kernel_rfl) (by kernel_rfl) (by kernel_rfl) (fun _ _ _ h => h) (Or.inl ⟨by rfl, ?_⟩) (by assumption) ?_
  rotate_left
  · intro W hSw; go_simp; try with_reducible rfl
  try simp only [Act.put, List.setIfInBounds_toArray, List.set_cons_zero, List.set_cons_succ]
  refine wpAnyH_take (i := 2) (oi := { dst := some 9, op := Op.fieldAddr 94 (Operand.tmp 8) 1, type := 0, pos := "disk.go:74", after := #[{ on := 1, ground := Ground.data }], guard := none }) (v := ?_) rfl (by kernel_rfl) (by kernel_rfl) (by kernel_rfl) (fun _ _ _ h => h) (Or.inl ⟨by rfl, ?_⟩) (by assumption) ?_
  rotate_left
  · intro W hSw; go_simp; try with_reducible rfl
  try simp only [Act.put, List.setIfInBounds_toArray, List.set_cons_zero, List.set_cons_succ]
  refine wpAnyH_take (i := 3) (oi := { dst := some 10, op := Op.load 92 (Operand.tmp 9), type := 92, pos := "disk.go:74", after := #[{ on := 2, ground := Ground.data }], guard := none }) (v := ?_) rfl (by kernel_rfl) (by kernel_rfl) (by kernel_rfl) (fun _ _ _ h => h) (Or.inl ⟨by rfl, ?_⟩) (by assumption) ?_
  rotate_left
  · intro W hSw; obtain ⟨a0, a1, a3, a4⟩ := FC.out W hSw; go_simp; try with_reducible rfl
  try simp only [Act.put, List.setIfInBounds_toArray, List.set_cons_zero, List.set_cons_succ]
  refine wpAnyH_take (i := 4) (oi := { dst := some 11, op := Op.load 9 (Operand.tmp 1), type := 9, pos := "disk.go:74", after := #[], guard := none }) (v := ?_) rfl (by kernel_rfl) (by kernel_rfl) (by kernel_rfl) (fun _ _ _ h => h) (Or.inl ⟨by rfl, ?_⟩) (by assumption) ?_
  rotate_left
  · intro W hSw; obtain ⟨a0, a1, a3, a4⟩ := FC.out W hSw; go_simp; try with_reducible rfl
  try simp only [Act.put, List.setIfInBounds_toArray, List.set_cons_zero, List.set_cons_succ]
  refine wpAnyH_take (i := 5) (oi := { dst := some 12, op := Op.lookup 92 (Operand.tmp 10) (Operand.tmp 11) true, type := 119, pos := "disk.go:74", after := #[{ on := 3, ground := Ground.data }, { on := 4, ground := Ground.data }], guard := none }) (v := ?_) rfl (by kernel_rfl) (by kernel_rfl) (by kernel_rfl) (fun _ _ _ h => h) (Or.inl ⟨by rfl, ?_⟩) (by assumption) ?_
  rotate_left
  · intro W hSw; obtain ⟨a0, a1, a3, a4⟩ := FC.out W hSw; go_simp; try with_reducible rfl
  try simp only [Act.put, List.setIfInBounds_toArray, List.set_cons_zero, List.set_cons_succ]
  refine wpAnyH_take (i := 6) (oi := { dst := some 6, op := Op.move (Operand.tmp 12), type := 119, pos := "disk.go:74", after := #[{ on := 5, ground := Ground.data }], guard := none }) (v := ?_) rfl (by kernel_rfl) (by kernel_rfl) (by kernel_rfl) (fun _ _ _ h => h) (Or.inl ⟨by rfl, ?_⟩) (by assumption) ?_
  rotate_left
  · intro W hSw; go_simp; try with_reducible rfl
  try simp only [Act.put, List.setIfInBounds_toArray, List.set_cons_zero, List.set_cons_succ]
  refine wpAnyH_take (i := 7) (oi := { dst := some 13, op := Op.extract (Operand.tmp 6) 0, type := 118, pos := "disk.go:74", after := #[{ on := 6, ground := Ground.data }], guard := none }) (v := ?_) rfl (by kernel_rfl) (by kernel_rfl) (by kernel_rfl) (fun _ _ _ h => h) (Or.inl ⟨by rfl, ?_⟩) (by assumption) ?_
  rotate_left
  · intro W hSw; go_simp; try with_reducible rfl
  try simp only [Act.put, List.setIfInBounds_toArray, List.set_cons_zero, List.set_cons_succ]
  refine wpAnyH_take (i := 8) (oi := { dst := some 14, op := Op.extract (Operand.tmp 6) 1, type := 4, pos := "disk.go:74", after := #[{ on := 6, ground := Ground.data }, { on := 10, ground := Ground.gcOnly Departure.lateStores }], guard := none }) (v := ?_) rfl (by kernel_rfl) (by kernel_rfl) (by kernel_rfl) (fun _ _ _ h => h) (Or.inl ⟨by rfl, ?_⟩) (by assumption) ?_
  rotate_left
  · intro W hSw; go_simp; try with_reducible rfl
  try simp only [Act.put, List.setIfInBounds_toArray, List.set_cons_zero, List.set_cons_succ]
  refine wpAnyH_ready (rs := [9]) (by kernel_rfl) (by simp) ?_
  refine AllReadyH.cons (o := { dst := some 4, op := Op.alloc 118, type := 0, pos := "disk.go:74", after := #[], guard := none }) rfl (fun K hK => ?_) AllReadyH.nil
  go_simp
  refine hK.out _ _ (step_below ((Below.refl _ _).drew) (bl1 _ _)) (fun hHeldn => ?_)
  clear hK K hHeld; have hHeld := hHeldn; clear hHeldn
  try simp only [Act.put, List.setIfInBounds_toArray, List.set_cons_zero, List.set_cons_succ]
  refine wpAnyH_ready (rs := [10]) (by kernel_rfl) (by simp) ?_
  refine AllReadyH.cons (o := { dst := none, op := Op.store 118 (Operand.tmp 4) (Operand.tmp 13), type := 0, pos := "disk.go:74", after := #[{ on := 9, ground := Ground.data }, { on := 7, ground := Ground.data }, { on := 0, ground := Ground.phase }, { on := 1, ground := Ground.phase }, { on := 2, ground := Ground.phase }, { on := 3, ground := Ground.phase }, { on := 4, ground := Ground.phase }, { on := 5, ground := Ground.phase }, { on := 6, ground := Ground.phase }, { on := 7, ground := Ground.phase }, { on := 8, ground := Ground.textOnly Departure.lateStores }, { on := 9, ground := Ground.phase }], guard := none }) rfl (fun K hK => ?_) AllReadyH.nil
  go_simp
  refine hK.out _ _ (step_below ((Below.refl _ _).drew) (bl1 _ _)) (fun hHeldn => ?_)
  clear hK K hHeld; have hHeld := hHeldn; clear hHeldn
  try simp only [Act.put, List.setIfInBounds_toArray, List.set_cons_zero, List.set_cons_succ]
  refine wpAnyH_take (i := 11) (oi := { dst := some 5, op := Op.assign (Operand.tmp 14), type := 4, pos := "disk.go:74", after := #[{ on := 8, ground := Ground.data }, { on := 10, ground := Ground.chain }, { on := 0, ground := Ground.phase }, { on := 1, ground := Ground.phase }, { on := 2, ground := Ground.phase }, { on := 3, ground := Ground.phase }, { on := 4, ground := Ground.phase }, { on := 5, ground := Ground.phase }, { on := 6, ground := Ground.phase }, { on := 7, ground := Ground.phase }, { on := 8, ground := Ground.phase }, { on := 9, ground := Ground.phase }, { on := 10, ground := Ground.phase }], guard := none }) (v := ?_) rfl (by kernel_rfl) (by kernel_rfl) (by kernel_rfl) (fun _ _ _ h => h) (Or.inl ⟨by rfl, ?_⟩) (by assumption) ?_
  rotate_left
  · intro W hSw; go_simp; try with_reducible rfl
  try simp only [Act.put, List.setIfInBounds_toArray, List.set_cons_zero, List.set_cons_succ]
  refine wpAnyH_done (by kernel_rfl) ?_ _
  skip
  have hN : BoxC (w.alloc (.cells #[.slice f.ad f.bs.length f.cap, .int .i64 f.last] 118)).drew w.heap.size #[.slice f.ad f.bs.length f.cap, .int .i64 f.last] 118 := BoxC.new w _ _
  generalize (w.alloc (.cells #[.slice f.ad f.bs.length f.cap, .int .i64 f.last] 118)).drew = W1 at hHeld hN ⊢
  have a2 := F2.out W1 hHeld
  have n0 := hN.cell 0
  have n1 := hN.cell 1
  have HX := Lib.hid (HD.out W1 hHeld)
  clear hHeld hN
  go_wp2_with (go_at_fn g; refine HX.out.mono ?_; rintro e w' ⟨rfl, hR⟩)
  go_ret
  exact ⟨rfl, hR⟩
set_option maxHeartbeats 1000000 in
theorem dwith1_no {w : World} {p bm room : Nat} {L : List Fil} (h : Dk w p bm room L) (b0 b1 b2 : Nat) (s : ByteArray) (h0 : BoxC w b0 #[.pointer (some ⟨p, 0, none⟩)] 23) (h1 : BoxC w b1 #[.string s] 9)
    (hs : s.size ≤ maxLen) (hf : look L s = none) :
    Calls Try.prog 106 #[.pointer (some ⟨b0, 0, none⟩), .pointer (some ⟨b1, 0, none⟩), .pointer (some ⟨b2, 0, none⟩)] w fun e w' => e = .returned (.int .i64 6) ∧ Below w.heap.size w w' := by
  have HH := Lib.hid h
  have FC := Lib.hid (fun W (b : Below w.heap.size w W) => (⟨(h0.below b).cell 0, (h1.below b).cell 0, (h.below b).c1, look_run_no (h.below b) hs hf⟩ : W.cell? ⟨b0, 0, none⟩ = some (.pointer (some ⟨p, 0, none⟩)) ∧ W.cell? ⟨b1, 0, none⟩ = some (.string s) ∧ W.cell? ⟨p, 1, none⟩ = some (.map (some bm)) ∧ (Instr.lookup 92 (.map (some bm)) (.string s) true).run Try.prog W = .ok (.tuple #[.agg #[.slice none 0 0, .int .i64 0], .bool false]) W))
  clear h h0 h1 hf
  go_enter Try.func106, Try.ntmps106
  go_wp2
  refine wp_region_held_drew (S := (fun W => Below w.heap.size w W)) (by kernel_rfl) ((Below.refl _ _).drew) (fun hHeld => ?_)
  refine wpAnyH_take (i := 0) (oi := { dst := some 7, op := Op.load 23 (Operand.tmp 0), type := 23, pos := "disk.go:74", after := #[], guard := none }) (v := ?_) rfl (by kernel_rfl) (by kernel_rfl) (by kernel_rfl) (fun _ _ _ h => h) (Or.inl ⟨by rfl, ?_⟩) (by assumption) ?_
  rotate_left
  · intro W hSw; obtain ⟨a0, a1, a3, a4⟩ := FC.out W hSw; go_simp; try with_reducible rfl
  try simp only [Act.put, List.setIfInBounds_toArray, List.set_cons_zero, List.set_cons_succ]
  refine wpAnyH_take (i := 1) (oi := { dst := some 8, op := Op.nilCheck (Operand.tmp 7), type := 0, pos := "disk.go:74", after := #[{ on := 0, ground := Ground.data }], guard := none }) (v := ?_) rfl (by kernel_rfl) (by kernel_rfl) (by kernel_rfl) (fun _ _ _ h => h) (Or.inl ⟨by rfl, ?_⟩) (by assumption) ?_
  rotate_left
  · intro W hSw; go_simp; try with_reducible rfl
  try simp only [Act.put, List.setIfInBounds_toArray, List.set_cons_zero, List.set_cons_succ]
  refine wpAnyH_take (i := 2) (oi := { dst := some 9, op := Op.fieldAddr 94 (Operand.tmp 8) 1, type := 0, pos := "disk.go:74", after := #[{ on := 1, ground := Ground.data }], guard := none }) (v := ?_) rfl (by kernel_rfl) (by kernel_rfl) (by kernel_rfl) (fun _ _ _ h => h) (Or.inl ⟨by rfl, ?_⟩) (by assumption) ?_
  rotate_left
  · intro W hSw; go_simp; try with_reducible rfl
  try simp only [Act.put, List.setIfInBounds_toArray, List.set_cons_zero, List.set_cons_succ]
  refine wpAnyH_take (i := 3) (oi := { dst := some 10, op := Op.load 92 (Operand.tmp 9), type := 92, pos := "disk.go:74", after := #[{ on := 2, ground := Ground.data }], guard := none }) (v := ?_) rfl (by kernel_rfl) (by kernel_rfl) (by kernel_rfl) (fun _ _ _ h => h) (Or.inl ⟨by rfl, ?_⟩) (by assumption) ?_
  rotate_left
  · intro W hSw; obtain ⟨a0, a1, a3, a4⟩ := FC.out W hSw; go_simp; try with_reducible rfl
  try simp only [Act.put, List.setIfInBounds_toArray, List.set_cons_zero, List.set_cons_succ]
  refine wpAnyH_take (i := 4) (oi := { dst := some 11, op := Op.load 9 (Operand.tmp 1), type := 9, pos := "disk.go:74", after := #[], guard := none }) (v := ?_) rfl (by kernel_rfl) (by kernel_rfl) (by kernel_rfl) (fun _ _ _ h => h) (Or.inl ⟨by rfl, ?_⟩) (by assumption) ?_
  rotate_left
  · intro W hSw; obtain ⟨a0, a1, a3, a4⟩ := FC.out W hSw; go_simp; try with_reducible rfl
  try simp only [Act.put, List.setIfInBounds_toArray, List.set_cons_zero, List.set_cons_succ]
  refine wpAnyH_take (i := 5) (oi := { dst := some 12, op := Op.lookup 92 (Operand.tmp 10) (Operand.tmp 11) true, type := 119, pos := "disk.go:74", after := #[{ on := 3, ground := Ground.data }, { on := 4, ground := Ground.data }], guard := none }) (v := ?_) rfl (by kernel_rfl) (by kernel_rfl) (by kernel_rfl) (fun _ _ _ h => h) (Or.inl ⟨by rfl, ?_⟩) (by assumption) ?_
  rotate_left
  · intro W hSw; obtain ⟨a0, a1, a3, a4⟩ := FC.out W hSw; go_simp; try with_reducible rfl
  try simp only [Act.put, List.setIfInBounds_toArray, List.set_cons_zero, List.set_cons_succ]
  refine wpAnyH_take (i := 6) (oi := { dst := some 6, op := Op.move (Operand.tmp 12), type := 119, pos := "disk.go:74", after := #[{ on := 5, ground := Ground.data }], guard := none }) (v := ?_) rfl (by kernel_rfl) (by kernel_rfl) (by kernel_rfl) (fun _ _ _ h => h) (Or.inl ⟨by rfl, ?_⟩) (by assumption) ?_
  rotate_left
  · intro W hSw; go_simp; try with_reducible rfl
  try simp only [Act.put, List.setIfInBounds_toArray, List.set_cons_zero, List.set_cons_succ]
  refine wpAnyH_take (i := 7) (oi := { dst := some 13, op := Op.extract (Operand.tmp 6) 0, type := 118, pos := "disk.go:74", after := #[{ on := 6, ground := Ground.data }], guard := none }) (v := ?_) rfl (by kernel_rfl) (by kernel_rfl) (by kernel_rfl) (fun _ _ _ h => h) (Or.inl ⟨by rfl, ?_⟩) (by assumption) ?_
  rotate_left
  · intro W hSw; go_simp; try with_reducible rfl
  try simp only [Act.put, List.setIfInBounds_toArray, List.set_cons_zero, List.set_cons_succ]
  refine wpAnyH_take (i := 8) (oi := { dst := some 14, op := Op.extract (Operand.tmp 6) 1, type := 4, pos := "disk.go:74", after := #[{ on := 6, ground := Ground.data }, { on := 10, ground := Ground.gcOnly Departure.lateStores }], guard := none }) (v := ?_) rfl (by kernel_rfl) (by kernel_rfl) (by kernel_rfl) (fun _ _ _ h => h) (Or.inl ⟨by rfl, ?_⟩) (by assumption) ?_
  rotate_left
  · intro W hSw; go_simp; try with_reducible rfl
  try simp only [Act.put, List.setIfInBounds_toArray, List.set_cons_zero, List.set_cons_succ]
  refine wpAnyH_ready (rs := [9]) (by kernel_rfl) (by simp) ?_
  refine AllReadyH.cons (o := { dst := some 4, op := Op.alloc 118, type := 0, pos := "disk.go:74", after := #[], guard := none }) rfl (fun K hK => ?_) AllReadyH.nil
  go_simp
  refine hK.out _ _ (step_below ((Below.refl _ _).drew) (bl1 _ _)) (fun hHeldn => ?_)
  clear hK K hHeld; have hHeld := hHeldn; clear hHeldn
  try simp only [Act.put, List.setIfInBounds_toArray, List.set_cons_zero, List.set_cons_succ]
  refine wpAnyH_ready (rs := [10]) (by kernel_rfl) (by simp) ?_
  refine AllReadyH.cons (o := { dst := none, op := Op.store 118 (Operand.tmp 4) (Operand.tmp 13), type := 0, pos := "disk.go:74", after := #[{ on := 9, ground := Ground.data }, { on := 7, ground := Ground.data }, { on := 0, ground := Ground.phase }, { on := 1, ground := Ground.phase }, { on := 2, ground := Ground.phase }, { on := 3, ground := Ground.phase }, { on := 4, ground := Ground.phase }, { on := 5, ground := Ground.phase }, { on := 6, ground := Ground.phase }, { on := 7, ground := Ground.phase }, { on := 8, ground := Ground.textOnly Departure.lateStores }, { on := 9, ground := Ground.phase }], guard := none }) rfl (fun K hK => ?_) AllReadyH.nil
  go_simp
  refine hK.out _ _ (step_below ((Below.refl _ _).drew) (bl1 _ _)) (fun hHeldn => ?_)
  clear hK K hHeld; have hHeld := hHeldn; clear hHeldn
  try simp only [Act.put, List.setIfInBounds_toArray, List.set_cons_zero, List.set_cons_succ]
  refine wpAnyH_take (i := 11) (oi := { dst := some 5, op := Op.assign (Operand.tmp 14), type := 4, pos := "disk.go:74", after := #[{ on := 8, ground := Ground.data }, { on := 10, ground := Ground.chain }, { on := 0, ground := Ground.phase }, { on := 1, ground := Ground.phase }, { on := 2, ground := Ground.phase }, { on := 3, ground := Ground.phase }, { on := 4, ground := Ground.phase }, { on := 5, ground := Ground.phase }, { on := 6, ground := Ground.phase }, { on := 7, ground := Ground.phase }, { on := 8, ground := Ground.phase }, { on := 9, ground := Ground.phase }, { on := 10, ground := Ground.phase }], guard := none }) (v := ?_) rfl (by kernel_rfl) (by kernel_rfl) (by kernel_rfl) (fun _ _ _ h => h) (Or.inl ⟨by rfl, ?_⟩) (by assumption) ?_
  rotate_left
  · intro W hSw; go_simp; try with_reducible rfl
  try simp only [Act.put, List.setIfInBounds_toArray, List.set_cons_zero, List.set_cons_succ]
  refine wpAnyH_done (by kernel_rfl) ?_ _
  skip
  generalize (w.alloc (.cells #[.slice none 0 0, .int .i64 0] 118)).drew = W1 at hHeld ⊢
  go_wp2
  go_ret
  exact ⟨rfl, hHeld⟩
theorem boxes4 (w : World) (c0 c1 c2 c3 : Array Value) (t0 t1 t2 t3 : TypeId) :
    BoxC ((((w.alloc (.cells c0 t0)).alloc (.cells c1 t1)).alloc (.cells c2 t2)).alloc (.cells c3 t3)) w.heap.size c0 t0 ∧
    BoxC ((((w.alloc (.cells c0 t0)).alloc (.cells c1 t1)).alloc (.cells c2 t2)).alloc (.cells c3 t3)) (w.heap.size + 1) c1 t1 ∧
    BoxC ((((w.alloc (.cells c0 t0)).alloc (.cells c1 t1)).alloc (.cells c2 t2)).alloc (.cells c3 t3)) (w.heap.size + 1 + 1) c2 t2 ∧
    BoxC ((((w.alloc (.cells c0 t0)).alloc (.cells c1 t1)).alloc (.cells c2 t2)).alloc (.cells c3 t3)) (w.heap.size + 1 + 1 + 1) c3 t3 ∧
    Below w.heap.size w ((((w.alloc (.cells c0 t0)).alloc (.cells c1 t1)).alloc (.cells c2 t2)).alloc (.cells c3 t3)) := by
  refine ⟨(((BoxC.new w c0 t0).alloc _).alloc _).alloc _, ?_, ?_, ?_, step_below (step_below (step_below (bl1 _ _) (bl1 _ _)) (bl1 _ _)) (bl1 _ _)⟩
  · have := ((BoxC.new (w.alloc (.cells c0 t0)) c1 t1).alloc (.cells c2 t2)).alloc (.cells c3 t3)
    simpa using this
  · have := (BoxC.new ((w.alloc (.cells c0 t0)).alloc (.cells c1 t1)) c2 t2).alloc (.cells c3 t3)
    simpa using this
  · have := BoxC.new (((w.alloc (.cells c0 t0)).alloc (.cells c1 t1)).alloc (.cells c2 t2)) c3 t3
    simpa using this
theorem Nms.one {W : World} {bn : Nat} {s : ByteArray} (h : BoxC W bn #[.string s] 9) : Nms W bn [s] := fun k s' hk => by
  rw [h.cell]
  match k, hk with
  | 0, hk => cases hk; rfl
  | k + 1, hk => simp at hk
set_option maxHeartbeats 1000000 in
/-- with (64): the file is there. -/
theorem dwith_law {w : World} {p bm room : Nat} {L : List Fil} (h : Dk w p bm room L) (s : ByteArray) (hm : mayB s = true) (f : Fil) (hf : look L s = some f) (g : Nat) (eg : ∀ args w, (callFunc g args).run Try.prog w = .ok (.enter g args) w) (caps : Array Value) (R : World → Prop)
    (hdo : ∀ W, Below w.heap.size w W → Calls Try.prog g (#[.agg #[.slice f.ad f.bs.length f.cap, .int .i64 f.last]] ++ caps) W fun e w' => e = .returned (.tuple #[]) ∧ R w') :
    Calls Try.prog 64 #[.pointer (some ⟨p, 0, none⟩), .string s, .func (.func g) #[] caps] w fun e w' => e = .returned (.int .i64 0) ∧ R w' := by
  obtain ⟨h0, h1, h2, h3, hb⟩ := boxes4 w #[.pointer (some ⟨p, 0, none⟩)] #[.string s] #[.func (.func g) #[] caps] #[.string s] 23 9 129 9
  have HC := Lib.hid (dask_law (h.below hb) [s] 1 (w.heap.size + 1 + 1 + 1) rfl (by omega) (Nms.one h3) (by simpa using may_size hm) (by simpa using hm) 106 (enters_of Try.func106 (by kernel_rfl) rfl) _ (fun _ => 0) R
    (dwith1_law (h.below hb) _ _ _ s g caps h0 h1 h2 (may_size hm) f hf eg R fun W b => hdo W (step_below hb b)))
  clear h hdo h0 h1 h2 h3 hb hf
  go_enter Try.func64, Try.ntmps64
  go_wp2_with (go_at_call 67; refine HC.out.mono ?_; rintro e w' ⟨rfl, hR⟩)
  go_ret
  exact ⟨rfl, hR⟩
set_option maxHeartbeats 1000000 in
/-- .. there is no such file. -/
theorem dwith_no {w : World} {p bm room : Nat} {L : List Fil} (h : Dk w p bm room L) (s : ByteArray) (hm : mayB s = true) (hf : look L s = none) (g : Nat) (caps : Array Value) :
    Calls Try.prog 64 #[.pointer (some ⟨p, 0, none⟩), .string s, .func (.func g) #[] caps] w fun e w' => e = .returned (.int .i64 6) ∧ Below w.heap.size w w' := by
  obtain ⟨h0, h1, h2, h3, hb⟩ := boxes4 w #[.pointer (some ⟨p, 0, none⟩)] #[.string s] #[.func (.func g) #[] caps] #[.string s] 23 9 129 9
  have HB := Lib.hid hb
  have HC := Lib.hid (dask_law (h.below hb) [s] 1 (w.heap.size + 1 + 1 + 1) rfl (by omega) (Nms.one h3) (by simpa using may_size hm) (by simpa using hm) 106 (enters_of Try.func106 (by kernel_rfl) rfl) _ (fun _ => 6) (fun w' => Below w.heap.size w w')
    ((dwith1_no (h.below hb) _ _ (w.heap.size + 1 + 1) s h0 h1 (may_size hm) hf).mono fun e w' hh => ⟨hh.1, step_below hb hh.2⟩))
  clear h h0 h1 h2 h3 hb hf
  go_enter Try.func64, Try.ntmps64
  go_wp2_with (go_at_call 67; refine HC.out.mono ?_; rintro e w' ⟨rfl, hR⟩)
  go_ret
  exact ⟨rfl, hR⟩
set_option maxHeartbeats 1000000 in
/-- .. no file may have that name. -/
theorem dwith_bad {w : World} {p bm room : Nat} {L : List Fil} (h : Dk w p bm room L) (s : ByteArray) (hs : s.size ≤ maxLen) (hm : mayB s = false) (g : Nat) (caps : Array Value) :
    Calls Try.prog 64 #[.pointer (some ⟨p, 0, none⟩), .string s, .func (.func g) #[] caps] w fun e w' => e = .returned (.int .i64 2) ∧ Below w.heap.size w w' := by
  obtain ⟨h0, h1, h2, h3, hb⟩ := boxes4 w #[.pointer (some ⟨p, 0, none⟩)] #[.string s] #[.func (.func g) #[] caps] #[.string s] 23 9 129 9
  have HB := Lib.hid hb
  have HC := Lib.hid (fun v => dask_no (h.below hb) [s] 1 (w.heap.size + 1 + 1 + 1) rfl (by omega) (Nms.one h3) (by simpa using hs) (by simpa using hm) v)
  clear h h0 h1 h2 h3 hb
  go_enter Try.func64, Try.ntmps64
  go_wp2_with (go_at_call 67; refine (HC.out _).mono ?_; rintro e w' ⟨rfl, rfl⟩)
  go_ret
  exact ⟨rfl, HB.out⟩
end Go.Proofs.Ytbjhcbiihekceaa
