/- Disks: Copy. -/
import Derived.Test.YtbjhcbiihekceaaDky
namespace Go.Proofs.Ytbjhcbiihekceaa
open Go.ChangeShapes Go.WideShapes Go.ChangeAt Go.RowKit Go.Maps
set_option linter.unusedVariables false
set_option linter.unusedSimpArgs false
theorem Off.grown {W W' : World} {b : Nat} (o : Off (fun k => k = b) W W') : W.grownBy W' (some b) := ⟨o.os, o.tape, o.output, o.size, fun k hk hn => o.block k hk fun e => hn (by rw [e])⟩
theorem below_set {w W : World} (h : Below w.heap.size w W) (q : Addr) (hq : w.heap.size ≤ q.block) (v : Value) : Below w.heap.size w (W.setCell q v) :=
  ⟨h.os, h.tape, h.output, by simpa using h.size, fun k hk => (Below.heap_setCell _ _ _ k fun e => by omega).trans (h.block k hk)⟩
set_option maxHeartbeats 2000000 in
/-- file.copy (101). -/
theorem dfcopy_law {w : World} (f : Fil) (hr : RowAt w f) (hl : f.bs.length ≤ 1048576) : Calls Try.prog 101 #[.agg #[.slice f.ad f.bs.length f.cap, .int .i64 f.last]] w fun e w' => ∃ a c, e = .returned (.agg #[.slice a f.bs.length c, .int .i64 f.last]) ∧ w'.ownsRow w.heap.size 5 1 (.slice a f.bs.length c) f.bs.length (iv .u8 f.bs) ∧ Below w.heap.size w w' := by
  obtain ⟨h0, h1, hb⟩ := boxes2 w #[.slice f.ad f.bs.length f.cap, .int .i64 f.last] #[.slice none 0 0, .int .i64 0] 118 118
  have HBX := Lib.hid h0
  have HZ := Lib.hid h1
  have HB := Lib.hid hb
  have HLS := Lib.hid hr.ls
  clear h0 h1 hb hr
  go_enter Try.func101, Try.ntmps101
  go_wp2
  refine wp_region_held_drew (S := (fun X => Below w.heap.size w X ∧ BoxC X w.heap.size #[.slice f.ad f.bs.length f.cap, .int .i64 f.last] 118)) (by kernel_rfl) (⟨step_below HB.out ((Below.refl _ _).drew), HBX.out⟩) (fun hHeld => ?_)
  refine wpAnyH_take (i := 0) (oi := { dst := some 3, op := Op.fieldAddr 118 (Operand.tmp 1) 0, type := 0, pos := "disk.go:32", after := #[], guard := none }) (v := ?_) rfl (by kernel_rfl) (by kernel_rfl) (by kernel_rfl) (fun _ _ _ h => h) (Or.inl ⟨by rfl, ?_⟩) (by assumption) ?_
  rotate_left
  · intro W hSw; go_simp; try with_reducible rfl
  try simp only [Act.put, List.setIfInBounds_toArray, List.set_cons_zero, List.set_cons_succ]
  refine wpAnyH_take (i := 1) (oi := { dst := some 4, op := Op.load 34 (Operand.tmp 3), type := 34, pos := "disk.go:32", after := #[{ on := 0, ground := Ground.data }], guard := none }) (v := ?_) rfl (by kernel_rfl) (by kernel_rfl) (by kernel_rfl) (fun _ _ _ h => h) (Or.inl ⟨by rfl, ?_⟩) (by assumption) ?_
  rotate_left
  · intro W hSw; have a0 := hSw.2.cell 0; have a1 := hSw.2.cell 1; simp at a0 a1; go_simp; try with_reducible rfl
  try simp only [Act.put, List.setIfInBounds_toArray, List.set_cons_zero, List.set_cons_succ]
  refine wpAnyH_take (i := 3) (oi := { dst := some 6, op := Op.fieldAddr 118 (Operand.tmp 1) 1, type := 0, pos := "disk.go:32", after := #[], guard := none }) (v := ?_) rfl (by kernel_rfl) (by kernel_rfl) (by kernel_rfl) (fun _ _ _ h => h) (Or.inl ⟨by rfl, ?_⟩) (by assumption) ?_
  rotate_left
  · intro W hSw; go_simp; try with_reducible rfl
  try simp only [Act.put, List.setIfInBounds_toArray, List.set_cons_zero, List.set_cons_succ]
  refine wpAnyH_take (i := 4) (oi := { dst := some 7, op := Op.load 3 (Operand.tmp 6), type := 3, pos := "disk.go:32", after := #[{ on := 3, ground := Ground.data }], guard := none }) (v := ?_) rfl (by kernel_rfl) (by kernel_rfl) (by kernel_rfl) (fun _ _ _ h => h) (Or.inl ⟨by rfl, ?_⟩) (by assumption) ?_
  rotate_left
  · intro W hSw; have a0 := hSw.2.cell 0; have a1 := hSw.2.cell 1; simp at a0 a1; go_simp; try with_reducible rfl
  try simp only [Act.put, List.setIfInBounds_toArray, List.set_cons_zero, List.set_cons_succ]
  refine wpAnyH_ready (rs := [2]) (by kernel_rfl) (by simp) ?_
  refine AllReadyH.cons (o := { dst := some 5, op := Op.call { callee := Callee.value (Operand.func 66), args := #[Operand.tmp 4], argTypes := #[34] }, type := 34, pos := "disk.go:32", after := #[{ on := 1, ground := Ground.data }], guard := none }) rfl (fun K hK => ?_) AllReadyH.nil
  go_simp
  refine (dclone_law f.ad f.bs _ f.cap rfl hl _ (HLS.out.below (step_below HB.out ((Below.refl _ _).drew)))).mono ?_; rintro e w2 ⟨v, rfl, hO, hB2⟩; obtain ⟨va, vc, rfl, _⟩ := own_ls hO rfl; have HO2 := Lib.hid hO; clear hO; have HB2 := Lib.hid (step_below ((Below.refl _ _).drew) hB2); clear hB2; have c0 : w2.cell? ⟨w.heap.size + 1, 0, none⟩ = some (.slice none 0 0) := (HZ.out.below HB2.out).cell 0; have c1 : w2.cell? ⟨w.heap.size + 1, 1, none⟩ = some (.int .i64 0) := (HZ.out.below HB2.out).cell 1; have d0 : w2.frozen? ⟨w.heap.size + 1, 0, none⟩ = false := (HZ.out.below HB2.out).frozen 0; have d1 : w2.frozen? ⟨w.heap.size + 1, 1, none⟩ = false := (HZ.out.below HB2.out).frozen 1
  go_wp2_with fail
  refine hK.out _ _ (⟨step_below HB.out HB2.out, HBX.out.below HB2.out⟩) (fun hHeldn => ?_)
  clear hK K hHeld; have hHeld := hHeldn; clear hHeldn
  try simp only [Act.put, List.setIfInBounds_toArray, List.set_cons_zero, List.set_cons_succ]
  refine wpAnyH_take (i := 5) (oi := { dst := some 8, op := Op.build 118 #[(0, Operand.tmp 5), (1, Operand.tmp 7)], type := 118, pos := "disk.go:32", after := #[{ on := 2, ground := Ground.data }, { on := 4, ground := Ground.data }], guard := none }) (v := ?_) rfl (by kernel_rfl) (by kernel_rfl) (by kernel_rfl) (fun _ _ _ h => h) (Or.inl ⟨by rfl, ?_⟩) (by assumption) ?_
  rotate_left
  · intro W hSw; go_simp; try with_reducible rfl
  try simp only [Act.put, List.setIfInBounds_toArray, List.set_cons_zero, List.set_cons_succ]
  refine wpAnyH_ready (rs := [6]) (by kernel_rfl) (by simp) ?_
  refine AllReadyH.cons (o := { dst := none, op := Op.store 118 (Operand.tmp 2) (Operand.tmp 8), type := 0, pos := "disk.go:32", after := #[{ on := 5, ground := Ground.data }, { on := 2, ground := Ground.chain }, { on := 0, ground := Ground.phase }, { on := 1, ground := Ground.phase }, { on := 2, ground := Ground.phase }, { on := 3, ground := Ground.phase }, { on := 4, ground := Ground.phase }, { on := 5, ground := Ground.phase }], guard := none }) rfl (fun K hK => ?_) AllReadyH.nil
  go_simp
  refine hK.out _ _ ⟨below_set (below_set hHeld.1 _ (by simp) _) _ (by simp) _, (hHeld.2.oth (by simp)).oth (by simp)⟩ (fun hHeldn => ?_)
  clear hK K hHeld; have hHeld := hHeldn; clear hHeldn
  try simp only [Act.put, List.setIfInBounds_toArray, List.set_cons_zero, List.set_cons_succ]
  refine wpAnyH_done (by kernel_rfl) ?_ _
  skip
  have hN := ((HZ.out.below HB2.out).put 0 (.slice va f.bs.length vc)).put 1 (.int .i64 f.last)
  simp only [List.setIfInBounds_toArray, List.set_cons_zero, List.set_cons_succ] at hN
  have hO9 : ((w2.setCell ⟨w.heap.size + 1, 0, none⟩ (.slice va f.bs.length vc)).setCell ⟨w.heap.size + 1, 1, none⟩ (.int .i64 f.last)).ownsRow w.heap.size 5 1 (.slice va f.bs.length vc) f.bs.length (iv .u8 f.bs) := by
    have h := HO2.out
    simp only [World.drew, World.size_alloc] at h
    have h1 := h.kept (Off.grown ((Off.refl (fun k => k = w.heap.size + 1) w2).set ⟨w.heap.size + 1, 0, none⟩ rfl (.slice va f.bs.length vc) |>.set ⟨w.heap.size + 1, 1, none⟩ rfl (.int .i64 f.last))) (by
      rcases h.2 with ⟨hv, _⟩ | ⟨g, cap, cur, hv, hg, _⟩
      · rw [hv]; exact Or.inl rfl
      · rw [hv]; exact Or.inr (fun e => by simp [Value.ownBlock] at e; omega))
    exact own_base h1 (by omega)
  generalize (w2.setCell ⟨w.heap.size + 1, 0, none⟩ (.slice va f.bs.length vc)).setCell ⟨w.heap.size + 1, 1, none⟩ (.int .i64 f.last) = W9 at hHeld hN hO9 ⊢
  have r0 : W9.cell? ⟨w.heap.size + 1, 0, none⟩ = some (.slice va f.bs.length vc) := hN.cell 0
  have r1 : W9.cell? ⟨w.heap.size + 1, 1, none⟩ = some (.int .i64 f.last) := hN.cell 1
  have HO9 := Lib.hid hO9
  have HB9 := Lib.hid hHeld.1
  clear hO9 hHeld hN c0 c1 d0 d1
  go_wp2
  refine bodyPost_ret (v := .agg #[.slice va f.bs.length vc, .int .i64 f.last]) ?_ rfl ⟨va, vc, rfl, HO9.out, HB9.out⟩
  simp [results, Try.f101, go_sem, r0, r1]
end Go.Proofs.Ytbjhcbiihekceaa
