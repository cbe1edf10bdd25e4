/- 'DiskLasts' returns true whatever its arguments, which read afterwards as before; no conditions. What a crash leaves, the calls' contracts, the walk, and the row's step over it. -/
import Derived.Test.YtbjhcbiihekceaaDh2
import Derived.Deep.CutBlock
import Derived.Deep.DeepCutAuto
import Derived.BigQuiet
import Derived.Test.YtbjhcbiihekceaaDh3
import Derived.Test.YtbjhcbiihekceaaRows
import Derived.WalkKit
import Derived.ProofKit
import Derived.OpenShut
import Derived.ShutString
import Derived.ChangeOld
import Derived.Below
namespace Go.Proofs.Ytbjhcbiihekceaa
open Go.ChangeShapes Go.WideShapes Go.ChangeAt Go.RowKit Go.Maps Go.Shelf
set_option linter.unusedVariables false
set_option linter.unusedSimpArgs false
def BoolR (w : World) (b : Bool) (e : Ending) (w' : World) : Prop := e = .returned (.bool b) ∧ Below w.heap.size w w'
theorem BoolR.mk {w w' : World} {b c : Bool} (h : b = c) (hb : Below w.heap.size w w') : BoolR w b (.returned (.bool c)) w' := ⟨by rw [h], hb⟩
set_option maxRecDepth 100000 in
set_option maxHeartbeats 4000000 in
/-- Same (20), of two that are there. -/
theorem r_same {w : World} {q room q2 room2 : Nat} {C C2 : List CF} {O O2 : Nat → Prop} (h : RDC w q room C O) (h2 : RDC w q2 room2 C2 O2) (hf : Fine room C) (hf2 : Fine room2 C2) :
    Calls Try.prog 20 #[.pointer (some ⟨q, 0, none⟩), .pointer (some ⟨q2, 0, none⟩)] w (BoolR w (decide (room = room2 ∧ C = C2))) := by
  obtain ⟨R, ra, rc, hr, rfl, _⟩ := h
  obtain ⟨R2, ra2, rc2, hr2, rfl, _⟩ := h2
  obtain ⟨b, hb⟩ : ∃ b, decide (room = room2 ∧ R.map core = R2.map core) = b := ⟨_, rfl⟩
  rw [hb]
  have HF := Lib.hid hf
  have HF2 := Lib.hid hf2
  have H := Lib.hid hr
  have H2 := Lib.hid hr2
  obtain ⟨n, hn⟩ : ∃ n, R.length = n := ⟨_, rfl⟩
  obtain ⟨n2, hn2⟩ : ∃ n2, R2.length = n2 := ⟨_, rfl⟩
  have hn64 : n ≤ 64 := by rw [← hn]; simpa using hf.few
  have HN := Lib.hid hn
  have HN2 := Lib.hid hn2
  have y0 := hr.c0
  have y1 := hr.c1
  have z0 := hr2.c0
  have z1 := hr2.c1
  rw [hn] at y1
  rw [hn2] at z1
  clear hf hf2 hr hr2 hn hn2
  by_cases hro : room = room2
  · subst hro
    have HTB := Lib.hid (show R.map core = R2.map core → b = true from fun h => hb.symm.trans (decide_eq_true ⟨rfl, h⟩))
    have HFB := Lib.hid (show ¬ R.map core = R2.map core → b = false from fun h => hb.symm.trans (decide_eq_false fun k => h k.2))
    clear hb
    by_cases hl : n = n2
    · subst hl
      go_enter Try.func20, Try.ntmps20
      go_wp2_with fail
      go_quiet (fail)
      go_wp2_with fail
      go_loopw [5] (fun i wr => ∃ k : Nat, k ≤ n ∧ i = .int .i64 (k : Int) ∧ Below w.heap.size w wr ∧ Hid (∀ j < k, (R.map core)[j]? = (R2.map core)[j]?)) (fun i _ => n - (intOf i).toNat)
      case atStart => exact ⟨0, Nat.zero_le _, rfl, below_drewN (Below.refl _ _) nq, Lib.hid fun j hj => absurd hj (Nat.not_lt_zero _)⟩
      case round =>
        obtain ⟨k, hk, rfl, hbr, HI⟩ := hrel
        have a1' := (hbr.cell (cell_lt y1)).trans y1
        have b1' := (hbr.cell (cell_lt z1)).trans z1
        by_cases hlt : k < n
        · have d1 : (k : Int) < (n : Int) := by omega
          obtain ⟨f, hf⟩ : ∃ f, R[k]? = some f := ⟨_, List.getElem?_eq_getElem (by rw [HN.out]; exact hlt)⟩
          obtain ⟨f2, hf2⟩ : ∃ f, R2[k]? = some f := ⟨_, List.getElem?_eq_getElem (by rw [HN2.out]; exact hlt)⟩
          obtain ⟨g, rfl, hg, x1, x2, x3⟩ := (H.out.below hbr).file hf
          obtain ⟨g2, rfl, hg2, u1, u2, u3⟩ := (H2.out.below hbr).file hf2
          have FQ := Lib.hid (fun X (b : Below wr.heap.size wr X) => (⟨(b.cell (cell_lt a1')).trans a1', (b.cell (cell_lt x1)).trans x1, (b.cell (cell_lt x2)).trans x2, (b.cell (cell_lt x3)).trans x3, (b.cell (cell_lt b1')).trans b1', (b.cell (cell_lt u1)).trans u1, (b.cell (cell_lt u2)).trans u2, (b.cell (cell_lt u3)).trans u3⟩ : X.cell? ⟨q, 1, none⟩ = some (.slice (some ⟨g, 0, none⟩) n rc) ∧ X.cell? ⟨g, k * 3, none⟩ = some (.string f.nm) ∧ X.cell? ⟨g, k * 3 + 1, none⟩ = some (.slice f.ad f.bs.length f.cap) ∧ X.cell? ⟨g, k * 3 + 2, none⟩ = some (.int .i64 f.last) ∧
            X.cell? ⟨q2, 1, none⟩ = some (.slice (some ⟨g2, 0, none⟩) n rc2) ∧ X.cell? ⟨g2, k * 3, none⟩ = some (.string f2.nm) ∧ X.cell? ⟨g2, k * 3 + 1, none⟩ = some (.slice f2.ad f2.bs.length f2.cap) ∧ X.cell? ⟨g2, k * 3 + 2, none⟩ = some (.int .i64 f2.last)))
          have HBR := Lib.hid hbr
          have HAT := Lib.hid (And.intro hf hf2)
          have HBY := Lib.hid (And.intro (HF.out.each _ (List.mem_map.2 ⟨f, List.mem_of_getElem? hf, rfl⟩)).2.1 (HF2.out.each _ (List.mem_map.2 ⟨f2, List.mem_of_getElem? hf2, rfl⟩)).2.1)
          have HLS := Lib.hid (And.intro ((H.out.below hbr).rows f (List.mem_of_getElem? hf)).1 ((H2.out.below hbr).rows f2 (List.mem_of_getElem? hf2)).1)
          clear hf hf2 x1 x2 x3 u1 u2 u3 hbr hg hg2
          go_wp2_with fail
          rename_i KK hKK
          refine Code.wp_mono (Q := Exit.then KK (fun _ _ _ => False)) (fun e a' w' h => by cases e <;> first | exact h | exact h.elim) ?_
          refine wp_region_held_drew (S := (fun X => Below wr.heap.size wr X)) (by kernel_rfl) ((Below.refl _ _).drew) (fun hHeld => ?_)
          refine wpAnyH_take (i := 0) (oi := { dst := some 51, op := Op.move (Operand.tmp 0), type := 27, pos := "ref.go:226", after := #[], guard := none }) (v := ?_) rfl (by kernel_rfl) (by kernel_rfl) (by kernel_rfl) (fun _ _ _ h => h) (Or.inl ⟨by rfl, ?_⟩) (by assumption) ?_
          rotate_left
          · intro W hSw; go_simp; try with_reducible rfl
          try simp only [Act.put, List.setIfInBounds_toArray, List.set_cons_zero, List.set_cons_succ]
          refine wpAnyH_take (i := 1) (oi := { dst := some 52, op := Op.nilCheck (Operand.tmp 51), type := 0, pos := "ref.go:226", after := #[{ on := 0, ground := Ground.data }], guard := none }) (v := ?_) rfl (by kernel_rfl) (by kernel_rfl) (by kernel_rfl) (fun _ _ _ h => h) (Or.inl ⟨by rfl, ?_⟩) (by assumption) ?_
          rotate_left
          · intro W hSw; go_simp; try with_reducible rfl
          try simp only [Act.put, List.setIfInBounds_toArray, List.set_cons_zero, List.set_cons_succ]
          refine wpAnyH_take (i := 2) (oi := { dst := some 53, op := Op.fieldAddr 97 (Operand.tmp 52) 1, type := 0, pos := "ref.go:226", after := #[{ on := 1, ground := Ground.data }], guard := none }) (v := ?_) rfl (by kernel_rfl) (by kernel_rfl) (by kernel_rfl) (fun _ _ _ h => h) (Or.inl ⟨by rfl, ?_⟩) (by assumption) ?_
          rotate_left
          · intro W hSw; go_simp; try with_reducible rfl
          try simp only [Act.put, List.setIfInBounds_toArray, List.set_cons_zero, List.set_cons_succ]
          refine wpAnyH_take (i := 3) (oi := { dst := some 54, op := Op.load 95 (Operand.tmp 53), type := 95, pos := "ref.go:226", after := #[{ on := 2, ground := Ground.data }], guard := none }) (v := ?_) rfl (by kernel_rfl) (by kernel_rfl) (by kernel_rfl) (fun _ _ _ h => h) (Or.inl ⟨by rfl, ?_⟩) (by assumption) ?_
          rotate_left
          · intro W hSw; obtain ⟨a0, a1, a2, a3, a4, b2, b3, b4⟩ := FQ.out W hSw; go_simp; try with_reducible rfl
          try simp only [Act.put, List.setIfInBounds_toArray, List.set_cons_zero, List.set_cons_succ]
          refine wpAnyH_take (i := 4) (oi := { dst := some 55, op := Op.move (Operand.tmp 5), type := 3, pos := "ref.go:226", after := #[], guard := none }) (v := ?_) rfl (by kernel_rfl) (by kernel_rfl) (by kernel_rfl) (fun _ _ _ h => h) (Or.inl ⟨by rfl, ?_⟩) (by assumption) ?_
          rotate_left
          · intro W hSw; go_simp; try with_reducible rfl
          try simp only [Act.put, List.setIfInBounds_toArray, List.set_cons_zero, List.set_cons_succ]
          refine wpAnyH_take (i := 5) (oi := { dst := some 56, op := Op.indexAddr 95 (Operand.tmp 54) (Operand.tmp 55), type := 0, pos := "ref.go:226", after := #[{ on := 3, ground := Ground.data }, { on := 4, ground := Ground.data }], guard := none }) (v := ?_) rfl (by kernel_rfl) (by kernel_rfl) (by kernel_rfl) (fun _ _ _ h => h) (Or.inl ⟨by rfl, ?_⟩) (by assumption) ?_
          rotate_left
          · intro W hSw; go_simp; try with_reducible rfl
          try simp only [Act.put, List.setIfInBounds_toArray, List.set_cons_zero, List.set_cons_succ]
          refine wpAnyH_take (i := 6) (oi := { dst := some 57, op := Op.load 111 (Operand.tmp 56), type := 111, pos := "ref.go:226", after := #[{ on := 5, ground := Ground.data }], guard := none }) (v := ?_) rfl (by kernel_rfl) (by kernel_rfl) (by kernel_rfl) (fun _ _ _ h => h) (Or.inl ⟨by rfl, ?_⟩) (by assumption) ?_
          rotate_left
          · intro W hSw; obtain ⟨a0, a1, a2, a3, a4, b2, b3, b4⟩ := FQ.out W hSw; go_simp; try with_reducible rfl
          try simp only [Act.put, List.setIfInBounds_toArray, List.set_cons_zero, List.set_cons_succ]
          refine wpAnyH_take (i := 7) (oi := { dst := some 58, op := Op.move (Operand.tmp 1), type := 27, pos := "ref.go:226", after := #[{ on := 16, ground := Ground.gcOnly Departure.lateStores }], guard := none }) (v := ?_) rfl (by kernel_rfl) (by kernel_rfl) (by kernel_rfl) (fun _ _ _ h => h) (Or.inl ⟨by rfl, ?_⟩) (by assumption) ?_
          rotate_left
          · intro W hSw; go_simp; try with_reducible rfl
          try simp only [Act.put, List.setIfInBounds_toArray, List.set_cons_zero, List.set_cons_succ]
          refine wpAnyH_take (i := 8) (oi := { dst := some 59, op := Op.nilCheck (Operand.tmp 58), type := 0, pos := "ref.go:226", after := #[{ on := 7, ground := Ground.data }, { on := 16, ground := Ground.gcOnly Departure.lateStores }], guard := none }) (v := ?_) rfl (by kernel_rfl) (by kernel_rfl) (by kernel_rfl) (fun _ _ _ h => h) (Or.inl ⟨by rfl, ?_⟩) (by assumption) ?_
          rotate_left
          · intro W hSw; go_simp; try with_reducible rfl
          try simp only [Act.put, List.setIfInBounds_toArray, List.set_cons_zero, List.set_cons_succ]
          refine wpAnyH_take (i := 9) (oi := { dst := some 60, op := Op.fieldAddr 97 (Operand.tmp 59) 1, type := 0, pos := "ref.go:226", after := #[{ on := 8, ground := Ground.data }, { on := 16, ground := Ground.gcOnly Departure.lateStores }], guard := none }) (v := ?_) rfl (by kernel_rfl) (by kernel_rfl) (by kernel_rfl) (fun _ _ _ h => h) (Or.inl ⟨by rfl, ?_⟩) (by assumption) ?_
          rotate_left
          · intro W hSw; go_simp; try with_reducible rfl
          try simp only [Act.put, List.setIfInBounds_toArray, List.set_cons_zero, List.set_cons_succ]
          refine wpAnyH_take (i := 10) (oi := { dst := some 61, op := Op.load 95 (Operand.tmp 60), type := 95, pos := "ref.go:226", after := #[{ on := 9, ground := Ground.data }, { on := 16, ground := Ground.gcOnly Departure.lateStores }], guard := none }) (v := ?_) rfl (by kernel_rfl) (by kernel_rfl) (by kernel_rfl) (fun _ _ _ h => h) (Or.inl ⟨by rfl, ?_⟩) (by assumption) ?_
          rotate_left
          · intro W hSw; obtain ⟨a0, a1, a2, a3, a4, b2, b3, b4⟩ := FQ.out W hSw; go_simp; try with_reducible rfl
          try simp only [Act.put, List.setIfInBounds_toArray, List.set_cons_zero, List.set_cons_succ]
          refine wpAnyH_take (i := 11) (oi := { dst := some 62, op := Op.move (Operand.tmp 5), type := 3, pos := "ref.go:226", after := #[{ on := 16, ground := Ground.gcOnly Departure.lateStores }], guard := none }) (v := ?_) rfl (by kernel_rfl) (by kernel_rfl) (by kernel_rfl) (fun _ _ _ h => h) (Or.inl ⟨by rfl, ?_⟩) (by assumption) ?_
          rotate_left
          · intro W hSw; go_simp; try with_reducible rfl
          try simp only [Act.put, List.setIfInBounds_toArray, List.set_cons_zero, List.set_cons_succ]
          refine wpAnyH_take (i := 12) (oi := { dst := some 63, op := Op.indexAddr 95 (Operand.tmp 61) (Operand.tmp 62), type := 0, pos := "ref.go:226", after := #[{ on := 10, ground := Ground.data }, { on := 11, ground := Ground.data }, { on := 16, ground := Ground.gcOnly Departure.lateStores }], guard := none }) (v := ?_) rfl (by kernel_rfl) (by kernel_rfl) (by kernel_rfl) (fun _ _ _ h => h) (Or.inl ⟨by rfl, ?_⟩) (by assumption) ?_
          rotate_left
          · intro W hSw; go_simp; try with_reducible rfl
          try simp only [Act.put, List.setIfInBounds_toArray, List.set_cons_zero, List.set_cons_succ]
          refine wpAnyH_take (i := 13) (oi := { dst := some 64, op := Op.load 111 (Operand.tmp 63), type := 111, pos := "ref.go:226", after := #[{ on := 12, ground := Ground.data }, { on := 16, ground := Ground.gcOnly Departure.lateStores }], guard := none }) (v := ?_) rfl (by kernel_rfl) (by kernel_rfl) (by kernel_rfl) (fun _ _ _ h => h) (Or.inl ⟨by rfl, ?_⟩) (by assumption) ?_
          rotate_left
          · intro W hSw; obtain ⟨a0, a1, a2, a3, a4, b2, b3, b4⟩ := FQ.out W hSw; go_simp; try with_reducible rfl
          try simp only [Act.put, List.setIfInBounds_toArray, List.set_cons_zero, List.set_cons_succ]
          refine wpAnyH_ready (rs := [14, 15]) (by kernel_rfl) (by simp) ?_
          refine AllReadyH.cons (o := { dst := some 6, op := Op.alloc 111, type := 0, pos := "ref.go:226", after := #[], guard := none }) rfl (fun K hK => ?_) ?_
          · skip
            go_simp
            refine hK.out _ _ (Below.alloc hHeld hHeld.size _) (fun hHeldn => ?_)
            clear hK K hHeld; have hHeld := hHeldn; clear hHeldn
            try simp only [Act.put, List.setIfInBounds_toArray, List.set_cons_zero, List.set_cons_succ]
            refine wpAnyH_ready (rs := [15]) (by kernel_rfl) (by simp) ?_
            refine AllReadyH.cons (o := { dst := some 7, op := Op.alloc 111, type := 0, pos := "ref.go:226", after := #[], guard := none }) rfl (fun K hK => ?_) AllReadyH.nil
            go_simp
            refine hK.out _ _ (Below.alloc hHeld hHeld.size _) (fun hHeldn => ?_)
            clear hK K hHeld; have hHeld := hHeldn; clear hHeldn
            try simp only [Act.put, List.setIfInBounds_toArray, List.set_cons_zero, List.set_cons_succ]
            refine wpAnyH_ready (rs := [16]) (by kernel_rfl) (by simp) ?_
            refine AllReadyH.cons (o := { dst := none, op := Op.store 111 (Operand.tmp 6) (Operand.tmp 57), type := 0, pos := "ref.go:226", after := #[{ on := 14, ground := Ground.data }, { on := 6, ground := Ground.data }, { on := 0, ground := Ground.phase }, { on := 1, ground := Ground.phase }, { on := 2, ground := Ground.phase }, { on := 3, ground := Ground.phase }, { on := 4, ground := Ground.phase }, { on := 5, ground := Ground.phase }, { on := 6, ground := Ground.phase }, { on := 7, ground := Ground.textOnly Departure.lateStores }, { on := 8, ground := Ground.textOnly Departure.lateStores }, { on := 9, ground := Ground.textOnly Departure.lateStores }, { on := 10, ground := Ground.textOnly Departure.lateStores }, { on := 11, ground := Ground.textOnly Departure.lateStores }, { on := 12, ground := Ground.textOnly Departure.lateStores }, { on := 13, ground := Ground.textOnly Departure.lateStores }, { on := 14, ground := Ground.phase }, { on := 15, ground := Ground.phase }], guard := none }) rfl (fun K hK => ?_) AllReadyH.nil
            go_simp
            refine hK.out _ _ ((((Below.refl _ wr).alloc (Nat.le_refl _) _).alloc (by simp) _).drew) (fun hHeldn => ?_)
            clear hK K hHeld; have hHeld := hHeldn; clear hHeldn
            try simp only [Act.put, List.setIfInBounds_toArray, List.set_cons_zero, List.set_cons_succ]
            refine wpAnyH_ready (rs := [17]) (by kernel_rfl) (by simp) ?_
            refine AllReadyH.cons (o := { dst := none, op := Op.store 111 (Operand.tmp 7) (Operand.tmp 64), type := 0, pos := "ref.go:226", after := #[{ on := 15, ground := Ground.data }, { on := 13, ground := Ground.data }, { on := 16, ground := Ground.chain }, { on := 0, ground := Ground.phase }, { on := 1, ground := Ground.phase }, { on := 2, ground := Ground.phase }, { on := 3, ground := Ground.phase }, { on := 4, ground := Ground.phase }, { on := 5, ground := Ground.phase }, { on := 6, ground := Ground.phase }, { on := 7, ground := Ground.phase }, { on := 8, ground := Ground.phase }, { on := 9, ground := Ground.phase }, { on := 10, ground := Ground.phase }, { on := 11, ground := Ground.phase }, { on := 12, ground := Ground.phase }, { on := 13, ground := Ground.phase }, { on := 14, ground := Ground.phase }, { on := 15, ground := Ground.phase }, { on := 16, ground := Ground.phase }], guard := none }) rfl (fun K hK => ?_) AllReadyH.nil
            go_simp
            refine hK.out _ _ ((((Below.refl _ wr).alloc (Nat.le_refl _) _).alloc (by simp) _).drew) (fun hHeldn => ?_)
            clear hK K hHeld; have hHeld := hHeldn; clear hHeldn
            try simp only [Act.put, List.setIfInBounds_toArray, List.set_cons_zero, List.set_cons_succ]
            refine wpAnyH_done (by kernel_rfl) ?_ _
            refine hKK _ _ ?_
            obtain ⟨W6, hW6⟩ : ∃ W6, ((wr.alloc (.cells #[.string f.nm, .slice f.ad f.bs.length f.cap, .int .i64 f.last] 111)).alloc (.cells #[.string f2.nm, .slice f2.ad f2.bs.length f2.cap, .int .i64 f2.last] 111)).drew = W6 := ⟨_, rfl⟩
            have HB6 := Lib.hid (show Below wr.heap.size wr W6 by rw [← hW6]; exact (((Below.refl _ wr).alloc (Nat.le_refl _) _).alloc (by simp) _).drew)
            have e1 : BoxC W6 wr.heap.size #[.string f.nm, .slice f.ad f.bs.length f.cap, .int .i64 f.last] 111 := by rw [← hW6]; exact ((BoxC.new wr #[.string f.nm, .slice f.ad f.bs.length f.cap, .int .i64 f.last] 111).alloc _)
            have e2 : BoxC W6 (wr.heap.size + 1) #[.string f2.nm, .slice f2.ad f2.bs.length f2.cap, .int .i64 f2.last] 111 := by rw [← hW6]; have := BoxC.new (wr.alloc (.cells #[.string f.nm, .slice f.ad f.bs.length f.cap, .int .i64 f.last] 111)) #[.string f2.nm, .slice f2.ad f2.bs.length f2.cap, .int .i64 f2.last] 111; rw [World.size_alloc] at this; exact this
            rw [hW6]
            clear hW6
            have HBX := Lib.hid (show W6.cell? ⟨wr.heap.size, 0, none⟩ = some (.string f.nm) ∧ W6.cell? ⟨wr.heap.size, 1, none⟩ = some (.slice f.ad f.bs.length f.cap) ∧ W6.cell? ⟨wr.heap.size, 2, none⟩ = some (.int .i64 f.last) ∧ W6.cell? ⟨wr.heap.size + 1, 0, none⟩ = some (.string f2.nm) ∧ W6.cell? ⟨wr.heap.size + 1, 1, none⟩ = some (.slice f2.ad f2.bs.length f2.cap) ∧ W6.cell? ⟨wr.heap.size + 1, 2, none⟩ = some (.int .i64 f2.last) from ⟨e1.cell 0, e1.cell 1, e1.cell 2, e2.cell 0, e2.cell 1, e2.cell 2⟩)
            clear e1 e2
            clear hKK FQ hHeld
            obtain ⟨c60, c61, c62, c70, c71, c72⟩ := HBX.out
            by_cases hnm : f.nm = f2.nm
            · by_cases hbs : f.bs = f2.bs
              · by_cases hla : f.last = f2.last
                · have HIN := Lib.hid (show ∀ j < k + 1, (R.map core)[j]? = (R2.map core)[j]? from jstep HI.out (by rw [List.getElem?_map, List.getElem?_map, HAT.out.1, HAT.out.2]; simp [core, hnm, hbs, hla]))
                  have q1 := conv_ls W6 f.ad f.bs.length f.cap f.bs rfl (HLS.out.1.below HB6.out).rd
                  have q2 := conv_ls W6 f2.ad f2.bs.length f2.cap f2.bs rfl (HLS.out.2.below HB6.out).rd
                  rw [← hbs] at q2
                  rw [← hnm] at c70
                  rw [← hla] at c72
                  generalize strOfNums f.bs = str at q1 q2
                  rw [← hbs] at c71
                  clear hnm hbs hla
                  go_wp2_with fail
                  go_roundw
                  case rel => exact ⟨k + 1, by omega, by go_num, step_below HBR.out HB6.out, HIN⟩
                  case measure => simp [intOf]; omega
                · have HNE := Lib.hid (show b = false from HFB.out fun h => hla (by have := congrArg (fun l => l[k]?) h; simp only [List.getElem?_map, HAT.out.1, HAT.out.2, Option.map_some, Option.some.injEq] at this; exact congrArg (·.2.2) this))
                  have q1 := conv_ls W6 f.ad f.bs.length f.cap f.bs rfl (HLS.out.1.below HB6.out).rd
                  have q2 := conv_ls W6 f2.ad f2.bs.length f2.cap f2.bs rfl (HLS.out.2.below HB6.out).rd
                  rw [← hbs] at q2
                  rw [← hnm] at c70
                  generalize strOfNums f.bs = str at q1 q2
                  rw [← hbs] at c71
                  have d4 : ¬ ((f.last : Nat) : Int) = ((f2.last : Nat) : Int) := by omega
                  clear hnm hbs hla
                  go_wp2_with fail
                  go_ret
                  exact BoolR.mk HNE.out (step_below HBR.out HB6.out)
              · have HNE := Lib.hid (show b = false from HFB.out fun h => hbs (by have := congrArg (fun l => l[k]?) h; simp only [List.getElem?_map, HAT.out.1, HAT.out.2, Option.map_some, Option.some.injEq] at this; exact congrArg (·.2.1) this))
                have q1 := conv_ls W6 f.ad f.bs.length f.cap f.bs rfl (HLS.out.1.below HB6.out).rd
                have q2 := conv_ls W6 f2.ad f2.bs.length f2.cap f2.bs rfl (HLS.out.2.below HB6.out).rd
                have hs : ((strOfNums f.bs).toList == (strOfNums f2.bs).toList) = false := by
                  rw [beq_eq_false_iff_ne]
                  intro e
                  rw [ByteArray.toList_eq, ByteArray.toList_eq] at e
                  exact hbs (str_inj HBY.out.1 HBY.out.2 (ByteArray.ext (Array.toList_inj.1 e)))
                generalize strOfNums f.bs = sL at q1 hs
                generalize strOfNums f2.bs = sM at q2 hs
                rw [← hnm] at c70
                clear hnm hbs
                go_wp2_with fail
                go_ret
                exact BoolR.mk HNE.out (step_below HBR.out HB6.out)
            · have HNE := Lib.hid (show b = false from HFB.out fun h => hnm (by have := congrArg (fun l => l[k]?) h; simp only [List.getElem?_map, HAT.out.1, HAT.out.2, Option.map_some, Option.some.injEq] at this; exact congrArg (·.1) this))
              have hs : (f.nm.toList == f2.nm.toList) = false := by
                rw [beq_eq_false_iff_ne]
                intro e
                rw [ByteArray.toList_eq, ByteArray.toList_eq] at e
                exact hnm (ByteArray.ext (Array.toList_inj.1 e))
              clear hnm
              go_wp2_with fail
              go_ret
              exact BoolR.mk HNE.out (step_below HBR.out HB6.out)
          refine AllReadyH.cons (o := { dst := some 7, op := Op.alloc 111, type := 0, pos := "ref.go:226", after := #[], guard := none }) rfl (fun K hK => ?_) AllReadyH.nil
          go_simp
          refine hK.out _ _ (Below.alloc hHeld hHeld.size _) (fun hHeldn => ?_)
          clear hK K hHeld; have hHeld := hHeldn; clear hHeldn
          try simp only [Act.put, List.setIfInBounds_toArray, List.set_cons_zero, List.set_cons_succ]
          refine wpAnyH_ready (rs := [14]) (by kernel_rfl) (by simp) ?_
          refine AllReadyH.cons (o := { dst := some 6, op := Op.alloc 111, type := 0, pos := "ref.go:226", after := #[], guard := none }) rfl (fun K hK => ?_) AllReadyH.nil
          go_simp
          refine hK.out _ _ (Below.alloc hHeld hHeld.size _) (fun hHeldn => ?_)
          clear hK K hHeld; have hHeld := hHeldn; clear hHeldn
          try simp only [Act.put, List.setIfInBounds_toArray, List.set_cons_zero, List.set_cons_succ]
          refine wpAnyH_ready (rs := [16]) (by kernel_rfl) (by simp) ?_
          refine AllReadyH.cons (o := { dst := none, op := Op.store 111 (Operand.tmp 6) (Operand.tmp 57), type := 0, pos := "ref.go:226", after := #[{ on := 14, ground := Ground.data }, { on := 6, ground := Ground.data }, { on := 0, ground := Ground.phase }, { on := 1, ground := Ground.phase }, { on := 2, ground := Ground.phase }, { on := 3, ground := Ground.phase }, { on := 4, ground := Ground.phase }, { on := 5, ground := Ground.phase }, { on := 6, ground := Ground.phase }, { on := 7, ground := Ground.textOnly Departure.lateStores }, { on := 8, ground := Ground.textOnly Departure.lateStores }, { on := 9, ground := Ground.textOnly Departure.lateStores }, { on := 10, ground := Ground.textOnly Departure.lateStores }, { on := 11, ground := Ground.textOnly Departure.lateStores }, { on := 12, ground := Ground.textOnly Departure.lateStores }, { on := 13, ground := Ground.textOnly Departure.lateStores }, { on := 14, ground := Ground.phase }, { on := 15, ground := Ground.phase }], guard := none }) rfl (fun K hK => ?_) AllReadyH.nil
          go_simp
          refine hK.out _ _ ((((Below.refl _ wr).alloc (Nat.le_refl _) _).alloc (by simp) _).drew) (fun hHeldn => ?_)
          clear hK K hHeld; have hHeld := hHeldn; clear hHeldn
          try simp only [Act.put, List.setIfInBounds_toArray, List.set_cons_zero, List.set_cons_succ]
          refine wpAnyH_ready (rs := [17]) (by kernel_rfl) (by simp) ?_
          refine AllReadyH.cons (o := { dst := none, op := Op.store 111 (Operand.tmp 7) (Operand.tmp 64), type := 0, pos := "ref.go:226", after := #[{ on := 15, ground := Ground.data }, { on := 13, ground := Ground.data }, { on := 16, ground := Ground.chain }, { on := 0, ground := Ground.phase }, { on := 1, ground := Ground.phase }, { on := 2, ground := Ground.phase }, { on := 3, ground := Ground.phase }, { on := 4, ground := Ground.phase }, { on := 5, ground := Ground.phase }, { on := 6, ground := Ground.phase }, { on := 7, ground := Ground.phase }, { on := 8, ground := Ground.phase }, { on := 9, ground := Ground.phase }, { on := 10, ground := Ground.phase }, { on := 11, ground := Ground.phase }, { on := 12, ground := Ground.phase }, { on := 13, ground := Ground.phase }, { on := 14, ground := Ground.phase }, { on := 15, ground := Ground.phase }, { on := 16, ground := Ground.phase }], guard := none }) rfl (fun K hK => ?_) AllReadyH.nil
          go_simp
          refine hK.out _ _ ((((Below.refl _ wr).alloc (Nat.le_refl _) _).alloc (by simp) _).drew) (fun hHeldn => ?_)
          clear hK K hHeld; have hHeld := hHeldn; clear hHeldn
          try simp only [Act.put, List.setIfInBounds_toArray, List.set_cons_zero, List.set_cons_succ]
          refine wpAnyH_done (by kernel_rfl) ?_ _
          refine hKK _ _ ?_
          obtain ⟨W6, hW6⟩ : ∃ W6, ((wr.alloc (.cells #[.string f2.nm, .slice f2.ad f2.bs.length f2.cap, .int .i64 f2.last] 111)).alloc (.cells #[.string f.nm, .slice f.ad f.bs.length f.cap, .int .i64 f.last] 111)).drew = W6 := ⟨_, rfl⟩
          have HB6 := Lib.hid (show Below wr.heap.size wr W6 by rw [← hW6]; exact (((Below.refl _ wr).alloc (Nat.le_refl _) _).alloc (by simp) _).drew)
          have e1 : BoxC W6 wr.heap.size #[.string f2.nm, .slice f2.ad f2.bs.length f2.cap, .int .i64 f2.last] 111 := by rw [← hW6]; exact ((BoxC.new wr #[.string f2.nm, .slice f2.ad f2.bs.length f2.cap, .int .i64 f2.last] 111).alloc _)
          have e2 : BoxC W6 (wr.heap.size + 1) #[.string f.nm, .slice f.ad f.bs.length f.cap, .int .i64 f.last] 111 := by rw [← hW6]; have := BoxC.new (wr.alloc (.cells #[.string f2.nm, .slice f2.ad f2.bs.length f2.cap, .int .i64 f2.last] 111)) #[.string f.nm, .slice f.ad f.bs.length f.cap, .int .i64 f.last] 111; rw [World.size_alloc] at this; exact this
          rw [hW6]
          clear hW6
          have HBX := Lib.hid (show W6.cell? ⟨wr.heap.size + 1, 0, none⟩ = some (.string f.nm) ∧ W6.cell? ⟨wr.heap.size + 1, 1, none⟩ = some (.slice f.ad f.bs.length f.cap) ∧ W6.cell? ⟨wr.heap.size + 1, 2, none⟩ = some (.int .i64 f.last) ∧ W6.cell? ⟨wr.heap.size, 0, none⟩ = some (.string f2.nm) ∧ W6.cell? ⟨wr.heap.size, 1, none⟩ = some (.slice f2.ad f2.bs.length f2.cap) ∧ W6.cell? ⟨wr.heap.size, 2, none⟩ = some (.int .i64 f2.last) from ⟨e2.cell 0, e2.cell 1, e2.cell 2, e1.cell 0, e1.cell 1, e1.cell 2⟩)
          clear e1 e2
          clear hKK FQ hHeld
          obtain ⟨c60, c61, c62, c70, c71, c72⟩ := HBX.out
          by_cases hnm : f.nm = f2.nm
          · by_cases hbs : f.bs = f2.bs
            · by_cases hla : f.last = f2.last
              · have HIN := Lib.hid (show ∀ j < k + 1, (R.map core)[j]? = (R2.map core)[j]? from jstep HI.out (by rw [List.getElem?_map, List.getElem?_map, HAT.out.1, HAT.out.2]; simp [core, hnm, hbs, hla]))
                have q1 := conv_ls W6 f.ad f.bs.length f.cap f.bs rfl (HLS.out.1.below HB6.out).rd
                have q2 := conv_ls W6 f2.ad f2.bs.length f2.cap f2.bs rfl (HLS.out.2.below HB6.out).rd
                rw [← hbs] at q2
                rw [← hnm] at c70
                rw [← hla] at c72
                generalize strOfNums f.bs = str at q1 q2
                rw [← hbs] at c71
                clear hnm hbs hla
                go_wp2_with fail
                go_roundw
                case rel => exact ⟨k + 1, by omega, by go_num, step_below HBR.out HB6.out, HIN⟩
                case measure => simp [intOf]; omega
              · have HNE := Lib.hid (show b = false from HFB.out fun h => hla (by have := congrArg (fun l => l[k]?) h; simp only [List.getElem?_map, HAT.out.1, HAT.out.2, Option.map_some, Option.some.injEq] at this; exact congrArg (·.2.2) this))
                have q1 := conv_ls W6 f.ad f.bs.length f.cap f.bs rfl (HLS.out.1.below HB6.out).rd
                have q2 := conv_ls W6 f2.ad f2.bs.length f2.cap f2.bs rfl (HLS.out.2.below HB6.out).rd
                rw [← hbs] at q2
                rw [← hnm] at c70
                generalize strOfNums f.bs = str at q1 q2
                rw [← hbs] at c71
                have d4 : ¬ ((f.last : Nat) : Int) = ((f2.last : Nat) : Int) := by omega
                clear hnm hbs hla
                go_wp2_with fail
                go_ret
                exact BoolR.mk HNE.out (step_below HBR.out HB6.out)
            · have HNE := Lib.hid (show b = false from HFB.out fun h => hbs (by have := congrArg (fun l => l[k]?) h; simp only [List.getElem?_map, HAT.out.1, HAT.out.2, Option.map_some, Option.some.injEq] at this; exact congrArg (·.2.1) this))
              have q1 := conv_ls W6 f.ad f.bs.length f.cap f.bs rfl (HLS.out.1.below HB6.out).rd
              have q2 := conv_ls W6 f2.ad f2.bs.length f2.cap f2.bs rfl (HLS.out.2.below HB6.out).rd
              have hs : ((strOfNums f.bs).toList == (strOfNums f2.bs).toList) = false := by
                rw [beq_eq_false_iff_ne]
                intro e
                rw [ByteArray.toList_eq, ByteArray.toList_eq] at e
                exact hbs (str_inj HBY.out.1 HBY.out.2 (ByteArray.ext (Array.toList_inj.1 e)))
              generalize strOfNums f.bs = sL at q1 hs
              generalize strOfNums f2.bs = sM at q2 hs
              rw [← hnm] at c70
              clear hnm hbs
              go_wp2_with fail
              go_ret
              exact BoolR.mk HNE.out (step_below HBR.out HB6.out)
          · have HNE := Lib.hid (show b = false from HFB.out fun h => hnm (by have := congrArg (fun l => l[k]?) h; simp only [List.getElem?_map, HAT.out.1, HAT.out.2, Option.map_some, Option.some.injEq] at this; exact congrArg (·.1) this))
            have hs : (f.nm.toList == f2.nm.toList) = false := by
              rw [beq_eq_false_iff_ne]
              intro e
              rw [ByteArray.toList_eq, ByteArray.toList_eq] at e
              exact hnm (ByteArray.ext (Array.toList_inj.1 e))
            clear hnm
            go_wp2_with fail
            go_ret
            exact BoolR.mk HNE.out (step_below HBR.out HB6.out)
        · have d1 : ¬ (k : Int) < (n : Int) := by omega
          have HEQ := Lib.hid (show b = true from HTB.out (List.ext_getElem? fun j => by
            by_cases hj : j < n
            · exact HI.out j (by omega)
            · rw [List.getElem?_eq_none (by rw [List.length_map, HN.out]; omega), List.getElem?_eq_none (by rw [List.length_map, HN2.out]; omega)]))
          have HBR := Lib.hid hbr
          clear hbr
          go_wp2_with fail
          go_ret
          exact BoolR.mk HEQ.out (HBR.out)
    · have HNE := Lib.hid (show b = false from HFB.out fun h => hl (by have := congrArg List.length h; rw [List.length_map, List.length_map, HN.out, HN2.out] at this; exact this))
      have d2 : ((n : Int) != (n2 : Int)) = true := by simp; omega
      go_enter Try.func20, Try.ntmps20
      go_wp2_with fail
      go_quiet (fail)
      go_wp2_with fail
      go_ret
      exact BoolR.mk HNE.out (below_drewN (Below.refl _ _) nq)
  · have HNE := Lib.hid (show b = false from hb.symm.trans (decide_eq_false fun h => hro h.1))
    clear hb
    have d1 : ((room : Int) != (room2 : Int)) = true := by simp; omega
    go_enter Try.func20, Try.ntmps20
    go_wp2_with fail
    go_quiet (fail)
    go_wp2_with fail
    go_ret
    exact BoolR.mk HNE.out (below_drewN (Below.refl _ _) nq)
end Go.Proofs.Ytbjhcbiihekceaa

namespace Go.Proofs.Ytbjhcbiihekceaa
open Go.ChangeShapes Go.WideShapes Go.ChangeAt Go.RowKit Go.Maps Go.Shelf
set_option linter.unusedVariables false
set_option linter.unusedSimpArgs false
attribute [local go_sem] Oper.semAt_some
theorem none_nil (w : World) : Calls Try.prog 58 #[.pointer none] w fun e w' => e = .returned (.bool true) ∧ w = w' := by
  go_enter Try.func58, Try.ntmps58
  go_wp2
  go_ret
  exact ⟨rfl, rfl⟩
/-- The document's Same, where one is not there. -/
theorem r_same_nn (w : World) : Calls Try.prog 20 #[.pointer none, .pointer none] w (BoolR w true) := by
  go_enter Try.func20, Try.ntmps20
  go_wp2
  go_ret
  exact BoolR.mk rfl (Below.refl _ _)
theorem r_same_np (w : World) (q : Nat) : Calls Try.prog 20 #[.pointer none, .pointer (some ⟨q, 0, none⟩)] w (BoolR w false) := by
  go_enter Try.func20, Try.ntmps20
  go_wp2
  go_ret
  exact BoolR.mk rfl (Below.refl _ _)
theorem r_same_pn (w : World) (q : Nat) : Calls Try.prog 20 #[.pointer (some ⟨q, 0, none⟩), .pointer none] w (BoolR w false) := by
  go_enter Try.func20, Try.ntmps20
  go_wp2
  go_ret
  exact BoolR.mk rfl (Below.refl _ _)
set_option maxRecDepth 100000 in
set_option maxHeartbeats 4000000 in
/-- Same (19), where one is not there. -/
theorem same_none {w : World} (v1 v2 : Option Addr) (b1 b2 : Bool) (h1 : ∀ W, Below w.heap.size w W → Calls Try.prog 58 #[.pointer v1] W fun e w' => e = .returned (.bool b1) ∧ W = w') (h2 : ∀ W, Below w.heap.size w W → Calls Try.prog 58 #[.pointer v2] W fun e w' => e = .returned (.bool b2) ∧ W = w') (hb : b1 = true ∨ b2 = true) :
    Calls Try.prog 19 #[.pointer v1, .pointer v2] w (BoolR w (b1 && b2)) := by
  have H := Lib.hid h1
  have H2 := Lib.hid h2
  clear h1 h2
  refine (callsIn_wide (n := 6)).1 ?_
  refine callsIn_of_wp_marks Try.func19 rfl trivial ?_ rfl
  simp only [Try.ntmps19, List.size_toArray, List.length_cons, List.length_nil, Nat.reduceAdd, Nat.reduceSub, Array.replicate_succ, Array.replicate_zero, List.push_toArray, List.append_toArray, List.nil_append, List.cons_append]
  gi_wp2_with fail
  obtain ⟨W0, hW0⟩ : ∃ W0, ((w.alloc (.cells #[.pointer v1] 23)).alloc (.cells #[.pointer v2] 23)).alloc (.cells #[.bool false] 4) = W0 := ⟨_, rfl⟩
  have hb0 : Below w.heap.size w W0 := by rw [← hW0]; exact (((Below.refl _ w).alloc (Nat.le_refl _) _).alloc (by simp) _).alloc (by simp; omega) _
  have b1' : BoxC W0 w.heap.size #[.pointer v1] 23 := by rw [← hW0]; exact ((BoxC.new w _ 23).alloc _).alloc _
  have b2' : BoxC W0 (w.heap.size + 1) #[.pointer v2] 23 := by
    rw [← hW0]; have := (BoxC.new (w.alloc (.cells #[.pointer v1] 23)) #[.pointer v2] 23).alloc (.cells #[.bool false] 4)
    simpa using this
  have b3 : BoxC W0 (w.heap.size + 1 + 1) #[.bool false] 4 := by
    rw [← hW0]; have := BoxC.new ((w.alloc (.cells #[.pointer v1] 23)).alloc (.cells #[.pointer v2] 23)) #[.bool false] 4
    simpa using this
  rw [hW0]
  clear hW0
  have c1 : W0.cell? ⟨w.heap.size, 0, none⟩ = some (.pointer v1) := b1'.cell 0
  have c2 : W0.cell? ⟨w.heap.size + 1, 0, none⟩ = some (.pointer v2) := b2'.cell 0
  have c3 : W0.cell? ⟨w.heap.size + 1 + 1, 0, none⟩ = some (.bool false) := b3.cell 0
  have c3f := b3.frozen 0
  have B3 := Lib.hid b3
  have HB := Lib.hid hb0
  clear b1' b2' b3 hb0
  refine ⟨trivial, ?_⟩
  refine (callsIn_wide.2 (H.out W0 HB.out)).mono ?_
  rintro e w' ⟨rfl, rfl⟩
  have ENDS := Lib.hid (fun b : Bool => (⟨(B3.out.put 0 (.bool b)).cell 0, HB.out.setCell (p := ⟨w.heap.size + 1 + 1, 0, none⟩) (by simp; omega) _⟩ : (W0.setCell ⟨w.heap.size + 1 + 1, 0, none⟩ (.bool b)).cell? ⟨w.heap.size + 1 + 1, 0, none⟩ = some (.bool b) ∧ Below w.heap.size w (W0.setCell ⟨w.heap.size + 1 + 1, 0, none⟩ (.bool b))))
  cases b1 with
  | true =>
    gi_wp2_with fail
    refine ⟨trivial, ?_⟩
    gi_wp2_with fail
    refine ⟨trivial, ?_⟩
    refine (callsIn_wide.2 (H.out W0 HB.out)).mono ?_
    rintro e w' ⟨rfl, rfl⟩
    gi_wp2_with fail
    refine ⟨trivial, ?_⟩
    refine (callsIn_wide.2 (H2.out W0 HB.out)).mono ?_
    rintro e w' ⟨rfl, rfl⟩
    gi_wp2_with fail
    obtain ⟨h0, hbw⟩ := ENDS.out b2
    generalize W0.setCell ⟨w.heap.size + 1 + 1, 0, none⟩ (.bool b2) = W2 at h0 hbw ⊢
    refine ⟨.bool b2, ?_, BoolR.mk (by simp) hbw⟩
    simp [results, Try.f19, go_sem, h0]
  | false =>
    obtain rfl : b2 = true := hb.resolve_left (by simp)
    gi_wp2_with fail
    refine ⟨trivial, ?_⟩
    refine (callsIn_wide.2 (H2.out W0 HB.out)).mono ?_
    rintro e w' ⟨rfl, rfl⟩
    gi_wp2_with fail
    refine ⟨trivial, ?_⟩
    refine (callsIn_wide.2 (H.out W0 HB.out)).mono ?_
    rintro e w' ⟨rfl, rfl⟩
    gi_wp2_with fail
    refine ⟨trivial, ?_⟩
    gi_wp2_with fail
    obtain ⟨h0, hbw⟩ := ENDS.out false
    generalize W0.setCell ⟨w.heap.size + 1 + 1, 0, none⟩ (.bool false) = W2 at h0 hbw ⊢
    refine ⟨.bool false, ?_, BoolR.mk (by simp) hbw⟩
    simp [results, Try.f19, go_sem, h0]
end Go.Proofs.Ytbjhcbiihekceaa

namespace Go.Proofs.Ytbjhcbiihekceaa
open Go.ChangeShapes Go.WideShapes Go.ChangeAt Go.RowKit Go.Maps Go.Shelf
set_option linter.unusedVariables false
set_option linter.unusedSimpArgs false
/-- The program's and the document's, at a room: both there, with the same files, or both not. -/
def Pr (W : World) (v v' : Option Addr) (R : Int) (S : Nat → Prop) : Prop :=
  (v = none ∧ v' = none ∧ (R < 1024 ∨ 1048576 < R)) ∨ ∃ (rm p bm q : Nat) (C : List CF), R = (rm : Int) ∧ 1024 ≤ rm ∧ v = some ⟨p, 0, none⟩ ∧ v' = some ⟨q, 0, none⟩ ∧ Two W p bm q rm C C S
theorem Pr.below {W W' : World} {v v' : Option Addr} {R : Int} {S : Nat → Prop} (h : Pr W v v' R S) (b : Below W.heap.size W W') : Pr W' v v' R S := by
  rcases h with h | ⟨rm, p, bm, q, C, h1, h2, h3, h4, h5⟩
  · exact Or.inl h
  · exact Or.inr ⟨rm, p, bm, q, C, h1, h2, h3, h4, h5.below b⟩
theorem Pr.off {W W' : World} {v v' : Option Addr} {R : Int} {S T : Nat → Prop} (h : Pr W v v' R S) (o : Off T W W') (hT : ∀ k, k < W.heap.size → S k → ¬ T k) : Pr W' v v' R S := by
  rcases h with h | ⟨rm, p, bm, q, C, h1, h2, h3, h4, h5⟩
  · exact Or.inl h
  · exact Or.inr ⟨rm, p, bm, q, C, h1, h2, h3, h4, h5.off o hT⟩
theorem none_dc {W : World} {p bm room : Nat} {C : List CF} {O : Nat → Prop} (h : DC W p bm room C O) : Calls Try.prog 58 #[.pointer (some ⟨p, 0, none⟩)] W fun e w' => e = .returned (.bool false) ∧ W = w' := by
  obtain ⟨L, h1, _⟩ := h
  exact dnone_law h1
/-- Same of the one and the other: the program and the document tell the same. -/
theorem pr_same {W : World} {v1 v1' v2 v2' : Option Addr} {R1 R2 : Int} {S1 S2 : Nat → Prop} (h1 : Pr W v1 v1' R1 S1) (h2 : Pr W v2 v2' R2 S2) :
    ∃ b : Bool, Calls Try.prog 19 #[.pointer v1, .pointer v2] W (BoolR W b) ∧ ∀ W', Below W.heap.size W W' → Calls Try.prog 20 #[.pointer v1', .pointer v2'] W' (BoolR W' b) := by
  rcases h1 with ⟨rfl, rfl, _⟩ | ⟨rm, p, bm, q, C, rfl, _, rfl, rfl, t1⟩
  · rcases h2 with ⟨rfl, rfl, _⟩ | ⟨rm2, p2, bm2, q2, C2, rfl, _, rfl, rfl, t2⟩
    · exact ⟨true, same_none none none true true (fun W' _ => none_nil W') (fun W' _ => none_nil W') (Or.inl rfl), fun W' _ => r_same_nn W'⟩
    · obtain ⟨O, hd⟩ := t2.ex
      exact ⟨false, same_none none _ true false (fun W' _ => none_nil W') (fun W' b => none_dc (hd.below b)) (Or.inl rfl), fun W' _ => r_same_np W' q2⟩
  · obtain ⟨O, hd⟩ := t1.ex
    obtain ⟨O', hr⟩ := t1.ex'
    rcases h2 with ⟨rfl, rfl, _⟩ | ⟨rm2, p2, bm2, q2, C2, rfl, _, rfl, rfl, t2⟩
    · exact ⟨false, same_none _ none false true (fun W' b => none_dc (hd.below b)) (fun W' _ => none_nil W') (Or.inr rfl), fun W' _ => r_same_pn W' q⟩
    · obtain ⟨O2, hd2⟩ := t2.ex
      obtain ⟨O2', hr2⟩ := t2.ex'
      exact ⟨_, c_same hd hd2, fun W' b => r_same (hr.below b) (hr2.below b) t1.fine t2.fine⟩
/-- Same of one and itself. -/
theorem pr_self {W : World} {v v' : Option Addr} {R : Int} {S : Nat → Prop} (h : Pr W v v' R S) : Calls Try.prog 19 #[.pointer v, .pointer v] W (BoolR W true) := by
  rcases h with ⟨rfl, rfl, _⟩ | ⟨rm, p, bm, q, C, rfl, _, rfl, rfl, t⟩
  · exact same_none none none true true (fun W' _ => none_nil W') (fun W' _ => none_nil W') (Or.inl rfl)
  · obtain ⟨O, hd⟩ := t.ex
    exact same_self hd hd
end Go.Proofs.Ytbjhcbiihekceaa

namespace Go.Proofs.Ytbjhcbiihekceaa
open Go.ChangeShapes Go.WideShapes Go.ChangeAt Go.RowKit Go.Maps Go.Shelf
set_option linter.unusedVariables false
set_option linter.unusedSimpArgs false
def NewD (w w' : World) (R : Int) (v : Option Addr) : Prop := (v = none ∧ (R < 1024 ∨ 1048576 < R)) ∨ ∃ rm p bm : Nat, R = (rm : Int) ∧ 1024 ≤ rm ∧ v = some ⟨p, 0, none⟩ ∧ DC w' p bm rm [] (fun k => w.heap.size ≤ k)
def NewR (w w' : World) (R : Int) (v : Option Addr) : Prop := (v = none ∧ (R < 1024 ∨ 1048576 < R)) ∨ ∃ rm q : Nat, R = (rm : Int) ∧ (1024 ≤ rm ∧ rm ≤ 1048576) ∧ v = some ⟨q, 0, none⟩ ∧ RDC w' q rm [] (fun k => w.heap.size ≤ k)
theorem new_any (R : Int) (w : World) : Calls Try.prog 12 #[.int .i64 R] w fun e w' => ∃ v e0, e = .returned (.tuple #[.pointer v, .int .i64 e0]) ∧ NewD w w' R v ∧ Below w.heap.size w w' := by
  by_cases hr : R < 1024 ∨ 1048576 < R
  · refine (dnew_bad R hr w).mono ?_
    rintro e w' ⟨rfl, rfl⟩
    exact ⟨none, 2, rfl, Or.inl ⟨rfl, hr⟩, Below.refl _ _⟩
  · obtain ⟨rm, rfl⟩ : ∃ rm : Nat, R = (rm : Int) := ⟨R.toNat, by omega⟩
    refine (c_new rm (by omega) (by omega) w).mono ?_
    rintro e w' ⟨rfl, hd, hb⟩
    exact ⟨_, 0, rfl, Or.inr ⟨rm, _, _, rfl, by omega, rfl, hd⟩, hb⟩
theorem rnew_any (R : Int) (w : World) : Calls Try.prog 13 #[.int .i64 R] w fun e w' => ∃ v, e = .returned (.pointer v) ∧ NewR w w' R v ∧ Below w.heap.size w w' := by
  by_cases hr : R < 1024 ∨ 1048576 < R
  · refine (rnew_bad R hr w).mono ?_
    rintro e w' ⟨rfl, rfl⟩
    exact ⟨none, rfl, Or.inl ⟨rfl, hr⟩, Below.refl _ _⟩
  · obtain ⟨rm, rfl⟩ : ∃ rm : Nat, R = (rm : Int) := ⟨R.toNat, by omega⟩
    refine (rnew_law rm (by omega) (by omega) w).mono ?_
    rintro e w' ⟨rfl, hd, hb⟩
    exact ⟨_, rfl, Or.inr ⟨rm, _, rfl, ⟨by omega, by omega⟩, rfl, hd⟩, hb⟩
/-- Both new. -/
theorem pr_new {w w1 w2 w3 W : World} {R : Int} {v v' : Option Addr} {S : Nat → Prop} (h : NewD w w1 R v) (h' : NewR w2 w3 R v') (b : Below w1.heap.size w1 W) (b' : Below w3.heap.size w3 W) (h12 : w1.heap.size ≤ w2.heap.size)
    (hS : ∀ k, w.heap.size ≤ k → k < w1.heap.size → S k) (hS' : ∀ k, w2.heap.size ≤ k → k < w3.heap.size → S k) : Pr W v v' R S := by
  rcases h with ⟨rfl, hr⟩ | ⟨rm, p, bm, rfl, h1, rfl, hd⟩
  · rcases h' with ⟨rfl, _⟩ | ⟨rm, q, rfl, h1, rfl, hd⟩
    · exact Or.inl ⟨rfl, rfl, hr⟩
    · exfalso
      omega
  · rcases h' with ⟨rfl, hr⟩ | ⟨rm', q, e, h2, rfl, hr⟩
    · exfalso
      have := hd.fine.big
      omega
    · obtain rfl : rm = rm' := by omega
      exact Or.inr ⟨rm, p, bm, q, [], rfl, h1, rfl, rfl, fun k => w.heap.size ≤ k ∧ k < w1.heap.size, fun k => w2.heap.size ≤ k ∧ k < w3.heap.size, (hd.mono fun k hk h => ⟨hk, h⟩).below b, (hr.mono fun k hk h => ⟨hk, h⟩).below b', fun k h h' => by omega, fun k h => hS k h.1 h.2, fun k h => hS' k h.1 h.2⟩
end Go.Proofs.Ytbjhcbiihekceaa

namespace Go.Proofs.Ytbjhcbiihekceaa
open Go.ChangeShapes Go.WideShapes Go.ChangeAt Go.RowKit Go.Maps Go.Shelf
set_option linter.unusedVariables false
set_option linter.unusedSimpArgs false
theorem StepOk.atP {W : World} {x : StepV} {B : Nat} {S : Nat → Prop} (w : World) (h : StepOk w x) (hB : w.heap.size = B) (b : Below B w W) (hd : x.dn ≤ 300000) (hk : x.kn ≤ 1000000) (hS : ∀ k, S k → B ≤ k) : StepAt W S x.v := by
  obtain ⟨kd, sA, sB, da, ka, dn, dc, kn, kc, D, ks, e, h1, h2, h3, h4, h5, h6, h7, h8⟩ := (StepOk.at w h hB b hd hk).ex
  exact ⟨kd, sA, sB, da, ka, dn, dc, kn, kc, D, ks, e, h1, h2, h3, h4, h5, h6, fun b hb h0 hs => h7 b hb h0 (hS _ hs), h8⟩
theorem Pr.sub {W : World} {v v' : Option Addr} {R : Int} {S S' : Nat → Prop} (h : Pr W v v' R S) (hs : ∀ k, k < W.heap.size → S k → S' k) : Pr W v v' R S' := by
  rcases h with h | ⟨rm, p, bm, q, C, h1, h2, h3, h4, h5⟩
  · exact Or.inl h
  · exact Or.inr ⟨rm, p, bm, q, C, h1, h2, h3, h4, h5.sub hs⟩
/-- What the law's loops keep: the one pair in S, the other out of it. -/
def SamI (w wr : World) (B : Nat) (S T : Nat → Prop) (R R2 : Int) (d r : Option Addr) (y q : Option Addr) : Prop := Pr wr d r R S ∧ Pr wr y q R2 T ∧ Below w.heap.size w wr ∧ B ≤ wr.heap.size
set_option maxRecDepth 100000 in
set_option maxHeartbeats 4000000 in
theorem same_law (R1 R2 : Int) (a : Option Addr) (L : List StepV) (n c : Nat) (a2 : Option Addr) (L2 : List StepV) (n2 c2 : Nat) (w : World) (hn : L.length = n) (hR : StepsR w a L) (hOk : ∀ x ∈ L, StepOk w x) (hn2 : L2.length = n2) (hR2 : StepsR w a2 L2) (hOk2 : ∀ x ∈ L2, StepOk w x) :
    Calls Try.prog 4 #[.agg #[.int .i64 R1, .int .i64 R2], .slice a n c, .slice a2 n2 c2] w (BoolR w true) := by
  have HN := Lib.hid (And.intro hn hn2)
  have HR := Lib.hid (And.intro hR hR2)
  have HOK := Lib.hid (And.intro hOk hOk2)
  clear hn hR hOk hn2 hR2 hOk2
  go_enter Try.func4, Try.ntmps4
  go_wp2_with fail
  obtain ⟨W0, hW0⟩ : ∃ W0, w.alloc (.cells #[.int .i64 R1, .int .i64 R2] 40) = W0 := ⟨_, rfl⟩
  have hb0 : Below w.heap.size w W0 := by rw [← hW0]; exact bl1 _ _
  have bx : BoxC W0 w.heap.size #[.int .i64 R1, .int .i64 R2] 40 := by rw [← hW0]; exact BoxC.new w _ 40
  try rw [hW0]
  clear hW0
  refine (much_law a L n c W0 HN.out.1 (HR.out.1.below hb0) (fun x hx => (HOK.out.1 x hx).below hb0)).mono ?_
  rintro e wa ⟨b, rfl, hba, hm⟩
  have HBA := Lib.hid (step_below hb0 hba)
  have BXA := Lib.hid (bx.below hba)
  have HM := Lib.hid hm
  clear hb0 bx hba hm
  cases b with
  | true =>
    go_wp2_with (go_at_call 15; refine (dknown_law _).mono ?_; rintro e w9 ⟨rfl, hb⟩; have HB9 := Lib.hid (step_below HBA.out hb); clear hb)
    go_ret
    exact BoolR.mk rfl HB9.out
  | false =>
    go_wp2_with fail
    refine (much_law a2 L2 n2 c2 wa HN.out.2 (HR.out.2.below HBA.out) (fun x hx => (HOK.out.2 x hx).below HBA.out)).mono ?_
    rintro e wb ⟨b, rfl, hbb, hm⟩
    have HBB := Lib.hid (step_below HBA.out hbb)
    have BXB := Lib.hid (BXA.out.below hbb)
    have HM2 := Lib.hid hm
    clear hbb hm HBA BXA
    cases b with
    | true =>
      go_wp2_with (go_at_call 15; refine (dknown_law _).mono ?_; rintro e w9 ⟨rfl, hb⟩; have HB9 := Lib.hid (step_below HBB.out hb); clear hb)
      go_ret
      exact BoolR.mk rfl HB9.out
    | false =>
      have z0 : wb.cell? ⟨w.heap.size, 0, none⟩ = some (.int .i64 R1) := BXB.out.cell 0
      go_wp2_with fail
      refine (new_any R1 wb).mono ?_
      rintro e w1 ⟨vx, e0, rfl, hx, hb1⟩
      have HX := Lib.hid hx
      have HB1 := Lib.hid hb1
      have z1 : w1.cell? ⟨w.heap.size, 1, none⟩ = some (.int .i64 R2) := (BXB.out.below hb1).cell 1
      clear hx hb1 z0
      go_wp2_with fail
      refine (new_any R2 w1).mono ?_
      rintro e w2 ⟨vy, e1, rfl, hy, hb2⟩
      have HY := Lib.hid hy
      have HB2 := Lib.hid hb2
      have bx2 := (BXB.out.below HB1.out).below hb2
      have FQ := Lib.hid (fun X (b : Below w2.heap.size w2 X) => (⟨(bx2.below b).cell 0, (bx2.below b).cell 1⟩ : X.cell? ⟨w.heap.size, 0, none⟩ = some (.int .i64 R1) ∧ X.cell? ⟨w.heap.size, 1, none⟩ = some (.int .i64 R2)))
      clear hy hb2 z1 bx2
      go_wp2_with fail
      rename_i KK hKK
      refine Code.wp_mono (Q := Exit.then KK (fun _ _ _ => False)) (fun e a' w' h => by cases e <;> first | exact h | exact h.elim) ?_
      refine wp_region_held_drew (S := (fun X => Below w2.heap.size w2 X)) (by kernel_rfl) ((Below.refl _ _).drew) (fun hHeld => ?_)
      refine wpAnyH_take (i := 0) (oi := { dst := some 35, op := Op.indexAddr 40 (Operand.tmp 3) (Operand.const (Value.int IntKind.i64 0)), type := 0, pos := "law.go:164", after := #[], guard := none }) (v := ?_) rfl (by kernel_rfl) (by kernel_rfl) (by kernel_rfl) (fun _ _ _ h => h) (Or.inl ⟨by rfl, ?_⟩) (by assumption) ?_
      rotate_left
      · intro W hSw; go_simp; try with_reducible rfl
      try simp only [Act.put, List.setIfInBounds_toArray, List.set_cons_zero, List.set_cons_succ]
      refine wpAnyH_take (i := 1) (oi := { dst := some 36, op := Op.load 3 (Operand.tmp 35), type := 3, pos := "law.go:164", after := #[{ on := 0, ground := Ground.data }], guard := none }) (v := ?_) rfl (by kernel_rfl) (by kernel_rfl) (by kernel_rfl) (fun _ _ _ h => h) (Or.inl ⟨by rfl, ?_⟩) (by assumption) ?_
      rotate_left
      · intro W hSw; obtain ⟨a0, a1⟩ := FQ.out W hSw; go_simp; try with_reducible rfl
      try simp only [Act.put, List.setIfInBounds_toArray, List.set_cons_zero, List.set_cons_succ]
      refine wpAnyH_take (i := 3) (oi := { dst := some 38, op := Op.indexAddr 40 (Operand.tmp 3) (Operand.const (Value.int IntKind.i64 1)), type := 0, pos := "law.go:164", after := #[], guard := none }) (v := ?_) rfl (by kernel_rfl) (by kernel_rfl) (by kernel_rfl) (fun _ _ _ h => h) (Or.inl ⟨by rfl, ?_⟩) (by assumption) ?_
      rotate_left
      · intro W hSw; go_simp; try with_reducible rfl
      try simp only [Act.put, List.setIfInBounds_toArray, List.set_cons_zero, List.set_cons_succ]
      refine wpAnyH_take (i := 4) (oi := { dst := some 39, op := Op.load 3 (Operand.tmp 38), type := 3, pos := "law.go:164", after := #[{ on := 3, ground := Ground.data }], guard := none }) (v := ?_) rfl (by kernel_rfl) (by kernel_rfl) (by kernel_rfl) (fun _ _ _ h => h) (Or.inl ⟨by rfl, ?_⟩) (by assumption) ?_
      rotate_left
      · intro W hSw; obtain ⟨a0, a1⟩ := FQ.out W hSw; go_simp; try with_reducible rfl
      try simp only [Act.put, List.setIfInBounds_toArray, List.set_cons_zero, List.set_cons_succ]
      refine wpAnyH_ready (rs := [2]) (by kernel_rfl) (by simp) ?_
      refine AllReadyH.cons (o := { dst := some 37, op := Op.call { callee := Callee.value (Operand.func 13), args := #[Operand.tmp 36], argTypes := #[3] }, type := 27, pos := "law.go:164", after := #[{ on := 1, ground := Ground.data }], guard := none }) rfl (fun K hK => ?_) AllReadyH.nil
      go_simp
      refine (rnew_any R1 _).mono ?_; rintro e w3 ⟨vp, rfl, hp, hb3⟩; have HP := Lib.hid hp; have HB3 := Lib.hid hb3
      go_wp2_with fail
      refine hK.out _ _ (step_below hHeld hb3) (fun hHeldn => ?_)
      clear hK K hHeld; have hHeld := hHeldn; clear hHeldn
      clear hp hb3
      try simp only [Act.put, List.setIfInBounds_toArray, List.set_cons_zero, List.set_cons_succ]
      refine wpAnyH_ready (rs := [5]) (by kernel_rfl) (by simp) ?_
      refine AllReadyH.cons (o := { dst := some 40, op := Op.call { callee := Callee.value (Operand.func 13), args := #[Operand.tmp 39], argTypes := #[3] }, type := 27, pos := "law.go:164", after := #[{ on := 4, ground := Ground.data }, { on := 2, ground := Ground.chain }], guard := none }) rfl (fun K hK => ?_) AllReadyH.nil
      go_simp
      refine (rnew_any R2 _).mono ?_; rintro e w4 ⟨vq, rfl, hq, hb4⟩; have HQ := Lib.hid hq; have HB4 := Lib.hid hb4
      go_wp2_with fail
      refine hK.out _ _ (step_below hHeld hb4) (fun hHeldn => ?_)
      clear hK K hHeld; have hHeld := hHeldn; clear hHeldn
      clear hq hb4
      try simp only [Act.put, List.setIfInBounds_toArray, List.set_cons_zero, List.set_cons_succ]
      refine wpAnyH_take (i := 6) (oi := { dst := some 11, op := Op.assign (Operand.tmp 37), type := 27, pos := "law.go:164", after := #[{ on := 2, ground := Ground.data }, { on := 5, ground := Ground.chain }, { on := 0, ground := Ground.phase }, { on := 1, ground := Ground.phase }, { on := 2, ground := Ground.phase }, { on := 3, ground := Ground.textOnly Departure.lateStores }, { on := 4, ground := Ground.textOnly Departure.lateStores }, { on := 5, ground := Ground.textOnly Departure.lateStoresUnsure }], guard := none }) (v := ?_) rfl (by kernel_rfl) (by kernel_rfl) (by kernel_rfl) (fun _ _ _ h => h) (Or.inl ⟨by rfl, ?_⟩) (by assumption) ?_
      rotate_left
      · intro W hSw; go_simp; try with_reducible rfl
      try simp only [Act.put, List.setIfInBounds_toArray, List.set_cons_zero, List.set_cons_succ]
      refine wpAnyH_take (i := 7) (oi := { dst := some 12, op := Op.assign (Operand.tmp 40), type := 27, pos := "law.go:164", after := #[{ on := 5, ground := Ground.data }, { on := 6, ground := Ground.chain }, { on := 0, ground := Ground.phase }, { on := 1, ground := Ground.phase }, { on := 2, ground := Ground.phase }, { on := 3, ground := Ground.phase }, { on := 4, ground := Ground.phase }, { on := 5, ground := Ground.phase }, { on := 6, ground := Ground.phase }], guard := none }) (v := ?_) rfl (by kernel_rfl) (by kernel_rfl) (by kernel_rfl) (fun _ _ _ h => h) (Or.inl ⟨by rfl, ?_⟩) (by assumption) ?_
      rotate_left
      · intro W hSw; go_simp; try with_reducible rfl
      try simp only [Act.put, List.setIfInBounds_toArray, List.set_cons_zero, List.set_cons_succ]
      refine wpAnyH_done (by kernel_rfl) ?_ _
      skip
      refine hKK _ _ ?_
      clear hKK FQ
      have h0b := HBB.out.size
      have h01 := HB1.out.size
      have h12 := HB2.out.size
      have h23 : w2.heap.size ≤ w3.heap.size := HB3.out.size
      have h34 := HB4.out.size
      have b4 : Below w.heap.size w w4 := step_below (step_below (step_below HBB.out HB1.out) HB2.out) hHeld
      have b34 : Below w3.heap.size w3 w4 := HB4.out
      obtain ⟨T, hT⟩ : ∃ T : Nat → Prop, T = fun k => (w1.heap.size ≤ k ∧ k < w2.heap.size) ∨ (w3.heap.size ≤ k ∧ k < w4.heap.size) := ⟨_, rfl⟩
      obtain ⟨S1, hS1⟩ : ∃ S1 : Nat → Prop, S1 = fun k => w.heap.size ≤ k ∧ ¬ T k := ⟨_, rfl⟩
      have PX := Lib.hid (show SamI w w4 w4.heap.size S1 T R1 R2 vx vp vy vq from ⟨pr_new HX.out HP.out (step_below HB2.out hHeld) b34 h12 (fun k h1 h2 => by rw [hS1, hT]; exact ⟨by omega, by omega⟩) (fun k (h1 : w2.heap.size ≤ k) h2 => by rw [hS1, hT]; exact ⟨by omega, by omega⟩), pr_new HY.out HQ.out hHeld (Below.refl _ _) h23 (fun k h1 h2 => by rw [hT]; exact Or.inl ⟨h1, h2⟩) (fun k h1 h2 => by rw [hT]; exact Or.inr ⟨h1, h2⟩), b4, Nat.le_refl _⟩)
      have HST := Lib.hid (show (∀ k, S1 k → w.heap.size ≤ k ∧ ¬ T k) ∧ (∀ k, w4.heap.size ≤ k → S1 k) ∧ (∀ k, T k → w.heap.size ≤ k ∧ ¬ S1 k) from ⟨by rw [hS1]; exact fun k h => h, by rw [hS1, hT]; exact fun k h => ⟨by omega, by omega⟩, by rw [hS1, hT]; exact fun k h => ⟨by omega, fun h' => h'.2 h⟩⟩)
      clear hS1 hT b34 b4 hHeld HX HY HP HQ HB1 HB2 HB3 HB4 HBB BXB h0b h01 h12 h23 h34
      obtain ⟨B4, hB4⟩ : ∃ B4, w4.heap.size = B4 := ⟨_, rfl⟩
      rw [hB4] at PX HST
      clear hB4
      go_upto_block 0 with (fail)
      go_cut [7, 11, 13] (fun d r o wx => ∃ d' r' : Option Addr, d = .pointer d' ∧ r = .pointer r' ∧ o = .bool true ∧ Hid (SamI w wx B4 S1 T R1 R2 d' r' vy vq))
      case first =>
        go_wp2_with fail
        go_loopw [7, 11, 13, 14] (fun d r o i wr => ∃ (k : Nat) (d' r' : Option Addr), k ≤ n ∧ k ≤ 50 ∧ d = .pointer d' ∧ r = .pointer r' ∧ o = .bool true ∧ i = .int .i64 (k : Int) ∧ Hid (SamI w wr B4 S1 T R1 R2 d' r' vy vq)) (fun _ _ _ i _ => n - (intOf i).toNat)
        case atStart => exact ⟨0, vx, vp, Nat.zero_le _, by omega, rfl, rfl, rfl, rfl, PX⟩
        case round =>
          obtain ⟨k, d', r', hk, hk50, rfl, rfl, rfl, rfl, HI⟩ := hrel
          clear PX
          obtain ⟨px, _⟩ := HI.out
          by_cases hc : k < n ∧ k < 50
          · have d1 : (k : Int) < (n : Int) := by omega
            have d2 : (k : Int) < 50 := by omega
            rcases px with ⟨rfl, rfl, _⟩ | ⟨rm, p, bm, q, C, hrm, hlo, rfl, rfl, ht⟩
            · go_wp2_with fail
              go_meet
              exact ⟨_, _, rfl, rfl, rfl, HI⟩
            · have HT := Lib.hid ht
              have HRM := Lib.hid (And.intro hrm hlo)
              obtain ⟨x, hx⟩ : ∃ x, L[k]? = some x := ⟨_, List.getElem?_eq_getElem (by rw [HN.out.1]; exact hc.1)⟩
              obtain ⟨hd1, hd2⟩ := HM.out (by first | rfl | trivial) k x (by omega) hx
              obtain ⟨b, off, rfl, c0, c1, c2, c3, c4⟩ := (HR.out.1.below HI.out.2.2.1) k x hx
              have HO := Lib.hid (HOK.out.1 x (List.mem_of_getElem? hx))
              clear hx ht hrm hlo
              go_wp2_with fail
              refine (c_do HT.out (fun k hk => HST.out.2.1 k (Nat.le_trans HI.out.2.2.2 hk)) x.v (StepOk.atP w HO.out rfl HI.out.2.2.1 hd1 hd2 (fun k h => (HST.out.1 k h).1))).mono ?_
              rintro e w5 ⟨p', bm', q', C', rfl, ht5, ho5⟩
              have HI5 := Lib.hid (show SamI w w5 B4 S1 T R1 R2 (some ⟨p', 0, none⟩) (some ⟨q', 0, none⟩) vy vq from ⟨Or.inr ⟨rm, p', bm', q', C', HRM.out.1, HRM.out.2, rfl, rfl, ht5⟩, HI.out.2.1.off ho5 (fun k _ h => (HST.out.2.2 k h).2), Off.below HI.out.2.2.1 ho5 HI.out.2.2.1.size (fun k h => (HST.out.1 k h).1), Nat.le_trans HI.out.2.2.2 ho5.size⟩)
              clear c0 c1 c2 c3 c4 ht5 ho5 HI HT HRM
              go_wp2_with fail
              go_roundw
              case rel => exact ⟨k + 1, _, _, by omega, by omega, rfl, rfl, rfl, by go_num, HI5⟩
              case measure => simp [intOf]; omega
          · clear px
            by_cases h1 : k < n
            · have d1 : (k : Int) < (n : Int) := by omega
              have d2 : ¬ (k : Int) < 50 := by omega
              clear hc
              go_wp2_with fail
              go_meet
              exact ⟨_, _, rfl, rfl, rfl, HI⟩
            · have d1 : ¬ (k : Int) < (n : Int) := by omega
              clear hc
              go_wp2_with fail
              go_meet
              exact ⟨_, _, rfl, rfl, rfl, HI⟩
      case rest =>
        obtain ⟨d', r', rfl, rfl, rfl, HI⟩ := hcut
        clear PX
        obtain ⟨Bc, hBc⟩ : ∃ Bc, wc.heap.size = Bc := ⟨_, rfl⟩
        obtain ⟨T2, hT2⟩ : ∃ T2 : Nat → Prop, T2 = fun k => T k ∨ Bc ≤ k := ⟨_, rfl⟩
        obtain ⟨S2, hS2⟩ : ∃ S2 : Nat → Prop, S2 = fun k => S1 k ∧ k < Bc := ⟨_, rfl⟩
        have hw4 := HI.out.2.2.1.size
        have HST2 := Lib.hid (show (∀ k, T2 k → w.heap.size ≤ k) ∧ (∀ k, Bc ≤ k → T2 k) ∧ (∀ k, S2 k → ¬ T2 k) from ⟨by rw [hT2]; exact fun k h => h.elim (fun h => (HST.out.2.2 k h).1) (fun h => by omega), by rw [hT2]; exact fun k h => Or.inr h, by rw [hS2, hT2]; exact fun k h h' => h'.elim (fun h' => (HST.out.1 k h.1).2 h') (fun h' => by omega)⟩)
        have HI2 := Lib.hid (show SamI w wc Bc T2 S2 R2 R1 vy vq d' r' from ⟨HI.out.2.1.sub (fun k _ h => by rw [hT2]; exact Or.inl h), HI.out.1.sub (fun k hk h => by rw [hS2]; exact ⟨h, by rw [← hBc]; exact hk⟩), HI.out.2.2.1, Nat.le_of_eq hBc.symm⟩)
        clear hT2 hS2 hBc hw4 HI HST
        go_upto_block 2 with (fail)
        go_cut [9, 12, 13] (fun d r o wx => ∃ d2 r2 : Option Addr, d = .pointer d2 ∧ r = .pointer r2 ∧ o = .bool true ∧ Hid (SamI w wx Bc T2 S2 R2 R1 d2 r2 d' r'))
        case first =>
          go_wp2_with fail
          go_loopw [9, 12, 13, 15] (fun d r o i wr => ∃ (k : Nat) (d2 r2 : Option Addr), k ≤ n2 ∧ k ≤ 50 ∧ d = .pointer d2 ∧ r = .pointer r2 ∧ o = .bool true ∧ i = .int .i64 (k : Int) ∧ Hid (SamI w wr Bc T2 S2 R2 R1 d2 r2 d' r')) (fun _ _ _ i _ => n2 - (intOf i).toNat)
          case atStart => exact ⟨0, vy, vq, Nat.zero_le _, by omega, rfl, rfl, rfl, rfl, HI2⟩
          case round =>
            obtain ⟨k, d2, r2, hk, hk50, rfl, rfl, rfl, rfl, HI⟩ := hrel
            clear HI2
            obtain ⟨px, _⟩ := HI.out
            by_cases hc : k < n2 ∧ k < 50
            · have d1 : (k : Int) < (n2 : Int) := by omega
              have d2 : (k : Int) < 50 := by omega
              rcases px with ⟨rfl, rfl, _⟩ | ⟨rm, p, bm, q, C, hrm, hlo, rfl, rfl, ht⟩
              · go_wp2_with fail
                go_meet
                exact ⟨_, _, rfl, rfl, rfl, HI⟩
              · have HT := Lib.hid ht
                have HRM := Lib.hid (And.intro hrm hlo)
                obtain ⟨x, hx⟩ : ∃ x, L2[k]? = some x := ⟨_, List.getElem?_eq_getElem (by rw [HN.out.2]; exact hc.1)⟩
                obtain ⟨hd1, hd2⟩ := HM2.out (by first | rfl | trivial) k x (by omega) hx
                obtain ⟨b, off, rfl, c0, c1, c2, c3, c4⟩ := (HR.out.2.below HI.out.2.2.1) k x hx
                have HO := Lib.hid (HOK.out.2 x (List.mem_of_getElem? hx))
                clear hx ht hrm hlo
                go_wp2_with fail
                refine (c_do HT.out (fun k hk => HST2.out.2.1 k (Nat.le_trans HI.out.2.2.2 hk)) x.v (StepOk.atP w HO.out rfl HI.out.2.2.1 hd1 hd2 (fun k h => HST2.out.1 k h))).mono ?_
                rintro e w5 ⟨p', bm', q', C', rfl, ht5, ho5⟩
                have HI5 := Lib.hid (show SamI w w5 Bc T2 S2 R2 R1 (some ⟨p', 0, none⟩) (some ⟨q', 0, none⟩) d' r' from ⟨Or.inr ⟨rm, p', bm', q', C', HRM.out.1, HRM.out.2, rfl, rfl, ht5⟩, HI.out.2.1.off ho5 (fun k _ h => HST2.out.2.2 k h), Off.below HI.out.2.2.1 ho5 HI.out.2.2.1.size (fun k h => HST2.out.1 k h), Nat.le_trans HI.out.2.2.2 ho5.size⟩)
                clear c0 c1 c2 c3 c4 ht5 ho5 HI HT HRM
                go_wp2_with fail
                go_roundw
                case rel => exact ⟨k + 1, _, _, by omega, by omega, rfl, rfl, rfl, by go_num, HI5⟩
                case measure => simp [intOf]; omega
            · clear px
              by_cases h1 : k < n2
              · have d1 : (k : Int) < (n2 : Int) := by omega
                have d2 : ¬ (k : Int) < 50 := by omega
                clear hc
                go_wp2_with fail
                go_meet
                exact ⟨_, _, rfl, rfl, rfl, HI⟩
              · have d1 : ¬ (k : Int) < (n2 : Int) := by omega
                clear hc
                go_wp2_with fail
                go_meet
                exact ⟨_, _, rfl, rfl, rfl, HI⟩
        case rest =>
          obtain ⟨d2, r2, rfl, rfl, rfl, HI⟩ := hcut
          clear HI2
          obtain ⟨b, hs1, hs2⟩ := pr_same HI.out.2.1 HI.out.1
          have HS1 := Lib.hid hs1
          have HS2 := Lib.hid hs2
          have HSS := Lib.hid (fun W b => pr_self (HI.out.2.1.below (W' := W) b))
          clear hs1 hs2
          have HB := Lib.hid HI.out.2.2.1
          clear HI
          go_wp2_with fail
          refine HS1.out.mono ?_
          rintro e w6 ⟨rfl, hb6⟩
          have HB6 := Lib.hid hb6
          clear hb6
          go_wp2_with fail
          refine (HS2.out w6 HB6.out).mono ?_
          rintro e w7 ⟨rfl, hb7⟩
          have HB7 := Lib.hid (step_below HB6.out hb7)
          clear hb7
          have hbe : (b == b) = true := by simp
          go_wp2_with fail
          refine (HSS.out w7 HB7.out).mono ?_
          rintro e w8 ⟨rfl, hb8⟩
          have HB8 := Lib.hid (step_below HB7.out hb8)
          clear hb8
          go_wp2_with fail
          refine (dknown_law _).mono ?_
          rintro e w9 ⟨rfl, hb9⟩
          have HB9 := Lib.hid (step_below HB.out (step_below HB8.out hb9))
          clear hb9
          go_wp2_with fail
          go_ret
          exact BoolR.mk rfl HB9.out
end Go.Proofs.Ytbjhcbiihekceaa

namespace Go.Proofs.Ytbjhcbiihekceaa
open Go.ChangeShapes Go.WideShapes Go.ChangeAt Go.RowKit Go.Maps Go.Shelf
set_option linter.unusedVariables false
set_option linter.unusedSimpArgs false
theorem cv_len {ks : List (ByteArray × Int)} {c : CF} (h : c.2.2 ≤ c.2.1.length) : (cutV ks c).2.1.length = (cutV ks c).2.2 := by
  unfold cutV
  simp only [List.length_take]
  omega
theorem cv_full {d : CF} (h : d.2.1.length = d.2.2) : cutV [] d = d := by
  have e : d.2.2 + min (loose [] d.1).toNat (d.2.1.length - d.2.2) = d.2.1.length := by
    rw [show (loose [] d.1) = 0 from rfl]
    simp [h]
  unfold cutV
  rw [e, List.take_length, h]
theorem cv_twice {C : List CF} {ks : List (ByteArray × Int)} (h : ∀ c ∈ C, c.2.2 ≤ c.2.1.length) : (C.map (cutV ks)).map (cutV []) = C.map (cutV ks) := by
  rw [List.map_map]
  exact List.map_congr_left fun c hc => cv_full (cv_len (h c hc))
theorem cv_names (C : List CF) (ks : List (ByteArray × Int)) : (C.map (cutV ks)).map (·.1) = C.map (·.1) := by
  rw [List.map_map]
  rfl
theorem cv_sum (ks : List (ByteArray × Int)) : ∀ C : List CF, cSum (C.map (cutV ks)) ≤ cSum C
  | [] => Nat.le_refl _
  | c :: r => by
    have := cv_sum ks r
    unfold cSum at this ⊢
    simp only [List.map_cons, List.sum_cons]
    have h2 : (cutV ks c).2.1.length ≤ c.2.1.length := by
      unfold cutV
      simp only [List.length_take]
      omega
    omega
theorem cv_nil (C : List CF) : crE C [] = 0 := by
  unfold crE
  rw [if_neg (by simpa using KOk.nil), if_neg (by rintro ⟨k, hk, _⟩; cases hk)]
theorem cv_old {room : Nat} {C : List CF} (hf : Fine room C) {c : CF} (hc : c ∈ C) : cOld C c.1 = c := by
  cases h : cFind C c.1 with
  | none => exact absurd rfl (cFind_none.1 h c hc)
  | some d =>
    obtain ⟨h1, h2⟩ := cFind_some h
    have : d = c := by
      apply Classical.byContradiction
      intro hne
      exact pair_of (fun h => Ne.symm h) hf.apart h1 hc hne h2
    unfold cOld
    rw [h, this]; rfl
theorem cv_read {room : Nat} {C : List CF} (hf : Fine room C) {c : CF} (hc : c ∈ C) : readV C c.1 = c.2.1 := by
  unfold readV
  rw [if_pos (one_self hf hc).1, cv_old hf hc]
theorem loose_same {ks : List (ByteArray × Int)} {k : ByteArray × Int} (h : KOk (ks ++ [k])) : loose (ks ++ [k]) k.1 = k.2 := by
  have h2 := (KOk.snoc.1 h).2.1
  unfold loose
  rw [kFind_snoc, h2, if_pos rfl]
  rfl
theorem loose_other {ks : List (ByteArray × Int)} {k : ByteArray × Int} {s : ByteArray} (h : k.1 ≠ s) : loose (ks ++ [k]) s = loose ks s := by
  unfold loose
  rw [kFind_snoc, if_neg h]
  simp
theorem loose_low {ks : List (ByteArray × Int)} (h : KOk ks) (s : ByteArray) : 0 ≤ loose ks s := by
  unfold loose
  cases hk : kFind ks s with
  | none => exact Int.le_refl _
  | some x =>
    obtain ⟨k, h1, _, rfl⟩ := kFind_some hk
    exact (h.each k h1).2
theorem crE_ok {C : List CF} {ks : List (ByteArray × Int)} (h : crE C ks = 0) : KOk ks := by
  unfold crE at h
  by_cases hk : KOk ks
  · exact hk
  · rw [if_pos hk] at h; cases h
/-- What a file has behind a crash: in the law's words. -/
theorem cv_says {ks : List (ByteArray × Int)} (hk : KOk ks) {c : CF} (h : c.2.2 ≤ c.2.1.length) :
    (((cutV ks c).2.2 : Nat) : Int) = (c.2.2 : Int) + min (loose ks c.1) ((c.2.1.length : Int) - (c.2.2 : Int)) ∧ c.2.2 ≤ (cutV ks c).2.2 ∧ (cutV ks c).2.2 ≤ c.2.1.length ∧ (cutV ks c).2.1 = c.2.1.take (cutV ks c).2.2 := by
  have h0 := loose_low hk c.1
  unfold cutV
  refine ⟨?_, ?_, ?_, rfl⟩ <;> simp only <;> omega
end Go.Proofs.Ytbjhcbiihekceaa

namespace Go.Proofs.Ytbjhcbiihekceaa
open Go.ChangeShapes Go.WideShapes Go.ChangeAt Go.RowKit Go.Maps Go.Shelf
set_option linter.unusedVariables false
set_option linter.unusedSimpArgs false
theorem read_at {w : World} {p bm room : Nat} {C : List CF} {O : Nat → Prop} (h : DC w p bm room C O) (s : ByteArray) (hs : s.size ≤ maxLen) (B : List Int) (nb : Nat) (e0 : Nat) (hl : readV C s = B) (hn : B.length = nb) (he : oneE C s = e0) :
    Calls Try.prog 26 #[.pointer (some ⟨p, 0, none⟩), .string s] w fun e w' => ∃ a c, e = .returned (.tuple #[.slice a nb c, .int .i64 e0]) ∧ Ls .u8 w' a c B ∧ Below w.heap.size w w' := by
  subst hl he hn
  refine (c_read h s hs).mono ?_
  rintro e w' ⟨v, rfl, ho, hb⟩
  obtain ⟨a, c, rfl, hl, _⟩ := own_flb ho rfl
  exact ⟨a, c, rfl, hl, hb⟩
set_option maxRecDepth 100000 in
set_option maxHeartbeats 4000000 in
/-- part (25): true. -/
theorem part_law {w : World} {p bm p2 bm2 room : Nat} {C : List CF} {O O2 : Nat → Prop} (ks : List (ByteArray × Int)) (h : DC w p bm room C O) (h2 : DC w p2 bm2 room (C.map (cutV ks)) O2) (hk : KOk ks) (ka : Option Addr) (kn kc : Nat) (hkn : ks.length = kn) (hkl : kn ≤ 1000) (hkp : Kps w ka ks) (c : CF) (hc : c ∈ C) :
    Calls Try.prog 25 #[.pointer (some ⟨p, 0, none⟩), .pointer (some ⟨p2, 0, none⟩), .string c.1, .slice ka kn kc] w (BoolR w true) := by
  have hf := h.fine
  have hf2 := h2.fine
  have hc2 : cutV ks c ∈ C.map (cutV ks) := List.mem_map.2 ⟨c, hc, rfl⟩
  obtain ⟨e0, e1⟩ := one_self hf hc
  have e2 := cv_read hf hc
  obtain ⟨f0, f1⟩ := one_self hf2 hc2
  have f2 := cv_read hf2 hc2
  obtain ⟨g0, g1, g2, g3⟩ := cv_says hk (hf.each c hc).2.2
  have g4 := cv_len (ks := ks) (hf.each c hc).2.2
  have hlow := loose_low hk c.1
  have hbig : c.2.1.length ≤ 1048576 := by rw [← e2]; exact Nat.le_trans (read_len hf _) hf.big
  obtain ⟨s, hs⟩ : ∃ s, c.1 = s := ⟨_, rfl⟩
  obtain ⟨B, hB⟩ : ∃ B, c.2.1 = B := ⟨_, rfl⟩
  obtain ⟨nb, hnb⟩ : ∃ nb, B.length = nb := ⟨_, rfl⟩
  obtain ⟨la, hla⟩ : ∃ la, c.2.2 = la := ⟨_, rfl⟩
  obtain ⟨m, hm⟩ : ∃ m, (cutV ks c).2.2 = m := ⟨_, rfl⟩
  obtain ⟨z, hz⟩ : ∃ z, loose ks s = z := ⟨_, rfl⟩
  rw [show (cutV ks c).1 = s from hs] at f0 f1 f2
  rw [hs] at e0 e1 e2 hlow g0 ⊢
  rw [hm] at f1 g0 g1 g2 g3 g4
  rw [hz] at hlow g0
  rw [hla] at e1 g0 g1
  rw [hB] at e2 g0 g2 g3 hbig
  rw [hnb] at g0 g2 hbig
  rw [g3] at f2 g4
  have hsz : s.size ≤ maxLen := by rw [← hs]; exact may_size (hf.each c hc).1
  have H1 := Lib.hid (And.intro h hsz)
  have H2 := Lib.hid h2
  have HK := Lib.hid (And.intro hk (And.intro hkn (And.intro hkp hz)))
  have HE := Lib.hid (And.intro e0 (And.intro e1 (And.intro e2 hnb)))
  have HF := Lib.hid (And.intro f0 (And.intro f1 (And.intro f2 g4)))
  clear hf hf2 hc2 e0 e1 e2 f0 f1 f2 g3 g4 hs hB hnb hla hm hz hsz h h2 hk hkn hkp hc
  go_enter Try.func25, Try.ntmps25
  go_wp2_with fail
  refine (read_at H1.out.1 s H1.out.2 B nb 0 HE.out.2.2.1 HE.out.2.2.2 HE.out.1).mono ?_
  rintro e w1 ⟨a1, c1, rfl, hl1, hb1⟩
  have HB1 := Lib.hid hb1
  have HL1 := Lib.hid hl1
  clear hb1 hl1
  go_wp2_with fail
  refine (last_at (H1.out.1.below HB1.out) s H1.out.2 la 0 HE.out.2.1 HE.out.1).mono ?_
  rintro e w2 ⟨rfl, hb2⟩
  have HB2 := Lib.hid (step_below HB1.out hb2)
  have HL2 := Lib.hid (HL1.out.below hb2)
  clear hb2 HB1 HL1
  go_upto_block 0 with (fail)
  go_cut [13] (fun x wx => x = .int .i64 z ∧ w2 = wx)
  case first =>
    go_wp2_with fail
    go_loopw [13, 14] (fun x i wr => ∃ k : Nat, k ≤ kn ∧ x = .int .i64 (loose (ks.take k) s) ∧ i = .int .i64 (k : Int) ∧ w2 = wr) (fun _ i _ => kn - (intOf i).toNat)
    case atStart => exact ⟨0, Nat.zero_le _, rfl, rfl, rfl⟩
    case round =>
      obtain ⟨k, hk, rfl, rfl, rfl⟩ := hrel
      by_cases hlt : k < kn
      · have d1 : (k : Int) < (kn : Int) := by omega
        obtain ⟨o, ho⟩ : ∃ o, ks[k]? = some o := ⟨_, List.getElem?_eq_getElem (by rw [HK.out.2.1]; exact hlt)⟩
        obtain ⟨b, off, rfl, c0, c1⟩ := (HK.out.2.2.1.below HB2.out) k o ho
        obtain ⟨l1, hl1⟩ : ∃ l1, loose (ks.take k) s = l1 := ⟨_, rfl⟩
        by_cases he : o.1 = s
        · have HN := Lib.hid (show loose (ks.take (k + 1)) s = o.2 by
            have := HK.out.1.sub (k + 1)
            rw [take_snoc ho] at this ⊢
            rw [← he]; exact loose_same this)
          have hee : (o.1.toList == s.toList) = true := by rw [he]; simp
          rw [hl1]
          clear hl1 ho he
          go_wp2_with fail
          go_roundw
          case rel => exact ⟨k + 1, by omega, by rw [HN.out], by go_num, by first | rfl | trivial⟩
          case measure => simp [intOf]; omega
        · have HN := Lib.hid (show loose (ks.take (k + 1)) s = l1 by rw [take_snoc ho, loose_other he]; exact hl1)
          have hee : (o.1.toList == s.toList) = false := by
            rw [ByteArray.toList_eq, ByteArray.toList_eq]
            apply Bool.eq_false_iff.2
            intro hx
            exact he (ByteArray.ext (Array.ext' (by simpa using hx)))
          rw [hl1]
          clear hl1 ho he
          go_wp2_with fail
          go_roundw
          case rel => exact ⟨k + 1, by omega, by rw [HN.out], by go_num, by first | rfl | trivial⟩
          case measure => simp [intOf]; omega
      · have d1 : ¬ (k : Int) < (kn : Int) := by omega
        obtain rfl : k = kn := by omega
        have HZ := Lib.hid (show loose (ks.take k) s = z by rw [← HK.out.2.1, List.take_length]; exact HK.out.2.2.2)
        obtain ⟨l1, hl1⟩ : ∃ l1, loose (ks.take k) s = l1 := ⟨_, rfl⟩
        have HZ2 := Lib.hid (show l1 = z from hl1.symm.trans HZ.out)
        rw [hl1]
        clear hl1 HZ
        go_wp2_with fail
        go_meet
        exact ⟨by rw [HZ2.out], rfl⟩
  case rest =>
    obtain ⟨rfl, rfl⟩ := hcut
    go_wp2_with fail
    refine (read_at (H2.out.below HB2.out) s H1.out.2 (B.take m) m 0 HF.out.2.2.1 HF.out.2.2.2 HF.out.1).mono ?_
    rintro e w3 ⟨a3, c3, rfl, hl3, hb3⟩
    have HB3 := Lib.hid (step_below HB2.out hb3)
    have HL3 := Lib.hid (And.intro (HL2.out.below hb3) hl3)
    clear hb3 hl3 HL2
    go_wp2_with fail
    refine (last_at (H2.out.below HB3.out) s H1.out.2 m 0 HF.out.2.1 HF.out.1).mono ?_
    rintro e w4 ⟨rfl, hb4⟩
    have HB4 := Lib.hid (step_below HB3.out hb4)
    obtain ⟨str, hstr⟩ : ∃ str, strOfNums (B.take m) = str := ⟨_, rfl⟩
    have q1 := fun j => conv_ls (w4.drewN j) a3 m c3 (B.take m) HF.out.2.2.2 ((HL3.out.2.below hb4).below (below_drewN (Below.refl _ _) j)).rd
    obtain ⟨a5, c5, hsl, hl5⟩ := Ls.hi eltB (HL3.out.1.below hb4) nb m HE.out.2.2.2 g2
    have q2 := fun j => conv_ls (w4.drewN j) a5 m c5 (B.take m) HF.out.2.2.2 (hl5.below (below_drewN (Below.refl _ _) j)).rd
    rw [hstr] at q1 q2
    obtain ⟨y, hy⟩ : ∃ y : Int, (nb : Int) - (la : Int) = y := ⟨_, rfl⟩
    have e1 : IntKind.i64.wrap ((nb : Int) - (la : Int)) = y := by rw [IntKind.wrap_i64] <;> omega
    rw [hy] at g0
    obtain ⟨mz, e2⟩ : ∃ mz, min z y = mz := ⟨_, rfl⟩
    rw [e2] at g0
    have e3 : IntKind.i64.wrap ((la : Int) + mz) = (m : Int) := by rw [g0, IntKind.wrap_i64] <;> omega
    have d5 : decide (la ≤ m) = true := by simpa using g1
    have d6 : decide (m ≤ nb) = true := by simpa using g2
    have d7 : (la : Int) ≤ (m : Int) := by omega
    have d8 : (m : Int) ≤ (nb : Int) := by omega
    clear hb4 hstr HL3 HB3 hl5 hy g0 g1 g2 hlow hbig
    go_wp2_with fail
    go_quiet ((go_at_call 14; exact Calls.quiet_of_same ((dnum_law _ _).mono fun e w' h => ⟨h.1, h.2.symm⟩)))
    go_wp2_with fail
    go_ret
    exact BoolR.mk rfl (below_drewN HB4.out nq)
end Go.Proofs.Ytbjhcbiihekceaa

namespace Go.Proofs.Ytbjhcbiihekceaa
open Go.ChangeShapes Go.WideShapes Go.ChangeAt Go.RowKit Go.Maps Go.Shelf
set_option linter.unusedVariables false
set_option linter.unusedSimpArgs false
theorem crE_is (C : List CF) (ks : List (ByteArray × Int)) : crE C ks = 0 ∨ crE C ks = 2 ∨ crE C ks = 6 := by
  unfold crE
  split
  · exact Or.inr (Or.inl rfl)
  · split
    · exact Or.inr (Or.inr rfl)
    · exact Or.inl rfl
def LasI (w wr : World) (rm : Nat) (p bm q : Nat) (C : List CF) : Prop := Two wr p bm q rm C C (fun k => w.heap.size ≤ k) ∧ Below w.heap.size w wr
set_option maxRecDepth 100000 in
set_option maxHeartbeats 4000000 in
theorem lasts_law (R : Int) (a : Option Addr) (L : List StepV) (n c : Nat) (ka : Option Addr) (ks : List (ByteArray × Int)) (kn kc : Nat) (w : World) (hn : L.length = n) (hR : StepsR w a L) (hOk : ∀ x ∈ L, StepOk w x) (hkn : ks.length = kn) (hkp : Kps w ka ks) (hks : ∀ k ∈ ks, k.1.size ≤ maxLen) :
    Calls Try.prog 5 #[.int .i64 R, .slice a n c, .slice ka kn kc] w (BoolR w true) := by
  have HN := Lib.hid hn
  have HR := Lib.hid hR
  have HOK := Lib.hid hOk
  have HKS := Lib.hid (And.intro hkn (And.intro hkp hks))
  clear hn hR hOk hkn hkp hks
  go_enter Try.func5, Try.ntmps5
  go_wp2_with fail
  refine (dknown_law _).mono ?_
  rintro e w1 ⟨rfl, hb1⟩
  have HB1 := Lib.hid hb1
  clear hb1
  go_wp2_with fail
  by_cases hr : R < 1024 ∨ 1048576 < R
  · refine (dnew_bad R hr w1).mono ?_
    rintro e w2 ⟨rfl, rfl⟩
    clear hr
    go_wp2_with (go_at_call 14; refine (dnum_law _ _).mono ?_; rintro e w' ⟨rfl, rfl⟩)
    go_ret
    exact BoolR.mk rfl HB1.out
  · obtain ⟨rm, rfl⟩ : ∃ rm : Nat, R = (rm : Int) := ⟨R.toNat, by omega⟩
    have hlo : 1024 ≤ rm := by omega
    have hhi : rm ≤ 1048576 := by omega
    clear hr
    refine (c_new rm hlo hhi w1).mono ?_
    rintro e w2 ⟨rfl, hd, hb2⟩
    have HD := Lib.hid hd
    have HB2 := Lib.hid hb2
    have HB12 := Lib.hid (step_below HB1.out hb2)
    clear hd hb2
    go_wp2_with fail
    refine (dnum_law _ _).mono ?_; rintro e w' ⟨rfl, rfl⟩
    go_wp2_with fail
    refine (much_law a L n c w2 HN.out (HR.out.below HB12.out) (fun x hx => (HOK.out x hx).below HB12.out)).mono ?_
    rintro e w3 ⟨b, rfl, hb3, hm⟩
    have HM := Lib.hid hm
    have HB3 := Lib.hid hb3
    have HB13 := Lib.hid (step_below HB12.out hb3)
    clear hb3 hm HB12
    cases b with
    | true =>
      go_wp2_with fail
      go_ret
      exact BoolR.mk rfl HB13.out
    | false =>
      by_cases hbig : 1000 < kn
      · have d1 : (1000 : Int) < (kn : Int) := by omega
        go_wp2_with fail
        go_ret
        exact BoolR.mk rfl HB13.out
      · have d1 : ¬ (1000 : Int) < (kn : Int) := by omega
        have hkl : kn ≤ 1000 := by omega
        clear hbig
        go_wp2_with fail
        refine (rnew_law rm hlo hhi w3).mono ?_
        rintro e w4 ⟨rfl, hq, hb4⟩
        have hs1 := HB1.out.size
        have hs2 := HB2.out.size
        have hs3 := HB3.out.size
        have HI := Lib.hid (show LasI w w4 rm _ _ _ [] from ⟨⟨fun k => w1.heap.size ≤ k ∧ k < w2.heap.size, fun k => w3.heap.size ≤ k, ((HD.out.mono (O' := fun k => w1.heap.size ≤ k ∧ k < w2.heap.size) fun k hk h => ⟨hk, h⟩).below (step_below HB3.out hb4)), hq, fun k h h' => by omega, fun k h => by omega, fun k (h : w3.heap.size ≤ k) => by omega⟩, step_below HB13.out hb4⟩)
        clear hq hb4 HD HB2 HB3 HB13 HB1 hs1 hs2 hs3
        go_upto_block 0 with (fail)
        go_cut [7, 9] (fun d r wx => ∃ (p bm q : Nat) (C : List CF), d = .pointer (some ⟨p, 0, none⟩) ∧ r = .pointer (some ⟨q, 0, none⟩) ∧ Hid (LasI w wx rm p bm q C))
        case first =>
          go_wp2_with fail
          go_loopw [7, 9, 10] (fun d r i wr => ∃ (k p bm q : Nat) (C : List CF), k ≤ n ∧ k ≤ 60 ∧ d = .pointer (some ⟨p, 0, none⟩) ∧ r = .pointer (some ⟨q, 0, none⟩) ∧ i = .int .i64 (k : Int) ∧ Hid (LasI w wr rm p bm q C)) (fun _ _ i _ => n - (intOf i).toNat)
          case atStart => exact ⟨0, _, _, _, _, Nat.zero_le _, by omega, rfl, rfl, rfl, HI⟩
          case round =>
            clear HI
            obtain ⟨k, p, bm, q, C, hk, hk60, rfl, rfl, rfl, HI⟩ := hrel
            by_cases hc : k < n ∧ k < 60
            · have d1 : (k : Int) < (n : Int) := by omega
              have d2 : (k : Int) < 60 := by omega
              obtain ⟨x, hx⟩ : ∃ x, L[k]? = some x := ⟨_, List.getElem?_eq_getElem (by rw [HN.out]; exact hc.1)⟩
              obtain ⟨hd1, hd2⟩ := HM.out (by first | rfl | trivial) k x (by omega) hx
              obtain ⟨b, off, rfl, c0, c1, c2, c3, c4⟩ := (HR.out.below HI.out.2) k x hx
              have HO := Lib.hid (HOK.out x (List.mem_of_getElem? hx))
              clear hx
              go_wp2_with fail
              refine (c_do HI.out.1 (fun k hk => Nat.le_trans HI.out.2.size hk) x.v (StepOk.atP w HO.out rfl HI.out.2 hd1 hd2 (fun k h => h))).mono ?_
              rintro e w5 ⟨p', bm', q', C', rfl, ht5, ho5⟩
              have HI5 := Lib.hid (show LasI w w5 rm p' bm' q' C' from ⟨ht5, Off.below HI.out.2 ho5 HI.out.2.size (fun k h => h)⟩)
              clear c0 c1 c2 c3 c4 ht5 ho5 HI
              go_wp2_with fail
              go_roundw
              case rel => exact ⟨k + 1, _, _, _, _, by omega, by omega, rfl, rfl, by go_num, HI5⟩
              case measure => simp [intOf]; omega
            · by_cases h1 : k < n
              · have d1 : (k : Int) < (n : Int) := by omega
                have d2 : ¬ (k : Int) < 60 := by omega
                clear hc
                go_wp2_with fail
                go_meet
                exact ⟨_, _, _, _, rfl, rfl, HI⟩
              · have d1 : ¬ (k : Int) < (n : Int) := by omega
                clear hc
                go_wp2_with fail
                go_meet
                exact ⟨_, _, _, _, rfl, rfl, HI⟩
        case rest =>
          clear HI
          obtain ⟨p, bm, q, C, rfl, rfl, HI⟩ := hcut
          obtain ⟨O, hdc⟩ := HI.out.1.ex
          have HDC := Lib.hid hdc
          have HB := Lib.hid HI.out.2
          clear HI hdc
          go_wp2_with fail
          refine (c_crash HDC.out ka ks kn kc HKS.out.1 (HKS.out.2.1.below HB.out) HKS.out.2.2 (by rw [HKS.out.1]; omega)).mono ?_
          rintro e w5 ⟨hb5, v, rfl, hbad, hgood⟩
          have HB5 := Lib.hid (step_below HB.out hb5)
          have HD5 := Lib.hid (HDC.out.below hb5)
          clear hb5 HDC
          rcases crE_is C ks with h0 | h0 | h0
          · obtain ⟨p2, bm2, rfl, hd2⟩ := hgood h0
            have HK := Lib.hid (And.intro (crE_ok h0) (And.intro HKS.out.1 (And.intro HKS.out.2.1 HKS.out.2.2)))
            have HD2 := Lib.hid hd2
            rw [h0]
            clear hbad hgood h0 hd2 HKS
            go_wp2_with fail
            refine (dnum_law _ _).mono ?_; rintro e w' ⟨rfl, rfl⟩
            obtain ⟨m, hm⟩ : ∃ m, C.length = m := ⟨_, rfl⟩
            have hm64 : m ≤ 64 := by rw [← hm]; exact HD5.out.few
            have HM2 := Lib.hid hm
            clear hm
            go_wp2_with fail
            refine (names_of HD5.out HM2.out).mono ?_
            rintro e w6 ⟨a6, c6, rfl, hst6, hb6⟩
            have HB6 := Lib.hid hb6
            have HS6 := Lib.hid hst6
            clear hb6 hst6
            go_wp2_with fail
            refine (names_of (HD2.out.below HB6.out) (n := m) (by rw [List.length_map]; exact HM2.out)).mono ?_
            rintro e w7 ⟨a7, c7, rfl, hst7, hb7⟩
            rw [cv_names] at hst7
            have HB7 := Lib.hid (step_below HB6.out hb7)
            have HS7 := Lib.hid (And.intro (HS6.out.below hb7) hst7)
            clear hb7 hst7 HS6 HB6
            obtain ⟨u1, hu1⟩ : ∃ u, cSum C = u := ⟨_, rfl⟩
            obtain ⟨u2, hu2⟩ : ∃ u, cSum (C.map (cutV ks)) = u := ⟨_, rfl⟩
            have hle := cv_sum ks C
            rw [hu1, hu2] at hle
            have d3 : ¬ (u1 : Int) < (u2 : Int) := by omega
            have d4 : decide (u1 < u2) = false := decide_eq_false (by omega)
            have HU := Lib.hid (And.intro hu1 hu2)
            clear hu1 hu2 hle
            go_wp2_with fail
            refine (c_used (HD2.out.below HB7.out)).mono ?_
            rintro e w8 ⟨rfl, hb8⟩
            rw [HU.out.2]
            have HB8 := Lib.hid (step_below HB7.out hb8)
            have HS8 := Lib.hid (And.intro (HS7.out.1.below hb8) (HS7.out.2.below hb8))
            clear hb8 HS7 HB7
            go_wp2_with fail
            refine (c_used (HD5.out.below HB8.out)).mono ?_
            rintro e w9 ⟨rfl, hb9⟩
            rw [HU.out.1]
            have HB9 := Lib.hid (step_below HB8.out hb9)
            have HS9 := Lib.hid (And.intro (HS8.out.1.below hb9) (HS8.out.2.below hb9))
            clear hb9 HS8 HB8
            go_wp2_with fail
            refine (c_room (HD2.out.below HB9.out)).mono ?_
            rintro e w' ⟨rfl, rfl⟩
            go_wp2_with fail
            have HB8 := Lib.hid (step_below HB5.out HB9.out)
            have HDC := Lib.hid (And.intro (HD5.out.below HB9.out) (HD2.out.below HB9.out))
            clear HB5 HB9 HD5 HD2 HU d3 d4
            go_loopw [15] (fun i wr => ∃ k : Nat, k ≤ m ∧ i = .int .i64 (k : Int) ∧ Below w9.heap.size w9 wr) (fun i _ => m - (intOf i).toNat)
            case atStart => exact ⟨0, Nat.zero_le _, rfl, Below.refl _ _⟩
            case round =>
              obtain ⟨k, hk, rfl, hbr⟩ := hrel
              by_cases hlt : k < m
              · have d1 : (k : Int) < (m : Int) := by omega
                obtain ⟨f, hf⟩ : ∃ f, C[k]? = some f := ⟨_, List.getElem?_eq_getElem (by rw [HM2.out]; exact hlt)⟩
                have HFM := Lib.hid (List.mem_of_getElem? hf)
                obtain ⟨g1, o1, rfl, z1⟩ := (HS9.out.1.below hbr) k f.1 (by rw [List.getElem?_map, hf]; rfl)
                obtain ⟨g2, o2, rfl, z2⟩ := (HS9.out.2.below hbr) k f.1 (by rw [List.getElem?_map, hf]; rfl)
                have HBR := Lib.hid hbr
                have FQ := Lib.hid (fun X (b : Below wr.heap.size wr X) => (⟨(b.cell (cell_lt z1)).trans z1, (b.cell (cell_lt z2)).trans z2⟩ : X.cell? ⟨g1, o1 + k, none⟩ = some (.string f.1) ∧ X.cell? ⟨g2, o2 + k, none⟩ = some (.string f.1)))
                clear hbr hf z1 z2
                go_wp2_with fail
                rename_i KK hKK
                refine Code.wp_mono (Q := Exit.then KK (fun _ _ _ => False)) (fun e a' w' h => by cases e <;> first | exact h | exact h.elim) ?_
                refine wp_region_held_drew (S := (fun X => Below wr.heap.size wr X)) (by kernel_rfl) ((Below.refl _ _).drew) (fun hHeld => ?_)
                refine wpAnyH_take (i := 0) (oi := { dst := some 103, op := Op.move (Operand.tmp 13), type := 45, pos := "law.go:204", after := #[], guard := none }) (v := ?_) rfl (by kernel_rfl) (by kernel_rfl) (by kernel_rfl) (fun _ _ _ h => h) (Or.inl ⟨by rfl, ?_⟩) (by assumption) ?_
                rotate_left
                · intro W hSw; go_simp; try with_reducible rfl
                try simp only [Act.put, List.setIfInBounds_toArray, List.set_cons_zero, List.set_cons_succ]
                refine wpAnyH_take (i := 1) (oi := { dst := some 104, op := Op.move (Operand.tmp 15), type := 3, pos := "law.go:204", after := #[], guard := none }) (v := ?_) rfl (by kernel_rfl) (by kernel_rfl) (by kernel_rfl) (fun _ _ _ h => h) (Or.inl ⟨by rfl, ?_⟩) (by assumption) ?_
                rotate_left
                · intro W hSw; go_simp; try with_reducible rfl
                try simp only [Act.put, List.setIfInBounds_toArray, List.set_cons_zero, List.set_cons_succ]
                refine wpAnyH_take (i := 2) (oi := { dst := some 105, op := Op.indexAddr 45 (Operand.tmp 103) (Operand.tmp 104), type := 0, pos := "law.go:204", after := #[{ on := 0, ground := Ground.data }, { on := 1, ground := Ground.data }], guard := none }) (v := ?_) rfl (by kernel_rfl) (by kernel_rfl) (by kernel_rfl) (fun _ _ _ h => h) (Or.inl ⟨by rfl, ?_⟩) (by assumption) ?_
                rotate_left
                · intro W hSw; go_simp; try with_reducible rfl
                try simp only [Act.put, List.setIfInBounds_toArray, List.set_cons_zero, List.set_cons_succ]
                refine wpAnyH_take (i := 3) (oi := { dst := some 106, op := Op.load 9 (Operand.tmp 105), type := 9, pos := "law.go:204", after := #[{ on := 2, ground := Ground.data }], guard := none }) (v := ?_) rfl (by kernel_rfl) (by kernel_rfl) (by kernel_rfl) (fun _ _ _ h => h) (Or.inl ⟨by rfl, ?_⟩) (by assumption) ?_
                rotate_left
                · intro W hSw; obtain ⟨a0, a1⟩ := FQ.out W hSw; go_simp; try with_reducible rfl
                try simp only [Act.put, List.setIfInBounds_toArray, List.set_cons_zero, List.set_cons_succ]
                refine wpAnyH_take (i := 4) (oi := { dst := some 107, op := Op.move (Operand.tmp 14), type := 45, pos := "law.go:204", after := #[], guard := none }) (v := ?_) rfl (by kernel_rfl) (by kernel_rfl) (by kernel_rfl) (fun _ _ _ h => h) (Or.inl ⟨by rfl, ?_⟩) (by assumption) ?_
                rotate_left
                · intro W hSw; go_simp; try with_reducible rfl
                try simp only [Act.put, List.setIfInBounds_toArray, List.set_cons_zero, List.set_cons_succ]
                refine wpAnyH_take (i := 5) (oi := { dst := some 108, op := Op.move (Operand.tmp 15), type := 3, pos := "law.go:204", after := #[], guard := none }) (v := ?_) rfl (by kernel_rfl) (by kernel_rfl) (by kernel_rfl) (fun _ _ _ h => h) (Or.inl ⟨by rfl, ?_⟩) (by assumption) ?_
                rotate_left
                · intro W hSw; go_simp; try with_reducible rfl
                try simp only [Act.put, List.setIfInBounds_toArray, List.set_cons_zero, List.set_cons_succ]
                refine wpAnyH_take (i := 6) (oi := { dst := some 109, op := Op.indexAddr 45 (Operand.tmp 107) (Operand.tmp 108), type := 0, pos := "law.go:204", after := #[{ on := 4, ground := Ground.data }, { on := 5, ground := Ground.data }], guard := none }) (v := ?_) rfl (by kernel_rfl) (by kernel_rfl) (by kernel_rfl) (fun _ _ _ h => h) (Or.inl ⟨by rfl, ?_⟩) (by assumption) ?_
                rotate_left
                · intro W hSw; go_simp; try with_reducible rfl
                try simp only [Act.put, List.setIfInBounds_toArray, List.set_cons_zero, List.set_cons_succ]
                refine wpAnyH_take (i := 7) (oi := { dst := some 110, op := Op.load 9 (Operand.tmp 109), type := 9, pos := "law.go:204", after := #[{ on := 6, ground := Ground.data }], guard := none }) (v := ?_) rfl (by kernel_rfl) (by kernel_rfl) (by kernel_rfl) (fun _ _ _ h => h) (Or.inl ⟨by rfl, ?_⟩) (by assumption) ?_
                rotate_left
                · intro W hSw; obtain ⟨a0, a1⟩ := FQ.out W hSw; go_simp; try with_reducible rfl
                try simp only [Act.put, List.setIfInBounds_toArray, List.set_cons_zero, List.set_cons_succ]
                refine wpAnyH_take (i := 8) (oi := { dst := some 111, op := Op.binOp BinOp.neq 9 (Operand.tmp 106) (Operand.tmp 110) 9, type := 4, pos := "law.go:204", after := #[{ on := 3, ground := Ground.data }, { on := 7, ground := Ground.data }], guard := none }) (v := ?_) rfl (by kernel_rfl) (by kernel_rfl) (by kernel_rfl) (fun _ _ _ h => h) (Or.inl ⟨by rfl, ?_⟩) (by assumption) ?_
                rotate_left
                · intro W hSw; go_simp; try with_reducible rfl
                try simp only [Act.put, List.setIfInBounds_toArray, List.set_cons_zero, List.set_cons_succ]
                refine wpAnyH_take (i := 9) (oi := { dst := some 112, op := Op.move (Operand.tmp 111), type := 4, pos := "law.go:204", after := #[{ on := 8, ground := Ground.data }], guard := none }) (v := ?_) rfl (by kernel_rfl) (by kernel_rfl) (by kernel_rfl) (fun _ _ _ h => h) (Or.inl ⟨by rfl, ?_⟩) (by assumption) ?_
                rotate_left
                · intro W hSw; go_simp; try with_reducible rfl
                try simp only [Act.put, List.setIfInBounds_toArray, List.set_cons_zero, List.set_cons_succ]
                refine wpAnyH_take (i := 10) (oi := { dst := some 113, op := Op.move (Operand.tmp 7), type := 23, pos := "law.go:204", after := #[{ on := 9, ground := Ground.guard }], guard := some (9, false) }) (v := ?_) rfl (by kernel_rfl) (by kernel_rfl) (by kernel_rfl) (fun _ _ _ h => h) (Or.inl ⟨by rfl, ?_⟩) (by assumption) ?_
                rotate_left
                · intro W hSw; go_simp; try with_reducible rfl
                try simp only [Act.put, List.setIfInBounds_toArray, List.set_cons_zero, List.set_cons_succ]
                refine wpAnyH_take (i := 11) (oi := { dst := some 114, op := Op.move (Operand.tmp 12), type := 23, pos := "law.go:204", after := #[{ on := 9, ground := Ground.guard }], guard := some (9, false) }) (v := ?_) rfl (by kernel_rfl) (by kernel_rfl) (by kernel_rfl) (fun _ _ _ h => h) (Or.inl ⟨by rfl, ?_⟩) (by assumption) ?_
                rotate_left
                · intro W hSw; go_simp; try with_reducible rfl
                try simp only [Act.put, List.setIfInBounds_toArray, List.set_cons_zero, List.set_cons_succ]
                refine wpAnyH_take (i := 12) (oi := { dst := some 115, op := Op.move (Operand.tmp 13), type := 45, pos := "law.go:204", after := #[{ on := 9, ground := Ground.guard }], guard := some (9, false) }) (v := ?_) rfl (by kernel_rfl) (by kernel_rfl) (by kernel_rfl) (fun _ _ _ h => h) (Or.inl ⟨by rfl, ?_⟩) (by assumption) ?_
                rotate_left
                · intro W hSw; go_simp; try with_reducible rfl
                try simp only [Act.put, List.setIfInBounds_toArray, List.set_cons_zero, List.set_cons_succ]
                refine wpAnyH_take (i := 13) (oi := { dst := some 116, op := Op.move (Operand.tmp 15), type := 3, pos := "law.go:204", after := #[{ on := 9, ground := Ground.guard }], guard := some (9, false) }) (v := ?_) rfl (by kernel_rfl) (by kernel_rfl) (by kernel_rfl) (fun _ _ _ h => h) (Or.inl ⟨by rfl, ?_⟩) (by assumption) ?_
                rotate_left
                · intro W hSw; go_simp; try with_reducible rfl
                try simp only [Act.put, List.setIfInBounds_toArray, List.set_cons_zero, List.set_cons_succ]
                refine wpAnyH_take (i := 14) (oi := { dst := some 117, op := Op.indexAddr 45 (Operand.tmp 115) (Operand.tmp 116), type := 0, pos := "law.go:204", after := #[{ on := 12, ground := Ground.data }, { on := 13, ground := Ground.data }, { on := 9, ground := Ground.guard }], guard := some (9, false) }) (v := ?_) rfl (by kernel_rfl) (by kernel_rfl) (by kernel_rfl) (fun _ _ _ h => h) (Or.inl ⟨by rfl, ?_⟩) (by assumption) ?_
                rotate_left
                · intro W hSw; go_simp; try with_reducible rfl
                try simp only [Act.put, List.setIfInBounds_toArray, List.set_cons_zero, List.set_cons_succ]
                refine wpAnyH_take (i := 15) (oi := { dst := some 118, op := Op.load 9 (Operand.tmp 117), type := 9, pos := "law.go:204", after := #[{ on := 14, ground := Ground.data }, { on := 9, ground := Ground.guard }], guard := some (9, false) }) (v := ?_) rfl (by kernel_rfl) (by kernel_rfl) (by kernel_rfl) (fun _ _ _ h => h) (Or.inl ⟨by rfl, ?_⟩) (by assumption) ?_
                rotate_left
                · intro W hSw; obtain ⟨a0, a1⟩ := FQ.out W hSw; go_simp; try with_reducible rfl
                try simp only [Act.put, List.setIfInBounds_toArray, List.set_cons_zero, List.set_cons_succ]
                refine wpAnyH_take (i := 16) (oi := { dst := some 119, op := Op.move (Operand.tmp 2), type := 35, pos := "law.go:204", after := #[{ on := 9, ground := Ground.guard }], guard := some (9, false) }) (v := ?_) rfl (by kernel_rfl) (by kernel_rfl) (by kernel_rfl) (fun _ _ _ h => h) (Or.inl ⟨by rfl, ?_⟩) (by assumption) ?_
                rotate_left
                · intro W hSw; go_simp; try with_reducible rfl
                try simp only [Act.put, List.setIfInBounds_toArray, List.set_cons_zero, List.set_cons_succ]
                refine wpAnyH_ready (rs := [17]) (by kernel_rfl) (by simp) ?_
                refine AllReadyH.cons (o := { dst := some 120, op := Op.call { callee := Callee.value (Operand.func 25), args := #[Operand.tmp 113, Operand.tmp 114, Operand.tmp 118, Operand.tmp 119], argTypes := #[23, 23, 9, 35] }, type := 4, pos := "law.go:204", after := #[{ on := 10, ground := Ground.data }, { on := 11, ground := Ground.data }, { on := 15, ground := Ground.data }, { on := 16, ground := Ground.data }, { on := 9, ground := Ground.chain }, { on := 9, ground := Ground.guard }], guard := some (9, false) }) rfl (fun K hK => ?_) AllReadyH.nil
                go_simp
                refine (part_law ks (HDC.out.1.below (step_below HBR.out hHeld)) (HDC.out.2.below (step_below HBR.out hHeld)) HK.out.1 ka kn kc HK.out.2.1 hkl (HK.out.2.2.1.below (step_below HB8.out (step_below HBR.out hHeld))) f HFM.out).mono ?_; rintro e w9 ⟨rfl, hb9⟩
                go_wp2_with fail
                refine hK.out _ _ (step_below hHeld hb9) (fun hHeldn => ?_)
                clear hK K hHeld; have hHeld := hHeldn; clear hHeldn
                try simp only [Act.put, List.setIfInBounds_toArray, List.set_cons_zero, List.set_cons_succ]
                refine wpAnyH_take (i := 18) (oi := { dst := some 121, op := Op.unOp UnOp.not 4 (Operand.tmp 120), type := 4, pos := "law.go:204", after := #[{ on := 17, ground := Ground.data }, { on := 9, ground := Ground.guard }], guard := some (9, false) }) (v := ?_) rfl (by kernel_rfl) (by kernel_rfl) (by kernel_rfl) (fun _ _ _ h => h) (Or.inl ⟨by rfl, ?_⟩) (by assumption) ?_
                rotate_left
                · intro W hSw; go_simp; try with_reducible rfl
                try simp only [Act.put, List.setIfInBounds_toArray, List.set_cons_zero, List.set_cons_succ]
                refine wpAnyH_take (i := 19) (oi := { dst := some 122, op := Op.pick (Operand.tmp 112) (Operand.const (Value.bool true)) (Operand.tmp 121), type := 4, pos := "law.go:204", after := #[{ on := 9, ground := Ground.data }, { on := 18, ground := Ground.data }], guard := none }) (v := ?_) rfl (by kernel_rfl) (by kernel_rfl) (by kernel_rfl) (fun _ _ _ h => h) (Or.inl ⟨by rfl, ?_⟩) (by assumption) ?_
                rotate_left
                · intro W hSw; go_simp; try with_reducible rfl
                try simp only [Act.put, List.setIfInBounds_toArray, List.set_cons_zero, List.set_cons_succ]
                refine wpAnyH_done (by kernel_rfl) ?_ _
                skip
                refine hKK _ _ ?_
                have HBN := Lib.hid (step_below HBR.out hHeld)
                clear hKK hHeld FQ HBR
                go_wp2_with fail
                go_roundw
                case rel => exact ⟨k + 1, by omega, by go_num, HBN.out⟩
                case measure => simp [intOf]; omega
              · have d1 : ¬ (k : Int) < (m : Int) := by omega
                have HBR := Lib.hid hbr
                clear hbr HS9
                have hkn : Kps wr none [] := fun i k hk => by simp at hk
                have HC := Lib.hid (c_crash (HDC.out.2.below HBR.out) none [] 0 0 rfl hkn (by simp) (by simp))
                clear hkn
                go_wp2_with fail
                refine HC.out.mono ?_
                rintro e w10 ⟨hb10, v, rfl, _, hgood⟩
                obtain ⟨p3, bm3, rfl, hd3⟩ := hgood (cv_nil _)
                rw [cv_twice (fun c hc => (HDC.out.1.fine.each c hc).2.2)] at hd3
                rw [cv_nil]
                have HD3 := Lib.hid (And.intro hd3 (HDC.out.2.below (step_below HBR.out hb10)))
                have HB10 := Lib.hid (step_below HB8.out (step_below HBR.out hb10))
                clear hgood hd3 hb10 HC HDC
                go_wp2_with fail
                refine (dnum_law _ _).mono ?_; rintro e w' ⟨rfl, rfl⟩
                go_wp2_with fail
                refine (same_self HD3.out.1 HD3.out.2).mono ?_
                rintro e w11 ⟨rfl, hb11⟩
                have HB11 := Lib.hid (step_below HB10.out hb11)
                clear hb11
                go_wp2_with fail
                go_ret
                exact BoolR.mk rfl HB11.out
          · have hv := hbad (by rw [h0]; decide)
            subst hv
            rw [h0]
            clear hbad hgood h0
            go_wp2_with (go_at_call 14; refine (dnum_law _ _).mono ?_; rintro e w' ⟨rfl, rfl⟩)
            go_ret
            exact BoolR.mk rfl HB5.out
          · have hv := hbad (by rw [h0]; decide)
            subst hv
            rw [h0]
            clear hbad hgood h0
            go_wp2_with (go_at_call 14; refine (dnum_law _ _).mono ?_; rintro e w' ⟨rfl, rfl⟩)
            go_ret
            exact BoolR.mk rfl HB5.out
end Go.Proofs.Ytbjhcbiihekceaa

namespace Go.Proofs.Ytbjhcbiihekceaa.diskLastsP
open Go.ChangeShapes Go.WideShapes Go.ChangeAt Go.RowKit
open Go.ChangeMaps (open_string shut_string)
set_option linter.unusedVariables false
set_option linter.unusedSimpArgs false

theorem own : ownKnob Try.prog.godebug = none := by kernel_rfl
theorem laidOut : laidOutB Try.prog = true := by kernel_rfl

set_option maxRecDepth 100000 in
theorem lifted (os : Os) (started : os.Started) (H : Type) (enc : TypeId × Value → H) :
    ReturnsInHanded {} Try.checked os 5 .any (Rows.diskLastsSpec.pre6 enc Try.prog Try.f5 Rows.diskLastsRow.domain false) (Rows.diskLastsSpec.post enc Try.prog Try.f5 false true false false) := by
  refine returnsInHanded_of_change (C := Try.checked) own started (by kernel_rfl) Try.func5
    (ChangeSpec.witness6 (enc := enc) (C := Try.checked) false ⟨#[], #[.int .i64 0, .slice none 0 0, .slice none 0 0], []⟩ 8 (by kernel_rfl) (by kernel_rfl) (by kernel_rfl) (by kernel_rfl)) ?_
  intro W base args ds gs before hval0 hW hcnd _
  have hval : ∀ (j : Nat) t v, Try.f5.params[j]? = some t → args[j]? = some v → Value.okWide Try.prog W .any base t v := hval0
  have hW' := hW
  obtain ⟨p, q, hA0, hV, rfl, hfz, hnd⟩ := hW
  have hA : DataW.TrodAll enc Try.prog W 0 (fun _ => true) true Try.f5.params.toList args.toList ds p := hA0
  rw [Try.params5] at hA hval
  obtain ⟨v0, vs0, d0, ds0, p0, q0, hargs, rfl, rfl, h0, r0⟩ := trodAll_cons hA
  obtain ⟨v1, vs1, d1, ds1, p1, q1, rfl, rfl, rfl, h1, r1⟩ := trodAll_cons r0
  obtain ⟨v2, vs2, d2, ds2, p2, q2, rfl, rfl, rfl, h2, r2⟩ := trodAll_cons r1
  obtain ⟨rfl, rfl, rfl⟩ := trodAll_nil r2
  obtain rfl : args = #[v0, v1, v2] := by cases args; simp_all
  obtain ⟨rfl, rfl⟩ := trodVars_none hV
  have k0 := h0
  have lt0 : ∀ x ∈ p0, x.block < W.heap.size := by obtain ⟨m, hm⟩ := k0; exact DataW.trod_lt m _ _ _ hm
  obtain ⟨x0, rfl, _, _, g0⟩ := open_int Try.underlying3 (hval 0 3 v0 rfl rfl) h0
  have b0 : -9223372036854775808 ≤ x0 ∧ x0 ≤ 9223372036854775807 := by simpa [Lit.wf, IntKind.min, IntKind.max, IntKind.signed, IntKind.bits] using g0
  have k1 := h1
  have lt1 : ∀ x ∈ p1, x.block < W.heap.size := by obtain ⟨m, hm⟩ := k1; exact DataW.trod_lt m _ _ _ hm
  obtain ⟨a1, n1, c1, rfl⟩ := okWide_slice Try.underlying22 (hval 1 22 v1 rfl rfl)
  obtain ⟨L1, hL1, hR1, hG1⟩ : ∃ L : List StepV, L.length = n1 ∧ StepsR W a1 L ∧ ∀ s ∈ L, StepOk W s := by
    obtain ⟨fuel, hf⟩ := h1
    obtain ⟨a, L, n, c, e, h1, h2, h3⟩ := open_steps (by simpa [Value.cells] using hf)
    simp only [Value.slice.injEq] at e
    obtain ⟨rfl, rfl, rfl⟩ := e
    exact ⟨L, h1, h2, h3⟩
  have k2 := h2
  have lt2 : ∀ x ∈ p2, x.block < W.heap.size := by obtain ⟨m, hm⟩ := k2; exact DataW.trod_lt m _ _ _ hm
  obtain ⟨a2, n2, c2, rfl⟩ := okWide_slice Try.underlying35 (hval 2 35 v2 rfl rfl)
  obtain ⟨L2, hL2, hR2, hG2⟩ : ∃ L : List (ByteArray × Int), L.length = n2 ∧ Kps W a2 L ∧ ∀ o ∈ L, o.1.size ≤ maxLen := by
    obtain ⟨fuel, hf⟩ := h2
    obtain ⟨a, L, n, c, e, h1, h2, h3⟩ := open_kept (by simpa [Value.cells] using hf)
    simp only [Value.slice.injEq] at e
    obtain ⟨rfl, rfl, rfl⟩ := e
    exact ⟨L, h1, h2, h3⟩
  clear hA0 hval0
  refine ((lasts_law x0 a1 L1 n1 c1 a2 L2 n2 c2 W hL1 hR1 hG1 hL2 hR2 hG2).mono fun e W' h => (⟨h.1, h.2⟩ : e = .returned (.bool true) ∧ Below W.heap.size W W')).mono fun e W' ⟨he, bel⟩ => ?_
  subst he
  exact ⟨_, rfl, _, _, _, [], _, [], hW', trodAll_mk1 (shut_bool Try.underlying4 _), (trodAll_cons_mk (Below.trod laidOut (by kernel_rfl) (of_decide_eq_true (by kernel_rfl)) k0 bel lt0) (trodAll_cons_mk (Below.trod laidOut (by kernel_rfl) (of_decide_eq_true (by kernel_rfl)) k1 bel lt1) (trodAll_cons_mk (Below.trod laidOut (by kernel_rfl) (of_decide_eq_true (by kernel_rfl)) k2 bel lt2) trodAll_mk0))), rfl, bel.frame _, fun h => by cases h⟩

theorem over : Rows.diskLastsRow.holds Try.pinned (OpenSpec.ofChange Rows.diskLastsSpec) :=
  OpenClaim.holds_of_wide 5 Try.f5 rfl rfl rfl rfl rfl rfl rfl ⟨rfl, rfl, rfl, rfl, rfl⟩ rfl rfl rfl rfl rfl (by kernel_rfl) Try.func5 (by kernel_rfl)
    (of_decide_eq_true (by kernel_rfl)) (by unfold Func.isWrapper; first | (rw [if_pos (by decide +kernel)]; kernel_rfl) | (rw [if_neg (by decide +kernel)]; exact ⟨rfl, rfl⟩))
    (fun os started H enc _ => lifted os started H enc)

theorem proved : Rows.DiskLastsSaid := over
#print axioms proved
end Go.Proofs.Ytbjhcbiihekceaa.diskLastsP
