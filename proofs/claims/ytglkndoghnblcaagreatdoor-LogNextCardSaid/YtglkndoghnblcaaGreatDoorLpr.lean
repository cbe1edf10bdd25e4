/- The document's Needless. -/
import Derived.Test.YtglkndoghnblcaaGreatDoorLpq
import Derived.Test.YtglkndoghnblcaaGreatDoorSrj
import Derived.Test.YtglkndoghnblcaaGreatDoorOkk
namespace Go.Proofs.YtglkndoghnblcaaGreatDoor
open Go.ChangeShapes Go.WideShapes Go.ChangeAt Go.RowKit
set_option linter.unusedVariables false
set_option linter.unusedSimpArgs false
set_option maxRecDepth 100000 in
set_option maxHeartbeats 4000000 in
/-- The document's Needless (18). -/
theorem rneedless_law (g e f : Int) (nm : ByteArray) (a an : Option Addr) (c cn n p : Nat) (xs : List LpV) (ns : List ByteArray) (hs : nm.size ≤ maxLen) (hsx : ∀ x ∈ xs, x.1.size ≤ maxLen) (hn : xs.length = n) (hp : ns.length = p) (hn6 : n ≤ 1000000) (hp6 : p ≤ 1000000) (w : World) (ht : TabW w) (hA : LpsR w a xs) (hB : StrR w an ns) :
    Calls Tryz.prog 18 #[.agg #[.int .i64 g, .string nm, .int .i64 e, .int .i64 f, .slice a n c], .slice an p cn] w (NlR w (nlV (manB g e f nm xs) g nm xs ns)) := by
  have HR := Lib.hid hA
  have HRN := Lib.hid hB
  have HP := Lib.hid hp
  have HM := Lib.hid (fun W (b : Below w.heap.size w W) => rman_law g e f nm a xs n c hs hsx hn hn6 W (hA.below b))
  have HND := Lib.hid (fun s W (b : Below w.heap.size w W) => needed_law g e f nm a c n xs s hn hn6 W (ht.below b) (hA.below b))
  clear hA hB hs hsx hn hp ht
  go_enter Tryz.func18, Tryz.ntmps18
  go_upto_region 1 with (fail)
  obtain ⟨W1, hW1⟩ : ∃ W1, w.alloc (.cells #[.int .i64 g, .string nm, .int .i64 e, .int .i64 f, .slice a n c] 39) = W1 := ⟨_, rfl⟩
  have hb1 : Below w.heap.size w W1 := by rw [← hW1]; exact bl1 _ _
  have bx : BoxC W1 w.heap.size #[.int .i64 g, .string nm, .int .i64 e, .int .i64 f, .slice a n c] 39 := by rw [← hW1]; exact BoxC.new w _ 39
  try rw [hW1]
  clear hW1
  have HW1 := Lib.hid hb1
  have y0 := bx.cell 0
  have y1 := bx.cell 1
  have y2 := bx.cell 2
  have y3 := bx.cell 3
  have y4 := bx.cell 4
  simp at y0 y1 y2 y3 y4
  clear hb1
  go_wp2_with fail
  refine (HM.out _ HW1.out).mono ?_; rintro r w1 ⟨rfl, hb2⟩
  have HB1 := Lib.hid hb2
  clear hb2 y0 y1 y2 y3 y4
  cases hM : manB g e f nm xs
  · have HOK := Lib.hid hM
    clear hM
    go_wp2_with fail
    go_ret2
    rw [HOK.out]
    exact ⟨⟨none, 0, rfl, fun k x hx => by simp [nlV] at hx⟩, step_below HW1.out HB1.out⟩
  · have HOK := Lib.hid hM
    clear hM
    go_wp2_with fail
    go_loopw [6, 7] (fun v i wr => ∃ (k : Nat), k ≤ p ∧ i = .int .i64 (k : Int) ∧ Hid (wr.ownsRow W1.heap.size 9 1 v (flK g nm xs ns k).length (sv (flK g nm xs ns k))) ∧ Hid (Below W1.heap.size W1 wr)) (fun _ i _ => p - (intOf i).toNat)
    case atStart => exact ⟨0, Nat.zero_le _, rfl, Lib.hid (World.ownsRow_nil _ _ _ _), HB1⟩
    case round =>
      clear HB1
      obtain ⟨k, hk, rfl, HO, HBW⟩ := hrel
      by_cases hlt : k < p
      · have d1 : (k : Int) < (p : Int) := by omega
        obtain ⟨x, hx⟩ : ∃ x, ns[k]? = some x := ⟨_, List.getElem?_eq_getElem (by rw [HP.out]; exact hlt)⟩
        have HX := Lib.hid hx
        obtain ⟨b1, o1, e1, y0⟩ := (HRN.out.below (step_below HW1.out HBW.out)) k x hx
        subst e1
        have HNL3 := Lib.hid (show (flK g nm xs ns k).length ≤ 1000000 from Nat.le_trans (flK_len _ _ _ _ _) (by rw [HP.out]; exact hp6))
        have HNX := Lib.hid (fun W (b : Below wr.heap.size wr W) => HND.out x W (step_below HW1.out (step_below HBW.out b)))
        have HD5 := Lib.hid (fun X (b' : Below wr.heap.size wr X) => (⟨(bx.below (step_below HBW.out b')).cell 0, (bx.below (step_below HBW.out b')).cell 1, (bx.below (step_below HBW.out b')).cell 2, (bx.below (step_below HBW.out b')).cell 3, (bx.below (step_below HBW.out b')).cell 4⟩ : X.cell? ⟨w.heap.size, 0, none⟩ = some (.int .i64 g) ∧ X.cell? ⟨w.heap.size, 1, none⟩ = some (.string nm) ∧ X.cell? ⟨w.heap.size, 2, none⟩ = some (.int .i64 e) ∧ X.cell? ⟨w.heap.size, 3, none⟩ = some (.int .i64 f) ∧ X.cell? ⟨w.heap.size, 4, none⟩ = some (.slice a n c)))
        have HS5 := Lib.hid (fun X (b' : Below wr.heap.size wr X) => (b'.cell (cell_lt y0)).trans y0)
        obtain ⟨q, hq⟩ : ∃ q, ndB g nm xs x = q := ⟨_, rfl⟩
        rw [hq] at HNX
        have HQ := Lib.hid hq
        clear hx hq
        go_upto_region 7 with (fail)
        rename_i KK hKK
        refine Code.wp_mono (Q := Exit.then KK (fun _ _ _ => False)) (fun e a' w' h => by cases e <;> first | exact h | exact h.elim) ?_
        refine wp_region_held_drew (S := (fun X => Below wr.heap.size wr X)) (by kernel_rfl) ((Below.refl _ _).drew) (fun hHeld => ?_)
        refine wpAnyH_take (i := 0) (oi := { dst := some 17, op := Op.load 39 (Operand.tmp 2), type := 39, pos := "ref.go:431", after := #[], guard := none }) (v := ?_) rfl (by kernel_rfl) (by kernel_rfl) (by kernel_rfl) (fun _ _ _ h => h) (Or.inl ⟨by rfl, ?_⟩) (by assumption) ?_
        rotate_left
        · intro W hSw; obtain ⟨m0, m1, m2, m3, m4⟩ := HD5.out W hSw; go_simp; try with_reducible rfl
        try simp only [Act.put, List.setIfInBounds_toArray, List.set_cons_zero, List.set_cons_succ]
        refine wpAnyH_take (i := 1) (oi := { dst := some 18, op := Op.move (Operand.tmp 1), type := 40, pos := "ref.go:431", after := #[], guard := none }) (v := ?_) rfl (by kernel_rfl) (by kernel_rfl) (by kernel_rfl) (fun _ _ _ h => h) (Or.inl ⟨by rfl, ?_⟩) (by assumption) ?_
        rotate_left
        · intro W hSw; go_simp; try with_reducible rfl
        try simp only [Act.put, List.setIfInBounds_toArray, List.set_cons_zero, List.set_cons_succ]
        refine wpAnyH_take (i := 2) (oi := { dst := some 19, op := Op.move (Operand.tmp 7), type := 3, pos := "ref.go:431", after := #[], guard := none }) (v := ?_) rfl (by kernel_rfl) (by kernel_rfl) (by kernel_rfl) (fun _ _ _ h => h) (Or.inl ⟨by rfl, ?_⟩) (by assumption) ?_
        rotate_left
        · intro W hSw; go_simp; try with_reducible rfl
        try simp only [Act.put, List.setIfInBounds_toArray, List.set_cons_zero, List.set_cons_succ]
        refine wpAnyH_take (i := 3) (oi := { dst := some 20, op := Op.indexAddr 40 (Operand.tmp 18) (Operand.tmp 19), type := 0, pos := "ref.go:431", after := #[{ on := 1, ground := Ground.data }, { on := 2, ground := Ground.data }], guard := none }) (v := ?_) rfl (by kernel_rfl) (by kernel_rfl) (by kernel_rfl) (fun _ _ _ h => h) (Or.inl ⟨by rfl, ?_⟩) (by assumption) ?_
        rotate_left
        · intro W hSw; go_simp; try with_reducible rfl
        try simp only [Act.put, List.setIfInBounds_toArray, List.set_cons_zero, List.set_cons_succ]
        refine wpAnyH_take (i := 4) (oi := { dst := some 21, op := Op.load 9 (Operand.tmp 20), type := 9, pos := "ref.go:431", after := #[{ on := 3, ground := Ground.data }], guard := none }) (v := ?_) rfl (by kernel_rfl) (by kernel_rfl) (by kernel_rfl) (fun _ _ _ h => h) (Or.inl ⟨by rfl, ?_⟩) (by assumption) ?_
        rotate_left
        · intro W hSw; have q0 := HS5.out W hSw; go_simp; try with_reducible rfl
        try simp only [Act.put, List.setIfInBounds_toArray, List.set_cons_zero, List.set_cons_succ]
        refine wpAnyH_ready (rs := [5]) (by kernel_rfl) (by simp) ?_
        refine AllReadyH.cons (o := { dst := some 22, op := Op.call { callee := Callee.value (Operand.func 45), args := #[Operand.tmp 17, Operand.tmp 21], argTypes := #[39, 9] }, type := 4, pos := "ref.go:431", after := #[{ on := 0, ground := Ground.data }, { on := 4, ground := Ground.data }], guard := none }) rfl (fun K hK => ?_) AllReadyH.nil
        go_simp
        refine (HNX.out _ hHeld).mono ?_; rintro e9 w9 ⟨rfl, hb9⟩
        go_wp2_with fail
        refine hK.out _ _ (step_below hHeld hb9) (fun hHeldn => ?_)
        clear hK K hHeld; have hHeld := hHeldn; clear hHeldn
        clear hb9
        try simp only [Act.put, List.setIfInBounds_toArray, List.set_cons_zero, List.set_cons_succ]
        refine wpAnyH_take (i := 6) (oi := { dst := some 23, op := Op.unOp UnOp.not 4 (Operand.tmp 22), type := 4, pos := "ref.go:431", after := #[{ on := 5, ground := Ground.data }], guard := none }) (v := ?_) rfl (by kernel_rfl) (by kernel_rfl) (by kernel_rfl) (fun _ _ _ h => h) (Or.inl ⟨by rfl, ?_⟩) (by assumption) ?_
        rotate_left
        · intro W hSw; go_simp; try with_reducible rfl
        try simp only [Act.put, List.setIfInBounds_toArray, List.set_cons_zero, List.set_cons_succ]
        refine wpAnyH_done (by kernel_rfl) ?_ _
        skip
        refine hKK _ _ ?_
        have HB9 := Lib.hid (step_below HBW.out hHeld)
        have HO9 := Lib.hid (own_below HO.out hHeld)
        have HZ9 := Lib.hid HB9.out.size
        have y9 := HS5.out _ hHeld
        clear hHeld y0
        cases q
        · have HKP := Lib.hid (flK_yes HX.out HQ.out)
          go_wp2_with (at_builtin; refine append_str rfl (.tmp 24) (.tmp 29) rfl W1.heap.size _ _ _ rfl (HO9.out.alloc _) _ x rfl (by simp [go_sem]) (by have := HNL3.out; omega) (by have := HZ9.out; simp; omega) ?_; intro a8 c8 w8 hown8 hgrow8; have HO8 := Lib.hid hown8; have HB8 := Lib.hid ((HB9.out.alloc HZ9.out _).grown hgrow8 (by have := HZ9.out; simp; omega) (fun j hj => (HO9.out.lt j hj).1)); clear hown8 hgrow8)
          go_roundw
          case rel =>
            refine ⟨k + 1, by omega, by go_num, Lib.hid ?_, HB8⟩
            rw [HKP.out, List.length_append, List.length_singleton]
            exact HO8.out
          case measure => simp [intOf]; omega
        · have HKP := Lib.hid (flK_no HX.out HQ.out)
          clear y9
          go_wp2_with fail
          go_roundw
          case rel =>
            refine ⟨k + 1, by omega, by go_num, Lib.hid ?_, HB9⟩
            rw [HKP.out]
            exact HO9.out
          case measure => simp [intOf]; omega
      · have d1 : ¬ (k : Int) < (p : Int) := by omega
        have HAL := Lib.hid (flK_all (g := g) (nm := nm) (xs := xs) (ns := ns) (k := k) (by rw [HP.out]; omega))
        obtain ⟨a9, c9, rfl⟩ := own_form HO.out
        have HS3 := Lib.hid (strs_own HO.out rfl)
        rw [HAL.out] at HS3 ⊢
        have HBF := Lib.hid (step_below HW1.out HBW.out)
        go_wp2_with fail
        go_ret2
        rw [HOK.out]
        exact ⟨⟨a9, c9, rfl, HS3.out⟩, HBF.out⟩
end Go.Proofs.YtglkndoghnblcaaGreatDoor
