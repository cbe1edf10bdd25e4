/- known: the chapter's rows. Part 9. -/
import Derived.Test.YtglkndoghnblcaaGreatDoorOkh
import Derived.Test.YtglkndoghnblcaaGreatDoorOke
import Derived.Test.YtglkndoghnblcaaGreatDoorOkc
import Derived.Test.YtglkndoghnblcaaGreatDoorOkg
import Derived.Test.YtglkndoghnblcaaGreatDoorOkd
import Derived.Lib.SlBytesConst
import Derived.Test.YtglkndoghnblcaaGreatDoorOkb
import Derived.Test.YtglkndoghnblcaaGreatDoorOka
namespace Go.Proofs.YtglkndoghnblcaaGreatDoor
open Go.ChangeShapes Go.WideShapes Go.ChangeAt Go.RowKit
set_option linter.unusedVariables false
set_option linter.unusedSimpArgs false
theorem str_eq {a b : List Int} (ha : Byt a) (hb : Byt b) : ((strOfNums a).toList == (strOfNums b).toList) = decide (a = b) := by
  by_cases h : a = b
  · subst h; simp
  · rw [decide_eq_false h, beq_eq_false_iff_ne]
    intro e
    rw [ByteArray.toList_eq, ByteArray.toList_eq] at e
    refine h (str_inj ha hb ?_)
    have e2 : (strOfNums a).data = (strOfNums b).data := Array.toList_inj.1 e
    exact ByteArray.ext e2
set_option maxRecDepth 100000 in
set_option maxHeartbeats 1000000 in
/-- The document's Frames (12). -/
theorem rframes_law (a : Option Addr) (L : List Int) (n cap : Nat) (hn : L.length = n) (hn2 : n ≤ 1000000) (hB : Byt L) (w : World) (hL : Ls .u8 w a cap L) :
    Calls Tryz.prog 29 #[.slice a n cap] w fun r w' => ∃ v, r = .returned (.tuple #[v, .int .i64 ((wholeL L : Nat) : Int)]) ∧ RowsO w' w.heap.size (framesL L) v ∧ Below w.heap.size w w' := by
  obtain ⟨i22, hi22, hz220, hz221, hz222⟩ := info_parts info24
  have HL := Lib.hid (And.intro hn (And.intro hB hL))
  obtain ⟨FS, hFS⟩ : ∃ FS, framesL L = FS := ⟨_, rfl⟩
  have HFS := Lib.hid hFS
  have HWL := Lib.hid (show wholeL L = sumF FS FS.length by rw [sumF_all, ← hFS]; rfl)
  clear hn hB hL hFS
  go_enter Tryz.func29, Tryz.ntmps29
  go_wp2_with fail
  go_loopw [4, 5, 6, 7] (fun v j q1 q2 wr => ∃ k : Nat, ∃ at_ : Nat, at_ ≤ n ∧ j = .int .i64 (at_ : Int) ∧ Hid (sumF FS k = at_) ∧ Hid (framesL (L.drop at_) = FS.drop k) ∧ Hid (k ≤ FS.length) ∧ Hid (RowsO wr w.heap.size (FS.take k) v) ∧ Hid (Below w.heap.size w wr)) (fun _ j _ _ _ => n - (intOf j).toNat)
  case atStart => exact ⟨0, 0, Nat.zero_le _, rfl, Lib.hid (by simp [sumF]), Lib.hid (by rw [List.drop_zero]; exact HFS.out), Lib.hid (Nat.zero_le _), Lib.hid (RowsO.nil _ _), Lib.hid (Below.refl _ _)⟩
  case round =>
    obtain ⟨k, at_, hat, rfl, HSU, HFR, HKL, HRO, HBW⟩ := hrel
    obtain ⟨i8, hi8⟩ : ∃ i, at_ + 8 = i := ⟨_, rfl⟩
    have e8 : IntKind.i64.wrap ((at_ : Int) + 8) = (i8 : Int) := by rw [IntKind.wrap_i64] <;> omega
    have HEND := Lib.hid (show isL (L.drop at_) = false → FS.take k = FS ∧ at_ = wholeL L from fun h => by
      have h1 := HFR.out
      rw [framesL_no h] at h1
      have h2 : FS.length ≤ k := by
        have := congrArg List.length h1
        rw [List.length_drop, List.length_nil] at this
        omega
      have h3 := HKL.out
      have h4 : k = FS.length := by omega
      exact ⟨by rw [h4, List.take_length], by rw [HWL.out, ← h4, HSU.out]⟩)
    by_cases h8 : i8 ≤ n
    · have d8 : (i8 : Int) ≤ (n : Int) := by omega
      obtain ⟨bb, off, rfl, c0⟩ := (HL.out.2.2.below HBW.out).get at_ (by rw [HL.out.1]; omega)
      have hbt : ∀ i, i < n → ∃ b : Nat, L.getD i 0 = (b : Int) ∧ b ≤ 255 := fun i hi => by
        have h1 : L.getD i 0 ∈ L := by
          rw [List.getD_eq_getElem?_getD, List.getElem?_eq_getElem (by rw [HL.out.1]; exact hi)]
          exact List.getElem_mem _
        have h2 := HL.out.2.1 _ h1
        exact ⟨(L.getD i 0).toNat, by omega, by omega⟩
      obtain ⟨i1, hi1⟩ : ∃ i, at_ + 1 = i := ⟨_, rfl⟩
      obtain ⟨i2, hi2⟩ : ∃ i, at_ + 2 = i := ⟨_, rfl⟩
      obtain ⟨i3, hi3⟩ : ∃ i, at_ + 3 = i := ⟨_, rfl⟩
      have n0 : at_ < n := by omega
      have n1 : i1 < n := by omega
      have n2 : i2 < n := by omega
      have n3 : i3 < n := by omega
      have e1 : IntKind.i64.wrap ((at_ : Int) + 1) = (i1 : Int) := by rw [IntKind.wrap_i64] <;> omega
      have e2 : IntKind.i64.wrap ((at_ : Int) + 2) = (i2 : Int) := by rw [IntKind.wrap_i64] <;> omega
      have e3 : IntKind.i64.wrap ((at_ : Int) + 3) = (i3 : Int) := by rw [IntKind.wrap_i64] <;> omega
      obtain ⟨_, _, hh1, c1⟩ := (HL.out.2.2.below HBW.out).get i1 (by rw [HL.out.1]; omega)
      cases hh1
      obtain ⟨_, _, hh2, c2⟩ := (HL.out.2.2.below HBW.out).get i2 (by rw [HL.out.1]; omega)
      cases hh2
      obtain ⟨_, _, hh3, c3⟩ := (HL.out.2.2.below HBW.out).get i3 (by rw [HL.out.1]; omega)
      cases hh3
      obtain ⟨b0, hb0, l0⟩ := hbt at_ (by omega)
      obtain ⟨b1, hb1, l1⟩ := hbt i1 (by omega)
      obtain ⟨b2, hb2, l2⟩ := hbt i2 (by omega)
      obtain ⟨b3, hb3, l3⟩ := hbt i3 (by omega)
      rw [hb0] at c0
      rw [hb1] at c1
      rw [hb2] at c2
      rw [hb3] at c3
      obtain ⟨m, hm⟩ : ∃ m, b0 * 16777216 + b1 * 65536 + b2 * 256 + b3 = m := ⟨_, rfl⟩
      have HM := Lib.hid (show lenL (L.drop at_) = m by
        have g : ∀ j, (L.drop at_).getD j 0 = L.getD (at_ + j) 0 := fun j => by rw [List.getD_eq_getElem?_getD, List.getD_eq_getElem?_getD, List.getElem?_drop]
        unfold lenL de4
        rw [g, g, g, g, Nat.add_zero, hi1, hi2, hi3, hb0, hb1, hb2, hb3]
        simp only [Int.toNat_natCast]
        omega)
      have hm32 : m < 4294967296 := by omega
      obtain ⟨x0, hx0⟩ : ∃ x, b0 * 16777216 = x := ⟨_, rfl⟩
      obtain ⟨x1, hx1⟩ : ∃ x, b1 * 65536 = x := ⟨_, rfl⟩
      obtain ⟨x2, hx2⟩ : ∃ x, b2 * 256 = x := ⟨_, rfl⟩
      obtain ⟨y1, hy1⟩ : ∃ x, x0 + x1 = x := ⟨_, rfl⟩
      obtain ⟨y2, hy2⟩ : ∃ x, y1 + x2 = x := ⟨_, rfl⟩
      have w0 : IntKind.i64.wrap (b0 : Int) = (b0 : Int) := by rw [IntKind.wrap_i64] <;> omega
      have w1 : IntKind.i64.wrap (b1 : Int) = (b1 : Int) := by rw [IntKind.wrap_i64] <;> omega
      have w2 : IntKind.i64.wrap (b2 : Int) = (b2 : Int) := by rw [IntKind.wrap_i64] <;> omega
      have w3 : IntKind.i64.wrap (b3 : Int) = (b3 : Int) := by rw [IntKind.wrap_i64] <;> omega
      have s0 : IntKind.i64.wrap ((b0 : Int) * 16777216) = (x0 : Int) := by rw [IntKind.wrap_i64] <;> omega
      have s1 : IntKind.i64.wrap ((b1 : Int) * 65536) = (x1 : Int) := by rw [IntKind.wrap_i64] <;> omega
      have s2 : IntKind.i64.wrap ((b2 : Int) * 256) = (x2 : Int) := by rw [IntKind.wrap_i64] <;> omega
      have t1 : IntKind.i64.wrap ((x0 : Int) + (x1 : Int)) = (y1 : Int) := by rw [IntKind.wrap_i64] <;> omega
      have t2 : IntKind.i64.wrap ((y1 : Int) + (x2 : Int)) = (y2 : Int) := by rw [IntKind.wrap_i64] <;> omega
      have t3 : IntKind.i64.wrap ((y2 : Int) + (b3 : Int)) = (m : Int) := by rw [IntKind.wrap_i64] <;> omega
      have FQ := Lib.hid (fun X (b : Below wr.heap.size wr X) => (⟨(b.cell (cell_lt c0)).trans c0, (b.cell (cell_lt c1)).trans c1, (b.cell (cell_lt c2)).trans c2, (b.cell (cell_lt c3)).trans c3⟩ : X.cell? ⟨bb, off + at_, none⟩ = some (.int .u8 (b0 : Int)) ∧ X.cell? ⟨bb, off + i1, none⟩ = some (.int .u8 (b1 : Int)) ∧ X.cell? ⟨bb, off + i2, none⟩ = some (.int .u8 (b2 : Int)) ∧ X.cell? ⟨bb, off + i3, none⟩ = some (.int .u8 (b3 : Int))))
      clear c0 c1 c2 c3 hbt hb0 hb1 hb2 hb3 l0 l1 l2 l3 hx0 hx1 hx2 hy1 hy2 hm hi1 hi2 hi3
      go_upto_region 4 with (fail)
      rename_i KK hKK
      refine Code.wp_mono (Q := Exit.then KK (fun _ _ _ => False)) (fun e a' w' h => by cases e <;> first | exact h | exact h.elim) ?_
      refine wp_region_held_drew (S := (fun X => Below wr.heap.size wr X)) (by kernel_rfl) ((Below.refl _ _).drew) (fun hHeld => ?_)
      refine tp 0 ?_ rfl (.inl ⟨by rfl, ?_⟩) ?_
      rotate_left
      · intro W hSw; go_simp; try with_reducible rfl
      refine tp 1 ?_ rfl (.inl ⟨by rfl, ?_⟩) ?_
      rotate_left
      · intro W hSw; go_simp; try with_reducible rfl
      refine tp 2 ?_ rfl (.inl ⟨by rfl, ?_⟩) ?_
      rotate_left
      · intro W hSw; go_simp; try with_reducible rfl
      refine tp 3 ?_ rfl (.inl ⟨by rfl, ?_⟩) ?_
      rotate_left
      · intro W hSw; obtain ⟨z0, z1, z2, z3⟩ := FQ.out W hSw; go_simp; try with_reducible rfl
      refine tp 4 ?_ rfl (.inl ⟨by rfl, ?_⟩) ?_
      rotate_left
      · intro W hSw; go_simp; try with_reducible rfl
      refine tp 5 ?_ rfl (.inl ⟨by rfl, ?_⟩) ?_
      rotate_left
      · intro W hSw; go_simp; try with_reducible rfl
      refine tp 6 ?_ rfl (.inl ⟨by rfl, ?_⟩) ?_
      rotate_left
      · intro W hSw; go_simp; try with_reducible rfl
      refine tp 7 ?_ rfl (.inl ⟨by rfl, ?_⟩) ?_
      rotate_left
      · intro W hSw; go_simp; try with_reducible rfl
      refine tp 8 ?_ rfl (.inl ⟨by rfl, ?_⟩) ?_
      rotate_left
      · intro W hSw; go_simp; try with_reducible rfl
      refine tp 9 ?_ rfl (.inl ⟨by rfl, ?_⟩) ?_
      rotate_left
      · intro W hSw; go_simp; try with_reducible rfl
      refine tp 10 ?_ rfl (.inl ⟨by rfl, ?_⟩) ?_
      rotate_left
      · intro W hSw; obtain ⟨z0, z1, z2, z3⟩ := FQ.out W hSw; go_simp; try with_reducible rfl
      refine tp 11 ?_ rfl (.inl ⟨by rfl, ?_⟩) ?_
      rotate_left
      · intro W hSw; go_simp; try with_reducible rfl
      refine tp 12 ?_ rfl (.inl ⟨by rfl, ?_⟩) ?_
      rotate_left
      · intro W hSw; go_simp; try with_reducible rfl
      refine tp 13 ?_ rfl (.inl ⟨by rfl, ?_⟩) ?_
      rotate_left
      · intro W hSw; go_simp; try with_reducible rfl
      refine tp 14 ?_ rfl (.inl ⟨by rfl, ?_⟩) ?_
      rotate_left
      · intro W hSw; go_simp; try with_reducible rfl
      refine tp 15 ?_ rfl (.inl ⟨by rfl, ?_⟩) ?_
      rotate_left
      · intro W hSw; go_simp; try with_reducible rfl
      refine tp 16 ?_ rfl (.inl ⟨by rfl, ?_⟩) ?_
      rotate_left
      · intro W hSw; go_simp; try with_reducible rfl
      refine tp 17 ?_ rfl (.inl ⟨by rfl, ?_⟩) ?_
      rotate_left
      · intro W hSw; go_simp; try with_reducible rfl
      refine tp 18 ?_ rfl (.inl ⟨by rfl, ?_⟩) ?_
      rotate_left
      · intro W hSw; obtain ⟨z0, z1, z2, z3⟩ := FQ.out W hSw; go_simp; try with_reducible rfl
      refine tp 19 ?_ rfl (.inl ⟨by rfl, ?_⟩) ?_
      rotate_left
      · intro W hSw; go_simp; try with_reducible rfl
      refine tp 20 ?_ rfl (.inl ⟨by rfl, ?_⟩) ?_
      rotate_left
      · intro W hSw; go_simp; try with_reducible rfl
      refine tp 21 ?_ rfl (.inl ⟨by rfl, ?_⟩) ?_
      rotate_left
      · intro W hSw; go_simp; try with_reducible rfl
      refine tp 22 ?_ rfl (.inl ⟨by rfl, ?_⟩) ?_
      rotate_left
      · intro W hSw; go_simp; try with_reducible rfl
      refine tp 23 ?_ rfl (.inl ⟨by rfl, ?_⟩) ?_
      rotate_left
      · intro W hSw; go_simp; try with_reducible rfl
      refine tp 24 ?_ rfl (.inl ⟨by rfl, ?_⟩) ?_
      rotate_left
      · intro W hSw; go_simp; try with_reducible rfl
      refine tp 25 ?_ rfl (.inl ⟨by rfl, ?_⟩) ?_
      rotate_left
      · intro W hSw; go_simp; try with_reducible rfl
      refine tp 26 ?_ rfl (.inl ⟨by rfl, ?_⟩) ?_
      rotate_left
      · intro W hSw; obtain ⟨z0, z1, z2, z3⟩ := FQ.out W hSw; go_simp; try with_reducible rfl
      refine tp 27 ?_ rfl (.inl ⟨by rfl, ?_⟩) ?_
      rotate_left
      · intro W hSw; go_simp; try with_reducible rfl
      refine tp 28 ?_ rfl (.inl ⟨by rfl, ?_⟩) ?_
      rotate_left
      · intro W hSw; go_simp; try with_reducible rfl
      refine tp 29 ?_ rfl (.inl ⟨by rfl, ?_⟩) ?_
      rotate_left
      · intro W hSw; go_simp; try with_reducible rfl
      refine wpAnyH_done (by kernel_rfl) ?_ _
      skip
      refine hKK _ _ ?_
      have HB1 := Lib.hid (step_below HBW.out hHeld)
      have HRO1 := Lib.hid (HRO.out.below hHeld)
      obtain ⟨W1, hW1⟩ : ∃ W1, wr.drew = W1 := ⟨_, rfl⟩
      rw [hW1] at HB1 HRO1 ⊢
      clear hKK hHeld FQ HRO HBW hW1 w0 w1 w2 w3 s0 s1 s2 t1 t2 t3 e1 e2 e3 n0 n1 n2 n3
      obtain ⟨r1, hr1⟩ : ∃ r, n - at_ = r := ⟨_, rfl⟩
      obtain ⟨r2, hr2⟩ : ∃ r, r1 - 8 = r := ⟨_, rfl⟩
      have e1 : IntKind.i64.wrap ((n : Int) - (at_ : Int)) = (r1 : Int) := by rw [IntKind.wrap_i64] <;> omega
      have e2 : IntKind.i64.wrap ((r1 : Int) - 8) = (r2 : Int) := by rw [IntKind.wrap_i64] <;> omega
      have hDL : (L.drop at_).length = r1 := by rw [List.length_drop, HL.out.1, hr1]
      by_cases hc : 1 ≤ m ∧ m ≤ 4096 ∧ m ≤ r2
      · have c1 : ¬ (m : Int) < 1 := by omega
        have c2 : ¬ (4096 : Int) < (m : Int) := by omega
        have c3 : ¬ (r2 : Int) < (m : Int) := by omega
        obtain ⟨ie, hie⟩ : ∃ i, i8 + m = i := ⟨_, rfl⟩
        have e3 : IntKind.i64.wrap ((i8 : Int) + (m : Int)) = (ie : Int) := by rw [IntKind.wrap_i64] <;> omega
        have hms : n - ie < n - at_ := by omega
        obtain ⟨i4, hi4⟩ : ∃ i, at_ + 4 = i := ⟨_, rfl⟩
        have e4 : IntKind.i64.wrap ((at_ : Int) + 4) = (i4 : Int) := by rw [IntKind.wrap_i64] <;> omega
        obtain ⟨a7, c7, hm7, hl7⟩ := Ls.mid eltB (HL.out.2.2.below HB1.out) n i8 ie HL.out.1 (by omega) (by omega)
        obtain ⟨a8, c8, hm8, hl8⟩ := Ls.mid eltB (HL.out.2.2.below HB1.out) n i4 i8 HL.out.1 (by omega) (by omega)
        rw [show ie - i8 = m by omega] at hm7 hl7
        rw [show i8 - i4 = 4 by omega] at hm8 hl8
        have hbe : bodyL (L.drop at_) = (L.drop i8).take m := by unfold bodyL; rw [HM.out, List.drop_drop, hi8]
        have hbyd : Byt (L.drop at_) := fun x hx => HL.out.2.1 x (List.mem_of_mem_drop hx)
        have HBL := Lib.hid (show (bodyL (L.drop at_)).length = m ∧ Byt (bodyL (L.drop at_)) ∧ Ls .u8 W1 a7 c7 (bodyL (L.drop at_)) from ⟨by rw [hbe, List.length_take, List.length_drop, HL.out.1]; omega, fun x hx => hbyd x (by rw [hbe] at hx; have := List.mem_of_mem_take hx; have h5 : x ∈ L := List.mem_of_mem_drop this; rw [show L.drop i8 = (L.drop at_).drop 8 by rw [List.drop_drop, hi8]] at this; exact List.mem_of_mem_drop this), by rw [hbe]; exact hl7⟩)
        have HM4 := Lib.hid (show ((L.drop i4).take 4).length = 4 ∧ Ls .u8 W1 a8 c8 ((L.drop i4).take 4) from ⟨by rw [List.length_take, List.length_drop, HL.out.1]; omega, hl8⟩)
        have HCL := Lib.hid (crcV_lt HBL.out.2.1)
        clear hl7 hl8 hbe hbyd
        go_upto_region 8 with (fail)
        rename_i KK hKK
        refine Code.wp_mono (Q := Exit.then KK (fun _ _ _ => False)) (fun e a' w' h => by cases e <;> first | exact h | exact h.elim) ?_
        refine wp_region_held_drew (S := (fun X => Below W1.heap.size W1 X)) (by kernel_rfl) ((Below.refl _ _).drew) (fun hHeld => ?_)
        refine tp 0 ?_ rfl (.inl ⟨by rfl, ?_⟩) ?_
        rotate_left
        · intro W hSw; go_simp; try with_reducible rfl
        refine tp 4 ?_ rfl (.inl ⟨by rfl, ?_⟩) ?_
        rotate_left
        · intro W hSw; go_simp; try with_reducible rfl
        refine tp 5 ?_ rfl (.inl ⟨by rfl, ?_⟩) ?_
        rotate_left
        · intro W hSw; go_simp; try with_reducible rfl
        refine tp 6 ?_ rfl (.inl ⟨by rfl, ?_⟩) ?_
        rotate_left
        · intro W hSw; go_simp; try with_reducible rfl
        refine tp 7 ?_ rfl (.inl ⟨by rfl, ?_⟩) ?_
        rotate_left
        · intro W hSw; go_simp; try with_reducible rfl
        refine tp 8 ?_ rfl (.inl ⟨by rfl, ?_⟩) ?_
        rotate_left
        · intro W hSw; go_simp; try with_reducible rfl
        refine tp 9 ?_ rfl (.inl ⟨by rfl, ?_⟩) ?_
        rotate_left
        · intro W hSw; go_simp; try with_reducible rfl
        refine tp 10 ?_ rfl (.inl ⟨by rfl, ?_⟩) ?_
        rotate_left
        · intro W hSw; have hcv := conv_ls W a8 4 c8 _ HM4.out.1 (HM4.out.2.below hSw).rd; go_simp; try with_reducible rfl
        refine a1 1 rfl (fun K hK => ?_)
        go_simp
        refine (rsum_law a7 (bodyL (L.drop at_)) m c7 HBL.out.1 (by omega) HBL.out.2.1 _ (HBL.out.2.2.below hHeld).rd).mono ?_; rintro e9 w3 ⟨rfl, rfl⟩
        go_wp2_with fail
        refine hK.out _ _ (hHeld) (fun hHeldn => ?_)
        clear hK K hHeld; have hHeld := hHeldn; clear hHeldn
        try simp only [Act.put, List.setIfInBounds_toArray, List.set_cons_zero, List.set_cons_succ]
        refine a1 2 rfl (fun K hK => ?_)
        go_simp
        refine (rword_law _ HCL.out _).mono ?_; rintro e9 w4 ⟨rfl, ho4, hb4⟩; obtain ⟨a4, c4, e4, hl4, _⟩ := own_ls ho4 rfl; cases e4; have HW4 := Lib.hid (show Rd .u8 w4 (some ⟨W1.heap.size, 0, none⟩) (be4 (crcV (bodyL (L.drop at_)))) from hl4.rd)
        go_wp2_with fail
        refine hK.out _ _ (step_below hHeld hb4) (fun hHeldn => ?_)
        clear hK K hHeld; have hHeld := hHeldn; clear hHeldn
        clear ho4 hb4 hl4
        try simp only [Act.put, List.setIfInBounds_toArray, List.set_cons_zero, List.set_cons_succ]
        refine a1 3 rfl (fun K hK => ?_)
        go_simp
        rw [conv_ls _ _ 4 4 _ rfl HW4.out]
        refine hK.out _ _ hHeld (fun hHeldn => ?_)
        clear hK K hHeld; have hHeld := hHeldn; clear hHeldn
        try simp only [Act.put, List.setIfInBounds_toArray, List.set_cons_zero, List.set_cons_succ]
        refine tp 11 ?_ rfl (.inl ⟨by rfl, ?_⟩) ?_
        rotate_left
        · intro W hSw; go_simp; try with_reducible rfl
        refine wpAnyH_done (by kernel_rfl) ?_ _
        skip
        refine hKK _ _ ?_
        have HBD := Lib.hid (step_below HB1.out hHeld)
        have HROD := Lib.hid (HRO1.out.below hHeld)
        have HBLD := Lib.hid (HBL.out.2.2.below hHeld)
        have HIS := Lib.hid (show ((strOfNums (be4 (crcV (bodyL (L.drop at_))))).toList == (strOfNums ((L.drop i4).take 4)).toList) = isL (L.drop at_) by
          have hb4 : Byt (L.drop i4) := fun x hx => HL.out.2.1 x (List.mem_of_mem_drop hx)
          have hd4 : (L.drop at_).drop 4 = L.drop i4 := by rw [List.drop_drop, hi4]
          have hl4 : 4 ≤ (L.drop i4).length := by rw [List.length_drop, HL.out.1]; omega
          rw [str_eq (be4_byt _) (fun x hx => hb4 x (List.mem_of_mem_take hx))]
          unfold isL
          rw [HM.out, hd4, hDL]
          refine decide_eq_decide.2 ⟨fun h => ⟨by omega, hc.1, hc.2.1, by omega, ?_⟩, fun h => ?_⟩
          · have h2 : be4 (crcV (bodyL (L.drop at_))) = be4 (de4 (L.drop i4)) := by rw [h, be4_de4 hb4 hl4]
            have h3 := de4_be4 HCL.out []
            rw [List.append_nil] at h3
            have h4 : de4 (be4 (de4 (L.drop i4))) = de4 (L.drop i4) := by
              rw [be4_de4 hb4 hl4]
              unfold de4
              have g : ∀ j, j < 4 → ((L.drop i4).take 4).getD j 0 = (L.drop i4).getD j 0 := fun j hj => by rw [List.getD_eq_getElem?_getD, List.getD_eq_getElem?_getD, List.getElem?_take, if_pos hj]
              rw [g 0 (by omega), g 1 (by omega), g 2 (by omega), g 3 (by omega)]
            rw [← h3, h2, h4]
          · rw [h.2.2.2.2, be4_de4 hb4 hl4])
        rw [HIS.out]
        clear hKK hHeld HW4 HRO1
        obtain ⟨wd, hwd⟩ : ∃ wd, w4 = wd := ⟨_, rfl⟩
        rw [hwd] at HBD HROD HBLD ⊢
        clear hwd
        cases his : isL (L.drop at_) with
        | false =>
          have HE := Lib.hid (HEND.out his)
          clear his
          go_wp2_with fail
          go_ret2
          have hr := HROD.out
          rw [HE.out.1, ← HFS.out] at hr
          exact ⟨_, by rw [← HE.out.2]; rfl, hr, HBD.out⟩
        | true =>
          have hfy := framesL_yes his
          rw [HFR.out, HM.out, List.drop_drop] at hfy
          have hfk : FS[k]? = some (bodyL (L.drop at_)) := by
            have := congrArg (fun l => l[0]?) hfy
            simpa [List.getElem?_drop] using this
          have HFK := Lib.hid hfk
          have HFR2 := Lib.hid (show framesL (L.drop ie) = FS.drop (k + 1) by
            have := congrArg List.tail hfy
            rw [List.tail_drop, List.tail_cons] at this
            rw [this]
            congr 2
            omega)
          have HSU2 := Lib.hid (show sumF FS (k + 1) = ie by rw [sumF_succ hfk, HSU.out, HBL.out.1]; omega)
          obtain ⟨BD, hBD⟩ : ∃ BD, bodyL (L.drop at_) = BD := ⟨_, rfl⟩
          have HBLN := Lib.hid (And.intro HBL.out.1 HBL.out.2.1)
          rw [hBD] at HBLD HBLN HFK
          have hsd := HBD.out.size
          obtain ⟨RR, hq1, hq2, hq3⟩ := HROD.out
          obtain ⟨a0, c0, rfl⟩ := own_form hq2
          obtain ⟨kk, hkk⟩ : ∃ kk, (FS.take k).length = kk := ⟨_, rfl⟩
          have hkl2 : k ≤ 1000000 := by
            have h1 := sumF_ge FS k HKL.out
            rw [HSU.out] at h1
            omega
          have hkk2 : kk ≤ 1000000 := by rw [← hkk, List.length_take]; omega
          rw [hkk] at hq2 ⊢
          have HQ1 := Lib.hid (And.intro hq1 hkk)
          have HQ2 := Lib.hid hq2
          have HQ3 := Lib.hid hq3
          clear his hfy hfk hBD hq1 hq2 hq3 hkk HEND HROD HIS
          go_wp2_with (at_builtin; refine append_ls eltB rfl (.const (.slice none 0 0)) (.tmp 82) rfl w.heap.size _ 0 [] rfl (World.ownsRow_nil _ _ _ _) _ _ m BD HBLN.out.1 rfl HBLD.out (by omega) hsd ?_; intro v9 w9 hown9 hgrow9; rw [Nat.zero_add, List.nil_append] at hown9; obtain ⟨a9, c9, hv9⟩ := own_form hown9; subst hv9; have HO9 := Lib.hid hown9; have b9 := (Below.refl wd.heap.size wd).grown hgrow9 (Nat.le_refl _) (fun j hj => by cases hj); have HB9 := Lib.hid (step_below HBD.out b9); have HR9 := Lib.hid (own_below HQ2.out b9); have HQ9 := Lib.hid (show ∀ p ∈ RR, w9.ownsRow w.heap.size 5 1 p.v p.bs.length (iv .u8 p.bs) from fun p hp => own_below (HQ3.out p hp) b9); have hs9 := HB9.out.size; clear hown9 hgrow9 b9; go_wp2_with (at_builtin; refine wpList_append_own _ rfl (.tmp 81) (.tmp 84) 69 rfl w.heap.size 54 i22 (.slice none 0 0) 1 24 Tryz.underlying69 hi22 hz220 hz221 hz222 rfl (by decide) _ kk (RR.map P1.v) rfl (HR9.out.alloc _) ⟨w9.heap.size, 0, none⟩ 1 1 [.slice a9 m c9] rfl rfl (by intro j u hj; match j, hj with | 0, hj => (simp at hj; subst hj; simp [Addr.add, go_sem]) | j + 1, hj => simp at hj) (by intro u hu; simp at hu; subst hu; rfl) (by unfold maxLen; omega) (by omega) (by simp; omega) ?_; rintro v10 w10 hown10 hgrow10 _; have HO10 := Lib.hid (show RowsO w10 w.heap.size (FS.take (k + 1)) v10 from ⟨RR ++ [⟨a9, c9, BD⟩], (by rw [List.map_append, HQ1.out.1, List.take_add_one, HFK.out]; rfl), (by rw [List.take_add_one, HFK.out, List.length_append, HQ1.out.2, List.map_append]; simp only [P1.v, List.map_cons, List.map_nil, HBLN.out.1]; exact hown10), (fun p hp => (List.mem_append.1 hp).elim (fun hp => ((HQ9.out p hp).alloc _).kept hgrow10 (own_apart ((HQ9.out p hp).alloc (.cells #[.slice a9 m c9] 54)) (HR9.out.alloc _) (by decide))) (fun hp => by simp only [List.mem_singleton] at hp; subst hp; simp only [P1.v]; rw [HBLN.out.1]; exact (HO9.out.alloc _).kept hgrow10 (own_apart (HO9.out.alloc (.cells #[.slice a9 m c9] 54)) (HR9.out.alloc _) (by decide))))⟩); have HB10 := Lib.hid ((HB9.out.alloc hs9 _).grown hgrow10 (by simp; omega) (fun j hj => (HR9.out.lt j hj).1)); clear hown10 hgrow10))
          go_roundw
          case rel => exact ⟨k + 1, ie, by omega, by go_num, HSU2, HFR2, Lib.hid (by have := (List.getElem?_eq_some_iff.1 HFK.out).1; omega), HO10, HB10⟩
          case measure => simpa [intOf] using hms
      · have HE := Lib.hid (HEND.out (isL_no (by rw [HM.out, hDL]; omega)))
        have hr := HRO1.out
        rw [HE.out.1, ← HFS.out] at hr
        have HRR := Lib.hid hr
        clear hr HEND HRO1
        have fin : ∀ v, RowsO W1 w.heap.size (framesL L) v → ∃ v', Ending.returned (.tuple #[v, .int .i64 (at_ : Int)]) = .returned (.tuple #[v', .int .i64 ((wholeL L : Nat) : Int)]) ∧ RowsO W1 w.heap.size (framesL L) v' ∧ Below w.heap.size w W1 := fun v h => ⟨v, by rw [← HE.out.2], h, HB1.out⟩
        have FIN := Lib.hid fin
        clear fin
        by_cases h1 : m < 1
        · have c1 : (m : Int) < 1 := by omega
          go_wp2_with fail
          go_ret2
          exact FIN.out _ HRR.out
        · have c1 : ¬ (m : Int) < 1 := by omega
          by_cases h2 : 4096 < m
          · have c2 : (4096 : Int) < (m : Int) := by omega
            go_wp2_with fail
            go_ret2
            exact FIN.out _ HRR.out
          · have c2 : ¬ (4096 : Int) < (m : Int) := by omega
            have c3 : (r2 : Int) < (m : Int) := by omega
            go_wp2_with fail
            go_ret2
            exact FIN.out _ HRR.out
    · have d8 : ¬ (i8 : Int) ≤ (n : Int) := by omega
      have HE := Lib.hid (HEND.out (isL_no (by rw [List.length_drop, HL.out.1]; omega)))
      have hr := HRO.out
      rw [HE.out.1, ← HFS.out] at hr
      have HRR := Lib.hid hr
      clear hr HEND HRO
      go_wp2_with fail
      go_ret2
      exact ⟨_, by rw [← HE.out.2]; rfl, HRR.out, HBW.out⟩
end Go.Proofs.YtglkndoghnblcaaGreatDoor
namespace Go.Proofs.YtglkndoghnblcaaGreatDoor
open Go.ChangeShapes Go.WideShapes Go.ChangeAt Go.RowKit
set_option linter.unusedVariables false
set_option linter.unusedSimpArgs false
set_option maxRecDepth 100000 in
set_option maxHeartbeats 2000000 in
/-- The document's PutCheckpoint (34). -/
theorem rputck_own (e : Nat) (a : Option Addr) (ts : List TbP) (n cap : Nat) (hn : ts.length = n) (w : World) (hR : TbsR w a ts) (hb : ckB (e : Int) ts = true) (hl : cntT ts n ≤ 4096) :
    Calls Tryz.prog 30 #[.agg #[.int .i64 (e : Int), .slice a n cap]] w (OwnB w (ckW e ts)) := by
  have ok := ck_ok hb
  have he : e ≤ 16777215 := by have := ok.e2; omega
  have hn4 : n ≤ 4 := by have := ok.n; omega
  have HB := Lib.hid hn
  have HOKA := Lib.hid ok
  have HHL := Lib.hid (hdW_len he ok.n (by rw [hn]; exact hl))
  have HHY := Lib.hid (hdW_byt e ts)
  have HR := Lib.hid hR
  have HHD := Lib.hid (show hdW e ts = numW e ++ (numW n ++ ((cntsL ts n).map nuW).flatten) by unfold hdW putL; rw [hn, cntsL_len _ _ (by omega)])
  have HTL := Lib.hid (fun k (hk : k ≤ n) => tabsW_len ok k (by rw [hn]; exact hk))
  obtain ⟨s, hs⟩ : ∃ s, cntT ts n = s := ⟨_, rfl⟩
  rw [hs] at hl
  have HCL := Lib.hid (fun k => (show cntT ts k ≤ s by rw [← hs]; have := cntT_le ts k; rw [hn] at this; exact this))
  have t1 := numW_ten e (by omega)
  have t2 := numW_ten n (by omega)
  clear hb hn hR hs ok
  go_enter Tryz.func30, Tryz.ntmps30
  go_upto_region 1 with (fail)
  obtain ⟨W1, hW0⟩ : ∃ W0, w.alloc (.cells #[.int .i64 (e : Int), .slice a n cap] 77) = W0 := ⟨_, rfl⟩
  have hb0 : Below w.heap.size w W1 := by rw [← hW0]; exact bl1 _ _
  have bx : BoxC W1 w.heap.size #[.int .i64 (e : Int), .slice a n cap] 77 := by rw [← hW0]; exact BoxC.new w _ 77
  rw [hW0]
  clear hW0
  have HB0 := Lib.hid hb0
  have HBX := Lib.hid bx
  have FQ := Lib.hid (fun X (b : Below W1.heap.size W1 X) => (⟨(bx.below b).cell 0, (bx.below b).cell 1⟩ : X.cell? ⟨w.heap.size, 0, none⟩ = some (.int .i64 (e : Int)) ∧ X.cell? ⟨w.heap.size, 1, none⟩ = some (.slice a n cap)))
  clear hb0 bx
  rename_i KK hKK
  refine Code.wp_mono (Q := Exit.then KK (fun _ _ _ => False)) (fun e a' w' h => by cases e <;> first | exact h | exact h.elim) ?_
  refine wp_region_held_drew (S := (fun X => Below W1.heap.size W1 X)) (by kernel_rfl) ((Below.refl _ _).drew) (fun hHeld => ?_)
  refine tp 0 ?_ rfl (.inl ⟨by rfl, ?_⟩) ?_
  rotate_left
  · intro W hSw; go_simp; try with_reducible rfl
  refine tp 1 ?_ rfl (.inl ⟨by rfl, ?_⟩) ?_
  rotate_left
  · intro W hSw; obtain ⟨z0, z1⟩ := FQ.out W hSw; go_simp; try with_reducible rfl
  refine tp 3 ?_ rfl (.inl ⟨by rfl, ?_⟩) ?_
  rotate_left
  · intro W hSw; go_simp; try with_reducible rfl
  refine tp 4 ?_ rfl (.inl ⟨by rfl, ?_⟩) ?_
  rotate_left
  · intro W hSw; obtain ⟨z0, z1⟩ := FQ.out W hSw; go_simp; try with_reducible rfl
  refine tp 5 ?_ rfl (.inl ⟨by rfl, ?_⟩) ?_
  rotate_left
  · intro W hSw; go_simp; try with_reducible rfl
  refine a1 2 rfl (fun K hK => ?_)
  go_simp
  refine (rnumber15_own e (by omega) _).mono ?_; rintro e9 w3 ⟨a3, c3, rfl, ho3, hl3, hb3⟩; have HA := Lib.hid (own_base (b := W1.heap.size) hHeld.size ho3)
  go_wp2_with fail
  refine hK.out _ _ (step_below hHeld hb3) (fun hHeldn => ?_)
  clear hK K hHeld; have hHeld := hHeldn; clear hHeldn
  clear ho3 hl3 hb3
  try simp only [Act.put, List.setIfInBounds_toArray, List.set_cons_zero, List.set_cons_succ]
  refine a1 6 rfl (fun K hK => ?_)
  go_simp
  refine (rnumber15_own n (by omega) _).mono ?_; rintro e9 w4 ⟨a4, c4, rfl, ho4, hl4, hb4⟩; have HC := Lib.hid hl4.ls; have HA2 := Lib.hid (own_below HA.out hb4)
  go_wp2_with fail
  refine hK.out _ _ (step_below hHeld hb4) (fun hHeldn => ?_)
  clear hK K hHeld; have hHeld := hHeldn; clear hHeldn
  clear ho4 hl4 hb4
  try simp only [Act.put, List.setIfInBounds_toArray, List.set_cons_zero, List.set_cons_succ]
  refine a1 7 rfl (fun K hK => ?_)
  refine step_append_ls eltB rfl _ _ rfl W1.heap.size W1 hHeld _ ((numW e).length) (iv .u8 (numW e)) rfl HA2.out _ _ ((numW n).length) (numW n) rfl rfl HC.out (by omega) hHeld.size ?_
  intro v5 X5 ho5 hb5 hg5
  rw [← iv_append] at ho5
  have HP5 := Lib.hid ho5
  clear ho5 hg5
  refine hK.out _ _ hb5 (fun hHeldn => ?_)
  clear hK K hHeld; have hHeld := hHeldn; clear hHeldn hb5
  try simp only [Act.put, List.setIfInBounds_toArray, List.set_cons_zero, List.set_cons_succ]
  refine tp 8 ?_ rfl (.inl ⟨by rfl, ?_⟩) ?_
  rotate_left
  · intro W hSw; go_simp; try with_reducible rfl
  refine wpAnyH_done (by kernel_rfl) ?_ _
  skip
  refine hKK _ _ ?_
  have HBA := Lib.hid hHeld
  clear hKK hHeld HA HA2 HC
  obtain ⟨WA, hWA⟩ : ∃ WA, X5 = WA := ⟨_, rfl⟩
  rw [hWA] at HBA HP5 ⊢
  clear hWA
  obtain ⟨aq, cq, hvq⟩ := own_form HP5.out
  subst hvq
  obtain ⟨N0, hN0⟩ : ∃ N0, numW e ++ numW n = N0 := ⟨_, rfl⟩
  obtain ⟨l0, hl0⟩ : ∃ l0, (numW e).length + (numW n).length = l0 := ⟨_, rfl⟩
  have HN0 := Lib.hid (show N0.length = l0 ∧ hdW e ts = N0 ++ ((cntsL ts n).map nuW).flatten by rw [← hN0, ← hl0, List.length_append]; exact ⟨rfl, by rw [HHD.out, List.append_assoc]⟩)
  have hl02 : l0 ≤ 20 := by omega
  rw [hN0, hl0] at HP5
  rw [hl0]
  have HLL := Lib.hid (show ∀ k, k ≤ n → l0 + ((cntsL ts k).map nuW).flatten.length ≤ 60 from fun k hk => by
    have h1 := HHL.out.2
    rw [HN0.out.2, List.length_append, HN0.out.1] at h1
    have h2 : cntsL ts k = (cntsL ts n).take k := by
      unfold cntsL
      rw [← List.map_take, List.take_take, Nat.min_eq_left hk]
    have h3 := flat_le nuW (cntsL ts n) k
    rw [← h2] at h3
    omega)
  clear hN0 hl0 t1 t2
  go_wp2_with fail
  go_loopw [3, 4] (fun v j wr => ∃ k : Nat, k ≤ n ∧ j = .int .i64 (k : Int) ∧ Hid (wr.ownsRow W1.heap.size 5 1 v (l0 + ((cntsL ts k).map nuW).flatten.length) (iv .u8 (N0 ++ ((cntsL ts k).map nuW).flatten))) ∧ Hid (Below W1.heap.size W1 wr)) (fun _ j _ => n - (intOf j).toNat)
  case atStart => exact ⟨0, Nat.zero_le _, rfl, Lib.hid (by simpa [cntsL] using HP5.out), HBA⟩
  case round =>
    obtain ⟨k, hk, rfl, HO, HBW⟩ := hrel
    clear HP5 HBA
    obtain ⟨z0, z1⟩ := FQ.out _ HBW.out
    by_cases hlt : k < n
    · have dl : (k : Int) < (n : Int) := by omega
      obtain ⟨t, ht⟩ : ∃ t, ts[k]? = some t := ⟨_, List.getElem?_eq_getElem (by rw [HB.out]; exact hlt)⟩
      obtain ⟨bt, ot, rfl, ct, _⟩ := (HR.out.below (step_below HB0.out HBW.out)) k t ht
      have HS := Lib.hid (show ((cntsL ts (k + 1)).map nuW).flatten = ((cntsL ts k).map nuW).flatten ++ numW t.xs.length by rw [cntsL_next ht, List.map_append, List.flatten_append]; simp [nuW])
      have hlk := HLL.out (k + 1) hlt
      rw [HS.out, List.length_append] at hlk
      have hml : t.xs.length ≤ s := Nat.le_trans (by rw [cntT_next ht]; omega) (HCL.out (k + 1))
      obtain ⟨m, hm⟩ : ∃ m, t.xs.length = m := ⟨_, rfl⟩
      rw [hm] at ct HS hlk hml
      obtain ⟨F, hF⟩ : ∃ F, ((cntsL ts k).map nuW).flatten = F := ⟨_, rfl⟩
      rw [hF] at HO HS hlk
      obtain ⟨fl, hfl⟩ : ∃ fl, F.length = fl := ⟨_, rfl⟩
      have HFL := Lib.hid hfl
      rw [hfl] at HO hlk
      clear ht hm hF hfl z0
      go_wp2_with fail
      refine (rnumber15_own m (by omega) _).mono ?_
      rintro r w2 ⟨a2, c2, rfl, ho2, hl2, hb2⟩
      have HL2 := Lib.hid hl2.ls
      have HO2 := Lib.hid (own_below HO.out hb2)
      have HB2 := Lib.hid (step_below HBW.out hb2)
      have hs2 := HB2.out.size
      clear ho2 hl2 hb2
      go_wp2_with (at_builtin; refine append_ls eltB rfl (.tmp 25) (.tmp 32) rfl W1.heap.size _ (l0 + fl) (iv .u8 (N0 ++ F)) rfl HO2.out _ _ (numW m).length (numW m) rfl rfl HL2.out (by omega) hs2 ?_; intro v3 w3 hown3 hgrow3; rw [← iv_append, List.append_assoc] at hown3; have HO3 := Lib.hid hown3; have HB3 := Lib.hid (HB2.out.grown hgrow3 hs2 (fun j hj => (HO2.out.lt j hj).1)); clear hown3 hgrow3)
      go_roundw
      case rel => exact ⟨k + 1, by omega, by go_num, by rw [HS.out, List.length_append, HFL.out, ← Nat.add_assoc]; exact HO3, HB3⟩
      case measure => simp [intOf]; omega
    · obtain rfl : k = n := by omega
      have dl : ¬ (k : Int) < (k : Int) := by omega
      have HHX := Lib.hid (show l0 + ((cntsL ts k).map nuW).flatten.length = (hdW e ts).length by rw [HN0.out.2, List.length_append, HN0.out.1])
      have ho := HO.out
      rw [HHX.out, ← HN0.out.2] at ho
      obtain ⟨ah, ch, hv, hlh, _⟩ := own_ls ho rfl
      subst hv
      have HLH := Lib.hid hlh
      have HHL2 := HHL.out.2
      obtain ⟨hd, hhd⟩ : ∃ hd, hdW e ts = hd := ⟨_, rfl⟩
      have HDD := Lib.hid hhd
      have HCKW := Lib.hid (show ckW e ts = frameL hd ++ tabsW ts k by unfold ckW; rw [hhd, HB.out])
      have HHY2 := Lib.hid (show Byt hd by rw [← hhd]; exact HHY.out)
      rw [hhd] at HLH HHL2 ⊢
      clear ho hlh hhd z0 HO HHX
      go_upto_region 6 with (fail)
      go_wp2_with fail
      refine (rframe_own ah hd hd.length ch rfl (by omega) HHY2.out _ HLH.out).mono ?_
      rintro r w5 ⟨a5, c5, rfl, ho5, hl5, hb5⟩
      have HBF := Lib.hid (step_below (step_below HB0.out HBW.out) hb5)
      have HBW5 := Lib.hid (step_below HBW.out hb5)
      have HO5 := Lib.hid (own_base (b := W1.heap.size) HBW.out.size ho5)
      obtain ⟨FH, hFH⟩ : ∃ FH, frameL hd = FH := ⟨_, rfl⟩
      obtain ⟨fh, hfh⟩ : ∃ fh, FH.length = fh := ⟨_, rfl⟩
      have hfh2 : fh ≤ 68 := by rw [← hfh, ← hFH, frameL_len]; omega
      have HFH := Lib.hid hfh
      rw [hFH] at HO5 HCKW ⊢
      rw [hfh] at HO5 ⊢
      clear ho5 hl5 hb5 hFH hfh HLH FQ z1 HHY2 HDD
      obtain ⟨WB, rfl⟩ : ∃ WB, WB = W1 := ⟨_, rfl⟩
      have y1 := (HBX.out.below HBW5.out).cell 1
      simp only [List.getElem?_toArray, List.getElem?_cons_zero, List.getElem?_cons_succ] at y1
      go_wp2_with fail
      go_loopw [5, 6, 7, 8, 9] (fun v j q1 q2 q3 wr => ∃ i : Nat, i ≤ k ∧ j = .int .i64 (i : Int) ∧ Hid (wr.ownsRow WB.heap.size 5 1 v (fh + (tabsW ts i).length) (iv .u8 (FH ++ tabsW ts i))) ∧ Hid (Below WB.heap.size WB wr)) (fun _ j _ _ _ _ => k - (intOf j).toNat)
      case atStart => exact ⟨0, Nat.zero_le _, rfl, Lib.hid (by simpa [tabsW] using HO5.out), HBW5⟩
      case round =>
        obtain ⟨i, hi, rfl, HO, HBW⟩ := hrel
        clear HO5 HBW5 y1
        have y1 := (HBX.out.below HBW.out).cell 1
        simp only [List.getElem?_toArray, List.getElem?_cons_zero, List.getElem?_cons_succ] at y1
        by_cases hlt : i < k
        · have dl : (i : Int) < (k : Int) := by omega
          obtain ⟨t, ht⟩ : ∃ t, ts[i]? = some t := ⟨_, List.getElem?_eq_getElem (by rw [HB.out]; exact hlt)⟩
          have HT := Lib.hid (And.intro (tabsW_next ht) (HOKA.out.all t (List.mem_of_getElem? ht)))
          have hcl : cntT ts i + t.xs.length ≤ s := by rw [← cntT_next ht]; exact HCL.out _
          have htl := HTL.out i (by omega)
          obtain ⟨bt, ot, rfl, ct, _⟩ := (HR.out.below (step_below HB0.out HBW.out)) i t ht
          have HTT := Lib.hid ht
          obtain ⟨m, hm⟩ : ∃ m, t.xs.length = m := ⟨_, rfl⟩
          have HM := Lib.hid hm
          rw [hm] at ct HT hcl
          obtain ⟨TW, hTW⟩ : ∃ TW, tabsW ts i = TW := ⟨_, rfl⟩
          rw [hTW] at HO htl HT
          obtain ⟨tl, htl2⟩ : ∃ tl, TW.length = tl := ⟨_, rfl⟩
          have HTW := Lib.hid htl2
          rw [htl2] at HO htl
          have htlb : tl + 202 * m ≤ 202 * 4096 := by omega
          clear ht hm hTW htl2 htl hcl
          go_upto_region 11 with (fail)
          obtain ⟨WO, rfl⟩ : ∃ WO, WO = wr := ⟨_, rfl⟩
          go_loopw [5, 7, 8, 9] (fun v j q2 q3 wr => ∃ l : Nat, l ≤ m ∧ j = .int .i64 (l : Int) ∧ Hid (wr.ownsRow WB.heap.size 5 1 v (fh + tl + (rowsW i t.xs l).length) (iv .u8 (FH ++ TW ++ rowsW i t.xs l))) ∧ Hid (Below WB.heap.size WB wr)) (fun _ j _ _ _ => m - (intOf j).toNat)
          case atStart => exact ⟨0, Nat.zero_le _, rfl, Lib.hid (by simpa [rowsW] using HO.out), HBW⟩
          case round =>
            obtain ⟨l, hl9, rfl, HP, HBV⟩ := hrel
            clear ct y1
            have y1 := (HBX.out.below HBV.out).cell 1
            simp only [List.getElem?_toArray, List.getElem?_cons_zero, List.getElem?_cons_succ] at y1
            obtain ⟨bt2, ot2, heq2, ct, hst⟩ := (HR.out.below (step_below HB0.out HBV.out)) i t HTT.out
            cases heq2
            rw [HM.out] at ct
            by_cases hlm : l < m
            · have d2 : (l : Int) < (m : Int) := by omega
              obtain ⟨x, hx⟩ : ∃ x, t.xs[l]? = some x := ⟨_, List.getElem?_eq_getElem (by rw [HM.out]; exact hlm)⟩
              have hx2 := HT.out.2 x (List.mem_of_getElem? hx)
              obtain ⟨bb, off, hta, c0, c1, c2, c3, ok⟩ := hst l x hx
              have HRN := Lib.hid (rowsW_next (i := i) hx)
              have hrl := rowsW_len (i := i) (by omega) HT.out.2 l (by rw [HM.out]; exact hl9)
              have HSL := Lib.hid (stW_len (i := i) (by omega) hx2)
              have HSY := Lib.hid (stW_byt (i := i) ok.kb ok.rb)
              obtain ⟨xe, hxe⟩ : ∃ q : Nat, x.e = (q : Int) := ⟨x.e.toNat, by have := hx2.e1; omega⟩
              obtain ⟨xs, hxs⟩ : ∃ q : Nat, x.s = (q : Int) := ⟨x.s.toNat, by have := hx2.s1; omega⟩
              have hxe2 : xe ≤ 16777215 := by have := hx2.e2; omega
              have hxs2 : xs ≤ 2147483647 := by have := hx2.s2; omega
              have HES := Lib.hid (show stW i x = numW i ++ bytesW x.key ++ bytesW (putL bsW x.R) ++ numW xe ++ numW xs by unfold stW tidW; rw [hxe, hxs, Int.toNat_natCast, Int.toNat_natCast]; simp only [List.append_assoc])
              have HX2 := Lib.hid hx2
              have HOK := Lib.hid ok
              rw [hta] at ct
              rw [hxe] at c2
              rw [hxs] at c3
              clear hx hx2 ok hta hxe hxs hst
              go_upto_region 14 with (fail)
              obtain ⟨W1, hW1⟩ : ∃ W1, wr.alloc (.cells #[.slice x.ka x.key.length x.kc, .slice x.ra x.R.length x.rc, .int .i64 (xe : Int), .int .i64 (xs : Int)] 72) = W1 := ⟨_, rfl⟩
              have hb1 : Below wr.heap.size wr W1 := by rw [← hW1]; exact bl1 _ _
              have bw : BoxC W1 wr.heap.size #[.slice x.ka x.key.length x.kc, .slice x.ra x.R.length x.rc, .int .i64 (xe : Int), .int .i64 (xs : Int)] 72 := by rw [← hW1]; exact BoxC.new wr _ 72
              try rw [hW1]
              clear hW1 c0 c1 c2 c3 ct y1
              have HB1 := Lib.hid (step_below HBV.out hb1)
              have HP1 := Lib.hid (own_below HP.out hb1)
              have HOK1 := Lib.hid (HOK.out.below hb1)
              have FQ := Lib.hid (fun X (b : Below W1.heap.size W1 X) => (⟨(bw.below b).cell 0, (bw.below b).cell 1, (bw.below b).cell 2, (bw.below b).cell 3⟩ : X.cell? ⟨wr.heap.size, 0, none⟩ = some (.slice x.ka x.key.length x.kc) ∧ X.cell? ⟨wr.heap.size, 1, none⟩ = some (.slice x.ra x.R.length x.rc) ∧ X.cell? ⟨wr.heap.size, 2, none⟩ = some (.int .i64 (xe : Int)) ∧ X.cell? ⟨wr.heap.size, 3, none⟩ = some (.int .i64 (xs : Int))))
              clear hb1 bw HP HBV HOK
              have k1 := numW_ten i (by omega)
              have k2 := bytesW_len x.key (by have := HX2.out.k; omega)
              have k3 := HX2.out.k
              rename_i KK hKK
              refine Code.wp_mono (Q := Exit.then KK (fun _ _ _ => False)) (fun e a' w' h => by cases e <;> first | exact h | exact h.elim) ?_
              refine wp_region_held_drew (S := (fun X => Below W1.heap.size W1 X)) (by kernel_rfl) ((Below.refl _ _).drew) (fun hHeld => ?_)
              refine tp 0 ?_ rfl (.inl ⟨by rfl, ?_⟩) ?_
              rotate_left
              · intro W hSw; go_simp; try with_reducible rfl
              refine tp 2 ?_ rfl (.inl ⟨by rfl, ?_⟩) ?_
              rotate_left
              · intro W hSw; go_simp; try with_reducible rfl
              refine tp 3 ?_ rfl (.inl ⟨by rfl, ?_⟩) ?_
              rotate_left
              · intro W hSw; obtain ⟨z0, z1, z2, z3⟩ := FQ.out W hSw; go_simp; try with_reducible rfl
              refine a1 1 rfl (fun K hK => ?_)
              go_simp
              refine (rnumber15_own i (by omega) _).mono ?_; rintro e9 w3 ⟨a3, c3, rfl, ho3, hl3, hb3⟩; have HA := Lib.hid (own_base (b := W1.heap.size) hHeld.size ho3)
              go_wp2_with fail
              refine hK.out _ _ (step_below hHeld hb3) (fun hHeldn => ?_)
              clear hK K hHeld; have hHeld := hHeldn; clear hHeldn
              clear ho3 hl3 hb3
              try simp only [Act.put, List.setIfInBounds_toArray, List.set_cons_zero, List.set_cons_succ]
              refine a1 4 rfl (fun K hK => ?_)
              go_simp
              refine (rbytes_own x.ka x.key x.key.length x.kc rfl (by have := HX2.out.k; omega) _ (HOK1.out.ls.below hHeld)).mono ?_; rintro e9 w4 ⟨a4, c4, rfl, ho4, hl4, hb4⟩; have HC := Lib.hid hl4.ls; have HA2 := Lib.hid (own_below HA.out hb4)
              go_wp2_with fail
              refine hK.out _ _ (step_below hHeld hb4) (fun hHeldn => ?_)
              clear hK K hHeld; have hHeld := hHeldn; clear hHeldn
              clear ho4 hl4 hb4
              try simp only [Act.put, List.setIfInBounds_toArray, List.set_cons_zero, List.set_cons_succ]
              refine a1 5 rfl (fun K hK => ?_)
              refine step_append_ls eltB rfl _ _ rfl W1.heap.size W1 hHeld _ ((numW i).length) (iv .u8 (numW i)) rfl HA2.out _ _ ((bytesW x.key).length) (bytesW x.key) rfl rfl HC.out (by omega) hHeld.size ?_
              intro v5 X5 ho5 hb5 hg5
              rw [← iv_append] at ho5
              have HP5 := Lib.hid ho5
              clear ho5 hg5
              refine hK.out _ _ hb5 (fun hHeldn => ?_)
              clear hK K hHeld; have hHeld := hHeldn; clear hHeldn hb5
              try simp only [Act.put, List.setIfInBounds_toArray, List.set_cons_zero, List.set_cons_succ]
              refine tp 6 ?_ rfl (.inl ⟨by rfl, ?_⟩) ?_
              rotate_left
              · intro W hSw; go_simp; try with_reducible rfl
              refine wpAnyH_done (by kernel_rfl) ?_ _
              skip
              refine hKK _ _ ?_
              have HBP := Lib.hid hHeld
              clear hKK hHeld HA HA2 HC
              obtain ⟨WP, hWP⟩ : ∃ WP, X5 = WP := ⟨_, rfl⟩
              rw [hWP] at HBP HP5 ⊢
              clear hWP
              obtain ⟨ap, cp, hvp⟩ := own_form HP5.out
              subst hvp
              obtain ⟨P1x, hP1⟩ : ∃ P, numW i ++ bytesW x.key = P := ⟨_, rfl⟩
              obtain ⟨p1, hp1⟩ : ∃ p, (numW i).length + (bytesW x.key).length = p := ⟨_, rfl⟩
              have HP1L := Lib.hid (show P1x.length = p1 by rw [← hP1, ← hp1, List.length_append])
              rw [hP1, hp1] at HP5
              rw [hP1] at HES
              rw [hp1]
              have hp12 : p1 ≤ 60 := by omega
              clear hP1 hp1 k1 k2 k3
              obtain ⟨_, w1, _, _⟩ := FQ.out _ HBP.out
              have hrb := rowbytes_len HX2.out.r
              have HRB := Lib.hid (rrow_own x.ra x.R x.R.length x.rc rfl (by have := ((mayR_iff x.R).1 HX2.out.r).2.2; omega) (by omega) (fun p hp => by have := ((mayR_iff x.R).1 HX2.out.r).1 p hp; omega) WP (HOK1.out.row.below HBP.out))
              obtain ⟨RB, hRB⟩ : ∃ RB, putL bsW x.R = RB := ⟨_, rfl⟩
              rw [hRB] at hrb HRB HES
              clear hRB
              go_wp2_with fail
              refine HRB.out.mono ?_
              rintro r w6 ⟨a6, c6, rfl, ho6, hl6, hb6⟩
              have HL6 := Lib.hid hl6.ls
              have HP6 := Lib.hid (own_below HP5.out hb6)
              have HB6 := Lib.hid (step_below HBP.out hb6)
              clear ho6 hl6 hb6 w1 HRB
              go_wp2_with fail
              refine (rbytes_own a6 RB RB.length c6 rfl (by omega) _ HL6.out).mono ?_
              rintro r w7 ⟨a7, c7, rfl, ho7, hl7, hb7⟩
              have HL7 := Lib.hid hl7.ls
              have HP7 := Lib.hid (own_below HP6.out hb7)
              have HB7 := Lib.hid (step_below HB6.out hb7)
              have hs7 := HB7.out.size
              have hrb2 := bytesW_len RB (by omega)
              clear ho7 hl7 hb7 HL6 HP6 HB6 HP5
              go_wp2_with (at_builtin; refine append_ls eltB rfl (.tmp 67) (.tmp 71) rfl W1.heap.size _ p1 (iv .u8 P1x) rfl HP7.out _ _ (bytesW RB).length (bytesW RB) rfl rfl HL7.out (by omega) hs7 ?_; intro v8 w8 hown8 hgrow8; rw [← iv_append] at hown8; obtain ⟨a8, c8, hv8⟩ := own_form hown8; subst hv8; have HP8 := Lib.hid hown8; have HB8 := Lib.hid (HB7.out.grown hgrow8 hs7 (fun j hj => (HP7.out.lt j hj).1)); clear hown8 hgrow8)
              obtain ⟨P2, hP2⟩ : ∃ P, P1x ++ bytesW RB = P := ⟨_, rfl⟩
              obtain ⟨p2, hp2⟩ : ∃ p, p1 + (bytesW RB).length = p := ⟨_, rfl⟩
              have HP2L := Lib.hid (show P2.length = p2 by rw [← hP2, ← hp2, List.length_append, HP1L.out])
              rw [hP2, hp2] at HP8
              rw [hP2] at HES
              rw [hp2]
              have hp22 : p2 ≤ 190 := by omega
              have HPA := Lib.hid (HP8.out.drew)
              have HBR := Lib.hid HB8.out
              have k4 := numW_ten xe (by omega)
              have k5 := numW_ten xs (by omega)
              clear hP2 hp2 HP8 HP7 HL7 HB7 hrb hrb2
              rename_i KK hKK
              refine Code.wp_mono (Q := Exit.then KK (fun _ _ _ => False)) (fun e a' w' h => by cases e <;> first | exact h | exact h.elim) ?_
              refine wp_region_held_drew (S := (fun X => Below W1.heap.size W1 X)) (by kernel_rfl) (HBR.out.drew) (fun hHeld => ?_)
              refine tp 0 ?_ rfl (.inl ⟨by rfl, ?_⟩) ?_
              rotate_left
              · intro W hSw; go_simp; try with_reducible rfl
              refine tp 1 ?_ rfl (.inl ⟨by rfl, ?_⟩) ?_
              rotate_left
              · intro W hSw; go_simp; try with_reducible rfl
              refine tp 2 ?_ rfl (.inl ⟨by rfl, ?_⟩) ?_
              rotate_left
              · intro W hSw; go_simp; try with_reducible rfl
              refine tp 3 ?_ rfl (.inl ⟨by rfl, ?_⟩) ?_
              rotate_left
              · intro W hSw; obtain ⟨z0, z1, z2, z3⟩ := FQ.out W hSw; go_simp; try with_reducible rfl
              refine tp 6 ?_ rfl (.inl ⟨by rfl, ?_⟩) ?_
              rotate_left
              · intro W hSw; go_simp; try with_reducible rfl
              refine tp 7 ?_ rfl (.inl ⟨by rfl, ?_⟩) ?_
              rotate_left
              · intro W hSw; go_simp; try with_reducible rfl
              refine tp 8 ?_ rfl (.inl ⟨by rfl, ?_⟩) ?_
              rotate_left
              · intro W hSw; obtain ⟨z0, z1, z2, z3⟩ := FQ.out W hSw; go_simp; try with_reducible rfl
              refine a1 4 rfl (fun K hK => ?_)
              go_simp
              refine (rnumber15_own xe (by omega) _).mono ?_; rintro e9 w3 ⟨a3, c3, rfl, ho3, hl3, hb3⟩; have HA := Lib.hid hl3.ls; have HPB := Lib.hid (own_below HPA.out hb3)
              go_wp2_with fail
              refine hK.out _ _ (step_below hHeld hb3) (fun hHeldn => ?_)
              clear hK K hHeld; have hHeld := hHeldn; clear hHeldn
              clear ho3 hl3 hb3
              try simp only [Act.put, List.setIfInBounds_toArray, List.set_cons_zero, List.set_cons_succ]
              refine a1 5 rfl (fun K hK => ?_)
              refine step_append_ls eltB rfl _ _ rfl W1.heap.size W1 hHeld _ (p2) (iv .u8 P2) rfl HPB.out _ _ ((numW xe).length) (numW xe) rfl rfl HA.out (by omega) hHeld.size ?_
              intro v7 X7 ho7 hb7 hg7
              rw [← iv_append] at ho7
              have HP7 := Lib.hid ho7
              clear ho7 hg7
              refine hK.out _ _ hb7 (fun hHeldn => ?_)
              clear hK K hHeld; have hHeld := hHeldn; clear hHeldn hb7
              try simp only [Act.put, List.setIfInBounds_toArray, List.set_cons_zero, List.set_cons_succ]
              refine a1 9 rfl (fun K hK => ?_)
              go_simp
              refine (rnumber15_own xs (by omega) _).mono ?_; rintro e9 w4 ⟨a4, c4, rfl, ho4, hl4, hb4⟩; have HC := Lib.hid hl4.ls; have HPC := Lib.hid (own_below HP7.out hb4)
              go_wp2_with fail
              refine hK.out _ _ (step_below hHeld hb4) (fun hHeldn => ?_)
              clear hK K hHeld; have hHeld := hHeldn; clear hHeldn
              clear ho4 hl4 hb4
              try simp only [Act.put, List.setIfInBounds_toArray, List.set_cons_zero, List.set_cons_succ]
              refine a1 10 rfl (fun K hK => ?_)
              refine step_append_ls eltB rfl _ _ rfl W1.heap.size W1 hHeld _ (p2 + (numW xe).length) (iv .u8 (P2 ++ numW xe)) rfl HPC.out _ _ ((numW xs).length) (numW xs) rfl rfl HC.out (by omega) hHeld.size ?_
              intro v8 X8 ho8 hb8 hg8
              rw [← iv_append] at ho8
              have HP8 := Lib.hid ho8
              clear ho8 hg8
              refine hK.out _ _ hb8 (fun hHeldn => ?_)
              clear hK K hHeld; have hHeld := hHeldn; clear hHeldn hb8
              try simp only [Act.put, List.setIfInBounds_toArray, List.set_cons_zero, List.set_cons_succ]
              refine tp 11 ?_ rfl (.inl ⟨by rfl, ?_⟩) ?_
              rotate_left
              · intro W hSw; go_simp; try with_reducible rfl
              refine wpAnyH_done (by kernel_rfl) ?_ _
              skip
              refine hKK _ _ ?_
              have HBQ := Lib.hid hHeld
              have hq := HP8.out
              rw [← HES.out] at hq
              rw [show p2 + (numW xe).length + (numW xs).length = (stW i x).length by rw [HES.out, List.length_append, List.length_append, HP2L.out]] at hq
              obtain ⟨aq, cq, hvq, hlq, _⟩ := own_ls hq rfl
              subst hvq
              have HLQ := Lib.hid hlq
              clear hKK hHeld HA HC HPA HPB HPC HP7 HP8 hq hlq FQ k4 k5
              obtain ⟨WQ, hWQ⟩ : ∃ WQ, X8 = WQ := ⟨_, rfl⟩
              rw [hWQ] at HBQ HLQ ⊢
              clear hWQ
              have HPQ := Lib.hid (own_below HP1.out HBQ.out)
              have HBQ2 := Lib.hid (step_below HB1.out HBQ.out)
              have hfx := frameL_len (stW i x)
              have hsl2 := HSL.out.2
              have HFR := Lib.hid (rframe_own aq (stW i x) (stW i x).length cq rfl (by omega) HSY.out WQ HLQ.out)
              obtain ⟨X, hX⟩ : ∃ X, frameL (stW i x) = X := ⟨_, rfl⟩
              rw [hX] at HFR hfx HRN
              obtain ⟨xl, hxl⟩ : ∃ xl, X.length = xl := ⟨_, rfl⟩
              have HXL := Lib.hid hxl
              rw [hxl] at hfx
              obtain ⟨RW, hRW⟩ : ∃ RW, rowsW i t.xs l = RW := ⟨_, rfl⟩
              rw [hRW] at hrl HPQ HRN
              obtain ⟨rl, hrl2⟩ : ∃ rl, RW.length = rl := ⟨_, rfl⟩
              have HRL := Lib.hid hrl2
              rw [hrl2] at hrl HPQ
              have hsum : fh + tl + rl + xl ≤ 1048576 := by
                have : 202 * (l + 1) ≤ 202 * m := Nat.mul_le_mul_left _ hlm
                omega
              clear hX hxl hfx hsl2 hRW hrl2 hrl HP1 HB1
              go_wp2_with fail
              refine HFR.out.mono ?_
              rintro r w9 ⟨a9, c9, rfl, ho9, hl9', hb9⟩
              have HL9 := Lib.hid hl9'.ls
              have HP9 := Lib.hid (own_below HPQ.out hb9)
              have HB9 := Lib.hid (step_below HBQ2.out hb9)
              have hs9 := HB9.out.size
              rw [HXL.out]
              clear ho9 hl9' hb9 HFR
              go_wp2_with (at_builtin; refine append_ls eltB rfl (.tmp 84) (.tmp 86) rfl WB.heap.size _ (fh + tl + rl) (iv .u8 (FH ++ TW ++ RW)) rfl HP9.out _ _ xl X HXL.out rfl HL9.out hsum hs9 ?_; intro v2 w10 hown2 hgrow2; rw [← iv_append, List.append_assoc (FH ++ TW), ← HRN.out] at hown2; have HP10 := Lib.hid hown2; have HB10 := Lib.hid (HB9.out.grown hgrow2 hs9 (fun j hj => (HP9.out.lt j hj).1)); clear hown2 hgrow2)
              go_roundw
              case rel => exact ⟨l + 1, by omega, by go_num, by rw [HRN.out, List.length_append, HRL.out, HXL.out, ← Nat.add_assoc, ← HRN.out]; exact HP10, HB10⟩
              case measure => simp [intOf]; omega
            · obtain rfl : l = m := by omega
              have d2 : ¬ (l : Int) < (l : Int) := by omega
              have HP2 := Lib.hid (show wr.ownsRow WB.heap.size 5 1 _ (fh + (tabsW ts (i + 1)).length) (iv .u8 (FH ++ tabsW ts (i + 1))) by rw [HT.out.1, List.length_append, HTW.out, ← Nat.add_assoc, ← List.append_assoc]; exact HP.out)
              go_wp2_with fail
              go_roundw
              case rel => exact ⟨i + 1, by omega, by go_num, HP2, HBV⟩
              case measure => simp [intOf]; omega
        · obtain rfl : i = k := by omega
          have d2 : ¬ (i : Int) < (i : Int) := by omega
          have hl9 : fh + (tabsW ts i).length = (ckW e ts).length := by rw [HCKW.out, List.length_append, HFH.out]
          have ho9 := HO.out
          rw [hl9, ← HCKW.out] at ho9
          obtain ⟨a9, c9, hv9⟩ := own_form ho9
          subst hv9
          have HO9 := Lib.hid (own_base (b := w.heap.size) HB0.out.size ho9)
          have HBZ := Lib.hid (step_below HB0.out HBW.out)
          clear hl9 ho9
          go_wp2_with fail
          go_ret
          exact OwnB.mk HO9.out rfl HBZ.out
end Go.Proofs.YtglkndoghnblcaaGreatDoor
namespace Go.Proofs.YtglkndoghnblcaaGreatDoor
open Go.ChangeShapes Go.WideShapes Go.ChangeAt Go.RowKit
set_option linter.unusedVariables false
set_option linter.unusedSimpArgs false
theorem take_same {α : Type} {A B : List α} {k : Nat} {x y : α} (hx : A[k]? = some x) (hy : B[k]? = some y) (h : A.take k = B.take k) : (A.take (k + 1) = B.take (k + 1)) ↔ x = y := by
  rw [List.take_add_one, List.take_add_one, hx, hy, h]
  simp
theorem differ {α : Type} {A B : List α} {k : Nat} {x y : α} (hx : A[k]? = some x) (hy : B[k]? = some y) (h : x ≠ y) : A ≠ B := fun e => by
  rw [e, hy] at hx
  exact h (Option.some.inj hx).symm
set_option maxRecDepth 100000 in
set_option maxHeartbeats 2000000 in
/-- The document's Same (91). -/
theorem rsame_law (a b : Option Addr) (A B : List P1) (n m ca cb : Nat) (hn : A.length = n) (hm : B.length = m) (hn2 : n ≤ 1000000) (hm2 : m ≤ 1000000) (hA : ∀ p ∈ A, Byt p.bs) (hB : ∀ p ∈ B, Byt p.bs) (w : World) (hRA : RdR w a A) (hRB : RdR w b B) :
    Calls Tryz.prog 127 #[.slice a n ca, .slice b m cb] w fun r w' => r = .returned (.bool (decide (A.map P1.bs = B.map P1.bs))) ∧ Below w.heap.size w w' := by
  have HR := Lib.hid (And.intro hRA hRB)
  have HN := Lib.hid (And.intro hn hm)
  have HY := Lib.hid (And.intro hA hB)
  clear hn hm hA hB hRA hRB
  go_enter Tryz.func127, Tryz.ntmps127
  by_cases hl : n = m
  · subst hl
    have e0 : ((n : Int) != (n : Int)) = false := by simp
    go_wp2_with fail
    go_loopw [5] (fun j wr => ∃ k : Nat, k ≤ n ∧ j = .int .i64 (k : Int) ∧ Hid ((A.map P1.bs).take k = (B.map P1.bs).take k) ∧ Hid (Below w.heap.size w wr)) (fun j _ => n - (intOf j).toNat)
    case atStart => exact ⟨0, Nat.zero_le _, rfl, Lib.hid (by simp), Lib.hid (Below.refl _ _)⟩
    case round =>
      obtain ⟨k, hk, rfl, HS, HBW⟩ := hrel
      by_cases hlt : k < n
      · have dl : (k : Int) < (n : Int) := by omega
        obtain ⟨x, hx⟩ : ∃ x, A[k]? = some x := ⟨_, List.getElem?_eq_getElem (by rw [HN.out.1]; exact hlt)⟩
        obtain ⟨y, hy⟩ : ∃ y, B[k]? = some y := ⟨_, List.getElem?_eq_getElem (by rw [HN.out.2]; exact hlt)⟩
        obtain ⟨b1, o1, rfl, c1, l1⟩ := (HR.out.1.below HBW.out) k x hx
        obtain ⟨b2, o2, rfl, c2, l2⟩ := (HR.out.2.below HBW.out) k y hy
        have HLX := Lib.hid (And.intro l1 l2)
        have FQ := Lib.hid (fun X (b : Below wr.heap.size wr X) => (⟨(b.cell (cell_lt c1)).trans c1, (b.cell (cell_lt c2)).trans c2⟩ : X.cell? ⟨b1, o1 + k, none⟩ = some (.slice x.ad x.bs.length x.cap) ∧ X.cell? ⟨b2, o2 + k, none⟩ = some (.slice y.ad y.bs.length y.cap)))
        have HXY := Lib.hid (show (A.map P1.bs)[k]? = some x.bs ∧ (B.map P1.bs)[k]? = some y.bs by rw [List.getElem?_map, List.getElem?_map, hx, hy]; exact ⟨rfl, rfl⟩)
        have hse := str_eq (HY.out.1 x (List.mem_of_getElem? hx)) (HY.out.2 y (List.mem_of_getElem? hy))
        have HSE := Lib.hid hse
        clear hx hy c1 c2 l1 l2 hse
        go_upto_region 6 with (fail)
        rename_i KK hKK
        refine Code.wp_mono (Q := Exit.then KK (fun _ _ _ => False)) (fun e a' w' h => by cases e <;> first | exact h | exact h.elim) ?_
        refine wp_region_held_drew (S := (fun X => Below wr.heap.size wr X)) (by kernel_rfl) ((Below.refl _ _).drew) (fun hHeld => ?_)
        refine tp 0 ?_ rfl (.inl ⟨by rfl, ?_⟩) ?_
        rotate_left
        · intro W hSw; go_simp; try with_reducible rfl
        refine tp 1 ?_ rfl (.inl ⟨by rfl, ?_⟩) ?_
        rotate_left
        · intro W hSw; go_simp; try with_reducible rfl
        refine tp 2 ?_ rfl (.inl ⟨by rfl, ?_⟩) ?_
        rotate_left
        · intro W hSw; go_simp; try with_reducible rfl
        refine tp 3 ?_ rfl (.inl ⟨by rfl, ?_⟩) ?_
        rotate_left
        · intro W hSw; obtain ⟨z0, z1⟩ := FQ.out W hSw; go_simp; try with_reducible rfl
        refine tp 4 ?_ rfl (.inl ⟨by rfl, ?_⟩) ?_
        rotate_left
        · intro W hSw; have hcv := conv_ls W x.ad x.bs.length x.cap x.bs rfl (HLX.out.1.below hSw).rd; go_simp; try with_reducible rfl
        refine tp 5 ?_ rfl (.inl ⟨by rfl, ?_⟩) ?_
        rotate_left
        · intro W hSw; go_simp; try with_reducible rfl
        refine tp 6 ?_ rfl (.inl ⟨by rfl, ?_⟩) ?_
        rotate_left
        · intro W hSw; go_simp; try with_reducible rfl
        refine tp 7 ?_ rfl (.inl ⟨by rfl, ?_⟩) ?_
        rotate_left
        · intro W hSw; go_simp; try with_reducible rfl
        refine tp 8 ?_ rfl (.inl ⟨by rfl, ?_⟩) ?_
        rotate_left
        · intro W hSw; obtain ⟨z0, z1⟩ := FQ.out W hSw; go_simp; try with_reducible rfl
        refine tp 9 ?_ rfl (.inl ⟨by rfl, ?_⟩) ?_
        rotate_left
        · intro W hSw; have hcv := conv_ls W y.ad y.bs.length y.cap y.bs rfl (HLX.out.2.below hSw).rd; go_simp; try with_reducible rfl
        refine tp 10 ?_ rfl (.inl ⟨by rfl, ?_⟩) ?_
        rotate_left
        · intro W hSw; go_simp; try with_reducible rfl
        refine wpAnyH_done (by kernel_rfl) ?_ _
        skip
        refine hKK _ _ ?_
        have HBN := Lib.hid (step_below HBW.out hHeld)
        rw [HSE.out]
        clear hKK hHeld FQ HLX
        by_cases hxy : x.bs = y.bs
        · have hd : decide (x.bs = y.bs) = true := decide_eq_true hxy
          rw [hd]
          have HNX := Lib.hid ((take_same HXY.out.1 HXY.out.2 HS.out).2 hxy)
          go_wp2_with fail
          go_roundw
          case rel => exact ⟨k + 1, by omega, by go_num, HNX, HBN⟩
          case measure => simp [intOf]; omega
        · have hd : decide (x.bs = y.bs) = false := decide_eq_false hxy
          rw [hd]
          have HD := Lib.hid (differ HXY.out.1 HXY.out.2 hxy)
          go_wp2_with fail
          go_ret
          exact ⟨by rw [decide_eq_false HD.out]; rfl, HBN.out⟩
      · obtain rfl : k = n := by omega
        have dl : ¬ (k : Int) < (k : Int) := by omega
        have HE := Lib.hid (show A.map P1.bs = B.map P1.bs by have := HS.out; rwa [List.take_of_length_le (by rw [List.length_map, HN.out.1]; omega), List.take_of_length_le (by rw [List.length_map, HN.out.2]; omega)] at this)
        go_wp2_with fail
        go_ret
        exact ⟨by rw [decide_eq_true HE.out]; rfl, HBW.out⟩
  · have e0 : ((n : Int) != (m : Int)) = true := by simp; omega
    have e1 : ((n : Int) == (m : Int)) = false := by rw [beq_eq_false_iff_ne]; omega
    have HD := Lib.hid (show A.map P1.bs ≠ B.map P1.bs from fun e => hl (by have := congrArg List.length e; rw [List.length_map, List.length_map, HN.out.1, HN.out.2] at this; exact this))
    go_wp2_with fail
    go_ret
    exact ⟨by rw [decide_eq_false HD.out]; rfl, Below.refl _ _⟩
end Go.Proofs.YtglkndoghnblcaaGreatDoor
namespace Go.Proofs.YtglkndoghnblcaaGreatDoor
open Go.ChangeShapes Go.WideShapes Go.ChangeAt Go.RowKit
set_option linter.unusedVariables false
set_option linter.unusedSimpArgs false
abbrev W3c := Int × List Int × List (List Int)
def wtC (x : WtP) : W3c := (x.tab, x.key, x.R.map P1.bs)
set_option maxRecDepth 100000 in
set_option maxHeartbeats 2000000 in
/-- The document's SameWrites (62). -/
theorem swrites_law (a b : Option Addr) (A B : List WtP) (n m ca cb : Nat) (hn : A.length = n) (hm : B.length = m) (hn2 : n ≤ 1000000) (hm2 : m ≤ 1000000) (hA : ∀ p ∈ A, p.R.length ≤ 1000000) (hB : ∀ p ∈ B, p.R.length ≤ 1000000) (w : World) (hRA : WtsR w a A) (hRB : WtsR w b B) :
    Calls Tryz.prog 84 #[.slice a n ca, .slice b m cb] w fun r w' => r = .returned (.bool (decide (A.map wtC = B.map wtC))) ∧ Below w.heap.size w w' := by
  have HR := Lib.hid (And.intro hRA hRB)
  have HN := Lib.hid (And.intro hn hm)
  have HRL := Lib.hid (And.intro hA hB)
  clear hn hm hA hB hRA hRB
  go_enter Tryz.func84, Tryz.ntmps84
  by_cases hl : n = m
  · subst hl
    have e0 : ((n : Int) != (n : Int)) = false := by simp
    go_wp2_with fail
    go_loopw [5] (fun j wr => ∃ k : Nat, k ≤ n ∧ j = .int .i64 (k : Int) ∧ Hid ((A.map wtC).take k = (B.map wtC).take k) ∧ Hid (Below w.heap.size w wr)) (fun j _ => n - (intOf j).toNat)
    case atStart => exact ⟨0, Nat.zero_le _, rfl, Lib.hid (by simp), Lib.hid (Below.refl _ _)⟩
    case round =>
      obtain ⟨k, hk, rfl, HS, HBW⟩ := hrel
      by_cases hlt : k < n
      · have dl : (k : Int) < (n : Int) := by omega
        obtain ⟨x, hx⟩ : ∃ x, A[k]? = some x := ⟨_, List.getElem?_eq_getElem (by rw [HN.out.1]; exact hlt)⟩
        obtain ⟨y, hy⟩ : ∃ y, B[k]? = some y := ⟨_, List.getElem?_eq_getElem (by rw [HN.out.2]; exact hlt)⟩
        obtain ⟨b1, o1, rfl, c1, c2, c3, l1⟩ := (HR.out.1.below HBW.out) k x hx
        obtain ⟨b2, o2, rfl, c4, c5, c6, l2⟩ := (HR.out.2.below HBW.out) k y hy
        have HLX := Lib.hid (And.intro l1 l2)
        have FQ := Lib.hid (fun X (b : Below wr.heap.size wr X) => (⟨(b.cell (cell_lt c1)).trans c1, (b.cell (cell_lt c2)).trans c2, (b.cell (cell_lt c3)).trans c3, (b.cell (cell_lt c4)).trans c4, (b.cell (cell_lt c5)).trans c5, (b.cell (cell_lt c6)).trans c6⟩ : X.cell? ⟨b1, o1 + k * 3, none⟩ = some (.int .i64 x.tab) ∧ X.cell? ⟨b1, o1 + k * 3 + 1, none⟩ = some (.slice x.ka x.key.length x.kc) ∧ X.cell? ⟨b1, o1 + k * 3 + 2, none⟩ = some (.slice x.ra x.R.length x.rc) ∧ X.cell? ⟨b2, o2 + k * 3, none⟩ = some (.int .i64 y.tab) ∧ X.cell? ⟨b2, o2 + k * 3 + 1, none⟩ = some (.slice y.ka y.key.length y.kc) ∧ X.cell? ⟨b2, o2 + k * 3 + 2, none⟩ = some (.slice y.ra y.R.length y.rc)))
        have HXY := Lib.hid (show (A.map wtC)[k]? = some (wtC x) ∧ (B.map wtC)[k]? = some (wtC y) by rw [List.getElem?_map, List.getElem?_map, hx, hy]; exact ⟨rfl, rfl⟩)
        have HSM := Lib.hid (fun W (b : Below wr.heap.size wr W) => rsame_law x.ra y.ra x.R y.R x.R.length y.R.length x.rc y.rc rfl rfl (HRL.out.1 x (List.mem_of_getElem? hx)) (HRL.out.2 y (List.mem_of_getElem? hy)) l1.rb l2.rb W (l1.row.below b) (l2.row.below b))
        have hse := str_eq l1.kb l2.kb
        obtain ⟨kb, hkb⟩ : ∃ kb, decide (x.key = y.key) = kb := ⟨_, rfl⟩
        obtain ⟨rb, hrb⟩ : ∃ rb, decide (x.R.map P1.bs = y.R.map P1.bs) = rb := ⟨_, rfl⟩
        rw [hkb] at hse
        rw [hrb] at HSM
        have HSE := Lib.hid hse
        have HKB := Lib.hid (And.intro hkb hrb)
        clear hx hy c1 c2 c3 c4 c5 c6 l1 l2 hse hkb hrb
        go_upto_region 6 with (fail)
        rename_i KK hKK
        by_cases hxt : x.tab = y.tab
        · cases kb with
          | false =>
            refine Code.wp_mono (Q := Exit.then KK (fun _ _ _ => False)) (fun e a' w' h => by cases e <;> first | exact h | exact h.elim) ?_
            refine wp_region_held_drew (S := (fun X => Below wr.heap.size wr X)) (by kernel_rfl) ((Below.refl _ _).drew) (fun hHeld => ?_)
            refine tp 0 ?_ rfl (.inl ⟨by rfl, ?_⟩) ?_
            rotate_left
            · intro W hSw; go_simp; try with_reducible rfl
            refine tp 1 ?_ rfl (.inl ⟨by rfl, ?_⟩) ?_
            rotate_left
            · intro W hSw; go_simp; try with_reducible rfl
            refine tp 2 ?_ rfl (.inl ⟨by rfl, ?_⟩) ?_
            rotate_left
            · intro W hSw; go_simp; try with_reducible rfl
            refine tp 3 ?_ rfl (.inl ⟨by rfl, ?_⟩) ?_
            rotate_left
            · intro W hSw; go_simp; try with_reducible rfl
            refine tp 4 ?_ rfl (.inl ⟨by rfl, ?_⟩) ?_
            rotate_left
            · intro W hSw; obtain ⟨z0, z1, z2, z3, z4, z5⟩ := FQ.out W hSw; go_simp; try with_reducible rfl
            refine tp 5 ?_ rfl (.inl ⟨by rfl, ?_⟩) ?_
            rotate_left
            · intro W hSw; go_simp; try with_reducible rfl
            refine tp 6 ?_ rfl (.inl ⟨by rfl, ?_⟩) ?_
            rotate_left
            · intro W hSw; go_simp; try with_reducible rfl
            refine tp 7 ?_ rfl (.inl ⟨by rfl, ?_⟩) ?_
            rotate_left
            · intro W hSw; go_simp; try with_reducible rfl
            refine tp 8 ?_ rfl (.inl ⟨by rfl, ?_⟩) ?_
            rotate_left
            · intro W hSw; go_simp; try with_reducible rfl
            refine tp 9 ?_ rfl (.inl ⟨by rfl, ?_⟩) ?_
            rotate_left
            · intro W hSw; obtain ⟨z0, z1, z2, z3, z4, z5⟩ := FQ.out W hSw; go_simp; try with_reducible rfl
            refine tp 10 (.bool false) rfl (.inl ⟨by rfl, ?_⟩) ?_
            · intro W hSw; go_simp; try simp [hxt]
            refine tp 11 (.bool false) rfl (.inl ⟨by rfl, ?_⟩) ?_
            · intro W hSw; go_simp; try rfl
            refine tp 12 ?_ rfl (.inl ⟨by rfl, ?_⟩) ?_
            rotate_left
            · intro W hSw; go_simp; try with_reducible rfl
            refine tp 13 ?_ rfl (.inl ⟨by rfl, ?_⟩) ?_
            rotate_left
            · intro W hSw; go_simp; try with_reducible rfl
            refine tp 14 ?_ rfl (.inl ⟨by rfl, ?_⟩) ?_
            rotate_left
            · intro W hSw; go_simp; try with_reducible rfl
            refine tp 15 ?_ rfl (.inl ⟨by rfl, ?_⟩) ?_
            rotate_left
            · intro W hSw; go_simp; try with_reducible rfl
            refine tp 16 ?_ rfl (.inl ⟨by rfl, ?_⟩) ?_
            rotate_left
            · intro W hSw; obtain ⟨z0, z1, z2, z3, z4, z5⟩ := FQ.out W hSw; go_simp; try with_reducible rfl
            refine tp 17 ?_ rfl (.inl ⟨by rfl, ?_⟩) ?_
            rotate_left
            · intro W hSw; have hcv := conv_ls W x.ka x.key.length x.kc x.key rfl (HLX.out.1.ls.below hSw).rd; go_simp; try with_reducible rfl
            refine tp 18 ?_ rfl (.inl ⟨by rfl, ?_⟩) ?_
            rotate_left
            · intro W hSw; go_simp; try with_reducible rfl
            refine tp 19 ?_ rfl (.inl ⟨by rfl, ?_⟩) ?_
            rotate_left
            · intro W hSw; go_simp; try with_reducible rfl
            refine tp 20 ?_ rfl (.inl ⟨by rfl, ?_⟩) ?_
            rotate_left
            · intro W hSw; go_simp; try with_reducible rfl
            refine tp 21 ?_ rfl (.inl ⟨by rfl, ?_⟩) ?_
            rotate_left
            · intro W hSw; go_simp; try with_reducible rfl
            refine tp 22 ?_ rfl (.inl ⟨by rfl, ?_⟩) ?_
            rotate_left
            · intro W hSw; obtain ⟨z0, z1, z2, z3, z4, z5⟩ := FQ.out W hSw; go_simp; try with_reducible rfl
            refine tp 23 ?_ rfl (.inl ⟨by rfl, ?_⟩) ?_
            rotate_left
            · intro W hSw; have hcv := conv_ls W y.ka y.key.length y.kc y.key rfl (HLX.out.2.ls.below hSw).rd; go_simp; try with_reducible rfl
            refine tp 24 (.bool true) rfl (.inl ⟨by rfl, ?_⟩) ?_
            · intro W hSw; go_simp; try (have h9 := HSE.out; simp at h9; simp [h9])
            refine tp 25 ?_ rfl (.inl ⟨by rfl, ?_⟩) ?_
            rotate_left
            · intro W hSw; go_simp; try with_reducible rfl
            refine tp 26 (.bool true) rfl (.inl ⟨by rfl, ?_⟩) ?_
            · intro W hSw; go_simp; try rfl
            refine tn 27 rfl ?_
            refine tn 28 rfl ?_
            refine tn 29 rfl ?_
            refine tn 30 rfl ?_
            refine tn 31 rfl ?_
            refine tn 32 rfl ?_
            refine tn 33 rfl ?_
            refine tn 34 rfl ?_
            refine tn 35 rfl ?_
            refine tn 36 rfl ?_
            refine tn 37 rfl ?_
            refine tn 38 rfl ?_
            refine tp 39 ?_ rfl (.inl ⟨by rfl, ?_⟩) ?_
            rotate_left
            · intro W hSw; go_simp; try with_reducible rfl
            refine wpAnyH_done (by kernel_rfl) ?_ _
            skip
            refine hKK _ _ ?_
            have HBN := Lib.hid (step_below HBW.out hHeld)
            have HD := Lib.hid (differ HXY.out.1 HXY.out.2 (fun e => (of_decide_eq_false HKB.out.1) (congrArg (fun z => z.2.1) e)))
            clear hKK hHeld FQ HLX
            go_wp2_with fail
            go_ret
            exact ⟨by rw [decide_eq_false HD.out]; rfl, HBN.out⟩
          | true =>
            refine Code.wp_mono (Q := Exit.then KK (fun _ _ _ => False)) (fun e a' w' h => by cases e <;> first | exact h | exact h.elim) ?_
            refine wp_region_held_drew (S := (fun X => Below wr.heap.size wr X)) (by kernel_rfl) ((Below.refl _ _).drew) (fun hHeld => ?_)
            refine tp 0 ?_ rfl (.inl ⟨by rfl, ?_⟩) ?_
            rotate_left
            · intro W hSw; go_simp; try with_reducible rfl
            refine tp 1 ?_ rfl (.inl ⟨by rfl, ?_⟩) ?_
            rotate_left
            · intro W hSw; go_simp; try with_reducible rfl
            refine tp 2 ?_ rfl (.inl ⟨by rfl, ?_⟩) ?_
            rotate_left
            · intro W hSw; go_simp; try with_reducible rfl
            refine tp 3 ?_ rfl (.inl ⟨by rfl, ?_⟩) ?_
            rotate_left
            · intro W hSw; go_simp; try with_reducible rfl
            refine tp 4 ?_ rfl (.inl ⟨by rfl, ?_⟩) ?_
            rotate_left
            · intro W hSw; obtain ⟨z0, z1, z2, z3, z4, z5⟩ := FQ.out W hSw; go_simp; try with_reducible rfl
            refine tp 5 ?_ rfl (.inl ⟨by rfl, ?_⟩) ?_
            rotate_left
            · intro W hSw; go_simp; try with_reducible rfl
            refine tp 6 ?_ rfl (.inl ⟨by rfl, ?_⟩) ?_
            rotate_left
            · intro W hSw; go_simp; try with_reducible rfl
            refine tp 7 ?_ rfl (.inl ⟨by rfl, ?_⟩) ?_
            rotate_left
            · intro W hSw; go_simp; try with_reducible rfl
            refine tp 8 ?_ rfl (.inl ⟨by rfl, ?_⟩) ?_
            rotate_left
            · intro W hSw; go_simp; try with_reducible rfl
            refine tp 9 ?_ rfl (.inl ⟨by rfl, ?_⟩) ?_
            rotate_left
            · intro W hSw; obtain ⟨z0, z1, z2, z3, z4, z5⟩ := FQ.out W hSw; go_simp; try with_reducible rfl
            refine tp 10 (.bool false) rfl (.inl ⟨by rfl, ?_⟩) ?_
            · intro W hSw; go_simp; try simp [hxt]
            refine tp 11 (.bool false) rfl (.inl ⟨by rfl, ?_⟩) ?_
            · intro W hSw; go_simp; try rfl
            refine tp 12 ?_ rfl (.inl ⟨by rfl, ?_⟩) ?_
            rotate_left
            · intro W hSw; go_simp; try with_reducible rfl
            refine tp 13 ?_ rfl (.inl ⟨by rfl, ?_⟩) ?_
            rotate_left
            · intro W hSw; go_simp; try with_reducible rfl
            refine tp 14 ?_ rfl (.inl ⟨by rfl, ?_⟩) ?_
            rotate_left
            · intro W hSw; go_simp; try with_reducible rfl
            refine tp 15 ?_ rfl (.inl ⟨by rfl, ?_⟩) ?_
            rotate_left
            · intro W hSw; go_simp; try with_reducible rfl
            refine tp 16 ?_ rfl (.inl ⟨by rfl, ?_⟩) ?_
            rotate_left
            · intro W hSw; obtain ⟨z0, z1, z2, z3, z4, z5⟩ := FQ.out W hSw; go_simp; try with_reducible rfl
            refine tp 17 ?_ rfl (.inl ⟨by rfl, ?_⟩) ?_
            rotate_left
            · intro W hSw; have hcv := conv_ls W x.ka x.key.length x.kc x.key rfl (HLX.out.1.ls.below hSw).rd; go_simp; try with_reducible rfl
            refine tp 18 ?_ rfl (.inl ⟨by rfl, ?_⟩) ?_
            rotate_left
            · intro W hSw; go_simp; try with_reducible rfl
            refine tp 19 ?_ rfl (.inl ⟨by rfl, ?_⟩) ?_
            rotate_left
            · intro W hSw; go_simp; try with_reducible rfl
            refine tp 20 ?_ rfl (.inl ⟨by rfl, ?_⟩) ?_
            rotate_left
            · intro W hSw; go_simp; try with_reducible rfl
            refine tp 21 ?_ rfl (.inl ⟨by rfl, ?_⟩) ?_
            rotate_left
            · intro W hSw; go_simp; try with_reducible rfl
            refine tp 22 ?_ rfl (.inl ⟨by rfl, ?_⟩) ?_
            rotate_left
            · intro W hSw; obtain ⟨z0, z1, z2, z3, z4, z5⟩ := FQ.out W hSw; go_simp; try with_reducible rfl
            refine tp 23 ?_ rfl (.inl ⟨by rfl, ?_⟩) ?_
            rotate_left
            · intro W hSw; have hcv := conv_ls W y.ka y.key.length y.kc y.key rfl (HLX.out.2.ls.below hSw).rd; go_simp; try with_reducible rfl
            refine tp 24 (.bool false) rfl (.inl ⟨by rfl, ?_⟩) ?_
            · intro W hSw; go_simp; try (have h9 := HSE.out; simp at h9; simp [h9])
            refine tp 25 ?_ rfl (.inl ⟨by rfl, ?_⟩) ?_
            rotate_left
            · intro W hSw; go_simp; try with_reducible rfl
            refine tp 26 (.bool false) rfl (.inl ⟨by rfl, ?_⟩) ?_
            · intro W hSw; go_simp; try rfl
            refine tp 27 ?_ rfl (.inl ⟨by rfl, ?_⟩) ?_
            rotate_left
            · intro W hSw; go_simp; try with_reducible rfl
            refine tp 28 ?_ rfl (.inl ⟨by rfl, ?_⟩) ?_
            rotate_left
            · intro W hSw; go_simp; try with_reducible rfl
            refine tp 29 ?_ rfl (.inl ⟨by rfl, ?_⟩) ?_
            rotate_left
            · intro W hSw; go_simp; try with_reducible rfl
            refine tp 30 ?_ rfl (.inl ⟨by rfl, ?_⟩) ?_
            rotate_left
            · intro W hSw; go_simp; try with_reducible rfl
            refine tp 31 ?_ rfl (.inl ⟨by rfl, ?_⟩) ?_
            rotate_left
            · intro W hSw; obtain ⟨z0, z1, z2, z3, z4, z5⟩ := FQ.out W hSw; go_simp; try with_reducible rfl
            refine tp 32 ?_ rfl (.inl ⟨by rfl, ?_⟩) ?_
            rotate_left
            · intro W hSw; go_simp; try with_reducible rfl
            refine tp 33 ?_ rfl (.inl ⟨by rfl, ?_⟩) ?_
            rotate_left
            · intro W hSw; go_simp; try with_reducible rfl
            refine tp 34 ?_ rfl (.inl ⟨by rfl, ?_⟩) ?_
            rotate_left
            · intro W hSw; go_simp; try with_reducible rfl
            refine tp 35 ?_ rfl (.inl ⟨by rfl, ?_⟩) ?_
            rotate_left
            · intro W hSw; go_simp; try with_reducible rfl
            refine tp 36 ?_ rfl (.inl ⟨by rfl, ?_⟩) ?_
            rotate_left
            · intro W hSw; obtain ⟨z0, z1, z2, z3, z4, z5⟩ := FQ.out W hSw; go_simp; try with_reducible rfl
            refine a1 37 rfl (fun K hK => ?_)
            go_simp
            refine (HSM.out _ hHeld).mono ?_; rintro e9 w3 ⟨rfl, hb3⟩
            go_wp2_with fail
            refine hK.out _ _ (step_below hHeld hb3) (fun hHeldn => ?_)
            clear hK K hHeld; have hHeld := hHeldn; clear hHeldn
            try simp only [Act.put, List.setIfInBounds_toArray, List.set_cons_zero, List.set_cons_succ]
            refine tp 38 ?_ rfl (.inl ⟨by rfl, ?_⟩) ?_
            rotate_left
            · intro W hSw; go_simp; try with_reducible rfl
            refine tp 39 ?_ rfl (.inl ⟨by rfl, ?_⟩) ?_
            rotate_left
            · intro W hSw; go_simp; try with_reducible rfl
            refine wpAnyH_done (by kernel_rfl) ?_ _
            skip
            refine hKK _ _ ?_
            have HBN := Lib.hid (step_below HBW.out hHeld)
            clear hKK hHeld FQ HLX HSM
            cases rb with
            | false =>
              have HD := Lib.hid (differ HXY.out.1 HXY.out.2 (fun e => (of_decide_eq_false HKB.out.2) (congrArg (fun z => z.2.2) e)))
              go_wp2_with fail
              go_ret
              exact ⟨by rw [decide_eq_false HD.out]; rfl, HBN.out⟩
            | true =>
              have HNX := Lib.hid ((take_same HXY.out.1 HXY.out.2 HS.out).2 (by unfold wtC; rw [hxt, of_decide_eq_true HKB.out.1, of_decide_eq_true HKB.out.2]))
              go_wp2_with fail
              go_roundw
              case rel => exact ⟨k + 1, by omega, by go_num, HNX, HBN⟩
              case measure => simp [intOf]; omega
        · have HD := Lib.hid (differ HXY.out.1 HXY.out.2 (fun e => hxt (congrArg (fun z => z.1) e)))
          refine Code.wp_mono (Q := Exit.then KK (fun _ _ _ => False)) (fun e a' w' h => by cases e <;> first | exact h | exact h.elim) ?_
          refine wp_region_held_drew (S := (fun X => Below wr.heap.size wr X)) (by kernel_rfl) ((Below.refl _ _).drew) (fun hHeld => ?_)
          refine tp 0 ?_ rfl (.inl ⟨by rfl, ?_⟩) ?_
          rotate_left
          · intro W hSw; go_simp; try with_reducible rfl
          refine tp 1 ?_ rfl (.inl ⟨by rfl, ?_⟩) ?_
          rotate_left
          · intro W hSw; go_simp; try with_reducible rfl
          refine tp 2 ?_ rfl (.inl ⟨by rfl, ?_⟩) ?_
          rotate_left
          · intro W hSw; go_simp; try with_reducible rfl
          refine tp 3 ?_ rfl (.inl ⟨by rfl, ?_⟩) ?_
          rotate_left
          · intro W hSw; go_simp; try with_reducible rfl
          refine tp 4 ?_ rfl (.inl ⟨by rfl, ?_⟩) ?_
          rotate_left
          · intro W hSw; obtain ⟨z0, z1, z2, z3, z4, z5⟩ := FQ.out W hSw; go_simp; try with_reducible rfl
          refine tp 5 ?_ rfl (.inl ⟨by rfl, ?_⟩) ?_
          rotate_left
          · intro W hSw; go_simp; try with_reducible rfl
          refine tp 6 ?_ rfl (.inl ⟨by rfl, ?_⟩) ?_
          rotate_left
          · intro W hSw; go_simp; try with_reducible rfl
          refine tp 7 ?_ rfl (.inl ⟨by rfl, ?_⟩) ?_
          rotate_left
          · intro W hSw; go_simp; try with_reducible rfl
          refine tp 8 ?_ rfl (.inl ⟨by rfl, ?_⟩) ?_
          rotate_left
          · intro W hSw; go_simp; try with_reducible rfl
          refine tp 9 ?_ rfl (.inl ⟨by rfl, ?_⟩) ?_
          rotate_left
          · intro W hSw; obtain ⟨z0, z1, z2, z3, z4, z5⟩ := FQ.out W hSw; go_simp; try with_reducible rfl
          refine tp 10 (.bool true) rfl (.inl ⟨by rfl, ?_⟩) ?_
          · intro W hSw; go_simp; try simp [hxt]
          refine tp 11 (.bool true) rfl (.inl ⟨by rfl, ?_⟩) ?_
          · intro W hSw; go_simp; try rfl
          refine tn 12 rfl ?_
          refine tn 13 rfl ?_
          refine tn 14 rfl ?_
          refine tn 15 rfl ?_
          refine tn 16 rfl ?_
          refine tn 17 rfl ?_
          refine tn 18 rfl ?_
          refine tn 19 rfl ?_
          refine tn 20 rfl ?_
          refine tn 21 rfl ?_
          refine tn 22 rfl ?_
          refine tn 23 rfl ?_
          refine tn 24 rfl ?_
          refine tp 25 ?_ rfl (.inl ⟨by rfl, ?_⟩) ?_
          rotate_left
          · intro W hSw; go_simp; try with_reducible rfl
          refine tp 26 (.bool true) rfl (.inl ⟨by rfl, ?_⟩) ?_
          · intro W hSw; go_simp; try rfl
          refine tn 27 rfl ?_
          refine tn 28 rfl ?_
          refine tn 29 rfl ?_
          refine tn 30 rfl ?_
          refine tn 31 rfl ?_
          refine tn 32 rfl ?_
          refine tn 33 rfl ?_
          refine tn 34 rfl ?_
          refine tn 35 rfl ?_
          refine tn 36 rfl ?_
          refine tn 37 rfl ?_
          refine tn 38 rfl ?_
          refine tp 39 ?_ rfl (.inl ⟨by rfl, ?_⟩) ?_
          rotate_left
          · intro W hSw; go_simp; try with_reducible rfl
          refine wpAnyH_done (by kernel_rfl) ?_ _
          skip
          refine hKK _ _ ?_
          have HBN := Lib.hid (step_below HBW.out hHeld)
          clear hKK hHeld FQ HLX
          go_wp2_with fail
          go_ret
          exact ⟨by rw [decide_eq_false HD.out]; rfl, HBN.out⟩
      · obtain rfl : k = n := by omega
        have dl : ¬ (k : Int) < (k : Int) := by omega
        have HE := Lib.hid (show A.map wtC = B.map wtC by have := HS.out; rwa [List.take_of_length_le (by rw [List.length_map, HN.out.1]; omega), List.take_of_length_le (by rw [List.length_map, HN.out.2]; omega)] at this)
        go_wp2_with fail
        go_ret
        exact ⟨by rw [decide_eq_true HE.out]; rfl, HBW.out⟩
  · have e0 : ((n : Int) != (m : Int)) = true := by simp; omega
    have e1 : ((n : Int) == (m : Int)) = false := by rw [beq_eq_false_iff_ne]; omega
    have HD := Lib.hid (show A.map wtC ≠ B.map wtC from fun e => hl (by have := congrArg List.length e; rw [List.length_map, List.length_map, HN.out.1, HN.out.2] at this; exact this))
    go_wp2_with fail
    go_ret
    exact ⟨by rw [decide_eq_false HD.out]; rfl, Below.refl _ _⟩
end Go.Proofs.YtglkndoghnblcaaGreatDoor
namespace Go.Proofs.YtglkndoghnblcaaGreatDoor
open Go.ChangeShapes Go.WideShapes Go.ChangeAt Go.RowKit
set_option linter.unusedVariables false
set_option linter.unusedSimpArgs false
/-- A transaction, as it lies. -/
structure TxQ where
  e : Int
  s : Int
  a : Option Addr
  c : Nat
  ws : List WtP
/-- Transactions in a row. -/
def TxqR (W : World) (a : Option Addr) (xs : List TxQ) : Prop := ∀ (k : Nat) (x : TxQ), xs[k]? = some x → ∃ b off, a = some ⟨b, off, none⟩ ∧ W.cell? ⟨b, off + k * 3, none⟩ = some (.int .i64 x.e) ∧ W.cell? ⟨b, off + k * 3 + 1, none⟩ = some (.int .i64 x.s) ∧ W.cell? ⟨b, off + k * 3 + 2, none⟩ = some (.slice x.a x.ws.length x.c) ∧ WtsR W x.a x.ws
theorem TxqR.below {W W' : World} {a : Option Addr} {xs : List TxQ} (h : TxqR W a xs) (hb : Below W.heap.size W W') : TxqR W' a xs := fun k x hx => by
  obtain ⟨b, off, e, c0, c1, c2, ok⟩ := h k x hx
  exact ⟨b, off, e, (hb.cell (cell_lt c0)).trans c0, (hb.cell (cell_lt c1)).trans c1, (hb.cell (cell_lt c2)).trans c2, ok.below hb⟩
abbrev T3c := Int × Int × List W3c
instance decW3c : DecidableEq W3c := instDecidableEqProd
instance decT3c : DecidableEq T3c := instDecidableEqProd
def txC (x : TxQ) : T3c := (x.e, x.s, x.ws.map wtC)
def TxqB (x : TxQ) : Prop := x.ws.length ≤ 1000000 ∧ ∀ p ∈ x.ws, p.R.length ≤ 1000000
set_option maxRecDepth 100000 in
set_option maxHeartbeats 2000000 in
/-- The document's SameTxns (22). -/
theorem stxns_law (a b : Option Addr) (A B : List TxQ) (n m ca cb : Nat) (hn : A.length = n) (hm : B.length = m) (hn2 : n ≤ 1000000) (hm2 : m ≤ 1000000) (hA : ∀ p ∈ A, TxqB p) (hB : ∀ p ∈ B, TxqB p) (w : World) (hRA : TxqR w a A) (hRB : TxqR w b B) :
    Calls Tryz.prog 34 #[.slice a n ca, .slice b m cb] w fun r w' => r = .returned (.bool (decide (A.map txC = B.map txC))) ∧ Below w.heap.size w w' := by
  have HR := Lib.hid (And.intro hRA hRB)
  have HN := Lib.hid (And.intro hn hm)
  have HRL := Lib.hid (And.intro hA hB)
  clear hn hm hA hB hRA hRB
  go_enter Tryz.func34, Tryz.ntmps34
  by_cases hl : n = m
  · subst hl
    have e0 : ((n : Int) != (n : Int)) = false := by simp
    go_wp2_with fail
    go_loopw [5] (fun j wr => ∃ k : Nat, k ≤ n ∧ j = .int .i64 (k : Int) ∧ Hid ((A.map txC).take k = (B.map txC).take k) ∧ Hid (Below w.heap.size w wr)) (fun j _ => n - (intOf j).toNat)
    case atStart => exact ⟨0, Nat.zero_le _, rfl, Lib.hid (by simp), Lib.hid (Below.refl _ _)⟩
    case round =>
      obtain ⟨k, hk, rfl, HS, HBW⟩ := hrel
      by_cases hlt : k < n
      · have dl : (k : Int) < (n : Int) := by omega
        obtain ⟨x, hx⟩ : ∃ x, A[k]? = some x := ⟨_, List.getElem?_eq_getElem (by rw [HN.out.1]; exact hlt)⟩
        obtain ⟨y, hy⟩ : ∃ y, B[k]? = some y := ⟨_, List.getElem?_eq_getElem (by rw [HN.out.2]; exact hlt)⟩
        obtain ⟨b1, o1, rfl, c1, c2, c3, l1⟩ := (HR.out.1.below HBW.out) k x hx
        obtain ⟨b2, o2, rfl, c4, c5, c6, l2⟩ := (HR.out.2.below HBW.out) k y hy
        have FQ := Lib.hid (fun X (b : Below wr.heap.size wr X) => (⟨(b.cell (cell_lt c1)).trans c1, (b.cell (cell_lt c2)).trans c2, (b.cell (cell_lt c3)).trans c3, (b.cell (cell_lt c4)).trans c4, (b.cell (cell_lt c5)).trans c5, (b.cell (cell_lt c6)).trans c6⟩ : X.cell? ⟨b1, o1 + k * 3, none⟩ = some (.int .i64 x.e) ∧ X.cell? ⟨b1, o1 + k * 3 + 1, none⟩ = some (.int .i64 x.s) ∧ X.cell? ⟨b1, o1 + k * 3 + 2, none⟩ = some (.slice x.a x.ws.length x.c) ∧ X.cell? ⟨b2, o2 + k * 3, none⟩ = some (.int .i64 y.e) ∧ X.cell? ⟨b2, o2 + k * 3 + 1, none⟩ = some (.int .i64 y.s) ∧ X.cell? ⟨b2, o2 + k * 3 + 2, none⟩ = some (.slice y.a y.ws.length y.c)))
        have HXY := Lib.hid (show (A.map txC)[k]? = some (txC x) ∧ (B.map txC)[k]? = some (txC y) by rw [List.getElem?_map, List.getElem?_map, hx, hy]; exact ⟨rfl, rfl⟩)
        obtain ⟨p1, p2⟩ := HRL.out.1 x (List.mem_of_getElem? hx)
        obtain ⟨p3, p4⟩ := HRL.out.2 y (List.mem_of_getElem? hy)
        have HSM := Lib.hid (fun W (b : Below wr.heap.size wr W) => swrites_law x.a y.a x.ws y.ws x.ws.length y.ws.length x.c y.c rfl rfl p1 p3 p2 p4 W (l1.below b) (l2.below b))
        obtain ⟨rb, hrb⟩ : ∃ rb, decide (x.ws.map wtC = y.ws.map wtC) = rb := ⟨_, rfl⟩
        rw [hrb] at HSM
        have HKB := Lib.hid hrb
        clear hx hy c1 c2 c3 c4 c5 c6 l1 l2 hrb p1 p2 p3 p4
        go_upto_region 6 with (fail)
        rename_i KK hKK
        by_cases hxt : x.e = y.e ∧ x.s = y.s
        · refine Code.wp_mono (Q := Exit.then KK (fun _ _ _ => False)) (fun e a' w' h => by cases e <;> first | exact h | exact h.elim) ?_
          refine wp_region_held_drew (S := (fun X => Below wr.heap.size wr X)) (by kernel_rfl) ((Below.refl _ _).drew) (fun hHeld => ?_)
          refine tp 0 ?_ rfl (.inl ⟨by rfl, ?_⟩) ?_
          rotate_left
          · intro W hSw; go_simp; try with_reducible rfl
          refine tp 1 ?_ rfl (.inl ⟨by rfl, ?_⟩) ?_
          rotate_left
          · intro W hSw; go_simp; try with_reducible rfl
          refine tp 2 ?_ rfl (.inl ⟨by rfl, ?_⟩) ?_
          rotate_left
          · intro W hSw; go_simp; try with_reducible rfl
          refine tp 3 ?_ rfl (.inl ⟨by rfl, ?_⟩) ?_
          rotate_left
          · intro W hSw; go_simp; try with_reducible rfl
          refine tp 4 ?_ rfl (.inl ⟨by rfl, ?_⟩) ?_
          rotate_left
          · intro W hSw; obtain ⟨z0, z1, z2, z3, z4, z5⟩ := FQ.out W hSw; go_simp; try with_reducible rfl
          refine tp 5 ?_ rfl (.inl ⟨by rfl, ?_⟩) ?_
          rotate_left
          · intro W hSw; go_simp; try with_reducible rfl
          refine tp 6 ?_ rfl (.inl ⟨by rfl, ?_⟩) ?_
          rotate_left
          · intro W hSw; go_simp; try with_reducible rfl
          refine tp 7 ?_ rfl (.inl ⟨by rfl, ?_⟩) ?_
          rotate_left
          · intro W hSw; go_simp; try with_reducible rfl
          refine tp 8 ?_ rfl (.inl ⟨by rfl, ?_⟩) ?_
          rotate_left
          · intro W hSw; go_simp; try with_reducible rfl
          refine tp 9 ?_ rfl (.inl ⟨by rfl, ?_⟩) ?_
          rotate_left
          · intro W hSw; obtain ⟨z0, z1, z2, z3, z4, z5⟩ := FQ.out W hSw; go_simp; try with_reducible rfl
          refine tp 10 (.bool false) rfl (.inl ⟨by rfl, ?_⟩) ?_
          · intro W hSw; go_simp; try simp [hxt.1, hxt.2, Op.equal, go_sem]
          refine tp 11 (.bool false) rfl (.inl ⟨by rfl, ?_⟩) ?_
          · intro W hSw; go_simp; try rfl
          refine tp 12 ?_ rfl (.inl ⟨by rfl, ?_⟩) ?_
          rotate_left
          · intro W hSw; go_simp; try with_reducible rfl
          refine tp 13 ?_ rfl (.inl ⟨by rfl, ?_⟩) ?_
          rotate_left
          · intro W hSw; go_simp; try with_reducible rfl
          refine tp 14 ?_ rfl (.inl ⟨by rfl, ?_⟩) ?_
          rotate_left
          · intro W hSw; go_simp; try with_reducible rfl
          refine tp 15 ?_ rfl (.inl ⟨by rfl, ?_⟩) ?_
          rotate_left
          · intro W hSw; go_simp; try with_reducible rfl
          refine tp 16 ?_ rfl (.inl ⟨by rfl, ?_⟩) ?_
          rotate_left
          · intro W hSw; obtain ⟨z0, z1, z2, z3, z4, z5⟩ := FQ.out W hSw; go_simp; try with_reducible rfl
          refine tp 17 ?_ rfl (.inl ⟨by rfl, ?_⟩) ?_
          rotate_left
          · intro W hSw; go_simp; try with_reducible rfl
          refine tp 18 ?_ rfl (.inl ⟨by rfl, ?_⟩) ?_
          rotate_left
          · intro W hSw; go_simp; try with_reducible rfl
          refine tp 19 ?_ rfl (.inl ⟨by rfl, ?_⟩) ?_
          rotate_left
          · intro W hSw; go_simp; try with_reducible rfl
          refine tp 20 ?_ rfl (.inl ⟨by rfl, ?_⟩) ?_
          rotate_left
          · intro W hSw; go_simp; try with_reducible rfl
          refine tp 21 ?_ rfl (.inl ⟨by rfl, ?_⟩) ?_
          rotate_left
          · intro W hSw; obtain ⟨z0, z1, z2, z3, z4, z5⟩ := FQ.out W hSw; go_simp; try with_reducible rfl
          refine a1 22 rfl (fun K hK => ?_)
          go_simp
          refine (HSM.out _ hHeld).mono ?_; rintro e9 w3 ⟨rfl, hb3⟩
          go_wp2_with fail
          refine hK.out _ _ (step_below hHeld hb3) (fun hHeldn => ?_)
          clear hK K hHeld; have hHeld := hHeldn; clear hHeldn
          try simp only [Act.put, List.setIfInBounds_toArray, List.set_cons_zero, List.set_cons_succ]
          refine tp 23 ?_ rfl (.inl ⟨by rfl, ?_⟩) ?_
          rotate_left
          · intro W hSw; go_simp; try with_reducible rfl
          refine tp 24 ?_ rfl (.inl ⟨by rfl, ?_⟩) ?_
          rotate_left
          · intro W hSw; go_simp; try with_reducible rfl
          refine wpAnyH_done (by kernel_rfl) ?_ _
          skip
          refine hKK _ _ ?_
          have HBN := Lib.hid (step_below HBW.out hHeld)
          clear hKK hHeld FQ HSM
          cases rb with
          | false =>
            have HD := Lib.hid (differ HXY.out.1 HXY.out.2 (fun e => (of_decide_eq_false HKB.out) (congrArg (fun z => z.2.2) e)))
            go_wp2_with fail
            go_ret
            exact ⟨by rw [decide_eq_false HD.out]; rfl, HBN.out⟩
          | true =>
            have HNX := Lib.hid ((take_same HXY.out.1 HXY.out.2 HS.out).2 (by unfold txC; rw [hxt.1, hxt.2, of_decide_eq_true HKB.out]))
            go_wp2_with fail
            go_roundw
            case rel => exact ⟨k + 1, by omega, by go_num, HNX, HBN⟩
            case measure => simp [intOf]; omega
        · have HD := Lib.hid (differ HXY.out.1 HXY.out.2 (fun e => hxt ⟨congrArg (fun z => z.1) e, congrArg (fun z => z.2.1) e⟩))
          refine Code.wp_mono (Q := Exit.then KK (fun _ _ _ => False)) (fun e a' w' h => by cases e <;> first | exact h | exact h.elim) ?_
          refine wp_region_held_drew (S := (fun X => Below wr.heap.size wr X)) (by kernel_rfl) ((Below.refl _ _).drew) (fun hHeld => ?_)
          refine tp 0 ?_ rfl (.inl ⟨by rfl, ?_⟩) ?_
          rotate_left
          · intro W hSw; go_simp; try with_reducible rfl
          refine tp 1 ?_ rfl (.inl ⟨by rfl, ?_⟩) ?_
          rotate_left
          · intro W hSw; go_simp; try with_reducible rfl
          refine tp 2 ?_ rfl (.inl ⟨by rfl, ?_⟩) ?_
          rotate_left
          · intro W hSw; go_simp; try with_reducible rfl
          refine tp 3 ?_ rfl (.inl ⟨by rfl, ?_⟩) ?_
          rotate_left
          · intro W hSw; go_simp; try with_reducible rfl
          refine tp 4 ?_ rfl (.inl ⟨by rfl, ?_⟩) ?_
          rotate_left
          · intro W hSw; obtain ⟨z0, z1, z2, z3, z4, z5⟩ := FQ.out W hSw; go_simp; try with_reducible rfl
          refine tp 5 ?_ rfl (.inl ⟨by rfl, ?_⟩) ?_
          rotate_left
          · intro W hSw; go_simp; try with_reducible rfl
          refine tp 6 ?_ rfl (.inl ⟨by rfl, ?_⟩) ?_
          rotate_left
          · intro W hSw; go_simp; try with_reducible rfl
          refine tp 7 ?_ rfl (.inl ⟨by rfl, ?_⟩) ?_
          rotate_left
          · intro W hSw; go_simp; try with_reducible rfl
          refine tp 8 ?_ rfl (.inl ⟨by rfl, ?_⟩) ?_
          rotate_left
          · intro W hSw; go_simp; try with_reducible rfl
          refine tp 9 ?_ rfl (.inl ⟨by rfl, ?_⟩) ?_
          rotate_left
          · intro W hSw; obtain ⟨z0, z1, z2, z3, z4, z5⟩ := FQ.out W hSw; go_simp; try with_reducible rfl
          refine tp 10 (.bool true) rfl (.inl ⟨by rfl, ?_⟩) ?_
          · intro W hSw; go_simp; try (first | exact fun h9 h10 => hxt ⟨h9, h10⟩ | (simp [Op.equal, go_sem]; exact fun h9 h10 => hxt ⟨h9, h10⟩) | (simp; exact fun h9 h10 => hxt ⟨h9, h10⟩))
          refine tp 11 (.bool true) rfl (.inl ⟨by rfl, ?_⟩) ?_
          · intro W hSw; go_simp; try rfl
          refine tn 12 rfl ?_
          refine tn 13 rfl ?_
          refine tn 14 rfl ?_
          refine tn 15 rfl ?_
          refine tn 16 rfl ?_
          refine tn 17 rfl ?_
          refine tn 18 rfl ?_
          refine tn 19 rfl ?_
          refine tn 20 rfl ?_
          refine tn 21 rfl ?_
          refine tn 22 rfl ?_
          refine tn 23 rfl ?_
          refine tp 24 ?_ rfl (.inl ⟨by rfl, ?_⟩) ?_
          rotate_left
          · intro W hSw; go_simp; try with_reducible rfl
          refine wpAnyH_done (by kernel_rfl) ?_ _
          skip
          refine hKK _ _ ?_
          have HBN := Lib.hid (step_below HBW.out hHeld)
          clear hKK hHeld FQ
          go_wp2_with fail
          go_ret
          exact ⟨by rw [decide_eq_false HD.out]; rfl, HBN.out⟩
      · obtain rfl : k = n := by omega
        have dl : ¬ (k : Int) < (k : Int) := by omega
        have HE := Lib.hid (show A.map txC = B.map txC by have := HS.out; rwa [List.take_of_length_le (by rw [List.length_map, HN.out.1]; omega), List.take_of_length_le (by rw [List.length_map, HN.out.2]; omega)] at this)
        go_wp2_with fail
        go_ret
        exact ⟨by rw [decide_eq_true HE.out]; rfl, HBW.out⟩
  · have e0 : ((n : Int) != (m : Int)) = true := by simp; omega
    have e1 : ((n : Int) == (m : Int)) = false := by rw [beq_eq_false_iff_ne]; omega
    have HD := Lib.hid (show A.map txC ≠ B.map txC from fun e => hl (by have := congrArg List.length e; rw [List.length_map, List.length_map, HN.out.1, HN.out.2] at this; exact this))
    go_wp2_with fail
    go_ret
    exact ⟨by rw [decide_eq_false HD.out]; rfl, Below.refl _ _⟩
end Go.Proofs.YtglkndoghnblcaaGreatDoor
namespace Go.Proofs.YtglkndoghnblcaaGreatDoor
open Go.ChangeShapes Go.WideShapes Go.ChangeAt Go.RowKit
set_option linter.unusedVariables false
set_option linter.unusedSimpArgs false
/-- A transaction of one write of the law's. -/
def LtR (w : World) (e s : Int) (st : ByteArray) (r : Ending) (w' : World) : Prop :=
  ∃ g p, r = .returned (.agg #[.int .i64 e, .int .i64 s, .slice (some ⟨g, 0, none⟩) 1 1]) ∧ w'.ownsRow w.heap.size 86 3 (.slice (some ⟨g, 0, none⟩) 1 1) 1 p.cells ∧ WtOk w' p ∧ p.tab = 0 ∧ p.key = byts st ∧ p.R.map P1.bs = [[97]] ∧ Below w.heap.size w w'
theorem cell_oth (W : World) (B o : Nat) (v : Value) (p : Addr) (h : p.block ≠ B) : (W.setCell ⟨B, o, none⟩ v).cell? p = W.cell? p := by
  have h1 := Below.heap_setCell W ⟨B, o, none⟩ v p.block h
  simp only [World.cell?, h1]
theorem Ls.off {K : IntKind} {W : World} {a : Option Addr} {cap B o : Nat} {v : Value} {L : List Int} (h : Ls K W a cap L) (hne : ∀ b, a = some b → b.block ≠ B) : Ls K (W.setCell ⟨B, o, none⟩ v) a cap L :=
  ⟨fun k hk => by
    obtain ⟨b, off, e, hc⟩ := h.rd k hk
    exact ⟨b, off, e, (cell_oth W B o v ⟨b, off + k, none⟩ (hne ⟨b, off, none⟩ e)).trans hc⟩, h.nl, h.le⟩
theorem RdR.off {W : World} {a : Option Addr} {B o : Nat} {v : Value} {R : List P1} (h : RdR W a R) (hne : ∀ b, a = some b → b.block ≠ B) (hall : ∀ p ∈ R, ∀ b, p.ad = some b → b.block ≠ B) : RdR (W.setCell ⟨B, o, none⟩ v) a R := fun k x hx => by
  obtain ⟨b, off, e, hc, hl⟩ := h k x hx
  exact ⟨b, off, e, (cell_oth W B o v ⟨b, off + k, none⟩ (hne ⟨b, off, none⟩ e)).trans hc, hl.off (hall x (List.mem_of_getElem? hx))⟩
theorem own_new3 {w : World} {base : Nat} {cs : Array Value} {ty : TypeId} {n sz : Nat} (hb : base ≤ w.heap.size) (hc : cs.size = n * sz) (hn : n ≤ maxLen) : (w.alloc (.cells cs ty)).ownsRow base ty sz (.slice (some ⟨w.heap.size, 0, none⟩) n n) n cs.toList := by
  refine ⟨by simpa using hc, .inr ⟨w.heap.size, n, cs, rfl, hb, World.alloc_heap_new _ _, Nat.le_refl _, hn, hc, ?_⟩⟩
  rw [List.take_of_length_le (by simp [hc])]
set_option maxRecDepth 100000 in
set_option maxHeartbeats 4000000 in
/-- The law's txn (48). -/
theorem ltxn_law (e s : Int) (st : ByteArray) (w : World) : Calls Tryz.prog 24 #[.int .i64 e, .int .i64 s, .string st] w (LtR w e s st) := by
  have kc := fun (w : World) (C : Array Value) (n c b : Nat) (hb : b = w.heap.size) => (by subst hb; exact Lib.run_convert_bytes_const w 54 5 C n c Tryz.underlying54 Tryz.underlying5 : (convert 54 54 (.slice (some ⟨b, 0, none⟩) n c)).run Tryz.prog (w.alloc (.cells C 5)) = .ok (.slice (some ⟨b, 0, none⟩) n c) (w.alloc (.cells C 5 (C.size, C.size + 1))))
  obtain ⟨W1, hW1⟩ : ∃ W1, w.alloc (.cells #[.int .i64 0, .int .i64 0, .slice none 0 0] 62) = W1 := ⟨_, rfl⟩
  have hs1 : W1.heap.size = w.heap.size + 1 := by rw [← hW1]; simp
  have bx1 : BoxC W1 w.heap.size #[.int .i64 0, .int .i64 0, .slice none 0 0] 62 := by rw [← hW1]; exact BoxC.new _ _ _
  have hb1 : Below w.heap.size w W1 := by rw [← hW1]; exact bl1 _ _
  have cs := conv_str W1 st
  obtain ⟨kq, hkq⟩ : ∃ kq, grownCap W1 st.size 0 5 = kq := ⟨_, rfl⟩
  obtain ⟨W2, hW2⟩ : ∃ W2, Lib.bytesWorld W1 5 st = W2 := ⟨_, rfl⟩
  have hls := str_ls W1 st
  have hbb := bytes_below W1 st
  rw [hkq, hW2, hs1] at hls
  rw [hkq, hW2, hs1] at cs
  rw [hW2] at hbb
  have hs2 : W2.heap.size = w.heap.size + 1 + 1 := by rw [← hW2, Lib.bytesWorld_size, hs1]
  have bx2 := bx1.below hbb
  have hb2 := step_below hb1 hbb
  have HB2 := Lib.hid hb2
  have HLS := Lib.hid hls
  have kc2 : (convert 54 54 (.slice (some ⟨w.heap.size + 1 + 1, 0, none⟩) 1 1)).run Tryz.prog (W2.alloc (.cells #[.int .u8 97] 5)) = .ok (.slice (some ⟨w.heap.size + 1 + 1, 0, none⟩) 1 1) (W2.alloc (.cells #[.int .u8 97] 5 (1, 2))) := kc W2 _ 1 1 _ hs2.symm
  obtain ⟨W3, hW3⟩ : ∃ W3, W2.alloc (.cells #[.int .u8 97] 5 (1, 2)) = W3 := ⟨_, rfl⟩
  have hs3 : W3.heap.size = w.heap.size + 1 + 1 + 1 := by rw [← hW3, World.size_alloc, hs2]
  have bx3 : BoxC W3 w.heap.size #[.int .i64 0, .int .i64 0, .slice none 0 0] 62 := by rw [← hW3]; exact bx2.alloc _
  have hb3 : Below w.heap.size w W3 := by rw [← hW3]; exact hb2.alloc hb2.size _
  have l3 : Ls .u8 W3 (some ⟨w.heap.size + 1 + 1, 0, none⟩) 1 [97] := by
    rw [← hW3, ← hs2]
    exact ls_new .u8 W2 [97] _ 5 (1, 2) rfl 1 rfl
  have q3 : Ls .u8 W3 (some ⟨w.heap.size + 1, 0, none⟩) kq (byts st) := by rw [← hW3]; exact hls.below (bl1 _ _)
  obtain ⟨W4, hW4⟩ : ∃ W4, W3.alloc (.cells #[.slice (some ⟨w.heap.size + 1 + 1, 0, none⟩) 1 1] 54) = W4 := ⟨_, rfl⟩
  have b34 : Below W3.heap.size W3 W4 := by rw [← hW4]; exact bl1 _ _
  have hs4 : W4.heap.size = w.heap.size + 1 + 1 + 1 + 1 := by rw [← hW4, World.size_alloc, hs3]
  have r4 : RdR W4 (some ⟨w.heap.size + 1 + 1 + 1, 0, none⟩) [⟨some ⟨w.heap.size + 1 + 1, 0, none⟩, 1, [97]⟩] := by
    rw [← hW4, ← hs3]
    exact rdR_new W3 _ _ 54 (0, 0) (by simp [P1.v, hs3]) (by intro p hp; simp only [List.mem_singleton] at hp; subst hp; first | exact l3 | (simp only [hs3]; exact l3))
  obtain ⟨W5, hW5⟩ : ∃ W5, W4.alloc (.cells #[.int .i64 0, .slice (some ⟨w.heap.size + 1, 0, none⟩) st.size kq, .slice (some ⟨w.heap.size + 1 + 1 + 1, 0, none⟩) 1 1] 86) = W5 := ⟨_, rfl⟩
  have b45 : Below W4.heap.size W4 W5 := by rw [← hW5]; exact bl1 _ _
  have o5 : W5.ownsRow (w.heap.size + 1) 86 3 (.slice (some ⟨w.heap.size + 1 + 1 + 1 + 1, 0, none⟩) 1 1) 1 [.int .i64 0, .slice (some ⟨w.heap.size + 1, 0, none⟩) st.size kq, .slice (some ⟨w.heap.size + 1 + 1 + 1, 0, none⟩) 1 1] := by
    rw [← hW5, ← hs4]
    exact own_new3 (base := w.heap.size + 1) (by omega) (by rfl) (by decide)
  have bx5 := (bx3.below b34).below b45
  have hb5 := step_below (step_below hb3 b34) b45
  have HF := Lib.hid (And.intro o5 (And.intro (q3.below b34 |>.below b45) (And.intro (r4.below b45) (And.intro hb5 bx5))))
  have x0 := bx5.cell 0
  have x1 := bx5.cell 1
  have x2 := bx5.cell 2
  have f0 := bx5.frozen 0
  have f1 := bx5.frozen 1
  have f2 := bx5.frozen 2
  simp only [List.getElem?_toArray, List.getElem?_cons_zero, List.getElem?_cons_succ] at x0 x1 x2
  clear bx1 hb1 hls hbb bx2 hb2 hW2 hkq hb3 bx3 l3 q3 r4 b34 b45 o5 bx5 hb5 kc
  go_enter Tryz.func24, Tryz.ntmps24
  go_wp2_with fail
  obtain ⟨o5, q5, r5, b5, bx5⟩ := HF.out
  have X9 := Lib.hid (((bx5.put 0 (.int .i64 e)).put 1 (.int .i64 s)).put 2 (.slice (some ⟨w.heap.size + 1 + 1 + 1 + 1, 0, none⟩) 1 1))
  have hbF := ((b5.setCell (p := ⟨w.heap.size, 0, none⟩) (Nat.le_refl _) (.int .i64 e)).setCell (p := ⟨w.heap.size, 1, none⟩) (Nat.le_refl _) (.int .i64 s)).setCell (p := ⟨w.heap.size, 2, none⟩) (Nat.le_refl _) (.slice (some ⟨w.heap.size + 1 + 1 + 1 + 1, 0, none⟩) 1 1)
  have oF := ((own_oth o5 (Nat.lt_succ_self w.heap.size) (oth_set _ w.heap.size 0 (.int .i64 e))))
  have oG := own_oth oF (Nat.lt_succ_self w.heap.size) (oth_set _ w.heap.size 1 (.int .i64 s))
  have oH := own_oth oG (Nat.lt_succ_self w.heap.size) (oth_set _ w.heap.size 2 (.slice (some ⟨w.heap.size + 1 + 1 + 1 + 1, 0, none⟩) 1 1))
  have n1 : ∀ b, (some (⟨w.heap.size + 1, 0, none⟩ : Addr)) = some b → b.block ≠ w.heap.size := fun b e => by cases e; simp
  have n2 : ∀ b, (some (⟨w.heap.size + 1 + 1 + 1, 0, none⟩ : Addr)) = some b → b.block ≠ w.heap.size := fun b e => by cases e; simp; omega
  have n3 : ∀ p ∈ [(⟨some ⟨w.heap.size + 1 + 1, 0, none⟩, 1, [97]⟩ : P1)], ∀ b, p.ad = some b → b.block ≠ w.heap.size := fun p hp b e => by simp only [List.mem_singleton] at hp; subst hp; cases e; simp; omega
  have qH := ((q5.off (o := 0) (v := .int .i64 e) n1).off (o := 1) (v := .int .i64 s) n1).off (o := 2) (v := .slice (some ⟨w.heap.size + 1 + 1 + 1 + 1, 0, none⟩) 1 1) n1
  have rH := ((r5.off (o := 0) (v := .int .i64 e) n2 n3).off (o := 1) (v := .int .i64 s) n2 n3).off (o := 2) (v := .slice (some ⟨w.heap.size + 1 + 1 + 1 + 1, 0, none⟩) 1 1) n2 n3
  refine bodyPost_ret (v := .agg #[.int .i64 e, .int .i64 s, .slice (some ⟨w.heap.size + 1 + 1 + 1 + 1, 0, none⟩) 1 1]) ?_ rfl ⟨_, ⟨0, some ⟨w.heap.size + 1, 0, none⟩, kq, byts st, some ⟨w.heap.size + 1 + 1 + 1, 0, none⟩, 1, [⟨some ⟨w.heap.size + 1 + 1, 0, none⟩, 1, [97]⟩]⟩, rfl, ?_, ⟨qH, rH, byts_byt _, fun p hp => (by simp only [List.mem_singleton] at hp; subst hp; intro x hx; simp only [List.mem_singleton] at hx; omega)⟩, rfl, rfl, rfl, hbF⟩
  · have x0 := X9.out.cell 0
    have x1 := X9.out.cell 1
    have x2 := X9.out.cell 2
    simp at x0 x1 x2
    simp [results, Tryz.results24, go_sem, x0, x1, x2]
  · have := own_base (b := w.heap.size) (Nat.le_succ _) oH
    simp only [WtP.cells, byts_len]
    exact this
end Go.Proofs.YtglkndoghnblcaaGreatDoor
namespace Go.Proofs.YtglkndoghnblcaaGreatDoor
open Go.ChangeShapes Go.WideShapes Go.ChangeAt Go.RowKit
set_option linter.unusedVariables false
set_option linter.unusedSimpArgs false
end Go.Proofs.YtglkndoghnblcaaGreatDoor
