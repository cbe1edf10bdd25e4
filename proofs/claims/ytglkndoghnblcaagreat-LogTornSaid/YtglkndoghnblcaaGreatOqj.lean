/- 'LogOrder' returns true whatever its arguments, which read afterwards as before; no conditions. Part 10. -/
import Derived.Test.YtglkndoghnblcaaGreatOqi
import Derived.Test.YtglkndoghnblcaaGreatOqg
import Derived.Test.YtglkndoghnblcaaGreatOqd
import Derived.Lib.SlBytesConst
import Derived.Test.YtglkndoghnblcaaGreatOqb
import Derived.Test.YtglkndoghnblcaaGreatOqf
import Derived.Test.YtglkndoghnblcaaGreatOqe
import Derived.Test.YtglkndoghnblcaaGreatOqa
namespace Go.Proofs.YtglkndoghnblcaaGreat
open Go.ChangeShapes Go.WideShapes Go.ChangeAt Go.RowKit
set_option linter.unusedVariables false
set_option linter.unusedSimpArgs false
theorem take_same {α : Type} {A B : List α} {k : Nat} {x y : α} (hx : A[k]? = some x) (hy : B[k]? = some y) (h : A.take k = B.take k) : (A.take (k + 1) = B.take (k + 1)) ↔ x = y := by
  rw [List.take_add_one, List.take_add_one, hx, hy, h]
  simp
theorem differ {α : Type} {A B : List α} {k : Nat} {x y : α} (hx : A[k]? = some x) (hy : B[k]? = some y) (h : x ≠ y) : A ≠ B := fun e => by
  rw [e, hy] at hx
  exact h (Option.some.inj hx).symm
set_option maxRecDepth 100000 in
set_option maxHeartbeats 2000000 in
/-- The document's Same (91). -/
theorem rsame_law (a b : Option Addr) (A B : List P1) (n m ca cb : Nat) (hn : A.length = n) (hm : B.length = m) (hn2 : n ≤ 1000000) (hm2 : m ≤ 1000000) (hA : ∀ p ∈ A, Byt p.bs) (hB : ∀ p ∈ B, Byt p.bs) (w : World) (hRA : RdR w a A) (hRB : RdR w b B) :
    Calls Tryz.prog 91 #[.slice a n ca, .slice b m cb] w fun r w' => r = .returned (.bool (decide (A.map P1.bs = B.map P1.bs))) ∧ Below w.heap.size w w' := by
  have HR := Lib.hid (And.intro hRA hRB)
  have HN := Lib.hid (And.intro hn hm)
  have HY := Lib.hid (And.intro hA hB)
  clear hn hm hA hB hRA hRB
  go_enter Tryz.func91, Tryz.ntmps91
  by_cases hl : n = m
  · subst hl
    have e0 : ((n : Int) != (n : Int)) = false := by simp
    go_wp2_with fail
    go_loopw [5] (fun j wr => ∃ k : Nat, k ≤ n ∧ j = .int .i64 (k : Int) ∧ Hid ((A.map P1.bs).take k = (B.map P1.bs).take k) ∧ Hid (Below w.heap.size w wr)) (fun j _ => n - (intOf j).toNat)
    case atStart => exact ⟨0, Nat.zero_le _, rfl, Lib.hid (by simp), Lib.hid (Below.refl _ _)⟩
    case round =>
      obtain ⟨k, hk, rfl, HS, HBW⟩ := hrel
      by_cases hlt : k < n
      · have dl : (k : Int) < (n : Int) := by omega
        obtain ⟨x, hx⟩ : ∃ x, A[k]? = some x := ⟨_, List.getElem?_eq_getElem (by rw [HN.out.1]; exact hlt)⟩
        obtain ⟨y, hy⟩ : ∃ y, B[k]? = some y := ⟨_, List.getElem?_eq_getElem (by rw [HN.out.2]; exact hlt)⟩
        obtain ⟨b1, o1, rfl, c1, l1⟩ := (HR.out.1.below HBW.out) k x hx
        obtain ⟨b2, o2, rfl, c2, l2⟩ := (HR.out.2.below HBW.out) k y hy
        have HLX := Lib.hid (And.intro l1 l2)
        have FQ := Lib.hid (fun X (b : Below wr.heap.size wr X) => (⟨(b.cell (cell_lt c1)).trans c1, (b.cell (cell_lt c2)).trans c2⟩ : X.cell? ⟨b1, o1 + k, none⟩ = some (.slice x.ad x.bs.length x.cap) ∧ X.cell? ⟨b2, o2 + k, none⟩ = some (.slice y.ad y.bs.length y.cap)))
        have HXY := Lib.hid (show (A.map P1.bs)[k]? = some x.bs ∧ (B.map P1.bs)[k]? = some y.bs by rw [List.getElem?_map, List.getElem?_map, hx, hy]; exact ⟨rfl, rfl⟩)
        have hse := str_eq (HY.out.1 x (List.mem_of_getElem? hx)) (HY.out.2 y (List.mem_of_getElem? hy))
        have HSE := Lib.hid hse
        clear hx hy c1 c2 l1 l2 hse
        go_upto_region 6 with (fail)
        rename_i KK hKK
        refine Code.wp_mono (Q := Exit.then KK (fun _ _ _ => False)) (fun e a' w' h => by cases e <;> first | exact h | exact h.elim) ?_
        refine wp_region_held_drew (S := (fun X => Below wr.heap.size wr X)) (by kernel_rfl) ((Below.refl _ _).drew) (fun hHeld => ?_)
        refine tk 0 ?_ rfl (.inl ⟨by rfl, ?_⟩) ?_
        rotate_left
        · intro W hSw; go_simp; try with_reducible rfl
        try simp only [Act.put, List.setIfInBounds_toArray, List.set_cons_zero, List.set_cons_succ]
        refine tk 1 ?_ rfl (.inl ⟨by rfl, ?_⟩) ?_
        rotate_left
        · intro W hSw; go_simp; try with_reducible rfl
        try simp only [Act.put, List.setIfInBounds_toArray, List.set_cons_zero, List.set_cons_succ]
        refine tk 2 ?_ rfl (.inl ⟨by rfl, ?_⟩) ?_
        rotate_left
        · intro W hSw; go_simp; try with_reducible rfl
        try simp only [Act.put, List.setIfInBounds_toArray, List.set_cons_zero, List.set_cons_succ]
        refine tk 3 ?_ rfl (.inl ⟨by rfl, ?_⟩) ?_
        rotate_left
        · intro W hSw; obtain ⟨z0, z1⟩ := FQ.out W hSw; go_simp; try with_reducible rfl
        try simp only [Act.put, List.setIfInBounds_toArray, List.set_cons_zero, List.set_cons_succ]
        refine tk 4 ?_ rfl (.inl ⟨by rfl, ?_⟩) ?_
        rotate_left
        · intro W hSw; have hcv := conv_ls W x.ad x.bs.length x.cap x.bs rfl (HLX.out.1.below hSw).rd; go_simp; try with_reducible rfl
        try simp only [Act.put, List.setIfInBounds_toArray, List.set_cons_zero, List.set_cons_succ]
        refine tk 5 ?_ rfl (.inl ⟨by rfl, ?_⟩) ?_
        rotate_left
        · intro W hSw; go_simp; try with_reducible rfl
        try simp only [Act.put, List.setIfInBounds_toArray, List.set_cons_zero, List.set_cons_succ]
        refine tk 6 ?_ rfl (.inl ⟨by rfl, ?_⟩) ?_
        rotate_left
        · intro W hSw; go_simp; try with_reducible rfl
        try simp only [Act.put, List.setIfInBounds_toArray, List.set_cons_zero, List.set_cons_succ]
        refine tk 7 ?_ rfl (.inl ⟨by rfl, ?_⟩) ?_
        rotate_left
        · intro W hSw; go_simp; try with_reducible rfl
        try simp only [Act.put, List.setIfInBounds_toArray, List.set_cons_zero, List.set_cons_succ]
        refine tk 8 ?_ rfl (.inl ⟨by rfl, ?_⟩) ?_
        rotate_left
        · intro W hSw; obtain ⟨z0, z1⟩ := FQ.out W hSw; go_simp; try with_reducible rfl
        try simp only [Act.put, List.setIfInBounds_toArray, List.set_cons_zero, List.set_cons_succ]
        refine tk 9 ?_ rfl (.inl ⟨by rfl, ?_⟩) ?_
        rotate_left
        · intro W hSw; have hcv := conv_ls W y.ad y.bs.length y.cap y.bs rfl (HLX.out.2.below hSw).rd; go_simp; try with_reducible rfl
        try simp only [Act.put, List.setIfInBounds_toArray, List.set_cons_zero, List.set_cons_succ]
        refine tk 10 ?_ rfl (.inl ⟨by rfl, ?_⟩) ?_
        rotate_left
        · intro W hSw; go_simp; try with_reducible rfl
        try simp only [Act.put, List.setIfInBounds_toArray, List.set_cons_zero, List.set_cons_succ]
        refine wpAnyH_done (by kernel_rfl) ?_ _
        skip
        refine hKK _ _ ?_
        have HBN := Lib.hid (step_below HBW.out hHeld)
        rw [HSE.out]
        clear hKK hHeld FQ HLX
        by_cases hxy : x.bs = y.bs
        · have hd : decide (x.bs = y.bs) = true := decide_eq_true hxy
          rw [hd]
          have HNX := Lib.hid ((take_same HXY.out.1 HXY.out.2 HS.out).2 hxy)
          go_wp2_with fail
          go_roundw
          case rel => exact ⟨k + 1, by omega, by go_num, HNX, HBN⟩
          case measure => simp [intOf]; omega
        · have hd : decide (x.bs = y.bs) = false := decide_eq_false hxy
          rw [hd]
          have HD := Lib.hid (differ HXY.out.1 HXY.out.2 hxy)
          go_wp2_with fail
          go_ret
          exact ⟨by rw [decide_eq_false HD.out]; rfl, HBN.out⟩
      · obtain rfl : k = n := by omega
        have dl : ¬ (k : Int) < (k : Int) := by omega
        have HE := Lib.hid (show A.map P1.bs = B.map P1.bs by have := HS.out; rwa [List.take_of_length_le (by rw [List.length_map, HN.out.1]; omega), List.take_of_length_le (by rw [List.length_map, HN.out.2]; omega)] at this)
        go_wp2_with fail
        go_ret
        exact ⟨by rw [decide_eq_true HE.out]; rfl, HBW.out⟩
  · have e0 : ((n : Int) != (m : Int)) = true := by simp; omega
    have e1 : ((n : Int) == (m : Int)) = false := by rw [beq_eq_false_iff_ne]; omega
    have HD := Lib.hid (show A.map P1.bs ≠ B.map P1.bs from fun e => hl (by have := congrArg List.length e; rw [List.length_map, List.length_map, HN.out.1, HN.out.2] at this; exact this))
    go_wp2_with fail
    go_ret
    exact ⟨by rw [decide_eq_false HD.out]; rfl, Below.refl _ _⟩
end Go.Proofs.YtglkndoghnblcaaGreat
namespace Go.Proofs.YtglkndoghnblcaaGreat
open Go.ChangeShapes Go.WideShapes Go.ChangeAt Go.RowKit
set_option linter.unusedVariables false
set_option linter.unusedSimpArgs false
abbrev W3c := Int × List Int × List (List Int)
def wtC (x : WtP) : W3c := (x.tab, x.key, x.R.map P1.bs)
set_option maxRecDepth 100000 in
set_option maxHeartbeats 2000000 in
/-- The document's SameWrites (62). -/
theorem swrites_law (a b : Option Addr) (A B : List WtP) (n m ca cb : Nat) (hn : A.length = n) (hm : B.length = m) (hn2 : n ≤ 1000000) (hm2 : m ≤ 1000000) (hA : ∀ p ∈ A, p.R.length ≤ 1000000) (hB : ∀ p ∈ B, p.R.length ≤ 1000000) (w : World) (hRA : WtsR w a A) (hRB : WtsR w b B) :
    Calls Tryz.prog 62 #[.slice a n ca, .slice b m cb] w fun r w' => r = .returned (.bool (decide (A.map wtC = B.map wtC))) ∧ Below w.heap.size w w' := by
  have HR := Lib.hid (And.intro hRA hRB)
  have HN := Lib.hid (And.intro hn hm)
  have HRL := Lib.hid (And.intro hA hB)
  clear hn hm hA hB hRA hRB
  go_enter Tryz.func62, Tryz.ntmps62
  by_cases hl : n = m
  · subst hl
    have e0 : ((n : Int) != (n : Int)) = false := by simp
    go_wp2_with fail
    go_loopw [5] (fun j wr => ∃ k : Nat, k ≤ n ∧ j = .int .i64 (k : Int) ∧ Hid ((A.map wtC).take k = (B.map wtC).take k) ∧ Hid (Below w.heap.size w wr)) (fun j _ => n - (intOf j).toNat)
    case atStart => exact ⟨0, Nat.zero_le _, rfl, Lib.hid (by simp), Lib.hid (Below.refl _ _)⟩
    case round =>
      obtain ⟨k, hk, rfl, HS, HBW⟩ := hrel
      by_cases hlt : k < n
      · have dl : (k : Int) < (n : Int) := by omega
        obtain ⟨x, hx⟩ : ∃ x, A[k]? = some x := ⟨_, List.getElem?_eq_getElem (by rw [HN.out.1]; exact hlt)⟩
        obtain ⟨y, hy⟩ : ∃ y, B[k]? = some y := ⟨_, List.getElem?_eq_getElem (by rw [HN.out.2]; exact hlt)⟩
        obtain ⟨b1, o1, rfl, c1, c2, c3, l1⟩ := (HR.out.1.below HBW.out) k x hx
        obtain ⟨b2, o2, rfl, c4, c5, c6, l2⟩ := (HR.out.2.below HBW.out) k y hy
        have HLX := Lib.hid (And.intro l1 l2)
        have FQ := Lib.hid (fun X (b : Below wr.heap.size wr X) => (⟨(b.cell (cell_lt c1)).trans c1, (b.cell (cell_lt c2)).trans c2, (b.cell (cell_lt c3)).trans c3, (b.cell (cell_lt c4)).trans c4, (b.cell (cell_lt c5)).trans c5, (b.cell (cell_lt c6)).trans c6⟩ : X.cell? ⟨b1, o1 + k * 3, none⟩ = some (.int .i64 x.tab) ∧ X.cell? ⟨b1, o1 + k * 3 + 1, none⟩ = some (.slice x.ka x.key.length x.kc) ∧ X.cell? ⟨b1, o1 + k * 3 + 2, none⟩ = some (.slice x.ra x.R.length x.rc) ∧ X.cell? ⟨b2, o2 + k * 3, none⟩ = some (.int .i64 y.tab) ∧ X.cell? ⟨b2, o2 + k * 3 + 1, none⟩ = some (.slice y.ka y.key.length y.kc) ∧ X.cell? ⟨b2, o2 + k * 3 + 2, none⟩ = some (.slice y.ra y.R.length y.rc)))
        have HXY := Lib.hid (show (A.map wtC)[k]? = some (wtC x) ∧ (B.map wtC)[k]? = some (wtC y) by rw [List.getElem?_map, List.getElem?_map, hx, hy]; exact ⟨rfl, rfl⟩)
        have HSM := Lib.hid (fun W (b : Below wr.heap.size wr W) => rsame_law x.ra y.ra x.R y.R x.R.length y.R.length x.rc y.rc rfl rfl (HRL.out.1 x (List.mem_of_getElem? hx)) (HRL.out.2 y (List.mem_of_getElem? hy)) l1.rb l2.rb W (l1.row.below b) (l2.row.below b))
        have hse := str_eq l1.kb l2.kb
        obtain ⟨kb, hkb⟩ : ∃ kb, decide (x.key = y.key) = kb := ⟨_, rfl⟩
        obtain ⟨rb, hrb⟩ : ∃ rb, decide (x.R.map P1.bs = y.R.map P1.bs) = rb := ⟨_, rfl⟩
        rw [hkb] at hse
        rw [hrb] at HSM
        have HSE := Lib.hid hse
        have HKB := Lib.hid (And.intro hkb hrb)
        clear hx hy c1 c2 c3 c4 c5 c6 l1 l2 hse hkb hrb
        go_upto_region 6 with (fail)
        rename_i KK hKK
        by_cases hxt : x.tab = y.tab
        · cases kb with
          | false =>
            refine Code.wp_mono (Q := Exit.then KK (fun _ _ _ => False)) (fun e a' w' h => by cases e <;> first | exact h | exact h.elim) ?_
            refine wp_region_held_drew (S := (fun X => Below wr.heap.size wr X)) (by kernel_rfl) ((Below.refl _ _).drew) (fun hHeld => ?_)
            refine tk 0 ?_ rfl (.inl ⟨by rfl, ?_⟩) ?_
            rotate_left
            · intro W hSw; go_simp; try with_reducible rfl
            try simp only [Act.put, List.setIfInBounds_toArray, List.set_cons_zero, List.set_cons_succ]
            refine tk 1 ?_ rfl (.inl ⟨by rfl, ?_⟩) ?_
            rotate_left
            · intro W hSw; go_simp; try with_reducible rfl
            try simp only [Act.put, List.setIfInBounds_toArray, List.set_cons_zero, List.set_cons_succ]
            refine tk 2 ?_ rfl (.inl ⟨by rfl, ?_⟩) ?_
            rotate_left
            · intro W hSw; go_simp; try with_reducible rfl
            try simp only [Act.put, List.setIfInBounds_toArray, List.set_cons_zero, List.set_cons_succ]
            refine tk 3 ?_ rfl (.inl ⟨by rfl, ?_⟩) ?_
            rotate_left
            · intro W hSw; go_simp; try with_reducible rfl
            try simp only [Act.put, List.setIfInBounds_toArray, List.set_cons_zero, List.set_cons_succ]
            refine tk 4 ?_ rfl (.inl ⟨by rfl, ?_⟩) ?_
            rotate_left
            · intro W hSw; obtain ⟨z0, z1, z2, z3, z4, z5⟩ := FQ.out W hSw; go_simp; try with_reducible rfl
            try simp only [Act.put, List.setIfInBounds_toArray, List.set_cons_zero, List.set_cons_succ]
            refine tk 5 ?_ rfl (.inl ⟨by rfl, ?_⟩) ?_
            rotate_left
            · intro W hSw; go_simp; try with_reducible rfl
            try simp only [Act.put, List.setIfInBounds_toArray, List.set_cons_zero, List.set_cons_succ]
            refine tk 6 ?_ rfl (.inl ⟨by rfl, ?_⟩) ?_
            rotate_left
            · intro W hSw; go_simp; try with_reducible rfl
            try simp only [Act.put, List.setIfInBounds_toArray, List.set_cons_zero, List.set_cons_succ]
            refine tk 7 ?_ rfl (.inl ⟨by rfl, ?_⟩) ?_
            rotate_left
            · intro W hSw; go_simp; try with_reducible rfl
            try simp only [Act.put, List.setIfInBounds_toArray, List.set_cons_zero, List.set_cons_succ]
            refine tk 8 ?_ rfl (.inl ⟨by rfl, ?_⟩) ?_
            rotate_left
            · intro W hSw; go_simp; try with_reducible rfl
            try simp only [Act.put, List.setIfInBounds_toArray, List.set_cons_zero, List.set_cons_succ]
            refine tk 9 ?_ rfl (.inl ⟨by rfl, ?_⟩) ?_
            rotate_left
            · intro W hSw; obtain ⟨z0, z1, z2, z3, z4, z5⟩ := FQ.out W hSw; go_simp; try with_reducible rfl
            try simp only [Act.put, List.setIfInBounds_toArray, List.set_cons_zero, List.set_cons_succ]
            refine tk 10 (.bool false) rfl (.inl ⟨by rfl, ?_⟩) ?_
            · intro W hSw; go_simp; try simp [hxt]
            try simp only [Act.put, List.setIfInBounds_toArray, List.set_cons_zero, List.set_cons_succ]
            refine tk 11 (.bool false) rfl (.inl ⟨by rfl, ?_⟩) ?_
            · intro W hSw; go_simp; try rfl
            try simp only [Act.put, List.setIfInBounds_toArray, List.set_cons_zero, List.set_cons_succ]
            refine tk 12 ?_ rfl (.inl ⟨by rfl, ?_⟩) ?_
            rotate_left
            · intro W hSw; go_simp; try with_reducible rfl
            try simp only [Act.put, List.setIfInBounds_toArray, List.set_cons_zero, List.set_cons_succ]
            refine tk 13 ?_ rfl (.inl ⟨by rfl, ?_⟩) ?_
            rotate_left
            · intro W hSw; go_simp; try with_reducible rfl
            try simp only [Act.put, List.setIfInBounds_toArray, List.set_cons_zero, List.set_cons_succ]
            refine tk 14 ?_ rfl (.inl ⟨by rfl, ?_⟩) ?_
            rotate_left
            · intro W hSw; go_simp; try with_reducible rfl
            try simp only [Act.put, List.setIfInBounds_toArray, List.set_cons_zero, List.set_cons_succ]
            refine tk 15 ?_ rfl (.inl ⟨by rfl, ?_⟩) ?_
            rotate_left
            · intro W hSw; go_simp; try with_reducible rfl
            try simp only [Act.put, List.setIfInBounds_toArray, List.set_cons_zero, List.set_cons_succ]
            refine tk 16 ?_ rfl (.inl ⟨by rfl, ?_⟩) ?_
            rotate_left
            · intro W hSw; obtain ⟨z0, z1, z2, z3, z4, z5⟩ := FQ.out W hSw; go_simp; try with_reducible rfl
            try simp only [Act.put, List.setIfInBounds_toArray, List.set_cons_zero, List.set_cons_succ]
            refine tk 17 ?_ rfl (.inl ⟨by rfl, ?_⟩) ?_
            rotate_left
            · intro W hSw; have hcv := conv_ls W x.ka x.key.length x.kc x.key rfl (HLX.out.1.ls.below hSw).rd; go_simp; try with_reducible rfl
            try simp only [Act.put, List.setIfInBounds_toArray, List.set_cons_zero, List.set_cons_succ]
            refine tk 18 ?_ rfl (.inl ⟨by rfl, ?_⟩) ?_
            rotate_left
            · intro W hSw; go_simp; try with_reducible rfl
            try simp only [Act.put, List.setIfInBounds_toArray, List.set_cons_zero, List.set_cons_succ]
            refine tk 19 ?_ rfl (.inl ⟨by rfl, ?_⟩) ?_
            rotate_left
            · intro W hSw; go_simp; try with_reducible rfl
            try simp only [Act.put, List.setIfInBounds_toArray, List.set_cons_zero, List.set_cons_succ]
            refine tk 20 ?_ rfl (.inl ⟨by rfl, ?_⟩) ?_
            rotate_left
            · intro W hSw; go_simp; try with_reducible rfl
            try simp only [Act.put, List.setIfInBounds_toArray, List.set_cons_zero, List.set_cons_succ]
            refine tk 21 ?_ rfl (.inl ⟨by rfl, ?_⟩) ?_
            rotate_left
            · intro W hSw; go_simp; try with_reducible rfl
            try simp only [Act.put, List.setIfInBounds_toArray, List.set_cons_zero, List.set_cons_succ]
            refine tk 22 ?_ rfl (.inl ⟨by rfl, ?_⟩) ?_
            rotate_left
            · intro W hSw; obtain ⟨z0, z1, z2, z3, z4, z5⟩ := FQ.out W hSw; go_simp; try with_reducible rfl
            try simp only [Act.put, List.setIfInBounds_toArray, List.set_cons_zero, List.set_cons_succ]
            refine tk 23 ?_ rfl (.inl ⟨by rfl, ?_⟩) ?_
            rotate_left
            · intro W hSw; have hcv := conv_ls W y.ka y.key.length y.kc y.key rfl (HLX.out.2.ls.below hSw).rd; go_simp; try with_reducible rfl
            try simp only [Act.put, List.setIfInBounds_toArray, List.set_cons_zero, List.set_cons_succ]
            refine tk 24 (.bool true) rfl (.inl ⟨by rfl, ?_⟩) ?_
            · intro W hSw; go_simp; try (have h9 := HSE.out; simp at h9; simp [h9])
            try simp only [Act.put, List.setIfInBounds_toArray, List.set_cons_zero, List.set_cons_succ]
            refine tk 25 ?_ rfl (.inl ⟨by rfl, ?_⟩) ?_
            rotate_left
            · intro W hSw; go_simp; try with_reducible rfl
            try simp only [Act.put, List.setIfInBounds_toArray, List.set_cons_zero, List.set_cons_succ]
            refine tk 26 (.bool true) rfl (.inl ⟨by rfl, ?_⟩) ?_
            · intro W hSw; go_simp; try rfl
            try simp only [Act.put, List.setIfInBounds_toArray, List.set_cons_zero, List.set_cons_succ]
            refine tk 27 (undef) rfl (.inr ⟨by rfl, rfl⟩) ?_
            try simp only [Act.put, List.setIfInBounds_toArray, List.set_cons_zero, List.set_cons_succ]
            refine tk 28 (undef) rfl (.inr ⟨by rfl, rfl⟩) ?_
            try simp only [Act.put, List.setIfInBounds_toArray, List.set_cons_zero, List.set_cons_succ]
            refine tk 29 (undef) rfl (.inr ⟨by rfl, rfl⟩) ?_
            try simp only [Act.put, List.setIfInBounds_toArray, List.set_cons_zero, List.set_cons_succ]
            refine tk 30 (undef) rfl (.inr ⟨by rfl, rfl⟩) ?_
            try simp only [Act.put, List.setIfInBounds_toArray, List.set_cons_zero, List.set_cons_succ]
            refine tk 31 (undef) rfl (.inr ⟨by rfl, rfl⟩) ?_
            try simp only [Act.put, List.setIfInBounds_toArray, List.set_cons_zero, List.set_cons_succ]
            refine tk 32 (undef) rfl (.inr ⟨by rfl, rfl⟩) ?_
            try simp only [Act.put, List.setIfInBounds_toArray, List.set_cons_zero, List.set_cons_succ]
            refine tk 33 (undef) rfl (.inr ⟨by rfl, rfl⟩) ?_
            try simp only [Act.put, List.setIfInBounds_toArray, List.set_cons_zero, List.set_cons_succ]
            refine tk 34 (undef) rfl (.inr ⟨by rfl, rfl⟩) ?_
            try simp only [Act.put, List.setIfInBounds_toArray, List.set_cons_zero, List.set_cons_succ]
            refine tk 35 (undef) rfl (.inr ⟨by rfl, rfl⟩) ?_
            try simp only [Act.put, List.setIfInBounds_toArray, List.set_cons_zero, List.set_cons_succ]
            refine tk 36 (undef) rfl (.inr ⟨by rfl, rfl⟩) ?_
            try simp only [Act.put, List.setIfInBounds_toArray, List.set_cons_zero, List.set_cons_succ]
            refine tk 37 (undef) rfl (.inr ⟨by rfl, rfl⟩) ?_
            try simp only [Act.put, List.setIfInBounds_toArray, List.set_cons_zero, List.set_cons_succ]
            refine tk 38 (undef) rfl (.inr ⟨by rfl, rfl⟩) ?_
            try simp only [Act.put, List.setIfInBounds_toArray, List.set_cons_zero, List.set_cons_succ]
            refine tk 39 ?_ rfl (.inl ⟨by rfl, ?_⟩) ?_
            rotate_left
            · intro W hSw; go_simp; try with_reducible rfl
            try simp only [Act.put, List.setIfInBounds_toArray, List.set_cons_zero, List.set_cons_succ]
            refine wpAnyH_done (by kernel_rfl) ?_ _
            skip
            refine hKK _ _ ?_
            have HBN := Lib.hid (step_below HBW.out hHeld)
            have HD := Lib.hid (differ HXY.out.1 HXY.out.2 (fun e => (of_decide_eq_false HKB.out.1) (congrArg (fun z => z.2.1) e)))
            clear hKK hHeld FQ HLX
            go_wp2_with fail
            go_ret
            exact ⟨by rw [decide_eq_false HD.out]; rfl, HBN.out⟩
          | true =>
            refine Code.wp_mono (Q := Exit.then KK (fun _ _ _ => False)) (fun e a' w' h => by cases e <;> first | exact h | exact h.elim) ?_
            refine wp_region_held_drew (S := (fun X => Below wr.heap.size wr X)) (by kernel_rfl) ((Below.refl _ _).drew) (fun hHeld => ?_)
            refine tk 0 ?_ rfl (.inl ⟨by rfl, ?_⟩) ?_
            rotate_left
            · intro W hSw; go_simp; try with_reducible rfl
            try simp only [Act.put, List.setIfInBounds_toArray, List.set_cons_zero, List.set_cons_succ]
            refine tk 1 ?_ rfl (.inl ⟨by rfl, ?_⟩) ?_
            rotate_left
            · intro W hSw; go_simp; try with_reducible rfl
            try simp only [Act.put, List.setIfInBounds_toArray, List.set_cons_zero, List.set_cons_succ]
            refine tk 2 ?_ rfl (.inl ⟨by rfl, ?_⟩) ?_
            rotate_left
            · intro W hSw; go_simp; try with_reducible rfl
            try simp only [Act.put, List.setIfInBounds_toArray, List.set_cons_zero, List.set_cons_succ]
            refine tk 3 ?_ rfl (.inl ⟨by rfl, ?_⟩) ?_
            rotate_left
            · intro W hSw; go_simp; try with_reducible rfl
            try simp only [Act.put, List.setIfInBounds_toArray, List.set_cons_zero, List.set_cons_succ]
            refine tk 4 ?_ rfl (.inl ⟨by rfl, ?_⟩) ?_
            rotate_left
            · intro W hSw; obtain ⟨z0, z1, z2, z3, z4, z5⟩ := FQ.out W hSw; go_simp; try with_reducible rfl
            try simp only [Act.put, List.setIfInBounds_toArray, List.set_cons_zero, List.set_cons_succ]
            refine tk 5 ?_ rfl (.inl ⟨by rfl, ?_⟩) ?_
            rotate_left
            · intro W hSw; go_simp; try with_reducible rfl
            try simp only [Act.put, List.setIfInBounds_toArray, List.set_cons_zero, List.set_cons_succ]
            refine tk 6 ?_ rfl (.inl ⟨by rfl, ?_⟩) ?_
            rotate_left
            · intro W hSw; go_simp; try with_reducible rfl
            try simp only [Act.put, List.setIfInBounds_toArray, List.set_cons_zero, List.set_cons_succ]
            refine tk 7 ?_ rfl (.inl ⟨by rfl, ?_⟩) ?_
            rotate_left
            · intro W hSw; go_simp; try with_reducible rfl
            try simp only [Act.put, List.setIfInBounds_toArray, List.set_cons_zero, List.set_cons_succ]
            refine tk 8 ?_ rfl (.inl ⟨by rfl, ?_⟩) ?_
            rotate_left
            · intro W hSw; go_simp; try with_reducible rfl
            try simp only [Act.put, List.setIfInBounds_toArray, List.set_cons_zero, List.set_cons_succ]
            refine tk 9 ?_ rfl (.inl ⟨by rfl, ?_⟩) ?_
            rotate_left
            · intro W hSw; obtain ⟨z0, z1, z2, z3, z4, z5⟩ := FQ.out W hSw; go_simp; try with_reducible rfl
            try simp only [Act.put, List.setIfInBounds_toArray, List.set_cons_zero, List.set_cons_succ]
            refine tk 10 (.bool false) rfl (.inl ⟨by rfl, ?_⟩) ?_
            · intro W hSw; go_simp; try simp [hxt]
            try simp only [Act.put, List.setIfInBounds_toArray, List.set_cons_zero, List.set_cons_succ]
            refine tk 11 (.bool false) rfl (.inl ⟨by rfl, ?_⟩) ?_
            · intro W hSw; go_simp; try rfl
            try simp only [Act.put, List.setIfInBounds_toArray, List.set_cons_zero, List.set_cons_succ]
            refine tk 12 ?_ rfl (.inl ⟨by rfl, ?_⟩) ?_
            rotate_left
            · intro W hSw; go_simp; try with_reducible rfl
            try simp only [Act.put, List.setIfInBounds_toArray, List.set_cons_zero, List.set_cons_succ]
            refine tk 13 ?_ rfl (.inl ⟨by rfl, ?_⟩) ?_
            rotate_left
            · intro W hSw; go_simp; try with_reducible rfl
            try simp only [Act.put, List.setIfInBounds_toArray, List.set_cons_zero, List.set_cons_succ]
            refine tk 14 ?_ rfl (.inl ⟨by rfl, ?_⟩) ?_
            rotate_left
            · intro W hSw; go_simp; try with_reducible rfl
            try simp only [Act.put, List.setIfInBounds_toArray, List.set_cons_zero, List.set_cons_succ]
            refine tk 15 ?_ rfl (.inl ⟨by rfl, ?_⟩) ?_
            rotate_left
            · intro W hSw; go_simp; try with_reducible rfl
            try simp only [Act.put, List.setIfInBounds_toArray, List.set_cons_zero, List.set_cons_succ]
            refine tk 16 ?_ rfl (.inl ⟨by rfl, ?_⟩) ?_
            rotate_left
            · intro W hSw; obtain ⟨z0, z1, z2, z3, z4, z5⟩ := FQ.out W hSw; go_simp; try with_reducible rfl
            try simp only [Act.put, List.setIfInBounds_toArray, List.set_cons_zero, List.set_cons_succ]
            refine tk 17 ?_ rfl (.inl ⟨by rfl, ?_⟩) ?_
            rotate_left
            · intro W hSw; have hcv := conv_ls W x.ka x.key.length x.kc x.key rfl (HLX.out.1.ls.below hSw).rd; go_simp; try with_reducible rfl
            try simp only [Act.put, List.setIfInBounds_toArray, List.set_cons_zero, List.set_cons_succ]
            refine tk 18 ?_ rfl (.inl ⟨by rfl, ?_⟩) ?_
            rotate_left
            · intro W hSw; go_simp; try with_reducible rfl
            try simp only [Act.put, List.setIfInBounds_toArray, List.set_cons_zero, List.set_cons_succ]
            refine tk 19 ?_ rfl (.inl ⟨by rfl, ?_⟩) ?_
            rotate_left
            · intro W hSw; go_simp; try with_reducible rfl
            try simp only [Act.put, List.setIfInBounds_toArray, List.set_cons_zero, List.set_cons_succ]
            refine tk 20 ?_ rfl (.inl ⟨by rfl, ?_⟩) ?_
            rotate_left
            · intro W hSw; go_simp; try with_reducible rfl
            try simp only [Act.put, List.setIfInBounds_toArray, List.set_cons_zero, List.set_cons_succ]
            refine tk 21 ?_ rfl (.inl ⟨by rfl, ?_⟩) ?_
            rotate_left
            · intro W hSw; go_simp; try with_reducible rfl
            try simp only [Act.put, List.setIfInBounds_toArray, List.set_cons_zero, List.set_cons_succ]
            refine tk 22 ?_ rfl (.inl ⟨by rfl, ?_⟩) ?_
            rotate_left
            · intro W hSw; obtain ⟨z0, z1, z2, z3, z4, z5⟩ := FQ.out W hSw; go_simp; try with_reducible rfl
            try simp only [Act.put, List.setIfInBounds_toArray, List.set_cons_zero, List.set_cons_succ]
            refine tk 23 ?_ rfl (.inl ⟨by rfl, ?_⟩) ?_
            rotate_left
            · intro W hSw; have hcv := conv_ls W y.ka y.key.length y.kc y.key rfl (HLX.out.2.ls.below hSw).rd; go_simp; try with_reducible rfl
            try simp only [Act.put, List.setIfInBounds_toArray, List.set_cons_zero, List.set_cons_succ]
            refine tk 24 (.bool false) rfl (.inl ⟨by rfl, ?_⟩) ?_
            · intro W hSw; go_simp; try (have h9 := HSE.out; simp at h9; simp [h9])
            try simp only [Act.put, List.setIfInBounds_toArray, List.set_cons_zero, List.set_cons_succ]
            refine tk 25 ?_ rfl (.inl ⟨by rfl, ?_⟩) ?_
            rotate_left
            · intro W hSw; go_simp; try with_reducible rfl
            try simp only [Act.put, List.setIfInBounds_toArray, List.set_cons_zero, List.set_cons_succ]
            refine tk 26 (.bool false) rfl (.inl ⟨by rfl, ?_⟩) ?_
            · intro W hSw; go_simp; try rfl
            try simp only [Act.put, List.setIfInBounds_toArray, List.set_cons_zero, List.set_cons_succ]
            refine tk 27 ?_ rfl (.inl ⟨by rfl, ?_⟩) ?_
            rotate_left
            · intro W hSw; go_simp; try with_reducible rfl
            try simp only [Act.put, List.setIfInBounds_toArray, List.set_cons_zero, List.set_cons_succ]
            refine tk 28 ?_ rfl (.inl ⟨by rfl, ?_⟩) ?_
            rotate_left
            · intro W hSw; go_simp; try with_reducible rfl
            try simp only [Act.put, List.setIfInBounds_toArray, List.set_cons_zero, List.set_cons_succ]
            refine tk 29 ?_ rfl (.inl ⟨by rfl, ?_⟩) ?_
            rotate_left
            · intro W hSw; go_simp; try with_reducible rfl
            try simp only [Act.put, List.setIfInBounds_toArray, List.set_cons_zero, List.set_cons_succ]
            refine tk 30 ?_ rfl (.inl ⟨by rfl, ?_⟩) ?_
            rotate_left
            · intro W hSw; go_simp; try with_reducible rfl
            try simp only [Act.put, List.setIfInBounds_toArray, List.set_cons_zero, List.set_cons_succ]
            refine tk 31 ?_ rfl (.inl ⟨by rfl, ?_⟩) ?_
            rotate_left
            · intro W hSw; obtain ⟨z0, z1, z2, z3, z4, z5⟩ := FQ.out W hSw; go_simp; try with_reducible rfl
            try simp only [Act.put, List.setIfInBounds_toArray, List.set_cons_zero, List.set_cons_succ]
            refine tk 32 ?_ rfl (.inl ⟨by rfl, ?_⟩) ?_
            rotate_left
            · intro W hSw; go_simp; try with_reducible rfl
            try simp only [Act.put, List.setIfInBounds_toArray, List.set_cons_zero, List.set_cons_succ]
            refine tk 33 ?_ rfl (.inl ⟨by rfl, ?_⟩) ?_
            rotate_left
            · intro W hSw; go_simp; try with_reducible rfl
            try simp only [Act.put, List.setIfInBounds_toArray, List.set_cons_zero, List.set_cons_succ]
            refine tk 34 ?_ rfl (.inl ⟨by rfl, ?_⟩) ?_
            rotate_left
            · intro W hSw; go_simp; try with_reducible rfl
            try simp only [Act.put, List.setIfInBounds_toArray, List.set_cons_zero, List.set_cons_succ]
            refine tk 35 ?_ rfl (.inl ⟨by rfl, ?_⟩) ?_
            rotate_left
            · intro W hSw; go_simp; try with_reducible rfl
            try simp only [Act.put, List.setIfInBounds_toArray, List.set_cons_zero, List.set_cons_succ]
            refine tk 36 ?_ rfl (.inl ⟨by rfl, ?_⟩) ?_
            rotate_left
            · intro W hSw; obtain ⟨z0, z1, z2, z3, z4, z5⟩ := FQ.out W hSw; go_simp; try with_reducible rfl
            try simp only [Act.put, List.setIfInBounds_toArray, List.set_cons_zero, List.set_cons_succ]
            refine wpAnyH_ready (rs := [37]) (by kernel_rfl) (by simp) ?_
            refine AllReadyH.cons (o := { dst := some 54, op := Op.call { callee := Callee.value (Operand.func 91), args := #[Operand.tmp 48, Operand.tmp 53], argTypes := #[49, 49] }, type := 4, pos := "ref.go:444", after := #[{ on := 31, ground := Ground.data }, { on := 36, ground := Ground.data }, { on := 26, ground := Ground.chain }, { on := 26, ground := Ground.guard }], guard := some (26, false) }) rfl (fun K hK => ?_) AllReadyH.nil
            go_simp
            refine (HSM.out _ hHeld).mono ?_; rintro e9 w3 ⟨rfl, hb3⟩
            go_wp2_with fail
            refine hK.out _ _ (step_below hHeld hb3) (fun hHeldn => ?_)
            clear hK K hHeld; have hHeld := hHeldn; clear hHeldn
            try simp only [Act.put, List.setIfInBounds_toArray, List.set_cons_zero, List.set_cons_succ]
            refine tk 38 ?_ rfl (.inl ⟨by rfl, ?_⟩) ?_
            rotate_left
            · intro W hSw; go_simp; try with_reducible rfl
            try simp only [Act.put, List.setIfInBounds_toArray, List.set_cons_zero, List.set_cons_succ]
            refine tk 39 ?_ rfl (.inl ⟨by rfl, ?_⟩) ?_
            rotate_left
            · intro W hSw; go_simp; try with_reducible rfl
            try simp only [Act.put, List.setIfInBounds_toArray, List.set_cons_zero, List.set_cons_succ]
            refine wpAnyH_done (by kernel_rfl) ?_ _
            skip
            refine hKK _ _ ?_
            have HBN := Lib.hid (step_below HBW.out hHeld)
            clear hKK hHeld FQ HLX HSM
            cases rb with
            | false =>
              have HD := Lib.hid (differ HXY.out.1 HXY.out.2 (fun e => (of_decide_eq_false HKB.out.2) (congrArg (fun z => z.2.2) e)))
              go_wp2_with fail
              go_ret
              exact ⟨by rw [decide_eq_false HD.out]; rfl, HBN.out⟩
            | true =>
              have HNX := Lib.hid ((take_same HXY.out.1 HXY.out.2 HS.out).2 (by unfold wtC; rw [hxt, of_decide_eq_true HKB.out.1, of_decide_eq_true HKB.out.2]))
              go_wp2_with fail
              go_roundw
              case rel => exact ⟨k + 1, by omega, by go_num, HNX, HBN⟩
              case measure => simp [intOf]; omega
        · have HD := Lib.hid (differ HXY.out.1 HXY.out.2 (fun e => hxt (congrArg (fun z => z.1) e)))
          refine Code.wp_mono (Q := Exit.then KK (fun _ _ _ => False)) (fun e a' w' h => by cases e <;> first | exact h | exact h.elim) ?_
          refine wp_region_held_drew (S := (fun X => Below wr.heap.size wr X)) (by kernel_rfl) ((Below.refl _ _).drew) (fun hHeld => ?_)
          refine tk 0 ?_ rfl (.inl ⟨by rfl, ?_⟩) ?_
          rotate_left
          · intro W hSw; go_simp; try with_reducible rfl
          try simp only [Act.put, List.setIfInBounds_toArray, List.set_cons_zero, List.set_cons_succ]
          refine tk 1 ?_ rfl (.inl ⟨by rfl, ?_⟩) ?_
          rotate_left
          · intro W hSw; go_simp; try with_reducible rfl
          try simp only [Act.put, List.setIfInBounds_toArray, List.set_cons_zero, List.set_cons_succ]
          refine tk 2 ?_ rfl (.inl ⟨by rfl, ?_⟩) ?_
          rotate_left
          · intro W hSw; go_simp; try with_reducible rfl
          try simp only [Act.put, List.setIfInBounds_toArray, List.set_cons_zero, List.set_cons_succ]
          refine tk 3 ?_ rfl (.inl ⟨by rfl, ?_⟩) ?_
          rotate_left
          · intro W hSw; go_simp; try with_reducible rfl
          try simp only [Act.put, List.setIfInBounds_toArray, List.set_cons_zero, List.set_cons_succ]
          refine tk 4 ?_ rfl (.inl ⟨by rfl, ?_⟩) ?_
          rotate_left
          · intro W hSw; obtain ⟨z0, z1, z2, z3, z4, z5⟩ := FQ.out W hSw; go_simp; try with_reducible rfl
          try simp only [Act.put, List.setIfInBounds_toArray, List.set_cons_zero, List.set_cons_succ]
          refine tk 5 ?_ rfl (.inl ⟨by rfl, ?_⟩) ?_
          rotate_left
          · intro W hSw; go_simp; try with_reducible rfl
          try simp only [Act.put, List.setIfInBounds_toArray, List.set_cons_zero, List.set_cons_succ]
          refine tk 6 ?_ rfl (.inl ⟨by rfl, ?_⟩) ?_
          rotate_left
          · intro W hSw; go_simp; try with_reducible rfl
          try simp only [Act.put, List.setIfInBounds_toArray, List.set_cons_zero, List.set_cons_succ]
          refine tk 7 ?_ rfl (.inl ⟨by rfl, ?_⟩) ?_
          rotate_left
          · intro W hSw; go_simp; try with_reducible rfl
          try simp only [Act.put, List.setIfInBounds_toArray, List.set_cons_zero, List.set_cons_succ]
          refine tk 8 ?_ rfl (.inl ⟨by rfl, ?_⟩) ?_
          rotate_left
          · intro W hSw; go_simp; try with_reducible rfl
          try simp only [Act.put, List.setIfInBounds_toArray, List.set_cons_zero, List.set_cons_succ]
          refine tk 9 ?_ rfl (.inl ⟨by rfl, ?_⟩) ?_
          rotate_left
          · intro W hSw; obtain ⟨z0, z1, z2, z3, z4, z5⟩ := FQ.out W hSw; go_simp; try with_reducible rfl
          try simp only [Act.put, List.setIfInBounds_toArray, List.set_cons_zero, List.set_cons_succ]
          refine tk 10 (.bool true) rfl (.inl ⟨by rfl, ?_⟩) ?_
          · intro W hSw; go_simp; try simp [hxt]
          try simp only [Act.put, List.setIfInBounds_toArray, List.set_cons_zero, List.set_cons_succ]
          refine tk 11 (.bool true) rfl (.inl ⟨by rfl, ?_⟩) ?_
          · intro W hSw; go_simp; try rfl
          try simp only [Act.put, List.setIfInBounds_toArray, List.set_cons_zero, List.set_cons_succ]
          refine tk 12 (undef) rfl (.inr ⟨by rfl, rfl⟩) ?_
          try simp only [Act.put, List.setIfInBounds_toArray, List.set_cons_zero, List.set_cons_succ]
          refine tk 13 (undef) rfl (.inr ⟨by rfl, rfl⟩) ?_
          try simp only [Act.put, List.setIfInBounds_toArray, List.set_cons_zero, List.set_cons_succ]
          refine tk 14 (undef) rfl (.inr ⟨by rfl, rfl⟩) ?_
          try simp only [Act.put, List.setIfInBounds_toArray, List.set_cons_zero, List.set_cons_succ]
          refine tk 15 (undef) rfl (.inr ⟨by rfl, rfl⟩) ?_
          try simp only [Act.put, List.setIfInBounds_toArray, List.set_cons_zero, List.set_cons_succ]
          refine tk 16 (undef) rfl (.inr ⟨by rfl, rfl⟩) ?_
          try simp only [Act.put, List.setIfInBounds_toArray, List.set_cons_zero, List.set_cons_succ]
          refine tk 17 (undef) rfl (.inr ⟨by rfl, rfl⟩) ?_
          try simp only [Act.put, List.setIfInBounds_toArray, List.set_cons_zero, List.set_cons_succ]
          refine tk 18 (undef) rfl (.inr ⟨by rfl, rfl⟩) ?_
          try simp only [Act.put, List.setIfInBounds_toArray, List.set_cons_zero, List.set_cons_succ]
          refine tk 19 (undef) rfl (.inr ⟨by rfl, rfl⟩) ?_
          try simp only [Act.put, List.setIfInBounds_toArray, List.set_cons_zero, List.set_cons_succ]
          refine tk 20 (undef) rfl (.inr ⟨by rfl, rfl⟩) ?_
          try simp only [Act.put, List.setIfInBounds_toArray, List.set_cons_zero, List.set_cons_succ]
          refine tk 21 (undef) rfl (.inr ⟨by rfl, rfl⟩) ?_
          try simp only [Act.put, List.setIfInBounds_toArray, List.set_cons_zero, List.set_cons_succ]
          refine tk 22 (undef) rfl (.inr ⟨by rfl, rfl⟩) ?_
          try simp only [Act.put, List.setIfInBounds_toArray, List.set_cons_zero, List.set_cons_succ]
          refine tk 23 (undef) rfl (.inr ⟨by rfl, rfl⟩) ?_
          try simp only [Act.put, List.setIfInBounds_toArray, List.set_cons_zero, List.set_cons_succ]
          refine tk 24 (undef) rfl (.inr ⟨by rfl, rfl⟩) ?_
          try simp only [Act.put, List.setIfInBounds_toArray, List.set_cons_zero, List.set_cons_succ]
          refine tk 25 ?_ rfl (.inl ⟨by rfl, ?_⟩) ?_
          rotate_left
          · intro W hSw; go_simp; try with_reducible rfl
          try simp only [Act.put, List.setIfInBounds_toArray, List.set_cons_zero, List.set_cons_succ]
          refine tk 26 (.bool true) rfl (.inl ⟨by rfl, ?_⟩) ?_
          · intro W hSw; go_simp; try rfl
          try simp only [Act.put, List.setIfInBounds_toArray, List.set_cons_zero, List.set_cons_succ]
          refine tk 27 (undef) rfl (.inr ⟨by rfl, rfl⟩) ?_
          try simp only [Act.put, List.setIfInBounds_toArray, List.set_cons_zero, List.set_cons_succ]
          refine tk 28 (undef) rfl (.inr ⟨by rfl, rfl⟩) ?_
          try simp only [Act.put, List.setIfInBounds_toArray, List.set_cons_zero, List.set_cons_succ]
          refine tk 29 (undef) rfl (.inr ⟨by rfl, rfl⟩) ?_
          try simp only [Act.put, List.setIfInBounds_toArray, List.set_cons_zero, List.set_cons_succ]
          refine tk 30 (undef) rfl (.inr ⟨by rfl, rfl⟩) ?_
          try simp only [Act.put, List.setIfInBounds_toArray, List.set_cons_zero, List.set_cons_succ]
          refine tk 31 (undef) rfl (.inr ⟨by rfl, rfl⟩) ?_
          try simp only [Act.put, List.setIfInBounds_toArray, List.set_cons_zero, List.set_cons_succ]
          refine tk 32 (undef) rfl (.inr ⟨by rfl, rfl⟩) ?_
          try simp only [Act.put, List.setIfInBounds_toArray, List.set_cons_zero, List.set_cons_succ]
          refine tk 33 (undef) rfl (.inr ⟨by rfl, rfl⟩) ?_
          try simp only [Act.put, List.setIfInBounds_toArray, List.set_cons_zero, List.set_cons_succ]
          refine tk 34 (undef) rfl (.inr ⟨by rfl, rfl⟩) ?_
          try simp only [Act.put, List.setIfInBounds_toArray, List.set_cons_zero, List.set_cons_succ]
          refine tk 35 (undef) rfl (.inr ⟨by rfl, rfl⟩) ?_
          try simp only [Act.put, List.setIfInBounds_toArray, List.set_cons_zero, List.set_cons_succ]
          refine tk 36 (undef) rfl (.inr ⟨by rfl, rfl⟩) ?_
          try simp only [Act.put, List.setIfInBounds_toArray, List.set_cons_zero, List.set_cons_succ]
          refine tk 37 (undef) rfl (.inr ⟨by rfl, rfl⟩) ?_
          try simp only [Act.put, List.setIfInBounds_toArray, List.set_cons_zero, List.set_cons_succ]
          refine tk 38 (undef) rfl (.inr ⟨by rfl, rfl⟩) ?_
          try simp only [Act.put, List.setIfInBounds_toArray, List.set_cons_zero, List.set_cons_succ]
          refine tk 39 ?_ rfl (.inl ⟨by rfl, ?_⟩) ?_
          rotate_left
          · intro W hSw; go_simp; try with_reducible rfl
          try simp only [Act.put, List.setIfInBounds_toArray, List.set_cons_zero, List.set_cons_succ]
          refine wpAnyH_done (by kernel_rfl) ?_ _
          skip
          refine hKK _ _ ?_
          have HBN := Lib.hid (step_below HBW.out hHeld)
          clear hKK hHeld FQ HLX
          go_wp2_with fail
          go_ret
          exact ⟨by rw [decide_eq_false HD.out]; rfl, HBN.out⟩
      · obtain rfl : k = n := by omega
        have dl : ¬ (k : Int) < (k : Int) := by omega
        have HE := Lib.hid (show A.map wtC = B.map wtC by have := HS.out; rwa [List.take_of_length_le (by rw [List.length_map, HN.out.1]; omega), List.take_of_length_le (by rw [List.length_map, HN.out.2]; omega)] at this)
        go_wp2_with fail
        go_ret
        exact ⟨by rw [decide_eq_true HE.out]; rfl, HBW.out⟩
  · have e0 : ((n : Int) != (m : Int)) = true := by simp; omega
    have e1 : ((n : Int) == (m : Int)) = false := by rw [beq_eq_false_iff_ne]; omega
    have HD := Lib.hid (show A.map wtC ≠ B.map wtC from fun e => hl (by have := congrArg List.length e; rw [List.length_map, List.length_map, HN.out.1, HN.out.2] at this; exact this))
    go_wp2_with fail
    go_ret
    exact ⟨by rw [decide_eq_false HD.out]; rfl, Below.refl _ _⟩
end Go.Proofs.YtglkndoghnblcaaGreat
namespace Go.Proofs.YtglkndoghnblcaaGreat
open Go.ChangeShapes Go.WideShapes Go.ChangeAt Go.RowKit
set_option linter.unusedVariables false
set_option linter.unusedSimpArgs false
/-- A transaction, as it lies. -/
structure TxQ where
  e : Int
  s : Int
  a : Option Addr
  c : Nat
  ws : List WtP
/-- Transactions in a row. -/
def TxqR (W : World) (a : Option Addr) (xs : List TxQ) : Prop := ∀ (k : Nat) (x : TxQ), xs[k]? = some x → ∃ b off, a = some ⟨b, off, none⟩ ∧ W.cell? ⟨b, off + k * 3, none⟩ = some (.int .i64 x.e) ∧ W.cell? ⟨b, off + k * 3 + 1, none⟩ = some (.int .i64 x.s) ∧ W.cell? ⟨b, off + k * 3 + 2, none⟩ = some (.slice x.a x.ws.length x.c) ∧ WtsR W x.a x.ws
theorem TxqR.below {W W' : World} {a : Option Addr} {xs : List TxQ} (h : TxqR W a xs) (hb : Below W.heap.size W W') : TxqR W' a xs := fun k x hx => by
  obtain ⟨b, off, e, c0, c1, c2, ok⟩ := h k x hx
  exact ⟨b, off, e, (hb.cell (cell_lt c0)).trans c0, (hb.cell (cell_lt c1)).trans c1, (hb.cell (cell_lt c2)).trans c2, ok.below hb⟩
abbrev T3c := Int × Int × List W3c
instance decW3c : DecidableEq W3c := instDecidableEqProd
instance decT3c : DecidableEq T3c := instDecidableEqProd
def txC (x : TxQ) : T3c := (x.e, x.s, x.ws.map wtC)
def TxqB (x : TxQ) : Prop := x.ws.length ≤ 1000000 ∧ ∀ p ∈ x.ws, p.R.length ≤ 1000000
set_option maxRecDepth 100000 in
set_option maxHeartbeats 2000000 in
/-- The document's SameTxns (22). -/
theorem stxns_law (a b : Option Addr) (A B : List TxQ) (n m ca cb : Nat) (hn : A.length = n) (hm : B.length = m) (hn2 : n ≤ 1000000) (hm2 : m ≤ 1000000) (hA : ∀ p ∈ A, TxqB p) (hB : ∀ p ∈ B, TxqB p) (w : World) (hRA : TxqR w a A) (hRB : TxqR w b B) :
    Calls Tryz.prog 22 #[.slice a n ca, .slice b m cb] w fun r w' => r = .returned (.bool (decide (A.map txC = B.map txC))) ∧ Below w.heap.size w w' := by
  have HR := Lib.hid (And.intro hRA hRB)
  have HN := Lib.hid (And.intro hn hm)
  have HRL := Lib.hid (And.intro hA hB)
  clear hn hm hA hB hRA hRB
  go_enter Tryz.func22, Tryz.ntmps22
  by_cases hl : n = m
  · subst hl
    have e0 : ((n : Int) != (n : Int)) = false := by simp
    go_wp2_with fail
    go_loopw [5] (fun j wr => ∃ k : Nat, k ≤ n ∧ j = .int .i64 (k : Int) ∧ Hid ((A.map txC).take k = (B.map txC).take k) ∧ Hid (Below w.heap.size w wr)) (fun j _ => n - (intOf j).toNat)
    case atStart => exact ⟨0, Nat.zero_le _, rfl, Lib.hid (by simp), Lib.hid (Below.refl _ _)⟩
    case round =>
      obtain ⟨k, hk, rfl, HS, HBW⟩ := hrel
      by_cases hlt : k < n
      · have dl : (k : Int) < (n : Int) := by omega
        obtain ⟨x, hx⟩ : ∃ x, A[k]? = some x := ⟨_, List.getElem?_eq_getElem (by rw [HN.out.1]; exact hlt)⟩
        obtain ⟨y, hy⟩ : ∃ y, B[k]? = some y := ⟨_, List.getElem?_eq_getElem (by rw [HN.out.2]; exact hlt)⟩
        obtain ⟨b1, o1, rfl, c1, c2, c3, l1⟩ := (HR.out.1.below HBW.out) k x hx
        obtain ⟨b2, o2, rfl, c4, c5, c6, l2⟩ := (HR.out.2.below HBW.out) k y hy
        have FQ := Lib.hid (fun X (b : Below wr.heap.size wr X) => (⟨(b.cell (cell_lt c1)).trans c1, (b.cell (cell_lt c2)).trans c2, (b.cell (cell_lt c3)).trans c3, (b.cell (cell_lt c4)).trans c4, (b.cell (cell_lt c5)).trans c5, (b.cell (cell_lt c6)).trans c6⟩ : X.cell? ⟨b1, o1 + k * 3, none⟩ = some (.int .i64 x.e) ∧ X.cell? ⟨b1, o1 + k * 3 + 1, none⟩ = some (.int .i64 x.s) ∧ X.cell? ⟨b1, o1 + k * 3 + 2, none⟩ = some (.slice x.a x.ws.length x.c) ∧ X.cell? ⟨b2, o2 + k * 3, none⟩ = some (.int .i64 y.e) ∧ X.cell? ⟨b2, o2 + k * 3 + 1, none⟩ = some (.int .i64 y.s) ∧ X.cell? ⟨b2, o2 + k * 3 + 2, none⟩ = some (.slice y.a y.ws.length y.c)))
        have HXY := Lib.hid (show (A.map txC)[k]? = some (txC x) ∧ (B.map txC)[k]? = some (txC y) by rw [List.getElem?_map, List.getElem?_map, hx, hy]; exact ⟨rfl, rfl⟩)
        obtain ⟨p1, p2⟩ := HRL.out.1 x (List.mem_of_getElem? hx)
        obtain ⟨p3, p4⟩ := HRL.out.2 y (List.mem_of_getElem? hy)
        have HSM := Lib.hid (fun W (b : Below wr.heap.size wr W) => swrites_law x.a y.a x.ws y.ws x.ws.length y.ws.length x.c y.c rfl rfl p1 p3 p2 p4 W (l1.below b) (l2.below b))
        obtain ⟨rb, hrb⟩ : ∃ rb, decide (x.ws.map wtC = y.ws.map wtC) = rb := ⟨_, rfl⟩
        rw [hrb] at HSM
        have HKB := Lib.hid hrb
        clear hx hy c1 c2 c3 c4 c5 c6 l1 l2 hrb p1 p2 p3 p4
        go_upto_region 6 with (fail)
        rename_i KK hKK
        by_cases hxt : x.e = y.e ∧ x.s = y.s
        · refine Code.wp_mono (Q := Exit.then KK (fun _ _ _ => False)) (fun e a' w' h => by cases e <;> first | exact h | exact h.elim) ?_
          refine wp_region_held_drew (S := (fun X => Below wr.heap.size wr X)) (by kernel_rfl) ((Below.refl _ _).drew) (fun hHeld => ?_)
          refine tk 0 ?_ rfl (.inl ⟨by rfl, ?_⟩) ?_
          rotate_left
          · intro W hSw; go_simp; try with_reducible rfl
          try simp only [Act.put, List.setIfInBounds_toArray, List.set_cons_zero, List.set_cons_succ]
          refine tk 1 ?_ rfl (.inl ⟨by rfl, ?_⟩) ?_
          rotate_left
          · intro W hSw; go_simp; try with_reducible rfl
          try simp only [Act.put, List.setIfInBounds_toArray, List.set_cons_zero, List.set_cons_succ]
          refine tk 2 ?_ rfl (.inl ⟨by rfl, ?_⟩) ?_
          rotate_left
          · intro W hSw; go_simp; try with_reducible rfl
          try simp only [Act.put, List.setIfInBounds_toArray, List.set_cons_zero, List.set_cons_succ]
          refine tk 3 ?_ rfl (.inl ⟨by rfl, ?_⟩) ?_
          rotate_left
          · intro W hSw; go_simp; try with_reducible rfl
          try simp only [Act.put, List.setIfInBounds_toArray, List.set_cons_zero, List.set_cons_succ]
          refine tk 4 ?_ rfl (.inl ⟨by rfl, ?_⟩) ?_
          rotate_left
          · intro W hSw; obtain ⟨z0, z1, z2, z3, z4, z5⟩ := FQ.out W hSw; go_simp; try with_reducible rfl
          try simp only [Act.put, List.setIfInBounds_toArray, List.set_cons_zero, List.set_cons_succ]
          refine tk 5 ?_ rfl (.inl ⟨by rfl, ?_⟩) ?_
          rotate_left
          · intro W hSw; go_simp; try with_reducible rfl
          try simp only [Act.put, List.setIfInBounds_toArray, List.set_cons_zero, List.set_cons_succ]
          refine tk 6 ?_ rfl (.inl ⟨by rfl, ?_⟩) ?_
          rotate_left
          · intro W hSw; go_simp; try with_reducible rfl
          try simp only [Act.put, List.setIfInBounds_toArray, List.set_cons_zero, List.set_cons_succ]
          refine tk 7 ?_ rfl (.inl ⟨by rfl, ?_⟩) ?_
          rotate_left
          · intro W hSw; go_simp; try with_reducible rfl
          try simp only [Act.put, List.setIfInBounds_toArray, List.set_cons_zero, List.set_cons_succ]
          refine tk 8 ?_ rfl (.inl ⟨by rfl, ?_⟩) ?_
          rotate_left
          · intro W hSw; go_simp; try with_reducible rfl
          try simp only [Act.put, List.setIfInBounds_toArray, List.set_cons_zero, List.set_cons_succ]
          refine tk 9 ?_ rfl (.inl ⟨by rfl, ?_⟩) ?_
          rotate_left
          · intro W hSw; obtain ⟨z0, z1, z2, z3, z4, z5⟩ := FQ.out W hSw; go_simp; try with_reducible rfl
          try simp only [Act.put, List.setIfInBounds_toArray, List.set_cons_zero, List.set_cons_succ]
          refine tk 10 (.bool false) rfl (.inl ⟨by rfl, ?_⟩) ?_
          · intro W hSw; go_simp; try simp [hxt.1, hxt.2, Op.equal, go_sem]
          try simp only [Act.put, List.setIfInBounds_toArray, List.set_cons_zero, List.set_cons_succ]
          refine tk 11 (.bool false) rfl (.inl ⟨by rfl, ?_⟩) ?_
          · intro W hSw; go_simp; try rfl
          try simp only [Act.put, List.setIfInBounds_toArray, List.set_cons_zero, List.set_cons_succ]
          refine tk 12 ?_ rfl (.inl ⟨by rfl, ?_⟩) ?_
          rotate_left
          · intro W hSw; go_simp; try with_reducible rfl
          try simp only [Act.put, List.setIfInBounds_toArray, List.set_cons_zero, List.set_cons_succ]
          refine tk 13 ?_ rfl (.inl ⟨by rfl, ?_⟩) ?_
          rotate_left
          · intro W hSw; go_simp; try with_reducible rfl
          try simp only [Act.put, List.setIfInBounds_toArray, List.set_cons_zero, List.set_cons_succ]
          refine tk 14 ?_ rfl (.inl ⟨by rfl, ?_⟩) ?_
          rotate_left
          · intro W hSw; go_simp; try with_reducible rfl
          try simp only [Act.put, List.setIfInBounds_toArray, List.set_cons_zero, List.set_cons_succ]
          refine tk 15 ?_ rfl (.inl ⟨by rfl, ?_⟩) ?_
          rotate_left
          · intro W hSw; go_simp; try with_reducible rfl
          try simp only [Act.put, List.setIfInBounds_toArray, List.set_cons_zero, List.set_cons_succ]
          refine tk 16 ?_ rfl (.inl ⟨by rfl, ?_⟩) ?_
          rotate_left
          · intro W hSw; obtain ⟨z0, z1, z2, z3, z4, z5⟩ := FQ.out W hSw; go_simp; try with_reducible rfl
          try simp only [Act.put, List.setIfInBounds_toArray, List.set_cons_zero, List.set_cons_succ]
          refine tk 17 ?_ rfl (.inl ⟨by rfl, ?_⟩) ?_
          rotate_left
          · intro W hSw; go_simp; try with_reducible rfl
          try simp only [Act.put, List.setIfInBounds_toArray, List.set_cons_zero, List.set_cons_succ]
          refine tk 18 ?_ rfl (.inl ⟨by rfl, ?_⟩) ?_
          rotate_left
          · intro W hSw; go_simp; try with_reducible rfl
          try simp only [Act.put, List.setIfInBounds_toArray, List.set_cons_zero, List.set_cons_succ]
          refine tk 19 ?_ rfl (.inl ⟨by rfl, ?_⟩) ?_
          rotate_left
          · intro W hSw; go_simp; try with_reducible rfl
          try simp only [Act.put, List.setIfInBounds_toArray, List.set_cons_zero, List.set_cons_succ]
          refine tk 20 ?_ rfl (.inl ⟨by rfl, ?_⟩) ?_
          rotate_left
          · intro W hSw; go_simp; try with_reducible rfl
          try simp only [Act.put, List.setIfInBounds_toArray, List.set_cons_zero, List.set_cons_succ]
          refine tk 21 ?_ rfl (.inl ⟨by rfl, ?_⟩) ?_
          rotate_left
          · intro W hSw; obtain ⟨z0, z1, z2, z3, z4, z5⟩ := FQ.out W hSw; go_simp; try with_reducible rfl
          try simp only [Act.put, List.setIfInBounds_toArray, List.set_cons_zero, List.set_cons_succ]
          refine wpAnyH_ready (rs := [22]) (by kernel_rfl) (by simp) ?_
          refine AllReadyH.cons (o := { dst := some 39, op := Op.call { callee := Callee.value (Operand.func 62), args := #[Operand.tmp 33, Operand.tmp 38], argTypes := #[37, 37] }, type := 4, pos := "ref.go:457", after := #[{ on := 16, ground := Ground.data }, { on := 21, ground := Ground.data }, { on := 11, ground := Ground.chain }, { on := 11, ground := Ground.guard }], guard := some (11, false) }) rfl (fun K hK => ?_) AllReadyH.nil
          go_simp
          refine (HSM.out _ hHeld).mono ?_; rintro e9 w3 ⟨rfl, hb3⟩
          go_wp2_with fail
          refine hK.out _ _ (step_below hHeld hb3) (fun hHeldn => ?_)
          clear hK K hHeld; have hHeld := hHeldn; clear hHeldn
          try simp only [Act.put, List.setIfInBounds_toArray, List.set_cons_zero, List.set_cons_succ]
          refine tk 23 ?_ rfl (.inl ⟨by rfl, ?_⟩) ?_
          rotate_left
          · intro W hSw; go_simp; try with_reducible rfl
          try simp only [Act.put, List.setIfInBounds_toArray, List.set_cons_zero, List.set_cons_succ]
          refine tk 24 ?_ rfl (.inl ⟨by rfl, ?_⟩) ?_
          rotate_left
          · intro W hSw; go_simp; try with_reducible rfl
          try simp only [Act.put, List.setIfInBounds_toArray, List.set_cons_zero, List.set_cons_succ]
          refine wpAnyH_done (by kernel_rfl) ?_ _
          skip
          refine hKK _ _ ?_
          have HBN := Lib.hid (step_below HBW.out hHeld)
          clear hKK hHeld FQ HSM
          cases rb with
          | false =>
            have HD := Lib.hid (differ HXY.out.1 HXY.out.2 (fun e => (of_decide_eq_false HKB.out) (congrArg (fun z => z.2.2) e)))
            go_wp2_with fail
            go_ret
            exact ⟨by rw [decide_eq_false HD.out]; rfl, HBN.out⟩
          | true =>
            have HNX := Lib.hid ((take_same HXY.out.1 HXY.out.2 HS.out).2 (by unfold txC; rw [hxt.1, hxt.2, of_decide_eq_true HKB.out]))
            go_wp2_with fail
            go_roundw
            case rel => exact ⟨k + 1, by omega, by go_num, HNX, HBN⟩
            case measure => simp [intOf]; omega
        · have HD := Lib.hid (differ HXY.out.1 HXY.out.2 (fun e => hxt ⟨congrArg (fun z => z.1) e, congrArg (fun z => z.2.1) e⟩))
          refine Code.wp_mono (Q := Exit.then KK (fun _ _ _ => False)) (fun e a' w' h => by cases e <;> first | exact h | exact h.elim) ?_
          refine wp_region_held_drew (S := (fun X => Below wr.heap.size wr X)) (by kernel_rfl) ((Below.refl _ _).drew) (fun hHeld => ?_)
          refine tk 0 ?_ rfl (.inl ⟨by rfl, ?_⟩) ?_
          rotate_left
          · intro W hSw; go_simp; try with_reducible rfl
          try simp only [Act.put, List.setIfInBounds_toArray, List.set_cons_zero, List.set_cons_succ]
          refine tk 1 ?_ rfl (.inl ⟨by rfl, ?_⟩) ?_
          rotate_left
          · intro W hSw; go_simp; try with_reducible rfl
          try simp only [Act.put, List.setIfInBounds_toArray, List.set_cons_zero, List.set_cons_succ]
          refine tk 2 ?_ rfl (.inl ⟨by rfl, ?_⟩) ?_
          rotate_left
          · intro W hSw; go_simp; try with_reducible rfl
          try simp only [Act.put, List.setIfInBounds_toArray, List.set_cons_zero, List.set_cons_succ]
          refine tk 3 ?_ rfl (.inl ⟨by rfl, ?_⟩) ?_
          rotate_left
          · intro W hSw; go_simp; try with_reducible rfl
          try simp only [Act.put, List.setIfInBounds_toArray, List.set_cons_zero, List.set_cons_succ]
          refine tk 4 ?_ rfl (.inl ⟨by rfl, ?_⟩) ?_
          rotate_left
          · intro W hSw; obtain ⟨z0, z1, z2, z3, z4, z5⟩ := FQ.out W hSw; go_simp; try with_reducible rfl
          try simp only [Act.put, List.setIfInBounds_toArray, List.set_cons_zero, List.set_cons_succ]
          refine tk 5 ?_ rfl (.inl ⟨by rfl, ?_⟩) ?_
          rotate_left
          · intro W hSw; go_simp; try with_reducible rfl
          try simp only [Act.put, List.setIfInBounds_toArray, List.set_cons_zero, List.set_cons_succ]
          refine tk 6 ?_ rfl (.inl ⟨by rfl, ?_⟩) ?_
          rotate_left
          · intro W hSw; go_simp; try with_reducible rfl
          try simp only [Act.put, List.setIfInBounds_toArray, List.set_cons_zero, List.set_cons_succ]
          refine tk 7 ?_ rfl (.inl ⟨by rfl, ?_⟩) ?_
          rotate_left
          · intro W hSw; go_simp; try with_reducible rfl
          try simp only [Act.put, List.setIfInBounds_toArray, List.set_cons_zero, List.set_cons_succ]
          refine tk 8 ?_ rfl (.inl ⟨by rfl, ?_⟩) ?_
          rotate_left
          · intro W hSw; go_simp; try with_reducible rfl
          try simp only [Act.put, List.setIfInBounds_toArray, List.set_cons_zero, List.set_cons_succ]
          refine tk 9 ?_ rfl (.inl ⟨by rfl, ?_⟩) ?_
          rotate_left
          · intro W hSw; obtain ⟨z0, z1, z2, z3, z4, z5⟩ := FQ.out W hSw; go_simp; try with_reducible rfl
          try simp only [Act.put, List.setIfInBounds_toArray, List.set_cons_zero, List.set_cons_succ]
          refine tk 10 (.bool true) rfl (.inl ⟨by rfl, ?_⟩) ?_
          · intro W hSw; go_simp; try (first | exact fun h9 h10 => hxt ⟨h9, h10⟩ | (simp [Op.equal, go_sem]; exact fun h9 h10 => hxt ⟨h9, h10⟩) | (simp; exact fun h9 h10 => hxt ⟨h9, h10⟩))
          try simp only [Act.put, List.setIfInBounds_toArray, List.set_cons_zero, List.set_cons_succ]
          refine tk 11 (.bool true) rfl (.inl ⟨by rfl, ?_⟩) ?_
          · intro W hSw; go_simp; try rfl
          try simp only [Act.put, List.setIfInBounds_toArray, List.set_cons_zero, List.set_cons_succ]
          refine tk 12 (undef) rfl (.inr ⟨by rfl, rfl⟩) ?_
          try simp only [Act.put, List.setIfInBounds_toArray, List.set_cons_zero, List.set_cons_succ]
          refine tk 13 (undef) rfl (.inr ⟨by rfl, rfl⟩) ?_
          try simp only [Act.put, List.setIfInBounds_toArray, List.set_cons_zero, List.set_cons_succ]
          refine tk 14 (undef) rfl (.inr ⟨by rfl, rfl⟩) ?_
          try simp only [Act.put, List.setIfInBounds_toArray, List.set_cons_zero, List.set_cons_succ]
          refine tk 15 (undef) rfl (.inr ⟨by rfl, rfl⟩) ?_
          try simp only [Act.put, List.setIfInBounds_toArray, List.set_cons_zero, List.set_cons_succ]
          refine tk 16 (undef) rfl (.inr ⟨by rfl, rfl⟩) ?_
          try simp only [Act.put, List.setIfInBounds_toArray, List.set_cons_zero, List.set_cons_succ]
          refine tk 17 (undef) rfl (.inr ⟨by rfl, rfl⟩) ?_
          try simp only [Act.put, List.setIfInBounds_toArray, List.set_cons_zero, List.set_cons_succ]
          refine tk 18 (undef) rfl (.inr ⟨by rfl, rfl⟩) ?_
          try simp only [Act.put, List.setIfInBounds_toArray, List.set_cons_zero, List.set_cons_succ]
          refine tk 19 (undef) rfl (.inr ⟨by rfl, rfl⟩) ?_
          try simp only [Act.put, List.setIfInBounds_toArray, List.set_cons_zero, List.set_cons_succ]
          refine tk 20 (undef) rfl (.inr ⟨by rfl, rfl⟩) ?_
          try simp only [Act.put, List.setIfInBounds_toArray, List.set_cons_zero, List.set_cons_succ]
          refine tk 21 (undef) rfl (.inr ⟨by rfl, rfl⟩) ?_
          try simp only [Act.put, List.setIfInBounds_toArray, List.set_cons_zero, List.set_cons_succ]
          refine tk 22 (undef) rfl (.inr ⟨by rfl, rfl⟩) ?_
          try simp only [Act.put, List.setIfInBounds_toArray, List.set_cons_zero, List.set_cons_succ]
          refine tk 23 (undef) rfl (.inr ⟨by rfl, rfl⟩) ?_
          try simp only [Act.put, List.setIfInBounds_toArray, List.set_cons_zero, List.set_cons_succ]
          refine tk 24 ?_ rfl (.inl ⟨by rfl, ?_⟩) ?_
          rotate_left
          · intro W hSw; go_simp; try with_reducible rfl
          try simp only [Act.put, List.setIfInBounds_toArray, List.set_cons_zero, List.set_cons_succ]
          refine wpAnyH_done (by kernel_rfl) ?_ _
          skip
          refine hKK _ _ ?_
          have HBN := Lib.hid (step_below HBW.out hHeld)
          clear hKK hHeld FQ
          go_wp2_with fail
          go_ret
          exact ⟨by rw [decide_eq_false HD.out]; rfl, HBN.out⟩
      · obtain rfl : k = n := by omega
        have dl : ¬ (k : Int) < (k : Int) := by omega
        have HE := Lib.hid (show A.map txC = B.map txC by have := HS.out; rwa [List.take_of_length_le (by rw [List.length_map, HN.out.1]; omega), List.take_of_length_le (by rw [List.length_map, HN.out.2]; omega)] at this)
        go_wp2_with fail
        go_ret
        exact ⟨by rw [decide_eq_true HE.out]; rfl, HBW.out⟩
  · have e0 : ((n : Int) != (m : Int)) = true := by simp; omega
    have e1 : ((n : Int) == (m : Int)) = false := by rw [beq_eq_false_iff_ne]; omega
    have HD := Lib.hid (show A.map txC ≠ B.map txC from fun e => hl (by have := congrArg List.length e; rw [List.length_map, List.length_map, HN.out.1, HN.out.2] at this; exact this))
    go_wp2_with fail
    go_ret
    exact ⟨by rw [decide_eq_false HD.out]; rfl, Below.refl _ _⟩
end Go.Proofs.YtglkndoghnblcaaGreat
namespace Go.Proofs.YtglkndoghnblcaaGreat
open Go.ChangeShapes Go.WideShapes Go.ChangeAt Go.RowKit
set_option linter.unusedVariables false
set_option linter.unusedSimpArgs false
/-- A transaction of one write of the law's. -/
def LtR (w : World) (e s : Int) (st : ByteArray) (r : Ending) (w' : World) : Prop :=
  ∃ g p, r = .returned (.agg #[.int .i64 e, .int .i64 s, .slice (some ⟨g, 0, none⟩) 1 1]) ∧ w'.ownsRow w.heap.size 51 3 (.slice (some ⟨g, 0, none⟩) 1 1) 1 p.cells ∧ WtOk w' p ∧ p.tab = 0 ∧ p.key = byts st ∧ p.R.map P1.bs = [[97]] ∧ Below w.heap.size w w'
theorem cell_oth (W : World) (B o : Nat) (v : Value) (p : Addr) (h : p.block ≠ B) : (W.setCell ⟨B, o, none⟩ v).cell? p = W.cell? p := by
  have h1 := Below.heap_setCell W ⟨B, o, none⟩ v p.block h
  simp only [World.cell?, h1]
theorem Ls.off {K : IntKind} {W : World} {a : Option Addr} {cap B o : Nat} {v : Value} {L : List Int} (h : Ls K W a cap L) (hne : ∀ b, a = some b → b.block ≠ B) : Ls K (W.setCell ⟨B, o, none⟩ v) a cap L :=
  ⟨fun k hk => by
    obtain ⟨b, off, e, hc⟩ := h.rd k hk
    exact ⟨b, off, e, (cell_oth W B o v ⟨b, off + k, none⟩ (hne ⟨b, off, none⟩ e)).trans hc⟩, h.nl, h.le⟩
theorem RdR.off {W : World} {a : Option Addr} {B o : Nat} {v : Value} {R : List P1} (h : RdR W a R) (hne : ∀ b, a = some b → b.block ≠ B) (hall : ∀ p ∈ R, ∀ b, p.ad = some b → b.block ≠ B) : RdR (W.setCell ⟨B, o, none⟩ v) a R := fun k x hx => by
  obtain ⟨b, off, e, hc, hl⟩ := h k x hx
  exact ⟨b, off, e, (cell_oth W B o v ⟨b, off + k, none⟩ (hne ⟨b, off, none⟩ e)).trans hc, hl.off (hall x (List.mem_of_getElem? hx))⟩
theorem own_new3 {w : World} {base : Nat} {cs : Array Value} {ty : TypeId} {n sz : Nat} (hb : base ≤ w.heap.size) (hc : cs.size = n * sz) (hn : n ≤ maxLen) : (w.alloc (.cells cs ty)).ownsRow base ty sz (.slice (some ⟨w.heap.size, 0, none⟩) n n) n cs.toList := by
  refine ⟨by simpa using hc, .inr ⟨w.heap.size, n, cs, rfl, hb, World.alloc_heap_new _ _, Nat.le_refl _, hn, hc, ?_⟩⟩
  rw [List.take_of_length_le (by simp [hc])]
set_option maxRecDepth 100000 in
set_option maxHeartbeats 4000000 in
/-- The law's txn (48). -/
theorem ltxn_law (e s : Int) (st : ByteArray) (w : World) : Calls Tryz.prog 48 #[.int .i64 e, .int .i64 s, .string st] w (LtR w e s st) := by
  have kc := fun (w : World) (C : Array Value) (n c b : Nat) (hb : b = w.heap.size) => (by subst hb; exact Lib.run_convert_bytes_const w 22 5 C n c Tryz.underlying22 Tryz.underlying5 : (convert 22 22 (.slice (some ⟨b, 0, none⟩) n c)).run Tryz.prog (w.alloc (.cells C 5)) = .ok (.slice (some ⟨b, 0, none⟩) n c) (w.alloc (.cells C 5 (C.size, C.size + 1))))
  obtain ⟨W1, hW1⟩ : ∃ W1, w.alloc (.cells #[.int .i64 0, .int .i64 0, .slice none 0 0] 39) = W1 := ⟨_, rfl⟩
  have hs1 : W1.heap.size = w.heap.size + 1 := by rw [← hW1]; simp
  have bx1 : BoxC W1 w.heap.size #[.int .i64 0, .int .i64 0, .slice none 0 0] 39 := by rw [← hW1]; exact BoxC.new _ _ _
  have hb1 : Below w.heap.size w W1 := by rw [← hW1]; exact bl1 _ _
  have cs := conv_str W1 st
  obtain ⟨kq, hkq⟩ : ∃ kq, grownCap W1 st.size 0 5 = kq := ⟨_, rfl⟩
  obtain ⟨W2, hW2⟩ : ∃ W2, Lib.bytesWorld W1 5 st = W2 := ⟨_, rfl⟩
  have hls := str_ls W1 st
  have hbb := bytes_below W1 st
  rw [hkq, hW2, hs1] at hls
  rw [hkq, hW2, hs1] at cs
  rw [hW2] at hbb
  have hs2 : W2.heap.size = w.heap.size + 1 + 1 := by rw [← hW2, Lib.bytesWorld_size, hs1]
  have bx2 := bx1.below hbb
  have hb2 := step_below hb1 hbb
  have HB2 := Lib.hid hb2
  have HLS := Lib.hid hls
  have kc2 : (convert 22 22 (.slice (some ⟨w.heap.size + 1 + 1, 0, none⟩) 1 1)).run Tryz.prog (W2.alloc (.cells #[.int .u8 97] 5)) = .ok (.slice (some ⟨w.heap.size + 1 + 1, 0, none⟩) 1 1) (W2.alloc (.cells #[.int .u8 97] 5 (1, 2))) := kc W2 _ 1 1 _ hs2.symm
  obtain ⟨W3, hW3⟩ : ∃ W3, W2.alloc (.cells #[.int .u8 97] 5 (1, 2)) = W3 := ⟨_, rfl⟩
  have hs3 : W3.heap.size = w.heap.size + 1 + 1 + 1 := by rw [← hW3, World.size_alloc, hs2]
  have bx3 : BoxC W3 w.heap.size #[.int .i64 0, .int .i64 0, .slice none 0 0] 39 := by rw [← hW3]; exact bx2.alloc _
  have hb3 : Below w.heap.size w W3 := by rw [← hW3]; exact hb2.alloc hb2.size _
  have l3 : Ls .u8 W3 (some ⟨w.heap.size + 1 + 1, 0, none⟩) 1 [97] := by
    rw [← hW3, ← hs2]
    exact ls_new .u8 W2 [97] _ 5 (1, 2) rfl 1 rfl
  have q3 : Ls .u8 W3 (some ⟨w.heap.size + 1, 0, none⟩) kq (byts st) := by rw [← hW3]; exact hls.below (bl1 _ _)
  obtain ⟨W4, hW4⟩ : ∃ W4, W3.alloc (.cells #[.slice (some ⟨w.heap.size + 1 + 1, 0, none⟩) 1 1] 22) = W4 := ⟨_, rfl⟩
  have b34 : Below W3.heap.size W3 W4 := by rw [← hW4]; exact bl1 _ _
  have hs4 : W4.heap.size = w.heap.size + 1 + 1 + 1 + 1 := by rw [← hW4, World.size_alloc, hs3]
  have r4 : RdR W4 (some ⟨w.heap.size + 1 + 1 + 1, 0, none⟩) [⟨some ⟨w.heap.size + 1 + 1, 0, none⟩, 1, [97]⟩] := by
    rw [← hW4, ← hs3]
    exact rdR_new W3 _ _ 22 (0, 0) (by simp [P1.v, hs3]) (by intro p hp; simp only [List.mem_singleton] at hp; subst hp; first | exact l3 | (simp only [hs3]; exact l3))
  obtain ⟨W5, hW5⟩ : ∃ W5, W4.alloc (.cells #[.int .i64 0, .slice (some ⟨w.heap.size + 1, 0, none⟩) st.size kq, .slice (some ⟨w.heap.size + 1 + 1 + 1, 0, none⟩) 1 1] 51) = W5 := ⟨_, rfl⟩
  have b45 : Below W4.heap.size W4 W5 := by rw [← hW5]; exact bl1 _ _
  have o5 : W5.ownsRow (w.heap.size + 1) 51 3 (.slice (some ⟨w.heap.size + 1 + 1 + 1 + 1, 0, none⟩) 1 1) 1 [.int .i64 0, .slice (some ⟨w.heap.size + 1, 0, none⟩) st.size kq, .slice (some ⟨w.heap.size + 1 + 1 + 1, 0, none⟩) 1 1] := by
    rw [← hW5, ← hs4]
    exact own_new3 (base := w.heap.size + 1) (by omega) (by rfl) (by decide)
  have bx5 := (bx3.below b34).below b45
  have hb5 := step_below (step_below hb3 b34) b45
  have HF := Lib.hid (And.intro o5 (And.intro (q3.below b34 |>.below b45) (And.intro (r4.below b45) (And.intro hb5 bx5))))
  have x0 := bx5.cell 0
  have x1 := bx5.cell 1
  have x2 := bx5.cell 2
  have f0 := bx5.frozen 0
  have f1 := bx5.frozen 1
  have f2 := bx5.frozen 2
  simp only [List.getElem?_toArray, List.getElem?_cons_zero, List.getElem?_cons_succ] at x0 x1 x2
  clear bx1 hb1 hls hbb bx2 hb2 hW2 hkq hb3 bx3 l3 q3 r4 b34 b45 o5 bx5 hb5 kc
  go_enter Tryz.func48, Tryz.ntmps48
  go_wp2_with fail
  obtain ⟨o5, q5, r5, b5, bx5⟩ := HF.out
  have X9 := Lib.hid (((bx5.put 0 (.int .i64 e)).put 1 (.int .i64 s)).put 2 (.slice (some ⟨w.heap.size + 1 + 1 + 1 + 1, 0, none⟩) 1 1))
  have hbF := ((b5.setCell (p := ⟨w.heap.size, 0, none⟩) (Nat.le_refl _) (.int .i64 e)).setCell (p := ⟨w.heap.size, 1, none⟩) (Nat.le_refl _) (.int .i64 s)).setCell (p := ⟨w.heap.size, 2, none⟩) (Nat.le_refl _) (.slice (some ⟨w.heap.size + 1 + 1 + 1 + 1, 0, none⟩) 1 1)
  have oF := ((own_oth o5 (Nat.lt_succ_self w.heap.size) (oth_set _ w.heap.size 0 (.int .i64 e))))
  have oG := own_oth oF (Nat.lt_succ_self w.heap.size) (oth_set _ w.heap.size 1 (.int .i64 s))
  have oH := own_oth oG (Nat.lt_succ_self w.heap.size) (oth_set _ w.heap.size 2 (.slice (some ⟨w.heap.size + 1 + 1 + 1 + 1, 0, none⟩) 1 1))
  have n1 : ∀ b, (some (⟨w.heap.size + 1, 0, none⟩ : Addr)) = some b → b.block ≠ w.heap.size := fun b e => by cases e; simp
  have n2 : ∀ b, (some (⟨w.heap.size + 1 + 1 + 1, 0, none⟩ : Addr)) = some b → b.block ≠ w.heap.size := fun b e => by cases e; simp; omega
  have n3 : ∀ p ∈ [(⟨some ⟨w.heap.size + 1 + 1, 0, none⟩, 1, [97]⟩ : P1)], ∀ b, p.ad = some b → b.block ≠ w.heap.size := fun p hp b e => by simp only [List.mem_singleton] at hp; subst hp; cases e; simp; omega
  have qH := ((q5.off (o := 0) (v := .int .i64 e) n1).off (o := 1) (v := .int .i64 s) n1).off (o := 2) (v := .slice (some ⟨w.heap.size + 1 + 1 + 1 + 1, 0, none⟩) 1 1) n1
  have rH := ((r5.off (o := 0) (v := .int .i64 e) n2 n3).off (o := 1) (v := .int .i64 s) n2 n3).off (o := 2) (v := .slice (some ⟨w.heap.size + 1 + 1 + 1 + 1, 0, none⟩) 1 1) n2 n3
  refine bodyPost_ret (v := .agg #[.int .i64 e, .int .i64 s, .slice (some ⟨w.heap.size + 1 + 1 + 1 + 1, 0, none⟩) 1 1]) ?_ rfl ⟨_, ⟨0, some ⟨w.heap.size + 1, 0, none⟩, kq, byts st, some ⟨w.heap.size + 1 + 1 + 1, 0, none⟩, 1, [⟨some ⟨w.heap.size + 1 + 1, 0, none⟩, 1, [97]⟩]⟩, rfl, ?_, ⟨qH, rH, byts_byt _, fun p hp => (by simp only [List.mem_singleton] at hp; subst hp; intro x hx; simp only [List.mem_singleton] at hx; omega)⟩, rfl, rfl, rfl, hbF⟩
  · have x0 := X9.out.cell 0
    have x1 := X9.out.cell 1
    have x2 := X9.out.cell 2
    simp at x0 x1 x2
    simp [results, Tryz.results48, go_sem, x0, x1, x2]
  · have := own_base (b := w.heap.size) (Nat.le_succ _) oH
    simp only [WtP.cells, byts_len]
    exact this
end Go.Proofs.YtglkndoghnblcaaGreat
namespace Go.Proofs.YtglkndoghnblcaaGreat
open Go.ChangeShapes Go.WideShapes Go.ChangeAt Go.RowKit
set_option linter.unusedVariables false
set_option linter.unusedSimpArgs false
theorem isnan64_law (x : Int) (w : World) : Calls Tryz.prog 152 #[.int .i64 x] w fun e w' => e = .returned (.bool false) ∧ w = w' := by
  have h : (x != x) = false := by simp
  go_enter Tryz.func152, Tryz.ntmps152
  go_wp2
  go_ret
  exact ⟨rfl, rfl⟩
/-- cmp.Compare at int64 (110). -/
theorem compare64_law (x y : Int) (w : World) : Calls Tryz.prog 110 #[.int .i64 x, .int .i64 y] w fun e w' => e = .returned (.int .i64 (cmpN x y)) ∧ w = w' := by
  unfold cmpN
  rcases (show x < y ∨ (¬ x < y ∧ y < x) ∨ (¬ x < y ∧ ¬ y < x) by omega) with h | ⟨h1, h2⟩ | ⟨h1, h2⟩
  · rw [if_pos h]
    go_enter Tryz.func110, Tryz.ntmps110
    go_wp2_with fail
    refine (isnan64_law x _).mono ?_; rintro e w' ⟨rfl, rfl⟩
    go_wp2_with fail
    refine (isnan64_law y _).mono ?_; rintro e w' ⟨rfl, rfl⟩
    go_wp2_with fail
    go_ret
    exact ⟨rfl, rfl⟩
  · rw [if_neg h1, if_pos h2]
    go_enter Tryz.func110, Tryz.ntmps110
    go_wp2_with fail
    refine (isnan64_law x _).mono ?_; rintro e w' ⟨rfl, rfl⟩
    go_wp2_with fail
    refine (isnan64_law y _).mono ?_; rintro e w' ⟨rfl, rfl⟩
    go_wp2_with fail
    go_ret
    exact ⟨rfl, rfl⟩
  · rw [if_neg h1, if_neg h2]
    go_enter Tryz.func110, Tryz.ntmps110
    go_wp2_with fail
    refine (isnan64_law x _).mono ?_; rintro e w' ⟨rfl, rfl⟩
    go_wp2_with fail
    refine (isnan64_law y _).mono ?_; rintro e w' ⟨rfl, rfl⟩
    go_wp2_with fail
    go_ret
    exact ⟨rfl, rfl⟩
def lessB (e1 s1 e2 s2 : Int) : Bool := decide (orV (cmpN e1 e2) (cmpN s1 s2) < 0)
theorem lessB_iff (e1 s1 e2 s2 : Int) : lessB e1 s1 e2 s2 = true ↔ e1 < e2 ∨ (e1 = e2 ∧ s1 < s2) := by
  unfold lessB orV cmpN
  rw [decide_eq_true_eq]
  (repeat' split) <;> omega
set_option maxRecDepth 100000 in
set_option maxHeartbeats 2000000 in
/-- Less (46). -/
theorem less46_law (e1 s1 e2 s2 : Int) (w : World) : Calls Tryz.prog 46 #[.agg #[.int .i64 e1, .int .i64 s1], .agg #[.int .i64 e2, .int .i64 s2]] w fun r w' => r = .returned (.bool (lessB e1 s1 e2 s2)) ∧ Below w.heap.size w w' := by
  go_enter Tryz.func46, Tryz.ntmps46
  go_upto_region 1 with (fail)
  rename_i KK hKK
  obtain ⟨W2, hW2⟩ : ∃ W2, (w.alloc (.cells #[.int .i64 e1, .int .i64 s1] 36)).alloc (.cells #[.int .i64 e2, .int .i64 s2] 36) = W2 := ⟨_, rfl⟩
  have hb2 : Below w.heap.size w W2 := by rw [← hW2]; exact step_below (bl1 _ _) (bl1 _ _)
  have b1 : BoxC W2 w.heap.size #[.int .i64 e1, .int .i64 s1] 36 := by rw [← hW2]; exact (BoxC.new _ _ _).alloc _
  have b2 : BoxC W2 (w.heap.size + 1) #[.int .i64 e2, .int .i64 s2] 36 := by rw [← hW2]; have := BoxC.new (w.alloc (.cells #[.int .i64 e1, .int .i64 s1] 36)) #[.int .i64 e2, .int .i64 s2] 36; simpa using this
  have FQ := Lib.hid (fun X (b : Below W2.heap.size W2 X) => (⟨(b1.below b).cell 0, (b1.below b).cell 1, (b2.below b).cell 0, (b2.below b).cell 1⟩ : X.cell? ⟨w.heap.size, 0, none⟩ = some (.int .i64 e1) ∧ X.cell? ⟨w.heap.size, 1, none⟩ = some (.int .i64 s1) ∧ X.cell? ⟨w.heap.size + 1, 0, none⟩ = some (.int .i64 e2) ∧ X.cell? ⟨w.heap.size + 1, 1, none⟩ = some (.int .i64 s2)))
  have HB2 := Lib.hid hb2
  try rw [hW2]
  clear hW2 hb2 b1 b2
  refine Code.wp_mono (Q := Exit.then KK (fun _ _ _ => False)) (fun e a' w' h => by cases e <;> first | exact h | exact h.elim) ?_
  refine wp_region_held_drew (S := (fun X => Below W2.heap.size W2 X)) (by kernel_rfl) ((Below.refl _ _).drew) (fun hHeld => ?_)
  refine tk 0 ?_ rfl (.inl ⟨by rfl, ?_⟩) ?_
  rotate_left
  · intro W hSw; go_simp; try with_reducible rfl
  try simp only [Act.put, List.setIfInBounds_toArray, List.set_cons_zero, List.set_cons_succ]
  refine tk 1 ?_ rfl (.inl ⟨by rfl, ?_⟩) ?_
  rotate_left
  · intro W hSw; obtain ⟨z0, z1, z2, z3⟩ := FQ.out W hSw; go_simp; try with_reducible rfl
  try simp only [Act.put, List.setIfInBounds_toArray, List.set_cons_zero, List.set_cons_succ]
  refine tk 2 ?_ rfl (.inl ⟨by rfl, ?_⟩) ?_
  rotate_left
  · intro W hSw; go_simp; try with_reducible rfl
  try simp only [Act.put, List.setIfInBounds_toArray, List.set_cons_zero, List.set_cons_succ]
  refine tk 3 ?_ rfl (.inl ⟨by rfl, ?_⟩) ?_
  rotate_left
  · intro W hSw; obtain ⟨z0, z1, z2, z3⟩ := FQ.out W hSw; go_simp; try with_reducible rfl
  try simp only [Act.put, List.setIfInBounds_toArray, List.set_cons_zero, List.set_cons_succ]
  refine tk 5 ?_ rfl (.inl ⟨by rfl, ?_⟩) ?_
  rotate_left
  · intro W hSw; go_simp; try with_reducible rfl
  try simp only [Act.put, List.setIfInBounds_toArray, List.set_cons_zero, List.set_cons_succ]
  refine tk 6 ?_ rfl (.inl ⟨by rfl, ?_⟩) ?_
  rotate_left
  · intro W hSw; obtain ⟨z0, z1, z2, z3⟩ := FQ.out W hSw; go_simp; try with_reducible rfl
  try simp only [Act.put, List.setIfInBounds_toArray, List.set_cons_zero, List.set_cons_succ]
  refine tk 7 ?_ rfl (.inl ⟨by rfl, ?_⟩) ?_
  rotate_left
  · intro W hSw; go_simp; try with_reducible rfl
  try simp only [Act.put, List.setIfInBounds_toArray, List.set_cons_zero, List.set_cons_succ]
  refine tk 8 ?_ rfl (.inl ⟨by rfl, ?_⟩) ?_
  rotate_left
  · intro W hSw; obtain ⟨z0, z1, z2, z3⟩ := FQ.out W hSw; go_simp; try with_reducible rfl
  try simp only [Act.put, List.setIfInBounds_toArray, List.set_cons_zero, List.set_cons_succ]
  refine wpAnyH_ready (rs := [4]) (by kernel_rfl) (by simp) ?_
  refine AllReadyH.cons (o := { dst := some 9, op := Op.call { callee := Callee.value (Operand.func 110), args := #[Operand.tmp 6, Operand.tmp 8], argTypes := #[2, 2] }, type := 3, pos := "log.go:100", after := #[{ on := 1, ground := Ground.data }, { on := 3, ground := Ground.data }], guard := none }) rfl (fun K hK => ?_) AllReadyH.nil
  go_simp
  refine (compare64_law e1 e2 _).mono ?_; rintro e9 w3 ⟨rfl, rfl⟩
  go_wp2_with fail
  refine hK.out _ _ (hHeld) (fun hHeldn => ?_)
  clear hK K hHeld; have hHeld := hHeldn; clear hHeldn
  try simp only [Act.put, List.setIfInBounds_toArray, List.set_cons_zero, List.set_cons_succ]
  refine wpAnyH_ready (rs := [9]) (by kernel_rfl) (by simp) ?_
  refine AllReadyH.cons (o := { dst := some 14, op := Op.call { callee := Callee.value (Operand.func 110), args := #[Operand.tmp 11, Operand.tmp 13], argTypes := #[2, 2] }, type := 3, pos := "log.go:100", after := #[{ on := 6, ground := Ground.data }, { on := 8, ground := Ground.data }, { on := 4, ground := Ground.chain }], guard := none }) rfl (fun K hK => ?_) AllReadyH.nil
  go_simp
  refine (compare64_law s1 s2 _).mono ?_; rintro e9 w4 ⟨rfl, rfl⟩
  go_wp2_with fail
  refine hK.out _ _ (hHeld) (fun hHeldn => ?_)
  clear hK K hHeld; have hHeld := hHeldn; clear hHeldn
  try simp only [Act.put, List.setIfInBounds_toArray, List.set_cons_zero, List.set_cons_succ]
  refine wpAnyH_ready (rs := [10]) (by kernel_rfl) (by simp) ?_
  refine AllReadyH.cons (o := { dst := some 15, op := Op.buildSlice 96 2 #[(0, Operand.tmp 9), (1, Operand.tmp 14)], type := 96, pos := "log.go:100", after := #[{ on := 4, ground := Ground.data }, { on := 9, ground := Ground.data }], guard := none }) rfl (fun K hK => ?_) AllReadyH.nil
  go_simp
  refine hK.out _ _ (hHeld.alloc hHeld.size _) (fun hHeldn => ?_)
  clear hK K hHeld; have hHeld := hHeldn; clear hHeldn
  try simp only [Act.put, List.setIfInBounds_toArray, List.set_cons_zero, List.set_cons_succ]
  refine wpAnyH_ready (rs := [11]) (by kernel_rfl) (by simp) ?_
  refine AllReadyH.cons (o := { dst := some 16, op := Op.call { callee := Callee.value (Operand.func 65), args := #[Operand.tmp 15], argTypes := #[96] }, type := 3, pos := "log.go:100", after := #[{ on := 10, ground := Ground.data }, { on := 9, ground := Ground.chain }], guard := none }) rfl (fun K hK => ?_) AllReadyH.nil
  go_simp
  refine (or_law _ (cmpN e1 e2) (cmpN s1 s2) _ (by simp [go_sem]) (by simp [go_sem])).mono ?_; rintro e9 w5 ⟨rfl, rfl⟩
  go_wp2_with fail
  refine hK.out _ _ (hHeld) (fun hHeldn => ?_)
  clear hK K hHeld; have hHeld := hHeldn; clear hHeldn
  try simp only [Act.put, List.setIfInBounds_toArray, List.set_cons_zero, List.set_cons_succ]
  refine tk 12 ?_ rfl (.inl ⟨by rfl, ?_⟩) ?_
  rotate_left
  · intro W hSw; go_simp; try with_reducible rfl
  try simp only [Act.put, List.setIfInBounds_toArray, List.set_cons_zero, List.set_cons_succ]
  refine tk 13 ?_ rfl (.inl ⟨by rfl, ?_⟩) ?_
  rotate_left
  · intro W hSw; go_simp; try with_reducible rfl
  try simp only [Act.put, List.setIfInBounds_toArray, List.set_cons_zero, List.set_cons_succ]
  refine wpAnyH_done (by kernel_rfl) ?_ _
  skip
  refine hKK _ _ ?_
  have HBN := Lib.hid (step_below HB2.out hHeld)
  clear hKK hHeld FQ
  go_wp2_with fail
  go_ret
  exact ⟨rfl, HBN.out⟩
end Go.Proofs.YtglkndoghnblcaaGreat
namespace Go.Proofs.YtglkndoghnblcaaGreat
open Go.ChangeShapes Go.WideShapes Go.ChangeAt Go.RowKit
set_option linter.unusedVariables false
set_option linter.unusedSimpArgs false
def kPay : List Int := [1, 2, 1, 0, 1, 107, 1, 3, 1, 1, 97]
def kTx : Tx3 := ((1, 2), [(0, [107], [[97]])])
def kTc : T3c := (1, 2, [(0, [107], [[97]])])
def kMan : List Int := [1, 0, 0, 0, 0]
def kH : List Int := [3, 2, 1, 1]
def kS (i : Int) : List Int := [i, 1, 97, 2, 1, 0, 3, 1]
theorem byt_dec {L : List Int} (h : L.all (fun x => decide (0 ≤ x ∧ x ≤ 255)) = true) : Byt L := fun x hx => by
  have := (List.all_eq_true.1 h) x hx
  simpa using this
theorem kPay_byt : Byt kPay := byt_dec (by kernel_rfl)
theorem kPay_len : (frameL kPay).length = 19 := by rw [frameL_len]; rfl
theorem kTxs : framesL (frameL kPay ++ (frameL kPay).take 9) = [kPay] := by
  rw [framesL_frame kPay_byt (by decide) (by decide), framesL_no (isL_no (by
    have h : lenL ((frameL kPay).take 9) = 11 := by kernel_rfl
    rw [h, List.length_take, kPay_len]
    omega))]
theorem kTxs_l : txsL [kPay] = [kTx] := by kernel_rfl
theorem kTxs_w : wholeL (frameL kPay ++ (frameL kPay).take 9) = 19 := by unfold wholeL; rw [kTxs]; rfl
theorem nilF : framesL [] = [] := framesL_no (isL_no (by simp))
theorem kBad : framesL (frameL [0]) = [[0]] := by
  have := framesL_frame (P := [0]) (byt_dec (by kernel_rfl)) (by decide) (by decide) []
  rw [List.append_nil, nilF] at this
  exact this
theorem kBad_l : txsL [[0]] = [] := by kernel_rfl
theorem kBad_w : wholeL (frameL [0]) = 9 := by unfold wholeL; rw [kBad]; rfl
theorem kMan_w : mnW 1 0 0 ⟨#[]⟩ [] = kMan := by kernel_rfl
theorem emp_l : (⟨#[]⟩ : ByteArray).toList = [] := by rw [ByteArray.toList_eq]
theorem kMan_b : manB 1 0 0 ⟨#[]⟩ [] = true := by
  unfold manB okM mnHead mnName eqE
  rw [emp_l]
  rfl
theorem kMan_byt : Byt kMan := byt_dec (by kernel_rfl)
theorem kMan_is (r : List Int) : isL (frameL kMan ++ r) = true ∧ bodyL (frameL kMan ++ r) = kMan ∧ lenL (frameL kMan ++ r) = 5 := isL_frame kMan_byt (by decide) (by decide) r
theorem kMan_r : rmanP (frameL kMan) = some ⟨1, [], 0, 0, []⟩ := by
  have h1 : onlyL (frameL kMan) = kMan := by
    obtain ⟨a, b, c⟩ := kMan_is []
    rw [List.append_nil] at a b c
    unfold onlyL
    rw [if_pos ⟨a, by rw [c, frameL_len]; rfl⟩, b]
  have h2 : readP (manP (onlyL (frameL kMan))) = some ⟨1, [], 0, 0, []⟩ := by rw [h1]; kernel_rfl
  exact rmanP_3 h2 kMan_b
theorem kMan_no : rmanP (frameL kMan ++ [0]) = none := by
  have h1 : onlyL (frameL kMan ++ [0]) = [] := by
    obtain ⟨a, b, c⟩ := kMan_is [0]
    unfold onlyL
    rw [if_neg (by rw [c, List.length_append, frameL_len]; simp [kMan])]
  exact rmanP_1 (by rw [h1]; kernel_rfl)
theorem kH_byt : Byt kH := byt_dec (by kernel_rfl)
theorem kS_byt (i : Int) (h0 : 0 ≤ i) (h1 : i ≤ 255) : Byt (kS i) := fun x hx => by
  simp only [kS, List.mem_cons, List.not_mem_nil, or_false] at hx
  rcases hx with rfl | rfl | rfl | rfl | rfl | rfl | rfl | rfl <;> omega
theorem three {P Q R : List Int} (hp : Byt P) (hq : Byt Q) (hr : Byt R) (p1 : 1 ≤ P.length) (p2 : P.length ≤ 4096) (q1 : 1 ≤ Q.length) (q2 : Q.length ≤ 4096) (r1 : 1 ≤ R.length) (r2 : R.length ≤ 4096) : framesL (frameL P ++ frameL Q ++ frameL R) = [P, Q, R] := by
  rw [List.append_assoc, framesL_frame hp p1 p2, framesL_frame hq q1 q2]
  have := framesL_frame hr r1 r2 []
  rw [List.append_nil, nilF] at this
  rw [this]
theorem kTurn (e : Nat) (tabs : List (List C4)) : ¬ CkRd (frameL kH ++ frameL (kS 1) ++ frameL (kS 0)) e tabs := by
  intro h
  have hf := three kH_byt (kS_byt 1 (by omega) (by omega)) (kS_byt 0 (by omega) (by omega)) (by decide) (by decide) (by decide) (by decide) (by decide) (by decide)
  have hw : wholeL (frameL kH ++ frameL (kS 1) ++ frameL (kS 0)) = (frameL kH ++ frameL (kS 1) ++ frameL (kS 0)).length := by
    unfold wholeL
    rw [hf]
    simp only [List.length_append, frameL_len]
    rfl
  have h1 : rckP (frameL kH ++ frameL (kS 1) ++ frameL (kS 0)) = some (3, [1, 1], [kS 1, kS 0].map ckRow) := by
    unfold rckP
    rw [hf]
    have h2 : readP (headP kH) = some (3, [1, 1]) := by kernel_rfl
    simp only
    rw [h2]
    simp only
    rw [if_pos ⟨by kernel_rfl, hw⟩]
  obtain ⟨_, h2, _, _⟩ := rck_eq (x := (3, [1, 1])) h1 h
  have h3 := h2.1 0 1 rfl 0 (by omega)
  have h4 : (([kS 1, kS 0].map ckRow).map Pl.t)[posT [1, 1] 0 + 0]? = some 1 := by kernel_rfl
  rw [h4] at h3
  cases h3
theorem kBig {Z : List Int} (h : Z.length = 4097) : wholeL (frameL Z) = 0 := by
  have h1 : lenL (frameL Z) = 4097 := by
    unfold lenL frameL
    rw [h, de4_be4 (by omega)]
  unfold wholeL
  rw [framesL_no (isL_no (by rw [h1]; omega))]
  rfl
theorem kFit {Z : List Int} (hb : Byt Z) (h : Z.length = 4096) : wholeL (frameL Z) = 4104 := by
  have := framesL_frame hb (by omega) (by omega) []
  rw [List.append_nil, nilF] at this
  unfold wholeL
  rw [this]
  simp [h]
theorem kPay_w (p : WtP) (h0 : p.tab = 0) (h1 : p.key = [107]) (h2 : p.R.map P1.bs = [[97]]) : txW 1 2 [p] = kPay := by
  obtain ⟨t, ka, kc, key, ra, rc, R⟩ := p
  simp only at h0 h1 h2
  subst h0 h1
  obtain ⟨⟨ad, cap, bs⟩, rfl⟩ : ∃ r, R = [r] := by
    cases R with
    | nil => cases h2
    | cons r R => cases R with
      | nil => exact ⟨r, rfl⟩
      | cons s R => simp at h2
  simp only [List.map_cons, List.map_nil, List.cons.injEq, and_true] at h2
  subst h2
  have e0 := numW_small (n := 0) (by omega)
  have e1 := numW_small (n := 1) (by omega)
  have e2 := numW_small (n := 2) (by omega)
  have e3 := numW_small (n := 3) (by omega)
  unfold txW tidW putL wtW putL bsW bytesW
  simp [e0, e1, e2, e3, kPay, bsW, bytesW, wtW]
theorem kPay_b (p : WtP) (e s : Int) (h0 : p.tab = 0) (h1 : p.key.length = 1) (h2 : p.R.map P1.bs = [[97]]) : txB e s [p] = tidB e s := by
  obtain ⟨t, ka, kc, key, ra, rc, R⟩ := p
  simp only at h0 h1 h2
  subst h0
  match R, h2 with
  | [⟨ad, cap, bs⟩], h2 =>
    simp only [List.map_cons, List.map_nil, List.cons.injEq, and_true] at h2
    subst h2
    unfold txB
    show okK e s [_] 1 = _
    rw [okK_first (x := ⟨0, ka, kc, key, ra, rc, [⟨ad, cap, [97]⟩]⟩) rfl]
    have hw : wtB ⟨0, ka, kc, key, ra, rc, [⟨ad, cap, [97]⟩]⟩ = true := by
      unfold wtB mayK
      simp only [h1]
      rfl
    rw [hw, Bool.and_true]
    unfold okK
    have : inB (([(⟨0, ka, kc, key, ra, rc, [⟨ad, cap, [97]⟩]⟩ : WtP)].length : Nat) : Int) 1 16 = true := rfl
    rw [this, Bool.and_true]
end Go.Proofs.YtglkndoghnblcaaGreat
namespace Go.Proofs.YtglkndoghnblcaaGreat
open Go.ChangeShapes Go.WideShapes Go.ChangeAt Go.RowKit
set_option linter.unusedVariables false
set_option linter.unusedSimpArgs false
def wr3C (y : Wr3) : W3c := ((y.1 : Int), y.2.1, y.2.2)
def tx3C (x : Tx3) : T3c := ((x.1.1 : Int), (x.1.2 : Int), x.2.map wr3C)
theorem cont_c {p : WtP} (h : 0 ≤ p.tab) : wr3C (cont p) = wtC p := by
  unfold wr3C cont wtC
  simp only
  rw [Int.toNat_of_nonneg h]
def qk (q : TxQ) : Int × Int × Option Addr × Nat × Nat := (q.e, q.s, q.a, q.c, q.ws.length)
def pk (p : TxP) : Int × Int × Option Addr × Nat × Nat := ((p.x.1.1 : Int), (p.x.1.2 : Int), p.a, p.c, p.x.2.length)
theorem txp_lies {w : World} {base : Nat} : ∀ ps : List TxP, (∀ p ∈ ps, WritesO w base p.x.2 p.v ∧ TxB p.x) → ∃ qs : List TxQ, qs.map qk = ps.map pk ∧ qs.map txC = ps.map (fun p => tx3C p.x) ∧ ∀ q ∈ qs, WtsR w q.a q.ws ∧ TxqB q
  | [], _ => ⟨[], rfl, rfl, fun q hq => by simp at hq⟩
  | p :: ps, h => by
    obtain ⟨qs, h1, h2, h3⟩ := txp_lies ps (fun q hq => h q (by simp [hq]))
    obtain ⟨hw, hb⟩ := h p (by simp)
    obtain ⟨ws, k1, k2, k3, k4, k5⟩ := WritesO.lies hw hb.all
    have kl : ws.length = p.x.2.length := by rw [← k1, List.length_map]
    have kc : ws.map wtC = p.x.2.map wr3C := by
      rw [← k1, List.map_map]
      exact List.map_congr_left (fun q hq => (cont_c (k4 q hq)).symm)
    refine ⟨⟨(p.x.1.1 : Int), (p.x.1.2 : Int), p.a, p.c, ws⟩ :: qs, ?_, ?_, fun q hq => ?_⟩
    · simp only [List.map_cons, h1]
      unfold qk pk
      simp only [kl]
    · simp only [List.map_cons, h2]
      unfold txC tx3C
      simp only [kc]
    · rcases List.mem_cons.1 hq with rfl | hq
      · have := hb.n
        exact ⟨k3, by show ws.length ≤ 1000000; omega, k5⟩
      · exact h3 q hq
/-- Transactions that were read, as they lie. -/
theorem TxsO.lies {w : World} {base n c : Nat} {a : Option Addr} {xs : List Tx3} (h : TxsO w base xs (.slice a n c)) (hB : ∀ x ∈ xs, TxB x) : ∃ qs : List TxQ, n = xs.length ∧ qs.length = xs.length ∧ TxqR w a qs ∧ (∀ q ∈ qs, TxqB q) ∧ qs.map txC = xs.map tx3C := by
  obtain ⟨ps, h1, h2, h3⟩ := h
  obtain ⟨qs, k1, k2, k3⟩ := txp_lies (w := w) (base := base) ps (fun p hp => ⟨h3 p hp, hB _ (by rw [← h1]; exact List.mem_map_of_mem hp)⟩)
  have hl : ps.length = xs.length := by rw [← h1, List.length_map]
  have hql : qs.length = xs.length := by have := congrArg List.length k1; rw [List.length_map, List.length_map] at this; omega
  obtain ⟨a2, c2, e2⟩ := own_form h2
  cases e2
  refine ⟨qs, rfl, hql, fun k q hq => ?_, fun q hq => (k3 q hq).2, by rw [k2, ← h1, List.map_map]; rfl⟩
  have hk : k < qs.length := (List.getElem?_eq_some_iff.1 hq).1
  obtain ⟨p, hp⟩ : ∃ p, ps[k]? = some p := ⟨_, List.getElem?_eq_getElem (by omega)⟩
  have e : qk q = pk p := by
    have := congrArg (fun l => l[k]?) k1
    simp only [List.getElem?_map, hq, hp, Option.map_some, Option.some.injEq] at this
    exact this
  simp only [qk, pk, Prod.mk.injEq] at e
  obtain ⟨e1, e2, e3, e4, e5⟩ := e
  have hc := fun i hi => flat_at TxP.cells 3 (fun _ => rfl) ps k i p hp hi
  rcases h2.2 with ⟨e0, h0⟩ | ⟨g, cap, cur, e0, _⟩
  · omega
  · cases e0
    refine ⟨g, 0, rfl, ?_, ?_, ?_, (k3 q (List.mem_of_getElem? hq)).1⟩
    · rw [Nat.zero_add, e1, show k * 3 = k * 3 + 0 by omega, h2.cellAt (k * 3 + 0) (by omega)]
      exact hc 0 (by omega)
    · rw [Nat.zero_add, e2, h2.cellAt (k * 3 + 1) (by omega)]
      exact hc 1 (by omega)
    · rw [Nat.zero_add, e3, e4, e5, h2.cellAt (k * 3 + 2) (by omega)]
      exact hc 2 (by omega)
theorem wts_of {W : World} {b g : Nat} {p : WtP} (h : W.ownsRow b 51 3 (.slice (some ⟨g, 0, none⟩) 1 1) 1 p.cells) (ok : WtOk W p) : WtsR W (some ⟨g, 0, none⟩) [p] := fun k x hx => by
  have hk : k = 0 := by have := (List.getElem?_eq_some_iff.1 hx).1; simpa using this
  subst hk
  simp only [List.getElem?_cons_zero, Option.some.injEq] at hx
  subst hx
  refine ⟨g, 0, rfl, ?_, ?_, ?_, ok⟩
  · exact h.cellAt 0 (by omega)
  · exact h.cellAt 1 (by omega)
  · exact h.cellAt 2 (by omega)
theorem r1_small {p : WtP} (h : p.R.map P1.bs = [[97]]) : p.R.length ≤ 1000000 := by
  have := congrArg List.length h
  rw [List.length_map] at this
  simp at this
  omega
/-- PutTxn of the chapter's first. -/
theorem puttx_k (a : Option Addr) (p : WtP) (w : World) (hR : WtsR w a [p]) (h0 : p.tab = 0) (h1 : p.key = [107]) (h2 : p.R.map P1.bs = [[97]]) :
    Calls Tryz.prog 19 #[.agg #[.int .i64 1, .int .i64 2, .slice a 1 1]] w fun r w' => ∃ a' c', r = .returned (.tuple #[.slice a' 19 c', .int .i64 0]) ∧ Ls .u8 w' a' c' (frameL kPay) ∧ Below w.heap.size w w' := by
  have hb : txB 1 2 [p] = true := by rw [kPay_b p 1 2 h0 (by rw [h1]; rfl) h2]; rfl
  have hw : txW (1 : Int).toNat (2 : Int).toNat [p] = kPay := kPay_w p h0 h1 h2
  refine (puttxn_law 1 2 a [p] 1 1 rfl (by omega) (fun x hx => by simp only [List.mem_singleton] at hx; subst hx; exact r1_small h2) w hR).mono ?_
  rintro r w' (⟨h, _⟩ | ⟨_, h, _⟩ | ⟨_, _, _, a', c', rfl, _, hl, hbw⟩)
  · rw [hb] at h; cases h
  · rw [hw] at h; simp [kPay] at h
  · rw [hw] at hl ⊢
    exact ⟨a', c', rfl, hl, hbw⟩
theorem puttx_bad (e s : Int) (a : Option Addr) (xs : List WtP) (n c : Nat) (hn : xs.length = n) (hn2 : n ≤ 1000000) (hl : ∀ x ∈ xs, x.R.length ≤ 1000000) (hb : txB e s xs = false) (w : World) (hR : WtsR w a xs) :
    Calls Tryz.prog 19 #[.agg #[.int .i64 e, .int .i64 s, .slice a n c]] w fun r w' => r = .returned (.tuple #[.slice none 0 0, .int .i64 2]) ∧ Below w.heap.size w w' := by
  refine (puttxn_law e s a xs n c hn hn2 hl w hR).mono ?_
  rintro r w' (⟨_, rfl, hbw⟩ | ⟨h, _⟩ | ⟨h, _⟩)
  · exact ⟨rfl, hbw⟩
  · rw [hb] at h; cases h
  · rw [hb] at h; cases h
theorem two_bad (p q : WtP) (h0 : p.tab = 0) (h1 : p.key = [98]) (h2 : p.R.map P1.bs = [[97]]) (k0 : q.tab = 0) (k1 : q.key = [97]) (k2 : q.R.map P1.bs = [[97]]) : txB 1 1 [p, q] = false := by
  unfold txB
  show okK 1 1 [p, q] 2 = false
  rw [okK_next (k := 1) (x := q) (l := p) (by omega) rfl rfl, h0, k0, h1, k1]
  have : decide (orV (cmpN 0 0) (cmpI [98] [97]) < 0) = false := by decide
  rw [this, Bool.and_false]
/-- Txns of the chapter's bytes. -/
theorem txns_k (a : Option Addr) (n cap : Nat) (hn : n = 28) (w : World) (hL : Ls .u8 w a cap (frameL kPay ++ (frameL kPay).take 9)) :
    Calls Tryz.prog 20 #[.slice a n cap] w fun r w' => ∃ a' c' q, r = .returned (.tuple #[.slice a' 1 c', .int .i64 19, .bool true]) ∧ TxqR w' a' [q] ∧ TxqB q ∧ txC q = kTc ∧ Below w.heap.size w w' := by
  have hlen : (frameL kPay ++ (frameL kPay).take 9).length = n := by rw [List.length_append, List.length_take, kPay_len, hn]; rfl
  have hby : Byt (frameL kPay ++ (frameL kPay).take 9) := byt_dec (by kernel_rfl)
  refine (txns_law a _ n cap hlen (by omega) hby w hL).mono ?_
  rintro r w' ⟨v, rfl, hT, hb⟩
  rw [kTxs, kTxs_l, kTxs_w] at *
  obtain ⟨a', c', rfl⟩ : ∃ a' c', v = .slice a' 1 c' := by obtain ⟨ps, h1, h2, h3⟩ := hT; exact own_form h2
  obtain ⟨qs, _, ql, qr, qb, qc⟩ := TxsO.lies hT (fun x hx => by simp only [List.mem_singleton] at hx; subst hx; exact ⟨by decide, by decide, by decide, fun y hy => by
    simp only [kTx, List.mem_singleton] at hy
    subst hy
    constructor <;> first | decide | (intro f hf; simp only [List.mem_singleton] at hf; subst hf; exact byt_dec (by kernel_rfl)) | exact byt_dec (by kernel_rfl)⟩)
  obtain ⟨q, rfl⟩ : ∃ q, qs = [q] := by
    match qs, ql with
    | [q], _ => exact ⟨q, rfl⟩
  simp only [List.map_cons, List.map_nil, List.cons.injEq, and_true] at qc
  exact ⟨a', c', q, rfl, qr, qb q (by simp), qc, hb⟩
theorem txns_bad (a : Option Addr) (n cap : Nat) (hn : n = 9) (w : World) (hL : Ls .u8 w a cap (frameL [0])) :
    Calls Tryz.prog 20 #[.slice a n cap] w fun r w' => ∃ a' c', r = .returned (.tuple #[.slice a' 0 c', .int .i64 0, .bool false]) ∧ Below w.heap.size w w' := by
  refine (txns_law a _ n cap (by rw [frameL_len, hn]; rfl) (by omega) (byt_dec (by kernel_rfl)) w hL).mono ?_
  rintro r w' ⟨v, rfl, hT, hb⟩
  rw [kBad, kBad_l, kBad_w] at *
  obtain ⟨a', c', rfl⟩ : ∃ a' c', v = .slice a' 0 c' := by obtain ⟨ps, h1, h2, h3⟩ := hT; exact own_form h2
  exact ⟨a', c', rfl, hb⟩
end Go.Proofs.YtglkndoghnblcaaGreat
