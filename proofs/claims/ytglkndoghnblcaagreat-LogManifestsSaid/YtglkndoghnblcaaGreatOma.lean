/- 'LogManifests' returns true whatever its arguments, which read afterwards as before: no condition. Part 1. -/
import Derived.Test.YtglkndoghnblcaaGreatOva
import Derived.Test.YtglkndoghnblcaaGreatRows
import Derived.WalkKit
import Derived.WalkMore
import Derived.ProofKit
import Derived.Outline
import Derived.WalkLawsBesides
import Derived.WalkSpells
import Derived.Lib.Hide
import Derived.Below
import Derived.WalkSmall
import Derived.BigRegion
import Derived.Laws.Rows
import Derived.Laws.BytesArg
import Derived.Laws.Concat
import Derived.Laws.OwnMore
import Derived.Deep.QuietTactic
import Derived.BigQuiet
import Derived.Deep.RegionHeld3
import Derived.StillTailTactics
import Derived.Test.YtglkndoghnblcaaGreatOve
import Derived.Test.YtglkndoghnblcaaGreatOvg
import Derived.Deep.DeepCutAuto
import Derived.Test.YtglkndoghnblcaaGreatOvc
import Derived.Test.YtglkndoghnblcaaGreatOvd
import Derived.Test.YtglkndoghnblcaaGreatOvl
namespace Go.Proofs.YtglkndoghnblcaaGreat
open Go.ChangeShapes Go.WideShapes Go.ChangeAt Go.RowKit
set_option linter.unusedVariables false
set_option linter.unusedSimpArgs false

/-- A row of numbers that came in. -/
def IsRow (k : IntKind) (w : World) (a : Option Addr) (len cap : Nat) (zs : List Int) : Prop :=
  (a = none ∧ len = 0 ∧ cap = 0 ∧ zs = []) ∨
  ∃ x, a = some x ∧ len ≤ cap ∧ cap ≤ maxLen ∧ zs.length = cap ∧ (∀ i, i < zs.length → w.cell? (x.add i) = some (.int k (zs.getD i 0))) ∧ ∀ n ∈ zs, (Lit.int k n).wf = true
theorem IsRow.ls {K : IntKind} {w : World} {a : Option Addr} {len cap : Nat} {zs : List Int} (h : IsRow K w a len cap zs) : Ls K w a cap (zs.take len) ∧ (zs.take len).length = len := by
  rcases h with ⟨rfl, rfl, rfl, rfl⟩ | ⟨y, rfl, hlc, _, hz, hcell, _⟩
  · exact ⟨Ls.nul _ _, rfl⟩
  · have hl : (zs.take len).length = len := by rw [List.length_take]; omega
    refine ⟨⟨fun k hk => ?_, fun e => (by cases e), by omega⟩, hl⟩
    have hk' : k < len ∧ k < zs.length := by simp at hk; omega
    obtain ⟨b, off, spot⟩ := y
    have hc0 := hcell 0 (by omega)
    have hspot : spot = none := by simpa [Addr.add] using World.cell?_spot hc0
    subst hspot
    have hc := hcell k hk'.2
    rw [addr_add] at hc
    exact ⟨b, off, rfl, by rw [hc]; simp [List.getD, List.getElem?_take, hk'.1]⟩
theorem IsRow.byt {w : World} {a : Option Addr} {len cap : Nat} {zs : List Int} (h : IsRow .u8 w a len cap zs) : Byt (zs.take len) := by
  rcases h with ⟨_, rfl, _, rfl⟩ | ⟨y, rfl, hlc, _, hz, hcell, hw⟩
  · intro x hx; simp at hx
  · intro x hx
    have := hw x (List.mem_of_mem_take hx)
    simpa [Lit.wf, IntKind.min, IntKind.max, IntKind.signed, IntKind.bits] using this
end Go.Proofs.YtglkndoghnblcaaGreat
namespace Go.Proofs.YtglkndoghnblcaaGreat
set_option linter.unusedVariables false
set_option linter.unusedSimpArgs false
theorem manyP_inv {α : Type} {one : List Int → Option (α × List Int)} {put : α → List Int} (h1 : ∀ L x s, (∀ y ∈ L, 0 ≤ y ∧ y ≤ 255) → one L = some (x, s) → L = put x ++ s) : ∀ (n : Nat) (L r : List Int) (xs : List α), (∀ y ∈ L, 0 ≤ y ∧ y ≤ 255) → manyP one n L = some (xs, r) → xs.length = n ∧ L = (xs.map put).flatten ++ r
  | 0, L, r, xs, _, h => by cases h; exact ⟨rfl, rfl⟩
  | n + 1, L, r, xs, hb, h => by
    unfold manyP at h
    cases ho : one L with
    | none => rw [ho] at h; cases h
    | some p =>
      obtain ⟨x, s⟩ := p
      rw [ho] at h
      simp only at h
      have e := h1 L x s hb ho
      have hs : ∀ y ∈ s, 0 ≤ y ∧ y ≤ 255 := fun y hy => hb y (by rw [e]; simp [hy])
      cases hm : manyP one n s with
      | none => rw [hm] at h; cases h
      | some q =>
        obtain ⟨ys, t⟩ := q
        rw [hm] at h
        cases h
        obtain ⟨k1, k2⟩ := manyP_inv h1 n s r ys hs hm
        refine ⟨by simp [k1], ?_⟩
        rw [e, k2]; simp
end Go.Proofs.YtglkndoghnblcaaGreat
namespace Go.Proofs.YtglkndoghnblcaaGreat
open Go.ChangeShapes Go.WideShapes Go.ChangeAt Go.RowKit
set_option linter.unusedVariables false
set_option linter.unusedSimpArgs false
def durP (L : List Int) : Option ((Nat × Nat) × List Int) :=
  match upP 2147483647 L with
  | some (e, r) => match upP 16777215 r with
    | some (s, r') => some ((e, s), r')
    | none => none
  | none => none
theorem durP_1 {L : List Int} (h : upP 2147483647 L = none) : durP L = none := by unfold durP; rw [h]
theorem durP_2 {L r : List Int} {e : Nat} (h : upP 2147483647 L = some (e, r)) (k : upP 16777215 r = none) : durP L = none := by unfold durP; rw [h]; simp only; rw [k]
theorem durP_3 {L r r' : List Int} {e s : Nat} (h : upP 2147483647 L = some (e, r)) (k : upP 16777215 r = some (s, r')) : durP L = some ((e, s), r') := by unfold durP; rw [h]; simp only; rw [k]
set_option maxRecDepth 100000 in
set_option maxHeartbeats 4000000 in
/-- ReadDurable$1 (107). -/
theorem durone_law {W : World} {B : Nat} {R : List Int} (h : RdS W B R) :
    Calls Tryz.prog 107 #[.pointer (some ⟨B, 0, none⟩)] W (GetR W B (durP R) (fun x _ v => v = .agg #[.int .i64 (x.1 : Int), .int .i64 (x.2 : Int)])) := by
  have hlt := h.lt
  have HR := Lib.hid h
  clear h
  go_enter Tryz.func107, Tryz.ntmps107
  go_upto_region 1 with (fail)
  obtain ⟨W1, hW1⟩ : ∃ W1, W.alloc (.cells #[.int .i64 0, .int .i64 0] 74) = W1 := ⟨_, rfl⟩
  have hb1 : Below W.heap.size W W1 := by rw [← hW1]; exact bl1 _ _
  have bx : BoxC W1 W.heap.size #[.int .i64 0, .int .i64 0] 74 := by rw [← hW1]; exact BoxC.new W _ 74
  have hsz : W1.heap.size = W.heap.size + 1 := by rw [← hW1]; simp
  try rw [hW1]
  clear hW1
  have HU := Lib.hid (upto_law (HR.out.below hb1) 2147483647 (by decide))
  have HB1 := Lib.hid hb1
  have BX := Lib.hid bx
  clear hb1 bx
  go_wp2_with fail
  refine HU.out.mono ?_
  rintro r w2 ⟨⟨e1, rfl⟩ | ⟨e, R2, v, e1, rfl, rfl, r2⟩, g2⟩
  · have HX := Lib.hid (durP_1 e1)
    have G := Lib.hid (oth_trans (oth_below B HB1.out) g2)
    clear e1 g2
    go_wp2_with fail
    first | exact ⟨rfl, .inl ⟨HX.out, rfl⟩, G.out⟩ | exact ⟨.inl ⟨HX.out, rfl⟩, G.out⟩
  · have E1 := Lib.hid e1
    have HG := Lib.hid g2
    have HU2 := Lib.hid (upto_law r2 16777215 (by decide))
    clear e1 g2 r2
    go_wp2_with fail
    refine HU2.out.mono ?_
    rintro r w3 ⟨⟨e2, rfl⟩ | ⟨s, R3, v, e2, rfl, rfl, r3⟩, g3⟩
    · have HX := Lib.hid (durP_2 E1.out e2)
      have G := Lib.hid (oth_trans (oth_below B HB1.out) (oth_trans HG.out g3))
      clear e2 g3
      go_wp2_with fail
      first | exact ⟨rfl, .inl ⟨HX.out, rfl⟩, G.out⟩ | exact ⟨.inl ⟨HX.out, rfl⟩, G.out⟩
    · have HX := Lib.hid (durP_3 E1.out e2)
      have G23 := oth_trans HG.out g3
      have G := Lib.hid (oth_trans (oth_below B HB1.out) G23)
      have RR := Lib.hid r3
      have bx3 := BX.out.gr G23 (by omega)
      have z0 := bx3.cell 0
      have z1 := bx3.cell 1
      have f0 := bx3.frozen 0
      have f1 := bx3.frozen 1
      simp only [List.getElem?_toArray, List.getElem?_cons_zero, List.getElem?_cons_succ] at z0 z1
      have HX9 := Lib.hid ((bx3.put 0 (.int .i64 (e : Int))).put 1 (.int .i64 (s : Int)))
      have HB9 := Lib.hid (((Below.refl W.heap.size w3).setCell (p := ⟨W.heap.size, 0, none⟩) (Nat.le_refl _) (.int .i64 (e : Int))).setCell (p := ⟨W.heap.size, 1, none⟩) (Nat.le_refl _) (.int .i64 (s : Int)))
      clear e2 g3 r3 G23 bx3
      go_wp2_with fail
      generalize ((w3.setCell ⟨W.heap.size, 0, none⟩ (.int .i64 (e : Int))).setCell ⟨W.heap.size, 1, none⟩ (.int .i64 (s : Int))) = W9 at *
      refine bodyPost_ret (v := .agg #[.int .i64 (e : Int), .int .i64 (s : Int)]) ?_ rfl ⟨.inr ⟨_, _, _, HX.out, rfl, rfl, RR.out.below1 (HB9.out.mono (by omega))⟩, grown_below G.out HB9.out⟩
      have x0 := HX9.out.cell 0
      have x1 := HX9.out.cell 1
      simp at x0 x1
      simp [results, Tryz.results107, go_sem, x0, x1]
set_option maxRecDepth 100000 in
set_option maxHeartbeats 4000000 in
/-- read's deferred function, where something gave up (151). -/
theorem catchdu_panic (b4 b5 N : Nat) (w : World) (e s y : Int) (x4 : BoxC w b4 #[.int .i64 e, .int .i64 s] 74) (x5 : BoxC w b5 #[.int .i64 y] 24) (hne : b4 ≠ b5) (h4 : N ≤ b4) (h5 : N ≤ b5) :
    CallsD Tryz.prog 151 #[.pointer (some ⟨b4, 0, none⟩), .pointer (some ⟨b5, 0, none⟩)] (.panicking badP) w fun e u' w' => e = .returned (.tuple #[]) ∧ u' = .panicking caughtP ∧ BoxC w' b4 #[.int .i64 0, .int .i64 0] 74 ∧ BoxC w' b5 #[.int .i64 4] 24 ∧ Below N w w' := by
  have hl4 := x4.lt
  have hl5 := x5.lt
  refine callsD_of_wpS Tryz.func151 rfl fun c₀ cs hu => ?_
  apply wpS_seq
  apply wpS_region
  simp [wpOpsS, go_sem, recoverD, hu, Tryz.ntmps151, Exit.thenS, badP]
  refine wpS_of_wp ?_
  go_upto_region 3 with (fail)
  obtain ⟨W1, hW1⟩ : ∃ W1, w.alloc (.cells #[.int .i64 0, .int .i64 0] 74) = W1 := ⟨_, rfl⟩
  have hb : Below w.heap.size w W1 := by rw [← hW1]; exact bl1 _ _
  have bx : BoxC W1 w.heap.size #[.int .i64 0, .int .i64 0] 74 := by rw [← hW1]; exact BoxC.new _ _ _
  try rw [hW1]
  clear hW1
  have z4 := x4.below hb
  have z5 := x5.below hb
  have c0 := z4.cell 0
  have c1 := z4.cell 1
  have f0 := z4.frozen 0
  have f1 := z4.frozen 1
  have d0 := z5.cell 0
  have g0 := z5.frozen 0
  have q0 := bx.cell 0
  have q1 := bx.cell 1
  simp only [List.getElem?_toArray, List.getElem?_cons_zero, List.getElem?_cons_succ] at c0 c1 d0 q0 q1
  have X4 := Lib.hid (BoxC.oth (i := 0) (v := .int .i64 4) (Ne.symm hne) ((z4.put 0 (.int .i64 0)).put 1 (.int .i64 0)))
  have X5 := Lib.hid ((BoxC.oth (i := 1) (v := .int .i64 0) hne (BoxC.oth (i := 0) (v := .int .i64 0) hne z5)).put 0 (.int .i64 4))
  have HB := Lib.hid (((((hb.mono (show N ≤ w.heap.size by omega)).setCell (p := ⟨b4, 0, none⟩) h4 (.int .i64 0)).setCell (p := ⟨b4, 1, none⟩) h4 (.int .i64 0)).setCell (p := ⟨b5, 0, none⟩) h5 (.int .i64 4)))
  clear x4 x5 hb bx z4 z5
  go_wp2
  generalize (((W1.setCell ⟨b4, 0, none⟩ (.int .i64 0)).setCell ⟨b4, 1, none⟩ (.int .i64 0)).setCell ⟨b5, 0, none⟩ (.int .i64 4)) = W9 at *
  have Y4 : BoxC W9 b4 #[.int .i64 0, .int .i64 0] 74 := X4.out
  have Y5 : BoxC W9 b5 #[.int .i64 4] 24 := X5.out
  have YB := HB.out
  simp [bodyPostS, results, Tryz.results151, caughtP]
  exact ⟨Y4, Y5, YB⟩
set_option maxRecDepth 100000 in
set_option maxHeartbeats 4000000 in
/-- read's deferred function, where nothing gave up (151). -/
theorem catchdu_idle (b4 b5 : Nat) (w : World) :
    CallsD Tryz.prog 151 #[.pointer (some ⟨b4, 0, none⟩), .pointer (some ⟨b5, 0, none⟩)] .returning w fun e u' w' => e = .returned (.tuple #[]) ∧ u' = .returning ∧ w' = w := by
  refine callsD_of_wpS Tryz.func151 rfl fun c₀ cs hu => ?_
  apply wpS_seq
  apply wpS_region
  simp [wpOpsS, go_sem, recoverD, hu, Tryz.ntmps151, Exit.thenS]
  refine wpS_of_wp ?_
  go_wp2
  cases c₀
  simp_all [bodyPostS, results, Tryz.results151]
def durB (g e : Int) : Bool := inB g 1 2147483647 && inB e 0 16777215
set_option maxRecDepth 100000 in
set_option maxHeartbeats 4000000 in
/-- mayDurable (105). -/
theorem maydur_law (g e : Int) (w : World) : Calls Tryz.prog 105 #[.agg #[.int .i64 g, .int .i64 e]] w fun r w' => r = .returned (.bool (durB g e)) ∧ Below w.heap.size w w' := by
  unfold durB
  have H1 := Lib.hid (fun W => within_law g 1 2147483647 W)
  have H2 := Lib.hid (fun W => within_law e 0 16777215 W)
  obtain ⟨b1, hb1⟩ : ∃ b, inB g 1 2147483647 = b := ⟨_, rfl⟩
  obtain ⟨b2, hb2⟩ : ∃ b, inB e 0 16777215 = b := ⟨_, rfl⟩
  rw [hb1] at H1 ⊢
  rw [hb2] at H2 ⊢
  clear hb1 hb2
  cases b1 with
  | false =>
    go_enter Tryz.func105, Tryz.ntmps105
    go_wp2_with fail
    refine (H1.out _).mono ?_; rintro r w' ⟨rfl, rfl⟩
    go_wp2_with fail
    go_ret
    exact ⟨by simp, bl1 _ _⟩
  | true =>
    go_enter Tryz.func105, Tryz.ntmps105
    go_wp2_with fail
    refine (H1.out _).mono ?_; rintro r w' ⟨rfl, rfl⟩
    go_wp2_with fail
    refine (H2.out _).mono ?_; rintro r w' ⟨rfl, rfl⟩
    go_wp2_with fail
    go_ret
    exact ⟨by simp, bl1 _ _⟩
set_option maxRecDepth 100000 in
set_option maxHeartbeats 4000000 in
/-- sure at what is durable (108), where nothing was read. -/
theorem suredu_no (e s x : Int) (hx : ¬ x = 0) (w : World) :
    Calls Tryz.prog 108 #[.agg #[.int .i64 e, .int .i64 s], .int .i64 x, .func (.func 105) #[] #[]] w fun r w' => r = .returned (.tuple #[.agg #[.int .i64 0, .int .i64 0], .int .i64 4]) ∧ Below w.heap.size w w' := by
  have h1 : (x != 0) = true := by simp [hx]
  have h2 : (x == 0) = false := by simp [hx]
  go_enter Tryz.func108, Tryz.ntmps108
  go_upto_region 1 with (fail)
  obtain ⟨W1, hW1⟩ : ∃ W1, (w.alloc (.cells #[.int .i64 e, .int .i64 s] 74)).alloc (.cells #[.int .i64 0, .int .i64 0] 74) = W1 := ⟨_, rfl⟩
  have hb1 : Below w.heap.size w W1 := by rw [← hW1]; exact step_below (bl1 _ _) (bl1 _ _)
  have x3 : BoxC W1 w.heap.size #[.int .i64 e, .int .i64 s] 74 := by rw [← hW1]; exact (BoxC.new _ _ _).alloc _
  have x6 : BoxC W1 (w.heap.size + 1) #[.int .i64 0, .int .i64 0] 74 := by rw [← hW1]; have := BoxC.new (w.alloc (.cells #[.int .i64 e, .int .i64 s] 74)) #[.int .i64 0, .int .i64 0] 74; simpa using this
  have hs1 : W1.heap.size = w.heap.size + 1 + 1 := by rw [← hW1]; simp
  try rw [hW1]
  clear hW1
  have HB1 := Lib.hid hb1
  clear hb1 x3
  obtain ⟨N, hN⟩ : ∃ N, w.heap.size = N := ⟨_, rfl⟩
  rw [hN] at x6 hs1 ⊢
  have HN := Lib.hid hN
  go_upto_region 3 with (fail)
  obtain ⟨W2, hW2⟩ : ∃ W2, W1.alloc (.cells #[.int .i64 0, .int .i64 0] 74) = W2 := ⟨_, rfl⟩
  have hb2 : Below W1.heap.size W1 W2 := by rw [← hW2]; exact bl1 _ _
  have x8 : BoxC W2 W1.heap.size #[.int .i64 0, .int .i64 0] 74 := by rw [← hW2]; exact BoxC.new _ _ _
  try rw [hW2]
  clear hW2
  have x62 := x6.below hb2
  have y0 := x8.cell 0
  have y1 := x8.cell 1
  have d0 := x62.cell 0
  have d1 := x62.cell 1
  have f0 := x62.frozen 0
  have f1 := x62.frozen 1
  simp only [List.getElem?_toArray, List.getElem?_cons_zero, List.getElem?_cons_succ] at y0 y1 d0 d1
  try rw [hs1] at y0 y1
  have X9 := Lib.hid ((x62.put 0 (.int .i64 0)).put 1 (.int .i64 0))
  have HB9 := Lib.hid (((step_below HB1.out hb2).setCell (p := ⟨N + 1, 0, none⟩) (by simp; omega) (.int .i64 0)).setCell (p := ⟨N + 1, 1, none⟩) (by simp; omega) (.int .i64 0))
  clear x62 x8 hb2
  go_wp2_with fail
  clear y0 y1 d0 d1 f0 f1
  generalize ((W2.setCell ⟨N + 1, 0, none⟩ (.int .i64 0)).setCell ⟨N + 1, 1, none⟩ (.int .i64 0)) = W9 at *
  refine bodyPost_ret (v := .tuple #[.agg #[.int .i64 0, .int .i64 0], .int .i64 4]) ?_ rfl ⟨rfl, by first | exact HB9.out | (rw [← HN.out]; exact HB9.out)⟩
  have x0 := X9.out.cell 0
  have x1 := X9.out.cell 1
  simp at x0 x1
  simp [results, Tryz.results108, go_sem, x0, x1]
set_option maxRecDepth 100000 in
set_option maxHeartbeats 4000000 in
/-- sure at what is durable (108), where one was read. -/
theorem suredu_law (e s : Int) (w : World) :
    Calls Tryz.prog 108 #[.agg #[.int .i64 e, .int .i64 s], .int .i64 0, .func (.func 105) #[] #[]] w fun r w' => (r = .returned (if durB e s then .tuple #[.agg #[.int .i64 e, .int .i64 s], .int .i64 0] else .tuple #[.agg #[.int .i64 0, .int .i64 0], .int .i64 4])) ∧ Below w.heap.size w w' := by
  have HM := Lib.hid (fun W (b : Below w.heap.size w W) => maydur_law e s W)
  obtain ⟨bm, hbm⟩ : ∃ b, durB e s = b := ⟨_, rfl⟩
  rw [hbm] at HM ⊢
  clear hbm
  go_enter Tryz.func108, Tryz.ntmps108
  go_upto_region 1 with (fail)
  obtain ⟨W1, hW1⟩ : ∃ W1, (w.alloc (.cells #[.int .i64 e, .int .i64 s] 74)).alloc (.cells #[.int .i64 0, .int .i64 0] 74) = W1 := ⟨_, rfl⟩
  have hb1 : Below w.heap.size w W1 := by rw [← hW1]; exact step_below (bl1 _ _) (bl1 _ _)
  have x3 : BoxC W1 w.heap.size #[.int .i64 e, .int .i64 s] 74 := by rw [← hW1]; exact (BoxC.new _ _ _).alloc _
  have x6 : BoxC W1 (w.heap.size + 1) #[.int .i64 0, .int .i64 0] 74 := by rw [← hW1]; have := BoxC.new (w.alloc (.cells #[.int .i64 e, .int .i64 s] 74)) #[.int .i64 0, .int .i64 0] 74; simpa using this
  have hs1 : W1.heap.size = w.heap.size + 1 + 1 := by rw [← hW1]; simp
  try rw [hW1]
  clear hW1
  have HB1 := Lib.hid hb1
  have HC := Lib.hid (HM.out W1 hb1)
  have c0 := x3.cell 0
  have c1 := x3.cell 1
  simp only [List.getElem?_toArray, List.getElem?_cons_zero, List.getElem?_cons_succ] at c0 c1
  have X3 := Lib.hid x3
  have X6 := Lib.hid x6
  clear hb1 x3 x6 HM
  cases bm with
  | false =>
    go_wp2_with fail
    refine HC.out.mono ?_; rintro r w3 ⟨rfl, b3⟩
    have HB3 := Lib.hid (step_below HB1.out b3)
    have x63 := X6.out.below b3
    have hs3 : w.heap.size + 1 + 1 ≤ w3.heap.size := by rw [← hs1]; exact b3.size
    clear c0 c1 b3 HC
    obtain ⟨N, hN⟩ : ∃ N, w.heap.size = N := ⟨_, rfl⟩
    rw [hN] at x63 hs1 hs3 ⊢
    have HN := Lib.hid hN
    go_upto_region 3 with (fail)
    obtain ⟨W2, hW2⟩ : ∃ W2, w3.alloc (.cells #[.int .i64 0, .int .i64 0] 74) = W2 := ⟨_, rfl⟩
    have hb2 : Below w3.heap.size w3 W2 := by rw [← hW2]; exact bl1 _ _
    have x8 : BoxC W2 w3.heap.size #[.int .i64 0, .int .i64 0] 74 := by rw [← hW2]; exact BoxC.new _ _ _
    try rw [hW2]
    clear hW2
    have x62 := x63.below hb2
    have y0 := x8.cell 0
    have y1 := x8.cell 1
    have d0 := x62.cell 0
    have d1 := x62.cell 1
    have f0 := x62.frozen 0
    have f1 := x62.frozen 1
    simp only [List.getElem?_toArray, List.getElem?_cons_zero, List.getElem?_cons_succ] at y0 y1 d0 d1
    try rw [hs1] at y0 y1
    have X9 := Lib.hid ((x62.put 0 (.int .i64 0)).put 1 (.int .i64 0))
    have HB9 := Lib.hid (((step_below HB3.out hb2).setCell (p := ⟨N + 1, 0, none⟩) (by simp; omega) (.int .i64 0)).setCell (p := ⟨N + 1, 1, none⟩) (by simp; omega) (.int .i64 0))
    clear x62 x8 hb2
    go_wp2_with fail
    clear y0 y1 d0 d1 f0 f1
    generalize ((W2.setCell ⟨N + 1, 0, none⟩ (.int .i64 0)).setCell ⟨N + 1, 1, none⟩ (.int .i64 0)) = W9 at *
    refine bodyPost_ret (v := .tuple #[.agg #[.int .i64 0, .int .i64 0], .int .i64 4]) ?_ rfl ⟨by simp, by first | exact HB9.out | (rw [← HN.out]; exact HB9.out)⟩
    have x0 := X9.out.cell 0
    have x1 := X9.out.cell 1
    simp at x0 x1
    simp [results, Tryz.results108, go_sem, x0, x1]
  | true =>
    go_wp2_with fail
    refine HC.out.mono ?_; rintro r w3 ⟨rfl, b3⟩
    have HB3 := Lib.hid (step_below HB1.out b3)
    have x63 := X6.out.below b3
    have x33 := X3.out.below b3
    clear c0 c1 b3 HC
    have y0 := x33.cell 0
    have y1 := x33.cell 1
    have d0 := x63.cell 0
    have d1 := x63.cell 1
    have f0 := x63.frozen 0
    have f1 := x63.frozen 1
    simp only [List.getElem?_toArray, List.getElem?_cons_zero, List.getElem?_cons_succ] at y0 y1 d0 d1
    have X9 := Lib.hid ((x63.put 0 (.int .i64 e)).put 1 (.int .i64 s))
    have HB9 := Lib.hid ((HB3.out.setCell (p := ⟨w.heap.size + 1, 0, none⟩) (by simp) (.int .i64 e)).setCell (p := ⟨w.heap.size + 1, 1, none⟩) (by simp) (.int .i64 s))
    clear x63 x33
    go_wp2_with fail
    clear y0 y1 d0 d1 f0 f1
    generalize ((w3.setCell ⟨w.heap.size + 1, 0, none⟩ (.int .i64 e)).setCell ⟨w.heap.size + 1, 1, none⟩ (.int .i64 s)) = W9 at *
    refine bodyPost_ret (v := .tuple #[.agg #[.int .i64 e, .int .i64 s], .int .i64 0]) ?_ rfl ⟨by simp, HB9.out⟩
    have x0 := X9.out.cell 0
    have x1 := X9.out.cell 1
    simp at x0 x1
    simp [results, Tryz.results108, go_sem, x0, x1]
end Go.Proofs.YtglkndoghnblcaaGreat
namespace Go.Proofs.YtglkndoghnblcaaGreat
open Go.ChangeShapes Go.WideShapes Go.ChangeAt Go.RowKit
set_option linter.unusedVariables false
set_option linter.unusedSimpArgs false
theorem put106 {R : Ending → World → Prop} {i : Nat} (hi : i ≠ 4 ∧ i ≠ 5) {v : Value} {c : List PanicEntry} {a : Act} {w : World} (h : bodyPostD Tryz.prog Tryz.f106 R (.panic c) (a.put (some i) v) w) : bodyPostD Tryz.prog Tryz.f106 R (.panic c) a w := by
  refine leaves_put (fun w => ?_) _ _ _ h
  have e4 : (a.tmps.setIfInBounds i v)[4]? = a.tmps[4]? := Array.getElem?_setIfInBounds_ne hi.1
  have e5 : (a.tmps.setIfInBounds i v)[5]? = a.tmps[5]? := Array.getElem?_setIfInBounds_ne hi.2
  simp [results, Tryz.results106, Act.put, e4, e5]
theorem DuS.below {N B e s : Nat} {w4 X X' : World} {R3 : List Int} (h : DuS N B e s w4 R3 X) (b : Below X.heap.size X X') : DuS N B e s w4 R3 X' :=
  ⟨h.b4.below b, h.b5.imp fun y hy => hy.below b, h.bel.trans (b.mono (Nat.le_trans (by omega) h.sz)), h.rds.below b, Nat.le_trans h.sz b.size⟩
theorem no8d (e s : Int) : ∀ (i : Nat) (x : Int), (#[.int .i64 e, .int .i64 s] : Array Value)[i]? ≠ some (.int .u8 x) := by
  intro i x h
  match i, h with
  | 0, h => simp at h
  | 1, h => simp at h
  | i + 2, h => simp at h
theorem dst4 {N B e s : Nat} {w4 X : World} {R3 : List Int} (h : DuS N B e s w4 R3 X) (hNB : N + 1 < B) : DuS N B e s w4 R3 ((X.setCell ⟨N, 0, none⟩ (.int .i64 (e : Int))).setCell ⟨N, 1, none⟩ (.int .i64 (s : Int))) := by
  have g : X.grownBy ((X.setCell ⟨N, 0, none⟩ (.int .i64 (e : Int))).setCell ⟨N, 1, none⟩ (.int .i64 (s : Int))) (some N) := oth_trans (oth_set _ _ _ _) (oth_set _ _ _ _)
  exact ⟨(h.b4.put 0 (.int .i64 (e : Int))).put 1 (.int .i64 (s : Int)), h.b5.imp fun y hy => hy.gr g (by omega), (h.bel.setCell (p := ⟨N, 0, none⟩) (Nat.le_refl _) _).setCell (p := ⟨N, 1, none⟩) (Nat.le_refl _) _, h.rds.setbox h.b4 (no8d _ _) (by omega) g, Nat.le_trans h.sz g.size⟩
theorem dst5 {N B e s : Nat} {w4 X : World} {R3 : List Int} (h : DuS N B e s w4 R3 X) (hNB : N + 1 < B) : DuS N B e s w4 R3 (X.setCell ⟨N + 1, 0, none⟩ (.int .i64 0)) := by
  have g : X.grownBy (X.setCell ⟨N + 1, 0, none⟩ (.int .i64 0)) (some (N + 1)) := oth_set _ _ _ _
  obtain ⟨y, hy⟩ := h.b5
  exact ⟨h.b4.gr g (by omega), ⟨0, hy.put 0 (.int .i64 0)⟩, h.bel.setCell (p := ⟨N + 1, 0, none⟩) (by simp) _, h.rds.setbox hy (no1 y) (by omega) g, Nat.le_trans h.sz g.size⟩
def RdDu (w : World) (o : Option (Nat × Nat)) (r : Ending) (w' : World) : Prop :=
  ((o = none ∧ r = .returned (.tuple #[.agg #[.int .i64 0, .int .i64 0], .int .i64 4])) ∨ ∃ x, o = some x ∧ r = .returned (.tuple #[.agg #[.int .i64 (x.1 : Int), .int .i64 (x.2 : Int)], .int .i64 0])) ∧ Below w.heap.size w w'
set_option maxRecDepth 100000 in
set_option maxHeartbeats 4000000 in
/-- read at what is durable (106). -/
theorem readdu_law (a0 : Option Addr) (L : List Int) (n cap : Nat) (hL : L.length = n) (hn : n ≤ 1000000) (hB : Byt L) (w : World) (hA : Ls .u8 w a0 cap L) :
    Calls Tryz.prog 106 #[.slice a0 n cap, .func (.func 107) #[] #[]] w (RdDu w (readP (durP L))) := by
  have hmf : ∀ (fn : Fn) (first cap : Array Value) (w : World), (Instr.makeFunc fn first cap).run Tryz.prog w = .ok (.func fn first cap) w := fun _ _ _ _ => rfl
  have HA := Lib.hid (fun W (b : Below w.heap.size w W) => open_law a0 L n cap hL hn hB W (hA.below b))
  clear hL hn hB hA
  go_enter_defers Tryz.func106, Tryz.ntmps106
  go_upto_region 2 with (fail)
  obtain ⟨W1, hW1⟩ : ∃ W1, (w.alloc (.cells #[.int .i64 0, .int .i64 0] 74)).alloc (.cells #[.int .i64 0] 24) = W1 := ⟨_, rfl⟩
  have hb1 : Below w.heap.size w W1 := by rw [← hW1]; exact step_below (bl1 _ _) (bl1 _ _)
  have x4 : BoxC W1 w.heap.size #[.int .i64 0, .int .i64 0] 74 := by rw [← hW1]; exact (BoxC.new _ _ _).alloc _
  have x5 : BoxC W1 (w.heap.size + 1) #[.int .i64 0] 24 := by rw [← hW1]; have := BoxC.new (w.alloc (.cells #[.int .i64 0, .int .i64 0] 74)) #[.int .i64 0] 24; simpa using this
  have hs1 : W1.heap.size = w.heap.size + 1 + 1 := by rw [← hW1]; simp
  try rw [hW1]
  clear hW1
  have HO := Lib.hid (HA.out _ hb1)
  have HB1 := Lib.hid hb1
  obtain ⟨N, hN⟩ : ∃ N, w.heap.size = N := ⟨_, rfl⟩
  have HN := Lib.hid hN
  rw [hN] at x4 x5 hs1 ⊢
  have X4 := Lib.hid x4
  have X5 := Lib.hid x5
  clear hb1 x4 x5 hN HA
  go_wp2_with fail
  refine HO.out.mono ?_; rintro e w2 ⟨B, rfl, r2, hB, B2⟩
  have X42 := Lib.hid (X4.out.below B2)
  have X52 := Lib.hid (X5.out.below B2)
  have HB2 := Lib.hid (step_below HB1.out B2)
  have HT := Lib.hid (durone_law r2)
  have hs2 : N + 1 + 1 ≤ w2.heap.size := by rw [← hs1]; exact B2.size
  clear X4 X5 HB1 r2 B2
  rw [hs1] at hB
  go_wp2_with fail
  refine HT.out.mono ?_
  rintro r w3 ⟨⟨e1, rfl⟩ | ⟨⟨e, s⟩, R3, v, e1, rfl, rfl, r3⟩, g3⟩
  · have HX := Lib.hid (readP_1 e1)
    have z4 := X42.out.gr g3 (by omega)
    have z5 := X52.out.gr g3 (by omega)
    have HB3 := Lib.hid (below_oth HB2.out g3 HB2.out.size (by rw [HN.out]; omega))
    clear g3 e1
    go_wp2_with fail
    refine leaves_cons (f := 151) (args := #[.pointer (some ⟨N, 0, none⟩), .pointer (some ⟨N + 1, 0, none⟩)]) (by simp) (by simp [go_sem]) ?_
    refine (catchdu_panic N (N + 1) N w3 _ _ _ z4 z5 (by omega) (Nat.le_refl _) (by omega)).mono ?_
    rintro e9 u' w9 ⟨rfl, rfl, q4, q5, HB9⟩
    have y0 := q4.cell 0
    have y1 := q4.cell 1
    have y3 := q5.cell 0
    simp only [List.getElem?_toArray, List.getElem?_cons_zero, List.getElem?_cons_succ] at y0 y1 y3
    have HE := Lib.hid (show RdDu w (readP (durP L)) (.returned (.tuple #[.agg #[.int .i64 0, .int .i64 0], .int .i64 4])) w9 from ⟨.inl ⟨HX.out, rfl⟩, HB3.out.trans (by rw [HN.out]; exact HB9)⟩)
    simp [Leaves, settle, caughtP, results, Tryz.results106, go_sem, y0, y1, y3]
    exact HE.out
  have E1 := Lib.hid e1
  have z4 := X42.out.gr g3 (by omega)
  have z5 := Lib.hid (X52.out.gr g3 (by omega))
  have HB3 := Lib.hid (below_oth HB2.out g3 HB2.out.size (by rw [HN.out]; omega))
  have hs3 : N + 1 + 1 ≤ w3.heap.size := Nat.le_trans hs2 g3.size
  have R3' := Lib.hid r3
  have x0 := z4.cell 0
  have x1 := z4.cell 1
  have f0 := z4.frozen 0
  have f1 := z4.frozen 1
  simp only [List.getElem?_toArray, List.getElem?_cons_zero, List.getElem?_cons_succ] at x0 x1
  have Y4 := Lib.hid ((z4.put 0 (.int .i64 (e : Int))).put 1 (.int .i64 (s : Int)))
  have Y5 := Lib.hid (show BoxC ((w3.setCell ⟨N, 0, none⟩ (.int .i64 (e : Int))).setCell ⟨N, 1, none⟩ (.int .i64 (s : Int))) (N + 1) #[.int .i64 0] 24 from BoxC.oth (by omega) (BoxC.oth (by omega) z5.out))
  have H9 := Lib.hid (show w3.grownBy ((w3.setCell ⟨N, 0, none⟩ (.int .i64 (e : Int))).setCell ⟨N, 1, none⟩ (.int .i64 (s : Int))) (some N) from oth_trans (oth_set _ _ _ _) (oth_set _ _ _ _))
  have HB9 := Lib.hid (((Below.refl N w3).setCell (p := ⟨N, 0, none⟩) (Nat.le_refl _) (.int .i64 (e : Int))).setCell (p := ⟨N, 1, none⟩) (Nat.le_refl _) (.int .i64 (s : Int)))
  have Z4 := Lib.hid z4
  clear z4 r3 g3 e1 X42 X52 HB2 HT
  go_upto_region 4 with (fail)
  clear x0 x1 f0 f1
  generalize ((w3.setCell ⟨N, 0, none⟩ (.int .i64 (e : Int))).setCell ⟨N, 1, none⟩ (.int .i64 (s : Int))) = w4 at *
  have hNB : N + 1 < B := by omega
  have hd : Below w4.heap.size w4 w4.drew := (Below.refl _ _).drew
  have FQ := Lib.hid (show DuS N B e s w4 R3 w4.drew from DuS.below ⟨Y4.out, ⟨0, Y5.out⟩, Below.refl _ _, R3'.out.setbox Z4.out (no8d _ _) (by omega) H9.out, Nat.le_trans hs3 H9.out.size⟩ hd)
  have HBA := Lib.hid (show Below N w w4 from by have := HB3.out; rw [HN.out] at this; exact this.trans HB9.out)
  clear hd Y4 Y5 H9 HB9 R3' z5 HB3 Z4
  by_cases hz : R3 = []
  · have HX := Lib.hid (readP_3 (by rw [E1.out, hz] : durP L = some ((e, s), [])))
    refine wp_region_held_drew (S := (DuS N B e s w4 R3)) (by kernel_rfl) (FQ.out) (fun hHeld => ?_)
    refine wpAnyH_take (i := 0) (oi := { dst := some 13, op := Op.load 74 (Operand.tmp 4), type := 74, pos := "forms.go:32", after := #[], guard := none }) (v := ?_) rfl (by kernel_rfl) (by kernel_rfl) (by kernel_rfl) (fun _ _ _ h => put106 (i := 13) (by decide) h) (Or.inl ⟨by rfl, ?_⟩) (by assumption) ?_
    rotate_left
    · intro W hSw; obtain ⟨z4, _⟩ := hSw; have y0 := z4.cell 0; have y1 := z4.cell 1; simp only [List.getElem?_toArray, List.getElem?_cons_zero, List.getElem?_cons_succ] at y0 y1; go_simp; try with_reducible rfl
    try simp only [Act.put, List.setIfInBounds_toArray, List.set_cons_zero, List.set_cons_succ]
    refine wpAnyH_take (i := 1) (oi := { dst := some 14, op := Op.move (Operand.tmp 6), type := 158, pos := "forms.go:32", after := #[], guard := none }) (v := ?_) rfl (by kernel_rfl) (by kernel_rfl) (by kernel_rfl) (fun _ _ _ h => put106 (i := 14) (by decide) h) (Or.inl ⟨by rfl, ?_⟩) (by assumption) ?_
    rotate_left
    · intro W hSw; go_simp; try with_reducible rfl
    try simp only [Act.put, List.setIfInBounds_toArray, List.set_cons_zero, List.set_cons_succ]
    refine wpAnyH_ready (rs := [2]) (by kernel_rfl) (by simp) ?_
    refine AllReadyH.cons (o := { dst := some 15, op := Op.call { callee := Callee.value (Operand.func 121), args := #[Operand.tmp 14], argTypes := #[158] }, type := 24, pos := "forms.go:32", after := #[{ on := 1, ground := Ground.data }], guard := none }) rfl (fun K hK => ?_) AllReadyH.nil
    go_simp
    have HEN := Lib.hid (end_law hHeld.rds)
    rw [if_pos hz] at HEN
    refine (HEN.out).mono ?_; rintro e9 w5 ⟨rfl, hb3⟩
    go_wp2_with fail
    refine hK.out _ _ (hHeld.below hb3) (fun hHeldn => ?_)
    clear hK K hHeld; have hHeld := hHeldn; clear hHeldn
    try simp only [Act.put, List.setIfInBounds_toArray, List.set_cons_zero, List.set_cons_succ]
    refine wpAnyH_ready (rs := [3]) (by kernel_rfl) (by simp) ?_
    refine AllReadyH.cons (o := { dst := some 16, op := Op.call { callee := Callee.value (Operand.func 120), args := #[Operand.const (Value.int IntKind.i64 0), Operand.tmp 15], argTypes := #[24, 24] }, type := 24, pos := "forms.go:32", after := #[{ on := 2, ground := Ground.data }, { on := 2, ground := Ground.chain }], guard := none }) rfl (fun K hK => ?_) AllReadyH.nil
    go_simp
    refine (must_errno_ok _ _).mono ?_; rintro e9 w6 ⟨rfl, rfl⟩
    go_wp2_with fail
    refine hK.out _ _ (hHeld) (fun hHeldn => ?_)
    clear hK K hHeld; have hHeld := hHeldn; clear hHeldn
    try simp only [Act.put, List.setIfInBounds_toArray, List.set_cons_zero, List.set_cons_succ]
    refine wpAnyH_ready (rs := [4]) (by kernel_rfl) (by simp) ?_
    refine AllReadyH.cons (o := { dst := none, op := Op.store 74 (Operand.tmp 4) (Operand.tmp 13), type := 0, pos := "forms.go:32", after := #[{ on := 0, ground := Ground.data }, { on := 3, ground := Ground.chain }, { on := 0, ground := Ground.phase }, { on := 1, ground := Ground.textOnly Departure.lateStoresUnsure }, { on := 2, ground := Ground.textOnly Departure.lateStoresUnsure }, { on := 3, ground := Ground.textOnly Departure.lateStoresUnsure }], guard := none }) rfl (fun K hK => ?_) AllReadyH.nil
    have hHc := hHeld
    obtain ⟨z4, ⟨y9, z5⟩, zb, zr, zs⟩ := hHeld
    have y0 := z4.cell 0; have y1 := z4.cell 1; have f0 := z4.frozen 0; have f1 := z4.frozen 1; simp only [List.getElem?_toArray, List.getElem?_cons_zero, List.getElem?_cons_succ] at y0 y1
    have SP4 := Lib.hid (dst4 hHc hNB)
    clear hHc z4 z5 zb zr zs
    go_simp
    refine hK.out _ _ SP4.out (fun hHeldn => ?_)
    clear hK K y0 y1 f0 f1 SP4; have hHeld := hHeldn; clear hHeldn
    try simp only [Act.put, List.setIfInBounds_toArray, List.set_cons_zero, List.set_cons_succ]
    refine wpAnyH_ready (rs := [5]) (by kernel_rfl) (by simp) ?_
    refine AllReadyH.cons (o := { dst := none, op := Op.store 24 (Operand.tmp 5) (Operand.tmp 16), type := 0, pos := "forms.go:32", after := #[{ on := 3, ground := Ground.data }, { on := 4, ground := Ground.chain }, { on := 0, ground := Ground.phase }, { on := 1, ground := Ground.phase }, { on := 2, ground := Ground.phase }, { on := 3, ground := Ground.phase }, { on := 4, ground := Ground.phase }], guard := none }) rfl (fun K hK => ?_) AllReadyH.nil
    have hHc := hHeld
    obtain ⟨z4, ⟨y8, z5⟩, zb, zr, zs⟩ := hHeld
    have y0 := z5.cell 0; have f0 := z5.frozen 0; simp only [List.getElem?_toArray, List.getElem?_cons_zero, List.getElem?_cons_succ] at y0
    have SP5 := Lib.hid (dst5 hHc hNB)
    have Z5 := Lib.hid (z5.put 0 (.int .i64 0))
    clear hHc z4 z5 zb zr zs
    go_simp
    refine hK.out _ _ SP5.out (fun hHeldn => ?_)
    clear hK K y0 f0 SP5; have hHeld := hHeldn; clear hHeldn
    try simp only [Act.put, List.setIfInBounds_toArray, List.set_cons_zero, List.set_cons_succ]
    refine wpAnyH_done (by kernel_rfl) ?_ _
    skip
    generalize (((w5.setCell ⟨N, 0, none⟩ (.int .i64 (e : Int))).setCell ⟨N, 1, none⟩ (.int .i64 (s : Int))).setCell ⟨N + 1, 0, none⟩ (.int .i64 0)) = W9 at *
    obtain ⟨q4, _, qb, _, qs⟩ := hHeld
    have y0 := q4.cell 0
    have y1 := q4.cell 1
    have y3 := Z5.out.cell 0
    simp at y0 y1 y3
    have HE := Lib.hid (show RdDu w (readP (durP L)) (.returned (.tuple #[.agg #[.int .i64 (e : Int), .int .i64 (s : Int)], .int .i64 0])) W9 from ⟨.inr ⟨_, HX.out, rfl⟩, by rw [HN.out]; exact HBA.out.trans qb⟩)
    clear q4 qb qs Z5
    go_wp2_with fail
    refine leaves_cons (f := 151) (args := #[.pointer (some ⟨N, 0, none⟩), .pointer (some ⟨N + 1, 0, none⟩)]) (by simp) (by simp [go_sem]) ?_
    refine (catchdu_idle N (N + 1) _).mono ?_
    rintro e9 u' w9 ⟨rfl, rfl, rfl⟩
    simp [Leaves, settle, results, Tryz.results106, go_sem, y0, y1, y3]
    exact HE.out
  · have HX := Lib.hid (readP_2 E1.out hz)
    refine wp_region_held_drew (S := (DuS N B e s w4 R3)) (by kernel_rfl) (FQ.out) (fun hHeld => ?_)
    refine wpAnyH_take (i := 0) (oi := { dst := some 13, op := Op.load 74 (Operand.tmp 4), type := 74, pos := "forms.go:32", after := #[], guard := none }) (v := ?_) rfl (by kernel_rfl) (by kernel_rfl) (by kernel_rfl) (fun _ _ _ h => put106 (i := 13) (by decide) h) (Or.inl ⟨by rfl, ?_⟩) (by assumption) ?_
    rotate_left
    · intro W hSw; obtain ⟨z4, _⟩ := hSw; have y0 := z4.cell 0; have y1 := z4.cell 1; simp only [List.getElem?_toArray, List.getElem?_cons_zero, List.getElem?_cons_succ] at y0 y1; go_simp; try with_reducible rfl
    try simp only [Act.put, List.setIfInBounds_toArray, List.set_cons_zero, List.set_cons_succ]
    refine wpAnyH_take (i := 1) (oi := { dst := some 14, op := Op.move (Operand.tmp 6), type := 158, pos := "forms.go:32", after := #[], guard := none }) (v := ?_) rfl (by kernel_rfl) (by kernel_rfl) (by kernel_rfl) (fun _ _ _ h => put106 (i := 14) (by decide) h) (Or.inl ⟨by rfl, ?_⟩) (by assumption) ?_
    rotate_left
    · intro W hSw; go_simp; try with_reducible rfl
    try simp only [Act.put, List.setIfInBounds_toArray, List.set_cons_zero, List.set_cons_succ]
    refine wpAnyH_ready (rs := [2]) (by kernel_rfl) (by simp) ?_
    refine AllReadyH.cons (o := { dst := some 15, op := Op.call { callee := Callee.value (Operand.func 121), args := #[Operand.tmp 14], argTypes := #[158] }, type := 24, pos := "forms.go:32", after := #[{ on := 1, ground := Ground.data }], guard := none }) rfl (fun K hK => ?_) AllReadyH.nil
    go_simp
    have HEN := Lib.hid (end_law hHeld.rds)
    rw [if_neg hz] at HEN
    refine (HEN.out).mono ?_; rintro e9 w5 ⟨rfl, hb3⟩
    go_wp2_with fail
    refine hK.out _ _ (hHeld.below hb3) (fun hHeldn => ?_)
    clear hK K hHeld; have hHeld := hHeldn; clear hHeldn
    try simp only [Act.put, List.setIfInBounds_toArray, List.set_cons_zero, List.set_cons_succ]
    refine wpAnyH_ready (rs := [3]) (by kernel_rfl) (by simp) ?_
    refine AllReadyH.cons (o := { dst := some 16, op := Op.call { callee := Callee.value (Operand.func 120), args := #[Operand.const (Value.int IntKind.i64 0), Operand.tmp 15], argTypes := #[24, 24] }, type := 24, pos := "forms.go:32", after := #[{ on := 2, ground := Ground.data }, { on := 2, ground := Ground.chain }], guard := none }) rfl (fun K hK => ?_) AllReadyH.nil
    go_simp
    refine (must_errno_no _ 4 (by decide) _).mono ?_; rintro e9 w6 ⟨rfl, rfl⟩
    go_wp2_with fail
    obtain ⟨q4, ⟨y9, q5⟩, qb, _, _⟩ := hHeld
    have HQB := Lib.hid qb
    refine leaves_cons (f := 151) (args := #[.pointer (some ⟨N, 0, none⟩), .pointer (some ⟨N + 1, 0, none⟩)]) (by simp) (by simp [go_sem]) ?_
    refine (catchdu_panic N (N + 1) N _ _ _ _ q4 q5 (by omega) (Nat.le_refl _) (by omega)).mono ?_
    rintro e9 u' w9 ⟨rfl, rfl, q4, q5, HB9⟩
    have y0 := q4.cell 0
    have y1 := q4.cell 1
    have y3 := q5.cell 0
    simp only [List.getElem?_toArray, List.getElem?_cons_zero, List.getElem?_cons_succ] at y0 y1 y3
    have HE := Lib.hid (show RdDu w (readP (durP L)) (.returned (.tuple #[.agg #[.int .i64 0, .int .i64 0], .int .i64 4])) w9 from ⟨.inl ⟨HX.out, rfl⟩, by rw [HN.out]; exact (HBA.out.trans HQB.out).trans HB9⟩)
    simp [Leaves, settle, caughtP, results, Tryz.results106, go_sem, y0, y1, y3]
    exact HE.out
end Go.Proofs.YtglkndoghnblcaaGreat
namespace Go.Proofs.YtglkndoghnblcaaGreat
open Go.ChangeShapes Go.WideShapes Go.ChangeAt Go.RowKit
set_option linter.unusedVariables false
set_option linter.unusedSimpArgs false
/-- What is durable, as bytes tell it. -/
def rdurP (L : List Int) : Option (Nat × Nat) := match readP (durP (onlyL L)) with
  | some x => if durB (x.1 : Int) (x.2 : Int) then some x else none
  | none => none
theorem rdurP_1 {L : List Int} (h : readP (durP (onlyL L)) = none) : rdurP L = none := by unfold rdurP; rw [h]
theorem rdurP_2 {L : List Int} {x : Nat × Nat} (h : readP (durP (onlyL L)) = some x) (k : durB (x.1 : Int) (x.2 : Int) = false) : rdurP L = none := by unfold rdurP; rw [h]; simp [k]
theorem rdurP_3 {L : List Int} {x : Nat × Nat} (h : readP (durP (onlyL L)) = some x) (k : durB (x.1 : Int) (x.2 : Int) = true) : rdurP L = some x := by unfold rdurP; rw [h]; simp [k]
def durV : Option (Nat × Nat) → Value
  | some x => .tuple #[.agg #[.int .i64 (x.1 : Int), .int .i64 (x.2 : Int)], .int .i64 0]
  | none => .tuple #[.agg #[.int .i64 0, .int .i64 0], .int .i64 4]
set_option maxRecDepth 100000 in
set_option maxHeartbeats 4000000 in
/-- ReadDurable (39). -/
theorem readdur_law (a : Option Addr) (L : List Int) (n cap : Nat) (hn : L.length = n) (hn2 : n ≤ 1000000) (hB : Byt L) (w : World) (hL : Ls .u8 w a cap L) :
    Calls Tryz.prog 39 #[.slice a n cap] w fun r w' => r = .returned (durV (rdurP L)) ∧ Below w.heap.size w w' := by
  have HO := Lib.hid (fun W (b : Below w.heap.size w W) => only_law a L n cap hn hn2 hB W (hL.below b))
  have HBY := Lib.hid (onlyL_byt hB)
  have hol := onlyL_len L
  clear hn hB hL
  go_enter Tryz.func39, Tryz.ntmps39
  go_upto_region 1 with (fail)
  obtain ⟨W1, hW1⟩ : ∃ W1, w.alloc (.cells #[.int .i64 0, .int .i64 0] 74) = W1 := ⟨_, rfl⟩
  have hb1 : Below w.heap.size w W1 := by rw [← hW1]; exact bl1 _ _
  have x0 : BoxC W1 w.heap.size #[.int .i64 0, .int .i64 0] 74 := by rw [← hW1]; exact BoxC.new _ _ _
  try rw [hW1]
  clear hW1
  have HO1 := Lib.hid (HO.out _ hb1)
  have HB1 := Lib.hid hb1
  clear hb1 HO
  go_wp2_with fail
  refine HO1.out.mono ?_
  rintro r w2 ⟨a2, c2, rfl, l2, b2⟩
  obtain ⟨ol, hol2⟩ : ∃ ol, (onlyL L).length = ol := ⟨_, rfl⟩
  rw [hol2] at hol ⊢
  have HR := Lib.hid (readdu_law a2 (onlyL L) ol c2 hol2 (by omega) HBY.out w2 l2)
  have HB2 := Lib.hid b2
  clear l2 b2 hol2 HO1
  go_wp2_with fail
  refine HR.out.mono ?_
  rintro r w3 ⟨⟨h1, rfl⟩ | ⟨⟨g, e⟩, h1, rfl⟩, b3⟩
  · have HX := Lib.hid (rdurP_1 h1)
    have HB3 := Lib.hid (step_below HB2.out b3)
    clear h1 b3
    go_upto_region 2 with (fail)
    obtain ⟨W4, hW4⟩ : ∃ W4, w3.alloc (.cells #[.int .i64 0, .int .i64 0] 74) = W4 := ⟨_, rfl⟩
    have hb4 : Below w3.heap.size w3 W4 := by rw [← hW4]; exact bl1 _ _
    have x4 : BoxC W4 w3.heap.size #[.int .i64 0, .int .i64 0] 74 := by rw [← hW4]; exact BoxC.new _ _ _
    have q0 := x4.cell 0
    have q1 := x4.cell 1
    simp only [List.getElem?_toArray, List.getElem?_cons_zero, List.getElem?_cons_succ] at q0 q1
    try rw [hW4]
    clear hW4 x4
    have HB4 := Lib.hid (step_below HB3.out hb4)
    clear hb4
    go_wp2_with fail
    refine (suredu_no 0 0 4 (by decide) W4).mono ?_
    rintro r w5 ⟨rfl, b5⟩
    have b15 := step_below HB4.out b5
    clear q0 q1 b5
    have x3 := x0.below b15
    have z0 := x3.cell 0
    have z1 := x3.cell 1
    have f0 := x3.frozen 0
    have f1 := x3.frozen 1
    simp only [List.getElem?_toArray, List.getElem?_cons_zero, List.getElem?_cons_succ] at z0 z1
    have X9 := Lib.hid ((x3.put 0 (.int .i64 0)).put 1 (.int .i64 0))
    have HB9 := Lib.hid ((HB1.out.trans (b15.mono HB1.out.size)).setCell (p := ⟨w.heap.size, 0, none⟩) (Nat.le_refl _) (.int .i64 0) |>.setCell (p := ⟨w.heap.size, 1, none⟩) (Nat.le_refl _) (.int .i64 0))
    clear x3
    go_wp2_with fail
    clear z0 z1 f0 f1
    generalize ((w5.setCell ⟨w.heap.size, 0, none⟩ (.int .i64 0)).setCell ⟨w.heap.size, 1, none⟩ (.int .i64 0)) = W9 at *
    refine bodyPost_ret (v := .tuple #[.agg #[.int .i64 0, .int .i64 0], .int .i64 4]) ?_ rfl ⟨by rw [HX.out]; rfl, HB9.out⟩
    have x0' := X9.out.cell 0
    have x1' := X9.out.cell 1
    simp at x0' x1'
    simp [results, Tryz.results39, go_sem, x0', x1']
  · obtain ⟨ok, hok⟩ : ∃ ok, durB (g : Int) (e : Int) = ok := ⟨_, rfl⟩
    have HSU := Lib.hid (fun W => suredu_law (g : Int) (e : Int) W)
    rw [hok] at HSU
    have HX := Lib.hid (And.intro h1 hok)
    have HB3 := Lib.hid (step_below HB2.out b3)
    clear h1 b3 hok
    simp only
    go_upto_region 2 with (fail)
    obtain ⟨W4, hW4⟩ : ∃ W4, w3.alloc (.cells #[.int .i64 (g : Int), .int .i64 (e : Int)] 74) = W4 := ⟨_, rfl⟩
    have hb4 : Below w3.heap.size w3 W4 := by rw [← hW4]; exact bl1 _ _
    have x4 : BoxC W4 w3.heap.size #[.int .i64 (g : Int), .int .i64 (e : Int)] 74 := by rw [← hW4]; exact BoxC.new _ _ _
    have q0 := x4.cell 0
    have q1 := x4.cell 1
    simp only [List.getElem?_toArray, List.getElem?_cons_zero, List.getElem?_cons_succ] at q0 q1
    try rw [hW4]
    clear hW4 x4
    have HB4 := Lib.hid (step_below HB3.out hb4)
    clear hb4
    go_wp2_with fail
    refine (HSU.out W4).mono ?_
    rintro r w5 ⟨rfl, b5⟩
    have b15 := step_below HB4.out b5
    clear q0 q1 b5
    cases ok with
    | false =>
      simp only [Bool.false_eq_true, if_false]
      have x3 := x0.below b15
      have z0 := x3.cell 0
      have z1 := x3.cell 1
      have f0 := x3.frozen 0
      have f1 := x3.frozen 1
      simp only [List.getElem?_toArray, List.getElem?_cons_zero, List.getElem?_cons_succ] at z0 z1
      have X9 := Lib.hid ((x3.put 0 (.int .i64 0)).put 1 (.int .i64 0))
      have HB9 := Lib.hid ((HB1.out.trans (b15.mono HB1.out.size)).setCell (p := ⟨w.heap.size, 0, none⟩) (Nat.le_refl _) (.int .i64 0) |>.setCell (p := ⟨w.heap.size, 1, none⟩) (Nat.le_refl _) (.int .i64 0))
      clear x3
      go_wp2_with fail
      clear z0 z1 f0 f1
      generalize ((w5.setCell ⟨w.heap.size, 0, none⟩ (.int .i64 0)).setCell ⟨w.heap.size, 1, none⟩ (.int .i64 0)) = W9 at *
      refine bodyPost_ret (v := .tuple #[.agg #[.int .i64 0, .int .i64 0], .int .i64 4]) ?_ rfl ⟨by rw [rdurP_2 HX.out.1 HX.out.2]; rfl, HB9.out⟩
      have x0' := X9.out.cell 0
      have x1' := X9.out.cell 1
      simp at x0' x1'
      simp [results, Tryz.results39, go_sem, x0', x1']
    | true =>
      simp only [if_true]
      have x3 := x0.below b15
      have z0 := x3.cell 0
      have z1 := x3.cell 1
      have f0 := x3.frozen 0
      have f1 := x3.frozen 1
      simp only [List.getElem?_toArray, List.getElem?_cons_zero, List.getElem?_cons_succ] at z0 z1
      have X9 := Lib.hid ((x3.put 0 (.int .i64 (g : Int))).put 1 (.int .i64 (e : Int)))
      have HB9 := Lib.hid ((HB1.out.trans (b15.mono HB1.out.size)).setCell (p := ⟨w.heap.size, 0, none⟩) (Nat.le_refl _) (.int .i64 (g : Int)) |>.setCell (p := ⟨w.heap.size, 1, none⟩) (Nat.le_refl _) (.int .i64 (e : Int)))
      clear x3
      go_wp2_with fail
      clear z0 z1 f0 f1
      generalize ((w5.setCell ⟨w.heap.size, 0, none⟩ (.int .i64 (g : Int))).setCell ⟨w.heap.size, 1, none⟩ (.int .i64 (e : Int))) = W9 at *
      refine bodyPost_ret (v := .tuple #[.agg #[.int .i64 (g : Int), .int .i64 (e : Int)], .int .i64 0]) ?_ rfl ⟨by rw [rdurP_3 HX.out.1 HX.out.2]; rfl, HB9.out⟩
      have x0' := X9.out.cell 0
      have x1' := X9.out.cell 1
      simp at x0' x1'
      simp [results, Tryz.results39, go_sem, x0', x1']
end Go.Proofs.YtglkndoghnblcaaGreat
namespace Go.Proofs.YtglkndoghnblcaaGreat
open Go.ChangeShapes Go.WideShapes Go.ChangeAt Go.RowKit
set_option linter.unusedVariables false
set_option linter.unusedSimpArgs false
theorem tidW_len (e s : Nat) (he : e < 18446744073709551616) (hs : s < 18446744073709551616) : 1 ≤ (tidW e s).length ∧ (tidW e s).length ≤ 4096 := by
  unfold tidW
  rw [List.length_append]
  have := numW_ten e he
  have := numW_ten s hs
  have := numW_pos e
  omega
def PduR (w : World) (g e : Int) (r : Ending) (w' : World) : Prop :=
  ((durB g e = false ∧ r = .returned (.tuple #[.slice none 0 0, .int .i64 2])) ∨
    (durB g e = true ∧ ∃ a' c', r = .returned (.tuple #[.slice a' (8 + (tidW g.toNat e.toNat).length) c', .int .i64 0]) ∧ w'.ownsRow w.heap.size 5 1 (.slice a' (8 + (tidW g.toNat e.toNat).length) c') (8 + (tidW g.toNat e.toNat).length) (iv .u8 (frameL (tidW g.toNat e.toNat))) ∧ Ls .u8 w' a' c' (frameL (tidW g.toNat e.toNat)))) ∧ Below w.heap.size w w'
set_option maxRecDepth 100000 in
set_option maxHeartbeats 4000000 in
/-- PutDurable (38). -/
theorem putdur_law (g e : Int) (w : World) : Calls Tryz.prog 38 #[.agg #[.int .i64 g, .int .i64 e]] w (PduR w g e) := by
  have HM := Lib.hid (fun W => maydur_law g e W)
  cases hb : durB g e with
  | false =>
    have HB := Lib.hid hb
    rw [hb] at HM
    clear hb
    go_enter Tryz.func38, Tryz.ntmps38
    go_wp2_with fail
    refine (HM.out _).mono ?_; rintro r w1 ⟨rfl, hb1⟩
    have HB1 := Lib.hid (step_below (bl1 w _) hb1)
    clear hb1
    go_wp2_with fail
    go_ret2
    exact ⟨.inl ⟨HB.out, rfl⟩, HB1.out⟩
  | true =>
    have HB := Lib.hid hb
    rw [hb] at HM
    unfold durB at hb
    rw [Bool.and_eq_true, inB_iff, inB_iff] at hb
    obtain ⟨e, rfl⟩ : ∃ n : Nat, g = (n : Int) := ⟨g.toNat, by omega⟩
    rename_i s0
    obtain ⟨s, rfl⟩ : ∃ n : Nat, s0 = (n : Int) := ⟨s0.toNat, by omega⟩
    have he : e < 9223372036854775808 := by omega
    have hs : s < 9223372036854775808 := by omega
    have HTL := Lib.hid (tidW_len e s (by omega) (by omega))
    have HTY := Lib.hid (tidW_byt e s)
    clear hb
    go_enter Tryz.func38, Tryz.ntmps38
    go_upto_region 1 with (fail)
    obtain ⟨W0, hW0⟩ : ∃ W0, w.alloc (.cells #[.int .i64 (e : Int), .int .i64 (s : Int)] 74) = W0 := ⟨_, rfl⟩
    have hb0 : Below w.heap.size w W0 := by rw [← hW0]; exact bl1 _ _
    have bx : BoxC W0 w.heap.size #[.int .i64 (e : Int), .int .i64 (s : Int)] 74 := by rw [← hW0]; exact BoxC.new w _ 74
    rw [hW0]
    clear hW0
    have y0 := bx.cell 0
    have y1 := bx.cell 1
    simp only [List.getElem?_toArray, List.getElem?_cons_zero, List.getElem?_cons_succ] at y0 y1
    go_wp2_with fail
    refine (HM.out _).mono ?_; rintro r W1 ⟨rfl, hb1⟩
    have HB0 := Lib.hid (step_below hb0 hb1)
    have HS0 := Lib.hid HB0.out.size
    have bx1 := bx.below hb1
    have FQ := Lib.hid (fun X (b : Below W1.heap.size W1 X) => (⟨(bx1.below b).cell 0, (bx1.below b).cell 1⟩ : X.cell? ⟨w.heap.size, 0, none⟩ = some (.int .i64 (e : Int)) ∧ X.cell? ⟨w.heap.size, 1, none⟩ = some (.int .i64 (s : Int))))
    clear hb0 bx bx1 y0 y1 hb1
    go_wp2_with fail
    rename_i KK hKK
    refine Code.wp_mono (Q := Exit.then KK (fun _ _ _ => False)) (fun e a' w' h => by cases e <;> first | exact h | exact h.elim) ?_
    refine wp_region_held_drew (S := (fun X => Below W1.heap.size W1 X)) (by kernel_rfl) ((Below.refl _ _).drew) (fun hHeld => ?_)
    refine tk 0 ?_ rfl (.inl ⟨by rfl, ?_⟩) ?_
    rotate_left
    · intro W hSw; go_simp; try with_reducible rfl
    try simp only [Act.put, List.setIfInBounds_toArray, List.set_cons_zero, List.set_cons_succ]
    refine tk 1 ?_ rfl (.inl ⟨by rfl, ?_⟩) ?_
    rotate_left
    · intro W hSw; obtain ⟨z0, z1⟩ := FQ.out W hSw; go_simp; try with_reducible rfl
    try simp only [Act.put, List.setIfInBounds_toArray, List.set_cons_zero, List.set_cons_succ]
    refine tk 3 ?_ rfl (.inl ⟨by rfl, ?_⟩) ?_
    rotate_left
    · intro W hSw; go_simp; try with_reducible rfl
    try simp only [Act.put, List.setIfInBounds_toArray, List.set_cons_zero, List.set_cons_succ]
    refine tk 4 ?_ rfl (.inl ⟨by rfl, ?_⟩) ?_
    rotate_left
    · intro W hSw; obtain ⟨z0, z1⟩ := FQ.out W hSw; go_simp; try with_reducible rfl
    try simp only [Act.put, List.setIfInBounds_toArray, List.set_cons_zero, List.set_cons_succ]
    refine wpAnyH_ready (rs := [2]) (by kernel_rfl) (by simp) ?_
    refine AllReadyH.cons (o := { dst := some 9, op := Op.call { callee := Callee.value (Operand.func 79), args := #[Operand.tmp 8], argTypes := #[2] }, type := 22, pos := "forms.go:270", after := #[{ on := 1, ground := Ground.data }], guard := none }) rfl (fun K hK => ?_) AllReadyH.nil
    go_simp
    refine (putnumber_own e he _).mono ?_; rintro e9 w3 ⟨a3, c3, rfl, ho3, hl3, hb3⟩; have HA := Lib.hid hl3.ls
    go_wp2_with fail
    refine hK.out _ _ (step_below hHeld hb3) (fun hHeldn => ?_)
    clear hK K hHeld; have hHeld := hHeldn; clear hHeldn
    clear ho3 hl3 hb3
    try simp only [Act.put, List.setIfInBounds_toArray, List.set_cons_zero, List.set_cons_succ]
    refine wpAnyH_ready (rs := [5]) (by kernel_rfl) (by simp) ?_
    refine AllReadyH.cons (o := { dst := some 12, op := Op.call { callee := Callee.value (Operand.func 79), args := #[Operand.tmp 11], argTypes := #[2] }, type := 22, pos := "forms.go:270", after := #[{ on := 4, ground := Ground.data }, { on := 2, ground := Ground.chain }], guard := none }) rfl (fun K hK => ?_) AllReadyH.nil
    go_simp
    refine (putnumber_own s hs _).mono ?_; rintro e9 w4 ⟨a4, c4, rfl, ho4, hl4, hb4⟩; have HC := Lib.hid hl4.ls; have HB4 := Lib.hid hb4
    go_wp2_with fail
    refine hK.out _ _ (step_below hHeld hb4) (fun hHeldn => ?_)
    clear hK K hHeld; have hHeld := hHeldn; clear hHeldn
    clear ho4 hl4 hb4
    have hfl : flat [⟨a3, c3, numW e⟩, ⟨a4, c4, numW s⟩] = tidW e s := (by simp [flat, tidW]); have hRR := rdR_new w4 [⟨a3, c3, numW e⟩, ⟨a4, c4, numW s⟩] #[.slice a3 (numW e).length c3, .slice a4 (numW s).length c4] 22 (0, 0) (by simp only [List.map_cons, List.map_nil, P1.v]) (by intro p hp; simp only [List.mem_cons, List.not_mem_nil, or_false] at hp; rcases hp with rfl | rfl; exact (HA.out.below HB4.out); exact HC.out); have hj := join_own (some ⟨w4.heap.size, 0, none⟩) _ 2 2 rfl (by omega) (by rw [hfl]; unfold tidW; rw [List.length_append]; have := numW_ten e (by omega); have := numW_ten s (by omega); omega) _ hRR; rw [hfl] at hj; have HJ := Lib.hid hj; clear hj hRR hfl
    try simp only [Act.put, List.setIfInBounds_toArray, List.set_cons_zero, List.set_cons_succ]
    refine wpAnyH_ready (rs := [6]) (by kernel_rfl) (by simp) ?_
    refine AllReadyH.cons (o := { dst := some 13, op := Op.buildSlice 27 2 #[(0, Operand.tmp 9), (1, Operand.tmp 12)], type := 27, pos := "forms.go:270", after := #[{ on := 2, ground := Ground.data }, { on := 5, ground := Ground.data }], guard := none }) rfl (fun K hK => ?_) AllReadyH.nil
    go_simp
    refine hK.out _ _ (hHeld.alloc hHeld.size _) (fun hHeldn => ?_)
    clear hK K hHeld; have hHeld := hHeldn; clear hHeldn
    try simp only [Act.put, List.setIfInBounds_toArray, List.set_cons_zero, List.set_cons_succ]
    refine wpAnyH_ready (rs := [7]) (by kernel_rfl) (by simp) ?_
    refine AllReadyH.cons (o := { dst := some 14, op := Op.call { callee := Callee.value (Operand.func 49), args := #[Operand.tmp 13], argTypes := #[27] }, type := 22, pos := "forms.go:270", after := #[{ on := 6, ground := Ground.data }, { on := 5, ground := Ground.chain }], guard := none }) rfl (fun K hK => ?_) AllReadyH.nil
    go_simp
    refine (HJ.out).mono ?_; rintro e9 w5 ⟨a5, c5, rfl, hl5, ho5, hb5⟩; have HFR := Lib.hid (frame_ok a5 (tidW e s) (tidW e s).length c5 rfl HTL.out.1 HTL.out.2 HTY.out w5 hl5)
    go_wp2_with fail
    refine hK.out _ _ (step_below hHeld hb5) (fun hHeldn => ?_)
    clear hK K hHeld; have hHeld := hHeldn; clear hHeldn
    clear ho5 hl5 hb5
    try simp only [Act.put, List.setIfInBounds_toArray, List.set_cons_zero, List.set_cons_succ]
    refine wpAnyH_ready (rs := [8]) (by kernel_rfl) (by simp) ?_
    refine AllReadyH.cons (o := { dst := some 15, op := Op.call { callee := Callee.value (Operand.func 11), args := #[Operand.tmp 14], argTypes := #[22] }, type := 25, pos := "forms.go:270", after := #[{ on := 7, ground := Ground.data }, { on := 7, ground := Ground.chain }], guard := none }) rfl (fun K hK => ?_) AllReadyH.nil
    go_simp
    refine (HFR.out).mono ?_; rintro e9 w6 ⟨a6, c6, rfl, ho6, hl6, hb6⟩; have HO6 := Lib.hid (And.intro (own_base (b := w.heap.size) (by have := hHeld.size; have := HS0.out; omega) ho6) hl6)
    go_wp2_with fail
    refine hK.out _ _ (step_below hHeld hb6) (fun hHeldn => ?_)
    clear hK K hHeld; have hHeld := hHeldn; clear hHeldn
    clear ho6 hl6 hb6
    try simp only [Act.put, List.setIfInBounds_toArray, List.set_cons_zero, List.set_cons_succ]
    refine tk 9 ?_ rfl (.inl ⟨by rfl, ?_⟩) ?_
    rotate_left
    · intro W hSw; go_simp; try with_reducible rfl
    try simp only [Act.put, List.setIfInBounds_toArray, List.set_cons_zero, List.set_cons_succ]
    refine tk 10 ?_ rfl (.inl ⟨by rfl, ?_⟩) ?_
    rotate_left
    · intro W hSw; go_simp; try with_reducible rfl
    try simp only [Act.put, List.setIfInBounds_toArray, List.set_cons_zero, List.set_cons_succ]
    refine tk 11 ?_ rfl (.inl ⟨by rfl, ?_⟩) ?_
    rotate_left
    · intro W hSw; go_simp; try with_reducible rfl
    try simp only [Act.put, List.setIfInBounds_toArray, List.set_cons_zero, List.set_cons_succ]
    refine tk 12 ?_ rfl (.inl ⟨by rfl, ?_⟩) ?_
    rotate_left
    · intro W hSw; go_simp; try with_reducible rfl
    try simp only [Act.put, List.setIfInBounds_toArray, List.set_cons_zero, List.set_cons_succ]
    refine wpAnyH_done (by kernel_rfl) ?_ _
    skip
    refine hKK _ _ ?_
    have HBN := Lib.hid (step_below HB0.out hHeld)
    clear hKK hHeld FQ
    go_wp2_with fail
    go_ret2
    exact ⟨.inr ⟨HB.out, a6, c6, rfl, HO6.out.1, HO6.out.2⟩, HBN.out⟩
end Go.Proofs.YtglkndoghnblcaaGreat
namespace Go.Proofs.YtglkndoghnblcaaGreat
open Go.ChangeShapes Go.WideShapes Go.ChangeAt Go.RowKit
set_option linter.unusedVariables false
set_option linter.unusedSimpArgs false
set_option maxRecDepth 100000 in
set_option maxHeartbeats 4000000 in
/-- The document's MayName (109). -/
theorem rmayname_law (s : ByteArray) (hs : s.size ≤ maxLen) (w : World) : Calls Tryz.prog 109 #[.string s] w fun e w' => e = .returned (.bool (mayB s)) ∧ w' = w := by
  unfold maxLen at hs
  by_cases h1 : s.size < 1
  · have d1 : (s.size : Int) < 1 := by omega
    have HX := Lib.hid (show mayB s = false by
      unfold mayB inB
      rw [decide_eq_false (by omega), Bool.false_and])
    go_enter Tryz.func109, Tryz.ntmps109
    go_wp2_with fail
    go_ret
    exact ⟨by rw [HX.out]; rfl, rfl⟩
  have d1 : ¬ (s.size : Int) < 1 := by omega
  by_cases h2 : 24 < s.size
  · have d2 : (24 : Int) < (s.size : Int) := by omega
    have HX := Lib.hid (show mayB s = false by
      unfold mayB inB
      rw [decide_eq_false (by omega), Bool.false_and])
    clear h1
    go_enter Tryz.func109, Tryz.ntmps109
    go_wp2_with fail
    go_ret
    exact ⟨by rw [HX.out]; rfl, rfl⟩
  have d2 : ¬ (24 : Int) < (s.size : Int) := by omega
  have H0 := Lib.hid (show okN s 0 = true by unfold okN inB; rw [decide_eq_true (by omega)]; simp)
  clear h1 h2
  go_enter Tryz.func109, Tryz.ntmps109
  go_wp2_with fail
  go_loopw [3] (fun i wr => ∃ k : Nat, k ≤ s.size ∧ i = .int .i64 (k : Int) ∧ Hid (okN s k = true) ∧ wr = w) (fun i _ => s.size - (intOf i).toNat)
  case atStart => exact ⟨0, by omega, rfl, H0, rfl⟩
  case round =>
    obtain ⟨k, hk, rfl, HK, rfl⟩ := hrel
    by_cases hlt : k < s.size
    · have d3 : (k : Int) < (s.size : Int) := by omega
      have HN := Lib.hid (okN_next s k hlt)
      obtain ⟨c, hc⟩ : ∃ c, s[k].toNat = c := ⟨_, rfl⟩
      have HC := Lib.hid hc
      by_cases hc1 : c < 33
      · have d4 : (c : Int) < 33 := by omega
        have HX := Lib.hid (show mayB s = false by
          have : ∀ d, okN s (k + 1 + d) = false := fun d => by
            unfold okN
            have h1 : okN s (k + 1) = false := by rw [HN.out, HK.out]; unfold okC; rw [HC.out]; simp; omega
            unfold okN at h1
            rw [List.take_add, List.all_append]
            cases hi : inB (s.size : Int) 1 24 with
            | false => rfl
            | true => rw [hi] at h1; simp only [Bool.true_and] at h1; rw [h1]; rfl
          rw [← okN_all, show s.size = k + 1 + (s.size - (k + 1)) by omega]
          exact this _)
        go_wp2_with fail
        go_ret
        exact ⟨by rw [HX.out]; rfl, rfl⟩
      · have d4 : ¬ (c : Int) < 33 := by omega
        by_cases hc2 : 126 < c
        · have d5 : (126 : Int) < (c : Int) := by omega
          have HX := Lib.hid (show mayB s = false by
            have : ∀ d, okN s (k + 1 + d) = false := fun d => by
              unfold okN
              have h1 : okN s (k + 1) = false := by rw [HN.out, HK.out]; unfold okC; rw [HC.out]; simp; omega
              unfold okN at h1
              rw [List.take_add, List.all_append]
              cases hi : inB (s.size : Int) 1 24 with
              | false => rfl
              | true => rw [hi] at h1; simp only [Bool.true_and] at h1; rw [h1]; rfl
            rw [← okN_all, show s.size = k + 1 + (s.size - (k + 1)) by omega]
            exact this _)
          go_wp2_with fail
          go_ret
          exact ⟨by rw [HX.out]; rfl, rfl⟩
        · have d5 : ¬ (126 : Int) < (c : Int) := by omega
          have HNX := Lib.hid (show okN s (k + 1) = true by rw [HN.out, HK.out]; unfold okC; rw [HC.out]; simp; omega)
          go_wp2_with fail
          go_roundw
          case rel => exact ⟨k + 1, by omega, by go_num, HNX, by first | rfl | trivial⟩
          case measure => simp [intOf]; omega
    · have d3 : ¬ (k : Int) < (s.size : Int) := by omega
      obtain rfl : k = s.size := by omega
      have HX := Lib.hid (show mayB s = true by rw [← okN_all]; exact HK.out)
      go_wp2_with fail
      go_ret
      exact ⟨by rw [HX.out]; rfl, rfl⟩
theorem okM_no {g e f : Int} {nm : ByteArray} {xs : List LpV} {k : Nat} (h : okM g e f nm xs k = false) : ∀ d, okM g e f nm xs (k + d) = false
  | 0 => h
  | d + 1 => by
    show okM g e f nm xs ((k + d) + 1) = false
    cases hx : xs[k + d]? with
    | none =>
      show (match xs[k + d]? with | some x => _ | none => okM g e f nm xs (k + d)) = false
      rw [hx]
      exact okM_no h d
    | some x => rw [okM_next hx, okM_no h d, Bool.false_and]
theorem manB_no {g e f : Int} {nm : ByteArray} {xs : List LpV} {k : Nat} (hk : k ≤ xs.length) (h : okM g e f nm xs k = false) : manB g e f nm xs = false := by
  unfold manB
  rw [show xs.length = k + (xs.length - k) by omega]
  exact okM_no h _
theorem mayB_none {s : ByteArray} (h : s.toList.isEmpty = true) : mayB s = false := by
  have h0 : s.size = 0 := by
    have := List.isEmpty_iff.1 h
    rw [ByteArray.toList_eq] at this
    have h2 := congrArg List.length this
    simpa using h2
  unfold mayB inB
  rw [decide_eq_false (by omega), Bool.false_and]
end Go.Proofs.YtglkndoghnblcaaGreat
namespace Go.Proofs.YtglkndoghnblcaaGreat
open Go.ChangeShapes Go.WideShapes Go.ChangeAt Go.RowKit
set_option linter.unusedVariables false
set_option linter.unusedSimpArgs false
theorem head_no {g e f : Int} {nm : ByteArray} {xs : List LpV} (h : (mnHead g e f && (mnName e nm && decide ((xs.length : Int) ≤ 32))) = false) : manB g e f nm xs = false := manB_no (k := 0) (Nat.zero_le _) h
theorem part_no {g e f : Int} {nm : ByteArray} {xs : List LpV} {k : Nat} {x : LpV} (hx : xs[k]? = some x) (h : (mayB x.1 && (inB x.2 0 f && !((xs.take k).any fun y => eqS y.1 x.1))) = false) : manB g e f nm xs = false :=
  manB_no (k := k + 1) (by have := (List.getElem?_eq_some_iff.1 hx).1; omega) (by rw [okM_next hx, h, Bool.and_false])
set_option maxRecDepth 100000 in
set_option maxHeartbeats 4000000 in
/-- The document's Manifest (43). -/
theorem rman_law (g e f : Int) (nm : ByteArray) (a : Option Addr) (xs : List LpV) (n cap : Nat) (hs : nm.size ≤ maxLen) (hsx : ∀ x ∈ xs, x.1.size ≤ maxLen) (hn : xs.length = n) (hn2 : n ≤ 1000000) (w : World) (hR : LpsR w a xs) :
    Calls Tryz.prog 43 #[.agg #[.int .i64 g, .string nm, .int .i64 e, .int .i64 f, .slice a n cap]] w fun r w' => r = .returned (.bool (manB g e f nm xs)) ∧ Below w.heap.size w w' := by
  have HR := Lib.hid hR
  have HN := Lib.hid (And.intro hn hsx)
  have HMN := Lib.hid (fun W => rmayname_law nm hs W)
  have hni : (n : Int) ≤ 1000000 := by omega
  have hln : decide ((xs.length : Int) ≤ 32) = decide ((n : Int) ≤ 32) := by rw [hn]
  clear hR hn hsx hs
  go_enter Tryz.func43, Tryz.ntmps43
  go_upto_region 1 with (fail)
  obtain ⟨W1, hW0⟩ : ∃ W0, w.alloc (.cells #[.int .i64 g, .string nm, .int .i64 e, .int .i64 f, .slice a n cap] 72) = W0 := ⟨_, rfl⟩
  have hb0 : Below w.heap.size w W1 := by rw [← hW0]; exact bl1 _ _
  have bx : BoxC W1 w.heap.size #[.int .i64 g, .string nm, .int .i64 e, .int .i64 f, .slice a n cap] 72 := by rw [← hW0]; exact BoxC.new w _ 72
  try rw [hW0]
  clear hW0
  have HB0 := Lib.hid hb0
  have FQ := Lib.hid (fun X (b : Below W1.heap.size W1 X) => (⟨(bx.below b).cell 0, (bx.below b).cell 1, (bx.below b).cell 2, (bx.below b).cell 3, (bx.below b).cell 4⟩ : X.cell? ⟨w.heap.size, 0, none⟩ = some (.int .i64 g) ∧ X.cell? ⟨w.heap.size, 1, none⟩ = some (.string nm) ∧ X.cell? ⟨w.heap.size, 2, none⟩ = some (.int .i64 e) ∧ X.cell? ⟨w.heap.size, 3, none⟩ = some (.int .i64 f) ∧ X.cell? ⟨w.heap.size, 4, none⟩ = some (.slice a n cap)))
  clear hb0 bx
  obtain ⟨z0, z1, z2, z3, z4⟩ := FQ.out W1 (Below.refl _ _)
  have HBR := Lib.hid HB0.out
  by_cases h1 : g < 1
  · have HX := Lib.hid (head_no (g := g) (e := e) (f := f) (nm := nm) (xs := xs) (by unfold mnHead inB; rw [decide_eq_false (by omega)]; simp))
    go_wp2_with fail
    go_ret
    exact ⟨by rw [HX.out]; rfl, HBR.out⟩
  by_cases h2 : 2147483647 < g
  · have HX := Lib.hid (head_no (g := g) (e := e) (f := f) (nm := nm) (xs := xs) (by unfold mnHead inB; rw [decide_eq_false (by omega)]; simp))
    go_wp2_with fail
    go_ret
    exact ⟨by rw [HX.out]; rfl, HBR.out⟩
  by_cases h3 : e < 0
  · have HX := Lib.hid (head_no (g := g) (e := e) (f := f) (nm := nm) (xs := xs) (by unfold mnHead; rw [show inB e 0 16777215 = false by unfold inB; rw [decide_eq_false (by omega)]]; simp))
    go_wp2_with fail
    go_ret
    exact ⟨by rw [HX.out]; rfl, HBR.out⟩
  by_cases h4 : 16777215 < e
  · have HX := Lib.hid (head_no (g := g) (e := e) (f := f) (nm := nm) (xs := xs) (by unfold mnHead; rw [show inB e 0 16777215 = false by unfold inB; rw [decide_eq_false (by omega)]]; simp))
    go_wp2_with fail
    go_ret
    exact ⟨by rw [HX.out]; rfl, HBR.out⟩
  by_cases h5 : (32 : Int) < (n : Int)
  · have HX := Lib.hid (head_no (g := g) (e := e) (f := f) (nm := nm) (xs := xs) (by rw [hln, decide_eq_false (by omega)]; simp))
    go_wp2_with fail
    go_ret
    exact ⟨by rw [HX.out]; rfl, HBR.out⟩
  go_upto_region 3 with (fail)
  go_cut [59] (fun v wx => ∃ b : Bool, v = .bool b ∧ Hid ((b = false → okM g e f nm xs 0 = true) ∧ (b = true → manB g e f nm xs = false)) ∧ Hid (Below W1.heap.size W1 wx))
  case first =>
    have HOK := Lib.hid (fun (h6 : mnName e nm = true) (h7 : ¬ f < e) (h8 : ¬ 16777215 < f) => show okM g e f nm xs 0 = true by
      show (mnHead g e f && (mnName e nm && decide ((xs.length : Int) ≤ 32))) = true
      rw [h6, hln]
      unfold mnHead inB
      simp only [Bool.and_eq_true, decide_eq_true_eq]
      refine ⟨⟨?_, ?_, ?_⟩, trivial, ?_⟩ <;> omega)
    have HF1 := Lib.hid (fun (h : mnName e nm = false) => head_no (g := g) (e := e) (f := f) (nm := nm) (xs := xs) (by rw [h]; simp))
    have HF2 := Lib.hid (fun (h : inB f e 16777215 = false) => head_no (g := g) (e := e) (f := f) (nm := nm) (xs := xs) (by unfold mnHead; rw [h]; simp))
    clear hln
    cases hen : nm.toList.isEmpty with
    | true =>
      have HMO := Lib.hid (mayB_none hen)
      by_cases he0 : e = 0
      · have d0 : (e != 0) = false := by simp [he0]
        have HNM := Lib.hid (show mnName e nm = true by unfold mnName eqE; rw [hen, he0]; rfl)
        clear he0
        by_cases h7 : f < e
        · have HX := Lib.hid (HF2.out (by unfold inB; rw [decide_eq_false (by omega)]))
          go_wp2_with fail
          go_meet
          exact ⟨true, rfl, Lib.hid ⟨fun h => (by cases h), fun _ => HX.out⟩, Lib.hid (Below.refl _ _)⟩
        by_cases h8 : 16777215 < f
        · have HX := Lib.hid (HF2.out (by unfold inB; rw [decide_eq_false (by omega)]))
          go_wp2_with fail
          go_meet
          exact ⟨true, rfl, Lib.hid ⟨fun h => (by cases h), fun _ => HX.out⟩, Lib.hid (Below.refl _ _)⟩
        have HGO := Lib.hid (HOK.out HNM.out h7 h8)
        go_wp2_with fail
        go_meet
        exact ⟨false, rfl, Lib.hid ⟨fun _ => HGO.out, fun h => by cases h⟩, Lib.hid (Below.refl _ _)⟩
      · have d0 : (e != 0) = true := by simp [he0]
        have HX := Lib.hid (HF1.out (by unfold mnName eqE; rw [hen, HMO.out]; simp [he0]))
        clear he0
        go_wp2_with fail
        go_meet
        exact ⟨true, rfl, Lib.hid ⟨fun h => (by cases h), fun _ => HX.out⟩, Lib.hid (Below.refl _ _)⟩
    | false =>
      cases hmb : mayB nm with
      | false =>
        have HX := Lib.hid (HF1.out (by unfold mnName eqE; rw [hen, hmb]; simp))
        rw [hmb] at HMN
        clear hmb
        go_wp2_with (go_at_call 109; refine (HMN.out _).mono ?_; rintro r w' ⟨rfl, rfl⟩)
        go_meet
        exact ⟨true, rfl, Lib.hid ⟨fun h => (by cases h), fun _ => HX.out⟩, Lib.hid (Below.refl _ _)⟩
      | true =>
        have HNM := Lib.hid (show mnName e nm = true by unfold mnName; rw [hmb]; simp)
        rw [hmb] at HMN
        clear hmb
        by_cases h7 : f < e
        · have HX := Lib.hid (HF2.out (by unfold inB; rw [decide_eq_false (by omega)]))
          go_wp2_with (go_at_call 109; refine (HMN.out _).mono ?_; rintro r w' ⟨rfl, rfl⟩)
          go_meet
          exact ⟨true, rfl, Lib.hid ⟨fun h => (by cases h), fun _ => HX.out⟩, Lib.hid (Below.refl _ _)⟩
        by_cases h8 : 16777215 < f
        · have HX := Lib.hid (HF2.out (by unfold inB; rw [decide_eq_false (by omega)]))
          go_wp2_with (go_at_call 109; refine (HMN.out _).mono ?_; rintro r w' ⟨rfl, rfl⟩)
          go_meet
          exact ⟨true, rfl, Lib.hid ⟨fun h => (by cases h), fun _ => HX.out⟩, Lib.hid (Below.refl _ _)⟩
        have HGO := Lib.hid (HOK.out HNM.out h7 h8)
        have d7 : decide (f < e) = false := by simp; omega
        have d8 : decide (16777215 < f) = false := by simp; omega
        go_wp2_with (go_at_call 109; refine (HMN.out _).mono ?_; rintro r w' ⟨rfl, rfl⟩)
        go_meet
        exact ⟨false, rfl, Lib.hid ⟨fun _ => HGO.out, fun h => by cases h⟩, Lib.hid (Below.refl _ _)⟩
  case rest =>
  obtain ⟨bx, rfl, HOB, HBW⟩ := hcut
  cases bx with
  | true =>
    have HX := Lib.hid (HOB.out.2 rfl)
    have HBZ := Lib.hid (step_below HB0.out HBW.out)
    go_wp2_with fail
    go_ret
    exact ⟨by rw [HX.out]; rfl, HBZ.out⟩
  | false =>
  have HOK := Lib.hid (HOB.out.1 rfl)
  clear z0 z1 z2 z3 z4 HBR hln h1 h2 h3 h4 h5 HMN
  go_wp2_with fail
  go_loopw [3] (fun i wr => ∃ k : Nat, k ≤ n ∧ i = .int .i64 (k : Int) ∧ Hid (okM g e f nm xs k = true) ∧ Hid (Below W1.heap.size W1 wr)) (fun i _ => n - (intOf i).toNat)
  case atStart => exact ⟨0, by omega, rfl, HOK, HBW⟩
  case round =>
    clear HOK HBW
    obtain ⟨k, hk, rfl, HOK, HBW⟩ := hrel
    obtain ⟨z0, z1, z2, z3, z4⟩ := FQ.out wr HBW.out
    have HBR := Lib.hid (fun m => below_drewN (step_below HB0.out HBW.out) m)
    by_cases hlt : k < n
    · have d1 : (k : Int) < (n : Int) := by omega
      obtain ⟨x, hx⟩ : ∃ x, xs[k]? = some x := ⟨_, List.getElem?_eq_getElem (by rw [HN.out.1]; exact hlt)⟩
      obtain ⟨b, off, rfl, c0, c1⟩ := (HR.out.below (step_below HB0.out HBW.out)) k x hx
      have HXX := Lib.hid hx
      have HMN := Lib.hid (fun m => rmayname_law x.1 (HN.out.2 x (List.mem_of_getElem? hx)) (wr.drewN m))
      obtain ⟨mb, hmb⟩ : ∃ b, mayB x.1 = b := ⟨_, rfl⟩
      obtain ⟨xn, hxn⟩ : ∃ y, x.1 = y := ⟨_, rfl⟩
      obtain ⟨xt, hxt⟩ : ∃ y, x.2 = y := ⟨_, rfl⟩
      have HXE := Lib.hid (And.intro hxn hxt)
      have HPN := Lib.hid (fun h => part_no (g := g) (e := e) (f := f) (nm := nm) HXX.out h)
      have HOX := Lib.hid (okM_next (g := g) (e := e) (f := f) (nm := nm) HXX.out)
      rw [hmb] at HMN HPN HOX
      rw [hxn] at HMN c0
      rw [hxt] at c1
      clear hx hxn hxt hmb
      cases mb with
      | false =>
        have HX := Lib.hid (HPN.out rfl)
        go_wp2_with fail
        go_quiet ((go_at_call 109; exact Calls.quiet_of_same (HMN.out _)))
        go_wp2_with fail
        try rw [Exit.noGoto_ret]
        go_ret
        exact ⟨by rw [HX.out]; rfl, HBR.out _⟩
      | true =>
        by_cases h1 : xt < 0
        · have HX := Lib.hid (HPN.out (by rw [HXE.out.2]; unfold inB; rw [decide_eq_false (by omega)]; rfl))
          go_wp2_with fail
          go_quiet ((go_at_call 109; exact Calls.quiet_of_same (HMN.out _)))
          go_wp2_with fail
          try rw [Exit.noGoto_ret]
          go_ret
          exact ⟨by rw [HX.out]; rfl, HBR.out _⟩
        by_cases h2 : f < xt
        · have HX := Lib.hid (HPN.out (by rw [HXE.out.2]; unfold inB; rw [decide_eq_false (by omega)]; rfl))
          go_wp2_with fail
          go_quiet ((go_at_call 109; exact Calls.quiet_of_same (HMN.out _)))
          go_wp2_with fail
          try rw [Exit.noGoto_ret]
          go_ret
          exact ⟨by rw [HX.out]; rfl, HBR.out _⟩
        have HIN := Lib.hid (show inB xt 0 f = true by unfold inB; rw [decide_eq_true (by omega)])
        go_wp2_with fail
        go_quiet ((go_at_call 109; exact Calls.quiet_of_same (HMN.out _)))
        go_wp2_with fail
        have HBQ := Lib.hid (below_drewN HBW.out nq)
        clear c0 c1 z0 z1 z2 z3 z4 HMN
        obtain ⟨WO, rfl⟩ : ∃ WO, WO = wr := ⟨_, rfl⟩
        go_loopw [4] (fun i wr => ∃ j : Nat, j ≤ k ∧ i = .int .i64 (j : Int) ∧ Hid ((xs.take j).any (fun y => eqS y.1 x.1) = false) ∧ Hid (Below W1.heap.size W1 wr)) (fun i _ => k - (intOf i).toNat)
        case atStart => exact ⟨0, by omega, rfl, Lib.hid rfl, HBQ⟩
        case round =>
          clear HBQ
          obtain ⟨j, hj, rfl, HJ, HBJ⟩ := hrel
          obtain ⟨z0, z1, z2, z3, z4⟩ := FQ.out wr HBJ.out
          have HBR := Lib.hid (fun m => below_drewN (step_below HB0.out HBJ.out) m)
          by_cases hjk : j < k
          · have d2 : (j : Int) < (k : Int) := by omega
            have d3 : (j : Int) < (n : Int) := by omega
            obtain ⟨y, hy⟩ : ∃ y, xs[j]? = some y := ⟨_, List.getElem?_eq_getElem (by rw [HN.out.1]; omega)⟩
            obtain ⟨_, _, ea, c0, _⟩ := (HR.out.below (step_below HB0.out HBJ.out)) j y hy
            cases ea
            obtain ⟨_, _, ea, c1, _⟩ := (HR.out.below (step_below HB0.out HBJ.out)) k x HXX.out
            cases ea
            rw [HXE.out.1] at c1
            have HNX := Lib.hid (show (xs.take (j + 1)).any (fun y => eqS y.1 x.1) = eqS y.1 x.1 by rw [List.take_add_one, hy, List.any_append, HJ.out]; simp)
            have HIY := Lib.hid (show eqS y.1 x.1 = true → (xs.take k).any (fun y => eqS y.1 x.1) = true from fun h => List.any_eq_true.2 ⟨y, by
              rw [List.mem_take_iff_getElem]
              obtain ⟨hjl, hje⟩ := List.getElem?_eq_some_iff.1 hy
              exact ⟨j, by omega, hje⟩, h⟩)
            obtain ⟨yn, hyn⟩ : ∃ z, y.1 = z := ⟨_, rfl⟩
            rw [hyn] at c0
            obtain ⟨q, hq⟩ : ∃ q, (yn.toList == xn.toList) = q := ⟨_, rfl⟩
            have HQ := Lib.hid (show eqS y.1 x.1 = q by rw [hyn, HXE.out.1]; exact hq)
            clear hy hyn
            cases q with
            | true =>
              have HX := Lib.hid (HPN.out (by rw [HIY.out HQ.out]; simp))
              go_wp2_with fail
              go_quiet (fail)
              go_wp2_with fail
              try rw [Exit.noGoto_ret]
              go_ret
              exact ⟨by rw [HX.out]; rfl, HBR.out _⟩
            | false =>
              go_wp2_with fail
              go_quiet (fail)
              go_wp2_with fail
              go_roundw
              case rel => exact ⟨j + 1, by omega, by go_num, Lib.hid (by rw [HNX.out]; exact HQ.out), Lib.hid (below_drewN HBJ.out _)⟩
              case measure => simp [intOf]; omega
          · have d2 : ¬ (j : Int) < (k : Int) := by omega
            obtain rfl : j = k := by omega
            have HNX := Lib.hid (show okM g e f nm xs (j + 1) = true by rw [HOX.out, HOK.out, HXE.out.2, HIN.out, HJ.out]; rfl)
            go_wp2_with fail
            go_roundw
            case rel => exact ⟨j + 1, by omega, by go_num, HNX, HBJ⟩
            case measure => simp [intOf]; omega
    · have d1 : ¬ (k : Int) < (n : Int) := by omega
      obtain rfl : k = n := by omega
      have HX := Lib.hid (show manB g e f nm xs = true by unfold manB; rw [HN.out.1]; exact HOK.out)
      go_wp2_with fail
      go_ret
      exact ⟨by rw [HX.out]; rfl, HBR.out 0⟩
end Go.Proofs.YtglkndoghnblcaaGreat
namespace Go.Proofs.YtglkndoghnblcaaGreat
open Go.ChangeShapes Go.WideShapes Go.ChangeAt Go.RowKit
set_option linter.unusedVariables false
set_option linter.unusedSimpArgs false
theorem neq_part (s : ByteArray) (t : Int) (W : World) : (binOp .neq 76 (.agg #[.string s, .int .i64 t]) (.agg #[.string s, .int .i64 t])).run Tryz.prog W = .ok (.bool false) W := by
  go_simp
set_option maxRecDepth 100000 in
set_option maxHeartbeats 4000000 in
/-- The document's SameManifest (41), of two that are the same. -/
theorem rsameman_eq (g e f : Int) (nm : ByteArray) (a b : Option Addr) (xs : List LpV) (n ca cb : Nat) (hn : xs.length = n) (hn2 : n ≤ 1000000) (w : World) (hA : LpsR w a xs) (hB : LpsR w b xs) :
    Calls Tryz.prog 41 #[.agg #[.int .i64 g, .string nm, .int .i64 e, .int .i64 f, .slice a n ca], .agg #[.int .i64 g, .string nm, .int .i64 e, .int .i64 f, .slice b n cb]] w fun r w' => r = .returned (.bool true) ∧ Below w.heap.size w w' := by
  have HR := Lib.hid (And.intro hA hB)
  have HN := Lib.hid hn
  have hni : (n : Int) ≤ 1000000 := by omega
  clear hA hB hn
  go_enter Tryz.func41, Tryz.ntmps41
  go_upto_region 1 with (fail)
  obtain ⟨W1, hW0⟩ : ∃ W0, ((w.alloc (.cells #[.int .i64 g, .string nm, .int .i64 e, .int .i64 f, .slice a n ca] 72)).alloc (.cells #[.int .i64 g, .string nm, .int .i64 e, .int .i64 f, .slice b n cb] 72)) = W0 := ⟨_, rfl⟩
  have hb0 : Below w.heap.size w W1 := by rw [← hW0]; exact step_below (bl1 _ _) (bl1 _ _)
  have bx : BoxC W1 w.heap.size #[.int .i64 g, .string nm, .int .i64 e, .int .i64 f, .slice a n ca] 72 := by rw [← hW0]; exact (BoxC.new w _ 72).alloc _
  have by_ : BoxC W1 (w.heap.size + 1) #[.int .i64 g, .string nm, .int .i64 e, .int .i64 f, .slice b n cb] 72 := by
    rw [← hW0]
    have := BoxC.new (w.alloc (.cells #[.int .i64 g, .string nm, .int .i64 e, .int .i64 f, .slice a n ca] 72)) #[.int .i64 g, .string nm, .int .i64 e, .int .i64 f, .slice b n cb] 72
    simpa using this
  try rw [hW0]
  clear hW0
  have HB0 := Lib.hid hb0
  have FQ := Lib.hid (fun X (b' : Below W1.heap.size W1 X) => (⟨(bx.below b').cell 0, (bx.below b').cell 1, (bx.below b').cell 2, (bx.below b').cell 3, (bx.below b').cell 4, (by_.below b').cell 0, (by_.below b').cell 1, (by_.below b').cell 2, (by_.below b').cell 3, (by_.below b').cell 4⟩ : X.cell? ⟨w.heap.size, 0, none⟩ = some (.int .i64 g) ∧ X.cell? ⟨w.heap.size, 1, none⟩ = some (.string nm) ∧ X.cell? ⟨w.heap.size, 2, none⟩ = some (.int .i64 e) ∧ X.cell? ⟨w.heap.size, 3, none⟩ = some (.int .i64 f) ∧ X.cell? ⟨w.heap.size, 4, none⟩ = some (.slice a n ca) ∧ X.cell? ⟨w.heap.size + 1, 0, none⟩ = some (.int .i64 g) ∧ X.cell? ⟨w.heap.size + 1, 1, none⟩ = some (.string nm) ∧ X.cell? ⟨w.heap.size + 1, 2, none⟩ = some (.int .i64 e) ∧ X.cell? ⟨w.heap.size + 1, 3, none⟩ = some (.int .i64 f) ∧ X.cell? ⟨w.heap.size + 1, 4, none⟩ = some (.slice b n cb)))
  clear hb0 bx by_
  obtain ⟨y0, y1, y2, y3, y4, z0, z1, z2, z3, z4⟩ := FQ.out W1 (Below.refl _ _)
  have e1 : (g != g) = false := by simp
  have e2 : (e != e) = false := by simp
  have e3 : (f != f) = false := by simp
  have e4 : ((n : Int) != (n : Int)) = false := by simp
  go_wp2_with fail
  clear y0 y1 y2 y3 y4 z0 z1 z2 z3 z4
  go_loopw [5] (fun i wr => ∃ k : Nat, k ≤ n ∧ i = .int .i64 (k : Int) ∧ Hid (Below W1.heap.size W1 wr)) (fun i _ => n - (intOf i).toNat)
  case atStart => exact ⟨0, by omega, rfl, Lib.hid (Below.refl _ _)⟩
  case round =>
    obtain ⟨k, hk, rfl, HBW⟩ := hrel
    obtain ⟨y0, y1, y2, y3, y4, z0, z1, z2, z3, z4⟩ := FQ.out wr HBW.out
    by_cases hlt : k < n
    · have d1 : (k : Int) < (n : Int) := by omega
      obtain ⟨x, hx⟩ : ∃ x, xs[k]? = some x := ⟨_, List.getElem?_eq_getElem (by rw [HN.out]; exact hlt)⟩
      obtain ⟨b1, o1, rfl, c0, c1⟩ := (HR.out.1.below (step_below HB0.out HBW.out)) k x hx
      obtain ⟨b2, o2, rfl, c2, c3⟩ := (HR.out.2.below (step_below HB0.out HBW.out)) k x hx
      have hnq := fun W => neq_part x.1 x.2 W
      obtain ⟨xn, hxn⟩ : ∃ z, x.1 = z := ⟨_, rfl⟩
      obtain ⟨xt, hxt⟩ : ∃ z, x.2 = z := ⟨_, rfl⟩
      rw [hxn] at c0 c2 hnq
      rw [hxt] at c1 c3 hnq
      clear hx hxn hxt
      go_wp2_with fail
      go_quiet (fail)
      go_wp2_with fail
      go_roundw
      case rel => exact ⟨k + 1, by omega, by go_num, Lib.hid (below_drewN HBW.out _)⟩
      case measure => simp [intOf]; omega
    · have d1 : ¬ (k : Int) < (n : Int) := by omega
      go_wp2_with fail
      go_ret
      exact ⟨rfl, step_below HB0.out HBW.out⟩
end Go.Proofs.YtglkndoghnblcaaGreat
namespace Go.Proofs.YtglkndoghnblcaaGreat
open Go.ChangeShapes Go.WideShapes Go.ChangeAt Go.RowKit
set_option linter.unusedVariables false
set_option linter.unusedSimpArgs false
/-- A reader of the reference's, in its block. -/
structure Rdq (W : World) (B : Nat) (ad : Option Addr) (cap n : Nat) (L : List Int) (at_ : Nat) : Prop where
  len : L.length = n
  c0 : W.cell? ⟨B, 0, none⟩ = some (.slice ad n cap)
  c1 : W.cell? ⟨B, 1, none⟩ = some (.int .i64 (at_ : Int))
  f1 : W.frozen? ⟨B, 1, none⟩ = false
  ls : ∀ W', (0 < n → ∀ k b off, ad = some ⟨b, off, none⟩ → W'.cell? ⟨b, off + k, none⟩ = W.cell? ⟨b, off + k, none⟩) → Ls .u8 W' ad cap L
  le : at_ ≤ n
  apart : 0 < n → ∀ b off, ad = some ⟨b, off, none⟩ → b < B
theorem Rdq.lt {W : World} {B : Nat} {ad : Option Addr} {cap n : Nat} {L : List Int} {p : Nat} (h : Rdq W B ad cap n L p) : B < W.heap.size := World.block_lt_of_cell? W _ h.c0
theorem Rdq.here {W : World} {B : Nat} {ad : Option Addr} {cap n : Nat} {L : List Int} {p : Nat} (h : Rdq W B ad cap n L p) : Ls .u8 W ad cap L := h.ls W fun _ _ _ _ _ => rfl
theorem Rdq.below1 {W W' : World} {B : Nat} {ad : Option Addr} {cap n : Nat} {L : List Int} {p : Nat} (h : Rdq W B ad cap n L p) (b : Below (B + 1) W W') : Rdq W' B ad cap n L p := by
  have hl : B < B + 1 := by omega
  refine ⟨h.len, (b.cell (p := ⟨B, 0, none⟩) hl).trans h.c0, (b.cell (p := ⟨B, 1, none⟩) hl).trans h.c1, (b.frozen (p := ⟨B, 1, none⟩) hl).trans h.f1, fun W2 h2 => ?_, h.le, h.apart⟩
  refine h.ls W2 fun h0 k b' off e => ?_
  rw [h2 h0 k b' off e]
  exact b.cell (p := ⟨b', off + k, none⟩) (by have := h.apart h0 b' off e; simp; omega)
theorem Rdq.below {W W' : World} {B : Nat} {ad : Option Addr} {cap n : Nat} {L : List Int} {p : Nat} (h : Rdq W B ad cap n L p) (b : Below W.heap.size W W') : Rdq W' B ad cap n L p := h.below1 (b.mono h.lt)
theorem Rdq.move {W : World} {B : Nat} {ad : Option Addr} {cap n : Nat} {L : List Int} {p : Nat} (h : Rdq W B ad cap n L p) (q : Nat) (hq : q ≤ n) : Rdq (W.setCell ⟨B, 1, none⟩ (.int .i64 (q : Int))) B ad cap n L q := by
  refine ⟨h.len, ?_, World.cell?_setCell_same W _ _ h.c1, by rw [World.frozen?_setCell]; exact h.f1, fun W2 h2 => ?_, hq, h.apart⟩
  · rw [World.cell?_setCell_other W ⟨B, 1, none⟩ ⟨B, 0, none⟩ _ (fun q => by simp at q)]; exact h.c0
  · refine h.ls W2 fun h0 k b' off e => ?_
    rw [h2 h0 k b' off e]
    have := h.apart h0 b' off e
    exact World.cell?_setCell_other W ⟨B, 1, none⟩ ⟨b', off + k, none⟩ _ (fun q => by simp at q <;> omega)
theorem Rdq.drewN {W : World} {B : Nat} {ad : Option Addr} {cap n : Nat} {L : List Int} {p : Nat} (h : Rdq W B ad cap n L p) (m : Nat) : Rdq (W.drewN m) B ad cap n L p := h.below (below_drewN (Below.refl _ _) _)
set_option maxHeartbeats 1000000 in
theorem qleft_law {W : World} {B : Nat} {ad : Option Addr} {cap n : Nat} {L : List Int} {p : Nat} (h : Rdq W B ad cap n L p) (hn : n ≤ 1000000) :
    Calls Tryz.prog 90 #[.pointer (some ⟨B, 0, none⟩)] W fun r w' => r = .returned (.int .i64 ((n - p : Nat) : Int)) ∧ Below W.heap.size W w' := by
  have c0 := h.c0
  have c1 := h.c1
  have hle := h.le
  have H := Lib.hid h
  have hi : (n : Int) ≤ 1000000 := by omega
  have hj : (p : Int) ≤ (n : Int) := by omega
  have e : ((n - p : Nat) : Int) = (n : Int) - (p : Int) := by omega
  rw [e]
  clear h e hle
  go_enter Tryz.func90, Tryz.ntmps90
  go_wp2_with fail
  go_quiet (fail)
  go_wp2_with fail
  go_ret
  exact ⟨rfl, below_drewN (Below.refl _ _) _⟩
theorem grpN (acc c k : Nat) (ha : acc < 128 ^ k) (hk : k ≤ 9) (hc : c < 256) (h9 : k = 9 → c ≤ 1) :
    ∃ y : Nat, IntKind.u64.wrap ((c : Int) % 128 * 2 ^ (7 * k)) = (y : Int) ∧ IntKind.u64.wrap ((acc : Int) + (y : Int)) = ((acc + y : Nat) : Int) ∧ y = c % 128 * 128 ^ k := by
  have e2 : (2 : Nat) ^ (7 * k) = 128 ^ k := by rw [Nat.pow_mul]
  have hp9 : (128 : Nat) ^ 9 = 9223372036854775808 := by decide
  have hp8 : (128 : Nat) ^ 8 = 72057594037927936 := by decide
  have hlt : c % 128 * 128 ^ k ≤ 9223372036854775808 := by
    by_cases h : k = 9
    · subst h
      rw [hp9]
      have := h9 rfl
      have : c % 128 * 9223372036854775808 ≤ 1 * 9223372036854775808 := Nat.mul_le_mul_right _ (by omega)
      omega
    · have h8 : 128 ^ k ≤ 128 ^ 8 := Nat.pow_le_pow_right (by decide) (by omega)
      have : c % 128 * 128 ^ k ≤ 127 * 128 ^ 8 := Nat.mul_le_mul (by omega) h8
      rw [hp8] at this
      omega
  have hacc : acc < 9223372036854775808 := by
    have : 128 ^ k ≤ 128 ^ 9 := Nat.pow_le_pow_right (by decide) hk
    rw [hp9] at this
    omega
  refine ⟨c % 128 * 128 ^ k, ?_, ?_, rfl⟩
  · have e3 : (c : Int) % 128 * 2 ^ (7 * k) = ((c % 128 * 128 ^ k : Nat) : Int) := by rw [← e2]; push_cast; rfl
    rw [e3, IntKind.wrap_u64]; omega
  · rw [IntKind.wrap_u64]; omega
/-- What the document's Number answers. -/
def NumQ (W : World) (B : Nat) (ad : Option Addr) (cap n : Nat) (L : List Int) (p : Nat) (r : Ending) (w' : World) : Prop :=
  ((numR 0 0 (L.drop p) = none ∧ r = .returned (.tuple #[.int .u64 0, .int .i64 4]) ∧ Rdq w' B ad cap n L p) ∨
    ∃ v j : Nat, numR 0 0 (L.drop p) = some (v, j) ∧ v < 18446744073709551616 ∧ p + j ≤ n ∧ r = .returned (.tuple #[.int .u64 (v : Int), .int .i64 0]) ∧ Rdq w' B ad cap n L (p + j)) ∧ W.grownBy w' (some B)
set_option maxRecDepth 100000 in
set_option maxHeartbeats 4000000 in
/-- The document's Number (141). -/
theorem qnumber {W : World} {B : Nat} {ad : Option Addr} {cap n : Nat} {L : List Int} {p : Nat} (h : Rdq W B ad cap n L p) (hn : n ≤ 1000000) (hB : Byt L) :
    Calls Tryz.prog 141 #[.pointer (some ⟨B, 0, none⟩)] W (NumQ W B ad cap n L p) := by
  have H := Lib.hid h
  have HB := Lib.hid hB
  have hni : (n : Int) ≤ 1000000 := by omega
  have hpn := h.le
  have hpi : (p : Int) ≤ (n : Int) := by omega
  obtain ⟨D, hD⟩ : ∃ D, L.drop p = D := ⟨_, rfl⟩
  have HD := Lib.hid hD
  have HDB := Lib.hid (show Byt D from by rw [← hD]; exact hB.drop p)
  have HDL := Lib.hid (show D.length = n - p by rw [← hD, List.length_drop, h.len])
  have HDK := Lib.hid (fun k (hk : p + k < n) => (show D.drop k = L.getD (p + k) 0 :: D.drop (k + 1) by
    have h1 := drop_cons (D := D) (k := k) (by rw [← hD, List.length_drop, h.len]; omega)
    rw [h1]
    congr 1
    rw [← hD, List.getD_eq_getElem?_getD, List.getElem?_drop, List.getD_eq_getElem?_getD]))
  unfold NumQ
  rw [hD]
  clear h hB hD
  go_enter Tryz.func141, Tryz.ntmps141
  go_wp2_with fail
  go_loopw [4, 5] (fun v i wr => ∃ (k acc : Nat), k ≤ 9 ∧ p + k ≤ n ∧ v = .int .u64 (acc : Int) ∧ i = .int .i64 (k : Int) ∧ Hid (acc < 128 ^ k ∧ numR 0 0 D = numR k acc (D.drop k)) ∧ Below W.heap.size W wr) (fun _ i _ => 10 - (intOf i).toNat)
  case atStart => exact ⟨0, 0, by omega, by omega, rfl, rfl, Lib.hid ⟨by decide, rfl⟩, Below.refl _ _⟩
  case round =>
    obtain ⟨k, acc, hk, hkn, rfl, rfl, hx, BW⟩ := hrel
    have hR := H.out.below BW
    have e0 := hR.c0
    have e1 := hR.c1
    have hki : (k : Int) ≤ 9 := by omega
    have hkni : (p : Int) + (k : Int) ≤ (n : Int) := by omega
    have hw1 : IntKind.i64.wrap ((p : Int) + (k : Int)) = (p : Int) + (k : Int) := by rw [IntKind.wrap_i64]; omega
    have hw0 : 0 ≤ (p : Int) + (k : Int) := by omega
    have hw2 : ((p : Int) + (k : Int)).toNat = p + k := by omega
    have g1 : (k : Int) < 10 := by omega
    have g3 : decide ((k : Int) < 10) = true := by simpa using g1
    by_cases hpk : p + k < n
    · have g2 : (p : Int) + (k : Int) < (n : Int) := by omega
      obtain ⟨b1, o1, ea, d1⟩ := hR.here.get (p + k) (by rw [hR.len]; exact hpk)
      subst ea
      obtain ⟨cb0, cb1⟩ := HB.out.get (p + k) (by rw [hR.len]; exact hpk)
      have hdk := HDK.out k hpk
      obtain ⟨c, hcb⟩ : ∃ c : Nat, L.getD (p + k) 0 = (c : Int) := ⟨(L.getD (p + k) 0).toNat, by omega⟩
      rw [hcb] at d1 cb0 cb1 hdk
      have hc256 : c < 256 := by omega
      have HN := Lib.hid (show numR 0 0 D = (if (k = 9 ∧ (1 : Int) < (c : Int)) ∨ (0 < k ∧ (c : Int) = 0) then none else if (c : Int) < 128 then some (acc + c * 128 ^ k, k + 1) else numR (k + 1) (acc + (c - 128) * 128 ^ k) (D.drop (k + 1))) by
        rw [hx.out.2, hdk, numR_cons, Int.toNat_natCast])
      have HR := Lib.hid hR
      have BB := Lib.hid BW
      clear hcb hR BW hdk
      have r1 := HR.out.c1
      have g1' := HR.out.f1
      by_cases hz : 0 < k ∧ c = 0
      · have k1 : (0 : Int) < (k : Int) := by omega
        have k2 : ((c : Int) == 0) = true := by simp; omega
        have k2' : (c == 0) = true := by simp; omega
        have k3 : ¬ (1 : Int) < (c : Int) := by omega
        have HNO := Lib.hid (show numR 0 0 D = none by rw [HN.out, if_pos (Or.inr ⟨hz.1, by omega⟩)])
        clear hz
        obtain ⟨bb, hbb⟩ : ∃ bb, ((k : Int) == 9) = bb := ⟨_, rfl⟩
        have hbb' : (k == 9) = bb := by rw [← hbb]; rw [Bool.eq_iff_iff]; simp; omega
        cases bb
        all_goals
          go_wp2_with fail
          go_quiet (fail)
          go_wp2_with fail
          go_quiet (fail)
          go_wp2_with fail
          try rw [Exit.noGoto_ret]
          go_ret2
          exact ⟨.inl ⟨HNO.out, rfl, HR.out.drewN _⟩, oth_below B (below_drewN BB.out _)⟩
      by_cases h9 : k = 9 ∧ 1 < c
      · have k1 : (0 : Int) < (k : Int) := by omega
        have k2 : ((c : Int) == 0) = false := by simp; omega
        have k2' : (c == 0) = false := by simp; omega
        have k3 : ((k : Int) == 9) = true := by simp; omega
        have k3' : (k == 9) = true := by simp; omega
        have k4 : (1 : Int) < (c : Int) := by omega
        have HNO := Lib.hid (show numR 0 0 D = none by rw [HN.out, if_pos (Or.inl ⟨h9.1, by omega⟩)])
        clear hz h9
        go_wp2_with fail
        go_quiet (fail)
        go_wp2_with fail
        go_quiet (fail)
        go_wp2_with fail
        try rw [Exit.noGoto_ret]
        go_ret2
        exact ⟨.inl ⟨HNO.out, rfl, HR.out.drewN _⟩, oth_below B (below_drewN BB.out _)⟩
      obtain ⟨y, y1, y2, y3⟩ := grpN acc c k hx.out.1 hk hc256 (fun e => by omega)
      have HY3 := Lib.hid y3
      have HNE := Lib.hid (show ¬ ((k = 9 ∧ (1 : Int) < (c : Int)) ∨ (0 < k ∧ (c : Int) = 0)) by omega)
      have hp2 : IntKind.i64.wrap ((p : Int) + (k : Int) + 1) = (p : Int) + (k : Int) + 1 := by rw [IntKind.wrap_i64]; omega
      have hp3 : IntKind.i64.wrap ((k : Int) + 1) = (k : Int) + 1 := by rw [IntKind.wrap_i64]; omega
      have HPA := Lib.hid (show (p : Int) + (k : Int) + 1 = ((p + (k + 1) : Nat) : Int) by omega)
      have hmv := Lib.hid (fun w (hr : Rdq w B (some ⟨b1, o1, none⟩) cap n L p) => hr.move (p + (k + 1)) (by omega))
      have HPN := Lib.hid (show p + (k + 1) ≤ n by omega)
      have h70 : (0 : Int) ≤ 7 * (k : Int) := by omega
      have h7k : (7 * (k : Int)).toNat = 7 * k := by omega
      have h7w : IntKind.i64.wrap (7 * (k : Int)) = 7 * (k : Int) := by rw [IntKind.wrap_i64]; omega
      have K := Lib.hid (show (k = 0 ∧ ¬ (0 : Int) < (k : Int) ∧ ((k : Int) == 9) = false ∧ (k == 9) = false) ∨ (0 < k ∧ k < 9 ∧ (0 : Int) < (k : Int) ∧ ((c : Int) == 0) = false ∧ (c == 0) = false ∧ ((k : Int) == 9) = false ∧ (k == 9) = false) ∨ (k = 9 ∧ (0 : Int) < (k : Int) ∧ ((c : Int) == 0) = false ∧ (c == 0) = false ∧ ((k : Int) == 9) = true ∧ (k == 9) = true ∧ ¬ (1 : Int) < (c : Int)) by
        by_cases e0 : k = 0
        · left; exact ⟨e0, by omega, by simp; omega, by simp; omega⟩
        · have hc : ((c : Int) == 0) = false := by simp; exact fun h => hz ⟨by omega, by omega⟩
          have hc' : (c == 0) = false := by simp; exact fun h => hz ⟨by omega, by omega⟩
          right
          by_cases e9 : k = 9
          · right; exact ⟨e9, by omega, hc, hc', by simp; omega, by simp; omega, fun h => h9 ⟨e9, by omega⟩⟩
          · left; exact ⟨by omega, by omega, by omega, hc, hc', by simp; omega, by simp; omega⟩)
      clear y3
      by_cases h128 : c < 128
      · have h128i : (c : Int) < 128 := by omega
        have HYES := Lib.hid (show numR 0 0 D = some (acc + y, k + 1) by rw [HN.out, if_neg HNE.out, if_pos h128i, HY3.out, Nat.mod_eq_of_lt h128])
        have HYB := Lib.hid (numR_bd D 0 0 (acc + y) (k + 1) HDB.out (by omega) (by decide) HYES.out)
        clear hz h9
        rcases K.out with ⟨q0, q1, q2, q2'⟩ | ⟨q0, q00, q1, q2, q2', q3, q3'⟩ | ⟨q0, q1, q2, q2', q3, q3', q4⟩
        all_goals
          try clear q0
          try clear q00
          go_wp2_with fail
          go_quiet (fail)
          go_wp2_with fail
          go_quiet (fail)
          go_wp2_with fail
          try rw [Exit.noGoto_ret]
          go_ret2
          refine ⟨.inr ⟨acc + y, k + 1, HYES.out, HYB.out.1, HPN.out, rfl, ?_⟩, oth_trans (oth_below B (below_drewN BB.out _)) (oth_set _ _ _ _)⟩
          rw [HPA.out]
          exact hmv.out _ (HR.out.drewN _)
      · have h128i : ¬ (c : Int) < 128 := by omega
        have h9' : k ≠ 9 := by omega
        have HNX := Lib.hid (show acc + y < 128 ^ (k + 1) ∧ numR 0 0 D = numR (k + 1) (acc + y) (D.drop (k + 1)) by
          have ed : c % 128 = c - 128 := by omega
          refine ⟨?_, by rw [HN.out, if_neg HNE.out, if_neg h128i, HY3.out, ed]⟩
          rw [HY3.out, Nat.pow_succ]
          have h1 := hx.out.1
          have : c % 128 * 128 ^ k ≤ 127 * 128 ^ k := Nat.mul_le_mul_right _ (by omega)
          omega)
        clear hz h9
        rcases K.out with ⟨q0, q1, q2, q2'⟩ | ⟨q0, q00, q1, q2, q2', q3, q3'⟩ | ⟨q0, q1, q2, q2', q3, q3', q4⟩
        · clear q0
          go_wp2_with fail
          go_quiet (fail)
          go_wp2_with fail
          go_quiet (fail)
          go_wp2_with fail
          go_roundw
          case rel => exact ⟨k + 1, acc + y, by omega, by omega, rfl, by go_num, HNX, below_drewN BB.out _⟩
          case measure => simp [intOf]; omega
        · clear q0 q00
          go_wp2_with fail
          go_quiet (fail)
          go_wp2_with fail
          go_quiet (fail)
          go_wp2_with fail
          go_roundw
          case rel => exact ⟨k + 1, acc + y, by omega, by omega, rfl, by go_num, HNX, below_drewN BB.out _⟩
          case measure => simp [intOf]; omega
        · exact absurd h9' (by omega)
    · have HR := Lib.hid hR
      have BB := Lib.hid BW
      have HNO := Lib.hid (show numR 0 0 D = none by rw [hx.out.2, List.drop_of_length_le (by rw [HDL.out]; omega)]; rfl)
      have g2 : ¬ (p : Int) + (k : Int) < (n : Int) := by omega
      clear hR BW
      go_wp2_with fail
      go_quiet (fail)
      go_wp2_with fail
      try rw [Exit.noGoto_ret]
      go_ret2
      exact ⟨.inl ⟨HNO.out, rfl, HR.out.drewN _⟩, oth_below B (below_drewN BB.out _)⟩
end Go.Proofs.YtglkndoghnblcaaGreat
namespace Go.Proofs.YtglkndoghnblcaaGreat
open Go.ChangeShapes Go.WideShapes Go.ChangeAt Go.RowKit
set_option linter.unusedVariables false
set_option linter.unusedSimpArgs false
/-- The document's reader, of which so many bytes are left. -/
def RqS (W : World) (B : Nat) (R : List Int) : Prop := ∃ ad cap n L p, Rdq W B ad cap n L p ∧ L.drop p = R ∧ n ≤ 1000000 ∧ Byt L
theorem RqS.below {W W' : World} {B : Nat} {R : List Int} (h : RqS W B R) (b : Below W.heap.size W W') : RqS W' B R := by
  obtain ⟨ad, cap, n, L, p, h1, h2, h3, h4⟩ := h
  exact ⟨ad, cap, n, L, p, h1.below b, h2, h3, h4⟩
theorem RqS.below1 {W W' : World} {B : Nat} {R : List Int} (h : RqS W B R) (b : Below (B + 1) W W') : RqS W' B R := by
  obtain ⟨ad, cap, n, L, p, h1, h2, h3, h4⟩ := h
  exact ⟨ad, cap, n, L, p, h1.below1 b, h2, h3, h4⟩
theorem RqS.byt {W : World} {B : Nat} {R : List Int} (h : RqS W B R) : Byt R := by
  obtain ⟨ad, cap, n, L, p, h1, rfl, h3, h4⟩ := h
  exact h4.drop p
theorem RqS.lt {W : World} {B : Nat} {R : List Int} (h : RqS W B R) : B < W.heap.size := by
  obtain ⟨ad, cap, n, L, p, h1, h2, h3, h4⟩ := h
  exact h1.lt
theorem leftq_law {W : World} {B : Nat} {R : List Int} (h : RqS W B R) (m : Nat) (hm : R.length = m) :
    Calls Tryz.prog 90 #[.pointer (some ⟨B, 0, none⟩)] W fun r w' => r = .returned (.int .i64 (m : Int)) ∧ Below W.heap.size W w' := by
  obtain ⟨ad, cap, n, L, p, h1, rfl, h3, h4⟩ := h
  have e : n - p = m := by rw [← hm, List.length_drop, h1.len]
  rw [← e]
  exact qleft_law h1 h3
/-- What the document's Bytes answers. -/
def BytQ (W : World) (B : Nat) (R : List Int) (most : Nat) (r : Ending) (w' : World) : Prop :=
  ((bytesP most R = none ∧ (∃ e : Int, Er e ∧ r = .returned (.tuple #[.slice none 0 0, .int .i64 e])) ∧ RqS w' B R) ∨
    ∃ b R' a c, bytesP most R = some (b, R') ∧ r = .returned (.tuple #[.slice a b.length c, .int .i64 0]) ∧ w'.ownsRow W.heap.size 5 1 (.slice a b.length c) b.length (iv .u8 b) ∧ RqS w' B R') ∧ W.grownBy w' (some B)
set_option maxRecDepth 100000 in
set_option maxHeartbeats 4000000 in
/-- The document's Bytes (104). -/
theorem bytesq_law {W : World} {B : Nat} {R : List Int} (h : RqS W B R) (most : Nat) (hm : most ≤ 1000000) :
    Calls Tryz.prog 104 #[.pointer (some ⟨B, 0, none⟩), .int .i64 (most : Int)] W (BytQ W B R most) := by
  obtain ⟨ad, cap, n, L, p, h1, h2, h3, h4⟩ := h
  have HQ := Lib.hid (qnumber h1 h3 h4)
  have HR := Lib.hid h2
  have HB := Lib.hid (And.intro h3 h4)
  have c1 := h1.c1
  have hp := h1.le
  have hni : (n : Int) ≤ 1000000 := by omega
  have hwm : IntKind.u64.wrap (most : Int) = (most : Int) := by rw [IntKind.wrap_u64]; omega
  clear h1 h2 h4
  go_enter Tryz.func104, Tryz.ntmps104
  go_wp2_with fail
  refine HQ.out.mono ?_
  rintro r w1 ⟨⟨e1, rfl, hr⟩ | ⟨v, j, e1, hv, hj, rfl, hr⟩, hg⟩
  · have HX := Lib.hid (show bytesP most R = none by unfold bytesP upP; rw [← HR.out, e1])
    have f1 := hr.f1
    have q1 := hr.c1
    have HM := Lib.hid (hr.move p hp)
    have HG := Lib.hid (oth_trans hg (oth_set w1 B 1 (.int .i64 (p : Int))))
    clear e1 hr hg c1 HQ
    go_wp2_with fail
    go_ret2
    exact ⟨.inl ⟨HX.out, ⟨4, .inr rfl, rfl⟩, ad, cap, n, L, p, HM.out, HR.out, HB.out.1, HB.out.2⟩, HG.out⟩
  obtain ⟨q, hq⟩ : ∃ q, p + j = q := ⟨_, rfl⟩
  rw [hq] at hr hj
  have HU := Lib.hid (show upP most R = if v ≤ most then some (v, L.drop q) else none by unfold upP; rw [← HR.out, e1]; simp only [List.drop_drop, hq])
  rcases Nat.lt_or_ge most v with hgt | hle
  · have hle : ¬ v ≤ most := by omega
    have HX := Lib.hid (show bytesP most R = none by unfold bytesP; rw [HU.out, if_neg hle])
    have d1 : (most : Int) < (v : Int) := by omega
    have f1 := hr.f1
    have q1 := hr.c1
    have HM := Lib.hid (hr.move p hp)
    have HG := Lib.hid (oth_trans hg (oth_set w1 B 1 (.int .i64 (p : Int))))
    clear e1 hr hg c1 HQ hle hgt
    go_wp2_with fail
    go_ret2
    exact ⟨.inl ⟨HX.out, ⟨3, .inl rfl, rfl⟩, ad, cap, n, L, p, HM.out, HR.out, HB.out.1, HB.out.2⟩, HG.out⟩
  have d1 : ¬ (most : Int) < (v : Int) := by omega
  obtain ⟨m, hm2⟩ : ∃ m, n - q = m := ⟨_, rfl⟩
  have hlm : (L.drop q).length = m := by rw [List.length_drop, hr.len, hm2]
  have HLF := Lib.hid (by have := qleft_law hr h3; rw [hm2] at this; exact this)
  have hwl : IntKind.u64.wrap (m : Int) = (m : Int) := by rw [IntKind.wrap_u64]; omega
  have H1 := Lib.hid hr
  have G1 := Lib.hid hg
  rcases Nat.lt_or_ge m v with hgt | hfit
  · have hfit : ¬ v ≤ m := by omega
    have HX := Lib.hid (show bytesP most R = none by unfold bytesP; rw [HU.out, if_pos hle]; simp only; rw [if_neg (by rw [hlm]; exact hfit)])
    have d2 : (m : Int) < (v : Int) := by omega
    clear e1 hr hg c1 HQ hle hfit hlm hm2 hgt
    go_wp2_with fail
    refine HLF.out.mono ?_
    rintro r w2 ⟨rfl, hb2⟩
    have hr2 := H1.out.below hb2
    have f1 := hr2.f1
    have q1 := hr2.c1
    have HM := Lib.hid (hr2.move p hp)
    have HG := Lib.hid (oth_trans (oth_trans G1.out (oth_below B hb2)) (oth_set w2 B 1 (.int .i64 (p : Int))))
    clear hr2 hb2
    go_wp2_with fail
    go_ret2
    exact ⟨.inl ⟨HX.out, ⟨4, .inr rfl, rfl⟩, ad, cap, n, L, p, HM.out, HR.out, HB.out.1, HB.out.2⟩, HG.out⟩
  have d2 : ¬ (m : Int) < (v : Int) := by omega
  obtain ⟨s, hs⟩ : ∃ s, q + v = s := ⟨_, rfl⟩
  have hsn : s ≤ n := by omega
  have HX := Lib.hid (show bytesP most R = some ((L.drop q).take v, L.drop s) by unfold bytesP; rw [HU.out, if_pos hle]; simp only; rw [if_pos (by rw [hlm]; exact hfit), List.drop_drop, hs])
  have HVL := Lib.hid (show ((L.drop q).take v).length = v by rw [List.length_take, hlm]; omega)
  have hwv : IntKind.i64.wrap (v : Int) = (v : Int) := by rw [IntKind.wrap_i64]; omega
  have hadd : IntKind.i64.wrap ((q : Int) + (v : Int)) = (s : Int) := by rw [IntKind.wrap_i64]; omega
  have hsub : IntKind.i64.wrap ((s : Int) - (v : Int)) = (q : Int) := by rw [IntKind.wrap_i64]; omega
  have HQS := Lib.hid (show q ≤ s ∧ s - q = v by omega)
  have hvs : v ≤ 1000000 := by omega
  clear e1 hr hg c1 HQ hle hfit hlm hm2 hs
  go_wp2_with fail
  refine HLF.out.mono ?_
  rintro r w2 ⟨rfl, hb2⟩
  have h2 := H1.out.below hb2
  have e1 := h2.c1
  have f1 := h2.f1
  have H2 := Lib.hid h2
  have G2 := Lib.hid (oth_trans G1.out (oth_below B hb2))
  clear h2 hb2
  go_upto_region 11 with (fail)
  have h4 := H2.out.move s hsn
  have g4 := oth_trans G2.out (oth_set w2 B 1 (.int .i64 (s : Int)))
  clear e1 f1
  generalize w2.setCell ⟨B, 1, none⟩ (.int .i64 (s : Int)) = W4 at h4 g4 ⊢
  obtain ⟨a', c', s', l'⟩ := h4.here.mid eltB n q s h4.len HQS.out.1 hsn
  rw [HQS.out.2] at s' l'
  have e0 := h4.c0
  have e1 := h4.c1
  have H4 := Lib.hid h4
  have G4 := Lib.hid g4
  have L4 := Lib.hid (show Ls .u8 W4.drew a' c' ((L.drop q).take v) from l'.drew)
  clear h4 g4 l'
  have hmx : Tryz.prog.follows .mixedOrders = true := by kernel_rfl
  go_still_tail 16, (by kernel_rfl)
  change wpList _ _ _ _ _ W4.drew
  have B5 : Below W4.heap.size W4 W4.drew := (Below.refl _ _).drew
  have H5 := Lib.hid (H4.out.below B5)
  have G5 := Lib.hid (oth_trans G4.out (oth_below B B5))
  clear B5 s' e0 e1 hsub
  generalize W4.drew = W5 at L4 H5 G5 ⊢
  go_wp2_with (at_builtin; refine append_ls eltB rfl (.const (.slice none 0 0)) (.tmp 67) rfl W5.heap.size _ 0 [] rfl (World.ownsRow_nil _ _ _ _) _ _ v _ HVL.out rfl L4.out (by omega) (Nat.le_refl _) ?_)
  intro v6 w6 ho hg6
  have B6 : Below W5.heap.size W5 w6 := (Below.refl W5.heap.size W5).grown hg6 (Nat.le_refl _) (fun j hj => by cases hj)
  have ho2 : w6.ownsRow W5.heap.size 5 1 v6 v (iv .u8 ((L.drop q).take v)) := by simpa using ho
  obtain ⟨a6, c6, rfl, _⟩ := own_ls ho2 HVL.out
  have hsz : W.heap.size ≤ W5.heap.size := G5.out.size
  have HO := Lib.hid (own_base hsz ho2)
  have H6 := Lib.hid (H5.out.below B6)
  have G6 := Lib.hid (oth_trans G5.out (oth_below B B6))
  clear ho ho2 hg6 B6
  go_wp2_with fail
  go_ret2
  exact ⟨.inr ⟨_, _, a6, c6, HX.out, by rw [HVL.out]; rfl, by rw [HVL.out]; exact HO.out, ad, cap, n, L, s, H6.out, rfl, HB.out.1, HB.out.2⟩, G6.out⟩
end Go.Proofs.YtglkndoghnblcaaGreat
namespace Go.Proofs.YtglkndoghnblcaaGreat
open Go.ChangeShapes Go.WideShapes Go.ChangeAt Go.RowKit
set_option linter.unusedVariables false
set_option linter.unusedSimpArgs false
def SmlQ (W : World) (B : Nat) (R : List Int) (most : Nat) (r : Ending) (w' : World) : Prop :=
  ((upP most R = none ∧ (∃ z : Int, r = .returned (.tuple #[.int .i64 z, .bool false])) ∧ ∃ R', RqS w' B R') ∨
    ∃ (x : Nat) (R' : List Int), upP most R = some (x, R') ∧ x ≤ most ∧ r = .returned (.tuple #[.int .i64 (x : Int), .bool true]) ∧ RqS w' B R') ∧ W.grownBy w' (some B)
set_option maxRecDepth 100000 in
set_option maxHeartbeats 4000000 in
/-- small (88). -/
theorem small_law {W : World} {B : Nat} {R : List Int} (h : RqS W B R) (most : Nat) (hm : most ≤ 2147483647) :
    Calls Tryz.prog 88 #[.pointer (some ⟨B, 0, none⟩), .int .i64 (most : Int)] W (SmlQ W B R most) := by
  obtain ⟨ad, cap, n, L, p, h1, h2, h3, h4⟩ := h
  have HQ := Lib.hid (qnumber h1 h3 h4)
  have HR := Lib.hid h2
  have HB := Lib.hid (And.intro h3 h4)
  have hwm : IntKind.u64.wrap (most : Int) = (most : Int) := by rw [IntKind.wrap_u64]; omega
  clear h1 h2 h3 h4
  go_enter Tryz.func88, Tryz.ntmps88
  go_wp2_with fail
  refine HQ.out.mono ?_
  rintro r w1 ⟨⟨e1, rfl, hr⟩ | ⟨v, j, e1, hv, hj, rfl, hr⟩, hg⟩
  · have HX := Lib.hid (show upP most R = none by unfold upP; rw [← HR.out, e1])
    have H := Lib.hid (And.intro hr hg)
    clear e1 hr hg HQ
    go_wp2_with fail
    go_ret2
    exact ⟨.inl ⟨HX.out, ⟨_, rfl⟩, _, ad, cap, n, L, p, H.out.1, rfl, HB.out.1, HB.out.2⟩, H.out.2⟩
  have H := Lib.hid (And.intro hr hg)
  obtain ⟨z, hz⟩ : ∃ z, IntKind.i64.wrap (v : Int) = z := ⟨_, rfl⟩
  by_cases hle : v ≤ most
  · have HX := Lib.hid (show upP most R = some (v, L.drop (p + j)) by unfold upP; rw [← HR.out, e1]; simp only [List.drop_drop, hle, if_true])
    have d1 : (v : Int) ≤ (most : Int) := by omega
    have HZ := Lib.hid (show z = (v : Int) by rw [← hz, IntKind.wrap_i64]; omega)
    have HLE := Lib.hid hle
    clear e1 hr hg HQ hle
    go_wp2_with fail
    go_ret2
    exact ⟨.inr ⟨v, _, HX.out, HLE.out, by rw [HZ.out]; rfl, ad, cap, n, L, p + j, H.out.1, rfl, HB.out.1, HB.out.2⟩, H.out.2⟩
  · have HX := Lib.hid (show upP most R = none by unfold upP; rw [← HR.out, e1]; simp only [hle, if_false])
    have d1 : ¬ (v : Int) ≤ (most : Int) := by omega
    have d2 : decide (v ≤ most) = false := by simp; omega
    clear e1 hr hg HQ hle
    go_wp2_with fail
    go_ret2
    exact ⟨.inl ⟨HX.out, ⟨z, rfl⟩, _, ad, cap, n, L, p + j, H.out.1, rfl, HB.out.1, HB.out.2⟩, H.out.2⟩
end Go.Proofs.YtglkndoghnblcaaGreat
namespace Go.Proofs.YtglkndoghnblcaaGreat
open Go.ChangeShapes Go.WideShapes Go.ChangeAt Go.RowKit
set_option linter.unusedVariables false
set_option linter.unusedSimpArgs false
theorem rdq_box (w : World) (a : Option Addr) (cap n : Nat) (L : List Int) (hn : L.length = n) (hl : Ls .u8 w a cap L) : Rdq (w.alloc (.cells #[.slice a n cap, .int .i64 0] 148)) w.heap.size a cap n L 0 := by
  refine ⟨hn, by rw [cell_new]; rfl, by rw [cell_new]; rfl, by simp [go_sem], fun W2 h2 => ?_, Nat.zero_le _, fun h0 b off e => ?_⟩
  · have hl2 := hl.below ((Below.refl _ w).alloc (Nat.le_refl _) (.cells #[.slice a n cap, .int .i64 0] 148))
    refine ⟨fun k hk => ?_, hl.nl, hl.le⟩
    obtain ⟨b, off, e, hc⟩ := hl2.rd k hk
    exact ⟨b, off, e, (h2 (by omega) k b off e).trans hc⟩
  · obtain ⟨b1, o1, e1, hc⟩ := hl.get 0 (by omega)
    rw [e] at e1
    cases e1
    exact World.block_lt_of_cell? w _ hc
theorem rqs_box (w : World) (a : Option Addr) (cap n : Nat) (L : List Int) (hn : L.length = n) (hn2 : n ≤ 1000000) (hb : Byt L) (hl : Ls .u8 w a cap L) : RqS (w.alloc (.cells #[.slice a n cap, .int .i64 0] 148)) w.heap.size L :=
  ⟨a, cap, n, L, 0, rdq_box w a cap n L hn hl, rfl, hn2, hb⟩
end Go.Proofs.YtglkndoghnblcaaGreat
namespace Go.Proofs.YtglkndoghnblcaaGreat
open Go.ChangeShapes Go.WideShapes Go.ChangeAt Go.RowKit
set_option linter.unusedVariables false
set_option linter.unusedSimpArgs false
theorem listP_inv {α : Type} {most : Nat} {one : List Int → Option (α × List Int)} {put : α → List Int} (h1 : ∀ L x s, (∀ y ∈ L, 0 ≤ y ∧ y ≤ 255) → one L = some (x, s) → L = put x ++ s) {L r : List Int} {xs : List α} (hb : Byt L) (h : listP most one L = some (xs, r)) : xs.length ≤ most ∧ L = putL put xs ++ r := by
  unfold listP at h
  cases hu : upP most L with
  | none => rw [hu] at h; cases h
  | some q =>
    obtain ⟨n, s⟩ := q
    rw [hu] at h
    obtain ⟨k1, k2⟩ := upP_inv hb hu
    obtain ⟨m1, m2⟩ := manyP_inv h1 n s r xs (upP_rest hb hu) h
    refine ⟨by omega, ?_⟩
    unfold putL
    rw [k2, m2, m1, List.append_assoc]
theorem only_inv {L P : List Int} (hb : Byt L) (h : onlyL L = P) (hp : P ≠ []) : L = frameL P := by
  unfold onlyL at h
  split at h
  · rename_i hc
    have := isL_inv hb hc.1
    rw [← hc.2, List.drop_length, List.append_nil, h] at this
    exact this
  · exact absurd h.symm hp
theorem byts_str {L : List Int} (h : Byt L) : byts (strOfNums L) = L := by
  unfold byts strOfNums
  simp only [List.map_map]
  have : ∀ l : List Int, Byt l → l.map ((fun b : UInt8 => (b.toNat : Int)) ∘ fun n : Int => UInt8.ofNat n.toNat) = l := by
    intro l
    induction l with
    | nil => intro _; rfl
    | cons x r ih =>
      intro hb
      have hx := hb x (by simp)
      rw [List.map_cons, ih fun y hy => hb y (by simp [hy])]
      congr 1
      simp only [Function.comp]
      rw [UInt8.toNat_ofNat']
      omega
  exact this L h
theorem partP_inv {L r : List Int} {x : Pt2} (hb : Byt L) (h : partP L = some (x, r)) : Byt x.1 ∧ L = (bytesW x.1 ++ numW x.2) ++ r ∧ Byt r := by
  unfold partP at h
  cases h1 : bytesP 24 L with
  | none => rw [h1] at h; cases h
  | some q =>
    obtain ⟨b, r1⟩ := q
    rw [h1] at h
    simp only at h
    obtain ⟨k1, _, k3⟩ := bytesP_all hb h1
    cases h2 : upP 16777215 r1 with
    | none => rw [h2] at h; cases h
    | some q =>
      obtain ⟨t, r2⟩ := q
      rw [h2] at h
      cases h
      refine ⟨k1, ?_, upP_rest k3 h2⟩
      rw [(bytesP_inv hb h1).2, (upP_inv k3 h2).2, List.append_assoc]
theorem lpW_lpN {y : Pt2} (h : Byt y.1) : lpW (lpN y) = bytesW y.1 ++ numW y.2 := by
  unfold lpW lpN
  simp only [byts_str h, Int.toNat_natCast]
/-- A manifest's payload was written so. -/
theorem manP_inv {L r : List Int} {x : Mn} (hb : Byt L) (h : manP L = some (x, r)) : L = mnW x.g x.e x.f (strOfNums x.nm) (x.logs.map lpN) ++ r := by
  unfold manP at h
  obtain ⟨g, r1, h1, h⟩ := bindP_inv h
  have b1 := upP_rest hb h1
  obtain ⟨nm, r2, h2, h⟩ := bindP_inv h
  obtain ⟨c1, _, b2⟩ := bytesP_all b1 h2
  obtain ⟨e, r3, h3, h⟩ := bindP_inv h
  have b3 := upP_rest b2 h3
  obtain ⟨f, r4, h4, h⟩ := bindP_inv h
  have b4 := upP_rest b3 h4
  obtain ⟨xs, r5, h5, h⟩ := bindP_inv h
  cases h
  have k5 := (listP_inv (put := fun y : Pt2 => bytesW y.1 ++ numW y.2) (fun L x s hb h => (partP_inv hb h).2.1) b4 h5).2
  have hall : ∀ y ∈ xs, Byt y.1 := (listP_all (P := fun y : Pt2 => Byt y.1) (fun L x s hb h => ⟨(partP_inv hb h).1, (partP_inv hb h).2.2⟩) b4 h5).1
  have hl : putL lpW (xs.map lpN) = putL (fun y : Pt2 => bytesW y.1 ++ numW y.2) xs := by
    unfold putL
    rw [List.map_map, List.length_map]
    congr 2
    exact List.map_congr_left fun y hy => lpW_lpN (hall y hy)
  unfold mnW
  rw [hl, byts_str c1, (upP_inv hb h1).2, (bytesP_inv b1 h2).2, (upP_inv b2 h3).2, (upP_inv b3 h4).2, k5]
  simp only [List.append_assoc]
theorem rmanP_inv {L : List Int} {x : Mn} (hb : Byt L) (h : rmanP L = some x) : mnB x = true ∧ MnB x ∧ L = frameL (mnW x.g x.e x.f (strOfNums x.nm) (x.logs.map lpN)) := by
  unfold rmanP at h
  cases h1 : readP (manP (onlyL L)) with
  | none => rw [h1] at h; cases h
  | some y =>
    rw [h1] at h
    simp only at h
    split at h
    · cases h
      rename_i ho
      have hm := readP_some h1
      have := manP_inv (onlyL_byt hb) hm
      rw [List.append_nil] at this
      refine ⟨ho, manP_all (onlyL_byt hb) hm, only_inv hb this ?_⟩
      intro e
      have h2 := congrArg List.length e
      unfold mnW at h2
      have h3 := numW_pos x.g
      rw [List.length_append, List.length_nil] at h2
      omega
    · cases h
end Go.Proofs.YtglkndoghnblcaaGreat
namespace Go.Proofs.YtglkndoghnblcaaGreat
open Go.ChangeShapes Go.WideShapes Go.ChangeAt Go.RowKit
set_option linter.unusedVariables false
set_option linter.unusedSimpArgs false
end Go.Proofs.YtglkndoghnblcaaGreat
namespace Go.Proofs.YtglkndoghnblcaaGreat
open Go.ChangeShapes Go.WideShapes Go.ChangeAt Go.RowKit
set_option linter.unusedVariables false
set_option linter.unusedSimpArgs false
theorem frames_len : ∀ (n : Nat) (L : List Int), L.length ≤ n → ∀ p ∈ framesL L, 1 ≤ p.length ∧ p.length ≤ 4096
  | n, L, hn, p, hp => by
    cases hi : isL L with
    | false => rw [framesL_no hi] at hp; simp at hp
    | true =>
      have h1 := isL_iff.1 hi
      have h2 := bodyL_len hi
      match n with
      | 0 => omega
      | n + 1 =>
        rw [framesL_yes hi] at hp
        rcases List.mem_cons.1 hp with rfl | hp
        · omega
        · exact frames_len n (L.drop (8 + lenL L)) (by rw [List.length_drop]; omega) p hp
end Go.Proofs.YtglkndoghnblcaaGreat
