/- 'LogBack' returns true whatever its arguments, which read afterwards as before; no conditions. Part 1. -/
import Derived.Test.YtglkndoghnblcaaGreatOqa
import Derived.Test.YtglkndoghnblcaaGreatRows
import Derived.WalkKit
import Derived.WalkMore
import Derived.ProofKit
import Derived.Outline
import Derived.WalkLawsBesides
import Derived.WalkSpells
import Derived.Lib.Hide
import Derived.Below
import Derived.WalkSmall
import Derived.BigRegion
import Derived.Laws.Rows
import Derived.Laws.BytesArg
import Derived.Laws.Concat
import Derived.Laws.OwnMore
import Derived.Deep.QuietTactic
import Derived.BigQuiet
import Derived.Deep.RegionHeld3
import Derived.StillTailTactics
import Derived.Test.YtglkndoghnblcaaGreatOqd
import Derived.Test.YtglkndoghnblcaaGreatOqe
import Derived.Test.YtglkndoghnblcaaGreatOqg
import Derived.Test.YtglkndoghnblcaaGreatOqf
import Derived.Test.YtglkndoghnblcaaGreatOqh
import Derived.Test.YtglkndoghnblcaaGreatOqj
import Derived.Test.YtglkndoghnblcaaGreatOql
namespace Go.Proofs.YtglkndoghnblcaaGreat
open Go.ChangeShapes Go.WideShapes Go.ChangeAt Go.RowKit
set_option linter.unusedVariables false
set_option linter.unusedSimpArgs false

/-- A row of numbers that came in. -/
def IsRow (k : IntKind) (w : World) (a : Option Addr) (len cap : Nat) (zs : List Int) : Prop :=
  (a = none ∧ len = 0 ∧ cap = 0 ∧ zs = []) ∨
  ∃ x, a = some x ∧ len ≤ cap ∧ cap ≤ maxLen ∧ zs.length = cap ∧ (∀ i, i < zs.length → w.cell? (x.add i) = some (.int k (zs.getD i 0))) ∧ ∀ n ∈ zs, (Lit.int k n).wf = true
theorem IsRow.ls {K : IntKind} {w : World} {a : Option Addr} {len cap : Nat} {zs : List Int} (h : IsRow K w a len cap zs) : Ls K w a cap (zs.take len) ∧ (zs.take len).length = len := by
  rcases h with ⟨rfl, rfl, rfl, rfl⟩ | ⟨y, rfl, hlc, _, hz, hcell, _⟩
  · exact ⟨Ls.nul _ _, rfl⟩
  · have hl : (zs.take len).length = len := by rw [List.length_take]; omega
    refine ⟨⟨fun k hk => ?_, fun e => (by cases e), by omega⟩, hl⟩
    have hk' : k < len ∧ k < zs.length := by simp at hk; omega
    obtain ⟨b, off, spot⟩ := y
    have hc0 := hcell 0 (by omega)
    have hspot : spot = none := by simpa [Addr.add] using World.cell?_spot hc0
    subst hspot
    have hc := hcell k hk'.2
    rw [addr_add] at hc
    exact ⟨b, off, rfl, by rw [hc]; simp [List.getD, List.getElem?_take, hk'.1]⟩
theorem IsRow.byt {w : World} {a : Option Addr} {len cap : Nat} {zs : List Int} (h : IsRow .u8 w a len cap zs) : Byt (zs.take len) := by
  rcases h with ⟨_, rfl, _, rfl⟩ | ⟨y, rfl, hlc, _, hz, hcell, hw⟩
  · intro x hx; simp at hx
  · intro x hx
    have := hw x (List.mem_of_mem_take hx)
    simpa [Lit.wf, IntKind.min, IntKind.max, IntKind.signed, IntKind.bits] using this
end Go.Proofs.YtglkndoghnblcaaGreat
namespace Go.Proofs.YtglkndoghnblcaaGreat
set_option linter.unusedVariables false
set_option linter.unusedSimpArgs false
theorem manyP_inv {α : Type} {one : List Int → Option (α × List Int)} {put : α → List Int} (h1 : ∀ L x s, (∀ y ∈ L, 0 ≤ y ∧ y ≤ 255) → one L = some (x, s) → L = put x ++ s) : ∀ (n : Nat) (L r : List Int) (xs : List α), (∀ y ∈ L, 0 ≤ y ∧ y ≤ 255) → manyP one n L = some (xs, r) → xs.length = n ∧ L = (xs.map put).flatten ++ r
  | 0, L, r, xs, _, h => by cases h; exact ⟨rfl, rfl⟩
  | n + 1, L, r, xs, hb, h => by
    unfold manyP at h
    cases ho : one L with
    | none => rw [ho] at h; cases h
    | some p =>
      obtain ⟨x, s⟩ := p
      rw [ho] at h
      simp only at h
      have e := h1 L x s hb ho
      have hs : ∀ y ∈ s, 0 ≤ y ∧ y ≤ 255 := fun y hy => hb y (by rw [e]; simp [hy])
      cases hm : manyP one n s with
      | none => rw [hm] at h; cases h
      | some q =>
        obtain ⟨ys, t⟩ := q
        rw [hm] at h
        cases h
        obtain ⟨k1, k2⟩ := manyP_inv h1 n s r ys hs hm
        refine ⟨by simp [k1], ?_⟩
        rw [e, k2]; simp
end Go.Proofs.YtglkndoghnblcaaGreat
namespace Go.Proofs.YtglkndoghnblcaaGreat
open Go.ChangeShapes Go.WideShapes Go.ChangeAt Go.RowKit
set_option linter.unusedVariables false
set_option linter.unusedSimpArgs false
theorem txsL_le : ∀ FS, (txsL FS).length ≤ FS.length
  | [] => Nat.le_refl _
  | p :: r => by
    unfold txsL
    cases oneTx p with
    | none => simp
    | some x => have := txsL_le r; simp; omega
end Go.Proofs.YtglkndoghnblcaaGreat
namespace Go.Proofs.YtglkndoghnblcaaGreat
open Go.ChangeShapes Go.WideShapes Go.ChangeAt Go.RowKit
set_option linter.unusedVariables false
set_option linter.unusedSimpArgs false
def durP (L : List Int) : Option ((Nat × Nat) × List Int) :=
  match upP 2147483647 L with
  | some (e, r) => match upP 16777215 r with
    | some (s, r') => some ((e, s), r')
    | none => none
  | none => none
theorem durP_1 {L : List Int} (h : upP 2147483647 L = none) : durP L = none := by unfold durP; rw [h]
theorem durP_2 {L r : List Int} {e : Nat} (h : upP 2147483647 L = some (e, r)) (k : upP 16777215 r = none) : durP L = none := by unfold durP; rw [h]; simp only; rw [k]
theorem durP_3 {L r r' : List Int} {e s : Nat} (h : upP 2147483647 L = some (e, r)) (k : upP 16777215 r = some (s, r')) : durP L = some ((e, s), r') := by unfold durP; rw [h]; simp only; rw [k]
set_option maxRecDepth 100000 in
set_option maxHeartbeats 4000000 in
/-- ReadDurable$1 (107). -/
theorem durone_law {W : World} {B : Nat} {R : List Int} (h : RdS W B R) :
    Calls Tryz.prog 107 #[.pointer (some ⟨B, 0, none⟩)] W (GetR W B (durP R) (fun x _ v => v = .agg #[.int .i64 (x.1 : Int), .int .i64 (x.2 : Int)])) := by
  have hlt := h.lt
  have HR := Lib.hid h
  clear h
  go_enter Tryz.func107, Tryz.ntmps107
  go_upto_region 1 with (fail)
  obtain ⟨W1, hW1⟩ : ∃ W1, W.alloc (.cells #[.int .i64 0, .int .i64 0] 74) = W1 := ⟨_, rfl⟩
  have hb1 : Below W.heap.size W W1 := by rw [← hW1]; exact bl1 _ _
  have bx : BoxC W1 W.heap.size #[.int .i64 0, .int .i64 0] 74 := by rw [← hW1]; exact BoxC.new W _ 74
  have hsz : W1.heap.size = W.heap.size + 1 := by rw [← hW1]; simp
  try rw [hW1]
  clear hW1
  have HU := Lib.hid (upto_law (HR.out.below hb1) 2147483647 (by decide))
  have HB1 := Lib.hid hb1
  have BX := Lib.hid bx
  clear hb1 bx
  go_wp2_with fail
  refine HU.out.mono ?_
  rintro r w2 ⟨⟨e1, rfl⟩ | ⟨e, R2, v, e1, rfl, rfl, r2⟩, g2⟩
  · have HX := Lib.hid (durP_1 e1)
    have G := Lib.hid (oth_trans (oth_below B HB1.out) g2)
    clear e1 g2
    go_wp2_with fail
    first | exact ⟨rfl, .inl ⟨HX.out, rfl⟩, G.out⟩ | exact ⟨.inl ⟨HX.out, rfl⟩, G.out⟩
  · have E1 := Lib.hid e1
    have HG := Lib.hid g2
    have HU2 := Lib.hid (upto_law r2 16777215 (by decide))
    clear e1 g2 r2
    go_wp2_with fail
    refine HU2.out.mono ?_
    rintro r w3 ⟨⟨e2, rfl⟩ | ⟨s, R3, v, e2, rfl, rfl, r3⟩, g3⟩
    · have HX := Lib.hid (durP_2 E1.out e2)
      have G := Lib.hid (oth_trans (oth_below B HB1.out) (oth_trans HG.out g3))
      clear e2 g3
      go_wp2_with fail
      first | exact ⟨rfl, .inl ⟨HX.out, rfl⟩, G.out⟩ | exact ⟨.inl ⟨HX.out, rfl⟩, G.out⟩
    · have HX := Lib.hid (durP_3 E1.out e2)
      have G23 := oth_trans HG.out g3
      have G := Lib.hid (oth_trans (oth_below B HB1.out) G23)
      have RR := Lib.hid r3
      have bx3 := BX.out.gr G23 (by omega)
      have z0 := bx3.cell 0
      have z1 := bx3.cell 1
      have f0 := bx3.frozen 0
      have f1 := bx3.frozen 1
      simp only [List.getElem?_toArray, List.getElem?_cons_zero, List.getElem?_cons_succ] at z0 z1
      have HX9 := Lib.hid ((bx3.put 0 (.int .i64 (e : Int))).put 1 (.int .i64 (s : Int)))
      have HB9 := Lib.hid (((Below.refl W.heap.size w3).setCell (p := ⟨W.heap.size, 0, none⟩) (Nat.le_refl _) (.int .i64 (e : Int))).setCell (p := ⟨W.heap.size, 1, none⟩) (Nat.le_refl _) (.int .i64 (s : Int)))
      clear e2 g3 r3 G23 bx3
      go_wp2_with fail
      generalize ((w3.setCell ⟨W.heap.size, 0, none⟩ (.int .i64 (e : Int))).setCell ⟨W.heap.size, 1, none⟩ (.int .i64 (s : Int))) = W9 at *
      refine bodyPost_ret (v := .agg #[.int .i64 (e : Int), .int .i64 (s : Int)]) ?_ rfl ⟨.inr ⟨_, _, _, HX.out, rfl, rfl, RR.out.below1 (HB9.out.mono (by omega))⟩, grown_below G.out HB9.out⟩
      have x0 := HX9.out.cell 0
      have x1 := HX9.out.cell 1
      simp at x0 x1
      simp [results, Tryz.results107, go_sem, x0, x1]
set_option maxRecDepth 100000 in
set_option maxHeartbeats 4000000 in
/-- read's deferred function, where something gave up (151). -/
theorem catchdu_panic (b4 b5 N : Nat) (w : World) (e s y : Int) (x4 : BoxC w b4 #[.int .i64 e, .int .i64 s] 74) (x5 : BoxC w b5 #[.int .i64 y] 24) (hne : b4 ≠ b5) (h4 : N ≤ b4) (h5 : N ≤ b5) :
    CallsD Tryz.prog 151 #[.pointer (some ⟨b4, 0, none⟩), .pointer (some ⟨b5, 0, none⟩)] (.panicking badP) w fun e u' w' => e = .returned (.tuple #[]) ∧ u' = .panicking caughtP ∧ BoxC w' b4 #[.int .i64 0, .int .i64 0] 74 ∧ BoxC w' b5 #[.int .i64 4] 24 ∧ Below N w w' := by
  have hl4 := x4.lt
  have hl5 := x5.lt
  refine callsD_of_wpS Tryz.func151 rfl fun c₀ cs hu => ?_
  apply wpS_seq
  apply wpS_region
  simp [wpOpsS, go_sem, recoverD, hu, Tryz.ntmps151, Exit.thenS, badP]
  refine wpS_of_wp ?_
  go_upto_region 3 with (fail)
  obtain ⟨W1, hW1⟩ : ∃ W1, w.alloc (.cells #[.int .i64 0, .int .i64 0] 74) = W1 := ⟨_, rfl⟩
  have hb : Below w.heap.size w W1 := by rw [← hW1]; exact bl1 _ _
  have bx : BoxC W1 w.heap.size #[.int .i64 0, .int .i64 0] 74 := by rw [← hW1]; exact BoxC.new _ _ _
  try rw [hW1]
  clear hW1
  have z4 := x4.below hb
  have z5 := x5.below hb
  have c0 := z4.cell 0
  have c1 := z4.cell 1
  have f0 := z4.frozen 0
  have f1 := z4.frozen 1
  have d0 := z5.cell 0
  have g0 := z5.frozen 0
  have q0 := bx.cell 0
  have q1 := bx.cell 1
  simp only [List.getElem?_toArray, List.getElem?_cons_zero, List.getElem?_cons_succ] at c0 c1 d0 q0 q1
  have X4 := Lib.hid (BoxC.oth (i := 0) (v := .int .i64 4) (Ne.symm hne) ((z4.put 0 (.int .i64 0)).put 1 (.int .i64 0)))
  have X5 := Lib.hid ((BoxC.oth (i := 1) (v := .int .i64 0) hne (BoxC.oth (i := 0) (v := .int .i64 0) hne z5)).put 0 (.int .i64 4))
  have HB := Lib.hid (((((hb.mono (show N ≤ w.heap.size by omega)).setCell (p := ⟨b4, 0, none⟩) h4 (.int .i64 0)).setCell (p := ⟨b4, 1, none⟩) h4 (.int .i64 0)).setCell (p := ⟨b5, 0, none⟩) h5 (.int .i64 4)))
  clear x4 x5 hb bx z4 z5
  go_wp2
  generalize (((W1.setCell ⟨b4, 0, none⟩ (.int .i64 0)).setCell ⟨b4, 1, none⟩ (.int .i64 0)).setCell ⟨b5, 0, none⟩ (.int .i64 4)) = W9 at *
  have Y4 : BoxC W9 b4 #[.int .i64 0, .int .i64 0] 74 := X4.out
  have Y5 : BoxC W9 b5 #[.int .i64 4] 24 := X5.out
  have YB := HB.out
  simp [bodyPostS, results, Tryz.results151, caughtP]
  exact ⟨Y4, Y5, YB⟩
set_option maxRecDepth 100000 in
set_option maxHeartbeats 4000000 in
/-- read's deferred function, where nothing gave up (151). -/
theorem catchdu_idle (b4 b5 : Nat) (w : World) :
    CallsD Tryz.prog 151 #[.pointer (some ⟨b4, 0, none⟩), .pointer (some ⟨b5, 0, none⟩)] .returning w fun e u' w' => e = .returned (.tuple #[]) ∧ u' = .returning ∧ w' = w := by
  refine callsD_of_wpS Tryz.func151 rfl fun c₀ cs hu => ?_
  apply wpS_seq
  apply wpS_region
  simp [wpOpsS, go_sem, recoverD, hu, Tryz.ntmps151, Exit.thenS]
  refine wpS_of_wp ?_
  go_wp2
  cases c₀
  simp_all [bodyPostS, results, Tryz.results151]
def durB (g e : Int) : Bool := inB g 1 2147483647 && inB e 0 16777215
set_option maxRecDepth 100000 in
set_option maxHeartbeats 4000000 in
/-- mayDurable (105). -/
theorem maydur_law (g e : Int) (w : World) : Calls Tryz.prog 105 #[.agg #[.int .i64 g, .int .i64 e]] w fun r w' => r = .returned (.bool (durB g e)) ∧ Below w.heap.size w w' := by
  unfold durB
  have H1 := Lib.hid (fun W => within_law g 1 2147483647 W)
  have H2 := Lib.hid (fun W => within_law e 0 16777215 W)
  obtain ⟨b1, hb1⟩ : ∃ b, inB g 1 2147483647 = b := ⟨_, rfl⟩
  obtain ⟨b2, hb2⟩ : ∃ b, inB e 0 16777215 = b := ⟨_, rfl⟩
  rw [hb1] at H1 ⊢
  rw [hb2] at H2 ⊢
  clear hb1 hb2
  cases b1 with
  | false =>
    go_enter Tryz.func105, Tryz.ntmps105
    go_wp2_with fail
    refine (H1.out _).mono ?_; rintro r w' ⟨rfl, rfl⟩
    go_wp2_with fail
    go_ret
    exact ⟨by simp, bl1 _ _⟩
  | true =>
    go_enter Tryz.func105, Tryz.ntmps105
    go_wp2_with fail
    refine (H1.out _).mono ?_; rintro r w' ⟨rfl, rfl⟩
    go_wp2_with fail
    refine (H2.out _).mono ?_; rintro r w' ⟨rfl, rfl⟩
    go_wp2_with fail
    go_ret
    exact ⟨by simp, bl1 _ _⟩
set_option maxRecDepth 100000 in
set_option maxHeartbeats 4000000 in
/-- sure at what is durable (108), where nothing was read. -/
theorem suredu_no (e s x : Int) (hx : ¬ x = 0) (w : World) :
    Calls Tryz.prog 108 #[.agg #[.int .i64 e, .int .i64 s], .int .i64 x, .func (.func 105) #[] #[]] w fun r w' => r = .returned (.tuple #[.agg #[.int .i64 0, .int .i64 0], .int .i64 4]) ∧ Below w.heap.size w w' := by
  have h1 : (x != 0) = true := by simp [hx]
  have h2 : (x == 0) = false := by simp [hx]
  go_enter Tryz.func108, Tryz.ntmps108
  go_upto_region 1 with (fail)
  obtain ⟨W1, hW1⟩ : ∃ W1, (w.alloc (.cells #[.int .i64 e, .int .i64 s] 74)).alloc (.cells #[.int .i64 0, .int .i64 0] 74) = W1 := ⟨_, rfl⟩
  have hb1 : Below w.heap.size w W1 := by rw [← hW1]; exact step_below (bl1 _ _) (bl1 _ _)
  have x3 : BoxC W1 w.heap.size #[.int .i64 e, .int .i64 s] 74 := by rw [← hW1]; exact (BoxC.new _ _ _).alloc _
  have x6 : BoxC W1 (w.heap.size + 1) #[.int .i64 0, .int .i64 0] 74 := by rw [← hW1]; have := BoxC.new (w.alloc (.cells #[.int .i64 e, .int .i64 s] 74)) #[.int .i64 0, .int .i64 0] 74; simpa using this
  have hs1 : W1.heap.size = w.heap.size + 1 + 1 := by rw [← hW1]; simp
  try rw [hW1]
  clear hW1
  have HB1 := Lib.hid hb1
  clear hb1 x3
  obtain ⟨N, hN⟩ : ∃ N, w.heap.size = N := ⟨_, rfl⟩
  rw [hN] at x6 hs1 ⊢
  have HN := Lib.hid hN
  go_upto_region 3 with (fail)
  obtain ⟨W2, hW2⟩ : ∃ W2, W1.alloc (.cells #[.int .i64 0, .int .i64 0] 74) = W2 := ⟨_, rfl⟩
  have hb2 : Below W1.heap.size W1 W2 := by rw [← hW2]; exact bl1 _ _
  have x8 : BoxC W2 W1.heap.size #[.int .i64 0, .int .i64 0] 74 := by rw [← hW2]; exact BoxC.new _ _ _
  try rw [hW2]
  clear hW2
  have x62 := x6.below hb2
  have y0 := x8.cell 0
  have y1 := x8.cell 1
  have d0 := x62.cell 0
  have d1 := x62.cell 1
  have f0 := x62.frozen 0
  have f1 := x62.frozen 1
  simp only [List.getElem?_toArray, List.getElem?_cons_zero, List.getElem?_cons_succ] at y0 y1 d0 d1
  try rw [hs1] at y0 y1
  have X9 := Lib.hid ((x62.put 0 (.int .i64 0)).put 1 (.int .i64 0))
  have HB9 := Lib.hid (((step_below HB1.out hb2).setCell (p := ⟨N + 1, 0, none⟩) (by simp; omega) (.int .i64 0)).setCell (p := ⟨N + 1, 1, none⟩) (by simp; omega) (.int .i64 0))
  clear x62 x8 hb2
  go_wp2_with fail
  clear y0 y1 d0 d1 f0 f1
  generalize ((W2.setCell ⟨N + 1, 0, none⟩ (.int .i64 0)).setCell ⟨N + 1, 1, none⟩ (.int .i64 0)) = W9 at *
  refine bodyPost_ret (v := .tuple #[.agg #[.int .i64 0, .int .i64 0], .int .i64 4]) ?_ rfl ⟨rfl, by first | exact HB9.out | (rw [← HN.out]; exact HB9.out)⟩
  have x0 := X9.out.cell 0
  have x1 := X9.out.cell 1
  simp at x0 x1
  simp [results, Tryz.results108, go_sem, x0, x1]
set_option maxRecDepth 100000 in
set_option maxHeartbeats 4000000 in
/-- sure at what is durable (108), where one was read. -/
theorem suredu_law (e s : Int) (w : World) :
    Calls Tryz.prog 108 #[.agg #[.int .i64 e, .int .i64 s], .int .i64 0, .func (.func 105) #[] #[]] w fun r w' => (r = .returned (if durB e s then .tuple #[.agg #[.int .i64 e, .int .i64 s], .int .i64 0] else .tuple #[.agg #[.int .i64 0, .int .i64 0], .int .i64 4])) ∧ Below w.heap.size w w' := by
  have HM := Lib.hid (fun W (b : Below w.heap.size w W) => maydur_law e s W)
  obtain ⟨bm, hbm⟩ : ∃ b, durB e s = b := ⟨_, rfl⟩
  rw [hbm] at HM ⊢
  clear hbm
  go_enter Tryz.func108, Tryz.ntmps108
  go_upto_region 1 with (fail)
  obtain ⟨W1, hW1⟩ : ∃ W1, (w.alloc (.cells #[.int .i64 e, .int .i64 s] 74)).alloc (.cells #[.int .i64 0, .int .i64 0] 74) = W1 := ⟨_, rfl⟩
  have hb1 : Below w.heap.size w W1 := by rw [← hW1]; exact step_below (bl1 _ _) (bl1 _ _)
  have x3 : BoxC W1 w.heap.size #[.int .i64 e, .int .i64 s] 74 := by rw [← hW1]; exact (BoxC.new _ _ _).alloc _
  have x6 : BoxC W1 (w.heap.size + 1) #[.int .i64 0, .int .i64 0] 74 := by rw [← hW1]; have := BoxC.new (w.alloc (.cells #[.int .i64 e, .int .i64 s] 74)) #[.int .i64 0, .int .i64 0] 74; simpa using this
  have hs1 : W1.heap.size = w.heap.size + 1 + 1 := by rw [← hW1]; simp
  try rw [hW1]
  clear hW1
  have HB1 := Lib.hid hb1
  have HC := Lib.hid (HM.out W1 hb1)
  have c0 := x3.cell 0
  have c1 := x3.cell 1
  simp only [List.getElem?_toArray, List.getElem?_cons_zero, List.getElem?_cons_succ] at c0 c1
  have X3 := Lib.hid x3
  have X6 := Lib.hid x6
  clear hb1 x3 x6 HM
  cases bm with
  | false =>
    go_wp2_with fail
    refine HC.out.mono ?_; rintro r w3 ⟨rfl, b3⟩
    have HB3 := Lib.hid (step_below HB1.out b3)
    have x63 := X6.out.below b3
    have hs3 : w.heap.size + 1 + 1 ≤ w3.heap.size := by rw [← hs1]; exact b3.size
    clear c0 c1 b3 HC
    obtain ⟨N, hN⟩ : ∃ N, w.heap.size = N := ⟨_, rfl⟩
    rw [hN] at x63 hs1 hs3 ⊢
    have HN := Lib.hid hN
    go_upto_region 3 with (fail)
    obtain ⟨W2, hW2⟩ : ∃ W2, w3.alloc (.cells #[.int .i64 0, .int .i64 0] 74) = W2 := ⟨_, rfl⟩
    have hb2 : Below w3.heap.size w3 W2 := by rw [← hW2]; exact bl1 _ _
    have x8 : BoxC W2 w3.heap.size #[.int .i64 0, .int .i64 0] 74 := by rw [← hW2]; exact BoxC.new _ _ _
    try rw [hW2]
    clear hW2
    have x62 := x63.below hb2
    have y0 := x8.cell 0
    have y1 := x8.cell 1
    have d0 := x62.cell 0
    have d1 := x62.cell 1
    have f0 := x62.frozen 0
    have f1 := x62.frozen 1
    simp only [List.getElem?_toArray, List.getElem?_cons_zero, List.getElem?_cons_succ] at y0 y1 d0 d1
    try rw [hs1] at y0 y1
    have X9 := Lib.hid ((x62.put 0 (.int .i64 0)).put 1 (.int .i64 0))
    have HB9 := Lib.hid (((step_below HB3.out hb2).setCell (p := ⟨N + 1, 0, none⟩) (by simp; omega) (.int .i64 0)).setCell (p := ⟨N + 1, 1, none⟩) (by simp; omega) (.int .i64 0))
    clear x62 x8 hb2
    go_wp2_with fail
    clear y0 y1 d0 d1 f0 f1
    generalize ((W2.setCell ⟨N + 1, 0, none⟩ (.int .i64 0)).setCell ⟨N + 1, 1, none⟩ (.int .i64 0)) = W9 at *
    refine bodyPost_ret (v := .tuple #[.agg #[.int .i64 0, .int .i64 0], .int .i64 4]) ?_ rfl ⟨by simp, by first | exact HB9.out | (rw [← HN.out]; exact HB9.out)⟩
    have x0 := X9.out.cell 0
    have x1 := X9.out.cell 1
    simp at x0 x1
    simp [results, Tryz.results108, go_sem, x0, x1]
  | true =>
    go_wp2_with fail
    refine HC.out.mono ?_; rintro r w3 ⟨rfl, b3⟩
    have HB3 := Lib.hid (step_below HB1.out b3)
    have x63 := X6.out.below b3
    have x33 := X3.out.below b3
    clear c0 c1 b3 HC
    have y0 := x33.cell 0
    have y1 := x33.cell 1
    have d0 := x63.cell 0
    have d1 := x63.cell 1
    have f0 := x63.frozen 0
    have f1 := x63.frozen 1
    simp only [List.getElem?_toArray, List.getElem?_cons_zero, List.getElem?_cons_succ] at y0 y1 d0 d1
    have X9 := Lib.hid ((x63.put 0 (.int .i64 e)).put 1 (.int .i64 s))
    have HB9 := Lib.hid ((HB3.out.setCell (p := ⟨w.heap.size + 1, 0, none⟩) (by simp) (.int .i64 e)).setCell (p := ⟨w.heap.size + 1, 1, none⟩) (by simp) (.int .i64 s))
    clear x63 x33
    go_wp2_with fail
    clear y0 y1 d0 d1 f0 f1
    generalize ((w3.setCell ⟨w.heap.size + 1, 0, none⟩ (.int .i64 e)).setCell ⟨w.heap.size + 1, 1, none⟩ (.int .i64 s)) = W9 at *
    refine bodyPost_ret (v := .tuple #[.agg #[.int .i64 e, .int .i64 s], .int .i64 0]) ?_ rfl ⟨by simp, HB9.out⟩
    have x0 := X9.out.cell 0
    have x1 := X9.out.cell 1
    simp at x0 x1
    simp [results, Tryz.results108, go_sem, x0, x1]
end Go.Proofs.YtglkndoghnblcaaGreat
namespace Go.Proofs.YtglkndoghnblcaaGreat
open Go.ChangeShapes Go.WideShapes Go.ChangeAt Go.RowKit
set_option linter.unusedVariables false
set_option linter.unusedSimpArgs false
theorem put106 {R : Ending → World → Prop} {i : Nat} (hi : i ≠ 4 ∧ i ≠ 5) {v : Value} {c : List PanicEntry} {a : Act} {w : World} (h : bodyPostD Tryz.prog Tryz.f106 R (.panic c) (a.put (some i) v) w) : bodyPostD Tryz.prog Tryz.f106 R (.panic c) a w := by
  refine leaves_put (fun w => ?_) _ _ _ h
  have e4 : (a.tmps.setIfInBounds i v)[4]? = a.tmps[4]? := Array.getElem?_setIfInBounds_ne hi.1
  have e5 : (a.tmps.setIfInBounds i v)[5]? = a.tmps[5]? := Array.getElem?_setIfInBounds_ne hi.2
  simp [results, Tryz.results106, Act.put, e4, e5]
theorem DuS.below {N B e s : Nat} {w4 X X' : World} {R3 : List Int} (h : DuS N B e s w4 R3 X) (b : Below X.heap.size X X') : DuS N B e s w4 R3 X' :=
  ⟨h.b4.below b, h.b5.imp fun y hy => hy.below b, h.bel.trans (b.mono (Nat.le_trans (by omega) h.sz)), h.rds.below b, Nat.le_trans h.sz b.size⟩
theorem no8d (e s : Int) : ∀ (i : Nat) (x : Int), (#[.int .i64 e, .int .i64 s] : Array Value)[i]? ≠ some (.int .u8 x) := by
  intro i x h
  match i, h with
  | 0, h => simp at h
  | 1, h => simp at h
  | i + 2, h => simp at h
theorem dst4 {N B e s : Nat} {w4 X : World} {R3 : List Int} (h : DuS N B e s w4 R3 X) (hNB : N + 1 < B) : DuS N B e s w4 R3 ((X.setCell ⟨N, 0, none⟩ (.int .i64 (e : Int))).setCell ⟨N, 1, none⟩ (.int .i64 (s : Int))) := by
  have g : X.grownBy ((X.setCell ⟨N, 0, none⟩ (.int .i64 (e : Int))).setCell ⟨N, 1, none⟩ (.int .i64 (s : Int))) (some N) := oth_trans (oth_set _ _ _ _) (oth_set _ _ _ _)
  exact ⟨(h.b4.put 0 (.int .i64 (e : Int))).put 1 (.int .i64 (s : Int)), h.b5.imp fun y hy => hy.gr g (by omega), (h.bel.setCell (p := ⟨N, 0, none⟩) (Nat.le_refl _) _).setCell (p := ⟨N, 1, none⟩) (Nat.le_refl _) _, h.rds.setbox h.b4 (no8d _ _) (by omega) g, Nat.le_trans h.sz g.size⟩
theorem dst5 {N B e s : Nat} {w4 X : World} {R3 : List Int} (h : DuS N B e s w4 R3 X) (hNB : N + 1 < B) : DuS N B e s w4 R3 (X.setCell ⟨N + 1, 0, none⟩ (.int .i64 0)) := by
  have g : X.grownBy (X.setCell ⟨N + 1, 0, none⟩ (.int .i64 0)) (some (N + 1)) := oth_set _ _ _ _
  obtain ⟨y, hy⟩ := h.b5
  exact ⟨h.b4.gr g (by omega), ⟨0, hy.put 0 (.int .i64 0)⟩, h.bel.setCell (p := ⟨N + 1, 0, none⟩) (by simp) _, h.rds.setbox hy (no1 y) (by omega) g, Nat.le_trans h.sz g.size⟩
def RdDu (w : World) (o : Option (Nat × Nat)) (r : Ending) (w' : World) : Prop :=
  ((o = none ∧ r = .returned (.tuple #[.agg #[.int .i64 0, .int .i64 0], .int .i64 4])) ∨ ∃ x, o = some x ∧ r = .returned (.tuple #[.agg #[.int .i64 (x.1 : Int), .int .i64 (x.2 : Int)], .int .i64 0])) ∧ Below w.heap.size w w'
set_option maxRecDepth 100000 in
set_option maxHeartbeats 4000000 in
/-- read at what is durable (106). -/
theorem readdu_law (a0 : Option Addr) (L : List Int) (n cap : Nat) (hL : L.length = n) (hn : n ≤ 1000000) (hB : Byt L) (w : World) (hA : Ls .u8 w a0 cap L) :
    Calls Tryz.prog 106 #[.slice a0 n cap, .func (.func 107) #[] #[]] w (RdDu w (readP (durP L))) := by
  have hmf : ∀ (fn : Fn) (first cap : Array Value) (w : World), (Instr.makeFunc fn first cap).run Tryz.prog w = .ok (.func fn first cap) w := fun _ _ _ _ => rfl
  have HA := Lib.hid (fun W (b : Below w.heap.size w W) => open_law a0 L n cap hL hn hB W (hA.below b))
  clear hL hn hB hA
  go_enter_defers Tryz.func106, Tryz.ntmps106
  go_upto_region 2 with (fail)
  obtain ⟨W1, hW1⟩ : ∃ W1, (w.alloc (.cells #[.int .i64 0, .int .i64 0] 74)).alloc (.cells #[.int .i64 0] 24) = W1 := ⟨_, rfl⟩
  have hb1 : Below w.heap.size w W1 := by rw [← hW1]; exact step_below (bl1 _ _) (bl1 _ _)
  have x4 : BoxC W1 w.heap.size #[.int .i64 0, .int .i64 0] 74 := by rw [← hW1]; exact (BoxC.new _ _ _).alloc _
  have x5 : BoxC W1 (w.heap.size + 1) #[.int .i64 0] 24 := by rw [← hW1]; have := BoxC.new (w.alloc (.cells #[.int .i64 0, .int .i64 0] 74)) #[.int .i64 0] 24; simpa using this
  have hs1 : W1.heap.size = w.heap.size + 1 + 1 := by rw [← hW1]; simp
  try rw [hW1]
  clear hW1
  have HO := Lib.hid (HA.out _ hb1)
  have HB1 := Lib.hid hb1
  obtain ⟨N, hN⟩ : ∃ N, w.heap.size = N := ⟨_, rfl⟩
  have HN := Lib.hid hN
  rw [hN] at x4 x5 hs1 ⊢
  have X4 := Lib.hid x4
  have X5 := Lib.hid x5
  clear hb1 x4 x5 hN HA
  go_wp2_with fail
  refine HO.out.mono ?_; rintro e w2 ⟨B, rfl, r2, hB, B2⟩
  have X42 := Lib.hid (X4.out.below B2)
  have X52 := Lib.hid (X5.out.below B2)
  have HB2 := Lib.hid (step_below HB1.out B2)
  have HT := Lib.hid (durone_law r2)
  have hs2 : N + 1 + 1 ≤ w2.heap.size := by rw [← hs1]; exact B2.size
  clear X4 X5 HB1 r2 B2
  rw [hs1] at hB
  go_wp2_with fail
  refine HT.out.mono ?_
  rintro r w3 ⟨⟨e1, rfl⟩ | ⟨⟨e, s⟩, R3, v, e1, rfl, rfl, r3⟩, g3⟩
  · have HX := Lib.hid (readP_1 e1)
    have z4 := X42.out.gr g3 (by omega)
    have z5 := X52.out.gr g3 (by omega)
    have HB3 := Lib.hid (below_oth HB2.out g3 HB2.out.size (by rw [HN.out]; omega))
    clear g3 e1
    go_wp2_with fail
    refine leaves_cons (f := 151) (args := #[.pointer (some ⟨N, 0, none⟩), .pointer (some ⟨N + 1, 0, none⟩)]) (by simp) (by simp [go_sem]) ?_
    refine (catchdu_panic N (N + 1) N w3 _ _ _ z4 z5 (by omega) (Nat.le_refl _) (by omega)).mono ?_
    rintro e9 u' w9 ⟨rfl, rfl, q4, q5, HB9⟩
    have y0 := q4.cell 0
    have y1 := q4.cell 1
    have y3 := q5.cell 0
    simp only [List.getElem?_toArray, List.getElem?_cons_zero, List.getElem?_cons_succ] at y0 y1 y3
    have HE := Lib.hid (show RdDu w (readP (durP L)) (.returned (.tuple #[.agg #[.int .i64 0, .int .i64 0], .int .i64 4])) w9 from ⟨.inl ⟨HX.out, rfl⟩, HB3.out.trans (by rw [HN.out]; exact HB9)⟩)
    simp [Leaves, settle, caughtP, results, Tryz.results106, go_sem, y0, y1, y3]
    exact HE.out
  have E1 := Lib.hid e1
  have z4 := X42.out.gr g3 (by omega)
  have z5 := Lib.hid (X52.out.gr g3 (by omega))
  have HB3 := Lib.hid (below_oth HB2.out g3 HB2.out.size (by rw [HN.out]; omega))
  have hs3 : N + 1 + 1 ≤ w3.heap.size := Nat.le_trans hs2 g3.size
  have R3' := Lib.hid r3
  have x0 := z4.cell 0
  have x1 := z4.cell 1
  have f0 := z4.frozen 0
  have f1 := z4.frozen 1
  simp only [List.getElem?_toArray, List.getElem?_cons_zero, List.getElem?_cons_succ] at x0 x1
  have Y4 := Lib.hid ((z4.put 0 (.int .i64 (e : Int))).put 1 (.int .i64 (s : Int)))
  have Y5 := Lib.hid (show BoxC ((w3.setCell ⟨N, 0, none⟩ (.int .i64 (e : Int))).setCell ⟨N, 1, none⟩ (.int .i64 (s : Int))) (N + 1) #[.int .i64 0] 24 from BoxC.oth (by omega) (BoxC.oth (by omega) z5.out))
  have H9 := Lib.hid (show w3.grownBy ((w3.setCell ⟨N, 0, none⟩ (.int .i64 (e : Int))).setCell ⟨N, 1, none⟩ (.int .i64 (s : Int))) (some N) from oth_trans (oth_set _ _ _ _) (oth_set _ _ _ _))
  have HB9 := Lib.hid (((Below.refl N w3).setCell (p := ⟨N, 0, none⟩) (Nat.le_refl _) (.int .i64 (e : Int))).setCell (p := ⟨N, 1, none⟩) (Nat.le_refl _) (.int .i64 (s : Int)))
  have Z4 := Lib.hid z4
  clear z4 r3 g3 e1 X42 X52 HB2 HT
  go_upto_region 4 with (fail)
  clear x0 x1 f0 f1
  generalize ((w3.setCell ⟨N, 0, none⟩ (.int .i64 (e : Int))).setCell ⟨N, 1, none⟩ (.int .i64 (s : Int))) = w4 at *
  have hNB : N + 1 < B := by omega
  have hd : Below w4.heap.size w4 w4.drew := (Below.refl _ _).drew
  have FQ := Lib.hid (show DuS N B e s w4 R3 w4.drew from DuS.below ⟨Y4.out, ⟨0, Y5.out⟩, Below.refl _ _, R3'.out.setbox Z4.out (no8d _ _) (by omega) H9.out, Nat.le_trans hs3 H9.out.size⟩ hd)
  have HBA := Lib.hid (show Below N w w4 from by have := HB3.out; rw [HN.out] at this; exact this.trans HB9.out)
  clear hd Y4 Y5 H9 HB9 R3' z5 HB3 Z4
  by_cases hz : R3 = []
  · have HX := Lib.hid (readP_3 (by rw [E1.out, hz] : durP L = some ((e, s), [])))
    refine wp_region_held_drew (S := (DuS N B e s w4 R3)) (by kernel_rfl) (FQ.out) (fun hHeld => ?_)
    refine wpAnyH_take (i := 0) (oi := { dst := some 13, op := Op.load 74 (Operand.tmp 4), type := 74, pos := "forms.go:32", after := #[], guard := none }) (v := ?_) rfl (by kernel_rfl) (by kernel_rfl) (by kernel_rfl) (fun _ _ _ h => put106 (i := 13) (by decide) h) (Or.inl ⟨by rfl, ?_⟩) (by assumption) ?_
    rotate_left
    · intro W hSw; obtain ⟨z4, _⟩ := hSw; have y0 := z4.cell 0; have y1 := z4.cell 1; simp only [List.getElem?_toArray, List.getElem?_cons_zero, List.getElem?_cons_succ] at y0 y1; go_simp; try with_reducible rfl
    try simp only [Act.put, List.setIfInBounds_toArray, List.set_cons_zero, List.set_cons_succ]
    refine wpAnyH_take (i := 1) (oi := { dst := some 14, op := Op.move (Operand.tmp 6), type := 158, pos := "forms.go:32", after := #[], guard := none }) (v := ?_) rfl (by kernel_rfl) (by kernel_rfl) (by kernel_rfl) (fun _ _ _ h => put106 (i := 14) (by decide) h) (Or.inl ⟨by rfl, ?_⟩) (by assumption) ?_
    rotate_left
    · intro W hSw; go_simp; try with_reducible rfl
    try simp only [Act.put, List.setIfInBounds_toArray, List.set_cons_zero, List.set_cons_succ]
    refine wpAnyH_ready (rs := [2]) (by kernel_rfl) (by simp) ?_
    refine AllReadyH.cons (o := { dst := some 15, op := Op.call { callee := Callee.value (Operand.func 121), args := #[Operand.tmp 14], argTypes := #[158] }, type := 24, pos := "forms.go:32", after := #[{ on := 1, ground := Ground.data }], guard := none }) rfl (fun K hK => ?_) AllReadyH.nil
    go_simp
    have HEN := Lib.hid (end_law hHeld.rds)
    rw [if_pos hz] at HEN
    refine (HEN.out).mono ?_; rintro e9 w5 ⟨rfl, hb3⟩
    go_wp2_with fail
    refine hK.out _ _ (hHeld.below hb3) (fun hHeldn => ?_)
    clear hK K hHeld; have hHeld := hHeldn; clear hHeldn
    try simp only [Act.put, List.setIfInBounds_toArray, List.set_cons_zero, List.set_cons_succ]
    refine wpAnyH_ready (rs := [3]) (by kernel_rfl) (by simp) ?_
    refine AllReadyH.cons (o := { dst := some 16, op := Op.call { callee := Callee.value (Operand.func 120), args := #[Operand.const (Value.int IntKind.i64 0), Operand.tmp 15], argTypes := #[24, 24] }, type := 24, pos := "forms.go:32", after := #[{ on := 2, ground := Ground.data }, { on := 2, ground := Ground.chain }], guard := none }) rfl (fun K hK => ?_) AllReadyH.nil
    go_simp
    refine (must_errno_ok _ _).mono ?_; rintro e9 w6 ⟨rfl, rfl⟩
    go_wp2_with fail
    refine hK.out _ _ (hHeld) (fun hHeldn => ?_)
    clear hK K hHeld; have hHeld := hHeldn; clear hHeldn
    try simp only [Act.put, List.setIfInBounds_toArray, List.set_cons_zero, List.set_cons_succ]
    refine wpAnyH_ready (rs := [4]) (by kernel_rfl) (by simp) ?_
    refine AllReadyH.cons (o := { dst := none, op := Op.store 74 (Operand.tmp 4) (Operand.tmp 13), type := 0, pos := "forms.go:32", after := #[{ on := 0, ground := Ground.data }, { on := 3, ground := Ground.chain }, { on := 0, ground := Ground.phase }, { on := 1, ground := Ground.textOnly Departure.lateStoresUnsure }, { on := 2, ground := Ground.textOnly Departure.lateStoresUnsure }, { on := 3, ground := Ground.textOnly Departure.lateStoresUnsure }], guard := none }) rfl (fun K hK => ?_) AllReadyH.nil
    have hHc := hHeld
    obtain ⟨z4, ⟨y9, z5⟩, zb, zr, zs⟩ := hHeld
    have y0 := z4.cell 0; have y1 := z4.cell 1; have f0 := z4.frozen 0; have f1 := z4.frozen 1; simp only [List.getElem?_toArray, List.getElem?_cons_zero, List.getElem?_cons_succ] at y0 y1
    have SP4 := Lib.hid (dst4 hHc hNB)
    clear hHc z4 z5 zb zr zs
    go_simp
    refine hK.out _ _ SP4.out (fun hHeldn => ?_)
    clear hK K y0 y1 f0 f1 SP4; have hHeld := hHeldn; clear hHeldn
    try simp only [Act.put, List.setIfInBounds_toArray, List.set_cons_zero, List.set_cons_succ]
    refine wpAnyH_ready (rs := [5]) (by kernel_rfl) (by simp) ?_
    refine AllReadyH.cons (o := { dst := none, op := Op.store 24 (Operand.tmp 5) (Operand.tmp 16), type := 0, pos := "forms.go:32", after := #[{ on := 3, ground := Ground.data }, { on := 4, ground := Ground.chain }, { on := 0, ground := Ground.phase }, { on := 1, ground := Ground.phase }, { on := 2, ground := Ground.phase }, { on := 3, ground := Ground.phase }, { on := 4, ground := Ground.phase }], guard := none }) rfl (fun K hK => ?_) AllReadyH.nil
    have hHc := hHeld
    obtain ⟨z4, ⟨y8, z5⟩, zb, zr, zs⟩ := hHeld
    have y0 := z5.cell 0; have f0 := z5.frozen 0; simp only [List.getElem?_toArray, List.getElem?_cons_zero, List.getElem?_cons_succ] at y0
    have SP5 := Lib.hid (dst5 hHc hNB)
    have Z5 := Lib.hid (z5.put 0 (.int .i64 0))
    clear hHc z4 z5 zb zr zs
    go_simp
    refine hK.out _ _ SP5.out (fun hHeldn => ?_)
    clear hK K y0 f0 SP5; have hHeld := hHeldn; clear hHeldn
    try simp only [Act.put, List.setIfInBounds_toArray, List.set_cons_zero, List.set_cons_succ]
    refine wpAnyH_done (by kernel_rfl) ?_ _
    skip
    generalize (((w5.setCell ⟨N, 0, none⟩ (.int .i64 (e : Int))).setCell ⟨N, 1, none⟩ (.int .i64 (s : Int))).setCell ⟨N + 1, 0, none⟩ (.int .i64 0)) = W9 at *
    obtain ⟨q4, _, qb, _, qs⟩ := hHeld
    have y0 := q4.cell 0
    have y1 := q4.cell 1
    have y3 := Z5.out.cell 0
    simp at y0 y1 y3
    have HE := Lib.hid (show RdDu w (readP (durP L)) (.returned (.tuple #[.agg #[.int .i64 (e : Int), .int .i64 (s : Int)], .int .i64 0])) W9 from ⟨.inr ⟨_, HX.out, rfl⟩, by rw [HN.out]; exact HBA.out.trans qb⟩)
    clear q4 qb qs Z5
    go_wp2_with fail
    refine leaves_cons (f := 151) (args := #[.pointer (some ⟨N, 0, none⟩), .pointer (some ⟨N + 1, 0, none⟩)]) (by simp) (by simp [go_sem]) ?_
    refine (catchdu_idle N (N + 1) _).mono ?_
    rintro e9 u' w9 ⟨rfl, rfl, rfl⟩
    simp [Leaves, settle, results, Tryz.results106, go_sem, y0, y1, y3]
    exact HE.out
  · have HX := Lib.hid (readP_2 E1.out hz)
    refine wp_region_held_drew (S := (DuS N B e s w4 R3)) (by kernel_rfl) (FQ.out) (fun hHeld => ?_)
    refine wpAnyH_take (i := 0) (oi := { dst := some 13, op := Op.load 74 (Operand.tmp 4), type := 74, pos := "forms.go:32", after := #[], guard := none }) (v := ?_) rfl (by kernel_rfl) (by kernel_rfl) (by kernel_rfl) (fun _ _ _ h => put106 (i := 13) (by decide) h) (Or.inl ⟨by rfl, ?_⟩) (by assumption) ?_
    rotate_left
    · intro W hSw; obtain ⟨z4, _⟩ := hSw; have y0 := z4.cell 0; have y1 := z4.cell 1; simp only [List.getElem?_toArray, List.getElem?_cons_zero, List.getElem?_cons_succ] at y0 y1; go_simp; try with_reducible rfl
    try simp only [Act.put, List.setIfInBounds_toArray, List.set_cons_zero, List.set_cons_succ]
    refine wpAnyH_take (i := 1) (oi := { dst := some 14, op := Op.move (Operand.tmp 6), type := 158, pos := "forms.go:32", after := #[], guard := none }) (v := ?_) rfl (by kernel_rfl) (by kernel_rfl) (by kernel_rfl) (fun _ _ _ h => put106 (i := 14) (by decide) h) (Or.inl ⟨by rfl, ?_⟩) (by assumption) ?_
    rotate_left
    · intro W hSw; go_simp; try with_reducible rfl
    try simp only [Act.put, List.setIfInBounds_toArray, List.set_cons_zero, List.set_cons_succ]
    refine wpAnyH_ready (rs := [2]) (by kernel_rfl) (by simp) ?_
    refine AllReadyH.cons (o := { dst := some 15, op := Op.call { callee := Callee.value (Operand.func 121), args := #[Operand.tmp 14], argTypes := #[158] }, type := 24, pos := "forms.go:32", after := #[{ on := 1, ground := Ground.data }], guard := none }) rfl (fun K hK => ?_) AllReadyH.nil
    go_simp
    have HEN := Lib.hid (end_law hHeld.rds)
    rw [if_neg hz] at HEN
    refine (HEN.out).mono ?_; rintro e9 w5 ⟨rfl, hb3⟩
    go_wp2_with fail
    refine hK.out _ _ (hHeld.below hb3) (fun hHeldn => ?_)
    clear hK K hHeld; have hHeld := hHeldn; clear hHeldn
    try simp only [Act.put, List.setIfInBounds_toArray, List.set_cons_zero, List.set_cons_succ]
    refine wpAnyH_ready (rs := [3]) (by kernel_rfl) (by simp) ?_
    refine AllReadyH.cons (o := { dst := some 16, op := Op.call { callee := Callee.value (Operand.func 120), args := #[Operand.const (Value.int IntKind.i64 0), Operand.tmp 15], argTypes := #[24, 24] }, type := 24, pos := "forms.go:32", after := #[{ on := 2, ground := Ground.data }, { on := 2, ground := Ground.chain }], guard := none }) rfl (fun K hK => ?_) AllReadyH.nil
    go_simp
    refine (must_errno_no _ 4 (by decide) _).mono ?_; rintro e9 w6 ⟨rfl, rfl⟩
    go_wp2_with fail
    obtain ⟨q4, ⟨y9, q5⟩, qb, _, _⟩ := hHeld
    have HQB := Lib.hid qb
    refine leaves_cons (f := 151) (args := #[.pointer (some ⟨N, 0, none⟩), .pointer (some ⟨N + 1, 0, none⟩)]) (by simp) (by simp [go_sem]) ?_
    refine (catchdu_panic N (N + 1) N _ _ _ _ q4 q5 (by omega) (Nat.le_refl _) (by omega)).mono ?_
    rintro e9 u' w9 ⟨rfl, rfl, q4, q5, HB9⟩
    have y0 := q4.cell 0
    have y1 := q4.cell 1
    have y3 := q5.cell 0
    simp only [List.getElem?_toArray, List.getElem?_cons_zero, List.getElem?_cons_succ] at y0 y1 y3
    have HE := Lib.hid (show RdDu w (readP (durP L)) (.returned (.tuple #[.agg #[.int .i64 0, .int .i64 0], .int .i64 4])) w9 from ⟨.inl ⟨HX.out, rfl⟩, by rw [HN.out]; exact (HBA.out.trans HQB.out).trans HB9⟩)
    simp [Leaves, settle, caughtP, results, Tryz.results106, go_sem, y0, y1, y3]
    exact HE.out
end Go.Proofs.YtglkndoghnblcaaGreat
namespace Go.Proofs.YtglkndoghnblcaaGreat
open Go.ChangeShapes Go.WideShapes Go.ChangeAt Go.RowKit
set_option linter.unusedVariables false
set_option linter.unusedSimpArgs false
/-- What is durable, as bytes tell it. -/
def rdurP (L : List Int) : Option (Nat × Nat) := match readP (durP (onlyL L)) with
  | some x => if durB (x.1 : Int) (x.2 : Int) then some x else none
  | none => none
theorem rdurP_1 {L : List Int} (h : readP (durP (onlyL L)) = none) : rdurP L = none := by unfold rdurP; rw [h]
theorem rdurP_2 {L : List Int} {x : Nat × Nat} (h : readP (durP (onlyL L)) = some x) (k : durB (x.1 : Int) (x.2 : Int) = false) : rdurP L = none := by unfold rdurP; rw [h]; simp [k]
theorem rdurP_3 {L : List Int} {x : Nat × Nat} (h : readP (durP (onlyL L)) = some x) (k : durB (x.1 : Int) (x.2 : Int) = true) : rdurP L = some x := by unfold rdurP; rw [h]; simp [k]
def durV : Option (Nat × Nat) → Value
  | some x => .tuple #[.agg #[.int .i64 (x.1 : Int), .int .i64 (x.2 : Int)], .int .i64 0]
  | none => .tuple #[.agg #[.int .i64 0, .int .i64 0], .int .i64 4]
set_option maxRecDepth 100000 in
set_option maxHeartbeats 4000000 in
/-- ReadDurable (39). -/
theorem readdur_law (a : Option Addr) (L : List Int) (n cap : Nat) (hn : L.length = n) (hn2 : n ≤ 1000000) (hB : Byt L) (w : World) (hL : Ls .u8 w a cap L) :
    Calls Tryz.prog 39 #[.slice a n cap] w fun r w' => r = .returned (durV (rdurP L)) ∧ Below w.heap.size w w' := by
  have HO := Lib.hid (fun W (b : Below w.heap.size w W) => only_law a L n cap hn hn2 hB W (hL.below b))
  have HBY := Lib.hid (onlyL_byt hB)
  have hol := onlyL_len L
  clear hn hB hL
  go_enter Tryz.func39, Tryz.ntmps39
  go_upto_region 1 with (fail)
  obtain ⟨W1, hW1⟩ : ∃ W1, w.alloc (.cells #[.int .i64 0, .int .i64 0] 74) = W1 := ⟨_, rfl⟩
  have hb1 : Below w.heap.size w W1 := by rw [← hW1]; exact bl1 _ _
  have x0 : BoxC W1 w.heap.size #[.int .i64 0, .int .i64 0] 74 := by rw [← hW1]; exact BoxC.new _ _ _
  try rw [hW1]
  clear hW1
  have HO1 := Lib.hid (HO.out _ hb1)
  have HB1 := Lib.hid hb1
  clear hb1 HO
  go_wp2_with fail
  refine HO1.out.mono ?_
  rintro r w2 ⟨a2, c2, rfl, l2, b2⟩
  obtain ⟨ol, hol2⟩ : ∃ ol, (onlyL L).length = ol := ⟨_, rfl⟩
  rw [hol2] at hol ⊢
  have HR := Lib.hid (readdu_law a2 (onlyL L) ol c2 hol2 (by omega) HBY.out w2 l2)
  have HB2 := Lib.hid b2
  clear l2 b2 hol2 HO1
  go_wp2_with fail
  refine HR.out.mono ?_
  rintro r w3 ⟨⟨h1, rfl⟩ | ⟨⟨g, e⟩, h1, rfl⟩, b3⟩
  · have HX := Lib.hid (rdurP_1 h1)
    have HB3 := Lib.hid (step_below HB2.out b3)
    clear h1 b3
    go_upto_region 2 with (fail)
    obtain ⟨W4, hW4⟩ : ∃ W4, w3.alloc (.cells #[.int .i64 0, .int .i64 0] 74) = W4 := ⟨_, rfl⟩
    have hb4 : Below w3.heap.size w3 W4 := by rw [← hW4]; exact bl1 _ _
    have x4 : BoxC W4 w3.heap.size #[.int .i64 0, .int .i64 0] 74 := by rw [← hW4]; exact BoxC.new _ _ _
    have q0 := x4.cell 0
    have q1 := x4.cell 1
    simp only [List.getElem?_toArray, List.getElem?_cons_zero, List.getElem?_cons_succ] at q0 q1
    try rw [hW4]
    clear hW4 x4
    have HB4 := Lib.hid (step_below HB3.out hb4)
    clear hb4
    go_wp2_with fail
    refine (suredu_no 0 0 4 (by decide) W4).mono ?_
    rintro r w5 ⟨rfl, b5⟩
    have b15 := step_below HB4.out b5
    clear q0 q1 b5
    have x3 := x0.below b15
    have z0 := x3.cell 0
    have z1 := x3.cell 1
    have f0 := x3.frozen 0
    have f1 := x3.frozen 1
    simp only [List.getElem?_toArray, List.getElem?_cons_zero, List.getElem?_cons_succ] at z0 z1
    have X9 := Lib.hid ((x3.put 0 (.int .i64 0)).put 1 (.int .i64 0))
    have HB9 := Lib.hid ((HB1.out.trans (b15.mono HB1.out.size)).setCell (p := ⟨w.heap.size, 0, none⟩) (Nat.le_refl _) (.int .i64 0) |>.setCell (p := ⟨w.heap.size, 1, none⟩) (Nat.le_refl _) (.int .i64 0))
    clear x3
    go_wp2_with fail
    clear z0 z1 f0 f1
    generalize ((w5.setCell ⟨w.heap.size, 0, none⟩ (.int .i64 0)).setCell ⟨w.heap.size, 1, none⟩ (.int .i64 0)) = W9 at *
    refine bodyPost_ret (v := .tuple #[.agg #[.int .i64 0, .int .i64 0], .int .i64 4]) ?_ rfl ⟨by rw [HX.out]; rfl, HB9.out⟩
    have x0' := X9.out.cell 0
    have x1' := X9.out.cell 1
    simp at x0' x1'
    simp [results, Tryz.results39, go_sem, x0', x1']
  · obtain ⟨ok, hok⟩ : ∃ ok, durB (g : Int) (e : Int) = ok := ⟨_, rfl⟩
    have HSU := Lib.hid (fun W => suredu_law (g : Int) (e : Int) W)
    rw [hok] at HSU
    have HX := Lib.hid (And.intro h1 hok)
    have HB3 := Lib.hid (step_below HB2.out b3)
    clear h1 b3 hok
    simp only
    go_upto_region 2 with (fail)
    obtain ⟨W4, hW4⟩ : ∃ W4, w3.alloc (.cells #[.int .i64 (g : Int), .int .i64 (e : Int)] 74) = W4 := ⟨_, rfl⟩
    have hb4 : Below w3.heap.size w3 W4 := by rw [← hW4]; exact bl1 _ _
    have x4 : BoxC W4 w3.heap.size #[.int .i64 (g : Int), .int .i64 (e : Int)] 74 := by rw [← hW4]; exact BoxC.new _ _ _
    have q0 := x4.cell 0
    have q1 := x4.cell 1
    simp only [List.getElem?_toArray, List.getElem?_cons_zero, List.getElem?_cons_succ] at q0 q1
    try rw [hW4]
    clear hW4 x4
    have HB4 := Lib.hid (step_below HB3.out hb4)
    clear hb4
    go_wp2_with fail
    refine (HSU.out W4).mono ?_
    rintro r w5 ⟨rfl, b5⟩
    have b15 := step_below HB4.out b5
    clear q0 q1 b5
    cases ok with
    | false =>
      simp only [Bool.false_eq_true, if_false]
      have x3 := x0.below b15
      have z0 := x3.cell 0
      have z1 := x3.cell 1
      have f0 := x3.frozen 0
      have f1 := x3.frozen 1
      simp only [List.getElem?_toArray, List.getElem?_cons_zero, List.getElem?_cons_succ] at z0 z1
      have X9 := Lib.hid ((x3.put 0 (.int .i64 0)).put 1 (.int .i64 0))
      have HB9 := Lib.hid ((HB1.out.trans (b15.mono HB1.out.size)).setCell (p := ⟨w.heap.size, 0, none⟩) (Nat.le_refl _) (.int .i64 0) |>.setCell (p := ⟨w.heap.size, 1, none⟩) (Nat.le_refl _) (.int .i64 0))
      clear x3
      go_wp2_with fail
      clear z0 z1 f0 f1
      generalize ((w5.setCell ⟨w.heap.size, 0, none⟩ (.int .i64 0)).setCell ⟨w.heap.size, 1, none⟩ (.int .i64 0)) = W9 at *
      refine bodyPost_ret (v := .tuple #[.agg #[.int .i64 0, .int .i64 0], .int .i64 4]) ?_ rfl ⟨by rw [rdurP_2 HX.out.1 HX.out.2]; rfl, HB9.out⟩
      have x0' := X9.out.cell 0
      have x1' := X9.out.cell 1
      simp at x0' x1'
      simp [results, Tryz.results39, go_sem, x0', x1']
    | true =>
      simp only [if_true]
      have x3 := x0.below b15
      have z0 := x3.cell 0
      have z1 := x3.cell 1
      have f0 := x3.frozen 0
      have f1 := x3.frozen 1
      simp only [List.getElem?_toArray, List.getElem?_cons_zero, List.getElem?_cons_succ] at z0 z1
      have X9 := Lib.hid ((x3.put 0 (.int .i64 (g : Int))).put 1 (.int .i64 (e : Int)))
      have HB9 := Lib.hid ((HB1.out.trans (b15.mono HB1.out.size)).setCell (p := ⟨w.heap.size, 0, none⟩) (Nat.le_refl _) (.int .i64 (g : Int)) |>.setCell (p := ⟨w.heap.size, 1, none⟩) (Nat.le_refl _) (.int .i64 (e : Int)))
      clear x3
      go_wp2_with fail
      clear z0 z1 f0 f1
      generalize ((w5.setCell ⟨w.heap.size, 0, none⟩ (.int .i64 (g : Int))).setCell ⟨w.heap.size, 1, none⟩ (.int .i64 (e : Int))) = W9 at *
      refine bodyPost_ret (v := .tuple #[.agg #[.int .i64 (g : Int), .int .i64 (e : Int)], .int .i64 0]) ?_ rfl ⟨by rw [rdurP_3 HX.out.1 HX.out.2]; rfl, HB9.out⟩
      have x0' := X9.out.cell 0
      have x1' := X9.out.cell 1
      simp at x0' x1'
      simp [results, Tryz.results39, go_sem, x0', x1']
end Go.Proofs.YtglkndoghnblcaaGreat
namespace Go.Proofs.YtglkndoghnblcaaGreat
open Go.ChangeShapes Go.WideShapes Go.ChangeAt Go.RowKit
set_option linter.unusedVariables false
set_option linter.unusedSimpArgs false
theorem tidW_len (e s : Nat) (he : e < 18446744073709551616) (hs : s < 18446744073709551616) : 1 ≤ (tidW e s).length ∧ (tidW e s).length ≤ 4096 := by
  unfold tidW
  rw [List.length_append]
  have := numW_ten e he
  have := numW_ten s hs
  have := numW_pos e
  omega
def PduR (w : World) (g e : Int) (r : Ending) (w' : World) : Prop :=
  ((durB g e = false ∧ r = .returned (.tuple #[.slice none 0 0, .int .i64 2])) ∨
    (durB g e = true ∧ ∃ a' c', r = .returned (.tuple #[.slice a' (8 + (tidW g.toNat e.toNat).length) c', .int .i64 0]) ∧ w'.ownsRow w.heap.size 5 1 (.slice a' (8 + (tidW g.toNat e.toNat).length) c') (8 + (tidW g.toNat e.toNat).length) (iv .u8 (frameL (tidW g.toNat e.toNat))) ∧ Ls .u8 w' a' c' (frameL (tidW g.toNat e.toNat)))) ∧ Below w.heap.size w w'
set_option maxRecDepth 100000 in
set_option maxHeartbeats 4000000 in
/-- PutDurable (38). -/
theorem putdur_law (g e : Int) (w : World) : Calls Tryz.prog 38 #[.agg #[.int .i64 g, .int .i64 e]] w (PduR w g e) := by
  have HM := Lib.hid (fun W => maydur_law g e W)
  cases hb : durB g e with
  | false =>
    have HB := Lib.hid hb
    rw [hb] at HM
    clear hb
    go_enter Tryz.func38, Tryz.ntmps38
    go_wp2_with fail
    refine (HM.out _).mono ?_; rintro r w1 ⟨rfl, hb1⟩
    have HB1 := Lib.hid (step_below (bl1 w _) hb1)
    clear hb1
    go_wp2_with fail
    go_ret2
    exact ⟨.inl ⟨HB.out, rfl⟩, HB1.out⟩
  | true =>
    have HB := Lib.hid hb
    rw [hb] at HM
    unfold durB at hb
    rw [Bool.and_eq_true, inB_iff, inB_iff] at hb
    obtain ⟨e, rfl⟩ : ∃ n : Nat, g = (n : Int) := ⟨g.toNat, by omega⟩
    rename_i s0
    obtain ⟨s, rfl⟩ : ∃ n : Nat, s0 = (n : Int) := ⟨s0.toNat, by omega⟩
    have he : e < 9223372036854775808 := by omega
    have hs : s < 9223372036854775808 := by omega
    have HTL := Lib.hid (tidW_len e s (by omega) (by omega))
    have HTY := Lib.hid (tidW_byt e s)
    clear hb
    go_enter Tryz.func38, Tryz.ntmps38
    go_upto_region 1 with (fail)
    obtain ⟨W0, hW0⟩ : ∃ W0, w.alloc (.cells #[.int .i64 (e : Int), .int .i64 (s : Int)] 74) = W0 := ⟨_, rfl⟩
    have hb0 : Below w.heap.size w W0 := by rw [← hW0]; exact bl1 _ _
    have bx : BoxC W0 w.heap.size #[.int .i64 (e : Int), .int .i64 (s : Int)] 74 := by rw [← hW0]; exact BoxC.new w _ 74
    rw [hW0]
    clear hW0
    have y0 := bx.cell 0
    have y1 := bx.cell 1
    simp only [List.getElem?_toArray, List.getElem?_cons_zero, List.getElem?_cons_succ] at y0 y1
    go_wp2_with fail
    refine (HM.out _).mono ?_; rintro r W1 ⟨rfl, hb1⟩
    have HB0 := Lib.hid (step_below hb0 hb1)
    have HS0 := Lib.hid HB0.out.size
    have bx1 := bx.below hb1
    have FQ := Lib.hid (fun X (b : Below W1.heap.size W1 X) => (⟨(bx1.below b).cell 0, (bx1.below b).cell 1⟩ : X.cell? ⟨w.heap.size, 0, none⟩ = some (.int .i64 (e : Int)) ∧ X.cell? ⟨w.heap.size, 1, none⟩ = some (.int .i64 (s : Int))))
    clear hb0 bx bx1 y0 y1 hb1
    go_wp2_with fail
    rename_i KK hKK
    refine Code.wp_mono (Q := Exit.then KK (fun _ _ _ => False)) (fun e a' w' h => by cases e <;> first | exact h | exact h.elim) ?_
    refine wp_region_held_drew (S := (fun X => Below W1.heap.size W1 X)) (by kernel_rfl) ((Below.refl _ _).drew) (fun hHeld => ?_)
    refine tk 0 ?_ rfl (.inl ⟨by rfl, ?_⟩) ?_
    rotate_left
    · intro W hSw; go_simp; try with_reducible rfl
    try simp only [Act.put, List.setIfInBounds_toArray, List.set_cons_zero, List.set_cons_succ]
    refine tk 1 ?_ rfl (.inl ⟨by rfl, ?_⟩) ?_
    rotate_left
    · intro W hSw; obtain ⟨z0, z1⟩ := FQ.out W hSw; go_simp; try with_reducible rfl
    try simp only [Act.put, List.setIfInBounds_toArray, List.set_cons_zero, List.set_cons_succ]
    refine tk 3 ?_ rfl (.inl ⟨by rfl, ?_⟩) ?_
    rotate_left
    · intro W hSw; go_simp; try with_reducible rfl
    try simp only [Act.put, List.setIfInBounds_toArray, List.set_cons_zero, List.set_cons_succ]
    refine tk 4 ?_ rfl (.inl ⟨by rfl, ?_⟩) ?_
    rotate_left
    · intro W hSw; obtain ⟨z0, z1⟩ := FQ.out W hSw; go_simp; try with_reducible rfl
    try simp only [Act.put, List.setIfInBounds_toArray, List.set_cons_zero, List.set_cons_succ]
    refine wpAnyH_ready (rs := [2]) (by kernel_rfl) (by simp) ?_
    refine AllReadyH.cons (o := { dst := some 9, op := Op.call { callee := Callee.value (Operand.func 79), args := #[Operand.tmp 8], argTypes := #[2] }, type := 22, pos := "forms.go:270", after := #[{ on := 1, ground := Ground.data }], guard := none }) rfl (fun K hK => ?_) AllReadyH.nil
    go_simp
    refine (putnumber_own e he _).mono ?_; rintro e9 w3 ⟨a3, c3, rfl, ho3, hl3, hb3⟩; have HA := Lib.hid hl3.ls
    go_wp2_with fail
    refine hK.out _ _ (step_below hHeld hb3) (fun hHeldn => ?_)
    clear hK K hHeld; have hHeld := hHeldn; clear hHeldn
    clear ho3 hl3 hb3
    try simp only [Act.put, List.setIfInBounds_toArray, List.set_cons_zero, List.set_cons_succ]
    refine wpAnyH_ready (rs := [5]) (by kernel_rfl) (by simp) ?_
    refine AllReadyH.cons (o := { dst := some 12, op := Op.call { callee := Callee.value (Operand.func 79), args := #[Operand.tmp 11], argTypes := #[2] }, type := 22, pos := "forms.go:270", after := #[{ on := 4, ground := Ground.data }, { on := 2, ground := Ground.chain }], guard := none }) rfl (fun K hK => ?_) AllReadyH.nil
    go_simp
    refine (putnumber_own s hs _).mono ?_; rintro e9 w4 ⟨a4, c4, rfl, ho4, hl4, hb4⟩; have HC := Lib.hid hl4.ls; have HB4 := Lib.hid hb4
    go_wp2_with fail
    refine hK.out _ _ (step_below hHeld hb4) (fun hHeldn => ?_)
    clear hK K hHeld; have hHeld := hHeldn; clear hHeldn
    clear ho4 hl4 hb4
    have hfl : flat [⟨a3, c3, numW e⟩, ⟨a4, c4, numW s⟩] = tidW e s := (by simp [flat, tidW]); have hRR := rdR_new w4 [⟨a3, c3, numW e⟩, ⟨a4, c4, numW s⟩] #[.slice a3 (numW e).length c3, .slice a4 (numW s).length c4] 22 (0, 0) (by simp only [List.map_cons, List.map_nil, P1.v]) (by intro p hp; simp only [List.mem_cons, List.not_mem_nil, or_false] at hp; rcases hp with rfl | rfl; exact (HA.out.below HB4.out); exact HC.out); have hj := join_own (some ⟨w4.heap.size, 0, none⟩) _ 2 2 rfl (by omega) (by rw [hfl]; unfold tidW; rw [List.length_append]; have := numW_ten e (by omega); have := numW_ten s (by omega); omega) _ hRR; rw [hfl] at hj; have HJ := Lib.hid hj; clear hj hRR hfl
    try simp only [Act.put, List.setIfInBounds_toArray, List.set_cons_zero, List.set_cons_succ]
    refine wpAnyH_ready (rs := [6]) (by kernel_rfl) (by simp) ?_
    refine AllReadyH.cons (o := { dst := some 13, op := Op.buildSlice 27 2 #[(0, Operand.tmp 9), (1, Operand.tmp 12)], type := 27, pos := "forms.go:270", after := #[{ on := 2, ground := Ground.data }, { on := 5, ground := Ground.data }], guard := none }) rfl (fun K hK => ?_) AllReadyH.nil
    go_simp
    refine hK.out _ _ (hHeld.alloc hHeld.size _) (fun hHeldn => ?_)
    clear hK K hHeld; have hHeld := hHeldn; clear hHeldn
    try simp only [Act.put, List.setIfInBounds_toArray, List.set_cons_zero, List.set_cons_succ]
    refine wpAnyH_ready (rs := [7]) (by kernel_rfl) (by simp) ?_
    refine AllReadyH.cons (o := { dst := some 14, op := Op.call { callee := Callee.value (Operand.func 49), args := #[Operand.tmp 13], argTypes := #[27] }, type := 22, pos := "forms.go:270", after := #[{ on := 6, ground := Ground.data }, { on := 5, ground := Ground.chain }], guard := none }) rfl (fun K hK => ?_) AllReadyH.nil
    go_simp
    refine (HJ.out).mono ?_; rintro e9 w5 ⟨a5, c5, rfl, hl5, ho5, hb5⟩; have HFR := Lib.hid (frame_ok a5 (tidW e s) (tidW e s).length c5 rfl HTL.out.1 HTL.out.2 HTY.out w5 hl5)
    go_wp2_with fail
    refine hK.out _ _ (step_below hHeld hb5) (fun hHeldn => ?_)
    clear hK K hHeld; have hHeld := hHeldn; clear hHeldn
    clear ho5 hl5 hb5
    try simp only [Act.put, List.setIfInBounds_toArray, List.set_cons_zero, List.set_cons_succ]
    refine wpAnyH_ready (rs := [8]) (by kernel_rfl) (by simp) ?_
    refine AllReadyH.cons (o := { dst := some 15, op := Op.call { callee := Callee.value (Operand.func 11), args := #[Operand.tmp 14], argTypes := #[22] }, type := 25, pos := "forms.go:270", after := #[{ on := 7, ground := Ground.data }, { on := 7, ground := Ground.chain }], guard := none }) rfl (fun K hK => ?_) AllReadyH.nil
    go_simp
    refine (HFR.out).mono ?_; rintro e9 w6 ⟨a6, c6, rfl, ho6, hl6, hb6⟩; have HO6 := Lib.hid (And.intro (own_base (b := w.heap.size) (by have := hHeld.size; have := HS0.out; omega) ho6) hl6)
    go_wp2_with fail
    refine hK.out _ _ (step_below hHeld hb6) (fun hHeldn => ?_)
    clear hK K hHeld; have hHeld := hHeldn; clear hHeldn
    clear ho6 hl6 hb6
    try simp only [Act.put, List.setIfInBounds_toArray, List.set_cons_zero, List.set_cons_succ]
    refine tk 9 ?_ rfl (.inl ⟨by rfl, ?_⟩) ?_
    rotate_left
    · intro W hSw; go_simp; try with_reducible rfl
    try simp only [Act.put, List.setIfInBounds_toArray, List.set_cons_zero, List.set_cons_succ]
    refine tk 10 ?_ rfl (.inl ⟨by rfl, ?_⟩) ?_
    rotate_left
    · intro W hSw; go_simp; try with_reducible rfl
    try simp only [Act.put, List.setIfInBounds_toArray, List.set_cons_zero, List.set_cons_succ]
    refine tk 11 ?_ rfl (.inl ⟨by rfl, ?_⟩) ?_
    rotate_left
    · intro W hSw; go_simp; try with_reducible rfl
    try simp only [Act.put, List.setIfInBounds_toArray, List.set_cons_zero, List.set_cons_succ]
    refine tk 12 ?_ rfl (.inl ⟨by rfl, ?_⟩) ?_
    rotate_left
    · intro W hSw; go_simp; try with_reducible rfl
    try simp only [Act.put, List.setIfInBounds_toArray, List.set_cons_zero, List.set_cons_succ]
    refine wpAnyH_done (by kernel_rfl) ?_ _
    skip
    refine hKK _ _ ?_
    have HBN := Lib.hid (step_below HB0.out hHeld)
    clear hKK hHeld FQ
    go_wp2_with fail
    go_ret2
    exact ⟨.inr ⟨HB.out, a6, c6, rfl, HO6.out.1, HO6.out.2⟩, HBN.out⟩
end Go.Proofs.YtglkndoghnblcaaGreat
namespace Go.Proofs.YtglkndoghnblcaaGreat
open Go.ChangeShapes Go.WideShapes Go.ChangeAt Go.RowKit
set_option linter.unusedVariables false
set_option linter.unusedSimpArgs false
set_option maxRecDepth 100000 in
theorem hnf126 (f : Fn) (c1 c2 : Array Value) (w : World) : (binOp .eql 126 (.func f c1 c2) .nilFunc).run Tryz.prog w = .ok (.bool false) w := by
  first | rfl | simp [binOp, run_underlying Tryz.underlying126] | simp [binOp, Op.equal, run_underlying Tryz.underlying126, go_sem]

set_option maxRecDepth 100000 in
set_option maxHeartbeats 4000000 in
/-- Put of numbers (78). -/
theorem putnums_own (a : Option Addr) (R : List Int) (n cap : Nat) (hn : R.length = n) (hn2 : n ≤ 1000000) (ht : (putL nuW R).length ≤ 1048576) (w : World) (hR : NuR w a R)
    (hF : ∀ (k : Nat) (x : Int), R[k]? = some x → ∀ W, Below w.heap.size w W → Calls Tryz.prog 79 #[.int .i64 x] W (OwnB W (nuW x))) :
    Calls Tryz.prog 78 #[.slice a n cap, .func (.func 79) #[] #[]] w fun e w' => ∃ a' c', e = .returned (.tuple #[.slice a' (putL nuW R).length c', .int .i64 0]) ∧ w'.ownsRow w.heap.size 5 1 (.slice a' (putL nuW R).length c') (putL nuW R).length (iv .u8 (putL nuW R)) ∧ Lsb w.heap.size w' a' c' (putL nuW R) ∧ Below w.heap.size w w' := by
  have HR := Lib.hid hR
  have HN := Lib.hid hn
  have HF := Lib.hid hF
  have HT := Lib.hid (show (numW n).length + (R.map nuW).flatten.length ≤ 1048576 by rw [← hn, ← putL_len]; exact ht)
  have hw : IntKind.u64.wrap (n : Int) = (n : Int) := by rw [IntKind.wrap_u64]; omega
  have hnf := fun W => hnf126 (.func 79) #[] #[] W
  clear hR hF ht hn
  go_enter Tryz.func78, Tryz.ntmps78
  go_wp2_with fail
  refine (number_own n (by omega) _).mono ?_
  rintro e w1 ⟨a1, c1, rfl, ho, hl, hb⟩
  have HO1 := Lib.hid ho
  have HB1 := Lib.hid hb
  clear ho hl hb hnf
  obtain ⟨q, hq⟩ : ∃ q, (numW n).length = q := ⟨_, rfl⟩
  have HQ := Lib.hid hq
  rw [hq] at HO1 HT ⊢
  clear hq
  go_wp2_with fail
  go_loopw [6, 8, 17] (fun v x i wr => ∃ k : Nat, k ≤ n ∧ i = .int .i64 (k : Int) ∧ wr.ownsRow w.heap.size 5 1 v (q + ((R.take k).map nuW).flatten.length) (iv .u8 (numW n ++ ((R.take k).map nuW).flatten)) ∧ Below w.heap.size w wr) (fun _ _ i _ => n - (intOf i).toNat)
  case atStart => exact ⟨0, by omega, rfl, by simpa using HO1.out, HB1.out⟩
  case round =>
    clear HO1 HB1
    obtain ⟨k, hk, rfl, hown, B⟩ := hrel
    have HO := Lib.hid hown
    have HB := Lib.hid B
    have hs1 := B.size
    clear hown
    by_cases hlt : k < n
    · have hkl : (k : Int) < (n : Int) := by omega
      obtain ⟨x, hx⟩ : ∃ x, R[k]? = some x := ⟨_, List.getElem?_eq_getElem (by rw [HN.out]; exact hlt)⟩
      obtain ⟨b1, o1, e1, cc2⟩ := HR.out.below B k x hx
      subst e1
      have HC := Lib.hid (HF.out k x hx wr B)
      have HS := Lib.hid (flat_take nuW R k x hx)
      have HLE := Lib.hid (show ((R.take k).map nuW).flatten.length + (nuW x).length ≤ (R.map nuW).flatten.length by rw [← List.length_append, ← flat_take nuW R k x hx]; exact flat_le nuW R (k + 1))
      obtain ⟨F, hF⟩ : ∃ F, ((R.take k).map nuW).flatten = F := ⟨_, rfl⟩
      obtain ⟨X, hX⟩ : ∃ X, nuW x = X := ⟨_, rfl⟩
      rw [hF] at HO HS HLE
      rw [hX] at HC HS HLE
      obtain ⟨fl, hfl⟩ : ∃ fl, F.length = fl := ⟨_, rfl⟩
      obtain ⟨xl, hxl⟩ : ∃ xl, X.length = xl := ⟨_, rfl⟩
      have HXL := Lib.hid (And.intro hfl hxl)
      rw [hfl] at HO HLE
      rw [hxl] at HLE
      have hsum : q + fl + xl ≤ 1048576 := by have := HT.out; have := HLE.out; omega
      clear hx hF hX hfl hxl B
      go_wp2_with fail
      refine HC.out.mono ?_
      rintro e w2 ⟨a2, c2, rfl, ho2, hl2, hb2⟩
      have HL2 := Lib.hid hl2.ls
      have HO2 := Lib.hid (show w2.ownsRow w.heap.size 5 1 _ _ _ from HO.out.kept (grown_of_below hb2) (by cases hv : Value.ownBlock _ with | none => exact Or.inl rfl | some b => exact Or.inr (fun e => by cases e)))
      have HB2 := Lib.hid (step_below HB.out hb2)
      have hs2 := HB2.out.size
      rw [HXL.out.2]
      clear ho2 hl2 hb2 HO
      go_wp2_with (at_builtin; refine append_ls eltB rfl (.tmp 21) (.tmp 24) rfl w.heap.size _ (q + fl) (iv .u8 (numW n ++ F)) rfl HO2.out _ _ xl X HXL.out.2 rfl HL2.out hsum hs2 ?_; intro v2 w3 hown2 hgrow2; rw [← iv_append, List.append_assoc] at hown2; have HO3 := Lib.hid hown2; have HB3 := Lib.hid (HB2.out.grown hgrow2 hs2 (fun j hj => (HO2.out.lt j hj).1)); clear hown2 hgrow2)
      go_roundw
      case rel => exact ⟨k + 1, by omega, by go_num, by rw [HS.out, List.length_append, HXL.out.1, HXL.out.2, ← Nat.add_assoc]; exact HO3.out, HB3.out⟩
      case measure => simp [intOf]; omega
    · have hkl : ¬ (k : Int) < (n : Int) := by omega
      obtain rfl : k = n := by omega
      have hPL : numW k ++ ((R.take k).map nuW).flatten = putL nuW R := by
        unfold putL
        rw [HN.out, List.take_of_length_le (by rw [HN.out]; exact Nat.le_refl _)]
      have hLL : q + ((R.take k).map nuW).flatten.length = (putL nuW R).length := by rw [← hPL, List.length_append, HQ.out]
      have HO4 := HO.out
      rw [hPL, hLL] at HO4
      obtain ⟨a', c', hv, hl'⟩ := own_lsb HO4 rfl
      subst hv
      have HX := Lib.hid (And.intro HO4 hl')
      clear hPL hLL HO4 hl' HO B
      obtain ⟨pl, hpl⟩ : ∃ pl, (putL nuW R).length = pl := ⟨_, rfl⟩
      rw [hpl]
      have HPL := Lib.hid hpl
      clear hpl
      go_wp2_with fail
      go_ret2
      exact ⟨a', c', by rw [HPL.out]; rfl, HX.out.1, HX.out.2, HB.out⟩

end Go.Proofs.YtglkndoghnblcaaGreat
namespace Go.Proofs.YtglkndoghnblcaaGreat
open Go.ChangeShapes Go.WideShapes Go.ChangeAt Go.RowKit
set_option linter.unusedVariables false
set_option linter.unusedSimpArgs false
set_option maxRecDepth 100000 in
set_option maxHeartbeats 4000000 in
/-- PutCheckpoint (29). -/
theorem putck_ok (e : Int) (a : Option Addr) (ts : List TbP) (n cap : Nat) (hn : ts.length = n) (hn2 : n ≤ 1000000) (hxs : ∀ t ∈ ts, t.xs.length ≤ 1000000 ∧ ∀ x ∈ t.xs, x.R.length ≤ 1000000) (w : World) (hR : TbsR w a ts) (hb : ckB e ts = true) (hl : cntT ts n ≤ 4096) :
    Calls Tryz.prog 29 #[.agg #[.int .i64 e, .slice a n cap]] w (PckR w e ts) := by
  have HM := Lib.hid (fun W (b : Below w.heap.size w W) => mayck_law e a ts n cap hn hn2 hxs W (hR.below b))
  have HC := Lib.hid (fun W (b : Below w.heap.size w W) => counts_law e a ts n cap hn hn2 (by omega) W (hR.below b))
  have ok := ck_ok hb
  obtain ⟨e, rfl⟩ : ∃ k : Nat, e = (k : Int) := ⟨e.toNat, by have := ok.e1; omega⟩
  have he : e ≤ 16777215 := by have := ok.e2; omega
  have hn4 : n ≤ 4 := by have := ok.n; omega
  have HB := Lib.hid (And.intro hb hn)
  have HOKA := Lib.hid ok
  have HHL := Lib.hid (hdW_len he ok.n (by rw [hn]; exact hl))
  have HHY := Lib.hid (hdW_byt e ts)
  have HR := Lib.hid hR
  have HHD := Lib.hid (show hdW e ts = numW e ++ putL nuW (cntsL ts n) by unfold hdW; rw [hn])
  have HPN := Lib.hid (fun W a' c' (h : W.ownsRow w.heap.size 2 1 (.slice a' n c') n (iv .i64 (cntsL ts n))) => putnums_own a' (cntsL ts n) n c' (cntsL_len ts n (by omega)) hn2 (by have := cnts_put ok.n (by rw [hn]; exact hl); rw [hn] at this; omega) W (by obtain ⟨a2, c2, e2, h2, _⟩ := own_ls h (cntsL_len ts n (by omega)); cases e2; exact NuR.of h2) (fun k x hx W' _ => by
    have hx2 := List.mem_of_getElem? hx
    unfold cntsL at hx2
    obtain ⟨t, ht, rfl⟩ := List.mem_map.1 hx2
    have h3 := (hxs t (List.mem_of_mem_take ht)).1
    have h4 := putnumber_own t.xs.length (by omega) W'
    unfold nuW
    rw [Int.toNat_natCast]
    exact h4))
  rw [hb] at HM
  obtain ⟨s, hs⟩ : ∃ s, cntT ts n = s := ⟨_, rfl⟩
  have HS := Lib.hid hs
  rw [hs] at HC hl
  have d1 : ¬ (4096 : Int) < (s : Int) := by omega
  obtain ⟨PN, hPN⟩ : ∃ PN, putL nuW (cntsL ts n) = PN := ⟨_, rfl⟩
  rw [hPN] at HPN HHD
  clear hb hn hR hxs hs ok hPN
  go_enter Tryz.func29, Tryz.ntmps29
  go_upto_region 1 with (fail)
  obtain ⟨W0, hW0⟩ : ∃ W0, w.alloc (.cells #[.int .i64 (e : Int), .slice a n cap] 56) = W0 := ⟨_, rfl⟩
  have hb0 : Below w.heap.size w W0 := by rw [← hW0]; exact bl1 _ _
  have bx : BoxC W0 w.heap.size #[.int .i64 (e : Int), .slice a n cap] 56 := by rw [← hW0]; exact BoxC.new w _ 56
  try rw [hW0]
  clear hW0
  have y0 := bx.cell 0
  have y1 := bx.cell 1
  simp only [List.getElem?_toArray, List.getElem?_cons_zero, List.getElem?_cons_succ] at y0 y1
  go_wp2_with fail
  refine (HM.out _ hb0).mono ?_; rintro r Wa ⟨rfl, hba⟩
  have HBA := Lib.hid (step_below hb0 hba)
  have bxa := bx.below hba
  clear y0 y1 bx hb0 hba HM
  have y0 := bxa.cell 0
  have y1 := bxa.cell 1
  simp only [List.getElem?_toArray, List.getElem?_cons_zero, List.getElem?_cons_succ] at y0 y1
  go_wp2_with fail
  refine (HC.out _ HBA.out).mono ?_; rintro r Wb ⟨a', c', rfl, hob, hbb⟩
  have HBB := Lib.hid (step_below HBA.out hbb)
  have bxb := bxa.below hbb
  have HPB := Lib.hid (HPN.out _ _ _ (own_base (b := w.heap.size) HBA.out.size hob))
  clear hbb y0 y1 bxa hob HC HPN
  have y0 := bxb.cell 0
  have y1 := bxb.cell 1
  simp only [List.getElem?_toArray, List.getElem?_cons_zero, List.getElem?_cons_succ] at y0 y1
  go_upto_region 6 with (fail)
  go_wp2_with fail
  refine HPB.out.mono ?_; rintro r Wc ⟨ap, cp, rfl, _, hlp, hbc⟩
  have HBC := Lib.hid (step_below HBB.out hbc)
  have bxc := bxb.below hbc
  have HLP := Lib.hid hlp.ls
  clear hbc y0 y1 bxb hlp HPB
  have y0 := bxc.cell 0
  have y1 := bxc.cell 1
  simp only [List.getElem?_toArray, List.getElem?_cons_zero, List.getElem?_cons_succ] at y0 y1
  go_wp2_with fail
  refine (putnumber_own e (by omega) _).mono ?_; rintro r w3 ⟨a3, c3, rfl, _, hl3, hb3⟩
  have HBD := Lib.hid (step_below HBC.out hb3)
  have bxd := bxc.below hb3
  have hfl : flat [⟨a3, c3, numW e⟩, ⟨ap, cp, PN⟩] = hdW e ts := by rw [HHD.out]; simp [flat]
  have hRR := rdR_new w3 [⟨a3, c3, numW e⟩, ⟨ap, cp, PN⟩] #[.slice a3 (numW e).length c3, .slice ap PN.length cp] 22 (0, 0) (by simp only [List.map_cons, List.map_nil, P1.v]) (by
    intro p hp
    simp only [List.mem_cons, List.not_mem_nil, or_false] at hp
    rcases hp with rfl | rfl
    · exact hl3.ls
    · exact HLP.out.below hb3)
  have hj := join_own (some ⟨w3.heap.size, 0, none⟩) _ 2 2 rfl (by omega) (by rw [hfl]; have := HHL.out.2; omega) _ hRR
  rw [hfl] at hj
  have HJ := Lib.hid hj
  clear hb3 hl3 y0 y1 bxc hfl hRR hj HLP HHD
  go_wp2_with fail
  refine HJ.out.mono ?_; rintro r w4 ⟨a4, c4, rfl, hl4, ho4, hb4⟩
  have HFR := Lib.hid (frame_ok a4 (hdW e ts) (hdW e ts).length c4 rfl HHL.out.1 (Nat.le_trans HHL.out.2 (by omega)) HHY.out w4 hl4)
  have HBE := Lib.hid (step_below (HBD.out.alloc HBD.out.size _) hb4)
  have bxe := (bxd.alloc _).below hb4
  clear hl4 ho4 hb4 bxd HJ
  go_wp2_with fail
  refine HFR.out.mono ?_; rintro r w5 ⟨a5, c5, rfl, ho5, hl5, hb5⟩
  have HBF := Lib.hid (step_below HBE.out hb5)
  have HO5 := Lib.hid (own_base (b := w.heap.size) HBE.out.size ho5)
  have bxf := bxe.below hb5
  clear ho5 hl5 hb5 bxe HFR
  have y0 := bxf.cell 0
  have y1 := bxf.cell 1
  simp only [List.getElem?_toArray, List.getElem?_cons_zero, List.getElem?_cons_succ] at y0 y1
  have HTL := Lib.hid (fun k (hk : k ≤ n) => tabsW_len HOKA.out k (by rw [HB.out.2]; exact hk))
  have HCL := Lib.hid (fun k => (show cntT ts k ≤ s by rw [← HS.out]; have := cntT_le ts k; rw [HB.out.2] at this; exact this))
  obtain ⟨FH, hFH⟩ : ∃ FH, frameL (hdW e ts) = FH := ⟨_, rfl⟩
  obtain ⟨fh, hfh⟩ : ∃ fh, 8 + (hdW e ts).length = fh := ⟨_, rfl⟩
  have hfh2 : fh ≤ 68 := by rw [← hfh]; have := HHL.out.2; omega
  have HFH := Lib.hid (show FH.length = fh ∧ ckW e ts = FH ++ tabsW ts n by rw [← hFH, ← hfh]; exact ⟨frameL_len _, by unfold ckW; rw [HB.out.2]⟩)
  rw [hFH, hfh] at HO5
  rw [hfh]
  clear hFH hfh HHL HHY bxf
  go_wp2_with fail
  go_loopw [8, 10, 11, 13, 14, 15, 44] (fun v q1 q2 q3 q4 q5 j wr => ∃ i : Nat, i ≤ n ∧ j = .int .i64 (i : Int) ∧ Hid (wr.ownsRow w.heap.size 5 1 v (fh + (tabsW ts i).length) (iv .u8 (FH ++ tabsW ts i))) ∧ Hid (Below w.heap.size w wr)) (fun _ _ _ _ _ _ j _ => n - (intOf j).toNat)
  case atStart => exact ⟨0, Nat.zero_le _, rfl, Lib.hid (by simpa [tabsW] using HO5.out), HBF⟩
  case round =>
    obtain ⟨i, hi, rfl, HO, HBW⟩ := hrel
    clear HO5 y0 y1
    by_cases hlt : i < n
    · have dl : (i : Int) < (n : Int) := by omega
      obtain ⟨t, ht⟩ : ∃ t, ts[i]? = some t := ⟨_, List.getElem?_eq_getElem (by rw [HB.out.2]; exact hlt)⟩
      have HT := Lib.hid (And.intro (tabsW_next ht) (HOKA.out.all t (List.mem_of_getElem? ht)))
      have hcl : cntT ts i + t.xs.length ≤ s := by rw [← cntT_next ht]; exact HCL.out _
      have htl := HTL.out i (by omega)
      obtain ⟨bt, ot, rfl, ct, hst⟩ := (HR.out.below HBW.out) i t ht
      have HTT := Lib.hid ht
      obtain ⟨m, hm⟩ : ∃ m, t.xs.length = m := ⟨_, rfl⟩
      have HM := Lib.hid hm
      rw [hm] at ct HT hcl
      obtain ⟨TW, hTW⟩ : ∃ TW, tabsW ts i = TW := ⟨_, rfl⟩
      rw [hTW] at HO htl HT
      obtain ⟨tl, htl2⟩ : ∃ tl, TW.length = tl := ⟨_, rfl⟩
      have HTW := Lib.hid htl2
      rw [htl2] at HO htl
      have htlb : tl + 202 * m ≤ 202 * 4096 := by omega
      clear ht hst hm hTW htl2 htl hcl
      go_upto_region 12 with (fail)
      obtain ⟨WO, rfl⟩ : ∃ WO, WO = wr := ⟨_, rfl⟩
      go_loopw [8, 13, 14, 15, 51] (fun v q3 q4 q5 j wr => ∃ k : Nat, k ≤ m ∧ j = .int .i64 (k : Int) ∧ Hid (wr.ownsRow w.heap.size 5 1 v (fh + tl + (rowsW i t.xs k).length) (iv .u8 (FH ++ TW ++ rowsW i t.xs k))) ∧ Hid (Below w.heap.size w wr)) (fun _ _ _ _ j _ => m - (intOf j).toNat)
      case atStart => exact ⟨0, Nat.zero_le _, rfl, Lib.hid (by simpa [rowsW] using HO.out), HBW⟩
      case round =>
        obtain ⟨k, hk, rfl, HP, HBX⟩ := hrel
        clear ct
        by_cases hkm : k < m
        · have d2 : (k : Int) < (m : Int) := by omega
          obtain ⟨x, hx⟩ : ∃ x, t.xs[k]? = some x := ⟨_, List.getElem?_eq_getElem (by rw [HM.out]; exact hkm)⟩
          have hx2 := HT.out.2 x (List.mem_of_getElem? hx)
          obtain ⟨bt2, ot2, heq2, ct2, hst2⟩ := (HR.out.below HBX.out) i t HTT.out
          clear heq2 ct2
          obtain ⟨bb, off, hta, c0, c1, c2, c3, ok⟩ := hst2 k x hx
          have HRN := Lib.hid (rowsW_next (i := i) hx)
          have hrl := rowsW_len (i := i) (by omega) HT.out.2 k (by rw [HM.out]; exact hk)
          have HSL := Lib.hid (stW_len (i := i) (by omega) hx2)
          have HSY := Lib.hid (stW_byt (i := i) ok.kb ok.rb)
          obtain ⟨xe, hxe⟩ : ∃ q : Nat, x.e = (q : Int) := ⟨x.e.toNat, by have := hx2.e1; omega⟩
          obtain ⟨xs, hxs⟩ : ∃ q : Nat, x.s = (q : Int) := ⟨x.s.toNat, by have := hx2.s1; omega⟩
          have hxe2 : xe ≤ 16777215 := by have := hx2.e2; omega
          have hxs2 : xs ≤ 2147483647 := by have := hx2.s2; omega
          have HES := Lib.hid (show x.e.toNat = xe ∧ x.s.toNat = xs by rw [hxe, hxs]; exact ⟨Int.toNat_natCast _, Int.toNat_natCast _⟩)
          have HX2 := Lib.hid hx2
          have HOK := Lib.hid ok
          rw [hta]
          rw [hxe] at c2
          rw [hxs] at c3
          clear hx hx2 ok hta hxe hxs
          go_upto_region 14 with (fail)
          obtain ⟨W1, hW1⟩ : ∃ W1, wr.alloc (.cells #[.slice x.ka x.key.length x.kc, .slice x.ra x.R.length x.rc, .int .i64 (xe : Int), .int .i64 (xs : Int)] 59) = W1 := ⟨_, rfl⟩
          have hb1 : Below wr.heap.size wr W1 := by rw [← hW1]; exact bl1 _ _
          have bw : BoxC W1 wr.heap.size #[.slice x.ka x.key.length x.kc, .slice x.ra x.R.length x.rc, .int .i64 (xe : Int), .int .i64 (xs : Int)] 59 := by rw [← hW1]; exact BoxC.new wr _ 59
          try rw [hW1]
          clear hW1 c0 c1 c2 c3
          have HB1 := Lib.hid (step_below HBX.out hb1)
          have HP1 := Lib.hid (own_below HP.out hb1)
          have HOK1 := Lib.hid (HOK.out.below hb1)
          have FQ := Lib.hid (fun X (b : Below W1.heap.size W1 X) => (⟨(bw.below b).cell 0, (bw.below b).cell 1, (bw.below b).cell 2, (bw.below b).cell 3⟩ : X.cell? ⟨wr.heap.size, 0, none⟩ = some (.slice x.ka x.key.length x.kc) ∧ X.cell? ⟨wr.heap.size, 1, none⟩ = some (.slice x.ra x.R.length x.rc) ∧ X.cell? ⟨wr.heap.size, 2, none⟩ = some (.int .i64 (xe : Int)) ∧ X.cell? ⟨wr.heap.size, 3, none⟩ = some (.int .i64 (xs : Int))))
          clear hb1 bw HP HBX HOK
          rename_i KK hKK
          refine Code.wp_mono (Q := Exit.then KK (fun _ _ _ => False)) (fun e a' w' h => by cases e <;> first | exact h | exact h.elim) ?_
          refine wp_region_held_drew (S := (fun X => Below W1.heap.size W1 X)) (by kernel_rfl) ((Below.refl _ _).drew) (fun hHeld => ?_)
          refine tk 0 ?_ rfl (.inl ⟨by rfl, ?_⟩) ?_
          rotate_left
          · intro W hSw; go_simp; try with_reducible rfl
          try simp only [Act.put, List.setIfInBounds_toArray, List.set_cons_zero, List.set_cons_succ]
          refine tk 2 ?_ rfl (.inl ⟨by rfl, ?_⟩) ?_
          rotate_left
          · intro W hSw; go_simp; try with_reducible rfl
          try simp only [Act.put, List.setIfInBounds_toArray, List.set_cons_zero, List.set_cons_succ]
          refine tk 3 ?_ rfl (.inl ⟨by rfl, ?_⟩) ?_
          rotate_left
          · intro W hSw; obtain ⟨z0, z1, z2, z3⟩ := FQ.out W hSw; go_simp; try with_reducible rfl
          try simp only [Act.put, List.setIfInBounds_toArray, List.set_cons_zero, List.set_cons_succ]
          refine tk 5 ?_ rfl (.inl ⟨by rfl, ?_⟩) ?_
          rotate_left
          · intro W hSw; go_simp; try with_reducible rfl
          try simp only [Act.put, List.setIfInBounds_toArray, List.set_cons_zero, List.set_cons_succ]
          refine tk 6 ?_ rfl (.inl ⟨by rfl, ?_⟩) ?_
          rotate_left
          · intro W hSw; obtain ⟨z0, z1, z2, z3⟩ := FQ.out W hSw; go_simp; try with_reducible rfl
          try simp only [Act.put, List.setIfInBounds_toArray, List.set_cons_zero, List.set_cons_succ]
          refine tk 8 ?_ rfl (.inl ⟨by rfl, ?_⟩) ?_
          rotate_left
          · intro W hSw; go_simp; try with_reducible rfl
          try simp only [Act.put, List.setIfInBounds_toArray, List.set_cons_zero, List.set_cons_succ]
          refine tk 9 ?_ rfl (.inl ⟨by rfl, ?_⟩) ?_
          rotate_left
          · intro W hSw; obtain ⟨z0, z1, z2, z3⟩ := FQ.out W hSw; go_simp; try with_reducible rfl
          try simp only [Act.put, List.setIfInBounds_toArray, List.set_cons_zero, List.set_cons_succ]
          refine wpAnyH_ready (rs := [1]) (by kernel_rfl) (by simp) ?_
          refine AllReadyH.cons (o := { dst := some 57, op := Op.call { callee := Callee.value (Operand.func 79), args := #[Operand.tmp 56], argTypes := #[2] }, type := 22, pos := "forms.go:166", after := #[{ on := 0, ground := Ground.data }], guard := none }) rfl (fun K hK => ?_) AllReadyH.nil
          go_simp
          refine (putnumber_own i (by omega) _).mono ?_; rintro e9 w3 ⟨a3, c3, rfl, ho3, hl3, hb3⟩; have HA := Lib.hid hl3.ls
          go_wp2_with fail
          refine hK.out _ _ (step_below hHeld hb3) (fun hHeldn => ?_)
          clear hK K hHeld; have hHeld := hHeldn; clear hHeldn
          clear ho3 hl3 hb3
          try simp only [Act.put, List.setIfInBounds_toArray, List.set_cons_zero, List.set_cons_succ]
          refine wpAnyH_ready (rs := [4]) (by kernel_rfl) (by simp) ?_
          refine AllReadyH.cons (o := { dst := some 60, op := Op.call { callee := Callee.value (Operand.func 80), args := #[Operand.tmp 59], argTypes := #[22] }, type := 22, pos := "forms.go:166", after := #[{ on := 3, ground := Ground.data }, { on := 1, ground := Ground.chain }], guard := none }) rfl (fun K hK => ?_) AllReadyH.nil
          go_simp
          refine (bytes_own x.ka x.key x.key.length x.kc rfl (by have := HX2.out.k; omega) _ (HOK1.out.ls.below hHeld)).mono ?_; rintro e9 w4 ⟨a4, c4, rfl, ho4, hl4, hb4⟩; have HC := Lib.hid hl4.ls; have HB4 := Lib.hid hb4
          go_wp2_with fail
          refine hK.out _ _ (step_below hHeld hb4) (fun hHeldn => ?_)
          clear hK K hHeld; have hHeld := hHeldn; clear hHeldn
          clear ho4 hl4 hb4
          try simp only [Act.put, List.setIfInBounds_toArray, List.set_cons_zero, List.set_cons_succ]
          refine wpAnyH_ready (rs := [7]) (by kernel_rfl) (by simp) ?_
          refine AllReadyH.cons (o := { dst := some 63, op := Op.call { callee := Callee.value (Operand.func 81), args := #[Operand.tmp 62], argTypes := #[49] }, type := 22, pos := "forms.go:166", after := #[{ on := 6, ground := Ground.data }, { on := 4, ground := Ground.chain }], guard := none }) rfl (fun K hK => ?_) AllReadyH.nil
          go_simp
          refine (putrow81_own x.ra x.R x.R.length x.rc rfl HX2.out.r (by have := rowbytes_len HX2.out.r; omega) _ (HOK1.out.row.below hHeld)).mono ?_; rintro e9 w5 ⟨a5, c5, rfl, ho5, hl5, hb5⟩; have HD := Lib.hid hl5.ls; have HB5 := Lib.hid hb5
          go_wp2_with fail
          refine hK.out _ _ (step_below hHeld hb5) (fun hHeldn => ?_)
          clear hK K hHeld; have hHeld := hHeldn; clear hHeldn
          clear ho5 hl5 hb5
          try simp only [Act.put, List.setIfInBounds_toArray, List.set_cons_zero, List.set_cons_succ]
          refine wpAnyH_ready (rs := [10]) (by kernel_rfl) (by simp) ?_
          refine AllReadyH.cons (o := { dst := some 66, op := Op.call { callee := Callee.value (Operand.func 57), args := #[Operand.tmp 65], argTypes := #[36] }, type := 22, pos := "forms.go:166", after := #[{ on := 9, ground := Ground.data }, { on := 7, ground := Ground.chain }], guard := none }) rfl (fun K hK => ?_) AllReadyH.nil
          go_simp
          refine (puttid_own xe xs (by omega) (by omega) _).mono ?_; rintro e9 w6 ⟨a6, c6, rfl, ho6, hl6, hb6⟩; have HE := Lib.hid hl6.ls; have HB6 := Lib.hid hb6
          go_wp2_with fail
          refine hK.out _ _ (step_below hHeld hb6) (fun hHeldn => ?_)
          clear hK K hHeld; have hHeld := hHeldn; clear hHeldn
          clear ho6 hl6 hb6
          have hfl : flat [⟨a3, c3, numW i⟩, ⟨a4, c4, bytesW x.key⟩, ⟨a5, c5, bytesW (putL bsW x.R)⟩, ⟨a6, c6, tidW xe xs⟩] = stW i x := (by simp [flat, stW, HES.out.1, HES.out.2]); have hRR := rdR_new w6 [⟨a3, c3, numW i⟩, ⟨a4, c4, bytesW x.key⟩, ⟨a5, c5, bytesW (putL bsW x.R)⟩, ⟨a6, c6, tidW xe xs⟩] #[.slice a3 (numW i).length c3, .slice a4 (bytesW x.key).length c4, .slice a5 (bytesW (putL bsW x.R)).length c5, .slice a6 (tidW xe xs).length c6] 22 (0, 0) (by simp only [List.map_cons, List.map_nil, P1.v]) (by intro p hp; simp only [List.mem_cons, List.not_mem_nil, or_false] at hp; rcases hp with rfl | rfl | rfl | rfl; exact (((HA.out.below HB4.out).below HB5.out).below HB6.out); exact ((HC.out.below HB5.out).below HB6.out); exact (HD.out.below HB6.out); exact HE.out); have hj := join_own (some ⟨w6.heap.size, 0, none⟩) _ 4 4 rfl (by omega) (by rw [hfl]; have := HSL.out.2; omega) _ hRR; rw [hfl] at hj; have HJ := Lib.hid hj; clear hj hRR hfl
          try simp only [Act.put, List.setIfInBounds_toArray, List.set_cons_zero, List.set_cons_succ]
          refine wpAnyH_ready (rs := [11]) (by kernel_rfl) (by simp) ?_
          refine AllReadyH.cons (o := { dst := some 67, op := Op.buildSlice 27 4 #[(0, Operand.tmp 57), (1, Operand.tmp 60), (2, Operand.tmp 63), (3, Operand.tmp 66)], type := 27, pos := "forms.go:166", after := #[{ on := 1, ground := Ground.data }, { on := 4, ground := Ground.data }, { on := 7, ground := Ground.data }, { on := 10, ground := Ground.data }], guard := none }) rfl (fun K hK => ?_) AllReadyH.nil
          go_simp
          refine hK.out _ _ (hHeld.alloc hHeld.size _) (fun hHeldn => ?_)
          clear hK K hHeld; have hHeld := hHeldn; clear hHeldn
          try simp only [Act.put, List.setIfInBounds_toArray, List.set_cons_zero, List.set_cons_succ]
          refine wpAnyH_ready (rs := [12]) (by kernel_rfl) (by simp) ?_
          refine AllReadyH.cons (o := { dst := some 68, op := Op.call { callee := Callee.value (Operand.func 49), args := #[Operand.tmp 67], argTypes := #[27] }, type := 22, pos := "forms.go:166", after := #[{ on := 11, ground := Ground.data }, { on := 10, ground := Ground.chain }], guard := none }) rfl (fun K hK => ?_) AllReadyH.nil
          go_simp
          refine (HJ.out).mono ?_; rintro e9 w7 ⟨a7, c7, rfl, hl7, ho7, hb7⟩; have HFR := Lib.hid (frame_ok a7 (stW i x) (stW i x).length c7 rfl HSL.out.1 (Nat.le_trans HSL.out.2 (by omega)) HSY.out w7 hl7)
          go_wp2_with fail
          refine hK.out _ _ (step_below hHeld hb7) (fun hHeldn => ?_)
          clear hK K hHeld; have hHeld := hHeldn; clear hHeldn
          clear ho7 hl7 hb7
          try simp only [Act.put, List.setIfInBounds_toArray, List.set_cons_zero, List.set_cons_succ]
          refine wpAnyH_ready (rs := [13]) (by kernel_rfl) (by simp) ?_
          refine AllReadyH.cons (o := { dst := some 69, op := Op.call { callee := Callee.value (Operand.func 11), args := #[Operand.tmp 68], argTypes := #[22] }, type := 25, pos := "forms.go:166", after := #[{ on := 12, ground := Ground.data }, { on := 12, ground := Ground.chain }], guard := none }) rfl (fun K hK => ?_) AllReadyH.nil
          go_simp
          refine (HFR.out).mono ?_; rintro e9 w8 ⟨a8, c8, rfl, ho8, hl8, hb8⟩; have HO8 := Lib.hid hl8
          go_wp2_with fail
          refine hK.out _ _ (step_below hHeld hb8) (fun hHeldn => ?_)
          clear hK K hHeld; have hHeld := hHeldn; clear hHeldn
          clear ho8 hl8 hb8
          try simp only [Act.put, List.setIfInBounds_toArray, List.set_cons_zero, List.set_cons_succ]
          refine tk 14 ?_ rfl (.inl ⟨by rfl, ?_⟩) ?_
          rotate_left
          · intro W hSw; go_simp; try with_reducible rfl
          try simp only [Act.put, List.setIfInBounds_toArray, List.set_cons_zero, List.set_cons_succ]
          refine tk 15 ?_ rfl (.inl ⟨by rfl, ?_⟩) ?_
          rotate_left
          · intro W hSw; go_simp; try with_reducible rfl
          try simp only [Act.put, List.setIfInBounds_toArray, List.set_cons_zero, List.set_cons_succ]
          refine tk 16 ?_ rfl (.inl ⟨by rfl, ?_⟩) ?_
          rotate_left
          · intro W hSw; go_simp; try with_reducible rfl
          try simp only [Act.put, List.setIfInBounds_toArray, List.set_cons_zero, List.set_cons_succ]
          refine tk 17 ?_ rfl (.inl ⟨by rfl, ?_⟩) ?_
          rotate_left
          · intro W hSw; go_simp; try with_reducible rfl
          try simp only [Act.put, List.setIfInBounds_toArray, List.set_cons_zero, List.set_cons_succ]
          refine tk 18 ?_ rfl (.inl ⟨by rfl, ?_⟩) ?_
          rotate_left
          · intro W hSw; go_simp; try with_reducible rfl
          try simp only [Act.put, List.setIfInBounds_toArray, List.set_cons_zero, List.set_cons_succ]
          refine wpAnyH_done (by kernel_rfl) ?_ _
          skip
          refine hKK _ _ ?_
          have HB8 := Lib.hid (step_below HB1.out hHeld)
          have HP8 := Lib.hid (own_below HP1.out hHeld)
          clear hKK hHeld FQ HJ HFR HA HC HD HE HB4 HB5 HB6
          obtain ⟨X, hX⟩ : ∃ X, frameL (stW i x) = X := ⟨_, rfl⟩
          have hxl0 : X.length = 8 + (stW i x).length := by rw [← hX]; exact frameL_len _
          have hsl2 := HSL.out.2
          rw [hX] at HO8 HRN
          obtain ⟨xl, hxl⟩ : ∃ xl, 8 + (stW i x).length = xl := ⟨_, rfl⟩
          rw [hxl] at hxl0 ⊢
          have HXL := Lib.hid hxl0
          obtain ⟨RW, hRW⟩ : ∃ RW, rowsW i t.xs k = RW := ⟨_, rfl⟩
          rw [hRW] at hrl HP8 HRN
          obtain ⟨rl, hrl2⟩ : ∃ rl, RW.length = rl := ⟨_, rfl⟩
          have HRL := Lib.hid hrl2
          rw [hrl2] at hrl HP8
          have hsum : fh + tl + rl + xl ≤ 1048576 := by
            have : 202 * (k + 1) ≤ 202 * m := Nat.mul_le_mul_left _ hkm
            omega
          have hs8 := HB8.out.size
          clear hX hxl hxl0 hsl2 hRW hrl2 hrl
          go_wp2_with (at_builtin; refine append_ls eltB rfl (.tmp 72) (.tmp 73) rfl w.heap.size _ (fh + tl + rl) (iv .u8 (FH ++ TW ++ RW)) rfl HP8.out _ _ xl X HXL.out rfl HO8.out hsum hs8 ?_; intro v2 w9 hown2 hgrow2; rw [← iv_append, List.append_assoc (FH ++ TW), ← HRN.out] at hown2; have HP9 := Lib.hid hown2; have HB9 := Lib.hid (HB8.out.grown hgrow2 hs8 (fun j hj => (HP8.out.lt j hj).1)); clear hown2 hgrow2)
          go_roundw
          case rel => exact ⟨k + 1, by omega, by go_num, by rw [HRN.out, List.length_append, HRL.out, HXL.out, ← Nat.add_assoc, ← HRN.out]; exact HP9, HB9⟩
          case measure => simp [intOf]; omega
        · obtain rfl : k = m := by omega
          have d2 : ¬ (k : Int) < (k : Int) := by omega
          have HP2 := Lib.hid (show wr.ownsRow w.heap.size 5 1 _ (fh + (tabsW ts (i + 1)).length) (iv .u8 (FH ++ tabsW ts (i + 1))) by rw [HT.out.1, List.length_append, HTW.out, ← Nat.add_assoc, ← List.append_assoc]; exact HP.out)
          go_wp2_with fail
          go_roundw
          case rel => exact ⟨i + 1, by omega, by go_num, HP2, HBX⟩
          case measure => simp [intOf]; omega
    · obtain rfl : i = n := by omega
      have d2 : ¬ (i : Int) < (i : Int) := by omega
      have hl9 : fh + (tabsW ts i).length = (ckW e ts).length := by rw [HFH.out.2, List.length_append, HFH.out.1]
      have ho9 := HO.out
      rw [hl9, ← HFH.out.2] at ho9
      obtain ⟨a9, c9, hv9, hl99⟩ := own_lsb ho9 rfl
      subst hv9
      have HO9 := Lib.hid ho9
      have HL9 := Lib.hid hl99.ls
      obtain ⟨cl, hcl⟩ : ∃ cl, (ckW e ts).length = cl := ⟨_, rfl⟩
      have HCL9 := Lib.hid hcl
      rw [hcl] at HO9 ⊢
      clear hl9 ho9 hl99 hcl
      go_wp2_with fail
      go_ret2
      refine ⟨.inr (.inr ⟨HB.out.1, ?_, a9, c9, ?_, ?_, HL9.out⟩), HBW.out⟩
      · rw [HB.out.2, HS.out]; omega
      · rw [Int.toNat_natCast, HCL9.out]; rfl
      · rw [Int.toNat_natCast, HCL9.out]; exact HO9.out
end Go.Proofs.YtglkndoghnblcaaGreat
namespace Go.Proofs.YtglkndoghnblcaaGreat
open Go.ChangeShapes Go.WideShapes Go.ChangeAt Go.RowKit
set_option linter.unusedVariables false
set_option linter.unusedSimpArgs false
theorem txsL_all {L : List (List Int)} (h : ∀ p ∈ L, Byt p) : ∀ x ∈ txsL L, TxB x := by
  induction L with
  | nil => intro x hx; simp [txsL] at hx
  | cons p L ih =>
    intro x hx
    unfold txsL at hx
    cases ho : oneTx p with
    | none => rw [ho] at hx; simp at hx
    | some y =>
      rw [ho] at hx
      simp only [List.mem_cons] at hx
      rcases hx with rfl | hx
      · unfold oneTx at ho
        cases hr : readP (txnP p) with
        | none => rw [hr] at ho; cases ho
        | some z =>
          rw [hr] at ho
          simp only at ho
          split at ho
          · cases ho
            exact (txnP_all (h p (by simp)) (readP_some hr)).1
          · cases ho
      · exact ih (fun q hq => h q (by simp [hq])) x hx
end Go.Proofs.YtglkndoghnblcaaGreat
namespace Go.Proofs.YtglkndoghnblcaaGreat
open Go.ChangeShapes Go.WideShapes Go.ChangeAt Go.RowKit
set_option linter.unusedVariables false
set_option linter.unusedSimpArgs false
theorem putL_bsW (R : List P1) : putL bsW R = putL bytesW (R.map P1.bs) := by
  unfold putL bsW
  rw [List.map_map, List.length_map]
  rfl
theorem listP_inv {α : Type} {most : Nat} {one : List Int → Option (α × List Int)} {put : α → List Int} (h1 : ∀ L x s, (∀ y ∈ L, 0 ≤ y ∧ y ≤ 255) → one L = some (x, s) → L = put x ++ s) {L r : List Int} {xs : List α} (hb : Byt L) (h : listP most one L = some (xs, r)) : xs.length ≤ most ∧ L = putL put xs ++ r := by
  unfold listP at h
  cases hu : upP most L with
  | none => rw [hu] at h; cases h
  | some q =>
    obtain ⟨n, s⟩ := q
    rw [hu] at h
    obtain ⟨k1, k2⟩ := upP_inv hb hu
    obtain ⟨m1, m2⟩ := manyP_inv h1 n s r xs (upP_rest hb hu) h
    refine ⟨by omega, ?_⟩
    unfold putL
    rw [k2, m2, m1, List.append_assoc]
theorem rowP_inv {L : List Int} {fs : List (List Int)} (hb : Byt L) (h : rowP L = some fs) : L = putL bytesW fs ∧ 1 ≤ fs.length := by
  unfold rowP at h
  cases hl : listP 3 (bytesP 24) L with
  | none => rw [hl] at h; cases h
  | some q =>
    obtain ⟨gs, r⟩ := q
    rw [hl] at h
    simp only at h
    split at h
    · rename_i hc
      cases h
      obtain ⟨rfl, hm⟩ := hc
      have := (listP_inv (put := bytesW) (fun L x s hb h => (bytesP_inv hb h).2) hb hl).2
      unfold mayF at hm
      rw [Bool.and_eq_true] at hm
      exact ⟨by rw [List.append_nil] at this; exact this, (of_decide_eq_true hm.2).1⟩
    · cases h
theorem arowP_inv {L r : List Int} {fs : List (List Int)} (hb : Byt L) (h : arowP L = some (fs, r)) : L = bytesW (putL bytesW fs) ++ r ∧ 1 ≤ fs.length := by
  unfold arowP at h
  cases hl : bytesP 4096 L with
  | none => rw [hl] at h; cases h
  | some q =>
    obtain ⟨b, s⟩ := q
    rw [hl] at h
    simp only at h
    obtain ⟨k1, k2⟩ := bytesP_inv hb hl
    cases hr : rowP b with
    | none => rw [hr] at h; cases h
    | some gs =>
      rw [hr] at h
      cases h
      have hbb : Byt b := (bytesP_all hb hl).1
      obtain ⟨j1, j2⟩ := rowP_inv hbb hr
      exact ⟨by rw [k2, j1], j2⟩
theorem tidP_inv {L r : List Int} {t : Nat × Nat} (hb : Byt L) (h : tidP L = some (t, r)) : L = tidW t.1 t.2 ++ r := by
  unfold tidP at h
  cases hl : upP 16777215 L with
  | none => rw [hl] at h; cases h
  | some q =>
    obtain ⟨e, s⟩ := q
    rw [hl] at h
    simp only at h
    cases hr : upP 2147483647 s with
    | none => rw [hr] at h; cases h
    | some q2 =>
      obtain ⟨n, s2⟩ := q2
      rw [hr] at h
      cases h
      have k1 := (upP_inv hb hl).2
      have k2 := (upP_inv (upP_rest hb hl) hr).2
      unfold tidW
      rw [k1, k2, List.append_assoc]
/-- A write's bytes, by its contents. -/
def w3W (x : Wr3) : List Int := (numW x.1 ++ (bytesW x.2.1 ++ [if decide (0 < x.2.2.length) then 1 else 0])) ++ (if 0 < x.2.2.length then bytesW (putL bytesW x.2.2) else [])
theorem wtW_cont (p : WtP) : wtW p = w3W (cont p) := by
  unfold wtW w3W cont
  rw [putL_bsW]
  simp only [List.length_map]
theorem writeP_inv {L r : List Int} {x : Wr3} (hb : Byt L) (h : writeP L = some (x, r)) : L = w3W x ++ r := by
  unfold writeP at h
  cases h1 : upP 4 L with
  | none => rw [h1] at h; cases h
  | some q =>
    obtain ⟨t, r1⟩ := q
    rw [h1] at h
    simp only at h
    have k1 := (upP_inv hb h1).2
    have b1 := upP_rest hb h1
    cases h2 : bytesP 32 r1 with
    | none => rw [h2] at h; cases h
    | some q =>
      obtain ⟨k, r2⟩ := q
      rw [h2] at h
      simp only at h
      have k2 := (bytesP_inv b1 h2).2
      have b2 : Byt r2 := (bytesP_all b1 h2).2.2
      cases h3 : flagP r2 with
      | none => rw [h3] at h; cases h
      | some q =>
        obtain ⟨f, r3⟩ := q
        rw [h3] at h
        have k3 := flagP_inv b2 h3
        have b3 : Byt r3 := flagP_all b2 h3
        cases f with
        | false =>
          cases h
          rw [k1, k2, k3]
          unfold w3W
          simp
        | true =>
          simp only at h
          cases h4 : arowP r3 with
          | none => rw [h4] at h; cases h
          | some q =>
            obtain ⟨fs, r4⟩ := q
            rw [h4] at h
            cases h
            obtain ⟨k4, k5⟩ := arowP_inv b3 h4
            rw [k1, k2, k3, k4]
            unfold w3W
            have h0 : 0 < fs.length := k5
            simp [h0]
/-- A transaction's payload, by its contents. -/
def t3W (x : Tx3) : List Int := tidW x.1.1 x.1.2 ++ putL w3W x.2
theorem txW_cont (e s : Nat) (ps : List WtP) : txW e s ps = t3W ((e, s), ps.map cont) := by
  unfold txW t3W putL
  rw [List.map_map, List.length_map]
  congr 3
  exact List.map_congr_left fun p _ => wtW_cont p
theorem txnP_inv {L r : List Int} {x : Tx3} (hb : Byt L) (h : txnP L = some (x, r)) : L = t3W x ++ r := by
  unfold txnP at h
  cases h1 : tidP L with
  | none => rw [h1] at h; cases h
  | some q =>
    obtain ⟨t, r1⟩ := q
    rw [h1] at h
    simp only at h
    have k1 := tidP_inv hb h1
    have b1 : Byt r1 := fun y hy => hb y (by rw [k1]; simp [hy])
    cases h2 : listP 16 writeP r1 with
    | none => rw [h2] at h; cases h
    | some q =>
      obtain ⟨xs, r2⟩ := q
      rw [h2] at h
      cases h
      have k2 := (listP_inv (put := w3W) (fun L x s hb h => writeP_inv hb h) b1 h2).2
      unfold t3W
      rw [k1, k2, List.append_assoc]
theorem oneTx_inv {p : List Int} {x : Tx3} (hb : Byt p) (h : oneTx p = some x) : p = t3W x ∧ okTx x = true ∧ TxB x := by
  unfold oneTx at h
  cases h1 : readP (txnP p) with
  | none => rw [h1] at h; cases h
  | some y =>
    rw [h1] at h
    simp only at h
    split at h
    · cases h
      rename_i ho
      have := txnP_inv hb (readP_some h1)
      rw [List.append_nil] at this
      exact ⟨this, ho, (txnP_all hb (readP_some h1)).1⟩
    · cases h
theorem txsL_inv : ∀ FS : List (List Int), (∀ p ∈ FS, Byt p) → ∀ (k : Nat) (x : Tx3), (txsL FS)[k]? = some x → ∃ p, FS[k]? = some p ∧ p = t3W x ∧ okTx x = true ∧ TxB x
  | [], _, k, x, h => by simp [txsL] at h
  | p :: r, hb, k, x, h => by
    unfold txsL at h
    cases h1 : oneTx p with
    | none => rw [h1] at h; simp at h
    | some y =>
      rw [h1] at h
      simp only at h
      cases k with
      | zero =>
        simp only [List.getElem?_cons_zero, Option.some.injEq] at h
        subst h
        exact ⟨p, rfl, oneTx_inv (hb p (by simp)) h1⟩
      | succ k =>
        rw [List.getElem?_cons_succ] at h
        rw [List.getElem?_cons_succ]
        exact txsL_inv r (fun q hq => hb q (by simp [hq])) k x h
/-- The bytes are their frames, and a rest. -/
theorem frames_inv : ∀ (n : Nat) (L : List Int), L.length ≤ n → Byt L → L = ((framesL L).map frameL).flatten ++ L.drop (wholeL L)
  | n, L, hn, hb => by
    cases hi : isL L with
    | false =>
      unfold wholeL
      rw [framesL_no hi]
      simp
    | true =>
      match n with
      | 0 =>
        have := isL_iff.1 hi
        omega
      | n + 1 =>
        have h1 := isL_iff.1 hi
        have h2 := bodyL_len hi
        have ih := frames_inv n (L.drop (8 + lenL L)) (by rw [List.length_drop]; omega) (Byt.drop hb _)
        have hv := isL_inv hb hi
        have hw : wholeL L = (8 + lenL L) + wholeL (L.drop (8 + lenL L)) := by
          unfold wholeL
          rw [framesL_yes hi, List.map_cons, List.sum_cons, h2]
        rw [framesL_yes hi, List.map_cons, List.flatten_cons, List.append_assoc, hw]
        generalize 8 + lenL L = m at ih hv ⊢
        rw [← List.drop_drop, ← ih]
        exact hv
theorem frames_take {L : List Int} (hb : Byt L) (k : Nat) (hk : k ≤ (framesL L).length) : L.take (sumF (framesL L) k) = (((framesL L).take k).map frameL).flatten ∧ sumF (framesL L) k ≤ L.length := by
  have h := frames_inv L.length L (Nat.le_refl _) hb
  have hs : (((framesL L).take k).map frameL).flatten.length = sumF (framesL L) k := by
    unfold sumF
    rw [List.length_flatten, List.map_map]
    congr 1
    exact List.map_congr_left fun p _ => by simp [frameL_len]
  have hsp : (framesL L).map frameL = ((framesL L).take k).map frameL ++ ((framesL L).drop k).map frameL := by rw [← List.map_append, List.take_append_drop]
  rw [hsp, List.flatten_append, List.append_assoc] at h
  generalize (((framesL L).take k).map frameL).flatten = A at h hs
  generalize (((framesL L).drop k).map frameL).flatten ++ L.drop (wholeL L) = C at h
  rw [← hs]
  constructor
  · rw [h, List.take_left]
  · rw [h, List.length_append]; omega
theorem frames_whole {L : List Int} (hb : Byt L) (hw : wholeL L = L.length) : L = ((framesL L).map frameL).flatten := by
  have h := frames_inv L.length L (Nat.le_refl _) hb
  rw [hw, List.drop_length, List.append_nil] at h
  exact h
theorem only_inv {L P : List Int} (hb : Byt L) (h : onlyL L = P) (hp : P ≠ []) : L = frameL P := by
  unfold onlyL at h
  split at h
  · rename_i hc
    have := isL_inv hb hc.1
    rw [← hc.2, List.drop_length, List.append_nil, h] at this
    exact this
  · exact absurd h.symm hp
theorem durP_inv {L r : List Int} {x : Nat × Nat} (hb : Byt L) (h : durP L = some (x, r)) : L = tidW x.1 x.2 ++ r := by
  unfold durP at h
  cases hl : upP 2147483647 L with
  | none => rw [hl] at h; cases h
  | some q =>
    obtain ⟨e, s⟩ := q
    rw [hl] at h
    simp only at h
    cases hr : upP 16777215 s with
    | none => rw [hr] at h; cases h
    | some q2 =>
      obtain ⟨n, s2⟩ := q2
      rw [hr] at h
      cases h
      have k1 := (upP_inv hb hl).2
      have k2 := (upP_inv (upP_rest hb hl) hr).2
      unfold tidW
      rw [k1, k2, List.append_assoc]
/-- What is durable was written so. -/
theorem rdurP_inv {L : List Int} {x : Nat × Nat} (hb : Byt L) (h : rdurP L = some x) : durB (x.1 : Int) (x.2 : Int) = true ∧ L = frameL (tidW x.1 x.2) := by
  unfold rdurP at h
  cases h1 : readP (durP (onlyL L)) with
  | none => rw [h1] at h; cases h
  | some y =>
    rw [h1] at h
    simp only at h
    split at h
    · cases h
      rename_i ho
      have := durP_inv (onlyL_byt hb) (readP_some h1)
      rw [List.append_nil] at this
      refine ⟨ho, only_inv hb this ?_⟩
      intro e
      have h2 := congrArg List.length e
      unfold tidW at h2
      have h3 := numW_pos x.1
      rw [List.length_append, List.length_nil] at h2
      omega
    · cases h
theorem byts_str {L : List Int} (h : Byt L) : byts (strOfNums L) = L := by
  unfold byts strOfNums
  simp only [List.map_map]
  have : ∀ l : List Int, Byt l → l.map ((fun b : UInt8 => (b.toNat : Int)) ∘ fun n : Int => UInt8.ofNat n.toNat) = l := by
    intro l
    induction l with
    | nil => intro _; rfl
    | cons x r ih =>
      intro hb
      have hx := hb x (by simp)
      rw [List.map_cons, ih fun y hy => hb y (by simp [hy])]
      congr 1
      simp only [Function.comp]
      rw [UInt8.toNat_ofNat']
      omega
  exact this L h
theorem partP_inv {L r : List Int} {x : Pt2} (hb : Byt L) (h : partP L = some (x, r)) : Byt x.1 ∧ L = (bytesW x.1 ++ numW x.2) ++ r ∧ Byt r := by
  unfold partP at h
  cases h1 : bytesP 24 L with
  | none => rw [h1] at h; cases h
  | some q =>
    obtain ⟨b, r1⟩ := q
    rw [h1] at h
    simp only at h
    obtain ⟨k1, _, k3⟩ := bytesP_all hb h1
    cases h2 : upP 16777215 r1 with
    | none => rw [h2] at h; cases h
    | some q =>
      obtain ⟨t, r2⟩ := q
      rw [h2] at h
      cases h
      refine ⟨k1, ?_, upP_rest k3 h2⟩
      rw [(bytesP_inv hb h1).2, (upP_inv k3 h2).2, List.append_assoc]
theorem lpW_lpN {y : Pt2} (h : Byt y.1) : lpW (lpN y) = bytesW y.1 ++ numW y.2 := by
  unfold lpW lpN
  simp only [byts_str h, Int.toNat_natCast]
/-- A manifest's payload was written so. -/
theorem manP_inv {L r : List Int} {x : Mn} (hb : Byt L) (h : manP L = some (x, r)) : L = mnW x.g x.e x.f (strOfNums x.nm) (x.logs.map lpN) ++ r := by
  unfold manP at h
  obtain ⟨g, r1, h1, h⟩ := bindP_inv h
  have b1 := upP_rest hb h1
  obtain ⟨nm, r2, h2, h⟩ := bindP_inv h
  obtain ⟨c1, _, b2⟩ := bytesP_all b1 h2
  obtain ⟨e, r3, h3, h⟩ := bindP_inv h
  have b3 := upP_rest b2 h3
  obtain ⟨f, r4, h4, h⟩ := bindP_inv h
  have b4 := upP_rest b3 h4
  obtain ⟨xs, r5, h5, h⟩ := bindP_inv h
  cases h
  have k5 := (listP_inv (put := fun y : Pt2 => bytesW y.1 ++ numW y.2) (fun L x s hb h => (partP_inv hb h).2.1) b4 h5).2
  have hall : ∀ y ∈ xs, Byt y.1 := (listP_all (P := fun y : Pt2 => Byt y.1) (fun L x s hb h => ⟨(partP_inv hb h).1, (partP_inv hb h).2.2⟩) b4 h5).1
  have hl : putL lpW (xs.map lpN) = putL (fun y : Pt2 => bytesW y.1 ++ numW y.2) xs := by
    unfold putL
    rw [List.map_map, List.length_map]
    congr 2
    exact List.map_congr_left fun y hy => lpW_lpN (hall y hy)
  unfold mnW
  rw [hl, byts_str c1, (upP_inv hb h1).2, (bytesP_inv b1 h2).2, (upP_inv b2 h3).2, (upP_inv b3 h4).2, k5]
  simp only [List.append_assoc]
theorem rmanP_inv {L : List Int} {x : Mn} (hb : Byt L) (h : rmanP L = some x) : mnB x = true ∧ MnB x ∧ L = frameL (mnW x.g x.e x.f (strOfNums x.nm) (x.logs.map lpN)) := by
  unfold rmanP at h
  cases h1 : readP (manP (onlyL L)) with
  | none => rw [h1] at h; cases h
  | some y =>
    rw [h1] at h
    simp only at h
    split at h
    · cases h
      rename_i ho
      have hm := readP_some h1
      have := manP_inv (onlyL_byt hb) hm
      rw [List.append_nil] at this
      refine ⟨ho, manP_all (onlyL_byt hb) hm, only_inv hb this ?_⟩
      intro e
      have h2 := congrArg List.length e
      unfold mnW at h2
      have h3 := numW_pos x.g
      rw [List.length_append, List.length_nil] at h2
      omega
    · cases h
end Go.Proofs.YtglkndoghnblcaaGreat
namespace Go.Proofs.YtglkndoghnblcaaGreat
open Go.ChangeShapes Go.WideShapes Go.ChangeAt Go.RowKit
set_option linter.unusedVariables false
set_option linter.unusedSimpArgs false
/-- A row's payload, by its contents. -/
def plW (x : Pl) : List Int := numW x.t ++ (bytesW x.k ++ (bytesW (putL bytesW x.fs) ++ tidW x.e x.s))
theorem plP_inv {L r : List Int} {x : Pl} (hb : Byt L) (h : plP L = some (x, r)) : L = plW x ++ r := by
  unfold plP at h
  obtain ⟨t, r1, h1, h⟩ := bindP_inv h
  have b1 := upP_rest hb h1
  obtain ⟨k, r2, h2, h⟩ := bindP_inv h
  obtain ⟨c1, _, b2⟩ := bytesP_all b1 h2
  obtain ⟨fs, r3, h3, h⟩ := bindP_inv h
  obtain ⟨_, _, b3⟩ := arowP_all b2 h3
  obtain ⟨ts, r4, h4, h⟩ := bindP_inv h
  cases h
  unfold plW
  rw [(upP_inv hb h1).2, (bytesP_inv b1 h2).2, (arowP_inv b2 h3).1, tidP_inv b3 h4]
  simp only [List.append_assoc]
theorem headP_inv {L r : List Int} {x : Hd2} (hb : Byt L) (h : headP L = some (x, r)) : L = (numW x.1 ++ putL numW x.2) ++ r := by
  unfold headP at h
  obtain ⟨e, r1, h1, h⟩ := bindP_inv h
  have b1 := upP_rest hb h1
  obtain ⟨xs, r2, h2, h⟩ := bindP_inv h
  cases h
  rw [(upP_inv hb h1).2, (listP_inv (put := numW) (fun L x s hb h => (upP_inv hb h).2) b1 h2).2]
  simp only [List.append_assoc]
theorem ckRow_inv {q : List Int} (hb : Byt q) (h : (readP (plP q)).isSome = true) : plW (ckRow q) = q := by
  obtain ⟨y, hy⟩ := Option.isSome_iff_exists.1 h
  have := plP_inv hb (readP_some hy)
  unfold ckRow
  rw [hy]
  rw [List.append_nil] at this
  exact this.symm
theorem okw_le {each tn : List Nat} (h : ∀ j m, each[j]? = some m → ∀ k, k < m → tn[posT each j + k]? = some j) : ∀ i, i ≤ each.length → posT each i ≤ tn.length
  | 0, _ => by simp [posT]
  | i + 1, hi => by
    have ih := okw_le h i (by omega)
    obtain ⟨m, hm⟩ : ∃ m, each[i]? = some m := ⟨_, List.getElem?_eq_getElem (by omega)⟩
    rw [posT_next hm]
    by_cases h0 : m = 0
    · omega
    · have := h i m hm (m - 1) (by omega)
      have := (List.getElem?_eq_some_iff.1 this).1
      omega
theorem splitW_lens {α : Type} : ∀ (each : List Nat) (l : List α), each.sum ≤ l.length → (splitW each l).map List.length = each
  | [], _, _ => rfl
  | n :: ns, l, h => by
    rw [List.sum_cons] at h
    have := splitW_lens ns (l.drop n) (by rw [List.length_drop]; omega)
    simp only [splitW, List.map_cons, this]
    rw [List.length_take]
    congr 1
    omega
theorem rows_eq (i : Nat) : ∀ (xs : List StP) (ls : List Pl), xs.map stC = ls.map plC → (∀ l ∈ ls, l.t = i) → xs.map (fun x => frameL (stW i x)) = ls.map (fun l => frameL (plW l))
  | [], [], _, _ => rfl
  | [], l :: ls, h, _ => by simp at h
  | x :: xs, [], h, _ => by simp at h
  | x :: xs, l :: ls, h, hl => by
    rw [List.map_cons, List.map_cons, List.cons.injEq] at h
    have ih := rows_eq i xs ls h.2 (fun y hy => hl y (by simp [hy]))
    have ht := hl l (by simp)
    have h1 := h.1
    unfold stC plC at h1
    rw [Prod.mk.injEq, Prod.mk.injEq, Prod.mk.injEq] at h1
    obtain ⟨a1, a2, a3, a4⟩ := h1
    rw [List.map_cons, List.map_cons, ih]
    congr 2
    unfold stW plW
    rw [putL_bsW, a1, a2, a3, a4, ht]
    rfl
/-- A checkpoint that is read was written so. -/
theorem ck_inv {L : List Int} {e : Nat} {tabs : List (List C4)} {ts : List TbP} (hb : Byt L) (h : CkRd L e tabs) (hts : ts.map (fun t => t.xs.map stC) = tabs) :
    ckB (e : Int) ts = true ∧ cntT ts ts.length ≤ 4096 ∧ ts.length ≤ 4 ∧ L = ckW e ts := by
  obtain ⟨each, ps, h1, ok, htabs, hck⟩ := h
  have hcb : ckB (e : Int) ts = true := by rw [ckB_c, hts]; exact hck
  unfold rckP at h1
  cases hF : framesL L with
  | nil => rw [hF] at h1; cases h1
  | cons p qs =>
    rw [hF] at h1
    simp only at h1
    have hby := frames_byt _ L (Nat.le_refl _) hb
    rw [hF] at hby
    cases hx : readP (headP p) with
    | none => rw [hx] at h1; cases h1
    | some x =>
      rw [hx] at h1
      simp only at h1
      split at h1
      · rename_i hc
        obtain ⟨hall, hw⟩ := hc
        rw [Option.some.injEq, Prod.mk.injEq, Prod.mk.injEq] at h1
        obtain ⟨rfl, rfl, rfl⟩ := h1
        have hL := frames_whole hb hw
        rw [hF, List.map_cons, List.flatten_cons] at hL
        have hp := headP_inv (hby p (by simp)) (readP_some hx)
        rw [List.append_nil] at hp
        have hq : qs.map frameL = (qs.map ckRow).map (fun l => frameL (plW l)) := by
          rw [List.map_map]
          exact List.map_congr_left fun q hq => by
            simp only [Function.comp]
            rw [ckRow_inv (hby q (by simp [hq])) (List.all_eq_true.1 hall q hq)]
        obtain ⟨e1, e2, e3⟩ := ok
        obtain ⟨ps, hps⟩ : ∃ ps, qs.map ckRow = ps := ⟨_, rfl⟩
        rw [hps] at e1 e2 htabs hq
        obtain ⟨each, heach⟩ : ∃ each, x.2 = each := ⟨_, rfl⟩
        rw [heach] at e1 e2 e3 htabs hp
        have hle := okw_le e1
        rw [List.length_map] at hle e2
        have hsum : posT each each.length = ps.length := by have := hle each.length (Nat.le_refl _); omega
        have hlens : ts.map (fun t => t.xs.length) = each := by
          have h2 := splitW_lens each (ps.map plC) (by rw [List.length_map, ← hsum]; unfold posT; rw [List.take_length]; exact Nat.le_refl _)
          rw [← htabs, ← hts, List.map_map] at h2
          rw [← h2]
          exact List.map_congr_left fun t _ => by simp
        have htl : ts.length = each.length := by rw [← hlens, List.length_map]
        have hcnt : cntT ts ts.length = posT each each.length := by
          unfold cntT posT
          rw [List.take_length, List.take_length, hlens]
        have hhd : hdW x.1 ts = p := by
          rw [hp]
          unfold hdW
          congr 1
          have : cntsL ts ts.length = each.map (fun m : Nat => (m : Int)) := by
            unfold cntsL
            rw [List.take_length, ← hlens, List.map_map]
            rfl
          rw [this]
          unfold putL
          rw [List.map_map, List.length_map]
          congr 2
        have htab : ∀ i, i ≤ ts.length → tabsW ts i = ((ps.take (posT each i)).map (fun l => frameL (plW l))).flatten := by
          intro i
          induction i with
          | zero => intro _; simp [tabsW, posT]
          | succ i ih =>
            intro hi
            obtain ⟨t, ht⟩ : ∃ t, ts[i]? = some t := ⟨_, List.getElem?_eq_getElem (by omega)⟩
            obtain ⟨m, hm⟩ : ∃ m, each[i]? = some m := ⟨_, List.getElem?_eq_getElem (by omega)⟩
            have hg := splitW_get each (ps.map plC) i m hm
            rw [← htabs, ← hts, List.getElem?_map, ht] at hg
            simp only [Option.map_some, Option.some.injEq] at hg
            rw [← List.map_drop, ← List.map_take] at hg
            rw [tabsW_next ht, ih (by omega), posT_next hm, List.take_add, List.map_append, List.flatten_append]
            congr 1
            unfold rowsW
            rw [List.take_length, rows_eq i t.xs _ hg]
            intro l hl
            obtain ⟨k, hk⟩ := List.getElem?_of_mem hl
            have hk2 : k < m := by
              have := (List.getElem?_eq_some_iff.1 hk).1
              rw [List.length_take] at this
              omega
            rw [List.getElem?_take, if_pos hk2, List.getElem?_drop] at hk
            have := e1 i m hm k hk2
            rw [List.getElem?_map, hk] at this
            simpa using this
        refine ⟨hcb, by omega, (ck_ok hcb).n, ?_⟩
        unfold ckW
        rw [hhd, htab ts.length (Nat.le_refl _), htl, hsum, List.take_length, ← hq]
        exact hL
      · cases h1
end Go.Proofs.YtglkndoghnblcaaGreat
