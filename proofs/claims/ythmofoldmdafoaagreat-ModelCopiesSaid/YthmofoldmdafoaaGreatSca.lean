/- Part of the proof that ModelCopies holds for every input: a copy goes on apart; two models are the same just if tables and rows are. Part 1. -/
import Derived.OrdersHeld
import Derived.KernelRfl
import Derived.Below
import Derived.Deep.RegionHeld
import Derived.Lib.Hide
import Derived.Test.YthmofoldmdafoaaGreatRows
import Derived.WalkKit
import Derived.WalkMore
import Derived.ProofKit
import Derived.Outline
import Derived.WalkLawsBesides
import Derived.WalkSpells
import Derived.WalkSmall
import Derived.BigRegion
import Derived.Laws.Rows
import Derived.Laws.BytesArg
import Derived.Laws.Concat
import Derived.Laws.OwnMore
import Derived.Deep.QuietTactic
import Derived.BigQuiet
import Derived.Deep.RegionHeld3
import Derived.StillTailTactics
import Derived.Deep.Matrix
import Derived.OpenShut
import Derived.Lib.Bytes
import Derived.Lib.SliceRun
import Derived.Laws.BitsAllLaws
import Derived.IntWalk
import Derived.Deep.DeepCutAuto
import Derived.Deep.CutBlock
import Derived.Lib.SlBytesConst
import Derived.Deep.CutRange
import Derived.RangeFuncBox
import Derived.RangeFuncNested
import Derived.RangeFuncBound
import Derived.RangeFuncCalls
import Derived.RangeFuncLeaves
import Derived.Shelf.Abstract
import Derived.Shelf.RegionOpen
import Derived.OwnWalkIn
import Derived.TacticsInMore
import Derived.LoopNIn
import Derived.LoopIn
import Derived.BigRegionIn
import Derived.Maps.Own
import Derived.Maps.OwnOps
import Derived.Maps.OwnSet
import Derived.Maps.RangeWalk
import Derived.Deep.MidRow
import Derived.Deep.WholeRow
import Derived.Maps.AppendAt
import Derived.Lib.ConvBytes
import Derived.Laws.Tables
import Derived.Maps.OwnIn
import Derived.Sort.MapsRangeIn
import Derived.Deep.Upon
import Derived.Shelf.SortM.Plain
import Derived.Shelf.SortM.SortNone
import Derived.Ground.SlgmProg
import Derived.Sort.OwnSorted
import Derived.Lib.Bytealg
import Derived.Lib.Walk
import Derived.Shelf.SlSortCmp.WholeK
import Derived.Shelf.SlSortCmp.NoneTotal
import Derived.Ground.SlsfProg
import Derived.Sort.QuietIn
import Derived.OrdersIn
import Derived.Sort.CutIn
import Derived.Deep.Slices
import Derived.Deep.Fields
import Derived.ChangeSame
import Derived.SizedLaws
import Derived.Lib.SmallJoins
import Derived.ShutString
import Derived.ChangeOld
set_option linter.unusedVariables false
set_option linter.unusedSimpArgs false
set_option maxRecDepth 100000
set_option maxHeartbeats 4000000
namespace Go.Proofs.YthmofoldmdafoaaGreat
open Go Go.RowKit
/-- Take number 'i' first: it may come up, it yields 'v', the frame behind it is written out (its side conditions found by themselves). -/
theorem tkp {P : Program} {ops : Array Oper} {Q : Exit → Act → World → Prop} {md : Region.Mode} {S : World → Prop} (i : Nat) (v : Value) {oi : Oper} {fuel : Nat} {listed : Array Bool} {a a' : Act} {w : World}
 (hi : (ops.toList.drop i).head? = some oi) (hy : YieldsIf P ops S oi v a)
 (h : wpAnyH P md ops Q S fuel (listed.setIfInBounds i true) a' w)
 (ha : a' = a.put oi.dst v := by (simp only [Act.put, List.setIfInBounds_toArray, List.set_cons_zero, List.set_cons_succ]; rfl))
 (hb : (Region.noSelect ops && Region.free md ops listed i && (Region.ready md ops listed).contains i) = true := by kernel_rfl)
 (hQ : ∀ c a w, Q (.panic c) (a.put oi.dst v) w → Q (.panic c) a w := by intro _ _ _ h; exact h) (hS : S w := by assumption) : wpAnyH P md ops Q S (fuel + 1) listed a w := by
 simp only [Bool.and_eq_true] at hb
 exact wpAnyH_take (oi := oi) (by simpa [List.head?_drop] using hi) hb.1.1 hb.1.2 hb.2 hQ hy hS (ha ▸ h)
/-- .., where what it yields is reckoned. -/
theorem tkr {P : Program} {ops : Array Oper} {Q : Exit → Act → World → Prop} {md : Region.Mode} {S : World → Prop} (i : Nat) {v : Value} {oi : Oper} {fuel : Nat} {listed : Array Bool} {a a' : Act} {w : World}
 (hi : (ops.toList.drop i).head? = some oi) (hy : ∀ w, S w → (execOp a.eval oi).run P w = .ok (.value v) w)
 (h : wpAnyH P md ops Q S fuel (listed.setIfInBounds i true) a' w)
 (hw : Region.wanted oi (yielded ops a.tmps) = true := by rfl)
 (ha : a' = a.put oi.dst v := by (simp only [Act.put, List.setIfInBounds_toArray, List.set_cons_zero, List.set_cons_succ]; rfl))
 (hb : (Region.noSelect ops && Region.free md ops listed i && (Region.ready md ops listed).contains i) = true := by kernel_rfl)
 (hQ : ∀ c a w, Q (.panic c) (a.put oi.dst v) w → Q (.panic c) a w := by intro _ _ _ h; exact h) (hS : S w := by assumption) : wpAnyH P md ops Q S (fuel + 1) listed a w := tkp i v hi (.inl ⟨hw, hy⟩) h ha hb hQ hS
/-- .. by the walk alone. -/
theorem tkq {P : Program} {ops : Array Oper} {Q : Exit → Act → World → Prop} {md : Region.Mode} {S : World → Prop} (i : Nat) {v : Value} {oi : Oper} {fuel : Nat} {listed : Array Bool} {a a' : Act} {w : World}
 (h : wpAnyH P md ops Q S fuel (listed.setIfInBounds i true) a' w)
 (hi : (ops.toList.drop i).head? = some oi := by rfl)
 (hy : ∀ w, S w → (execOp a.eval oi).run P w = .ok (.value v) w := by (intro W hSw; go_simp; try with_reducible rfl)) (hw : Region.wanted oi (yielded ops a.tmps) = true := by rfl)
 (ha : a' = a.put oi.dst v := by (simp only [Act.put, List.setIfInBounds_toArray, List.set_cons_zero, List.set_cons_succ]; rfl))
 (hb : (Region.noSelect ops && Region.free md ops listed i && (Region.ready md ops listed).contains i) = true := by kernel_rfl)
 (hQ : ∀ c a w, Q (.panic c) (a.put oi.dst v) w → Q (.panic c) a w := by intro _ _ _ h; exact h) (hS : S w := by assumption) : wpAnyH P md ops Q S (fuel + 1) listed a w := tkp i v hi (.inl ⟨hw, hy⟩) h ha hb hQ hS
/-- Such a take, as a fact. -/
def TkF (P : Program) (md : Region.Mode) (ops : Array Oper) (Q : Exit → Act → World → Prop) (S : World → Prop) (i : Nat) (l : Array Bool) (a a' : Act) (w : World) : Prop := ∀ fuel, wpAnyH P md ops Q S fuel (l.setIfInBounds i true) a' w → wpAnyH P md ops Q S (fuel + 1) l a w
theorem tkk {P : Program} {ops : Array Oper} {Q : Exit → Act → World → Prop} {md : Region.Mode} {S : World → Prop} {i : Nat} {v : Value} {oi : Oper} {l : Array Bool} {a a' : Act} {w : World}
 (hi : (ops.toList.drop i).head? = some oi := by rfl)
 (hy : ∀ w, S w → (execOp a.eval oi).run P w = .ok (.value v) w := by (intro W hSw; go_simp; try with_reducible rfl)) (hw : Region.wanted oi (yielded ops a.tmps) = true := by rfl)
 (ha : a' = a.put oi.dst v := by (simp only [Act.put, List.setIfInBounds_toArray, List.set_cons_zero, List.set_cons_succ]; rfl))
 (hb : (Region.noSelect ops && Region.free md ops l i && (Region.ready md ops l).contains i) = true := by kernel_rfl)
 (hQ : ∀ c a w, Q (.panic c) (a.put oi.dst v) w → Q (.panic c) a w := by intro _ _ _ h; exact h) (hS : S w := by assumption) : TkF P md ops Q S i l a a' w := fun _ h => tkq i h hi hy hw ha hb hQ hS
theorem tkq2 {P : Program} {ops : Array Oper} {Q : Exit → Act → World → Prop} {md : Region.Mode} {S : World → Prop} (i j : Nat) {f : Nat} {l : Array Bool} {a b c : Act} {w : World}
 (h : wpAnyH P md ops Q S f ((l.setIfInBounds i true).setIfInBounds j true) c w) (t1 : TkF P md ops Q S i l a b w := by exact tkk) (t2 : TkF P md ops Q S j (l.setIfInBounds i true) b c w := by exact tkk) : wpAnyH P md ops Q S (f + 1 + 1) l a w := t1 _ (t2 _ h)
theorem tkq3 {P : Program} {ops : Array Oper} {Q : Exit → Act → World → Prop} {md : Region.Mode} {S : World → Prop} (i j k : Nat) {f : Nat} {l : Array Bool} {a b c d : Act} {w : World}
 (h : wpAnyH P md ops Q S f (((l.setIfInBounds i true).setIfInBounds j true).setIfInBounds k true) d w) (t1 : TkF P md ops Q S i l a b w := by exact tkk) (t2 : TkF P md ops Q S j (l.setIfInBounds i true) b c w := by exact tkk) (t3 : TkF P md ops Q S k ((l.setIfInBounds i true).setIfInBounds j true) c d w := by exact tkk) : wpAnyH P md ops Q S (f + 1 + 1 + 1) l a w := t1 _ (t2 _ (t3 _ h))
theorem tkq4 {P : Program} {ops : Array Oper} {Q : Exit → Act → World → Prop} {md : Region.Mode} {S : World → Prop} (i j k n : Nat) {f : Nat} {l : Array Bool} {a b c d e : Act} {w : World}
 (h : wpAnyH P md ops Q S f ((((l.setIfInBounds i true).setIfInBounds j true).setIfInBounds k true).setIfInBounds n true) e w) (t1 : TkF P md ops Q S i l a b w := by exact tkk) (t2 : TkF P md ops Q S j (l.setIfInBounds i true) b c w := by exact tkk) (t3 : TkF P md ops Q S k ((l.setIfInBounds i true).setIfInBounds j true) c d w := by exact tkk) (t4 : TkF P md ops Q S n (((l.setIfInBounds i true).setIfInBounds j true).setIfInBounds k true) d e w := by exact tkk) : wpAnyH P md ops Q S (f + 1 + 1 + 1 + 1) l a w := t1 _ (t2 _ (t3 _ (t4 _ h)))
/-- Number 'i' is not wanted: what it gives is undefined. -/
theorem tkn {P : Program} {ops : Array Oper} {Q : Exit → Act → World → Prop} {md : Region.Mode} {S : World → Prop} (i : Nat) {oi : Oper} {fuel : Nat} {listed : Array Bool} {a a' : Act} {w : World}
 (h : wpAnyH P md ops Q S fuel (listed.setIfInBounds i true) a' w) (hi : (ops.toList.drop i).head? = some oi := by rfl)
 (hy : YieldsIf P ops S oi undef a := by exact .inr ⟨by rfl, rfl⟩)
 (ha : a' = a.put oi.dst undef := by (simp only [Act.put, List.setIfInBounds_toArray, List.set_cons_zero, List.set_cons_succ]; rfl))
 (hb : (Region.noSelect ops && Region.free md ops listed i && (Region.ready md ops listed).contains i) = true := by kernel_rfl)
 (hQ : ∀ c a w, Q (.panic c) (a.put oi.dst undef) w → Q (.panic c) a w := by intro _ _ _ h; exact h) (hS : S w := by assumption) : wpAnyH P md ops Q S (fuel + 1) listed a w := tkp i undef hi hy h ha hb hQ hS
/-- One that is ready. -/
theorem tka {P : Program} {ops : Array Oper} {Q : Exit → Act → World → Prop} {md : Region.Mode} {S : World → Prop} {fuel : Nat} {listed : Array Bool} {a : Act} {w : World} {i : Nat} {o : Oper} {rs : List Nat}
 (h : ∀ (K' : Act → World → Prop), Shut (∀ (a : Act) (w : World), S w → (S w → wpAnyH P md ops Q S fuel (listed.setIfInBounds i true) a w) → K' a w) → if Region.wanted o (yielded ops a.tmps) = true then Oper.wp P o a w K' Q else K' (a.put o.dst undef) w)
 (t : AllReadyH P md ops Q S fuel listed a w rs) (ho : (ops.toList.drop i).head? = some o := by rfl) : AllReadyH P md ops Q S fuel listed a w (i :: rs) := AllReadyH.cons (by simpa [List.head?_drop] using ho) h t
/-- Just one is ready. -/
theorem tk1 {P : Program} {ops : Array Oper} {Q : Exit → Act → World → Prop} {md : Region.Mode} {S : World → Prop} {fuel : Nat} {listed : Array Bool} {a : Act} {w : World} (i : Nat) {o : Oper}
 (ho : (ops.toList.drop i).head? = some o)
 (h : ∀ (K' : Act → World → Prop), Shut (∀ (a : Act) (w : World), S w → (S w → wpAnyH P md ops Q S fuel (listed.setIfInBounds i true) a w) → K' a w) → if Region.wanted o (yielded ops a.tmps) = true then Oper.wp P o a w K' Q else K' (a.put o.dst undef) w)
 (hr : Region.ready md ops listed = [i] := by kernel_rfl) : wpAnyH P md ops Q S (fuel + 1) listed a w := wpAnyH_ready hr (by simp) (tka h AllReadyH.nil ho)
theorem tks {p : Prop} (h : p := by (go_simp; try with_reducible rfl)) : p := h
theorem stA {α : Type} {l : List α} {i : Nat} {a : α} : l.toArray.setIfInBounds i a = (l.set i a).toArray := List.setIfInBounds_toArray ..
theorem stB {α : Type} {l : List α} {a b : α} : (a :: l).set 0 b = b :: l := List.set_cons_zero ..
theorem stC {α : Type} {l : List α} {n : Nat} {a b : α} : (a :: l).set (n + 1) b = a :: l.set n b := List.set_cons_succ ..
theorem gtA {α : Type} {l : List α} {i : Nat} : l.toArray[i]? = l[i]? := List.getElem?_toArray ..
theorem gtB {α : Type} {a : α} {l : List α} : (a :: l)[0]? = some a := List.getElem?_cons_zero ..
theorem gtC {α : Type} {a : α} {l : List α} {i : Nat} : (a :: l)[i + 1]? = l[i]? := List.getElem?_cons_succ ..
theorem rgw {P : Program} {ops : Array Oper} {Q : Exit → Act → World → Prop} {id : Nat} {a : Act} {w : World} (v : World) (hS : Below v.heap.size v w.drew)
 (h : Below v.heap.size v w.drew → wpAnyH P .any ops Q (fun X => Below v.heap.size v X) ops.size (Array.replicate ops.size false) a w.drew) (hm : P.follows .mixedOrders = true := by kernel_rfl) : (Code.region id ops true).wp P Q a w := wp_region_held_drew (S := fun X => Below v.heap.size v X) hm hS h
theorem adn {P : Program} {ops : Array Oper} {Q : Exit → Act → World → Prop} {md : Region.Mode} {S : World → Prop} {fuel : Nat} {listed : Array Bool} {a : Act} {w : World} (h : Q .normal a w) (hr : Region.ready md ops listed = [] := by kernel_rfl) : wpAnyH P md ops Q S fuel listed a w := wpAnyH_done hr h _
theorem wmo {P : Program} {c : Code} {a : Act} {w : World} {K : Act → World → Prop} {Q : Exit → Act → World → Prop} (h : c.wp P (Exit.then K (fun _ _ _ => False)) a w) : c.wp P (Exit.then K Q) a w := Code.wp_mono (Q := Exit.then K (fun _ _ _ => False)) (fun e a' w' h => by cases e <;> first | exact h | exact h.elim) h
theorem stP {p q : Prop} (h : q) (e : p = q := by (first | (simp only [Act.put, stA, stB, stC]; rfl) | rfl)) : p := e.mpr h
theorem gtx {α : Sort _} (a : α) : ∃ b, a = b := ⟨a, rfl⟩
theorem gty {α : Sort _} (a : α) : ∃ b, b = a := ⟨a, rfl⟩
theorem tcb {w W : World} {p : Addr} {v : Value} (b : Below w.heap.size w W) (h : w.cell? p = some v) : W.cell? p = some v := (b.cell (World.block_lt_of_cell? w _ h)).trans h
end Go.Proofs.YthmofoldmdafoaaGreat
namespace Go.Proofs.YthmofoldmdafoaaGreat
open Go.ChangeShapes Go.WideShapes Go.ChangeAt Go.RowKit
open Go.Lib (hid)
open Go.Proofs.Tryz
theorem Xf0 {p : Prop} (h : p := by (intro W hSw; obtain ⟨⟨s0, s1, s2, s3, s4, s5, s6⟩, ⟨s7, s8, s9⟩, t0, t1, t2, t3, t4, t5, t6⟩ := HQ.out W hSw; exact tks)) : p := h
theorem Xf1 {p : Prop} (h : p := by (intro W hSw; have m := (HX.out W hSw).1; exact tks)) : p := h
theorem Xf2 {p : Prop} (h : p := by (intro W hSw; have m := (HX.out W hSw).2.2.1; exact tks)) : p := h
theorem Xf3 {p : Prop} (h : p := by (intro W hSw; have m := (HX.out W hSw).2.1; exact tks)) : p := h
theorem Xf4 {p : Prop} (h : p := by (intro W hSw; have mb := HXW.out W hSw; have m1 := mb.cell 1; simp only [gtA, gtB, gtC] at m1; exact tks)) : p := h
theorem Xf5 {p : Prop} (h : p := by (intro W hSw; have hcv := zA_ W fa F.length fc F rfl (HFX.out W (HOF.out.then hSw)).1.rd; exact tks)) : p := h
theorem Xf6 {p : Prop} (h : p := by (intro W hSw; have m := (HX.out W hSw).2.2.2; exact tks)) : p := h
theorem Xf7 {p : Prop} (h : p := by (intro W hSw; have m := (zf_ HX.out.1 hSw).cell; exact tks)) : p := h
theorem Xf8 {p : Prop} (h : p := by (intro W hSw; obtain ⟨_, _, _, m1, _, _⟩ := HXL.out W (HOF.out.then hSw); exact tks)) : p := h
theorem Xf9 {p : Prop} (h : p := by (intro W hSw; have m := (zf_ HX.out.2.1 hSw).cell; exact tks)) : p := h
theorem Xf10 {p : Prop} (h : p := by (intro W hSw; obtain ⟨m6, m7, k6, k7⟩ := HX.out W (za_ HBW.out hSw); exact tks)) : p := h
theorem Xf11 {p : Prop} (h : p := by (intro W hSw; have hcv := HCA.out W hSw; exact tks)) : p := h
theorem Xf12 {p : Prop} (h : p := by (intro W hSw; obtain ⟨z0, z1, z2, z3, z4, z5⟩ := FQ.out W hSw; exact tks)) : p := h
theorem Xf13 {p : Prop} (h : p := by (intro W hSw; obtain ⟨_, _, _, _, _, m1⟩ := HXL.out W (HOF.out.then hSw); rw [HEN.out] at m1; exact tks)) : p := h
theorem Xf14 {p : Prop} (h : p := by (intro W hSw; have m := HPA.out W hSw; exact tks)) : p := h
theorem Xf15 {p : Prop} (h : p := by (intro W hSw; obtain ⟨z0, z1, z2, z3⟩ := FQ.out W hSw; exact tks)) : p := h
theorem Xf16 {p : Prop} (h : p := by (intro W hSw; have m := (zf_ HX.out.2.2 hSw).cell; exact tks)) : p := h
theorem Xf17 {p : Prop} (h : p := by (intro W hSw; obtain ⟨c0, c1⟩ := HX5.out W hSw; exact tks)) : p := h
theorem Xf18 {p : Prop} (h : p := by (intro W hSw; obtain ⟨e0, e1⟩ := HY5.out W hSw; exact tks)) : p := h
theorem Xf19 {p : Prop} (h : p := by (intro W hSw; obtain ⟨m0, m1⟩ := HM5.out W hSw; exact tks)) : p := h
theorem Xf20 {p : Prop} (h : p := by (intro W hSw; obtain ⟨m0, m1⟩ := HM9.out W hSw; exact tks)) : p := h
theorem Xf21 {p : Prop} (h : p := by (intro W hSw; obtain ⟨m0, m1⟩ := HYC.out W hSw; exact tks)) : p := h
theorem Xf22 {p : Prop} (h : p := by (intro W hSw; obtain ⟨_, _, _, _, _, _, _, x0, x1, x2⟩ := HX.out W hSw; exact tks)) : p := h
theorem Xf23 {p : Prop} (h : p := by (intro W hSw; obtain ⟨m0, m1, m2, m3, m4, m5, m6, _⟩ := HX.out W hSw; exact tks)) : p := h
theorem Xf24 {p : Prop} (h : p := by (intro W hSw; have hcv := zA_ W yka ykn ykc YK HKY.out.1 (HKY.out.2.below hSw).rd; exact tks)) : p := h
theorem Xf25 {p : Prop} (h : p := by (intro W hSw; obtain ⟨m6, m7, k6, k7⟩ := HX.out W hSw; exact tks)) : p := h
theorem Xf26 {p : Prop} (h : p := by (intro W hSw; obtain ⟨_, m0, m1, m2, m3, m4, m5, m6, _⟩ := HX.out W hSw; exact tks)) : p := h
theorem Xf27 {p : Prop} (h : p := by (intro W hSw; obtain ⟨g0, g1, g2, g3, g4, g5, g6, o0, o1, o2, o3, o4, o5, o6⟩ := FG.out W (za_ HB4.out hSw); exact tks)) : p := h
theorem Xf28 {p : Prop} (h : p := by (intro W hSw; have mb := HXW.out W (za_ HWZ.out hSw); have m1 := mb.cell 1; simp only [gtA, gtB, gtC] at m1; exact tks)) : p := h
theorem Xf29 {p : Prop} (h : p := by (intro W hSw; obtain ⟨m0, m1⟩ := HYC.out W (za_ HWZ.out hSw); exact tks)) : p := h
theorem Xf30 {p : Prop} (h : p := by (intro W hSw; have m := (HM.out W hSw).1; exact tks)) : p := h
theorem Xf31 {p : Prop} (h : p := by (intro W hSw; have mb := HXW.out W hSw; have m3 := mb.cell 3; simp only [gtA, gtB, gtC] at m3; exact tks)) : p := h
theorem Xf32 {p : Prop} (h : p := by (intro W hSw; obtain ⟨_, _, _, _, _, _, _, _, o0, o1, o2, o3, o4, o5, o6⟩ := HX.out W hSw; exact tks)) : p := h
theorem Xf33 {p : Prop} (h : p := by (intro W hSw; have hcv := zA_ W ta U.length tc U rfl (HFX.out W (HOF.out.then hSw)).2.rd; exact tks)) : p := h
theorem Xf34 {p : Prop} (h : p := by (intro W hSw; obtain ⟨_, _, o1, _⟩ := HX.out W (za_ HB3c.out hSw); rw [HO.out.te] at o1; exact tks)) : p := h
theorem Xf35 {p : Prop} (h : p := by (intro W hSw; obtain ⟨⟨_, _, _, _, _, _, _, m7⟩, _⟩ := HX.out W (za_ HB3c.out hSw); exact tks)) : p := h
theorem Xf36 {p : Prop} (h : p := by (intro W hSw; have hcv := zA_ W xka xkn xkc XK HKX.out.1 (HKX.out.2.below hSw).rd; exact tks)) : p := h
theorem Xf37 {p : Prop} (h : p := by (intro W hSw; obtain ⟨⟨m0, m1, m2, m3, m4, m5, m6, m7⟩, _⟩ := HX.out W hSw; exact tks)) : p := h
theorem Xf38 {p : Prop} (h : p := by (intro W hSw; obtain ⟨_, _, _, _, m1, _⟩ := HXL.out W (HOF.out.then hSw); exact tks)) : p := h
theorem Xf39 {p : Prop} (h : p := by (intro W hSw; obtain ⟨_, o0, o1, o2, o3, o4, o5, o6⟩ := HX.out W hSw; exact tks)) : p := h
theorem Xf40 {p : Prop} (h : p := by (intro W hSw; obtain ⟨s1, s2⟩ := hSw; exact tks)) : p := h
theorem Xf41 {p : Prop} (h : p := by (intro W hSw; have hsl := HLO.out W; exact tks)) : p := h
theorem Xf42 {p : Prop} (h : p := by (intro W hSw; have q0 := (HT.out W (za_ HBW.out hSw)).1; exact tks)) : p := h
theorem Xf43 {p : Prop} (h : p := by (intro W hSw; have q1 := (HT.out W (za_ HBW.out hSw)).2; exact tks)) : p := h
theorem Xf44 {p : Prop} (h : p := by (intro W hSw; have m := HXT.out W (za_ HB3c.out hSw); exact tks)) : p := h
theorem Xf45 {p : Prop} (h : p := by (intro W hSw; obtain ⟨m0, m1⟩ := HC2.out W hSw; exact tks)) : p := h
theorem Xt0 {p : Prop} (h : p := by (omega)) : p := h
theorem Xt1 {p : Prop} (h : p := by (rw [HP.out]; first | (simp [*]; done) | (simp [*]; intros; omega) | (simp; intros; omega))) : p := h
theorem Xt2 {p : Prop} (h : p := by (intro W _; exact tks)) : p := h
theorem Xt3 {p : Prop} (h : p := by (kernel_rfl)) : p := h
theorem Xt4 {p : Prop} (h : p := by (decide)) : p := h
theorem Xt5 {p : Prop} (h : p := by (simp)) : p := h
theorem Xt6 {p : Prop} (h : p := by (simp [results, results78, go_sem, q0, q1])) : p := h
theorem Xt7 {p : Prop} (h : p := by (simp; omega)) : p := h
theorem Xt8 {p : Prop} (h : p := by (rw [HN.out]; exact hlt)) : p := h
theorem Xt9 {p : Prop} (h : p := by (rw [HP.out]; rfl)) : p := h
theorem Xt10 {p : Prop} (h : p := by (intro key kl hk; simp only [keyOf, underlying9] at hk; cases key <;> simp [mapKey, underlying9] at hk; exact ⟨_, rfl⟩)) : p := h
theorem Xt11 {p : Prop} (h : p := by (rw [HK1.out]; decide)) : p := h
theorem Xt12 {p : Prop} (h : p := by (intro u hu; simp at hu; rcases hu with rfl | rfl <;> rfl)) : p := h
theorem Xt13 {p : Prop} (h : p := by (rw [List.map_append, List.map_append, HGM.out]; show _ ++ [prC gg] = _; rw [HGG.out.1]; rfl)) : p := h
theorem Xt14 {p : Prop} (h : p := by (intro j u hj; match j, hj with | 0, hj => (simp at hj; subst hj; simp [Addr.add, go_sem]))) : p := h
theorem Xt15 {p : Prop} (h : p := by (unfold maxLen; omega)) : p := h
theorem Xt16 {p : Prop} (h : p := by (intro N hN x hx; have := hN x hx; omega)) : p := h
theorem Xt17 {p : Prop} (h : p := by (intro e; rw [e]; exact (hbx w2 (Below.refl _ _)).2.lt)) : p := h
theorem Xt18 {p : Prop} (h : p := by (rw [HN.out]; omega)) : p := h
theorem Xt19 {p : Prop} (h : p := by (intro q hq; simp only [List.mem_cons, List.not_mem_nil, or_false] at hq; rcases hq with rfl; exact ⟨HF.out.2.2.2.2.2.1.below hXX, HF.out.2.2.2.2.2.2.1.below hXX⟩)) : p := h
theorem Xt20 {p : Prop} (h : p := by (intro z hz; have := HV.out.2.2.2.2.2.2 z hz; omega)) : p := h
theorem Xt21 {p : Prop} (h : p := by (rw [← HDG.out, qb_ HA1.out (by rw [HGL.out.2]; exact HMM.out) HSK.out])) : p := h
theorem Xt22 {p : Prop} (h : p := by (rw [← HDG.out, qa_ HA1.out (by rw [HGL.out.2]; exact HMM.out) HSK.out])) : p := h
theorem Xt23 {p : Prop} (h : p := by (intro j hj; cases hj)) : p := h
theorem Xt24 {p : Prop} (h : p := by (intro s X Y row hs hg hr; obtain ⟨v, h1, h2⟩ := hs; exact ⟨v, boxed_own _ 134 (fun (_ : Unit) => v) () X Y row h1 hg hr, yI_ h2 hg hr⟩)) : p := h
theorem Xt25 {p : Prop} (h : p := by (intro p' q' hp' hq'; have h1 := HPP.out; have h2 := HQQ.out; rw [hp'] at h1; rw [hq'] at h2; cases h1; cases h2; exact HLE.out)) : p := h
theorem Xt26 {p : Prop} (h : p := by (intro o ho; have := (HV.out.2.2.2.2.2.1 o ho).2.2.1; omega)) : p := h
theorem Xt27 {p : Prop} (h : p := by (intro x hx; have := hl x hx; omega)) : p := h
theorem Xt28 {p : Prop} (h : p := by (intro z hz; have := HP.out.2 z hz; omega)) : p := h
theorem Xt29 {p : Prop} (h : p := by (rw [HP.out]; simp)) : p := h
theorem Xt30 {p : Prop} (h : p := by (intro p hp; simp at hp; rcases hp with rfl | rfl <;> exact jk_ rfl)) : p := h
theorem Xt31 {p : Prop} (h : p := by (intro z hz; have := HV.out.2.2.2.2.1 z hz; omega)) : p := h
theorem Xt32 {p : Prop} (h : p := by (intro u hu; simp at hu; subst hu; rfl)) : p := h
theorem Xt33 {p : Prop} (h : p := by (intro z hz; have := h.lm z hz; omega)) : p := h
theorem Xt34 {p : Prop} (h : p := by (intro u hu; simp at hu; rcases hu with rfl | rfl | rfl <;> rfl)) : p := h
theorem Xt35 {p : Prop} (h : p := by (intro hk; have := HH.out.1.bd _ (HH.out.1.mut _ hk).1; omega)) : p := h
theorem Xt36 {p : Prop} (h : p := by (first | exact rfl | trivial)) : p := h
theorem Xt37 {p : Prop} (h : p := by (intro k hk; cases hk; omega)) : p := h
theorem Xt38 {p : Prop} (h : p := by (intro o ho; simp at ho; rcases ho with rfl | rfl | rfl <;> exact Nat.le_of_ble_eq_true rfl)) : p := h
theorem Xt39 {p : Prop} (h : p := by (intro _ h; cases h)) : p := h
theorem Xt40 {p : Prop} (h : p := by (intro b hb; have := HB3.out.size; omega)) : p := h
theorem Xt41 {p : Prop} (h : p := by (intro z hz; have := HFL.out z hz; omega)) : p := h
theorem Xt42 {p : Prop} (h : p := by (intro y hy; cases hy)) : p := h
theorem Xt43 {p : Prop} (h : p := by (intro q; injection q with _ q _; omega)) : p := h
theorem Xt44 {p : Prop} (h : p := by (intro e; have := HB3.out.size; have := (HB.out.2 w2 (Below.refl _ _)).1.lt; omega)) : p := h
theorem Xt45 {p : Prop} (h : p := by (have := hm48.out; omega)) : p := h
theorem Xt46 {p : Prop} (h : p := by (intro u hu; simp at hu; subst hu; rfl)) : p := h
theorem Xt47 {p : Prop} (h : p := by (intro W; kernel_rfl)) : p := h
theorem Xt48 {p : Prop} (h : p := by (have := HPL.out; unfold maxLen; omega)) : p := h
theorem Xt49 {p : Prop} (h : p := by (have := HY.out.1; omega)) : p := h
theorem Xt50 {p : Prop} (h : p := by (rw [hel]; exact underlying69)) : p := h
theorem Xt51 {p : Prop} (h : p := by (rw [HSP.out]; exact jo_ _ _ (by rw [List.length_drop]; have := HL.out; omega))) : p := h
theorem Xt52 {p : Prop} (h : p := by (intro e; have := HH.out.2.1 _ HH.out.1.hb; omega)) : p := h
theorem Xt53 {p : Prop} (h : p := by (intro W' h; obtain ⟨_, _, _, _, _, l, r⟩ := h k y hy; exact ⟨l, r⟩)) : p := h
theorem Xt54 {p : Prop} (h : p := by (rw [xi_]; simp; omega)) : p := h
theorem Xt55 {p : Prop} (h : p := by (rw [HJ.out.len]; exact hlt)) : p := h
theorem Xt56 {p : Prop} (h : p := by (intro j hj; simp [Value.ownBlock] at hj; omega)) : p := h
theorem Xt57 {p : Prop} (h : p := by (intro g hg; cases hg)) : p := h
theorem Xt58 {p : Prop} (h : p := by (have := HV.out.2.2.2.2.1; omega)) : p := h
theorem Xt59 {p : Prop} (h : p := by (intro r e; cases e; exact ⟨_, hK, rfl⟩)) : p := h
theorem Xt60 {p : Prop} (h : p := by (intro z hz; have := HH.out.2.2 z hz; omega)) : p := h
theorem Xt61 {p : Prop} (h : p := by (intro x hx; have := HH.out.2.2 x hx; omega)) : p := h
theorem Xt62 {p : Prop} (h : p := by (rw [List.length_append, List.length_cons]; have := HAB.out; omega)) : p := h
theorem Xt63 {p : Prop} (h : p := by (have := (List.getElem?_eq_some_iff.1 hq).1; have := HL.out; omega)) : p := h
theorem Xt64 {p : Prop} (h : p := by (rw [List.length_drop, HN.out])) : p := h
theorem Xt65 {p : Prop} (h : p := by (rw [HM.out]; exact hlt)) : p := h
theorem Xt66 {p : Prop} (h : p := by (have := HPL.out; omega)) : p := h
theorem Xt67 {p : Prop} (h : p := by (rw [hel]; exact underlying41)) : p := h
theorem Xt68 {p : Prop} (h : p := by (cases P with | nil => exact absurd rfl h0 | cons _ _ => simp)) : p := h
theorem Xt69 {p : Prop} (h : p := by (intro r e; cases e; exact ⟨Nat.le_refl _, hrg.iter_walk⟩)) : p := h
theorem Xt70 {p : Prop} (h : p := by (intro e he; cases he)) : p := h
theorem Xt71 {p : Prop} (h : p := by (intro k x h; cases h)) : p := h
theorem Xt72 {p : Prop} (h : p := by (rw [List.length_take, HN.out]; omega)) : p := h
theorem Xt73 {p : Prop} (h : p := by (rw [HN.out.1]; exact hlt)) : p := h
theorem Xt74 {p : Prop} (h : p := by (rw [HN.out.2]; exact hlt)) : p := h
theorem Xt75 {p : Prop} (h : p := by (rw [hlen.out]; exact hlt)) : p := h
theorem Xt76 {p : Prop} (h : p := by (intro h; omega)) : p := h
theorem Xt77 {p : Prop} (h : p := by (rw [HLN.out]; exact hlt)) : p := h
theorem Xt78 {p : Prop} (h : p := by (rw [HLN.out]; exact htk)) : p := h
theorem Xt79 {p : Prop} (h : p := by (rw [HXL.out]; exact hlt)) : p := h
theorem Xt80 {p : Prop} (h : p := by (rw [HN.out]; exact Nat.le_refl _)) : p := h
theorem Xt81 {p : Prop} (h : p := by (intro y hy; simp at hy)) : p := h
theorem Xt82 {p : Prop} (h : p := by (have := HLN.out; omega)) : p := h
theorem Xt83 {p : Prop} (h : p := by (intro e; have := hS _ e; omega)) : p := h
theorem Xt84 {p : Prop} (h : p := by (rw [h.wlen]; exact ht)) : p := h
theorem Xt85 {p : Prop} (h : p := by (rw [HV.out]; exact hk)) : p := h
theorem Xt86 {p : Prop} (h : p := by (rw [hlen.out]; omega)) : p := h
theorem Xt87 {p : Prop} (h : p := by (rw [HV.out]; exact e)) : p := h
theorem Xb0 {p : Prop} (h : p := by
  obtain ⟨w10, hw10⟩ := gty (w9.alloc (.cells #[.slice a.ka akn a.kc, .slice a.ra a.R.length a.rc] 78))
  have HB10 := hid (by rw [hw10]; exact bl1 _ _ : Below w9.heap.size w9 w10)
  have HX10 := hid (by rw [hw10]; exact zg_.new _ _ _ : zg_ w10 w9.heap.size #[.slice a.ka akn a.kc, .slice a.ra a.R.length a.rc] 78)
  have HB90 := hid (HB9.out.trans (HB10.out.mono HB9.out.size))
  have HELB2 := HELB.out
  have p0 := HPA.out w9 HB9.out
  have p1 := HPB.out w9 HB9.out
  go_upto_region 30 with (fail)
  rw [← hw10]
  clear hw10 p0 p1
  obtain ⟨o0, o5, _, s1, s2, s3⟩ := HXL.out w10 (HOF.out.then HB90.out)
  obtain ⟨hsl, fl, hsv⟩ := HSPL.out a HAM.out
  obtain ⟨K1, hK1⟩ := gtx ((outS a).1)
  obtain ⟨kn2, hkn2⟩ := gtx (K1.length)
  rw [hK1] at hsv
  have HSQ := hid (jq_ a.ka a.K akn a.kc HAK.out (by rw [← HAK.out]; exact hsl) fl K1 0 hsv w10 (HKR.out.1.below HB90.out))
  have HK1 := hid (And.intro hK1 hkn2)
  have x0 := HX10.out.cell 0
  simp only [gtA, gtB, gtC] at x0
  clear hsl hsv hK1
  go_wp2_with fail
  clear x0 o0
  refine HSQ.out.mono ?_; rintro r w11 ⟨a1, c1, a2, c2, rfl, _, hk2, hb11⟩
  rw [hkn2]
  have HKS := hid hk2
  have HB11 := hid hb11
  have HX11 := hid (HX10.out.below hb11)
  have x0 := HX11.out.cell 0
  have f0 := HX11.out.frozen 0
  simp only [gtA, gtB, gtC] at x0
  clear hk2 hb11 hkn2
  obtain ⟨w12, hw12⟩ := gty (w11.setCell ⟨w9.heap.size, 0, none⟩ (.slice a2 kn2 c2))
  have HXz := hid (by rw [hw12]; exact heap_setCell_same w11 w9.heap.size 0 _ 78 _ HX11.out : zg_ w12 w9.heap.size #[.slice a2 kn2 c2, .slice a.ra a.R.length a.rc] 78)
  have HBz := hid (by rw [hw12]; exact (HB90.out.trans (HB11.out.mono HB90.out.size)).setCell (p := ⟨w9.heap.size, 0, none⟩) HB9.out.size _ : Below wr.heap.size wr w12)
  have HOz12 := hid (by rw [hw12]; exact Off.set (S := fun k => k = w9.heap.size) (Off.refl _ w11) ⟨w9.heap.size, 0, none⟩ rfl _ : Off (fun k => k = w9.heap.size) w11 w12)
  go_upto_region 32 with (fail)
  rw [← hw12]
  clear hw12 x0 f0
  have HGA := hid (show zs_ (fun k => (Sp S (w.heap.size + 1) k ∨ k = w3.heap.size) ∨ Value.ownBlock (.slice oa gn oc) = some k) w12 (fun W => Ls .u8 W a2 c2 K1 /\ RdR W a.ra a.R) from fun W' o' => ⟨by
   have h1 := (HKS.out (fun k => k < w10.heap.size) (fun k hk => hk)).off (HOz12.out.mono fun k hk => by have := HX10.out.lt; omega)
   refine (h1.less fun k hk => ?_) W' o'
   have h5 := HB90.out.size
   rcases hk with (hk | hk) | hk
   ·have := HM2.out.2 k hk; have := HB24.out.size; have := HBL.out.size; have := HOF.out.size; omega
   ·have := HBD.out; have := HOF.out.size; omega
   ·have := (zb_ HOW.out hk).2.1; omega, by
   obtain ⟨_, _, _, _, _, _, r⟩ := ((HLS.out.step (Off.of (Below.refl _ _)) (fun k hk => hk.imp id fun h => (zb_ HOW.out h).1)).off (((HOF.out.then HBz.out)).mono fun k hk => .inl (.inr hk))) W' o' k a HA1.out
   exact r⟩)
  obtain ⟨gg, hgg⟩ : ∃ g : PrV, g = ⟨a2, c2, K1, a.ra, a.rc, a.R⟩ := ⟨_, rfl⟩
  have HGA := hid (show zs_ (fun k => (Sp S (w.heap.size + 1) k ∨ k = w3.heap.size) ∨ Value.ownBlock (.slice oa gn oc) = some k) w12 (fun W => Ls .u8 W gg.ka gg.kc gg.K /\ RdR W gg.ra gg.R) by rw [hgg]; exact HGA.out)
  have HGG := hid (show prC gg = outS a /\ gg.ka = a2 /\ gg.K.length = kn2 /\ gg.kc = c2 /\ gg.ra = a.ra /\ gg.R = a.R /\ gg.rc = a.rc by rw [hgg]; exact ⟨by show (K1, a.R.map P1.bs) = outS a; rw [← HK1.out.1]; rfl, rfl, HK1.out.2, rfl, rfl, rfl, rfl⟩)
  clear hgg
  have g1 := (HBX.out.below HBz.out).cell 1
  have x0 := HXz.out.cell 0
  have x1 := HXz.out.cell 1
  simp only [gtA, gtB, gtC] at g1 x0 x1
  have HOz := hid (ze_ (ze_ HOW.out HBz.out) (bl1 w12 (.cells #[.slice a2 kn2 c2, .slice a.ra a.R.length a.rc] 78)))
  have HBa := hid (show Below wr.heap.size wr (w12.alloc (.cells #[.slice a2 kn2 c2, .slice a.ra a.R.length a.rc] 78)) from HBz.out.trans ((bl1 w12 _).mono HBz.out.size))
  have HSz := hid (show wL.heap.size <= (w12.alloc (.cells #[.slice a2 kn2 c2, .slice a.ra a.R.length a.rc] 78)).heap.size from Nat.le_trans HOF.out.size HBa.out.size)
  go_wp2_with (at_builtin; refine zv_ xn_ rfl (.tmp 153) (.tmp 155) rfl wL.heap.size (.slice oa gn oc) gn (zi_ G) rfl HOz.out ⟨w12.heap.size, 0, none⟩ 1 1 [.slice a2 kn2 c2, .slice a.ra a.R.length a.rc] rfl rfl (zx_ w12 _ _ _ rfl) Xt12 Xt0 HSz.out ?_; intro v12 w13 hown12 hgrow12 hat12; obtain ⟨a12, c12, hv12⟩ := zd_ hown12; subst hv12; have HO12 := hid hown12; have HG12 := hid (Off.of_row hgrow12); have HAT := hid hat12; have hb12 := HG12.out.box (HBX.out.below HBa.out) (fun e => by obtain ⟨_, _, cu, hc⟩ := zb_ HOz.out e; exact zo_ hc (HBX.out.below HBa.out) Xt4 rfl); have HB12 := hid hb12; have y1 := hb12.cell 1; have z1 := hb12.frozen 1; simp only [gtA, gtB, gtC] at y1; clear hown12 hgrow12 hat12 hb12)
  have HW14 := hid (And.intro (heap_setCell_same w13 w3.heap.size 1 _ 81 (.slice a12 (gn + 1) c12) HB12.out) (Off.set (S := fun k => k = w3.heap.size) (Off.refl _ w13) ⟨w3.heap.size, 1, none⟩ rfl (.slice a12 (gn + 1) c12)))
  clear g1 x0 x1 y1 z1
  go_roundw
  case rel =>
   have hoff : Off (fun k => k = w3.heap.size ∨ Value.ownBlock (.slice oa gn oc) = some k) wr (w13.setCell ⟨w3.heap.size, 1, none⟩ (.slice a12 (gn + 1) c12)) := (Off.of HBa.out).trans ((HG12.out.mono fun k hk => .inr hk).trans (HW14.out.2.mono fun k hk => .inl hk))
   have hnew : ∀ k, Value.ownBlock (.slice a12 (gn + 1) c12) = some k -> Value.ownBlock (.slice oa gn oc) = some k ∨ wr.heap.size <= k := fun k hk => by
    rcases HAT.out with e | e
    ·exact .inl (e ▸ hk)
    ·rw [e] at hk; cases hk; exact .inr HBa.out.size
   have hst : ∀ g : PrV, zs_ (fun k => (Sp S (w.heap.size + 1) k ∨ k = w3.heap.size) ∨ Value.ownBlock (.slice oa gn oc) = some k) wr (fun W => Ls .u8 W g.ka g.kc g.K /\ RdR W g.ra g.R) -> zs_ (fun k => (Sp S (w.heap.size + 1) k ∨ k = w3.heap.size) ∨ Value.ownBlock (.slice a12 (gn + 1) c12) = some k) (w13.setCell ⟨w3.heap.size, 1, none⟩ (.slice a12 (gn + 1) c12)) (fun W => Ls .u8 W g.ka g.kc g.K /\ RdR W g.ra g.R) := fun g hg =>
    hg.step (hoff.mono fun k hk => hk.imp .inr id) (fun k hk => hk.elim (fun h => .inl (.inl h)) fun h => (hnew k h).imp .inr id)
   have hga : zs_ (fun k => (Sp S (w.heap.size + 1) k ∨ k = w3.heap.size) ∨ Value.ownBlock (.slice a12 (gn + 1) c12) = some k) (w13.setCell ⟨w3.heap.size, 1, none⟩ (.slice a12 (gn + 1) c12)) (fun W => Ls .u8 W gg.ka gg.kc gg.K /\ RdR W gg.ra gg.R) :=
    HGA.out.step ((Off.of (bl1 w12 _)).trans ((HG12.out.mono fun k hk => .inr hk).trans (HW14.out.2.mono fun k hk => .inl (.inr hk)))) (fun k hk => hk.elim (fun h => .inl (.inl h)) fun h => by
     rcases HAT.out with e | e
     ·exact .inl (.inr (e ▸ h))
     ·rw [e] at h; cases h; exact .inr (bl1 w12 (.cells #[.slice a2 kn2 c2, .slice a.ra a.R.length a.rc] 78)).size)
   refine ⟨k + 1, gn + 1, A ++ [a], G ++ [gg], a12, c12, by omega, by go_num, by omega, hid ⟨by rw [List.length_append, HGL.out.1]; rfl, by rw [List.length_append, HGL.out.2]; rfl⟩, hid Xt22, hid Xt13, hid (fun b hb => ?_), hid HW14.out.1, hid ?_, hid (fun b hb => ?_), hid ?_⟩
   ·rcases List.mem_append.1 hb with hb | hb
    ·exact HAL.out b hb
    ·rw [List.mem_singleton] at hb; subst hb; exact HAM.out
   ·have h1 := zn_ HO12.out HW14.out.2 (fun g hg e => by
     obtain ⟨_, _, cu, hc⟩ := zb_ HO12.out hg
     exact zo_ hc HB12.out Xt4 e)
    have h2 : zi_ (G ++ [gg]) = zi_ G ++ [.slice a2 kn2 c2, .slice a.ra a.R.length a.rc] := by
     rw [zw_]
     show _ ++ [Value.slice gg.ka gg.K.length gg.kc, Value.slice gg.ra gg.R.length gg.rc] = _
     rw [HGG.out.2.1, HGG.out.2.2.1, HGG.out.2.2.2.1, HGG.out.2.2.2.2.1, HGG.out.2.2.2.2.2.1, HGG.out.2.2.2.2.2.2]
    rw [h2]; exact h1
   ·rcases List.mem_append.1 hb with hb | hb
    ·exact hst b (HGS.out b hb)
    ·rw [List.mem_singleton] at hb; subst hb; exact hga
   ·exact ⟨hoff.os.trans HOF.out.os, hoff.tape.trans HOF.out.tape, hoff.output.trans HOF.out.output, Nat.le_trans HOF.out.size hoff.size, fun b hb hn => (hoff.block b (Nat.lt_of_lt_of_le hb HOF.out.size) fun h => h.elim hn fun h => by have := (zb_ HOW.out h).1; omega).trans (HOF.out.block b hb hn)⟩
  case measure => simp [intOf]; omega) : p := h
theorem Xb1 {p : Prop} (h : p := by
  go_wp2_with (first | (go_at_call 56; refine (zh_ _ _ _ _).mono ?_; rintro r w9 ⟨rfl, rfl⟩; rw [HMK.out]) | (go_at_call 57; refine HRM.out.mono ?_; rintro r w9 ⟨rfl, rfl⟩))
  go_ret
  exact ⟨zc_ Xt1, za_ HB0.out HBW.out⟩) : p := h
theorem Xb2 {p : Prop} (h : p := by
  obtain ⟨w10, hw10⟩ := gty (w9.alloc (.cells #[.slice a.ka akn a.kc, .slice a.ra a.R.length a.rc] 78))
  have HB10 := hid (by rw [hw10]; exact bl1 _ _ : Below w9.heap.size w9 w10)
  have HX10 := hid (by rw [hw10]; exact zg_.new _ _ _ : zg_ w10 w9.heap.size #[.slice a.ka akn a.kc, .slice a.ra a.R.length a.rc] 78)
  have HB90 := hid (HB9.out.trans (HB10.out.mono HB9.out.size))
  have HELB2 := HELB.out
  have p0 := HPA.out w9 HB9.out
  have p1 := HPB.out w9 HB9.out
  go_upto_region 30 with (fail)
  rw [← hw10]
  clear hw10 p0 p1
  obtain ⟨o0, o5, _, s1, s2, s3⟩ := HXL.out w10 (HOF.out.then HB90.out)
  have HXz := HX10
  have HBz := HB90
  have HGA := hid (show zs_ (fun k => (Sp S (w.heap.size + 1) k ∨ k = w3.heap.size) ∨ Value.ownBlock (.slice oa gn oc) = some k) w10 (fun W => Ls .u8 W a.ka a.kc a.K /\ RdR W a.ra a.R) from ((HLS.out.step (Off.of (Below.refl _ _)) (fun k hk => hk.imp id fun h => (zb_ HOW.out h).1)).off (((HOF.out.then HB90.out)).mono fun k hk => .inl (.inr hk))).mono fun W hW => by
   obtain ⟨_, _, _, _, _, l, r⟩ := hW k a HA1.out
   exact ⟨l, r⟩)
  obtain ⟨gg, hgg⟩ : ∃ g : PrV, g = a := ⟨_, rfl⟩
  rw [← hgg] at HGA
  have HGG := hid (show prC gg = prC a /\ gg.ka = a.ka /\ gg.K.length = akn /\ gg.kc = a.kc /\ gg.ra = a.ra /\ gg.R = a.R /\ gg.rc = a.rc by rw [hgg]; exact ⟨rfl, rfl, HAK.out, rfl, rfl, rfl, rfl⟩)
  clear hgg
  have g1 := (HBX.out.below HBz.out).cell 1
  have x0 := HXz.out.cell 0
  have x1 := HXz.out.cell 1
  simp only [gtA, gtB, gtC] at g1 x0 x1
  have HOz := hid (ze_ (ze_ HOW.out HBz.out) (bl1 w10 (.cells #[.slice a.ka akn a.kc, .slice a.ra a.R.length a.rc] 78)))
  have HBa := hid (show Below wr.heap.size wr (w10.alloc (.cells #[.slice a.ka akn a.kc, .slice a.ra a.R.length a.rc] 78)) from HBz.out.trans ((bl1 w10 _).mono HBz.out.size))
  have HSz := hid (show wL.heap.size <= (w10.alloc (.cells #[.slice a.ka akn a.kc, .slice a.ra a.R.length a.rc] 78)).heap.size from Nat.le_trans HOF.out.size HBa.out.size)
  go_wp2_with (at_builtin; refine zv_ xn_ rfl (.tmp 153) (.tmp 155) rfl wL.heap.size (.slice oa gn oc) gn (zi_ G) rfl HOz.out ⟨w10.heap.size, 0, none⟩ 1 1 [.slice a.ka akn a.kc, .slice a.ra a.R.length a.rc] rfl rfl (zx_ w10 _ _ _ rfl) Xt12 Xt0 HSz.out ?_; intro v12 w13 hown12 hgrow12 hat12; obtain ⟨a12, c12, hv12⟩ := zd_ hown12; subst hv12; have HO12 := hid hown12; have HG12 := hid (Off.of_row hgrow12); have HAT := hid hat12; have hb12 := HG12.out.box (HBX.out.below HBa.out) (fun e => by obtain ⟨_, _, cu, hc⟩ := zb_ HOz.out e; exact zo_ hc (HBX.out.below HBa.out) Xt4 rfl); have HB12 := hid hb12; have y1 := hb12.cell 1; have z1 := hb12.frozen 1; simp only [gtA, gtB, gtC] at y1; clear hown12 hgrow12 hat12 hb12)
  have HW14 := hid (And.intro (heap_setCell_same w13 w3.heap.size 1 _ 81 (.slice a12 (gn + 1) c12) HB12.out) (Off.set (S := fun k => k = w3.heap.size) (Off.refl _ w13) ⟨w3.heap.size, 1, none⟩ rfl (.slice a12 (gn + 1) c12)))
  clear g1 x0 x1 y1 z1
  go_roundw
  case rel =>
   have hoff : Off (fun k => k = w3.heap.size ∨ Value.ownBlock (.slice oa gn oc) = some k) wr (w13.setCell ⟨w3.heap.size, 1, none⟩ (.slice a12 (gn + 1) c12)) := (Off.of HBa.out).trans ((HG12.out.mono fun k hk => .inr hk).trans (HW14.out.2.mono fun k hk => .inl hk))
   have hnew : ∀ k, Value.ownBlock (.slice a12 (gn + 1) c12) = some k -> Value.ownBlock (.slice oa gn oc) = some k ∨ wr.heap.size <= k := fun k hk => by
    rcases HAT.out with e | e
    ·exact .inl (e ▸ hk)
    ·rw [e] at hk; cases hk; exact .inr HBa.out.size
   have hst : ∀ g : PrV, zs_ (fun k => (Sp S (w.heap.size + 1) k ∨ k = w3.heap.size) ∨ Value.ownBlock (.slice oa gn oc) = some k) wr (fun W => Ls .u8 W g.ka g.kc g.K /\ RdR W g.ra g.R) -> zs_ (fun k => (Sp S (w.heap.size + 1) k ∨ k = w3.heap.size) ∨ Value.ownBlock (.slice a12 (gn + 1) c12) = some k) (w13.setCell ⟨w3.heap.size, 1, none⟩ (.slice a12 (gn + 1) c12)) (fun W => Ls .u8 W g.ka g.kc g.K /\ RdR W g.ra g.R) := fun g hg =>
    hg.step (hoff.mono fun k hk => hk.imp .inr id) (fun k hk => hk.elim (fun h => .inl (.inl h)) fun h => (hnew k h).imp .inr id)
   have hga : zs_ (fun k => (Sp S (w.heap.size + 1) k ∨ k = w3.heap.size) ∨ Value.ownBlock (.slice a12 (gn + 1) c12) = some k) (w13.setCell ⟨w3.heap.size, 1, none⟩ (.slice a12 (gn + 1) c12)) (fun W => Ls .u8 W gg.ka gg.kc gg.K /\ RdR W gg.ra gg.R) :=
    HGA.out.step ((Off.of (bl1 w10 _)).trans ((HG12.out.mono fun k hk => .inr hk).trans (HW14.out.2.mono fun k hk => .inl (.inr hk)))) (fun k hk => hk.elim (fun h => .inl (.inl h)) fun h => by
     rcases HAT.out with e | e
     ·exact .inl (.inr (e ▸ h))
     ·rw [e] at h; cases h; exact .inr (bl1 w10 (.cells #[.slice a.ka akn a.kc, .slice a.ra a.R.length a.rc] 78)).size)
   refine ⟨k + 1, gn + 1, A ++ [a], G ++ [gg], a12, c12, by omega, by go_num, by omega, hid ⟨by rw [List.length_append, HGL.out.1]; rfl, by rw [List.length_append, HGL.out.2]; rfl⟩, hid Xt22, hid Xt13, hid (fun b hb => ?_), hid HW14.out.1, hid ?_, hid (fun b hb => ?_), hid ?_⟩
   ·rcases List.mem_append.1 hb with hb | hb
    ·exact HAL.out b hb
    ·rw [List.mem_singleton] at hb; subst hb; exact HAM.out
   ·have h1 := zn_ HO12.out HW14.out.2 (fun g hg e => by
     obtain ⟨_, _, cu, hc⟩ := zb_ HO12.out hg
     exact zo_ hc HB12.out Xt4 e)
    have h2 : zi_ (G ++ [gg]) = zi_ G ++ [.slice a.ka akn a.kc, .slice a.ra a.R.length a.rc] := by
     rw [zw_]
     show _ ++ [Value.slice gg.ka gg.K.length gg.kc, Value.slice gg.ra gg.R.length gg.rc] = _
     rw [HGG.out.2.1, HGG.out.2.2.1, HGG.out.2.2.2.1, HGG.out.2.2.2.2.1, HGG.out.2.2.2.2.2.1, HGG.out.2.2.2.2.2.2]
    rw [h2]; exact h1
   ·rcases List.mem_append.1 hb with hb | hb
    ·exact hst b (HGS.out b hb)
    ·rw [List.mem_singleton] at hb; subst hb; exact hga
   ·exact ⟨hoff.os.trans HOF.out.os, hoff.tape.trans HOF.out.tape, hoff.output.trans HOF.out.output, Nat.le_trans HOF.out.size hoff.size, fun b hb hn => (hoff.block b (Nat.lt_of_lt_of_le hb HOF.out.size) fun h => h.elim hn fun h => by have := (zb_ HOW.out h).1; omega).trans (HOF.out.block b hb hn)⟩
  case measure => simp [intOf]; omega) : p := h
theorem Xb3 {p : Prop} (h : p := by
  have HN := hid (hN W hW)
  have HW := hid (And.intro hW hW2)
  have HRO := hid (And.intro hro hrb)
  have HJ := hid hJ
  have H0 := hid h0
  clear hB hN hW hW2 hro hrb hJx h0 hJ
  show CallsIn Fence.wide mm prog 106 #[.func (.yield lp) #[] #[], .pointer (some ⟨Bs, 0, none⟩)] W _
  refine callsIn_of_wp func106 rfl trivial ?_ rfl
  simp only [ntmps106, List.size_toArray, List.length_cons, List.length_nil, Nat.reduceAdd, Nat.reduceSub, Array.replicate_succ, Array.replicate_zero, List.push_toArray, List.append_toArray, List.nil_append, List.cons_append]
  have cb := hb.cell
  gi_wp2_with fail
  clear cb hb
  refine ⟨trivial, ?_⟩
  refine (callsIn_wide.2 HN.out).mono ?_
  rintro e W2 ⟨pa, pc, P, rfl, hb2, hPT, hok, hlc, hnone, hlen, hst⟩
  obtain ⟨n, hn⟩ := gtx (P.length)
  rw [hn] at hlen ⊢
  have HPT := hid hPT
  have HOK := hid hok
  have HPL := hid hn
  have HTL := hid (show T.length = n by rw [← hPT, List.length_map, hn])
  have HG := hid (show Hg (w.heap.size + 2) ro W2 (fun W' => zp_ W' pa P) from ⟨W.heap.size, W2.heap.size, HW.out.2, hb2.size, Nat.le_refl _, fun k hk => (by rw [HRO.out.1 W2 (za_ HW.out.1 hb2)] at hk; cases hk), fun W' o => hst (fun k => k < W.heap.size) (fun k hk => hk) W' ⟨o.os, o.tape, o.output, o.size, fun k hk hn => o.block k hk (fun e => e.elim hn Xt76)⟩⟩)
  have HJ2 := hid (HJ.out 0 W W2 H0.out hb2)
  have HS2 := hid (Nat.le_trans HW.out.1.size hb2.size)
  have hni : (n : Int) <= 2000000 := by omega
  clear hPT hok hn hb2 hst hlc hnone HN H0
  gi_wp2_with fail
  gi_loopw [8] (fun i wr => ∃ k : Nat, k <= n /\ i = .int .i64 (k : Int) /\ Hid (Hg (w.heap.size + 2) ro wr (fun W' => zp_ W' pa P)) /\ Hid (J k wr) /\ Hid (w.heap.size <= wr.heap.size))
   (fun i _ => n - (intOf i).toNat)
  case atStart =>
   exact ⟨0, by omega, rfl, HG, HJ2, HS2⟩
  case round =>
   clear HG HJ2 HS2
   obtain ⟨k, hk, rfl, HG, HJK, HSZ⟩ := hrel
   by_cases hlt : k < n
   ·have d1 : (k : Int) < (n : Int) := by omega
    obtain ⟨y, hy⟩ : ∃ y, P[k]? = some y := ⟨_, List.getElem?_eq_getElem (by rw [HPL.out]; exact hlt)⟩
    obtain ⟨b1, o1, ea, p0, p1, _, _⟩ := HG.out.now k y hy
    have HPY := hid (show T[k]? = some (prC y) /\ okp y from ⟨by rw [← HPT.out, List.getElem?_map, hy]; rfl, HOK.out y (List.mem_of_getElem? hy)⟩)
    have HGY := hid (HG.out.mono (R := QP y) Xt53)
    have HKL := hid (show k < T.length by rw [HTL.out]; omega)
    clear hy
    obtain ⟨w2, hw2⟩ := gty (wr.alloc (.cells #[.slice y.ka y.K.length y.kc, .slice y.ra y.R.length y.rc] 78))
    have hbl : Below wr.heap.size wr w2 := by rw [hw2]; exact bl1 wr _
    have HK2 := hid (KpO.below (b := w.heap.size + 2) hbl (HRO.out.2 wr w2 HSZ.out hbl))
    have hJ2 : J k w2 := HJ.out k wr w2 HJK.out hbl
    have HS3 := hid (Nat.le_trans HSZ.out hbl.size)
    obtain ⟨fn, tmps, assign, body, hy, hR⟩ := hY k y w2 HKL.out hJ2 ⟨HPY.out.1, HPY.out.2, HGY.out.kp HK2.out⟩
    rw [hw2] at hy
    dsimp only [encP, pcl] at hy
    have hww := hw2
    clear hw2 hbl
    subst ea
    gi_wp2
    rw [← hww]
    refine hR.mono ?_
    rintro e W3 (⟨rfl, hJ3, hk3⟩ | ⟨rfl, hJx3⟩)
    ·have HK3 := hid (HK2.out.trans hk3)
     have HJ3 := hid hJ3
     have HS4 := hid (show w.heap.size <= W3.heap.size from Nat.le_trans HS3.out hk3.size)
     clear hk3 hJ3
     gi_wp2_with fail
     go_roundw
     case rel => exact ⟨k + 1, by omega, by go_num, hid (HG.out.kp HK3.out), HJ3, HS4⟩
     case measure => simp [intOf]; omega
    ·have HJX := hid hJx3
     clear hJx3
     gi_wp2
     refine bodyPost_ret (results_none rfl _ _ _) rfl ?_
     exact ⟨⟨_, rfl⟩, .inr ⟨k, HKL.out, HJX.out⟩⟩
   ·have d1 : ¬ (k : Int) < (n : Int) := by omega
    have HJE := hid (show J T.length wr by rw [HTL.out, show n = k by omega]; exact HJK.out)
    gi_wp2_with fail
    go_end0
    exact ⟨⟨_, rfl⟩, .inl HJE.out⟩) : p := h
theorem Xb4 {p : Prop} (h : p := by
  refine rgw w4 (Below.refl _ _).drew fun hH => ?_
  refine tkq3 0 1 2 ?_
  refine tkr 3 rfl Xf37 ?_
  refine tkr 4 rfl Xf39 ?_
  refine wpAnyH_ready (rs := [5, 9]) Xt3 Xt5 ?_
  refine tka (fun K hK => ?_) ?_
  ·go_simp
   have key := xr_ f.j o HO.out.rn w4.drew (HJB.out w4.drew hH) (HOP.out w4.drew hH)
   rw [HK1.out] at key
   refine key.mono ?_; clear key; rintro r w5 ⟨⟨fa, fc, ta, tc, rfl, hlf, hlu⟩, hb5⟩
   have HLF := hid (And.intro hlf hlu)
   have HB5 := hid (za_ hH hb5)
   have HB25 := hid hb5
   clear hlf hlu hb5
   go_wp2_with fail
   refine hK.out _ _ HB5.out fun hH => ?_
   refine stP ?_
   refine tkq3 6 7 8 ?_
   refine tk1 9 rfl fun K hK => ?_
   go_simp
   have HBA := hid (bl1 w5 (.cells #[.int .i64 0, .slice none 0 0, .slice none 0 0, .bool false] 169))
   have HXA := hid (zg_.new w5 #[.int .i64 0, .slice none 0 0, .slice none 0 0, .bool false] 169)
   have HB6 := hid (za_ HB5.out HBA.out)
   refine hK.out _ _ HB6.out fun hH => ?_
   refine stP ?_
   refine tk1 10 rfl fun K hK => ?_
   go_simp
   have h0 := set4a HB5.out (Nat.le_refl _) (zE_ f.j o).1 fa (zE_ f.j o).2.1 fc ta (zE_ f.j o).2.2.1 tc (zE_ f.j o).2.2.2.1 HLF.out.1 HLF.out.2
   have HQQ := hid h0
   refine hK.out _ _ h0.1 (fun hHeldn => ?_)
   clear h0
   clear hK K hH; have hH := hHeldn; clear hHeldn
   refine stP ?_
   refine tkq 11 ?_
   refine adn ?_
   obtain ⟨q1, q2, q3, q4⟩ := HQQ.out
   go_wp2_with fail
   go_meet
   exact ⟨_, fa, fc, ta, tc, rfl, hid q1, hid q2, hid q3, hid q4⟩
  refine tka (fun K hK => ?_) AllReadyH.nil
  go_simp
  have HXA := hid (show zg_ (w4.drew.alloc (.cells #[.int .i64 0, .slice none 0 0, .slice none 0 0, .bool false] 169)) w4.heap.size #[.int .i64 0, .slice none 0 0, .slice none 0 0, .bool false] 169 from zg_.new w4.drew _ _)
  have HB6 := hid (za_ hH (bl1 w4.drew (.cells #[.int .i64 0, .slice none 0 0, .slice none 0 0, .bool false] 169)))
  refine hK.out _ _ HB6.out fun hH => ?_
  refine stP ?_
  refine tk1 5 rfl fun K hK => ?_
  go_simp
  have key := xr_ f.j o HO.out.rn _ (HJB.out _ hH) (HOP.out _ hH)
  rw [HK1.out] at key
  refine key.mono ?_; clear key; rintro r w5 ⟨⟨fa, fc, ta, tc, rfl, hlf, hlu⟩, hb5⟩
  have HLF := hid (And.intro hlf hlu)
  have HB5 := hid (za_ hH hb5)
  have HB25 := hid hb5
  clear hlf hlu hb5
  go_wp2_with fail
  refine hK.out _ _ HB5.out fun hH => ?_
  refine stP ?_
  refine tkq3 6 7 8 ?_
  refine tk1 10 rfl fun K hK => ?_
  have hbx := (HXA.out.below HB25.out)
  have x0 := hbx.cell 0
  have x1 := hbx.cell 1
  have x2 := hbx.cell 2
  have x3 := hbx.cell 3
  have f0 := hbx.frozen 0
  have f1 := hbx.frozen 1
  have f2 := hbx.frozen 2
  have f3 := hbx.frozen 3
  simp only [gtA, gtB, gtC] at x0 x1 x2 x3
  go_simp
  have h0 := set4b HB5.out (HXA.out.below HB25.out) (Nat.le_refl w4.heap.size) (zE_ f.j o).1 fa (zE_ f.j o).2.1 fc ta (zE_ f.j o).2.2.1 tc (zE_ f.j o).2.2.2.1 HLF.out.1 HLF.out.2
  have HQQ := hid h0
  refine hK.out _ _ h0.1 (fun hHeldn => ?_)
  clear h0 hbx x0 x1 x2 x3 f0 f1 f2 f3
  clear hK K hH; have hH := hHeldn; clear hHeldn
  refine stP ?_
  refine tkq 11 ?_
  refine adn ?_
  obtain ⟨q1, q2, q3, q4⟩ := HQQ.out
  go_wp2_with fail
  go_meet
  exact ⟨_, fa, fc, ta, tc, rfl, hid q1, hid q2, hid q3, hid q4⟩) : p := h
theorem Xb5 {p : Prop} (h : p := by
  refine rgw w2 (Below.refl _ _).drew fun hH => ?_
  refine tkq3 0 1 2 ?_
  refine tkr 3 rfl Xf1 ?_
  refine tkq2 4 5 ?_
  refine tkr 6 rfl Xf26 ?_
  refine tkr 7 rfl Xf32 ?_
  refine wpAnyH_ready (rs := [8, 12]) Xt3 Xt5 ?_
  refine tka (fun K hK => ?_) ?_
  ·go_simp
   refine (x3_ m.j o HRN.out _ (HMD.out.below hH).st.now.job (HOP.out.below hH)).mono ?_; rintro r w5 ⟨⟨fa, fc, ta, tc, rfl, hlf, hlu⟩, hb5⟩
   have HLF := hid (And.intro hlf hlu)
   have HB5 := hid (za_ hH hb5)
   have HB25 := hid hb5
   clear hlf hlu hb5
   go_wp2_with fail
   refine hK.out _ _ HB5.out fun hH => ?_
   refine stP ?_
   refine tkq3 9 10 11 ?_
   refine tk1 12 rfl fun K hK => ?_
   go_simp
   have HBA := hid (bl1 w5 (.cells #[.int .i64 0, .slice none 0 0, .slice none 0 0, .bool false] 169))
   have HXA := hid (zg_.new w5 #[.int .i64 0, .slice none 0 0, .slice none 0 0, .bool false] 169)
   have HB6 := hid (za_ HB5.out HBA.out)
   refine hK.out _ _ HB6.out fun hH => ?_
   refine stP ?_
   refine tk1 13 rfl fun K hK => ?_
   go_simp
   have h0 := set4a HB5.out (Nat.le_refl _) (zE_ m.j o).1 fa (zE_ m.j o).2.1 fc ta (zE_ m.j o).2.2.1 tc (zE_ m.j o).2.2.2.1 HLF.out.1 HLF.out.2
   have HQ := hid h0
   refine hK.out _ _ h0.1 (fun hHeldn => ?_)
   clear h0
   clear hK K hH; have hH := hHeldn; clear hHeldn
   refine stP ?_
   refine tkq 14 ?_
   refine adn ?_
   obtain ⟨q1, q2, q3, q4⟩ := HQ.out
   go_wp2_with fail
   go_meet
   exact ⟨_, fa, fc, ta, tc, rfl, hid q1, hid q2, hid q3, hid q4⟩
  refine tka (fun K hK => ?_) AllReadyH.nil
  go_simp
  have HXA := hid (show zg_ (w2.drew.alloc (.cells #[.int .i64 0, .slice none 0 0, .slice none 0 0, .bool false] 169)) w2.heap.size #[.int .i64 0, .slice none 0 0, .slice none 0 0, .bool false] 169 from zg_.new w2.drew _ _)
  have HB6 := hid (za_ hH (bl1 w2.drew (.cells #[.int .i64 0, .slice none 0 0, .slice none 0 0, .bool false] 169)))
  refine hK.out _ _ HB6.out fun hH => ?_
  refine stP ?_
  refine tk1 8 rfl fun K hK => ?_
  go_simp
  refine (x3_ m.j o HRN.out _ (HMD.out.below hH).st.now.job (HOP.out.below hH)).mono ?_; rintro r w5 ⟨⟨fa, fc, ta, tc, rfl, hlf, hlu⟩, hb5⟩
  have HLF := hid (And.intro hlf hlu)
  have HB5 := hid (za_ hH hb5)
  have HB25 := hid hb5
  clear hlf hlu hb5
  go_wp2_with fail
  refine hK.out _ _ HB5.out fun hH => ?_
  refine stP ?_
  refine tkq3 9 10 11 ?_
  refine tk1 13 rfl fun K hK => ?_
  have hbx := (HXA.out.below HB25.out)
  have x0 := hbx.cell 0
  have x1 := hbx.cell 1
  have x2 := hbx.cell 2
  have x3 := hbx.cell 3
  have f0 := hbx.frozen 0
  have f1 := hbx.frozen 1
  have f2 := hbx.frozen 2
  have f3 := hbx.frozen 3
  simp only [gtA, gtB, gtC] at x0 x1 x2 x3
  go_simp
  have h0 := set4b HB5.out (HXA.out.below HB25.out) (Nat.le_refl w2.heap.size) (zE_ m.j o).1 fa (zE_ m.j o).2.1 fc ta (zE_ m.j o).2.2.1 tc (zE_ m.j o).2.2.2.1 HLF.out.1 HLF.out.2
  have HQ := hid h0
  refine hK.out _ _ h0.1 (fun hHeldn => ?_)
  clear h0 hbx x0 x1 x2 x3 f0 f1 f2 f3
  clear hK K hH; have hH := hHeldn; clear hHeldn
  refine stP ?_
  refine tkq 14 ?_
  refine adn ?_
  obtain ⟨q1, q2, q3, q4⟩ := HQ.out
  go_wp2_with fail
  go_meet
  exact ⟨_, fa, fc, ta, tc, rfl, hid q1, hid q2, hid q3, hid q4⟩) : p := h
theorem Xb6 {p : Prop} (h : p := by
  clear hcl
  intro v11 w11 hown11 hgrow11 _
  obtain ⟨a11, c11, hv11⟩ := zd_ hown11
  subst hv11
  have hb12 := hH.grown hgrow11 hH.size (fun j hj => (HO3.out.lt j hj).1)
  have HO11 := hid hown11
  clear hown11 hgrow11
  refine hK.out _ _ hb12 (fun hHeldn => ?_)
  clear hb12
  clear hK K hH; have hH := hHeldn; clear hHeldn
  refine stP ?_
  refine tk1 15 rfl fun K hK => ?_
  refine z7_ rfl _ _ rfl w9.heap.size (.slice a11 (a + 1) c11) (a + 1) _ rfl HO11.out al (uc - a) (n - a) (V.drop a) Xt64 rfl (HLW.out _ (HWC.out _ hH)) HLN.out Xt0 hH.size ?_
  intro v15 w15 hown15 hgrow15
  obtain ⟨a15, c15, hv15⟩ := zd_ hown15
  subst hv15
  have hb15 := hH.grown hgrow15 hH.size (fun j hj => (HO11.out.lt j hj).1)
  have HO15 := hid hown15
  clear hown15 hgrow15
  refine hK.out _ _ hb15 (fun hHeldn => ?_)
  clear hb15
  clear hK K hH; have hH := hHeldn; clear hHeldn
  refine stP ?_
  refine tkq 16 ?_
  refine adn ?_
  have HBF := hid hH
  clear hH
  have HOWW := hid (show _ from (by
   have h9 := HO15.out
   rw [show a + 1 + (n - a) = n + 1 by omega] at h9
   have e9 : cellsOf wcl (V.take a ++ (⟨t, o.ka, o.kc, o.K, ⟨ra, rc, R8⟩⟩ : WtV) :: V.drop a) = cellsOf wcl (V.take a) ++ [.int .i64 (t : Int), .slice o.ka o.kn o.kc, .slice ra rn rc] ++ cellsOf wcl (V.drop a) := by
    rw [zq_]
    show _ ++ ([Value.int .i64 (t : Int), .slice o.ka o.K.length o.kc, .slice ra R8.length rc] ++ cellsOf wcl (V.drop a)) = _
    rw [HOC.out.kl, HR8.out.1, List.append_assoc]
   rw [e9]
   exact yJ_ h9 HZ79.out : w15.ownsRow w7.heap.size 84 3 (.slice a15 (n + 1) c15) (n + 1) (cellsOf wcl (V.take a ++ (⟨t, o.ka, o.kc, o.K, ⟨ra, rc, R8⟩⟩ : WtV) :: V.drop a))))
  rw [show a + 1 + (n - a) = n + 1 by omega]
  have HB9F := hid (HBO9.out.trans (HBF.out.mono HBO9.out.size))
  go_wp2_with fail
  go_roundw
  case rel =>
   have hlen : (V.take a ++ (⟨t, o.ka, o.kc, o.K, ⟨ra, rc, R8⟩⟩ : WtV) :: V.drop a).length = n + 1 := by
    rw [List.length_append, List.length_cons, List.length_take, List.length_drop, HN.out]; omega
   refine ⟨k + 1, V.take a ++ ⟨t, o.ka, o.kc, o.K, ⟨ra, rc, R8⟩⟩ :: V.drop a, by omega, by go_num, by rw [hlen]; omega, hid ?_, hid (by rw [hlen]; exact HOWW.out), hid (fun z hz => ?_), hid (HBW.out.trans (HB9F.out.mono HBW.out.size))⟩
   ·rw [HDS.out, ← HVM.out]
    unfold insW
    rw [if_neg (by rw [← HHH.out]; simp), ← HA.out, List.map_append, List.map_cons, List.map_take, List.map_drop, HL.out]
    show _ ++ (t, o.K, R8.map P1.bs) :: _ = _
    rw [HR8.out.2.1]
   ·have hz2 : z ∈ V ∨ z = (⟨t, o.ka, o.kc, o.K, ⟨ra, rc, R8⟩⟩ : WtV) := by
     rcases List.mem_append.1 hz with h | h
     ·exact .inl (List.mem_of_mem_take h)
     ·rcases List.mem_cons.1 h with h | h
      ·exact .inr h
      ·exact .inl (List.mem_of_mem_drop h)
    rcases hz2 with h | rfl
    ·exact ⟨(HVS.out z h).1, (HVS.out z h).2.below HB9F.out⟩
    ·refine ⟨⟨HTT.out.2, HKO.out, HR8.out.2.2.1⟩, fun W' o' => ⟨((HCA.out.below HB9F.out).mono fun W hW => hW.ks) W' o', (HR8.out.2.2.2.below HBF.out) W' o'⟩⟩
  case measure => simp [intOf]; omega) : p := h
theorem Xb7 {p : Prop} (h : p := by
  have HBR := hid (show Below w2.heap.size w2 wr from Off.below (HB24.out.trans (HBL.out.mono HB24.out.size)) HOF.out (Nat.le_trans HB24.out.size HBL.out.size) Xt40)
  have HXR := hid (HB.out.2 wr HBR.out).2
  have q0 := HXR.out.cell 0
  have q1 := HXR.out.cell 1
  have i0 := HXR.out.frozen 0
  have i1 := HXR.out.frozen 1
  have g0 := HBX.out.cell 0
  simp only [gtA, gtB, gtC] at q0 q1 g0
  go_wp2_with fail
  clear q0 q1 i0 i1 g0 g1 o0 o5 s1 s2 s3
  have hb4 := zg_.set2 (x := .int .i64 0) (y := .slice oa gn oc) HXR.out
  have ho4 : Off (fun k => k = w.heap.size + 1) wr ((wr.setCell ⟨w.heap.size + 1, 0, none⟩ (.int .i64 0)).setCell ⟨w.heap.size + 1, 1, none⟩ (.slice oa gn oc)) :=
   Off.set (S := fun k => k = w.heap.size + 1) (Off.set (S := fun k => k = w.heap.size + 1) (Off.refl _ wr) ⟨w.heap.size + 1, 0, none⟩ rfl _) ⟨w.heap.size + 1, 1, none⟩ rfl _
  revert hb4 ho4
  generalize (wr.setCell ⟨w.heap.size + 1, 0, none⟩ (.int .i64 0)).setCell ⟨w.heap.size + 1, 1, none⟩ (.slice oa gn oc) = w4
  intro hb4 ho4
  have q0 := hb4.cell 0
  have q1 := hb4.cell 1
  have HO4 := hid ho4
  clear hb4 ho4
  first | refine bodyPost_end (v := .agg #[.int .i64 0, .slice oa gn oc]) Xt6 rfl ?_ | refine bodyPost_ret (v := .agg #[.int .i64 0, .slice oa gn oc]) Xt6 rfl ?_
  have hgl := HGL.out.1
  have hprk : ∀ g ∈ G, zH_ g.K /\ rOk (g.R.map P1.bs) := fun g hg => by
   have h1 : prC g ∈ A.map outS := by rw [← HGM.out]; exact List.mem_map.2 ⟨g, hg, rfl⟩
   obtain ⟨a, ha, e⟩ := List.mem_map.1 h1
   have h2 := HOK.out a (HAL.out a ha)
   rw [e] at h2
   exact h2
  rw [← hgl]
  refine z5_.fin HH.out.2.1 HB.out.1 (Nat.le_succ _) (RfS.rfl' f) (HM2.out.1.below HBR.out) (Off.of HBR.out) HO4.out HH.out.1.hp HH.out.1.hb (y := ⟨0, oa, oc, G⟩) ?_ ⟨by show G.length <= 1000000; omega, fun p hp => pr_ok (hprk p hp)⟩ ?_ Xt16
  ·rw [HCD.out, ← HWN.out, HFN.out]
   show ((0, G.map prC), f.P) = _
   rw [HGM.out]
  ·intro W' o'
   have how := zm_ HOW.out o' (fun b hb => Nat.lt_of_lt_of_le (HM2.out.2 b hb) (Nat.le_trans HB24.out.size HBL.out.size))
   exact yi_ (by rw [hgl]; exact how) rfl fun g hg => ((HGS.out g hg).less (fun k hk => .inl (.inl hk))) W' o') : p := h
theorem Xb8 {p : Prop} (h : p := by
  have HBR := hid (show Below w2.heap.size w2 wr from Off.below (HB24.out.trans (HBL.out.mono HB24.out.size)) HOF.out (Nat.le_trans HB24.out.size HBL.out.size) Xt40)
  have HXR := hid (HB.out.2 wr HBR.out).2
  have q0 := HXR.out.cell 0
  have q1 := HXR.out.cell 1
  have i0 := HXR.out.frozen 0
  have i1 := HXR.out.frozen 1
  have g0 := HBX.out.cell 0
  simp only [gtA, gtB, gtC] at q0 q1 g0
  go_wp2_with fail
  clear q0 q1 i0 i1 g0 g1 o0 o5 s1 s2 s3
  have hb4 := zg_.set2 (x := .int .i64 0) (y := .slice oa gn oc) HXR.out
  have ho4 : Off (fun k => k = w.heap.size + 1) wr ((wr.setCell ⟨w.heap.size + 1, 0, none⟩ (.int .i64 0)).setCell ⟨w.heap.size + 1, 1, none⟩ (.slice oa gn oc)) :=
   Off.set (S := fun k => k = w.heap.size + 1) (Off.set (S := fun k => k = w.heap.size + 1) (Off.refl _ wr) ⟨w.heap.size + 1, 0, none⟩ rfl _) ⟨w.heap.size + 1, 1, none⟩ rfl _
  revert hb4 ho4
  generalize (wr.setCell ⟨w.heap.size + 1, 0, none⟩ (.int .i64 0)).setCell ⟨w.heap.size + 1, 1, none⟩ (.slice oa gn oc) = w4
  intro hb4 ho4
  have q0 := hb4.cell 0
  have q1 := hb4.cell 1
  have HO4 := hid ho4
  clear hb4 ho4
  first | refine bodyPost_end (v := .agg #[.int .i64 0, .slice oa gn oc]) Xt6 rfl ?_ | refine bodyPost_ret (v := .agg #[.int .i64 0, .slice oa gn oc]) Xt6 rfl ?_
  have hgl := HGL.out.1
  have hprk : ∀ g ∈ G, zH_ g.K /\ rOk (g.R.map P1.bs) := fun g hg => by
   have h1 : prC g ∈ A.map prC := by rw [← HGM.out]; exact List.mem_map.2 ⟨g, hg, rfl⟩
   obtain ⟨a, ha, e⟩ := List.mem_map.1 h1
   have h2 := HOK.out a (HAL.out a ha)
   rw [e] at h2
   exact h2
  rw [← hgl]
  refine z5_.fin HH.out.2.1 HB.out.1 (Nat.le_succ _) (RfS.rfl' f) (HM2.out.1.below HBR.out) (Off.of HBR.out) HO4.out HH.out.1.hp HH.out.1.hb (y := ⟨0, oa, oc, G⟩) ?_ ⟨by show G.length <= 1000000; omega, fun p hp => pr_ok (hprk p hp)⟩ ?_ Xt16
  ·rw [HCD.out, ← HWN.out, HFN.out]
   show ((0, G.map prC), f.P) = _
   rw [HGM.out]
  ·intro W' o'
   have how := zm_ HOW.out o' (fun b hb => Nat.lt_of_lt_of_le (HM2.out.2 b hb) (Nat.le_trans HB24.out.size HBL.out.size))
   exact yi_ (by rw [hgl]; exact how) rfl fun g hg => ((HGS.out g hg).less (fun k hk => .inl (.inl hk))) W' o') : p := h
theorem Xb9 {p : Prop} (h : p := by
  rintro lp pre x a' W hl ⟨r0, hr0⟩ ⟨⟨v, bL1, own1⟩, hB1⟩ rfl hlt
  have cL := bL1.cell
  have fL := bL1.frozen
  have hw2 : w.heap.size + 1 <= W.heap.size := by have := (Array.getElem?_eq_some_iff.1 hr0).1; omega
  clear hr0
  have HPL := hid (show (ss0 ++ pre).length < 2000000 by rw [List.length_append]; have := HN.out; have := HSS.out; omega)
  clear hlt
  gi_wp2_with (gi_at_builtin; refine wpListIn_append_own _ rfl _ _ 134 rfl base 9 i0 (.string ⟨#[]⟩) 1 16 underlying134 hi hz0 hz1 hz2 rfl Xt4 _ _ _ rfl (own1.alloc _) ⟨W.heap.size, 0, none⟩ 1 1 [.string (strOfNums x)] rfl rfl Xt14 Xt46 Xt48 Xt66 Xt7 ?_)
  intro v' W1 hown' hgrow _
  have hne : some w.heap.size ≠ v.ownBlock := fun e => by
   obtain ⟨_, _, cur, hb⟩ := zb_ own1 e.symm
   exact zo_ hb (show zg_ W w.heap.size #[v] 134 from bL1) Xt4 rfl
  have bL2 : Boxed W1 w.heap.size 134 v := (bL1.alloc _).kept hgrow hne
  have ko := (KeepsOthers.alloc W (.cells #[.string (strOfNums x)] 9)).trans (yZ_ (own1.alloc _) hgrow)
  have hB2 : Below base w W1 := (hB1.alloc Xt0 _).grown hgrow Xt7 (fun j hj => (own1.lt j hj).1)
  have cL2 := bL2.cell
  have fL2 := bL2.frozen
  have hl2 := bL2.lt
  have hown2 : W1.ownsRow base 9 1 v' (ss0 ++ (pre ++ [x])).length (cellsOf skv (ss0 ++ (pre ++ [x]))) := by
   have e : (ss0 ++ (pre ++ [x])).length = ss0.length + pre.length + 1 := by simp; omega
   rw [e, ← List.append_assoc, zq_]
   exact hown'
  clear cL fL bL1 hgrow own1 hown'
  obtain ⟨g, gc, rfl⟩ := zd_ hown2
  gi_wp2_with fail
  refine ⟨(ko.trans (KeepsOthers.setCell _ _ _)).from _, (ko.trans (KeepsOthers.setCell _ _ _)).walks, ⟨_, xS_ _ _ _ _ _ bL2, ?_⟩, hB2.setCell (p := ⟨w.heap.size, 0, none⟩) hbase _⟩
  have hfin := fun u => ownsRow_setCell_other (a := ⟨w.heap.size, 0, none⟩) hown2 (fun e => by
   obtain ⟨_, _, cur, hb⟩ := zb_ hown2 e
   exact zo_ hb (show zg_ W1 w.heap.size #[v] 134 from bL2) Xt4 rfl) u
  have hlen : (ss0 ++ (pre ++ [x])).length = ss0.length + (pre.length + 1) := by simp
  rw [hlen] at hfin ⊢
  exact hfin _) : p := h
theorem Xb10 {p : Prop} (h : p := by
  have HC1 := hid (show Op.bytesLess (strOfNums a.K).toList (strOfNums F).toList = true by rw [yk_ (HLB.out a HAM.out) HFB.out.1]; exact hc1)
  have HSK := hid (show (ltL a.K F || (en && !ltL a.K U)) = true by rw [hc1]; rfl)
  clear hc1
  refine rgw wr (Below.refl _ _).drew fun hH => ?_
  refine tkq4 0 1 2 3 ?_
  refine tkr 4 rfl Xf14 ?_
  refine tkr 5 rfl Xf11 ?_
  refine tkq 6 ?_
  refine tkr 7 rfl Xf8 ?_
  refine tkr 8 rfl Xf5 ?_
  refine tkp 9 (.bool true) rfl (.inl ⟨by rfl, ?_⟩) ?_
  ·intro W hSw; go_simp; try (first | exact HC1.out | rfl)
  refine tkq 10 ?_
  refine tkn 11 ?_
  refine tkn 12 ?_
  refine tkn 13 ?_
  refine tkn 14 ?_
  refine tkn 15 ?_
  refine tkn 16 ?_
  refine tkn 17 ?_
  refine tkn 18 ?_
  refine tkn 19 ?_
  refine tkn 20 ?_
  refine tkn 21 ?_
  refine tkn 22 ?_
  refine tkn 23 ?_
  refine tkn 24 ?_
  refine tkq 25 ?_
  refine adn ?_
  skip
  obtain ⟨w9, hw9⟩ := gty (wr.drew)
  try rw [← hw9] at hH ⊢
  have HB9 := hid (show Below wr.heap.size wr w9 from hH)
  clear hH hw9
  go_wp2_with fail
  go_roundw
  case rel => exact ⟨k + 1, gn, A, G, oa, oc, by omega, by go_num, by omega, HGL, hid Xt21, HGM, HAL, hid (HBX.out.below HB9.out), hid (ze_ HOW.out HB9.out), hid (fun g hg => (HGS.out g hg).below HB9.out), hid (HOF.out.then HB9.out)⟩
  case measure => simp [intOf]; omega) : p := h
theorem Xb11 {p : Prop} (h : p := by
  have hB := FB.out _ HB3.out
  have q0 := hB.cell 0
  have q1 := hB.cell 1
  have q2 := hB.cell 2
  have q3 := hB.cell 3
  simp only [gtA, gtB, gtC] at q0 q1 q2 q3
  have z0 : w3.frozen? ⟨w.heap.size + 1 + 1, 0, none⟩ = false := frozen_of_row w3 _ 0 _ 169 hB
  have z1 : w3.frozen? ⟨w.heap.size + 1 + 1, 1, none⟩ = false := frozen_of_row w3 _ 1 _ 169 hB
  have z2 : w3.frozen? ⟨w.heap.size + 1 + 1, 2, none⟩ = false := frozen_of_row w3 _ 2 _ 169 hB
  have z3 : w3.frozen? ⟨w.heap.size + 1 + 1, 3, none⟩ = false := frozen_of_row w3 _ 3 _ 169 hB
  have HS4 := hid (set4 hB (za_ HB0.out HB3.out) Xt0 Xt5 Xt5 Xt5 Xt5 (.int .i64 0) (.slice none 0 0) (.slice none 0 0) (.bool false))
  clear hB
  go_wp2_with fail
  refine bodyPost_ret (v := .tuple #[.agg #[.int .i64 0, .slice none 0 0, .slice none 0 0, .bool false], .int .i64 2]) ?_ rfl ⟨⟨none, 0, none, 0, by rw [HV.out]; rfl, by rw [HV.out]; exact Ls.nul _ _, by rw [HV.out]; exact Ls.nul _ _⟩, HS4.out.bel⟩
  have x0 := HS4.out.box.cell 0
  have x1 := HS4.out.box.cell 1
  have x2 := HS4.out.box.cell 2
  have x3 := HS4.out.box.cell 3
  simp only [gtA, gtB, gtC] at x0 x1 x2 x3
  simp [results, results105, go_sem, x0, x1, x2, x3]) : p := h
theorem Xb12 {p : Prop} (h : p := by
  go_wp2_with (at_builtin; refine zv_ xn_ rfl _ _ rfl w.heap.size (.slice va acc.length vc) acc.length (zi_ (acc.map EnV.p)) rfl (HOV5.out.alloc _) ⟨w5.heap.size, 0, none⟩ 1 1 [.slice e.p.ka e.p.K.length e.p.kc, .slice e.p.ra e.p.R.length e.p.rc] rfl rfl (zx_ w5 _ _ _ rfl) Xt12 hap Xt7 ?_; intro v8 w8 hown8 hgrow8 _; have HO8 := hid hown8; have HG8 := hid hgrow8; clear hown8 hgrow8)
  have HB8 := hid (Off.below (za_ HB6.out (bl1 w5 (.cells #[.slice e.p.ka e.p.K.length e.p.kc, .slice e.p.ra e.p.R.length e.p.rc] 78))) (Off.of_row HG8.out) (by have := HB6.out.size; simp; omega) (fun k hk => (zb_ HOV5.out hk).1))
  go_roundw
  case rel =>
   refine ⟨k + 1, acc ++ [e], by omega, by go_num, HWN, hid (fun q hq => ?_), by rw [List.length_append, List.length_singleton]; omega, hid ?_, hid ?_, HB8⟩
   ·rcases List.mem_append.1 hq with hq | hq
    ·exact HAC.out q hq
    ·rw [List.mem_singleton] at hq; subst hq; exact HEM.out
   ·rw [List.length_append, List.map_append, zw_]; exact HO8.out
   ·refine (Off.of_row HG8.out).box ((HSP.out).alloc _) (fun hk => ?_)
    obtain ⟨_, _, cur, hb⟩ := zb_ HOV5.out hk
    exact zo_ hb HSP.out Xt4 rfl
  case measure => simp [intOf]; omega) : p := h
theorem Xb13 {p : Prop} (h : p := by
  obtain ⟨left, cnt, ss, hrg, hcs, hC, hJs⟩ := hrel
  gi_wp2_with (first
   | (gi_at_next; refine wpListIn_next_ranges _ rfl _ rfl 9 law9 RF Value.string (fun v : Value => v) Xt10 (fun v y _ => ⟨v, rfl⟩) b W.heap.size L.length _ _ _ rfl hrg ?_ ?_)
   | gi_in)
  ·intro hc0 hl0
   gi_wp2
   go_end0
   exact ⟨⟨_, rfl⟩, .inl ⟨ss, hC.all hl0, hJs⟩⟩
  ·intro s c kl yd yp w2 cnt2 hkey hlk hv hat hrg2 hlt hg2 hs2 hen
   obtain ⟨K, hKm, es, ek⟩ := key_in hkey hat
   subst es
   subst ek
   have hJ2 : J ss w2 := hJ ss wr w2 (some W.heap.size) hJs hg2 Xt69
   obtain ⟨fn, tmps, assign, body, hy, hR⟩ := hY ss K w2 hJ2 Xt0
   dsimp only [encK] at hy
   clear hs2
   gi_wp2
   refine hR.mono ?_
   have hC2 := hC.step HBY.out hKm hlk
   rintro e W3 (⟨rfl, hJ3, hk3⟩ | ⟨rfl, hJx3⟩)
   ·gi_wp2
    have hrg3 := hrg2.of_walks hk3
    go_roundw
    case rel => exact ⟨_, cnt2, ss ++ [K], hrg3, by simp; omega, hC2, hJ3⟩
    case measure => rw [hrg3.left_eq, hrg.left_eq]; exact hlt
   ·gi_wp2
    refine bodyPost_ret (results_none rfl _ _ _) rfl ?_
    exact ⟨⟨_, rfl⟩, .inr ⟨ss ++ [K], trivial, hJx3⟩⟩) : p := h
theorem Xb14 {p : Prop} (h : p := by
  go_wp2_with fail
  go_ret
  exact ⟨by rw [HF.out (decide_eq_false Xt0)]; rfl, HB1.out⟩) : p := h
theorem Xb15 {p : Prop} (h : p := by
  go_wp2_with fail
  go_quiet (fail)
  go_wp2_with fail
  go_ret
  exact ⟨zc_ Xt1, za_ HB0.out (za_ HBW.out (zl_ (Below.refl _ _) _))⟩) : p := h
theorem Xb16 {p : Prop} (h : p := by
  go_wp2_with fail
  go_roundw
  case rel => exact ⟨k + 1, gn, A, G, oa, oc, by omega, by go_num, by omega, HGL, hid Xt21, HGM, HAL, hid (HBX.out.below HB9.out), hid (ze_ HOW.out HB9.out), hid (fun g hg => (HGS.out g hg).below HB9.out), hid (HOF.out.then HB9.out)⟩
  case measure => simp [intOf]; omega) : p := h
theorem Xb17 {p : Prop} (h : p := by
  intro W hSw; go_simp; try (first | rfl | (simp; done) | (simp; omega) | omega)) : p := h
theorem Xb18 {p : Prop} (h : p := by
  go_wp2_with fail
  go_ret
  exact ⟨zc_ Xt9, za_ HB0.out HBW.out⟩) : p := h
theorem Xb19 {p : Prop} (h : p := by
  go_wp2
  go_ret
  exact ⟨rfl, rfl⟩) : p := h
theorem Xb20 {p : Prop} (h : p := by
  intro W hSw; go_simp; try (first | rfl | exact hx0 | exact hx1 | (simp [hx0]; done) | (simp [hx0, hx1]; done) | (simp; omega))) : p := h
theorem Xb21 {p : Prop} (h : p := by
  by_cases h : k < 0 ∨ 6 < k
  ·rw [jD_ k h, Bool.eq_iff_iff]
   simp; omega
  ·obtain ⟨n, rfl⟩ : ∃ n : Nat, k = (n : Int) := ⟨k.toNat, by omega⟩
   have hn : n <= 6 := by omega
   rw [kf_in n hn]
   rcases (show n = 0 ∨ n = 1 ∨ n = 2 ∨ n = 3 ∨ n = 4 ∨ n = 5 ∨ n = 6 by omega) with rfl | rfl | rfl | rfl | rfl | rfl | rfl <;> rfl) : p := h
theorem Xb22 {p : Prop} (h : p := by
  simp only [Bool.false_eq_true, if_false, ↓reduceIte] at HP
  obtain ⟨mk, hmk⟩ := gtx (yA_ kn)
  rw [hmk] at HP
  have HMK := hid hmk
  clear hmk
  go_wp2_with fail
  refine (zN_ _ _ _ _).mono ?_; rintro r w9 ⟨rfl, rfl⟩
  rw [HMK.out]
  cases mk
  ·go_wp2_with fail
   go_ret
   exact ⟨zc_ Xt9, za_ HB0.out HB5.out⟩
  by_cases ht0 : tn = 0
  ·subst ht0
   go_wp2_with fail
   go_ret
   exact ⟨zc_ Xt29, za_ HB0.out HB5.out⟩
  ·have ht1 : ((tn : Int) == 0) = false := by simpa using ht0
   have ht2 : (tn == 0) = false := by simpa using ht0
   rw [ht2] at HP
   clear ht2
   go_wp2_with fail
   go_ret
   exact ⟨zc_ Xt9, za_ HB0.out HB5.out⟩) : p := h
theorem Xb23 {p : Prop} (h : p := by
  intro W hSw; go_simp; try (first | exact hnp | rfl | (simp only [hne]; done) | (simp [hne]; done))) : p := h
theorem Xb24 {p : Prop} (h : p := by
  go_enter func122, ntmps122
  go_wp2_with fail
  generalize ((w.alloc (.cells #[.int .i64 k, .int .i64 tb, .int .i64 ix, .slice ka kn kc, .slice ta tn tc, .int .i64 mo, .slice ra rn rc] 74)).alloc (.cells #[.bool false, .bool false, .bool false, .bool false, .bool false, .bool false] 197)) = W0 at *
  refine bodyPost_ret (v := .agg #[.bool false, .bool false, .bool false, .bool false, .bool false, .bool false]) ?_ rfl ⟨rfl, b0⟩
  have x0 := hr.cell 0
  have x1 := hr.cell 1
  have x2 := hr.cell 2
  have x3 := hr.cell 3
  have x4 := hr.cell 4
  have x5 := hr.cell 5
  simp only [gtA, gtB, gtC] at x0 x1 x2 x3 x4 x5
  simp [results, results122, go_sem, x0, x1, x2, x3, x4, x5]) : p := h
theorem Xb25 {p : Prop} (h : p := by
  have x0 := HS4.out.box.cell 0
  have x1 := HS4.out.box.cell 1
  have x2 := HS4.out.box.cell 2
  have x3 := HS4.out.box.cell 3
  simp only [gtA, gtB, gtC] at x0 x1 x2 x3
  simp [results, results141, go_sem, x0, x1, x2, x3]) : p := h
theorem Xb26 {p : Prop} (h : p := by
  go_wp2_with fail
  try rw [Exit.noGoto_ret]
  go_ret
  obtain ⟨hcn, hna⟩ := zJ_ HOV5.out
  refine ⟨va, vc, by rw [HWN.out]; rfl, HB6.out, by rw [HWN.out]; exact hcn, hna, ?_⟩
  rw [HWN.out]
  exact HOV5.out) : p := h
theorem Xb27 {p : Prop} (h : p := by
  go_wp2_with fail
  go_ret
  exact ⟨zc_ Xt9, za_ HB0.out HB5.out⟩) : p := h
theorem Xb28 {p : Prop} (h : p := by
  go_wp2_with fail
  go_ret
  exact ⟨zc_ Xt9, za_ HB0.out (za_ HBW.out (zl_ (Below.refl _ _) _))⟩) : p := h
theorem Xb29 {p : Prop} (h : p := by
  go_wp2_with fail
  go_ret
  exact ⟨rfl, Below.refl _ _⟩) : p := h
theorem Xb30 {p : Prop} (h : p := by
  unfold Oper.wp execOp
  simp only [ho, resolve, invoke, builtin, Sem.run_bind, Sem.run_pure, Result.andThen_ok, List.map_toArray, List.map_cons, List.map_nil, hs, hx, h1]
  exact h v' w' h2 h3) : p := h
theorem Xb31 {p : Prop} (h : p := by
  intro W hSw; go_simp; try (first | rfl | (simp; done) | exact d1 | omega)) : p := h
theorem Xb32 {p : Prop} (h : p := by
  go_enter func52, ntmps52
  go_wp2_with (go_at_call 51; refine HM.out.mono ?_; rintro e w' ⟨rfl, rfl⟩)
  go_ret
  refine ⟨?_, rfl⟩; first | (simp [a, b]; done) | (simp [a, Int.not_lt.2 b]; done) | (simp [Int.not_le.2 a]; done) | (simp [a]; done)) : p := h
theorem Xb33 {p : Prop} (h : p := by
  intro v4 w4 hown4 hgrow4 _
  have b4 : Below w.heap.size w3 w4 := ((Below.refl _ w3).alloc hs3 _).grown hgrow4 Xt7 (fun j hj => (R2.out.lt j hj).1)
  have HT4 := hid (cpR_next R' R1.out R2.out R3.out p HPP.out q HQ.out a1 c1 HO.out hown4 hgrow4)
  have HB4 := hid ((za_ B B3).trans b4)
  clear b4 hown4 hgrow4 B3 B
  go_wp2_with fail
  go_roundw
  case rel => exact ⟨k + 1, by omega, by go_num, HT4.out, HB4.out⟩
  case measure => simp [intOf]; omega) : p := h
theorem Xb34 {p : Prop} (h : p := by
  refine adn ?_
  obtain ⟨wz, hwz⟩ := gty (wr.drew)
  rw [← hwz] at hH ⊢
  have HWZ := hid (show Below wr.heap.size wr wz from hH)
  clear hH hwz
  go_wp2_with fail
  go_meet
  exact ⟨by rw [HQV.out], HWZ⟩) : p := h
theorem Xb35 {p : Prop} (h : p := by
  intro W hSw; go_simp; try (first | rfl | exact d5 | (simp; done) | (simp; omega) | omega)) : p := h
theorem Xb36 {p : Prop} (h : p := by
  refine tkn 9 ?_
  refine tkn 10 ?_
  refine tkn 11 ?_
  refine tkn 12 ?_
  refine tkn 13 ?_
  refine tkn 14 ?_
  refine tkn 15 ?_
  refine tkn 16 ?_
  refine tkn 17 ?_
  refine tkn 18 ?_
  refine tkq 19 ?_
  refine adn ?_
  skip
  go_wp2_with fail
  go_ret
  exact ⟨none, 0, [], rfl, hH, rfl, fun p hp => (nomatch hp), Nat.le_refl _, fun _ => rfl, Nat.zero_le _, fun S' _ W' _ k x hx => by simp at hx⟩) : p := h
theorem Xb37 {p : Prop} (h : p := by
  intro v3 w3 hown3 hgrow3
  rw [← zI_] at hown3
  have B3 := (B2.alloc hs2 _).grown hgrow3 Xt7 (fun j hj => (HOWN2.out.lt j hj).1)
  have HOWN3 := hid hown3
  clear hown3 hgrow3
  go_wp2_with fail
  go_roundw
  case rel => exact ⟨k + 1, by omega, by go_num, by rw [HF2.out, HQ.out, ← List.append_assoc, List.length_append, List.length_append, HM.out]; exact HOWN3.out, B3⟩
  case measure => simp [intOf]; omega) : p := h
theorem Xb38 {p : Prop} (h : p := by
  cases q with
  | none => exact ⟨_, hr⟩
  | some R => obtain ⟨v, e, _⟩ := hr; exact ⟨v, e⟩) : p := h
theorem Xb39 {p : Prop} (h : p := by
  refine adn ?_
  have H9 := hid (za_ BW.out hH)
  clear hH
  go_wp2_with fail
  try rw [Exit.noGoto_ret]
  go_ret
  exact ⟨zc_ (HN.out (by rw [HOB.out, HK'.out]; rfl)).symm, za_ HB0.out H9.out⟩) : p := h
theorem Xb40 {p : Prop} (h : p := by
  go_wp2_with fail
  go_meet
  exact ⟨hid (HF.out.more Xt0 Xt0), HBW⟩) : p := h
theorem Xb41 {p : Prop} (h : p := by
  rintro Dd zs W hD hzs ⟨⟨v, bL1, own1⟩, hB1⟩ hK
  have cL := bL1.cell
  have HZ := hid hzs
  clear hzs
  gi_wp2
  refine ⟨by simp, .inl ⟨_, _, rfl, run_takeDeferred hK, ?_⟩⟩
  refine ⟨v, ?_, zs, v, rfl, HZ.out, yI_ own1 (grownBy_putObj' W Dd (.deferred none)) Xt59, hB1.trans (belowK_b (w := w) hbase W Dd _ _ Xt0 hK rfl rfl)⟩
  simp [results, f108, go_sem]) : p := h
theorem Xb42 {p : Prop} (h : p := by
  go_enter func54, ntmps54
  go_wp2_with fail
  refine H.out.mono ?_; rintro e w' ⟨⟨v, rfl⟩, B⟩
  go_wp2_with fail
  go_ret
  exact ⟨rfl, B⟩) : p := h
theorem Xb43 {p : Prop} (h : p := by
  rw [← HAT.out, HDR.out]
  show _ = atW (t, o.K) (L.drop (m + 1)) (m + 1) (if ltQ (wk ym.P) (t, o.K) = true then m + 1 else a)
  rw [HQ.out, HA2.out]) : p := h
theorem Xb44 {p : Prop} (h : p := by
  intro v2 w2 hown2 hgrow2
  have B2 := ((Below.refl w.heap.size w).alloc (Nat.le_refl _) _).grown hgrow2 Xt5 Xt56
  obtain ⟨a', c', rfl, l', _⟩ := yy_ hown2 HL.out
  have H2 := hid hown2
  clear hown2 hgrow2
  go_wp2_with fail
  go_ret
  exact ⟨⟨a', c', rfl, by simpa using H2.out⟩, B2⟩) : p := h
theorem Xb45 {p : Prop} (h : p := by
  have := hc 0 Xt0; rw [Nat.add_zero] at this; rw [Nat.zero_add]; exact this) : p := h
theorem Xb46 {p : Prop} (h : p := by
  go_wp2_with fail
  go_ret3
  obtain ⟨rfl, rfl, rfl⟩ := HR.out
  exact ⟨none, 0, none, 0, rfl, Ls.nul _ _, fun _ _ _ _ => Ls.nul _ _, B⟩) : p := h
theorem Xb47 {p : Prop} (h : p := by
  go_wp2_with fail
  go_ret
  exact ⟨by rw [HV.out]; rfl, HB9.out⟩) : p := h
theorem Xb48 {p : Prop} (h : p := by
  have h9 := HHA.out
  rw [HDR.out] at h9
  unfold hasW at h9 ⊢
  rw [List.any_cons, HCD.out, ← Bool.or_assoc, HCV.out] at h9
  exact h9) : p := h
theorem Xb49 {p : Prop} (h : p := by
  simp only [gtA, gtB, gtC] at x0 x1 x2 x3
  simp [results, results105, go_sem, x0, x1, x2, x3]) : p := h
theorem Xb50 {p : Prop} (h : p := by
  intro W hSw; go_simp; try (first | exact HC1.out | rfl)) : p := h
theorem Xb51 {p : Prop} (h : p := by
  go_wp2_with fail
  go_roundw
  case rel => exact ⟨k + 1, by omega, by go_num, HEN, HB9⟩
  case measure => simp [intOf]; omega) : p := h
theorem Xb52 {p : Prop} (h : p := by
  go_wp2_with fail
  go_ret
  exact ⟨⟨true, rfl, fun h => by cases h⟩, BB.out⟩) : p := h
theorem Xb53 {p : Prop} (h : p := by
  go_wp2_with fail
  go_meet
  exact ⟨by rw [hw]; rfl, rfl⟩) : p := h
theorem Xb54 {p : Prop} (h : p := by
  have HB9 := hid (Off.below HBW.out ho9 HBW.out.size (fun q hq => hq))
  clear hf9 ho9 q0 q1 q2
  go_wp2_with fail
  go_roundw
  case rel => exact ⟨k + 1, by omega, by omega, by go_num, hid (HF9.out.more Xt0 Xt0), HB9⟩
  case measure => simp [intOf]; omega) : p := h
theorem Xb55 {p : Prop} (h : p := by
  go_wp2_with fail
  go_ret
  exact ⟨zc_ HA.out.symm, rfl⟩) : p := h
theorem Xb56 {p : Prop} (h : p := by
  go_wp2_with fail
  refine (qJ_ x.ka y.ka x.K y.K _ _ x.kc y.kc rfl rfl HB.out.1 HB.out.2 _ HL.out.1 HL.out.2).mono ?_; rintro r w' ⟨rfl, rfl⟩
  go_wp2_with fail
  go_ret
  exact ⟨rfl, 0, _, by rw [alloc_eq_grow, alloc_eq_grow, grow_grow]; rfl⟩) : p := h
theorem Xb57 {p : Prop} (h : p := by
  clear HZ
  go_enter func85, ntmps85
  go_wp2_with fail
  refine HW.out.mono ?_; rintro r w' ⟨rfl, B1⟩
  have HB := hid (za_ HBW.out B1)
  clear B1
  go_wp2_with fail
  go_ret2
  exact ⟨rfl, HB.out.alloc HB.out.size _⟩) : p := h
theorem Xb58 {p : Prop} (h : p := by
  intro W hSw; go_simp; try (first | rfl | (simp; done) | exact d0 | omega)) : p := h
theorem Xb59 {p : Prop} (h : p := by
  go_wp2_with fail
  go_ret
  exact ⟨zc_ Xt29, za_ HB0.out HBW.out⟩) : p := h
theorem Xb60 {p : Prop} (h : p := by
  go_wp2_with fail
  go_ret
  exact ⟨zc_ Xt29, za_ HB0.out HB5.out⟩) : p := h
theorem Xb61 {p : Prop} (h : p := by
  have e1 : ltL x.1 K = false := by rw [e, zR_]
  have e2 : ltL K x.1 = false := by rw [e, zR_]
  rw [List.filter_cons_of_neg (by simp [e]), List.filter_cons_of_neg (by simp [e1]), List.filter_cons_of_neg (by simp [e2]), ih]) : p := h
theorem Xb62 {p : Prop} (h : p := by
  rw [Nat.mul_one, Nat.add_zero] at this
  exact this) : p := h
theorem Xb63 {p : Prop} (h : p := by
  obtain ⟨h1, h2⟩ := HMP.out b hb
  refine ⟨((h1.off HF9.out fun e => ?_).off oP fun e => ?_), h2⟩
  ·obtain ⟨_, _, cur, hb⟩ := zb_ HOW.out e
   exact h1.ne_box hb rfl
  ·exact h1.ne_box HXP.out e) : p := h
theorem Xb64 {p : Prop} (h : p := by
  go_wp2_with fail
  go_ret2
  exact HR.out _ _ ⟨rfl, HB2.out⟩) : p := h
theorem Xb65 {p : Prop} (h : p := by
  refine tkq3 27 28 29 ?_
  refine adn ?_
  skip
  refine hKK _ _ ?_
  have HBZ := hid (za_ HB9.out hH)
  clear hH
  go_wp2_with fail
  go_ret2
  exact ⟨by rw [HC.out, HH.out]; rfl, HBZ.out⟩) : p := h
theorem Xb66 {p : Prop} (h : p := by
  have := hc 1 Xt0; rw [Nat.zero_add]; exact this) : p := h
theorem Xb67 {p : Prop} (h : p := by
  go_wp2_with fail
  go_roundw
  case rel => exact ⟨k + 1, by omega, by go_num, by rw [HF2.out, HQ.out, List.length_append, HM.out]; exact HOWN2.out, B2⟩
  case measure => simp [intOf]; omega) : p := h
theorem Xb68 {p : Prop} (h : p := by
  go_wp2_with fail
  go_roundw
  case rel => exact ⟨k + 1, by have := HLT.out; omega, by go_num, by rw [HN.out, HOB.out]; rfl, H5⟩
  case measure => simp [intOf]; have := HLT.out; omega) : p := h
theorem Xb69 {p : Prop} (h : p := by
  intro W hSw; go_simp; try (first | rfl | exact hx0 | (simp [hx0, hx1]; done) | (simp; omega))) : p := h
theorem Xb70 {p : Prop} (h : p := by
  have HC := hid hc
  have HB1 := hid (za_ hH hb1)
  have HS := hid hH.size
  clear hc hb1 hH
  go_wp2_with fail
  go_ret2
  exact ⟨⟨v, rfl, HC.out.lo HS.out⟩, HB1.out⟩) : p := h
theorem Xb71 {p : Prop} (h : p := by
  have h1 : z.P ∈ f.Ts.map TbV.P := by rw [← hcT]; exact List.mem_map.2 ⟨z, hz, rfl⟩
  obtain ⟨y, hy, e⟩ := List.mem_map.1 h1
  have := hN y hy
  rw [← e]; omega) : p := h
theorem Xb72 {p : Prop} (h : p := by
  rcases hq with hq | hq | hq
  ·exact .inl (.inl hq)
  ·exact .inl (.inr (.inl hq))
  ·rcases hnew q hq with e | e
   ·exact .inl (.inr (.inr e))
   ·exact .inr Xt0) : p := h
theorem Xb73 {p : Prop} (h : p := by
  simp only [List.cons.injEq, and_true] at hcs
  subst hcs
  exact ⟨none, [], 0, 0, rfl, rfl, fun k o ho => by simp at ho, Nat.zero_le _, fun o ho => by simp at ho⟩) : p := h
theorem Xb74 {p : Prop} (h : p := by
  refine ⟨S, x, ⟨6, none, 0, []⟩, rfl, TSt.same HH.out.1 (by
   refine Off.below HBW.out HO4.out HBW.out.size Xt37), rfl, yb_ _, fun W' o => yg_.nil _ _, rfl⟩) : p := h
theorem Xb75 {p : Prop} (h : p := by
  go_wp2_with fail
  go_ret
  exact ⟨by rw [HNE.out]; rfl, Below.refl _ _⟩) : p := h
theorem Xb76 {p : Prop} (h : p := by
  go_wp2_with fail
  go_ret
  exact ⟨by rw [HV.out]; rfl, Below.refl _ _⟩) : p := h
theorem Xb77 {p : Prop} (h : p := by
  go_wp2_with fail
  refine HQC.out.mono ?_; rintro r w3 ⟨rfl, B3⟩
  go_wp2_with fail
  go_ret
  exact ⟨zc_ (by rw [HDF.out]; rfl), za_ HB0.out B3⟩) : p := h
theorem Xb78 {p : Prop} (h : p := by
  intro W hSw; go_simp; try (first | exact d6 | rfl)) : p := h
theorem Xb79 {p : Prop} (h : p := by
  go_wp2_with fail
  go_meet
  exact ⟨cc, hid ⟨HC4.out.tw, HC4.out.hc, HC4.out.cs, HC4.out.ap, fun z hz => Nat.le_trans (HC4.out.cl z hz) Xt0⟩, HBR⟩) : p := h
theorem Xb80 {p : Prop} (h : p := by
  go_ret
  exact ⟨m, by rw [HV.out]; rfl, HH.out.below HB5.out, zC_.rfl' m, by rw [HV.out]; rfl, Off.of HB5.out, fun N h z hz => by have := h z hz; omega⟩) : p := h
theorem Xb81 {p : Prop} (h : p := by
  have e : ∀ l : List TbV, l.map tbC = (l.map TbV.P).map (fun p => p.map prC) := fun l => by rw [List.map_map]; rfl
  unfold Rf.P
  rw [e, e, hcT]) : p := h
theorem Xb82 {p : Prop} (h : p := by
  go_wp2_with fail
  go_ret3
  obtain ⟨rfl, rfl, rfl⟩ := HR.out
  exact ⟨none, 0, none, 0, rfl, Ls.nul _ _, fun _ _ _ _ => Ls.nul _ _, B2⟩) : p := h
theorem Xb83 {p : Prop} (h : p := by
  have := hc 2 Xt0; rw [Nat.zero_add]; exact this) : p := h
theorem Xb84 {p : Prop} (h : p := by
  go_wp2_with fail
  go_ret
  exact ⟨by rw [HV.out]; rfl, HBW.out⟩) : p := h
theorem Xb85 {p : Prop} (h : p := by
  go_wp2_with fail
  go_ret
  exact ⟨by rw [HO.out]; rfl, HB1.out⟩) : p := h
theorem Xb86 {p : Prop} (h : p := by
  have e1 := (Prod.mk.inj (RF_inv hv)).1
  have h2 : DataW.held (RV.v r0) = DataW.held c := h1.trans e1
  injection h2 with h2
  exact h2.symm) : p := h
theorem Xb87 {p : Prop} (h : p := by
  clear hb8
  go_wp2_with fail
  go_ret
  exact ⟨rfl, HB8.out⟩) : p := h
theorem Xb88 {p : Prop} (h : p := by
  split
  ·rename_i hs
   rw [if_pos hs, if_pos hs] at this; exact this
  ·rename_i hs
   rw [if_neg hs, if_neg hs] at this; exact this) : p := h
theorem Xb89 {p : Prop} (h : p := by
  obtain ⟨_, _, cur, hb⟩ := zb_ HO9.out hg
  exact zo_ hb hP9 Xt4) : p := h
theorem Xb90 {p : Prop} (h : p := by
  have h2 := h1.off (Off.of_row HG9.out) (fun e => Nat.lt_irrefl _ (hbwv _ e))
  exact ⟨h2.off oP (fun e => h2.ne_box hP9 e), HB.out.size⟩) : p := h
theorem Xb91 {p : Prop} (h : p := by
  rcases HAT8.out with e | e
  ·exact .inl (e ▸ hb)
  ·rw [World.size_alloc] at e
   rw [hb] at e
   exact .inr (by cases e; rfl)) : p := h
theorem Xb92 {p : Prop} (h : p := by
  go_wp2_with fail
  go_roundw
  case rel => exact ⟨k + 1, by omega, by go_num, HN2, trivial⟩
  case measure => simp [intOf]; omega) : p := h
theorem Xb93 {p : Prop} (h : p := by
  rcases List.mem_append.1 h with h | h
  ·exact .inr h
  ·rw [List.mem_singleton] at h; subst h; exact .inl (List.mem_cons_self ..)) : p := h
theorem Xb94 {p : Prop} (h : p := by
  unfold zE_
  rw [HO.out.po, h3, h4]; rfl) : p := h
theorem Xb95 {p : Prop} (h : p := by
  go_roundw
  case rel => exact ⟨k + 1, by omega, by go_num, by rw [HN.out]; rfl, trivial⟩
  case measure => simp [intOf]; omega) : p := h
theorem Xb96 {p : Prop} (h : p := by
  intro hh
  rcases List.mem_cons.1 hh with hh | hh
  ·rw [← hh]; rfl
  ·have := h1 _ hh
   rw [e, zR_] at this; cases this) : p := h
theorem Xb97 {p : Prop} (h : p := by
  rintro ⟨v, h1, h2, h3⟩
  exact ⟨v, by rw [List.getElem?_append_left (List.getElem?_eq_some_iff.1 h1).1]; exact h1, h2, h3⟩) : p := h
theorem Xb98 {p : Prop} (h : p := by
  rintro lp pre x W K hI hK
  dsimp only [encK]
  gi_wp2
  exact hK _ _ ((KeepsOthers.refl _).from _) (KeepsWalks.refl _) hI rfl) : p := h
theorem Xb99 {p : Prop} (h : p := by
  simp only [Bool.false_eq_true, ↓reduceIte]
  go_wp2_with fail
  go_meet
  exact ⟨by rw [← HBS.out]; rfl, HBW⟩) : p := h
theorem Xb100 {p : Prop} (h : p := by
  go_wp2_with fail
  try rw [Exit.noGoto_ret]
  go_ret
  exact ⟨by rw [HO.out (decide_eq_false Xt0)]; rfl, HB1.out⟩) : p := h
theorem Xb101 {p : Prop} (h : p := by
  rw [UInt8.lt_iff_toNat_lt, UInt8.toNat_ofNat', UInt8.toNat_ofNat', Nat.mod_eq_of_lt Xt0, Nat.mod_eq_of_lt Xt0]
  omega) : p := h
theorem Xb102 {p : Prop} (h : p := by
  refine ⟨.bool true, ?_, rfl, Off.below hbl op hbl.size (fun j hj => by omega)⟩
  simp [results, f46, go_sem, hfin]) : p := h
theorem Xb103 {p : Prop} (h : p := by
  have : l = [] := List.length_eq_zero_iff.1 Xt0
  subst this h0
  exact ⟨none, 0, e, fun k p hp => by simp at hp⟩) : p := h
theorem Xb104 {p : Prop} (h : p := by
  clear hm
  go_wp2_with fail
  go_ret2
  exact HR.out _ _ ⟨rfl, HB2.out.trans (HB4.out.mono HB2.out.size)⟩) : p := h
theorem Xb105 {p : Prop} (h : p := by
  intro hh
  rcases List.mem_cons.1 hh with hh | hh
  ·exact absurd (by rw [← hh]) e
  ·exact (ih h2).2 hh) : p := h
theorem Xb106 {p : Prop} (h : p := by
  have := o.block p.block (World.block_lt_of_cell? W _ h) hn
  rw [← h]
  unfold World.cell?
  rw [this]) : p := h
theorem Xb107 {p : Prop} (h : p := by
  rw [Array.getElem?_eq_getElem (by rw [Array.size_modify]; exact hlt), Array.getElem_modify_self, hk]
  rfl) : p := h
theorem Xb108 {p : Prop} (h : p := by
  cases ys with
  | nil => rfl
  | cons y r =>
   obtain ⟨b, off, e, _⟩ := hR 0 y rfl
   cases e) : p := h
theorem Xb109 {p : Prop} (h : p := by
  cases a <;> simp [sliced, Result.andThen, Addr.add]) : p := h
theorem Xb110 {p : Prop} (h : p := by
  obtain ⟨b, off, e, c0, c1, r⟩ := h k x hx
  exact ⟨b, off, e, tcb hb c0, tcb hb c1, r.below hb⟩) : p := h
theorem Xb111 {p : Prop} (h : p := by
  go_wp2_with fail
  go_ret
  exact ⟨⟨none, 0, rfl, World.ownsRow_nil _ _ _ _⟩, Below.refl _ _⟩) : p := h
theorem Xb112 {p : Prop} (h : p := by
  simp only [Value.slice.injEq] at e
  obtain ⟨rfl, rfl, rfl⟩ := e
  exact ⟨L, h1, h2, h3, h4⟩) : p := h
theorem Xb113 {p : Prop} (h : p := by
  go_wp2_with fail
  go_ret
  exact ⟨zc_ Xt29, za_ HB0.out (za_ HBW.out (zl_ (Below.refl _ _) _))⟩) : p := h
theorem Xb114 {p : Prop} (h : p := by
  intro hh
  have hh : p.2 = r := by simpa using hh
  rw [← e, ← hh]; exact List.mem_cons_self ..) : p := h
theorem Xb115 {p : Prop} (h : p := by
  exact (HM5.out.rows z HZM.out e he.1).off (o7.mono fun k hk => by cases hk; exact HM5.out.hS z HZM.out)) : p := h
theorem Xb116 {p : Prop} (h : p := by
  have HC := hid hc
  clear hc
  go_wp2_with fail
  go_ret
  exact ⟨⟨_, rfl, HC.out⟩, B⟩) : p := h
theorem Xb117 {p : Prop} (h : p := by
  exact ⟨_, _, [], hrg0, by simp, jc_.start HBY.out, hJ [] W w0 none h0 hg0 (fun r e => by cases e)⟩) : p := h
theorem Xb118 {p : Prop} (h : p := by
  rw [List.filter_eq_nil_iff]; intro y hy hk
  have := zF_ (h1 y hy) hk; rw [hl] at this; cases this) : p := h
theorem Xb119 {p : Prop} (h : p := by
  exact ⟨o.os, o.tape, o.output, o.size, fun k hk hn => o.block k hk (fun h => h.elim hn Xt76)⟩) : p := h
theorem Xb120 {p : Prop} (h : p := by
  rcases hT with ⟨h1, h2⟩ | h2
  ·rw [h2]; exact hS (hzl h1 h2)
  ·rw [h2]; trivial) : p := h
theorem Xb121 {p : Prop} (h : p := by
  have h2 : ¬ (c - i = 0) := by omega
  simp [sliced, Result.andThen, Addr.add, h2, hc]) : p := h
theorem Xb122 {p : Prop} (h : p := by
  go_wp2_with fail
  go_ret
  exact ⟨⟨false, rfl, fun _ => HR.out⟩, BB.out⟩) : p := h
theorem Xb123 {p : Prop} (h : p := by
  have h2 : ¬ (c - i = 0) := by omega
  simp [sliced, Result.andThen, h2, hc, zG_]) : p := h
theorem Xb124 {p : Prop} (h : p := by
  have h1 := j4_ j.T k 0 Xt86 hT.out
  rw [nmP, List.length_append, yT_]; omega) : p := h
theorem Xb125 {p : Prop} (h : p := by
  go_wp2_with fail
  go_ret
  exact ⟨by rw [qi_, HO.out]; rfl, HB1.out⟩) : p := h
theorem zc_ {a b : Bool} (h : a = b) : Ending.returned (.bool a) = .returned (.bool b) := by rw [h]
theorem za_ {w a b : World} (h : Below w.heap.size w a) (k : Below a.heap.size a b) : Below w.heap.size w b := h.trans (k.mono h.size)
theorem yG_ {w w' : World} (h : Below w.heap.size w w') : w.grownBy w' none := ⟨h.os, h.tape, h.output, h.size, fun k hk _ => h.block k hk⟩
theorem jstep {P : Nat -> Prop} {k : Nat} (h : ∀ j < k, P j) (hk : P k) : ∀ j < k + 1, P j := fun j hj => by
 rcases (show j < k ∨ j = k from by omega) with h' | rfl
 ·exact h j h'
 ·exact hk
theorem zG_ (b off j : Nat) : (⟨b, off, none⟩ : Addr).add j = ⟨b, off + j, none⟩ := by
 unfold Addr.add
 by_cases h : j = 0 <;> simp [h]
theorem Qj_ (w : World) (cs : Array Value) (t : TypeId) (fr : Nat × Nat) (k : Nat) : (w.alloc (.cells cs t fr)).cell? ⟨w.heap.size, k, none⟩ = cs[k]? := by
 have h := heap_alloc_new w (.cells cs t fr)
 simp only [World.cell?]
 rw [h]
 simp
def iv (K : IntKind) (L : List Int) : List Value := L.map fun x => .int K x
theorem zI_ (K : IntKind) (a b : List Int) : iv K (a ++ b) = iv K a ++ iv K b := by simp [iv]
theorem iv_one (K : IntKind) (L : List Int) : ∀ u ∈ iv K L, u.oneCell' = true := fun u hu => by
 simp only [iv, List.mem_map] at hu; obtain ⟨x, _, rfl⟩ := hu; rfl
def Rd (K : IntKind) (W : World) (a : Option Addr) (L : List Int) : Prop := ∀ k < L.length, ∃ b off, a = some ⟨b, off, none⟩ /\ W.cell? ⟨b, off + k, none⟩ = some (.int K (L.getD k 0))
theorem Rd.below {K : IntKind} {W W' : World} {a : Option Addr} {L : List Int} (h : Rd K W a L) (hb : Below W.heap.size W W') : Rd K W' a L := fun k hk => by
 obtain ⟨b, off, e, hc⟩ := h k hk
 exact ⟨b, off, e, (hb.cell (p := ⟨b, off + k, none⟩) (World.block_lt_of_cell? W _ hc)).trans hc⟩
theorem Rd.nil (K : IntKind) (W : World) (a : Option Addr) : Rd K W a [] := fun k hk => absurd hk Xt5
theorem Rd.drop {K : IntKind} {W : World} {b off : Nat} {L : List Int} (h : Rd K W (some ⟨b, off, none⟩) L) (s : Nat) : Rd K W (some ⟨b, off + s, none⟩) (L.drop s) := fun k hk => by
 have hk' : s + k < L.length := by simp at hk; omega
 obtain ⟨b', off', e, hc⟩ := h (s + k) hk'
 cases e
 refine ⟨b, off + s, rfl, ?_⟩
 rw [Nat.add_assoc, hc]
 simp [List.getD, List.getElem?_drop]
structure Ls (K : IntKind) (W : World) (a : Option Addr) (cap : Nat) (L : List Int) : Prop where
 rd : Rd K W a L
 nl : a = none -> L = [] /\ cap = 0
 le : L.length <= cap
theorem Ls.below {K : IntKind} {W W' : World} {a : Option Addr} {cap : Nat} {L : List Int} (h : Ls K W a cap L) (hb : Below W.heap.size W W') : Ls K W' a cap L := ⟨h.rd.below hb, h.nl, h.le⟩
theorem Ls.nul (K : IntKind) (W : World) : Ls K W .none 0 [] := ⟨Rd.nil _ _ _, fun _ => ⟨rfl, rfl⟩, Nat.le_refl _⟩
theorem Ls.get {K : IntKind} {W : World} {a : Option Addr} {cap : Nat} {L : List Int} (h : Ls K W a cap L) (k : Nat) (hk : k < L.length) : ∃ b off, a = some ⟨b, off, none⟩ /\ W.cell? ⟨b, off + k, none⟩ = some (.int K (L.getD k 0)) := h.rd k hk
structure Elt (K : IntKind) (t e : TypeId) (bs : Nat) : Prop where
 ut : prog.underlying t = some (.slice e)
 inf : (prog.info? e).map (fun i => (i.zero, i.size, i.bytes)) = some (some (.int K 0), 1, bs)
 small : bs <= 8
theorem Qg_ : Elt .u8 42 5 1 := ⟨underlying42, by kernel_rfl, by decide⟩
theorem yy_ {K : IntKind} {w : World} {base n : Nat} {e : TypeId} {v : Value} {L : List Int} (h : w.ownsRow base e 1 v n (iv K L)) (hn : L.length = n) : ∃ a cap, v = .slice a n cap /\ Ls K w a cap L /\ (0 < n -> ∃ g, a = some ⟨g, 0, .none⟩ /\ base <= g) := by
 have h' := h
 rcases h.2 with ⟨e, h0⟩ | ⟨g, cap, cur, rfl, hg, _, hc, _⟩
 ·have : L = [] := List.length_eq_zero_iff.1 Xt0
  subst this h0
  exact ⟨.none, 0, e, Ls.nul _ _, fun h => absurd h Xt5⟩
 ·refine ⟨_, cap, rfl, ⟨fun k hk => ⟨g, 0, rfl, ?_⟩, fun e => (by cases e), by omega⟩, fun _ => ⟨g, rfl, hg⟩⟩
  rw [Nat.zero_add, h'.cellAt k Xt0]
  simp [iv, List.getD, hk]
theorem ze_ {w w' : World} {base n size : Nat} {e : TypeId} {v : Value} {xs : List Value} (h : w.ownsRow base e size v n xs) (hb : Below w.heap.size w w') : w'.ownsRow base e size v n xs :=
 h.kept (yG_ hb) (by cases hv : v.ownBlock <;> simp)
theorem rd_new (K : IntKind) (w : World) (L : List Int) (cs : Array Value) (t : TypeId) (fr : Nat × Nat) (h : cs = (iv K L).toArray) : Rd K (w.alloc (.cells cs t fr)) (some ⟨w.heap.size, 0, none⟩) L := fun k hk =>
 ⟨_, _, rfl, by rw [Qj_, Nat.zero_add, h]; simp [iv, List.getD, List.getElem?_eq_getElem hk]⟩
theorem y5_ (K : IntKind) (w : World) (L : List Int) (cs : Array Value) (t : TypeId) (fr : Nat × Nat) (h : cs = (iv K L).toArray) (n : Nat) (hn : L.length = n) : Ls K (w.alloc (.cells cs t fr)) (some ⟨w.heap.size, 0, none⟩) n L := ⟨rd_new K w L cs t fr h, fun e => (by cases e), by omega⟩
theorem x0_ {K : IntKind} {t e : TypeId} {bs : Nat} (E : Elt K t e bs) (w : World) (ty : TypeId) (base : Nat) (v : Value) (n : Nat) (xs : List Value) (hown : w.ownsRow base e 1 v n xs)
  (ad : Option Addr) (c len : Nat) (L : List Int) (hlen : L.length = len) (hL : Ls K w ad c L) (hb : n + len <= 1048576) (hbase : base <= w.heap.size) :
  ∃ v' w', (Builtin.append_ #[t, t] ty #[v, .slice ad len c]).run prog w = .ok v' w' /\ w'.ownsRow base e 1 v' (n + len) (xs ++ iv K L) /\ w.grownBy w' v.ownBlock := by
 subst hlen
 obtain ⟨i0, hi, hz0, hz1, hz2⟩ := info_parts E.inf
 have hsm := E.small
 rcases ad with _ | ad
 ·obtain ⟨rfl, rfl⟩ := hL.nl rfl
  exact ⟨v, w, run_append_owned_none (P := prog) (w := w) base t ty e i0 1 E.ut hi v n xs hown, by simpa [iv] using hown, ⟨rfl, rfl, rfl, Nat.le_refl _, fun _ _ _ => rfl⟩⟩
 ·obtain ⟨v', w', h1, h2, h3, _⟩ := run_append_own (P := prog) w base t ty e i0 (.int K 0) 1 bs E.ut hi hz0 hz1 hz2 rfl Xt4 v n xs hown ad L.length c (iv K L) (by simp [iv]) (by
   intro j u hj
   have hjl : j < L.length := by have := (List.getElem?_eq_some_iff.1 hj).1; simpa [iv] using this
   obtain ⟨b, off, e, hc⟩ := hL.rd j hjl
   cases e
   have hu : u = .int K (L.getD j 0) := by
    simp [iv, hjl] at hj
    rw [← hj]; simp [List.getD, List.getElem?_eq_getElem hjl]
   rw [hu, zG_]
   exact hc) (iv_one K L) Xt15 (Nat.le_trans (Nat.mul_le_mul hb hsm) Xt4) hbase
  exact ⟨v', w', h1, h2, h3⟩
theorem Qw_ {K : IntKind} {t e : TypeId} {bs : Nat} (E : Elt K t e bs) {o : Oper} {a : Act} {w : World} {Kt : Act -> World -> Prop} {Q : Exit -> Act -> World -> Prop} (s x : Operand)
  (ho : o.op = .call { callee := .builtin .append, args := #[s, x], argTypes := #[t, t] })
  (base : Nat) (v : Value) (n : Nat) (xs : List Value) (hs : a.eval s = v) (hown : w.ownsRow base e 1 v n xs)
  (ad : Option Addr) (c len : Nat) (L : List Int) (hlen : L.length = len) (hx : a.eval x = .slice ad len c) (hL : Ls K w ad c L)
  (hb : n + len <= 1048576) (hbase : base <= w.heap.size)
  (h : ∀ v' w', w'.ownsRow base e 1 v' (n + len) (xs ++ iv K L) -> w.grownBy w' v.ownBlock -> Kt (a.put o.dst v') w') :
  Oper.wp prog o a w Kt Q := by
 obtain ⟨v', w', h1, h2, h3⟩ := x0_ E w o.type base v n xs hown ad c len L hlen hL hb hbase
 exact Xb30
theorem zB_ {K : IntKind} {t e : TypeId} {bs : Nat} (E : Elt K t e bs) {ops : Array Oper} {rest : List Oper} {o : Oper} {a : Act} {w : World} {Q : Exit -> Act -> World -> Prop} (hgd : o.guard = none) (s x : Operand)
  (ho : o.op = .call { callee := .builtin .append, args := #[s, x], argTypes := #[t, t] })
  (base : Nat) (v : Value) (n : Nat) (xs : List Value) (hs : a.eval s = v) (hown : w.ownsRow base e 1 v n xs)
  (ad : Option Addr) (c len : Nat) (L : List Int) (hlen : L.length = len) (hx : a.eval x = .slice ad len c) (hL : Ls K w ad c L)
  (hb : n + len <= 1048576) (hbase : base <= w.heap.size)
  (h : ∀ v' w', w'.ownsRow base e 1 v' (n + len) (xs ++ iv K L) -> w.grownBy w' v.ownBlock -> wpList prog ops Q rest (a.put o.dst v') w') :
  wpList prog ops Q (o :: rest) a w :=
 wpList_plain hgd fun Kt hK => Qw_ E s x ho base v n xs hs hown ad c len L hlen hx hL hb hbase fun v' w' h1 h2 => hK _ _ (h v' w' h1 h2)
theorem Ls.lo {K : IntKind} {t e : TypeId} {bs : Nat} (E : Elt K t e bs) {W : World} {a : Option Addr} {cap : Nat} {L : List Int} (h : Ls K W a cap L) (n i : Nat) (hn : L.length = n) (hi : i <= n) :
  ∃ a' c', (∀ W', (Instr.slice t (.slice a n cap) (some (.int .i64 (i : Int))) .none .none).run prog W' = .ok (.slice a' (n - i) c') W') /\ Ls K W a' c' (L.drop i) := by
 subst hn
 have hle := h.le
 obtain ⟨i0, hi0, hz0, hz1, hz2⟩ := info_parts E.inf
 have hel : prog.elem t = e := by simp [Program.elem, E.ut]
 refine ⟨if cap = i then a else a.map (·.add (i * 1)), cap - i, fun W' => ?_, ?_, ?_, by rw [List.length_drop]; omega⟩
 ·rw [run_slice_l (P := prog) (w := W') t a L.length cap (by rw [hel]; exact E.ut) .i64 i Xt0 Xt0]
  have hs : ((sizeOf (prog.elem t)).run prog W') = .ok 1 W' := by rw [hel]; simp [sizeOf, typeInfo, hi0, hz1]
  rw [hs]
  rfl
 ·by_cases hz : L.length = i
  ·rw [List.drop_of_length_le Xt0]; exact Rd.nil _ _ _
  ·obtain ⟨b, off, e, _⟩ := h.rd 0 Xt0
   subst e
   have hd := h.rd.drop i
   rw [if_neg Xt0]
   by_cases h0 : i = 0
   ·subst h0; simpa [Addr.add] using hd
   ·simpa [Addr.add, h0] using hd
 ·intro e
  have ha : a = .none := by
   by_cases hc : cap = i
   ·rwa [if_pos hc] at e
   ·rw [if_neg hc] at e; simpa using e
  obtain ⟨h1, h2⟩ := h.nl ha
  rw [h1, h2]; simp
theorem zA_ (w : World) (a : Option Addr) (n cap : Nat) (L : List Int) (hn : L.length = n) (h : Rd .u8 w a L) : (convert 42 9 (.slice a n cap)).run prog w = .ok (.string (strOfNums L)) w := by
 subst hn
 by_cases h0 : L.length = 0
 ·have : L = [] := List.length_eq_zero_iff.1 h0
  subst this
  simp only [List.length_nil]
  cases a with
  | none => exact run_convert_bytes_nil w 42 5 underlying42 underlying5 0 cap 9 underlying9
  | some a =>
   rw [run_convert_bytes_string w 42 9 5 _ 0 cap underlying42 underlying5 underlying9, run_bytesToString w a 0 cap [] (run_loadCells_list w a [] (fun j v hj => by simp at hj))]
   rfl
 ·obtain ⟨b, off, rfl, _⟩ := h 0 Xt0
  refine run_convert_bytes_arg w 42 5 underlying42 underlying5 b off _ cap L rfl (fun i hi => ?_) 9 underlying9
  obtain ⟨b', off', e, hc⟩ := h i hi
  cases e
  exact hc
def Byt (L : List Int) : Prop := ∀ x ∈ L, 0 <= x /\ x <= 255
theorem xG_ {a b : List Int} (ha : Byt a) (hb : Byt b) (h : strOfNums a = strOfNums b) : a = b := by
 have h1 : (strOfNums a).data.toList = (strOfNums b).data.toList := by rw [h]
 rw [strOfNums_data, strOfNums_data] at h1
 have hinj : ∀ (l m : List Int), Byt l -> Byt m -> (l.map fun n => UInt8.ofNat n.toNat) = (m.map fun n => UInt8.ofNat n.toNat) -> l = m := by
  intro l
  induction l with
  | nil => intro m _ _ h; cases m with
   | nil => rfl
   | cons => simp at h
  | cons x r ih => intro m hl hm h; cases m with
   | nil => simp at h
   | cons y s =>
    simp only [List.map_cons, List.cons.injEq] at h
    have hx := hl x Xt5
    have hy := hm y Xt5
    have e : x.toNat = y.toNat := by
     have := congrArg UInt8.toNat h.1
     simp only [UInt8.toNat_ofNat'] at this
     omega
    rw [show x = y by omega, ih s (fun z hz => hl z (by simp [hz])) (fun z hz => hm z (by simp [hz])) h.2]
 exact hinj a b ha hb h1
theorem Byt.append {a b : List Int} (ha : Byt a) (hb : Byt b) : Byt (a ++ b) := fun x hx => (List.mem_append.1 hx).elim (ha x) (hb x)
theorem Byt.get {a : List Int} (ha : Byt a) (k : Nat) (hk : k < a.length) : 0 <= a.getD k 0 /\ a.getD k 0 <= 255 := by
 rw [show a.getD k 0 = a[k] by simp [List.getD, List.getElem?_eq_getElem hk]]; exact ha _ (List.getElem_mem hk)
theorem xb_ (L : List Int) (k : Nat) (hk : k < L.length) : L.take (k + 1) = L.take k ++ [L.getD k 0] := by
 rw [List.take_succ_eq_append_getElem hk]
 congr 2
 simp [List.getD, List.getElem?_eq_getElem hk]
def IsRow (k : IntKind) (w : World) (a : Option Addr) (len cap : Nat) (zs : List Int) : Prop :=
 (a = none /\ len = 0 /\ cap = 0 /\ zs = []) ∨
 ∃ x, a = some x /\ len <= cap /\ cap <= maxLen /\ zs.length = cap /\ (∀ i, i < zs.length -> w.cell? (x.add i) = some (.int k (zs.getD i 0))) /\ ∀ n ∈ zs, (Lit.int k n).wf = true
theorem IsRow.ls {K : IntKind} {w : World} {a : Option Addr} {len cap : Nat} {zs : List Int} (h : IsRow K w a len cap zs) : Ls K w a cap (zs.take len) /\ (zs.take len).length = len := by
 rcases h with ⟨rfl, rfl, rfl, rfl⟩ | ⟨y, rfl, hlc, _, hz, hcell, _⟩
 ·exact ⟨Ls.nul _ _, rfl⟩
 ·have hl : (zs.take len).length = len := by rw [List.length_take]; omega
  refine ⟨⟨fun k hk => ?_, fun e => (by cases e), by omega⟩, hl⟩
  have hk' : k < len /\ k < zs.length := by simp at hk; omega
  obtain ⟨b, off, spot⟩ := y
  have hc0 := hcell 0 Xt0
  have hspot : spot = none := by simpa [Addr.add] using World.cell?_spot hc0
  subst hspot
  have hc := hcell k hk'.2
  rw [zG_] at hc
  exact ⟨b, off, rfl, by rw [hc]; simp [List.getD, List.getElem?_take, hk'.1]⟩
theorem qx_ (a : Option Addr) (n cap : Nat) (w : World) : Calls prog 89 #[.slice a n cap] w fun r w' => r = .returned (.bool (decide (n <= 24))) /\ w = w' := by
 by_cases h : n <= 24
 ·rw [decide_eq_true h]
  have hi : (n : Int) <= 24 := by omega
  go_enter func89, ntmps89
  exact Xb19
 ·rw [decide_eq_false h]
  have hi : ¬ (n : Int) <= 24 := by omega
  go_enter func89, ntmps89
  exact Xb19
def yA_ (n : Nat) : Bool := decide (1 <= n /\ n <= 32)
theorem zN_ (a : Option Addr) (n cap : Nat) (w : World) : Calls prog 53 #[.slice a n cap] w fun r w' => r = .returned (.bool (yA_ n)) /\ w = w' := by
 unfold yA_
 rcases (show n < 1 ∨ (1 <= n /\ n <= 32) ∨ (1 <= n /\ ¬ n <= 32) by omega) with h | ⟨h1, h2⟩ | ⟨h1, h2⟩
 ·rw [decide_eq_false Xt0]
  have hi : ¬ (1 : Int) <= (n : Int) := by omega
  go_enter func53, ntmps53
  exact Xb19
 ·rw [decide_eq_true Xt0]
  have hi : (1 : Int) <= (n : Int) := by omega
  have hj : (n : Int) <= 32 := by omega
  go_enter func53, ntmps53
  exact Xb19
 ·rw [decide_eq_false Xt0]
  have hi : (1 : Int) <= (n : Int) := by omega
  have hj : ¬ (n : Int) <= 32 := by omega
  go_enter func53, ntmps53
  exact Xb19
def esc (x : Int) : List Int := if x = 0 then [0, 255] else [x]
def zk_ : List Int -> List Int
 | [] => []
 | x :: r => esc x ++ zk_ r
theorem ye_ : ∀ a b : List Int, zk_ (a ++ b) = zk_ a ++ zk_ b
 | [], _ => rfl
 | x :: r, b => by simp only [List.cons_append, zk_, ye_ r b, List.append_assoc]
theorem xy_ (x : Int) : zk_ [x] = esc x := by simp [zk_]
theorem yx_ : ∀ a : List Int, (zk_ a).length <= 2 * a.length
 | [] => by simp [zk_]
 | x :: r => by
  have := yx_ r
  simp only [zk_, List.length_append, List.length_cons, esc]
  split <;> simp <;> omega
theorem Qd_ (a : Option Addr) (L : List Int) (n cap : Nat) (hL : L.length = n) (hn : n <= 24) (w : World) (hR : Ls .u8 w a cap L) :
  Calls prog 164 #[.slice a n cap] w fun r w' => ∃ a' c', r = .returned (.tuple #[.slice a' (zk_ L).length c', .int .i64 0]) /\ Ls .u8 w' a' c' (zk_ L) /\ Below w.heap.size w w' := by
 have h := qx_ a n cap w
 rw [decide_eq_true hn] at h
 have HR := hid hR
 have HL := hid hL
 clear hR hL
 go_enter func164, ntmps164
 go_wp2_with fail
 go_step3
 go_wp2_with fail
 refine h.mono ?_; rintro e w' ⟨rfl, rfl⟩
 clear h
 go_wp2_with fail
 go_step3
 go_wp2_with fail
 go_loopw [4, 12] (fun v i wr => ∃ k : Nat, k <= n /\ i = .int .i64 k /\ wr.ownsRow w.heap.size 5 1 v (zk_ (L.take k)).length (iv .u8 (zk_ (L.take k))) /\ Below w.heap.size w wr) (fun _ i _ => n - (intOf i).toNat)
 case atStart => exact ⟨0, by omega, rfl, World.ownsRow_nil _ _ _ _, Below.refl _ _⟩
 case round =>
  obtain ⟨k, hk, rfl, hown, B⟩ := hrel
  by_cases hlt : k < n
  ·have hkl : (k : Int) < (n : Int) := by omega
   have hkL : k < L.length := by rw [HL.out]; exact hlt
   obtain ⟨b1, o1, e1, c1⟩ := (HR.out.below B).get k hkL
   subst e1
   have hs1 := B.size
   have hts := xb_ L k hkL
   have hfl := yx_ (L.take k)
   rw [List.length_take] at hfl
   obtain ⟨x, hx⟩ := gtx (L.getD k 0)
   rw [hx] at hts c1
   obtain ⟨F, hF⟩ := gtx (zk_ (L.take k))
   have hF2 : zk_ (L.take (k + 1)) = F ++ esc x := by rw [hts, ye_, hF, xy_]
   rw [hF] at hown hfl
   obtain ⟨m, hm⟩ := gtx (F.length)
   rw [hm] at hown hfl
   have HF2 := hid hF2
   have HM := hid hm
   have hm48 := hid (show m <= 48 by omega)
   have HOWN := hid hown
   clear hts hx hF hF2 hm hfl hown
   by_cases q : x = 0
   ·have t1 : (x != 0) = false := by simpa using q
    have HQ := hid (show esc x = [x] ++ [255] by rw [q]; rfl)
    clear q
    go_wp2_with (at_builtin; refine zB_ Qg_ rfl (.tmp 16) (.tmp 18) rfl w.heap.size _ m (iv .u8 F) rfl (HOWN.out.alloc _) _ _ 1 [x] rfl rfl (y5_ .u8 _ [x] _ _ _ rfl 1 rfl) Xt45 Xt7 ?_)
    intro v2 w2 hown2 hgrow2
    rw [← zI_] at hown2
    have B2 := (B.alloc hs1 _).grown hgrow2 Xt7 (fun j hj => (HOWN.out.lt j hj).1)
    have hs2 := B2.size
    have HOWN2 := hid hown2
    clear hown2 hgrow2
    go_wp2_with (at_builtin; refine zB_ Qg_ rfl (.tmp 22) (.tmp 23) rfl w.heap.size v2 (m + 1) (iv .u8 (F ++ [x])) rfl (HOWN2.out.alloc _) _ _ 1 [255] rfl rfl (y5_ .u8 _ [255] _ _ _ rfl 1 rfl) Xt45 Xt7 ?_)
    exact Xb37
   ·have t1 : (x != 0) = true := by simpa using q
    have HQ := hid (show esc x = [x] by rw [esc, if_neg q])
    clear q
    go_wp2_with (at_builtin; refine zB_ Qg_ rfl (.tmp 16) (.tmp 18) rfl w.heap.size _ m (iv .u8 F) rfl (HOWN.out.alloc _) _ _ 1 [x] rfl rfl (y5_ .u8 _ [x] _ _ _ rfl 1 rfl) Xt45 Xt7 ?_)
    intro v2 w2 hown2 hgrow2
    rw [← zI_] at hown2
    have B2 := (B.alloc hs1 _).grown hgrow2 Xt7 (fun j hj => (HOWN.out.lt j hj).1)
    have hs2 := B2.size
    have HOWN2 := hid hown2
    clear hown2 hgrow2
    exact Xb67
  ·have hkl : ¬ (k : Int) < (n : Int) := by omega
   have e : k = n := by omega
   subst e
   rw [List.take_of_length_le (by rw [HL.out]; exact Nat.le_refl _)] at hown
   obtain ⟨a', c', rfl, l', _⟩ := yy_ hown rfl
   clear hown
   obtain ⟨m, hm⟩ := gtx ((zk_ L).length)
   rw [hm]
   have HM := hid hm
   clear hm
   go_wp2_with fail
   try rw [Exit.noGoto_ret]
   go_ret2
   exact ⟨a', c', by rw [HM.out]; rfl, l', B⟩
structure P1 where
 ad : Option Addr
 cap : Nat
 bs : List Int
def P1.v (p : P1) : Value := .slice p.ad p.bs.length p.cap
def RdR (W : World) (a : Option Addr) (R : List P1) : Prop := ∀ k p, R[k]? = some p -> ∃ b off, a = some ⟨b, off, none⟩ /\ W.cell? ⟨b, off + k, none⟩ = some p.v /\ Ls .u8 W p.ad p.cap p.bs
theorem RdR.below {W W' : World} {a : Option Addr} {R : List P1} (h : RdR W a R) (hb : Below W.heap.size W W') : RdR W' a R := fun k p hp => by
 obtain ⟨b, off, e, hc, hl⟩ := h k p hp
 exact ⟨b, off, e, (hb.cell (p := ⟨b, off + k, none⟩) (World.block_lt_of_cell? W _ hc)).trans hc, hl.below hb⟩
theorem RdR.nil (W : World) (a : Option Addr) : RdR W a [] := fun k p h => by simp at h
theorem rdR_new (w : World) (R : List P1) (cs : Array Value) (t : TypeId) (fr : Nat × Nat) (h : cs = (R.map P1.v).toArray) (hl : ∀ p ∈ R, Ls .u8 w p.ad p.cap p.bs) : RdR (w.alloc (.cells cs t fr)) (some ⟨w.heap.size, 0, none⟩) R := fun k p hp => by
 refine ⟨_, _, rfl, by rw [Qj_, Nat.zero_add, h]; simp [hp], (hl p (List.mem_of_getElem? hp)).below ((Below.refl _ _).alloc (Nat.le_refl _) _)⟩
def jj_ (R : List P1) : List Int := (R.map P1.bs).flatten
theorem ji_ (R : List P1) (k : Nat) (p : P1) (h : R[k]? = some p) : jj_ (R.take (k + 1)) = jj_ (R.take k) ++ p.bs := by
 unfold jj_
 rw [List.take_add_one, h]
 simp
theorem QY_ (R : List P1) (k : Nat) : (jj_ (R.take k)).length <= (jj_ R).length := by
 have : jj_ R = jj_ (R.take k) ++ jj_ (R.drop k) := by unfold jj_; rw [← List.flatten_append, ← List.map_append, List.take_append_drop]
 rw [this, List.length_append]; omega
theorem join_own (a : Option Addr) (R : List P1) (n cap : Nat) (hn : R.length = n) (hn2 : n <= 1048576) (ht : (jj_ R).length <= 1048576) (w : World) (hR : RdR w a R) :
  Calls prog 165 #[.slice a n cap] w fun r w' => ∃ a' c', r = .returned (.slice a' (jj_ R).length c') /\ Ls .u8 w' a' c' (jj_ R) /\ w'.ownsRow w.heap.size 5 1 (.slice a' (jj_ R).length c') (jj_ R).length (iv .u8 (jj_ R)) /\ Below w.heap.size w w' := by
 have HR := hid hR
 have HN := hid hn
 have HT := hid ht
 clear hR hn ht
 go_enter func165, ntmps165
 go_wp2_with fail
 go_loopw [3, 8] (fun v i wr => ∃ k : Nat, k <= n /\ i = .int .i64 k /\ wr.ownsRow w.heap.size 5 1 v (jj_ (R.take k)).length (iv .u8 (jj_ (R.take k))) /\ Below w.heap.size w wr) (fun _ i _ => n - (intOf i).toNat)
 case atStart => exact ⟨0, by omega, rfl, World.ownsRow_nil _ _ _ _, Below.refl _ _⟩
 case round =>
  obtain ⟨k, hk, rfl, hown, B⟩ := hrel
  by_cases hlt : k < n
  ·have hkl : (k : Int) < (n : Int) := by omega
   obtain ⟨p, hp⟩ : ∃ p, R[k]? = some p := ⟨_, List.getElem?_eq_getElem Xt8⟩
   obtain ⟨b1, o1, e1, c1, l1⟩ := HR.out.below B k p hp
   subst e1
   have hF2 := ji_ R k p hp
   have hle := Nat.le_trans (QY_ R (k + 1)) HT.out
   rw [hF2, List.length_append] at hle
   obtain ⟨pa, pc, pb⟩ := p
   simp only at l1 hF2 hle
   have c2 : wr.cell? ⟨b1, o1 + k, none⟩ = some (.slice pa pb.length pc) := c1
   obtain ⟨q, hq⟩ := gtx (pb.length)
   rw [hq] at c2 hle
   obtain ⟨F, hF⟩ := gtx (jj_ (R.take k))
   rw [hF] at hown hF2 hle
   obtain ⟨m, hm⟩ := gtx (F.length)
   rw [hm] at hown hle
   have HF2 := hid hF2
   have HM := hid hm
   have HQ := hid hq
   have HLE := hid hle
   have HOWN := hid hown
   have hs1 := B.size
   clear c1 hp hF hF2 hm hq hle hown
   go_wp2_with (at_builtin; refine zB_ Qg_ rfl (.tmp 12) (.tmp 13) rfl w.heap.size _ m (iv .u8 F) rfl HOWN.out _ _ q pb HQ.out rfl l1 HLE.out hs1 ?_)
   intro v2 w2 hown2 hgrow2
   rw [← zI_] at hown2
   have B2 := B.grown hgrow2 hs1 (fun j hj => (HOWN.out.lt j hj).1)
   have HOWN2 := hid hown2
   clear hown2 hgrow2
   go_wp2_with fail
   go_roundw
   case rel => exact ⟨k + 1, by omega, by go_num, by rw [HF2.out, List.length_append, HM.out, HQ.out]; exact HOWN2.out, B2⟩
   case measure => simp [intOf]; omega
  ·have hkl : ¬ (k : Int) < (n : Int) := by omega
   have e : k = n := by omega
   subst e
   rw [List.take_of_length_le Xt80] at hown
   obtain ⟨a', c', rfl, l', fr⟩ := yy_ hown rfl
   have FR := hid hown
   clear hown fr
   obtain ⟨m, hm⟩ := gtx ((jj_ R).length)
   rw [hm]
   have HM := hid hm
   clear hm
   go_wp2_with fail
   go_ret
   exact ⟨a', c', by rw [HM.out]; rfl, l', FR.out, B⟩
def zu_ (f k : List Int) : List Int := zk_ f ++ ([0, 1] ++ k)
theorem eltI : Elt .i64 22 3 8 := ⟨underlying22, by kernel_rfl, by decide⟩
def Za_ (R : List P1) : Bool := R.all fun p => decide (p.bs.length <= 24)
theorem Qm_ (R : List P1) : Za_ R = true ↔ ∀ p ∈ R, p.bs.length <= 24 := by simp [Za_]
theorem allB_not {R : List P1} {k : Nat} {p : P1} (h : R[k]? = some p) (hp : ¬ p.bs.length <= 24) : Za_ R = false := by
 cases hb : Za_ R
 ·rfl
 ·exact absurd ((Qm_ R).1 hb p (List.mem_of_getElem? h)) hp
theorem may1_law (i : Int) (a : Option Addr) (n cap : Nat) (w : World) : Calls prog 88 #[.int .i64 i, .slice a n cap] w fun r w' => r = .returned (.tuple #[.int .i64 0, .bool (decide (n <= 24))]) /\ w = w' := by
 have h := qx_ a n cap w
 go_enter func88, ntmps88
 go_wp2_with fail
 refine h.mono ?_; rintro e w' ⟨rfl, rfl⟩
 go_wp2_with fail
 go_ret2
 exact ⟨rfl, rfl⟩
theorem eachmay_law (a : Option Addr) (R : List P1) (n cap : Nat) (hn : R.length = n) (hn3 : n <= 1000000) (w : World) (hR : RdR w a R) :
  Calls prog 87 #[.slice a n cap, .func (.func 88) #[] #[]] w fun r w' => (∃ v, r = .returned (.tuple #[v, .bool (Za_ R)])) /\ Below w.heap.size w w' := by
 have HR := hid hR
 have HN := hid hn
 clear hR hn
 go_enter func87, ntmps87
 go_wp2_with fail
 go_loopw [6, 13] (fun v i wr => ∃ k : Nat, k <= n /\ i = .int .i64 k /\ wr.ownsRow w.heap.size 3 1 v k (iv .i64 (List.replicate k 0)) /\ (∀ j < k, ∀ p, R[j]? = some p -> p.bs.length <= 24) /\ Below w.heap.size w wr) (fun _ i _ => n - (intOf i).toNat)
 case atStart => exact ⟨0, by omega, rfl, World.ownsRow_nil _ _ _ _, fun j hj => absurd hj Xt0, Below.refl _ _⟩
 case round =>
  obtain ⟨k, hk, rfl, hown, hpre, B⟩ := hrel
  have HP := hid hpre
  clear hpre
  by_cases hlt : k < n
  ·have hkl : (k : Int) < (n : Int) := by omega
   obtain ⟨p, hp⟩ : ∃ p, R[k]? = some p := ⟨_, List.getElem?_eq_getElem Xt8⟩
   obtain ⟨b1, o1, e1, c1, l1⟩ := HR.out.below B k p hp
   subst e1
   have c2 : wr.cell? ⟨b1, o1 + k, none⟩ = some (.slice p.ad p.bs.length p.cap) := c1
   have HPP := hid hp
   obtain ⟨q, hq⟩ := gtx (p.bs.length)
   rw [hq] at c2
   have HQ := hid hq
   have hs1 := B.size
   clear c1 hp hq l1
   by_cases hle : q <= 24
   ·have h1 := may1_law (k : Int) p.ad q p.cap wr
    rw [decide_eq_true hle] at h1
    have H1 := hid h1
    have HLE := hid hle
    have HOWN := hid hown
    clear h1 hle hown
    go_wp2_with fail
    refine H1.out.mono ?_; rintro e w' ⟨rfl, rfl⟩
    go_wp2_with (at_builtin; refine zB_ eltI rfl (.tmp 28) (.tmp 30) rfl w.heap.size _ k (iv .i64 (List.replicate k 0)) rfl (HOWN.out.alloc _) _ _ 1 [0] rfl rfl (y5_ .i64 _ [0] _ _ _ rfl 1 rfl) Xt0 Xt7 ?_)
    intro v2 w3 hown3 hgrow3
    rw [← zI_, show List.replicate k (0 : Int) ++ [0] = List.replicate (k + 1) 0 from (List.replicate_succ' ..).symm] at hown3
    have B4 := (B.alloc hs1 _).grown hgrow3 Xt7 (fun j hj => (HOWN.out.lt j hj).1)
    have HOWN3 := hid hown3
    clear hown3 hgrow3
    go_wp2_with fail
    go_roundw
    case rel => exact ⟨k + 1, by omega, by go_num, HOWN3.out, jstep HP.out (fun p' hp' => by have := HPP.out; rw [hp'] at this; cases this; rw [HQ.out]; exact HLE.out), B4⟩
    case measure => simp [intOf]; omega
   ·have h1 := may1_law (k : Int) p.ad q p.cap wr
    rw [decide_eq_false hle] at h1
    have H1 := hid h1
    have HA := hid (allB_not HPP.out (by rw [HQ.out]; exact hle))
    clear h1 hle hown
    go_wp2_with fail
    refine H1.out.mono ?_; rintro e w' ⟨rfl, rfl⟩
    go_wp2_with fail
    go_ret2
    exact ⟨⟨_, by rw [HA.out]; rfl⟩, B⟩
  ·have hkl : ¬ (k : Int) < (n : Int) := by omega
   have HA := hid (show Za_ R = true from (Qm_ R).2 fun p hp => by
    obtain ⟨j, hj, e⟩ := List.mem_iff_getElem.1 hp
    exact HP.out j (by have := HN.out; omega) p (by rw [List.getElem?_eq_getElem hj, e]))
   clear hown
   go_wp2_with fail
   go_ret2
   exact ⟨⟨_, by rw [HA.out]; rfl⟩, B⟩
def y4_ (R : List P1) : Bool := Za_ R && decide (1 <= R.length /\ R.length <= 3)
theorem x7_ (a : Option Addr) (R : List P1) (n cap : Nat) (hn : R.length = n) (hn3 : n <= 1000000) (w : World) (hR : RdR w a R) :
  Calls prog 54 #[.slice a n cap] w fun r w' => r = .returned (.bool (y4_ R)) /\ Below w.heap.size w w' := by
 have h := eachmay_law a R n cap hn hn3 w hR
 have H := hid h
 unfold y4_
 rw [hn]
 clear h
 cases hb : Za_ R
 ·rw [hb] at H
  clear hb
  exact Xb42
 ·rw [hb] at H
  clear hb
  rcases (show n < 1 ∨ (1 <= n /\ n <= 3) ∨ (1 <= n /\ ¬ n <= 3) by omega) with q | ⟨q1, q2⟩ | ⟨q1, q2⟩
  ·rw [decide_eq_false Xt0]
   have hi : ¬ (1 : Int) <= (n : Int) := by omega
   exact Xb42
  ·rw [decide_eq_true Xt0]
   have hi : (1 : Int) <= (n : Int) := by omega
   have hj : (n : Int) <= 3 := by omega
   exact Xb42
  ·rw [decide_eq_false Xt0]
   have hi : (1 : Int) <= (n : Int) := by omega
   have hj : ¬ (n : Int) <= 3 := by omega
   go_enter func54, ntmps54
   go_wp2_with fail
   refine H.out.mono ?_; rintro e w' ⟨⟨v, rfl⟩, B⟩
   go_wp2_with fail
   go_ret
   exact ⟨zc_ Xt7, B⟩
theorem xx_ (R : List P1) : y4_ R = true ↔ (∀ p ∈ R, p.bs.length <= 24) /\ 1 <= R.length /\ R.length <= 3 := by
 rw [y4_, Bool.and_eq_true, Qm_, decide_eq_true_eq]
section
variable {H : Type} {enc : TypeId × Value -> H} {w : World} {base : Nat} {held : Bool} {d : DataW H} {ps : List MemPlace}
end
theorem kc2 (w : World) (a : Option Addr) (n cap : Nat) (L : List Int) (hn : L.length = n) (h : Ls .u8 w a cap L) : (convert 42 9 (.slice a n cap)).run prog w = .ok (.string (strOfNums L)) w := zA_ w a n cap L hn h.rd
theorem equal_law (a b : Option Addr) (L M : List Int) (n m ca cb : Nat) (hL : L.length = n) (hM : M.length = m) (bL : Byt L) (bM : Byt M) (w : World) (hA : Ls .u8 w a ca L) (hB : Ls .u8 w b cb M) :
  Calls prog 94 #[.slice a n ca, .slice b m cb] w fun r w' => r = .returned (.bool (decide (L = M))) /\ w = w' := by
 have q1 := kc2 w a n ca L hL hA
 have q2 := kc2 w b m cb M hM hB
 by_cases h : L = M
 ·rw [decide_eq_true h]
  rw [← h] at q2
  clear h hL hM bL bM hA hB
  go_enter func94, ntmps94
  exact Xb19
 ·rw [decide_eq_false h]
  have hs : ((strOfNums L).toList == (strOfNums M).toList) = false := by
   rw [beq_eq_false_iff_ne]
   intro e
   rw [Lib.strOfNums_toList, Lib.strOfNums_toList] at e
   exact h (xG_ bL bM (ByteArray.ext (Array.toList_inj.1 (by rw [strOfNums_data, strOfNums_data]; exact e))))
  generalize strOfNums L = sL at q1 hs
  generalize strOfNums M = sM at q2 hs
  clear h hL hM bL bM hA hB
  go_enter func94, ntmps94
  exact Xb19
theorem same1_law (i : Nat) (a : Option Addr) (L : List Int) (n cap : Nat) (hL : L.length = n) (bL : Byt L) (B : Nat) (S : List P1) (bad : Option Addr) (bn bc : Nat) (hS : S.length = bn) (q : P1) (hq : S[i]? = some q) (bq : Byt q.bs) (w : World) (hA : Ls .u8 w a cap L) (hB : RdR w bad S) (hb : w.cell? ⟨B, 0, none⟩ = some (.slice bad bn bc)) (hi : i <= 1000000) :
  Calls prog 93 #[.int .i64 (i : Int), .slice a n cap, .pointer (some ⟨B, 0, none⟩)] w fun r w' => r = .returned (.tuple #[.int .i64 0, .bool (decide (L = q.bs))]) /\ w = w' := by
 obtain ⟨b1, o1, rfl, c1, l1⟩ := hB i q hq
 have h := hid (equal_law a q.ad L q.bs n q.bs.length cap q.cap hL rfl bL bq w hA l1)
 have c2 : w.cell? ⟨b1, o1 + i, none⟩ = some (.slice q.ad q.bs.length q.cap) := c1
 have hil : (i : Int) < (bn : Int) := by have := (List.getElem?_eq_some_iff.1 hq).1; omega
 obtain ⟨m, hm⟩ := gtx (q.bs.length)
 rw [hm] at h c2
 clear c1 hm hq hB hS l1 hA hL
 go_enter func93, ntmps93
 go_wp2_with fail
 refine h.out.mono ?_; rintro e w' ⟨rfl, rfl⟩
 go_wp2_with fail
 go_ret2
 exact ⟨rfl, rfl⟩
def eqB (R S : List P1) : Bool := decide (R.map P1.bs = S.map P1.bs)
theorem Q1_ (a : Option Addr) (R S : List P1) (n cap B : Nat) (bad : Option Addr) (bc : Nat) (hn : R.length = n) (hS : S.length = n) (hn3 : n <= 1000000) (bR : ∀ p ∈ R, Byt p.bs) (bS : ∀ p ∈ S, Byt p.bs) (w : World) (hR : RdR w a R) (hB : RdR w bad S) (hb : w.cell? ⟨B, 0, none⟩ = some (.slice bad n bc)) :
  Calls prog 87 #[.slice a n cap, .func (.func 93) #[] #[.pointer (some ⟨B, 0, none⟩)]] w fun r w' => (∃ v, r = .returned (.tuple #[v, .bool (eqB R S)])) /\ Below w.heap.size w w' := by
 have HR := hid hR
 have HS := hid hB
 have HN := hid hn
 have HM := hid hS
 have hbl := World.block_lt_of_cell? w _ hb
 have HBC := hid (fun W (bl : Below w.heap.size w W) => ((bl.cell (p := ⟨B, 0, none⟩) hbl).trans hb : W.cell? ⟨B, 0, none⟩ = some (.slice bad n bc)))
 have BR := hid bR
 have BS := hid bS
 clear hR hB hn hS hb bR bS hbl
 go_enter func87, ntmps87
 go_wp2_with fail
 go_loopw [6, 13] (fun v i wr => ∃ k : Nat, k <= n /\ i = .int .i64 k /\ wr.ownsRow w.heap.size 3 1 v k (iv .i64 (List.replicate k 0)) /\ (∀ j < k, ∀ p q, R[j]? = some p -> S[j]? = some q -> p.bs = q.bs) /\ Below w.heap.size w wr) (fun _ i _ => n - (intOf i).toNat)
 case atStart => exact ⟨0, by omega, rfl, World.ownsRow_nil _ _ _ _, fun j hj => absurd hj Xt0, Below.refl _ _⟩
 case round =>
  obtain ⟨k, hk, rfl, hown, hpre, B0⟩ := hrel
  have HP := hid hpre
  clear hpre
  by_cases hlt : k < n
  ·have hkl : (k : Int) < (n : Int) := by omega
   obtain ⟨p, hp⟩ : ∃ p, R[k]? = some p := ⟨_, List.getElem?_eq_getElem Xt8⟩
   obtain ⟨q, hq⟩ : ∃ q, S[k]? = some q := ⟨_, List.getElem?_eq_getElem Xt65⟩
   obtain ⟨b1, o1, e1, c1, l1⟩ := HR.out.below B0 k p hp
   subst e1
   have c2 : wr.cell? ⟨b1, o1 + k, none⟩ = some (.slice p.ad p.bs.length p.cap) := c1
   have h1 := same1_law k p.ad p.bs p.bs.length p.cap rfl (BR.out p (List.mem_of_getElem? hp)) B S bad n bc HM.out q hq (BS.out q (List.mem_of_getElem? hq)) wr l1 (HS.out.below B0) (HBC.out _ B0) Xt0
   have HPP := hid hp
   have HQQ := hid hq
   obtain ⟨m, hm⟩ := gtx (p.bs.length)
   rw [hm] at c2 h1
   have hs1 := B0.size
   clear c1 hp hq hm l1
   by_cases hle : p.bs = q.bs
   ·rw [decide_eq_true hle] at h1
    have H1 := hid h1
    have HLE := hid hle
    have HOWN := hid hown
    clear h1 hle hown
    go_wp2_with fail
    refine H1.out.mono ?_; rintro e w' ⟨rfl, rfl⟩
    go_wp2_with (at_builtin; refine zB_ eltI rfl (.tmp 28) (.tmp 30) rfl w.heap.size _ k (iv .i64 (List.replicate k 0)) rfl (HOWN.out.alloc _) _ _ 1 [0] rfl rfl (y5_ .i64 _ [0] _ _ _ rfl 1 rfl) Xt0 Xt7 ?_)
    intro v2 w3 hown3 hgrow3
    rw [← zI_, show List.replicate k (0 : Int) ++ [0] = List.replicate (k + 1) 0 from (List.replicate_succ' ..).symm] at hown3
    have B4 := (B0.alloc hs1 _).grown hgrow3 Xt7 (fun j hj => (HOWN.out.lt j hj).1)
    have HOWN3 := hid hown3
    clear hown3 hgrow3
    go_wp2_with fail
    go_roundw
    case rel => exact ⟨k + 1, by omega, by go_num, HOWN3.out, jstep HP.out Xt25, B4⟩
    case measure => simp [intOf]; omega
   ·rw [decide_eq_false hle] at h1
    have H1 := hid h1
    have HA := hid (show eqB R S = false from decide_eq_false fun e => hle (by
     have := congrArg (fun l : List (List Int) => l[k]?) e
     simpa [HPP.out, HQQ.out] using this))
    clear h1 hle hown
    go_wp2_with fail
    refine H1.out.mono ?_; rintro e w' ⟨rfl, rfl⟩
    go_wp2_with fail
    go_ret2
    exact ⟨⟨_, by rw [HA.out]; rfl⟩, B0⟩
  ·have hkl : ¬ (k : Int) < (n : Int) := by omega
   have HA := hid (show eqB R S = true from decide_eq_true (by
    apply List.ext_getElem
    ·simp [HN.out, HM.out]
    ·intro i h1 h2
     simp at h1 h2
     simp
     exact HP.out i (by have := HN.out; omega) _ _ (List.getElem?_eq_getElem h1) (List.getElem?_eq_getElem h2)))
   clear hown
   go_wp2_with fail
   go_ret2
   exact ⟨⟨_, by rw [HA.out]; rfl⟩, B0⟩
theorem eqB_len {R S : List P1} (h : R.length ≠ S.length) : eqB R S = false := decide_eq_false fun e => h (by simpa using congrArg List.length e)
theorem same_law (a b : Option Addr) (R S : List P1) (n m ca cb : Nat) (hn : R.length = n) (hm : S.length = m) (hn3 : n <= 1000000) (bR : ∀ p ∈ R, Byt p.bs) (bS : ∀ p ∈ S, Byt p.bs) (w : World) (hR : RdR w a R) (hS : RdR w b S) :
  Calls prog 65 #[.slice a n ca, .slice b m cb] w fun r w' => r = .returned (.bool (eqB R S)) /\ Below w.heap.size w w' := by
 by_cases h : n = m
 ·subst h
  have b0 : Below w.heap.size w (w.alloc (.cells #[.slice b n cb] 50)) := (Below.refl _ _).alloc (Nat.le_refl _) _
  have hc : (w.alloc (.cells #[.slice b n cb] 50)).cell? ⟨w.heap.size, 0, none⟩ = some (.slice b n cb) := by rw [Qj_]; rfl
  have h := hid (Q1_ a R S n ca w.heap.size b cb hn hm hn3 bR bS _ (hR.below b0) (hS.below b0) hc)
  have hmf : ∀ (fn : Fn) (first cap : Array Value) (w : World), (Instr.makeFunc fn first cap).run prog w = .ok (.func fn first cap) w := fun _ _ _ _ => rfl
  have B0 := hid b0
  clear hn hm bR bS hR hS b0 hc
  go_enter func65, ntmps65
  go_wp2_with fail
  refine h.out.mono ?_; rintro e w' ⟨⟨v, rfl⟩, B⟩
  go_wp2_with fail
  go_ret
  exact ⟨rfl, za_ B0.out B⟩
 ·have hne : ((n : Int) != (m : Int)) = true := by simp; omega
  rw [eqB_len Xt0]
  clear h hn hm bR bS hR hS
  go_enter func65, ntmps65
  go_wp2_with fail
  go_ret
  exact ⟨rfl, (Below.refl _ _).alloc (Nat.le_refl _) _⟩
theorem eqB_take {R S : List P1} {n : Nat} (hn : R.length = n) (hm : S.length = n) (h : ∀ j < n, ∀ p q, R[j]? = some p -> S[j]? = some q -> p.bs = q.bs) : eqB R S = true := decide_eq_true (by
 apply List.ext_getElem
 ·simp [hn, hm]
 ·intro i h1 h2
  simp at h1 h2
  simp
  exact h i Xt0 _ _ (List.getElem?_eq_getElem h1) (List.getElem?_eq_getElem h2))
theorem eqB_not {R S : List P1} {k : Nat} {p q : P1} (hp : R[k]? = some p) (hq : S[k]? = some q) (h : p.bs ≠ q.bs) : eqB R S = false := decide_eq_false fun e => h (by
 have := congrArg (fun l : List (List Int) => l[k]?) e
 simpa [hp, hq] using this)
theorem Ls.drewN {K : IntKind} {W : World} {a : Option Addr} {cap : Nat} {L : List Int} (h : Ls K W a cap L) {n : Nat} : Ls K (W.drewN n) a cap L := ⟨h.rd, h.nl, h.le⟩
theorem zl_ {m : Nat} {w W : World} (h : Below m w W) (n : Nat) : Below m w (W.drewN n) := ⟨h.os, h.tape, h.output, h.size, h.block⟩
theorem qS_ (a b : Option Addr) (R S : List P1) (n m ca cb : Nat) (hn : R.length = n) (hm : S.length = m) (hn3 : n <= 1000000) (bR : ∀ p ∈ R, Byt p.bs) (bS : ∀ p ∈ S, Byt p.bs) (w : World) (hR : RdR w a R) (hS : RdR w b S) :
  Calls prog 20 #[.slice a n ca, .slice b m cb] w fun r w' => r = .returned (.bool (eqB R S)) /\ Below w.heap.size w w' := by
 by_cases h : n = m
 ·subst h
  have HR := hid hR
  have HS := hid hS
  have HN := hid hn
  have HM := hid hm
  have BR := hid bR
  have BS := hid bS
  clear hR hn hS hm bR bS
  go_enter func20, ntmps20
  go_wp2_with fail
  go_loopw [5] (fun i wr => ∃ k : Nat, k <= n /\ i = .int .i64 k /\ (∀ j < k, ∀ p q, R[j]? = some p -> S[j]? = some q -> p.bs = q.bs) /\ Below w.heap.size w wr) (fun i _ => n - (intOf i).toNat)
  case atStart => exact ⟨0, by omega, rfl, fun j hj => absurd hj Xt0, Below.refl _ _⟩
  case round =>
   obtain ⟨k, hk, rfl, hpre, B0⟩ := hrel
   have HP := hid hpre
   have BB := hid B0
   clear hpre B0
   by_cases hlt : k < n
   ·have hkl : (k : Int) < (n : Int) := by omega
    have hk9 : (k : Int) <= 1000000 := by omega
    obtain ⟨p, hp⟩ : ∃ p, R[k]? = some p := ⟨_, List.getElem?_eq_getElem Xt8⟩
    obtain ⟨q, hq⟩ : ∃ q, S[k]? = some q := ⟨_, List.getElem?_eq_getElem Xt65⟩
    obtain ⟨b1, o1, e1, c1, l1⟩ := HR.out.below BB.out k p hp
    obtain ⟨b2, o2, e2, c2, l2⟩ := HS.out.below BB.out k q hq
    subst e1 e2
    have q1 : ∀ n, (convert 42 9 (.slice p.ad p.bs.length p.cap)).run prog (wr.drewN n) = .ok (.string (strOfNums p.bs)) (wr.drewN n) := fun n => kc2 (wr.drewN n) p.ad p.bs.length p.cap p.bs rfl l1.drewN
    have q2 : ∀ n, (convert 42 9 (.slice q.ad q.bs.length q.cap)).run prog (wr.drewN n) = .ok (.string (strOfNums q.bs)) (wr.drewN n) := fun n => kc2 (wr.drewN n) q.ad q.bs.length q.cap q.bs rfl l2.drewN
    have d1 : wr.cell? ⟨b1, o1 + k, none⟩ = some (.slice p.ad p.bs.length p.cap) := c1
    have d2 : wr.cell? ⟨b2, o2 + k, none⟩ = some (.slice q.ad q.bs.length q.cap) := c2
    have BP := hid (BR.out p (List.mem_of_getElem? hp))
    have BQ := hid (BS.out q (List.mem_of_getElem? hq))
    have HPP := hid hp
    have HQQ := hid hq
    clear c1 c2 hp hq l1 l2
    by_cases hle : p.bs = q.bs
    ·rw [← hle] at q2 d2
     have HLE := hid hle
     clear hle
     go_wp2_with fail
     go_quiet (fail)
     go_wp2_with fail
     go_roundw
     case rel => exact ⟨k + 1, by omega, by go_num, jstep HP.out Xt25, zl_ BB.out _⟩
     case measure => simp [intOf]; omega
    ·have hs : ((strOfNums p.bs).toList == (strOfNums q.bs).toList) = false := by
      rw [beq_eq_false_iff_ne]
      intro e
      rw [Lib.strOfNums_toList, Lib.strOfNums_toList] at e
      exact hle (xG_ BP.out BQ.out (ByteArray.ext (Array.toList_inj.1 (by rw [strOfNums_data, strOfNums_data]; exact e))))
     have HA := hid (eqB_not HPP.out HQQ.out hle)
     clear hle
     go_wp2_with fail
     go_quiet (fail)
     go_wp2_with fail
     go_ret
     exact ⟨zc_ HA.out.symm, zl_ BB.out _⟩
   ·have hkl : ¬ (k : Int) < (n : Int) := by omega
    have HA := hid (eqB_take HN.out HM.out (fun j hj => HP.out j Xt0))
    go_wp2_with fail
    go_ret
    exact ⟨zc_ HA.out.symm, BB.out⟩
 ·have hne : ((n : Int) != (m : Int)) = true := by simp; omega
  rw [eqB_len Xt0]
  clear h hn hm bR bS hR hS
  go_enter func20, ntmps20
  exact Xb29
theorem Q6_ (a : Option Addr) (L : List Int) (n cap : Nat) (hL : L.length = n) (hn : n <= 1000000) (w : World) (hA : Ls .u8 w a cap L) :
  Calls prog 92 #[.slice a n cap] w fun r w' => ∃ a' c', r = .returned (.slice a' n c') /\ Ls .u8 w' a' c' L /\ Below w.heap.size w w' := by
 have HA := hid hA
 have HL := hid hL
 rcases a with _ | a
 ·obtain ⟨rfl, rfl⟩ := hA.nl rfl
  simp only [List.length_nil] at hL
  subst hL
  have hsn : ∀ W, (binOp .eql 42 (.slice none 0 0) (.slice none 0 0)).run prog W = .ok (.bool true) W := fun W => Lib.run_eql_slice_nil W 42 5 none 0 0 0 0 underlying42
  clear hA
  go_enter func92, ntmps92
  go_wp2_with fail
  go_ret
  exact ⟨none, 0, rfl, Ls.nul _ _, Below.refl _ _⟩
 ·clear hA hL
  have hsn : ∀ W, (binOp .eql 42 (.slice (some a) n cap) (.slice none 0 0)).run prog W = .ok (.bool false) W := fun W => Lib.run_eql_slice_nil W 42 5 (some a) n cap 0 0 underlying42
  go_enter func92, ntmps92
  go_wp2_with (at_builtin; refine zB_ Qg_ rfl (.tmp 5) (.tmp 6) rfl w.heap.size _ 0 [] rfl (World.ownsRow_lit w #[] 0 (Nat.le_refl _) Xt4 rfl) _ _ n L HL.out rfl (HA.out.below ((Below.refl _ _).alloc (Nat.le_refl _) _)) Xt0 Xt5 ?_)
  intro v2 w2 hown2 hgrow2
  have B2 := ((Below.refl w.heap.size w).alloc (Nat.le_refl _) _).grown hgrow2 Xt5 Xt56
  obtain ⟨a', c', rfl, l', _⟩ := yy_ hown2 HL.out
  clear hown2 hgrow2
  go_wp2_with fail
  go_ret
  exact ⟨a', c', rfl, l', B2⟩
def ya_ : List Int -> List Int -> Option (List Int × List Int)
 | _, [] => none
 | _, [_] => none
 | f, x :: y :: s => if x = 0 then (if y = 1 then (if f.length <= 24 /\ yA_ s.length = true then some (f, s) else none) else if y = 255 then ya_ (f ++ [0]) s else none) else ya_ (f ++ [x]) (y :: s)
def spV (o : Option (List Int × List Int)) : List Int × List Int × Int := match o with
 | some (f, k) => (f, k, 0)
 | none => ([], [], 4)
def y2_ (L : List Int) : List Int × List Int × Int := spV (ya_ [] L)
theorem Q3_ (L : List Int) (k : Nat) (h : k < L.length) : L.drop k = L.getD k 0 :: L.drop (k + 1) := by
 rw [List.drop_eq_getElem_cons h]
 congr 1
 simp [List.getD, List.getElem?_eq_getElem h]
theorem jo_ (f : List Int) (L : List Int) (h : L.length <= 1) : ya_ f L = none := by
 match L, h with
 | [], _ => rfl
 | [_], _ => rfl
 | _ :: _ :: _, h => simp at h
theorem splitL_go (f : List Int) (x : Int) (r : List Int) (hx : x ≠ 0) : ya_ f (x :: r) = ya_ (f ++ [x]) r := by
 cases r with
 | nil => rfl
 | cons y s => rw [ya_, if_neg hx]
def wv (B : List Int) (j : Nat) : Int := B.getD (8 * j) 0 * 72057594037927936 + B.getD (8 * j + 1) 0 * 281474976710656 + B.getD (8 * j + 2) 0 * 1099511627776 + B.getD (8 * j + 3) 0 * 4294967296 + B.getD (8 * j + 4) 0 * 16777216 + B.getD (8 * j + 5) 0 * 65536 + B.getD (8 * j + 6) 0 * 256 + B.getD (8 * j + 7) 0
def mw (n : Nat) (L : List Int) (k j : Nat) : Int := if j = 0 then (n : Int) else wv (L.take k) (j - 1)
structure Mw (W : World) (g n c : Nat) (L : List Int) (k : Nat) : Prop where
 cell : ∀ j < 1 + c, W.cell? ⟨g, j, none⟩ = some (.int .u64 (mw n L k j))
 free : ∀ j < 1 + c, W.frozen? ⟨g, j, none⟩ = false
structure Rdr (W : World) (B : Nat) (ad : Option Addr) (cap n : Nat) (L : List Int) (at_ : Nat) : Prop where
 len : L.length = n
 c0 : W.cell? ⟨B, 0, none⟩ = some (.slice ad n cap)
 c1 : W.cell? ⟨B, 1, none⟩ = some (.int .i64 (at_ : Int))
 c2 : W.cell? ⟨B, 2, none⟩ = some (.bool true)
 f0 : W.frozen? ⟨B, 0, none⟩ = false
 f1 : W.frozen? ⟨B, 1, none⟩ = false
 f2 : W.frozen? ⟨B, 2, none⟩ = false
 ls : ∀ W', (∀ k b off, ad = some ⟨b, off, none⟩ -> W'.cell? ⟨b, off + k, none⟩ = W.cell? ⟨b, off + k, none⟩) -> Ls .u8 W' ad cap L
 le : at_ <= n
 apart : ∀ b off, ad = some ⟨b, off, none⟩ -> b < B
theorem x5_ {w : World} {b b' n size : Nat} {e : TypeId} {v : Value} {xs : List Value} (hb : b <= b') (h : w.ownsRow b' e size v n xs) : w.ownsRow b e size v n xs :=
 ⟨h.1, h.2.imp id fun ⟨g, cap, cur, e1, e2, e3⟩ => ⟨g, cap, cur, e1, Nat.le_trans hb e2, e3⟩⟩
theorem QM_ {w : World} {b1 b2 n m s1 s2 : Nat} {e1 e2 : TypeId} {v u : Value} {xs ys : List Value} (h : w.ownsRow b1 e1 s1 v n xs) (k : w.ownsRow b2 e2 s2 u m ys) (hne : e1 ≠ e2) : v.ownBlock = none ∨ v.ownBlock ≠ u.ownBlock := by
 rcases h.2 with ⟨rfl, _⟩ | ⟨g, cap, cur, rfl, _, hg, _⟩
 ·exact .inl rfl
 ·refine .inr fun e => ?_
  rcases k.2 with ⟨rfl, _⟩ | ⟨g2, cap2, cur2, rfl, _, hg2, _⟩
  ·cases e
  ·have e' : g = g2 := by simpa [Value.ownBlock] using e
   subst e'
   rw [hg] at hg2
   simp at hg2
   exact hne hg2.2
def ClB (L : List Int) (n : Nat) (w : World) (r : Ending) (w' : World) : Prop := ∃ a' c', r = .returned (.slice a' n c') /\ w'.ownsRow w.heap.size 5 1 (.slice a' n c') n (iv .u8 L)
theorem Q5_ (a : Option Addr) (L : List Int) (n cap : Nat) (hL : L.length = n) (hn : n <= 1000000) (w : World) (hA : Ls .u8 w a cap L) :
  Calls prog 92 #[.slice a n cap] w fun r w' => ClB L n w r w' /\ Below w.heap.size w w' := by
 have HA := hid hA
 have HL := hid hL
 rcases a with _ | a
 ·obtain ⟨rfl, rfl⟩ := hA.nl rfl
  simp only [List.length_nil] at hL
  subst hL
  have hsn : ∀ W, (binOp .eql 42 (.slice none 0 0) (.slice none 0 0)).run prog W = .ok (.bool true) W := fun W => Lib.run_eql_slice_nil W 42 5 none 0 0 0 0 underlying42
  clear hA
  go_enter func92, ntmps92
  exact Xb111
 ·clear hA hL
  have hsn : ∀ W, (binOp .eql 42 (.slice (some a) n cap) (.slice none 0 0)).run prog W = .ok (.bool false) W := fun W => Lib.run_eql_slice_nil W 42 5 (some a) n cap 0 0 underlying42
  go_enter func92, ntmps92
  go_wp2_with (at_builtin; refine zB_ Qg_ rfl (.tmp 5) (.tmp 6) rfl w.heap.size _ 0 [] rfl (World.ownsRow_lit w #[] 0 (Nat.le_refl _) Xt4 rfl) _ _ n L HL.out rfl (HA.out.below ((Below.refl _ _).alloc (Nat.le_refl _) _)) Xt0 Xt5 ?_)
  exact Xb44
def CbB (L : List Int) (n : Nat) (w : World) (r : Ending) (w' : World) : Prop := ∃ a' c', r = .returned (.tuple #[.slice a' n c', .bool true]) /\ w'.ownsRow w.heap.size 5 1 (.slice a' n c') n (iv .u8 L)
theorem copy1_law (i : Int) (a : Option Addr) (L : List Int) (n cap : Nat) (hL : L.length = n) (hn : n <= 1000000) (w : World) (hA : Ls .u8 w a cap L) :
  Calls prog 91 #[.int .i64 i, .slice a n cap] w fun r w' => CbB L n w r w' /\ Below w.heap.size w w' := by
 have H := hid (Q5_ a L n cap hL hn w hA)
 clear hL hA
 go_enter func91, ntmps91
 go_wp2_with fail
 refine H.out.mono ?_; rintro e w' ⟨⟨a', c', rfl, o'⟩, B⟩
 go_wp2_with fail
 go_ret2
 exact ⟨⟨a', c', rfl, o'⟩, B⟩
structure CpR (base : Nat) (R : List P1) (k : Nat) (v : Value) (W : World) : Prop where
 ex : ∃ R' : List P1, R'.map P1.bs = (R.take k).map P1.bs /\ W.ownsRow base 42 1 v k (R'.map P1.v) /\ ∀ p ∈ R', W.ownsRow base 5 1 p.v p.bs.length (iv .u8 p.bs)
theorem CpR.nil (base : Nat) (R : List P1) (W : World) : CpR base R 0 (.slice none 0 0) W := ⟨[], rfl, World.ownsRow_nil _ _ _ _, fun p hp => by simp at hp⟩
theorem CpR.below {base k : Nat} {R : List P1} {v : Value} {W W' : World} (h : CpR base R k v W) (hb : Below W.heap.size W W') : CpR base R k v W' := by
 obtain ⟨R', h1, h2, h3⟩ := h.ex
 exact ⟨R', h1, ze_ h2 hb, fun p hp => ze_ (h3 p hp) hb⟩
theorem cpR_next {base k : Nat} {R : List P1} {v v4 : Value} {w3 w4 : World} {o : Obj} (R' : List P1) (h1 : R'.map P1.bs = (R.take k).map P1.bs) (h2 : w3.ownsRow base 42 1 v k (R'.map P1.v)) (h3 : ∀ p ∈ R', w3.ownsRow base 5 1 p.v p.bs.length (iv .u8 p.bs)) (p : P1) (hp : R[k]? = some p) (m : Nat) (hm : p.bs.length = m) (a1 : Option Addr) (c1 : Nat) (ho : w3.ownsRow base 5 1 (.slice a1 m c1) m (iv .u8 p.bs))
  (h4 : w4.ownsRow base 42 1 v4 (k + 1) (R'.map P1.v ++ [.slice a1 m c1])) (hg : (w3.alloc o).grownBy w4 v.ownBlock) : CpR base R (k + 1) v4 w4 := by
 subst hm
 have keep : ∀ (x : Value) (m : Nat) (xs : List Value), w3.ownsRow base 5 1 x m xs -> w4.ownsRow base 5 1 x m xs := fun x m xs hx => (hx.alloc _).kept hg (QM_ hx h2 Xt4)
 refine ⟨R' ++ [⟨a1, c1, p.bs⟩], ?_, ?_, fun q hq => ?_⟩
 ·rw [List.map_append, h1, List.take_add_one, hp]; simp
 ·rw [List.map_append]; exact h4
 ·rcases List.mem_append.1 hq with hq | hq
  ·exact keep _ _ _ (h3 q hq)
  ·simp at hq
   subst hq
   exact keep _ _ _ ho
theorem cinfo24 : (prog.info? 42).map (fun i => (i.zero, i.size, i.bytes)) = some (some (.slice none 0 0), 1, 24) := by kernel_rfl
def EcB (base : Nat) (R : List P1) (n : Nat) (r : Ending) (w' : World) : Prop := ∃ v, r = .returned (.tuple #[v, .bool true]) /\ CpR base R n v w'
theorem Q2_ (a : Option Addr) (R : List P1) (n cap : Nat) (hn : R.length = n) (hn3 : n <= 9000) (hl : ∀ p ∈ R, p.bs.length <= 9000) (w : World) (hR : RdR w a R) :
  Calls prog 90 #[.slice a n cap, .func (.func 91) #[] #[]] w fun r w' => EcB w.heap.size R n r w' /\ Below w.heap.size w w' := by
 have HR := hid hR
 have HN := hid hn
 have HLL := hid hl
 clear hR hn hl
 obtain ⟨i0, hi, hz0, hz1, hz2⟩ := info_parts cinfo24
 go_enter func90, ntmps90
 go_wp2_with fail
 go_loopw [6, 13] (fun v i wr => ∃ k : Nat, k <= n /\ i = .int .i64 k /\ CpR w.heap.size R k v wr /\ Below w.heap.size w wr) (fun _ i _ => n - (intOf i).toNat)
 case atStart => exact ⟨0, by omega, rfl, CpR.nil _ _ _, Below.refl _ _⟩
 case round =>
  obtain ⟨k, hk, rfl, hc, B⟩ := hrel
  by_cases hlt : k < n
  ·have hkl : (k : Int) < (n : Int) := by omega
   obtain ⟨p, hp⟩ : ∃ p, R[k]? = some p := ⟨_, List.getElem?_eq_getElem Xt8⟩
   obtain ⟨b1, o1, e1, c1, l1⟩ := HR.out.below B k p hp
   subst e1
   have c2 : wr.cell? ⟨b1, o1 + k, none⟩ = some (.slice p.ad p.bs.length p.cap) := c1
   have HPP := hid hp
   have hp9 := HLL.out p (List.mem_of_getElem? hp)
   obtain ⟨q, hq⟩ := gtx (p.bs.length)
   rw [hq] at c2 hp9
   have HQ := hid hq
   have hs1 := B.size
   have H1 := hid (copy1_law (k : Int) p.ad p.bs q p.cap hq Xt0 wr l1)
   have HC := hid hc
   clear c1 hp hq l1 hc
   go_wp2_with fail
   refine H1.out.mono ?_; rintro e w3 ⟨⟨a1, c1, rfl, ho⟩, B3⟩
   obtain ⟨R', r1, r2, r3⟩ := (HC.out.below B3).ex
   have HO := hid (x5_ hs1 ho)
   have R1 := hid r1
   have R2 := hid r2
   have R3 := hid r3
   have hs3 : w.heap.size <= w3.heap.size := Nat.le_trans hs1 B3.size
   clear ho r1 r2 r3 HC H1
   go_wp2_with (at_builtin; refine wpList_append_own _ rfl (.tmp 28) (.tmp 30) 49 rfl w.heap.size 42 i0 (.slice none 0 0) 1 24 underlying49 hi hz0 hz1 hz2 rfl Xt4 _ k (R'.map P1.v) rfl (R2.out.alloc _) ⟨w3.heap.size, 0, none⟩ 1 1 [.slice a1 q c1] rfl rfl Xt14 Xt46 Xt15 Xt0 Xt7 ?_)
   exact Xb33
  ·have hkl : ¬ (k : Int) < (n : Int) := by omega
   obtain rfl : k = n := by omega
   have HC := hid hc
   clear hc
   go_wp2_with fail
   go_ret2
   exact ⟨⟨_, rfl, HC.out⟩, B⟩
def RcB (base : Nat) (R : List P1) (n : Nat) (r : Ending) (w' : World) : Prop := ∃ v, r = .returned v /\ CpR base R n v w'
theorem zZ_ (a : Option Addr) (R : List P1) (n cap : Nat) (hn : R.length = n) (hn3 : n <= 9000) (hl : ∀ p ∈ R, p.bs.length <= 9000) (w : World) (hR : RdR w a R) :
  Calls prog 55 #[.slice a n cap] w fun r w' => RcB w.heap.size R n r w' /\ Below w.heap.size w w' := by
 have H := hid (Q2_ a R n cap hn hn3 hl w hR)
 clear hn hl hR
 go_enter func55, ntmps55
 go_wp2_with fail
 refine H.out.mono ?_; rintro e w' ⟨⟨v, rfl, hc⟩, B⟩
 exact Xb116
theorem xI_ (a : Option Addr) (R : List P1) (n cap : Nat) (hn : R.length = n) (hn3 : n <= 9000) (hl : ∀ p ∈ R, p.bs.length <= 9000) (w : World) (hR : RdR w a R) :
  Calls prog 60 #[.slice a n cap] w fun r w' => RcB w.heap.size R n r w' /\ Below w.heap.size w w' := by
 have HR := hid hR
 have HN := hid hn
 have HLL := hid hl
 clear hR hn hl
 obtain ⟨i0, hi, hz0, hz1, hz2⟩ := info_parts cinfo24
 go_enter func60, ntmps60
 go_wp2_with fail
 go_loopw [3, 4] (fun v i wr => ∃ k : Nat, k <= n /\ i = .int .i64 k /\ CpR w.heap.size R k v wr /\ Below w.heap.size w wr) (fun _ i _ => n - (intOf i).toNat)
 case atStart => exact ⟨0, by omega, rfl, CpR.nil _ _ _, Below.refl _ _⟩
 case round =>
  obtain ⟨k, hk, rfl, hc, B⟩ := hrel
  by_cases hlt : k < n
  ·have hkl : (k : Int) < (n : Int) := by omega
   obtain ⟨p, hp⟩ : ∃ p, R[k]? = some p := ⟨_, List.getElem?_eq_getElem Xt8⟩
   obtain ⟨b1, o1, e1, c1, l1⟩ := HR.out.below B k p hp
   subst e1
   have c2 : wr.cell? ⟨b1, o1 + k, none⟩ = some (.slice p.ad p.bs.length p.cap) := c1
   have HPP := hid hp
   have hp9 := HLL.out p (List.mem_of_getElem? hp)
   obtain ⟨q, hq⟩ := gtx (p.bs.length)
   rw [hq] at c2 hp9
   have HQ := hid hq
   have hs1 := B.size
   have HC := hid hc
   have HL1 := hid l1
   clear c1 hp hq l1 hc
   go_wp2_with (at_builtin; refine zB_ Qg_ rfl (.const (.slice none 0 0)) (.tmp 15) rfl wr.heap.size _ 0 [] rfl (World.ownsRow_nil _ _ _ _) _ _ q p.bs HQ.out rfl HL1.out Xt0 (Nat.le_refl _) ?_)
   intro v3 w3 ho hg3
   have B3 : Below wr.heap.size wr w3 := (Below.refl wr.heap.size wr).grown hg3 (Nat.le_refl _) Xt23
   obtain ⟨a1, c1, rfl, _⟩ := yy_ ho HQ.out
   obtain ⟨R', r1, r2, r3⟩ := (HC.out.below B3).ex
   have HO := hid (x5_ hs1 ho)
   have R1 := hid r1
   have R2 := hid r2
   have R3 := hid r3
   have hs3 : w.heap.size <= w3.heap.size := Nat.le_trans hs1 B3.size
   clear ho r1 r2 r3 HC HL1 hg3
   go_wp2_with (at_builtin; refine wpList_append_own _ rfl (.tmp 11) (.tmp 17) 50 rfl w.heap.size 42 i0 (.slice none 0 0) 1 24 underlying50 hi hz0 hz1 hz2 rfl Xt4 _ k (R'.map P1.v) rfl (R2.out.alloc _) ⟨w3.heap.size, 0, none⟩ 1 1 [.slice a1 q c1] rfl rfl Xt14 Xt46 Xt15 Xt0 Xt7 ?_)
   exact Xb33
  ·have hkl : ¬ (k : Int) < (n : Int) := by omega
   obtain rfl : k = n := by omega
   exact Xb116
def ltL : List Int -> List Int -> Bool
 | [], [] => false
 | [], _ :: _ => true
 | _ :: _, [] => false
 | a :: x, b :: y => decide (a < b) || (decide (a = b) && ltL x y)
theorem zR_ : ∀ x, ltL x x = false
 | [] => rfl
 | a :: x => by simp [ltL, zR_ x]
theorem zF_ : ∀ {x y z : List Int}, ltL x y = true -> ltL y z = true -> ltL x z = true
 | [], [], z, h, _ => by cases h
 | [], b :: y, [], _, h => by simp [ltL] at h
 | [], b :: y, c :: z, _, _ => rfl
 | a :: x, [], z, h, _ => by simp [ltL] at h
 | a :: x, b :: y, [], _, h => by simp [ltL] at h
 | a :: x, b :: y, c :: z, h, k => by
  simp only [ltL, Bool.or_eq_true, Bool.and_eq_true, decide_eq_true_eq] at h k ⊢
  rcases h with h | ⟨h, h'⟩ <;> rcases k with k | ⟨k, k'⟩
  ·exact .inl Xt0
  ·exact .inl Xt0
  ·exact .inl Xt0
  ·exact .inr ⟨by omega, zF_ h' k'⟩
theorem xh_ : ∀ {x y : List Int}, ltL x y = false -> ltL y x = false -> x = y
 | [], [], _, _ => rfl
 | [], b :: y, h, _ => by simp [ltL] at h
 | a :: x, [], _, h => by simp [ltL] at h
 | a :: x, b :: y, h, k => by
  simp only [ltL, Bool.or_eq_false_iff, Bool.and_eq_false_iff, decide_eq_false_iff_not] at h k
  have e : a = b := by omega
  subst e
  rw [xh_ (h.2.resolve_left (fun n => n rfl)) (k.2.resolve_left (fun n => n rfl))]
theorem yD_ {x y : List Int} (h : ltL x y = true) : ltL y x = false := by
 cases k : ltL y x
 ·rfl
 ·have := zF_ h k; rw [zR_] at this; cases this
theorem qY_ {x y : List Int} (h : ltL x y = true) : x ≠ y := fun e => by subst e; rw [zR_] at h; cases h
abbrev Pr := List Int × List (List Int)
def Ris {α : Type} (key : α -> List Int) : List α -> Prop := List.Pairwise fun a b => ltL (key a) (key b) = true
abbrev z1_ (t : List Pr) : Prop := Ris Prod.fst t
def y9_ (t : List Pr) (k : List Int) : Option (List (List Int)) := (t.find? fun p => decide (p.1 = k)).map Prod.snd
def xT_ (t : List Pr) (k : List Int) (r : List (List Int)) : List Pr := t.filter (fun p => ltL p.1 k) ++ ((if r = [] then [] else [(k, r)]) ++ t.filter (fun p => ltL k p.1))
theorem xw_ {t : List Pr} {k : List Int} {r : List (List Int)} {p : Pr} : p ∈ xT_ t k r ↔ (p ∈ t /\ p.1 ≠ k) ∨ (p = (k, r) /\ r ≠ []) := by
 unfold xT_
 simp only [List.mem_append, List.mem_filter]
 constructor
 ·rintro (⟨h, l⟩ | h | ⟨h, l⟩)
  ·exact .inl ⟨h, qY_ l⟩
  ·split at h
   ·simp at h
   ·next hr => exact .inr ⟨by simpa using h, hr⟩
  ·exact .inl ⟨h, (qY_ l).symm⟩
 ·rintro (⟨h, n⟩ | ⟨rfl, hr⟩)
  ·cases l : ltL p.1 k
   ·cases g : ltL k p.1
    ·exact absurd (xh_ l g) n
    ·exact .inr (.inr ⟨h, rfl⟩)
   ·exact .inl ⟨h, rfl⟩
  ·exact .inr (.inl (by rw [if_neg hr]; simp))
theorem qP_ {t : List Pr} (h : z1_ t) (k : List Int) (r : List (List Int)) : z1_ (xT_ t k r) := by
 unfold xT_
 refine List.pairwise_append.2 ⟨h.filter _, List.pairwise_append.2 ⟨?_, h.filter _, ?_⟩, ?_⟩
 ·split <;> simp
 ·intro a ha b hb
  split at ha
  ·simp at ha
  ·have ha : a = (k, r) := by simpa using ha
   subst ha
   exact (List.mem_filter.1 hb).2
 ·intro a ha b hb
  have ha := (List.mem_filter.1 ha).2
  rcases List.mem_append.1 hb with hb | hb
  ·split at hb
   ·simp at hb
   ·have hb : b = (k, r) := by simpa using hb
    subst hb
    exact ha
  ·exact zF_ ha (List.mem_filter.1 hb).2
theorem jW_ {α : Type} {key : α -> List Int} : ∀ {a b : List α}, Ris key a -> Ris key b -> (∀ x, x ∈ a ↔ x ∈ b) -> a = b
 | [], [], _, _, _ => rfl
 | [], y :: b, _, _, h => absurd ((h y).2 (List.mem_cons_self ..)) Xt5
 | x :: a, [], _, _, h => absurd ((h x).1 (List.mem_cons_self ..)) Xt5
 | x :: a, y :: b, ha, hb, h => by
  have ha' := List.pairwise_cons.1 ha
  have hb' := List.pairwise_cons.1 hb
  have exy : x = y := by
   rcases List.mem_cons.1 ((h x).1 (List.mem_cons_self ..)) with e | e
   ·exact e
   ·rcases List.mem_cons.1 ((h y).2 (List.mem_cons_self ..)) with e2 | e2
    ·exact e2.symm
    ·have h1 := hb'.1 x e
     have h2 := ha'.1 y e2
     rw [yD_ h1] at h2; cases h2
  subst exy
  have hx : ∀ z, z ∈ a -> z ≠ x := fun z hz e => by subst e; have := ha'.1 z hz; rw [zR_] at this; cases this
  have hy : ∀ z, z ∈ b -> z ≠ x := fun z hz e => by subst e; have := hb'.1 z hz; rw [zR_] at this; cases this
  rw [jW_ ha'.2 hb'.2 (fun z => ⟨fun hz => (List.mem_cons.1 ((h z).1 (List.mem_cons_of_mem _ hz))).resolve_left (hx z hz), fun hz => (List.mem_cons.1 ((h z).2 (List.mem_cons_of_mem _ hz))).resolve_left (hy z hz)⟩)]
theorem yq_ {t : List Pr} (h : z1_ t) {k : List Int} {r : List (List Int)} : y9_ t k = some r ↔ (k, r) ∈ t := by
 induction t with
 | nil => simp [y9_]
 | cons p t ih =>
  obtain ⟨h1, h2⟩ := List.pairwise_cons.1 h
  unfold y9_
  rw [List.find?_cons]
  by_cases e : p.1 = k
  ·rw [show decide (p.1 = k) = true by simp [e]]
   constructor
   ·exact Xb114
   ·exact Xb96
  ·rw [show decide (p.1 = k) = false by simp [e]]
   constructor
   ·intro hh; exact List.mem_cons_of_mem _ ((ih h2).1 hh)
   ·exact Xb105
theorem q4_ {t : List Pr} {k : List Int} : y9_ t k = none ↔ ∀ p ∈ t, p.1 ≠ k := by
 unfold y9_
 rw [Option.map_eq_none_iff, List.find?_eq_none]
 simp
theorem Qc_ {t : List Pr} (h : z1_ t) (k : List Int) (r : List (List Int)) (j : List Int) : y9_ (xT_ t k r) j = if j = k then (if r = [] then none else some r) else y9_ t j := by
 by_cases e : j = k
 ·subst e
  rw [if_pos rfl]
  by_cases hr : r = []
  ·rw [if_pos hr, q4_]
   intro p hp
   rcases xw_.1 hp with hp | hp
   ·exact hp.2
   ·exact absurd hr hp.2
  ·rw [if_neg hr, yq_ (qP_ h _ _)]
   exact xw_.2 (.inr ⟨rfl, hr⟩)
 ·rw [if_neg e]
  cases hg : y9_ t j with
  | some x => exact (yq_ (qP_ h _ _)).2 (xw_.2 (.inl ⟨(yq_ h).1 hg, e⟩))
  | none =>
   rw [q4_] at hg ⊢
   intro p hp
   rcases xw_.1 hp with hp | hp
   ·exact hg p hp.1
   ·rw [hp.1]; exact fun e' => e e'.symm
theorem x8_ {x y : List Int} (h : ltL x y = false) (hne : y ≠ x) : ltL y x = true := by
 cases k : ltL y x
 ·exact absurd (xh_ k h) hne
 ·rfl
theorem x2_ {α : Type} {key : α -> List Int} : ∀ {l : List α}, (l.Pairwise fun a b => ltL (key b) (key a) = false) -> (l.Pairwise fun a b => key a ≠ key b) -> Ris key l
 | [], _, _ => List.Pairwise.nil
 | x :: l, h, k => by
  obtain ⟨h1, h2⟩ := List.pairwise_cons.1 h
  obtain ⟨k1, k2⟩ := List.pairwise_cons.1 k
  exact List.pairwise_cons.2 ⟨fun y hy => x8_ (h1 y hy) (k1 y hy), x2_ h2 k2⟩
theorem ris_perm {α : Type} {key : α -> List Int} {a b : List α} (ha : Ris key a) (hb : Ris key b) (h : a.Perm b) : a = b := jW_ ha hb fun x => h.mem_iff
theorem QD_ {α : Type} {key : α -> List Int} {l : List α} (h : Ris key l) : l.Pairwise fun a b => key a ≠ key b := h.imp fun h => qY_ h
theorem qs_ {α : Type} {key : α -> List Int} {a b : List α} (h : a.Perm b) (k : a.Pairwise fun a b => key a ≠ key b) : b.Pairwise fun a b => key a ≠ key b :=
 (h.pairwise_iff (R := fun a b => key a ≠ key b) (fun h e => h e.symm)).1 k
structure PrV where
 ka : Option Addr
 kc : Nat
 K : List Int
 ra : Option Addr
 rc : Nat
 R : List P1
def prC (x : PrV) : Pr := (x.K, x.R.map P1.bs)
structure Qp_ (x : PrV) : Prop where
 kb : Byt x.K
 rb : ∀ p ∈ x.R, Byt p.bs
 rn : x.R.length <= 1000000
def zp_ (W : World) (a : Option Addr) (L : List PrV) : Prop := ∀ (k : Nat) (x : PrV), L[k]? = some x -> ∃ b off, a = some ⟨b, off, none⟩ /\ W.cell? ⟨b, off + k * 2, none⟩ = some (.slice x.ka x.K.length x.kc) /\ W.cell? ⟨b, off + k * 2 + 1, none⟩ = some (.slice x.ra x.R.length x.rc) /\ Ls .u8 W x.ka x.kc x.K /\ RdR W x.ra x.R
theorem zp_.below {W W' : World} {a : Option Addr} {L : List PrV} (h : zp_ W a L) (hb : Below W.heap.size W W') : zp_ W' a L := fun k x hx => by
 obtain ⟨b, off, e, c0, c1, l, r⟩ := h k x hx
 exact ⟨b, off, e, tcb hb c0, tcb hb c1, l.below hb, r.below hb⟩
theorem xg_ {α β : Type} {f : α -> β} {L M : List α} {k : Nat} {x y : α} (hx : L[k]? = some x) (hy : M[k]? = some y) (h : f x ≠ f y) : L.map f ≠ M.map f := fun e => by
 have e1 : (L.map f)[k]? = (M.map f)[k]? := by rw [e]
 rw [List.getElem?_map, List.getElem?_map, hx, hy] at e1
 exact h (by simpa using e1)
theorem yE_ (a b : Option Addr) (L M : List PrV) (n m ca cb : Nat) (hn : L.length = n) (hm : M.length = m) (hn2 : n <= 1000000) (hm2 : m <= 1000000) (okL : ∀ x ∈ L, Qp_ x) (okM : ∀ x ∈ M, Qp_ x) (w : World) (hA : zp_ w a L) (hB : zp_ w b M) :
  Calls prog 73 #[.slice a n ca, .slice b m cb] w fun r w' => r = .returned (.bool (decide (L.map prC = M.map prC))) /\ Below w.heap.size w w' := by
 have HR := hid (And.intro hA hB)
 have HN := hid (And.intro hn hm)
 have HOK := hid (And.intro okL okM)
 have hni : (n : Int) <= 1000000 := by omega
 have hmi : (m : Int) <= 1000000 := by omega
 clear hA hB hn hm okL okM
 by_cases hnm : n = m
 ·subst hnm
  have e4 : ((n : Int) != (n : Int)) = false := by simp
  go_enter func73, ntmps73
  go_wp2_with fail
  clear e4
  go_loopw [5] (fun i wr => ∃ k : Nat, k <= n /\ i = .int .i64 (k : Int) /\ Hid ((L.take k).map prC = (M.take k).map prC) /\ Hid (Below w.heap.size w wr)) (fun i _ => n - (intOf i).toNat)
  case atStart => exact ⟨0, by omega, rfl, hid rfl, hid (Below.refl _ _)⟩
  case round =>
   obtain ⟨k, hk, rfl, HE, HBW⟩ := hrel
   by_cases hlt : k < n
   ·have d1 : (k : Int) < (n : Int) := by omega
    obtain ⟨x, hx⟩ : ∃ x, L[k]? = some x := ⟨_, List.getElem?_eq_getElem Xt73⟩
    obtain ⟨y, hy⟩ : ∃ y, M[k]? = some y := ⟨_, List.getElem?_eq_getElem Xt74⟩
    obtain ⟨b1, o1, ea, c0, c1, lx, rx⟩ := (HR.out.1.below HBW.out) k x hx
    subst ea
    obtain ⟨b2, o2, eb, e0, e1, ly, ry⟩ := (HR.out.2.below HBW.out) k y hy
    subst eb
    have okx := HOK.out.1 x (List.mem_of_getElem? hx)
    have oky := HOK.out.2 y (List.mem_of_getElem? hy)
    have HXY := hid (And.intro hx hy)
    have HRS := hid (fun W (b : Below wr.heap.size wr W) => qS_ x.ra y.ra x.R y.R x.R.length y.R.length x.rc y.rc rfl rfl okx.rn okx.rb oky.rb W (rx.below b) (ry.below b))
    obtain ⟨q, hq⟩ := gtx (eqB x.R y.R)
    rw [hq] at HRS
    have HKB := hid (And.intro okx.kb oky.kb)
    have HQ := hid hq
    have HPC := hid (show prC x = (x.K, x.R.map P1.bs) /\ prC y = (y.K, y.R.map P1.bs) from ⟨rfl, rfl⟩)
    obtain ⟨XK, hXK⟩ := gtx (x.K)
    obtain ⟨xkn, hxkn⟩ := gtx (XK.length)
    obtain ⟨xka, hxka⟩ := gtx (x.ka)
    obtain ⟨xkc, hxkc⟩ := gtx (x.kc)
    obtain ⟨xrn, hxrn⟩ := gtx (x.R.length)
    obtain ⟨xra, hxra⟩ := gtx (x.ra)
    obtain ⟨xrc, hxrc⟩ := gtx (x.rc)
    obtain ⟨YK, hYK⟩ := gtx (y.K)
    obtain ⟨ykn, hykn⟩ := gtx (YK.length)
    obtain ⟨yka, hyka⟩ := gtx (y.ka)
    obtain ⟨ykc, hykc⟩ := gtx (y.kc)
    obtain ⟨yrn, hyrn⟩ := gtx (y.R.length)
    obtain ⟨yra, hyra⟩ := gtx (y.ra)
    obtain ⟨yrc, hyrc⟩ := gtx (y.rc)
    rw [hxka, hXK, hxkn, hxkc] at c0
    rw [hxra, hxrn, hxrc] at c1
    rw [hyka, hYK, hykn, hykc] at e0
    rw [hyra, hyrn, hyrc] at e1
    rw [hxra, hyra, hxrn, hyrn, hxrc, hyrc] at HRS
    rw [hxka, hXK, hxkc] at lx
    rw [hyka, hYK, hykc] at ly
    rw [hXK, hYK] at HKB HPC
    have HKX := hid (And.intro hxkn lx)
    have HKY := hid (And.intro hykn ly)
    have HX5 := hid (fun W (b : Below wr.heap.size wr W) => (⟨tcb b c0, tcb b c1⟩ : W.cell? ⟨b1, o1 + k * 2, none⟩ = some (.slice xka xkn xkc) /\ W.cell? ⟨b1, o1 + k * 2 + 1, none⟩ = some (.slice xra xrn xrc)))
    have HY5 := hid (fun W (b : Below wr.heap.size wr W) => (⟨tcb b e0, tcb b e1⟩ : W.cell? ⟨b2, o2 + k * 2, none⟩ = some (.slice yka ykn ykc) /\ W.cell? ⟨b2, o2 + k * 2 + 1, none⟩ = some (.slice yra yrn yrc)))
    clear c0 c1 e0 e1 lx ly rx ry okx oky hx hy hq hXK hxkn hxka hxkc hxrn hxra hxrc hYK hykn hyka hykc hyrn hyra hyrc
    by_cases hkk : XK = YK
    ·have HKK := hid hkk
     have hne : ((strOfNums XK).toList != (strOfNums YK).toList) = false := by rw [hkk]; simp
     have hnp : (strOfNums XK).toList = (strOfNums YK).toList := by rw [hkk]
     clear hkk
     go_upto_region 6 with (fail)
     rename_i KK hKK
     refine wmo ?_
     refine rgw wr (Below.refl _ _).drew fun hH => ?_
     refine tkq4 0 1 2 3 ?_
     refine tkr 4 rfl Xf17 ?_
     refine tkr 5 rfl Xf36 ?_
     refine tkq4 6 7 8 9 ?_
     refine tkr 10 rfl Xf18 ?_
     refine tkr 11 rfl Xf24 ?_
     refine tkp 12 (.bool false) rfl (.inl ⟨by rfl, ?_⟩) ?_
     ·exact Xb23
     refine tkp 13 (.bool false) rfl (.inl ⟨by rfl, ?_⟩) ?_
     ·exact Xb23
     refine tkq4 14 15 16 17 ?_
     refine tkr 18 rfl Xf17 ?_
     refine tkq4 19 20 21 22 ?_
     refine tkr 23 rfl Xf18 ?_
     refine tk1 24 rfl fun K hK => ?_
     go_simp
     refine (HRS.out _ hH).mono ?_; rintro e9 w9 ⟨rfl, hb9⟩
     go_wp2_with fail
     refine hK.out _ _ (za_ hH hb9) fun hH => ?_
     clear hb9
     refine stP ?_
     refine tkq2 25 26 ?_
     refine adn ?_
     skip
     refine hKK _ _ ?_
     have HB9 := hid (za_ HBW.out hH)
     clear hH hne hnp
     cases q
     ·have HV := hid (show decide (L.map prC = M.map prC) = false by
       rw [decide_eq_false_iff_not]
       refine xg_ HXY.out.1 HXY.out.2 ?_
       rw [HPC.out.1, HPC.out.2]
       intro e9
       have := HQ.out
       unfold eqB at this
       rw [decide_eq_false_iff_not] at this
       exact this (Prod.mk.inj e9).2)
      exact Xb47
     ·have HEN := hid (show (L.take (k + 1)).map prC = (M.take (k + 1)).map prC by
       rw [List.take_add_one, List.take_add_one, HXY.out.1, HXY.out.2, List.map_append, List.map_append, HE.out]
       have hr := HQ.out
       unfold eqB at hr
       rw [decide_eq_true_eq] at hr
       simp only [Option.toList_some, List.map_cons, List.map_nil, HPC.out.1, HPC.out.2, HKK.out, hr])
      exact Xb51
    ·have HV := hid (show decide (L.map prC = M.map prC) = false by
      rw [decide_eq_false_iff_not]
      refine xg_ HXY.out.1 HXY.out.2 ?_
      rw [HPC.out.1, HPC.out.2]
      exact fun e9 => hkk (Prod.mk.inj e9).1)
     have hne : ((strOfNums XK).toList != (strOfNums YK).toList) = true := by
      rw [bne_iff_ne]
      intro e9
      rw [ByteArray.toList_eq, ByteArray.toList_eq] at e9
      exact hkk (xG_ HKB.out.1 HKB.out.2 (bytes_inj e9))
     have hnp : ¬ (strOfNums XK).toList = (strOfNums YK).toList := bne_iff_ne.1 hne
     clear hkk
     go_upto_region 6 with (fail)
     rename_i KK hKK
     refine wmo ?_
     refine rgw wr (Below.refl _ _).drew fun hH => ?_
     refine tkq4 0 1 2 3 ?_
     refine tkr 4 rfl Xf17 ?_
     refine tkr 5 rfl Xf36 ?_
     refine tkq4 6 7 8 9 ?_
     refine tkr 10 rfl Xf18 ?_
     refine tkr 11 rfl Xf24 ?_
     refine tkp 12 (.bool true) rfl (.inl ⟨by rfl, ?_⟩) ?_
     ·exact Xb23
     refine tkp 13 (.bool true) rfl (.inl ⟨by rfl, ?_⟩) ?_
     ·exact Xb23
     refine tkn 14 ?_
     refine tkn 15 ?_
     refine tkn 16 ?_
     refine tkn 17 ?_
     refine tkn 18 ?_
     refine tkn 19 ?_
     refine tkn 20 ?_
     refine tkn 21 ?_
     refine tkn 22 ?_
     refine tkn 23 ?_
     refine tkn 24 ?_
     refine tkn 25 ?_
     refine tkp 26 (.bool true) rfl (.inl ⟨by rfl, ?_⟩) ?_
     ·intro W hSw; go_simp; try (first | rfl | (simp; done))
     refine adn ?_
     skip
     refine hKK _ _ ?_
     have HB9 := hid (za_ HBW.out hH)
     clear hH hne hnp
     exact Xb47
   ·have d1 : ¬ (k : Int) < (n : Int) := by omega
    have HV := hid (show decide (L.map prC = M.map prC) = true by
     have h1 := HE.out
     rw [List.take_of_length_le (by rw [HN.out.1]; omega), List.take_of_length_le (by rw [HN.out.2]; omega)] at h1
     rw [decide_eq_true_eq]; exact h1)
    exact Xb84
 ·have e4 : ((n : Int) != (m : Int)) = true := by rw [bne_iff_ne]; omega
  have HV := hid (show decide (L.map prC = M.map prC) = false by
   rw [decide_eq_false_iff_not]
   intro e9
   have := congrArg List.length e9
   rw [List.length_map, List.length_map, HN.out.1, HN.out.2] at this
   exact hnm this)
  clear hnm
  go_enter func73, ntmps73
  exact Xb76
theorem yS_ (L : List Int) : (strOfNums L).toList = L.map fun x => UInt8.ofNat x.toNat := by
 rw [ByteArray.toList_eq]
 simp [strOfNums]
theorem j6_ : ∀ {A B : List Int}, Byt A -> Byt B -> Op.bytesLess (A.map fun x => UInt8.ofNat x.toNat) (B.map fun x => UInt8.ofNat x.toNat) = ltL A B
 | [], [], _, _ => rfl
 | [], b :: B, _, _ => rfl
 | a :: A, [], _, _ => rfl
 | a :: A, b :: B, ha, hb => by
  have h1 := ha a (List.mem_cons_self ..)
  have h2 := hb b (List.mem_cons_self ..)
  have ih := j6_ (A := A) (B := B) (fun x hx => ha x (List.mem_cons_of_mem _ hx)) (fun x hx => hb x (List.mem_cons_of_mem _ hx))
  rw [List.map_cons, List.map_cons]
  show (decide (UInt8.ofNat a.toNat < UInt8.ofNat b.toNat) || ((UInt8.ofNat a.toNat == UInt8.ofNat b.toNat) && Op.bytesLess _ _)) = (decide (a < b) || (decide (a = b) && ltL A B))
  rw [ih]
  have e1 : decide (UInt8.ofNat a.toNat < UInt8.ofNat b.toNat) = decide (a < b) := by
   apply Bool.eq_iff_iff.2
   rw [decide_eq_true_eq, decide_eq_true_eq, UInt8.lt_iff_toNat_lt, UInt8.toNat_ofNat', UInt8.toNat_ofNat', Nat.mod_eq_of_lt Xt0, Nat.mod_eq_of_lt Xt0]
   omega
  have e2 : (UInt8.ofNat a.toNat == UInt8.ofNat b.toNat) = decide (a = b) := by
   apply Bool.eq_iff_iff.2
   rw [beq_iff_eq, decide_eq_true_eq, ← UInt8.toNat_inj, UInt8.toNat_ofNat', UInt8.toNat_ofNat', Nat.mod_eq_of_lt Xt0, Nat.mod_eq_of_lt Xt0]
   omega
  rw [e1, e2]
theorem yk_ {A B : List Int} (ha : Byt A) (hb : Byt B) : Op.bytesLess (strOfNums A).toList (strOfNums B).toList = ltL A B := by
 rw [yS_, yS_]; exact j6_ ha hb
structure TakB (W : World) (ad : Option Addr) (cap n : Nat) (wr : World) : Prop where
 k0 : wr.cell? ⟨W.heap.size, 0, none⟩ = some (.slice ad n cap)
 k1 : wr.cell? ⟨W.heap.size, 1, none⟩ = some (.int .i64 0)
 k2 : wr.cell? ⟨W.heap.size, 2, none⟩ = some (.bool true)
theorem q9_ (w : World) (o : Obj) : Below w.heap.size w (w.alloc o) := (Below.refl _ _).alloc (Nat.le_refl _) _
theorem b2 (w : World) (o p : Obj) : Below w.heap.size w ((w.alloc o).alloc p) := za_ (q9_ _ _) (q9_ _ _)
theorem b3 (w : World) (o p q : Obj) : Below w.heap.size w (((w.alloc o).alloc p).alloc q) := za_ (b2 _ _ _) (q9_ _ _)
structure Job where
 w : Int
 l : Int
 d : Int
 c : Int
 k : Int
 e : Int
 a : Option Addr
 n : Nat
 cap : Nat
 T : List Int
structure z2_ (W : World) (j : Job) : Prop where
 ls : Ls .i64 W j.a j.cap j.T
 len : j.T.length = j.n
 le : j.n <= 1000000
theorem z2_.below {W W' : World} {j : Job} (h : z2_ W j) (b : Below W.heap.size W W') : z2_ W' j := ⟨h.ls.below b, h.len, h.le⟩
def inB (x a b : Int) : Bool := decide (a <= x /\ x <= b)
def hB (j : Job) : Bool := decide (1 <= j.w /\ j.w <= 4 /\ 1 <= j.l /\ j.l <= 2 /\ j.l <= j.w /\ 3 <= j.d /\ j.d <= 15 /\ 1024 <= j.c /\ j.c <= 65536 /\ 1024 <= j.k /\ j.k <= 1048576 /\ 1 <= j.e /\ j.e <= 100 /\ 1 <= j.n /\ j.n <= 4)
def tB (T : List Int) : Bool := T.all fun x => inB x 0 2
def okB (j : Job) : Bool := hB j && tB j.T
def qi_ (j : Job) : Int := if okB j then 0 else 2
def zg_ (W : World) (B : Nat) (cs : Array Value) (t : TypeId) : Prop := W.heap[B]? = some (.cells cs t (0, 0))
theorem zg_.below {W W' : World} {B : Nat} {cs : Array Value} {t : TypeId} (h : zg_ W B cs t) (hb : Below W.heap.size W W') : zg_ W' B cs t := (hb.block B (Array.getElem?_eq_some_iff.1 h).1).trans h
theorem zg_.lt {W : World} {B : Nat} {cs : Array Value} {t : TypeId} (h : zg_ W B cs t) : B < W.heap.size := (Array.getElem?_eq_some_iff.1 h).1
theorem zg_.cell {W : World} {B : Nat} {cs : Array Value} {t : TypeId} (h : zg_ W B cs t) (i : Nat) : W.cell? ⟨B, i, none⟩ = cs[i]? := by simp [World.cell?, show W.heap[B]? = _ from h]
theorem zg_.new (W : World) (cs : Array Value) (t : TypeId) : zg_ (W.alloc (.cells cs t)) W.heap.size cs t := World.alloc_heap_new _ _
theorem zT_ (x a b : Int) (w : World) : Calls prog 75 #[.int .i64 x, .int .i64 a, .int .i64 b] w fun r w' => r = .returned (.bool (inB x a b)) /\ w = w' := by
 go_enter func75, ntmps75
 by_cases h1 : a <= x
 ·go_wp2
  go_ret
  exact ⟨by unfold inB; by_cases h2 : x <= b <;> simp [h1, h2], rfl⟩
 ·go_wp2
  go_ret
  exact ⟨by rw [show inB x a b = false from decide_eq_false Xt0]; rfl, rfl⟩
theorem hB_eq (j : Job) : hB j = (inB j.w 1 4 && inB j.l 1 2 && decide (j.l <= j.w) && inB j.d 3 15 && inB j.c 1024 65536 && inB j.k 1024 1048576 && inB j.e 1 100 && inB j.n 1 4) := by
 unfold hB inB
 rw [Bool.eq_iff_iff]
 simp
 omega
theorem tB_take {T : List Int} {k : Nat} (hk : k < T.length) : tB (T.take (k + 1)) = (tB (T.take k) && inB (T.getD k 0) 0 2) := by
 rw [xb_ T k hk]
 simp [tB]
theorem tB_false {T : List Int} {k : Nat} (h : tB (T.take k) = false) : tB T = false := by
 by_cases e : tB T = true
 ·have : tB (T.take k) = true := by
   simp only [tB, List.all_eq_true] at e ⊢
   exact fun x hx => e x (List.mem_of_mem_take hx)
  rw [h] at this; cases this
 ·simpa using e
theorem qd_ (j : Job) (w : World) (hj : z2_ w j) :
  Calls prog 36 #[.agg #[.int .i64 j.w, .int .i64 j.l, .int .i64 j.d, .int .i64 j.c, .int .i64 j.k, .int .i64 j.e, .slice j.a j.n j.cap]] w fun r w' => r = .returned (.int .i64 (qi_ j)) /\ Below w.heap.size w w' := by
 have HJ := hid hj
 have hle := hj.le
 have hli : (j.n : Int) <= 1000000 := by omega
 clear hj
 go_enter func36, ntmps36
 go_upto_region 1 with (fail)
 have hb := zg_.new w #[.int .i64 j.w, .int .i64 j.l, .int .i64 j.d, .int .i64 j.c, .int .i64 j.k, .int .i64 j.e, .slice j.a j.n j.cap] 24
 have B1 : Below w.heap.size w (w.alloc (.cells #[.int .i64 j.w, .int .i64 j.l, .int .i64 j.d, .int .i64 j.c, .int .i64 j.k, .int .i64 j.e, .slice j.a j.n j.cap] 24)) := (Below.refl _ _).alloc (Nat.le_refl _) _
 generalize w.alloc (.cells #[.int .i64 j.w, .int .i64 j.l, .int .i64 j.d, .int .i64 j.c, .int .i64 j.k, .int .i64 j.e, .slice j.a j.n j.cap] 24) = W1 at hb B1 ⊢
 have c0 := hb.cell 0
 have c1 := hb.cell 1
 have c2 := hb.cell 2
 have c3 := hb.cell 3
 have c4 := hb.cell 4
 have c5 := hb.cell 5
 have c6 := hb.cell 6
 simp only [gtA, gtB, gtC] at c0 c1 c2 c3 c4 c5 c6
 have HB1 := hid B1
 have HBX := hid hb
 clear hb B1
 go_cut [3] (fun v wx => v = .bool (hB j) /\ W1 = wx)
 case first =>
  go_wp2_with (go_at_call 75; refine (zT_ _ _ _ _).mono ?_; rintro e w' ⟨rfl, rfl⟩)
  all_goals
   go_meet
   case rel =>
    refine ⟨?_, rfl⟩
    rw [hB_eq]
    first | (simp [*]; done) | (simp [*]; intro h; omega)
 case rest =>
  obtain ⟨rfl, rfl⟩ := hcut
  obtain ⟨hb, hbe⟩ := gtx (hB j)
  rw [hbe]
  have HH := hid hbe
  clear hbe c0 c1 c2 c3 c4 c5
  go_wp2_with fail
  go_loopw [3, 50] (fun v i wr => ∃ k : Nat, k <= j.n /\ i = .int .i64 (k : Int) /\ v = .bool (hb && tB (j.T.take k)) /\ W1 = wr) (fun _ i _ => j.n - (intOf i).toNat)
  case atStart => exact ⟨0, by omega, rfl, by simp [tB], rfl⟩
  case round =>
   obtain ⟨k, hk, rfl, rfl, rfl⟩ := hrel
   obtain ⟨bk, hbk⟩ := gtx ((hb && tB (j.T.take k)))
   rw [hbk]
   by_cases hlt : k < j.n
   ·have hkl : (k : Int) < (j.n : Int) := by omega
    obtain ⟨b1, o1, ea, d1⟩ := (HJ.out.ls.below HB1.out).get k Xt55
    rw [ea] at c6
    obtain ⟨x, hx⟩ := gtx (j.T.getD k 0)
    rw [hx] at d1
    have HN := hid (show (hb && tB (j.T.take (k + 1))) = (bk && inB x 0 2) by rw [tB_take Xt55, ← Bool.and_assoc, hbk, hx])
    have HEA := hid ea
    rw [ea]
    clear hx hbk ea
    cases bk
    ·go_wp2_with fail
     exact Xb95
    ·go_wp2_with (go_at_call 75; refine (zT_ _ _ _ _).mono ?_; rintro e w' ⟨rfl, rfl⟩)
     exact Xb95
   ·have hkl : ¬ (k : Int) < (j.n : Int) := by omega
    have HO := hid (show okB j = bk by rw [← hbk, List.take_of_length_le (by rw [HJ.out.len]; omega), okB, HH.out])
    clear hbk
    cases bk
    ·exact Xb125
    ·exact Xb125
def gB (j : Job) : Bool := decide (1 <= j.w /\ j.w <= 4 /\ 1 <= j.l /\ j.l <= 2 /\ j.l <= j.w /\ 3 <= j.d /\ j.d <= 15 /\ 1024 <= j.c /\ j.c <= 65536 /\ 1024 <= j.k /\ j.k <= 1048576 /\ 1 <= j.e /\ j.e <= 100)
theorem gB_and (j : Job) : hB j = (gB j && inB j.n 1 4) := by
 unfold hB gB inB
 rw [Bool.eq_iff_iff]
 simp
 omega
theorem tB_no {T : List Int} {k : Nat} (hk : k < T.length) (h : inB (T.getD k 0) 0 2 = false) : tB T = false :=
 tB_false (k := k + 1) (by rw [tB_take hk, h]; simp)
section
open Go.Shelf
attribute [local go_sem] Oper.semAt_some
abbrev Tr := Nat × Int × Int
def encs (x : Tr) : Array Value := #[.int .i64 (x.1 : Int), .agg #[.int .i64 x.2.1, .int .i64 x.2.2]]
def rowN (t m : Nat) : List (Int × Int) := (List.range m).map fun (i : Nat) => ((t : Int), (i : Int) - 1)
def nmL : Nat -> List Int -> List (Int × Int)
 | _, [] => []
 | t, x :: r => rowN t (x + 1).toNat ++ nmL (t + 1) r
def idx : Nat -> List (Int × Int) -> List Tr
 | _, [] => []
 | s, p :: r => (s, p.1, p.2) :: idx (s + 1) r
def yc_ (j : Job) : List (Int × Int) := if okB j then nmL 0 j.T else []
theorem qq_ (a b : List (Int × Int)) : ∀ s, idx s (a ++ b) = idx s a ++ idx (s + a.length) b := by
 induction a with
 | nil => intro s; simp [idx]
 | cons p r ih => intro s; simp [idx, ih, Nat.add_assoc, Nat.add_comm 1]
theorem idx_length (a : List (Int × Int)) : ∀ s, (idx s a).length = a.length := by
 induction a with
 | nil => intro s; rfl
 | cons p r ih => intro s; simp [idx, ih]
theorem qn_ (a b : List Int) : ∀ t, nmL t (a ++ b) = nmL t a ++ nmL (t + a.length) b := by
 induction a with
 | nil => intro t; simp [nmL]
 | cons p r ih => intro t; simp [nmL, ih, Nat.add_assoc, Nat.add_comm 1]
theorem rowN_succ (t m : Nat) : rowN t (m + 1) = rowN t m ++ [((t : Int), (m : Int) - 1)] := by simp [rowN, List.range_succ]
theorem yT_ (t m : Nat) : (rowN t m).length = m := by simp [rowN]
def nmP (T : List Int) (k m : Nat) : List (Int × Int) := nmL 0 (T.take k) ++ rowN k m
theorem nmP_zero (T : List Int) (k : Nat) : nmP T k 0 = nmL 0 (T.take k) := by simp [nmP, rowN]
theorem xu_ (T : List Int) (k m : Nat) : nmP T k (m + 1) = nmP T k m ++ [((k : Int), (m : Int) - 1)] := by rw [nmP, rowN_succ, ← List.append_assoc]; rfl
theorem j3_ (T : List Int) (k : Nat) (hk : k < T.length) : nmP T k (T.getD k 0 + 1).toNat = nmL 0 (T.take (k + 1)) := by
 rw [xb_ T k hk, qn_, List.length_take, Nat.min_eq_left Xt0, Nat.zero_add]
 simp [nmP, nmL]
theorem nmP_pre (T : List Int) (k m : Nat) (hk : k < T.length) (hm : m <= (T.getD k 0 + 1).toNat) : ∃ t, nmL 0 T = nmP T k m ++ t := by
 have h1 := j3_ T k hk
 have h2 : nmL 0 T = nmL 0 (T.take (k + 1)) ++ nmL (0 + (T.take (k + 1)).length) (T.drop (k + 1)) := by rw [← qn_, List.take_append_drop]
 obtain ⟨d, hd⟩ : ∃ d, (T.getD k 0 + 1).toNat = m + d := ⟨_, (Nat.add_sub_cancel' hm).symm⟩
 have h3 : ∃ t, rowN k (m + d) = rowN k m ++ t := by
  refine ⟨(List.range d).map fun (i : Nat) => ((k : Int), ((m + i : Nat) : Int) - 1), ?_⟩
  rw [rowN, List.range_add, List.map_append, List.map_map]
  rfl
 obtain ⟨t, ht⟩ := h3
 refine ⟨t ++ nmL (0 + (T.take (k + 1)).length) (T.drop (k + 1)), ?_⟩
 rw [h2, ← h1, nmP, hd, ht, nmP]
 simp [List.append_assoc]
theorem j4_ (T : List Int) (k t : Nat) (hk : k <= T.length) (h : ∀ i, i < T.length -> 0 <= T.getD i 0 /\ T.getD i 0 <= 2) : (nmL t (T.take k)).length <= 3 * k := by
 induction k with
 | zero => simp [nmL]
 | succ k ih =>
  have h1 := ih Xt0
  have h2 := h k Xt0
  rw [xb_ T k Xt0, qn_, List.length_append]
  simp only [nmL, List.append_nil, yT_]
  omega
theorem xv_ {j : Job} (h : okB j = true) : yc_ j = nmL 0 j.T := by rw [yc_, if_pos h]
theorem qE_ {j : Job} (h : okB j = false) : yc_ j = [] := by rw [yc_, if_neg (by rw [h]; simp)]
theorem jh_ {j : Job} (h : okB j = true) : ∀ k, k < j.T.length -> 0 <= j.T.getD k 0 /\ j.T.getD k 0 <= 2 := fun k hk => by
 have h2 : tB j.T = true := by simp [okB] at h; exact h.2
 simp only [tB, List.all_eq_true] at h2
 have := h2 (j.T[k]) (List.getElem_mem hk)
 simp [inB] at this
 simpa [List.getD, List.getElem?_eq_getElem hk] using this
theorem okB_n {j : Job} (h : okB j = true) : 1 <= j.n /\ j.n <= 4 := by
 simp [okB, hB] at h
 omega
theorem chk_ok {j : Job} (h : okB j = true) : qi_ j = 0 := by rw [qi_, if_pos h]
theorem chk_no {j : Job} (h : okB j = false) : qi_ j = 2 := by rw [qi_, if_neg (by rw [h]; simp)]
def KP (base Bs : Nat) (cs : Array Value) (W W' : World) : Prop := Below base W W' /\ (zg_ W Bs cs 53 -> zg_ W' Bs cs 53)
theorem KP.trans {base Bs : Nat} {cs : Array Value} {A B C : World} (h : KP base Bs cs A B) (k : KP base Bs cs B C) : KP base Bs cs A C := ⟨h.1.trans k.1, fun x => k.2 (h.2 x)⟩
theorem KP.put {base Bs : Nat} {cs : Array Value} {w : World} (hn : base <= w.heap.size) (W : World) (l : Nat) (o o' : Obj) (hl : w.heap.size <= l) (h : W.heap[l]? = some o) (hc : o.isCells = false) (hw : o.isWalk = false) : KP base Bs cs W (W.putObj l o') :=
 ⟨belowK_b hn W l o o' hl h hc hw, fun hb => by
  have hne : Bs ≠ l := fun e => by subst e; rw [show W.heap[Bs]? = _ from hb] at h; cases h; cases hc
  exact (World.putObj_heap_other hne).trans hb⟩
theorem KP.below {base Bs : Nat} {cs : Array Value} {W W' : World} (hn : base <= W.heap.size) (h : Below W.heap.size W W') : KP base Bs cs W W' := ⟨h.mono hn, fun hb => hb.below h⟩
theorem xk_ {w w' : World} (h : Below w.heap.size w w') : w.grownBy w' none := ⟨h.os, h.tape, h.output, h.size, fun k hk _ => h.block k hk⟩
theorem all_in (j : Job) (w : World) :
  Calls prog 136 #[.agg #[.int .i64 j.w, .int .i64 j.l, .int .i64 j.d, .int .i64 j.c, .int .i64 j.k, .int .i64 j.e, .slice j.a j.n j.cap]] w fun e w' => e = .returned (.func (.func 163) #[] #[.pointer (some ⟨w.heap.size, 0, none⟩)]) /\ w' = w.alloc (.cells #[.int .i64 j.w, .int .i64 j.l, .int .i64 j.d, .int .i64 j.c, .int .i64 j.k, .int .i64 j.e, .slice j.a j.n j.cap] 24) := by
 have hmf : ∀ (fn : Fn) (first cap : Array Value) (w : World), (Instr.makeFunc fn first cap).run prog w = .ok (.func fn first cap) w := fun _ _ _ _ => rfl
 go_enter func136, ntmps136
 exact Xb19
theorem all_stops (m : Nat) (hm : 1 <= m) (j : Job) (w0 : World) (hj : z2_ w0 j) (Bs : Nat) (w : World) (hB0 : Below w0.heap.size w0 w) (hBs : zg_ w Bs #[.int .i64 j.w, .int .i64 j.l, .int .i64 j.d, .int .i64 j.c, .int .i64 j.k, .int .i64 j.e, .slice j.a j.n j.cap] 24) :
  SeqStopsK Fence.wide m prog 163 #[.pointer (some ⟨Bs, 0, none⟩)] encs (KP w0.heap.size Bs #[.int .i64 j.w, .int .i64 j.l, .int .i64 j.d, .int .i64 j.c, .int .i64 j.k, .int .i64 j.e, .slice j.a j.n j.cap]) (fun ys => ys = idx 0 (yc_ j)) (fun pre => ∃ t, idx 0 (yc_ j) = pre ++ t) (yc_ j).length w := fun lp J Jx W hW hJ _ hY h0 => by
 have hb := hBs.below hW
 have hB1 : Below w0.heap.size w0 W := hB0.trans (hW.mono hB0.size)
 have HJ := hid hj
 have hle := hj.le
 have hlen := hid hj.len
 clear hj hBs hW hB0
 show CallsIn Fence.wide m prog 163 #[.func (.yield lp) #[] #[], .pointer (some ⟨Bs, 0, none⟩)] W _
 refine callsIn_of_wp func163 rfl trivial ?_ rfl
 simp only [ntmps163, List.size_toArray, List.length_cons, List.length_nil, Nat.reduceAdd, Nat.reduceSub, Array.replicate_succ, Array.replicate_zero, List.push_toArray, List.append_toArray, List.nil_append, List.cons_append]
 have c0 := hb.cell 0
 have c1 := hb.cell 1
 have c2 := hb.cell 2
 have c3 := hb.cell 3
 have c4 := hb.cell 4
 have c5 := hb.cell 5
 have c6 := hb.cell 6
 simp only [gtA, gtB, gtC] at c0 c1 c2 c3 c4 c5 c6
 obtain ⟨cs, hcs⟩ := gtx ((#[.int .i64 j.w, .int .i64 j.l, .int .i64 j.d, .int .i64 j.c, .int .i64 j.k, .int .i64 j.e, .slice j.a j.n j.cap] : Array Value))
 rw [hcs] at hY hb
 clear hcs
 gi_wp2_with fail
 refine ⟨trivial, ?_⟩
 refine (callsIn_wide.2 (qd_ j _ (HJ.out.below hB1))).mono ?_
 rintro e W1 ⟨rfl, B1⟩
 have J1 : J [] W1 := hJ _ _ _ _ h0 (xk_ B1) (fun r e => by cases e)
 have hb1 := hid (hb.below B1)
 have c6' := (B1.cell (p := ⟨Bs, 6, none⟩) hb.lt).trans c6
 have HB1 := hid (hB1.trans (B1.mono hB1.size))
 have HJ1 := hid J1
 have hs1 := B1.size
 clear h0 hb B1 J1 hB1 c0 c1 c2 c3 c4 c5 c6
 cases hok : okB j
 ·have hnm := hid (qE_ hok)
  rw [chk_no hok]
  clear hok
  gi_wp2_with fail
  refine bodyPost_ret (results_none rfl _ _ _) rfl ?_
  exact ⟨⟨_, rfl⟩, .inl ⟨_, rfl, by rw [hnm.out]; exact HJ1.out⟩⟩
 ·have hnm := hid (xv_ hok)
  have hT := hid (jh_ hok)
  have hn4 := (okB_n hok).2
  have hn4i : (j.n : Int) <= 4 := by omega
  rw [chk_ok hok]
  clear hok
  gi_wp2_with fail
  gi_loopw [3, 13] (fun t i wr => ∃ k : Nat, k <= j.n /\ i = .int .i64 (k : Int) /\ t = .int .i64 ((nmL 0 (j.T.take k)).length : Int) /\ Hid (J (idx 0 (nmL 0 (j.T.take k))) wr) /\ Hid (KP w0.heap.size Bs cs W1 wr)) (fun _ i _ => j.n - (intOf i).toNat)
  case atStart => exact ⟨0, by omega, rfl, rfl, HJ1, hid ⟨Below.refl _ _, fun h => h⟩⟩
  case round =>
   clear HJ1 c6'
   obtain ⟨k, hk, rfl, rfl, hJs, hK⟩ := hrel
   by_cases hlt : k < j.n
   ·have hkl : (k : Int) < (j.n : Int) := by omega
    have hkT : k < j.T.length := by rw [hlen.out]; exact hlt
    obtain ⟨b1, o1, ea, d1⟩ := (HJ.out.ls.below (HB1.out.trans hK.out.1)).get k hkT
    obtain ⟨hx0, hx2⟩ := hT.out k hkT
    obtain ⟨x, hx⟩ : ∃ x : Nat, j.T.getD k 0 = (x : Int) := ⟨(j.T.getD k 0).toNat, by omega⟩
    rw [hx] at d1
    have hx2 : x <= 2 := by omega
    have hx2i : (x : Int) <= 2 := by omega
    have HX := hid hx
    have HEA := hid ea
    have HTL := hid (show (nmL 0 (j.T.take k)).length <= 12 by
     have h1 := j4_ j.T k 0 Xt0 hT.out
     omega)
    rw [ea]
    have e0 := nmP_zero j.T k
    rw [← e0] at hJs HTL ⊢
    clear hx ea hkT e0
    gi_wp2_with fail
    gi_loopw [3, 6] (fun t i wr => ∃ m : Nat, m <= x + 1 /\ i = .int .i64 ((m : Int) - 1) /\ t = .int .i64 ((nmP j.T k m).length : Int) /\ Hid (J (idx 0 (nmP j.T k m)) wr) /\ Hid (KP w0.heap.size Bs cs W1 wr)) (fun _ i _ => 5 - (intOf i + 1).toNat)
    case atStart => exact ⟨0, by omega, rfl, rfl, hJs, hK⟩
    case round =>
     clear hJs hK d1
     obtain ⟨m, hm, rfl, rfl, hJs, hK⟩ := hrel
     by_cases hmx : m < x + 1
     ·have hml : (m : Int) - 1 < (x : Int) := by omega
      have hpre := nmP_pre j.T k (m + 1) Xt75 (by rw [HX.out]; omega)
      obtain ⟨t, ht⟩ := hpre
      have hbd : (idx 0 (nmP j.T k m)).length < (yc_ j).length := by
       rw [idx_length, hnm.out, ht, xu_]; first | (simp; done) | (simp; omega)
      obtain ⟨fn, tmps, assign, body, hy, hR⟩ := hY _ ((nmP j.T k m).length, (k : Int), (m : Int) - 1) wr hJs.out hbd
      dsimp only [encs] at hy
      have hE : idx 0 (nmP j.T k m) ++ [((nmP j.T k m).length, (k : Int), (m : Int) - 1)] = idx 0 (nmP j.T k (m + 1)) := by
       rw [xu_, qq_]; simp [idx]
      rw [hE] at hR
      have hL : (nmP j.T k (m + 1)).length = (nmP j.T k m).length + 1 := by rw [xu_]; simp
      have hq12 : (nmP j.T k m).length <= 20 := by
       exact Xb124
      obtain ⟨q, hq⟩ := gtx ((nmP j.T k m).length)
      rw [hq] at hy hL hq12 ⊢
      have HL := hid hL
      have HT := hid (show ∃ t, idx 0 (yc_ j) = idx 0 (nmP j.T k (m + 1)) ++ t from ⟨idx (0 + (nmP j.T k (m + 1)).length) t, by rw [hnm.out, ht, qq_]⟩)
      clear hq hL ht hbd hE
      gi_wp2
      refine hR.mono ?_
      rintro e W3 (⟨rfl, hJ3, hk3⟩ | ⟨rfl, hJx3⟩)
      ·have HJ3 := hid hJ3
       have HK3 := hid (hK.out.trans hk3)
       clear hJ3 hk3
       gi_wp2
       go_roundw
       case rel => exact ⟨m + 1, by omega, by first | go_num | (congr 1; omega), by rw [HL.out]; go_num, HJ3, HK3⟩
       case measure => simp [intOf]; omega
      ·have HX3 := hid hJx3
       clear hJx3
       gi_wp2
       refine bodyPost_ret (results_none rfl _ _ _) rfl ?_
       exact ⟨⟨_, rfl⟩, .inr ⟨_, HT.out, HX3.out⟩⟩
     ·have hml : ¬ (m : Int) - 1 < (x : Int) := by omega
      have hme : m = x + 1 := by omega
      have hnx := j3_ j.T k Xt75
      rw [HX.out, show ((x : Int) + 1).toNat = x + 1 by omega, ← hme] at hnx
      rw [hnx] at hJs
      rw [hnx]
      clear hnx hme
      gi_wp2
      go_roundw
      case rel => exact ⟨k + 1, by omega, by go_num, rfl, hJs, hK⟩
      case measure => simp [intOf]; omega
   ·have hkl : ¬ (k : Int) < (j.n : Int) := by omega
    have HE := hid (show J (idx 0 (yc_ j)) wr by
     have := hJs.out
     rw [List.take_of_length_le Xt86] at this
     rw [hnm.out]; exact this)
    clear hJs
    gi_wp2
    go_end0
    exact ⟨⟨_, rfl⟩, .inl HE.out⟩
end
section
open Go.Shelf
attribute [local go_sem] Oper.semAt_some
theorem QN_ (j : Job) (h : j.T.length = j.n) : (yc_ j).length <= 12 := by
 by_cases ho : okB j = true
 ·rw [xv_ ho]
  have h1 := j4_ j.T j.T.length 0 (Nat.le_refl _) (jh_ ho)
  rw [List.take_length] at h1
  have := (okB_n ho).2
  omega
 ·rw [qE_ (by simpa using ho)]; simp
theorem zf_ {W W' : World} {B : Nat} {t : TypeId} {v : Value} (h : Boxed W B t v) (hb : Below W.heap.size W W') : Boxed W' B t v := (hb.block B h.lt).trans h
end
section
open Go.Shelf
attribute [local go_sem] Oper.semAt_some
theorem jm_ {n : Nat} {P : Program} {c : Code} {Q : Exit -> Act -> World -> Prop} {a : Act} {w : World} (h : c.wpIn Fence.wide n P (Exit.noGoto Q) a w) : (Code.scope c).wpIn Fence.wide n P Q a w :=
 wpIn_wide.2 (wp_scope_straight (wpIn_wide.1 h))
theorem istree_law (k t i a b : Int) (P1 P2 : Nat) (w : World) (h1 : Boxed w P1 3 (.int .i64 a)) (h2 : Boxed w P2 3 (.int .i64 b)) :
  Calls prog 117 #[.int .i64 k, .agg #[.int .i64 t, .int .i64 i], .pointer (some ⟨P1, 0, none⟩), .pointer (some ⟨P2, 0, none⟩)] w fun r w' => r = .returned (.bool (decide (t = a /\ i = b))) /\ Below w.heap.size w w' := by
 have l1 := h1.lt
 have l2 := h2.lt
 have c1 := h1.cell
 have c2 := h2.cell
 clear h1 h2
 by_cases e1 : t = a <;> by_cases e2 : i = b
 all_goals
  go_enter func117, ntmps117
  go_wp2
  go_ret
  exact ⟨zc_ (by simp [e1, e2]), (Below.refl _ _).alloc (Nat.le_refl _) _⟩
def zO_ (p : Tr -> Bool) : List Tr -> Int × Int × Int × Bool
 | [] => (0, 0, 0, false)
 | x :: r => if p x then ((x.1 : Int), x.2.1, x.2.2, true) else zO_ p r
theorem xR_ {p : Tr -> Bool} : ∀ {l : List Tr}, (∀ x ∈ l, p x = false) -> zO_ p l = (0, 0, 0, false)
 | [], _ => rfl
 | x :: r, h => by rw [zO_, if_neg (by rw [h x Xt5]; simp)]; exact xR_ fun y hy => h y (by simp [hy])
theorem xQ_ {p : Tr -> Bool} {x : Tr} {t : List Tr} (hx : p x = true) : ∀ {l : List Tr}, (∀ y ∈ l, p y = false) -> zO_ p (l ++ [x] ++ t) = ((x.1 : Int), x.2.1, x.2.2, true)
 | [], _ => by simp [zO_, hx]
 | y :: r, h => by
  simp only [List.cons_append, zO_, if_neg (show ¬ p y = true by rw [h y Xt5]; simp)]
  exact xQ_ hx fun z hz => h z (by simp [hz])
theorem zg_.kept {W W' : World} {B : Nat} {cs : Array Value} {t : TypeId} {row : Option Nat} (h : zg_ W B cs t) (hg : W.grownBy W' row) (hne : some B ≠ row) : zg_ W' B cs t := (hg.block B h.lt hne).trans h
theorem zg_.alloc {W : World} {B : Nat} {cs : Array Value} {t : TypeId} (h : zg_ W B cs t) (o : Obj) : zg_ (W.alloc o) B cs t := h.kept (World.grownBy_alloc W o none) Xt5
theorem zg_.own {B : Nat} {cs : Array Value} {t : TypeId} {W W' : World} {row : Option Nat} (h : zg_ W B cs t) (hg : W.grownBy W' row) (hr : ∀ r, row = some r -> ∃ o : Obj, W.heap[r]? = some o /\ o.isCells = false) : zg_ W' B cs t :=
 h.kept hg (fun e => by obtain ⟨o, ho, hc⟩ := hr B e.symm; rw [show W.heap[B]? = _ from h] at ho; cases ho; cases hc)
theorem zg_.frozen {W : World} {B : Nat} {cs : Array Value} {t : TypeId} (h : zg_ W B cs t) (i : Nat) : W.frozen? ⟨B, i, none⟩ = false := by simp [World.frozen?, show W.heap[B]? = _ from h]
theorem zg_.oth {W : World} {B B' o : Nat} {cs : Array Value} {t : TypeId} {u : Value} (hne : B ≠ B') (h : zg_ W B cs t) : zg_ (W.setCell ⟨B', o, none⟩ u) B cs t := (Below.heap_setCell W ⟨B', o, none⟩ u B hne).trans h
theorem zg_.set1 {W : World} {B : Nat} {t : TypeId} {v v' : Value} (h : zg_ W B #[v] t) : zg_ (W.setCell ⟨B, 0, none⟩ v') B #[v'] t := Boxed.set v' h
theorem zg_.set2 {W : World} {B : Nat} {t : TypeId} {a b x y : Value} (h : zg_ W B #[a, b] t) : zg_ ((W.setCell ⟨B, 0, none⟩ x).setCell ⟨B, 1, none⟩ y) B #[x, y] t := by
 have h1 : zg_ (W.setCell ⟨B, 0, none⟩ x) B #[x, b] t := by
  obtain ⟨hlt, hk⟩ := Array.getElem?_eq_some_iff.1 h
  show (W.heap.modify B _)[B]? = _
  exact Xb107
 obtain ⟨hlt, hk⟩ := Array.getElem?_eq_some_iff.1 h1
 show ((W.setCell ⟨B, 0, none⟩ x).heap.modify B _)[B]? = _
 exact Xb107
theorem KeepsFrom.drw {B : Nat} {W X : World} (h : KeepsFrom B W X) : KeepsFrom B W X.drew := h.trans (KeepsFrom.of_grownBy (xk_ ((Below.refl X.heap.size X).drew)) (fun j e => by cases e))
structure FI (p : Tr -> Bool) (F N O R U : Nat) (fv : Value) (pre : List Tr) (W : World) : Prop where
 no : ∀ x ∈ pre, p x = false
 bF : zg_ W F #[.int .i64 0] 3
 bN : zg_ W N #[.int .i64 0, .int .i64 0] 184
 bO : zg_ W O #[.bool false] 4
 bR : zg_ W R #[.int .i64 0, .int .i64 0] 184
 bU : zg_ W U #[fv] 187
theorem FI.own {p : Tr -> Bool} {F N O R U : Nat} {fv : Value} {pre : List Tr} {W W' : World} {row : Option Nat} (h : FI p F N O R U fv pre W) (hg : W.grownBy W' row) (hr : ∀ r, row = some r -> ∃ o : Obj, W.heap[r]? = some o /\ o.isCells = false) : FI p F N O R U fv pre W' :=
 ⟨h.no, h.bF.own hg hr, h.bN.own hg hr, h.bO.own hg hr, h.bR.own hg hr, h.bU.own hg hr⟩
theorem FI.below {p : Tr -> Bool} {F N O R U : Nat} {fv : Value} {pre : List Tr} {W W' : World} (h : FI p F N O R U fv pre W) (b : Below W.heap.size W W') : FI p F N O R U fv pre W' :=
 ⟨h.no, h.bF.below b, h.bN.below b, h.bO.below b, h.bR.below b, h.bU.below b⟩
structure FX (p : Tr -> Bool) (F N O R : Nat) (pre : List Tr) (W : World) : Prop where
 ex : ∃ ini x, pre = ini ++ [x] /\ (∀ y ∈ ini, p y = false) /\ p x = true /\ zg_ W F #[.int .i64 (x.1 : Int)] 3 /\ zg_ W N #[.int .i64 x.2.1, .int .i64 x.2.2] 184
 bO : zg_ W O #[.bool true] 4
 bR : zg_ W R #[.int .i64 0, .int .i64 0] 184
theorem FX.own {p : Tr -> Bool} {F N O R : Nat} {pre : List Tr} {W W' : World} {row : Option Nat} (h : FX p F N O R pre W) (hg : W.grownBy W' row) (hr : ∀ r, row = some r -> ∃ o : Obj, W.heap[r]? = some o /\ o.isCells = false) : FX p F N O R pre W' := by
 obtain ⟨ini, x, e1, e2, e3, e4, e5⟩ := h.ex
 exact ⟨⟨ini, x, e1, e2, e3, e4.own hg hr, e5.own hg hr⟩, h.bO.own hg hr, h.bR.own hg hr⟩
theorem QZ_ (j : Job) (a b : Int) (P1 P2 : Nat) (w : World) (hj : z2_ w j) (h1 : Boxed w P1 3 (.int .i64 a)) (h2 : Boxed w P2 3 (.int .i64 b)) :
  Calls prog 116 #[.agg #[.int .i64 j.w, .int .i64 j.l, .int .i64 j.d, .int .i64 j.c, .int .i64 j.k, .int .i64 j.e, .slice j.a j.n j.cap], .func (.func 117) #[] #[.pointer (some ⟨P1, 0, none⟩), .pointer (some ⟨P2, 0, none⟩)]] w fun r w' => r = .returned (.tuple #[.int .i64 (zO_ (fun x : Tr => decide (x.2.1 = a /\ x.2.2 = b)) (idx 0 (yc_ j))).1, .agg #[.int .i64 (zO_ (fun x : Tr => decide (x.2.1 = a /\ x.2.2 = b)) (idx 0 (yc_ j))).2.1, .int .i64 (zO_ (fun x : Tr => decide (x.2.1 = a /\ x.2.2 = b)) (idx 0 (yc_ j))).2.2.1], .bool (zO_ (fun x : Tr => decide (x.2.1 = a /\ x.2.2 = b)) (idx 0 (yc_ j))).2.2.2]) /\ Below w.heap.size w w' := by
 have HJ := hid hj
 have H1 := hid h1
 have H2 := hid h2
 clear h1 h2
 clear hj
 have HIS := hid (fun W (hW : Below w.heap.size w W) (x : Tr) => istree_law (x.1 : Int) x.2.1 x.2.2 a b P1 P2 W (zf_ H1.out hW) (zf_ H2.out hW))
 obtain ⟨PD, hPD⟩ : ∃ f : Tr -> Bool, (fun x : Tr => decide (x.2.1 = a /\ x.2.2 = b)) = f := ⟨_, rfl⟩
 rw [hPD]
 have HIS2 := hid (show ∀ W, Below w.heap.size w W -> ∀ x : Tr, Calls prog 117 (#[.int .i64 (x.1 : Int), .agg #[.int .i64 x.2.1, .int .i64 x.2.2]] ++ #[.pointer (some ⟨P1, 0, none⟩), .pointer (some ⟨P2, 0, none⟩)]) W fun r w' => r = .returned (.bool (PD x)) /\ Below W.heap.size W w' from fun W hW x => by rw [← hPD]; exact HIS.out W hW x)
 clear HIS hPD
 refine (callsIn_wide (n := 6)).1 ?_
 refine callsIn_of_wp_marks func116 rfl trivial ?_ rfl
 simp only [ntmps116, List.size_toArray, List.length_cons, List.length_nil, Nat.reduceAdd, Nat.reduceSub, Array.replicate_succ, Array.replicate_zero, List.push_toArray, List.append_toArray, List.nil_append, List.cons_append]
 gi_wp2_with fail
 refine jm_ ?_
 gi_wp2_with fail
 refine wpIn_label ?_
 gi_wp2_with fail
 refine ⟨trivial, ?_⟩
 refine (callsIn_wide.2 (all_in j _)).mono ?_
 rintro e w' ⟨rfl, rfl⟩
 gi_wp2_with fail
 have hbw : Below w.heap.size w (((((((w.alloc (.cells #[.int .i64 j.w, .int .i64 j.l, .int .i64 j.d, .int .i64 j.c, .int .i64 j.k, .int .i64 j.e, .slice j.a j.n j.cap] 24)).alloc (.cells #[.func (.func 117) #[] #[.pointer (some ⟨P1, 0, none⟩), .pointer (some ⟨P2, 0, none⟩)]] 187)).alloc (.cells #[.int .i64 0, .int .i64 0] 184)).alloc (.cells #[.int .i64 0] 3)).alloc (.cells #[.int .i64 0, .int .i64 0] 184)).alloc (.cells #[.bool false] 4)).alloc (.cells #[.int .i64 j.w, .int .i64 j.l, .int .i64 j.d, .int .i64 j.c, .int .i64 j.k, .int .i64 j.e, .slice j.a j.n j.cap] 24)) := (((((((Below.refl _ w).alloc (Nat.le_refl _) _).alloc Xt5 _).alloc Xt7 _).alloc Xt7 _).alloc Xt7 _).alloc Xt7 _).alloc Xt7 _
 have bU := (((((zg_.new (w.alloc (.cells #[.int .i64 j.w, .int .i64 j.l, .int .i64 j.d, .int .i64 j.c, .int .i64 j.k, .int .i64 j.e, .slice j.a j.n j.cap] 24)) #[.func (.func 117) #[] #[.pointer (some ⟨P1, 0, none⟩), .pointer (some ⟨P2, 0, none⟩)]] 187).alloc (.cells #[.int .i64 0, .int .i64 0] 184)).alloc (.cells #[.int .i64 0] 3)).alloc (.cells #[.int .i64 0, .int .i64 0] 184)).alloc (.cells #[.bool false] 4)).alloc (.cells #[.int .i64 j.w, .int .i64 j.l, .int .i64 j.d, .int .i64 j.c, .int .i64 j.k, .int .i64 j.e, .slice j.a j.n j.cap] 24)
 have bR := ((((zg_.new ((w.alloc (.cells #[.int .i64 j.w, .int .i64 j.l, .int .i64 j.d, .int .i64 j.c, .int .i64 j.k, .int .i64 j.e, .slice j.a j.n j.cap] 24)).alloc (.cells #[.func (.func 117) #[] #[.pointer (some ⟨P1, 0, none⟩), .pointer (some ⟨P2, 0, none⟩)]] 187)) #[.int .i64 0, .int .i64 0] 184).alloc (.cells #[.int .i64 0] 3)).alloc (.cells #[.int .i64 0, .int .i64 0] 184)).alloc (.cells #[.bool false] 4)).alloc (.cells #[.int .i64 j.w, .int .i64 j.l, .int .i64 j.d, .int .i64 j.c, .int .i64 j.k, .int .i64 j.e, .slice j.a j.n j.cap] 24)
 have bF := (((zg_.new (((w.alloc (.cells #[.int .i64 j.w, .int .i64 j.l, .int .i64 j.d, .int .i64 j.c, .int .i64 j.k, .int .i64 j.e, .slice j.a j.n j.cap] 24)).alloc (.cells #[.func (.func 117) #[] #[.pointer (some ⟨P1, 0, none⟩), .pointer (some ⟨P2, 0, none⟩)]] 187)).alloc (.cells #[.int .i64 0, .int .i64 0] 184)) #[.int .i64 0] 3).alloc (.cells #[.int .i64 0, .int .i64 0] 184)).alloc (.cells #[.bool false] 4)).alloc (.cells #[.int .i64 j.w, .int .i64 j.l, .int .i64 j.d, .int .i64 j.c, .int .i64 j.k, .int .i64 j.e, .slice j.a j.n j.cap] 24)
 have bN := ((zg_.new ((((w.alloc (.cells #[.int .i64 j.w, .int .i64 j.l, .int .i64 j.d, .int .i64 j.c, .int .i64 j.k, .int .i64 j.e, .slice j.a j.n j.cap] 24)).alloc (.cells #[.func (.func 117) #[] #[.pointer (some ⟨P1, 0, none⟩), .pointer (some ⟨P2, 0, none⟩)]] 187)).alloc (.cells #[.int .i64 0, .int .i64 0] 184)).alloc (.cells #[.int .i64 0] 3)) #[.int .i64 0, .int .i64 0] 184).alloc (.cells #[.bool false] 4)).alloc (.cells #[.int .i64 j.w, .int .i64 j.l, .int .i64 j.d, .int .i64 j.c, .int .i64 j.k, .int .i64 j.e, .slice j.a j.n j.cap] 24)
 have bO := (zg_.new (((((w.alloc (.cells #[.int .i64 j.w, .int .i64 j.l, .int .i64 j.d, .int .i64 j.c, .int .i64 j.k, .int .i64 j.e, .slice j.a j.n j.cap] 24)).alloc (.cells #[.func (.func 117) #[] #[.pointer (some ⟨P1, 0, none⟩), .pointer (some ⟨P2, 0, none⟩)]] 187)).alloc (.cells #[.int .i64 0, .int .i64 0] 184)).alloc (.cells #[.int .i64 0] 3)).alloc (.cells #[.int .i64 0, .int .i64 0] 184)) #[.bool false] 4).alloc (.cells #[.int .i64 j.w, .int .i64 j.l, .int .i64 j.d, .int .i64 j.c, .int .i64 j.k, .int .i64 j.e, .slice j.a j.n j.cap] 24)
 have bA := zg_.new ((((((w.alloc (.cells #[.int .i64 j.w, .int .i64 j.l, .int .i64 j.d, .int .i64 j.c, .int .i64 j.k, .int .i64 j.e, .slice j.a j.n j.cap] 24)).alloc (.cells #[.func (.func 117) #[] #[.pointer (some ⟨P1, 0, none⟩), .pointer (some ⟨P2, 0, none⟩)]] 187)).alloc (.cells #[.int .i64 0, .int .i64 0] 184)).alloc (.cells #[.int .i64 0] 3)).alloc (.cells #[.int .i64 0, .int .i64 0] 184)).alloc (.cells #[.bool false] 4)) #[.int .i64 j.w, .int .i64 j.l, .int .i64 j.d, .int .i64 j.c, .int .i64 j.k, .int .i64 j.e, .slice j.a j.n j.cap] 24
 simp only [World.size_alloc] at bU bR bF bN bO bA
 have hsz : (((((((w.alloc (.cells #[.int .i64 j.w, .int .i64 j.l, .int .i64 j.d, .int .i64 j.c, .int .i64 j.k, .int .i64 j.e, .slice j.a j.n j.cap] 24)).alloc (.cells #[.func (.func 117) #[] #[.pointer (some ⟨P1, 0, none⟩), .pointer (some ⟨P2, 0, none⟩)]] 187)).alloc (.cells #[.int .i64 0, .int .i64 0] 184)).alloc (.cells #[.int .i64 0] 3)).alloc (.cells #[.int .i64 0, .int .i64 0] 184)).alloc (.cells #[.bool false] 4)).alloc (.cells #[.int .i64 j.w, .int .i64 j.l, .int .i64 j.d, .int .i64 j.c, .int .i64 j.k, .int .i64 j.e, .slice j.a j.n j.cap] 24)).heap.size = w.heap.size + 7 := by simp
 obtain ⟨W0, hW0⟩ := gtx ((((((((w.alloc (.cells #[.int .i64 j.w, .int .i64 j.l, .int .i64 j.d, .int .i64 j.c, .int .i64 j.k, .int .i64 j.e, .slice j.a j.n j.cap] 24)).alloc (.cells #[.func (.func 117) #[] #[.pointer (some ⟨P1, 0, none⟩), .pointer (some ⟨P2, 0, none⟩)]] 187)).alloc (.cells #[.int .i64 0, .int .i64 0] 184)).alloc (.cells #[.int .i64 0] 3)).alloc (.cells #[.int .i64 0, .int .i64 0] 184)).alloc (.cells #[.bool false] 4)).alloc (.cells #[.int .i64 j.w, .int .i64 j.l, .int .i64 j.d, .int .i64 j.c, .int .i64 j.k, .int .i64 j.e, .slice j.a j.n j.cap] 24)))
 rw [hW0] at bU bR bF bN bO bA hbw hsz ⊢
 clear hW0
 refine wpIn_rangeFunc_ownH rfl Xt0 (gf := 163) (lb := #[.pointer (some ⟨w.heap.size + 1 + 1 + 1 + 1 + 1 + 1, 0, none⟩)]) rfl trivial (enters_of func163 Xt3 rfl)
  (all_stops 5 Xt0 j w HJ.out (w.heap.size + 1 + 1 + 1 + 1 + 1 + 1) W0 hbw bA) KP.trans (fun W l o o' h1 h2 h3 h4 => KP.put (w := W0) Xt0 W l o o' h1 h2 h3 h4) (Below.refl _ _) (fun _ => rfl)
  (fun pre W => FI PD (w.heap.size + 1 + 1 + 1) (w.heap.size + 1 + 1 + 1 + 1) (w.heap.size + 1 + 1 + 1 + 1 + 1) (w.heap.size + 1 + 1) (w.heap.size + 1) (.func (.func 117) #[] #[.pointer (some ⟨P1, 0, none⟩), .pointer (some ⟨P2, 0, none⟩)]) pre W /\ Below w.heap.size w W)
  (fun c pre W => (c = .exit 0 /\ FX PD (w.heap.size + 1 + 1 + 1) (w.heap.size + 1 + 1 + 1 + 1) (w.heap.size + 1 + 1 + 1 + 1 + 1) (w.heap.size + 1 + 1) pre W) /\ Below w.heap.size w W)
  (OwnFrom.and (Own.from (fun s X Y row hs hg hr => hs.own hg hr) _) (ownFrom_below (Nat.le_refl _) Xt0))
  (fun c => OwnFrom.and (Own.from (fun s X Y row hs hg hr => ⟨hs.1, hs.2.own hg hr⟩) _) (ownFrom_below (Nat.le_refl _) Xt0))
  ⟨⟨fun x hx => by simp at hx, bF, bN, bO, bR, bU⟩, hbw⟩
  (fun x a' W => ∃ Bx, w.heap.size + 1 + 1 + 1 + 1 + 1 < Bx /\ zg_ W Bx #[.int .i64 x.2.1, .int .i64 x.2.2] 184 /\ a' = { tmps := #[.agg #[.int .i64 j.w, .int .i64 j.l, .int .i64 j.d, .int .i64 j.c, .int .i64 j.k, .int .i64 j.e, .slice j.a j.n j.cap], .func (.func 117) #[] #[.pointer (some ⟨P1, 0, none⟩), .pointer (some ⟨P2, 0, none⟩)], .pointer (some ⟨w.heap.size, 0, none⟩), .pointer (some ⟨w.heap.size + 1, 0, none⟩), .int .i64 0, .pointer (some ⟨w.heap.size + 1 + 1, 0, none⟩), .bool false, .pointer (some ⟨w.heap.size + 1 + 1 + 1, 0, none⟩), .pointer (some ⟨w.heap.size + 1 + 1 + 1 + 1, 0, none⟩), .pointer (some ⟨w.heap.size + 1 + 1 + 1 + 1 + 1, 0, none⟩), .int .i64 (x.1 : Int), .pointer (some ⟨Bx, 0, none⟩), .agg #[.int .i64 0, .int .i64 0], .agg #[.int .i64 j.w, .int .i64 j.l, .int .i64 j.d, .int .i64 j.c, .int .i64 j.k, .int .i64 j.e, .slice j.a j.n j.cap], .func (.func 163) #[] #[.pointer (some ⟨w.heap.size + 1 + 1 + 1 + 1 + 1 + 1, 0, none⟩)], .int .i64 (x.1 : Int), .agg #[.int .i64 x.2.1, .int .i64 x.2.2], undef, undef, undef, undef, undef, undef, undef, undef, undef], defers := [] })
  (fun x a' _ X Y row hs hg hr => by obtain ⟨Bx, h1, h2, h3⟩ := hs; exact ⟨Bx, h1, h2.own hg (fun r e => (hr r e).2), h3⟩)
  ?assign ?body ?done ?stop
 case assign =>
  rintro l pre x W K ⟨hI, hB1⟩ hK
  dsimp only [encs]
  have hlO := hI.bO.lt
  gi_wp2
  have BA : Below W.heap.size W (W.alloc (.cells #[.int .i64 x.2.1, .int .i64 x.2.2] 184)) := (Below.refl _ W).alloc (Nat.le_refl _) _
  exact hK _ _ ((KeepsOthers.alloc _ _).from _) (KP.below hB1.size BA) ⟨hI.below BA, za_ hB1 BA⟩ ⟨W.heap.size, hlO, zg_.new _ _ _, by simp⟩
 case body =>
  rintro l pre x a' W hl _ ⟨hI, hB1⟩ ⟨Bx, hBx, bX, rfl⟩ hlt
  have cU := hI.bU.cell 0
  have cX0 := bX.cell 0
  have cX1 := bX.cell 1
  simp only [gtA, gtB, gtC] at cU cX0 cX1
  gi_wp2_with fail
  refine ⟨trivial, ?_⟩
  refine (CallsIn.inRound l (callsIn_wide.2 (HIS2.out W hB1 x))).mono ?_
  rintro e W1 ⟨rfl, B1⟩
  have hI1 := hI.below B1
  have bX1 := bX.below B1
  have hB2 := za_ hB1 B1
  have KF := hid (show KeepsFrom W0.heap.size W W1 from KeepsFrom.of_grownBy (xk_ B1) (fun j e => by cases e))
  have KK := hid (show KP w.heap.size (w.heap.size + 1 + 1 + 1 + 1 + 1 + 1) #[.int .i64 j.w, .int .i64 j.l, .int .i64 j.d, .int .i64 j.c, .int .i64 j.k, .int .i64 j.e, .slice j.a j.n j.cap] W W1 from KP.below hB1.size B1)
  have BT := hid (show Below w.heap.size W W1 from B1.mono hB1.size)
  clear cU cX0 cX1 hI bX hB1 B1
  cases hpx : PD x
  ·have HPX := hid hpx
   clear hpx
   gi_wp2
   exact ⟨KF.out, KK.out, ⟨⟨fun y hy => (List.mem_append.1 hy).elim (hI1.no y) (fun e => by simp at e; subst e; exact HPX.out), hI1.bF, hI1.bN, hI1.bO, hI1.bR, hI1.bU⟩, hB2⟩⟩
  ·have HPX := hid hpx
   have cX0 := bX1.cell 0
   have cX1 := bX1.cell 1
   have cF := hI1.bF.cell 0
   have cN0 := hI1.bN.cell 0
   have cN1 := hI1.bN.cell 1
   have cO := hI1.bO.cell 0
   have fF := hI1.bF.frozen 0
   have fN0 := hI1.bN.frozen 0
   have fN1 := hI1.bN.frozen 1
   have fO := hI1.bO.frozen 0
   simp only [gtA, gtB, gtC] at cX0 cX1 cF cN0 cN1 cO
   have HI := hid hI1
   have hlO : Bx < W1.heap.size := bX1.lt
   clear hpx hI1
   gi_wp2_with fail
   gi_region
   all_goals gi_wp2
   all_goals exact ⟨KeepsFrom.drw ((((KF.out.trans ((KeepsOthers.setCell _ _ _).from _)).trans ((KeepsOthers.setCell _ _ _).from _)).trans ((KeepsOthers.setCell _ _ _).from _)).trans ((KeepsOthers.setCell _ _ _).from _)),
    ⟨rfl, ⟨pre, x, rfl, HI.out.no, HPX.out, zg_.oth Xt0 (zg_.oth Xt0 (zg_.oth Xt0 (HI.out.bF.set1))), zg_.oth Xt0 (zg_.set2 (zg_.oth Xt0 HI.out.bN))⟩, zg_.set1 (zg_.oth Xt0 (zg_.oth Xt0 (zg_.oth Xt0 HI.out.bO))), zg_.oth Xt0 (zg_.oth Xt0 (zg_.oth Xt0 (zg_.oth Xt0 HI.out.bR)))⟩,
    ((((hB2.setCell (p := ⟨w.heap.size + 1 + 1 + 1, 0, none⟩) Xt7 _).setCell (p := ⟨w.heap.size + 1 + 1 + 1 + 1, 0, none⟩) Xt7 _).setCell (p := ⟨w.heap.size + 1 + 1 + 1 + 1, 1, none⟩) Xt7 _).setCell (p := ⟨w.heap.size + 1 + 1 + 1 + 1 + 1, 0, none⟩) Xt7 _).drew⟩
 case done =>
  rintro D zs W hD rfl ⟨hI, hB1⟩ hK
  have FV := hid (xR_ hI.no)
  have cF := hI.bF.cell 0
  have cN0 := hI.bN.cell 0
  have cN1 := hI.bN.cell 1
  have cO := hI.bO.cell 0
  have cR0 := hI.bR.cell 0
  have cR1 := hI.bR.cell 1
  have fR0 := hI.bR.frozen 0
  have fR1 := hI.bR.frozen 1
  simp only [gtA, gtB, gtC] at cF cN0 cN1 cO cR0 cR1
  have HI := hid hI
  clear hI
  gi_wp2_with fail
  gi_region
  all_goals gi_wp2
  all_goals
   rw [Exit.noGoto_ret]
   have hK2 := hid ((KeepsOthers.setCell _ ⟨w.heap.size + 1 + 1, 1, none⟩ (.int .i64 0)).same D _ ((KeepsOthers.setCell W ⟨w.heap.size + 1 + 1, 0, none⟩ (.int .i64 0)).same D _ hK rfl) rfl)
   have bR2 : zg_ ((W.setCell ⟨w.heap.size + 1 + 1, 0, none⟩ (.int .i64 0)).setCell ⟨w.heap.size + 1 + 1, 1, none⟩ (.int .i64 0)).drew (w.heap.size + 1 + 1) #[.int .i64 0, .int .i64 0] 184 := zg_.set2 HI.out.bR
   have B2 : Below w.heap.size w ((W.setCell ⟨w.heap.size + 1 + 1, 0, none⟩ (.int .i64 0)).setCell ⟨w.heap.size + 1 + 1, 1, none⟩ (.int .i64 0)).drew := ((hB1.setCell (p := ⟨w.heap.size + 1 + 1, 0, none⟩) Xt7 _).setCell (p := ⟨w.heap.size + 1 + 1, 1, none⟩) Xt7 _).drew
   have hK3 : ((W.setCell ⟨w.heap.size + 1 + 1, 0, none⟩ (.int .i64 0)).setCell ⟨w.heap.size + 1 + 1, 1, none⟩ (.int .i64 0)).drew.heap[D]? = some (.deferred (some [])) := hK2.out
   clear hK2
   generalize ((W.setCell ⟨w.heap.size + 1 + 1, 0, none⟩ (.int .i64 0)).setCell ⟨w.heap.size + 1 + 1, 1, none⟩ (.int .i64 0)).drew = W2 at bR2 B2 hK3 ⊢
   refine ⟨by simp, .inl ⟨_, _, rfl, run_takeDeferred hK3, ?_⟩⟩
   have bR3 := bR2.kept (grownBy_putObj' W2 D (.deferred none)) (fun e => by cases e; omega)
   have h0 := bR3.cell 0
   have h1 := bR3.cell 1
   simp only [gtA, gtB, gtC] at h0 h1
   refine ⟨.tuple #[.int .i64 0, .agg #[.int .i64 0, .int .i64 0], .bool false], ?_, by rw [FV.out], B2.trans (belowK_b (w := w) (Nat.le_refl _) _ D _ _ Xt0 hK3 rfl rfl)⟩
   simp [results, f116, go_sem, h0, h1]
 case stop =>
  rintro D c pre W hD ⟨t, ht⟩ ⟨⟨rfl, hX⟩, hB1⟩ hK
  obtain ⟨ini, x, e1, e2, e3, bF, bN⟩ := hX.ex
  have FV := hid (show zO_ PD (idx 0 (yc_ j)) = ((x.1 : Int), x.2.1, x.2.2, true) by rw [ht, e1, xQ_ e3 e2])
  have cF := bF.cell 0
  have cN0 := bN.cell 0
  have cN1 := bN.cell 1
  have cO := hX.bO.cell 0
  have cR0 := hX.bR.cell 0
  have cR1 := hX.bR.cell 1
  have fR0 := hX.bR.frozen 0
  have fR1 := hX.bR.frozen 1
  simp only [gtA, gtB, gtC] at cF cN0 cN1 cO cR0 cR1
  have HX := hid hX
  clear hX e1 e2 e3 ht
  gi_wp2_with fail
  gi_region
  all_goals gi_wp2
  all_goals
   rw [Exit.noGoto_ret]
   have hK2 := hid ((KeepsOthers.setCell _ ⟨w.heap.size + 1 + 1, 1, none⟩ (.int .i64 x.2.2)).same D _ ((KeepsOthers.setCell W ⟨w.heap.size + 1 + 1, 0, none⟩ (.int .i64 x.2.1)).same D _ hK rfl) rfl)
   have bR2 : zg_ ((W.setCell ⟨w.heap.size + 1 + 1, 0, none⟩ (.int .i64 x.2.1)).setCell ⟨w.heap.size + 1 + 1, 1, none⟩ (.int .i64 x.2.2)).drew (w.heap.size + 1 + 1) #[.int .i64 x.2.1, .int .i64 x.2.2] 184 := zg_.set2 HX.out.bR
   have B2 : Below w.heap.size w ((W.setCell ⟨w.heap.size + 1 + 1, 0, none⟩ (.int .i64 x.2.1)).setCell ⟨w.heap.size + 1 + 1, 1, none⟩ (.int .i64 x.2.2)).drew := ((hB1.setCell (p := ⟨w.heap.size + 1 + 1, 0, none⟩) Xt7 _).setCell (p := ⟨w.heap.size + 1 + 1, 1, none⟩) Xt7 _).drew
   have hK3 : ((W.setCell ⟨w.heap.size + 1 + 1, 0, none⟩ (.int .i64 x.2.1)).setCell ⟨w.heap.size + 1 + 1, 1, none⟩ (.int .i64 x.2.2)).drew.heap[D]? = some (.deferred (some [])) := hK2.out
   clear hK2
   generalize ((W.setCell ⟨w.heap.size + 1 + 1, 0, none⟩ (.int .i64 x.2.1)).setCell ⟨w.heap.size + 1 + 1, 1, none⟩ (.int .i64 x.2.2)).drew = W2 at bR2 B2 hK3 ⊢
   refine ⟨by simp, .inl ⟨_, _, rfl, run_takeDeferred hK3, ?_⟩⟩
   have bR3 := bR2.kept (grownBy_putObj' W2 D (.deferred none)) (fun e => by cases e; omega)
   have h0 := bR3.cell 0
   have h1 := bR3.cell 1
   simp only [gtA, gtB, gtC] at h0 h1
   refine ⟨.tuple #[.int .i64 (x.1 : Int), .agg #[.int .i64 x.2.1, .int .i64 x.2.2], .bool true], ?_, by rw [FV.out], B2.trans (belowK_b (w := w) (Nat.le_refl _) _ D _ _ Xt0 hK3 rfl rfl)⟩
   simp [results, f116, go_sem, h0, h1]
end
section
open Go.Maps
structure Off (S : Nat -> Prop) (W W' : World) : Prop where
 os : W'.os = W.os
 tape : W'.tape = W.tape
 output : W'.output = W.output
 size : W.heap.size <= W'.heap.size
 block : ∀ k, k < W.heap.size -> ¬ S k -> W'.heap[k]? = W.heap[k]?
theorem Off.of {S : Nat -> Prop} {W W' : World} (h : Below W.heap.size W W') : Off S W W' := ⟨h.os, h.tape, h.output, h.size, fun k hk _ => h.block k hk⟩
theorem Off.refl (S : Nat -> Prop) (W : World) : Off S W W := Off.of (Below.refl _ _)
theorem Off.trans {S : Nat -> Prop} {W W' W'' : World} (h : Off S W W') (k : Off S W' W'') : Off S W W'' :=
 ⟨k.os.trans h.os, k.tape.trans h.tape, k.output.trans h.output, Nat.le_trans h.size k.size, fun i hi hs => (k.block i (Nat.lt_of_lt_of_le hi h.size) hs).trans (h.block i hi hs)⟩
theorem Off.then {S : Nat -> Prop} {W W' W'' : World} (h : Off S W W') (k : Below W'.heap.size W' W'') : Off S W W'' := h.trans (Off.of k)
theorem Off.mono {S T : Nat -> Prop} {W W' : World} (h : Off S W W') (hs : ∀ k, S k -> T k) : Off T W W' := ⟨h.os, h.tape, h.output, h.size, fun k hk hn => h.block k hk fun e => hn (hs k e)⟩
theorem Off.set {S : Nat -> Prop} {W W' : World} (h : Off S W W') (p : Addr) (hp : S p.block) (v : Value) : Off S W (W'.setCell p v) := by
 refine h.trans ⟨rfl, rfl, rfl, by simp, fun k hk hn => Below.heap_setCell _ _ _ k fun e => hn (e ▸ hp)⟩
theorem Off.below {S : Nat -> Prop} {B : Nat} {w W W' : World} (h : Below B w W) (k : Off S W W') (hB : B <= W.heap.size) (hs : ∀ k, S k -> B <= k) : Below B w W' :=
 ⟨k.os.trans h.os, k.tape.trans h.tape, k.output.trans h.output, Nat.le_trans h.size k.size, fun i hi => (k.block i (Nat.lt_of_lt_of_le hi hB) fun e => by have := hs i e; omega).trans (h.block i hi)⟩
theorem Off.box {S : Nat -> Prop} {W W' : World} (h : Off S W W') {B : Nat} {cs : Array Value} {t : TypeId} (hb : zg_ W B cs t) (hn : ¬ S B) : zg_ W' B cs t := (h.block B hb.lt hn).trans hb
theorem Off.map {S : Nat -> Prop} {W W' : World} (h : Off S W W') {H : Type} {P : Program} {k : TypeId} {R : Value -> Option (DataW H × List MemPlace)} {b n : Nat} {D : DataW H} (hm : W.ownsMap P k R b n D) (hn : ¬ S b) : W'.ownsMap P k R b n D := by
 have hl := hm.lt
 obtain ⟨es, c, hb, r⟩ := hm
 exact ⟨es, c, (h.block b hl hn).trans hb, r⟩
theorem Off.of_map {S : Nat -> Prop} {W W' : World} {b : Nat} (h : W.grownBy W' (some b)) (hs : S b) : Off S W W' := ⟨h.os, h.tape, h.output, h.size, fun k hk hn => h.block k hk (fun e => hn (by cases e; exact hs))⟩
theorem Off.drew {S : Nat -> Prop} {W W' : World} (h : Off S W W') : Off S W W'.drew := h.then (Below.refl _ _).drew
def zs_ (S : Nat -> Prop) (W : World) (P : World -> Prop) : Prop := ∀ W', Off S W W' -> P W'
theorem zs_.now {S : Nat -> Prop} {W : World} {P : World -> Prop} (h : zs_ S W P) : P W := h W (Off.refl S W)
theorem zs_.step {S S' : Nat -> Prop} {W W' : World} {P : World -> Prop} (h : zs_ S W P) (o : Off S W W') (hs : ∀ k, S' k -> S k ∨ W.heap.size <= k) : zs_ S' W' P := fun W'' o' =>
 h W'' ⟨o'.os.trans o.os, o'.tape.trans o.tape, o'.output.trans o.output, Nat.le_trans o.size o'.size, fun k hk hn => (o'.block k (Nat.lt_of_lt_of_le hk o.size) fun e => (hs k e).elim hn (fun hh => by omega)).trans (o.block k hk hn)⟩
theorem zs_.off {S : Nat -> Prop} {W W' : World} {P : World -> Prop} (h : zs_ S W P) (o : Off S W W') : zs_ S W' P := h.step o fun _ hk => .inl hk
theorem zs_.below {S : Nat -> Prop} {W W' : World} {P : World -> Prop} (h : zs_ S W P) (b : Below W.heap.size W W') : zs_ S W' P := h.off (Off.of b)
theorem zs_.mono {S : Nat -> Prop} {W : World} {P Q : World -> Prop} (h : zs_ S W P) (hq : ∀ W, P W -> Q W) : zs_ S W Q := fun W' o => hq W' (h W' o)
theorem zs_.less {S S' : Nat -> Prop} {W : World} {P : World -> Prop} (h : zs_ S W P) (hs : ∀ k, S' k -> S k) : zs_ S' W P := fun W' o => h W' (o.mono hs)
theorem zm_ {S : Nat -> Prop} {W W' : World} {base n size : Nat} {e : TypeId} {v : Value} {xs : List Value} (h : W.ownsRow base e size v n xs) (o : Off S W W') (hs : ∀ k, S k -> k < base) : W'.ownsRow base e size v n xs :=
 ⟨h.1, h.2.imp id fun ⟨g, cap, cur, e0, hb, hg, r⟩ => ⟨g, cap, cur, e0, hb, (o.block g (Array.getElem?_eq_some_iff.1 hg).1 fun e => by have := hs g e; omega).trans hg, r⟩⟩
theorem law9 : Keyed prog 9 := string_keyed underlying9
def RF (v : Value) : Option (DataW Value × List MemPlace) := some (.held v, [])
theorem RF_inv {v : Value} {z : DataW Value × List MemPlace} (h : RF v = some z) : z = (.held v, []) := by unfold RF at h; cases h; rfl
def kL (K : List Int) : Lit := .string (strOfNums K).data.toList
section
variable {α : Type} (val : α -> Value)
def entM (x : List Int × α) : Lit × DataW Value := (kL x.1, .held (val x.2))
def mOf (L : List (List Int × α)) : DataW Value := .map (L.map (entM val))
end
theorem key_of (s : ByteArray) (hs : s.size <= maxLen) : keyOf prog 9 (.string s) = some (.string s.data.toList) := by
 simp [keyOf, underlying9, mapKey, hs]
theorem xq_ (K : List Int) : (strOfNums K).size = K.length := by
 have := congrArg List.length (yS_ K)
 rw [ByteArray.toList_eq, List.length_map] at this
 simpa using this
theorem keyK {K : List Int} (h : K.length <= maxLen) : keyOf prog 9 (.string (strOfNums K)) = some (kL K) := key_of _ (by rw [xq_]; exact h)
theorem xj_ {A B : List Int} (ha : Byt A) (hb : Byt B) : (kL A).sameKey (kL B) = decide (A = B) := by
 have h : ((strOfNums A).data.toList == (strOfNums B).data.toList) = decide (A = B) := by
  rw [Bool.eq_iff_iff]; simp
  constructor
  ·intro e; exact xG_ ha hb (ByteArray.ext (by simpa using e))
  ·intro e; rw [e]
 simpa [kL, Lit.sameKey] using h
theorem bb_op : ∀ x y : List UInt8, bytesBefore x y = Op.bytesLess x y := fun x => by
 induction x with
 | nil => intro y; cases y <;> rfl
 | cons a r ih => intro y; cases y with
  | nil => rfl
  | cons b s => show (a < b || (a == b && bytesBefore r s)) = (a < b || (a == b && Op.bytesLess r s)); rw [ih]
theorem q2_ {A B : List Int} (ha : Byt A) (hb : Byt B) : (kL A).before (kL B) = ltL A B := by
 rw [← yk_ ha hb]
 show bytesBefore _ _ = _
 rw [bb_op, ByteArray.toList_eq, ByteArray.toList_eq]
section
variable {α : Type} {val : α -> Value}
def Zd_ (L : List (List Int × α)) : Prop := ∀ x ∈ L, Byt x.1
def zU_ (L : List (List Int × α)) (K : List Int) : Option α := (L.find? fun x => decide (x.1 = K)).map Prod.snd
def xY_ (L : List (List Int × α)) (K : List Int) (o : Option α) : List (List Int × α) := L.filter (fun p => ltL p.1 K) ++ ((o.toList.map fun r => (K, r)) ++ L.filter (fun p => ltL K p.1))
theorem at_mOf {L : List (List Int × α)} (hL : Zd_ L) {K : List Int} (hK : Byt K) (z : DataW Value) : (mOf val L).atKey (kL K) z = match zU_ L K with | some v => .held (val v) | none => z := by
 unfold mOf DataW.atKey zU_
 simp only [List.find?_map]
 have : ∀ L : List (List Int × α), Zd_ L -> List.find? ((fun p : Lit × DataW Value => p.1.sameKey (kL K)) ∘ entM val) L = List.find? (fun x => decide (x.1 = K)) L := fun L => by
  induction L with
  | nil => intro _; rfl
  | cons x L ih =>
   intro h
   rw [List.find?_cons, List.find?_cons, ih fun y hy => h y (List.mem_cons_of_mem _ hy)]
   show (match (kL x.1).sameKey (kL K) with | true => some x | false => _) = _
   rw [xj_ (h x (List.mem_cons_self ..)) hK]
   rfl
 rw [this L hL]
 cases List.find? (fun x => decide (x.1 = K)) L <;> rfl
theorem Qb_ {L : List (List Int × α)} (hL : Zd_ L) {K : List Int} (hK : Byt K) : Maps.has (mOf val L) (kL K) = (zU_ L K).isSome := by
 unfold mOf zU_
 rw [Maps.has_eq, List.any_map, Bool.eq_iff_iff, Option.isSome_map, List.find?_isSome, List.any_eq_true]
 constructor
 ·rintro ⟨x, hx, h⟩
  refine ⟨x, hx, ?_⟩
  have : (kL x.1).sameKey (kL K) = true := h
  rwa [xj_ (hL x hx) hK] at this
 ·rintro ⟨x, hx, h⟩
  refine ⟨x, hx, ?_⟩
  show (kL x.1).sameKey (kL K) = true
  rwa [xj_ (hL x hx) hK]
theorem Zd_.set {L : List (List Int × α)} (h : Zd_ L) {K : List Int} (hK : Byt K) (o : Option α) : Zd_ (xY_ L K o) := fun x hx => by
 unfold xY_ at hx
 simp only [List.mem_append, List.mem_filter, List.mem_map] at hx
 rcases hx with ⟨hx, _⟩ | ⟨r, _, rfl⟩ | ⟨hx, _⟩
 ·exact h x hx
 ·exact hK
 ·exact h x hx
theorem ins_mOf {K : List Int} (hK : Byt K) (v : α) : ∀ {L : List (List Int × α)}, Zd_ L -> Ris Prod.fst L -> DataW.insert (entM val (K, v)) ((L.filter fun p => !decide (p.1 = K)).map (entM val)) = (L.filter (fun p => ltL p.1 K) ++ ([(K, v)] ++ L.filter (fun p => ltL K p.1))).map (entM val)
 | [], _, _ => rfl
 | x :: L, hb, hr => by
  obtain ⟨h1, h2⟩ := List.pairwise_cons.1 hr
  have bx := hb x (List.mem_cons_self ..)
  have bL : Zd_ L := fun y hy => hb y (List.mem_cons_of_mem _ hy)
  have ih := ins_mOf hK v bL h2
  by_cases e : x.1 = K
  ·exact Xb61
  ·cases hl : ltL x.1 K
   ·have hg : ltL K x.1 = true := x8_ hl (Ne.symm e)
    have f1 : L.filter (fun p => ltL p.1 K) = [] := by
     exact Xb118
    have f2 : L.filter (fun p => ltL K p.1) = L := by
     rw [List.filter_eq_self]; intro y hy; exact zF_ hg (h1 y hy)
    have f3 : L.filter (fun p => !decide (p.1 = K)) = L := by
     rw [List.filter_eq_self]; intro y hy
     have := qY_ (zF_ hg (h1 y hy)); simp [Ne.symm this]
    rw [List.filter_cons_of_pos (by simp [e]), List.filter_cons_of_neg (by simp [hl]), List.filter_cons_of_pos (by simp [hg]), f1, f2, f3, List.map_cons]
    show (if (kL K).before (kL x.1) then _ else _) = _
    rw [q2_ hK bx, hg]; rfl
   ·have hg := yD_ hl
    rw [List.filter_cons_of_pos (by simp [e]), List.filter_cons_of_pos (by simp [hl]), List.filter_cons_of_neg (by simp [hg]), List.map_cons]
    show (if (kL K).before (kL x.1) then _ else _) = _
    rw [q2_ hK bx, hg, if_neg Xt5, ih]; rfl
theorem Qe_ {K : List Int} (hK : Byt K) : ∀ {L : List (List Int × α)}, Zd_ L -> (L.map (entM val)).filter (fun p => !p.1.sameKey (kL K)) = (L.filter fun p => !decide (p.1 = K)).map (entM val)
 | [], _ => rfl
 | x :: L, hb => by
  have ih := Qe_ hK (L := L) fun y hy => hb y (List.mem_cons_of_mem _ hy)
  have hs : (entM val x).1.sameKey (kL K) = decide (x.1 = K) := xj_ (hb x (List.mem_cons_self ..)) hK
  rw [List.map_cons, List.filter_cons, List.filter_cons, ih, hs]
  split <;> simp
theorem ne_lt {K : List Int} : ∀ {L : List (List Int × α)}, Ris Prod.fst L -> (L.filter fun p => !decide (p.1 = K)) = L.filter (fun p => ltL p.1 K) ++ L.filter (fun p => ltL K p.1)
 | [], _ => rfl
 | x :: L, hr => by
  obtain ⟨h1, h2⟩ := List.pairwise_cons.1 hr
  have ih := ne_lt (K := K) h2
  by_cases e : x.1 = K
  ·exact Xb61
  ·cases hl : ltL x.1 K
   ·have hg : ltL K x.1 = true := x8_ hl (Ne.symm e)
    have f1 : L.filter (fun p => ltL p.1 K) = [] := by
     exact Xb118
    rw [List.filter_cons_of_pos (by simp [e]), List.filter_cons_of_neg (by simp [hl]), List.filter_cons_of_pos (by simp [hg]), ih, f1]; rfl
   ·have hg := yD_ hl
    rw [List.filter_cons_of_pos (by simp [e]), List.filter_cons_of_pos (by simp [hl]), List.filter_cons_of_neg (by simp [hg]), ih]; rfl
theorem put_mOf {L : List (List Int × α)} (hL : Zd_ L) (hr : Ris Prod.fst L) {K : List Int} (hK : Byt K) (v : α) : (mOf val L).put (kL K) (.held (val v)) = mOf val (xY_ L K (some v)) := by
 show DataW.map (DataW.insert (entM val (K, v)) ((L.map (entM val)).filter _)) = _
 rw [show (L.map (entM val)).filter (fun p => !p.1.sameKey (kL K)) = _ from Qe_ hK hL, ins_mOf hK v hL hr]
 rfl
theorem del_mOf {L : List (List Int × α)} (hL : Zd_ L) (hr : Ris Prod.fst L) {K : List Int} (hK : Byt K) : (mOf val L).del (kL K) = mOf val (xY_ L K none) := by
 show DataW.map ((L.map (entM val)).filter _) = _
 rw [show (L.map (entM val)).filter (fun p => !p.1.sameKey (kL K)) = _ from Qe_ hK hL, ne_lt hr]
 rfl
theorem yB_ (L : List (List Int × α)) : Maps.size (mOf val L) = L.length := by simp [mOf, Maps.size]
theorem yW_ {L : List (List Int × α)} {K : List Int} {o : Option α} {p : List Int × α} : p ∈ xY_ L K o ↔ (p ∈ L /\ p.1 ≠ K) ∨ (p.1 = K /\ o = some p.2) := by
 unfold xY_
 simp only [List.mem_append, List.mem_filter, List.mem_map]
 constructor
 ·rintro (⟨h, l⟩ | ⟨r, h, rfl⟩ | ⟨h, l⟩)
  ·exact .inl ⟨h, qY_ l⟩
  ·exact .inr ⟨rfl, by simpa using h⟩
  ·exact .inl ⟨h, (qY_ l).symm⟩
 ·rintro (⟨h, n⟩ | ⟨e, h⟩)
  ·cases l : ltL p.1 K
   ·exact .inr (.inr ⟨h, x8_ l (Ne.symm n)⟩)
   ·exact .inl ⟨h, rfl⟩
  ·exact .inr (.inl ⟨p.2, by simp [h], by rw [← e]⟩)
theorem setM_ok {L : List (List Int × α)} (h : Ris Prod.fst L) (K : List Int) (o : Option α) : Ris Prod.fst (xY_ L K o) := by
 unfold xY_
 refine List.pairwise_append.2 ⟨h.filter _, List.pairwise_append.2 ⟨?_, h.filter _, ?_⟩, ?_⟩
 ·cases o <;> simp
 ·intro a ha b hb
  obtain ⟨r, _, rfl⟩ := List.mem_map.1 ha
  exact (List.mem_filter.1 hb).2
 ·intro a ha b hb
  have ha := (List.mem_filter.1 ha).2
  rcases List.mem_append.1 hb with hb | hb
  ·obtain ⟨r, _, rfl⟩ := List.mem_map.1 hb
   exact ha
  ·exact zF_ ha (List.mem_filter.1 hb).2
theorem yd_ {L : List (List Int × α)} (h : Ris Prod.fst L) {K : List Int} {r : α} : zU_ L K = some r ↔ (K, r) ∈ L := by
 induction L with
 | nil => simp [zU_]
 | cons p t ih =>
  obtain ⟨h1, h2⟩ := List.pairwise_cons.1 h
  unfold zU_
  rw [List.find?_cons]
  by_cases e : p.1 = K
  ·rw [show decide (p.1 = K) = true by simp [e]]
   constructor
   ·exact Xb114
   ·exact Xb96
  ·rw [show decide (p.1 = K) = false by simp [e]]
   constructor
   ·intro hh; exact List.mem_cons_of_mem _ ((ih h2).1 hh)
   ·exact Xb105
theorem xl_ {L : List (List Int × α)} {K : List Int} : zU_ L K = none ↔ ∀ p ∈ L, p.1 ≠ K := by
 unfold zU_
 rw [Option.map_eq_none_iff, List.find?_eq_none]
 simp
theorem getM_set {L : List (List Int × α)} (h : Ris Prod.fst L) (K : List Int) (o : Option α) (j : List Int) : zU_ (xY_ L K o) j = if j = K then o else zU_ L j := by
 by_cases e : j = K
 ·subst e
  rw [if_pos rfl]
  cases o with
  | none =>
   rw [xl_]; intro p hp; rcases yW_.1 hp with hp | hp
   ·exact hp.2
   ·cases hp.2
  | some r => rw [yd_ (setM_ok h _ _)]; exact yW_.2 (.inr ⟨rfl, rfl⟩)
 ·rw [if_neg e]
  cases hg : zU_ L j with
  | some x => exact (yd_ (setM_ok h _ _)).2 (yW_.2 (.inl ⟨(yd_ h).1 hg, e⟩))
  | none =>
   rw [xl_] at hg ⊢
   intro p hp
   rcases yW_.1 hp with hp | hp
   ·exact hg p hp.1
   ·rw [hp.1]; exact fun e' => e e'.symm
structure Mp (W : World) (b : Nat) (val : α -> Value) (L : List (List Int × α)) : Prop where
 own : W.ownsMap prog 9 RF b L.length (mOf val L)
 byt : Zd_ L
theorem x4_ {H : Type} {W : World} {P : Program} {k : TypeId} {R : Value -> Option (DataW H × List MemPlace)} {b n : Nat} {D : DataW H} (h : W.ownsMap P k R b n D) : W.ownsMap P k R b (Maps.size D) D := by
 obtain ⟨es, c, hb, F, hs, rfl⟩ := h
 exact ⟨es, c, hb, F, by simp [Maps.size, length_sorted], rfl⟩
theorem Mp.apart {W : World} {b : Nat} {L : List (List Int × α)} (h : Mp W b val L) : L.Pairwise fun f g => kL f.1 ≠ kL g.1 := by
 obtain ⟨es, e, hp⟩ := h.own.tidy law9
 have : es = L.map (entM val) := by unfold mOf at e; cases e; rfl
 subst this
 rw [List.pairwise_map] at hp
 exact hp
theorem Mp.ris {W : World} {b : Nat} {L : List (List Int × α)} (h : Mp W b val L) : Ris Prod.fst L := by
 have ha := h.apart
 obtain ⟨es, c, hb, F, hs, hD⟩ := h.own
 have e : L.map (entM val) = (es.toList.map (Go.WideElems.rg prog 9 RF)).foldr DataW.insert [] := by unfold mOf at hD; injection hD
 have hp := sorted_perm (es.toList.map (Go.WideElems.rg (H := Value) prog 9 RF))
 rw [← e] at hp
 have hk : Go.ChangeMaps.StrKeys (es.toList.map (Go.WideElems.rg prog 9 RF)) := fun q hq => by
  obtain ⟨f, hf, rfl⟩ := List.mem_map.1 (hp.mem_iff.2 hq)
  exact ⟨_, rfl⟩
 have hne : (es.toList.map (Go.WideElems.rg prog 9 RF)).Pairwise (fun p q => p.1 ≠ q.1) := (hp.pairwise_iff (fun {_ _} h => Ne.symm h)).1 (List.pairwise_map.2 ha)
 have := Go.ChangeMaps.sorted_sorted _ hk hne
 rw [← e, List.pairwise_map] at this
 refine List.Pairwise.imp_of_mem (fun {x y} hx hy hb => ?_) this
 have := q2_ (h.byt x hx) (h.byt y hy)
 rw [← this]; exact hb
theorem Mp.lt {W : World} {b : Nat} {L : List (List Int × α)} (h : Mp W b val L) : b < W.heap.size := h.own.lt
theorem Mp.off {S : Nat -> Prop} {W W' : World} {b : Nat} {L : List (List Int × α)} (h : Mp W b val L) (o : Off S W W') (hn : ¬ S b) : Mp W' b val L := ⟨o.map h.own hn, h.byt⟩
theorem Mp.below {W W' : World} {b : Nat} {L : List (List Int × α)} (h : Mp W b val L) (o : Below W.heap.size W W') : Mp W' b val L := h.off (S := fun _ => False) (Off.of o) fun h => h
theorem Mp.new (w : World) (val : α -> Value) : Mp (w.alloc (.map #[] 0)) w.heap.size val [] := ⟨World.ownsMap_made w prog 9 RF, fun x hx => by simp at hx⟩
theorem Mp.put {W : World} {b n : Nat} {L : List (List Int × α)} (h : Mp W b val L) {K : List Int} (hK : Byt K) (v : α) {W' : World} (hm : W'.ownsMap prog 9 RF b n ((mOf val L).put (kL K) (.held (val v)))) : Mp W' b val (xY_ L K (some v)) := by
 rw [put_mOf h.byt h.ris hK] at hm
 have := x4_ hm
 rw [yB_] at this
 exact ⟨this, h.byt.set hK _⟩
theorem Mp.del {W : World} {b n : Nat} {L : List (List Int × α)} (h : Mp W b val L) {K : List Int} (hK : Byt K) {W' : World} (hm : W'.ownsMap prog 9 RF b n ((mOf val L).del (kL K))) : Mp W' b val (xY_ L K none) := by
 rw [del_mOf h.byt h.ris hK] at hm
 have := x4_ hm
 rw [yB_] at this
 exact ⟨this, h.byt.set hK _⟩
theorem Mp.look {W : World} {b t e : Nat} {L : List (List Int × α)} (h : Mp W b val L) (ht : prog.underlying t = some (.map 9 e)) {z : Value} (hz : (zeroValue e).run prog W = .ok z W) {K : List Int} (hK : Byt K) (hn : K.length <= maxLen) :
  (Instr.lookup t (.map (some b)) (.string (strOfNums K)) true).run prog W = .ok (.tuple #[((zU_ L K).map val).getD z, .bool (zU_ L K).isSome]) W := by
 obtain ⟨v, ps, hr, hv⟩ := h.own.look_ok law9 ht hz (zd := .held z) (zp := []) rfl (keyK hn)
 rw [Qb_ h.byt hK] at hr
 rw [at_mOf h.byt hK] at hv
 have e2 := RF_inv hv
 have : ((zU_ L K).map val).getD z = v := by
  have := (Prod.mk.inj e2).1
  revert this
  cases zU_ L K <;> intro this <;> simpa using this
 rw [this]
 exact hr
end
end
section
open Go.Shelf
attribute [local go_sem] Oper.semAt_some
end
theorem xs_ (j : Job) (w : World) (hj : z2_ w j) :
  Calls prog 38 #[.agg #[.int .i64 j.w, .int .i64 j.l, .int .i64 j.d, .int .i64 j.c, .int .i64 j.k, .int .i64 j.e, .slice j.a j.n j.cap]] w fun r w' => r = .returned (.int .i64 (qi_ j)) /\ Below w.heap.size w w' := by
 have HJ := hid hj
 have hle := hj.le
 have hli : (j.n : Int) <= 1000000 := by omega
 clear hj
 go_enter func38, ntmps38
 go_upto_region 1 with (fail)
 have hb := zg_.new w #[.int .i64 j.w, .int .i64 j.l, .int .i64 j.d, .int .i64 j.c, .int .i64 j.k, .int .i64 j.e, .slice j.a j.n j.cap] 24
 have B1 : Below w.heap.size w (w.alloc (.cells #[.int .i64 j.w, .int .i64 j.l, .int .i64 j.d, .int .i64 j.c, .int .i64 j.k, .int .i64 j.e, .slice j.a j.n j.cap] 24)) := (Below.refl _ _).alloc (Nat.le_refl _) _
 generalize w.alloc (.cells #[.int .i64 j.w, .int .i64 j.l, .int .i64 j.d, .int .i64 j.c, .int .i64 j.k, .int .i64 j.e, .slice j.a j.n j.cap] 24) = W1 at hb B1 ⊢
 have c0 := hb.cell 0
 have c1 := hb.cell 1
 have c2 := hb.cell 2
 have c3 := hb.cell 3
 have c4 := hb.cell 4
 have c5 := hb.cell 5
 have c6 := hb.cell 6
 simp only [gtA, gtB, gtC] at c0 c1 c2 c3 c4 c5 c6
 have HB1 := hid B1
 clear hb B1
 have HF := hid (show gB j = false -> qi_ j = 2 from fun h => by rw [qi_, okB, gB_and, h]; rfl)
 by_cases h0 : j.w < 1
 ·exact Xb14
 by_cases h1 : 4 < j.w
 ·exact Xb14
 by_cases h2 : j.l < 1
 ·exact Xb14
 by_cases h3 : 2 < j.l
 ·exact Xb14
 by_cases h4 : j.w < j.l
 ·exact Xb14
 by_cases h5 : j.d < 3
 ·exact Xb14
 by_cases h6 : 15 < j.d
 ·exact Xb14
 by_cases h7 : j.c < 1024
 ·exact Xb14
 by_cases h8 : 65536 < j.c
 ·exact Xb14
 by_cases h9 : j.k < 1024
 ·exact Xb14
 by_cases h10 : 1048576 < j.k
 ·exact Xb14
 by_cases h11 : j.e < 1
 ·exact Xb14
 by_cases h12 : 100 < j.e
 ·exact Xb14
 have HG := hid (show gB j = true from decide_eq_true Xt0)
 by_cases hn : 1 <= j.n /\ j.n <= 4
 ·have n1 : ¬ (j.n : Int) < 1 := by omega
  have n2 : ¬ (4 : Int) < (j.n : Int) := by omega
  have HH := hid (show hB j = true by rw [gB_and, HG.out, inB]; simp; omega)
  go_wp2_with fail
  go_loopw [3] (fun i wr => ∃ k : Nat, k <= j.n /\ i = .int .i64 (k : Int) /\ Hid (tB (j.T.take k) = true) /\ W1 = wr) (fun i _ => j.n - (intOf i).toNat)
  case atStart => exact ⟨0, by omega, rfl, hid (by simp [tB]), rfl⟩
  case round =>
   obtain ⟨k, hk, rfl, htk, rfl⟩ := hrel
   by_cases hlt : k < j.n
   ·have hkl : (k : Int) < (j.n : Int) := by omega
    obtain ⟨b1, o1, ea, d1⟩ := (HJ.out.ls.below HB1.out).get k Xt55
    rw [ea] at c6
    obtain ⟨x, hx⟩ := gtx (j.T.getD k 0)
    rw [hx] at d1
    have HN := hid (show tB (j.T.take (k + 1)) = inB x 0 2 by rw [tB_take Xt55, htk.out, hx]; rfl)
    have HO := hid (show inB x 0 2 = false -> qi_ j = 2 from fun h => by rw [qi_, okB, tB_no (k := k) Xt55 (by rw [hx]; exact h)]; simp)
    clear hx ea
    by_cases q1 : x < 0
    ·exact Xb100
    ·by_cases q2 : 2 < x
     ·exact Xb100
     ·go_wp2_with fail
      go_roundw
      case rel => exact ⟨k + 1, by omega, by go_num, hid (by rw [HN.out]; exact decide_eq_true Xt0), trivial⟩
      case measure => simp [intOf]; omega
   ·have hkl : ¬ (k : Int) < (j.n : Int) := by omega
    have HO := hid (show qi_ j = 0 by
     have := htk.out
     rw [List.take_of_length_le (by rw [HJ.out.len]; omega)] at this
     rw [qi_, okB, HH.out, this]; rfl)
    exact Xb85
 ·have HO := hid (show qi_ j = 2 by
   have : inB j.n 1 4 = false := decide_eq_false Xt0
   rw [qi_, okB, gB_and, this]; simp)
  by_cases n1 : (j.n : Int) < 1
  ·exact Xb85
  ·have n2 : (4 : Int) < (j.n : Int) := by omega
   exact Xb85
end Go.Proofs.YthmofoldmdafoaaGreat
