/- Part of the proof that ModelApplies holds for every input: writes that are done on tables leave them as the document says. Part 1. -/
import Derived.OrdersHeld
import Derived.KernelRfl
import Derived.Below
import Derived.Deep.RegionHeld
import Derived.Lib.Hide
import Derived.Test.YthmofoldmdafoaaGreatRows
import Derived.WalkKit
import Derived.WalkMore
import Derived.ProofKit
import Derived.Outline
import Derived.WalkLawsBesides
import Derived.WalkSpells
import Derived.WalkSmall
import Derived.BigRegion
import Derived.Laws.Rows
import Derived.Laws.BytesArg
import Derived.Laws.Concat
import Derived.Laws.OwnMore
import Derived.Deep.QuietTactic
import Derived.BigQuiet
import Derived.Deep.RegionHeld3
import Derived.StillTailTactics
import Derived.Deep.Matrix
import Derived.OpenShut
import Derived.Lib.Bytes
import Derived.Lib.SliceRun
import Derived.Laws.BitsAllLaws
import Derived.IntWalk
import Derived.Deep.DeepCutAuto
import Derived.Deep.CutBlock
import Derived.Lib.SlBytesConst
import Derived.Deep.CutRange
import Derived.RangeFuncBox
import Derived.RangeFuncNested
import Derived.RangeFuncBound
import Derived.RangeFuncCalls
import Derived.RangeFuncLeaves
import Derived.Shelf.Abstract
import Derived.Shelf.RegionOpen
import Derived.OwnWalkIn
import Derived.TacticsInMore
import Derived.LoopNIn
import Derived.LoopIn
import Derived.BigRegionIn
import Derived.Maps.Own
import Derived.Maps.OwnOps
import Derived.Maps.OwnSet
import Derived.Maps.RangeWalk
import Derived.Deep.MidRow
import Derived.Deep.WholeRow
import Derived.Maps.AppendAt
import Derived.Lib.ConvBytes
import Derived.Laws.Tables
import Derived.Maps.OwnIn
import Derived.Sort.MapsRangeIn
import Derived.Deep.Upon
import Derived.Shelf.SortM.Plain
import Derived.Shelf.SortM.SortNone
import Derived.Ground.SlgmProg
import Derived.Sort.OwnSorted
import Derived.Lib.Bytealg
import Derived.Lib.Walk
import Derived.Shelf.SlSortCmp.WholeK
import Derived.Shelf.SlSortCmp.NoneTotal
import Derived.Ground.SlsfProg
import Derived.Sort.QuietIn
import Derived.OrdersIn
import Derived.Sort.CutIn
import Derived.Deep.Slices
import Derived.Deep.Fields
import Derived.ChangeSame
import Derived.SizedLaws
import Derived.Lib.SmallJoins
import Derived.ShutString
import Derived.ChangeOld
set_option linter.unusedVariables false
set_option linter.unusedSimpArgs false
set_option maxRecDepth 100000
set_option maxHeartbeats 4000000
namespace Go.Proofs.YthmofoldmdafoaaGreat
open Go Go.RowKit
/-- Take number 'i' first: it may come up, it yields 'v', the frame behind it is written out (its side conditions found by themselves). -/
theorem tkp {P : Program} {ops : Array Oper} {Q : Exit → Act → World → Prop} {md : Region.Mode} {S : World → Prop} (i : Nat) (v : Value) {oi : Oper} {fuel : Nat} {listed : Array Bool} {a a' : Act} {w : World}
 (hi : (ops.toList.drop i).head? = some oi) (hy : YieldsIf P ops S oi v a)
 (h : wpAnyH P md ops Q S fuel (listed.setIfInBounds i true) a' w)
 (ha : a' = a.put oi.dst v := by (simp only [Act.put, List.setIfInBounds_toArray, List.set_cons_zero, List.set_cons_succ]; rfl))
 (hb : (Region.noSelect ops && Region.free md ops listed i && (Region.ready md ops listed).contains i) = true := by kernel_rfl)
 (hQ : ∀ c a w, Q (.panic c) (a.put oi.dst v) w → Q (.panic c) a w := by intro _ _ _ h; exact h) (hS : S w := by assumption) : wpAnyH P md ops Q S (fuel + 1) listed a w := by
 simp only [Bool.and_eq_true] at hb
 exact wpAnyH_take (oi := oi) (by simpa [List.head?_drop] using hi) hb.1.1 hb.1.2 hb.2 hQ hy hS (ha ▸ h)
/-- .., where what it yields is reckoned. -/
theorem tkr {P : Program} {ops : Array Oper} {Q : Exit → Act → World → Prop} {md : Region.Mode} {S : World → Prop} (i : Nat) {v : Value} {oi : Oper} {fuel : Nat} {listed : Array Bool} {a a' : Act} {w : World}
 (hi : (ops.toList.drop i).head? = some oi) (hy : ∀ w, S w → (execOp a.eval oi).run P w = .ok (.value v) w)
 (h : wpAnyH P md ops Q S fuel (listed.setIfInBounds i true) a' w)
 (hw : Region.wanted oi (yielded ops a.tmps) = true := by rfl)
 (ha : a' = a.put oi.dst v := by (simp only [Act.put, List.setIfInBounds_toArray, List.set_cons_zero, List.set_cons_succ]; rfl))
 (hb : (Region.noSelect ops && Region.free md ops listed i && (Region.ready md ops listed).contains i) = true := by kernel_rfl)
 (hQ : ∀ c a w, Q (.panic c) (a.put oi.dst v) w → Q (.panic c) a w := by intro _ _ _ h; exact h) (hS : S w := by assumption) : wpAnyH P md ops Q S (fuel + 1) listed a w := tkp i v hi (.inl ⟨hw, hy⟩) h ha hb hQ hS
/-- .. by the walk alone. -/
theorem tkq {P : Program} {ops : Array Oper} {Q : Exit → Act → World → Prop} {md : Region.Mode} {S : World → Prop} (i : Nat) {v : Value} {oi : Oper} {fuel : Nat} {listed : Array Bool} {a a' : Act} {w : World}
 (h : wpAnyH P md ops Q S fuel (listed.setIfInBounds i true) a' w)
 (hi : (ops.toList.drop i).head? = some oi := by rfl)
 (hy : ∀ w, S w → (execOp a.eval oi).run P w = .ok (.value v) w := by (intro W hSw; go_simp; try with_reducible rfl)) (hw : Region.wanted oi (yielded ops a.tmps) = true := by rfl)
 (ha : a' = a.put oi.dst v := by (simp only [Act.put, List.setIfInBounds_toArray, List.set_cons_zero, List.set_cons_succ]; rfl))
 (hb : (Region.noSelect ops && Region.free md ops listed i && (Region.ready md ops listed).contains i) = true := by kernel_rfl)
 (hQ : ∀ c a w, Q (.panic c) (a.put oi.dst v) w → Q (.panic c) a w := by intro _ _ _ h; exact h) (hS : S w := by assumption) : wpAnyH P md ops Q S (fuel + 1) listed a w := tkp i v hi (.inl ⟨hw, hy⟩) h ha hb hQ hS
/-- Such a take, as a fact. -/
def TkF (P : Program) (md : Region.Mode) (ops : Array Oper) (Q : Exit → Act → World → Prop) (S : World → Prop) (i : Nat) (l : Array Bool) (a a' : Act) (w : World) : Prop := ∀ fuel, wpAnyH P md ops Q S fuel (l.setIfInBounds i true) a' w → wpAnyH P md ops Q S (fuel + 1) l a w
theorem tkk {P : Program} {ops : Array Oper} {Q : Exit → Act → World → Prop} {md : Region.Mode} {S : World → Prop} {i : Nat} {v : Value} {oi : Oper} {l : Array Bool} {a a' : Act} {w : World}
 (hi : (ops.toList.drop i).head? = some oi := by rfl)
 (hy : ∀ w, S w → (execOp a.eval oi).run P w = .ok (.value v) w := by (intro W hSw; go_simp; try with_reducible rfl)) (hw : Region.wanted oi (yielded ops a.tmps) = true := by rfl)
 (ha : a' = a.put oi.dst v := by (simp only [Act.put, List.setIfInBounds_toArray, List.set_cons_zero, List.set_cons_succ]; rfl))
 (hb : (Region.noSelect ops && Region.free md ops l i && (Region.ready md ops l).contains i) = true := by kernel_rfl)
 (hQ : ∀ c a w, Q (.panic c) (a.put oi.dst v) w → Q (.panic c) a w := by intro _ _ _ h; exact h) (hS : S w := by assumption) : TkF P md ops Q S i l a a' w := fun _ h => tkq i h hi hy hw ha hb hQ hS
theorem tkq2 {P : Program} {ops : Array Oper} {Q : Exit → Act → World → Prop} {md : Region.Mode} {S : World → Prop} (i j : Nat) {f : Nat} {l : Array Bool} {a b c : Act} {w : World}
 (h : wpAnyH P md ops Q S f ((l.setIfInBounds i true).setIfInBounds j true) c w) (t1 : TkF P md ops Q S i l a b w := by exact tkk) (t2 : TkF P md ops Q S j (l.setIfInBounds i true) b c w := by exact tkk) : wpAnyH P md ops Q S (f + 1 + 1) l a w := t1 _ (t2 _ h)
theorem tkq3 {P : Program} {ops : Array Oper} {Q : Exit → Act → World → Prop} {md : Region.Mode} {S : World → Prop} (i j k : Nat) {f : Nat} {l : Array Bool} {a b c d : Act} {w : World}
 (h : wpAnyH P md ops Q S f (((l.setIfInBounds i true).setIfInBounds j true).setIfInBounds k true) d w) (t1 : TkF P md ops Q S i l a b w := by exact tkk) (t2 : TkF P md ops Q S j (l.setIfInBounds i true) b c w := by exact tkk) (t3 : TkF P md ops Q S k ((l.setIfInBounds i true).setIfInBounds j true) c d w := by exact tkk) : wpAnyH P md ops Q S (f + 1 + 1 + 1) l a w := t1 _ (t2 _ (t3 _ h))
theorem tkq4 {P : Program} {ops : Array Oper} {Q : Exit → Act → World → Prop} {md : Region.Mode} {S : World → Prop} (i j k n : Nat) {f : Nat} {l : Array Bool} {a b c d e : Act} {w : World}
 (h : wpAnyH P md ops Q S f ((((l.setIfInBounds i true).setIfInBounds j true).setIfInBounds k true).setIfInBounds n true) e w) (t1 : TkF P md ops Q S i l a b w := by exact tkk) (t2 : TkF P md ops Q S j (l.setIfInBounds i true) b c w := by exact tkk) (t3 : TkF P md ops Q S k ((l.setIfInBounds i true).setIfInBounds j true) c d w := by exact tkk) (t4 : TkF P md ops Q S n (((l.setIfInBounds i true).setIfInBounds j true).setIfInBounds k true) d e w := by exact tkk) : wpAnyH P md ops Q S (f + 1 + 1 + 1 + 1) l a w := t1 _ (t2 _ (t3 _ (t4 _ h)))
/-- Number 'i' is not wanted: what it gives is undefined. -/
theorem tkn {P : Program} {ops : Array Oper} {Q : Exit → Act → World → Prop} {md : Region.Mode} {S : World → Prop} (i : Nat) {oi : Oper} {fuel : Nat} {listed : Array Bool} {a a' : Act} {w : World}
 (h : wpAnyH P md ops Q S fuel (listed.setIfInBounds i true) a' w) (hi : (ops.toList.drop i).head? = some oi := by rfl)
 (hy : YieldsIf P ops S oi undef a := by exact .inr ⟨by rfl, rfl⟩)
 (ha : a' = a.put oi.dst undef := by (simp only [Act.put, List.setIfInBounds_toArray, List.set_cons_zero, List.set_cons_succ]; rfl))
 (hb : (Region.noSelect ops && Region.free md ops listed i && (Region.ready md ops listed).contains i) = true := by kernel_rfl)
 (hQ : ∀ c a w, Q (.panic c) (a.put oi.dst undef) w → Q (.panic c) a w := by intro _ _ _ h; exact h) (hS : S w := by assumption) : wpAnyH P md ops Q S (fuel + 1) listed a w := tkp i undef hi hy h ha hb hQ hS
/-- One that is ready. -/
theorem tka {P : Program} {ops : Array Oper} {Q : Exit → Act → World → Prop} {md : Region.Mode} {S : World → Prop} {fuel : Nat} {listed : Array Bool} {a : Act} {w : World} {i : Nat} {o : Oper} {rs : List Nat}
 (h : ∀ (K' : Act → World → Prop), Shut (∀ (a : Act) (w : World), S w → (S w → wpAnyH P md ops Q S fuel (listed.setIfInBounds i true) a w) → K' a w) → if Region.wanted o (yielded ops a.tmps) = true then Oper.wp P o a w K' Q else K' (a.put o.dst undef) w)
 (t : AllReadyH P md ops Q S fuel listed a w rs) (ho : (ops.toList.drop i).head? = some o := by rfl) : AllReadyH P md ops Q S fuel listed a w (i :: rs) := AllReadyH.cons (by simpa [List.head?_drop] using ho) h t
/-- Just one is ready. -/
theorem tk1 {P : Program} {ops : Array Oper} {Q : Exit → Act → World → Prop} {md : Region.Mode} {S : World → Prop} {fuel : Nat} {listed : Array Bool} {a : Act} {w : World} (i : Nat) {o : Oper}
 (ho : (ops.toList.drop i).head? = some o)
 (h : ∀ (K' : Act → World → Prop), Shut (∀ (a : Act) (w : World), S w → (S w → wpAnyH P md ops Q S fuel (listed.setIfInBounds i true) a w) → K' a w) → if Region.wanted o (yielded ops a.tmps) = true then Oper.wp P o a w K' Q else K' (a.put o.dst undef) w)
 (hr : Region.ready md ops listed = [i] := by kernel_rfl) : wpAnyH P md ops Q S (fuel + 1) listed a w := wpAnyH_ready hr (by simp) (tka h AllReadyH.nil ho)
theorem tks {p : Prop} (h : p := by (go_simp; try with_reducible rfl)) : p := h
theorem stA {α : Type} {l : List α} {i : Nat} {a : α} : l.toArray.setIfInBounds i a = (l.set i a).toArray := List.setIfInBounds_toArray ..
theorem stB {α : Type} {l : List α} {a b : α} : (a :: l).set 0 b = b :: l := List.set_cons_zero ..
theorem stC {α : Type} {l : List α} {n : Nat} {a b : α} : (a :: l).set (n + 1) b = a :: l.set n b := List.set_cons_succ ..
theorem gtA {α : Type} {l : List α} {i : Nat} : l.toArray[i]? = l[i]? := List.getElem?_toArray ..
theorem gtB {α : Type} {a : α} {l : List α} : (a :: l)[0]? = some a := List.getElem?_cons_zero ..
theorem gtC {α : Type} {a : α} {l : List α} {i : Nat} : (a :: l)[i + 1]? = l[i]? := List.getElem?_cons_succ ..
theorem rgw {P : Program} {ops : Array Oper} {Q : Exit → Act → World → Prop} {id : Nat} {a : Act} {w : World} (v : World) (hS : Below v.heap.size v w.drew)
 (h : Below v.heap.size v w.drew → wpAnyH P .any ops Q (fun X => Below v.heap.size v X) ops.size (Array.replicate ops.size false) a w.drew) (hm : P.follows .mixedOrders = true := by kernel_rfl) : (Code.region id ops true).wp P Q a w := wp_region_held_drew (S := fun X => Below v.heap.size v X) hm hS h
theorem adn {P : Program} {ops : Array Oper} {Q : Exit → Act → World → Prop} {md : Region.Mode} {S : World → Prop} {fuel : Nat} {listed : Array Bool} {a : Act} {w : World} (h : Q .normal a w) (hr : Region.ready md ops listed = [] := by kernel_rfl) : wpAnyH P md ops Q S fuel listed a w := wpAnyH_done hr h _
theorem wmo {P : Program} {c : Code} {a : Act} {w : World} {K : Act → World → Prop} {Q : Exit → Act → World → Prop} (h : c.wp P (Exit.then K (fun _ _ _ => False)) a w) : c.wp P (Exit.then K Q) a w := Code.wp_mono (Q := Exit.then K (fun _ _ _ => False)) (fun e a' w' h => by cases e <;> first | exact h | exact h.elim) h
theorem stP {p q : Prop} (h : q) (e : p = q := by (first | (simp only [Act.put, stA, stB, stC]; rfl) | rfl)) : p := e.mpr h
theorem gtx {α : Sort _} (a : α) : ∃ b, a = b := ⟨a, rfl⟩
theorem gty {α : Sort _} (a : α) : ∃ b, b = a := ⟨a, rfl⟩
theorem tcb {w W : World} {p : Addr} {v : Value} (b : Below w.heap.size w W) (h : w.cell? p = some v) : W.cell? p = some v := (b.cell (World.block_lt_of_cell? w _ h)).trans h
end Go.Proofs.YthmofoldmdafoaaGreat
namespace Go.Proofs.YthmofoldmdafoaaGreat
open Go.ChangeShapes Go.WideShapes Go.ChangeAt Go.RowKit
open Go.Lib (hid)
open Go.Proofs.Tryz
theorem Xf0 {p : Prop} (h : p := by (intro W hSw; obtain ⟨⟨s0, s1, s2, s3, s4, s5, s6⟩, ⟨s7, s8, s9⟩, t0, t1, t2, t3, t4, t5, t6⟩ := HQ.out W hSw; exact tks)) : p := h
theorem Xf1 {p : Prop} (h : p := by (intro W hSw; obtain ⟨m0, m1, m2⟩ := HC.out W hSw; exact tks)) : p := h
theorem Xf2 {p : Prop} (h : p := by (intro W hSw; have m := (HX.out W hSw).1; exact tks)) : p := h
theorem Xf3 {p : Prop} (h : p := by (intro W hSw; have m := (HX.out W hSw).2.2.1; exact tks)) : p := h
theorem Xf4 {p : Prop} (h : p := by (intro W hSw; have m := (HX.out W hSw).2.1; exact tks)) : p := h
theorem Xf5 {p : Prop} (h : p := by (intro W hSw; have mb := HXW.out W hSw; have m1 := mb.cell 1; simp only [gtA, gtB, gtC] at m1; exact tks)) : p := h
theorem Xf6 {p : Prop} (h : p := by (intro W hSw; have hcv := zA_ W fa F.length fc F rfl (HFX.out W (HOF.out.then hSw)).1.rd; exact tks)) : p := h
theorem Xf7 {p : Prop} (h : p := by (intro W hSw; have m := (HX.out W hSw).2.2.2; exact tks)) : p := h
theorem Xf8 {p : Prop} (h : p := by (intro W hSw; have m := (zf_ HX.out.1 hSw).cell; exact tks)) : p := h
theorem Xf9 {p : Prop} (h : p := by (intro W hSw; obtain ⟨_, _, _, m1, _, _⟩ := HXL.out W (HOF.out.then hSw); exact tks)) : p := h
theorem Xf10 {p : Prop} (h : p := by (intro W hSw; have m := (zf_ HX.out.2.1 hSw).cell; exact tks)) : p := h
theorem Xf11 {p : Prop} (h : p := by (intro W hSw; have hcv := HCA.out W hSw; exact tks)) : p := h
theorem Xf12 {p : Prop} (h : p := by (intro W hSw; obtain ⟨z0, z1, z2, z3, z4, z5⟩ := FQ.out W hSw; exact tks)) : p := h
theorem Xf13 {p : Prop} (h : p := by (intro W hSw; obtain ⟨_, _, _, _, _, m1⟩ := HXL.out W (HOF.out.then hSw); rw [HEN.out] at m1; exact tks)) : p := h
theorem Xf14 {p : Prop} (h : p := by (intro W hSw; have m := HPA.out W hSw; exact tks)) : p := h
theorem Xf15 {p : Prop} (h : p := by (intro W hSw; obtain ⟨z0, z1, z2, z3⟩ := FQ.out W hSw; exact tks)) : p := h
theorem Xf16 {p : Prop} (h : p := by (intro W hSw; have m := (zf_ HX.out.2.2 hSw).cell; exact tks)) : p := h
theorem Xf17 {p : Prop} (h : p := by (intro W hSw; obtain ⟨c0, c1⟩ := HX5.out W hSw; exact tks)) : p := h
theorem Xf18 {p : Prop} (h : p := by (intro W hSw; obtain ⟨e0, e1⟩ := HY5.out W hSw; exact tks)) : p := h
theorem Xf19 {p : Prop} (h : p := by (intro W hSw; obtain ⟨m0, m1⟩ := HM5.out W hSw; exact tks)) : p := h
theorem Xf20 {p : Prop} (h : p := by (intro W hSw; obtain ⟨m0, m1⟩ := HM9.out W hSw; exact tks)) : p := h
theorem Xf21 {p : Prop} (h : p := by (intro W hSw; obtain ⟨m0, m1⟩ := HYC.out W hSw; exact tks)) : p := h
theorem Xf22 {p : Prop} (h : p := by (intro W hSw; obtain ⟨_, _, _, _, _, _, _, x0, x1, x2⟩ := HX.out W hSw; exact tks)) : p := h
theorem Xf23 {p : Prop} (h : p := by (intro W hSw; obtain ⟨m0, m1, m2, m3, m4, m5, m6, _⟩ := HX.out W hSw; exact tks)) : p := h
theorem Xf24 {p : Prop} (h : p := by (intro W hSw; have hcv := zA_ W yka ykn ykc YK HKY.out.1 (HKY.out.2.below hSw).rd; exact tks)) : p := h
theorem Xf25 {p : Prop} (h : p := by (intro W hSw; have m7 := HP7.out W hSw; exact tks)) : p := h
theorem Xf26 {p : Prop} (h : p := by (intro W hSw; obtain ⟨_, m0, m1, m2, m3, m4, m5, m6, _⟩ := HX.out W hSw; exact tks)) : p := h
theorem Xf27 {p : Prop} (h : p := by (intro W hSw; obtain ⟨g0, g1, g2, g3, g4, g5, g6, o0, o1, o2, o3, o4, o5, o6⟩ := FG.out W (za_ HB4.out hSw); exact tks)) : p := h
theorem Xf28 {p : Prop} (h : p := by (intro W hSw; have mb := HXW.out W (za_ HWZ.out hSw); have m1 := mb.cell 1; simp only [gtA, gtB, gtC] at m1; exact tks)) : p := h
theorem Xf29 {p : Prop} (h : p := by (intro W hSw; obtain ⟨m0, m1⟩ := HYC.out W (za_ HWZ.out hSw); exact tks)) : p := h
theorem Xf30 {p : Prop} (h : p := by (intro W hSw; have m := (HM.out W hSw).1; exact tks)) : p := h
theorem Xf31 {p : Prop} (h : p := by (intro W hSw; have mb := HXW.out W hSw; have m3 := mb.cell 3; simp only [gtA, gtB, gtC] at m3; exact tks)) : p := h
theorem Xf32 {p : Prop} (h : p := by (intro W hSw; obtain ⟨_, _, _, _, _, _, _, _, o0, o1, o2, o3, o4, o5, o6⟩ := HX.out W hSw; exact tks)) : p := h
theorem Xf33 {p : Prop} (h : p := by (intro W hSw; have hcv := zA_ W ta U.length tc U rfl (HFX.out W (HOF.out.then hSw)).2.rd; exact tks)) : p := h
theorem Xf34 {p : Prop} (h : p := by (intro W hSw; obtain ⟨_, _, o1, _⟩ := HX.out W (za_ HB3c.out hSw); rw [HO.out.te] at o1; exact tks)) : p := h
theorem Xf35 {p : Prop} (h : p := by (intro W hSw; obtain ⟨⟨_, _, _, _, _, _, _, m7⟩, _⟩ := HX.out W (za_ HB3c.out hSw); exact tks)) : p := h
theorem Xf36 {p : Prop} (h : p := by (intro W hSw; have hcv := zA_ W xka xkn xkc XK HKX.out.1 (HKX.out.2.below hSw).rd; exact tks)) : p := h
theorem Xf37 {p : Prop} (h : p := by (intro W hSw; obtain ⟨⟨m0, m1, m2, m3, m4, m5, m6, m7⟩, _⟩ := HX.out W hSw; exact tks)) : p := h
theorem Xf38 {p : Prop} (h : p := by (intro W hSw; obtain ⟨_, _, _, _, m1, _⟩ := HXL.out W (HOF.out.then hSw); exact tks)) : p := h
theorem Xf39 {p : Prop} (h : p := by (intro W hSw; obtain ⟨_, o0, o1, o2, o3, o4, o5, o6⟩ := HX.out W hSw; exact tks)) : p := h
theorem Xf40 {p : Prop} (h : p := by (intro W hSw; obtain ⟨s1, s2⟩ := hSw; exact tks)) : p := h
theorem Xf41 {p : Prop} (h : p := by (intro W hSw; have hsl := HLO.out W; exact tks)) : p := h
theorem Xf42 {p : Prop} (h : p := by (intro W hSw; have m := HXT.out W (za_ HB3c.out hSw); exact tks)) : p := h
theorem Xf43 {p : Prop} (h : p := by (intro W hSw; obtain ⟨m0, m1⟩ := HC2.out W hSw; exact tks)) : p := h
theorem Xt0 {p : Prop} (h : p := by (omega)) : p := h
theorem Xt1 {p : Prop} (h : p := by (rw [HP.out]; first | (simp [*]; done) | (simp [*]; intros; omega) | (simp; intros; omega))) : p := h
theorem Xt2 {p : Prop} (h : p := by (intro W _; exact tks)) : p := h
theorem Xt3 {p : Prop} (h : p := by (kernel_rfl)) : p := h
theorem Xt4 {p : Prop} (h : p := by (decide)) : p := h
theorem Xt5 {p : Prop} (h : p := by (simp)) : p := h
theorem Xt6 {p : Prop} (h : p := by (simp [results, results78, go_sem, q0, q1])) : p := h
theorem Xt7 {p : Prop} (h : p := by (simp; omega)) : p := h
theorem Xt8 {p : Prop} (h : p := by (rw [HP.out]; rfl)) : p := h
theorem Xt9 {p : Prop} (h : p := by (rw [HN.out]; exact hlt)) : p := h
theorem Xt10 {p : Prop} (h : p := by (rw [HK1.out]; decide)) : p := h
theorem Xt11 {p : Prop} (h : p := by (intro u hu; simp at hu; rcases hu with rfl | rfl <;> rfl)) : p := h
theorem Xt12 {p : Prop} (h : p := by (rw [List.map_append, List.map_append, HGM.out]; show _ ++ [prC gg] = _; rw [HGG.out.1]; rfl)) : p := h
theorem Xt13 {p : Prop} (h : p := by (intro key kl hk; simp only [keyOf, underlying9] at hk; cases key <;> simp [mapKey, underlying9] at hk; exact ⟨_, rfl⟩)) : p := h
theorem Xt14 {p : Prop} (h : p := by (intro j u hj; match j, hj with | 0, hj => (simp at hj; subst hj; simp [Addr.add, go_sem]))) : p := h
theorem Xt15 {p : Prop} (h : p := by (unfold maxLen; omega)) : p := h
theorem Xt16 {p : Prop} (h : p := by (intro N hN x hx; have := hN x hx; omega)) : p := h
theorem Xt17 {p : Prop} (h : p := by (intro e; rw [e]; exact (hbx w2 (Below.refl _ _)).2.lt)) : p := h
theorem Xt18 {p : Prop} (h : p := by (rw [HN.out]; omega)) : p := h
theorem Xt19 {p : Prop} (h : p := by (intro q hq; simp only [List.mem_cons, List.not_mem_nil, or_false] at hq; rcases hq with rfl; exact ⟨HF.out.2.2.2.2.2.1.below hXX, HF.out.2.2.2.2.2.2.1.below hXX⟩)) : p := h
theorem Xt20 {p : Prop} (h : p := by (intro z hz; have := HV.out.2.2.2.2.2.2 z hz; omega)) : p := h
theorem Xt21 {p : Prop} (h : p := by (rw [← HDG.out, x6_ HA1.out (by rw [HGL.out.2]; exact HMM.out) HSK.out])) : p := h
theorem Xt22 {p : Prop} (h : p := by (rw [← HDG.out, x5_ HA1.out (by rw [HGL.out.2]; exact HMM.out) HSK.out])) : p := h
theorem Xt23 {p : Prop} (h : p := by (intro j hj; cases hj)) : p := h
theorem Xt24 {p : Prop} (h : p := by (intro s X Y row hs hg hr; obtain ⟨v, h1, h2⟩ := hs; exact ⟨v, boxed_own _ 134 (fun (_ : Unit) => v) () X Y row h1 hg hr, yG_ h2 hg hr⟩)) : p := h
theorem Xt25 {p : Prop} (h : p := by (intro o ho; have := (HV.out.2.2.2.2.2.1 o ho).2.2.1; omega)) : p := h
theorem Xt26 {p : Prop} (h : p := by (intro x hx; have := hl x hx; omega)) : p := h
theorem Xt27 {p : Prop} (h : p := by (intro z hz; have := HP.out.2 z hz; omega)) : p := h
theorem Xt28 {p : Prop} (h : p := by (rw [HP.out]; simp)) : p := h
theorem Xt29 {p : Prop} (h : p := by (intro p hp; simp at hp; rcases hp with rfl | rfl <;> exact jj_ rfl)) : p := h
theorem Xt30 {p : Prop} (h : p := by (intro z hz; have := HV.out.2.2.2.2.1 z hz; omega)) : p := h
theorem Xt31 {p : Prop} (h : p := by (intro u hu; simp at hu; subst hu; rfl)) : p := h
theorem Xt32 {p : Prop} (h : p := by (have := (List.getElem?_eq_some_iff.1 hq).1; have := HL.out; omega)) : p := h
theorem Xt33 {p : Prop} (h : p := by (intro u hu; simp at hu; rcases hu with rfl | rfl | rfl <;> rfl)) : p := h
theorem Xt34 {p : Prop} (h : p := by (intro hk; have := HH.out.1.bd _ (HH.out.1.mut _ hk).1; omega)) : p := h
theorem Xt35 {p : Prop} (h : p := by (first | exact rfl | trivial)) : p := h
theorem Xt36 {p : Prop} (h : p := by (intro k hk; cases hk; omega)) : p := h
theorem Xt37 {p : Prop} (h : p := by (have := HSW.out.1; have := HWN.out.1; omega)) : p := h
theorem Xt38 {p : Prop} (h : p := by (intro o ho; simp at ho; rcases ho with rfl | rfl | rfl <;> exact Nat.le_of_ble_eq_true rfl)) : p := h
theorem Xt39 {p : Prop} (h : p := by (intro b hb; have := HB3.out.size; omega)) : p := h
theorem Xt40 {p : Prop} (h : p := by (intro z hz; have := HFL.out z hz; omega)) : p := h
theorem Xt41 {p : Prop} (h : p := by (intro y hy; cases hy)) : p := h
theorem Xt42 {p : Prop} (h : p := by (intro q; injection q with _ q _; omega)) : p := h
theorem Xt43 {p : Prop} (h : p := by (intro e; have := HB3.out.size; have := (HB.out.2 w2 (Below.refl _ _)).1.lt; omega)) : p := h
theorem Xt44 {p : Prop} (h : p := by (have := hm48.out; omega)) : p := h
theorem Xt45 {p : Prop} (h : p := by (intro u hu; simp at hu; subst hu; rfl)) : p := h
theorem Xt46 {p : Prop} (h : p := by (intro W; kernel_rfl)) : p := h
theorem Xt47 {p : Prop} (h : p := by (have := HPL.out; unfold maxLen; omega)) : p := h
theorem Xt48 {p : Prop} (h : p := by (have := HY.out.1; omega)) : p := h
theorem Xt49 {p : Prop} (h : p := by (rw [hel]; exact underlying69)) : p := h
theorem Xt50 {p : Prop} (h : p := by (rw [HSP.out]; exact jp_ _ _ (by rw [List.length_drop]; have := HL.out; omega))) : p := h
theorem Xt51 {p : Prop} (h : p := by (intro e; have := HH.out.2.1 _ HH.out.1.hb; omega)) : p := h
theorem Xt52 {p : Prop} (h : p := by (intro W' h; obtain ⟨_, _, _, _, _, l, r⟩ := h k y hy; exact ⟨l, r⟩)) : p := h
theorem Xt53 {p : Prop} (h : p := by (rw [xe_]; simp; omega)) : p := h
theorem Xt54 {p : Prop} (h : p := by (rw [HJ.out.len]; exact hlt)) : p := h
theorem Xt55 {p : Prop} (h : p := by (intro j hj; simp [Value.ownBlock] at hj; omega)) : p := h
theorem Xt56 {p : Prop} (h : p := by (intro g hg; cases hg)) : p := h
theorem Xt57 {p : Prop} (h : p := by (have := HV.out.2.2.2.2.1; omega)) : p := h
theorem Xt58 {p : Prop} (h : p := by (intro r e; cases e; exact ⟨_, hK, rfl⟩)) : p := h
theorem Xt59 {p : Prop} (h : p := by (intro z hz; have := HH.out.2.2 z hz; omega)) : p := h
theorem Xt60 {p : Prop} (h : p := by (intro x hx; have := HH.out.2.2 x hx; omega)) : p := h
theorem Xt61 {p : Prop} (h : p := by (rw [List.length_append, List.length_cons]; have := HAB.out; omega)) : p := h
theorem Xt62 {p : Prop} (h : p := by (rw [List.length_drop, HN.out])) : p := h
theorem Xt63 {p : Prop} (h : p := by (have := HPL.out; omega)) : p := h
theorem Xt64 {p : Prop} (h : p := by (rw [hel]; exact underlying41)) : p := h
theorem Xt65 {p : Prop} (h : p := by (cases P with | nil => exact absurd rfl h0 | cons _ _ => simp)) : p := h
theorem Xt66 {p : Prop} (h : p := by (intro r e; cases e; exact ⟨Nat.le_refl _, hrg.iter_walk⟩)) : p := h
theorem Xt67 {p : Prop} (h : p := by (intro e he; cases he)) : p := h
theorem Xt68 {p : Prop} (h : p := by (intro k x h; cases h)) : p := h
theorem Xt69 {p : Prop} (h : p := by (rw [List.length_take, HN.out]; omega)) : p := h
theorem Xt70 {p : Prop} (h : p := by (rw [HN.out.1]; exact hlt)) : p := h
theorem Xt71 {p : Prop} (h : p := by (rw [HN.out.2]; exact hlt)) : p := h
theorem Xt72 {p : Prop} (h : p := by (rw [hlen.out]; exact hlt)) : p := h
theorem Xt73 {p : Prop} (h : p := by (intro h; omega)) : p := h
theorem Xt74 {p : Prop} (h : p := by (rw [HLN.out]; exact hlt)) : p := h
theorem Xt75 {p : Prop} (h : p := by (rw [HLN.out]; exact htk)) : p := h
theorem Xt76 {p : Prop} (h : p := by (rw [HXL.out]; exact hlt)) : p := h
theorem Xt77 {p : Prop} (h : p := by (rw [HN.out]; exact Nat.le_refl _)) : p := h
theorem Xt78 {p : Prop} (h : p := by (intro y hy; simp at hy)) : p := h
theorem Xt79 {p : Prop} (h : p := by (have := HLN.out; omega)) : p := h
theorem Xt80 {p : Prop} (h : p := by (rw [HL.out]; exact hlt)) : p := h
theorem Xt81 {p : Prop} (h : p := by (intro e; have := hS _ e; omega)) : p := h
theorem Xt82 {p : Prop} (h : p := by (rw [h.wlen]; exact ht)) : p := h
theorem Xt83 {p : Prop} (h : p := by (rw [HV.out]; exact hk)) : p := h
theorem Xt84 {p : Prop} (h : p := by (rw [hlen.out]; omega)) : p := h
theorem Xt85 {p : Prop} (h : p := by (rw [HV.out]; exact e)) : p := h
theorem Xb0 {p : Prop} (h : p := by
  obtain ⟨w10, hw10⟩ := gty (w9.alloc (.cells #[.slice a.ka akn a.kc, .slice a.ra a.R.length a.rc] 78))
  have HB10 := hid (by rw [hw10]; exact bl1 _ _ : Below w9.heap.size w9 w10)
  have HX10 := hid (by rw [hw10]; exact zg_.new _ _ _ : zg_ w10 w9.heap.size #[.slice a.ka akn a.kc, .slice a.ra a.R.length a.rc] 78)
  have HB90 := hid (HB9.out.trans (HB10.out.mono HB9.out.size))
  have HELB2 := HELB.out
  have p0 := HPA.out w9 HB9.out
  have p1 := HPB.out w9 HB9.out
  go_upto_region 30 with (fail)
  rw [← hw10]
  clear hw10 p0 p1
  obtain ⟨o0, o5, _, s1, s2, s3⟩ := HXL.out w10 (HOF.out.then HB90.out)
  obtain ⟨hsl, fl, hsv⟩ := HSPL.out a HAM.out
  obtain ⟨K1, hK1⟩ := gtx ((outS a).1)
  obtain ⟨kn2, hkn2⟩ := gtx (K1.length)
  rw [hK1] at hsv
  have HSQ := hid (jr_ a.ka a.K akn a.kc HAK.out (by rw [← HAK.out]; exact hsl) fl K1 0 hsv w10 (HKR.out.1.below HB90.out))
  have HK1 := hid (And.intro hK1 hkn2)
  have x0 := HX10.out.cell 0
  simp only [gtA, gtB, gtC] at x0
  clear hsl hsv hK1
  go_wp2_with fail
  clear x0 o0
  refine HSQ.out.mono ?_; rintro r w11 ⟨a1, c1, a2, c2, rfl, _, hk2, hb11⟩
  rw [hkn2]
  have HKS := hid hk2
  have HB11 := hid hb11
  have HX11 := hid (HX10.out.below hb11)
  have x0 := HX11.out.cell 0
  have f0 := HX11.out.frozen 0
  simp only [gtA, gtB, gtC] at x0
  clear hk2 hb11 hkn2
  obtain ⟨w12, hw12⟩ := gty (w11.setCell ⟨w9.heap.size, 0, none⟩ (.slice a2 kn2 c2))
  have HXz := hid (by rw [hw12]; exact heap_setCell_same w11 w9.heap.size 0 _ 78 _ HX11.out : zg_ w12 w9.heap.size #[.slice a2 kn2 c2, .slice a.ra a.R.length a.rc] 78)
  have HBz := hid (by rw [hw12]; exact (HB90.out.trans (HB11.out.mono HB90.out.size)).setCell (p := ⟨w9.heap.size, 0, none⟩) HB9.out.size _ : Below wr.heap.size wr w12)
  have HOz12 := hid (by rw [hw12]; exact Off.set (S := fun k => k = w9.heap.size) (Off.refl _ w11) ⟨w9.heap.size, 0, none⟩ rfl _ : Off (fun k => k = w9.heap.size) w11 w12)
  go_upto_region 32 with (fail)
  rw [← hw12]
  clear hw12 x0 f0
  have HGA := hid (show zs_ (fun k => (Sp S (w.heap.size + 1) k ∨ k = w3.heap.size) ∨ Value.ownBlock (.slice oa gn oc) = some k) w12 (fun W => Ls .u8 W a2 c2 K1 /\ RdR W a.ra a.R) from fun W' o' => ⟨by
   have h1 := (HKS.out (fun k => k < w10.heap.size) (fun k hk => hk)).off (HOz12.out.mono fun k hk => by have := HX10.out.lt; omega)
   refine (h1.less fun k hk => ?_) W' o'
   have h5 := HB90.out.size
   rcases hk with (hk | hk) | hk
   ·have := HM2.out.2 k hk; have := HB24.out.size; have := HBL.out.size; have := HOF.out.size; omega
   ·have := HBD.out; have := HOF.out.size; omega
   ·have := (zb_ HOW.out hk).2.1; omega, by
   obtain ⟨_, _, _, _, _, _, r⟩ := ((HLS.out.step (Off.of (Below.refl _ _)) (fun k hk => hk.imp id fun h => (zb_ HOW.out h).1)).off (((HOF.out.then HBz.out)).mono fun k hk => .inl (.inr hk))) W' o' k a HA1.out
   exact r⟩)
  obtain ⟨gg, hgg⟩ : ∃ g : PrV, g = ⟨a2, c2, K1, a.ra, a.rc, a.R⟩ := ⟨_, rfl⟩
  have HGA := hid (show zs_ (fun k => (Sp S (w.heap.size + 1) k ∨ k = w3.heap.size) ∨ Value.ownBlock (.slice oa gn oc) = some k) w12 (fun W => Ls .u8 W gg.ka gg.kc gg.K /\ RdR W gg.ra gg.R) by rw [hgg]; exact HGA.out)
  have HGG := hid (show prC gg = outS a /\ gg.ka = a2 /\ gg.K.length = kn2 /\ gg.kc = c2 /\ gg.ra = a.ra /\ gg.R = a.R /\ gg.rc = a.rc by rw [hgg]; exact ⟨by show (K1, a.R.map P1.bs) = outS a; rw [← HK1.out.1]; rfl, rfl, HK1.out.2, rfl, rfl, rfl, rfl⟩)
  clear hgg
  have g1 := (HBX.out.below HBz.out).cell 1
  have x0 := HXz.out.cell 0
  have x1 := HXz.out.cell 1
  simp only [gtA, gtB, gtC] at g1 x0 x1
  have HOz := hid (ze_ (ze_ HOW.out HBz.out) (bl1 w12 (.cells #[.slice a2 kn2 c2, .slice a.ra a.R.length a.rc] 78)))
  have HBa := hid (show Below wr.heap.size wr (w12.alloc (.cells #[.slice a2 kn2 c2, .slice a.ra a.R.length a.rc] 78)) from HBz.out.trans ((bl1 w12 _).mono HBz.out.size))
  have HSz := hid (show wL.heap.size <= (w12.alloc (.cells #[.slice a2 kn2 c2, .slice a.ra a.R.length a.rc] 78)).heap.size from Nat.le_trans HOF.out.size HBa.out.size)
  go_wp2_with (at_builtin; refine zw_ xh_ rfl (.tmp 153) (.tmp 155) rfl wL.heap.size (.slice oa gn oc) gn (zi_ G) rfl HOz.out ⟨w12.heap.size, 0, none⟩ 1 1 [.slice a2 kn2 c2, .slice a.ra a.R.length a.rc] rfl rfl (zy_ w12 _ _ _ rfl) Xt11 Xt0 HSz.out ?_; intro v12 w13 hown12 hgrow12 hat12; obtain ⟨a12, c12, hv12⟩ := zd_ hown12; subst hv12; have HO12 := hid hown12; have HG12 := hid (Off.of_row hgrow12); have HAT := hid hat12; have hb12 := HG12.out.box (HBX.out.below HBa.out) (fun e => by obtain ⟨_, _, cu, hc⟩ := zb_ HOz.out e; exact zp_ hc (HBX.out.below HBa.out) Xt4 rfl); have HB12 := hid hb12; have y1 := hb12.cell 1; have z1 := hb12.frozen 1; simp only [gtA, gtB, gtC] at y1; clear hown12 hgrow12 hat12 hb12)
  have HW14 := hid (And.intro (heap_setCell_same w13 w3.heap.size 1 _ 81 (.slice a12 (gn + 1) c12) HB12.out) (Off.set (S := fun k => k = w3.heap.size) (Off.refl _ w13) ⟨w3.heap.size, 1, none⟩ rfl (.slice a12 (gn + 1) c12)))
  clear g1 x0 x1 y1 z1
  go_roundw
  case rel =>
   have hoff : Off (fun k => k = w3.heap.size ∨ Value.ownBlock (.slice oa gn oc) = some k) wr (w13.setCell ⟨w3.heap.size, 1, none⟩ (.slice a12 (gn + 1) c12)) := (Off.of HBa.out).trans ((HG12.out.mono fun k hk => .inr hk).trans (HW14.out.2.mono fun k hk => .inl hk))
   have hnew : ∀ k, Value.ownBlock (.slice a12 (gn + 1) c12) = some k -> Value.ownBlock (.slice oa gn oc) = some k ∨ wr.heap.size <= k := fun k hk => by
    rcases HAT.out with e | e
    ·exact .inl (e ▸ hk)
    ·rw [e] at hk; cases hk; exact .inr HBa.out.size
   have hst : ∀ g : PrV, zs_ (fun k => (Sp S (w.heap.size + 1) k ∨ k = w3.heap.size) ∨ Value.ownBlock (.slice oa gn oc) = some k) wr (fun W => Ls .u8 W g.ka g.kc g.K /\ RdR W g.ra g.R) -> zs_ (fun k => (Sp S (w.heap.size + 1) k ∨ k = w3.heap.size) ∨ Value.ownBlock (.slice a12 (gn + 1) c12) = some k) (w13.setCell ⟨w3.heap.size, 1, none⟩ (.slice a12 (gn + 1) c12)) (fun W => Ls .u8 W g.ka g.kc g.K /\ RdR W g.ra g.R) := fun g hg =>
    hg.step (hoff.mono fun k hk => hk.imp .inr id) (fun k hk => hk.elim (fun h => .inl (.inl h)) fun h => (hnew k h).imp .inr id)
   have hga : zs_ (fun k => (Sp S (w.heap.size + 1) k ∨ k = w3.heap.size) ∨ Value.ownBlock (.slice a12 (gn + 1) c12) = some k) (w13.setCell ⟨w3.heap.size, 1, none⟩ (.slice a12 (gn + 1) c12)) (fun W => Ls .u8 W gg.ka gg.kc gg.K /\ RdR W gg.ra gg.R) :=
    HGA.out.step ((Off.of (bl1 w12 _)).trans ((HG12.out.mono fun k hk => .inr hk).trans (HW14.out.2.mono fun k hk => .inl (.inr hk)))) (fun k hk => hk.elim (fun h => .inl (.inl h)) fun h => by
     rcases HAT.out with e | e
     ·exact .inl (.inr (e ▸ h))
     ·rw [e] at h; cases h; exact .inr (bl1 w12 (.cells #[.slice a2 kn2 c2, .slice a.ra a.R.length a.rc] 78)).size)
   refine ⟨k + 1, gn + 1, A ++ [a], G ++ [gg], a12, c12, by omega, by go_num, by omega, hid ⟨by rw [List.length_append, HGL.out.1]; rfl, by rw [List.length_append, HGL.out.2]; rfl⟩, hid Xt22, hid Xt12, hid (fun b hb => ?_), hid HW14.out.1, hid ?_, hid (fun b hb => ?_), hid ?_⟩
   ·rcases List.mem_append.1 hb with hb | hb
    ·exact HAL.out b hb
    ·rw [List.mem_singleton] at hb; subst hb; exact HAM.out
   ·have h1 := zn_ HO12.out HW14.out.2 (fun g hg e => by
     obtain ⟨_, _, cu, hc⟩ := zb_ HO12.out hg
     exact zp_ hc HB12.out Xt4 e)
    have h2 : zi_ (G ++ [gg]) = zi_ G ++ [.slice a2 kn2 c2, .slice a.ra a.R.length a.rc] := by
     rw [zx_]
     show _ ++ [Value.slice gg.ka gg.K.length gg.kc, Value.slice gg.ra gg.R.length gg.rc] = _
     rw [HGG.out.2.1, HGG.out.2.2.1, HGG.out.2.2.2.1, HGG.out.2.2.2.2.1, HGG.out.2.2.2.2.2.1, HGG.out.2.2.2.2.2.2]
    rw [h2]; exact h1
   ·rcases List.mem_append.1 hb with hb | hb
    ·exact hst b (HGS.out b hb)
    ·rw [List.mem_singleton] at hb; subst hb; exact hga
   ·exact ⟨hoff.os.trans HOF.out.os, hoff.tape.trans HOF.out.tape, hoff.output.trans HOF.out.output, Nat.le_trans HOF.out.size hoff.size, fun b hb hn => (hoff.block b (Nat.lt_of_lt_of_le hb HOF.out.size) fun h => h.elim hn fun h => by have := (zb_ HOW.out h).1; omega).trans (HOF.out.block b hb hn)⟩
  case measure => simp [intOf]; omega) : p := h
theorem Xb1 {p : Prop} (h : p := by
  go_wp2_with (first | (go_at_call 56; refine (zh_ _ _ _ _).mono ?_; rintro r w9 ⟨rfl, rfl⟩; rw [HMK.out]) | (go_at_call 57; refine HRM.out.mono ?_; rintro r w9 ⟨rfl, rfl⟩))
  go_ret
  exact ⟨zc_ Xt1, za_ HB0.out HBW.out⟩) : p := h
theorem Xb2 {p : Prop} (h : p := by
  obtain ⟨w10, hw10⟩ := gty (w9.alloc (.cells #[.slice a.ka akn a.kc, .slice a.ra a.R.length a.rc] 78))
  have HB10 := hid (by rw [hw10]; exact bl1 _ _ : Below w9.heap.size w9 w10)
  have HX10 := hid (by rw [hw10]; exact zg_.new _ _ _ : zg_ w10 w9.heap.size #[.slice a.ka akn a.kc, .slice a.ra a.R.length a.rc] 78)
  have HB90 := hid (HB9.out.trans (HB10.out.mono HB9.out.size))
  have HELB2 := HELB.out
  have p0 := HPA.out w9 HB9.out
  have p1 := HPB.out w9 HB9.out
  go_upto_region 30 with (fail)
  rw [← hw10]
  clear hw10 p0 p1
  obtain ⟨o0, o5, _, s1, s2, s3⟩ := HXL.out w10 (HOF.out.then HB90.out)
  have HXz := HX10
  have HBz := HB90
  have HGA := hid (show zs_ (fun k => (Sp S (w.heap.size + 1) k ∨ k = w3.heap.size) ∨ Value.ownBlock (.slice oa gn oc) = some k) w10 (fun W => Ls .u8 W a.ka a.kc a.K /\ RdR W a.ra a.R) from ((HLS.out.step (Off.of (Below.refl _ _)) (fun k hk => hk.imp id fun h => (zb_ HOW.out h).1)).off (((HOF.out.then HB90.out)).mono fun k hk => .inl (.inr hk))).mono fun W hW => by
   obtain ⟨_, _, _, _, _, l, r⟩ := hW k a HA1.out
   exact ⟨l, r⟩)
  obtain ⟨gg, hgg⟩ : ∃ g : PrV, g = a := ⟨_, rfl⟩
  rw [← hgg] at HGA
  have HGG := hid (show prC gg = prC a /\ gg.ka = a.ka /\ gg.K.length = akn /\ gg.kc = a.kc /\ gg.ra = a.ra /\ gg.R = a.R /\ gg.rc = a.rc by rw [hgg]; exact ⟨rfl, rfl, HAK.out, rfl, rfl, rfl, rfl⟩)
  clear hgg
  have g1 := (HBX.out.below HBz.out).cell 1
  have x0 := HXz.out.cell 0
  have x1 := HXz.out.cell 1
  simp only [gtA, gtB, gtC] at g1 x0 x1
  have HOz := hid (ze_ (ze_ HOW.out HBz.out) (bl1 w10 (.cells #[.slice a.ka akn a.kc, .slice a.ra a.R.length a.rc] 78)))
  have HBa := hid (show Below wr.heap.size wr (w10.alloc (.cells #[.slice a.ka akn a.kc, .slice a.ra a.R.length a.rc] 78)) from HBz.out.trans ((bl1 w10 _).mono HBz.out.size))
  have HSz := hid (show wL.heap.size <= (w10.alloc (.cells #[.slice a.ka akn a.kc, .slice a.ra a.R.length a.rc] 78)).heap.size from Nat.le_trans HOF.out.size HBa.out.size)
  go_wp2_with (at_builtin; refine zw_ xh_ rfl (.tmp 153) (.tmp 155) rfl wL.heap.size (.slice oa gn oc) gn (zi_ G) rfl HOz.out ⟨w10.heap.size, 0, none⟩ 1 1 [.slice a.ka akn a.kc, .slice a.ra a.R.length a.rc] rfl rfl (zy_ w10 _ _ _ rfl) Xt11 Xt0 HSz.out ?_; intro v12 w13 hown12 hgrow12 hat12; obtain ⟨a12, c12, hv12⟩ := zd_ hown12; subst hv12; have HO12 := hid hown12; have HG12 := hid (Off.of_row hgrow12); have HAT := hid hat12; have hb12 := HG12.out.box (HBX.out.below HBa.out) (fun e => by obtain ⟨_, _, cu, hc⟩ := zb_ HOz.out e; exact zp_ hc (HBX.out.below HBa.out) Xt4 rfl); have HB12 := hid hb12; have y1 := hb12.cell 1; have z1 := hb12.frozen 1; simp only [gtA, gtB, gtC] at y1; clear hown12 hgrow12 hat12 hb12)
  have HW14 := hid (And.intro (heap_setCell_same w13 w3.heap.size 1 _ 81 (.slice a12 (gn + 1) c12) HB12.out) (Off.set (S := fun k => k = w3.heap.size) (Off.refl _ w13) ⟨w3.heap.size, 1, none⟩ rfl (.slice a12 (gn + 1) c12)))
  clear g1 x0 x1 y1 z1
  go_roundw
  case rel =>
   have hoff : Off (fun k => k = w3.heap.size ∨ Value.ownBlock (.slice oa gn oc) = some k) wr (w13.setCell ⟨w3.heap.size, 1, none⟩ (.slice a12 (gn + 1) c12)) := (Off.of HBa.out).trans ((HG12.out.mono fun k hk => .inr hk).trans (HW14.out.2.mono fun k hk => .inl hk))
   have hnew : ∀ k, Value.ownBlock (.slice a12 (gn + 1) c12) = some k -> Value.ownBlock (.slice oa gn oc) = some k ∨ wr.heap.size <= k := fun k hk => by
    rcases HAT.out with e | e
    ·exact .inl (e ▸ hk)
    ·rw [e] at hk; cases hk; exact .inr HBa.out.size
   have hst : ∀ g : PrV, zs_ (fun k => (Sp S (w.heap.size + 1) k ∨ k = w3.heap.size) ∨ Value.ownBlock (.slice oa gn oc) = some k) wr (fun W => Ls .u8 W g.ka g.kc g.K /\ RdR W g.ra g.R) -> zs_ (fun k => (Sp S (w.heap.size + 1) k ∨ k = w3.heap.size) ∨ Value.ownBlock (.slice a12 (gn + 1) c12) = some k) (w13.setCell ⟨w3.heap.size, 1, none⟩ (.slice a12 (gn + 1) c12)) (fun W => Ls .u8 W g.ka g.kc g.K /\ RdR W g.ra g.R) := fun g hg =>
    hg.step (hoff.mono fun k hk => hk.imp .inr id) (fun k hk => hk.elim (fun h => .inl (.inl h)) fun h => (hnew k h).imp .inr id)
   have hga : zs_ (fun k => (Sp S (w.heap.size + 1) k ∨ k = w3.heap.size) ∨ Value.ownBlock (.slice a12 (gn + 1) c12) = some k) (w13.setCell ⟨w3.heap.size, 1, none⟩ (.slice a12 (gn + 1) c12)) (fun W => Ls .u8 W gg.ka gg.kc gg.K /\ RdR W gg.ra gg.R) :=
    HGA.out.step ((Off.of (bl1 w10 _)).trans ((HG12.out.mono fun k hk => .inr hk).trans (HW14.out.2.mono fun k hk => .inl (.inr hk)))) (fun k hk => hk.elim (fun h => .inl (.inl h)) fun h => by
     rcases HAT.out with e | e
     ·exact .inl (.inr (e ▸ h))
     ·rw [e] at h; cases h; exact .inr (bl1 w10 (.cells #[.slice a.ka akn a.kc, .slice a.ra a.R.length a.rc] 78)).size)
   refine ⟨k + 1, gn + 1, A ++ [a], G ++ [gg], a12, c12, by omega, by go_num, by omega, hid ⟨by rw [List.length_append, HGL.out.1]; rfl, by rw [List.length_append, HGL.out.2]; rfl⟩, hid Xt22, hid Xt12, hid (fun b hb => ?_), hid HW14.out.1, hid ?_, hid (fun b hb => ?_), hid ?_⟩
   ·rcases List.mem_append.1 hb with hb | hb
    ·exact HAL.out b hb
    ·rw [List.mem_singleton] at hb; subst hb; exact HAM.out
   ·have h1 := zn_ HO12.out HW14.out.2 (fun g hg e => by
     obtain ⟨_, _, cu, hc⟩ := zb_ HO12.out hg
     exact zp_ hc HB12.out Xt4 e)
    have h2 : zi_ (G ++ [gg]) = zi_ G ++ [.slice a.ka akn a.kc, .slice a.ra a.R.length a.rc] := by
     rw [zx_]
     show _ ++ [Value.slice gg.ka gg.K.length gg.kc, Value.slice gg.ra gg.R.length gg.rc] = _
     rw [HGG.out.2.1, HGG.out.2.2.1, HGG.out.2.2.2.1, HGG.out.2.2.2.2.1, HGG.out.2.2.2.2.2.1, HGG.out.2.2.2.2.2.2]
    rw [h2]; exact h1
   ·rcases List.mem_append.1 hb with hb | hb
    ·exact hst b (HGS.out b hb)
    ·rw [List.mem_singleton] at hb; subst hb; exact hga
   ·exact ⟨hoff.os.trans HOF.out.os, hoff.tape.trans HOF.out.tape, hoff.output.trans HOF.out.output, Nat.le_trans HOF.out.size hoff.size, fun b hb hn => (hoff.block b (Nat.lt_of_lt_of_le hb HOF.out.size) fun h => h.elim hn fun h => by have := (zb_ HOW.out h).1; omega).trans (HOF.out.block b hb hn)⟩
  case measure => simp [intOf]; omega) : p := h
theorem Xb3 {p : Prop} (h : p := by
  have hK20 : 16 * k <= 200000 := by omega
  have HN4 := hid hK20
  have HWS := hid (show zs_ (yq_ mc) wr (fun W => WrR W wa WL) from fun W' o => HWA.out W' (Off.below HBW.out o HBW.out.size (fun q ⟨z, hz, e⟩ => by rw [e]; exact HT.out.ge _ (HT.out.hm.hS z hz))))
  have HAP := hid (Qx_ HT.out HN4.out wa wn wc WL HWN.out.1 Xt37 HWS.out HWB.out)
  go_wp2_with fail
  refine HAP.out.mono ?_; clear HAP; rintro r w5 ⟨m5, rfl, q1, q2, q3, q4, q5, q6⟩
  have HB5 := hid (Off.below HBW.out q5 HBW.out.size (fun q ⟨z, hz, e⟩ => by rw [e]; exact HT.out.ge _ (HT.out.hm.hS z hz)))
  have HA2 := hid (jn_ HT.out HN4.out wa wn wc WL HWN.out.1 Xt37 HWB.out q1 q2 q3 q4 q6 q5.size (fun W' o => HWA.out W' (Off.below HB5.out o HB5.out.size (fun q hq => HT.out.ge q hq))))
  have HSS5 := hid (fun q (hq : S q) => HT.out.ge q hq)
  have HFB := hid (HT.out.ge _ HT.out.hf.hb)
  obtain ⟨E, hE⟩ : ∃ e : Int, (if WL.all (wrB mc.tabs.length) = true then (0 : Int) else 2) = e := ⟨_, rfl⟩
  rw [hE] at HA2 ⊢
  have eE : (E != E) = false := by simp
  clear q1 q2 q3 q4 q5 q6 hE hK20
  go_wp2_with fail
  refine (zI_ E _).mono ?_; rintro r w0 ⟨rfl, hw0⟩; subst hw0
  go_wp2_with fail
  refine HA2.out.mono ?_; clear HA2; rintro r w6 ⟨rfl, ⟨g, hg⟩, ho6⟩
  have HG := hid hg
  have HB6 := hid (Off.below HB5.out ho6 HB5.out.size (fun q e => by rw [e]; exact HFB.out))
  clear hg ho6
  go_wp2_with fail
  refine (jm_ HG.out (by have := HN4.out; omega) 1).mono ?_; rintro r w7 ⟨rfl, hb7⟩
  have HG7 := hid (HG.out.below hb7)
  have HB7 := hid (za_ HB6.out hb7)
  clear hb7
  obtain ⟨fn, hfn⟩ := gtx (g.Ts.length)
  have hfn4 : fn <= 4 := by have := HG7.out.hf.few; omega
  have HM7 := hid (fun X (b : Below w7.heap.size w7 X) => (show X.cell? ⟨p0, 7, none⟩ = some (.slice (some ⟨g.b1, 0, none⟩) fn g.tc) from by have h := (HG7.out.below b).hf.c; rw [HG7.out.fp, hfn] at h; exact h))
  have hfi : (fn : Int) <= 4 := by omega
  clear hfn
  go_wp2_with fail
  go_loopw [13] (fun i wr => ∃ v : Int, -1 <= v /\ v <= fn + 1 /\ i = .int .i64 v /\ Hid (Below w7.heap.size w7 wr)) (fun i _ => ((fn : Int) + 1 - intOf i).toNat)
  case atStart => exact ⟨-1, by omega, by omega, rfl, hid (Below.refl _ _)⟩
  case round =>
   obtain ⟨v, hv1, hv2, rfl, HB⟩ := hrel
   have c7 := HM7.out wr HB.out
   have w8 : IntKind.i64.wrap (v + 1) = v + 1 := by rw [IntKind.wrap_i64] <;> omega
   by_cases hle : v <= (fn : Int)
   ·have HKL := hid (fun X (b : Below w7.heap.size w7 X) => HKY.out.1.below (za_ HB7.out b))
    have K1 := hid (fun X (b : Below w7.heap.size w7 X) => (by
     have key := mget_any (HG7.out.below b).hm v ka kn kc KK HKY.out.2.1 (by have := HKN.out; omega) HKY.out.2.2 (HKL.out X b)
     rw [(HG7.out.below b).ms.p, ← (HG7.out.below b).P] at key
     exact key : Calls prog 18 #[.pointer (some ⟨m.p, 0, none⟩), .int .i64 v, .slice ka kn kc] X (AnyG X (getO g.P v KK))))
    have K2 := hid (fun X (b : Below w7.heap.size w7 X) => (by
     have key := rget_any (HG7.out.below b).hf v ka kn kc KK HKY.out.2.1 HKY.out.2.2 (HKL.out X b) (fun z hz => by have := HG7.out.lf z hz; have := HN4.out; omega)
     rw [(HG7.out.below b).fp] at key
     exact key : Calls prog 19 #[.pointer (some ⟨p0, 0, none⟩), .int .i64 v, .slice ka kn kc] X (AnyG X (getO g.P v KK))))
    obtain ⟨o, ho⟩ := gtx (getO g.P v KK)
    rw [ho] at K1 K2
    obtain ⟨ob, hob⟩ := gtx (o.isSome)
    have HOB := hid hob
    have eob : (ob != ob) = false := by simp
    clear ho hob
    go_wp2_with fail
    clear c7
    refine (K1.out _ HB.out).mono ?_; rintro r w3 ⟨⟨a1, c1, R1, rfl, r1, r2, r3, r4⟩, hb3⟩
    obtain ⟨n1, hn1⟩ := gtx (R1.length)
    rw [hn1, HOB.out]
    have HB3 := hid (za_ HB.out hb3)
    have H1 := hid (And.intro r1 (And.intro r2 (And.intro r3 (And.intro r4 hn1))))
    clear r1 r2 r3 r4 hb3 hn1
    go_wp2_with fail
    refine (K2.out _ HB3.out).mono ?_; rintro r w4 ⟨⟨a2, c2, R2, rfl, r1, r2, r3, r4⟩, hb4⟩
    obtain ⟨n2, hn2⟩ := gtx (R2.length)
    rw [hn2, HOB.out]
    have HB4 := hid (za_ HB3.out hb4)
    have HSM := hid (by
     have key := y8_ a1 a2 R1 R2 n1 n2 c1 c2 H1.out.2.2.2.2 hn2 (by have := H1.out.2.2.1; have := H1.out.2.2.2.2; omega) H1.out.2.2.2.1 r4 w4 (H1.out.1.below hb4) r1
     rw [show eqB R1 R2 = true from decide_eq_true (by rw [H1.out.2.1, r2])] at key
     exact key : Calls prog 20 #[.slice a1 n1 c1, .slice a2 n2 c2] w4 fun r w' => r = .returned (.bool true) /\ Below w4.heap.size w4 w')
    clear r1 r2 r3 r4 hb4 hn2
    go_wp2_with fail
    refine HSM.out.mono ?_; rintro r w9 ⟨rfl, hb9⟩
    have HB9 := hid (za_ HB4.out hb9)
    clear hb9
    go_wp2_with fail
    go_roundw
    case rel => exact ⟨v + 1, by omega, by omega, by go_num, HB9⟩
    case measure => simp [intOf]; omega
   ·have HBE := hid (za_ HB7.out HB.out)
    go_wp2_with fail
    refine (yf_ _).mono ?_; rintro r w8 ⟨rfl, hb8⟩
    have HB8 := hid (za_ HBE.out hb8)
    clear hb8
    go_wp2_with fail
    go_ret
    exact ⟨rfl, HB8.out⟩) : p := h
theorem Xb4 {p : Prop} (h : p := by
  have HN := hid (hN W hW)
  have HW := hid (And.intro hW hW2)
  have HRO := hid (And.intro hro hrb)
  have HJ := hid hJ
  have H0 := hid h0
  clear hB hN hW hW2 hro hrb hJx h0 hJ
  show CallsIn Fence.wide mm prog 106 #[.func (.yield lp) #[] #[], .pointer (some ⟨Bs, 0, none⟩)] W _
  refine callsIn_of_wp func106 rfl trivial ?_ rfl
  simp only [ntmps106, List.size_toArray, List.length_cons, List.length_nil, Nat.reduceAdd, Nat.reduceSub, Array.replicate_succ, Array.replicate_zero, List.push_toArray, List.append_toArray, List.nil_append, List.cons_append]
  have cb := hb.cell
  gi_wp2_with fail
  clear cb hb
  refine ⟨trivial, ?_⟩
  refine (callsIn_wide.2 HN.out).mono ?_
  rintro e W2 ⟨pa, pc, P, rfl, hb2, hPT, hok, hlc, hnone, hlen, hst⟩
  obtain ⟨n, hn⟩ := gtx (P.length)
  rw [hn] at hlen ⊢
  have HPT := hid hPT
  have HOK := hid hok
  have HPL := hid hn
  have HTL := hid (show T.length = n by rw [← hPT, List.length_map, hn])
  have HG := hid (show Hg (w.heap.size + 2) ro W2 (fun W' => zo_ W' pa P) from ⟨W.heap.size, W2.heap.size, HW.out.2, hb2.size, Nat.le_refl _, fun k hk => (by rw [HRO.out.1 W2 (za_ HW.out.1 hb2)] at hk; cases hk), fun W' o => hst (fun k => k < W.heap.size) (fun k hk => hk) W' ⟨o.os, o.tape, o.output, o.size, fun k hk hn => o.block k hk (fun e => e.elim hn Xt73)⟩⟩)
  have HJ2 := hid (HJ.out 0 W W2 H0.out hb2)
  have HS2 := hid (Nat.le_trans HW.out.1.size hb2.size)
  have hni : (n : Int) <= 2000000 := by omega
  clear hPT hok hn hb2 hst hlc hnone HN H0
  gi_wp2_with fail
  gi_loopw [8] (fun i wr => ∃ k : Nat, k <= n /\ i = .int .i64 (k : Int) /\ Hid (Hg (w.heap.size + 2) ro wr (fun W' => zo_ W' pa P)) /\ Hid (J k wr) /\ Hid (w.heap.size <= wr.heap.size))
   (fun i _ => n - (intOf i).toNat)
  case atStart =>
   exact ⟨0, by omega, rfl, HG, HJ2, HS2⟩
  case round =>
   clear HG HJ2 HS2
   obtain ⟨k, hk, rfl, HG, HJK, HSZ⟩ := hrel
   by_cases hlt : k < n
   ·have d1 : (k : Int) < (n : Int) := by omega
    obtain ⟨y, hy⟩ : ∃ y, P[k]? = some y := ⟨_, List.getElem?_eq_getElem (by rw [HPL.out]; exact hlt)⟩
    obtain ⟨b1, o1, ea, p0, p1, _, _⟩ := HG.out.now k y hy
    have HPY := hid (show T[k]? = some (prC y) /\ okp y from ⟨by rw [← HPT.out, List.getElem?_map, hy]; rfl, HOK.out y (List.mem_of_getElem? hy)⟩)
    have HGY := hid (HG.out.mono (R := QP y) Xt52)
    have HKL := hid (show k < T.length by rw [HTL.out]; omega)
    clear hy
    obtain ⟨w2, hw2⟩ := gty (wr.alloc (.cells #[.slice y.ka y.K.length y.kc, .slice y.ra y.R.length y.rc] 78))
    have hbl : Below wr.heap.size wr w2 := by rw [hw2]; exact bl1 wr _
    have HK2 := hid (KpO.below (b := w.heap.size + 2) hbl (HRO.out.2 wr w2 HSZ.out hbl))
    have hJ2 : J k w2 := HJ.out k wr w2 HJK.out hbl
    have HS3 := hid (Nat.le_trans HSZ.out hbl.size)
    obtain ⟨fn, tmps, assign, body, hy, hR⟩ := hY k y w2 HKL.out hJ2 ⟨HPY.out.1, HPY.out.2, HGY.out.kp HK2.out⟩
    rw [hw2] at hy
    dsimp only [encP, pcl] at hy
    have hww := hw2
    clear hw2 hbl
    subst ea
    gi_wp2
    rw [← hww]
    refine hR.mono ?_
    rintro e W3 (⟨rfl, hJ3, hk3⟩ | ⟨rfl, hJx3⟩)
    ·have HK3 := hid (HK2.out.trans hk3)
     have HJ3 := hid hJ3
     have HS4 := hid (show w.heap.size <= W3.heap.size from Nat.le_trans HS3.out hk3.size)
     clear hk3 hJ3
     gi_wp2_with fail
     go_roundw
     case rel => exact ⟨k + 1, by omega, by go_num, hid (HG.out.kp HK3.out), HJ3, HS4⟩
     case measure => simp [intOf]; omega
    ·have HJX := hid hJx3
     clear hJx3
     gi_wp2
     refine bodyPost_ret (results_none rfl _ _ _) rfl ?_
     exact ⟨⟨_, rfl⟩, .inr ⟨k, HKL.out, HJX.out⟩⟩
   ·have d1 : ¬ (k : Int) < (n : Int) := by omega
    have HJE := hid (show J T.length wr by rw [HTL.out, show n = k by omega]; exact HJK.out)
    gi_wp2_with fail
    go_end0
    exact ⟨⟨_, rfl⟩, .inl HJE.out⟩) : p := h
theorem Xb5 {p : Prop} (h : p := by
  refine rgw w4 (Below.refl _ _).drew fun hH => ?_
  refine tkq3 0 1 2 ?_
  refine tkr 3 rfl Xf37 ?_
  refine tkr 4 rfl Xf39 ?_
  refine wpAnyH_ready (rs := [5, 9]) Xt3 Xt5 ?_
  refine tka (fun K hK => ?_) ?_
  ·go_simp
   have key := xm_ f.j o HO.out.rn w4.drew (HJB.out w4.drew hH) (HOP.out w4.drew hH)
   rw [HK1.out] at key
   refine key.mono ?_; clear key; rintro r w5 ⟨⟨fa, fc, ta, tc, rfl, hlf, hlu⟩, hb5⟩
   have HLF := hid (And.intro hlf hlu)
   have HB5 := hid (za_ hH hb5)
   have HB25 := hid hb5
   clear hlf hlu hb5
   go_wp2_with fail
   refine hK.out _ _ HB5.out fun hH => ?_
   refine stP ?_
   refine tkq3 6 7 8 ?_
   refine tk1 9 rfl fun K hK => ?_
   go_simp
   have HBA := hid (bl1 w5 (.cells #[.int .i64 0, .slice none 0 0, .slice none 0 0, .bool false] 169))
   have HXA := hid (zg_.new w5 #[.int .i64 0, .slice none 0 0, .slice none 0 0, .bool false] 169)
   have HB6 := hid (za_ HB5.out HBA.out)
   refine hK.out _ _ HB6.out fun hH => ?_
   refine stP ?_
   refine tk1 10 rfl fun K hK => ?_
   go_simp
   have h0 := set4a HB5.out (Nat.le_refl _) (zD_ f.j o).1 fa (zD_ f.j o).2.1 fc ta (zD_ f.j o).2.2.1 tc (zD_ f.j o).2.2.2.1 HLF.out.1 HLF.out.2
   have HQQ := hid h0
   refine hK.out _ _ h0.1 (fun hHeldn => ?_)
   clear h0
   clear hK K hH; have hH := hHeldn; clear hHeldn
   refine stP ?_
   refine tkq 11 ?_
   refine adn ?_
   obtain ⟨q1, q2, q3, q4⟩ := HQQ.out
   go_wp2_with fail
   go_meet
   exact ⟨_, fa, fc, ta, tc, rfl, hid q1, hid q2, hid q3, hid q4⟩
  refine tka (fun K hK => ?_) AllReadyH.nil
  go_simp
  have HXA := hid (show zg_ (w4.drew.alloc (.cells #[.int .i64 0, .slice none 0 0, .slice none 0 0, .bool false] 169)) w4.heap.size #[.int .i64 0, .slice none 0 0, .slice none 0 0, .bool false] 169 from zg_.new w4.drew _ _)
  have HB6 := hid (za_ hH (bl1 w4.drew (.cells #[.int .i64 0, .slice none 0 0, .slice none 0 0, .bool false] 169)))
  refine hK.out _ _ HB6.out fun hH => ?_
  refine stP ?_
  refine tk1 5 rfl fun K hK => ?_
  go_simp
  have key := xm_ f.j o HO.out.rn _ (HJB.out _ hH) (HOP.out _ hH)
  rw [HK1.out] at key
  refine key.mono ?_; clear key; rintro r w5 ⟨⟨fa, fc, ta, tc, rfl, hlf, hlu⟩, hb5⟩
  have HLF := hid (And.intro hlf hlu)
  have HB5 := hid (za_ hH hb5)
  have HB25 := hid hb5
  clear hlf hlu hb5
  go_wp2_with fail
  refine hK.out _ _ HB5.out fun hH => ?_
  refine stP ?_
  refine tkq3 6 7 8 ?_
  refine tk1 10 rfl fun K hK => ?_
  have hbx := (HXA.out.below HB25.out)
  have x0 := hbx.cell 0
  have x1 := hbx.cell 1
  have x2 := hbx.cell 2
  have x3 := hbx.cell 3
  have f0 := hbx.frozen 0
  have f1 := hbx.frozen 1
  have f2 := hbx.frozen 2
  have f3 := hbx.frozen 3
  simp only [gtA, gtB, gtC] at x0 x1 x2 x3
  go_simp
  have h0 := set4b HB5.out (HXA.out.below HB25.out) (Nat.le_refl w4.heap.size) (zD_ f.j o).1 fa (zD_ f.j o).2.1 fc ta (zD_ f.j o).2.2.1 tc (zD_ f.j o).2.2.2.1 HLF.out.1 HLF.out.2
  have HQQ := hid h0
  refine hK.out _ _ h0.1 (fun hHeldn => ?_)
  clear h0 hbx x0 x1 x2 x3 f0 f1 f2 f3
  clear hK K hH; have hH := hHeldn; clear hHeldn
  refine stP ?_
  refine tkq 11 ?_
  refine adn ?_
  obtain ⟨q1, q2, q3, q4⟩ := HQQ.out
  go_wp2_with fail
  go_meet
  exact ⟨_, fa, fc, ta, tc, rfl, hid q1, hid q2, hid q3, hid q4⟩) : p := h
theorem Xb6 {p : Prop} (h : p := by
  refine rgw w2 (Below.refl _ _).drew fun hH => ?_
  refine tkq3 0 1 2 ?_
  refine tkr 3 rfl Xf2 ?_
  refine tkq2 4 5 ?_
  refine tkr 6 rfl Xf26 ?_
  refine tkr 7 rfl Xf32 ?_
  refine wpAnyH_ready (rs := [8, 12]) Xt3 Xt5 ?_
  refine tka (fun K hK => ?_) ?_
  ·go_simp
   refine (xX_ m.j o HRN.out _ (HMD.out.below hH).st.now.job (HOP.out.below hH)).mono ?_; rintro r w5 ⟨⟨fa, fc, ta, tc, rfl, hlf, hlu⟩, hb5⟩
   have HLF := hid (And.intro hlf hlu)
   have HB5 := hid (za_ hH hb5)
   have HB25 := hid hb5
   clear hlf hlu hb5
   go_wp2_with fail
   refine hK.out _ _ HB5.out fun hH => ?_
   refine stP ?_
   refine tkq3 9 10 11 ?_
   refine tk1 12 rfl fun K hK => ?_
   go_simp
   have HBA := hid (bl1 w5 (.cells #[.int .i64 0, .slice none 0 0, .slice none 0 0, .bool false] 169))
   have HXA := hid (zg_.new w5 #[.int .i64 0, .slice none 0 0, .slice none 0 0, .bool false] 169)
   have HB6 := hid (za_ HB5.out HBA.out)
   refine hK.out _ _ HB6.out fun hH => ?_
   refine stP ?_
   refine tk1 13 rfl fun K hK => ?_
   go_simp
   have h0 := set4a HB5.out (Nat.le_refl _) (zD_ m.j o).1 fa (zD_ m.j o).2.1 fc ta (zD_ m.j o).2.2.1 tc (zD_ m.j o).2.2.2.1 HLF.out.1 HLF.out.2
   have HQ := hid h0
   refine hK.out _ _ h0.1 (fun hHeldn => ?_)
   clear h0
   clear hK K hH; have hH := hHeldn; clear hHeldn
   refine stP ?_
   refine tkq 14 ?_
   refine adn ?_
   obtain ⟨q1, q2, q3, q4⟩ := HQ.out
   go_wp2_with fail
   go_meet
   exact ⟨_, fa, fc, ta, tc, rfl, hid q1, hid q2, hid q3, hid q4⟩
  refine tka (fun K hK => ?_) AllReadyH.nil
  go_simp
  have HXA := hid (show zg_ (w2.drew.alloc (.cells #[.int .i64 0, .slice none 0 0, .slice none 0 0, .bool false] 169)) w2.heap.size #[.int .i64 0, .slice none 0 0, .slice none 0 0, .bool false] 169 from zg_.new w2.drew _ _)
  have HB6 := hid (za_ hH (bl1 w2.drew (.cells #[.int .i64 0, .slice none 0 0, .slice none 0 0, .bool false] 169)))
  refine hK.out _ _ HB6.out fun hH => ?_
  refine stP ?_
  refine tk1 8 rfl fun K hK => ?_
  go_simp
  refine (xX_ m.j o HRN.out _ (HMD.out.below hH).st.now.job (HOP.out.below hH)).mono ?_; rintro r w5 ⟨⟨fa, fc, ta, tc, rfl, hlf, hlu⟩, hb5⟩
  have HLF := hid (And.intro hlf hlu)
  have HB5 := hid (za_ hH hb5)
  have HB25 := hid hb5
  clear hlf hlu hb5
  go_wp2_with fail
  refine hK.out _ _ HB5.out fun hH => ?_
  refine stP ?_
  refine tkq3 9 10 11 ?_
  refine tk1 13 rfl fun K hK => ?_
  have hbx := (HXA.out.below HB25.out)
  have x0 := hbx.cell 0
  have x1 := hbx.cell 1
  have x2 := hbx.cell 2
  have x3 := hbx.cell 3
  have f0 := hbx.frozen 0
  have f1 := hbx.frozen 1
  have f2 := hbx.frozen 2
  have f3 := hbx.frozen 3
  simp only [gtA, gtB, gtC] at x0 x1 x2 x3
  go_simp
  have h0 := set4b HB5.out (HXA.out.below HB25.out) (Nat.le_refl w2.heap.size) (zD_ m.j o).1 fa (zD_ m.j o).2.1 fc ta (zD_ m.j o).2.2.1 tc (zD_ m.j o).2.2.2.1 HLF.out.1 HLF.out.2
  have HQ := hid h0
  refine hK.out _ _ h0.1 (fun hHeldn => ?_)
  clear h0 hbx x0 x1 x2 x3 f0 f1 f2 f3
  clear hK K hH; have hH := hHeldn; clear hHeldn
  refine stP ?_
  refine tkq 14 ?_
  refine adn ?_
  obtain ⟨q1, q2, q3, q4⟩ := HQ.out
  go_wp2_with fail
  go_meet
  exact ⟨_, fa, fc, ta, tc, rfl, hid q1, hid q2, hid q3, hid q4⟩) : p := h
theorem Xb7 {p : Prop} (h : p := by
  clear hcl
  intro v11 w11 hown11 hgrow11 _
  obtain ⟨a11, c11, hv11⟩ := zd_ hown11
  subst hv11
  have hb12 := hH.grown hgrow11 hH.size (fun j hj => (HO3.out.lt j hj).1)
  have HO11 := hid hown11
  clear hown11 hgrow11
  refine hK.out _ _ hb12 (fun hHeldn => ?_)
  clear hb12
  clear hK K hH; have hH := hHeldn; clear hHeldn
  refine stP ?_
  refine tk1 15 rfl fun K hK => ?_
  refine z4_ rfl _ _ rfl w9.heap.size (.slice a11 (a + 1) c11) (a + 1) _ rfl HO11.out al (uc - a) (n - a) (V.drop a) Xt62 rfl (HLW.out _ (HWC.out _ hH)) HLN.out Xt0 hH.size ?_
  intro v15 w15 hown15 hgrow15
  obtain ⟨a15, c15, hv15⟩ := zd_ hown15
  subst hv15
  have hb15 := hH.grown hgrow15 hH.size (fun j hj => (HO11.out.lt j hj).1)
  have HO15 := hid hown15
  clear hown15 hgrow15
  refine hK.out _ _ hb15 (fun hHeldn => ?_)
  clear hb15
  clear hK K hH; have hH := hHeldn; clear hHeldn
  refine stP ?_
  refine tkq 16 ?_
  refine adn ?_
  have HBF := hid hH
  clear hH
  have HOWW := hid (show _ from (by
   have h9 := HO15.out
   rw [show a + 1 + (n - a) = n + 1 by omega] at h9
   have e9 : cellsOf wcl (V.take a ++ (⟨t, o.ka, o.kc, o.K, ⟨ra, rc, R8⟩⟩ : WtV) :: V.drop a) = cellsOf wcl (V.take a) ++ [.int .i64 (t : Int), .slice o.ka o.kn o.kc, .slice ra rn rc] ++ cellsOf wcl (V.drop a) := by
    rw [zr_]
    show _ ++ ([Value.int .i64 (t : Int), .slice o.ka o.K.length o.kc, .slice ra R8.length rc] ++ cellsOf wcl (V.drop a)) = _
    rw [HOC.out.kl, HR8.out.1, List.append_assoc]
   rw [e9]
   exact yH_ h9 HZ79.out : w15.ownsRow w7.heap.size 84 3 (.slice a15 (n + 1) c15) (n + 1) (cellsOf wcl (V.take a ++ (⟨t, o.ka, o.kc, o.K, ⟨ra, rc, R8⟩⟩ : WtV) :: V.drop a))))
  rw [show a + 1 + (n - a) = n + 1 by omega]
  have HB9F := hid (HBO9.out.trans (HBF.out.mono HBO9.out.size))
  go_wp2_with fail
  go_roundw
  case rel =>
   have hlen : (V.take a ++ (⟨t, o.ka, o.kc, o.K, ⟨ra, rc, R8⟩⟩ : WtV) :: V.drop a).length = n + 1 := by
    rw [List.length_append, List.length_cons, List.length_take, List.length_drop, HN.out]; omega
   refine ⟨k + 1, V.take a ++ ⟨t, o.ka, o.kc, o.K, ⟨ra, rc, R8⟩⟩ :: V.drop a, by omega, by go_num, by rw [hlen]; omega, hid ?_, hid (by rw [hlen]; exact HOWW.out), hid (fun z hz => ?_), hid (HBW.out.trans (HB9F.out.mono HBW.out.size))⟩
   ·rw [HDS.out, ← HVM.out]
    unfold insW
    rw [if_neg (by rw [← HHH.out]; simp), ← HA.out, List.map_append, List.map_cons, List.map_take, List.map_drop, HL.out]
    show _ ++ (t, o.K, R8.map P1.bs) :: _ = _
    rw [HR8.out.2.1]
   ·have hz2 : z ∈ V ∨ z = (⟨t, o.ka, o.kc, o.K, ⟨ra, rc, R8⟩⟩ : WtV) := by
     rcases List.mem_append.1 hz with h | h
     ·exact .inl (List.mem_of_mem_take h)
     ·rcases List.mem_cons.1 h with h | h
      ·exact .inr h
      ·exact .inl (List.mem_of_mem_drop h)
    rcases hz2 with h | rfl
    ·exact ⟨(HVS.out z h).1, (HVS.out z h).2.below HB9F.out⟩
    ·refine ⟨⟨HTT.out.2, HKO.out, HR8.out.2.2.1⟩, fun W' o' => ⟨((HCA.out.below HB9F.out).mono fun W hW => hW.ks) W' o', (HR8.out.2.2.2.below HBF.out) W' o'⟩⟩
  case measure => simp [intOf]; omega) : p := h
theorem Xb8 {p : Prop} (h : p := by
  have HBR := hid (show Below w2.heap.size w2 wr from Off.below (HB24.out.trans (HBL.out.mono HB24.out.size)) HOF.out (Nat.le_trans HB24.out.size HBL.out.size) Xt39)
  have HXR := hid (HB.out.2 wr HBR.out).2
  have q0 := HXR.out.cell 0
  have q1 := HXR.out.cell 1
  have i0 := HXR.out.frozen 0
  have i1 := HXR.out.frozen 1
  have g0 := HBX.out.cell 0
  simp only [gtA, gtB, gtC] at q0 q1 g0
  go_wp2_with fail
  clear q0 q1 i0 i1 g0 g1 o0 o5 s1 s2 s3
  have hb4 := zg_.set2 (x := .int .i64 0) (y := .slice oa gn oc) HXR.out
  have ho4 : Off (fun k => k = w.heap.size + 1) wr ((wr.setCell ⟨w.heap.size + 1, 0, none⟩ (.int .i64 0)).setCell ⟨w.heap.size + 1, 1, none⟩ (.slice oa gn oc)) :=
   Off.set (S := fun k => k = w.heap.size + 1) (Off.set (S := fun k => k = w.heap.size + 1) (Off.refl _ wr) ⟨w.heap.size + 1, 0, none⟩ rfl _) ⟨w.heap.size + 1, 1, none⟩ rfl _
  revert hb4 ho4
  generalize (wr.setCell ⟨w.heap.size + 1, 0, none⟩ (.int .i64 0)).setCell ⟨w.heap.size + 1, 1, none⟩ (.slice oa gn oc) = w4
  intro hb4 ho4
  have q0 := hb4.cell 0
  have q1 := hb4.cell 1
  have HO4 := hid ho4
  clear hb4 ho4
  first | refine bodyPost_end (v := .agg #[.int .i64 0, .slice oa gn oc]) Xt6 rfl ?_ | refine bodyPost_ret (v := .agg #[.int .i64 0, .slice oa gn oc]) Xt6 rfl ?_
  have hgl := HGL.out.1
  have hprk : ∀ g ∈ G, zH_ g.K /\ rOk (g.R.map P1.bs) := fun g hg => by
   have h1 : prC g ∈ A.map outS := by rw [← HGM.out]; exact List.mem_map.2 ⟨g, hg, rfl⟩
   obtain ⟨a, ha, e⟩ := List.mem_map.1 h1
   have h2 := HOK.out a (HAL.out a ha)
   rw [e] at h2
   exact h2
  rw [← hgl]
  refine z0_.fin HH.out.2.1 HB.out.1 (Nat.le_succ _) (RfS.rfl' f) (HM2.out.1.below HBR.out) (Off.of HBR.out) HO4.out HH.out.1.hp HH.out.1.hb (y := ⟨0, oa, oc, G⟩) ?_ ⟨by show G.length <= 1000000; omega, fun p hp => pr_ok (hprk p hp)⟩ ?_ Xt16
  ·rw [HCD.out, ← HWN.out, HFN.out]
   show ((0, G.map prC), f.P) = _
   rw [HGM.out]
  ·intro W' o'
   have how := zm_ HOW.out o' (fun b hb => Nat.lt_of_lt_of_le (HM2.out.2 b hb) (Nat.le_trans HB24.out.size HBL.out.size))
   exact ye_ (by rw [hgl]; exact how) rfl fun g hg => ((HGS.out g hg).less (fun k hk => .inl (.inl hk))) W' o') : p := h
theorem Xb9 {p : Prop} (h : p := by
  have HBR := hid (show Below w2.heap.size w2 wr from Off.below (HB24.out.trans (HBL.out.mono HB24.out.size)) HOF.out (Nat.le_trans HB24.out.size HBL.out.size) Xt39)
  have HXR := hid (HB.out.2 wr HBR.out).2
  have q0 := HXR.out.cell 0
  have q1 := HXR.out.cell 1
  have i0 := HXR.out.frozen 0
  have i1 := HXR.out.frozen 1
  have g0 := HBX.out.cell 0
  simp only [gtA, gtB, gtC] at q0 q1 g0
  go_wp2_with fail
  clear q0 q1 i0 i1 g0 g1 o0 o5 s1 s2 s3
  have hb4 := zg_.set2 (x := .int .i64 0) (y := .slice oa gn oc) HXR.out
  have ho4 : Off (fun k => k = w.heap.size + 1) wr ((wr.setCell ⟨w.heap.size + 1, 0, none⟩ (.int .i64 0)).setCell ⟨w.heap.size + 1, 1, none⟩ (.slice oa gn oc)) :=
   Off.set (S := fun k => k = w.heap.size + 1) (Off.set (S := fun k => k = w.heap.size + 1) (Off.refl _ wr) ⟨w.heap.size + 1, 0, none⟩ rfl _) ⟨w.heap.size + 1, 1, none⟩ rfl _
  revert hb4 ho4
  generalize (wr.setCell ⟨w.heap.size + 1, 0, none⟩ (.int .i64 0)).setCell ⟨w.heap.size + 1, 1, none⟩ (.slice oa gn oc) = w4
  intro hb4 ho4
  have q0 := hb4.cell 0
  have q1 := hb4.cell 1
  have HO4 := hid ho4
  clear hb4 ho4
  first | refine bodyPost_end (v := .agg #[.int .i64 0, .slice oa gn oc]) Xt6 rfl ?_ | refine bodyPost_ret (v := .agg #[.int .i64 0, .slice oa gn oc]) Xt6 rfl ?_
  have hgl := HGL.out.1
  have hprk : ∀ g ∈ G, zH_ g.K /\ rOk (g.R.map P1.bs) := fun g hg => by
   have h1 : prC g ∈ A.map prC := by rw [← HGM.out]; exact List.mem_map.2 ⟨g, hg, rfl⟩
   obtain ⟨a, ha, e⟩ := List.mem_map.1 h1
   have h2 := HOK.out a (HAL.out a ha)
   rw [e] at h2
   exact h2
  rw [← hgl]
  refine z0_.fin HH.out.2.1 HB.out.1 (Nat.le_succ _) (RfS.rfl' f) (HM2.out.1.below HBR.out) (Off.of HBR.out) HO4.out HH.out.1.hp HH.out.1.hb (y := ⟨0, oa, oc, G⟩) ?_ ⟨by show G.length <= 1000000; omega, fun p hp => pr_ok (hprk p hp)⟩ ?_ Xt16
  ·rw [HCD.out, ← HWN.out, HFN.out]
   show ((0, G.map prC), f.P) = _
   rw [HGM.out]
  ·intro W' o'
   have how := zm_ HOW.out o' (fun b hb => Nat.lt_of_lt_of_le (HM2.out.2 b hb) (Nat.le_trans HB24.out.size HBL.out.size))
   exact ye_ (by rw [hgl]; exact how) rfl fun g hg => ((HGS.out g hg).less (fun k hk => .inl (.inl hk))) W' o') : p := h
theorem Xb10 {p : Prop} (h : p := by
  rintro lp pre x a' W hl ⟨r0, hr0⟩ ⟨⟨v, bL1, own1⟩, hB1⟩ rfl hlt
  have cL := bL1.cell
  have fL := bL1.frozen
  have hw2 : w.heap.size + 1 <= W.heap.size := by have := (Array.getElem?_eq_some_iff.1 hr0).1; omega
  clear hr0
  have HPL := hid (show (ss0 ++ pre).length < 2000000 by rw [List.length_append]; have := HN.out; have := HSS.out; omega)
  clear hlt
  gi_wp2_with (gi_at_builtin; refine wpListIn_append_own _ rfl _ _ 134 rfl base 9 i0 (.string ⟨#[]⟩) 1 16 underlying134 hi hz0 hz1 hz2 rfl Xt4 _ _ _ rfl (own1.alloc _) ⟨W.heap.size, 0, none⟩ 1 1 [.string (strOfNums x)] rfl rfl Xt14 Xt45 Xt47 Xt63 Xt7 ?_)
  intro v' W1 hown' hgrow _
  have hne : some w.heap.size ≠ v.ownBlock := fun e => by
   obtain ⟨_, _, cur, hb⟩ := zb_ own1 e.symm
   exact zp_ hb (show zg_ W w.heap.size #[v] 134 from bL1) Xt4 rfl
  have bL2 : Boxed W1 w.heap.size 134 v := (bL1.alloc _).kept hgrow hne
  have ko := (KeepsOthers.alloc W (.cells #[.string (strOfNums x)] 9)).trans (yW_ (own1.alloc _) hgrow)
  have hB2 : Below base w W1 := (hB1.alloc Xt0 _).grown hgrow Xt7 (fun j hj => (own1.lt j hj).1)
  have cL2 := bL2.cell
  have fL2 := bL2.frozen
  have hl2 := bL2.lt
  have hown2 : W1.ownsRow base 9 1 v' (ss0 ++ (pre ++ [x])).length (cellsOf skv (ss0 ++ (pre ++ [x]))) := by
   have e : (ss0 ++ (pre ++ [x])).length = ss0.length + pre.length + 1 := by simp; omega
   rw [e, ← List.append_assoc, zr_]
   exact hown'
  clear cL fL bL1 hgrow own1 hown'
  obtain ⟨g, gc, rfl⟩ := zd_ hown2
  gi_wp2_with fail
  refine ⟨(ko.trans (KeepsOthers.setCell _ _ _)).from _, (ko.trans (KeepsOthers.setCell _ _ _)).walks, ⟨_, xM_ _ _ _ _ _ bL2, ?_⟩, hB2.setCell (p := ⟨w.heap.size, 0, none⟩) hbase _⟩
  have hfin := fun u => ownsRow_setCell_other (a := ⟨w.heap.size, 0, none⟩) hown2 (fun e => by
   obtain ⟨_, _, cur, hb⟩ := zb_ hown2 e
   exact zp_ hb (show zg_ W1 w.heap.size #[v] 134 from bL2) Xt4 rfl) u
  have hlen : (ss0 ++ (pre ++ [x])).length = ss0.length + (pre.length + 1) := by simp
  rw [hlen] at hfin ⊢
  exact hfin _) : p := h
theorem Xb11 {p : Prop} (h : p := by
  intro W hSw; go_simp; try (first | rfl | exact d0 | exact d1 | exact DL.out | (simp; done) | (simp; omega))) : p := h
theorem Xb12 {p : Prop} (h : p := by
  refine tkn 29 ?_
  refine tkn 30 ?_
  refine tkn 31 ?_
  refine tkn 32 ?_
  refine tkn 33 ?_
  refine tkn 34 ?_
  refine tkn 35 ?_
  refine tkn 36 ?_
  refine tkn 37 ?_
  refine tkn 38 ?_
  refine tkn 39 ?_
  refine tkn 40 ?_
  refine tkn 41 ?_
  refine tkn 42 ?_
  refine tkn 43 ?_
  refine tkn 44 ?_
  refine tkq 45 ?_
  refine adn ?_
  skip
  have HB9 := hid (HBW.out.trans ((show Below wr.heap.size wr wr.drew from hH).mono HBW.out.size))
  clear hH
  go_wp2_with fail
  go_ret
  have hv := yy_ HX.out HWB.out
  exact ⟨f, by rw [hv]; rfl, RfS.rfl' f, HH.out.below HB9.out, by rw [hv]; rfl, Off.of HB9.out, fun N h z hz => by have := h z hz; omega⟩) : p := h
theorem Xb13 {p : Prop} (h : p := by
  have HC1 := hid (show Op.bytesLess (strOfNums a.K).toList (strOfNums F).toList = true by rw [yi_ (HLB.out a HAM.out) HFB.out.1]; exact hc1)
  have HSK := hid (show (ltL a.K F || (en && !ltL a.K U)) = true by rw [hc1]; rfl)
  clear hc1
  refine rgw wr (Below.refl _ _).drew fun hH => ?_
  refine tkq4 0 1 2 3 ?_
  refine tkr 4 rfl Xf14 ?_
  refine tkr 5 rfl Xf11 ?_
  refine tkq 6 ?_
  refine tkr 7 rfl Xf9 ?_
  refine tkr 8 rfl Xf6 ?_
  refine tkp 9 (.bool true) rfl (.inl ⟨by rfl, ?_⟩) ?_
  ·intro W hSw; go_simp; try (first | exact HC1.out | rfl)
  refine tkq 10 ?_
  refine tkn 11 ?_
  refine tkn 12 ?_
  refine tkn 13 ?_
  refine tkn 14 ?_
  refine tkn 15 ?_
  refine tkn 16 ?_
  refine tkn 17 ?_
  refine tkn 18 ?_
  refine tkn 19 ?_
  refine tkn 20 ?_
  refine tkn 21 ?_
  refine tkn 22 ?_
  refine tkn 23 ?_
  refine tkn 24 ?_
  refine tkq 25 ?_
  refine adn ?_
  skip
  obtain ⟨w9, hw9⟩ := gty (wr.drew)
  try rw [← hw9] at hH ⊢
  have HB9 := hid (show Below wr.heap.size wr w9 from hH)
  clear hH hw9
  go_wp2_with fail
  go_roundw
  case rel => exact ⟨k + 1, gn, A, G, oa, oc, by omega, by go_num, by omega, HGL, hid Xt21, HGM, HAL, hid (HBX.out.below HB9.out), hid (ze_ HOW.out HB9.out), hid (fun g hg => (HGS.out g hg).below HB9.out), hid (HOF.out.then HB9.out)⟩
  case measure => simp [intOf]; omega) : p := h
theorem Xb14 {p : Prop} (h : p := by
  have hB := FB.out _ HB3.out
  have q0 := hB.cell 0
  have q1 := hB.cell 1
  have q2 := hB.cell 2
  have q3 := hB.cell 3
  simp only [gtA, gtB, gtC] at q0 q1 q2 q3
  have z0 : w3.frozen? ⟨w.heap.size + 1 + 1, 0, none⟩ = false := frozen_of_row w3 _ 0 _ 169 hB
  have z1 : w3.frozen? ⟨w.heap.size + 1 + 1, 1, none⟩ = false := frozen_of_row w3 _ 1 _ 169 hB
  have z2 : w3.frozen? ⟨w.heap.size + 1 + 1, 2, none⟩ = false := frozen_of_row w3 _ 2 _ 169 hB
  have z3 : w3.frozen? ⟨w.heap.size + 1 + 1, 3, none⟩ = false := frozen_of_row w3 _ 3 _ 169 hB
  have HS4 := hid (set4 hB (za_ HB0.out HB3.out) Xt0 Xt5 Xt5 Xt5 Xt5 (.int .i64 0) (.slice none 0 0) (.slice none 0 0) (.bool false))
  clear hB
  go_wp2_with fail
  refine bodyPost_ret (v := .tuple #[.agg #[.int .i64 0, .slice none 0 0, .slice none 0 0, .bool false], .int .i64 2]) ?_ rfl ⟨⟨none, 0, none, 0, by rw [HV.out]; rfl, by rw [HV.out]; exact Ls.nul _ _, by rw [HV.out]; exact Ls.nul _ _⟩, HS4.out.bel⟩
  have x0 := HS4.out.box.cell 0
  have x1 := HS4.out.box.cell 1
  have x2 := HS4.out.box.cell 2
  have x3 := HS4.out.box.cell 3
  simp only [gtA, gtB, gtC] at x0 x1 x2 x3
  simp [results, results105, go_sem, x0, x1, x2, x3]) : p := h
theorem Xb15 {p : Prop} (h : p := by
  go_wp2_with (at_builtin; refine zw_ xh_ rfl _ _ rfl w.heap.size (.slice va acc.length vc) acc.length (zi_ (acc.map EnV.p)) rfl (HOV5.out.alloc _) ⟨w5.heap.size, 0, none⟩ 1 1 [.slice e.p.ka e.p.K.length e.p.kc, .slice e.p.ra e.p.R.length e.p.rc] rfl rfl (zy_ w5 _ _ _ rfl) Xt11 hap Xt7 ?_; intro v8 w8 hown8 hgrow8 _; have HO8 := hid hown8; have HG8 := hid hgrow8; clear hown8 hgrow8)
  have HB8 := hid (Off.below (za_ HB6.out (bl1 w5 (.cells #[.slice e.p.ka e.p.K.length e.p.kc, .slice e.p.ra e.p.R.length e.p.rc] 78))) (Off.of_row HG8.out) (by have := HB6.out.size; simp; omega) (fun k hk => (zb_ HOV5.out hk).1))
  go_roundw
  case rel =>
   refine ⟨k + 1, acc ++ [e], by omega, by go_num, HWN, hid (fun q hq => ?_), by rw [List.length_append, List.length_singleton]; omega, hid ?_, hid ?_, HB8⟩
   ·rcases List.mem_append.1 hq with hq | hq
    ·exact HAC.out q hq
    ·rw [List.mem_singleton] at hq; subst hq; exact HEM.out
   ·rw [List.length_append, List.map_append, zx_]; exact HO8.out
   ·refine (Off.of_row HG8.out).box ((HSP.out).alloc _) (fun hk => ?_)
    obtain ⟨_, _, cur, hb⟩ := zb_ HOV5.out hk
    exact zp_ hb HSP.out Xt4 rfl
  case measure => simp [intOf]; omega) : p := h
theorem Xb16 {p : Prop} (h : p := by
  obtain ⟨left, cnt, ss, hrg, hcs, hC, hJs⟩ := hrel
  gi_wp2_with (first
   | (gi_at_next; refine wpListIn_next_ranges _ rfl _ rfl 9 law9 RF Value.string (fun v : Value => v) Xt13 (fun v y _ => ⟨v, rfl⟩) b W.heap.size L.length _ _ _ rfl hrg ?_ ?_)
   | gi_in)
  ·intro hc0 hl0
   gi_wp2
   go_end0
   exact ⟨⟨_, rfl⟩, .inl ⟨ss, hC.all hl0, hJs⟩⟩
  ·intro s c kl yd yp w2 cnt2 hkey hlk hv hat hrg2 hlt hg2 hs2 hen
   obtain ⟨K, hKm, es, ek⟩ := key_in hkey hat
   subst es
   subst ek
   have hJ2 : J ss w2 := hJ ss wr w2 (some W.heap.size) hJs hg2 Xt66
   obtain ⟨fn, tmps, assign, body, hy, hR⟩ := hY ss K w2 hJ2 Xt0
   dsimp only [encK] at hy
   clear hs2
   gi_wp2
   refine hR.mono ?_
   have hC2 := hC.step HBY.out hKm hlk
   rintro e W3 (⟨rfl, hJ3, hk3⟩ | ⟨rfl, hJx3⟩)
   ·gi_wp2
    have hrg3 := hrg2.of_walks hk3
    go_roundw
    case rel => exact ⟨_, cnt2, ss ++ [K], hrg3, by simp; omega, hC2, hJ3⟩
    case measure => rw [hrg3.left_eq, hrg.left_eq]; exact hlt
   ·gi_wp2
    refine bodyPost_ret (results_none rfl _ _ _) rfl ?_
    exact ⟨⟨_, rfl⟩, .inr ⟨ss ++ [K], trivial, hJx3⟩⟩) : p := h
theorem Xb17 {p : Prop} (h : p := by
  go_wp2_with fail
  go_ret
  exact ⟨by rw [HF.out (decide_eq_false Xt0)]; rfl, HB1.out⟩) : p := h
theorem Xb18 {p : Prop} (h : p := by
  go_wp2_with fail
  go_quiet (fail)
  go_wp2_with fail
  go_ret
  exact ⟨zc_ Xt1, za_ HB0.out (za_ HBW.out (zl_ (Below.refl _ _) _))⟩) : p := h
theorem Xb19 {p : Prop} (h : p := by
  go_wp2_with fail
  go_roundw
  case rel => exact ⟨k + 1, gn, A, G, oa, oc, by omega, by go_num, by omega, HGL, hid Xt21, HGM, HAL, hid (HBX.out.below HB9.out), hid (ze_ HOW.out HB9.out), hid (fun g hg => (HGS.out g hg).below HB9.out), hid (HOF.out.then HB9.out)⟩
  case measure => simp [intOf]; omega) : p := h
theorem Xb20 {p : Prop} (h : p := by
  intro W hSw; go_simp; try (first | rfl | (simp; done) | (simp; omega) | omega)) : p := h
theorem Xb21 {p : Prop} (h : p := by
  go_wp2_with fail
  go_ret
  exact ⟨zc_ Xt8, za_ HB0.out HBW.out⟩) : p := h
theorem Xb22 {p : Prop} (h : p := by
  intro W hSw; go_simp; try (first | rfl | exact hx0 | exact hx1 | (simp [hx0]; done) | (simp [hx0, hx1]; done) | (simp; omega))) : p := h
theorem Xb23 {p : Prop} (h : p := by
  by_cases h : k < 0 ∨ 6 < k
  ·rw [jD_ k h, Bool.eq_iff_iff]
   simp; omega
  ·obtain ⟨n, rfl⟩ : ∃ n : Nat, k = (n : Int) := ⟨k.toNat, by omega⟩
   have hn : n <= 6 := by omega
   rw [kf_in n hn]
   rcases (show n = 0 ∨ n = 1 ∨ n = 2 ∨ n = 3 ∨ n = 4 ∨ n = 5 ∨ n = 6 by omega) with rfl | rfl | rfl | rfl | rfl | rfl | rfl <;> rfl) : p := h
theorem Xb24 {p : Prop} (h : p := by
  simp only [Bool.false_eq_true, if_false, ↓reduceIte] at HP
  obtain ⟨mk, hmk⟩ := gtx (yz_ kn)
  rw [hmk] at HP
  have HMK := hid hmk
  clear hmk
  go_wp2_with fail
  refine (zN_ _ _ _ _).mono ?_; rintro r w9 ⟨rfl, rfl⟩
  rw [HMK.out]
  cases mk
  ·go_wp2_with fail
   go_ret
   exact ⟨zc_ Xt8, za_ HB0.out HB5.out⟩
  by_cases ht0 : tn = 0
  ·subst ht0
   go_wp2_with fail
   go_ret
   exact ⟨zc_ Xt28, za_ HB0.out HB5.out⟩
  ·have ht1 : ((tn : Int) == 0) = false := by simpa using ht0
   have ht2 : (tn == 0) = false := by simpa using ht0
   rw [ht2] at HP
   clear ht2
   go_wp2_with fail
   go_ret
   exact ⟨zc_ Xt8, za_ HB0.out HB5.out⟩) : p := h
theorem Xb25 {p : Prop} (h : p := by
  intro W hSw; go_simp; try (first | exact hnp | rfl | (simp only [hne]; done) | (simp [hne]; done))) : p := h
theorem Xb26 {p : Prop} (h : p := by
  go_enter func122, ntmps122
  go_wp2_with fail
  generalize ((w.alloc (.cells #[.int .i64 k, .int .i64 tb, .int .i64 ix, .slice ka kn kc, .slice ta tn tc, .int .i64 mo, .slice ra rn rc] 74)).alloc (.cells #[.bool false, .bool false, .bool false, .bool false, .bool false, .bool false] 197)) = W0 at *
  refine bodyPost_ret (v := .agg #[.bool false, .bool false, .bool false, .bool false, .bool false, .bool false]) ?_ rfl ⟨rfl, b0⟩
  have x0 := hr.cell 0
  have x1 := hr.cell 1
  have x2 := hr.cell 2
  have x3 := hr.cell 3
  have x4 := hr.cell 4
  have x5 := hr.cell 5
  simp only [gtA, gtB, gtC] at x0 x1 x2 x3 x4 x5
  simp [results, results122, go_sem, x0, x1, x2, x3, x4, x5]) : p := h
theorem Xb27 {p : Prop} (h : p := by
  have x0 := HS4.out.box.cell 0
  have x1 := HS4.out.box.cell 1
  have x2 := HS4.out.box.cell 2
  have x3 := HS4.out.box.cell 3
  simp only [gtA, gtB, gtC] at x0 x1 x2 x3
  simp [results, results141, go_sem, x0, x1, x2, x3]) : p := h
theorem Xb28 {p : Prop} (h : p := by
  go_wp2_with fail
  try rw [Exit.noGoto_ret]
  go_ret
  obtain ⟨hcn, hna⟩ := zJ_ HOV5.out
  refine ⟨va, vc, by rw [HWN.out]; rfl, HB6.out, by rw [HWN.out]; exact hcn, hna, ?_⟩
  rw [HWN.out]
  exact HOV5.out) : p := h
theorem Xb29 {p : Prop} (h : p := by
  go_wp2_with fail
  go_ret
  exact ⟨zc_ Xt8, za_ HB0.out HB5.out⟩) : p := h
theorem Xb30 {p : Prop} (h : p := by
  go_wp2
  go_ret
  exact ⟨rfl, rfl⟩) : p := h
theorem Xb31 {p : Prop} (h : p := by
  go_wp2_with fail
  go_ret
  exact ⟨zc_ Xt8, za_ HB0.out (za_ HBW.out (zl_ (Below.refl _ _) _))⟩) : p := h
theorem Xb32 {p : Prop} (h : p := by
  unfold Oper.wp execOp
  simp only [ho, resolve, invoke, builtin, Sem.run_bind, Sem.run_pure, Result.andThen_ok, List.map_toArray, List.map_cons, List.map_nil, hs, hx, h1]
  exact h v' w' h2 h3) : p := h
theorem Xb33 {p : Prop} (h : p := by
  intro W hSw; go_simp; try (first | rfl | (simp; done) | exact d1 | omega)) : p := h
theorem Xb34 {p : Prop} (h : p := by
  go_enter func52, ntmps52
  go_wp2_with (go_at_call 51; refine HM.out.mono ?_; rintro e w' ⟨rfl, rfl⟩)
  go_ret
  refine ⟨?_, rfl⟩; first | (simp [a, b]; done) | (simp [a, Int.not_lt.2 b]; done) | (simp [Int.not_le.2 a]; done) | (simp [a]; done)) : p := h
theorem Xb35 {p : Prop} (h : p := by
  intro v4 w4 hown4 hgrow4 _
  have b4 : Below w.heap.size w3 w4 := ((Below.refl _ w3).alloc hs3 _).grown hgrow4 Xt7 (fun j hj => (R2.out.lt j hj).1)
  have HT4 := hid (cpR_next R' R1.out R2.out R3.out p HPP.out q HQ.out a1 c1 HO.out hown4 hgrow4)
  have HB4 := hid ((za_ B B3).trans b4)
  clear b4 hown4 hgrow4 B3 B
  go_wp2_with fail
  go_roundw
  case rel => exact ⟨k + 1, by omega, by go_num, HT4.out, HB4.out⟩
  case measure => simp [intOf]; omega) : p := h
theorem Xb36 {p : Prop} (h : p := by
  refine adn ?_
  obtain ⟨wz, hwz⟩ := gty (wr.drew)
  rw [← hwz] at hH ⊢
  have HWZ := hid (show Below wr.heap.size wr wz from hH)
  clear hH hwz
  go_wp2_with fail
  go_meet
  exact ⟨by rw [HQV.out], HWZ⟩) : p := h
theorem Xb37 {p : Prop} (h : p := by
  intro W hSw; go_simp; try (first | rfl | exact d5 | (simp; done) | (simp; omega) | omega)) : p := h
theorem Xb38 {p : Prop} (h : p := by
  go_wp2_with fail
  go_ret
  exact ⟨⟨true, rfl, fun h => by cases h⟩, BB.out⟩) : p := h
theorem Xb39 {p : Prop} (h : p := by
  refine tkn 9 ?_
  refine tkn 10 ?_
  refine tkn 11 ?_
  refine tkn 12 ?_
  refine tkn 13 ?_
  refine tkn 14 ?_
  refine tkn 15 ?_
  refine tkn 16 ?_
  refine tkn 17 ?_
  refine tkn 18 ?_
  refine tkq 19 ?_
  refine adn ?_
  skip
  go_wp2_with fail
  go_ret
  exact ⟨none, 0, [], rfl, hH, rfl, fun p hp => (nomatch hp), Nat.le_refl _, fun _ => rfl, Nat.zero_le _, fun S' _ W' _ k x hx => by simp at hx⟩) : p := h
theorem Xb40 {p : Prop} (h : p := by
  intro v3 w3 hown3 hgrow3
  rw [← zM_] at hown3
  have B3 := (B2.alloc hs2 _).grown hgrow3 Xt7 (fun j hj => (HOWN2.out.lt j hj).1)
  have HOWN3 := hid hown3
  clear hown3 hgrow3
  go_wp2_with fail
  go_roundw
  case rel => exact ⟨k + 1, by omega, by go_num, by rw [HF2.out, HQ.out, ← List.append_assoc, List.length_append, List.length_append, HM.out]; exact HOWN3.out, B3⟩
  case measure => simp [intOf]; omega) : p := h
theorem Xb41 {p : Prop} (h : p := by
  cases q with
  | none => exact ⟨_, hr⟩
  | some R => obtain ⟨v, e, _⟩ := hr; exact ⟨v, e⟩) : p := h
theorem Xb42 {p : Prop} (h : p := by
  refine adn ?_
  have H9 := hid (za_ BW.out hH)
  clear hH
  go_wp2_with fail
  try rw [Exit.noGoto_ret]
  go_ret
  exact ⟨zc_ (HN.out (by rw [HOB.out, HK'.out]; rfl)).symm, za_ HB0.out H9.out⟩) : p := h
theorem Xb43 {p : Prop} (h : p := by
  rintro Dd zs W hD hzs ⟨⟨v, bL1, own1⟩, hB1⟩ hK
  have cL := bL1.cell
  have HZ := hid hzs
  clear hzs
  gi_wp2
  refine ⟨by simp, .inl ⟨_, _, rfl, run_takeDeferred hK, ?_⟩⟩
  refine ⟨v, ?_, zs, v, rfl, HZ.out, yG_ own1 (grownBy_putObj' W Dd (.deferred none)) Xt58, hB1.trans (belowK_b (w := w) hbase W Dd _ _ Xt0 hK rfl rfl)⟩
  simp [results, f108, go_sem]) : p := h
theorem Xb44 {p : Prop} (h : p := by
  clear hb8
  go_wp2_with fail
  go_ret
  exact ⟨rfl, HB8.out⟩) : p := h
theorem Xb45 {p : Prop} (h : p := by
  go_enter func54, ntmps54
  go_wp2_with fail
  refine H.out.mono ?_; rintro e w' ⟨⟨v, rfl⟩, B⟩
  go_wp2_with fail
  go_ret
  exact ⟨rfl, B⟩) : p := h
theorem Xb46 {p : Prop} (h : p := by
  refine adn ?_
  skip
  have HB9 := hid (HBW.out.trans ((show Below wr.heap.size wr wr.drew from hH).mono HBW.out.size))
  clear hH
  go_wp2_with fail
  go_roundw
  case rel => exact ⟨k + 1, by omega, by go_num, by rw [x9_ HX.out HA.out]; exact HWB.out, HB9⟩
  case measure => simp [intOf]; omega) : p := h
theorem Xb47 {p : Prop} (h : p := by
  rw [← HAT.out, HDR.out]
  show _ = atW (t, o.K) (L.drop (m + 1)) (m + 1) (if ltQ (wk ym.P) (t, o.K) = true then m + 1 else a)
  rw [HQ.out, HA2.out]) : p := h
theorem Xb48 {p : Prop} (h : p := by
  intro v2 w2 hown2 hgrow2
  have B2 := ((Below.refl w.heap.size w).alloc (Nat.le_refl _) _).grown hgrow2 Xt5 Xt55
  obtain ⟨a', c', rfl, l', _⟩ := yv_ hown2 HL.out
  have H2 := hid hown2
  clear hown2 hgrow2
  go_wp2_with fail
  go_ret
  exact ⟨⟨a', c', rfl, by simpa using H2.out⟩, B2⟩) : p := h
theorem Xb49 {p : Prop} (h : p := by
  have := hc 0 Xt0; rw [Nat.add_zero] at this; rw [Nat.zero_add]; exact this) : p := h
theorem Xb50 {p : Prop} (h : p := by
  go_wp2_with fail
  go_ret3
  obtain ⟨rfl, rfl, rfl⟩ := HR.out
  exact ⟨none, 0, none, 0, rfl, Ls.nul _ _, fun _ _ _ _ => Ls.nul _ _, B⟩) : p := h
theorem Xb51 {p : Prop} (h : p := by
  go_wp2_with fail
  go_ret
  exact ⟨by rw [HV.out]; rfl, HB9.out⟩) : p := h
theorem Xb52 {p : Prop} (h : p := by
  have h9 := HHA.out
  rw [HDR.out] at h9
  unfold hasW at h9 ⊢
  rw [List.any_cons, HCD.out, ← Bool.or_assoc, HCV.out] at h9
  exact h9) : p := h
theorem Xb53 {p : Prop} (h : p := by
  simp only [gtA, gtB, gtC] at x0 x1 x2 x3
  simp [results, results105, go_sem, x0, x1, x2, x3]) : p := h
theorem Xb54 {p : Prop} (h : p := by
  intro W hSw; go_simp; try (first | exact HC1.out | rfl)) : p := h
theorem Xb55 {p : Prop} (h : p := by
  go_wp2_with fail
  go_roundw
  case rel => exact ⟨k + 1, by omega, by go_num, HEN, HB9⟩
  case measure => simp [intOf]; omega) : p := h
theorem Xb56 {p : Prop} (h : p := by
  go_wp2_with fail
  go_meet
  exact ⟨by rw [hw]; rfl, rfl⟩) : p := h
theorem Xb57 {p : Prop} (h : p := by
  go_wp2_with fail
  go_ret
  exact ⟨zc_ HA.out.symm, rfl⟩) : p := h
theorem Xb58 {p : Prop} (h : p := by
  go_wp2_with fail
  refine (qL_ x.ka y.ka x.K y.K _ _ x.kc y.kc rfl rfl HB.out.1 HB.out.2 _ HL.out.1 HL.out.2).mono ?_; rintro r w' ⟨rfl, rfl⟩
  go_wp2_with fail
  go_ret
  exact ⟨rfl, 0, _, by rw [alloc_eq_grow, alloc_eq_grow, grow_grow]; rfl⟩) : p := h
theorem Xb59 {p : Prop} (h : p := by
  clear HZ
  go_enter func85, ntmps85
  go_wp2_with fail
  refine HW.out.mono ?_; rintro r w' ⟨rfl, B1⟩
  have HB := hid (za_ HBW.out B1)
  clear B1
  go_wp2_with fail
  go_ret2
  exact ⟨rfl, HB.out.alloc HB.out.size _⟩) : p := h
theorem Xb60 {p : Prop} (h : p := by
  intro W hSw; go_simp; try (first | rfl | (simp; done) | exact d0 | omega)) : p := h
theorem Xb61 {p : Prop} (h : p := by
  go_wp2_with fail
  go_ret
  exact ⟨zc_ Xt28, za_ HB0.out HBW.out⟩) : p := h
theorem Xb62 {p : Prop} (h : p := by
  go_wp2_with fail
  go_ret
  exact ⟨zc_ Xt28, za_ HB0.out HB5.out⟩) : p := h
theorem Xb63 {p : Prop} (h : p := by
  have e1 : ltL x.1 K = false := by rw [e, zT_]
  have e2 : ltL K x.1 = false := by rw [e, zT_]
  rw [List.filter_cons_of_neg (by simp [e]), List.filter_cons_of_neg (by simp [e1]), List.filter_cons_of_neg (by simp [e2]), ih]) : p := h
theorem Xb64 {p : Prop} (h : p := by
  rw [Nat.mul_one, Nat.add_zero] at this
  exact this) : p := h
theorem Xb65 {p : Prop} (h : p := by
  obtain ⟨h1, h2⟩ := HMP.out b hb
  refine ⟨((h1.off HF9.out fun e => ?_).off oP fun e => ?_), h2⟩
  ·obtain ⟨_, _, cur, hb⟩ := zb_ HOW.out e
   exact h1.ne_box hb rfl
  ·exact h1.ne_box HXP.out e) : p := h
theorem Xb66 {p : Prop} (h : p := by
  go_wp2_with fail
  go_ret2
  exact HR.out _ _ ⟨rfl, HB2.out⟩) : p := h
theorem Xb67 {p : Prop} (h : p := by
  refine tkq3 27 28 29 ?_
  refine adn ?_
  skip
  refine hKK _ _ ?_
  have HBZ := hid (za_ HB9.out hH)
  clear hH
  go_wp2_with fail
  go_ret2
  exact ⟨by rw [HC.out, HH.out]; rfl, HBZ.out⟩) : p := h
theorem Xb68 {p : Prop} (h : p := by
  have := hc 1 Xt0; rw [Nat.zero_add]; exact this) : p := h
theorem Xb69 {p : Prop} (h : p := by
  go_wp2_with fail
  go_roundw
  case rel => exact ⟨k + 1, by omega, by go_num, by rw [HF2.out, HQ.out, List.length_append, HM.out]; exact HOWN2.out, B2⟩
  case measure => simp [intOf]; omega) : p := h
theorem Xb70 {p : Prop} (h : p := by
  go_wp2_with fail
  go_roundw
  case rel => exact ⟨k + 1, by have := HLT.out; omega, by go_num, by rw [HN.out, HOB.out]; rfl, H5⟩
  case measure => simp [intOf]; have := HLT.out; omega) : p := h
theorem Xb71 {p : Prop} (h : p := by
  intro W hSw; go_simp; try (first | rfl | exact hx0 | (simp [hx0, hx1]; done) | (simp; omega))) : p := h
theorem Xb72 {p : Prop} (h : p := by
  have HC := hid hc
  have HB1 := hid (za_ hH hb1)
  have HS := hid hH.size
  clear hc hb1 hH
  go_wp2_with fail
  go_ret2
  exact ⟨⟨v, rfl, HC.out.lo HS.out⟩, HB1.out⟩) : p := h
theorem Xb73 {p : Prop} (h : p := by
  have h1 : z.P ∈ f.Ts.map TbV.P := by rw [← hcT]; exact List.mem_map.2 ⟨z, hz, rfl⟩
  obtain ⟨y, hy, e⟩ := List.mem_map.1 h1
  have := hN y hy
  rw [← e]; omega) : p := h
theorem Xb74 {p : Prop} (h : p := by
  rcases hq with hq | hq | hq
  ·exact .inl (.inl hq)
  ·exact .inl (.inr (.inl hq))
  ·rcases hnew q hq with e | e
   ·exact .inl (.inr (.inr e))
   ·exact .inr Xt0) : p := h
theorem Xb75 {p : Prop} (h : p := by
  go_wp2_with fail
  go_ret
  exact ⟨⟨false, rfl, fun _ => HR.out⟩, BB.out⟩) : p := h
theorem Xb76 {p : Prop} (h : p := by
  simp only [List.cons.injEq, and_true] at hcs
  subst hcs
  exact ⟨none, [], 0, 0, rfl, rfl, fun k o ho => by simp at ho, Nat.zero_le _, fun o ho => by simp at ho⟩) : p := h
theorem Xb77 {p : Prop} (h : p := by
  refine ⟨S, x, ⟨6, none, 0, []⟩, rfl, TSt.same HH.out.1 (by
   refine Off.below HBW.out HO4.out HBW.out.size Xt36), rfl, z8_ _, fun W' o => yc_.nil _ _, rfl⟩) : p := h
theorem Xb78 {p : Prop} (h : p := by
  go_wp2_with fail
  go_ret
  exact ⟨by rw [HV.out]; rfl, Below.refl _ _⟩) : p := h
theorem Xb79 {p : Prop} (h : p := by
  go_wp2_with fail
  refine HQC.out.mono ?_; rintro r w3 ⟨rfl, B3⟩
  go_wp2_with fail
  go_ret
  exact ⟨zc_ (by rw [HDF.out]; rfl), za_ HB0.out B3⟩) : p := h
theorem Xb80 {p : Prop} (h : p := by
  intro W hSw; go_simp; try (first | exact d6 | rfl)) : p := h
theorem Xb81 {p : Prop} (h : p := by
  go_ret
  exact ⟨m, by rw [HV.out]; rfl, HH.out.below HB5.out, zG_.rfl' m, by rw [HV.out]; rfl, Off.of HB5.out, fun N h z hz => by have := h z hz; omega⟩) : p := h
theorem Xb82 {p : Prop} (h : p := by
  have e : ∀ l : List TbV, l.map tbC = (l.map TbV.P).map (fun p => p.map prC) := fun l => by rw [List.map_map]; rfl
  unfold Rf.P
  rw [e, e, hcT]) : p := h
theorem Xb83 {p : Prop} (h : p := by
  go_wp2_with fail
  go_ret3
  obtain ⟨rfl, rfl, rfl⟩ := HR.out
  exact ⟨none, 0, none, 0, rfl, Ls.nul _ _, fun _ _ _ _ => Ls.nul _ _, B2⟩) : p := h
theorem Xb84 {p : Prop} (h : p := by
  have := hc 2 Xt0; rw [Nat.zero_add]; exact this) : p := h
theorem Xb85 {p : Prop} (h : p := by
  go_wp2_with fail
  go_ret
  exact ⟨by rw [HV.out]; rfl, HBW.out⟩) : p := h
theorem Xb86 {p : Prop} (h : p := by
  go_wp2_with fail
  go_ret
  exact ⟨by rw [HO.out]; rfl, HB1.out⟩) : p := h
theorem Xb87 {p : Prop} (h : p := by
  split
  ·rename_i hs
   rw [if_pos hs, if_pos hs] at this; exact this
  ·rename_i hs
   rw [if_neg hs, if_neg hs] at this; exact this) : p := h
theorem Xb88 {p : Prop} (h : p := by
  obtain ⟨_, _, cur, hb⟩ := zb_ HO9.out hg
  exact zp_ hb hP9 Xt4) : p := h
theorem Xb89 {p : Prop} (h : p := by
  have h2 := h1.off (Off.of_row HG9.out) (fun e => Nat.lt_irrefl _ (hbwv _ e))
  exact ⟨h2.off oP (fun e => h2.ne_box hP9 e), HB.out.size⟩) : p := h
theorem Xb90 {p : Prop} (h : p := by
  rcases HAT8.out with e | e
  ·exact .inl (e ▸ hb)
  ·rw [World.size_alloc] at e
   rw [hb] at e
   exact .inr (by cases e; rfl)) : p := h
theorem Xb91 {p : Prop} (h : p := by
  go_wp2_with fail
  go_roundw
  case rel => exact ⟨k + 1, by omega, by go_num, HN2, trivial⟩
  case measure => simp [intOf]; omega) : p := h
theorem Xb92 {p : Prop} (h : p := by
  rcases List.mem_append.1 h with h | h
  ·exact .inr h
  ·rw [List.mem_singleton] at h; subst h; exact .inl (List.mem_cons_self ..)) : p := h
theorem Xb93 {p : Prop} (h : p := by
  unfold zD_
  rw [HO.out.po, h3, h4]; rfl) : p := h
theorem Xb94 {p : Prop} (h : p := by
  go_roundw
  case rel => exact ⟨k + 1, by omega, by go_num, by rw [HN.out]; rfl, trivial⟩
  case measure => simp [intOf]; omega) : p := h
theorem Xb95 {p : Prop} (h : p := by
  intro hh
  rcases List.mem_cons.1 hh with hh | hh
  ·rw [← hh]; rfl
  ·have := h1 _ hh
   rw [e, zT_] at this; cases this) : p := h
theorem Xb96 {p : Prop} (h : p := by
  rintro ⟨v, h1, h2, h3⟩
  exact ⟨v, by rw [List.getElem?_append_left (List.getElem?_eq_some_iff.1 h1).1]; exact h1, h2, h3⟩) : p := h
theorem Xb97 {p : Prop} (h : p := by
  rintro lp pre x W K hI hK
  dsimp only [encK]
  gi_wp2
  exact hK _ _ ((KeepsOthers.refl _).from _) (KeepsWalks.refl _) hI rfl) : p := h
theorem Xb98 {p : Prop} (h : p := by
  go_wp2_with fail
  go_ret2
  exact ⟨rfl, Below.refl _ _⟩) : p := h
theorem Xb99 {p : Prop} (h : p := by
  go_wp2_with fail
  go_ret
  exact ⟨rfl, Below.refl _ _⟩) : p := h
theorem Xb100 {p : Prop} (h : p := by
  simp only [Bool.false_eq_true, ↓reduceIte]
  go_wp2_with fail
  go_meet
  exact ⟨by rw [← HBS.out]; rfl, HBW⟩) : p := h
theorem Xb101 {p : Prop} (h : p := by
  go_wp2_with fail
  try rw [Exit.noGoto_ret]
  go_ret
  exact ⟨by rw [HO.out (decide_eq_false Xt0)]; rfl, HB1.out⟩) : p := h
theorem Xb102 {p : Prop} (h : p := by
  rw [UInt8.lt_iff_toNat_lt, UInt8.toNat_ofNat', UInt8.toNat_ofNat', Nat.mod_eq_of_lt Xt0, Nat.mod_eq_of_lt Xt0]
  omega) : p := h
theorem Xb103 {p : Prop} (h : p := by
  refine ⟨.bool true, ?_, rfl, Off.below hbl op hbl.size (fun j hj => by omega)⟩
  simp [results, f46, go_sem, hfin]) : p := h
theorem Xb104 {p : Prop} (h : p := by
  have : l = [] := List.length_eq_zero_iff.1 Xt0
  subst this h0
  exact ⟨none, 0, e, fun k p hp => by simp at hp⟩) : p := h
theorem Xb105 {p : Prop} (h : p := by
  clear hm
  go_wp2_with fail
  go_ret2
  exact HR.out _ _ ⟨rfl, HB2.out.trans (HB4.out.mono HB2.out.size)⟩) : p := h
theorem Xb106 {p : Prop} (h : p := by
  intro hh
  rcases List.mem_cons.1 hh with hh | hh
  ·exact absurd (by rw [← hh]) e
  ·exact (ih h2).2 hh) : p := h
theorem Xb107 {p : Prop} (h : p := by
  have := o.block p.block (World.block_lt_of_cell? W _ h) hn
  rw [← h]
  unfold World.cell?
  rw [this]) : p := h
theorem Xb108 {p : Prop} (h : p := by
  rw [Array.getElem?_eq_getElem (by rw [Array.size_modify]; exact hlt), Array.getElem_modify_self, hk]
  rfl) : p := h
theorem Xb109 {p : Prop} (h : p := by
  cases ys with
  | nil => rfl
  | cons y r =>
   obtain ⟨b, off, e, _⟩ := hR 0 y rfl
   cases e) : p := h
theorem Xb110 {p : Prop} (h : p := by
  cases a <;> simp [sliced, Result.andThen, Addr.add]) : p := h
theorem Xb111 {p : Prop} (h : p := by
  obtain ⟨b, off, e, c0, c1, r⟩ := h k x hx
  exact ⟨b, off, e, tcb hb c0, tcb hb c1, r.below hb⟩) : p := h
theorem Xb112 {p : Prop} (h : p := by
  go_wp2_with fail
  go_ret
  exact ⟨⟨none, 0, rfl, World.ownsRow_nil _ _ _ _⟩, Below.refl _ _⟩) : p := h
theorem Xb113 {p : Prop} (h : p := by
  simp only [Value.slice.injEq] at e
  obtain ⟨rfl, rfl, rfl⟩ := e
  exact ⟨L, h1, h2, h3, h4⟩) : p := h
theorem Xb114 {p : Prop} (h : p := by
  go_wp2_with fail
  go_ret
  exact ⟨zc_ Xt28, za_ HB0.out (za_ HBW.out (zl_ (Below.refl _ _) _))⟩) : p := h
theorem Xb115 {p : Prop} (h : p := by
  intro hh
  have hh : p.2 = r := by simpa using hh
  rw [← e, ← hh]; exact List.mem_cons_self ..) : p := h
theorem Xb116 {p : Prop} (h : p := by
  exact (HM5.out.rows z HZM.out e he.1).off (o7.mono fun k hk => by cases hk; exact HM5.out.hS z HZM.out)) : p := h
theorem Xb117 {p : Prop} (h : p := by
  have HC := hid hc
  clear hc
  go_wp2_with fail
  go_ret
  exact ⟨⟨_, rfl, HC.out⟩, B⟩) : p := h
theorem Xb118 {p : Prop} (h : p := by
  exact ⟨_, _, [], hrg0, by simp, jb_.start HBY.out, hJ [] W w0 none h0 hg0 (fun r e => by cases e)⟩) : p := h
theorem Xb119 {p : Prop} (h : p := by
  rw [List.filter_eq_nil_iff]; intro y hy hk
  have := zF_ (h1 y hy) hk; rw [hl] at this; cases this) : p := h
theorem Xb120 {p : Prop} (h : p := by
  exact ⟨o.os, o.tape, o.output, o.size, fun k hk hn => o.block k hk (fun h => h.elim hn Xt73)⟩) : p := h
theorem Xb121 {p : Prop} (h : p := by
  rcases hT with ⟨h1, h2⟩ | h2
  ·rw [h2]; exact hS (hzl h1 h2)
  ·rw [h2]; trivial) : p := h
theorem Xb122 {p : Prop} (h : p := by
  have h2 : ¬ (c - i = 0) := by omega
  simp [sliced, Result.andThen, Addr.add, h2, hc]) : p := h
theorem Xb123 {p : Prop} (h : p := by
  have h2 : ¬ (c - i = 0) := by omega
  simp [sliced, Result.andThen, h2, hc, zE_]) : p := h
theorem Xb124 {p : Prop} (h : p := by
  have h1 := j2_ j.T k 0 Xt84 hT.out
  rw [nmP, List.length_append, yR_]; omega) : p := h
theorem Xb125 {p : Prop} (h : p := by
  go_wp2_with fail
  go_ret
  exact ⟨by rw [qf_, HO.out]; rfl, HB1.out⟩) : p := h
theorem zc_ {a b : Bool} (h : a = b) : Ending.returned (.bool a) = .returned (.bool b) := by rw [h]
theorem za_ {w a b : World} (h : Below w.heap.size w a) (k : Below a.heap.size a b) : Below w.heap.size w b := h.trans (k.mono h.size)
theorem yE_ {w w' : World} (h : Below w.heap.size w w') : w.grownBy w' none := ⟨h.os, h.tape, h.output, h.size, fun k hk _ => h.block k hk⟩
theorem jstep {P : Nat -> Prop} {k : Nat} (h : ∀ j < k, P j) (hk : P k) : ∀ j < k + 1, P j := fun j hj => by
 rcases (show j < k ∨ j = k from by omega) with h' | rfl
 ·exact h j h'
 ·exact hk
theorem zE_ (b off j : Nat) : (⟨b, off, none⟩ : Addr).add j = ⟨b, off + j, none⟩ := by
 unfold Addr.add
 by_cases h : j = 0 <;> simp [h]
theorem cell_new (w : World) (cs : Array Value) (t : TypeId) (fr : Nat × Nat) (k : Nat) : (w.alloc (.cells cs t fr)).cell? ⟨w.heap.size, k, none⟩ = cs[k]? := by
 have h := heap_alloc_new w (.cells cs t fr)
 simp only [World.cell?]
 rw [h]
 simp
def iv (K : IntKind) (L : List Int) : List Value := L.map fun x => .int K x
theorem zM_ (K : IntKind) (a b : List Int) : iv K (a ++ b) = iv K a ++ iv K b := by simp [iv]
theorem iv_one (K : IntKind) (L : List Int) : ∀ u ∈ iv K L, u.oneCell' = true := fun u hu => by
 simp only [iv, List.mem_map] at hu; obtain ⟨x, _, rfl⟩ := hu; rfl
def Rd (K : IntKind) (W : World) (a : Option Addr) (L : List Int) : Prop := ∀ k < L.length, ∃ b off, a = some ⟨b, off, none⟩ /\ W.cell? ⟨b, off + k, none⟩ = some (.int K (L.getD k 0))
theorem Rd.below {K : IntKind} {W W' : World} {a : Option Addr} {L : List Int} (h : Rd K W a L) (hb : Below W.heap.size W W') : Rd K W' a L := fun k hk => by
 obtain ⟨b, off, e, hc⟩ := h k hk
 exact ⟨b, off, e, (hb.cell (p := ⟨b, off + k, none⟩) (World.block_lt_of_cell? W _ hc)).trans hc⟩
theorem Rd.nil (K : IntKind) (W : World) (a : Option Addr) : Rd K W a [] := fun k hk => absurd hk Xt5
theorem Rd.drop {K : IntKind} {W : World} {b off : Nat} {L : List Int} (h : Rd K W (some ⟨b, off, none⟩) L) (s : Nat) : Rd K W (some ⟨b, off + s, none⟩) (L.drop s) := fun k hk => by
 have hk' : s + k < L.length := by simp at hk; omega
 obtain ⟨b', off', e, hc⟩ := h (s + k) hk'
 cases e
 refine ⟨b, off + s, rfl, ?_⟩
 rw [Nat.add_assoc, hc]
 simp [List.getD, List.getElem?_drop]
structure Ls (K : IntKind) (W : World) (a : Option Addr) (cap : Nat) (L : List Int) : Prop where
 rd : Rd K W a L
 nl : a = none -> L = [] /\ cap = 0
 le : L.length <= cap
theorem Ls.below {K : IntKind} {W W' : World} {a : Option Addr} {cap : Nat} {L : List Int} (h : Ls K W a cap L) (hb : Below W.heap.size W W') : Ls K W' a cap L := ⟨h.rd.below hb, h.nl, h.le⟩
theorem Ls.nul (K : IntKind) (W : World) : Ls K W .none 0 [] := ⟨Rd.nil _ _ _, fun _ => ⟨rfl, rfl⟩, Nat.le_refl _⟩
theorem Ls.get {K : IntKind} {W : World} {a : Option Addr} {cap : Nat} {L : List Int} (h : Ls K W a cap L) (k : Nat) (hk : k < L.length) : ∃ b off, a = some ⟨b, off, none⟩ /\ W.cell? ⟨b, off + k, none⟩ = some (.int K (L.getD k 0)) := h.rd k hk
structure Elt (K : IntKind) (t e : TypeId) (bs : Nat) : Prop where
 ut : prog.underlying t = some (.slice e)
 inf : (prog.info? e).map (fun i => (i.zero, i.size, i.bytes)) = some (some (.int K 0), 1, bs)
 small : bs <= 8
theorem Qe_ : Elt .u8 42 5 1 := ⟨underlying42, by kernel_rfl, by decide⟩
theorem yv_ {K : IntKind} {w : World} {base n : Nat} {e : TypeId} {v : Value} {L : List Int} (h : w.ownsRow base e 1 v n (iv K L)) (hn : L.length = n) : ∃ a cap, v = .slice a n cap /\ Ls K w a cap L /\ (0 < n -> ∃ g, a = some ⟨g, 0, .none⟩ /\ base <= g) := by
 have h' := h
 rcases h.2 with ⟨e, h0⟩ | ⟨g, cap, cur, rfl, hg, _, hc, _⟩
 ·have : L = [] := List.length_eq_zero_iff.1 Xt0
  subst this h0
  exact ⟨.none, 0, e, Ls.nul _ _, fun h => absurd h Xt5⟩
 ·refine ⟨_, cap, rfl, ⟨fun k hk => ⟨g, 0, rfl, ?_⟩, fun e => (by cases e), by omega⟩, fun _ => ⟨g, rfl, hg⟩⟩
  rw [Nat.zero_add, h'.cellAt k Xt0]
  simp [iv, List.getD, hk]
theorem ze_ {w w' : World} {base n size : Nat} {e : TypeId} {v : Value} {xs : List Value} (h : w.ownsRow base e size v n xs) (hb : Below w.heap.size w w') : w'.ownsRow base e size v n xs :=
 h.kept (yE_ hb) (by cases hv : v.ownBlock <;> simp)
theorem rd_new (K : IntKind) (w : World) (L : List Int) (cs : Array Value) (t : TypeId) (fr : Nat × Nat) (h : cs = (iv K L).toArray) : Rd K (w.alloc (.cells cs t fr)) (some ⟨w.heap.size, 0, none⟩) L := fun k hk =>
 ⟨_, _, rfl, by rw [cell_new, Nat.zero_add, h]; simp [iv, List.getD, List.getElem?_eq_getElem hk]⟩
theorem xd_ (K : IntKind) (w : World) (L : List Int) (cs : Array Value) (t : TypeId) (fr : Nat × Nat) (h : cs = (iv K L).toArray) (n : Nat) (hn : L.length = n) : Ls K (w.alloc (.cells cs t fr)) (some ⟨w.heap.size, 0, none⟩) n L := ⟨rd_new K w L cs t fr h, fun e => (by cases e), by omega⟩
theorem xU_ {K : IntKind} {t e : TypeId} {bs : Nat} (E : Elt K t e bs) (w : World) (ty : TypeId) (base : Nat) (v : Value) (n : Nat) (xs : List Value) (hown : w.ownsRow base e 1 v n xs)
  (ad : Option Addr) (c len : Nat) (L : List Int) (hlen : L.length = len) (hL : Ls K w ad c L) (hb : n + len <= 1048576) (hbase : base <= w.heap.size) :
  ∃ v' w', (Builtin.append_ #[t, t] ty #[v, .slice ad len c]).run prog w = .ok v' w' /\ w'.ownsRow base e 1 v' (n + len) (xs ++ iv K L) /\ w.grownBy w' v.ownBlock := by
 subst hlen
 obtain ⟨i0, hi, hz0, hz1, hz2⟩ := info_parts E.inf
 have hsm := E.small
 rcases ad with _ | ad
 ·obtain ⟨rfl, rfl⟩ := hL.nl rfl
  exact ⟨v, w, run_append_owned_none (P := prog) (w := w) base t ty e i0 1 E.ut hi v n xs hown, by simpa [iv] using hown, ⟨rfl, rfl, rfl, Nat.le_refl _, fun _ _ _ => rfl⟩⟩
 ·obtain ⟨v', w', h1, h2, h3, _⟩ := run_append_own (P := prog) w base t ty e i0 (.int K 0) 1 bs E.ut hi hz0 hz1 hz2 rfl Xt4 v n xs hown ad L.length c (iv K L) (by simp [iv]) (by
   intro j u hj
   have hjl : j < L.length := by have := (List.getElem?_eq_some_iff.1 hj).1; simpa [iv] using this
   obtain ⟨b, off, e, hc⟩ := hL.rd j hjl
   cases e
   have hu : u = .int K (L.getD j 0) := by
    simp [iv, hjl] at hj
    rw [← hj]; simp [List.getD, List.getElem?_eq_getElem hjl]
   rw [hu, zE_]
   exact hc) (iv_one K L) Xt15 (Nat.le_trans (Nat.mul_le_mul hb hsm) Xt4) hbase
  exact ⟨v', w', h1, h2, h3⟩
theorem Qt_ {K : IntKind} {t e : TypeId} {bs : Nat} (E : Elt K t e bs) {o : Oper} {a : Act} {w : World} {Kt : Act -> World -> Prop} {Q : Exit -> Act -> World -> Prop} (s x : Operand)
  (ho : o.op = .call { callee := .builtin .append, args := #[s, x], argTypes := #[t, t] })
  (base : Nat) (v : Value) (n : Nat) (xs : List Value) (hs : a.eval s = v) (hown : w.ownsRow base e 1 v n xs)
  (ad : Option Addr) (c len : Nat) (L : List Int) (hlen : L.length = len) (hx : a.eval x = .slice ad len c) (hL : Ls K w ad c L)
  (hb : n + len <= 1048576) (hbase : base <= w.heap.size)
  (h : ∀ v' w', w'.ownsRow base e 1 v' (n + len) (xs ++ iv K L) -> w.grownBy w' v.ownBlock -> Kt (a.put o.dst v') w') :
  Oper.wp prog o a w Kt Q := by
 obtain ⟨v', w', h1, h2, h3⟩ := xU_ E w o.type base v n xs hown ad c len L hlen hL hb hbase
 exact Xb32
theorem zB_ {K : IntKind} {t e : TypeId} {bs : Nat} (E : Elt K t e bs) {ops : Array Oper} {rest : List Oper} {o : Oper} {a : Act} {w : World} {Q : Exit -> Act -> World -> Prop} (hgd : o.guard = none) (s x : Operand)
  (ho : o.op = .call { callee := .builtin .append, args := #[s, x], argTypes := #[t, t] })
  (base : Nat) (v : Value) (n : Nat) (xs : List Value) (hs : a.eval s = v) (hown : w.ownsRow base e 1 v n xs)
  (ad : Option Addr) (c len : Nat) (L : List Int) (hlen : L.length = len) (hx : a.eval x = .slice ad len c) (hL : Ls K w ad c L)
  (hb : n + len <= 1048576) (hbase : base <= w.heap.size)
  (h : ∀ v' w', w'.ownsRow base e 1 v' (n + len) (xs ++ iv K L) -> w.grownBy w' v.ownBlock -> wpList prog ops Q rest (a.put o.dst v') w') :
  wpList prog ops Q (o :: rest) a w :=
 wpList_plain hgd fun Kt hK => Qt_ E s x ho base v n xs hs hown ad c len L hlen hx hL hb hbase fun v' w' h1 h2 => hK _ _ (h v' w' h1 h2)
theorem Ls.lo {K : IntKind} {t e : TypeId} {bs : Nat} (E : Elt K t e bs) {W : World} {a : Option Addr} {cap : Nat} {L : List Int} (h : Ls K W a cap L) (n i : Nat) (hn : L.length = n) (hi : i <= n) :
  ∃ a' c', (∀ W', (Instr.slice t (.slice a n cap) (some (.int .i64 (i : Int))) .none .none).run prog W' = .ok (.slice a' (n - i) c') W') /\ Ls K W a' c' (L.drop i) := by
 subst hn
 have hle := h.le
 obtain ⟨i0, hi0, hz0, hz1, hz2⟩ := info_parts E.inf
 have hel : prog.elem t = e := by simp [Program.elem, E.ut]
 refine ⟨if cap = i then a else a.map (·.add (i * 1)), cap - i, fun W' => ?_, ?_, ?_, by rw [List.length_drop]; omega⟩
 ·rw [run_slice_l (P := prog) (w := W') t a L.length cap (by rw [hel]; exact E.ut) .i64 i Xt0 Xt0]
  have hs : ((sizeOf (prog.elem t)).run prog W') = .ok 1 W' := by rw [hel]; simp [sizeOf, typeInfo, hi0, hz1]
  rw [hs]
  rfl
 ·by_cases hz : L.length = i
  ·rw [List.drop_of_length_le Xt0]; exact Rd.nil _ _ _
  ·obtain ⟨b, off, e, _⟩ := h.rd 0 Xt0
   subst e
   have hd := h.rd.drop i
   rw [if_neg Xt0]
   by_cases h0 : i = 0
   ·subst h0; simpa [Addr.add] using hd
   ·simpa [Addr.add, h0] using hd
 ·intro e
  have ha : a = .none := by
   by_cases hc : cap = i
   ·rwa [if_pos hc] at e
   ·rw [if_neg hc] at e; simpa using e
  obtain ⟨h1, h2⟩ := h.nl ha
  rw [h1, h2]; simp
theorem zA_ (w : World) (a : Option Addr) (n cap : Nat) (L : List Int) (hn : L.length = n) (h : Rd .u8 w a L) : (convert 42 9 (.slice a n cap)).run prog w = .ok (.string (strOfNums L)) w := by
 subst hn
 by_cases h0 : L.length = 0
 ·have : L = [] := List.length_eq_zero_iff.1 h0
  subst this
  simp only [List.length_nil]
  cases a with
  | none => exact run_convert_bytes_nil w 42 5 underlying42 underlying5 0 cap 9 underlying9
  | some a =>
   rw [run_convert_bytes_string w 42 9 5 _ 0 cap underlying42 underlying5 underlying9, run_bytesToString w a 0 cap [] (run_loadCells_list w a [] (fun j v hj => by simp at hj))]
   rfl
 ·obtain ⟨b, off, rfl, _⟩ := h 0 Xt0
  refine run_convert_bytes_arg w 42 5 underlying42 underlying5 b off _ cap L rfl (fun i hi => ?_) 9 underlying9
  obtain ⟨b', off', e, hc⟩ := h i hi
  cases e
  exact hc
def Byt (L : List Int) : Prop := ∀ x ∈ L, 0 <= x /\ x <= 255
theorem qh_ {a b : List Int} (ha : Byt a) (hb : Byt b) (h : strOfNums a = strOfNums b) : a = b := by
 have h1 : (strOfNums a).data.toList = (strOfNums b).data.toList := by rw [h]
 rw [strOfNums_data, strOfNums_data] at h1
 have hinj : ∀ (l m : List Int), Byt l -> Byt m -> (l.map fun n => UInt8.ofNat n.toNat) = (m.map fun n => UInt8.ofNat n.toNat) -> l = m := by
  intro l
  induction l with
  | nil => intro m _ _ h; cases m with
   | nil => rfl
   | cons => simp at h
  | cons x r ih => intro m hl hm h; cases m with
   | nil => simp at h
   | cons y s =>
    simp only [List.map_cons, List.cons.injEq] at h
    have hx := hl x Xt5
    have hy := hm y Xt5
    have e : x.toNat = y.toNat := by
     have := congrArg UInt8.toNat h.1
     simp only [UInt8.toNat_ofNat'] at this
     omega
    rw [show x = y by omega, ih s (fun z hz => hl z (by simp [hz])) (fun z hz => hm z (by simp [hz])) h.2]
 exact hinj a b ha hb h1
theorem Byt.append {a b : List Int} (ha : Byt a) (hb : Byt b) : Byt (a ++ b) := fun x hx => (List.mem_append.1 hx).elim (ha x) (hb x)
theorem Byt.get {a : List Int} (ha : Byt a) (k : Nat) (hk : k < a.length) : 0 <= a.getD k 0 /\ a.getD k 0 <= 255 := by
 rw [show a.getD k 0 = a[k] by simp [List.getD, List.getElem?_eq_getElem hk]]; exact ha _ (List.getElem_mem hk)
theorem y6_ (L : List Int) (k : Nat) (hk : k < L.length) : L.take (k + 1) = L.take k ++ [L.getD k 0] := by
 rw [List.take_succ_eq_append_getElem hk]
 congr 2
 simp [List.getD, List.getElem?_eq_getElem hk]
def IsRow (k : IntKind) (w : World) (a : Option Addr) (len cap : Nat) (zs : List Int) : Prop :=
 (a = none /\ len = 0 /\ cap = 0 /\ zs = []) ∨
 ∃ x, a = some x /\ len <= cap /\ cap <= maxLen /\ zs.length = cap /\ (∀ i, i < zs.length -> w.cell? (x.add i) = some (.int k (zs.getD i 0))) /\ ∀ n ∈ zs, (Lit.int k n).wf = true
theorem IsRow.ls {K : IntKind} {w : World} {a : Option Addr} {len cap : Nat} {zs : List Int} (h : IsRow K w a len cap zs) : Ls K w a cap (zs.take len) /\ (zs.take len).length = len := by
 rcases h with ⟨rfl, rfl, rfl, rfl⟩ | ⟨y, rfl, hlc, _, hz, hcell, _⟩
 ·exact ⟨Ls.nul _ _, rfl⟩
 ·have hl : (zs.take len).length = len := by rw [List.length_take]; omega
  refine ⟨⟨fun k hk => ?_, fun e => (by cases e), by omega⟩, hl⟩
  have hk' : k < len /\ k < zs.length := by simp at hk; omega
  obtain ⟨b, off, spot⟩ := y
  have hc0 := hcell 0 Xt0
  have hspot : spot = none := by simpa [Addr.add] using World.cell?_spot hc0
  subst hspot
  have hc := hcell k hk'.2
  rw [zE_] at hc
  exact ⟨b, off, rfl, by rw [hc]; simp [List.getD, List.getElem?_take, hk'.1]⟩
theorem qx_ (a : Option Addr) (n cap : Nat) (w : World) : Calls prog 89 #[.slice a n cap] w fun r w' => r = .returned (.bool (decide (n <= 24))) /\ w = w' := by
 by_cases h : n <= 24
 ·rw [decide_eq_true h]
  have hi : (n : Int) <= 24 := by omega
  go_enter func89, ntmps89
  exact Xb30
 ·rw [decide_eq_false h]
  have hi : ¬ (n : Int) <= 24 := by omega
  go_enter func89, ntmps89
  exact Xb30
def yz_ (n : Nat) : Bool := decide (1 <= n /\ n <= 32)
theorem zN_ (a : Option Addr) (n cap : Nat) (w : World) : Calls prog 53 #[.slice a n cap] w fun r w' => r = .returned (.bool (yz_ n)) /\ w = w' := by
 unfold yz_
 rcases (show n < 1 ∨ (1 <= n /\ n <= 32) ∨ (1 <= n /\ ¬ n <= 32) by omega) with h | ⟨h1, h2⟩ | ⟨h1, h2⟩
 ·rw [decide_eq_false Xt0]
  have hi : ¬ (1 : Int) <= (n : Int) := by omega
  go_enter func53, ntmps53
  exact Xb30
 ·rw [decide_eq_true Xt0]
  have hi : (1 : Int) <= (n : Int) := by omega
  have hj : (n : Int) <= 32 := by omega
  go_enter func53, ntmps53
  exact Xb30
 ·rw [decide_eq_false Xt0]
  have hi : (1 : Int) <= (n : Int) := by omega
  have hj : ¬ (n : Int) <= 32 := by omega
  go_enter func53, ntmps53
  exact Xb30
def esc (x : Int) : List Int := if x = 0 then [0, 255] else [x]
def zk_ : List Int -> List Int
 | [] => []
 | x :: r => esc x ++ zk_ r
theorem ya_ : ∀ a b : List Int, zk_ (a ++ b) = zk_ a ++ zk_ b
 | [], _ => rfl
 | x :: r, b => by simp only [List.cons_append, zk_, ya_ r b, List.append_assoc]
theorem xt_ (x : Int) : zk_ [x] = esc x := by simp [zk_]
theorem yu_ : ∀ a : List Int, (zk_ a).length <= 2 * a.length
 | [] => by simp [zk_]
 | x :: r => by
  have := yu_ r
  simp only [zk_, List.length_append, List.length_cons, esc]
  split <;> simp <;> omega
theorem Qb_ (a : Option Addr) (L : List Int) (n cap : Nat) (hL : L.length = n) (hn : n <= 24) (w : World) (hR : Ls .u8 w a cap L) :
  Calls prog 164 #[.slice a n cap] w fun r w' => ∃ a' c', r = .returned (.tuple #[.slice a' (zk_ L).length c', .int .i64 0]) /\ Ls .u8 w' a' c' (zk_ L) /\ Below w.heap.size w w' := by
 have h := qx_ a n cap w
 rw [decide_eq_true hn] at h
 have HR := hid hR
 have HL := hid hL
 clear hR hL
 go_enter func164, ntmps164
 go_wp2_with fail
 go_step3
 go_wp2_with fail
 refine h.mono ?_; rintro e w' ⟨rfl, rfl⟩
 clear h
 go_wp2_with fail
 go_step3
 go_wp2_with fail
 go_loopw [4, 12] (fun v i wr => ∃ k : Nat, k <= n /\ i = .int .i64 k /\ wr.ownsRow w.heap.size 5 1 v (zk_ (L.take k)).length (iv .u8 (zk_ (L.take k))) /\ Below w.heap.size w wr) (fun _ i _ => n - (intOf i).toNat)
 case atStart => exact ⟨0, by omega, rfl, World.ownsRow_nil _ _ _ _, Below.refl _ _⟩
 case round =>
  obtain ⟨k, hk, rfl, hown, B⟩ := hrel
  by_cases hlt : k < n
  ·have hkl : (k : Int) < (n : Int) := by omega
   have hkL : k < L.length := by rw [HL.out]; exact hlt
   obtain ⟨b1, o1, e1, c1⟩ := (HR.out.below B).get k hkL
   subst e1
   have hs1 := B.size
   have hts := y6_ L k hkL
   have hfl := yu_ (L.take k)
   rw [List.length_take] at hfl
   obtain ⟨x, hx⟩ := gtx (L.getD k 0)
   rw [hx] at hts c1
   obtain ⟨F, hF⟩ := gtx (zk_ (L.take k))
   have hF2 : zk_ (L.take (k + 1)) = F ++ esc x := by rw [hts, ya_, hF, xt_]
   rw [hF] at hown hfl
   obtain ⟨m, hm⟩ := gtx (F.length)
   rw [hm] at hown hfl
   have HF2 := hid hF2
   have HM := hid hm
   have hm48 := hid (show m <= 48 by omega)
   have HOWN := hid hown
   clear hts hx hF hF2 hm hfl hown
   by_cases q : x = 0
   ·have t1 : (x != 0) = false := by simpa using q
    have HQ := hid (show esc x = [x] ++ [255] by rw [q]; rfl)
    clear q
    go_wp2_with (at_builtin; refine zB_ Qe_ rfl (.tmp 16) (.tmp 18) rfl w.heap.size _ m (iv .u8 F) rfl (HOWN.out.alloc _) _ _ 1 [x] rfl rfl (xd_ .u8 _ [x] _ _ _ rfl 1 rfl) Xt44 Xt7 ?_)
    intro v2 w2 hown2 hgrow2
    rw [← zM_] at hown2
    have B2 := (B.alloc hs1 _).grown hgrow2 Xt7 (fun j hj => (HOWN.out.lt j hj).1)
    have hs2 := B2.size
    have HOWN2 := hid hown2
    clear hown2 hgrow2
    go_wp2_with (at_builtin; refine zB_ Qe_ rfl (.tmp 22) (.tmp 23) rfl w.heap.size v2 (m + 1) (iv .u8 (F ++ [x])) rfl (HOWN2.out.alloc _) _ _ 1 [255] rfl rfl (xd_ .u8 _ [255] _ _ _ rfl 1 rfl) Xt44 Xt7 ?_)
    exact Xb40
   ·have t1 : (x != 0) = true := by simpa using q
    have HQ := hid (show esc x = [x] by rw [esc, if_neg q])
    clear q
    go_wp2_with (at_builtin; refine zB_ Qe_ rfl (.tmp 16) (.tmp 18) rfl w.heap.size _ m (iv .u8 F) rfl (HOWN.out.alloc _) _ _ 1 [x] rfl rfl (xd_ .u8 _ [x] _ _ _ rfl 1 rfl) Xt44 Xt7 ?_)
    intro v2 w2 hown2 hgrow2
    rw [← zM_] at hown2
    have B2 := (B.alloc hs1 _).grown hgrow2 Xt7 (fun j hj => (HOWN.out.lt j hj).1)
    have hs2 := B2.size
    have HOWN2 := hid hown2
    clear hown2 hgrow2
    exact Xb69
  ·have hkl : ¬ (k : Int) < (n : Int) := by omega
   have e : k = n := by omega
   subst e
   rw [List.take_of_length_le (by rw [HL.out]; exact Nat.le_refl _)] at hown
   obtain ⟨a', c', rfl, l', _⟩ := yv_ hown rfl
   clear hown
   obtain ⟨m, hm⟩ := gtx ((zk_ L).length)
   rw [hm]
   have HM := hid hm
   clear hm
   go_wp2_with fail
   try rw [Exit.noGoto_ret]
   go_ret2
   exact ⟨a', c', by rw [HM.out]; rfl, l', B⟩
structure P1 where
 ad : Option Addr
 cap : Nat
 bs : List Int
def P1.v (p : P1) : Value := .slice p.ad p.bs.length p.cap
def RdR (W : World) (a : Option Addr) (R : List P1) : Prop := ∀ k p, R[k]? = some p -> ∃ b off, a = some ⟨b, off, none⟩ /\ W.cell? ⟨b, off + k, none⟩ = some p.v /\ Ls .u8 W p.ad p.cap p.bs
theorem RdR.below {W W' : World} {a : Option Addr} {R : List P1} (h : RdR W a R) (hb : Below W.heap.size W W') : RdR W' a R := fun k p hp => by
 obtain ⟨b, off, e, hc, hl⟩ := h k p hp
 exact ⟨b, off, e, (hb.cell (p := ⟨b, off + k, none⟩) (World.block_lt_of_cell? W _ hc)).trans hc, hl.below hb⟩
theorem RdR.nil (W : World) (a : Option Addr) : RdR W a [] := fun k p h => by simp at h
theorem rdR_new (w : World) (R : List P1) (cs : Array Value) (t : TypeId) (fr : Nat × Nat) (h : cs = (R.map P1.v).toArray) (hl : ∀ p ∈ R, Ls .u8 w p.ad p.cap p.bs) : RdR (w.alloc (.cells cs t fr)) (some ⟨w.heap.size, 0, none⟩) R := fun k p hp => by
 refine ⟨_, _, rfl, by rw [cell_new, Nat.zero_add, h]; simp [hp], (hl p (List.mem_of_getElem? hp)).below ((Below.refl _ _).alloc (Nat.le_refl _) _)⟩
def ji_ (R : List P1) : List Int := (R.map P1.bs).flatten
theorem jh_ (R : List P1) (k : Nat) (p : P1) (h : R[k]? = some p) : ji_ (R.take (k + 1)) = ji_ (R.take k) ++ p.bs := by
 unfold ji_
 rw [List.take_add_one, h]
 simp
theorem QX_ (R : List P1) (k : Nat) : (ji_ (R.take k)).length <= (ji_ R).length := by
 have : ji_ R = ji_ (R.take k) ++ ji_ (R.drop k) := by unfold ji_; rw [← List.flatten_append, ← List.map_append, List.take_append_drop]
 rw [this, List.length_append]; omega
theorem join_own (a : Option Addr) (R : List P1) (n cap : Nat) (hn : R.length = n) (hn2 : n <= 1048576) (ht : (ji_ R).length <= 1048576) (w : World) (hR : RdR w a R) :
  Calls prog 165 #[.slice a n cap] w fun r w' => ∃ a' c', r = .returned (.slice a' (ji_ R).length c') /\ Ls .u8 w' a' c' (ji_ R) /\ w'.ownsRow w.heap.size 5 1 (.slice a' (ji_ R).length c') (ji_ R).length (iv .u8 (ji_ R)) /\ Below w.heap.size w w' := by
 have HR := hid hR
 have HN := hid hn
 have HT := hid ht
 clear hR hn ht
 go_enter func165, ntmps165
 go_wp2_with fail
 go_loopw [3, 8] (fun v i wr => ∃ k : Nat, k <= n /\ i = .int .i64 k /\ wr.ownsRow w.heap.size 5 1 v (ji_ (R.take k)).length (iv .u8 (ji_ (R.take k))) /\ Below w.heap.size w wr) (fun _ i _ => n - (intOf i).toNat)
 case atStart => exact ⟨0, by omega, rfl, World.ownsRow_nil _ _ _ _, Below.refl _ _⟩
 case round =>
  obtain ⟨k, hk, rfl, hown, B⟩ := hrel
  by_cases hlt : k < n
  ·have hkl : (k : Int) < (n : Int) := by omega
   obtain ⟨p, hp⟩ : ∃ p, R[k]? = some p := ⟨_, List.getElem?_eq_getElem Xt9⟩
   obtain ⟨b1, o1, e1, c1, l1⟩ := HR.out.below B k p hp
   subst e1
   have hF2 := jh_ R k p hp
   have hle := Nat.le_trans (QX_ R (k + 1)) HT.out
   rw [hF2, List.length_append] at hle
   obtain ⟨pa, pc, pb⟩ := p
   simp only at l1 hF2 hle
   have c2 : wr.cell? ⟨b1, o1 + k, none⟩ = some (.slice pa pb.length pc) := c1
   obtain ⟨q, hq⟩ := gtx (pb.length)
   rw [hq] at c2 hle
   obtain ⟨F, hF⟩ := gtx (ji_ (R.take k))
   rw [hF] at hown hF2 hle
   obtain ⟨m, hm⟩ := gtx (F.length)
   rw [hm] at hown hle
   have HF2 := hid hF2
   have HM := hid hm
   have HQ := hid hq
   have HLE := hid hle
   have HOWN := hid hown
   have hs1 := B.size
   clear c1 hp hF hF2 hm hq hle hown
   go_wp2_with (at_builtin; refine zB_ Qe_ rfl (.tmp 12) (.tmp 13) rfl w.heap.size _ m (iv .u8 F) rfl HOWN.out _ _ q pb HQ.out rfl l1 HLE.out hs1 ?_)
   intro v2 w2 hown2 hgrow2
   rw [← zM_] at hown2
   have B2 := B.grown hgrow2 hs1 (fun j hj => (HOWN.out.lt j hj).1)
   have HOWN2 := hid hown2
   clear hown2 hgrow2
   go_wp2_with fail
   go_roundw
   case rel => exact ⟨k + 1, by omega, by go_num, by rw [HF2.out, List.length_append, HM.out, HQ.out]; exact HOWN2.out, B2⟩
   case measure => simp [intOf]; omega
  ·have hkl : ¬ (k : Int) < (n : Int) := by omega
   have e : k = n := by omega
   subst e
   rw [List.take_of_length_le Xt77] at hown
   obtain ⟨a', c', rfl, l', fr⟩ := yv_ hown rfl
   have FR := hid hown
   clear hown fr
   obtain ⟨m, hm⟩ := gtx ((ji_ R).length)
   rw [hm]
   have HM := hid hm
   clear hm
   go_wp2_with fail
   go_ret
   exact ⟨a', c', by rw [HM.out]; rfl, l', FR.out, B⟩
def zu_ (f k : List Int) : List Int := zk_ f ++ ([0, 1] ++ k)
theorem eltI : Elt .i64 22 3 8 := ⟨underlying22, by kernel_rfl, by decide⟩
def Q7_ (R : List P1) : Bool := R.all fun p => decide (p.bs.length <= 24)
theorem Qj_ (R : List P1) : Q7_ R = true ↔ ∀ p ∈ R, p.bs.length <= 24 := by simp [Q7_]
theorem allB_not {R : List P1} {k : Nat} {p : P1} (h : R[k]? = some p) (hp : ¬ p.bs.length <= 24) : Q7_ R = false := by
 cases hb : Q7_ R
 ·rfl
 ·exact absurd ((Qj_ R).1 hb p (List.mem_of_getElem? h)) hp
theorem may1_law (i : Int) (a : Option Addr) (n cap : Nat) (w : World) : Calls prog 88 #[.int .i64 i, .slice a n cap] w fun r w' => r = .returned (.tuple #[.int .i64 0, .bool (decide (n <= 24))]) /\ w = w' := by
 have h := qx_ a n cap w
 go_enter func88, ntmps88
 go_wp2_with fail
 refine h.mono ?_; rintro e w' ⟨rfl, rfl⟩
 go_wp2_with fail
 go_ret2
 exact ⟨rfl, rfl⟩
theorem eachmay_law (a : Option Addr) (R : List P1) (n cap : Nat) (hn : R.length = n) (hn3 : n <= 1000000) (w : World) (hR : RdR w a R) :
  Calls prog 87 #[.slice a n cap, .func (.func 88) #[] #[]] w fun r w' => (∃ v, r = .returned (.tuple #[v, .bool (Q7_ R)])) /\ Below w.heap.size w w' := by
 have HR := hid hR
 have HN := hid hn
 clear hR hn
 go_enter func87, ntmps87
 go_wp2_with fail
 go_loopw [6, 13] (fun v i wr => ∃ k : Nat, k <= n /\ i = .int .i64 k /\ wr.ownsRow w.heap.size 3 1 v k (iv .i64 (List.replicate k 0)) /\ (∀ j < k, ∀ p, R[j]? = some p -> p.bs.length <= 24) /\ Below w.heap.size w wr) (fun _ i _ => n - (intOf i).toNat)
 case atStart => exact ⟨0, by omega, rfl, World.ownsRow_nil _ _ _ _, fun j hj => absurd hj Xt0, Below.refl _ _⟩
 case round =>
  obtain ⟨k, hk, rfl, hown, hpre, B⟩ := hrel
  have HP := hid hpre
  clear hpre
  by_cases hlt : k < n
  ·have hkl : (k : Int) < (n : Int) := by omega
   obtain ⟨p, hp⟩ : ∃ p, R[k]? = some p := ⟨_, List.getElem?_eq_getElem Xt9⟩
   obtain ⟨b1, o1, e1, c1, l1⟩ := HR.out.below B k p hp
   subst e1
   have c2 : wr.cell? ⟨b1, o1 + k, none⟩ = some (.slice p.ad p.bs.length p.cap) := c1
   have HPP := hid hp
   obtain ⟨q, hq⟩ := gtx (p.bs.length)
   rw [hq] at c2
   have HQ := hid hq
   have hs1 := B.size
   clear c1 hp hq l1
   by_cases hle : q <= 24
   ·have h1 := may1_law (k : Int) p.ad q p.cap wr
    rw [decide_eq_true hle] at h1
    have H1 := hid h1
    have HLE := hid hle
    have HOWN := hid hown
    clear h1 hle hown
    go_wp2_with fail
    refine H1.out.mono ?_; rintro e w' ⟨rfl, rfl⟩
    go_wp2_with (at_builtin; refine zB_ eltI rfl (.tmp 28) (.tmp 30) rfl w.heap.size _ k (iv .i64 (List.replicate k 0)) rfl (HOWN.out.alloc _) _ _ 1 [0] rfl rfl (xd_ .i64 _ [0] _ _ _ rfl 1 rfl) Xt0 Xt7 ?_)
    intro v2 w3 hown3 hgrow3
    rw [← zM_, show List.replicate k (0 : Int) ++ [0] = List.replicate (k + 1) 0 from (List.replicate_succ' ..).symm] at hown3
    have B4 := (B.alloc hs1 _).grown hgrow3 Xt7 (fun j hj => (HOWN.out.lt j hj).1)
    have HOWN3 := hid hown3
    clear hown3 hgrow3
    go_wp2_with fail
    go_roundw
    case rel => exact ⟨k + 1, by omega, by go_num, HOWN3.out, jstep HP.out (fun p' hp' => by have := HPP.out; rw [hp'] at this; cases this; rw [HQ.out]; exact HLE.out), B4⟩
    case measure => simp [intOf]; omega
   ·have h1 := may1_law (k : Int) p.ad q p.cap wr
    rw [decide_eq_false hle] at h1
    have H1 := hid h1
    have HA := hid (allB_not HPP.out (by rw [HQ.out]; exact hle))
    clear h1 hle hown
    go_wp2_with fail
    refine H1.out.mono ?_; rintro e w' ⟨rfl, rfl⟩
    go_wp2_with fail
    go_ret2
    exact ⟨⟨_, by rw [HA.out]; rfl⟩, B⟩
  ·have hkl : ¬ (k : Int) < (n : Int) := by omega
   have HA := hid (show Q7_ R = true from (Qj_ R).2 fun p hp => by
    obtain ⟨j, hj, e⟩ := List.mem_iff_getElem.1 hp
    exact HP.out j (by have := HN.out; omega) p (by rw [List.getElem?_eq_getElem hj, e]))
   clear hown
   go_wp2_with fail
   go_ret2
   exact ⟨⟨_, by rw [HA.out]; rfl⟩, B⟩
def yU_ (R : List P1) : Bool := Q7_ R && decide (1 <= R.length /\ R.length <= 3)
theorem x2_ (a : Option Addr) (R : List P1) (n cap : Nat) (hn : R.length = n) (hn3 : n <= 1000000) (w : World) (hR : RdR w a R) :
  Calls prog 54 #[.slice a n cap] w fun r w' => r = .returned (.bool (yU_ R)) /\ Below w.heap.size w w' := by
 have h := eachmay_law a R n cap hn hn3 w hR
 have H := hid h
 unfold yU_
 rw [hn]
 clear h
 cases hb : Q7_ R
 ·rw [hb] at H
  clear hb
  exact Xb45
 ·rw [hb] at H
  clear hb
  rcases (show n < 1 ∨ (1 <= n /\ n <= 3) ∨ (1 <= n /\ ¬ n <= 3) by omega) with q | ⟨q1, q2⟩ | ⟨q1, q2⟩
  ·rw [decide_eq_false Xt0]
   have hi : ¬ (1 : Int) <= (n : Int) := by omega
   exact Xb45
  ·rw [decide_eq_true Xt0]
   have hi : (1 : Int) <= (n : Int) := by omega
   have hj : (n : Int) <= 3 := by omega
   exact Xb45
  ·rw [decide_eq_false Xt0]
   have hi : (1 : Int) <= (n : Int) := by omega
   have hj : ¬ (n : Int) <= 3 := by omega
   go_enter func54, ntmps54
   go_wp2_with fail
   refine H.out.mono ?_; rintro e w' ⟨⟨v, rfl⟩, B⟩
   go_wp2_with fail
   go_ret
   exact ⟨zc_ Xt7, B⟩
theorem xs_ (R : List P1) : yU_ R = true ↔ (∀ p ∈ R, p.bs.length <= 24) /\ 1 <= R.length /\ R.length <= 3 := by
 rw [yU_, Bool.and_eq_true, Qj_, decide_eq_true_eq]
section
variable {H : Type} {enc : TypeId × Value -> H} {w : World} {base : Nat} {held : Bool} {d : DataW H} {ps : List MemPlace}
end
theorem kc2 (w : World) (a : Option Addr) (n cap : Nat) (L : List Int) (hn : L.length = n) (h : Ls .u8 w a cap L) : (convert 42 9 (.slice a n cap)).run prog w = .ok (.string (strOfNums L)) w := zA_ w a n cap L hn h.rd
def eqB (R S : List P1) : Bool := decide (R.map P1.bs = S.map P1.bs)
theorem eqB_len {R S : List P1} (h : R.length ≠ S.length) : eqB R S = false := decide_eq_false fun e => h (by simpa using congrArg List.length e)
theorem eqB_take {R S : List P1} {n : Nat} (hn : R.length = n) (hm : S.length = n) (h : ∀ j < n, ∀ p q, R[j]? = some p -> S[j]? = some q -> p.bs = q.bs) : eqB R S = true := decide_eq_true (by
 apply List.ext_getElem
 ·simp [hn, hm]
 ·intro i h1 h2
  simp at h1 h2
  simp
  exact h i Xt0 _ _ (List.getElem?_eq_getElem h1) (List.getElem?_eq_getElem h2))
theorem eqB_not {R S : List P1} {k : Nat} {p q : P1} (hp : R[k]? = some p) (hq : S[k]? = some q) (h : p.bs ≠ q.bs) : eqB R S = false := decide_eq_false fun e => h (by
 have := congrArg (fun l : List (List Int) => l[k]?) e
 simpa [hp, hq] using this)
theorem Ls.drewN {K : IntKind} {W : World} {a : Option Addr} {cap : Nat} {L : List Int} (h : Ls K W a cap L) {n : Nat} : Ls K (W.drewN n) a cap L := ⟨h.rd, h.nl, h.le⟩
theorem zl_ {m : Nat} {w W : World} (h : Below m w W) (n : Nat) : Below m w (W.drewN n) := ⟨h.os, h.tape, h.output, h.size, h.block⟩
theorem y8_ (a b : Option Addr) (R S : List P1) (n m ca cb : Nat) (hn : R.length = n) (hm : S.length = m) (hn3 : n <= 1000000) (bR : ∀ p ∈ R, Byt p.bs) (bS : ∀ p ∈ S, Byt p.bs) (w : World) (hR : RdR w a R) (hS : RdR w b S) :
  Calls prog 20 #[.slice a n ca, .slice b m cb] w fun r w' => r = .returned (.bool (eqB R S)) /\ Below w.heap.size w w' := by
 by_cases h : n = m
 ·subst h
  have HR := hid hR
  have HS := hid hS
  have HN := hid hn
  have HM := hid hm
  have BR := hid bR
  have BS := hid bS
  clear hR hn hS hm bR bS
  go_enter func20, ntmps20
  go_wp2_with fail
  go_loopw [5] (fun i wr => ∃ k : Nat, k <= n /\ i = .int .i64 k /\ (∀ j < k, ∀ p q, R[j]? = some p -> S[j]? = some q -> p.bs = q.bs) /\ Below w.heap.size w wr) (fun i _ => n - (intOf i).toNat)
  case atStart => exact ⟨0, by omega, rfl, fun j hj => absurd hj Xt0, Below.refl _ _⟩
  case round =>
   obtain ⟨k, hk, rfl, hpre, B0⟩ := hrel
   have HP := hid hpre
   have BB := hid B0
   clear hpre B0
   by_cases hlt : k < n
   ·have hkl : (k : Int) < (n : Int) := by omega
    have hk9 : (k : Int) <= 1000000 := by omega
    obtain ⟨p, hp⟩ : ∃ p, R[k]? = some p := ⟨_, List.getElem?_eq_getElem Xt9⟩
    obtain ⟨q, hq⟩ : ∃ q, S[k]? = some q := ⟨_, List.getElem?_eq_getElem (by rw [HM.out]; exact hlt)⟩
    obtain ⟨b1, o1, e1, c1, l1⟩ := HR.out.below BB.out k p hp
    obtain ⟨b2, o2, e2, c2, l2⟩ := HS.out.below BB.out k q hq
    subst e1 e2
    have q1 : ∀ n, (convert 42 9 (.slice p.ad p.bs.length p.cap)).run prog (wr.drewN n) = .ok (.string (strOfNums p.bs)) (wr.drewN n) := fun n => kc2 (wr.drewN n) p.ad p.bs.length p.cap p.bs rfl l1.drewN
    have q2 : ∀ n, (convert 42 9 (.slice q.ad q.bs.length q.cap)).run prog (wr.drewN n) = .ok (.string (strOfNums q.bs)) (wr.drewN n) := fun n => kc2 (wr.drewN n) q.ad q.bs.length q.cap q.bs rfl l2.drewN
    have d1 : wr.cell? ⟨b1, o1 + k, none⟩ = some (.slice p.ad p.bs.length p.cap) := c1
    have d2 : wr.cell? ⟨b2, o2 + k, none⟩ = some (.slice q.ad q.bs.length q.cap) := c2
    have BP := hid (BR.out p (List.mem_of_getElem? hp))
    have BQ := hid (BS.out q (List.mem_of_getElem? hq))
    have HPP := hid hp
    have HQQ := hid hq
    clear c1 c2 hp hq l1 l2
    by_cases hle : p.bs = q.bs
    ·rw [← hle] at q2 d2
     have HLE := hid hle
     clear hle
     go_wp2_with fail
     go_quiet (fail)
     go_wp2_with fail
     go_roundw
     case rel => exact ⟨k + 1, by omega, by go_num, jstep HP.out (fun p' q' hp' hq' => by have h1 := HPP.out; have h2 := HQQ.out; rw [hp'] at h1; rw [hq'] at h2; cases h1; cases h2; exact HLE.out), zl_ BB.out _⟩
     case measure => simp [intOf]; omega
    ·have hs : ((strOfNums p.bs).toList == (strOfNums q.bs).toList) = false := by
      rw [beq_eq_false_iff_ne]
      intro e
      rw [Lib.strOfNums_toList, Lib.strOfNums_toList] at e
      exact hle (qh_ BP.out BQ.out (ByteArray.ext (Array.toList_inj.1 (by rw [strOfNums_data, strOfNums_data]; exact e))))
     have HA := hid (eqB_not HPP.out HQQ.out hle)
     clear hle
     go_wp2_with fail
     go_quiet (fail)
     go_wp2_with fail
     go_ret
     exact ⟨zc_ HA.out.symm, zl_ BB.out _⟩
   ·have hkl : ¬ (k : Int) < (n : Int) := by omega
    have HA := hid (eqB_take HN.out HM.out (fun j hj => HP.out j Xt0))
    go_wp2_with fail
    go_ret
    exact ⟨zc_ HA.out.symm, BB.out⟩
 ·have hne : ((n : Int) != (m : Int)) = true := by simp; omega
  rw [eqB_len Xt0]
  clear h hn hm bR bS hR hS
  go_enter func20, ntmps20
  exact Xb99
theorem Q4_ (a : Option Addr) (L : List Int) (n cap : Nat) (hL : L.length = n) (hn : n <= 1000000) (w : World) (hA : Ls .u8 w a cap L) :
  Calls prog 92 #[.slice a n cap] w fun r w' => ∃ a' c', r = .returned (.slice a' n c') /\ Ls .u8 w' a' c' L /\ Below w.heap.size w w' := by
 have HA := hid hA
 have HL := hid hL
 rcases a with _ | a
 ·obtain ⟨rfl, rfl⟩ := hA.nl rfl
  simp only [List.length_nil] at hL
  subst hL
  have hsn : ∀ W, (binOp .eql 42 (.slice none 0 0) (.slice none 0 0)).run prog W = .ok (.bool true) W := fun W => Lib.run_eql_slice_nil W 42 5 none 0 0 0 0 underlying42
  clear hA
  go_enter func92, ntmps92
  go_wp2_with fail
  go_ret
  exact ⟨none, 0, rfl, Ls.nul _ _, Below.refl _ _⟩
 ·clear hA hL
  have hsn : ∀ W, (binOp .eql 42 (.slice (some a) n cap) (.slice none 0 0)).run prog W = .ok (.bool false) W := fun W => Lib.run_eql_slice_nil W 42 5 (some a) n cap 0 0 underlying42
  go_enter func92, ntmps92
  go_wp2_with (at_builtin; refine zB_ Qe_ rfl (.tmp 5) (.tmp 6) rfl w.heap.size _ 0 [] rfl (World.ownsRow_lit w #[] 0 (Nat.le_refl _) Xt4 rfl) _ _ n L HL.out rfl (HA.out.below ((Below.refl _ _).alloc (Nat.le_refl _) _)) Xt0 Xt5 ?_)
  intro v2 w2 hown2 hgrow2
  have B2 := ((Below.refl w.heap.size w).alloc (Nat.le_refl _) _).grown hgrow2 Xt5 Xt55
  obtain ⟨a', c', rfl, l', _⟩ := yv_ hown2 HL.out
  clear hown2 hgrow2
  go_wp2_with fail
  go_ret
  exact ⟨a', c', rfl, l', B2⟩
def z7_ : List Int -> List Int -> Option (List Int × List Int)
 | _, [] => none
 | _, [_] => none
 | f, x :: y :: s => if x = 0 then (if y = 1 then (if f.length <= 24 /\ yz_ s.length = true then some (f, s) else none) else if y = 255 then z7_ (f ++ [0]) s else none) else z7_ (f ++ [x]) (y :: s)
def spV (o : Option (List Int × List Int)) : List Int × List Int × Int := match o with
 | some (f, k) => (f, k, 0)
 | none => ([], [], 4)
def yZ_ (L : List Int) : List Int × List Int × Int := spV (z7_ [] L)
theorem Q1_ (L : List Int) (k : Nat) (h : k < L.length) : L.drop k = L.getD k 0 :: L.drop (k + 1) := by
 rw [List.drop_eq_getElem_cons h]
 congr 1
 simp [List.getD, List.getElem?_eq_getElem h]
theorem jp_ (f : List Int) (L : List Int) (h : L.length <= 1) : z7_ f L = none := by
 match L, h with
 | [], _ => rfl
 | [_], _ => rfl
 | _ :: _ :: _, h => simp at h
theorem splitL_go (f : List Int) (x : Int) (r : List Int) (hx : x ≠ 0) : z7_ f (x :: r) = z7_ (f ++ [x]) r := by
 cases r with
 | nil => rfl
 | cons y s => rw [z7_, if_neg hx]
def wv (B : List Int) (j : Nat) : Int := B.getD (8 * j) 0 * 72057594037927936 + B.getD (8 * j + 1) 0 * 281474976710656 + B.getD (8 * j + 2) 0 * 1099511627776 + B.getD (8 * j + 3) 0 * 4294967296 + B.getD (8 * j + 4) 0 * 16777216 + B.getD (8 * j + 5) 0 * 65536 + B.getD (8 * j + 6) 0 * 256 + B.getD (8 * j + 7) 0
def mw (n : Nat) (L : List Int) (k j : Nat) : Int := if j = 0 then (n : Int) else wv (L.take k) (j - 1)
structure Mw (W : World) (g n c : Nat) (L : List Int) (k : Nat) : Prop where
 cell : ∀ j < 1 + c, W.cell? ⟨g, j, none⟩ = some (.int .u64 (mw n L k j))
 free : ∀ j < 1 + c, W.frozen? ⟨g, j, none⟩ = false
structure Rdr (W : World) (B : Nat) (ad : Option Addr) (cap n : Nat) (L : List Int) (at_ : Nat) : Prop where
 len : L.length = n
 c0 : W.cell? ⟨B, 0, none⟩ = some (.slice ad n cap)
 c1 : W.cell? ⟨B, 1, none⟩ = some (.int .i64 (at_ : Int))
 c2 : W.cell? ⟨B, 2, none⟩ = some (.bool true)
 f0 : W.frozen? ⟨B, 0, none⟩ = false
 f1 : W.frozen? ⟨B, 1, none⟩ = false
 f2 : W.frozen? ⟨B, 2, none⟩ = false
 ls : ∀ W', (∀ k b off, ad = some ⟨b, off, none⟩ -> W'.cell? ⟨b, off + k, none⟩ = W.cell? ⟨b, off + k, none⟩) -> Ls .u8 W' ad cap L
 le : at_ <= n
 apart : ∀ b off, ad = some ⟨b, off, none⟩ -> b < B
theorem xZ_ {w : World} {b b' n size : Nat} {e : TypeId} {v : Value} {xs : List Value} (hb : b <= b') (h : w.ownsRow b' e size v n xs) : w.ownsRow b e size v n xs :=
 ⟨h.1, h.2.imp id fun ⟨g, cap, cur, e1, e2, e3⟩ => ⟨g, cap, cur, e1, Nat.le_trans hb e2, e3⟩⟩
theorem QL_ {w : World} {b1 b2 n m s1 s2 : Nat} {e1 e2 : TypeId} {v u : Value} {xs ys : List Value} (h : w.ownsRow b1 e1 s1 v n xs) (k : w.ownsRow b2 e2 s2 u m ys) (hne : e1 ≠ e2) : v.ownBlock = none ∨ v.ownBlock ≠ u.ownBlock := by
 rcases h.2 with ⟨rfl, _⟩ | ⟨g, cap, cur, rfl, _, hg, _⟩
 ·exact .inl rfl
 ·refine .inr fun e => ?_
  rcases k.2 with ⟨rfl, _⟩ | ⟨g2, cap2, cur2, rfl, _, hg2, _⟩
  ·cases e
  ·have e' : g = g2 := by simpa [Value.ownBlock] using e
   subst e'
   rw [hg] at hg2
   simp at hg2
   exact hne hg2.2
end Go.Proofs.YthmofoldmdafoaaGreat
