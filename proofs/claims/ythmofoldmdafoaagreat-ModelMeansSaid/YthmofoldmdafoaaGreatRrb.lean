/- ModelReads: a transaction that reads alone writes nothing, and is answered the same again and again; for every input. Part 2. -/
import Derived.Test.YthmofoldmdafoaaGreatRra
import Derived.BigRegionIn
import Derived.WalkMore
import Derived.Maps.Own
import Derived.Maps.OwnOps
import Derived.Maps.OwnSet
import Derived.Maps.RangeWalk
import Derived.RangeFuncBox
import Derived.Deep.MidRow
import Derived.Deep.WholeRow
import Derived.BigQuiet
import Derived.Laws.BitsAllLaws
import Derived.IntWalk
import Derived.Test.YthmofoldmdafoaaGreatRows
import Derived.WalkKit
import Derived.ProofKit
import Derived.Outline
import Derived.WalkLawsBesides
import Derived.WalkSpells
import Derived.Lib.Hide
import Derived.Below
import Derived.WalkSmall
import Derived.BigRegion
import Derived.Laws.Rows
import Derived.RangeFuncNested
import Derived.RangeFuncBound
import Derived.RangeFuncCalls
import Derived.RangeFuncLeaves
import Derived.Shelf.Abstract
import Derived.Shelf.RegionOpen
import Derived.OwnWalkIn
import Derived.TacticsInMore
import Derived.LoopNIn
import Derived.LoopIn
import Derived.Deep.DeepCutAuto
import Derived.Deep.CutBlock
import Derived.OrdersHeld
import Derived.Deep.RegionHeld
import Derived.KernelRfl
import Derived.Maps.AppendAt
namespace Go.Proofs.YthmofoldmdafoaaGreat
open Go.ChangeShapes Go.WideShapes Go.ChangeAt Go.RowKit Go.Shelf
set_option linter.unusedVariables false
set_option linter.unusedSimpArgs false
attribute [local go_sem] Oper.semAt_some

theorem named_len (j : Job) (h : j.T.length = j.n) : (named j).length ≤ 12 := by
  by_cases ho : okB j = true
  · rw [named_ok ho]
    have h1 := nmL_len j.T j.T.length 0 (Nat.le_refl _) (okB_T ho)
    rw [List.take_length] at h1
    have := (okB_n ho).2
    omega
  · rw [named_no (by simpa using ho)]; simp
theorem boxed_below {W W' : World} {B : Nat} {t : TypeId} {v : Value} (h : Boxed W B t v) (hb : Below W.heap.size W W') : Boxed W' B t v := (hb.block B h.lt).trans h
end Go.Proofs.YthmofoldmdafoaaGreat
namespace Go.Proofs.YthmofoldmdafoaaGreat
open Go.ChangeShapes Go.WideShapes Go.ChangeAt Go.RowKit Go.Shelf
set_option linter.unusedVariables false
set_option linter.unusedSimpArgs false
attribute [local go_sem] Oper.semAt_some

theorem wpIn_scope {n : Nat} {P : Program} {c : Code} {Q : Exit → Act → World → Prop} {a : Act} {w : World} (h : c.wpIn Fence.wide n P (Exit.noGoto Q) a w) : (Code.scope c).wpIn Fence.wide n P Q a w :=
  wpIn_wide.2 (wp_scope_straight (wpIn_wide.1 h))
theorem istree_law (k t i a b : Int) (P1 P2 : Nat) (w : World) (h1 : Boxed w P1 3 (.int .i64 a)) (h2 : Boxed w P2 3 (.int .i64 b)) :
    Calls Tryz.prog 117 #[.int .i64 k, .agg #[.int .i64 t, .int .i64 i], .pointer (some ⟨P1, 0, none⟩), .pointer (some ⟨P2, 0, none⟩)] w fun r w' => r = .returned (.bool (decide (t = a ∧ i = b))) ∧ Below w.heap.size w w' := by
  have l1 := h1.lt
  have l2 := h2.lt
  have c1 := h1.cell
  have c2 := h2.cell
  clear h1 h2
  by_cases e1 : t = a <;> by_cases e2 : i = b
  all_goals
    go_enter Tryz.func117, Tryz.ntmps117
    go_wp2
    go_ret
    exact ⟨ret_bool (by simp [e1, e2]), (Below.refl _ _).alloc (Nat.le_refl _) _⟩
def firstV (p : Tr → Bool) : List Tr → Int × Int × Int × Bool
  | [] => (0, 0, 0, false)
  | x :: r => if p x then ((x.1 : Int), x.2.1, x.2.2, true) else firstV p r
theorem firstV_none {p : Tr → Bool} : ∀ {l : List Tr}, (∀ x ∈ l, p x = false) → firstV p l = (0, 0, 0, false)
  | [], _ => rfl
  | x :: r, h => by rw [firstV, if_neg (by rw [h x (by simp)]; simp)]; exact firstV_none fun y hy => h y (by simp [hy])
theorem firstV_some {p : Tr → Bool} {x : Tr} {t : List Tr} (hx : p x = true) : ∀ {l : List Tr}, (∀ y ∈ l, p y = false) → firstV p (l ++ [x] ++ t) = ((x.1 : Int), x.2.1, x.2.2, true)
  | [], _ => by simp [firstV, hx]
  | y :: r, h => by
    simp only [List.cons_append, firstV, if_neg (show ¬ p y = true by rw [h y (by simp)]; simp)]
    exact firstV_some hx fun z hz => h z (by simp [hz])
theorem BoxC.kept {W W' : World} {B : Nat} {cs : Array Value} {t : TypeId} {row : Option Nat} (h : BoxC W B cs t) (hg : W.grownBy W' row) (hne : some B ≠ row) : BoxC W' B cs t := (hg.block B h.lt hne).trans h
theorem BoxC.alloc {W : World} {B : Nat} {cs : Array Value} {t : TypeId} (h : BoxC W B cs t) (o : Obj) : BoxC (W.alloc o) B cs t := h.kept (World.grownBy_alloc W o none) (by simp)
theorem BoxC.own {B : Nat} {cs : Array Value} {t : TypeId} {W W' : World} {row : Option Nat} (h : BoxC W B cs t) (hg : W.grownBy W' row) (hr : ∀ r, row = some r → ∃ o : Obj, W.heap[r]? = some o ∧ o.isCells = false) : BoxC W' B cs t :=
  h.kept hg (fun e => by obtain ⟨o, ho, hc⟩ := hr B e.symm; rw [show W.heap[B]? = _ from h] at ho; cases ho; cases hc)
theorem BoxC.frozen {W : World} {B : Nat} {cs : Array Value} {t : TypeId} (h : BoxC W B cs t) (i : Nat) : W.frozen? ⟨B, i, none⟩ = false := by simp [World.frozen?, show W.heap[B]? = _ from h]
theorem BoxC.oth {W : World} {B B' o : Nat} {cs : Array Value} {t : TypeId} {u : Value} (hne : B ≠ B') (h : BoxC W B cs t) : BoxC (W.setCell ⟨B', o, none⟩ u) B cs t := (Below.heap_setCell W ⟨B', o, none⟩ u B hne).trans h
theorem BoxC.set1 {W : World} {B : Nat} {t : TypeId} {v v' : Value} (h : BoxC W B #[v] t) : BoxC (W.setCell ⟨B, 0, none⟩ v') B #[v'] t := Boxed.set v' h
theorem BoxC.set2 {W : World} {B : Nat} {t : TypeId} {a b x y : Value} (h : BoxC W B #[a, b] t) : BoxC ((W.setCell ⟨B, 0, none⟩ x).setCell ⟨B, 1, none⟩ y) B #[x, y] t := by
  have h1 : BoxC (W.setCell ⟨B, 0, none⟩ x) B #[x, b] t := by
    obtain ⟨hlt, hk⟩ := Array.getElem?_eq_some_iff.1 h
    show (W.heap.modify B _)[B]? = _
    rw [Array.getElem?_eq_getElem (by rw [Array.size_modify]; exact hlt), Array.getElem_modify_self, hk]
    rfl
  obtain ⟨hlt, hk⟩ := Array.getElem?_eq_some_iff.1 h1
  show ((W.setCell ⟨B, 0, none⟩ x).heap.modify B _)[B]? = _
  rw [Array.getElem?_eq_getElem (by rw [Array.size_modify]; exact hlt), Array.getElem_modify_self, hk]
  rfl
theorem KeepsFrom.drw {B : Nat} {W X : World} (h : KeepsFrom B W X) : KeepsFrom B W X.drew := h.trans (KeepsFrom.of_grownBy (grown_below' ((Below.refl X.heap.size X).drew)) (fun j e => by cases e))
/-- While nothing was found. -/
structure FI (p : Tr → Bool) (F N O R U : Nat) (fv : Value) (pre : List Tr) (W : World) : Prop where
  no : ∀ x ∈ pre, p x = false
  bF : BoxC W F #[.int .i64 0] 3
  bN : BoxC W N #[.int .i64 0, .int .i64 0] 184
  bO : BoxC W O #[.bool false] 4
  bR : BoxC W R #[.int .i64 0, .int .i64 0] 184
  bU : BoxC W U #[fv] 187
theorem FI.own {p : Tr → Bool} {F N O R U : Nat} {fv : Value} {pre : List Tr} {W W' : World} {row : Option Nat} (h : FI p F N O R U fv pre W) (hg : W.grownBy W' row) (hr : ∀ r, row = some r → ∃ o : Obj, W.heap[r]? = some o ∧ o.isCells = false) : FI p F N O R U fv pre W' :=
  ⟨h.no, h.bF.own hg hr, h.bN.own hg hr, h.bO.own hg hr, h.bR.own hg hr, h.bU.own hg hr⟩
theorem FI.below {p : Tr → Bool} {F N O R U : Nat} {fv : Value} {pre : List Tr} {W W' : World} (h : FI p F N O R U fv pre W) (b : Below W.heap.size W W') : FI p F N O R U fv pre W' :=
  ⟨h.no, h.bF.below b, h.bN.below b, h.bO.below b, h.bR.below b, h.bU.below b⟩
/-- When something was. -/
structure FX (p : Tr → Bool) (F N O R : Nat) (pre : List Tr) (W : World) : Prop where
  ex : ∃ ini x, pre = ini ++ [x] ∧ (∀ y ∈ ini, p y = false) ∧ p x = true ∧ BoxC W F #[.int .i64 (x.1 : Int)] 3 ∧ BoxC W N #[.int .i64 x.2.1, .int .i64 x.2.2] 184
  bO : BoxC W O #[.bool true] 4
  bR : BoxC W R #[.int .i64 0, .int .i64 0] 184
theorem FX.own {p : Tr → Bool} {F N O R : Nat} {pre : List Tr} {W W' : World} {row : Option Nat} (h : FX p F N O R pre W) (hg : W.grownBy W' row) (hr : ∀ r, row = some r → ∃ o : Obj, W.heap[r]? = some o ∧ o.isCells = false) : FX p F N O R pre W' := by
  obtain ⟨ini, x, e1, e2, e3, e4, e5⟩ := h.ex
  exact ⟨⟨ini, x, e1, e2, e3, e4.own hg hr, e5.own hg hr⟩, h.bO.own hg hr, h.bR.own hg hr⟩
set_option maxRecDepth 100000 in
set_option maxHeartbeats 4000000 in
theorem findtree_law (j : Job) (a b : Int) (P1 P2 : Nat) (w : World) (hj : JobAt w j) (h1 : Boxed w P1 3 (.int .i64 a)) (h2 : Boxed w P2 3 (.int .i64 b)) :
    Calls Tryz.prog 116 #[.agg #[.int .i64 j.w, .int .i64 j.l, .int .i64 j.d, .int .i64 j.c, .int .i64 j.k, .int .i64 j.e, .slice j.a j.n j.cap], .func (.func 117) #[] #[.pointer (some ⟨P1, 0, none⟩), .pointer (some ⟨P2, 0, none⟩)]] w fun r w' => r = .returned (.tuple #[.int .i64 (firstV (fun x : Tr => decide (x.2.1 = a ∧ x.2.2 = b)) (idx 0 (named j))).1, .agg #[.int .i64 (firstV (fun x : Tr => decide (x.2.1 = a ∧ x.2.2 = b)) (idx 0 (named j))).2.1, .int .i64 (firstV (fun x : Tr => decide (x.2.1 = a ∧ x.2.2 = b)) (idx 0 (named j))).2.2.1], .bool (firstV (fun x : Tr => decide (x.2.1 = a ∧ x.2.2 = b)) (idx 0 (named j))).2.2.2]) ∧ Below w.heap.size w w' := by
  have HJ := Lib.hid hj
  have H1 := Lib.hid h1
  have H2 := Lib.hid h2
  clear h1 h2
  clear hj
  have HIS := Lib.hid (fun W (hW : Below w.heap.size w W) (x : Tr) => istree_law (x.1 : Int) x.2.1 x.2.2 a b P1 P2 W (boxed_below H1.out hW) (boxed_below H2.out hW))
  obtain ⟨PD, hPD⟩ : ∃ f : Tr → Bool, (fun x : Tr => decide (x.2.1 = a ∧ x.2.2 = b)) = f := ⟨_, rfl⟩
  rw [hPD]
  have HIS2 := Lib.hid (show ∀ W, Below w.heap.size w W → ∀ x : Tr, Calls Tryz.prog 117 (#[.int .i64 (x.1 : Int), .agg #[.int .i64 x.2.1, .int .i64 x.2.2]] ++ #[.pointer (some ⟨P1, 0, none⟩), .pointer (some ⟨P2, 0, none⟩)]) W fun r w' => r = .returned (.bool (PD x)) ∧ Below W.heap.size W w' from fun W hW x => by rw [← hPD]; exact HIS.out W hW x)
  clear HIS hPD
  refine (callsIn_wide (n := 6)).1 ?_
  refine callsIn_of_wp_marks Tryz.func116 rfl trivial ?_ rfl
  simp only [Tryz.ntmps116, List.size_toArray, List.length_cons, List.length_nil, Nat.reduceAdd, Nat.reduceSub, Array.replicate_succ, Array.replicate_zero, List.push_toArray, List.append_toArray, List.nil_append, List.cons_append]
  gi_wp2_with fail
  refine wpIn_scope ?_
  gi_wp2_with fail
  refine wpIn_label ?_
  gi_wp2_with fail
  refine ⟨trivial, ?_⟩
  refine (callsIn_wide.2 (all_in j _)).mono ?_
  rintro e w' ⟨rfl, rfl⟩
  gi_wp2_with fail
  have hbw : Below w.heap.size w (((((((w.alloc (.cells #[.int .i64 j.w, .int .i64 j.l, .int .i64 j.d, .int .i64 j.c, .int .i64 j.k, .int .i64 j.e, .slice j.a j.n j.cap] 24)).alloc (.cells #[.func (.func 117) #[] #[.pointer (some ⟨P1, 0, none⟩), .pointer (some ⟨P2, 0, none⟩)]] 187)).alloc (.cells #[.int .i64 0, .int .i64 0] 184)).alloc (.cells #[.int .i64 0] 3)).alloc (.cells #[.int .i64 0, .int .i64 0] 184)).alloc (.cells #[.bool false] 4)).alloc (.cells #[.int .i64 j.w, .int .i64 j.l, .int .i64 j.d, .int .i64 j.c, .int .i64 j.k, .int .i64 j.e, .slice j.a j.n j.cap] 24)) := (((((((Below.refl _ w).alloc (Nat.le_refl _) _).alloc (by simp) _).alloc (by simp; omega) _).alloc (by simp; omega) _).alloc (by simp; omega) _).alloc (by simp; omega) _).alloc (by simp; omega) _
  have bU := (((((BoxC.new (w.alloc (.cells #[.int .i64 j.w, .int .i64 j.l, .int .i64 j.d, .int .i64 j.c, .int .i64 j.k, .int .i64 j.e, .slice j.a j.n j.cap] 24)) #[.func (.func 117) #[] #[.pointer (some ⟨P1, 0, none⟩), .pointer (some ⟨P2, 0, none⟩)]] 187).alloc (.cells #[.int .i64 0, .int .i64 0] 184)).alloc (.cells #[.int .i64 0] 3)).alloc (.cells #[.int .i64 0, .int .i64 0] 184)).alloc (.cells #[.bool false] 4)).alloc (.cells #[.int .i64 j.w, .int .i64 j.l, .int .i64 j.d, .int .i64 j.c, .int .i64 j.k, .int .i64 j.e, .slice j.a j.n j.cap] 24)
  have bR := ((((BoxC.new ((w.alloc (.cells #[.int .i64 j.w, .int .i64 j.l, .int .i64 j.d, .int .i64 j.c, .int .i64 j.k, .int .i64 j.e, .slice j.a j.n j.cap] 24)).alloc (.cells #[.func (.func 117) #[] #[.pointer (some ⟨P1, 0, none⟩), .pointer (some ⟨P2, 0, none⟩)]] 187)) #[.int .i64 0, .int .i64 0] 184).alloc (.cells #[.int .i64 0] 3)).alloc (.cells #[.int .i64 0, .int .i64 0] 184)).alloc (.cells #[.bool false] 4)).alloc (.cells #[.int .i64 j.w, .int .i64 j.l, .int .i64 j.d, .int .i64 j.c, .int .i64 j.k, .int .i64 j.e, .slice j.a j.n j.cap] 24)
  have bF := (((BoxC.new (((w.alloc (.cells #[.int .i64 j.w, .int .i64 j.l, .int .i64 j.d, .int .i64 j.c, .int .i64 j.k, .int .i64 j.e, .slice j.a j.n j.cap] 24)).alloc (.cells #[.func (.func 117) #[] #[.pointer (some ⟨P1, 0, none⟩), .pointer (some ⟨P2, 0, none⟩)]] 187)).alloc (.cells #[.int .i64 0, .int .i64 0] 184)) #[.int .i64 0] 3).alloc (.cells #[.int .i64 0, .int .i64 0] 184)).alloc (.cells #[.bool false] 4)).alloc (.cells #[.int .i64 j.w, .int .i64 j.l, .int .i64 j.d, .int .i64 j.c, .int .i64 j.k, .int .i64 j.e, .slice j.a j.n j.cap] 24)
  have bN := ((BoxC.new ((((w.alloc (.cells #[.int .i64 j.w, .int .i64 j.l, .int .i64 j.d, .int .i64 j.c, .int .i64 j.k, .int .i64 j.e, .slice j.a j.n j.cap] 24)).alloc (.cells #[.func (.func 117) #[] #[.pointer (some ⟨P1, 0, none⟩), .pointer (some ⟨P2, 0, none⟩)]] 187)).alloc (.cells #[.int .i64 0, .int .i64 0] 184)).alloc (.cells #[.int .i64 0] 3)) #[.int .i64 0, .int .i64 0] 184).alloc (.cells #[.bool false] 4)).alloc (.cells #[.int .i64 j.w, .int .i64 j.l, .int .i64 j.d, .int .i64 j.c, .int .i64 j.k, .int .i64 j.e, .slice j.a j.n j.cap] 24)
  have bO := (BoxC.new (((((w.alloc (.cells #[.int .i64 j.w, .int .i64 j.l, .int .i64 j.d, .int .i64 j.c, .int .i64 j.k, .int .i64 j.e, .slice j.a j.n j.cap] 24)).alloc (.cells #[.func (.func 117) #[] #[.pointer (some ⟨P1, 0, none⟩), .pointer (some ⟨P2, 0, none⟩)]] 187)).alloc (.cells #[.int .i64 0, .int .i64 0] 184)).alloc (.cells #[.int .i64 0] 3)).alloc (.cells #[.int .i64 0, .int .i64 0] 184)) #[.bool false] 4).alloc (.cells #[.int .i64 j.w, .int .i64 j.l, .int .i64 j.d, .int .i64 j.c, .int .i64 j.k, .int .i64 j.e, .slice j.a j.n j.cap] 24)
  have bA := BoxC.new ((((((w.alloc (.cells #[.int .i64 j.w, .int .i64 j.l, .int .i64 j.d, .int .i64 j.c, .int .i64 j.k, .int .i64 j.e, .slice j.a j.n j.cap] 24)).alloc (.cells #[.func (.func 117) #[] #[.pointer (some ⟨P1, 0, none⟩), .pointer (some ⟨P2, 0, none⟩)]] 187)).alloc (.cells #[.int .i64 0, .int .i64 0] 184)).alloc (.cells #[.int .i64 0] 3)).alloc (.cells #[.int .i64 0, .int .i64 0] 184)).alloc (.cells #[.bool false] 4)) #[.int .i64 j.w, .int .i64 j.l, .int .i64 j.d, .int .i64 j.c, .int .i64 j.k, .int .i64 j.e, .slice j.a j.n j.cap] 24
  simp only [World.size_alloc] at bU bR bF bN bO bA
  have hsz : (((((((w.alloc (.cells #[.int .i64 j.w, .int .i64 j.l, .int .i64 j.d, .int .i64 j.c, .int .i64 j.k, .int .i64 j.e, .slice j.a j.n j.cap] 24)).alloc (.cells #[.func (.func 117) #[] #[.pointer (some ⟨P1, 0, none⟩), .pointer (some ⟨P2, 0, none⟩)]] 187)).alloc (.cells #[.int .i64 0, .int .i64 0] 184)).alloc (.cells #[.int .i64 0] 3)).alloc (.cells #[.int .i64 0, .int .i64 0] 184)).alloc (.cells #[.bool false] 4)).alloc (.cells #[.int .i64 j.w, .int .i64 j.l, .int .i64 j.d, .int .i64 j.c, .int .i64 j.k, .int .i64 j.e, .slice j.a j.n j.cap] 24)).heap.size = w.heap.size + 7 := by simp
  obtain ⟨W0, hW0⟩ : ∃ W0, (((((((w.alloc (.cells #[.int .i64 j.w, .int .i64 j.l, .int .i64 j.d, .int .i64 j.c, .int .i64 j.k, .int .i64 j.e, .slice j.a j.n j.cap] 24)).alloc (.cells #[.func (.func 117) #[] #[.pointer (some ⟨P1, 0, none⟩), .pointer (some ⟨P2, 0, none⟩)]] 187)).alloc (.cells #[.int .i64 0, .int .i64 0] 184)).alloc (.cells #[.int .i64 0] 3)).alloc (.cells #[.int .i64 0, .int .i64 0] 184)).alloc (.cells #[.bool false] 4)).alloc (.cells #[.int .i64 j.w, .int .i64 j.l, .int .i64 j.d, .int .i64 j.c, .int .i64 j.k, .int .i64 j.e, .slice j.a j.n j.cap] 24)) = W0 := ⟨_, rfl⟩
  rw [hW0] at bU bR bF bN bO bA hbw hsz ⊢
  clear hW0
  refine wpIn_rangeFunc_ownH rfl (by omega) (gf := 163) (lb := #[.pointer (some ⟨w.heap.size + 1 + 1 + 1 + 1 + 1 + 1, 0, none⟩)]) rfl trivial (enters_of Tryz.func163 (by kernel_rfl) rfl)
    (all_stops 5 (by omega) j w HJ.out (w.heap.size + 1 + 1 + 1 + 1 + 1 + 1) W0 hbw bA) KP.trans (fun W l o o' h1 h2 h3 h4 => KP.put (w := W0) (by omega) W l o o' h1 h2 h3 h4) (Below.refl _ _) (fun _ => rfl)
    (fun pre W => FI PD (w.heap.size + 1 + 1 + 1) (w.heap.size + 1 + 1 + 1 + 1) (w.heap.size + 1 + 1 + 1 + 1 + 1) (w.heap.size + 1 + 1) (w.heap.size + 1) (.func (.func 117) #[] #[.pointer (some ⟨P1, 0, none⟩), .pointer (some ⟨P2, 0, none⟩)]) pre W ∧ Below w.heap.size w W)
    (fun c pre W => (c = .exit 0 ∧ FX PD (w.heap.size + 1 + 1 + 1) (w.heap.size + 1 + 1 + 1 + 1) (w.heap.size + 1 + 1 + 1 + 1 + 1) (w.heap.size + 1 + 1) pre W) ∧ Below w.heap.size w W)
    (OwnFrom.and (Own.from (fun s X Y row hs hg hr => hs.own hg hr) _) (ownFrom_below (Nat.le_refl _) (by omega)))
    (fun c => OwnFrom.and (Own.from (fun s X Y row hs hg hr => ⟨hs.1, hs.2.own hg hr⟩) _) (ownFrom_below (Nat.le_refl _) (by omega)))
    ⟨⟨fun x hx => by simp at hx, bF, bN, bO, bR, bU⟩, hbw⟩
    (fun x a' W => ∃ Bx, w.heap.size + 1 + 1 + 1 + 1 + 1 < Bx ∧ BoxC W Bx #[.int .i64 x.2.1, .int .i64 x.2.2] 184 ∧ a' = { tmps := #[.agg #[.int .i64 j.w, .int .i64 j.l, .int .i64 j.d, .int .i64 j.c, .int .i64 j.k, .int .i64 j.e, .slice j.a j.n j.cap], .func (.func 117) #[] #[.pointer (some ⟨P1, 0, none⟩), .pointer (some ⟨P2, 0, none⟩)], .pointer (some ⟨w.heap.size, 0, none⟩), .pointer (some ⟨w.heap.size + 1, 0, none⟩), .int .i64 0, .pointer (some ⟨w.heap.size + 1 + 1, 0, none⟩), .bool false, .pointer (some ⟨w.heap.size + 1 + 1 + 1, 0, none⟩), .pointer (some ⟨w.heap.size + 1 + 1 + 1 + 1, 0, none⟩), .pointer (some ⟨w.heap.size + 1 + 1 + 1 + 1 + 1, 0, none⟩), .int .i64 (x.1 : Int), .pointer (some ⟨Bx, 0, none⟩), .agg #[.int .i64 0, .int .i64 0], .agg #[.int .i64 j.w, .int .i64 j.l, .int .i64 j.d, .int .i64 j.c, .int .i64 j.k, .int .i64 j.e, .slice j.a j.n j.cap], .func (.func 163) #[] #[.pointer (some ⟨w.heap.size + 1 + 1 + 1 + 1 + 1 + 1, 0, none⟩)], .int .i64 (x.1 : Int), .agg #[.int .i64 x.2.1, .int .i64 x.2.2], undef, undef, undef, undef, undef, undef, undef, undef, undef], defers := [] })
    (fun x a' _ X Y row hs hg hr => by obtain ⟨Bx, h1, h2, h3⟩ := hs; exact ⟨Bx, h1, h2.own hg (fun r e => (hr r e).2), h3⟩)
    ?assign ?body ?done ?stop
  case assign =>
    rintro l pre x W K ⟨hI, hB1⟩ hK
    dsimp only [encs]
    have hlO := hI.bO.lt
    gi_wp2
    have BA : Below W.heap.size W (W.alloc (.cells #[.int .i64 x.2.1, .int .i64 x.2.2] 184)) := (Below.refl _ W).alloc (Nat.le_refl _) _
    exact hK _ _ ((KeepsOthers.alloc _ _).from _) (KP.below hB1.size BA) ⟨hI.below BA, step_below hB1 BA⟩ ⟨W.heap.size, hlO, BoxC.new _ _ _, by simp⟩
  case body =>
    rintro l pre x a' W hl _ ⟨hI, hB1⟩ ⟨Bx, hBx, bX, rfl⟩ hlt
    have cU := hI.bU.cell 0
    have cX0 := bX.cell 0
    have cX1 := bX.cell 1
    simp only [List.getElem?_toArray, List.getElem?_cons_zero, List.getElem?_cons_succ] at cU cX0 cX1
    gi_wp2_with fail
    refine ⟨trivial, ?_⟩
    refine (CallsIn.inRound l (callsIn_wide.2 (HIS2.out W hB1 x))).mono ?_
    rintro e W1 ⟨rfl, B1⟩
    have hI1 := hI.below B1
    have bX1 := bX.below B1
    have hB2 := step_below hB1 B1
    have KF := Lib.hid (show KeepsFrom W0.heap.size W W1 from KeepsFrom.of_grownBy (grown_below' B1) (fun j e => by cases e))
    have KK := Lib.hid (show KP w.heap.size (w.heap.size + 1 + 1 + 1 + 1 + 1 + 1) #[.int .i64 j.w, .int .i64 j.l, .int .i64 j.d, .int .i64 j.c, .int .i64 j.k, .int .i64 j.e, .slice j.a j.n j.cap] W W1 from KP.below hB1.size B1)
    have BT := Lib.hid (show Below w.heap.size W W1 from B1.mono hB1.size)
    clear cU cX0 cX1 hI bX hB1 B1
    cases hpx : PD x
    · have HPX := Lib.hid hpx
      clear hpx
      gi_wp2
      exact ⟨KF.out, KK.out, ⟨⟨fun y hy => (List.mem_append.1 hy).elim (hI1.no y) (fun e => by simp at e; subst e; exact HPX.out), hI1.bF, hI1.bN, hI1.bO, hI1.bR, hI1.bU⟩, hB2⟩⟩
    · have HPX := Lib.hid hpx
      have cX0 := bX1.cell 0
      have cX1 := bX1.cell 1
      have cF := hI1.bF.cell 0
      have cN0 := hI1.bN.cell 0
      have cN1 := hI1.bN.cell 1
      have cO := hI1.bO.cell 0
      have fF := hI1.bF.frozen 0
      have fN0 := hI1.bN.frozen 0
      have fN1 := hI1.bN.frozen 1
      have fO := hI1.bO.frozen 0
      simp only [List.getElem?_toArray, List.getElem?_cons_zero, List.getElem?_cons_succ] at cX0 cX1 cF cN0 cN1 cO
      have HI := Lib.hid hI1
      have hlO : Bx < W1.heap.size := bX1.lt
      clear hpx hI1
      gi_wp2_with fail
      gi_region
      all_goals gi_wp2
      all_goals exact ⟨KeepsFrom.drw ((((KF.out.trans ((KeepsOthers.setCell _ _ _).from _)).trans ((KeepsOthers.setCell _ _ _).from _)).trans ((KeepsOthers.setCell _ _ _).from _)).trans ((KeepsOthers.setCell _ _ _).from _)),
        ⟨rfl, ⟨pre, x, rfl, HI.out.no, HPX.out, BoxC.oth (by omega) (BoxC.oth (by omega) (BoxC.oth (by omega) (HI.out.bF.set1))), BoxC.oth (by omega) (BoxC.set2 (BoxC.oth (by omega) HI.out.bN))⟩, BoxC.set1 (BoxC.oth (by omega) (BoxC.oth (by omega) (BoxC.oth (by omega) HI.out.bO))), BoxC.oth (by omega) (BoxC.oth (by omega) (BoxC.oth (by omega) (BoxC.oth (by omega) HI.out.bR)))⟩,
        ((((hB2.setCell (p := ⟨w.heap.size + 1 + 1 + 1, 0, none⟩) (by simp; omega) _).setCell (p := ⟨w.heap.size + 1 + 1 + 1 + 1, 0, none⟩) (by simp; omega) _).setCell (p := ⟨w.heap.size + 1 + 1 + 1 + 1, 1, none⟩) (by simp; omega) _).setCell (p := ⟨w.heap.size + 1 + 1 + 1 + 1 + 1, 0, none⟩) (by simp; omega) _).drew⟩
  case done =>
    rintro D zs W hD rfl ⟨hI, hB1⟩ hK
    have FV := Lib.hid (firstV_none hI.no)
    have cF := hI.bF.cell 0
    have cN0 := hI.bN.cell 0
    have cN1 := hI.bN.cell 1
    have cO := hI.bO.cell 0
    have cR0 := hI.bR.cell 0
    have cR1 := hI.bR.cell 1
    have fR0 := hI.bR.frozen 0
    have fR1 := hI.bR.frozen 1
    simp only [List.getElem?_toArray, List.getElem?_cons_zero, List.getElem?_cons_succ] at cF cN0 cN1 cO cR0 cR1
    have HI := Lib.hid hI
    clear hI
    gi_wp2_with fail
    gi_region
    all_goals gi_wp2
    all_goals
      rw [Exit.noGoto_ret]
      have hK2 := Lib.hid ((KeepsOthers.setCell _ ⟨w.heap.size + 1 + 1, 1, none⟩ (.int .i64 0)).same D _ ((KeepsOthers.setCell W ⟨w.heap.size + 1 + 1, 0, none⟩ (.int .i64 0)).same D _ hK rfl) rfl)
      have bR2 : BoxC ((W.setCell ⟨w.heap.size + 1 + 1, 0, none⟩ (.int .i64 0)).setCell ⟨w.heap.size + 1 + 1, 1, none⟩ (.int .i64 0)).drew (w.heap.size + 1 + 1) #[.int .i64 0, .int .i64 0] 184 := BoxC.set2 HI.out.bR
      have B2 : Below w.heap.size w ((W.setCell ⟨w.heap.size + 1 + 1, 0, none⟩ (.int .i64 0)).setCell ⟨w.heap.size + 1 + 1, 1, none⟩ (.int .i64 0)).drew := ((hB1.setCell (p := ⟨w.heap.size + 1 + 1, 0, none⟩) (by simp; omega) _).setCell (p := ⟨w.heap.size + 1 + 1, 1, none⟩) (by simp; omega) _).drew
      have hK3 : ((W.setCell ⟨w.heap.size + 1 + 1, 0, none⟩ (.int .i64 0)).setCell ⟨w.heap.size + 1 + 1, 1, none⟩ (.int .i64 0)).drew.heap[D]? = some (.deferred (some [])) := hK2.out
      clear hK2
      generalize ((W.setCell ⟨w.heap.size + 1 + 1, 0, none⟩ (.int .i64 0)).setCell ⟨w.heap.size + 1 + 1, 1, none⟩ (.int .i64 0)).drew = W2 at bR2 B2 hK3 ⊢
      refine ⟨by simp, .inl ⟨_, _, rfl, run_takeDeferred hK3, ?_⟩⟩
      have bR3 := bR2.kept (grownBy_putObj' W2 D (.deferred none)) (fun e => by cases e; omega)
      have h0 := bR3.cell 0
      have h1 := bR3.cell 1
      simp only [List.getElem?_toArray, List.getElem?_cons_zero, List.getElem?_cons_succ] at h0 h1
      refine ⟨.tuple #[.int .i64 0, .agg #[.int .i64 0, .int .i64 0], .bool false], ?_, by rw [FV.out], B2.trans (belowK_b (w := w) (Nat.le_refl _) _ D _ _ (by omega) hK3 rfl rfl)⟩
      simp [results, Tryz.f116, go_sem, h0, h1]
  case stop =>
    rintro D c pre W hD ⟨t, ht⟩ ⟨⟨rfl, hX⟩, hB1⟩ hK
    obtain ⟨ini, x, e1, e2, e3, bF, bN⟩ := hX.ex
    have FV := Lib.hid (show firstV PD (idx 0 (named j)) = ((x.1 : Int), x.2.1, x.2.2, true) by rw [ht, e1, firstV_some e3 e2])
    have cF := bF.cell 0
    have cN0 := bN.cell 0
    have cN1 := bN.cell 1
    have cO := hX.bO.cell 0
    have cR0 := hX.bR.cell 0
    have cR1 := hX.bR.cell 1
    have fR0 := hX.bR.frozen 0
    have fR1 := hX.bR.frozen 1
    simp only [List.getElem?_toArray, List.getElem?_cons_zero, List.getElem?_cons_succ] at cF cN0 cN1 cO cR0 cR1
    have HX := Lib.hid hX
    clear hX e1 e2 e3 ht
    gi_wp2_with fail
    gi_region
    all_goals gi_wp2
    all_goals
      rw [Exit.noGoto_ret]
      have hK2 := Lib.hid ((KeepsOthers.setCell _ ⟨w.heap.size + 1 + 1, 1, none⟩ (.int .i64 x.2.2)).same D _ ((KeepsOthers.setCell W ⟨w.heap.size + 1 + 1, 0, none⟩ (.int .i64 x.2.1)).same D _ hK rfl) rfl)
      have bR2 : BoxC ((W.setCell ⟨w.heap.size + 1 + 1, 0, none⟩ (.int .i64 x.2.1)).setCell ⟨w.heap.size + 1 + 1, 1, none⟩ (.int .i64 x.2.2)).drew (w.heap.size + 1 + 1) #[.int .i64 x.2.1, .int .i64 x.2.2] 184 := BoxC.set2 HX.out.bR
      have B2 : Below w.heap.size w ((W.setCell ⟨w.heap.size + 1 + 1, 0, none⟩ (.int .i64 x.2.1)).setCell ⟨w.heap.size + 1 + 1, 1, none⟩ (.int .i64 x.2.2)).drew := ((hB1.setCell (p := ⟨w.heap.size + 1 + 1, 0, none⟩) (by simp; omega) _).setCell (p := ⟨w.heap.size + 1 + 1, 1, none⟩) (by simp; omega) _).drew
      have hK3 : ((W.setCell ⟨w.heap.size + 1 + 1, 0, none⟩ (.int .i64 x.2.1)).setCell ⟨w.heap.size + 1 + 1, 1, none⟩ (.int .i64 x.2.2)).drew.heap[D]? = some (.deferred (some [])) := hK2.out
      clear hK2
      generalize ((W.setCell ⟨w.heap.size + 1 + 1, 0, none⟩ (.int .i64 x.2.1)).setCell ⟨w.heap.size + 1 + 1, 1, none⟩ (.int .i64 x.2.2)).drew = W2 at bR2 B2 hK3 ⊢
      refine ⟨by simp, .inl ⟨_, _, rfl, run_takeDeferred hK3, ?_⟩⟩
      have bR3 := bR2.kept (grownBy_putObj' W2 D (.deferred none)) (fun e => by cases e; omega)
      have h0 := bR3.cell 0
      have h1 := bR3.cell 1
      simp only [List.getElem?_toArray, List.getElem?_cons_zero, List.getElem?_cons_succ] at h0 h1
      refine ⟨.tuple #[.int .i64 (x.1 : Int), .agg #[.int .i64 x.2.1, .int .i64 x.2.2], .bool true], ?_, by rw [FV.out], B2.trans (belowK_b (w := w) (Nat.le_refl _) _ D _ _ (by omega) hK3 rfl rfl)⟩
      simp [results, Tryz.f116, go_sem, h0, h1]
end Go.Proofs.YthmofoldmdafoaaGreat
namespace Go.Proofs.YthmofoldmdafoaaGreat
open Go.ChangeShapes Go.WideShapes Go.ChangeAt Go.RowKit Go.Maps
set_option linter.unusedVariables false
set_option linter.unusedSimpArgs false

/-- Nothing is changed but the blocks of S, and new ones. -/
structure Off (S : Nat → Prop) (W W' : World) : Prop where
  os : W'.os = W.os
  tape : W'.tape = W.tape
  output : W'.output = W.output
  size : W.heap.size ≤ W'.heap.size
  block : ∀ k, k < W.heap.size → ¬ S k → W'.heap[k]? = W.heap[k]?
theorem Off.of {S : Nat → Prop} {W W' : World} (h : Below W.heap.size W W') : Off S W W' := ⟨h.os, h.tape, h.output, h.size, fun k hk _ => h.block k hk⟩
theorem Off.refl (S : Nat → Prop) (W : World) : Off S W W := Off.of (Below.refl _ _)
theorem Off.trans {S : Nat → Prop} {W W' W'' : World} (h : Off S W W') (k : Off S W' W'') : Off S W W'' :=
  ⟨k.os.trans h.os, k.tape.trans h.tape, k.output.trans h.output, Nat.le_trans h.size k.size, fun i hi hs => (k.block i (Nat.lt_of_lt_of_le hi h.size) hs).trans (h.block i hi hs)⟩
theorem Off.then {S : Nat → Prop} {W W' W'' : World} (h : Off S W W') (k : Below W'.heap.size W' W'') : Off S W W'' := h.trans (Off.of k)
theorem Off.mono {S T : Nat → Prop} {W W' : World} (h : Off S W W') (hs : ∀ k, S k → T k) : Off T W W' := ⟨h.os, h.tape, h.output, h.size, fun k hk hn => h.block k hk fun e => hn (hs k e)⟩
theorem Off.set {S : Nat → Prop} {W W' : World} (h : Off S W W') (p : Addr) (hp : S p.block) (v : Value) : Off S W (W'.setCell p v) := by
  refine h.trans ⟨rfl, rfl, rfl, by simp, fun k hk hn => Below.heap_setCell _ _ _ k fun e => hn (e ▸ hp)⟩
theorem Off.below {S : Nat → Prop} {B : Nat} {w W W' : World} (h : Below B w W) (k : Off S W W') (hB : B ≤ W.heap.size) (hs : ∀ k, S k → B ≤ k) : Below B w W' :=
  ⟨k.os.trans h.os, k.tape.trans h.tape, k.output.trans h.output, Nat.le_trans h.size k.size, fun i hi => (k.block i (Nat.lt_of_lt_of_le hi hB) fun e => by have := hs i e; omega).trans (h.block i hi)⟩
theorem Off.box {S : Nat → Prop} {W W' : World} (h : Off S W W') {B : Nat} {cs : Array Value} {t : TypeId} (hb : BoxC W B cs t) (hn : ¬ S B) : BoxC W' B cs t := (h.block B hb.lt hn).trans hb
theorem Off.map {S : Nat → Prop} {W W' : World} (h : Off S W W') {H : Type} {P : Program} {k : TypeId} {R : Value → Option (DataW H × List MemPlace)} {b n : Nat} {D : DataW H} (hm : W.ownsMap P k R b n D) (hn : ¬ S b) : W'.ownsMap P k R b n D := by
  have hl := hm.lt
  obtain ⟨es, c, hb, r⟩ := hm
  exact ⟨es, c, (h.block b hl hn).trans hb, r⟩
theorem Off.of_map {S : Nat → Prop} {W W' : World} {b : Nat} (h : W.grownBy W' (some b)) (hs : S b) : Off S W W' := ⟨h.os, h.tape, h.output, h.size, fun k hk hn => h.block k hk (fun e => hn (by cases e; exact hs))⟩
theorem Off.drew {S : Nat → Prop} {W W' : World} (h : Off S W W') : Off S W W'.drew := h.then (Below.refl _ _).drew
/-- What holds as long as nothing but the blocks of S, and new ones, are changed. -/
def Stay (S : Nat → Prop) (W : World) (P : World → Prop) : Prop := ∀ W', Off S W W' → P W'
theorem Stay.now {S : Nat → Prop} {W : World} {P : World → Prop} (h : Stay S W P) : P W := h W (Off.refl S W)
theorem Stay.step {S S' : Nat → Prop} {W W' : World} {P : World → Prop} (h : Stay S W P) (o : Off S W W') (hs : ∀ k, S' k → S k ∨ W.heap.size ≤ k) : Stay S' W' P := fun W'' o' =>
  h W'' ⟨o'.os.trans o.os, o'.tape.trans o.tape, o'.output.trans o.output, Nat.le_trans o.size o'.size, fun k hk hn => (o'.block k (Nat.lt_of_lt_of_le hk o.size) fun e => (hs k e).elim hn (fun hh => by omega)).trans (o.block k hk hn)⟩
theorem Stay.off {S : Nat → Prop} {W W' : World} {P : World → Prop} (h : Stay S W P) (o : Off S W W') : Stay S W' P := h.step o fun _ hk => .inl hk
theorem Stay.below {S : Nat → Prop} {W W' : World} {P : World → Prop} (h : Stay S W P) (b : Below W.heap.size W W') : Stay S W' P := h.off (Off.of b)
theorem Stay.mono {S : Nat → Prop} {W : World} {P Q : World → Prop} (h : Stay S W P) (hq : ∀ W, P W → Q W) : Stay S W Q := fun W' o => hq W' (h W' o)
theorem Stay.less {S S' : Nat → Prop} {W : World} {P : World → Prop} (h : Stay S W P) (hs : ∀ k, S' k → S k) : Stay S' W P := fun W' o => h W' (o.mono hs)
/-- Rows that are owned from base on stay, if nothing from there on is changed. -/
theorem own_off22 {S : Nat → Prop} {W W' : World} {base n size : Nat} {e : TypeId} {v : Value} {xs : List Value} (h : W.ownsRow base e size v n xs) (o : Off S W W') (hs : ∀ k, S k → k < base) : W'.ownsRow base e size v n xs :=
  ⟨h.1, h.2.imp id fun ⟨g, cap, cur, e0, hb, hg, r⟩ => ⟨g, cap, cur, e0, hb, (o.block g (Array.getElem?_eq_some_iff.1 hg).1 fun e => by have := hs g e; omega).trans hg, r⟩⟩

theorem law9 : Keyed Tryz.prog 9 := string_keyed Tryz.underlying9
/-- How a map's values read: as themselves. -/
def RF (v : Value) : Option (DataW Value × List MemPlace) := some (.held v, [])
theorem RF_inv {v : Value} {z : DataW Value × List MemPlace} (h : RF v = some z) : z = (.held v, []) := by unfold RF at h; cases h; rfl
/-- A key's literal. -/
def kL (K : List Int) : Lit := .string (strOfNums K).data.toList
section
variable {α : Type} (val : α → Value)
def entM (x : List Int × α) : Lit × DataW Value := (kL x.1, .held (val x.2))
def mOf (L : List (List Int × α)) : DataW Value := .map (L.map (entM val))
end
theorem key_of (s : ByteArray) (hs : s.size ≤ maxLen) : keyOf Tryz.prog 9 (.string s) = some (.string s.data.toList) := by
  simp [keyOf, Tryz.underlying9, mapKey, hs]
theorem str_size (K : List Int) : (strOfNums K).size = K.length := by
  have := congrArg List.length (str_list K)
  rw [ByteArray.toList_eq, List.length_map] at this
  simpa using this
theorem keyK {K : List Int} (h : K.length ≤ maxLen) : keyOf Tryz.prog 9 (.string (strOfNums K)) = some (kL K) := key_of _ (by rw [str_size]; exact h)
theorem kL_same {A B : List Int} (ha : Byt A) (hb : Byt B) : (kL A).sameKey (kL B) = decide (A = B) := by
  have h : ((strOfNums A).data.toList == (strOfNums B).data.toList) = decide (A = B) := by
    rw [Bool.eq_iff_iff]; simp
    constructor
    · intro e; exact str_inj ha hb (ByteArray.ext (by simpa using e))
    · intro e; rw [e]
  simpa [kL, Lit.sameKey] using h
theorem bb_op : ∀ x y : List UInt8, bytesBefore x y = Op.bytesLess x y := fun x => by
  induction x with
  | nil => intro y; cases y <;> rfl
  | cons a r ih => intro y; cases y with
    | nil => rfl
    | cons b s => show (a < b || (a == b && bytesBefore r s)) = (a < b || (a == b && Op.bytesLess r s)); rw [ih]
theorem kL_before {A B : List Int} (ha : Byt A) (hb : Byt B) : (kL A).before (kL B) = ltL A B := by
  rw [← str_less ha hb]
  show bytesBefore _ _ = _
  rw [bb_op, ByteArray.toList_eq, ByteArray.toList_eq]
section
variable {α : Type} {val : α → Value}
/-- All keys are bytes. -/
def KByt (L : List (List Int × α)) : Prop := ∀ x ∈ L, Byt x.1
/-- What a key has. -/
def getM (L : List (List Int × α)) (K : List Int) : Option α := (L.find? fun x => decide (x.1 = K)).map Prod.snd
/-- A key has this, or nothing. -/
def setM (L : List (List Int × α)) (K : List Int) (o : Option α) : List (List Int × α) := L.filter (fun p => ltL p.1 K) ++ ((o.toList.map fun r => (K, r)) ++ L.filter (fun p => ltL K p.1))
theorem at_mOf {L : List (List Int × α)} (hL : KByt L) {K : List Int} (hK : Byt K) (z : DataW Value) : (mOf val L).atKey (kL K) z = match getM L K with | some v => .held (val v) | none => z := by
  unfold mOf DataW.atKey getM
  simp only [List.find?_map]
  have : ∀ L : List (List Int × α), KByt L → List.find? ((fun p : Lit × DataW Value => p.1.sameKey (kL K)) ∘ entM val) L = List.find? (fun x => decide (x.1 = K)) L := fun L => by
    induction L with
    | nil => intro _; rfl
    | cons x L ih =>
      intro h
      rw [List.find?_cons, List.find?_cons, ih fun y hy => h y (List.mem_cons_of_mem _ hy)]
      show (match (kL x.1).sameKey (kL K) with | true => some x | false => _) = _
      rw [kL_same (h x (List.mem_cons_self ..)) hK]
      rfl
  rw [this L hL]
  cases List.find? (fun x => decide (x.1 = K)) L <;> rfl
theorem has_mOf {L : List (List Int × α)} (hL : KByt L) {K : List Int} (hK : Byt K) : Maps.has (mOf val L) (kL K) = (getM L K).isSome := by
  unfold mOf getM
  rw [Maps.has_eq, List.any_map, Bool.eq_iff_iff, Option.isSome_map, List.find?_isSome, List.any_eq_true]
  constructor
  · rintro ⟨x, hx, h⟩
    refine ⟨x, hx, ?_⟩
    have : (kL x.1).sameKey (kL K) = true := h
    rwa [kL_same (hL x hx) hK] at this
  · rintro ⟨x, hx, h⟩
    refine ⟨x, hx, ?_⟩
    show (kL x.1).sameKey (kL K) = true
    rwa [kL_same (hL x hx) hK]
theorem KByt.set {L : List (List Int × α)} (h : KByt L) {K : List Int} (hK : Byt K) (o : Option α) : KByt (setM L K o) := fun x hx => by
  unfold setM at hx
  simp only [List.mem_append, List.mem_filter, List.mem_map] at hx
  rcases hx with ⟨hx, _⟩ | ⟨r, _, rfl⟩ | ⟨hx, _⟩
  · exact h x hx
  · exact hK
  · exact h x hx
/-- One that is put among those that have other keys. -/
theorem ins_mOf {K : List Int} (hK : Byt K) (v : α) : ∀ {L : List (List Int × α)}, KByt L → Ris Prod.fst L → DataW.insert (entM val (K, v)) ((L.filter fun p => !decide (p.1 = K)).map (entM val)) = (L.filter (fun p => ltL p.1 K) ++ ([(K, v)] ++ L.filter (fun p => ltL K p.1))).map (entM val)
  | [], _, _ => rfl
  | x :: L, hb, hr => by
    obtain ⟨h1, h2⟩ := List.pairwise_cons.1 hr
    have bx := hb x (List.mem_cons_self ..)
    have bL : KByt L := fun y hy => hb y (List.mem_cons_of_mem _ hy)
    have ih := ins_mOf hK v bL h2
    by_cases e : x.1 = K
    · have e1 : ltL x.1 K = false := by rw [e, ltL_irr]
      have e2 : ltL K x.1 = false := by rw [e, ltL_irr]
      rw [List.filter_cons_of_neg (by simp [e]), List.filter_cons_of_neg (by simp [e1]), List.filter_cons_of_neg (by simp [e2]), ih]
    · cases hl : ltL x.1 K
      · have hg : ltL K x.1 = true := ltL_or hl (Ne.symm e)
        have f1 : L.filter (fun p => ltL p.1 K) = [] := by
          rw [List.filter_eq_nil_iff]; intro y hy hk
          have := ltL_trans (h1 y hy) hk; rw [hl] at this; cases this
        have f2 : L.filter (fun p => ltL K p.1) = L := by
          rw [List.filter_eq_self]; intro y hy; exact ltL_trans hg (h1 y hy)
        have f3 : L.filter (fun p => !decide (p.1 = K)) = L := by
          rw [List.filter_eq_self]; intro y hy
          have := ltL_ne (ltL_trans hg (h1 y hy)); simp [Ne.symm this]
        rw [List.filter_cons_of_pos (by simp [e]), List.filter_cons_of_neg (by simp [hl]), List.filter_cons_of_pos (by simp [hg]), f1, f2, f3, List.map_cons]
        show (if (kL K).before (kL x.1) then _ else _) = _
        rw [kL_before hK bx, hg]; rfl
      · have hg := ltL_asym hl
        rw [List.filter_cons_of_pos (by simp [e]), List.filter_cons_of_pos (by simp [hl]), List.filter_cons_of_neg (by simp [hg]), List.map_cons]
        show (if (kL K).before (kL x.1) then _ else _) = _
        rw [kL_before hK bx, hg, if_neg (by simp), ih]; rfl
theorem filt_mOf {K : List Int} (hK : Byt K) : ∀ {L : List (List Int × α)}, KByt L → (L.map (entM val)).filter (fun p => !p.1.sameKey (kL K)) = (L.filter fun p => !decide (p.1 = K)).map (entM val)
  | [], _ => rfl
  | x :: L, hb => by
    have ih := filt_mOf hK (L := L) fun y hy => hb y (List.mem_cons_of_mem _ hy)
    have hs : (entM val x).1.sameKey (kL K) = decide (x.1 = K) := kL_same (hb x (List.mem_cons_self ..)) hK
    rw [List.map_cons, List.filter_cons, List.filter_cons, ih, hs]
    split <;> simp
theorem ne_lt {K : List Int} : ∀ {L : List (List Int × α)}, Ris Prod.fst L → (L.filter fun p => !decide (p.1 = K)) = L.filter (fun p => ltL p.1 K) ++ L.filter (fun p => ltL K p.1)
  | [], _ => rfl
  | x :: L, hr => by
    obtain ⟨h1, h2⟩ := List.pairwise_cons.1 hr
    have ih := ne_lt (K := K) h2
    by_cases e : x.1 = K
    · have e1 : ltL x.1 K = false := by rw [e, ltL_irr]
      have e2 : ltL K x.1 = false := by rw [e, ltL_irr]
      rw [List.filter_cons_of_neg (by simp [e]), List.filter_cons_of_neg (by simp [e1]), List.filter_cons_of_neg (by simp [e2]), ih]
    · cases hl : ltL x.1 K
      · have hg : ltL K x.1 = true := ltL_or hl (Ne.symm e)
        have f1 : L.filter (fun p => ltL p.1 K) = [] := by
          rw [List.filter_eq_nil_iff]; intro y hy hk
          have := ltL_trans (h1 y hy) hk; rw [hl] at this; cases this
        rw [List.filter_cons_of_pos (by simp [e]), List.filter_cons_of_neg (by simp [hl]), List.filter_cons_of_pos (by simp [hg]), ih, f1]; rfl
      · have hg := ltL_asym hl
        rw [List.filter_cons_of_pos (by simp [e]), List.filter_cons_of_pos (by simp [hl]), List.filter_cons_of_neg (by simp [hg]), ih]; rfl
theorem put_mOf {L : List (List Int × α)} (hL : KByt L) (hr : Ris Prod.fst L) {K : List Int} (hK : Byt K) (v : α) : (mOf val L).put (kL K) (.held (val v)) = mOf val (setM L K (some v)) := by
  show DataW.map (DataW.insert (entM val (K, v)) ((L.map (entM val)).filter _)) = _
  rw [show (L.map (entM val)).filter (fun p => !p.1.sameKey (kL K)) = _ from filt_mOf hK hL, ins_mOf hK v hL hr]
  rfl
theorem del_mOf {L : List (List Int × α)} (hL : KByt L) (hr : Ris Prod.fst L) {K : List Int} (hK : Byt K) : (mOf val L).del (kL K) = mOf val (setM L K none) := by
  show DataW.map ((L.map (entM val)).filter _) = _
  rw [show (L.map (entM val)).filter (fun p => !p.1.sameKey (kL K)) = _ from filt_mOf hK hL, ne_lt hr]
  rfl
theorem size_mOf (L : List (List Int × α)) : Maps.size (mOf val L) = L.length := by simp [mOf, Maps.size]
theorem mem_setM {L : List (List Int × α)} {K : List Int} {o : Option α} {p : List Int × α} : p ∈ setM L K o ↔ (p ∈ L ∧ p.1 ≠ K) ∨ (p.1 = K ∧ o = some p.2) := by
  unfold setM
  simp only [List.mem_append, List.mem_filter, List.mem_map]
  constructor
  · rintro (⟨h, l⟩ | ⟨r, h, rfl⟩ | ⟨h, l⟩)
    · exact .inl ⟨h, ltL_ne l⟩
    · exact .inr ⟨rfl, by simpa using h⟩
    · exact .inl ⟨h, (ltL_ne l).symm⟩
  · rintro (⟨h, n⟩ | ⟨e, h⟩)
    · cases l : ltL p.1 K
      · exact .inr (.inr ⟨h, ltL_or l (Ne.symm n)⟩)
      · exact .inl ⟨h, rfl⟩
    · exact .inr (.inl ⟨p.2, by simp [h], by rw [← e]⟩)
theorem setM_ok {L : List (List Int × α)} (h : Ris Prod.fst L) (K : List Int) (o : Option α) : Ris Prod.fst (setM L K o) := by
  unfold setM
  refine List.pairwise_append.2 ⟨h.filter _, List.pairwise_append.2 ⟨?_, h.filter _, ?_⟩, ?_⟩
  · cases o <;> simp
  · intro a ha b hb
    obtain ⟨r, _, rfl⟩ := List.mem_map.1 ha
    exact (List.mem_filter.1 hb).2
  · intro a ha b hb
    have ha := (List.mem_filter.1 ha).2
    rcases List.mem_append.1 hb with hb | hb
    · obtain ⟨r, _, rfl⟩ := List.mem_map.1 hb
      exact ha
    · exact ltL_trans ha (List.mem_filter.1 hb).2
theorem getM_some {L : List (List Int × α)} (h : Ris Prod.fst L) {K : List Int} {r : α} : getM L K = some r ↔ (K, r) ∈ L := by
  induction L with
  | nil => simp [getM]
  | cons p t ih =>
    obtain ⟨h1, h2⟩ := List.pairwise_cons.1 h
    unfold getM
    rw [List.find?_cons]
    by_cases e : p.1 = K
    · rw [show decide (p.1 = K) = true by simp [e]]
      constructor
      · intro hh
        have hh : p.2 = r := by simpa using hh
        rw [← e, ← hh]; exact List.mem_cons_self ..
      · intro hh
        rcases List.mem_cons.1 hh with hh | hh
        · rw [← hh]; rfl
        · have := h1 _ hh
          rw [e, ltL_irr] at this; cases this
    · rw [show decide (p.1 = K) = false by simp [e]]
      constructor
      · intro hh; exact List.mem_cons_of_mem _ ((ih h2).1 hh)
      · intro hh
        rcases List.mem_cons.1 hh with hh | hh
        · exact absurd (by rw [← hh]) e
        · exact (ih h2).2 hh
theorem getM_none {L : List (List Int × α)} {K : List Int} : getM L K = none ↔ ∀ p ∈ L, p.1 ≠ K := by
  unfold getM
  rw [Option.map_eq_none_iff, List.find?_eq_none]
  simp
theorem getM_set {L : List (List Int × α)} (h : Ris Prod.fst L) (K : List Int) (o : Option α) (j : List Int) : getM (setM L K o) j = if j = K then o else getM L j := by
  by_cases e : j = K
  · subst e
    rw [if_pos rfl]
    cases o with
    | none => rw [getM_none]; intro p hp; rcases mem_setM.1 hp with hp | hp
              · exact hp.2
              · cases hp.2
    | some r => rw [getM_some (setM_ok h _ _)]; exact mem_setM.2 (.inr ⟨rfl, rfl⟩)
  · rw [if_neg e]
    cases hg : getM L j with
    | some x => exact (getM_some (setM_ok h _ _)).2 (mem_setM.2 (.inl ⟨(getM_some h).1 hg, e⟩))
    | none =>
      rw [getM_none] at hg ⊢
      intro p hp
      rcases mem_setM.1 hp with hp | hp
      · exact hg p hp.1
      · rw [hp.1]; exact fun e' => e e'.symm
/-- A map in memory: its keys are bytes, and rise. -/
structure Mp (W : World) (b : Nat) (val : α → Value) (L : List (List Int × α)) : Prop where
  own : W.ownsMap Tryz.prog 9 RF b L.length (mOf val L)
  byt : KByt L
theorem ownsMap_exact {H : Type} {W : World} {P : Program} {k : TypeId} {R : Value → Option (DataW H × List MemPlace)} {b n : Nat} {D : DataW H} (h : W.ownsMap P k R b n D) : W.ownsMap P k R b (Maps.size D) D := by
  obtain ⟨es, c, hb, F, hs, rfl⟩ := h
  exact ⟨es, c, hb, F, by simp [Maps.size, length_sorted], rfl⟩
theorem Mp.apart {W : World} {b : Nat} {L : List (List Int × α)} (h : Mp W b val L) : L.Pairwise fun f g => kL f.1 ≠ kL g.1 := by
  obtain ⟨es, e, hp⟩ := h.own.tidy law9
  have : es = L.map (entM val) := by unfold mOf at e; cases e; rfl
  subst this
  rw [List.pairwise_map] at hp
  exact hp
theorem Mp.ris {W : World} {b : Nat} {L : List (List Int × α)} (h : Mp W b val L) : Ris Prod.fst L := by
  have ha := h.apart
  obtain ⟨es, c, hb, F, hs, hD⟩ := h.own
  have e : L.map (entM val) = (es.toList.map (Go.WideElems.rg Tryz.prog 9 RF)).foldr DataW.insert [] := by unfold mOf at hD; injection hD
  have hp := sorted_perm (es.toList.map (Go.WideElems.rg (H := Value) Tryz.prog 9 RF))
  rw [← e] at hp
  have hk : Go.ChangeMaps.StrKeys (es.toList.map (Go.WideElems.rg Tryz.prog 9 RF)) := fun q hq => by
    obtain ⟨f, hf, rfl⟩ := List.mem_map.1 (hp.mem_iff.2 hq)
    exact ⟨_, rfl⟩
  have hne : (es.toList.map (Go.WideElems.rg Tryz.prog 9 RF)).Pairwise (fun p q => p.1 ≠ q.1) := (hp.pairwise_iff (fun {_ _} h => Ne.symm h)).1 (List.pairwise_map.2 ha)
  have := Go.ChangeMaps.sorted_sorted _ hk hne
  rw [← e, List.pairwise_map] at this
  refine List.Pairwise.imp_of_mem (fun {x y} hx hy hb => ?_) this
  have := kL_before (h.byt x hx) (h.byt y hy)
  rw [← this]; exact hb
theorem Mp.lt {W : World} {b : Nat} {L : List (List Int × α)} (h : Mp W b val L) : b < W.heap.size := h.own.lt
theorem Mp.off {S : Nat → Prop} {W W' : World} {b : Nat} {L : List (List Int × α)} (h : Mp W b val L) (o : Off S W W') (hn : ¬ S b) : Mp W' b val L := ⟨o.map h.own hn, h.byt⟩
theorem Mp.below {W W' : World} {b : Nat} {L : List (List Int × α)} (h : Mp W b val L) (o : Below W.heap.size W W') : Mp W' b val L := h.off (S := fun _ => False) (Off.of o) fun h => h
theorem Mp.new (w : World) (val : α → Value) : Mp (w.alloc (.map #[] 0)) w.heap.size val [] := ⟨World.ownsMap_made w Tryz.prog 9 RF, fun x hx => by simp at hx⟩
theorem Mp.put {W : World} {b n : Nat} {L : List (List Int × α)} (h : Mp W b val L) {K : List Int} (hK : Byt K) (v : α) {W' : World} (hm : W'.ownsMap Tryz.prog 9 RF b n ((mOf val L).put (kL K) (.held (val v)))) : Mp W' b val (setM L K (some v)) := by
  rw [put_mOf h.byt h.ris hK] at hm
  have := ownsMap_exact hm
  rw [size_mOf] at this
  exact ⟨this, h.byt.set hK _⟩
theorem Mp.del {W : World} {b n : Nat} {L : List (List Int × α)} (h : Mp W b val L) {K : List Int} (hK : Byt K) {W' : World} (hm : W'.ownsMap Tryz.prog 9 RF b n ((mOf val L).del (kL K))) : Mp W' b val (setM L K none) := by
  rw [del_mOf h.byt h.ris hK] at hm
  have := ownsMap_exact hm
  rw [size_mOf] at this
  exact ⟨this, h.byt.set hK _⟩
/-- A look into a map. -/
theorem Mp.look {W : World} {b t e : Nat} {L : List (List Int × α)} (h : Mp W b val L) (ht : Tryz.prog.underlying t = some (.map 9 e)) {z : Value} (hz : (zeroValue e).run Tryz.prog W = .ok z W) {K : List Int} (hK : Byt K) (hn : K.length ≤ maxLen) :
    (Instr.lookup t (.map (some b)) (.string (strOfNums K)) true).run Tryz.prog W = .ok (.tuple #[((getM L K).map val).getD z, .bool (getM L K).isSome]) W := by
  obtain ⟨v, ps, hr, hv⟩ := h.own.look_ok law9 ht hz (zd := .held z) (zp := []) rfl (keyK hn)
  rw [has_mOf h.byt hK] at hr
  rw [at_mOf h.byt hK] at hv
  have e2 := RF_inv hv
  have : ((getM L K).map val).getD z = v := by
    have := (Prod.mk.inj e2).1
    revert this
    cases getM L K <;> intro this <;> simpa using this
  rw [this]
  exact hr
end
end Go.Proofs.YthmofoldmdafoaaGreat
namespace Go.Proofs.YthmofoldmdafoaaGreat
open Go.ChangeShapes Go.WideShapes Go.ChangeAt Go.RowKit Go.Shelf
set_option linter.unusedVariables false
set_option linter.unusedSimpArgs false
attribute [local go_sem] Oper.semAt_some

end Go.Proofs.YthmofoldmdafoaaGreat
namespace Go.Proofs.YthmofoldmdafoaaGreat
open Go.ChangeShapes Go.WideShapes Go.ChangeAt Go.RowKit
set_option linter.unusedVariables false
set_option linter.unusedSimpArgs false

end Go.Proofs.YthmofoldmdafoaaGreat
namespace Go.Proofs.YthmofoldmdafoaaGreat
open Go.ChangeShapes Go.WideShapes Go.ChangeAt Go.RowKit Go.Shelf
set_option linter.unusedVariables false
set_option linter.unusedSimpArgs false

/-- The tree of a table's index. -/
def trV (j : Job) (a b : Int) : Int × Int × Int × Bool := firstV (fun x : Tr => decide (x.2.1 = a ∧ x.2.2 = b)) (idx 0 (named j))
def ofV (j : Job) (a : Int) : Int × Int × Int × Bool := firstV (fun x : Tr => decide ((x.1 : Int) = a)) (idx 0 (named j))
theorem firstV_off {p : Tr → Bool} : ∀ {l : List Tr}, (firstV p l).2.2.2 = false → firstV p l = (0, 0, 0, false)
  | [], _ => rfl
  | x :: r, h => by
    rw [firstV] at h ⊢
    by_cases e : p x = true
    · rw [if_pos e] at h; cases h
    · rw [if_neg e] at h ⊢; exact firstV_off h
set_option maxRecDepth 100000 in
set_option maxHeartbeats 4000000 in
theorem tree_law (j : Job) (a b : Int) (w : World) (hj : JobAt w j) :
    Calls Tryz.prog 85 #[.agg #[.int .i64 j.w, .int .i64 j.l, .int .i64 j.d, .int .i64 j.c, .int .i64 j.k, .int .i64 j.e, .slice j.a j.n j.cap], .int .i64 a, .int .i64 b] w fun r w' => r = .returned (.tuple #[.int .i64 (trV j a b).1, .int .i64 (if (trV j a b).2.2.2 then 0 else 2)]) ∧ Below w.heap.size w w' := by
  have HJ := Lib.hid hj
  have HT := Lib.hid (fun (W : World) (P1 P2 : Nat) (h : JobAt W j) (h1 : Boxed W P1 3 (.int .i64 a)) (h2 : Boxed W P2 3 (.int .i64 b)) => findtree_law j a b P1 P2 W h h1 h2)
  rw [show firstV (fun x : Tr => decide (x.2.1 = a ∧ x.2.2 = b)) (idx 0 (named j)) = trV j a b from rfl] at HT
  have HZ := Lib.hid (show (trV j a b).2.2.2 = false → trV j a b = (0, 0, 0, false) from fun h => firstV_off h)
  clear hj
  generalize trV j a b = V at HT HZ ⊢
  obtain ⟨k, t, i, ok⟩ := V
  simp only at HT HZ ⊢
  have BW : Below w.heap.size w (((w.alloc (.cells #[.int .i64 j.w, .int .i64 j.l, .int .i64 j.d, .int .i64 j.c, .int .i64 j.k, .int .i64 j.e, .slice j.a j.n j.cap] 24)).alloc (.cells #[.int .i64 a] 3)).alloc (.cells #[.int .i64 b] 3)) := (((Below.refl _ w).alloc (Nat.le_refl _) _).alloc (by simp) _).alloc (by simp; omega) _
  have b1 := (Boxed.new (w.alloc (.cells #[.int .i64 j.w, .int .i64 j.l, .int .i64 j.d, .int .i64 j.c, .int .i64 j.k, .int .i64 j.e, .slice j.a j.n j.cap] 24)) 3 (.int .i64 a)).alloc (.cells #[.int .i64 b] 3)
  have b2 := Boxed.new ((w.alloc (.cells #[.int .i64 j.w, .int .i64 j.l, .int .i64 j.d, .int .i64 j.c, .int .i64 j.k, .int .i64 j.e, .slice j.a j.n j.cap] 24)).alloc (.cells #[.int .i64 a] 3)) 3 (.int .i64 b)
  simp only [World.size_alloc] at b1 b2
  have HW := Lib.hid (HT.out _ _ _ (HJ.out.below BW) b1 b2)
  have HBW := Lib.hid BW
  clear HT b1 b2 BW
  cases ok
  · obtain rfl : k = 0 := by have := HZ.out rfl; simp at this; exact this.1
    simp only [Bool.false_eq_true, ↓reduceIte]
    clear HZ
    go_enter Tryz.func85, Tryz.ntmps85
    go_wp2_with fail
    refine HW.out.mono ?_; rintro r w' ⟨rfl, B1⟩
    have HB := Lib.hid (step_below HBW.out B1)
    clear B1
    go_wp2_with fail
    go_ret2
    exact ⟨rfl, HB.out.alloc HB.out.size _⟩
  · simp only [↓reduceIte]
    clear HZ
    go_enter Tryz.func85, Tryz.ntmps85
    go_wp2_with fail
    refine HW.out.mono ?_; rintro r w' ⟨rfl, B1⟩
    have HB := Lib.hid (step_below HBW.out B1)
    clear B1
    go_wp2_with fail
    go_ret2
    exact ⟨rfl, HB.out.alloc HB.out.size _⟩
end Go.Proofs.YthmofoldmdafoaaGreat
namespace Go.Proofs.YthmofoldmdafoaaGreat
open Go.ChangeShapes Go.WideShapes Go.ChangeAt Go.RowKit Go.Shelf
set_option linter.unusedVariables false
set_option linter.unusedSimpArgs false

def nv (l : List (Int × Int)) : List Value := l.flatMap fun p => [.int .i64 p.1, .int .i64 p.2]
end Go.Proofs.YthmofoldmdafoaaGreat
namespace Go.Proofs.YthmofoldmdafoaaGreat
open Go.ChangeShapes Go.WideShapes Go.ChangeAt Go.RowKit Go.Shelf
set_option linter.unusedVariables false
set_option linter.unusedSimpArgs false

theorem idx_mem : ∀ (l : List (Int × Int)) (s : Nat) (x : Tr), x ∈ idx s l → ∃ i, l[i]? = some (x.2.1, x.2.2) ∧ x.1 = s + i
  | [], s, x, h => by simp [idx] at h
  | p :: r, s, x, h => by
    rcases List.mem_cons.1 h with e | h
    · subst e; exact ⟨0, by simp, by simp⟩
    · obtain ⟨i, h1, h2⟩ := idx_mem r (s + 1) x h
      exact ⟨i + 1, by simpa using h1, by omega⟩
end Go.Proofs.YthmofoldmdafoaaGreat
namespace Go.Proofs.YthmofoldmdafoaaGreat
open Go.ChangeShapes Go.WideShapes Go.ChangeAt Go.RowKit Go.Shelf
set_option linter.unusedVariables false
set_option linter.unusedSimpArgs false

set_option maxRecDepth 100000 in
set_option maxHeartbeats 4000000 in
theorem entry_own (a b : Option Addr) (Lf Lk : List Int) (n m ca cb : Nat) (hf : Lf.length = n) (hkl : Lk.length = m) (hn : n ≤ 24) (hk : mayK m = true) (w : World) (hA : Ls .u8 w a ca Lf) (hB : Ls .u8 w b cb Lk) :
    Calls Tryz.prog 137 #[.slice a n ca, .slice b m cb] w fun r w' => ∃ a' c', r = .returned (.tuple #[.slice a' (entryL Lf Lk).length c', .int .i64 0]) ∧ w'.ownsRow w.heap.size 5 1 (.slice a' (entryL Lf Lk).length c') (entryL Lf Lk).length (iv .u8 (entryL Lf Lk)) ∧ Below w.heap.size w w' := by
  have HA := Lib.hid hA
  have HB := Lib.hid hB
  have HF := Lib.hid hf
  have HKL := Lib.hid hkl
  have HK := Lib.hid hk
  have hm32 : m ≤ 32 := by unfold mayK at hk; simp at hk; omega
  have hfl := frontL_len Lf
  have hE : entryL Lf Lk = frontL Lf ++ ([0, 1] ++ Lk) := rfl
  obtain ⟨F, hF⟩ : ∃ F, frontL Lf = F := ⟨_, rfl⟩
  rw [hF] at hfl hE
  obtain ⟨E, hEE⟩ : ∃ E, entryL Lf Lk = E := ⟨_, rfl⟩
  rw [hEE] at hE ⊢
  have HFF := Lib.hid hF
  have HE := Lib.hid hE
  obtain ⟨fl, hl⟩ : ∃ fl, F.length = fl := ⟨_, rfl⟩
  rw [hl] at hfl
  have HFLE := Lib.hid (show fl ≤ 48 by omega)
  have HL := Lib.hid hl
  clear hA hB hf hkl hk hF hE hEE hl hfl
  have h := front_ok a Lf n ca HF.out hn w HA.out
  rw [HFF.out, HL.out] at h
  go_enter Tryz.func137, Tryz.ntmps137
  go_wp2_with fail
  refine h.mono ?_; rintro e w' ⟨a', c', rfl, l', B⟩
  clear h
  go_wp2_with fail
  refine (maykey_law _ _ _ _).mono ?_; rintro e w2 ⟨rfl, rfl⟩
  rw [HK.out]
  go_wp2_with fail
  have hfl2 : flat [⟨a', c', F⟩, ⟨some ⟨w'.heap.size, 0, none⟩, 2, [0, 1]⟩, ⟨b, cb, Lk⟩] = E := by rw [HE.out]; simp [flat]
  have hlen : E.length = fl + (2 + m) := by rw [HE.out, List.length_append, List.length_append, HL.out, HKL.out]; rfl
  have BW := (Below.refl w'.heap.size w').alloc (Nat.le_refl _) (.cells #[.int .u8 0, .int .u8 1] 5)
  have hRR := rdR_new (w'.alloc (.cells #[.int .u8 0, .int .u8 1] 5)) [⟨a', c', F⟩, ⟨some ⟨w'.heap.size, 0, none⟩, 2, [0, 1]⟩, ⟨b, cb, Lk⟩] #[.slice a' fl c', .slice (some ⟨w'.heap.size, 0, none⟩) 2 2, .slice b m cb] 42 (0, 0) (by simp only [List.map_cons, List.map_nil, P1.v, HL.out, HKL.out]; rfl) (by
    intro p hp
    simp only [List.mem_cons, List.not_mem_nil, or_false] at hp
    rcases hp with rfl | rfl | rfl
    · exact l'.below BW
    · exact ls_new .u8 w' [0, 1] _ _ _ rfl 2 rfl
    · exact HB.out.below (B.trans (BW.mono B.size)))
  rw [World.size_alloc] at hRR
  have hj := join_own (some ⟨w'.heap.size + 1, 0, none⟩) [⟨a', c', F⟩, ⟨some ⟨w'.heap.size, 0, none⟩, 2, [0, 1]⟩, ⟨b, cb, Lk⟩] 3 3 rfl (by omega) (by rw [hfl2, hlen]; have := HFLE.out; omega) _ hRR
  rw [hfl2] at hj
  have HJ := Lib.hid hj
  clear hj hfl2 hlen
  refine HJ.out.mono ?_; rintro e w3 ⟨a3, c3, rfl, _, o3, B3⟩
  obtain ⟨el, hel⟩ : ∃ el, E.length = el := ⟨_, rfl⟩
  rw [hel]
  have HEL := Lib.hid hel
  clear hel
  have HO := Lib.hid (own_base (show w.heap.size ≤ _ by have h1 := B.size; have h2 := BW.size; simp at h2 ⊢; omega) o3)
  clear o3
  have B4 := step_below B (step_below BW (step_below ((Below.refl _ _).alloc (Nat.le_refl _) _) B3))
  go_wp2_with fail
  go_ret2
  exact ⟨a3, c3, by rw [HEL.out]; rfl, HO.out, B4⟩

abbrev E1 := Int × P1
def ev (L : List E1) : List Value := L.flatMap fun p => [.int .i64 p.1, p.2.v]
theorem ev_append (a b : List E1) : ev (a ++ b) = ev a ++ ev b := by simp [ev]
theorem ev_at (l : List E1) : ∀ (k : Nat) (p : E1), l[k]? = some p → (ev l)[k * 2]? = some (.int .i64 p.1) ∧ (ev l)[k * 2 + 1]? = some p.2.v := by
  induction l with
  | nil => intro k p h; simp at h
  | cons q r ih =>
    intro k p h
    cases k with
    | zero => simp at h; subst h; simp [ev]
    | succ k =>
      have h' : r[k]? = some p := by simpa using h
      have := ih k p h'
      simp only [ev, List.flatMap_cons, List.cons_append, List.nil_append] at this ⊢
      rw [show (k + 1) * 2 = k * 2 + 1 + 1 by omega]
      simpa using this
theorem info91 : (Tryz.prog.info? 192).map (fun i => (i.zero, i.size, i.bytes)) = some (some (.agg #[.int .i64 0, .slice none 0 0]), 2, 32) := by kernel_rfl
/-- A list of entries, read. -/
def EnR (W : World) (a : Option Addr) (L : List E1) : Prop := ∀ (k : Nat) (p : E1), L[k]? = some p → ∃ b off, a = some ⟨b, off, none⟩ ∧ W.cell? ⟨b, off + k * 2, none⟩ = some (.int .i64 p.1) ∧ W.cell? ⟨b, off + k * 2 + 1, none⟩ = some p.2.v ∧ Ls .u8 W p.2.ad p.2.cap p.2.bs
theorem own_enr {w : World} {base n : Nat} {v : Value} {l : List E1} (h : w.ownsRow base 192 2 v n (ev l)) (hn : l.length = n) (hl : ∀ p ∈ l, Ls .u8 w p.2.ad p.2.cap p.2.bs) : ∃ a cap, v = .slice a n cap ∧ EnR w a l := by
  have h' := h
  rcases h.2 with ⟨e, h0⟩ | ⟨g, cap, cur, rfl, hg, _, hc, _⟩
  · have : l = [] := List.length_eq_zero_iff.1 (by omega)
    subst this h0
    exact ⟨none, 0, e, fun k p hp => by simp at hp⟩
  · refine ⟨_, cap, rfl, fun k p hp => ⟨g, 0, rfl, ?_, ?_, hl p (List.mem_of_getElem? hp)⟩⟩
    · have hk := (List.getElem?_eq_some_iff.1 hp).1
      rw [Nat.zero_add, h'.cellAt (k * 2) (by omega)]
      exact (ev_at l k p hp).1
    · have hk := (List.getElem?_eq_some_iff.1 hp).1
      rw [Nat.zero_add, h'.cellAt (k * 2 + 1) (by omega)]
      exact (ev_at l k p hp).2
/-- What a list of entries says. -/
def enS (L : List E1) : List (Int × List Int) := L.map fun p => (p.1, p.2.bs)
/-- The entries of the first m indexes. -/
def entL (f m : Nat) (R : List P1) (K : List Int) : List (Int × List Int) := (List.range m).map fun (i : Nat) => (((f + 1 + i : Nat) : Int), entryL ((R.map P1.bs).getD (i + 1) []) K)
theorem entL_succ (f m : Nat) (R : List P1) (K : List Int) : entL f (m + 1) R K = entL f m R K ++ [(((f + 1 + m : Nat) : Int), entryL ((R.map P1.bs).getD (m + 1) []) K)] := by simp [entL, List.range_succ]
theorem entL_length (f m : Nat) (R : List P1) (K : List Int) : (entL f m R K).length = m := by simp [entL]
def rowOk (R : List P1) : Bool := decide (R.length = 0) || mayR R
/-- The entries, and the error. -/
def entV (j : Job) (t : Int) (R : List P1) (K : List Int) : List (Int × List Int) × Int :=
  if (trV j t (-1)).2.2.2 && mayK K.length && rowOk R then (entL (trV j t (-1)).1.toNat (min (j.T.getD t.toNat 0).toNat (R.length - 1)) R K, 0) else ([], 2)
theorem nmL_mem : ∀ (T : List Int) (s : Nat) (p : Int × Int), p ∈ nmL s T → ∃ k, k < T.length ∧ p.1 = ((s + k : Nat) : Int)
  | [], s, p, h => by simp [nmL] at h
  | x :: r, s, p, h => by
    simp only [nmL, List.mem_append] at h
    rcases h with h | h
    · simp only [rowN, List.mem_map] at h
      obtain ⟨i, _, rfl⟩ := h
      exact ⟨0, by simp, by simp⟩
    · obtain ⟨k, h1, h2⟩ := nmL_mem r (s + 1) p h
      exact ⟨k + 1, by simp; omega, by rw [h2]; congr 1; omega⟩
theorem firstV_mem {p : Tr → Bool} : ∀ {l : List Tr}, (firstV p l).2.2.2 = true → ∃ x ∈ l, p x = true ∧ firstV p l = ((x.1 : Int), x.2.1, x.2.2, true)
  | [], h => by simp [firstV] at h
  | x :: r, h => by
    by_cases e : p x = true
    · exact ⟨x, by simp, e, by rw [firstV, if_pos e]⟩
    · rw [firstV, if_neg e] at h
      obtain ⟨y, h1, h2, h3⟩ := firstV_mem h
      exact ⟨y, by simp [h1], h2, by rw [firstV, if_neg e]; exact h3⟩
theorem trV_facts {j : Job} {t : Int} (hj : j.T.length = j.n) (h : (trV j t (-1)).2.2.2 = true) : ∃ k f : Nat, t = (k : Int) ∧ k < j.T.length ∧ okB j = true ∧ f ≤ 12 ∧ (trV j t (-1)).1 = (f : Int) := by
  obtain ⟨x, hx, hp, e⟩ := firstV_mem h
  have hn : okB j = true := by
    by_cases ho : okB j = true
    · exact ho
    · rw [named_no (by simpa using ho)] at hx; simp [idx] at hx
  obtain ⟨i, h1, h2⟩ := idx_mem _ _ _ hx
  have hm : (x.2.1, x.2.2) ∈ named j := List.mem_of_getElem? h1
  rw [named_ok hn] at hm
  obtain ⟨k, h3, h4⟩ := nmL_mem _ _ _ hm
  have hp2 := of_decide_eq_true hp
  refine ⟨k, x.1, by rw [← hp2.1]; simpa using h4, h3, hn, ?_, by show (firstV _ _).1 = _; rw [e]⟩
  have h5 := (List.getElem?_eq_some_iff.1 h1).1
  have := named_len j hj
  omega
/-- What is kept round the loop. -/
structure EnI (base f m : Nat) (R : List P1) (K : List Int) (v : Value) (wr : World) : Prop where
  ex : ∃ L : List E1, enS L = entL f m R K ∧ wr.ownsRow base 192 2 v m (ev L) ∧ ∀ p ∈ L, wr.ownsRow base 5 1 p.2.v p.2.bs.length (iv .u8 p.2.bs)
theorem EnI.below {base f m : Nat} {R : List P1} {K : List Int} {v : Value} {w w' : World} (h : EnI base f m R K v w) (b : Below w.heap.size w w') : EnI base f m R K v w' := by
  obtain ⟨L, h1, h2, h3⟩ := h.ex
  exact ⟨L, h1, own_kept h2 b, fun p hp => own_kept (h3 p hp) b⟩
end Go.Proofs.YthmofoldmdafoaaGreat
namespace Go.Proofs.YthmofoldmdafoaaGreat
open Go.ChangeShapes Go.WideShapes Go.ChangeAt Go.RowKit Go.Shelf
set_option linter.unusedVariables false
set_option linter.unusedSimpArgs false

end Go.Proofs.YthmofoldmdafoaaGreat
namespace Go.Proofs.YthmofoldmdafoaaGreat.K8.SM

/-- A word's value behind i bytes, the first one highest. -/
def wd (f : Nat → Int) : Nat → Int
  | 0 => 0
  | i + 1 => wd f i + f i * 2 ^ (56 - 8 * i)

end Go.Proofs.YthmofoldmdafoaaGreat.K8.SM
namespace Go.Proofs.YthmofoldmdafoaaGreat.K8
open Go.ChangeShapes Go.WideShapes Go.ChangeAt Go.RowKit
open SM
set_option linter.unusedVariables false
set_option linter.unusedSimpArgs false

theorem ret_bool {a b : Bool} (h : a = b) : Ending.returned (.bool a) = .returned (.bool b) := by rw [h]
theorem step_below {w a b : World} (h : Below w.heap.size w a) (k : Below a.heap.size a b) : Below w.heap.size w b := h.trans (k.mono h.size)

def cnt (len : Nat) : Nat := (max len 1 - 1) / 8 + 1
def slW (f : Nat → Int) (len i : Nat) : Int := wd (fun k => f (8 * i + k)) (min (len - 8 * i) 8)
def slL (len i : Nat) : Nat := min (len - 8 * i) 9

end Go.Proofs.YthmofoldmdafoaaGreat.K8
namespace Go.Proofs.YthmofoldmdafoaaGreat.K8
open Go.ChangeShapes Go.WideShapes Go.ChangeAt Go.RowKit
open SM
set_option linter.unusedVariables false
set_option linter.unusedSimpArgs false

def cmpV (a b : Int) : Int := if a < b then -1 else if b < a then 1 else 0

def cmpS (x m y n : Int) : Int := if cmpV x y ≠ 0 then cmpV x y else cmpV m n
end Go.Proofs.YthmofoldmdafoaaGreat.K8
namespace Go.Proofs.YthmofoldmdafoaaGreat.K8
open Go.ChangeShapes Go.WideShapes Go.ChangeAt Go.RowKit Go.Shelf
open SM
set_option linter.unusedVariables false
set_option linter.unusedSimpArgs false
attribute [local go_sem] Oper.semAt_some

theorem grown_of_below {w w' : World} (h : Below w.heap.size w w') : w.grownBy w' none := ⟨h.os, h.tape, h.output, h.size, fun k hk _ => h.block k hk⟩

def ofV (f : Nat → Int) (len i : Nat) : Int × Int × Int := if i < cnt len then (slW f len i, (slL len i : Nat), 0) else (0, 0, 2)
abbrev Sl := Nat × Int × Int
def encs (x : Sl) : Array Value := #[.int .i64 (x.1 : Int), .agg #[.int .u64 x.2.1, .int .i64 x.2.2]]
theorem addr_add (b off j : Nat) : (⟨b, off, none⟩ : Addr).add j = ⟨b, off + j, none⟩ := by
  unfold Addr.add
  by_cases h : j = 0 <;> simp [h]

end Go.Proofs.YthmofoldmdafoaaGreat.K8
namespace Go.Proofs.YthmofoldmdafoaaGreat.K8
open Go.ChangeShapes Go.WideShapes Go.ChangeAt Go.RowKit Go.Shelf
open SM
set_option linter.unusedVariables false
set_option linter.unusedSimpArgs false
attribute [local go_sem] Oper.semAt_some

theorem wpIn_scope {n : Nat} {P : Program} {c : Code} {Q : Exit → Act → World → Prop} {a : Act} {w : World} (h : c.wpIn Fence.wide n P (Exit.noGoto Q) a w) : (Code.scope c).wpIn Fence.wide n P Q a w :=
  wpIn_wide.2 (wp_scope_straight (wpIn_wide.1 h))

theorem boxed_below {W W' : World} {B : Nat} {t : TypeId} {v : Value} (h : Boxed W B t v) (hb : Below W.heap.size W W') : Boxed W' B t v := (hb.block B h.lt).trans h

def othV (fb : Nat → Int) (lb : Nat) (x : Sl) : Int := cmpS x.2.1 x.2.2 (ofV fb lb x.1).1 (ofV fb lb x.1).2.1
def goes (fb : Nat → Int) (lb : Nat) (x : Sl) : Prop := othV fb lb x = 0 ∧ (ofV fb lb x.1).2.2 = 0
instance (fb : Nat → Int) (lb : Nat) (x : Sl) : Decidable (goes fb lb x) := inferInstanceAs (Decidable (_ ∧ _))
end Go.Proofs.YthmofoldmdafoaaGreat.K8
namespace Go.Proofs.YthmofoldmdafoaaGreat.K8
open SM
set_option linter.unusedVariables false
set_option linter.unusedSimpArgs false

end Go.Proofs.YthmofoldmdafoaaGreat.K8
namespace Go.Proofs.YthmofoldmdafoaaGreat
open Go.ChangeShapes Go.WideShapes Go.ChangeAt Go.RowKit Go.Shelf
set_option linter.unusedVariables false
set_option linter.unusedSimpArgs false

end Go.Proofs.YthmofoldmdafoaaGreat
namespace Go.Proofs.YthmofoldmdafoaaGreat
open Go.ChangeShapes Go.WideShapes Go.ChangeAt Go.RowKit Go.Shelf
set_option linter.unusedVariables false
set_option linter.unusedSimpArgs false

end Go.Proofs.YthmofoldmdafoaaGreat
namespace Go.Proofs.YthmofoldmdafoaaGreat
open Go.ChangeShapes Go.WideShapes Go.ChangeAt Go.RowKit Go.Maps
set_option linter.unusedVariables false
set_option linter.unusedSimpArgs false

/-- A row as a map has it. -/
structure RV where
  ra : Option Addr
  rc : Nat
  R : List P1
def RV.v (r : RV) : Value := .slice r.ra r.R.length r.rc
def RV.P (r : RV) : List (List Int) := r.R.map P1.bs
/-- A table in plain words. -/
def tabP (L : List (List Int × RV)) : List Pr := L.map fun x => (x.1, x.2.P)
def keyOk (K : List Int) : Prop := Byt K ∧ 1 ≤ K.length ∧ K.length ≤ 32
def rOk (R : List (List Int)) : Prop := 1 ≤ R.length ∧ R.length ≤ 3 ∧ ∀ f ∈ R, Byt f ∧ f.length ≤ 24
/-- What a table may be. -/
def tOk (t : List Pr) : Prop := TabOk t ∧ ∀ p ∈ t, keyOk p.1 ∧ rOk p.2
theorem tOk.set {t : List Pr} (h : tOk t) {K : List Int} (hK : keyOk K) {R : List (List Int)} (hR : R ≠ [] → rOk R) : tOk (setT t K R) := ⟨setT_ok h.1 K R, fun p hp => by
  rcases mem_setT.1 hp with hp | ⟨rfl, hr⟩
  · exact h.2 p hp.1
  · exact ⟨hK, hR hr⟩⟩
theorem tabP_set (L : List (List Int × RV)) (K : List Int) (r : RV) (hr : r.P ≠ []) : tabP (setM L K (some r)) = setT (tabP L) K r.P := by
  unfold tabP setM setT
  rw [if_neg hr]
  simp only [List.map_append, List.filter_map]
  rfl
theorem tabP_del (L : List (List Int × RV)) (K : List Int) : tabP (setM L K none) = setT (tabP L) K [] := by
  unfold tabP setM setT
  rw [if_pos rfl]
  simp only [List.map_append, List.filter_map]
  rfl
theorem tabP_get (L : List (List Int × RV)) (K : List Int) : getT (tabP L) K = (getM L K).map RV.P := by
  unfold tabP getT getM
  rw [List.find?_map]
  have : ((fun p : Pr => decide (p.1 = K)) ∘ fun x : List Int × RV => (x.1, x.2.P)) = fun x => decide (x.1 = K) := rfl
  rw [this]
  cases List.find? (fun x => decide (x.1 = K)) L <;> rfl
/-- The program's model: its block, its job, its tables. -/
structure Md where
  p : Nat
  j : Job
  bt : Nat
  tc : Nat
  tabs : List (Nat × List (List Int × RV))
def Md.cs (m : Md) : Array Value := #[.int .i64 m.j.w, .int .i64 m.j.l, .int .i64 m.j.d, .int .i64 m.j.c, .int .i64 m.j.k, .int .i64 m.j.e, .slice m.j.a m.j.n m.j.cap, .slice (some ⟨m.bt, 0, none⟩) m.tabs.length m.tc]
def Md.P (m : Md) : List (List Pr) := m.tabs.map fun x => tabP x.2
structure MdS (m : Md) (W : World) : Prop where
  box : BoxC W m.p m.cs 89
  tab : ∀ k x, m.tabs[k]? = some x → W.cell? ⟨m.bt, k, none⟩ = some (.map (some x.1))
  job : JobAt W m.j
/-- A model as it lies: it stays while nothing but the blocks of S, and new ones, are changed, and its maps' blocks are kept; those are S's. -/
structure MdR (S : Nat → Prop) (W : World) (m : Md) : Prop where
  st : Stay S W (MdS m)
  maps : ∀ x ∈ m.tabs, Mp W x.1 RV.v x.2
  rows : ∀ x ∈ m.tabs, ∀ e ∈ x.2, Stay S W (fun W' => RdR W' e.2.ra e.2.R)
  ok : okB m.j = true
  len : m.tabs.length = m.j.n
  cap : m.tabs.length ≤ m.tc
  nod : (m.tabs.map Prod.fst).Nodup
  hS : ∀ x ∈ m.tabs, S x.1
  lim : ∀ x ∈ m.tabs, tOk (tabP x.2)
theorem MdR.off {S S' T : Nat → Prop} {W W' : World} {m : Md} (h : MdR S W m) (o : Off T W W') (hT : ∀ k, T k → S k) (hm : ∀ x ∈ m.tabs, ¬ T x.1) (hs : ∀ k, S' k → S k ∨ W.heap.size ≤ k) (hs' : ∀ x ∈ m.tabs, S' x.1) : MdR S' W' m :=
  ⟨h.st.step (o.mono hT) hs, fun x hx => (h.maps x hx).off o (hm x hx), fun x hx e he => (h.rows x hx e he).step (o.mono hT) hs, h.ok, h.len, h.cap, h.nod, hs', h.lim⟩
theorem MdR.below {S : Nat → Prop} {W W' : World} {m : Md} (h : MdR S W m) (b : Below W.heap.size W W') : MdR S W' m := h.off (T := fun _ => False) (Off.of b) (fun _ h => h.elim) (fun _ _ h => h) (fun _ h => .inl h) h.hS
theorem Md.P_len (m : Md) : m.P.length = m.tabs.length := by simp [Md.P]
theorem MdR.c {S : Nat → Prop} {W : World} {m : Md} (h : MdR S W m) : W.cell? ⟨m.p, 7, none⟩ = some (.slice (some ⟨m.bt, 0, none⟩) m.tabs.length m.tc) := by
  rw [h.st.now.box.cell]; rfl
theorem MdR.few {S : Nat → Prop} {W : World} {m : Md} (h : MdR S W m) : 1 ≤ m.tabs.length ∧ m.tabs.length ≤ 4 := by
  rw [h.len]; exact okB_n h.ok

/-- Is there none? (51) -/
theorem mnone_law {S : Nat → Prop} {m : Md} {w : World} (h : MdR S w m) : Calls Tryz.prog 51 #[.pointer (some ⟨m.p, 0, none⟩)] w fun e w' => e = .returned (.bool false) ∧ w = w' := by
  have h0 := h.c
  have h1 := h.few
  have h2 : ((m.tabs.length : Int) == 0) = false := by simp; intro e; rw [e] at h1; simp at h1
  clear h
  go_enter Tryz.func51, Tryz.ntmps51
  go_wp2
  go_ret
  exact ⟨rfl, rfl⟩
/-- has (52). -/
theorem mhas_law {S : Nat → Prop} {m : Md} {w : World} (h : MdR S w m) (t : Int) : Calls Tryz.prog 52 #[.pointer (some ⟨m.p, 0, none⟩), .int .i64 t] w fun e w' => e = .returned (.bool (decide (0 ≤ t ∧ t < m.tabs.length))) ∧ w = w' := by
  have h0 := h.c
  have HM := Lib.hid (mnone_law h)
  have h1 := h.few
  clear h
  by_cases a : 0 ≤ t
  · by_cases b : t < (m.tabs.length : Int)
    · have HE := Lib.hid (show decide (0 ≤ t ∧ t < (m.tabs.length : Int)) = true by simp [a, b])
      go_enter Tryz.func52, Tryz.ntmps52
      go_wp2_with (go_at_call 51; refine HM.out.mono ?_; rintro e w' ⟨rfl, rfl⟩)
      go_ret
      refine ⟨?_, rfl⟩; first | (simp [a, b]; done) | (simp [a, Int.not_lt.2 b]; done) | (simp [Int.not_le.2 a]; done) | (simp [a]; done)
    · have HE := Lib.hid (show decide (0 ≤ t ∧ t < (m.tabs.length : Int)) = false by simp; intro _; omega)
      go_enter Tryz.func52, Tryz.ntmps52
      go_wp2_with (go_at_call 51; refine HM.out.mono ?_; rintro e w' ⟨rfl, rfl⟩)
      go_ret
      refine ⟨?_, rfl⟩; first | (simp [a, b]; done) | (simp [a, Int.not_lt.2 b]; done) | (simp [Int.not_le.2 a]; done) | (simp [a]; done)
  · have HE := Lib.hid (show decide (0 ≤ t ∧ t < (m.tabs.length : Int)) = false by simp; intro _; omega)
    go_enter Tryz.func52, Tryz.ntmps52
    go_wp2_with (go_at_call 51; refine HM.out.mono ?_; rintro e w' ⟨rfl, rfl⟩)
    go_ret
    refine ⟨?_, rfl⟩; first | (simp [a, b]; done) | (simp [a, Int.not_lt.2 b]; done) | (simp [Int.not_le.2 a]; done) | (simp [a]; done)
end Go.Proofs.YthmofoldmdafoaaGreat
namespace Go.Proofs.YthmofoldmdafoaaGreat
open Go.ChangeShapes Go.WideShapes Go.ChangeAt Go.RowKit
set_option linter.unusedVariables false
set_option linter.unusedSimpArgs false
/-- A table as it lies. -/
structure TbV where
  pa : Option Addr
  pc : Nat
  P : List PrV
def tbC (x : TbV) : List Pr := x.P.map prC
structure TbOk (x : TbV) : Prop where
  pn : x.P.length ≤ 1000000
  ps : ∀ p ∈ x.P, PrOk p
def TbR (W : World) (a : Option Addr) (L : List TbV) : Prop := ∀ (k : Nat) (x : TbV), L[k]? = some x → ∃ b off, a = some ⟨b, off, none⟩ ∧ W.cell? ⟨b, off + k, none⟩ = some (.slice x.pa x.P.length x.pc) ∧ PairsR W x.pa x.P
end Go.Proofs.YthmofoldmdafoaaGreat
namespace Go.Proofs.YthmofoldmdafoaaGreat
open Go.ChangeShapes Go.WideShapes Go.ChangeAt Go.RowKit
set_option linter.unusedVariables false
set_option linter.unusedSimpArgs false
end Go.Proofs.YthmofoldmdafoaaGreat
namespace Go.Proofs.YthmofoldmdafoaaGreat
open Go.ChangeShapes Go.WideShapes Go.ChangeAt Go.RowKit
set_option linter.unusedVariables false
set_option linter.unusedSimpArgs false
end Go.Proofs.YthmofoldmdafoaaGreat
namespace Go.Proofs.YthmofoldmdafoaaGreat
open Go.ChangeShapes Go.WideShapes Go.ChangeAt Go.RowKit
set_option linter.unusedVariables false
set_option linter.unusedSimpArgs false
theorem own_lo {W : World} {base base' n s : Nat} {e : TypeId} {v : Value} {xs : List Value} (h : W.ownsRow base e s v n xs) (hb : base' ≤ base) : W.ownsRow base' e s v n xs := ⟨h.1, h.2.imp id fun ⟨g, cap, cur, e0, b0, r⟩ => ⟨g, cap, cur, e0, Nat.le_trans hb b0, r⟩⟩
theorem CpR.lo {base base' k : Nat} {R : List P1} {v : Value} {W : World} (h : CpR base R k v W) (hb : base' ≤ base) : CpR base' R k v W := by
  obtain ⟨R', h1, h2, h3⟩ := h.ex
  exact ⟨R', h1, own_lo h2 hb, fun p hp => own_lo (h3 p hp) hb⟩
end Go.Proofs.YthmofoldmdafoaaGreat
namespace Go.Proofs.YthmofoldmdafoaaGreat
open Go.ChangeShapes Go.WideShapes Go.ChangeAt Go.RowKit Go.Maps
set_option linter.unusedVariables false
set_option linter.unusedSimpArgs false

theorem zero50 (w : World) : (zeroValue 50).run Tryz.prog w = .ok (.slice none 0 0) w := by kernel_rfl
theorem RV.bound {r : RV} (h : rOk r.P) : r.R.length ≤ 9000 ∧ ∀ q ∈ r.R, q.bs.length ≤ 9000 := by
  obtain ⟨h1, h2, h3⟩ := h
  unfold RV.P at h1 h2 h3
  rw [List.length_map] at h1 h2
  exact ⟨by omega, fun q hq => by have := (h3 q.bs (List.mem_map.2 ⟨q, hq, rfl⟩)).2; omega⟩
theorem MdR.row {S : Nat → Prop} {W : World} {m : Md} (h : MdR S W m) {t : Nat} {x : Nat × List (List Int × RV)} (hx : m.tabs[t]? = some x) {e : List Int × RV} (he : e ∈ x.2) : keyOk e.1 ∧ rOk e.2.P := by
  have := (h.lim x (List.mem_of_getElem? hx)).2 (e.1, e.2.P) (List.mem_map.2 ⟨e, he, rfl⟩)
  exact this
/-- What the program's Get answers: a copy of the row, or of none. -/
def PGetR (w : World) (o : Option (List P1)) (r : Ending) (w' : World) : Prop :=
  (∃ v, r = .returned (.tuple #[v, .bool o.isSome]) ∧ CpR w.heap.size (o.getD []) (o.getD []).length v w') ∧ Below w.heap.size w w'
set_option maxRecDepth 100000 in
set_option maxHeartbeats 4000000 in
/-- Get (18), of a table that is there. -/
theorem mget_law {S : Nat → Prop} {m : Md} {w : World} (h : MdR S w m) (t : Nat) (x : Nat × List (List Int × RV)) (hx : m.tabs[t]? = some x) (ka : Option Addr) (kn kc : Nat) (K : List Int) (hK : K.length = kn) (hkn : kn ≤ 1000000) (bK : Byt K) (hk : Ls .u8 w ka kc K) :
    Calls Tryz.prog 18 #[.pointer (some ⟨m.p, 0, none⟩), .int .i64 (t : Int), .slice ka kn kc] w (PGetR w ((getM x.2 K).map RV.R)) := by
  have hin := List.mem_of_getElem? hx
  have htn : t < m.tabs.length := (List.getElem?_eq_some_iff.1 hx).1
  have HH := Lib.hid (mhas_law h (t : Int))
  have hti : (t : Int) < (m.tabs.length : Int) := by omega
  have ht0 : ¬ (t : Int) < 0 := by omega
  have htl : (m.tabs.length : Int) ≤ 1000000 := by have := h.few; omega
  have hd : decide ((0 : Int) ≤ t ∧ (t : Int) < m.tabs.length) = true := by simp; omega
  rw [hd] at HH
  have kmx : K.length ≤ maxLen := by unfold maxLen; omega
  have HB := Lib.hid (fun X (b' : Below w.heap.size w X) => (⟨(b'.cell (World.block_lt_of_cell? w _ h.c)).trans h.c, (h.below b').st.now.tab t x hx, conv_ls X ka kn kc K hK (hk.below b').rd, (h.below b').maps x hin |>.look (t := 90) (e := 50) Tryz.underlying90 (zero50 X) bK kmx⟩ : X.cell? ⟨m.p, 7, none⟩ = some (.slice (some ⟨m.bt, 0, none⟩) m.tabs.length m.tc) ∧ X.cell? ⟨m.bt, t, none⟩ = some (.map (some x.1)) ∧ (convert 42 9 (.slice ka kn kc)).run Tryz.prog X = .ok (.string (strOfNums K)) X ∧ (Instr.lookup 90 (.map (some x.1)) (.string (strOfNums K)) true).run Tryz.prog X = .ok (.tuple #[((getM x.2 K).map RV.v).getD (.slice none 0 0), .bool (getM x.2 K).isSome]) X))
  have HR := Lib.hid (fun y (hy : getM x.2 K = some y) => (⟨(h.rows x hin _ ((getM_some (h.maps x hin).ris).1 hy)).now, (h.row hx ((getM_some (h.maps x hin).ris).1 hy)).2⟩ : RdR w y.ra y.R ∧ rOk y.P))
  clear hin hx htn h hK bK hk hd kmx
  obtain ⟨o, ho⟩ : ∃ o, getM x.2 K = o := ⟨_, rfl⟩
  rw [ho] at HB HR ⊢
  clear ho
  go_enter Tryz.func18, Tryz.ntmps18
  go_upto_region 3 with (go_at_call 52; refine HH.out.mono ?_; rintro e w' ⟨rfl, rfl⟩)
  cases o with
  | none =>
    have HX := Lib.hid (fun W (b : Below w.heap.size w W) => (HB.out W b : W.cell? ⟨m.p, 7, none⟩ = some (.slice (some ⟨m.bt, 0, none⟩) m.tabs.length m.tc) ∧ W.cell? ⟨m.bt, t, none⟩ = some (.map (some x.1)) ∧ (convert 42 9 (.slice ka kn kc)).run Tryz.prog W = .ok (.string (strOfNums K)) W ∧ (Instr.lookup 90 (.map (some x.1)) (.string (strOfNums K)) true).run Tryz.prog W = .ok (.tuple #[.slice none 0 0, .bool false]) W))
    refine wp_region_held_drew (S := (fun X => Below w.heap.size w X)) (by kernel_rfl) ((Below.refl _ _).drew) (fun hHeld => ?_)
    refine tp 0 ?_ rfl (.inl ⟨by rfl, ?_⟩) ?_
    rotate_left
    · intro W hSw; go_simp; try with_reducible rfl
    refine tp 1 ?_ rfl (.inl ⟨by rfl, ?_⟩) ?_
    rotate_left
    · intro W hSw; go_simp; try with_reducible rfl
    refine tp 2 ?_ rfl (.inl ⟨by rfl, ?_⟩) ?_
    rotate_left
    · intro W hSw; go_simp; try with_reducible rfl
    refine tp 3 ?_ rfl (.inl ⟨by rfl, ?_⟩) ?_
    rotate_left
    · intro W hSw; have m := (HX.out W hSw).1; go_simp; try with_reducible rfl
    refine tp 4 ?_ rfl (.inl ⟨by rfl, ?_⟩) ?_
    rotate_left
    · intro W hSw; go_simp; try with_reducible rfl
    refine tp 5 ?_ rfl (.inl ⟨by rfl, ?_⟩) ?_
    rotate_left
    · intro W hSw; go_simp; try with_reducible rfl
    refine tp 6 ?_ rfl (.inl ⟨by rfl, ?_⟩) ?_
    rotate_left
    · intro W hSw; have m := (HX.out W hSw).2.1; go_simp; try with_reducible rfl
    refine tp 7 ?_ rfl (.inl ⟨by rfl, ?_⟩) ?_
    rotate_left
    · intro W hSw; go_simp; try with_reducible rfl
    refine tp 8 ?_ rfl (.inl ⟨by rfl, ?_⟩) ?_
    rotate_left
    · intro W hSw; have m := (HX.out W hSw).2.2.1; go_simp; try with_reducible rfl
    refine tp 9 ?_ rfl (.inl ⟨by rfl, ?_⟩) ?_
    rotate_left
    · intro W hSw; have m := (HX.out W hSw).2.2.2; go_simp; try with_reducible rfl
    refine tp 10 ?_ rfl (.inl ⟨by rfl, ?_⟩) ?_
    rotate_left
    · intro W hSw; go_simp; try with_reducible rfl
    refine tp 11 ?_ rfl (.inl ⟨by rfl, ?_⟩) ?_
    rotate_left
    · intro W hSw; go_simp; try with_reducible rfl
    refine tp 12 ?_ rfl (.inl ⟨by rfl, ?_⟩) ?_
    rotate_left
    · intro W hSw; go_simp; try with_reducible rfl
    refine tp 13 ?_ rfl (.inl ⟨by rfl, ?_⟩) ?_
    rotate_left
    · intro W hSw; go_simp; try with_reducible rfl
    refine tp 14 ?_ rfl (.inl ⟨by rfl, ?_⟩) ?_
    rotate_left
    · intro W hSw; go_simp; try with_reducible rfl
    refine wpAnyH_done (by kernel_rfl) ?_ _
    skip
    generalize w.drew = W1 at hHeld ⊢
    go_wp2_with fail
    refine (rowcopy_law none [] 0 0 rfl (by omega) (fun _ h => by simp at h) _ (RdR.nil _ _)).mono ?_; rintro r w1 ⟨⟨v, rfl, hc⟩, hb1⟩
    have HC := Lib.hid hc
    have HB1 := Lib.hid (step_below hHeld hb1)
    have HS := Lib.hid hHeld.size
    clear hc hb1 hHeld
    go_wp2_with fail
    go_ret2
    exact ⟨⟨v, rfl, HC.out.lo HS.out⟩, HB1.out⟩
  | some y =>
    have HX := Lib.hid (fun W (b : Below w.heap.size w W) => (HB.out W b : W.cell? ⟨m.p, 7, none⟩ = some (.slice (some ⟨m.bt, 0, none⟩) m.tabs.length m.tc) ∧ W.cell? ⟨m.bt, t, none⟩ = some (.map (some x.1)) ∧ (convert 42 9 (.slice ka kn kc)).run Tryz.prog W = .ok (.string (strOfNums K)) W ∧ (Instr.lookup 90 (.map (some x.1)) (.string (strOfNums K)) true).run Tryz.prog W = .ok (.tuple #[.slice y.ra y.R.length y.rc, .bool true]) W))
    obtain ⟨hr, hok⟩ := HR.out y rfl
    have HR2 := Lib.hid hr
    have HO2 := Lib.hid (RV.bound hok)
    clear hr hok
    refine wp_region_held_drew (S := (fun X => Below w.heap.size w X)) (by kernel_rfl) ((Below.refl _ _).drew) (fun hHeld => ?_)
    refine tp 0 ?_ rfl (.inl ⟨by rfl, ?_⟩) ?_
    rotate_left
    · intro W hSw; go_simp; try with_reducible rfl
    refine tp 1 ?_ rfl (.inl ⟨by rfl, ?_⟩) ?_
    rotate_left
    · intro W hSw; go_simp; try with_reducible rfl
    refine tp 2 ?_ rfl (.inl ⟨by rfl, ?_⟩) ?_
    rotate_left
    · intro W hSw; go_simp; try with_reducible rfl
    refine tp 3 ?_ rfl (.inl ⟨by rfl, ?_⟩) ?_
    rotate_left
    · intro W hSw; have m := (HX.out W hSw).1; go_simp; try with_reducible rfl
    refine tp 4 ?_ rfl (.inl ⟨by rfl, ?_⟩) ?_
    rotate_left
    · intro W hSw; go_simp; try with_reducible rfl
    refine tp 5 ?_ rfl (.inl ⟨by rfl, ?_⟩) ?_
    rotate_left
    · intro W hSw; go_simp; try with_reducible rfl
    refine tp 6 ?_ rfl (.inl ⟨by rfl, ?_⟩) ?_
    rotate_left
    · intro W hSw; have m := (HX.out W hSw).2.1; go_simp; try with_reducible rfl
    refine tp 7 ?_ rfl (.inl ⟨by rfl, ?_⟩) ?_
    rotate_left
    · intro W hSw; go_simp; try with_reducible rfl
    refine tp 8 ?_ rfl (.inl ⟨by rfl, ?_⟩) ?_
    rotate_left
    · intro W hSw; have m := (HX.out W hSw).2.2.1; go_simp; try with_reducible rfl
    refine tp 9 ?_ rfl (.inl ⟨by rfl, ?_⟩) ?_
    rotate_left
    · intro W hSw; have m := (HX.out W hSw).2.2.2; go_simp; try with_reducible rfl
    refine tp 10 ?_ rfl (.inl ⟨by rfl, ?_⟩) ?_
    rotate_left
    · intro W hSw; go_simp; try with_reducible rfl
    refine tp 11 ?_ rfl (.inl ⟨by rfl, ?_⟩) ?_
    rotate_left
    · intro W hSw; go_simp; try with_reducible rfl
    refine tp 12 ?_ rfl (.inl ⟨by rfl, ?_⟩) ?_
    rotate_left
    · intro W hSw; go_simp; try with_reducible rfl
    refine tp 13 ?_ rfl (.inl ⟨by rfl, ?_⟩) ?_
    rotate_left
    · intro W hSw; go_simp; try with_reducible rfl
    refine tp 14 ?_ rfl (.inl ⟨by rfl, ?_⟩) ?_
    rotate_left
    · intro W hSw; go_simp; try with_reducible rfl
    refine wpAnyH_done (by kernel_rfl) ?_ _
    skip
    generalize w.drew = W1 at hHeld ⊢
    go_wp2_with fail
    refine (rowcopy_law y.ra y.R _ y.rc rfl HO2.out.1 HO2.out.2 _ (HR2.out.below hHeld)).mono ?_; rintro r w1 ⟨⟨v, rfl, hc⟩, hb1⟩
    have HC := Lib.hid hc
    have HB1 := Lib.hid (step_below hHeld hb1)
    have HS := Lib.hid hHeld.size
    clear hc hb1 hHeld
    go_wp2_with fail
    go_ret2
    exact ⟨⟨v, rfl, HC.out.lo HS.out⟩, HB1.out⟩
end Go.Proofs.YthmofoldmdafoaaGreat
namespace Go.Proofs.YthmofoldmdafoaaGreat
open Go.ChangeShapes Go.WideShapes Go.ChangeAt Go.RowKit
set_option linter.unusedVariables false
set_option linter.unusedSimpArgs false
/-- An error's number (12). -/
theorem num22_law (e : Int) (w : World) : Calls Tryz.prog 12 #[.int .i64 e] w fun r w' => r = .returned (.int .i64 e) ∧ w = w' := by
  go_enter Tryz.func12, Tryz.ntmps12
  go_wp2_with fail
  go_ret
  exact ⟨rfl, rfl⟩
/-- The cells of pairs. -/
def pcl (x : PrV) : List Value := [.slice x.ka x.K.length x.kc, .slice x.ra x.R.length x.rc]
def prcells (xs : List PrV) : List Value := (xs.map pcl).flatten
theorem prcells_append (a b : List PrV) : prcells (a ++ b) = prcells a ++ prcells b := by simp [prcells]
theorem info78 : (Tryz.prog.info? 78).map (fun i => (i.zero, i.size, i.bytes)) = some (some (.agg #[.slice none 0 0, .slice none 0 0]), 2, 48) := by kernel_rfl
theorem prcells_at : ∀ (xs : List PrV) (k i : Nat) (x : PrV), xs[k]? = some x → i < 2 → (prcells xs)[k * 2 + i]? = (pcl x)[i]?
  | [], k, i, x, h, _ => by simp at h
  | y :: xs, 0, i, x, h, hi => by
    simp only [List.getElem?_cons_zero, Option.some.injEq] at h
    subst h
    unfold prcells
    rw [List.map_cons, List.flatten_cons, List.getElem?_append_left (by simp [pcl]; omega)]
    simp
  | y :: xs, k + 1, i, x, h, hi => by
    have ih := prcells_at xs k i x (by simpa using h) hi
    unfold prcells at *
    rw [List.map_cons, List.flatten_cons, List.getElem?_append_right (by simp [pcl]; omega)]
    rw [show (k + 1) * 2 + i - (pcl y).length = k * 2 + i by simp [pcl]; omega]
    exact ih
end Go.Proofs.YthmofoldmdafoaaGreat
namespace Go.Proofs.YthmofoldmdafoaaGreat
open Go.ChangeShapes Go.WideShapes Go.ChangeAt Go.RowKit
set_option linter.unusedVariables false
set_option linter.unusedSimpArgs false
theorem prs_own {W : World} {base n c : Nat} {a : Option Addr} {xs : List PrV} (h : W.ownsRow base 78 2 (.slice a n c) n (prcells xs)) (hn : xs.length = n) (ok : ∀ x ∈ xs, Ls .u8 W x.ka x.kc x.K ∧ RdR W x.ra x.R) : PairsR W a xs := fun k x hx => by
  have hk := (List.getElem?_eq_some_iff.1 hx).1
  have hc := fun i hi => prcells_at xs k i x hx hi
  have h' := h
  rcases h.2 with ⟨e0, h0⟩ | ⟨g, cap, cur, e0, _⟩
  · omega
  · cases e0
    refine ⟨g, 0, rfl, ?_, ?_, ok x (List.mem_of_getElem? hx)⟩
    · rw [Nat.zero_add, show k * 2 = k * 2 + 0 by omega, h'.cellAt (k * 2 + 0) (by omega)]
      exact hc 0 (by omega)
    · rw [Nat.zero_add, h'.cellAt (k * 2 + 1) (by omega)]
      exact hc 1 (by omega)
/-- What stands ahead of a place, and from it on. -/
theorem PairsR.take {W : World} {a : Option Addr} {L : List PrV} (h : PairsR W a L) (k : Nat) : PairsR W a (L.take k) := fun j x hx => by
  rw [List.getElem?_take] at hx
  split at hx
  · exact h j x hx
  · cases hx
theorem PairsR.drop {W : World} {b off : Nat} {L : List PrV} (h : PairsR W (some ⟨b, off, none⟩) L) (k : Nat) : PairsR W (some ⟨b, off + k * 2, none⟩) (L.drop k) := fun j x hx => by
  rw [List.getElem?_drop] at hx
  obtain ⟨b', off', e, c0, c1, r⟩ := h (k + j) x hx
  cases e
  refine ⟨b, off + k * 2, rfl, ?_, ?_, r⟩
  · rw [show off + k * 2 + j * 2 = off + (k + j) * 2 by omega]; exact c0
  · rw [show off + k * 2 + j * 2 + 1 = off + (k + j) * 2 + 1 by omega]; exact c1
end Go.Proofs.YthmofoldmdafoaaGreat
namespace Go.Proofs.YthmofoldmdafoaaGreat
open Go.ChangeShapes Go.WideShapes Go.ChangeAt Go.RowKit
set_option linter.unusedVariables false
set_option linter.unusedSimpArgs false
/-- Pairs up to a place. -/
theorem hi69 (W : World) (a : Option Addr) (n c i : Nat) (hi : i ≤ n) (hnc : n ≤ c) : (Instr.slice 69 (.slice a n c) .none (some (.int .i64 (i : Int))) .none).run Tryz.prog W = .ok (.slice a i c) W := by
  obtain ⟨i0, hi0, hz0, hz1, hz2⟩ := info_parts info78
  have hel : Tryz.prog.elem 69 = 78 := by simp [Program.elem, Tryz.underlying69]
  rw [run_slice_h (P := Tryz.prog) (w := W) 69 a n c (by rw [hel]; exact Tryz.underlying69) .i64 i (by omega) (by omega)]
  have hs : ((sizeOf (Tryz.prog.elem 69)).run Tryz.prog W) = .ok 2 W := by rw [hel]; simp [sizeOf, typeInfo, hi0, hz1]
  rw [hs]
  cases a <;> simp [sliced, Result.andThen, Addr.add]
end Go.Proofs.YthmofoldmdafoaaGreat
namespace Go.Proofs.YthmofoldmdafoaaGreat
open Go.ChangeShapes Go.WideShapes Go.ChangeAt Go.RowKit
set_option linter.unusedVariables false
set_option linter.unusedSimpArgs false
/-- A row of slices that lies in memory of its own, read: each field owned. -/
theorem own_rdr22 {W : World} {base n : Nat} {v : Value} {R : List P1} (h : W.ownsRow base 42 1 v n (R.map P1.v)) (hn : R.length = n) (ok : ∀ p ∈ R, W.ownsRow base 5 1 p.v p.bs.length (iv .u8 p.bs)) :
    ∃ a c, v = .slice a n c ∧ RdR W a R ∧ n ≤ c ∧ (a = none → c = 0) := by
  have h' := h
  rcases h.2 with ⟨e0, h0⟩ | ⟨g, cap, cur, e0, _, _, hc, _⟩
  · subst h0
    have : R = [] := List.length_eq_zero_iff.1 hn
    subst this
    exact ⟨none, 0, e0, fun k p hp => by simp at hp, Nat.le_refl _, fun _ => rfl⟩
  · subst e0
    refine ⟨_, cap, rfl, fun k p hp => ?_, hc, fun e => by cases e⟩
    have hk : k < n := by have := (List.getElem?_eq_some_iff.1 hp).1; omega
    obtain ⟨a, c, e, l⟩ := own_ls (ok p (List.mem_of_getElem? hp)) rfl
    unfold P1.v at e
    cases e
    refine ⟨g, 0, rfl, ?_, l.1⟩
    rw [Nat.zero_add, h'.cellAt k (by omega), List.getElem?_map, hp]
    rfl
/-- A row that was copied, as it lies. -/
theorem CpR.lies {base n : Nat} {R : List P1} {v : Value} {W : World} (h : CpR base R n v W) (hn : R.length = n) :
    ∃ a c R', v = .slice a n c ∧ RdR W a R' ∧ R'.length = n ∧ R'.map P1.bs = R.map P1.bs ∧ n ≤ c ∧ (a = none → c = 0) ∧ W.ownsRow base 42 1 v n (R'.map P1.v) ∧ ∀ p ∈ R', W.ownsRow base 5 1 p.v p.bs.length (iv .u8 p.bs) := by
  obtain ⟨R', h1, h2, h3⟩ := h.ex
  rw [List.take_of_length_le (by omega)] at h1
  have hl : R'.length = n := by have := congrArg List.length h1; rw [List.length_map, List.length_map] at this; omega
  obtain ⟨a, c, e, r, l1, l2⟩ := own_rdr22 h2 hl h3
  exact ⟨a, c, R', e, r, hl, h1, l1, l2, h2, h3⟩
end Go.Proofs.YthmofoldmdafoaaGreat
namespace Go.Proofs.YthmofoldmdafoaaGreat
open Go
set_option linter.unusedVariables false
set_option linter.unusedSimpArgs false
variable {P : Program} {md : Region.Mode} {ops : Array Oper} {Q : Exit → Act → World → Prop} {S : World → Prop} {z : Nat}
/-- Number z waits for number i. -/
def waitsB (md : Region.Mode) (ops : Array Oper) (z i : Nat) : Bool := match ops[z]? with | some o => o.after.toList.any fun e => Region.binds md e && e.on == i | none => false
/-- Whatever order is picked: S holds behind each operation, till number z has come up. -/
def wpAnyL (P : Program) (md : Region.Mode) (ops : Array Oper) (Q : Exit → Act → World → Prop) (S : World → Prop) (z : Nat) : Nat → Array Bool → Act → World → Prop
  | 0, listed, a, w => Region.ready md ops listed = [] ∧ Q .normal a w
  | fuel + 1, listed, a, w =>
    (Region.ready md ops listed = [] → Q .normal a w) ∧
    ∀ i ∈ Region.ready md ops listed, wpOp P ops Q i (fun a' w' => (i ≠ z → listed.getD z true = false → S w') ∧ wpAnyL P md ops Q S z fuel (listed.setIfInBounds i true) a' w') a w
theorem any_of_L : ∀ (fuel : Nat) (listed : Array Bool) (a : Act) (w : World), wpAnyL P md ops Q S z fuel listed a w → wpAny P md ops Q fuel listed a w
  | 0, _, _, _, h => h
  | fuel + 1, _, _, _, h => ⟨h.1, fun i hi => wpOp_mono (fun a' w' h' => any_of_L fuel _ a' w' h'.2) (h.2 i hi)⟩
theorem get_set {listed : Array Bool} {i z : Nat} (h : i ≠ z) (b : Bool) : (listed.setIfInBounds i b).getD z true = listed.getD z true := by
  simp only [Array.getD_eq_getD_getElem?, Array.getElem?_setIfInBounds_ne h]
theorem get_own {listed : Array Bool} {z : Nat} : (listed.setIfInBounds z true).getD z true = true := by
  by_cases h : z < listed.size
  · simp [Array.getD_eq_getD_getElem?, h]
  · simp [Array.getD_eq_getD_getElem?, Array.getElem?_eq_none (Nat.le_of_not_lt h)]
/-- Number i may be taken first: z waits for it, or it asks nothing of the world. -/
theorem L_first {i : Nat} {oi : Oper} {v : Value} {T : World → Prop} (hT : waitsB md ops z i = true ∧ T = S ∨ T = fun _ => True) (hiz : i ≠ z) (hi : ops[i]? = some oi) (hsel : ∀ (j : Nat) (o : Oper) cs b, ops[j]? = some o → o.op ≠ .select cs b)
    (hQ : ∀ c a w, Q (.panic c) (a.put oi.dst v) w → Q (.panic c) a w) :
    ∀ (fuel : Nat) (listed : Array Bool) (a : Act) (w : World),
      (∀ j oj, ops[j]? = some oj → j ≠ i → listed.getD j true = false → (∀ e ∈ oj.after, Region.binds md e = true → e.on ≠ i) → oi.apart ops oj = true) →
      i ∈ Region.ready md ops listed → YieldsIf P ops T oi v a → (waitsB md ops z i = true → T = S → listed.getD z true = false) → (listed.getD z true = false → S w) →
      wpAnyL P md ops Q S z fuel (listed.setIfInBounds i true) (a.put oi.dst v) w → wpAnyL P md ops Q S z (fuel + 1) listed a w
  | 0, listed, a, w, _, hr, hy, hzl, hS, H => by
    have hTw : T w := by
      rcases hT with ⟨h1, h2⟩ | h2
      · rw [h2]; exact hS (hzl h1 h2)
      · rw [h2]; trivial
    refine ⟨fun h => (by rw [h] at hr; cases hr), fun j hj => ?_⟩
    by_cases hji : j = i
    · subst hji
      exact hy.wpOp hi hTw ⟨fun _ => hS, H⟩
    · have := ready_mono hj hji
      rw [H.1] at this
      cases this
  | fuel + 1, listed, a, w, hfree, hr, hy, hzl, hS, H => by
    have hTw : T w := by
      rcases hT with ⟨h1, h2⟩ | h2
      · rw [h2]; exact hS (hzl h1 h2)
      · rw [h2]; trivial
    refine ⟨fun h => (by rw [h] at hr; cases hr), fun j hj => ?_⟩
    by_cases hji : j = i
    · subst hji
      exact hy.wpOp hi hTw ⟨fun _ => hS, H⟩
    have hH := H.2 j (ready_mono hj hji)
    obtain ⟨hjun, oj, hoj, hall⟩ := mem_ready.1 hj
    have hnot : ∀ e ∈ oj.after, Region.binds md e = true → e.on ≠ i := fun e he hb heq => by
      have hx := hall e he hb
      have h0 := (mem_ready.1 hr).1
      rw [heq] at hx
      rcases Nat.lt_or_ge i listed.size with h' | h'
      · simp [h'] at h0 hx; rw [h0] at hx; cases hx
      · simp [Array.getElem?_eq_none h'] at hx
    have hjz : waitsB md ops z i = true → j ≠ z := fun hw e => by
      subst e
      simp only [waitsB, hoj, List.any_eq_true, Bool.and_eq_true, Array.mem_toList_iff, beq_iff_eq] at hw
      obtain ⟨e, he, h1, h2⟩ := hw
      exact hnot e he h1 h2
    have hput := wpOp_putIf hoj (hfree j oj hoj hji hjun hnot) (fun cs b => hsel i oi cs b hi) (fun cs b => hsel j oj cs b hoj) hQ hy hH
    have hfree' : ∀ k ok, ops[k]? = some ok → k ≠ i → (listed.setIfInBounds j true).getD k true = false → (∀ e ∈ ok.after, Region.binds md e = true → e.on ≠ i) → oi.apart ops ok = true := fun k ok hk hki hun hno => by
      refine hfree k ok hk hki ?_ hno
      by_cases hjk : j = k
      · subst hjk; exact hjun
      · rw [getD_set_ne true hjk] at hun; exact hun
    refine wpOp_mono (fun a' w' h3 => ?_) hput
    have hSj : j ≠ z → listed.getD z true = false → S w' := fun h1 h2 => h3.2.1 h1 (by rw [get_set hiz]; exact h2)
    refine ⟨hSj, L_first hT hiz hi hsel hQ fuel (listed.setIfInBounds j true) a' w' hfree' (ready_mono hr (Ne.symm hji)) h3.1 (fun h1 h2 => by rw [get_set (hjz h1)]; exact hzl h1 h2) (fun h => ?_) ?_⟩
    · by_cases e : j = z
      · subst e
        rw [get_own] at h; cases h
      · rw [get_set e] at h
        exact hSj e h
    · rw [Array.setIfInBounds_comm _ _ hji]
      exact h3.2.2
theorem wpAnyL_take {i : Nat} {oi : Oper} {v : Value} {fuel : Nat} {listed : Array Bool} {a : Act} {w : World} (hz : waitsB md ops z i = true) (hiz : (i == z) = false) (hzl : listed.getD z true = false) (hi : ops[i]? = some oi)
    (hs : Region.noSelect ops = true) (hf : Region.free md ops listed i = true) (hr : (Region.ready md ops listed).contains i = true)
    (hQ : ∀ c a w, Q (.panic c) (a.put oi.dst v) w → Q (.panic c) a w) (hy : YieldsIf P ops S oi v a) (hS : S w)
    (h : wpAnyL P md ops Q S z fuel (listed.setIfInBounds i true) (a.put oi.dst v) w) : wpAnyL P md ops Q S z (fuel + 1) listed a w :=
  L_first (T := S) (Or.inl ⟨hz, rfl⟩) (by simpa using hiz) hi (Region.noSelect_spec hs) hQ fuel listed a w (Region.free_spec hi hf) (by simpa using hr) hy (fun _ _ => hzl) (fun _ => hS) h
theorem wpAnyL_free {i : Nat} {oi : Oper} {v : Value} {fuel : Nat} {listed : Array Bool} {a : Act} {w : World} (hz : waitsB md ops z i = false) (hiz : (i == z) = false) (hi : ops[i]? = some oi)
    (hs : Region.noSelect ops = true) (hf : Region.free md ops listed i = true) (hr : (Region.ready md ops listed).contains i = true)
    (hQ : ∀ c a w, Q (.panic c) (a.put oi.dst v) w → Q (.panic c) a w) (hy : YieldsIf P ops (fun _ => True) oi v a) (hS : S w)
    (h : wpAnyL P md ops Q S z fuel (listed.setIfInBounds i true) (a.put oi.dst v) w) : wpAnyL P md ops Q S z (fuel + 1) listed a w :=
  L_first (T := fun _ => True) (Or.inr rfl) (by simpa using hiz) hi (Region.noSelect_spec hs) hQ fuel listed a w (Region.free_spec hi hf) (by simpa using hr) hy (fun h1 _ => by rw [hz] at h1; cases h1) (fun _ => hS) h
theorem wpAnyL_done {listed : Array Bool} {a : Act} {w : World} (hr : Region.ready md ops listed = []) (h : Q .normal a w) : ∀ fuel, wpAnyL P md ops Q S z fuel listed a w
  | 0 => ⟨hr, h⟩
  | _ + 1 => ⟨fun _ => h, by rw [hr]; simp⟩
/-- Each of these comes up next. -/
def AllL (P : Program) (md : Region.Mode) (ops : Array Oper) (Q : Exit → Act → World → Prop) (S : World → Prop) (z fuel : Nat) (listed : Array Bool) (a : Act) (w : World) (rs : List Nat) : Prop :=
  ∀ i ∈ rs, wpOp P ops Q i (fun a' w' => (i ≠ z → listed.getD z true = false → S w') ∧ wpAnyL P md ops Q S z fuel (listed.setIfInBounds i true) a' w') a w
theorem AllL.nil {fuel : Nat} {listed : Array Bool} {a : Act} {w : World} : AllL P md ops Q S z fuel listed a w [] := fun _ h => by cases h
theorem AllL.cons {fuel : Nat} {listed : Array Bool} {a : Act} {w : World} {i : Nat} {o : Oper} {rs : List Nat} (ho : ops[i]? = some o)
    (h : ∀ K' : Act → World → Prop, Shut (∀ a w, S w → (S w → wpAnyL P md ops Q S z fuel (listed.setIfInBounds i true) a w) → K' a w) → if Region.wanted o (yielded ops a.tmps) = true then Oper.wp P o a w K' Q else K' (a.put o.dst undef) w)
    (hs : AllL P md ops Q S z fuel listed a w rs) : AllL P md ops Q S z fuel listed a w (i :: rs) := fun j hj => by
  rcases List.mem_cons.1 hj with rfl | hj
  · exact wpOp_step ho (fun K' hK => h K' (fun a w hS hW => hK a w ⟨fun _ _ => hS, hW hS⟩))
  · exact hs j hj
/-- The one that waits for all. -/
theorem AllL.last {fuel : Nat} {listed : Array Bool} {a : Act} {w : World} {o : Oper} (ho : ops[z]? = some o)
    (h : ∀ K' : Act → World → Prop, Shut (∀ a w, wpAnyL P md ops Q S z fuel (listed.setIfInBounds z true) a w → K' a w) → if Region.wanted o (yielded ops a.tmps) = true then Oper.wp P o a w K' Q else K' (a.put o.dst undef) w) : AllL P md ops Q S z fuel listed a w [z] := fun j hj => by
  rcases List.mem_singleton.1 hj with rfl
  exact wpOp_step ho (fun K' hK => h K' (fun a w hW => hK a w ⟨fun hne => absurd rfl hne, hW⟩))
theorem wpAnyL_ready {rs : List Nat} {fuel : Nat} {listed : Array Bool} {a : Act} {w : World} (hr : Region.ready md ops listed = rs) (hne : rs ≠ [])
    (h : AllL P md ops Q S z fuel listed a w rs) : wpAnyL P md ops Q S z (fuel + 1) listed a w := ⟨fun h0 => absurd (hr ▸ h0) hne, hr ▸ h⟩
theorem wp_region_last {id : Nat} {a : Act} {w : World} (hm : P.follows .mixedOrders = true) (hS : S w.drew)
    (h : S w.drew → wpAnyL P .any ops Q S z ops.size (Array.replicate ops.size false) a w.drew) : (Code.region id ops true).wp P Q a w :=
  wp_region_any hm (any_of_L _ _ _ _ (h hS))
end Go.Proofs.YthmofoldmdafoaaGreat
namespace Go.Proofs.YthmofoldmdafoaaGreat
open Go.ChangeShapes Go.WideShapes Go.ChangeAt Go.RowKit
set_option linter.unusedVariables false
set_option linter.unusedSimpArgs false
theorem own_cn22 {W : World} {base n c s : Nat} {e : TypeId} {a : Option Addr} {xs : List Value} (h : W.ownsRow base e s (.slice a n c) n xs) : n ≤ c ∧ (a = none → c = 0) := by
  rcases h.2 with ⟨e0, h0⟩ | ⟨g, cap, cur, e0, _, _, hc, _⟩
  · cases e0; exact ⟨Nat.le_refl _, fun _ => rfl⟩
  · cases e0; exact ⟨hc, fun e => by cases e⟩
theorem pr_box {W : World} {B : Nat} (y : PrV) (h0 : W.cell? ⟨B, 0, none⟩ = some (.slice y.ka y.K.length y.kc)) (h1 : W.cell? ⟨B, 1, none⟩ = some (.slice y.ra y.R.length y.rc)) (l : Ls .u8 W y.ka y.kc y.K) (r : RdR W y.ra y.R) : PairsR W (some ⟨B, 0, none⟩) [y] := fun k x hx => by
  match k, hx with
  | 0, hx => cases hx; exact ⟨B, 0, rfl, by simpa using h0, by simpa using h1, l, r⟩
  | k + 1, hx => simp at hx
theorem rd_own22 {W : World} {base n c : Nat} {a : Option Addr} {R : List P1} (h : W.ownsRow base 42 1 (.slice a n c) n (R.map P1.v)) (hn : R.length = n) (ok : ∀ p ∈ R, W.ownsRow base 5 1 p.v p.bs.length (iv .u8 p.bs)) : RdR W a R := by
  obtain ⟨a', c', e, r, _⟩ := own_rdr22 h hn ok
  cases e; exact r
theorem ls_own22 {W : World} {base n c : Nat} {a : Option Addr} {L : List Int} (h : W.ownsRow base 5 1 (.slice a n c) n (iv .u8 L)) (hn : L.length = n) : Ls .u8 W a c L := by
  obtain ⟨a', c', e, l, _⟩ := own_ls h hn
  cases e; exact l
theorem own_form22 {w : World} {base n s : Nat} {e : TypeId} {v : Value} {xs : List Value} (h : w.ownsRow base e s v n xs) : ∃ a c, v = .slice a n c := by
  rcases h.2 with ⟨e0, h0⟩ | ⟨g, cap, cur, e0, _⟩
  · subst h0; exact ⟨_, _, e0⟩
  · exact ⟨_, _, e0⟩
end Go.Proofs.YthmofoldmdafoaaGreat
namespace Go.Proofs.YthmofoldmdafoaaGreat
open Go.ChangeShapes Go.WideShapes Go.ChangeAt Go.RowKit Go.Maps
set_option linter.unusedVariables false
set_option linter.unusedSimpArgs false

/-- The cells of a row of things. -/
def cellsOf {α : Type} (f : α → List Value) (xs : List α) : List Value := (xs.map f).flatten
theorem cellsOf_append {α : Type} (f : α → List Value) (a b : List α) : cellsOf f (a ++ b) = cellsOf f a ++ cellsOf f b := by simp [cellsOf]
theorem cellsOf_len {α : Type} {f : α → List Value} {sz : Nat} (hf : ∀ x, (f x).length = sz) (a : List α) : (cellsOf f a).length = a.length * sz := by
  induction a with
  | nil => simp [cellsOf]
  | cons x r ih =>
    unfold cellsOf at *
    rw [List.map_cons, List.flatten_cons, List.length_append, ih, List.length_cons, hf, Nat.add_mul]
    omega
theorem cellsOf_at {α : Type} {f : α → List Value} {sz : Nat} (hf : ∀ x, (f x).length = sz) : ∀ (xs : List α) (k i : Nat) (x : α), xs[k]? = some x → i < sz → (cellsOf f xs)[k * sz + i]? = (f x)[i]?
  | [], k, i, x, h, _ => by simp at h
  | y :: xs, 0, i, x, h, hi => by
    simp only [List.getElem?_cons_zero, Option.some.injEq] at h
    subst h
    unfold cellsOf
    rw [List.map_cons, List.flatten_cons, List.getElem?_append_left (by rw [hf]; omega)]
    simp
  | y :: xs, k + 1, i, x, h, hi => by
    have ih := cellsOf_at hf xs k i x (by simpa using h) hi
    unfold cellsOf at *
    rw [List.map_cons, List.flatten_cons, List.getElem?_append_right (by rw [hf, Nat.add_mul]; omega)]
    rw [show (k + 1) * sz + i - (f y).length = k * sz + i by rw [hf, Nat.add_mul]; omega]
    exact ih
/-- A thing's cell, in a row that is owned. -/
theorem own_cell22 {α : Type} {f : α → List Value} {sz : Nat} (hf : ∀ x, (f x).length = sz) (hs : 0 < sz) {W : World} {base n c : Nat} {e : TypeId} {a : Option Addr} {xs : List α} (h : W.ownsRow base e sz (.slice a n c) n (cellsOf f xs)) (hn : xs.length = n) (k : Nat) (x : α) (hx : xs[k]? = some x) :
    ∃ g, a = some ⟨g, 0, none⟩ ∧ base ≤ g ∧ ∀ i, i < sz → W.cell? ⟨g, k * sz + i, none⟩ = (f x)[i]? := by
  have hk := (List.getElem?_eq_some_iff.1 hx).1
  have h' := h
  rcases h.2 with ⟨e0, h0⟩ | ⟨g, cap, cur, e0, hb, _⟩
  · omega
  · cases e0
    refine ⟨g, rfl, hb, fun i hi => ?_⟩
    have hm : k * sz + i < n * sz := by
      have := Nat.mul_le_mul_right sz (show k + 1 ≤ n by omega)
      rw [Nat.add_mul] at this; omega
    rw [h'.cellAt (k * sz + i) hm]
    exact cellsOf_at hf xs k i x hx hi
/-- A slice type's elements. -/
structure AE (st e : TypeId) (z : Value) (sz bs : Nat) : Prop where
  u : Tryz.prog.underlying st = some (.slice e)
  i : (Tryz.prog.info? e).map (fun i => (i.zero, i.size, i.bytes)) = some (some z, sz, bs)
  c : z.cells.size = sz
  p : 0 < sz
  l : bs ≤ 1000
theorem run_append_cells {st e : TypeId} {z : Value} {sz bs : Nat} (E : AE st e z sz bs) (w : World) (ty : TypeId) (base : Nat) (v : Value) (n : Nat) (xs : List Value) (hown : w.ownsRow base e sz v n xs)
    (ad : Addr) (c k : Nat) (news : List Value) (hl : news.length = k * sz) (hnews : ∀ j u, news[j]? = some u → w.cell? (ad.add j) = some u) (h1 : ∀ u ∈ news, u.oneCell' = true) (hb : n + k ≤ 2097152) (hbase : base ≤ w.heap.size) :
    ∃ v' w', (Builtin.append_ #[st, st] ty #[v, .slice (some ad) k c]).run Tryz.prog w = .ok v' w' ∧ w'.ownsRow base e sz v' (n + k) (xs ++ news) ∧ w.grownBy w' v.ownBlock ∧ (v'.ownBlock = v.ownBlock ∨ v'.ownBlock = some w.heap.size) := by
  obtain ⟨i0, hi, hz0, hz1, hz2⟩ := info_parts E.i
  have hle : (n + k) * bs ≤ 2097152 * 1000 := Nat.mul_le_mul hb E.l
  obtain ⟨v', w', r1, r2, r3, _, r4⟩ := run_append_own_at (P := Tryz.prog) w base st ty e i0 z sz bs E.u hi hz0 hz1 hz2 E.c E.p v n xs hown ad k c news hl hnews h1 (by unfold maxLen; omega) (by omega) hbase
  exact ⟨v', w', r1, r2, r3, r4⟩
/-- An append of things whose cells are read. -/
theorem append_cells {st e : TypeId} {z : Value} {sz bs : Nat} (E : AE st e z sz bs) {ops : Array Oper} {rest : List Oper} {o : Oper} {a : Act} {w : World} {Q : Exit → Act → World → Prop} (hgd : o.guard = none) (s x : Operand)
    (ho : o.op = .call { callee := .builtin .append, args := #[s, x], argTypes := #[st, st] })
    (base : Nat) (v : Value) (n : Nat) (xs : List Value) (hs : a.eval s = v) (hown : w.ownsRow base e sz v n xs)
    (ad : Addr) (c k : Nat) (news : List Value) (hx : a.eval x = .slice (some ad) k c) (hl : news.length = k * sz) (hnews : ∀ j u, news[j]? = some u → w.cell? (ad.add j) = some u) (h1 : ∀ u ∈ news, u.oneCell' = true) (hb : n + k ≤ 2097152) (hbase : base ≤ w.heap.size)
    (h : ∀ v' w', w'.ownsRow base e sz v' (n + k) (xs ++ news) → w.grownBy w' v.ownBlock → (v'.ownBlock = v.ownBlock ∨ v'.ownBlock = some w.heap.size) → wpList Tryz.prog ops Q rest (a.put o.dst v') w') :
    wpList Tryz.prog ops Q (o :: rest) a w :=
  wpList_plain hgd fun Kt hK => by
    obtain ⟨v', w', h1, h2, h3, h4⟩ := run_append_cells E w o.type base v n xs hown ad c k news hl hnews h1 hb hbase
    unfold Oper.wp execOp
    simp only [ho, resolve, invoke, builtin, Sem.run_bind, Sem.run_pure, Result.andThen_ok, List.map_toArray, List.map_cons, List.map_nil, hs, hx, h1]
    exact hK _ _ (h v' w' h2 h3 h4)
/-- The same, in a region that draws its order. -/
theorem step_append_cells {st e : TypeId} {z : Value} {sz bs : Nat} (E : AE st e z sz bs) {ops : Array Oper} {o : Oper} {a : Act} {w : World} {Kt : Act → World → Prop} {Q : Exit → Act → World → Prop} {Z : Prop} (hgd : o.guard = none) (s x : Operand)
    (ho : o.op = .call { callee := .builtin .append, args := #[s, x], argTypes := #[st, st] })
    (base : Nat) (v : Value) (n : Nat) (xs : List Value) (hs : a.eval s = v) (hown : w.ownsRow base e sz v n xs)
    (ad : Addr) (c k : Nat) (news : List Value) (hx : a.eval x = .slice (some ad) k c) (hl : news.length = k * sz) (hnews : ∀ j u, news[j]? = some u → w.cell? (ad.add j) = some u) (h1 : ∀ u ∈ news, u.oneCell' = true) (hb : n + k ≤ 2097152) (hbase : base ≤ w.heap.size)
    (h : ∀ v' w', w'.ownsRow base e sz v' (n + k) (xs ++ news) → w.grownBy w' v.ownBlock → (v'.ownBlock = v.ownBlock ∨ v'.ownBlock = some w.heap.size) → Kt (a.put o.dst v') w') :
    if Region.wanted o (yielded ops a.tmps) = true then Oper.wp Tryz.prog o a w Kt Q else Z := by
  have hw : Region.wanted o (yielded ops a.tmps) = true := by simp [Region.wanted, hgd]
  rw [if_pos hw]
  obtain ⟨v', w', h1, h2, h3, h4⟩ := run_append_cells E w o.type base v n xs hown ad c k news hl hnews h1 hb hbase
  unfold Oper.wp execOp
  simp only [ho, resolve, invoke, builtin, Sem.run_bind, Sem.run_pure, Result.andThen_ok, List.map_toArray, List.map_cons, List.map_nil, hs, hx, h1]
  exact h v' w' h2 h3 h4
/-- A new block's cells, from its begin on. -/
theorem cells_new (w : World) (cs : Array Value) (t : TypeId) (news : List Value) (h : cs = news.toArray) : ∀ j u, news[j]? = some u → (w.alloc (.cells cs t)).cell? ((⟨w.heap.size, 0, none⟩ : Addr).add j) = some u := fun j u hj => by
  rw [addr_add, Nat.zero_add]
  have := (BoxC.new w cs t).cell j
  rw [this, h]; simpa using hj
theorem ae_map : AE 87 90 (.map none) 1 8 := ⟨Tryz.underlying87, by kernel_rfl, by decide, by decide, by decide⟩
theorem ae_imap : AE 120 173 (.map none) 1 8 := ⟨Tryz.underlying120, by kernel_rfl, by decide, by decide, by decide⟩
theorem ae_write : AE 41 84 (.agg #[.int .i64 0, .slice none 0 0, .slice none 0 0]) 3 56 := ⟨Tryz.underlying41, by kernel_rfl, by decide, by decide, by decide⟩
theorem ae_result : AE 59 81 (.agg #[.int .i64 0, .slice none 0 0]) 2 32 := ⟨Tryz.underlying59, by kernel_rfl, by decide, by decide, by decide⟩
theorem ae_pair : AE 69 78 (.agg #[.slice none 0 0, .slice none 0 0]) 2 48 := ⟨Tryz.underlying69, by kernel_rfl, by decide, by decide, by decide⟩
theorem ae_tab : AE 46 69 (.slice none 0 0) 1 24 := ⟨Tryz.underlying46, by kernel_rfl, by decide, by decide, by decide⟩
theorem ae_entry : AE 146 149 (.agg #[.slice none 0 0, .slice none 0 0, .slice none 0 0]) 3 72 := ⟨Tryz.underlying146, by kernel_rfl, by decide, by decide, by decide⟩
theorem ae_op : AE 36 74 (.agg #[.int .i64 0, .int .i64 0, .int .i64 0, .slice none 0 0, .slice none 0 0, .int .i64 0, .slice none 0 0]) 7 104 := ⟨Tryz.underlying36, by kernel_rfl, by decide, by decide, by decide⟩
end Go.Proofs.YthmofoldmdafoaaGreat
