/- The first tree of which something says yes: by contracts. -/
import Derived.Test.YtkgcbhpgkcfkhaaCjt
import Derived.BigRegionIn
import Derived.WalkMore
namespace Go.Proofs.Ytkgcbhpgkcfkhaa
open Go.ChangeShapes Go.WideShapes Go.ChangeAt Go.RowKit Go.Shelf
set_option linter.unusedVariables false
set_option linter.unusedSimpArgs false
attribute [local go_sem] Oper.semAt_some

theorem wpIn_scope {n : Nat} {P : Program} {c : Code} {Q : Exit → Act → World → Prop} {a : Act} {w : World} (h : c.wpIn Fence.wide n P (Exit.noGoto Q) a w) : (Code.scope c).wpIn Fence.wide n P Q a w :=
  wpIn_wide.2 (wp_scope_straight (wpIn_wide.1 h))
theorem istree_law (k t i a b : Int) (P1 P2 : Nat) (w : World) (h1 : Boxed w P1 3 (.int .i64 a)) (h2 : Boxed w P2 3 (.int .i64 b)) :
    Calls Try.prog 78 #[.int .i64 k, .agg #[.int .i64 t, .int .i64 i], .pointer (some ⟨P1, 0, none⟩), .pointer (some ⟨P2, 0, none⟩)] w fun r w' => r = .returned (.bool (decide (t = a ∧ i = b))) ∧ Below w.heap.size w w' := by
  have l1 := h1.lt
  have l2 := h2.lt
  have c1 := h1.cell
  have c2 := h2.cell
  clear h1 h2
  by_cases e1 : t = a <;> by_cases e2 : i = b
  all_goals
    go_enter Try.func78, Try.ntmps78
    go_wp2
    go_ret
    exact ⟨ret_bool (by simp [e1, e2]), (Below.refl _ _).alloc (Nat.le_refl _) _⟩
theorem isof_law (k t i a : Int) (P1 : Nat) (w : World) (h1 : Boxed w P1 3 (.int .i64 a)) :
    Calls Try.prog 79 #[.int .i64 k, .agg #[.int .i64 t, .int .i64 i], .pointer (some ⟨P1, 0, none⟩)] w fun r w' => r = .returned (.bool (decide (k = a))) ∧ Below w.heap.size w w' := by
  have l1 := h1.lt
  have c1 := h1.cell
  clear h1
  go_enter Try.func79, Try.ntmps79
  go_wp2
  go_ret
  exact ⟨rfl, (Below.refl _ _).alloc (Nat.le_refl _) _⟩
def firstV (p : Tr → Bool) : List Tr → Int × Int × Int × Bool
  | [] => (0, 0, 0, false)
  | x :: r => if p x then ((x.1 : Int), x.2.1, x.2.2, true) else firstV p r
theorem firstV_none {p : Tr → Bool} : ∀ {l : List Tr}, (∀ x ∈ l, p x = false) → firstV p l = (0, 0, 0, false)
  | [], _ => rfl
  | x :: r, h => by rw [firstV, if_neg (by rw [h x (by simp)]; simp)]; exact firstV_none fun y hy => h y (by simp [hy])
theorem firstV_some {p : Tr → Bool} {x : Tr} {t : List Tr} (hx : p x = true) : ∀ {l : List Tr}, (∀ y ∈ l, p y = false) → firstV p (l ++ [x] ++ t) = ((x.1 : Int), x.2.1, x.2.2, true)
  | [], _ => by simp [firstV, hx]
  | y :: r, h => by
    simp only [List.cons_append, firstV, if_neg (show ¬ p y = true by rw [h y (by simp)]; simp)]
    exact firstV_some hx fun z hz => h z (by simp [hz])
theorem BoxC.kept {W W' : World} {B : Nat} {cs : Array Value} {t : TypeId} {row : Option Nat} (h : BoxC W B cs t) (hg : W.grownBy W' row) (hne : some B ≠ row) : BoxC W' B cs t := (hg.block B h.lt hne).trans h
theorem BoxC.alloc {W : World} {B : Nat} {cs : Array Value} {t : TypeId} (h : BoxC W B cs t) (o : Obj) : BoxC (W.alloc o) B cs t := h.kept (World.grownBy_alloc W o none) (by simp)
theorem BoxC.own {B : Nat} {cs : Array Value} {t : TypeId} {W W' : World} {row : Option Nat} (h : BoxC W B cs t) (hg : W.grownBy W' row) (hr : ∀ r, row = some r → ∃ o : Obj, W.heap[r]? = some o ∧ o.isCells = false) : BoxC W' B cs t :=
  h.kept hg (fun e => by obtain ⟨o, ho, hc⟩ := hr B e.symm; rw [show W.heap[B]? = _ from h] at ho; cases ho; cases hc)
theorem BoxC.frozen {W : World} {B : Nat} {cs : Array Value} {t : TypeId} (h : BoxC W B cs t) (i : Nat) : W.frozen? ⟨B, i, none⟩ = false := by simp [World.frozen?, show W.heap[B]? = _ from h]
theorem BoxC.oth {W : World} {B B' o : Nat} {cs : Array Value} {t : TypeId} {u : Value} (hne : B ≠ B') (h : BoxC W B cs t) : BoxC (W.setCell ⟨B', o, none⟩ u) B cs t := (Below.heap_setCell W ⟨B', o, none⟩ u B hne).trans h
theorem BoxC.drew {W : World} {B : Nat} {cs : Array Value} {t : TypeId} (h : BoxC W B cs t) : BoxC W.drew B cs t := h
theorem BoxC.set1 {W : World} {B : Nat} {t : TypeId} {v v' : Value} (h : BoxC W B #[v] t) : BoxC (W.setCell ⟨B, 0, none⟩ v') B #[v'] t := Boxed.set v' h
theorem BoxC.set2 {W : World} {B : Nat} {t : TypeId} {a b x y : Value} (h : BoxC W B #[a, b] t) : BoxC ((W.setCell ⟨B, 0, none⟩ x).setCell ⟨B, 1, none⟩ y) B #[x, y] t := by
  have h1 : BoxC (W.setCell ⟨B, 0, none⟩ x) B #[x, b] t := by
    obtain ⟨hlt, hk⟩ := Array.getElem?_eq_some_iff.1 h
    show (W.heap.modify B _)[B]? = _
    rw [Array.getElem?_eq_getElem (by rw [Array.size_modify]; exact hlt), Array.getElem_modify_self, hk]
    rfl
  obtain ⟨hlt, hk⟩ := Array.getElem?_eq_some_iff.1 h1
  show ((W.setCell ⟨B, 0, none⟩ x).heap.modify B _)[B]? = _
  rw [Array.getElem?_eq_getElem (by rw [Array.size_modify]; exact hlt), Array.getElem_modify_self, hk]
  rfl
theorem KeepsFrom.drw {B : Nat} {W X : World} (h : KeepsFrom B W X) : KeepsFrom B W X.drew := h.trans (KeepsFrom.of_grownBy (grown_below' ((Below.refl X.heap.size X).drew)) (fun j e => by cases e))
/-- While nothing was found. -/
structure FI (p : Tr → Bool) (F N O R U : Nat) (fv : Value) (pre : List Tr) (W : World) : Prop where
  no : ∀ x ∈ pre, p x = false
  bF : BoxC W F #[.int .i64 0] 3
  bN : BoxC W N #[.int .i64 0, .int .i64 0] 66
  bO : BoxC W O #[.bool false] 4
  bR : BoxC W R #[.int .i64 0, .int .i64 0] 66
  bU : BoxC W U #[fv] 124
theorem FI.own {p : Tr → Bool} {F N O R U : Nat} {fv : Value} {pre : List Tr} {W W' : World} {row : Option Nat} (h : FI p F N O R U fv pre W) (hg : W.grownBy W' row) (hr : ∀ r, row = some r → ∃ o : Obj, W.heap[r]? = some o ∧ o.isCells = false) : FI p F N O R U fv pre W' :=
  ⟨h.no, h.bF.own hg hr, h.bN.own hg hr, h.bO.own hg hr, h.bR.own hg hr, h.bU.own hg hr⟩
theorem FI.below {p : Tr → Bool} {F N O R U : Nat} {fv : Value} {pre : List Tr} {W W' : World} (h : FI p F N O R U fv pre W) (b : Below W.heap.size W W') : FI p F N O R U fv pre W' :=
  ⟨h.no, h.bF.below b, h.bN.below b, h.bO.below b, h.bR.below b, h.bU.below b⟩
/-- When something was. -/
structure FX (p : Tr → Bool) (F N O R : Nat) (pre : List Tr) (W : World) : Prop where
  ex : ∃ ini x, pre = ini ++ [x] ∧ (∀ y ∈ ini, p y = false) ∧ p x = true ∧ BoxC W F #[.int .i64 (x.1 : Int)] 3 ∧ BoxC W N #[.int .i64 x.2.1, .int .i64 x.2.2] 66
  bO : BoxC W O #[.bool true] 4
  bR : BoxC W R #[.int .i64 0, .int .i64 0] 66
theorem FX.own {p : Tr → Bool} {F N O R : Nat} {pre : List Tr} {W W' : World} {row : Option Nat} (h : FX p F N O R pre W) (hg : W.grownBy W' row) (hr : ∀ r, row = some r → ∃ o : Obj, W.heap[r]? = some o ∧ o.isCells = false) : FX p F N O R pre W' := by
  obtain ⟨ini, x, e1, e2, e3, e4, e5⟩ := h.ex
  exact ⟨⟨ini, x, e1, e2, e3, e4.own hg hr, e5.own hg hr⟩, h.bO.own hg hr, h.bR.own hg hr⟩
set_option maxRecDepth 100000 in
set_option maxHeartbeats 4000000 in
theorem findtree_law (j : Job) (a b : Int) (P1 P2 : Nat) (w : World) (hj : JobAt w j) (h1 : Boxed w P1 3 (.int .i64 a)) (h2 : Boxed w P2 3 (.int .i64 b)) :
    Calls Try.prog 77 #[.agg #[.int .i64 j.w, .int .i64 j.l, .int .i64 j.d, .int .i64 j.c, .int .i64 j.k, .int .i64 j.e, .slice j.a j.n j.cap], .func (.func 78) #[] #[.pointer (some ⟨P1, 0, none⟩), .pointer (some ⟨P2, 0, none⟩)]] w fun r w' => r = .returned (.tuple #[.int .i64 (firstV (fun x : Tr => decide (x.2.1 = a ∧ x.2.2 = b)) (idx 0 (named j))).1, .agg #[.int .i64 (firstV (fun x : Tr => decide (x.2.1 = a ∧ x.2.2 = b)) (idx 0 (named j))).2.1, .int .i64 (firstV (fun x : Tr => decide (x.2.1 = a ∧ x.2.2 = b)) (idx 0 (named j))).2.2.1], .bool (firstV (fun x : Tr => decide (x.2.1 = a ∧ x.2.2 = b)) (idx 0 (named j))).2.2.2]) ∧ Below w.heap.size w w' := by
  have HJ := Lib.hid hj
  have H1 := Lib.hid h1
  have H2 := Lib.hid h2
  clear h1 h2
  clear hj
  have HIS := Lib.hid (fun W (hW : Below w.heap.size w W) (x : Tr) => istree_law (x.1 : Int) x.2.1 x.2.2 a b P1 P2 W (boxed_below H1.out hW) (boxed_below H2.out hW))
  obtain ⟨PD, hPD⟩ : ∃ f : Tr → Bool, (fun x : Tr => decide (x.2.1 = a ∧ x.2.2 = b)) = f := ⟨_, rfl⟩
  rw [hPD]
  have HIS2 := Lib.hid (show ∀ W, Below w.heap.size w W → ∀ x : Tr, Calls Try.prog 78 (#[.int .i64 (x.1 : Int), .agg #[.int .i64 x.2.1, .int .i64 x.2.2]] ++ #[.pointer (some ⟨P1, 0, none⟩), .pointer (some ⟨P2, 0, none⟩)]) W fun r w' => r = .returned (.bool (PD x)) ∧ Below W.heap.size W w' from fun W hW x => by rw [← hPD]; exact HIS.out W hW x)
  clear HIS hPD
  refine (callsIn_wide (n := 6)).1 ?_
  refine callsIn_of_wp_marks Try.func77 rfl trivial ?_ rfl
  simp only [Try.ntmps77, List.size_toArray, List.length_cons, List.length_nil, Nat.reduceAdd, Nat.reduceSub, Array.replicate_succ, Array.replicate_zero, List.push_toArray, List.append_toArray, List.nil_append, List.cons_append]
  gi_wp2_with fail
  refine wpIn_scope ?_
  gi_wp2_with fail
  refine wpIn_label ?_
  gi_wp2_with fail
  refine ⟨trivial, ?_⟩
  refine (callsIn_wide.2 (all_in j _)).mono ?_
  rintro e w' ⟨rfl, rfl⟩
  gi_wp2_with fail
  have hbw : Below w.heap.size w (((((((w.alloc (.cells #[.int .i64 j.w, .int .i64 j.l, .int .i64 j.d, .int .i64 j.c, .int .i64 j.k, .int .i64 j.e, .slice j.a j.n j.cap] 53)).alloc (.cells #[.func (.func 78) #[] #[.pointer (some ⟨P1, 0, none⟩), .pointer (some ⟨P2, 0, none⟩)]] 124)).alloc (.cells #[.int .i64 0, .int .i64 0] 66)).alloc (.cells #[.int .i64 0] 3)).alloc (.cells #[.int .i64 0, .int .i64 0] 66)).alloc (.cells #[.bool false] 4)).alloc (.cells #[.int .i64 j.w, .int .i64 j.l, .int .i64 j.d, .int .i64 j.c, .int .i64 j.k, .int .i64 j.e, .slice j.a j.n j.cap] 53)) := (((((((Below.refl _ w).alloc (Nat.le_refl _) _).alloc (by simp) _).alloc (by simp; omega) _).alloc (by simp; omega) _).alloc (by simp; omega) _).alloc (by simp; omega) _).alloc (by simp; omega) _
  have bU := (((((BoxC.new (w.alloc (.cells #[.int .i64 j.w, .int .i64 j.l, .int .i64 j.d, .int .i64 j.c, .int .i64 j.k, .int .i64 j.e, .slice j.a j.n j.cap] 53)) #[.func (.func 78) #[] #[.pointer (some ⟨P1, 0, none⟩), .pointer (some ⟨P2, 0, none⟩)]] 124).alloc (.cells #[.int .i64 0, .int .i64 0] 66)).alloc (.cells #[.int .i64 0] 3)).alloc (.cells #[.int .i64 0, .int .i64 0] 66)).alloc (.cells #[.bool false] 4)).alloc (.cells #[.int .i64 j.w, .int .i64 j.l, .int .i64 j.d, .int .i64 j.c, .int .i64 j.k, .int .i64 j.e, .slice j.a j.n j.cap] 53)
  have bR := ((((BoxC.new ((w.alloc (.cells #[.int .i64 j.w, .int .i64 j.l, .int .i64 j.d, .int .i64 j.c, .int .i64 j.k, .int .i64 j.e, .slice j.a j.n j.cap] 53)).alloc (.cells #[.func (.func 78) #[] #[.pointer (some ⟨P1, 0, none⟩), .pointer (some ⟨P2, 0, none⟩)]] 124)) #[.int .i64 0, .int .i64 0] 66).alloc (.cells #[.int .i64 0] 3)).alloc (.cells #[.int .i64 0, .int .i64 0] 66)).alloc (.cells #[.bool false] 4)).alloc (.cells #[.int .i64 j.w, .int .i64 j.l, .int .i64 j.d, .int .i64 j.c, .int .i64 j.k, .int .i64 j.e, .slice j.a j.n j.cap] 53)
  have bF := (((BoxC.new (((w.alloc (.cells #[.int .i64 j.w, .int .i64 j.l, .int .i64 j.d, .int .i64 j.c, .int .i64 j.k, .int .i64 j.e, .slice j.a j.n j.cap] 53)).alloc (.cells #[.func (.func 78) #[] #[.pointer (some ⟨P1, 0, none⟩), .pointer (some ⟨P2, 0, none⟩)]] 124)).alloc (.cells #[.int .i64 0, .int .i64 0] 66)) #[.int .i64 0] 3).alloc (.cells #[.int .i64 0, .int .i64 0] 66)).alloc (.cells #[.bool false] 4)).alloc (.cells #[.int .i64 j.w, .int .i64 j.l, .int .i64 j.d, .int .i64 j.c, .int .i64 j.k, .int .i64 j.e, .slice j.a j.n j.cap] 53)
  have bN := ((BoxC.new ((((w.alloc (.cells #[.int .i64 j.w, .int .i64 j.l, .int .i64 j.d, .int .i64 j.c, .int .i64 j.k, .int .i64 j.e, .slice j.a j.n j.cap] 53)).alloc (.cells #[.func (.func 78) #[] #[.pointer (some ⟨P1, 0, none⟩), .pointer (some ⟨P2, 0, none⟩)]] 124)).alloc (.cells #[.int .i64 0, .int .i64 0] 66)).alloc (.cells #[.int .i64 0] 3)) #[.int .i64 0, .int .i64 0] 66).alloc (.cells #[.bool false] 4)).alloc (.cells #[.int .i64 j.w, .int .i64 j.l, .int .i64 j.d, .int .i64 j.c, .int .i64 j.k, .int .i64 j.e, .slice j.a j.n j.cap] 53)
  have bO := (BoxC.new (((((w.alloc (.cells #[.int .i64 j.w, .int .i64 j.l, .int .i64 j.d, .int .i64 j.c, .int .i64 j.k, .int .i64 j.e, .slice j.a j.n j.cap] 53)).alloc (.cells #[.func (.func 78) #[] #[.pointer (some ⟨P1, 0, none⟩), .pointer (some ⟨P2, 0, none⟩)]] 124)).alloc (.cells #[.int .i64 0, .int .i64 0] 66)).alloc (.cells #[.int .i64 0] 3)).alloc (.cells #[.int .i64 0, .int .i64 0] 66)) #[.bool false] 4).alloc (.cells #[.int .i64 j.w, .int .i64 j.l, .int .i64 j.d, .int .i64 j.c, .int .i64 j.k, .int .i64 j.e, .slice j.a j.n j.cap] 53)
  have bA := BoxC.new ((((((w.alloc (.cells #[.int .i64 j.w, .int .i64 j.l, .int .i64 j.d, .int .i64 j.c, .int .i64 j.k, .int .i64 j.e, .slice j.a j.n j.cap] 53)).alloc (.cells #[.func (.func 78) #[] #[.pointer (some ⟨P1, 0, none⟩), .pointer (some ⟨P2, 0, none⟩)]] 124)).alloc (.cells #[.int .i64 0, .int .i64 0] 66)).alloc (.cells #[.int .i64 0] 3)).alloc (.cells #[.int .i64 0, .int .i64 0] 66)).alloc (.cells #[.bool false] 4)) #[.int .i64 j.w, .int .i64 j.l, .int .i64 j.d, .int .i64 j.c, .int .i64 j.k, .int .i64 j.e, .slice j.a j.n j.cap] 53
  simp only [World.size_alloc] at bU bR bF bN bO bA
  have hsz : (((((((w.alloc (.cells #[.int .i64 j.w, .int .i64 j.l, .int .i64 j.d, .int .i64 j.c, .int .i64 j.k, .int .i64 j.e, .slice j.a j.n j.cap] 53)).alloc (.cells #[.func (.func 78) #[] #[.pointer (some ⟨P1, 0, none⟩), .pointer (some ⟨P2, 0, none⟩)]] 124)).alloc (.cells #[.int .i64 0, .int .i64 0] 66)).alloc (.cells #[.int .i64 0] 3)).alloc (.cells #[.int .i64 0, .int .i64 0] 66)).alloc (.cells #[.bool false] 4)).alloc (.cells #[.int .i64 j.w, .int .i64 j.l, .int .i64 j.d, .int .i64 j.c, .int .i64 j.k, .int .i64 j.e, .slice j.a j.n j.cap] 53)).heap.size = w.heap.size + 7 := by simp
  obtain ⟨W0, hW0⟩ : ∃ W0, (((((((w.alloc (.cells #[.int .i64 j.w, .int .i64 j.l, .int .i64 j.d, .int .i64 j.c, .int .i64 j.k, .int .i64 j.e, .slice j.a j.n j.cap] 53)).alloc (.cells #[.func (.func 78) #[] #[.pointer (some ⟨P1, 0, none⟩), .pointer (some ⟨P2, 0, none⟩)]] 124)).alloc (.cells #[.int .i64 0, .int .i64 0] 66)).alloc (.cells #[.int .i64 0] 3)).alloc (.cells #[.int .i64 0, .int .i64 0] 66)).alloc (.cells #[.bool false] 4)).alloc (.cells #[.int .i64 j.w, .int .i64 j.l, .int .i64 j.d, .int .i64 j.c, .int .i64 j.k, .int .i64 j.e, .slice j.a j.n j.cap] 53)) = W0 := ⟨_, rfl⟩
  rw [hW0] at bU bR bF bN bO bA hbw hsz ⊢
  clear hW0
  refine wpIn_rangeFunc_ownH rfl (by omega) (gf := 98) (lb := #[.pointer (some ⟨w.heap.size + 1 + 1 + 1 + 1 + 1 + 1, 0, none⟩)]) rfl trivial (enters_of Try.func98 (by kernel_rfl) rfl)
    (all_stops 5 (by omega) j w HJ.out (w.heap.size + 1 + 1 + 1 + 1 + 1 + 1) W0 hbw bA) KP.trans (fun W l o o' h1 h2 h3 h4 => KP.put (w := W0) (by omega) W l o o' h1 h2 h3 h4) (Below.refl _ _) (fun _ => rfl)
    (fun pre W => FI PD (w.heap.size + 1 + 1 + 1) (w.heap.size + 1 + 1 + 1 + 1) (w.heap.size + 1 + 1 + 1 + 1 + 1) (w.heap.size + 1 + 1) (w.heap.size + 1) (.func (.func 78) #[] #[.pointer (some ⟨P1, 0, none⟩), .pointer (some ⟨P2, 0, none⟩)]) pre W ∧ Below w.heap.size w W)
    (fun c pre W => (c = .exit 0 ∧ FX PD (w.heap.size + 1 + 1 + 1) (w.heap.size + 1 + 1 + 1 + 1) (w.heap.size + 1 + 1 + 1 + 1 + 1) (w.heap.size + 1 + 1) pre W) ∧ Below w.heap.size w W)
    (OwnFrom.and (Own.from (fun s X Y row hs hg hr => hs.own hg hr) _) (ownFrom_below (Nat.le_refl _) (by omega)))
    (fun c => OwnFrom.and (Own.from (fun s X Y row hs hg hr => ⟨hs.1, hs.2.own hg hr⟩) _) (ownFrom_below (Nat.le_refl _) (by omega)))
    ⟨⟨fun x hx => by simp at hx, bF, bN, bO, bR, bU⟩, hbw⟩
    (fun x a' W => ∃ Bx, w.heap.size + 1 + 1 + 1 + 1 + 1 < Bx ∧ BoxC W Bx #[.int .i64 x.2.1, .int .i64 x.2.2] 66 ∧ a' = { tmps := #[.agg #[.int .i64 j.w, .int .i64 j.l, .int .i64 j.d, .int .i64 j.c, .int .i64 j.k, .int .i64 j.e, .slice j.a j.n j.cap], .func (.func 78) #[] #[.pointer (some ⟨P1, 0, none⟩), .pointer (some ⟨P2, 0, none⟩)], .pointer (some ⟨w.heap.size, 0, none⟩), .pointer (some ⟨w.heap.size + 1, 0, none⟩), .int .i64 0, .pointer (some ⟨w.heap.size + 1 + 1, 0, none⟩), .bool false, .pointer (some ⟨w.heap.size + 1 + 1 + 1, 0, none⟩), .pointer (some ⟨w.heap.size + 1 + 1 + 1 + 1, 0, none⟩), .pointer (some ⟨w.heap.size + 1 + 1 + 1 + 1 + 1, 0, none⟩), .int .i64 (x.1 : Int), .pointer (some ⟨Bx, 0, none⟩), .agg #[.int .i64 0, .int .i64 0], .agg #[.int .i64 j.w, .int .i64 j.l, .int .i64 j.d, .int .i64 j.c, .int .i64 j.k, .int .i64 j.e, .slice j.a j.n j.cap], .func (.func 98) #[] #[.pointer (some ⟨w.heap.size + 1 + 1 + 1 + 1 + 1 + 1, 0, none⟩)], .int .i64 (x.1 : Int), .agg #[.int .i64 x.2.1, .int .i64 x.2.2], undef, undef, undef, undef, undef, undef, undef, undef, undef], defers := [] })
    (fun x a' _ X Y row hs hg hr => by obtain ⟨Bx, h1, h2, h3⟩ := hs; exact ⟨Bx, h1, h2.own hg (fun r e => (hr r e).2), h3⟩)
    ?assign ?body ?done ?stop
  case assign =>
    rintro l pre x W K ⟨hI, hB1⟩ hK
    dsimp only [encs]
    have hlO := hI.bO.lt
    gi_wp2
    have BA : Below W.heap.size W (W.alloc (.cells #[.int .i64 x.2.1, .int .i64 x.2.2] 66)) := (Below.refl _ W).alloc (Nat.le_refl _) _
    exact hK _ _ ((KeepsOthers.alloc _ _).from _) (KP.below hB1.size BA) ⟨hI.below BA, step_below hB1 BA⟩ ⟨W.heap.size, hlO, BoxC.new _ _ _, by simp⟩
  case body =>
    rintro l pre x a' W hl _ ⟨hI, hB1⟩ ⟨Bx, hBx, bX, rfl⟩ hlt
    have cU := hI.bU.cell 0
    have cX0 := bX.cell 0
    have cX1 := bX.cell 1
    simp only [List.getElem?_toArray, List.getElem?_cons_zero, List.getElem?_cons_succ] at cU cX0 cX1
    gi_wp2_with fail
    refine ⟨trivial, ?_⟩
    refine (CallsIn.inRound l (callsIn_wide.2 (HIS2.out W hB1 x))).mono ?_
    rintro e W1 ⟨rfl, B1⟩
    have hI1 := hI.below B1
    have bX1 := bX.below B1
    have hB2 := step_below hB1 B1
    have KF := Lib.hid (show KeepsFrom W0.heap.size W W1 from KeepsFrom.of_grownBy (grown_below' B1) (fun j e => by cases e))
    have KK := Lib.hid (show KP w.heap.size (w.heap.size + 1 + 1 + 1 + 1 + 1 + 1) #[.int .i64 j.w, .int .i64 j.l, .int .i64 j.d, .int .i64 j.c, .int .i64 j.k, .int .i64 j.e, .slice j.a j.n j.cap] W W1 from KP.below hB1.size B1)
    have BT := Lib.hid (show Below w.heap.size W W1 from B1.mono hB1.size)
    clear cU cX0 cX1 hI bX hB1 B1
    cases hpx : PD x
    · have HPX := Lib.hid hpx
      clear hpx
      gi_wp2
      exact ⟨KF.out, KK.out, ⟨⟨fun y hy => (List.mem_append.1 hy).elim (hI1.no y) (fun e => by simp at e; subst e; exact HPX.out), hI1.bF, hI1.bN, hI1.bO, hI1.bR, hI1.bU⟩, hB2⟩⟩
    · have HPX := Lib.hid hpx
      have cX0 := bX1.cell 0
      have cX1 := bX1.cell 1
      have cF := hI1.bF.cell 0
      have cN0 := hI1.bN.cell 0
      have cN1 := hI1.bN.cell 1
      have cO := hI1.bO.cell 0
      have fF := hI1.bF.frozen 0
      have fN0 := hI1.bN.frozen 0
      have fN1 := hI1.bN.frozen 1
      have fO := hI1.bO.frozen 0
      simp only [List.getElem?_toArray, List.getElem?_cons_zero, List.getElem?_cons_succ] at cX0 cX1 cF cN0 cN1 cO
      have HI := Lib.hid hI1
      have hlO : Bx < W1.heap.size := bX1.lt
      clear hpx hI1
      gi_wp2_with fail
      gi_region
      all_goals gi_wp2
      all_goals exact ⟨KeepsFrom.drw ((((KF.out.trans ((KeepsOthers.setCell _ _ _).from _)).trans ((KeepsOthers.setCell _ _ _).from _)).trans ((KeepsOthers.setCell _ _ _).from _)).trans ((KeepsOthers.setCell _ _ _).from _)),
        ⟨rfl, ⟨pre, x, rfl, HI.out.no, HPX.out, BoxC.oth (by omega) (BoxC.oth (by omega) (BoxC.oth (by omega) (HI.out.bF.set1))), BoxC.oth (by omega) (BoxC.set2 (BoxC.oth (by omega) HI.out.bN))⟩, BoxC.set1 (BoxC.oth (by omega) (BoxC.oth (by omega) (BoxC.oth (by omega) HI.out.bO))), BoxC.oth (by omega) (BoxC.oth (by omega) (BoxC.oth (by omega) (BoxC.oth (by omega) HI.out.bR)))⟩,
        ((((hB2.setCell (p := ⟨w.heap.size + 1 + 1 + 1, 0, none⟩) (by simp; omega) _).setCell (p := ⟨w.heap.size + 1 + 1 + 1 + 1, 0, none⟩) (by simp; omega) _).setCell (p := ⟨w.heap.size + 1 + 1 + 1 + 1, 1, none⟩) (by simp; omega) _).setCell (p := ⟨w.heap.size + 1 + 1 + 1 + 1 + 1, 0, none⟩) (by simp; omega) _).drew⟩
  case done =>
    rintro D zs W hD rfl ⟨hI, hB1⟩ hK
    have FV := Lib.hid (firstV_none hI.no)
    have cF := hI.bF.cell 0
    have cN0 := hI.bN.cell 0
    have cN1 := hI.bN.cell 1
    have cO := hI.bO.cell 0
    have cR0 := hI.bR.cell 0
    have cR1 := hI.bR.cell 1
    have fR0 := hI.bR.frozen 0
    have fR1 := hI.bR.frozen 1
    simp only [List.getElem?_toArray, List.getElem?_cons_zero, List.getElem?_cons_succ] at cF cN0 cN1 cO cR0 cR1
    have HI := Lib.hid hI
    clear hI
    gi_wp2_with fail
    gi_region
    all_goals gi_wp2
    all_goals
      rw [Exit.noGoto_ret]
      have hK2 := Lib.hid ((KeepsOthers.setCell _ ⟨w.heap.size + 1 + 1, 1, none⟩ (.int .i64 0)).same D _ ((KeepsOthers.setCell W ⟨w.heap.size + 1 + 1, 0, none⟩ (.int .i64 0)).same D _ hK rfl) rfl)
      have bR2 : BoxC ((W.setCell ⟨w.heap.size + 1 + 1, 0, none⟩ (.int .i64 0)).setCell ⟨w.heap.size + 1 + 1, 1, none⟩ (.int .i64 0)).drew (w.heap.size + 1 + 1) #[.int .i64 0, .int .i64 0] 66 := BoxC.set2 HI.out.bR
      have B2 : Below w.heap.size w ((W.setCell ⟨w.heap.size + 1 + 1, 0, none⟩ (.int .i64 0)).setCell ⟨w.heap.size + 1 + 1, 1, none⟩ (.int .i64 0)).drew := ((hB1.setCell (p := ⟨w.heap.size + 1 + 1, 0, none⟩) (by simp; omega) _).setCell (p := ⟨w.heap.size + 1 + 1, 1, none⟩) (by simp; omega) _).drew
      have hK3 : ((W.setCell ⟨w.heap.size + 1 + 1, 0, none⟩ (.int .i64 0)).setCell ⟨w.heap.size + 1 + 1, 1, none⟩ (.int .i64 0)).drew.heap[D]? = some (.deferred (some [])) := hK2.out
      clear hK2
      generalize ((W.setCell ⟨w.heap.size + 1 + 1, 0, none⟩ (.int .i64 0)).setCell ⟨w.heap.size + 1 + 1, 1, none⟩ (.int .i64 0)).drew = W2 at bR2 B2 hK3 ⊢
      refine ⟨by simp, .inl ⟨_, _, rfl, run_takeDeferred hK3, ?_⟩⟩
      have bR3 := bR2.kept (grownBy_putObj' W2 D (.deferred none)) (fun e => by cases e; omega)
      have h0 := bR3.cell 0
      have h1 := bR3.cell 1
      simp only [List.getElem?_toArray, List.getElem?_cons_zero, List.getElem?_cons_succ] at h0 h1
      refine ⟨.tuple #[.int .i64 0, .agg #[.int .i64 0, .int .i64 0], .bool false], ?_, by rw [FV.out], B2.trans (belowK_b (w := w) (Nat.le_refl _) _ D _ _ (by omega) hK3 rfl rfl)⟩
      simp [results, Try.f77, go_sem, h0, h1]
  case stop =>
    rintro D c pre W hD ⟨t, ht⟩ ⟨⟨rfl, hX⟩, hB1⟩ hK
    obtain ⟨ini, x, e1, e2, e3, bF, bN⟩ := hX.ex
    have FV := Lib.hid (show firstV PD (idx 0 (named j)) = ((x.1 : Int), x.2.1, x.2.2, true) by rw [ht, e1, firstV_some e3 e2])
    have cF := bF.cell 0
    have cN0 := bN.cell 0
    have cN1 := bN.cell 1
    have cO := hX.bO.cell 0
    have cR0 := hX.bR.cell 0
    have cR1 := hX.bR.cell 1
    have fR0 := hX.bR.frozen 0
    have fR1 := hX.bR.frozen 1
    simp only [List.getElem?_toArray, List.getElem?_cons_zero, List.getElem?_cons_succ] at cF cN0 cN1 cO cR0 cR1
    have HX := Lib.hid hX
    clear hX e1 e2 e3 ht
    gi_wp2_with fail
    gi_region
    all_goals gi_wp2
    all_goals
      rw [Exit.noGoto_ret]
      have hK2 := Lib.hid ((KeepsOthers.setCell _ ⟨w.heap.size + 1 + 1, 1, none⟩ (.int .i64 x.2.2)).same D _ ((KeepsOthers.setCell W ⟨w.heap.size + 1 + 1, 0, none⟩ (.int .i64 x.2.1)).same D _ hK rfl) rfl)
      have bR2 : BoxC ((W.setCell ⟨w.heap.size + 1 + 1, 0, none⟩ (.int .i64 x.2.1)).setCell ⟨w.heap.size + 1 + 1, 1, none⟩ (.int .i64 x.2.2)).drew (w.heap.size + 1 + 1) #[.int .i64 x.2.1, .int .i64 x.2.2] 66 := BoxC.set2 HX.out.bR
      have B2 : Below w.heap.size w ((W.setCell ⟨w.heap.size + 1 + 1, 0, none⟩ (.int .i64 x.2.1)).setCell ⟨w.heap.size + 1 + 1, 1, none⟩ (.int .i64 x.2.2)).drew := ((hB1.setCell (p := ⟨w.heap.size + 1 + 1, 0, none⟩) (by simp; omega) _).setCell (p := ⟨w.heap.size + 1 + 1, 1, none⟩) (by simp; omega) _).drew
      have hK3 : ((W.setCell ⟨w.heap.size + 1 + 1, 0, none⟩ (.int .i64 x.2.1)).setCell ⟨w.heap.size + 1 + 1, 1, none⟩ (.int .i64 x.2.2)).drew.heap[D]? = some (.deferred (some [])) := hK2.out
      clear hK2
      generalize ((W.setCell ⟨w.heap.size + 1 + 1, 0, none⟩ (.int .i64 x.2.1)).setCell ⟨w.heap.size + 1 + 1, 1, none⟩ (.int .i64 x.2.2)).drew = W2 at bR2 B2 hK3 ⊢
      refine ⟨by simp, .inl ⟨_, _, rfl, run_takeDeferred hK3, ?_⟩⟩
      have bR3 := bR2.kept (grownBy_putObj' W2 D (.deferred none)) (fun e => by cases e; omega)
      have h0 := bR3.cell 0
      have h1 := bR3.cell 1
      simp only [List.getElem?_toArray, List.getElem?_cons_zero, List.getElem?_cons_succ] at h0 h1
      refine ⟨.tuple #[.int .i64 (x.1 : Int), .agg #[.int .i64 x.2.1, .int .i64 x.2.2], .bool true], ?_, by rw [FV.out], B2.trans (belowK_b (w := w) (Nat.le_refl _) _ D _ _ (by omega) hK3 rfl rfl)⟩
      simp [results, Try.f77, go_sem, h0, h1]
end Go.Proofs.Ytkgcbhpgkcfkhaa
