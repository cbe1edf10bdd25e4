/- Keys that are compared, and what two share, by contracts. -/
import Derived.Test.YtkgcbhpgkcfkhaaK8i
import Derived.WalkMore
namespace Go.Proofs.Ytkgcbhpgkcfkhaa.K8
open Go.ChangeShapes Go.WideShapes Go.ChangeAt Go.RowKit Go.Shelf
open SM
set_option linter.unusedVariables false
set_option linter.unusedSimpArgs false
attribute [local go_sem] Oper.semAt_some

theorem wpIn_scope {n : Nat} {P : Program} {c : Code} {Q : Exit → Act → World → Prop} {a : Act} {w : World} (h : c.wpIn Fence.wide n P (Exit.noGoto Q) a w) : (Code.scope c).wpIn Fence.wide n P Q a w :=
  wpIn_wide.2 (wp_scope_straight (wpIn_wide.1 h))

/-- A slice in a block of its own. -/
def Box2 (W : World) (B : Nat) (x y : Int) : Prop := W.heap[B]? = some (.cells #[.int .u64 x, .int .i64 y] 151 (0, 0))
theorem Box2.kept {W W' : World} {B : Nat} {x y : Int} {row : Option Nat} (h : Box2 W B x y) (hg : W.grownBy W' row) (hne : some B ≠ row) : Box2 W' B x y :=
  (hg.block B (Array.getElem?_eq_some_iff.1 h).1 hne).trans h
theorem Box2.below {W W' : World} {B : Nat} {x y : Int} (h : Box2 W B x y) (hb : Below W.heap.size W W') : Box2 W' B x y :=
  (hb.block B (Array.getElem?_eq_some_iff.1 h).1).trans h
theorem Box2.lt {W : World} {B : Nat} {x y : Int} (h : Box2 W B x y) : B < W.heap.size := (Array.getElem?_eq_some_iff.1 h).1
theorem Box2.c0 {W : World} {B : Nat} {x y : Int} (h : Box2 W B x y) : W.cell? ⟨B, 0, none⟩ = some (.int .u64 x) := by simp [World.cell?, show W.heap[B]? = _ from h]
theorem Box2.c1 {W : World} {B : Nat} {x y : Int} (h : Box2 W B x y) : W.cell? ⟨B, 1, none⟩ = some (.int .i64 y) := by simp [World.cell?, show W.heap[B]? = _ from h]
theorem Box2.own {B : Nat} {x y : Int} {W W' : World} {row : Option Nat} (h : Box2 W B x y) (hg : W.grownBy W' row) (hr : ∀ r, row = some r → ∃ o : Obj, W.heap[r]? = some o ∧ o.isCells = false) : Box2 W' B x y :=
  h.kept hg (fun e => by obtain ⟨o, ho, hc⟩ := hr B e.symm; rw [show W.heap[B]? = _ from h] at ho; cases ho; cases hc)
theorem KC.of_grown {Bo : Nat} {W W' : World} (h : W.grownBy W' (some Bo)) : KC Bo W W' := ⟨h.size, fun j o hj ho _ => (h.block j (Array.getElem?_eq_some_iff.1 ho).1 (fun e => hj (by cases e; rfl))).trans ho⟩
theorem boxed_below {W W' : World} {B : Nat} {t : TypeId} {v : Value} (h : Boxed W B t v) (hb : Below W.heap.size W W') : Boxed W' B t v := (hb.block B h.lt).trans h

def othV (fb : Nat → Int) (lb : Nat) (x : Sl) : Int := cmpS x.2.1 x.2.2 (ofV fb lb x.1).1 (ofV fb lb x.1).2.1
def goes (fb : Nat → Int) (lb : Nat) (x : Sl) : Prop := othV fb lb x = 0 ∧ (ofV fb lb x.1).2.2 = 0
instance (fb : Nat → Int) (lb : Nat) (x : Sl) : Decidable (goes fb lb x) := inferInstanceAs (Decidable (_ ∧ _))
def ckV (fb : Nat → Int) (lb : Nat) : List Sl → Int
  | [] => 0
  | x :: r => if goes fb lb x then ckV fb lb r else othV fb lb x
theorem ckV_all (fb : Nat → Int) (lb : Nat) : ∀ l : List Sl, (∀ x ∈ l, goes fb lb x) → ckV fb lb l = 0
  | [], _ => rfl
  | x :: r, h => by rw [ckV, if_pos (h x (by simp))]; exact ckV_all fb lb r fun y hy => h y (by simp [hy])
theorem ckV_stop (fb : Nat → Int) (lb : Nat) (x : Sl) (t : List Sl) (hx : ¬ goes fb lb x) : ∀ l : List Sl, (∀ y ∈ l, goes fb lb y) → ckV fb lb (l ++ [x] ++ t) = othV fb lb x
  | [], _ => by simp [ckV, hx]
  | y :: r, h => by
    simp only [List.cons_append, ckV, if_pos (h y (by simp))]
    exact ckV_stop fb lb x t hx r fun z hz => h z (by simp [hz])

theorem upto_pre (f : Nat → Int) (len k m : Nat) (h : k ≤ m) : ∃ t, upto f len m = upto f len k ++ t := by
  obtain ⟨d, rfl⟩ : ∃ d, m = k + d := ⟨m - k, by omega⟩
  induction d with
  | zero => exact ⟨[], by simp⟩
  | succ d ih =>
    obtain ⟨t, e⟩ := ih (by omega)
    exact ⟨t ++ [(k + d, slW f len (k + d), ((slL len (k + d) : Nat) : Int))], by rw [← Nat.add_assoc, upto_succ, e, List.append_assoc]⟩

set_option maxRecDepth 100000 in
set_option maxHeartbeats 4000000 in
theorem comparekeys_law (a b : Option Addr) (la ca lb cb : Nat) (fa fb : Nat → Int) (hfa : Fits fa) (hfb : Fits fb) (hla : la ≤ 1048576) (hlb : lb ≤ 1048576) (hca : la ≤ ca) (hcb : lb ≤ cb) (w : World) (hA : Bts w a la fa) (hB : Bts w b lb fb) :
    Calls Try.prog 86 #[.slice a la ca, .slice b lb cb] w fun e W' => e = .returned (.int .i64 (ckV fb lb (upto fa la (cnt la)))) ∧ Below w.heap.size w W' := by
  refine (callsIn_wide (n := 6)).1 ?_
  refine callsIn_of_wp_marks Try.func86 rfl trivial ?_ rfl
  simp only [Try.ntmps86, List.size_toArray, List.length_cons, List.length_nil, Nat.reduceAdd, Nat.reduceSub, Array.replicate_succ, Array.replicate_zero, List.push_toArray, List.append_toArray, List.nil_append, List.cons_append]
  have HA := Lib.hid hA
  have HB := Lib.hid hB
  clear hA hB
  gi_wp2_with fail
  refine wpIn_scope ?_
  gi_wp2_with fail
  refine wpIn_label ?_
  gi_wp2_with fail
  refine ⟨trivial, ?_⟩
  refine (callsIn_wide.2 (all_in _ _ _ _)).mono ?_
  rintro e w' ⟨rfl, rfl⟩
  gi_wp2_with fail
  have hbw : Below w.heap.size w (((w.alloc (.cells #[.slice b lb cb] 24)).alloc (.cells #[.int .i64 0] 3)).alloc (.cells #[.slice a la ca] 24)) := (((Below.refl _ w).alloc (Nat.le_refl _) _).alloc (by simp) _).alloc (by simp; omega) _
  have bB := ((Boxed.new w 24 (.slice b lb cb)).alloc (.cells #[.int .i64 0] 3)).alloc (.cells #[.slice a la ca] 24)
  have bR := (Boxed.new (w.alloc (.cells #[.slice b lb cb] 24)) 3 (.int .i64 0)).alloc (.cells #[.slice a la ca] 24)
  have bA := Boxed.new ((w.alloc (.cells #[.slice b lb cb] 24)).alloc (.cells #[.int .i64 0] 3)) 24 (.slice a la ca)
  simp only [World.size_alloc] at bR bA
  have hsz : (((w.alloc (.cells #[.slice b lb cb] 24)).alloc (.cells #[.int .i64 0] 3)).alloc (.cells #[.slice a la ca] 24)).heap.size = w.heap.size + 3 := by simp
  obtain ⟨W0, hW0⟩ : ∃ W0, ((w.alloc (.cells #[.slice b lb cb] 24)).alloc (.cells #[.int .i64 0] 3)).alloc (.cells #[.slice a la ca] 24) = W0 := ⟨_, rfl⟩
  rw [hW0] at bB bR bA hbw hsz ⊢
  clear hW0
  refine wpIn_rangeFunc_ownH rfl (by omega) (gf := 107) (lb := #[.pointer (some ⟨w.heap.size + 1 + 1, 0, none⟩)]) rfl trivial (enters_of Try.func107 (by kernel_rfl) rfl)
    (all_stops 5 (by omega) (w.heap.size + 1 + 1) (w.heap.size + 1) la ca a fa hfa hla W0 (by omega) (by omega) bA.cell (HA.out.below hbw)) KC.trans (fun W l o o' _ h hc _ => KC.put W l o o' h hc) (Below.refl _ _) (fun _ => rfl)
    (fun pre W => (((∀ x ∈ pre, goes fb lb x) ∧ Boxed W (w.heap.size + 1) 3 (.int .i64 0)) ∧ Boxed W w.heap.size 24 (.slice b lb cb)) ∧ Below w.heap.size w W)
    (fun c pre W => ((c = .exit 0 ∧ ∃ ini x, pre = ini ++ [x] ∧ (∀ y ∈ ini, goes fb lb y) ∧ ¬ goes fb lb x ∧ Boxed W (w.heap.size + 1) 3 (.int .i64 (othV fb lb x))) ∧ Below w.heap.size w W))
    (OwnFrom.and (OwnFrom.and (OwnFrom.and (ownFrom_pure _ _) (Own.from (boxed_own _ _ _) _)) (Own.from (boxed_own _ _ _) _)) (ownFrom_below (Nat.le_refl _) (by omega)))
    (fun c => OwnFrom.and (Own.from (fun s X Y row hs hg hr => by obtain ⟨e0, ini, x, e1, e2, e3, e4⟩ := hs; exact ⟨e0, ini, x, e1, e2, e3, boxed_own _ 3 (fun (_ : Unit) => Value.int .i64 (othV fb lb x)) () X Y row e4 hg hr⟩) _) (ownFrom_below (Nat.le_refl _) (by omega)))
    ⟨⟨⟨by simp, bR⟩, bB⟩, hbw⟩
    (fun x a' W => ∃ Bx, w.heap.size + 1 < Bx ∧ Box2 W Bx x.2.1 x.2.2 ∧ a' = { tmps := #[.slice a la ca, .slice b lb cb, undef, .pointer (some ⟨w.heap.size, 0, none⟩), .int .i64 0, .pointer (some ⟨w.heap.size + 1, 0, none⟩), .int .i64 (x.1 : Int), .pointer (some ⟨Bx, 0, none⟩), undef, undef, .slice a la ca, .func (.func 107) #[] #[.pointer (some ⟨w.heap.size + 1 + 1, 0, none⟩)], .int .i64 (x.1 : Int), .agg #[.int .u64 x.2.1, .int .i64 x.2.2], undef, undef, undef, undef, undef, undef, undef, undef, undef, undef, undef, undef, undef, undef, undef, undef], defers := [] })
    (fun x a' _ X Y row hs hg hr => by obtain ⟨Bx, h1, h2, h3⟩ := hs; exact ⟨Bx, h1, h2.own hg (fun r e => (hr r e).2), h3⟩)
    ?assign ?body ?done ?stop
  case assign =>
    rintro l pre x W K ⟨⟨⟨hp, bR1⟩, bB1⟩, hB1⟩ hK
    dsimp only [encs]
    gi_wp2
    exact hK _ _ ((KeepsOthers.alloc _ _).from _) (KC.below ((Below.refl _ W).alloc (Nat.le_refl _) _)) ⟨⟨⟨hp, bR1.alloc _⟩, bB1.alloc _⟩, hB1.alloc hB1.size _⟩ ⟨W.heap.size, bR1.lt, World.alloc_heap_new _ _, rfl⟩
  case body =>
    rintro l pre x a' W hl _ ⟨⟨⟨hp, bR1⟩, bB1⟩, hB1⟩ ⟨Bx, hBx, bX, rfl⟩ hlt
    have cB := bB1.cell
    gi_wp2_with fail
    refine ⟨trivial, ?_⟩
    refine (CallsIn.inRound l (callsIn_wide.2 (Of_any b lb cb fb x.1 (by omega) hcb _ hfb (HB.out.below hB1)))).mono ?_
    rintro e W1 ⟨rfl, B1⟩
    have bX1 := bX.below B1
    have c0 := bX1.c0
    have c1 := bX1.c1
    have l1 := bX1.lt
    have hB2 : Below w.heap.size w (W1.alloc (.cells #[.int .u64 (ofV fb lb x.1).1, .int .i64 (ofV fb lb x.1).2.1] 151)) := (step_below hB1 B1).alloc (Nat.le_trans hB1.size B1.size) _
    have bR2 := boxed_below (boxed_below bR1 B1) ((Below.refl _ W1).alloc (Nat.le_refl _) (.cells #[.int .u64 (ofV fb lb x.1).1, .int .i64 (ofV fb lb x.1).2.1] 151))
    have bB2 := boxed_below (boxed_below bB1 B1) ((Below.refl _ W1).alloc (Nat.le_refl _) (.cells #[.int .u64 (ofV fb lb x.1).1, .int .i64 (ofV fb lb x.1).2.1] 151))
    have B12 : Below W.heap.size W (W1.alloc (.cells #[.int .u64 (ofV fb lb x.1).1, .int .i64 (ofV fb lb x.1).2.1] 151)) := B1.alloc B1.size _
    clear bX1 bR1 bB1 B1 cB bX
    gi_wp2_with fail
    refine ⟨trivial, ?_⟩
    refine (CallsIn.inRound l (callsIn_wide.2 (compare_law _ _ _ _ _))).mono ?_
    rintro e W2 ⟨rfl, B2⟩
    have bR3 := boxed_below bR2 B2
    have bB3 := boxed_below bB2 B2
    have hB3 := step_below hB2 B2
    have B3 := step_below B12 B2
    have cR := bR3.cell
    have fR := bR3.frozen
    clear bR2 bB2 hB2 B12 B2 c0 c1 l1
    rw [show cmpS x.2.1 x.2.2 (ofV fb lb x.1).1 (ofV fb lb x.1).2.1 = othV fb lb x from rfl]
    by_cases g : othV fb lb x = 0
    · by_cases g2 : (ofV fb lb x.1).2.2 = 0
      · rw [g, g2]
        gi_wp2
        exact ⟨(KeepsFrom.of_grownBy (grown_of_below B3) (fun j e => by cases e)).trans ((KeepsOthers.setCell _ _ _).from _), (KC.below B3).trans (KC.of_grown (grownBy_setCell' _ _ _)),
          ⟨⟨fun y hy => (List.mem_append.1 hy).elim (hp y) (fun e => by simp at e; subst e; exact ⟨g, g2⟩), bR3.set _⟩, bB3.other (by omega) _⟩, hB3.setCell (p := ⟨w.heap.size + 1, 0, none⟩) (by simp) _⟩
      · have g3 : ((ofV fb lb x.1).2.2 != 0) = true := by simpa using g2
        rw [g]
        gi_wp2
        exact ⟨(KeepsFrom.of_grownBy (grown_of_below B3) (fun j e => by cases e)).trans ((KeepsOthers.setCell _ _ _).from _),
          ⟨rfl, pre, x, rfl, hp, fun h => g2 h.2, by rw [g]; exact bR3.set _⟩, hB3.setCell (p := ⟨w.heap.size + 1, 0, none⟩) (by simp) _⟩
    · have g3 : (othV fb lb x != 0) = true := by simpa using g
      gi_wp2
      exact ⟨(KeepsFrom.of_grownBy (grown_of_below B3) (fun j e => by cases e)).trans ((KeepsOthers.setCell _ _ _).from _),
          ⟨rfl, pre, x, rfl, hp, fun h => g h.1, bR3.set _⟩, hB3.setCell (p := ⟨w.heap.size + 1, 0, none⟩) (by simp) _⟩
  case done =>
    rintro D zs W hD rfl ⟨⟨⟨hp, bR1⟩, bB1⟩, hB1⟩ hK
    have cR := bR1.cell
    gi_wp2
    rw [Exit.noGoto_ret]
    refine ⟨by simp, .inl ⟨_, _, rfl, run_takeDeferred hK, ?_⟩⟩
    exact ⟨_, results_tmp rfl _ _ _, by rw [ckV_all _ _ _ hp]; rfl, hB1.trans (belowK_b (w := w) (Nat.le_refl _) W D _ _ (by omega) hK rfl rfl)⟩
  case stop =>
    rintro D c pre W hD ⟨k, hk, rfl⟩ ⟨⟨rfl, ini, x, e1, e2, e3, bR1⟩, hB1⟩ hK
    have cR := bR1.cell
    gi_wp2
    rw [Exit.noGoto_ret]
    refine ⟨by simp, .inl ⟨_, _, rfl, run_takeDeferred hK, ?_⟩⟩
    obtain ⟨t, et⟩ := upto_pre fa la k (cnt la) hk
    exact ⟨_, results_tmp rfl _ _ _, by rw [et, e1, ckV_stop _ _ _ _ e3 _ e2]; rfl, hB1.trans (belowK_b (w := w) (Nat.le_refl _) W D _ _ (by omega) hK rfl rfl)⟩
end Go.Proofs.Ytkgcbhpgkcfkhaa.K8
