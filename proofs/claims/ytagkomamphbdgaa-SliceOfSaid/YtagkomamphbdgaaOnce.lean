/- A key's slices gone over once, up to a number of them: by a contract. -/
import Derived.Test.YtagkomamphbdgaaRef
import Derived.Test.YtagkomamphbdgaaKeys
import Derived.StillTailTactics
namespace Go.Proofs.Ytagkomamphbdgaa
open Go.ChangeShapes Go.WideShapes Go.ChangeAt Go.RowKit Go.Shelf
open SM
set_option linter.unusedVariables false
set_option linter.unusedSimpArgs false
attribute [local go_sem] Oper.semAt_some

theorem qsame8 {P : Program} {f : FuncId} {args : Array Value} {w : World} {v : Value} (h : Calls P f args w fun e w' => e = .returned v ∧ w = w') : Calls P f args w fun e w' => e = .returned v ∧ w' = w :=
  h.mono fun _ _ ⟨a, b⟩ => ⟨a, b.symm⟩
theorem hnf1 (f : Fn) (c1 c2 : Array Value) (w : World) : (binOp .eql 53 (.func f c1 c2) .nilFunc).run Try.prog w = .ok (.bool false) w := by
  first | rfl | simp [binOp, run_underlying Try.underlying53] | simp [binOp, Op.equal, run_underlying Try.underlying53, go_sem]

def fitsAt (f : Nat → Int) (len m : Nat) (x : Sl) : Prop := (ofV f len m).2.2 = 0 ∧ x.1 = m ∧ x.2.1 = (ofV f len m).1 ∧ x.2.2 = (ofV f len m).2.1
theorem fitsAt_upto (f : Nat → Int) (len k : Nat) (hk : k ≤ cnt len) (ini : List Sl) (x : Sl) (e : upto f len k = ini ++ [x]) : fitsAt f len ini.length x := by
  have hl : k = ini.length + 1 := by have := congrArg List.length e; simpa [upto_length] using this
  subst hl
  rw [upto_succ] at e
  have h2 := List.append_inj' e rfl
  have hx : x = (ini.length, slW f len ini.length, ((slL len ini.length : Nat) : Int)) := by simpa using h2.2.symm
  subst hx
  have hi : ini.length < cnt len := by omega
  simp [fitsAt, ofV, hi]

set_option maxRecDepth 100000 in
set_option maxHeartbeats 4000000 in
theorem once_law (a : Option Addr) (la ca : Nat) (fa : Nat → Int) (most : Int) (hfa : Fits fa) (hla : la ≤ 1048576) (hca : la ≤ ca) (w : World) (hA : Bts w a la fa) :
    Calls Try.prog 14 #[.slice a la ca, .int .i64 most] w fun e W' => e = .returned (.bool true) ∧ Below w.heap.size w W' := by
  have hcla : cnt la ≤ 1048577 := by unfold cnt; omega
  refine (callsIn_wide (n := 6)).1 ?_
  refine callsIn_of_wp_marks Try.func14 rfl trivial ?_ rfl
  simp only [Try.ntmps14, List.size_toArray, List.length_cons, List.length_nil, Nat.reduceAdd, Nat.reduceSub, Array.replicate_succ, Array.replicate_zero, List.push_toArray, List.append_toArray, List.nil_append, List.cons_append]
  have hnf := hnf1
  have HA := Lib.hid hA
  clear hA
  gi_wp2_with fail
  refine ⟨trivial, ?_⟩
  refine (callsIn_wide.2 (all_in _ _ _ _)).mono ?_
  rintro e w' ⟨rfl, rfl⟩
  gi_wp2_with fail
  have hbw : Below w.heap.size w (((((w.alloc (.cells #[.slice a la ca] 22)).alloc (.cells #[.int .i64 most] 3)).alloc (.cells #[.bool false] 4)).alloc (.cells #[.int .i64 0] 3)).alloc (.cells #[.slice a la ca] 22)) := (((((Below.refl _ w).alloc (Nat.le_refl _) _).alloc (by simp) _).alloc (by simp; omega) _).alloc (by simp; omega) _).alloc (by simp; omega) _
  have bB := ((((Boxed.new w 22 (.slice a la ca)).alloc (.cells #[.int .i64 most] 3)).alloc (.cells #[.bool false] 4)).alloc (.cells #[.int .i64 0] 3)).alloc (.cells #[.slice a la ca] 22)
  have bM := (((Boxed.new (w.alloc (.cells #[.slice a la ca] 22)) 3 (.int .i64 most)).alloc (.cells #[.bool false] 4)).alloc (.cells #[.int .i64 0] 3)).alloc (.cells #[.slice a la ca] 22)
  have bR := ((Boxed.new ((w.alloc (.cells #[.slice a la ca] 22)).alloc (.cells #[.int .i64 most] 3)) 4 (.bool false)).alloc (.cells #[.int .i64 0] 3)).alloc (.cells #[.slice a la ca] 22)
  have bN := (Boxed.new (((w.alloc (.cells #[.slice a la ca] 22)).alloc (.cells #[.int .i64 most] 3)).alloc (.cells #[.bool false] 4)) 3 (.int .i64 0)).alloc (.cells #[.slice a la ca] 22)
  have bA := Boxed.new ((((w.alloc (.cells #[.slice a la ca] 22)).alloc (.cells #[.int .i64 most] 3)).alloc (.cells #[.bool false] 4)).alloc (.cells #[.int .i64 0] 3)) 22 (.slice a la ca)
  simp only [World.size_alloc] at bM bR bA bN
  have hsz : (((((w.alloc (.cells #[.slice a la ca] 22)).alloc (.cells #[.int .i64 most] 3)).alloc (.cells #[.bool false] 4)).alloc (.cells #[.int .i64 0] 3)).alloc (.cells #[.slice a la ca] 22)).heap.size = w.heap.size + 5 := by simp
  obtain ⟨W0, hW0⟩ : ∃ W0, ((((w.alloc (.cells #[.slice a la ca] 22)).alloc (.cells #[.int .i64 most] 3)).alloc (.cells #[.bool false] 4)).alloc (.cells #[.int .i64 0] 3)).alloc (.cells #[.slice a la ca] 22) = W0 := ⟨_, rfl⟩
  rw [hW0] at bB bM bR bA bN hbw hsz ⊢
  clear hW0
  refine wpIn_rangeFunc_ownH rfl (by omega) (gf := 32) (lb := #[.pointer (some ⟨w.heap.size + 1 + 1 + 1 + 1, 0, none⟩)]) rfl trivial (enters_of Try.func32 (by kernel_rfl) rfl)
    (all_stops 5 (by omega) (w.heap.size + 1 + 1 + 1 + 1) (w.heap.size + 1 + 1 + 1) la ca a fa hfa hla W0 (by omega) (by omega) bA.cell (HA.out.below hbw)) KC.trans (fun W l o o' _ h hc _ => KC.put W l o o' h hc) (Below.refl _ _) (fun _ => rfl)
    (fun pre W => ((∃ m : Nat, m = pre.length ∧ Boxed W (w.heap.size + 1 + 1 + 1) 3 (.int .i64 m)) ∧ Boxed W (w.heap.size + 1 + 1) 4 (.bool false) ∧ Boxed W (w.heap.size + 1) 3 (.int .i64 most) ∧ Boxed W w.heap.size 22 (.slice a la ca)) ∧ Below w.heap.size w W)
    (fun c pre W => ((c = .ret ∧ ∃ ini x, pre = ini ++ [x] ∧ (fitsAt fa la ini.length x → Boxed W (w.heap.size + 1 + 1) 4 (.bool true))) ∧ Below w.heap.size w W))
    (OwnFrom.and (Own.from (fun s X Y row hs hg hr => by obtain ⟨⟨m, em, hm⟩, h1, h2, h3⟩ := hs; exact ⟨⟨m, em, boxed_own _ 3 (fun (_ : Unit) => Value.int .i64 m) () X Y row hm hg hr⟩, boxed_own _ 4 (fun (_ : Unit) => Value.bool false) () X Y row h1 hg hr, boxed_own _ 3 (fun (_ : Unit) => Value.int .i64 most) () X Y row h2 hg hr, boxed_own _ 22 (fun (_ : Unit) => Value.slice a la ca) () X Y row h3 hg hr⟩) _) (ownFrom_below (Nat.le_refl _) (by omega)))
    (fun c => OwnFrom.and (Own.from (fun s X Y row hs hg hr => by obtain ⟨e0, ini, x, e1, e2⟩ := hs; exact ⟨e0, ini, x, e1, fun hx => boxed_own _ 4 (fun (_ : Unit) => Value.bool true) () X Y row (e2 hx) hg hr⟩) _) (ownFrom_below (Nat.le_refl _) (by omega)))
    ⟨⟨⟨0, by simp, bN⟩, bR, bM, bB⟩, hbw⟩
    (fun x a' W => ∃ Bx, w.heap.size + 1 + 1 + 1 < Bx ∧ Box2 W Bx x.2.1 x.2.2 ∧ a' = { tmps := #[.slice a la ca, .int .i64 most, .pointer (some ⟨w.heap.size, 0, none⟩), .pointer (some ⟨w.heap.size + 1, 0, none⟩), .pointer (some ⟨w.heap.size + 1 + 1, 0, none⟩), .pointer (some ⟨w.heap.size + 1 + 1 + 1, 0, none⟩), .func (.func 32) #[] #[.pointer (some ⟨w.heap.size + 1 + 1 + 1 + 1, 0, none⟩)], .int .i64 (x.1 : Int), .pointer (some ⟨Bx, 0, none⟩), undef, undef, .slice a la ca, .func (.func 32) #[] #[.pointer (some ⟨w.heap.size + 1 + 1 + 1 + 1, 0, none⟩)], .func (.func 32) #[] #[.pointer (some ⟨w.heap.size + 1 + 1 + 1 + 1, 0, none⟩)], .bool false, .func (.func 32) #[] #[.pointer (some ⟨w.heap.size + 1 + 1 + 1 + 1, 0, none⟩)], .int .i64 (x.1 : Int), .agg #[.int .u64 x.2.1, .int .i64 x.2.2], undef, undef, undef, undef, undef, undef, undef, undef, undef, undef, undef, undef, undef, undef, undef, undef, undef, undef, undef, undef, undef, undef, undef, undef, undef, undef, undef], defers := [] })
    (fun x a' _ X Y row hs hg hr => by obtain ⟨Bx, h1, h2, h3⟩ := hs; exact ⟨Bx, h1, h2.own hg (fun r e => (hr r e).2), h3⟩)
    ?assign ?body ?done ?stop
  case assign =>
    rintro l pre x W K ⟨⟨⟨m, em, bN1⟩, bR1, bM1, bB1⟩, hB1⟩ hK
    dsimp only [encs]
    gi_wp2
    exact hK _ _ ((KeepsOthers.alloc _ _).from _) (KC.below ((Below.refl _ W).alloc (Nat.le_refl _) _)) ⟨⟨⟨m, em, bN1.alloc _⟩, bR1.alloc _, bM1.alloc _, bB1.alloc _⟩, hB1.alloc hB1.size _⟩ ⟨W.heap.size, bN1.lt, World.alloc_heap_new _ _, rfl⟩
  case body =>
    rintro l pre x a' W hl _ ⟨⟨⟨m, em, bN1⟩, bR1, bM1, bB1⟩, hB1⟩ ⟨Bx, hBx, bX, rfl⟩ hlt
    have cB := bB1.cell
    have cN0 := bN1.cell
    replace em := Lib.hid em
    gi_wp2_with fail
    refine ⟨trivial, ?_⟩
    refine (CallsIn.inRound l (callsIn_wide.2 (refof_any a la ca fa m hla hca _ hfa (HA.out.below hB1)))).mono ?_
    rintro e W1 ⟨rfl, B1⟩
    have bX1 := bX.below B1
    have c0 := bX1.c0
    have c1 := bX1.c1
    have l1 := bX1.lt
    have hB2 : Below w.heap.size w (W1.alloc (.cells #[.int .u64 (ofV fa la m).1, .int .i64 (ofV fa la m).2.1] 26)) := (step_below hB1 B1).alloc (Nat.le_trans hB1.size B1.size) _
    have bR2 := boxed_below (boxed_below bR1 B1) ((Below.refl _ W1).alloc (Nat.le_refl _) (.cells #[.int .u64 (ofV fa la m).1, .int .i64 (ofV fa la m).2.1] 26))
    have bN2 := boxed_below (boxed_below bN1 B1) ((Below.refl _ W1).alloc (Nat.le_refl _) (.cells #[.int .u64 (ofV fa la m).1, .int .i64 (ofV fa la m).2.1] 26))
    have bM2 := boxed_below (boxed_below bM1 B1) ((Below.refl _ W1).alloc (Nat.le_refl _) (.cells #[.int .u64 (ofV fa la m).1, .int .i64 (ofV fa la m).2.1] 26))
    have bB2 := boxed_below (boxed_below bB1 B1) ((Below.refl _ W1).alloc (Nat.le_refl _) (.cells #[.int .u64 (ofV fa la m).1, .int .i64 (ofV fa la m).2.1] 26))
    have B12 : Below W.heap.size W (W1.alloc (.cells #[.int .u64 (ofV fa la m).1, .int .i64 (ofV fa la m).2.1] 26)) := B1.alloc B1.size _
    clear bX1 bR1 bB1 bN1 bM1 B1 cB cN0 bX
    have cR := bR2.cell
    have fR := bR2.frozen
    have cN := bN2.cell
    have fN := bN2.frozen
    have cM := bM2.cell
    have hm2 := Lib.hid (show m < 1048577 by have := em.out; omega)
    by_cases q0 : (ofV fa la m).2.2 = 0
    · by_cases q1 : x.1 = m
      · by_cases q2 : x.2.1 = (ofV fa la m).1
        · by_cases q3 : x.2.2 = (ofV fa la m).2.1
          · have hq : fitsAt fa la m x := ⟨q0, q1, q2, q3⟩
            have t0 : ((ofV fa la m).2.2 != 0) = false := by rw [q0]; rfl
            have t1 : ((x.1 : Int) != (m : Int)) = false := by rw [q1]; simp
            have HQ := Lib.hid hq
            have Q1 := Lib.hid q1
            have hm4 : (m : Int) ≤ 1048577 := by have := hm2.out; omega
            have hm5 : 0 ≤ (m : Int) := by omega
            rw [q2] at c0
            rw [q3] at c1
            rw [q2, q3]
            clear hq q1 q2 q3
            by_cases q5 : (m : Int) + 1 = most
            · have t5 : ((m : Int) + 1 == most) = true := by simpa using q5
              have Q5 := Lib.hid q5
              clear q5
              gi_wp2
              exact ⟨((KeepsFrom.of_grownBy (grown_of_below B12) (fun j e => by cases e)).trans ((KeepsOthers.setCell _ _ _).from _)).trans ((KeepsOthers.setCell _ _ _).from _),
                ⟨rfl, pre, x, rfl, fun _ => (bR2.other (by omega) _).set _⟩, (hB2.setCell (p := ⟨w.heap.size + 1 + 1 + 1, 0, none⟩) (by simp; omega) _).setCell (p := ⟨w.heap.size + 1 + 1, 0, none⟩) (by simp; omega) _⟩
            · have t5 : ((m : Int) + 1 == most) = false := by simpa using q5
              have Q5 := Lib.hid q5
              clear q5
              gi_wp2
              exact ⟨(KeepsFrom.of_grownBy (grown_of_below B12) (fun j e => by cases e)).trans ((KeepsOthers.setCell _ _ _).from _), (KC.below B12).trans (KC.of_grown (grownBy_setCell' _ _ _)),
                ⟨⟨m + 1, by simp [em.out], bN2.set _⟩, bR2.other (by omega) _, bM2.other (by omega) _, bB2.other (by omega) _⟩, hB2.setCell (p := ⟨w.heap.size + 1 + 1 + 1, 0, none⟩) (by simp; omega) _⟩
          · have t0 : ((ofV fa la m).2.2 != 0) = false := by rw [q0]; rfl
            have t1 : ((x.1 : Int) != (m : Int)) = false := by rw [q1]; simp
            have t3 : (x.2.2 == (ofV fa la m).2.1) = false := by simpa using q3
            have t4 : (x.2.2 != (ofV fa la m).2.1) = true := by simpa using q3
            have Q1 := Lib.hid q1
            clear q1
            gi_wp2
            exact ⟨(KeepsFrom.of_grownBy (grown_of_below B12) (fun j e => by cases e)).trans ((KeepsOthers.setCell _ _ _).from _),
              ⟨rfl, pre, x, rfl, fun h => absurd h (fun h => q3 (em.out ▸ h.2.2.2))⟩, hB2.setCell (p := ⟨w.heap.size + 1 + 1, 0, none⟩) (by simp; omega) _⟩
        · have t0 : ((ofV fa la m).2.2 != 0) = false := by rw [q0]; rfl
          have t1 : ((x.1 : Int) != (m : Int)) = false := by rw [q1]; simp
          have t3 : (x.2.1 == (ofV fa la m).1) = false := by simpa using q2
          have t4 : (x.2.1 != (ofV fa la m).1) = true := by simpa using q2
          have Q1 := Lib.hid q1
          clear q1
          gi_wp2
          exact ⟨(KeepsFrom.of_grownBy (grown_of_below B12) (fun j e => by cases e)).trans ((KeepsOthers.setCell _ _ _).from _),
            ⟨rfl, pre, x, rfl, fun h => absurd h (fun h => q2 (em.out ▸ h.2.2.1))⟩, hB2.setCell (p := ⟨w.heap.size + 1 + 1, 0, none⟩) (by simp; omega) _⟩
      · have t0 : ((ofV fa la m).2.2 != 0) = false := by rw [q0]; rfl
        have t1 : ((x.1 : Int) != (m : Int)) = true := by simp; omega
        gi_wp2
        exact ⟨(KeepsFrom.of_grownBy (grown_of_below B12) (fun j e => by cases e)).trans ((KeepsOthers.setCell _ _ _).from _),
          ⟨rfl, pre, x, rfl, fun h => absurd h (fun h => q1 (em.out ▸ h.2.1))⟩, hB2.setCell (p := ⟨w.heap.size + 1 + 1, 0, none⟩) (by simp; omega) _⟩
    · have t0 : ((ofV fa la m).2.2 != 0) = true := by simpa using q0
      gi_wp2
      exact ⟨(KeepsFrom.of_grownBy (grown_of_below B12) (fun j e => by cases e)).trans ((KeepsOthers.setCell _ _ _).from _),
        ⟨rfl, pre, x, rfl, fun h => absurd h (fun h => q0 (em.out ▸ h.1))⟩, hB2.setCell (p := ⟨w.heap.size + 1 + 1, 0, none⟩) (by simp; omega) _⟩
  case done =>
    rintro D zs W hD rfl ⟨⟨⟨m, em, bN1⟩, bR1, bM1, bB1⟩, hB1⟩ hK
    rw [upto_length] at em
    have cN := bN1.cell
    have cB := bB1.cell
    have cR := bR1.cell
    have fR := bR1.frozen
    replace em := Lib.hid em
    gi_wp2_with fail
    have hpost := Lib.hid (show True from trivial)
    have hmx : Try.prog.follows .mixedOrders = true := by kernel_rfl
    refine wpIn_wide.2 ?_
    go_still_tail 4, (by kernel_rfl)
    still_call (qsame8 (refcount a la ca hla _))
    repeat still_step
    refine wpStill_nil ?_
    change wpList _ _ _ _ _ W.drew
    have bR2 : Boxed W.drew (w.heap.size + 1 + 1) 4 (.bool false) := bR1
    have hB2 : Below w.heap.size w W.drew := hB1.drew
    have hK2 : W.drew.heap[D]? = some (.deferred (some [])) := hK
    rw [em.out]
    clear cN cB cR fR bN1 bR1 bM1 bB1 hB1 hK
    generalize W.drew = W2 at bR2 hB2 hK2 ⊢
    have cR := bR2.cell
    have fR := bR2.frozen
    go_wp2
    gi_wp2
    have hK' := (KeepsOthers.setCell W2 ⟨w.heap.size + 1 + 1, 0, none⟩ (.bool true)).same D _ hK2 rfl
    refine ⟨by simp, .inl ⟨_, _, rfl, run_takeDeferred hK', ?_⟩⟩
    have hc5 := cell_kept (bR2.set (.bool true)).cell (grownBy_putObj' _ D (.deferred none)) (fun r e => by cases e; exact ⟨_, hK', rfl⟩)
    refine ⟨.bool true, ?_, rfl, (hB2.setCell (p := ⟨w.heap.size + 1 + 1, 0, none⟩) (by simp; omega) _).trans (belowK_b (w := w) (Nat.le_refl _) _ D _ _ (by omega) hK' rfl rfl)⟩
    simp [results, Try.f14, go_sem, hc5]
  case stop =>
    rintro D c pre W hD ⟨k, hk, rfl⟩ ⟨⟨rfl, ini, x, e1, e2⟩, hB1⟩ hK
    have bR1 := e2 (fitsAt_upto fa la k hk ini x e1)
    have cR := bR1.cell
    gi_wp2
    refine ⟨by simp, .inl ⟨_, _, rfl, run_takeDeferred hK, ?_⟩⟩
    have hc5 := cell_kept bR1.cell (grownBy_putObj' _ D (.deferred none)) (fun r e => by cases e; exact ⟨_, hK, rfl⟩)
    refine ⟨.bool true, ?_, rfl, hB1.trans (belowK_b (w := w) (Nat.le_refl _) W D _ _ (by omega) hK rfl rfl)⟩
    simp [results, Try.f14, go_sem, hc5]

end Go.Proofs.Ytagkomamphbdgaa
