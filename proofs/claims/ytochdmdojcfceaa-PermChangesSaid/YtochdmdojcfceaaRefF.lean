/- A perm's places gone over once, up to a number of them: by a contract. -/
import Derived.Test.YtochdmdojcfceaaRefE
namespace Go.Proofs.Ytochdmdojcfceaa
open Go.ChangeShapes Go.WideShapes Go.ChangeAt Go.RowKit Go.Shelf
open PM
set_option linter.unusedVariables false
set_option linter.unusedSimpArgs false
attribute [local go_sem] Oper.semAt_some

theorem hnf9 (f : Fn) (c1 c2 : Array Value) (w : World) : (binOp .eql 69 (.func f c1 c2) .nilFunc).run Try.prog w = .ok (.bool false) w := by
  first | rfl | simp [binOp, run_underlying Try.underlying69] | simp [binOp, Op.equal, run_underlying Try.underlying69, go_sem]
def fitsAt (l : List Nat) (m : Nat) (x : Pl) : Prop := x.1 = m ∧ x.2 = l.getD m 0
theorem fitsAt_upl (l : List Nat) (k : Nat) (ini : List Pl) (x : Pl) (e : upl l k = ini ++ [x]) : fitsAt l ini.length x := by
  have hl : k = ini.length + 1 := by have := congrArg List.length e; simpa [upl_length] using this
  subst hl
  rw [upl_succ] at e
  have h2 := List.append_inj' e rfl
  have hx : x = (ini.length, l.getD ini.length 0) := by simpa using h2.2.symm
  subst hx
  exact ⟨rfl, rfl⟩

set_option maxRecDepth 100000 in
set_option maxHeartbeats 4000000 in
theorem once_law (n : Nat) (l : List Nat) (h : Wrd n l) (c : Nat) (hc : cV n l = c) (a : Option Addr) (cap : Nat) (most : Int) (w : World) (hR : Rd w a (ints (usV n l))) :
    Calls Try.prog 22 #[.int .u64 ((enc (n :: l) : Nat) : Int), .slice a c cap, .int .i64 most] w fun e W' => e = .returned (.bool true) ∧ Below w.heap.size w W' := by
  have hc15 : c ≤ 15 := by rw [← hc]; exact cV_le h
  have hcell : ∀ k < c, ∃ g off, a = some ⟨g, off, none⟩ ∧ w.cell? ⟨g, off + k, none⟩ = some (.int .i64 ((l.getD k 0 : Nat) : Int)) := fun k hk => by
    have hl : k < (usV n l).length := by rw [usV_length, hc]; exact hk
    obtain ⟨g, off, e, hcc⟩ := hR k (by rw [ints_length]; exact hl)
    refine ⟨g, off, e, ?_⟩
    rw [hcc, ints_get _ k hl]
    congr 3
    simp [usV, upl, List.getD, hc, hk]
  have HC := Lib.hid hcell
  have HCV := Lib.hid hc
  refine (callsIn_wide (n := 6)).1 ?_
  refine callsIn_of_wp_marks Try.func22 rfl trivial ?_ rfl
  simp only [Try.ntmps22, List.size_toArray, List.length_cons, List.length_nil, Nat.reduceAdd, Nat.reduceSub, Array.replicate_succ, Array.replicate_zero, List.push_toArray, List.append_toArray, List.nil_append, List.cons_append]
  have hnf := hnf9
  clear hR hcell hc
  gi_wp2_with fail
  refine ⟨trivial, ?_⟩
  refine (callsIn_wide.2 (all_in _ _)).mono ?_
  rintro e w' ⟨rfl, rfl⟩
  gi_wp2_with fail
  have hbw : Below w.heap.size w (((((w.alloc (.cells #[.slice a c cap] 23)).alloc (.cells #[.int .i64 most] 3)).alloc (.cells #[.bool false] 4)).alloc (.cells #[.int .i64 0] 3)).alloc (.cells #[.int .u64 ((enc (n :: l) : Nat) : Int)] 22)) := (((((Below.refl _ w).alloc (Nat.le_refl _) _).alloc (by simp) _).alloc (by simp; omega) _).alloc (by simp; omega) _).alloc (by simp; omega) _
  have bB := (((((Boxed.new w 23 (.slice a c cap)).alloc (.cells #[.int .i64 most] 3)).alloc (.cells #[.bool false] 4)).alloc (.cells #[.int .i64 0] 3)).alloc (.cells #[.int .u64 ((enc (n :: l) : Nat) : Int)] 22))
  have bM := ((((Boxed.new (w.alloc (.cells #[.slice a c cap] 23)) 3 (.int .i64 most)).alloc (.cells #[.bool false] 4)).alloc (.cells #[.int .i64 0] 3)).alloc (.cells #[.int .u64 ((enc (n :: l) : Nat) : Int)] 22))
  have bR := (((Boxed.new ((w.alloc (.cells #[.slice a c cap] 23)).alloc (.cells #[.int .i64 most] 3)) 4 (.bool false)).alloc (.cells #[.int .i64 0] 3)).alloc (.cells #[.int .u64 ((enc (n :: l) : Nat) : Int)] 22))
  have bN := ((Boxed.new (((w.alloc (.cells #[.slice a c cap] 23)).alloc (.cells #[.int .i64 most] 3)).alloc (.cells #[.bool false] 4)) 3 (.int .i64 0)).alloc (.cells #[.int .u64 ((enc (n :: l) : Nat) : Int)] 22))
  have bA := (Boxed.new ((((w.alloc (.cells #[.slice a c cap] 23)).alloc (.cells #[.int .i64 most] 3)).alloc (.cells #[.bool false] 4)).alloc (.cells #[.int .i64 0] 3)) 22 (.int .u64 ((enc (n :: l) : Nat) : Int)))
  simp only [World.size_alloc] at bM bR bA bN
  have hsz : (((((w.alloc (.cells #[.slice a c cap] 23)).alloc (.cells #[.int .i64 most] 3)).alloc (.cells #[.bool false] 4)).alloc (.cells #[.int .i64 0] 3)).alloc (.cells #[.int .u64 ((enc (n :: l) : Nat) : Int)] 22)).heap.size = w.heap.size + 5 := by simp
  obtain ⟨W0, hW0⟩ : ∃ W0, (((((w.alloc (.cells #[.slice a c cap] 23)).alloc (.cells #[.int .i64 most] 3)).alloc (.cells #[.bool false] 4)).alloc (.cells #[.int .i64 0] 3)).alloc (.cells #[.int .u64 ((enc (n :: l) : Nat) : Int)] 22)) = W0 := ⟨_, rfl⟩
  rw [hW0] at bB bM bR bA bN hbw hsz ⊢
  clear hW0
  refine wpIn_rangeFunc_ownH rfl (by omega) (gf := 36) (lb := #[.pointer (some ⟨w.heap.size + 1 + 1 + 1 + 1, 0, none⟩)]) rfl trivial (enters_of Try.func36 (by kernel_rfl) rfl)
    (all_stops 5 (by omega) (w.heap.size + 1 + 1 + 1 + 1) n l h W0 bA) KB.trans (fun W l o o' _ h hc _ => KB.put W l o o' h hc) (Below.refl _ _) (fun _ => rfl)
    (fun pre W => ((∃ m : Nat, m = pre.length ∧ Boxed W (w.heap.size + 1 + 1 + 1) 3 (.int .i64 m)) ∧ Boxed W (w.heap.size + 1 + 1) 4 (.bool false) ∧ Boxed W (w.heap.size + 1) 3 (.int .i64 most) ∧ Boxed W w.heap.size 23 (.slice a c cap)) ∧ Below w.heap.size w W)
    (fun q pre W => ((q = .ret ∧ ∃ ini x, pre = ini ++ [x] ∧ (fitsAt l ini.length x → Boxed W (w.heap.size + 1 + 1) 4 (.bool true))) ∧ Below w.heap.size w W))
    (OwnFrom.and (Own.from (fun s X Y row hs hg hr => by obtain ⟨⟨m, em, hm⟩, h1, h2, h3⟩ := hs; exact ⟨⟨m, em, boxed_own _ 3 (fun (_ : Unit) => Value.int .i64 m) () X Y row hm hg hr⟩, boxed_own _ 4 (fun (_ : Unit) => Value.bool false) () X Y row h1 hg hr, boxed_own _ 3 (fun (_ : Unit) => Value.int .i64 most) () X Y row h2 hg hr, boxed_own _ 23 (fun (_ : Unit) => Value.slice a c cap) () X Y row h3 hg hr⟩) _) (ownFrom_below (Nat.le_refl _) (by omega)))
    (fun q => OwnFrom.and (Own.from (fun s X Y row hs hg hr => by obtain ⟨e0, ini, x, e1, e2⟩ := hs; exact ⟨e0, ini, x, e1, fun hx => boxed_own _ 4 (fun (_ : Unit) => Value.bool true) () X Y row (e2 hx) hg hr⟩) _) (ownFrom_below (Nat.le_refl _) (by omega)))
    ⟨⟨⟨0, by simp, bN⟩, bR, bM, bB⟩, hbw⟩
    (fun x a' W => a' = { tmps := #[.int .u64 ((enc (n :: l) : Nat) : Int), .slice a c cap, .int .i64 most, undef, .pointer (some ⟨w.heap.size, 0, none⟩), .pointer (some ⟨w.heap.size + 1, 0, none⟩), .pointer (some ⟨w.heap.size + 1 + 1, 0, none⟩), .pointer (some ⟨w.heap.size + 1 + 1 + 1, 0, none⟩), .func (.func 36) #[] #[.pointer (some ⟨w.heap.size + 1 + 1 + 1 + 1, 0, none⟩)], .int .i64 (x.1 : Int), .int .i64 (x.2 : Int), .int .u64 ((enc (n :: l) : Nat) : Int), .func (.func 36) #[] #[.pointer (some ⟨w.heap.size + 1 + 1 + 1 + 1, 0, none⟩)], .func (.func 36) #[] #[.pointer (some ⟨w.heap.size + 1 + 1 + 1 + 1, 0, none⟩)], .bool false, .func (.func 36) #[] #[.pointer (some ⟨w.heap.size + 1 + 1 + 1 + 1, 0, none⟩)], .int .i64 (x.1 : Int), .int .i64 (x.2 : Int), undef, undef, undef, undef, undef, undef, undef, undef, undef, undef, undef, undef, undef, undef, undef, undef, undef, undef, undef, undef, undef, undef, undef, undef, undef, undef], defers := [] })
    (fun x a' _ X Y row hs hg hr => hs)
    ?assign ?body ?done ?stop
  case assign =>
    rintro lp pre x W K hI hK
    dsimp only [encs]
    gi_wp2
    exact hK _ _ ((KeepsOthers.refl _).from _) ⟨Nat.le_refl _, fun hb => hb⟩ hI rfl
  case body =>
    rintro lp pre x a' W hl _ ⟨⟨⟨m, em, bN1⟩, bR1, bM1, bB1⟩, hB1⟩ rfl hlt
    rw [HCV.out] at hlt
    have hmc : m < c := by omega
    obtain ⟨g, off, rfl, hcl⟩ := HC.out m hmc
    have hgl : g < w.heap.size := World.block_lt_of_cell? w _ hcl
    have cE := (hB1.cell (p := ⟨g, off + m, none⟩) hgl).trans hcl
    have cB := bB1.cell
    have cN := bN1.cell
    have fN := bN1.frozen
    have cM := bM1.cell
    have cR := bR1.cell
    have fR := bR1.frozen
    replace em := Lib.hid em
    obtain ⟨y, hy⟩ : ∃ y, l.getD m 0 = y := ⟨_, rfl⟩
    rw [hy] at cE
    have HY := Lib.hid hy
    clear hy hcl
    have hmi : (m : Int) < (c : Int) := by omega
    have hmn : ¬ (c : Int) ≤ (m : Int) := by omega
    have hm15 : (m : Int) ≤ 14 := by omega
    by_cases q1 : x.1 = m
    · have t1 : ((x.1 : Int) != (m : Int)) = false := by rw [q1]; simp
      have Q1 := Lib.hid q1
      clear q1
      by_cases q2 : x.2 = y
      · have t2 : ((x.2 : Int) != (y : Int)) = false := by rw [q2]; simp
        have Q2 := Lib.hid q2
        clear q2
        by_cases q5 : (m : Int) + 1 = most
        · have t5 : ((m : Int) + 1 == most) = true := by simpa using q5
          have Q5 := Lib.hid q5
          clear q5
          gi_wp2
          exact ⟨((KeepsOthers.setCell _ _ _).from _).trans ((KeepsOthers.setCell _ _ _).from _),
            ⟨rfl, pre, x.1, x.2, rfl, fun _ => (bR1.other (by omega) _).set _⟩, (hB1.setCell (p := ⟨w.heap.size + 1 + 1 + 1, 0, none⟩) (by simp; omega) _).setCell (p := ⟨w.heap.size + 1 + 1, 0, none⟩) (by simp; omega) _⟩
        · have t5 : ((m : Int) + 1 == most) = false := by simpa using q5
          have Q5 := Lib.hid q5
          clear q5
          gi_wp2
          refine ⟨(KeepsOthers.setCell _ _ _).from _, KB.grown (grownBy_setCell' _ _ _) (by simp),
            ⟨?_, bR1.other (by omega) _, bM1.other (by omega) _, bB1.other (by omega) _⟩, hB1.setCell (p := ⟨w.heap.size + 1 + 1 + 1, 0, none⟩) (by simp; omega) _⟩
          have hb := bN1.set (.int .i64 ((m : Int) + 1))
          have hem := em.out
          have e : (((pre ++ [x]).length : Nat) : Int) = (m : Int) + 1 := by rw [List.length_append, List.length_singleton]; omega
          rw [e]
          exact hb
      · have t2 : ((x.2 : Int) != (y : Int)) = true := by simp; omega
        have Q2 := Lib.hid q2
        clear q2
        gi_wp2
        exact ⟨(KeepsOthers.setCell _ _ _).from _, ⟨rfl, pre, x.1, x.2, rfl, fun h => absurd h (fun h => Q2.out (by rw [← HY.out, em.out]; exact h.2))⟩, hB1.setCell (p := ⟨w.heap.size + 1 + 1, 0, none⟩) (by simp; omega) _⟩
    · have t1 : ((x.1 : Int) != (m : Int)) = true := by simp; omega
      have Q1 := Lib.hid q1
      clear q1
      gi_wp2
      exact ⟨(KeepsOthers.setCell _ _ _).from _, ⟨rfl, pre, x.1, x.2, rfl, fun h => absurd h (fun h => Q1.out (em.out ▸ h.1))⟩, hB1.setCell (p := ⟨w.heap.size + 1 + 1, 0, none⟩) (by simp; omega) _⟩
  case done =>
    rintro D zs W hD rfl ⟨⟨⟨m, em, bN1⟩, bR1, bM1, bB1⟩, hB1⟩ hK
    rw [upl_length, HCV.out] at em
    subst em
    have cN := bN1.cell
    have cB := bB1.cell
    have cR := bR1.cell
    have fR := bR1.frozen
    gi_wp2
    have hK' := (KeepsOthers.setCell W ⟨w.heap.size + 1 + 1, 0, none⟩ (.bool true)).same D _ hK rfl
    refine ⟨by simp, .inl ⟨_, _, rfl, run_takeDeferred hK', ?_⟩⟩
    have hc5 := cell_kept (bR1.set (.bool true)).cell (grownBy_putObj' _ D (.deferred none)) (fun r e => by cases e; exact ⟨_, hK', rfl⟩)
    refine ⟨.bool true, ?_, rfl, (hB1.setCell (p := ⟨w.heap.size + 1 + 1, 0, none⟩) (by simp; omega) _).trans (belowK_b (w := w) (Nat.le_refl _) _ D _ _ (by omega) hK' rfl rfl)⟩
    simp [results, Try.f22, go_sem, hc5]
  case stop =>
    rintro D q pre W hD ⟨k, hk, rfl⟩ ⟨⟨rfl, ini, x, e1, e2⟩, hB1⟩ hK
    have bR1 := e2 (fitsAt_upl l k ini x e1)
    have cR := bR1.cell
    gi_wp2
    refine ⟨by simp, .inl ⟨_, _, rfl, run_takeDeferred hK, ?_⟩⟩
    have hc5 := cell_kept bR1.cell (grownBy_putObj' _ D (.deferred none)) (fun r e => by cases e; exact ⟨_, hK, rfl⟩)
    refine ⟨.bool true, ?_, rfl, hB1.trans (belowK_b (w := w) (Nat.le_refl _) W D _ _ (by omega) hK rfl rfl)⟩
    simp [results, Try.f22, go_sem, hc5]
end Go.Proofs.Ytochdmdojcfceaa
