/- A tree's number, and what a tree is: by contracts. -/
import Derived.Test.YtkgcbhpgkcfkhaaCjf
import Derived.Test.YtkgcbhpgkcfkhaaCjg
import Derived.Test.YtkgcbhpgkcfkhaaCjq
namespace Go.Proofs.Ytkgcbhpgkcfkhaa
open Go.ChangeShapes Go.WideShapes Go.ChangeAt Go.RowKit Go.Shelf
set_option linter.unusedVariables false
set_option linter.unusedSimpArgs false

/-- The tree of a table's index. -/
def trV (j : Job) (a b : Int) : Int × Int × Int × Bool := firstV (fun x : Tr => decide (x.2.1 = a ∧ x.2.2 = b)) (idx 0 (named j))
def ofV (j : Job) (a : Int) : Int × Int × Int × Bool := firstV (fun x : Tr => decide ((x.1 : Int) = a)) (idx 0 (named j))
theorem firstV_off {p : Tr → Bool} : ∀ {l : List Tr}, (firstV p l).2.2.2 = false → firstV p l = (0, 0, 0, false)
  | [], _ => rfl
  | x :: r, h => by
    rw [firstV] at h ⊢
    by_cases e : p x = true
    · rw [if_pos e] at h; cases h
    · rw [if_neg e] at h ⊢; exact firstV_off h
set_option maxRecDepth 100000 in
set_option maxHeartbeats 4000000 in
theorem tree_law (j : Job) (a b : Int) (w : World) (hj : JobAt w j) :
    Calls Try.prog 40 #[.agg #[.int .i64 j.w, .int .i64 j.l, .int .i64 j.d, .int .i64 j.c, .int .i64 j.k, .int .i64 j.e, .slice j.a j.n j.cap], .int .i64 a, .int .i64 b] w fun r w' => r = .returned (.tuple #[.int .i64 (trV j a b).1, .int .i64 (if (trV j a b).2.2.2 then 0 else 2)]) ∧ Below w.heap.size w w' := by
  have HJ := Lib.hid hj
  have HT := Lib.hid (fun (W : World) (P1 P2 : Nat) (h : JobAt W j) (h1 : Boxed W P1 3 (.int .i64 a)) (h2 : Boxed W P2 3 (.int .i64 b)) => findtree_law j a b P1 P2 W h h1 h2)
  rw [show firstV (fun x : Tr => decide (x.2.1 = a ∧ x.2.2 = b)) (idx 0 (named j)) = trV j a b from rfl] at HT
  have HZ := Lib.hid (show (trV j a b).2.2.2 = false → trV j a b = (0, 0, 0, false) from fun h => firstV_off h)
  clear hj
  generalize trV j a b = V at HT HZ ⊢
  obtain ⟨k, t, i, ok⟩ := V
  simp only at HT HZ ⊢
  have BW : Below w.heap.size w (((w.alloc (.cells #[.int .i64 j.w, .int .i64 j.l, .int .i64 j.d, .int .i64 j.c, .int .i64 j.k, .int .i64 j.e, .slice j.a j.n j.cap] 53)).alloc (.cells #[.int .i64 a] 3)).alloc (.cells #[.int .i64 b] 3)) := (((Below.refl _ w).alloc (Nat.le_refl _) _).alloc (by simp) _).alloc (by simp; omega) _
  have b1 := (Boxed.new (w.alloc (.cells #[.int .i64 j.w, .int .i64 j.l, .int .i64 j.d, .int .i64 j.c, .int .i64 j.k, .int .i64 j.e, .slice j.a j.n j.cap] 53)) 3 (.int .i64 a)).alloc (.cells #[.int .i64 b] 3)
  have b2 := Boxed.new ((w.alloc (.cells #[.int .i64 j.w, .int .i64 j.l, .int .i64 j.d, .int .i64 j.c, .int .i64 j.k, .int .i64 j.e, .slice j.a j.n j.cap] 53)).alloc (.cells #[.int .i64 a] 3)) 3 (.int .i64 b)
  simp only [World.size_alloc] at b1 b2
  have HW := Lib.hid (HT.out _ _ _ (HJ.out.below BW) b1 b2)
  have HBW := Lib.hid BW
  clear HT b1 b2 BW
  cases ok
  · obtain rfl : k = 0 := by have := HZ.out rfl; simp at this; exact this.1
    simp only [Bool.false_eq_true, ↓reduceIte]
    clear HZ
    go_enter Try.func40, Try.ntmps40
    go_wp2_with fail
    refine HW.out.mono ?_; rintro r w' ⟨rfl, B1⟩
    have HB := Lib.hid (step_below HBW.out B1)
    clear B1
    go_wp2_with fail
    go_ret2
    exact ⟨rfl, HB.out.alloc HB.out.size _⟩
  · simp only [↓reduceIte]
    clear HZ
    go_enter Try.func40, Try.ntmps40
    go_wp2_with fail
    refine HW.out.mono ?_; rintro r w' ⟨rfl, B1⟩
    have HB := Lib.hid (step_below HBW.out B1)
    clear B1
    go_wp2_with fail
    go_ret2
    exact ⟨rfl, HB.out.alloc HB.out.size _⟩
set_option maxRecDepth 100000 in
set_option maxHeartbeats 4000000 in
theorem of_tree (j : Job) (a : Int) (w : World) (hj : JobAt w j) :
    Calls Try.prog 42 #[.agg #[.int .i64 j.w, .int .i64 j.l, .int .i64 j.d, .int .i64 j.c, .int .i64 j.k, .int .i64 j.e, .slice j.a j.n j.cap], .int .i64 a] w fun r w' => r = .returned (.tuple #[.int .i64 (ofV j a).2.1, .int .i64 (ofV j a).2.2.1, .int .i64 (if (ofV j a).2.2.2 then 0 else 2)]) ∧ Below w.heap.size w w' := by
  have HJ := Lib.hid hj
  have HT := Lib.hid (fun (W : World) (P1 : Nat) (h : JobAt W j) (h1 : Boxed W P1 3 (.int .i64 a)) => findof_law j a P1 W h h1)
  rw [show firstV (fun x : Tr => decide ((x.1 : Int) = a)) (idx 0 (named j)) = ofV j a from rfl] at HT
  have HZ := Lib.hid (show (ofV j a).2.2.2 = false → ofV j a = (0, 0, 0, false) from fun h => firstV_off h)
  clear hj
  generalize ofV j a = V at HT HZ ⊢
  obtain ⟨k, t, i, ok⟩ := V
  simp only at HT HZ ⊢
  have BW : Below w.heap.size w ((w.alloc (.cells #[.int .i64 j.w, .int .i64 j.l, .int .i64 j.d, .int .i64 j.c, .int .i64 j.k, .int .i64 j.e, .slice j.a j.n j.cap] 53)).alloc (.cells #[.int .i64 a] 3)) := ((Below.refl _ w).alloc (Nat.le_refl _) _).alloc (by simp) _
  have b1 := Boxed.new (w.alloc (.cells #[.int .i64 j.w, .int .i64 j.l, .int .i64 j.d, .int .i64 j.c, .int .i64 j.k, .int .i64 j.e, .slice j.a j.n j.cap] 53)) 3 (.int .i64 a)
  simp only [World.size_alloc] at b1
  have HW := Lib.hid (HT.out _ _ (HJ.out.below BW) b1)
  have HBW := Lib.hid BW
  clear HT b1 BW
  cases ok
  · obtain ⟨rfl, rfl⟩ : t = 0 ∧ i = 0 := by have := HZ.out rfl; simp at this; exact ⟨this.2.1, this.2.2⟩
    simp only [Bool.false_eq_true, ↓reduceIte]
    clear HZ
    go_enter Try.func42, Try.ntmps42
    go_wp2_with fail
    refine HW.out.mono ?_; rintro r w' ⟨rfl, B1⟩
    have HB := Lib.hid (step_below HBW.out B1)
    clear B1
    go_wp2_with fail
    refine bodyPost_ret (v := .tuple #[.int .i64 0, .int .i64 0, .int .i64 2]) (by simp [results, Try.f42, go_sem]) rfl ⟨rfl, HB.out.alloc HB.out.size _⟩
  · simp only [↓reduceIte]
    clear HZ
    go_enter Try.func42, Try.ntmps42
    go_wp2_with fail
    refine HW.out.mono ?_; rintro r w' ⟨rfl, B1⟩
    have HB := Lib.hid (step_below HBW.out B1)
    clear B1
    go_wp2_with fail
    go_quiet (fail)
    go_wp2_with fail
    refine bodyPost_ret (v := .tuple #[.int .i64 t, .int .i64 i, .int .i64 0]) (by simp [results, Try.f42, go_sem]) rfl ⟨rfl, below_drewN (HB.out.alloc HB.out.size _) _⟩
end Go.Proofs.Ytkgcbhpgkcfkhaa
