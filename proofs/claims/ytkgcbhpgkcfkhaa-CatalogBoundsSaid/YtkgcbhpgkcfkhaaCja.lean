/- Jobs: which may be, by the program and by the reference. -/
import Derived.Test.YtkgcbhpgkcfkhaaKno
import Derived.Deep.CutRange
import Derived.Deep.DeepCutAuto
import Derived.Lib.Hide
import Derived.RangeFuncBox
namespace Go.Proofs.Ytkgcbhpgkcfkhaa
open Go.ChangeShapes Go.WideShapes Go.ChangeAt Go.RowKit
set_option linter.unusedVariables false
set_option linter.unusedSimpArgs false

structure Job where
  w : Int
  l : Int
  d : Int
  c : Int
  k : Int
  e : Int
  a : Option Addr
  n : Nat
  cap : Nat
  T : List Int
def Job.cs (j : Job) : Array Value := #[.int .i64 j.w, .int .i64 j.l, .int .i64 j.d, .int .i64 j.c, .int .i64 j.k, .int .i64 j.e, .slice j.a j.n j.cap]
structure JobAt (W : World) (j : Job) : Prop where
  ls : Ls .i64 W j.a j.cap j.T
  len : j.T.length = j.n
  le : j.n ≤ 1000000
theorem JobAt.below {W W' : World} {j : Job} (h : JobAt W j) (b : Below W.heap.size W W') : JobAt W' j := ⟨h.ls.below b, h.len, h.le⟩
def inB (x a b : Int) : Bool := decide (a ≤ x ∧ x ≤ b)
def hB (j : Job) : Bool := decide (1 ≤ j.w ∧ j.w ≤ 4 ∧ 1 ≤ j.l ∧ j.l ≤ 2 ∧ j.l ≤ j.w ∧ 3 ≤ j.d ∧ j.d ≤ 15 ∧ 1024 ≤ j.c ∧ j.c ≤ 65536 ∧ 1024 ≤ j.k ∧ j.k ≤ 1048576 ∧ 1 ≤ j.e ∧ j.e ≤ 100 ∧ 1 ≤ j.n ∧ j.n ≤ 4)
def tB (T : List Int) : Bool := T.all fun x => inB x 0 2
def okB (j : Job) : Bool := hB j && tB j.T
def chkV (j : Job) : Int := if okB j then 0 else 2
/-- A block of cells. -/
def BoxC (W : World) (B : Nat) (cs : Array Value) (t : TypeId) : Prop := W.heap[B]? = some (.cells cs t (0, 0))
theorem BoxC.below {W W' : World} {B : Nat} {cs : Array Value} {t : TypeId} (h : BoxC W B cs t) (hb : Below W.heap.size W W') : BoxC W' B cs t := (hb.block B (Array.getElem?_eq_some_iff.1 h).1).trans h
theorem BoxC.lt {W : World} {B : Nat} {cs : Array Value} {t : TypeId} (h : BoxC W B cs t) : B < W.heap.size := (Array.getElem?_eq_some_iff.1 h).1
theorem BoxC.cell {W : World} {B : Nat} {cs : Array Value} {t : TypeId} (h : BoxC W B cs t) (i : Nat) : W.cell? ⟨B, i, none⟩ = cs[i]? := by simp [World.cell?, show W.heap[B]? = _ from h]
theorem BoxC.new (W : World) (cs : Array Value) (t : TypeId) : BoxC (W.alloc (.cells cs t)) W.heap.size cs t := World.alloc_heap_new _ _
theorem within_law (x a b : Int) (w : World) : Calls Try.prog 75 #[.int .i64 x, .int .i64 a, .int .i64 b] w fun r w' => r = .returned (.bool (inB x a b)) ∧ w = w' := by
  go_enter Try.func75, Try.ntmps75
  by_cases h1 : a ≤ x
  · go_wp2
    go_ret
    exact ⟨by unfold inB; by_cases h2 : x ≤ b <;> simp [h1, h2], rfl⟩
  · go_wp2
    go_ret
    exact ⟨by rw [show inB x a b = false from decide_eq_false (by omega)]; rfl, rfl⟩
theorem hB_eq (j : Job) : hB j = (inB j.w 1 4 && inB j.l 1 2 && decide (j.l ≤ j.w) && inB j.d 3 15 && inB j.c 1024 65536 && inB j.k 1024 1048576 && inB j.e 1 100 && inB j.n 1 4) := by
  unfold hB inB
  rw [Bool.eq_iff_iff]
  simp
  omega
theorem tB_take {T : List Int} {k : Nat} (hk : k < T.length) : tB (T.take (k + 1)) = (tB (T.take k) && inB (T.getD k 0) 0 2) := by
  rw [take_succ T k hk]
  simp [tB]
theorem tB_false {T : List Int} {k : Nat} (h : tB (T.take k) = false) : tB T = false := by
  by_cases e : tB T = true
  · have : tB (T.take k) = true := by
      simp only [tB, List.all_eq_true] at e ⊢
      exact fun x hx => e x (List.mem_of_mem_take hx)
    rw [h] at this; cases this
  · simpa using e
set_option maxRecDepth 100000 in
set_option maxHeartbeats 4000000 in
theorem check_law (j : Job) (w : World) (hj : JobAt w j) :
    Calls Try.prog 36 #[.agg #[.int .i64 j.w, .int .i64 j.l, .int .i64 j.d, .int .i64 j.c, .int .i64 j.k, .int .i64 j.e, .slice j.a j.n j.cap]] w fun r w' => r = .returned (.int .i64 (chkV j)) ∧ Below w.heap.size w w' := by
  have HJ := Lib.hid hj
  have hle := hj.le
  have hli : (j.n : Int) ≤ 1000000 := by omega
  clear hj
  go_enter Try.func36, Try.ntmps36
  go_upto_region 1 with (fail)
  have hb := BoxC.new w #[.int .i64 j.w, .int .i64 j.l, .int .i64 j.d, .int .i64 j.c, .int .i64 j.k, .int .i64 j.e, .slice j.a j.n j.cap] 53
  have B1 : Below w.heap.size w (w.alloc (.cells #[.int .i64 j.w, .int .i64 j.l, .int .i64 j.d, .int .i64 j.c, .int .i64 j.k, .int .i64 j.e, .slice j.a j.n j.cap] 53)) := (Below.refl _ _).alloc (Nat.le_refl _) _
  generalize w.alloc (.cells #[.int .i64 j.w, .int .i64 j.l, .int .i64 j.d, .int .i64 j.c, .int .i64 j.k, .int .i64 j.e, .slice j.a j.n j.cap] 53) = W1 at hb B1 ⊢
  have c0 := hb.cell 0
  have c1 := hb.cell 1
  have c2 := hb.cell 2
  have c3 := hb.cell 3
  have c4 := hb.cell 4
  have c5 := hb.cell 5
  have c6 := hb.cell 6
  simp only [List.getElem?_toArray, List.getElem?_cons_zero, List.getElem?_cons_succ] at c0 c1 c2 c3 c4 c5 c6
  have HB1 := Lib.hid B1
  have HBX := Lib.hid hb
  clear hb B1
  go_cut [3] (fun v wx => v = .bool (hB j) ∧ W1 = wx)
  case first =>
    go_wp2_with (go_at_call 75; refine (within_law _ _ _ _).mono ?_; rintro e w' ⟨rfl, rfl⟩)
    all_goals
      go_meet
      case rel =>
        refine ⟨?_, rfl⟩
        rw [hB_eq]
        first | (simp [*]; done) | (simp [*]; intro h; omega)
  case rest =>
    obtain ⟨rfl, rfl⟩ := hcut
    obtain ⟨hb, hbe⟩ : ∃ b, hB j = b := ⟨_, rfl⟩
    rw [hbe]
    have HH := Lib.hid hbe
    clear hbe c0 c1 c2 c3 c4 c5
    go_wp2_with fail
    go_loopw [3, 50] (fun v i wr => ∃ k : Nat, k ≤ j.n ∧ i = .int .i64 (k : Int) ∧ v = .bool (hb && tB (j.T.take k)) ∧ W1 = wr) (fun _ i _ => j.n - (intOf i).toNat)
    case atStart => exact ⟨0, by omega, rfl, by simp [tB], rfl⟩
    case round =>
      obtain ⟨k, hk, rfl, rfl, rfl⟩ := hrel
      obtain ⟨bk, hbk⟩ : ∃ b, (hb && tB (j.T.take k)) = b := ⟨_, rfl⟩
      rw [hbk]
      by_cases hlt : k < j.n
      · have hkl : (k : Int) < (j.n : Int) := by omega
        obtain ⟨b1, o1, ea, d1⟩ := (HJ.out.ls.below HB1.out).get k (by rw [HJ.out.len]; exact hlt)
        rw [ea] at c6
        obtain ⟨x, hx⟩ : ∃ x, j.T.getD k 0 = x := ⟨_, rfl⟩
        rw [hx] at d1
        have HN := Lib.hid (show (hb && tB (j.T.take (k + 1))) = (bk && inB x 0 2) by rw [tB_take (by rw [HJ.out.len]; exact hlt), ← Bool.and_assoc, hbk, hx])
        have HEA := Lib.hid ea
        rw [ea]
        clear hx hbk ea
        cases bk
        · go_wp2_with fail
          go_roundw
          case rel => exact ⟨k + 1, by omega, by go_num, by rw [HN.out]; rfl, trivial⟩
          case measure => simp [intOf]; omega
        · go_wp2_with (go_at_call 75; refine (within_law _ _ _ _).mono ?_; rintro e w' ⟨rfl, rfl⟩)
          go_roundw
          case rel => exact ⟨k + 1, by omega, by go_num, by rw [HN.out]; rfl, trivial⟩
          case measure => simp [intOf]; omega
      · have hkl : ¬ (k : Int) < (j.n : Int) := by omega
        have HO := Lib.hid (show okB j = bk by rw [← hbk, List.take_of_length_le (by rw [HJ.out.len]; omega), okB, HH.out])
        clear hbk
        cases bk
        · go_wp2_with fail
          go_ret
          exact ⟨by rw [chkV, HO.out]; rfl, HB1.out⟩
        · go_wp2_with fail
          go_ret
          exact ⟨by rw [chkV, HO.out]; rfl, HB1.out⟩
def gB (j : Job) : Bool := decide (1 ≤ j.w ∧ j.w ≤ 4 ∧ 1 ≤ j.l ∧ j.l ≤ 2 ∧ j.l ≤ j.w ∧ 3 ≤ j.d ∧ j.d ≤ 15 ∧ 1024 ≤ j.c ∧ j.c ≤ 65536 ∧ 1024 ≤ j.k ∧ j.k ≤ 1048576 ∧ 1 ≤ j.e ∧ j.e ≤ 100)
theorem gB_and (j : Job) : hB j = (gB j && inB j.n 1 4) := by
  unfold hB gB inB
  rw [Bool.eq_iff_iff]
  simp
  omega
theorem tB_no {T : List Int} {k : Nat} (hk : k < T.length) (h : inB (T.getD k 0) 0 2 = false) : tB T = false :=
  tB_false (k := k + 1) (by rw [tB_take hk, h]; simp)
end Go.Proofs.Ytkgcbhpgkcfkhaa
