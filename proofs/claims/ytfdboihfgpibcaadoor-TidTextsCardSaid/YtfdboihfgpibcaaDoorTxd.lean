/- The document's own text of a word, by contracts. -/
import Derived.Test.YtfdboihfgpibcaaDoorTxc
namespace Go.Proofs.YtfdboihfgpibcaaDoor
open Go.ChangeShapes Go.WideShapes Go.ChangeAt Go.RowKit
open TM
set_option linter.unusedVariables false
set_option linter.unusedSimpArgs false

/-- The text of five parts. -/
def tk (e n : Nat) (l d : Bool) : Nat → ByteArray
  | 0 => ⟨(TX.bodyL e n).toArray⟩
  | 1 => ⟨(TX.bodyL e n ++ TX.sfx l false false).toArray⟩
  | _ => ⟨(TX.bodyL e n ++ TX.sfx l d false).toArray⟩
theorem below_box (w : World) (o : Obj) : Below w.heap.size w (w.alloc o) := (Below.refl _ w).alloc (Nat.le_refl _) o
theorem digits_to (n : Nat) (h : n ≤ 2147483647) (s : ByteArray) (hs : s = ⟨(Lib.decDigits n).toArray⟩) (w : World) : Calls Tryd.prog 31 #[.int .i64 (n : Int)] w fun e w' => e = .returned (.string s) ∧ Below w.heap.size w w' := by
  rw [hs]; exact digits_any n h w
theorem step_from {X : Prop} {W1 a b : World} (k : Below a.heap.size a b) (h : Below W1.heap.size W1 a ∧ X) : Below W1.heap.size W1 b := step_below h.1 k
theorem cell_at (w : World) (cs : Array Value) (t : TypeId) (fr : Nat × Nat) (k : Nat) : (w.alloc (.cells cs t fr)).cell? ⟨w.heap.size, k, none⟩ = cs[k]? := by
  have h := heap_alloc_new w (.cells cs t fr)
  simp only [World.cell?]
  rw [h]
  simp
set_option maxRecDepth 100000 in
set_option maxHeartbeats 2000000 in
theorem reftext_any (e n : Nat) (l d a : Bool) (he : e ≤ 16777215) (hn : n ≤ 2147483647) (w : World) : Calls Tryd.prog 26 #[.agg #[.int .i64 (e : Int), .int .i64 (n : Int), .bool l, .bool d, .bool a]] w fun r w' => r = .returned (.string ⟨(TX.textL e n l d a).toArray⟩) ∧ Below w.heap.size w w' := by
  have hw0 := below_box w (.cells #[.int .i64 (e : Int), .int .i64 (n : Int), .bool l, .bool d, .bool a] 28)
  have k0 := cell_at w #[.int .i64 (e : Int), .int .i64 (n : Int), .bool l, .bool d, .bool a] 28 (0, 0) 0
  have k1 := cell_at w #[.int .i64 (e : Int), .int .i64 (n : Int), .bool l, .bool d, .bool a] 28 (0, 0) 1
  have k2 := cell_at w #[.int .i64 (e : Int), .int .i64 (n : Int), .bool l, .bool d, .bool a] 28 (0, 0) 2
  have k3 := cell_at w #[.int .i64 (e : Int), .int .i64 (n : Int), .bool l, .bool d, .bool a] 28 (0, 0) 3
  have k4 := cell_at w #[.int .i64 (e : Int), .int .i64 (n : Int), .bool l, .bool d, .bool a] 28 (0, 0) 4
  simp only [List.getElem?_toArray, List.getElem?_cons_zero, List.getElem?_cons_succ] at k0 k1 k2 k3 k4
  have q1 := dec_size e (by omega)
  have q2 := dec_size n (by omega)
  have hD : ∀ m : Nat, m ≤ 2147483647 → ∀ w, Calls Tryd.prog 31 #[.int .i64 (m : Int)] w fun e w' => e = .returned (.string ((fun m : Nat => (⟨(Lib.decDigits m).toArray⟩ : ByteArray)) m)) ∧ Below w.heap.size w w' := digits_any
  have hDE : (fun m : Nat => (⟨(Lib.decDigits m).toArray⟩ : ByteArray)) e = ⟨(Lib.decDigits e).toArray⟩ := rfl
  have hDN : (fun m : Nat => (⟨(Lib.decDigits m).toArray⟩ : ByteArray)) n = ⟨(Lib.decDigits n).toArray⟩ := rfl
  generalize (fun m : Nat => (⟨(Lib.decDigits m).toArray⟩ : ByteArray)) = D at hD hDE hDN
  rw [← hDE] at q1
  rw [← hDN] at q2
  have HD := Lib.hid hD
  have HDE := Lib.hid (And.intro hDE hDN)
  have m1 : ¬ 9223372036854775807 < (D e).size + 1 := by omega
  have m2 : ¬ 9223372036854775807 < (D e).size + 1 + (D n).size := by omega
  have HQ := Lib.hid (And.intro q1 q2)
  have HW0 := Lib.hid hw0
  have HEN := Lib.hid (And.intro he hn)
  clear hD hDE hDN q1 q2 he hn hw0
  go_enter Tryd.func26, Tryd.ntmps26
  go_wp2_with fail
  generalize hBe : w.heap.size = B at *
  generalize w.alloc (.cells #[.int .i64 (e : Int), .int .i64 (n : Int), .bool l, .bool d, .bool a] 28) = W1 at *
  have HBE := Lib.hid hBe
  clear hBe
  have HS := Lib.hid (fun W (b : Below W1.heap.size W1 W) => And.intro b (And.intro ((b.cell (p := ⟨B, 0, none⟩) (World.block_lt_of_cell? W1 _ k0)).trans k0) ((b.cell (p := ⟨B, 1, none⟩) (World.block_lt_of_cell? W1 _ k1)).trans k1)))
  have HK := Lib.hid (fun W (b : Below W1.heap.size W1 W) => And.intro ((b.cell (p := ⟨B, 2, none⟩) (World.block_lt_of_cell? W1 _ k2)).trans k2) (And.intro ((b.cell (p := ⟨B, 3, none⟩) (World.block_lt_of_cell? W1 _ k3)).trans k3) ((b.cell (p := ⟨B, 4, none⟩) (World.block_lt_of_cell? W1 _ k4)).trans k4)))
  clear k0 k1 k2 k3 k4
  go_region_held3 (fun W => Below W1.heap.size W1 W ∧ W.cell? ⟨B, 0, none⟩ = some (.int .i64 (e : Int)) ∧ W.cell? ⟨B, 1, none⟩ = some (.int .i64 (n : Int))) (first | exact HS.out _ ((Below.refl _ _).drew) | exact HS.out _ (step_from (by assumption) (by assumption))) (first | (go_at_call 31; refine (HD.out _ (by have := HEN.out; omega) _).mono ?_; rintro r w2 ⟨rfl, B2⟩))
  have hB : Below W1.heap.size W1 w2 := And.left (by assumption)
  have h0 := HW0.out
  rw [← HBE.out] at h0
  have HB := Lib.hid (step_below h0 hB)
  clear h0
  obtain ⟨k2, k3, k4⟩ := HK.out w2 hB
  obtain ⟨T, hT⟩ : ∃ T, D e ++ (⟨#[46]⟩ : ByteArray) ++ D n = T := ⟨_, rfl⟩
  rw [hT]
  have hT2 : T = ⟨(TX.bodyL e n).toArray⟩ := by
    rw [← hT, HDE.out.1, HDE.out.2]
    apply ByteArray.ext
    simp [TX.bodyL, ByteArray.data_append]
  have hTz : T.size ≤ 21 := by
    have := HQ.out
    rw [← hT, ByteArray.size_append, ByteArray.size_append]
    show (D e).size + 1 + (D n).size ≤ 21
    omega
  have HT := Lib.hid hT2
  have HZ := Lib.hid hTz
  clear m1 m2 hT hT2 hTz hB
  have fin : ∀ X : ByteArray, X = ⟨(TX.textL e n l d a).toArray⟩ → Ending.returned (Value.string X) = Ending.returned (.string ⟨(TX.textL e n l d a).toArray⟩) := fun X h => by rw [h]
  have FIN := Lib.hid fin
  clear fin
  cases l <;> cases d <;> cases a
  all_goals go_wp2_with fail
  all_goals try (exfalso; have := HZ.out; omega)
  all_goals go_ret
  all_goals refine ⟨FIN.out _ ?_, HB.out⟩
  all_goals rw [HT.out]; apply ByteArray.ext; simp [TX.textL, TX.sfx, ByteArray.data_append]
end Go.Proofs.YtfdboihfgpibcaaDoor
