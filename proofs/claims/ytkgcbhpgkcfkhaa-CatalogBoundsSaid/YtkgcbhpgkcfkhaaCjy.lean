/- A change's parts: what one list has and another has not, by contracts. -/
import Derived.Test.YtkgcbhpgkcfkhaaCjx
import Derived.Lib.SliceRun
namespace Go.Proofs.Ytkgcbhpgkcfkhaa
open Go.ChangeShapes Go.WideShapes Go.ChangeAt Go.RowKit Go.Shelf
set_option linter.unusedVariables false
set_option linter.unusedSimpArgs false

/-- Entries of bytes, none too long. -/
def EnB (L : List E1) : Prop := ∀ t v, (t, v) ∈ L → Byt v.bs ∧ v.bs.length ≤ 1048576
def inE (O : List E1) (x : E1) : Bool := O.any fun o => eqE o x
set_option maxRecDepth 100000 in
set_option maxHeartbeats 2000000 in
theorem in_law (xt : Int) (xp : P1) (B : Nat) (oa : Option Addr) (O : List E1) (on oc : Nat) (hO : O.length = on) (hn3 : on ≤ 1000000) (bO : EnB O) (bx : Byt xp.bs) (lx : xp.bs.length ≤ 1048576) (w : World) (ho : EnR w oa O) (hx : Ls .u8 w xp.ad xp.cap xp.bs) (c0 : w.cell? ⟨B, 0, none⟩ = some (.slice oa on oc)) :
    Calls Try.prog 83 #[.agg #[.int .i64 xt, xp.v], .pointer (some ⟨B, 0, none⟩)] w fun r w' => r = .returned (.bool (inE O (xt, xp))) ∧ Below w.heap.size w w' := by
  obtain ⟨xa, xc, xl⟩ := xp
  have b0 : Below w.heap.size w (w.alloc (.cells #[.int .i64 xt, .slice xa xl.length xc] 91)) := (Below.refl _ _).alloc (Nat.le_refl _) _
  have hb0 := World.block_lt_of_cell? w _ c0
  have d0 := (b0.cell (p := ⟨B, 0, none⟩) hb0).trans c0
  have e0 : (w.alloc (.cells #[.int .i64 xt, .slice xa xl.length xc] 91)).cell? ⟨w.heap.size, 0, none⟩ = some (.int .i64 xt) := by rw [cell_new]; rfl
  have e1 : (w.alloc (.cells #[.int .i64 xt, .slice xa xl.length xc] 91)).cell? ⟨w.heap.size, 1, none⟩ = some (.slice xa xl.length xc) := by rw [cell_new]; rfl
  have hC := contains_law 85 (enters_of Try.func85 (by kernel_rfl) rfl) ⟨w.heap.size, 0, none⟩ (fun o => eqE o (xt, ⟨xa, xc, xl⟩)) oa O on oc hO hn3 _ (ho.below b0) (fun W hW t v hm => by
    obtain ⟨k, hk⟩ := List.mem_iff_getElem?.1 hm
    obtain ⟨_, _, _, _, _, l1⟩ := ho.below (b0.trans (hW.mono b0.size)) k _ hk
    refine eq1_law t xt v ⟨xa, xc, xl⟩ w.heap.size (bO t v hm).1 bx (bO t v hm).2 lx W l1 (hx.below (b0.trans (hW.mono b0.size))) ?_ ?_
    · exact (hW.cell (World.block_lt_of_cell? _ _ e0)).trans e0
    · exact (hW.cell (World.block_lt_of_cell? _ _ e1)).trans e1)
  have hmf : ∀ (fn : Fn) (first cap : Array Value) (w : World), (Instr.makeFunc fn first cap).run Try.prog w = .ok (.func fn first cap) w := fun _ _ _ _ => rfl
  have HC := Lib.hid hC
  have HB0 := Lib.hid b0
  clear hC c0 ho hx bO bx lx hb0 b0 e0 e1 hO hn3
  show Calls Try.prog 83 #[.agg #[.int .i64 xt, .slice xa xl.length xc], .pointer (some ⟨B, 0, none⟩)] w _
  go_enter Try.func83, Try.ntmps83
  go_wp2_with fail
  refine HC.out.mono ?_; rintro r w' ⟨rfl, B1⟩
  have HB1 := Lib.hid (step_below HB0.out B1)
  clear B1
  go_wp2_with fail
  go_ret
  exact ⟨rfl, HB1.out⟩
end Go.Proofs.Ytkgcbhpgkcfkhaa
