/- CellsApart's walks put together; a slice of bools that came in. -/
import Derived.Test.YtbjhcbiihekceaaCav
import Derived.Deep.Grids
import Derived.ProofKit
import Derived.OpenShut
namespace Go.Proofs.Ytbjhcbiihekceaa
open Go.ChangeShapes Go.WideShapes Go.ChangeAt Go.RowKit Go.Maps
set_option linter.unusedVariables false
set_option linter.unusedSimpArgs false
theorem bool_cells {H : Type} {enc : TypeId × Value → H} {W : World} {base : Nat} {a : Option Addr} {len cap : Nat} {d : DataW H} {ps : List MemPlace} (h : DataW.Trod enc Try.prog W base (fun _ => true) true 68 (.slice a len cap) d ps) :
    (∀ k < len, ∃ b off x, a = some ⟨b, off, none⟩ ∧ b < W.heap.size ∧ W.cell? ⟨b, off + k, none⟩ = some (.bool x)) ∧ len ≤ maxLen := by
  obtain ⟨fuel, hf⟩ := h
  rcases Go.Deep.open_bools Try.underlying68 Try.underlying4 (by kernel_rfl) hf with ⟨hcs, _⟩ | ⟨x, l, c, B, hcs, _, hl, hm, _, hcell⟩
  · simp [Value.cells] at hcs
    obtain ⟨rfl, rfl, rfl⟩ := hcs
    exact ⟨fun k hk => by omega, Nat.zero_le _⟩
  · simp [Value.cells] at hcs
    obtain ⟨rfl, rfl, rfl⟩ := hcs
    refine ⟨fun k hk => ?_, by omega⟩
    obtain ⟨b, off, spot⟩ := x
    have hc0 := hcell 0 (by omega)
    have hspot : spot = none := by simpa [Addr.add] using World.cell?_spot hc0
    subst hspot
    have hc := hcell k (by omega)
    rw [addr_add] at hc
    exact ⟨b, off, _, rfl, World.block_lt_of_cell? W _ hc, hc⟩
theorem apart_law (N : Int) (a1 a2 : Option Addr) (len cap len2 cap2 : Nat) (w : World) (hc : ∀ k < len, ∃ b off x, a1 = some ⟨b, off, none⟩ ∧ b < w.heap.size ∧ w.cell? ⟨b, off + k, none⟩ = some (.int .i64 x)) (hb : (∀ k < len2, ∃ b off x, a2 = some ⟨b, off, none⟩ ∧ b < w.heap.size ∧ w.cell? ⟨b, off + k, none⟩ = some (.bool x)) ∧ len2 ≤ maxLen) : Calls Try.prog 8 #[.int .i64 N, .slice a1 len cap, .slice a2 len2 cap2] w fun e w' => e = .returned (.bool true) ∧ Below w.heap.size w w' := by
  by_cases hN : N < 1024 ∨ 65536 < N
  · exact apart_no N a1 a2 len cap len2 cap2 w hN
  · obtain ⟨n, rfl⟩ := Int.eq_ofNat_of_zero_le (show 0 ≤ N by omega)
    by_cases h : 200 < len
    · exact apart_skip n a1 a2 len cap len2 cap2 w (by omega) (by omega) h
    · exact apart_main n a1 a2 len cap len2 cap2 w (by omega) (by omega) (by omega) hc hb.1 (by have := hb.2; unfold maxLen at this; omega)
end Go.Proofs.Ytbjhcbiihekceaa
