/- Rows of texts. -/
import Derived.Test.YtglkndoghnblcaaGreatDoorLpa
import Derived.Test.YtglkndoghnblcaaGreatDoorSrm
namespace Go.Proofs.YtglkndoghnblcaaGreatDoor
open Go.ChangeShapes Go.WideShapes Go.ChangeAt Go.RowKit
set_option linter.unusedVariables false
set_option linter.unusedSimpArgs false
/-- Texts as they lie. -/
def StrR (W : World) (a : Option Addr) (L : List ByteArray) : Prop := ∀ (k : Nat) (s : ByteArray), L[k]? = some s → ∃ b off, a = some ⟨b, off, none⟩ ∧ W.cell? ⟨b, off + k, none⟩ = some (.string s)
theorem StrR.below {W W' : World} {a : Option Addr} {L : List ByteArray} (h : StrR W a L) (hb : Below W.heap.size W W') : StrR W' a L := fun k s hs => by
  obtain ⟨b, off, e, h0⟩ := h k s hs
  exact ⟨b, off, e, (hb.cell (cell_lt h0)).trans h0⟩
set_option maxRecDepth 100000 in
set_option maxHeartbeats 4000000 in
/-- Two rows of texts that are the same (20). -/
theorem texts_eq (a b : Option Addr) (L : List ByteArray) (n ca cb : Nat) (hn : L.length = n) (hn2 : n ≤ 1000000) (w : World) (hA : StrR w a L) (hB : StrR w b L) :
    Calls Tryz.prog 20 #[.slice a n ca, .slice b n cb] w fun r w' => r = .returned (.bool true) ∧ Below w.heap.size w w' := by
  have HR := Lib.hid (And.intro hA hB)
  have HN := Lib.hid hn
  have hni : (n : Int) ≤ 1000000 := by omega
  have e4 : ((n : Int) != (n : Int)) = false := by simp
  clear hA hB hn
  go_enter Tryz.func20, Tryz.ntmps20
  go_wp2_with fail
  clear e4
  go_loopw [5] (fun i wr => ∃ k : Nat, k ≤ n ∧ i = .int .i64 (k : Int) ∧ Hid (Below w.heap.size w wr)) (fun i _ => n - (intOf i).toNat)
  case atStart => exact ⟨0, by omega, rfl, Lib.hid (Below.refl _ _)⟩
  case round =>
    obtain ⟨k, hk, rfl, HBW⟩ := hrel
    by_cases hlt : k < n
    · have d1 : (k : Int) < (n : Int) := by omega
      obtain ⟨x, hx⟩ : ∃ x, L[k]? = some x := ⟨_, List.getElem?_eq_getElem (by rw [HN.out]; exact hlt)⟩
      obtain ⟨b1, o1, rfl, c0⟩ := (HR.out.1.below HBW.out) k x hx
      obtain ⟨b2, o2, rfl, c2⟩ := (HR.out.2.below HBW.out) k x hx
      have e5 : (x.toList != x.toList) = false := by simp
      clear hx
      go_wp2_with fail
      go_quiet (fail)
      go_wp2_with fail
      go_roundw
      case rel => exact ⟨k + 1, by omega, by go_num, Lib.hid (below_drewN HBW.out _)⟩
      case measure => simp [intOf]; omega
    · have d1 : ¬ (k : Int) < (n : Int) := by omega
      go_wp2_with fail
      go_ret
      exact ⟨rfl, HBW.out⟩
end Go.Proofs.YtglkndoghnblcaaGreatDoor
