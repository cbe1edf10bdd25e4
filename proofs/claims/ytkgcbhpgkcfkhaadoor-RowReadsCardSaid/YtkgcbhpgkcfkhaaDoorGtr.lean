/- bytes.Trim of noughts, by contracts. -/
import Derived.Test.YtkgcbhpgkcfkhaaDoorGrd
namespace Go.Proofs.YtkgcbhpgkcfkhaaDoor
open Go.ChangeShapes Go.WideShapes Go.ChangeAt Go.RowKit
set_option linter.unusedVariables false
set_option linter.unusedSimpArgs false

def slLen : Value → Nat
  | .slice _ l _ => l
  | _ => 0
theorem take_take_le (X : List Int) (k : Nat) : (X.take (k + 1)).take k = X.take k := by rw [List.take_take, Nat.min_eq_left (by omega)]
set_option maxHeartbeats 1000000 in
theorem trimR_law (a : Option Addr) (n cap : Nat) (X : List Int) (hn : X.length = n) (hn9 : n ≤ 1000000) (w : World) (hX : Ls .u8 w a cap X) :
    Calls Tryd.prog 48 #[.slice a n cap, .int .u8 0] w fun r w' => (∃ (j : Nat) (a' : Option Addr) (c' : Nat), j ≤ n ∧ (∀ i, j ≤ i → X.getD i 0 = 0) ∧ Ls .u8 w a' c' (X.take j) ∧ r = .returned (.slice a' j c')) ∧ w = w' := by
  have HX := Lib.hid hX
  have HN := Lib.hid hn
  clear hX hn
  go_enter Tryd.func48, Tryd.ntmps48
  go_wp2_with fail
  go_loopw [0] (fun v wr => ∃ (j : Nat) (a' : Option Addr) (c' : Nat), j ≤ n ∧ v = .slice a' j c' ∧ Hid (∀ i, j ≤ i → X.getD i 0 = 0) ∧ Hid (Ls .u8 w a' c' (X.take j)) ∧ w = wr) (fun v _ => slLen v)
  case atStart => exact ⟨n, a, cap, Nat.le_refl _, rfl, Lib.hid (fun i hi => by simp [List.getD, List.getElem?_eq_none (by have := HN.out; omega : X.length ≤ i)]), Lib.hid (by rw [List.take_of_length_le (by have := HN.out; omega)]; exact HX.out), rfl⟩
  case round =>
    obtain ⟨j, a', c', hj, rfl, hz, hl, rfl⟩ := hrel
    by_cases h0 : j = 0
    · subst h0
      go_wp2_with fail
      go_ret
      exact ⟨⟨0, a', c', by omega, hz.out, hl.out, rfl⟩, rfl⟩
    · obtain ⟨k, rfl⟩ : ∃ k, j = k + 1 := ⟨j - 1, by omega⟩
      have hlen : (X.take (k + 1)).length = k + 1 := by have := HN.out; rw [List.length_take]; omega
      obtain ⟨b1, o1, e1, d1⟩ := hl.out.get k (by omega)
      obtain ⟨x, hx⟩ : ∃ x, X.getD k 0 = x := ⟨_, rfl⟩
      rw [show (X.take (k + 1)).getD k 0 = x by rw [← hx]; simp [List.getD]] at d1
      have HXX := Lib.hid hx
      obtain ⟨a2, c2, s2, l2⟩ := hl.out.hi eltB (k + 1) k hlen (by omega)
      rw [take_take_le] at l2
      subst e1
      have hki : (k : Int) ≤ 1000000 := by omega
      have t1 : (0 : Int) < (k : Int) + 1 := by omega
      have L2 := Lib.hid l2
      clear hx h0 l2 hlen
      by_cases hx0 : x = 0
      · have t2 : (x == 0) = true := by simp; exact hx0
        have HX0 := Lib.hid hx0
        clear hx0
        go_wp2_with fail
        go_roundw
        case rel =>
          refine ⟨k, a2, c2, by omega, rfl, Lib.hid (fun i hi => ?_), L2, by trivial⟩
          rcases (show i = k ∨ k + 1 ≤ i by omega) with rfl | h
          · rw [HXX.out, HX0.out]
          · exact hz.out i h
        case measure => simp [slLen]
      · have t2 : (x == 0) = false := by simp; exact hx0
        clear hx0
        go_wp2_with fail
        go_ret
        exact ⟨⟨k + 1, _, c', by omega, hz.out, hl.out, rfl⟩, rfl⟩
set_option maxHeartbeats 1000000 in
theorem trimL_law (a : Option Addr) (n cap : Nat) (X : List Int) (hn : X.length = n) (hn9 : n ≤ 1000000) (w : World) (hX : Ls .u8 w a cap X) :
    Calls Tryd.prog 47 #[.slice a n cap, .int .u8 0] w fun r w' => (∃ (l : Nat) (a' : Option Addr) (c' : Nat), (l = 0 ↔ ∀ i, X.getD i 0 = 0) ∧ r = .returned (.slice a' l c')) ∧ w = w' := by
  have HX := Lib.hid hX
  have HN := Lib.hid hn
  clear hX hn
  go_enter Tryd.func47, Tryd.ntmps47
  go_wp2_with fail
  go_loopw [0] (fun v wr => ∃ (j : Nat) (a' : Option Addr) (c' : Nat), j ≤ n ∧ v = .slice a' (n - j) c' ∧ Hid (∀ i, i < j → X.getD i 0 = 0) ∧ Hid (Ls .u8 w a' c' (X.drop j)) ∧ w = wr) (fun v _ => slLen v)
  case atStart => exact ⟨0, a, cap, Nat.zero_le _, rfl, Lib.hid (fun i hi => by omega), Lib.hid HX.out, rfl⟩
  case round =>
    obtain ⟨j, a', c', hj, rfl, hz, hl, rfl⟩ := hrel
    obtain ⟨m, hm⟩ : ∃ m, n - j = m := ⟨_, rfl⟩
    rw [hm]
    by_cases h0 : m = 0
    · subst h0
      have hall := Lib.hid (show ∀ i, X.getD i 0 = 0 from fun i => by
        by_cases hi : i < j
        · exact hz.out i hi
        · simp [List.getD, List.getElem?_eq_none (by have := HN.out; omega : X.length ≤ i)])
      clear hm
      go_wp2_with fail
      go_ret
      exact ⟨⟨0, _, _, ⟨fun _ => hall.out, fun _ => rfl⟩, rfl⟩, rfl⟩
    · obtain ⟨k, rfl⟩ : ∃ k, m = k + 1 := ⟨m - 1, by omega⟩
      have hlen : (X.drop j).length = k + 1 := by have := HN.out; rw [List.length_drop]; omega
      obtain ⟨b1, o1, e1, d1⟩ := hl.out.get 0 (by omega)
      obtain ⟨x, hx⟩ : ∃ x, X.getD j 0 = x := ⟨_, rfl⟩
      rw [show (X.drop j).getD 0 0 = x by rw [← hx]; simp [List.getD, List.getElem?_drop], Nat.add_zero] at d1
      have HXX := Lib.hid hx
      obtain ⟨a2, c2, s2, l2⟩ := hl.out.lo eltB (k + 1) 1 hlen (by omega)
      rw [List.drop_drop] at l2
      rw [Nat.add_sub_cancel] at s2
      simp only [Int.natCast_one] at s2
      subst e1
      have hki : (k : Int) ≤ 1000000 := by omega
      have t1 : (0 : Int) < (k : Int) + 1 := by omega
      have L2 := Lib.hid l2
      have HM := Lib.hid hm
      have HJ := Lib.hid hj
      clear hx h0 l2 hlen hm hj
      by_cases hx0 : x = 0
      · have t2 : (x == 0) = true := by simp; exact hx0
        have HX0 := Lib.hid hx0
        clear hx0
        go_wp2_with fail
        go_roundw
        case rel =>
          refine ⟨j + 1, a2, c2, by have := HM.out; omega, by rw [show n - (j + 1) = k by have := HM.out; omega], Lib.hid (fun i hi => ?_), L2, by trivial⟩
          rcases (show i = j ∨ i < j by omega) with rfl | h
          · rw [HXX.out, HX0.out]
          · exact hz.out i h
        case measure => simp [slLen]
      · have t2 : (x == 0) = false := by simp; exact hx0
        have HX0 := Lib.hid hx0
        have t3 : ((k : Int) + 1 == 0) = false := by simp; omega
        clear hx0
        go_wp2_with fail
        go_ret
        exact ⟨⟨k + 1, _, c', ⟨fun e => by omega, fun h => absurd ((HXX.out).symm.trans (h j)) HX0.out⟩, rfl⟩, rfl⟩
set_option maxRecDepth 100000 in
set_option maxHeartbeats 2000000 in
theorem trim_law (a : Option Addr) (n cap : Nat) (X : List Int) (hn : X.length = n) (hn9 : n ≤ 1000000) (w : World) (hX : Ls .u8 w a cap X) :
    Calls Tryd.prog 33 #[.slice a n cap, .string ⟨#[0]⟩] w fun r w' => (∃ (l : Nat) (a' : Option Addr) (c' : Nat), (l = 0 ↔ ∀ i, X.getD i 0 = 0) ∧ r = .returned (.slice a' l c')) ∧ Below w.heap.size w w' := by
  by_cases h0 : n = 0
  · subst h0
    have hall := Lib.hid (show ∀ i, X.getD i 0 = 0 from fun i => by rw [List.length_eq_zero_iff.1 hn]; simp [List.getD])
    clear hX hn
    go_enter Tryd.func33, Tryd.ntmps33
    go_wp2_with fail
    go_ret
    exact ⟨⟨0, _, _, ⟨fun _ => hall.out, fun _ => rfl⟩, rfl⟩, Below.refl _ _⟩
  · have HX := Lib.hid hX
    have HN := Lib.hid hn
    have h9 := Lib.hid hn9
    have hni : ((n : Int) == 0) = false := by simp; omega
    have hb0 : ((⟨#[0]⟩ : ByteArray)[0].toNat : Int) = 0 := by decide
    have H1 := Lib.hid (fun w (hX : Ls .u8 w a cap X) => trimR_law a n cap X hn hn9 w hX)
    clear hX hn h0
    go_enter Tryd.func33, Tryd.ntmps33
    go_wp2_with fail
    have hmx : Tryd.prog.follows .mixedOrders = true := by kernel_rfl
    go_region_with (first | (go_at_call 48; refine (H1.out _ HX.out.drew).mono ?_; rintro r w2 ⟨⟨j, a2, c2, hj, hz, l2, rfl⟩, rfl⟩; have HL2 := Lib.hid l2; have HZ := Lib.hid hz; have HJ := Lib.hid hj; clear l2 hz hj) | (go_at_call 47; refine (trimL_law _ _ _ (X.take j) (by have := HN.out; have := HJ.out; rw [List.length_take]; omega) (by have := HJ.out; have := h9.out; omega) _ HL2.out).mono ?_; rintro r w3 ⟨⟨l, a3, c3, hl, rfl⟩, rfl⟩; have HL := Lib.hid hl; clear hl))
    all_goals
      have hfin := Lib.hid (show l = 0 ↔ ∀ i, X.getD i 0 = 0 from ⟨fun h i => by
        by_cases hi : i < j
        · have := (HL.out.1 h) i
          rw [getD_take, if_pos hi] at this
          exact this
        · exact HZ.out i (by omega), fun h => HL.out.2 fun i => by rw [getD_take]; split; exact h i; rfl⟩)
      clear HL HZ HL2 HJ H1 HX HN h9 hni
      go_wp2_with fail
      go_ret
      exact ⟨⟨l, a3, c3, hfin.out, rfl⟩, (Below.refl _ _).drew⟩
end Go.Proofs.YtkgcbhpgkcfkhaaDoor
