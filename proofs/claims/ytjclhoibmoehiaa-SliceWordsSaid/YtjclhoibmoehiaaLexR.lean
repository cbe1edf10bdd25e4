/- The reference's comparing of keys, by contracts. -/
import Derived.Test.YtjclhoibmoehiaaLexM
import Derived.Deep.QuietTactic
import Derived.BigQuiet
namespace Go.Proofs.Ytjclhoibmoehiaa
open Go.ChangeShapes Go.WideShapes Go.ChangeAt Go.RowKit
open SM
set_option linter.unusedVariables false
set_option linter.unusedSimpArgs false

theorem lex_diff {fa fb : Nat → Int} {la lb d : Nat} {r : Int} (h1 : d < la) (h2 : d < lb) (h3 : ∀ i < d, fa i = fb i) (h : r = cmpV (fa d) (fb d)) (h4 : fa d ≠ fb d) : Lex fa la fb lb r := .inl ⟨d, h1, h2, h3, h4, h⟩
def AtLex (fa : Nat → Int) (la : Nat) (fb : Nat → Int) (lb : Nat) (e : Ending) : Prop := ∃ r : Int, e = .returned (.int .i64 r) ∧ Lex fa la fb lb r

set_option maxHeartbeats 1000000 in
theorem refck_law (a b : Option Addr) (la ca lb cb : Nat) (fa fb : Nat → Int) (hla : la ≤ 1048576) (hlb : lb ≤ 1048576) (w : World) (hA : Bts w a la fa) (hB : Bts w b lb fb) :
    Calls Try.prog 23 #[.slice a la ca, .slice b lb cb] w fun e w' => AtLex fa la fb lb e ∧ Below w.heap.size w w' := by
  have HA := Lib.hid hA
  have HB := Lib.hid hB
  clear hA hB
  go_enter Try.func23, Try.ntmps23
  go_wp2_with fail
  go_loopw [5] (fun i wr => ∃ k : Nat, k ≤ la ∧ k ≤ lb ∧ i = .int .i64 k ∧ (∀ j < k, fa j = fb j) ∧ Below w.heap.size w wr) (fun i _ => la - (intOf i).toNat)
  case atStart => exact ⟨0, by omega, by omega, rfl, fun j hj => absurd hj (by omega), Below.refl _ _⟩
  case round =>
    obtain ⟨k, hka, hkb, rfl, hpre, B⟩ := hrel
    have HP := Lib.hid hpre
    clear hpre
    by_cases h1 : k < la
    · have h1i : (k : Int) < (la : Int) := by omega
      by_cases h2 : k < lb
      · have h2i : (k : Int) < (lb : Int) := by omega
        obtain ⟨b1, o1, e1, c1⟩ := HA.out.below B k h1
        obtain ⟨b2, o2, e2, c2⟩ := HB.out.below B k h2
        subst e1 e2
        rcases (show fa k < fb k ∨ fb k < fa k ∨ fa k = fb k from by omega) with q | q | q
        · go_wp2_with fail
          go_quiet (fail)
          go_wp2_with fail
          go_ret
          exact ⟨⟨_, rfl, lex_diff h1 h2 HP.out (by unfold cmpV; rw [if_pos q]) (by omega)⟩, below_drewN B _⟩
        · have q2 : ¬ fa k < fb k := by omega
          go_wp2_with fail
          go_quiet (fail)
          go_wp2_with fail
          go_quiet (fail)
          go_wp2_with fail
          go_ret
          exact ⟨⟨_, rfl, lex_diff h1 h2 HP.out (by unfold cmpV; rw [if_neg (by omega), if_pos q]) (by omega)⟩, below_drewN (below_drewN B _) _⟩
        · have q2 : ¬ fa k < fb k := by omega
          have q3 : ¬ fb k < fa k := by omega
          have Q := Lib.hid q
          clear q
          go_wp2_with fail
          go_quiet (fail)
          go_wp2_with fail
          go_quiet (fail)
          go_wp2_with fail
          go_roundw
          case rel => exact ⟨k + 1, by omega, by omega, by go_num, jok_step HP.out Q.out, below_drewN B _⟩
          case measure => simp [intOf]; omega
      · have h2i : ¬ (k : Int) < (lb : Int) := by omega
        have e : lb = k := by omega
        have g1 : ¬ (la : Int) < (lb : Int) := by omega
        have g2 : (lb : Int) < (la : Int) := by omega
        have E := Lib.hid e
        clear e
        go_wp2_with fail
        go_ret
        exact ⟨⟨_, rfl, .inr ⟨fun i i1 i2 => HP.out i (by have := E.out; omega), by unfold cmpV; rw [if_neg (by omega), if_pos (by omega)]⟩⟩, B⟩
    · have h1i : ¬ (k : Int) < (la : Int) := by omega
      have e : la = k := by omega
      have E := Lib.hid e
      clear e
      rcases (show la < lb ∨ la = lb from by omega) with q | q
      · have g1 : (la : Int) < (lb : Int) := by omega
        go_wp2_with fail
        go_ret
        exact ⟨⟨_, rfl, .inr ⟨fun i i1 i2 => HP.out i (by have := E.out; omega), by unfold cmpV; rw [if_pos (by omega)]⟩⟩, B⟩
      · have g1 : ¬ (la : Int) < (lb : Int) := by omega
        have g2 : ¬ (lb : Int) < (la : Int) := by omega
        clear q
        go_wp2_with fail
        go_ret
        exact ⟨⟨_, rfl, .inr ⟨fun i i1 i2 => HP.out i (by have := E.out; omega), by unfold cmpV; rw [if_neg (by omega), if_neg (by omega)]⟩⟩, B⟩

def AtSh (fa : Nat → Int) (la : Nat) (fb : Nat → Int) (lb : Nat) (e : Ending) : Prop := ∃ n : Nat, e = .returned (.int .i64 n) ∧ Sh fa la fb lb n

set_option maxHeartbeats 2000000 in
theorem refsh_law (a b : Option Addr) (la ca lb cb : Nat) (fa fb : Nat → Int) (hla : la ≤ 1048576) (hlb : lb ≤ 1048576) (w : World) (hA : Bts w a la fa) (hB : Bts w b lb fb) :
    Calls Try.prog 26 #[.slice a la ca, .slice b lb cb] w fun e w' => AtSh fa la fb lb e ∧ Below w.heap.size w w' := by
  have HA := Lib.hid hA
  have HB := Lib.hid hB
  clear hA hB
  have hla' : (la : Int) ≤ 1048576 := by omega
  go_enter Try.func26, Try.ntmps26
  go_wp2_with fail
  go_loopw [5] (fun i wr => ∃ k : Nat, k ≤ la ∧ i = .int .i64 k ∧ (∀ j < k, Both fa la fb lb j) ∧ Below w.heap.size w wr) (fun i _ => la - (intOf i).toNat)
  case atStart => exact ⟨0, by omega, rfl, fun j hj => absurd hj (by omega), Below.refl _ _⟩
  case round =>
    obtain ⟨k, hka, rfl, hpre, B⟩ := hrel
    obtain ⟨wo, rfl⟩ : ∃ wo : World, wo = wr := ⟨_, rfl⟩
    have HP := Lib.hid hpre
    clear hpre
    have kb : (k : Int) ≤ 1048576 := by omega
    have k0 : 0 ≤ 8 * (k : Int) := by omega
    by_cases h1 : 8 * k + 8 < la
    · have h1i : 8 * (k : Int) + 8 < (la : Int) := by omega
      by_cases h2 : 8 * k + 8 < lb
      · have h2i : 8 * (k : Int) + 8 < (lb : Int) := by omega
        go_wp2_with fail
        go_loopw [6] (fun i wr => ∃ m : Nat, 8 * k ≤ m ∧ m ≤ 8 * k + 8 ∧ i = .int .i64 m ∧ (∀ i < m, 8 * k ≤ i → fa i = fb i) ∧ Below w.heap.size w wr) (fun i _ => 8 * k + 8 - (intOf i).toNat)
        case atStart => exact ⟨8 * k, by omega, by omega, by go_num, fun j hj hk => absurd hk (by omega), B⟩
        case round =>
          clear B
          obtain ⟨m, hm0, hm, rfl, hpre, B⟩ := hrel
          have HJ := Lib.hid hpre
          clear hpre
          by_cases hlt : m < 8 * k + 8
          · have hi : (m : Int) < 8 * (k : Int) + 8 := by omega
            have mb : (m : Int) ≤ 1048576 := by omega
            have ma : (m : Int) < (la : Int) := by omega
            have mb' : (m : Int) < (lb : Int) := by omega
            obtain ⟨b1, o1, e1, c1⟩ := HA.out.below B m (by omega)
            obtain ⟨b2, o2, e2, c2⟩ := HB.out.below B m (by omega)
            subst e1 e2
            by_cases q : fa m = fb m
            · have Q := Lib.hid q
              have t1 : (fa m != fb m) = false := by simpa using q
              clear q
              go_wp2_with fail
              go_quiet (fail)
              go_wp2_with fail
              go_roundw
              case rel => exact ⟨m + 1, by omega, by omega, by go_num, fun i i1 i2 => by
                rcases (show i < m ∨ i = m from by omega) with h' | rfl
                · exact HJ.out i h' i2
                · exact Q.out, below_drewN B _⟩
              case measure => simp [intOf]; omega
            · have t1 : (fa m != fb m) = true := by simpa using q
              have Q := Lib.hid q
              clear q
              go_wp2_with fail
              go_quiet (fail)
              go_wp2_with fail
              go_ret
              exact ⟨⟨k, rfl, HP.out, fun h => Q.out (by
                have := h.2.2 (m - 8 * k) (by omega)
                rwa [show 8 * k + (m - 8 * k) = m from by omega] at this)⟩, below_drewN B _⟩
          · have hi : ¬ (m : Int) < 8 * (k : Int) + 8 := by omega
            go_wp2_with fail
            go_roundw
            case rel => exact ⟨k + 1, by omega, by go_num, jok_step HP.out ⟨h1, h2, fun i i1 => HJ.out (8 * k + i) (by omega) (by omega)⟩, B⟩
            case measure => simp [intOf]; omega
      · have h2i : ¬ 8 * (k : Int) + 8 < (lb : Int) := by omega
        go_wp2_with fail
        go_ret
        exact ⟨⟨k, rfl, HP.out, fun h => h2 h.2.1⟩, B⟩
    · have h1i : ¬ 8 * (k : Int) + 8 < (la : Int) := by omega
      go_wp2_with fail
      go_ret
      exact ⟨⟨k, rfl, HP.out, fun h => h1 h.1⟩, B⟩
end Go.Proofs.Ytjclhoibmoehiaa
