/- Arenas: two keys sorted. -/
import Derived.Test.YtbjhcbiihekceaaCfa
namespace Go.Proofs.Ytbjhcbiihekceaa
open Go.ChangeShapes Go.WideShapes Go.ChangeAt Go.RowKit Go.Maps
set_option linter.unusedVariables false
set_option linter.unusedSimpArgs false
theorem less_law (x y : Int) (w : World) : Calls Try.prog 142 #[.int .u64 x, .int .u64 y] w fun e w' => e = .returned (.bool (decide (x < y))) ∧ w = w' := by
  go_enter Try.func142, Try.ntmps142
  go_wp2_with go_in
  go_ret
  exact ⟨rfl, rfl⟩
set_option maxRecDepth 100000 in
theorem len64_law (w : World) : Calls Try.prog 127 #[.int .u64 2] w fun e w' => (∃ k : Int, e = .returned (.int .i64 k)) ∧ w = w' := by
  go_enter Try.func127, Try.ntmps127
  go_wp2
  go_ret
  exact ⟨⟨_, rfl⟩, rfl⟩
theorem len_law (w : World) : Calls Try.prog 113 #[.int .u64 2] w fun e w' => (∃ k : Int, e = .returned (.int .i64 k)) ∧ w = w' := by
  go_enter Try.func113, Try.ntmps113
  go_wp2_with (go_at_call 127; refine (len64_law _).mono ?_; rintro e w' ⟨⟨k, rfl⟩, rfl⟩)
  go_ret
  exact ⟨⟨_, rfl⟩, rfl⟩
/-- Two words lie there. -/
structure Two (W : World) (b : Nat) (x y : Int) : Prop where
  c0 : W.cell? ⟨b, 0, none⟩ = some (.int .u64 x)
  c1 : W.cell? ⟨b, 1, none⟩ = some (.int .u64 y)
  f0 : W.frozen? ⟨b, 0, none⟩ = false
  f1 : W.frozen? ⟨b, 1, none⟩ = false
theorem Two.drew {W : World} {b : Nat} {x y : Int} (h : Two W b x y) : Two W.drew b x y := ⟨h.c0, h.c1, h.f0, h.f1⟩
theorem Two.drewN {W : World} {b : Nat} {x y : Int} (h : Two W b x y) (n : Nat) : Two (W.drewN n) b x y := ⟨h.c0, h.c1, h.f0, h.f1⟩
theorem Two.swap {W : World} {b : Nat} {x y : Int} (h : Two W b x y) (u v : Int) : Two ((W.setCell ⟨b, 0, none⟩ (.int .u64 u)).setCell ⟨b, 1, none⟩ (.int .u64 v)) b u v :=
  ⟨by rw [sc_oth (by intro e; cases e)]; exact sc_same h.c0, sc_same (by rw [sc_oth (by intro e; cases e)]; exact h.c1), by rw [World.frozen?_setCell, World.frozen?_setCell]; exact h.f0, by rw [World.frozen?_setCell, World.frozen?_setCell]; exact h.f1⟩
theorem Two.swap' {W : World} {b : Nat} {x y : Int} (h : Two W b x y) (u v : Int) : Two ((W.setCell ⟨b, 1, none⟩ (.int .u64 v)).setCell ⟨b, 0, none⟩ (.int .u64 u)) b u v :=
  ⟨sc_same (by rw [sc_oth (by intro e; cases e)]; exact h.c0), by rw [sc_oth (by intro e; cases e)]; exact sc_same h.c1, by rw [World.frozen?_setCell, World.frozen?_setCell]; exact h.f0, by rw [World.frozen?_setCell, World.frozen?_setCell]; exact h.f1⟩
set_option maxRecDepth 100000 in
set_option maxHeartbeats 2000000 in
theorem ins_law (b cap : Nat) (x y : Int) (w : World) (h : Two w b x y) (hcap : 2 ≤ cap) : Calls Try.prog 136 #[.slice (some ⟨b, 0, none⟩) 2 cap, .int .i64 0, .int .i64 2] w fun e w' => e = .returned (.tuple #[]) ∧ Two w' b (min x y) (max x y) ∧ Off (fun j => j = b) w w' := by
  have HT := Lib.hid h
  clear h
  go_enter Try.func136, Try.ntmps136
  go_wp2
  go_loopw [6, 7] (fun i _ wr => (i = .int .i64 1 ∧ wr = w) ∨ (i = .int .i64 2 ∧ Hid (Two wr b (min x y) (max x y) ∧ Off (fun j => j = b) w wr))) (fun i _ _ => 2 - (intOf i).toNat)
  case atStart => exact Or.inl ⟨rfl, rfl⟩
  case round =>
    rcases hrel with ⟨rfl, rfl⟩ | ⟨rfl, HR⟩
    · obtain ⟨wo, rfl⟩ : ∃ wo : World, wo = wr := ⟨_, rfl⟩
      go_wp2
      go_loopw [7] (fun j wr => (j = .int .i64 1 ∧ wr = wo) ∨ (j = .int .i64 0 ∧ Hid (Two wr b (min x y) (max x y) ∧ Off (fun j => j = b) wo wr))) (fun j _ => (intOf j).toNat)
      case atStart => exact Or.inl ⟨rfl, rfl⟩
      case round =>
        rcases hrel with ⟨rfl, rfl⟩ | ⟨rfl, HR⟩
        · have c0 := HT.out.c0
          have c1 := HT.out.c1
          have f0 := HT.out.f0
          have f1 := HT.out.f1
          by_cases hlt : y < x
          · have hd : decide (y < x) = true := decide_eq_true hlt
            have HM := Lib.hid (show min x y = y ∧ max x y = x by omega)
            clear hlt
            go_wp2
            go_quiet ((go_at_call 142; exact Calls.quiet_of_same ((less_law _ _ _).mono fun e w' h => ⟨h.1, h.2.symm⟩)))
            go_wp2
            have k1 : ∀ v, ((wr.drewN nq).setCell ⟨b, 0, none⟩ v).cell? ⟨b, 1, none⟩ = some (.int .u64 y) := fun v => by rw [sc_oth (by intro e; cases e)]; exact c1
            have k0 : ∀ v, ((wr.drewN nq).setCell ⟨b, 1, none⟩ v).cell? ⟨b, 0, none⟩ = some (.int .u64 x) := fun v => by rw [sc_oth (by intro e; cases e)]; exact c0
            go_region
            all_goals
              go_wp2
              go_roundw
              case rel => first
                | exact Or.inr ⟨rfl, Lib.hid ⟨by rw [HM.out.1, HM.out.2]; exact ((HT.out.drewN nq).swap y x).drew, (((Off.of (S := fun j => j = b) (Below.refl _ _)).drewN nq).set ⟨b, 0, none⟩ rfl _ |>.set ⟨b, 1, none⟩ rfl _).drew⟩⟩
                | exact Or.inr ⟨rfl, Lib.hid ⟨by rw [HM.out.1, HM.out.2]; exact ((HT.out.drewN nq).swap' y x).drew, (((Off.of (S := fun j => j = b) (Below.refl _ _)).drewN nq).set ⟨b, 1, none⟩ rfl _ |>.set ⟨b, 0, none⟩ rfl _).drew⟩⟩
              case measure => simp [intOf]
          · have hd : decide (y < x) = false := decide_eq_false hlt
            have HM := Lib.hid (show min x y = x ∧ max x y = y by omega)
            clear hlt
            go_wp2
            go_quiet ((go_at_call 142; exact Calls.quiet_of_same ((less_law _ _ _).mono fun e w' h => ⟨h.1, h.2.symm⟩)))
            go_wp2
            go_roundw
            case rel => exact Or.inr ⟨rfl, Lib.hid ⟨by rw [HM.out.1, HM.out.2]; exact HT.out.drewN nq, (Off.refl _ _).drewN nq⟩⟩
            case measure => simp [intOf]
        · go_wp2
          go_quiet (fail)
          go_wp2
          go_roundw
          case rel => exact Or.inr ⟨rfl, Lib.hid ⟨HR.out.1.drewN nq, HR.out.2.drewN nq⟩⟩
          case measure => simp [intOf]
    · go_wp2
      go_end0
      exact ⟨rfl, HR.out⟩

set_option maxRecDepth 100000 in
set_option maxHeartbeats 2000000 in
theorem pdq_law (b cap : Nat) (x y k : Int) (w : World) (h : Two w b x y) (hcap : 2 ≤ cap) : Calls Try.prog 129 #[.slice (some ⟨b, 0, none⟩) 2 cap, .int .i64 0, .int .i64 2, .int .i64 k] w fun e w' => e = .returned (.tuple #[]) ∧ Two w' b (min x y) (max x y) ∧ Off (fun j => j = b) w w' := by
  have HC := Lib.hid (ins_law b cap x y w h hcap)
  clear h hcap
  go_enter Try.func129, Try.ntmps129
  go_wp2_with fail
  go_loopw [1, 2] (fun a c wr => a = .int .i64 0 ∧ c = .int .i64 2 ∧ wr = w) (fun _ _ _ => 0)
  case atStart => exact ⟨rfl, rfl, rfl⟩
  case round =>
    obtain ⟨rfl, rfl, rfl⟩ := hrel
    go_wp2_with (go_at_call 136; refine HC.out.mono ?_; rintro e w' ⟨rfl, h1, h2⟩; replace h1 := Lib.hid h1; replace h2 := Lib.hid h2)
    refine bodyPost_ret (results_none rfl _ _ _) rfl ?_
    exact ⟨rfl, h1.out, h2.out⟩
theorem sort_law (b cap : Nat) (x y : Int) (w : World) (h : Two w b x y) (hcap : 2 ≤ cap) : Calls Try.prog 115 #[.slice (some ⟨b, 0, none⟩) 2 cap] w fun e w' => e = .returned (.tuple #[]) ∧ Two w' b (min x y) (max x y) ∧ Off (fun j => j = b) w w' := by
  have HT := Lib.hid h
  have HQ := Lib.hid hcap
  clear h hcap
  go_enter Try.func115, Try.ntmps115
  go_wp2_with (go_at_call 113; refine (len_law _).mono ?_; rintro e w' ⟨⟨k, rfl⟩, rfl⟩)
  refine (pdq_law b cap x y _ _ HT.out HQ.out).mono ?_
  rintro e w' ⟨rfl, h1, h2⟩
  replace h1 := Lib.hid h1
  replace h2 := Lib.hid h2
  go_wp2_with fail
  go_end0
  exact ⟨rfl, h1.out, h2.out⟩
end Go.Proofs.Ytbjhcbiihekceaa
