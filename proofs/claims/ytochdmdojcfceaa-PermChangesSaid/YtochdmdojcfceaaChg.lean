/- Putting, taking out, and the free places, each by a contract. -/
import Derived.Test.YtochdmdojcfceaaFns
namespace Go.Proofs.Ytochdmdojcfceaa
open Go.ChangeShapes Go.WideShapes Go.ChangeAt Go.RowKit
open PM
set_option linter.unusedVariables false
set_option linter.unusedSimpArgs false

def insV (n : Nat) (l : List Nat) (i width : Int) : Nat × Nat × Int :=
  if okB l = true ∧ 3 ≤ width ∧ width ≤ 15 ∧ 0 ≤ i ∧ i ≤ n then (if width ≤ n then (0, 0, 5) else (enc ((n + 1) :: mvd l n i.toNat), l.getD n 0, 0)) else (0, 0, 2)
def remV (n : Nat) (l : List Nat) (i : Int) : Nat × Nat × Int :=
  if okB l = true ∧ 0 ≤ i ∧ i < n then (enc ((n - 1) :: mvd l i.toNat (n - 1)), l.getD i.toNat 0, 0) else (0, 0, 2)

theorem ins_at (n : Nat) (l : List Nat) (i width : Int) (a d : Nat) (e : Int) (he : insV n l i width = (a, d, e)) (h : Wrd n l) (w : World) :
    Calls Try.prog 25 #[.int .u64 ((enc (n :: l) : Nat) : Int), .int .i64 i, .int .i64 width] w fun r w' => r = .returned (.tuple #[.int .u64 (a : Nat), .int .i64 (d : Nat), .int .i64 e]) ∧ Below w.heap.size w w' := by
  have hn := h.n16
  have HW := Lib.hid h
  have HE := Lib.hid he
  have hp := h.lt
  clear he
  by_cases hg : okB l = true ∧ 3 ≤ width ∧ width ≤ 15 ∧ 0 ≤ i ∧ i ≤ n
  · obtain ⟨ho, h3, h15, h0, hin⟩ := hg
    obtain ⟨k, rfl⟩ : ∃ k : Nat, i = k := ⟨i.toNat, by omega⟩
    have hc : cV n l = n := by unfold cV; rw [if_pos ho]
    by_cases hw : width ≤ n
    · have hv : insV n l k width = (0, 0, 5) := by unfold insV; rw [if_pos ⟨ho, h3, h15, h0, hin⟩, if_pos hw]
      rw [HE.out] at hv
      simp only [Prod.mk.injEq] at hv
      obtain ⟨rfl, rfl, rfl⟩ := hv
      have HC := Lib.hid hc
      clear HE hc h
      go_enter Try.func25, Try.ntmps25
      go_wp2_with fail
      refine (count_law n l HW.out _).mono ?_; rintro e w' ⟨rfl, B⟩
      rw [HC.out]
      go_wp2_with fail
      refine (may_law n l HW.out _).mono ?_; rintro e w2 ⟨rfl, B2⟩
      rw [ho]
      go_wp2_with fail
      go_ret3
      exact ⟨rfl, step_below B B2⟩
    · have hm := mvd_wrd h n k (by omega) (by omega)
      have hmv := Lib.hid (fun w => move_law n l n k h (by omega) (by omega) w)
      have hat := Lib.hid (fun w => at_law n l n h (by omega) w)
      have hv : insV n l k width = (enc ((n + 1) :: mvd l n k), l.getD n 0, 0) := by unfold insV; rw [if_pos ⟨ho, h3, h15, h0, hin⟩, if_neg hw]; simp
      rw [HE.out] at hv
      simp only [Prod.mk.injEq] at hv
      obtain ⟨ha, hd, rfl⟩ := hv
      have hlt : enc ((n + 1) :: mvd l n k) < 18446744073709551616 := Wrd.lt ⟨by omega, hm.len, hm.dig⟩
      have hs : enc ((n + 1) :: mvd l n k) = enc (n :: mvd l n k) + 1 := by rw [enc, enc]; omega
      have hlt' : ((enc (n :: mvd l n k) : Nat) : Int) ≤ 18446744073709551614 := by omega
      have hlt0 : (0 : Int) ≤ ((enc (n :: mvd l n k) : Nat) : Int) := by omega
      have HA := Lib.hid (show ((enc (n :: mvd l n k) : Nat) : Int) + 1 = (a : Nat) by rw [ha, hs]; simp)
      have HD := Lib.hid hd.symm
      have HC := Lib.hid hc
      clear HE hc h hs ha hd hm hlt
      go_enter Try.func25, Try.ntmps25
      go_wp2_with fail
      refine (count_law n l HW.out _).mono ?_; rintro e w' ⟨rfl, B⟩
      rw [HC.out]
      go_wp2_with fail
      refine (may_law n l HW.out _).mono ?_; rintro e w2 ⟨rfl, B2⟩
      rw [ho]
      go_wp2_with fail
      refine (hmv.out _).mono ?_; rintro e w' ⟨rfl, rfl⟩
      go_wp2_with fail
      refine (hat.out _).mono ?_; rintro e w' ⟨rfl, rfl⟩
      rw [HD.out]
      go_wp2_with fail
      go_ret3
      refine ⟨?_, step_below B B2⟩
      rw [← HA.out]
      rfl
  · have hv : insV n l i width = (0, 0, 2) := by unfold insV; rw [if_neg hg]
    rw [HE.out] at hv
    simp only [Prod.mk.injEq] at hv
    obtain ⟨rfl, rfl, rfl⟩ := hv
    clear HE
    cases ho : okB l
    · clear hg
      go_enter Try.func25, Try.ntmps25
      go_wp2_with fail
      refine (count_law n l h _).mono ?_; rintro e w' ⟨rfl, B⟩
      go_wp2_with fail
      refine (may_law n l HW.out _).mono ?_; rintro e w2 ⟨rfl, B2⟩
      rw [ho]
      go_wp2_with fail
      go_ret3
      exact ⟨rfl, step_below B B2⟩
    · have hc : cV n l = n := by unfold cV; rw [if_pos ho]
      have HC := Lib.hid hc
      clear hc h
      rcases (show width < 3 ∨ (¬ width < 3 ∧ 15 < width) ∨ (¬ width < 3 ∧ ¬ 15 < width ∧ i < 0) ∨ (¬ width < 3 ∧ ¬ 15 < width ∧ ¬ i < 0 ∧ n < i) from by
        apply Decidable.byContradiction; intro hh; exact hg ⟨ho, by omega, by omega, by omega, by omega⟩) with q | ⟨q1, q⟩ | ⟨q1, q2, q⟩ | ⟨q1, q2, q3, q⟩
      all_goals
        clear hg
        go_enter Try.func25, Try.ntmps25
        go_wp2_with fail
        refine (count_law n l HW.out _).mono ?_; rintro e w' ⟨rfl, B⟩
        rw [HC.out]
        go_wp2_with fail
        refine (may_law n l HW.out _).mono ?_; rintro e w2 ⟨rfl, B2⟩
        rw [ho]
        go_wp2_with fail
        go_ret3
        exact ⟨rfl, step_below B B2⟩

theorem rem_at (n : Nat) (l : List Nat) (i : Int) (a d : Nat) (e : Int) (he : remV n l i = (a, d, e)) (h : Wrd n l) (w : World) :
    Calls Try.prog 27 #[.int .u64 ((enc (n :: l) : Nat) : Int), .int .i64 i] w fun r w' => r = .returned (.tuple #[.int .u64 (a : Nat), .int .i64 (d : Nat), .int .i64 e]) ∧ Below w.heap.size w w' := by
  have hn := h.n16
  have HW := Lib.hid h
  have HE := Lib.hid he
  have hp := h.lt
  have hcl := cV_le h
  clear he
  by_cases hg : okB l = true ∧ 0 ≤ i ∧ i < n
  · obtain ⟨ho, h0, hin⟩ := hg
    obtain ⟨k, rfl⟩ : ∃ k : Nat, i = k := ⟨i.toNat, by omega⟩
    have hc : cV n l = n := by unfold cV; rw [if_pos ho]
    have hm := mvd_wrd h k (n - 1) (by omega) (by omega)
    have hn1 : ((n - 1 : Nat) : Int) = (n : Int) - 1 := by omega
    have hmv0 := fun w => move_law n l k (n - 1) h (by omega) (by omega) w
    rw [hn1] at hmv0
    have hmv := Lib.hid hmv0
    have hat := Lib.hid (fun w => at_law n l k h (by omega) w)
    have hv : remV n l k = (enc ((n - 1) :: mvd l k (n - 1)), l.getD k 0, 0) := by unfold remV; rw [if_pos ⟨ho, h0, hin⟩]; simp
    rw [HE.out] at hv
    simp only [Prod.mk.injEq] at hv
    obtain ⟨ha, hd, rfl⟩ := hv
    have hlt : enc (n :: mvd l k (n - 1)) < 18446744073709551616 := Wrd.lt ⟨by omega, hm.len, hm.dig⟩
    have hs : enc (n :: mvd l k (n - 1)) = enc ((n - 1) :: mvd l k (n - 1)) + 1 := by rw [enc, enc]; omega
    have hlt' : ((enc (n :: mvd l k (n - 1)) : Nat) : Int) ≤ 18446744073709551615 := by omega
    have hlt0 : (1 : Int) ≤ ((enc (n :: mvd l k (n - 1)) : Nat) : Int) := by omega
    have HA := Lib.hid (show ((enc (n :: mvd l k (n - 1)) : Nat) : Int) - 1 = (a : Nat) by rw [ha, hs]; simp)
    have HD := Lib.hid hd.symm
    have HC := Lib.hid hc
    have hni : (n : Int) ≤ 15 := by omega
    clear HE hc h hs ha hd hm hlt hmv0 hn1
    go_enter Try.func27, Try.ntmps27
    go_wp2_with fail
    refine (count_law n l HW.out _).mono ?_; rintro e w' ⟨rfl, B⟩
    rw [HC.out]
    go_wp2_with fail
    refine (hmv.out _).mono ?_; rintro e w' ⟨rfl, rfl⟩
    go_wp2_with fail
    refine (hat.out _).mono ?_; rintro e w' ⟨rfl, rfl⟩
    rw [HD.out]
    go_wp2_with fail
    go_ret3
    refine ⟨?_, B⟩
    rw [← HA.out]
    rfl
  · have hv : remV n l i = (0, 0, 2) := by unfold remV; rw [if_neg hg]
    rw [HE.out] at hv
    simp only [Prod.mk.injEq] at hv
    obtain ⟨rfl, rfl, rfl⟩ := hv
    clear HE
    have hci : i < 0 ∨ (¬ i < 0 ∧ ¬ i < (cV n l : Nat)) := by
      cases ho : okB l
      · have : cV n l = 0 := by unfold cV; rw [ho]; rfl
        omega
      · have : cV n l = n := by unfold cV; rw [ho]; rfl
        have h2 : ¬ (0 ≤ i ∧ i < n) := fun hh => hg ⟨ho, hh⟩
        omega
    clear hg
    rcases hci with q | ⟨q1, q2⟩
    all_goals
      go_enter Try.func27, Try.ntmps27
      go_wp2_with fail
      refine (count_law n l HW.out _).mono ?_; rintro e w' ⟨rfl, B⟩
      go_wp2_with fail
      go_ret3
      exact ⟨rfl, B⟩
end Go.Proofs.Ytochdmdojcfceaa
