/- What perms say is what the chapter says: the law's walk. -/
import Derived.Test.YtochdmdojcfceaaRefF
namespace Go.Proofs.Ytochdmdojcfceaa
open Go.ChangeShapes Go.WideShapes Go.ChangeAt Go.RowKit Go.Shelf
open PM
set_option linter.unusedVariables false
set_option linter.unusedSimpArgs false

theorem usV_none {n : Nat} {l : List Nat} (h : okB l = false) : usV n l = [] := by
  have : (usV n l).length = 0 := by rw [usV_length, cV, h]; simp
  exact List.length_eq_zero_iff.1 this
theorem frV_none {n : Nat} {l : List Nat} (h : okB l = false) : frV n l = [] := by rw [frV, h]; rfl
theorem used_nil (n : Nat) (l : List Nat) (hu : usV n l = []) (h : Wrd n l) (w : World) :
    Calls Try.prog 19 #[.int .u64 ((enc (n :: l) : Nat) : Int)] w fun e w' => e = .returned (.slice none 0 0) ∧ Below w.heap.size w w' :=
  (used_rd n l [] hu h w).mono fun e w' ⟨a, cap, h1, _, _, _, h2, h3⟩ => by obtain ⟨rfl, rfl⟩ := h2 rfl; exact ⟨h1, h3⟩
theorem free_nil (n : Nat) (l : List Nat) (hu : frV n l = []) (h : Wrd n l) (w : World) :
    Calls Try.prog 20 #[.int .u64 ((enc (n :: l) : Nat) : Int)] w fun e w' => ∃ a cap, e = .returned (.slice a 0 cap) ∧ Below w.heap.size w w' :=
  (free_rd n l [] hu h w).mono fun e w' ⟨a, cap, h1, _, _, _, h3⟩ => ⟨a, cap, h1, h3⟩
theorem same_rd (a b : Option Addr) (L : List Int) (n ca cb : Nat) (hn : L.length = n) (hl : n ≤ 1048576) (w : World) (hA : Rd w a L) (hB : Rd w b L) :
    Calls Try.prog 18 #[.slice a n ca, .slice b n cb] w fun e w' => e = .returned (.bool true) ∧ Below w.heap.size w w' := same_true a b L n ca cb hn hl w hA hB

set_option maxRecDepth 100000 in
set_option maxHeartbeats 1000000 in
theorem reads_none (n : Nat) (l : List Nat) (i : Int) (a : Option Addr) (L : List Int) (cap : Nat) (leave : Int) (h : Wrd n l) (ho : okB l = false) (hL : L.length ≤ 2000) (w : World) (hR : Rd w a L) (hnone : a = none → L = [] ∧ cap = 0) :
    Calls Try.prog 3 #[.int .u64 ((enc (n :: l) : Nat) : Int), .int .i64 i, .slice a L.length cap, .int .i64 leave] w fun e w' => e = .returned (.bool true) ∧ Below w.heap.size w w' := by
  have hc : cV n l = 0 := by rw [cV, ho]; rfl
  have HW := Lib.hid h
  have HO := Lib.hid ho
  have HC := Lib.hid hc
  have HR := Lib.hid hR
  have HNO := Lib.hid hnone
  have HU := Lib.hid (usV_none (n := n) ho)
  have HF := Lib.hid (frV_none (n := n) ho)
  have hrdv : rdV n l = pvl 0 [] := by rw [rdV, ho]; rfl
  have HRD := Lib.hid hrdv
  clear h ho hc hR hnone hrdv
  obtain ⟨m, hm⟩ : ∃ m, L.length = m := ⟨_, rfl⟩
  have HM := Lib.hid hm
  rw [hm] at hL ⊢
  clear hm
  have hmi : ¬ 2000 < (m : Int) := by omega
  go_enter Try.func3, Try.ntmps3
  go_wp2_with fail
  refine (read_law n l HW.out w).mono ?_; rintro e w1 ⟨rfl, B⟩
  rw [HRD.out, HO.out]
  have P1 := pb_new w1 0
  simp only [Int.ofNat_zero, Int.natCast_zero] at P1
  have HTH := Lib.hid (P1.there (pvl 0 []).toArray (pvl_size _ _))
  have HONE := Lib.hid (all_oneCell_toArray (pvl_one 0 []))
  have HINF := Lib.hid (info27a 0 [])
  have HS := Lib.hid (show ∃ W2, World.setCells (w1.alloc (.cells #[.int .i64 0, .int .i64 0, .int .i64 0, .int .i64 0, .int .i64 0, .int .i64 0, .int .i64 0, .int .i64 0, .int .i64 0, .int .i64 0, .int .i64 0, .int .i64 0, .int .i64 0, .int .i64 0, .int .i64 0, .int .i64 0] 27)) w1.heap.size 0 (pvl 0 []) = W2 ∧ PB W2 w1.heap.size 0 [] ∧ Below w.heap.size w W2 from ⟨_, rfl, P1.stored 0 [], below_setCells _ B.size _ _ _ (B.alloc B.size _)⟩)
  clear P1 B
  go_wp2_with (refine wpList_store_mid rfl 27 (.tmp 9) (.tmp 28) rfl w1.heap.size 0 (pvl 0 []).toArray rfl rfl HTH.out HINF.out HONE.out ?_; obtain ⟨W2, hW2, P2, B⟩ := HS.out; (first | rw [hW2] | (change wpList _ _ _ _ _ (World.setCells _ _ _ (pvl 0 [])); rw [hW2])); clear hW2; skip)
  obtain ⟨⟨x1, e1⟩, hx1⟩ : ∃ x, atV n l i = x := ⟨_, rfl⟩
  obtain ⟨⟨x2, e2⟩, hx2⟩ : ∃ x, ofV L = x := ⟨_, rfl⟩
  have HX1 := Lib.hid hx1
  have HX2 := Lib.hid hx2
  clear hx1 hx2
  refine (At_law n l i HW.out _).mono ?_; rintro e w3 ⟨rfl, B3⟩
  rw [HX1.out]
  replace B := step_below B B3
  clear B3 P2
  go_wp2_with fail
  refine (rat_law n l i HW.out _).mono ?_; rintro e w4 ⟨rfl, B4⟩
  rw [HX1.out]
  replace B := step_below B B4
  clear B4
  go_wp2_with fail
  have OL := of_law a L cap (by have := HM.out; omega) _ (HR.out.below B)
  rw [HM.out] at OL
  refine OL.mono ?_; rintro e w5 ⟨rfl, B5⟩
  rw [HX2.out]
  replace B := step_below B B5
  clear B5 OL
  go_wp2_with fail
  have OL := rof_law a L cap (by have := HM.out; omega) _ (HR.out.below B) HNO.out
  rw [HM.out] at OL
  refine OL.mono ?_; rintro e w6 ⟨rfl, B6⟩
  rw [HX2.out]
  replace B := step_below B B6
  clear B6 OL
  go_wp2_with fail
  refine (may_law n l HW.out _).mono ?_; rintro e w7 ⟨rfl, B7⟩
  rw [HO.out]
  replace B := step_below B B7
  clear B7
  go_wp2_with fail
  refine (count_law n l HW.out _).mono ?_; rintro e w8 ⟨rfl, B8⟩
  rw [HC.out]
  replace B := step_below B B8
  clear B8
  go_wp2_with fail
  refine (used_nil n l HU.out HW.out _).mono ?_; rintro e w9 ⟨rfl, B9⟩
  replace B := step_below B B9
  clear B9
  go_wp2_with fail
  refine (same_rd _ _ [] 0 _ _ rfl (by omega) _ (Rd.nil _ _) (Rd.nil _ _)).mono ?_; rintro e w10 ⟨rfl, B10⟩
  replace B := step_below B B10
  clear B10
  go_wp2_with fail
  refine (free_nil n l HF.out HW.out _).mono ?_; rintro e w9 ⟨a9, c9, rfl, B9⟩
  replace B := step_below B B9
  clear B9
  go_wp2_with fail
  refine (same_rd _ _ [] 0 _ _ rfl (by omega) _ (Rd.nil _ _) (Rd.nil _ _)).mono ?_; rintro e w10 ⟨rfl, B10⟩
  replace B := step_below B B10
  clear B10
  go_wp2_with fail
  refine (num_law _ _).mono ?_; rintro e w' ⟨rfl, rfl⟩
  go_wp2_with fail
  refine (num_law _ _).mono ?_; rintro e w' ⟨rfl, rfl⟩
  go_wp2_with fail
  refine (once_law n l HW.out 0 HC.out _ _ _ _ (by rw [HU.out]; exact Rd.nil _ _)).mono ?_; rintro e w11 ⟨rfl, B11⟩
  replace B := step_below B B11
  clear B11
  go_wp2_with fail
  refine (once_law n l HW.out 0 HC.out _ _ _ _ (by rw [HU.out]; exact Rd.nil _ _)).mono ?_; rintro e w12 ⟨rfl, B12⟩
  replace B := step_below B B12
  clear B12
  go_wp2_with fail
  refine (first_law _).mono ?_; rintro e w13 ⟨rfl, B13⟩
  replace B := step_below B B13
  clear B13
  go_wp2_with fail
  refine (rfirst_law _).mono ?_; rintro e w14 ⟨rfl, B14⟩
  replace B := step_below B B14
  clear B14
  go_wp2_with fail
  refine (known_law _).mono ?_; rintro e w15 ⟨rfl, B15⟩
  replace B := step_below B B15
  clear B15
  go_wp2_with fail
  go_ret
  exact ⟨rfl, B⟩
end Go.Proofs.Ytochdmdojcfceaa
