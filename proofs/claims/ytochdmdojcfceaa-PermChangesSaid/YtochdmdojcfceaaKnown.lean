/- The chapter's own rows. -/
import Derived.Test.YtochdmdojcfceaaOf
namespace Go.Proofs.Ytochdmdojcfceaa
open Go.ChangeShapes Go.WideShapes Go.ChangeAt Go.RowKit Go.Shelf
open PM
set_option linter.unusedVariables false
set_option linter.unusedSimpArgs false

theorem num_law (x : Int) (w : World) : Calls Try.prog 21 #[.int .i64 x] w fun e w' => e = .returned (.int .i64 x) ∧ w = w' := by
  go_enter Try.func21, Try.ntmps21
  go_wp2
  go_ret
  exact ⟨rfl, rfl⟩

def l0 : List Nat := [0, 1, 2, 3, 4, 5, 6, 7, 8, 9, 10, 11, 12, 13, 14]
def l2 : List Nat := [1, 0, 2, 3, 4, 5, 6, 7, 8, 9, 10, 11, 12, 13, 14]
def lt : List Nat := [1, 2, 0, 3, 4, 5, 6, 7, 8, 9, 10, 11, 12, 13, 14]
def lv : List Nat := [2, 0, 1, 3, 4, 5, 6, 7, 8, 9, 10, 11, 12, 13, 14]
def lz : List Nat := [0, 0, 0, 0, 0, 0, 0, 0, 0, 0, 0, 0, 0, 0, 0]
def P0 : Nat := enc (0 :: l0)
def P1 : Nat := enc (1 :: l0)
def P2 : Nat := enc (2 :: l2)
def P3 : Nat := enc (3 :: l2)
def Pt : Nat := enc (2 :: lt)
def Pu : Nat := enc (1 :: l2)
def Pv : Nat := enc (2 :: lv)
theorem wrd_of (n : Nat) (l : List Nat) (h : (decide (n < 16) && decide (l.length = 15) && l.all fun d => decide (d < 16)) = true) : Wrd n l := by
  simp only [Bool.and_eq_true, decide_eq_true_eq, List.all_eq_true] at h
  exact ⟨h.1.1, h.1.2, fun d hd => h.2 d hd⟩
theorem W0 : Wrd 0 l0 := wrd_of _ _ (by decide)
theorem W1 : Wrd 1 l0 := wrd_of _ _ (by decide)
theorem W2 : Wrd 2 l2 := wrd_of _ _ (by decide)
theorem W3 : Wrd 3 l2 := wrd_of _ _ (by decide)
theorem Wt : Wrd 2 lt := wrd_of _ _ (by decide)
theorem Wu : Wrd 1 l2 := wrd_of _ _ (by decide)
theorem Wv : Wrd 2 lv := wrd_of _ _ (by decide)
theorem Wz : Wrd 0 lz := wrd_of _ _ (by decide)

theorem first_law (w : World) : Calls Try.prog 23 #[] w fun e w' => e = .returned (.int .u64 (P0 : Nat)) ∧ Below w.heap.size w w' := by
  have h := of_law none [] 0 (by simp) w (Rd.nil _ _)
  have e : ofV [] = (P0, 0) := by kernel_rfl
  rw [e] at h
  have H := Lib.hid h
  clear h e
  go_enter Try.func23, Try.ntmps23
  go_wp2_with fail
  refine H.out.mono ?_; rintro e w' ⟨rfl, B⟩
  go_wp2_with fail
  go_ret
  exact ⟨rfl, B⟩
theorem k_at (w : World) : Calls Try.prog 12 #[.int .u64 (P0 : Nat), .int .i64 0] w fun e w' => e = .returned (.tuple #[.int .i64 0, .int .i64 2]) ∧ Below w.heap.size w w' := At_law 0 l0 0 W0 w
theorem k_i1 (w : World) : Calls Try.prog 25 #[.int .u64 (P0 : Nat), .int .i64 0, .int .i64 3] w fun e w' => e = .returned (.tuple #[.int .u64 (P1 : Nat), .int .i64 0, .int .i64 0]) ∧ Below w.heap.size w w' := ins_at 0 l0 0 3 P1 0 0 (by kernel_rfl) W0 w
theorem k_i2 (w : World) : Calls Try.prog 25 #[.int .u64 (P1 : Nat), .int .i64 0, .int .i64 3] w fun e w' => e = .returned (.tuple #[.int .u64 (P2 : Nat), .int .i64 1, .int .i64 0]) ∧ Below w.heap.size w w' := ins_at 1 l0 0 3 P2 1 0 (by kernel_rfl) W1 w
theorem k_i3 (w : World) : Calls Try.prog 25 #[.int .u64 (P2 : Nat), .int .i64 3, .int .i64 3] w fun e w' => e = .returned (.tuple #[.int .u64 0, .int .i64 0, .int .i64 2]) ∧ Below w.heap.size w w' := ins_at 2 l2 3 3 0 0 2 (by kernel_rfl) W2 w
theorem k_i4 (w : World) : Calls Try.prog 25 #[.int .u64 (P2 : Nat), .int .i64 2, .int .i64 3] w fun e w' => e = .returned (.tuple #[.int .u64 (P3 : Nat), .int .i64 2, .int .i64 0]) ∧ Below w.heap.size w w' := ins_at 2 l2 2 3 P3 2 0 (by kernel_rfl) W2 w
theorem k_i5 (w : World) : Calls Try.prog 25 #[.int .u64 (P3 : Nat), .int .i64 0, .int .i64 3] w fun e w' => e = .returned (.tuple #[.int .u64 0, .int .i64 0, .int .i64 5]) ∧ Below w.heap.size w w' := ins_at 3 l2 0 3 0 0 5 (by kernel_rfl) W3 w
theorem k_r (w : World) : Calls Try.prog 27 #[.int .u64 (P3 : Nat), .int .i64 1] w fun e w' => e = .returned (.tuple #[.int .u64 (Pt : Nat), .int .i64 0, .int .i64 0]) ∧ Below w.heap.size w w' := rem_at 3 l2 1 Pt 0 0 (by kernel_rfl) W3 w
theorem k_c (w : World) : Calls Try.prog 29 #[.int .u64 (P3 : Nat), .int .i64 1] w fun e w' => ∃ a cap, e = .returned (.tuple #[.int .u64 (Pu : Nat), .slice a 2 cap, .int .i64 0]) ∧ Rd w' a [0, 2] ∧ Below w.heap.size w w' := cut_at 3 l2 [0, 2] 1 Pu 0 (by kernel_rfl) W3 w
theorem k_m0 (w : World) : Calls Try.prog 16 #[.int .u64 (P0 : Nat)] w fun e w' => e = .returned (.bool true) ∧ Below w.heap.size w w' := may_law 0 l0 W0 w
theorem k_mz (w : World) : Calls Try.prog 16 #[.int .u64 0] w fun e w' => e = .returned (.bool false) ∧ Below w.heap.size w w' := may_law 0 lz Wz w
theorem k_cn (w : World) : Calls Try.prog 17 #[.int .u64 (P0 : Nat)] w fun e w' => e = .returned (.int .i64 0) ∧ Below w.heap.size w w' := count_law 0 l0 W0 w
theorem k_u2 (w : World) : Calls Try.prog 19 #[.int .u64 (P2 : Nat)] w fun e w' => ∃ a cap, e = .returned (.slice a 2 cap) ∧ Rd w' a [1, 0] ∧ Below w.heap.size w w' :=
  (used_rd 2 l2 [1, 0] (by kernel_rfl) W2 w).mono fun e w' ⟨a, cap, h1, _, h2, _, _, h3⟩ => ⟨a, cap, h1, h2, h3⟩
theorem k_u3 (w : World) : Calls Try.prog 19 #[.int .u64 (P3 : Nat)] w fun e w' => ∃ a cap, e = .returned (.slice a 3 cap) ∧ Rd w' a [1, 0, 2] ∧ Below w.heap.size w w' :=
  (used_rd 3 l2 [1, 0, 2] (by kernel_rfl) W3 w).mono fun e w' ⟨a, cap, h1, _, h2, _, _, h3⟩ => ⟨a, cap, h1, h2, h3⟩
theorem k_ut (w : World) : Calls Try.prog 19 #[.int .u64 (Pt : Nat)] w fun e w' => ∃ a cap, e = .returned (.slice a 2 cap) ∧ Rd w' a [1, 2] ∧ Below w.heap.size w w' :=
  (used_rd 2 lt [1, 2] (by kernel_rfl) Wt w).mono fun e w' ⟨a, cap, h1, _, h2, _, _, h3⟩ => ⟨a, cap, h1, h2, h3⟩
theorem k_uu (w : World) : Calls Try.prog 19 #[.int .u64 (Pu : Nat)] w fun e w' => ∃ a cap, e = .returned (.slice a 1 cap) ∧ Rd w' a [1] ∧ Below w.heap.size w w' :=
  (used_rd 1 l2 [1] (by kernel_rfl) Wu w).mono fun e w' ⟨a, cap, h1, _, h2, _, _, h3⟩ => ⟨a, cap, h1, h2, h3⟩
theorem rd_take {W : World} {a : Option Addr} {L : List Int} (h : Rd W a L) (k : Nat) : Rd W a (L.take k) := fun j hj => by
  have hj' : j < k ∧ j < L.length := by simp at hj; omega
  obtain ⟨b, off, e, hc⟩ := h j hj'.2
  exact ⟨b, off, e, by rw [hc]; simp [List.getD, List.getElem?_take, hj'.1]⟩
theorem k_ft (w : World) : Calls Try.prog 20 #[.int .u64 (Pt : Nat)] w fun e w' => ∃ g cap, e = .returned (.slice (some ⟨g, 0, none⟩) 13 cap) ∧ 13 ≤ cap ∧ Rd w' (some ⟨g, 0, none⟩) [0, 3] ∧ Below w.heap.size w w' :=
  (free_rd 2 lt [0, 3, 4, 5, 6, 7, 8, 9, 10, 11, 12, 13, 14] (by kernel_rfl) Wt w).mono fun e w' ⟨a, cap, h1, h2, h3, h4, h5⟩ => by
    obtain ⟨g, rfl⟩ := h4 (by simp)
    exact ⟨g, cap, h1, h2, rd_take h3 2, h5⟩
theorem k_fv (w : World) : Calls Try.prog 20 #[.int .u64 (Pv : Nat)] w fun e w' => ∃ g cap, e = .returned (.slice (some ⟨g, 0, none⟩) 13 cap) ∧ 13 ≤ cap ∧ Rd w' (some ⟨g, 0, none⟩) [1, 3] ∧ Below w.heap.size w w' :=
  (free_rd 2 lv [1, 3, 4, 5, 6, 7, 8, 9, 10, 11, 12, 13, 14] (by kernel_rfl) Wv w).mono fun e w' ⟨a, cap, h1, h2, h3, h4, h5⟩ => by
    obtain ⟨g, rfl⟩ := h4 (by simp)
    exact ⟨g, cap, h1, h2, rd_take h3 2, h5⟩
theorem k_o1 (a : Option Addr) (cap : Nat) (w : World) (h : Rd w a [1, 1]) : Calls Try.prog 14 #[.slice a 2 cap] w fun e w' => e = .returned (.tuple #[.int .u64 0, .int .i64 2]) ∧ Below w.heap.size w w' := by
  have := of_law a [1, 1] cap (by simp) w h
  rwa [show ofV [1, 1] = (0, 2) from by kernel_rfl] at this
theorem k_o2 (a : Option Addr) (cap : Nat) (w : World) (h : Rd w a [2, 0]) : Calls Try.prog 14 #[.slice a 2 cap] w fun e w' => e = .returned (.tuple #[.int .u64 (Pv : Nat), .int .i64 0]) ∧ Below w.heap.size w w' := by
  have := of_law a [2, 0] cap (by simp) w h
  rwa [show ofV [2, 0] = (Pv, 0) from by kernel_rfl] at this
theorem same_true (a b : Option Addr) (L : List Int) (n ca cb : Nat) (hn : L.length = n) (hl : n ≤ 1048576) (w : World) (hA : Rd w a L) (hB : Rd w b L) :
    Calls Try.prog 18 #[.slice a n ca, .slice b n cb] w fun e w' => e = .returned (.bool true) ∧ Below w.heap.size w w' := by
  subst hn
  have := sameints_law a b L L ca cb hl w hA hB
  rwa [decide_eq_true rfl] at this
theorem cell_new (w : World) (cs : Array Value) (t : TypeId) (fr : Nat × Nat) (k : Nat) : (w.alloc (.cells cs t fr)).cell? ⟨w.heap.size, k, none⟩ = cs[k]? := by
  have h := World.alloc_heap_new w (.cells cs t fr)
  simp only [World.cell?]
  rw [h]
  simp
theorem rd_new (w : World) (L : List Int) (cs : Array Value) (t : TypeId) (fr : Nat × Nat) (h : cs = (L.map fun x => .int .i64 x).toArray) : Rd (w.alloc (.cells cs t fr)) (some ⟨w.heap.size, 0, none⟩) L := fun k hk =>
  ⟨_, _, rfl, by rw [cell_new, Nat.zero_add, h]; simp [List.getD, List.getElem?_eq_getElem hk]⟩

set_option maxRecDepth 100000 in
set_option maxHeartbeats 4000000 in
theorem known_law (w : World) : Calls Try.prog 8 #[] w fun e w' => e = .returned (.bool true) ∧ Below w.heap.size w w' := by
  go_enter Try.func8, Try.ntmps8
  go_wp2_with fail
  refine (first_law _).mono ?_; rintro e w1 ⟨rfl, B1⟩
  go_wp2_with fail
  refine (k_at _).mono ?_; rintro e w2 ⟨rfl, B2⟩
  replace B2 := step_below B1 B2
  clear B1
  go_wp2_with fail
  refine (k_i1 _).mono ?_; rintro e w3 ⟨rfl, B3⟩
  replace B3 := step_below B2 B3
  clear B2
  go_wp2_with fail
  refine (k_i2 _).mono ?_; rintro e w4 ⟨rfl, B4⟩
  replace B4 := step_below B3 B4
  clear B3
  go_wp2_with fail
  refine (k_u2 _).mono ?_; rintro e w5 ⟨a2, c2, rfl, R2, B5⟩
  replace B5 := step_below B4 B5
  clear B4
  replace R2 := Lib.hid R2
  go_wp2_with fail
  refine (k_i3 _).mono ?_; rintro e w6 ⟨rfl, B6⟩
  replace R2 := Lib.hid (R2.out.below B6)
  replace B6 := step_below B5 B6
  clear B5
  go_wp2_with fail
  refine (k_i4 _).mono ?_; rintro e w7 ⟨rfl, B7⟩
  replace R2 := Lib.hid (R2.out.below B7)
  replace B7 := step_below B6 B7
  clear B6
  go_wp2_with fail
  refine (k_i5 _).mono ?_; rintro e w8 ⟨rfl, B8⟩
  replace R2 := Lib.hid (R2.out.below B8)
  replace B8 := step_below B7 B8
  clear B7
  go_wp2_with fail
  refine (k_r _).mono ?_; rintro e w9 ⟨rfl, B9⟩
  replace R2 := Lib.hid (R2.out.below B9)
  replace B9 := step_below B8 B9
  clear B8
  go_wp2_with fail
  refine (k_c _).mono ?_; rintro e w10 ⟨ac, cc, rfl, Rc, B10⟩
  replace R2 := Lib.hid (R2.out.below B10)
  replace B10 := step_below B9 B10
  replace Rc := Lib.hid Rc
  clear B9
  go_wp2_with fail
  refine (k_o1 _ _ _ (rd_new _ _ _ _ _ rfl)).mono ?_; rintro e w11 ⟨rfl, B11⟩
  replace B11 := step_below ((Below.refl _ _).alloc (Nat.le_refl _) _) B11
  replace R2 := Lib.hid (R2.out.below B11)
  replace Rc := Lib.hid (Rc.out.below B11)
  replace B11 := step_below B10 B11
  clear B10
  go_wp2_with fail
  refine (k_o2 _ _ _ (rd_new _ _ _ _ _ rfl)).mono ?_; rintro e w12 ⟨rfl, B12⟩
  replace B12 := step_below ((Below.refl _ _).alloc (Nat.le_refl _) _) B12
  replace R2 := Lib.hid (R2.out.below B12)
  replace Rc := Lib.hid (Rc.out.below B12)
  replace B12 := step_below B11 B12
  clear B11
  go_wp2_with fail
  refine (k_m0 _).mono ?_; rintro e w13 ⟨rfl, B13⟩
  replace R2 := Lib.hid (R2.out.below B13)
  replace Rc := Lib.hid (Rc.out.below B13)
  replace B13 := step_below B12 B13
  clear B12
  go_wp2_with fail
  refine (k_mz _).mono ?_; rintro e w14 ⟨rfl, B14⟩
  replace R2 := Lib.hid (R2.out.below B14)
  replace Rc := Lib.hid (Rc.out.below B14)
  replace B14 := step_below B13 B14
  clear B13
  go_wp2_with fail
  refine (k_cn _).mono ?_; rintro e w15 ⟨rfl, B15⟩
  replace R2 := Lib.hid (R2.out.below B15)
  replace Rc := Lib.hid (Rc.out.below B15)
  replace B15 := step_below B14 B15
  clear B14
  go_wp2_with fail
  refine (num_law _ _).mono ?_; rintro e w' ⟨rfl, rfl⟩
  go_wp2_with fail
  refine (num_law _ _).mono ?_; rintro e w' ⟨rfl, rfl⟩
  go_wp2_with fail
  refine (num_law _ _).mono ?_; rintro e w' ⟨rfl, rfl⟩
  go_wp2_with fail
  refine (num_law _ _).mono ?_; rintro e w' ⟨rfl, rfl⟩
  go_wp2_with fail
  refine (num_law _ _).mono ?_; rintro e w' ⟨rfl, rfl⟩
  go_wp2_with fail
  refine (num_law _ _).mono ?_; rintro e w' ⟨rfl, rfl⟩
  go_wp2_with fail
  refine (num_law _ _).mono ?_; rintro e w' ⟨rfl, rfl⟩
  go_wp2_with fail
  refine (same_true _ _ [1, 0] 2 _ _ rfl (by omega) _ (R2.out.below ((Below.refl _ _).alloc (Nat.le_refl _) _)) (rd_new _ [1, 0] _ _ _ rfl)).mono ?_; rintro e w16 ⟨rfl, B16⟩
  clear R2
  replace B16 := step_below ((Below.refl _ _).alloc (Nat.le_refl _) _) B16
  replace Rc := Lib.hid (Rc.out.below B16)
  replace B16 := step_below B15 B16
  clear B15
  go_wp2_with fail
  refine (num_law _ _).mono ?_; rintro e w' ⟨rfl, rfl⟩
  go_wp2_with fail
  refine (k_u3 _).mono ?_; rintro e w17 ⟨aR3, cR3, rfl, R3, B17⟩
  replace Rc := Lib.hid (Rc.out.below B17)
  replace B17 := step_below B16 B17
  clear B16
  replace R3 := Lib.hid R3
  go_wp2_with fail
  refine (same_true _ _ [1, 0, 2] 3 _ _ rfl (by omega) _ (R3.out.below ((Below.refl _ _).alloc (Nat.le_refl _) _)) (rd_new _ [1, 0, 2] _ _ _ rfl)).mono ?_; rintro e w18 ⟨rfl, B18⟩
  clear R3
  replace B18 := step_below ((Below.refl _ _).alloc (Nat.le_refl _) _) B18
  replace Rc := Lib.hid (Rc.out.below B18)
  replace B18 := step_below B17 B18
  clear B17
  go_wp2_with fail
  refine (num_law _ _).mono ?_; rintro e w' ⟨rfl, rfl⟩
  go_wp2_with fail
  refine (k_ut _).mono ?_; rintro e w19 ⟨aRt, cRt, rfl, Rt, B19⟩
  replace Rc := Lib.hid (Rc.out.below B19)
  replace B19 := step_below B18 B19
  clear B18
  replace Rt := Lib.hid Rt
  go_wp2_with fail
  refine (same_true _ _ [1, 2] 2 _ _ rfl (by omega) _ (Rt.out.below ((Below.refl _ _).alloc (Nat.le_refl _) _)) (rd_new _ [1, 2] _ _ _ rfl)).mono ?_; rintro e w20 ⟨rfl, B20⟩
  clear Rt
  replace B20 := step_below ((Below.refl _ _).alloc (Nat.le_refl _) _) B20
  replace Rc := Lib.hid (Rc.out.below B20)
  replace B20 := step_below B19 B20
  clear B19
  go_wp2_with fail
  refine (k_ft _).mono ?_; rintro e w21 ⟨gRf, cRf, rfl, hRf, Rf, B21⟩
  replace Rc := Lib.hid (Rc.out.below B21)
  replace B21 := step_below B20 B21
  clear B20
  replace Rf := Lib.hid Rf
  go_wp2_with fail
  refine (same_true _ _ [0, 3] 2 _ _ rfl (by omega) _ (Rf.out.below ((Below.refl _ _).alloc (Nat.le_refl _) _)) (rd_new _ [0, 3] _ _ _ rfl)).mono ?_; rintro e w22 ⟨rfl, B22⟩
  clear Rf
  replace B22 := step_below ((Below.refl _ _).alloc (Nat.le_refl _) _) B22
  replace Rc := Lib.hid (Rc.out.below B22)
  replace B22 := step_below B21 B22
  clear B21
  go_wp2_with fail
  refine (k_uu _).mono ?_; rintro e w23 ⟨aRu, cRu, rfl, Ru, B23⟩
  replace Rc := Lib.hid (Rc.out.below B23)
  replace B23 := step_below B22 B23
  clear B22
  replace Ru := Lib.hid Ru
  go_wp2_with fail
  refine (same_true _ _ [1] 1 _ _ rfl (by omega) _ (Ru.out.below ((Below.refl _ _).alloc (Nat.le_refl _) _)) (rd_new _ [1] _ _ _ rfl)).mono ?_; rintro e w24 ⟨rfl, B24⟩
  clear Ru
  replace B24 := step_below ((Below.refl _ _).alloc (Nat.le_refl _) _) B24
  replace Rc := Lib.hid (Rc.out.below B24)
  replace B24 := step_below B23 B24
  clear B23
  go_wp2_with fail
  refine (same_true _ _ [0, 2] 2 _ _ rfl (by omega) _ (Rc.out.below ((Below.refl _ _).alloc (Nat.le_refl _) _)) (rd_new _ [0, 2] _ _ _ rfl)).mono ?_; rintro e w25 ⟨rfl, B25⟩
  clear Rc
  replace B25 := step_below ((Below.refl _ _).alloc (Nat.le_refl _) _) B25
  replace B25 := step_below B24 B25
  clear B24
  go_wp2_with fail
  refine (num_law _ _).mono ?_; rintro e w' ⟨rfl, rfl⟩
  go_wp2_with fail
  refine (k_fv _).mono ?_; rintro e w26 ⟨gRg, cRg, rfl, hRg, Rg, B26⟩
  replace B26 := step_below B25 B26
  clear B25
  replace Rg := Lib.hid Rg
  go_wp2_with fail
  refine (same_true _ _ [1, 3] 2 _ _ rfl (by omega) _ (Rg.out.below ((Below.refl _ _).alloc (Nat.le_refl _) _)) (rd_new _ [1, 3] _ _ _ rfl)).mono ?_; rintro e w27 ⟨rfl, B27⟩
  clear Rg
  replace B27 := step_below ((Below.refl _ _).alloc (Nat.le_refl _) _) B27
  replace B27 := step_below B26 B27
  clear B26
  go_wp2_with fail
  go_ret
  exact ⟨rfl, B27⟩
end Go.Proofs.Ytochdmdojcfceaa
