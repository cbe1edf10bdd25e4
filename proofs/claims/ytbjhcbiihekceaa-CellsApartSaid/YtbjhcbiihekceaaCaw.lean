/- Arenas: words read and written. -/
import Derived.Test.YtbjhcbiihekceaaCam
namespace Go.Proofs.Ytbjhcbiihekceaa
open Go.ChangeShapes Go.WideShapes Go.ChangeAt Go.RowKit Go.Maps
set_option linter.unusedVariables false
set_option linter.unusedSimpArgs false
variable {p bc bm n m : Nat} {f : Nat → Int} {g : Nat → Bool} {D : DataW Unit}
theorem none_law {w : World} (h : Ar w p bc bm n m f g D) : Calls Try.prog 78 #[.pointer (some ⟨p, 0, none⟩)] w fun e w' => e = .returned (.bool false) ∧ w = w' := by
  have h0 := h.c0
  have h1 := h.nz
  clear h
  go_enter Try.func78, Try.ntmps78
  go_wp2
  go_ret
  exact ⟨rfl, rfl⟩
theorem has_law {w : World} (h : Ar w p bc bm n m f g D) (i : Nat) : Calls Try.prog 83 #[.pointer (some ⟨p, 0, none⟩), .int .u64 i] w fun e w' => e = .returned (.bool (decide (i < n))) ∧ w = w' := by
  have h0 := h.c0
  have hlo := h.hi
  have HH := Lib.hid h
  clear h
  go_enter Try.func83, Try.ntmps83
  go_wp2_with (go_at_call 78; refine (none_law HH.out).mono ?_; rintro e w' ⟨rfl, rfl⟩)
  go_ret
  exact ⟨ret_bool (by simp), rfl⟩
theorem l82 (w : World) (a b : Addr) (x y : Int) (h : w.cell? a = some (.int .u64 x)) (hb : w.cell? b = some (.int .u64 y)) (hf : w.frozen? b = false) : Calls Try.prog 82 #[.pointer (some a), .pointer (some b)] w fun e w' => e = .returned (.tuple #[]) ∧ w' = w.setCell b (.int .u64 x) := by
  go_enter Try.func82, Try.ntmps82
  go_wp2
  go_end0
  exact ⟨rfl, rfl⟩
theorem l84 (w : World) (a b : Addr) (x y : Int) (h : w.cell? a = some (.int .u64 x)) (hf : w.frozen? a = false) (hb : w.cell? b = some (.int .u64 y)) : Calls Try.prog 84 #[.pointer (some a), .pointer (some b)] w fun e w' => e = .returned (.tuple #[]) ∧ w' = w.setCell a (.int .u64 y) := by
  go_enter Try.func84, Try.ntmps84
  go_wp2
  go_end0
  exact ⟨rfl, rfl⟩
theorem ask_82 {w : World} (h : Ar w p bc bm n m f g D) (i : Nat) (hi : i < n) (b : Addr) (R : World → Prop) (hdo : Calls Try.prog 82 #[.pointer (some ⟨bc, i * 2, none⟩), .pointer (some b)] w fun e w' => e = .returned (.tuple #[]) ∧ R w') : Calls Try.prog 81 #[.pointer (some ⟨p, 0, none⟩), .int .u64 i, .func (.func 82) #[] #[.pointer (some b)]] w fun e w' => e = .returned (.int .i64 0) ∧ R w' := by
  have HH := Lib.hid h
  have h0 := h.c0
  have hD := Lib.hid hdo
  clear h hdo
  go_enter Try.func81, Try.ntmps81
  go_wp2_with (first | (go_at_call 78; refine (none_law HH.out).mono ?_; rintro e w' ⟨rfl, rfl⟩) | (go_at_call 83; refine (has_law HH.out _).mono ?_; rintro e w' ⟨rfl, rfl⟩) | (go_at_call 82; refine hD.out.mono ?_; rintro e w' ⟨rfl, hR⟩))
  go_ret
  exact ⟨rfl, hR⟩
theorem ask_82_no {w : World} (h : Ar w p bc bm n m f g D) (i : Nat) (hi : n ≤ i) (b : Addr) : Calls Try.prog 81 #[.pointer (some ⟨p, 0, none⟩), .int .u64 i, .func (.func 82) #[] #[.pointer (some b)]] w fun e w' => e = .returned (.int .i64 2) ∧ w = w' := by
  have HH := Lib.hid h
  have h0 := h.c0
  have hd : decide (i < n) = false := decide_eq_false (by omega)
  clear h
  go_enter Try.func81, Try.ntmps81
  go_wp2_with (first | (go_at_call 78; refine (none_law HH.out).mono ?_; rintro e w' ⟨rfl, rfl⟩) | (go_at_call 83; refine (has_law HH.out _).mono ?_; rintro e w' ⟨rfl, rfl⟩))
  go_ret
  exact ⟨rfl, rfl⟩
theorem ask_84 {w : World} (h : Ar w p bc bm n m f g D) (i : Nat) (hi : i < n) (b : Addr) (R : World → Prop) (hdo : Calls Try.prog 84 #[.pointer (some ⟨bc, i * 2, none⟩), .pointer (some b)] w fun e w' => e = .returned (.tuple #[]) ∧ R w') : Calls Try.prog 81 #[.pointer (some ⟨p, 0, none⟩), .int .u64 i, .func (.func 84) #[] #[.pointer (some b)]] w fun e w' => e = .returned (.int .i64 0) ∧ R w' := by
  have HH := Lib.hid h
  have h0 := h.c0
  have hD := Lib.hid hdo
  clear h hdo
  go_enter Try.func81, Try.ntmps81
  go_wp2_with (first | (go_at_call 78; refine (none_law HH.out).mono ?_; rintro e w' ⟨rfl, rfl⟩) | (go_at_call 83; refine (has_law HH.out _).mono ?_; rintro e w' ⟨rfl, rfl⟩) | (go_at_call 84; refine hD.out.mono ?_; rintro e w' ⟨rfl, hR⟩))
  go_ret
  exact ⟨rfl, hR⟩
theorem ask_84_no {w : World} (h : Ar w p bc bm n m f g D) (i : Nat) (hi : n ≤ i) (b : Addr) : Calls Try.prog 81 #[.pointer (some ⟨p, 0, none⟩), .int .u64 i, .func (.func 84) #[] #[.pointer (some b)]] w fun e w' => e = .returned (.int .i64 2) ∧ w = w' := by
  have HH := Lib.hid h
  have h0 := h.c0
  have hd : decide (i < n) = false := decide_eq_false (by omega)
  clear h
  go_enter Try.func81, Try.ntmps81
  go_wp2_with (first | (go_at_call 78; refine (none_law HH.out).mono ?_; rintro e w' ⟨rfl, rfl⟩) | (go_at_call 83; refine (has_law HH.out _).mono ?_; rintro e w' ⟨rfl, rfl⟩))
  go_ret
  exact ⟨rfl, rfl⟩
theorem ask_89 {w : World} (h : Ar w p bc bm n m f g D) (i : Nat) (hi : i < n) (b c : Addr) (R : World → Prop) (hdo : Calls Try.prog 89 #[.pointer (some ⟨bc, i * 2, none⟩), .pointer (some b), .pointer (some c)] w fun e w' => e = .returned (.tuple #[]) ∧ R w') : Calls Try.prog 81 #[.pointer (some ⟨p, 0, none⟩), .int .u64 i, .func (.func 89) #[] #[.pointer (some b), .pointer (some c)]] w fun e w' => e = .returned (.int .i64 0) ∧ R w' := by
  have HH := Lib.hid h
  have h0 := h.c0
  have hD := Lib.hid hdo
  clear h hdo
  go_enter Try.func81, Try.ntmps81
  go_wp2_with (first | (go_at_call 78; refine (none_law HH.out).mono ?_; rintro e w' ⟨rfl, rfl⟩) | (go_at_call 83; refine (has_law HH.out _).mono ?_; rintro e w' ⟨rfl, rfl⟩) | (go_at_call 89; refine hD.out.mono ?_; rintro e w' ⟨rfl, hR⟩))
  go_ret
  exact ⟨rfl, hR⟩
theorem ask_89_no {w : World} (h : Ar w p bc bm n m f g D) (i : Nat) (hi : n ≤ i) (b c : Addr) : Calls Try.prog 81 #[.pointer (some ⟨p, 0, none⟩), .int .u64 i, .func (.func 89) #[] #[.pointer (some b), .pointer (some c)]] w fun e w' => e = .returned (.int .i64 2) ∧ w = w' := by
  have HH := Lib.hid h
  have h0 := h.c0
  have hd : decide (i < n) = false := decide_eq_false (by omega)
  clear h
  go_enter Try.func81, Try.ntmps81
  go_wp2_with (first | (go_at_call 78; refine (none_law HH.out).mono ?_; rintro e w' ⟨rfl, rfl⟩) | (go_at_call 83; refine (has_law HH.out _).mono ?_; rintro e w' ⟨rfl, rfl⟩))
  go_ret
  exact ⟨rfl, rfl⟩
theorem ask_90 {w : World} (h : Ar w p bc bm n m f g D) (i : Nat) (hi : i < n) (b c d q : Addr) (R : World → Prop) (hdo : Calls Try.prog 90 #[.pointer (some ⟨bc, i * 2, none⟩), .pointer (some b), .pointer (some c), .pointer (some d), .pointer (some q)] w fun e w' => e = .returned (.tuple #[]) ∧ R w') : Calls Try.prog 81 #[.pointer (some ⟨p, 0, none⟩), .int .u64 i, .func (.func 90) #[] #[.pointer (some b), .pointer (some c), .pointer (some d), .pointer (some q)]] w fun e w' => e = .returned (.int .i64 0) ∧ R w' := by
  have HH := Lib.hid h
  have h0 := h.c0
  have hD := Lib.hid hdo
  clear h hdo
  go_enter Try.func81, Try.ntmps81
  go_wp2_with (first | (go_at_call 78; refine (none_law HH.out).mono ?_; rintro e w' ⟨rfl, rfl⟩) | (go_at_call 83; refine (has_law HH.out _).mono ?_; rintro e w' ⟨rfl, rfl⟩) | (go_at_call 90; refine hD.out.mono ?_; rintro e w' ⟨rfl, hR⟩))
  go_ret
  exact ⟨rfl, hR⟩
theorem ask_90_no {w : World} (h : Ar w p bc bm n m f g D) (i : Nat) (hi : n ≤ i) (b c d q : Addr) : Calls Try.prog 81 #[.pointer (some ⟨p, 0, none⟩), .int .u64 i, .func (.func 90) #[] #[.pointer (some b), .pointer (some c), .pointer (some d), .pointer (some q)]] w fun e w' => e = .returned (.int .i64 2) ∧ w = w' := by
  have HH := Lib.hid h
  have h0 := h.c0
  have hd : decide (i < n) = false := decide_eq_false (by omega)
  clear h
  go_enter Try.func81, Try.ntmps81
  go_wp2_with (first | (go_at_call 78; refine (none_law HH.out).mono ?_; rintro e w' ⟨rfl, rfl⟩) | (go_at_call 83; refine (has_law HH.out _).mono ?_; rintro e w' ⟨rfl, rfl⟩))
  go_ret
  exact ⟨rfl, rfl⟩
theorem load_law {w : World} (h : Ar w p bc bm n m f g D) (i : Nat) (hi : i < n) : Calls Try.prog 35 #[.pointer (some ⟨p, 0, none⟩), .int .u64 i] w fun e w' => e = .returned (.tuple #[.int .u64 (f i), .int .i64 0]) ∧ Below w.heap.size w w' := by
  have HH := Lib.hid (h.below (bl1 w (.cells #[.int .u64 0] 62)))
  have hw := HH.out.w hi
  have hX := BoxC.new w #[.int .u64 0] 62
  have HD := Lib.hid (l82 _ _ _ _ _ hw (hX.cell 0) (hX.frozen 0))
  clear h hX hw
  go_enter Try.func35, Try.ntmps35
  go_wp2_with (go_at_call 81; refine (ask_82 HH.out i hi _ _ HD.out).mono ?_; rintro e w' ⟨rfl, rfl⟩)
  go_ret2
  exact ⟨rfl, bl1 _ _⟩
theorem load_no {w : World} (h : Ar w p bc bm n m f g D) (i : Nat) (hi : n ≤ i) : Calls Try.prog 35 #[.pointer (some ⟨p, 0, none⟩), .int .u64 i] w fun e w' => e = .returned (.tuple #[.int .u64 0, .int .i64 2]) ∧ Below w.heap.size w w' := by
  have HH := Lib.hid (h.below (bl1 w (.cells #[.int .u64 0] 62)))
  clear h
  go_enter Try.func35, Try.ntmps35
  go_wp2_with (go_at_call 81; refine (ask_82_no HH.out i hi _).mono ?_; rintro e w' ⟨rfl, rfl⟩)
  go_ret2
  exact ⟨rfl, bl1 _ _⟩
theorem store_law {w : World} (h : Ar w p bc bm n m f g D) (i : Nat) (hi : i < n) (x : Int) : Calls Try.prog 37 #[.pointer (some ⟨p, 0, none⟩), .int .u64 i, .int .u64 x] w fun e w' => e = .returned (.int .i64 0) ∧ Ar w' p bc bm n m (upd f i x) g D ∧ Off (fun k => k = bc) w w' := by
  have HH := Lib.hid (h.below (bl1 w (.cells #[.int .u64 x] 62)))
  have hX := BoxC.new w #[.int .u64 x] 62
  have HD := Lib.hid (l84 _ _ _ _ _ (HH.out.w hi) (HH.out.row.frozen _) (hX.cell 0))
  clear h hX
  go_enter Try.func37, Try.ntmps37
  go_wp2_with (go_at_call 81; refine (ask_84 HH.out i hi _ _ HD.out).mono ?_; rintro e w' ⟨rfl, rfl⟩)
  go_ret
  exact ⟨rfl, HH.out.setw i x, (Off.of (S := fun k => k = bc) (bl1 _ _)).set ⟨bc, i * 2, none⟩ rfl _⟩
theorem store_no {w : World} (h : Ar w p bc bm n m f g D) (i : Nat) (hi : n ≤ i) (x : Int) : Calls Try.prog 37 #[.pointer (some ⟨p, 0, none⟩), .int .u64 i, .int .u64 x] w fun e w' => e = .returned (.int .i64 2) ∧ Below w.heap.size w w' := by
  have HH := Lib.hid (h.below (bl1 w (.cells #[.int .u64 x] 62)))
  clear h
  go_enter Try.func37, Try.ntmps37
  go_wp2_with (go_at_call 81; refine (ask_84_no HH.out i hi _).mono ?_; rintro e w' ⟨rfl, rfl⟩)
  go_ret
  exact ⟨rfl, bl1 _ _⟩
theorem taken_law {w : World} (h : Ar w p bc bm n m f g D) (i : Nat) : Calls Try.prog 36 #[.pointer (some ⟨p, 0, none⟩), .int .u64 i] w fun e w' => e = .returned (.bool (decide (i < n) && g i)) ∧ w = w' := by
  have HH := Lib.hid h
  have h0 := h.c0
  by_cases hi : i < n
  · have ht := h.t hi
    have hd : decide (i < n) = true := decide_eq_true hi
    clear h
    go_enter Try.func36, Try.ntmps36
    go_wp2_with (go_at_call 83; refine (has_law HH.out _).mono ?_; rintro e w' ⟨rfl, rfl⟩)
    go_ret
    exact ⟨ret_bool (by simp [hd]), rfl⟩
  · have hd : decide (i < n) = false := decide_eq_false hi
    clear h
    go_enter Try.func36, Try.ntmps36
    go_wp2_with (go_at_call 83; refine (has_law HH.out _).mono ?_; rintro e w' ⟨rfl, rfl⟩)
    go_ret
    exact ⟨ret_bool (by simp [hd]), rfl⟩
theorem size_law {w : World} (h : Ar w p bc bm n m f g D) : Calls Try.prog 75 #[.pointer (some ⟨p, 0, none⟩)] w fun e w' => e = .returned (.int .i64 n) ∧ w = w' := by
  have HH := Lib.hid h
  have h0 := h.c0
  clear h
  go_enter Try.func75, Try.ntmps75
  go_wp2_with (go_at_call 78; refine (none_law HH.out).mono ?_; rintro e w' ⟨rfl, rfl⟩)
  go_ret
  exact ⟨rfl, rfl⟩
end Go.Proofs.Ytbjhcbiihekceaa
