/- Arenas: the chapter's rows. -/
import Derived.Test.YtbjhcbiihekceaaCft
namespace Go.Proofs.Ytbjhcbiihekceaa
open Go.ChangeShapes Go.WideShapes Go.ChangeAt Go.RowKit Go.Maps
set_option linter.unusedVariables false
set_option linter.unusedSimpArgs false
variable {p bc bm n m : Nat} {f : Nat → Int} {g : Nat → Bool} {D : DataW Unit} {w W : World}
theorem Least.uni {g : Nat → Bool} {N k a b : Nat} (h : Least g N k a) (h' : Least g N k b) : a = b := Nat.le_antisymm (h.2 b h'.1) (h'.2 a h.1)
/-- An arena of 1024 cells that stands in new blocks. -/
structure Kn (w : World) (p bc bm m : Nat) (f : Nat → Int) (g : Nat → Bool) (D : DataW Unit) (W : World) : Prop where
  ar : Ar W p bc bm 1024 m f g D
  bel : Below w.heap.size w W
  bc : w.heap.size ≤ bc
  bm : w.heap.size ≤ bm
theorem Kn.off (h : Kn w p bc bm m f g D W) {W' : World} {m' : Nat} {f' : Nat → Int} {g' : Nat → Bool} {D' : DataW Unit} (a : Ar W' p bc bm 1024 m' f' g' D') (o : Off (fun j => j = bc ∨ j = bm) W W') : Kn w p bc bm m' f' g' D' W' :=
  ⟨a, o.below h.bel h.bel.size (fun k e => by have := h.bc; have := h.bm; omega), h.bc, h.bm⟩
theorem Kn.below (h : Kn w p bc bm m f g D W) {W' : World} (b : Below W.heap.size W W') : Kn w p bc bm m f g D W' := ⟨h.ar.below b, step_below h.bel b, h.bc, h.bm⟩
theorem kn_new (w : World) : Calls Try.prog 29 #[.int .i64 1024] w fun e w' => ∃ p bc bm : Nat, e = .returned (.tuple #[.pointer (some ⟨p, 0, none⟩), .int .i64 0]) ∧ Kn w p bc bm 0 (fun _ => 0) (fun _ => false) (.map []) w' := by
  refine (new_law 1024 (by omega) (by omega) w).mono ?_
  rintro e w' ⟨rfl, hA, hB⟩
  exact ⟨_, _, _, rfl, hA, hB, Nat.le_refl _, by omega⟩
theorem kn_take (h : Kn w p bc bm m f g D W) (k a : Nat) (hk : 1 ≤ k) (hk2 : k ≤ 256) (hm : m < 1000000) (hl : Least g 1024 k a) : Calls Try.prog 34 #[.pointer (some ⟨p, 0, none⟩), .int .i64 k] W fun e W' => e = .returned (.tuple #[.int .u64 a, .int .i64 0]) ∧ Kn w p bc bm (m + 1) (fill f a k 0) (fill g a k true) (D.put (.int .u64 a) (.lit (.int .i64 k))) W' := by
  refine (take_law h.ar k hk hk2 hm).mono ?_
  rintro e W' (⟨b, hb, rfl, hA, hO⟩ | ⟨hno, _⟩)
  · obtain rfl := hb.uni hl
    exact ⟨rfl, h.off hA hO⟩
  · exact absurd hl.1 (hno a)
theorem kn_store (h : Kn w p bc bm m f g D W) (i : Nat) (hi : i < 1024) (x : Int) : Calls Try.prog 37 #[.pointer (some ⟨p, 0, none⟩), .int .u64 i, .int .u64 x] W fun e W' => e = .returned (.int .i64 0) ∧ Kn w p bc bm m (upd f i x) g D W' := by
  refine (store_law h.ar i hi x).mono ?_
  rintro e W' ⟨rfl, hA, hO⟩
  exact ⟨rfl, h.off hA hO.two⟩
theorem kn_swap (h : Kn w p bc bm m f g D W) (i : Nat) (hi : i < 1024) (a b : Int) : Calls Try.prog 42 #[.pointer (some ⟨p, 0, none⟩), .int .u64 i, .int .u64 a, .int .u64 b] W fun e W' => e = .returned (.tuple #[.int .u64 (f i), .bool (f i == a), .int .i64 0]) ∧ Kn w p bc bm m (swF f i a b) g D W' := by
  refine (swap_law h.ar i hi a b).mono ?_
  rintro e W' ⟨rfl, hA, hO⟩
  exact ⟨rfl, h.off hA hO.two⟩
theorem kn_add (h : Kn w p bc bm m f g D W) (i : Nat) (hi : i < 1024) (x : Int) : Calls Try.prog 41 #[.pointer (some ⟨p, 0, none⟩), .int .u64 i, .int .u64 x] W fun e W' => e = .returned (.tuple #[.int .u64 (IntKind.u64.wrap (f i + x)), .int .i64 0]) ∧ Kn w p bc bm m (upd f i (IntKind.u64.wrap (f i + x))) g D W' := by
  refine (add_law h.ar i hi x).mono ?_
  rintro e W' ⟨rfl, hA, hO⟩
  exact ⟨rfl, h.off hA hO.two⟩
theorem kn_load (h : Kn w p bc bm m f g D W) (i : Nat) (hi : i < 1024) : Calls Try.prog 35 #[.pointer (some ⟨p, 0, none⟩), .int .u64 i] W fun e W' => e = .returned (.tuple #[.int .u64 (f i), .int .i64 0]) ∧ Kn w p bc bm m f g D W' := by
  refine (load_law h.ar i hi).mono ?_
  rintro e W' ⟨rfl, hB⟩
  exact ⟨rfl, h.below hB⟩
theorem kn_loadno (h : Kn w p bc bm m f g D W) : Calls Try.prog 35 #[.pointer (some ⟨p, 0, none⟩), .int .u64 1024] W fun e W' => e = .returned (.tuple #[.int .u64 0, .int .i64 2]) ∧ Kn w p bc bm m f g D W' := by
  refine (load_no h.ar 1024 (Nat.le_refl _)).mono ?_
  rintro e W' ⟨rfl, hB⟩
  exact ⟨rfl, h.below hB⟩
theorem kn_bad (h : Kn w p bc bm m f g D W) (k : Int) (hk : k < 1 ∨ 256 < k) : Calls Try.prog 34 #[.pointer (some ⟨p, 0, none⟩), .int .i64 k] W fun e W' => e = .returned (.tuple #[.int .u64 0, .int .i64 2]) ∧ Kn w p bc bm m f g D W' := by
  refine (take_bad h.ar k hk).mono ?_
  rintro e W' ⟨rfl, rfl⟩
  exact ⟨rfl, h⟩
theorem kn_give (h : Kn w p bc bm m f g D W) (a k : Nat) (hk : a + k ≤ 1024) (hD : D.atKey (.int .u64 a) (.lit (.int .i64 0)) = .lit (.int .i64 k)) (hH : Maps.has D (.int .u64 a) = true) : Calls Try.prog 38 #[.pointer (some ⟨p, 0, none⟩), .int .u64 a] W fun e W' => e = .returned (.tuple #[.int .i64 k, .int .i64 0]) ∧ Kn w p bc bm m (fill f a k 18446744073709494610) (fill g a k false) (D.del (.int .u64 a)) W' := by
  refine (give_law h.ar a k hk hD hH).mono ?_
  rintro e W' ⟨rfl, hA, hO⟩
  exact ⟨rfl, h.off hA hO⟩
theorem kn_giveno (h : Kn w p bc bm m f g D W) (a : Nat) (ha : a < 18446744073709551616) (hH : Maps.has D (.int .u64 a) = false) : Calls Try.prog 38 #[.pointer (some ⟨p, 0, none⟩), .int .u64 a] W fun e W' => e = .returned (.tuple #[.int .i64 0, .int .i64 6]) ∧ Kn w p bc bm m f g D W' := by
  refine (give_no h.ar a ha hH).mono ?_
  rintro e W' ⟨rfl, rfl⟩
  exact ⟨rfl, h⟩
theorem kn_free (h : Kn w p bc bm m f g D W) (a c : Nat) (va vc : Int) (hD : D2 D a c va vc) (h1 : 0 ≤ va) (h2 : va ≤ 256) (h3 : 0 ≤ vc) (h4 : vc ≤ 256) : Calls Try.prog 43 #[.pointer (some ⟨p, 0, none⟩)] W fun e W' => e = .returned (.int .i64 (1024 - 64 - va - vc)) ∧ Kn w p bc bm m f g D W' := by
  refine (free_law h.ar a c va vc hD h1 h2 h3 h4).mono ?_
  rintro e W' ⟨rfl, hB⟩
  exact ⟨rfl, h.below hB⟩
/-- The chapter's pieces. -/
def dA : DataW Unit := (DataW.map []).put (.int .u64 ((64 : Nat) : Int)) (.lit (.int .i64 ((3 : Nat) : Int)))
def dB : DataW Unit := dA.put (.int .u64 ((67 : Nat) : Int)) (.lit (.int .i64 ((2 : Nat) : Int)))
def g0 : Nat → Bool := fun _ => false
def gA : Nat → Bool := fill g0 64 3 true
def gB : Nat → Bool := fill gA 67 2 true
def gC : Nat → Bool := fill gB 64 3 false
def gD : Nat → Bool := fill gC 69 4 true
theorem gA_eq (j : Nat) : gA j = decide (64 ≤ j ∧ j < 67) := by
  unfold gA fill g0
  by_cases h : 64 ≤ j ∧ j < 64 + 3
  · rw [if_pos h, decide_eq_true (by omega)]
  · rw [if_neg h, decide_eq_false (by omega)]
theorem gB_eq (j : Nat) : gB j = decide (64 ≤ j ∧ j < 69) := by
  unfold gB fill
  by_cases h : 67 ≤ j ∧ j < 67 + 2
  · rw [if_pos h, decide_eq_true (by omega)]
  · rw [if_neg h, gA_eq]
    exact decide_eq_decide.2 (by omega)
theorem gC_eq (j : Nat) : gC j = decide (67 ≤ j ∧ j < 69) := by
  unfold gC fill
  by_cases h : 64 ≤ j ∧ j < 64 + 3
  · rw [if_pos h, decide_eq_false (by omega)]
  · rw [if_neg h, gB_eq]
    exact decide_eq_decide.2 (by omega)
theorem gD_eq (j : Nat) : gD j = decide (67 ≤ j ∧ j < 73) := by
  unfold gD fill
  by_cases h : 69 ≤ j ∧ j < 69 + 4
  · rw [if_pos h, decide_eq_true (by omega)]
  · rw [if_neg h, gC_eq]
    exact decide_eq_decide.2 (by omega)
theorem room_dec {g : Nat → Bool} {lo hi N k : Nat} (hg : ∀ j, g j = decide (lo ≤ j ∧ j < hi)) (a : Nat) (ha : 64 ≤ a) (hN : a + k ≤ N) (hd : a + k ≤ lo ∨ hi ≤ a) : Room g N k a := ⟨ha, hN, fun j h1 h2 => by rw [hg]; exact decide_eq_false (by omega)⟩
theorem no_dec {g : Nat → Bool} {lo hi N k a j : Nat} (hg : ∀ j, g j = decide (lo ≤ j ∧ j < hi)) (h : Room g N k a) (h1 : a ≤ j) (h2 : j < a + k) (h3 : lo ≤ j) (h4 : j < hi) : False := by
  have := h.2.2 j h1 h2
  rw [hg, decide_eq_true ⟨h3, h4⟩] at this
  cases this
theorem l0 : Least g0 1024 3 64 := ⟨⟨by omega, by omega, fun _ _ _ => rfl⟩, fun b hb => hb.1⟩
theorem lA : Least gA 1024 2 67 := ⟨room_dec gA_eq 67 (by omega) (by omega) (by omega), fun b hb => Nat.le_of_not_lt fun h => no_dec gA_eq hb (j := b) (Nat.le_refl _) (by omega) hb.1 (by omega)⟩
theorem lC : Least gC 1024 4 69 := ⟨room_dec gC_eq 69 (by omega) (by omega) (by omega), fun b hb => Nat.le_of_not_lt fun h => by
  have := hb.1
  by_cases e : b = 68
  · exact no_dec gC_eq hb (j := 68) (by omega) (by omega) (by omega) (by omega)
  · exact no_dec gC_eq hb (j := 67) (by omega) (by omega) (by omega) (by omega)⟩
theorem lD : Least gD 1024 3 64 := ⟨room_dec gD_eq 64 (by omega) (by omega) (by omega), fun b hb => hb.1⟩
theorem kl (x : Int) : WideAt.IsKeyLit (.int .u64 x) := trivial
theorem mA : IsMap dA := isMap_empty.put _ _
theorem tA : Tidy dA := tidy_empty.put (kl _) _
theorem ne_lit {x y : Int} (h : x ≠ y) : (Lit.int .u64 x) ≠ .int .u64 y := fun e => by injection e with _ e; exact h e
theorem hasB (x : Int) : Maps.has dB (.int .u64 x) = true ↔ x = ((64 : Nat) : Int) ∨ x = ((67 : Nat) : Int) := by
  unfold dB
  by_cases h : x = ((67 : Nat) : Int)
  · subst h
    rw [has_put_same mA (kl _)]
    simp
  · rw [has_put_other (ne_lit h)]
    unfold dA
    by_cases h2 : x = ((64 : Nat) : Int)
    · subst h2
      rw [has_put_same isMap_empty (kl _)]
      simp
    · rw [has_put_other (ne_lit h2)]
      exact ⟨fun e => by simp [Maps.has] at e, fun e => by omega⟩
theorem atB64 (z : DataW Unit) : dB.atKey (.int .u64 ((64 : Nat) : Int)) z = .lit (.int .i64 ((3 : Nat) : Int)) := by
  unfold dB
  rw [atKey_put_other (ne_lit (by decide))]
  unfold dA
  rw [atKey_put_same isMap_empty (kl _)]
theorem atB67 (z : DataW Unit) : dB.atKey (.int .u64 ((67 : Nat) : Int)) z = .lit (.int .i64 ((2 : Nat) : Int)) := by
  unfold dB
  rw [atKey_put_same mA (kl _)]
theorem d2B : D2 dB 64 67 ((3 : Nat) : Int) ((2 : Nat) : Int) := by
  refine ⟨by omega, by omega, hasB, ?_, atB64 _, atB67 _⟩
  have h1 : Maps.has dA (.int .u64 ((67 : Nat) : Int)) = false := by
    unfold dA
    rw [has_put_other (ne_lit (by decide))]
    rfl
  have h2 : Maps.size dA = 1 := by
    unfold dA
    rw [size_put tidy_empty]
    rfl
  unfold dB
  rw [size_put tA, h1, h2]
  rfl

def f2 : Nat → Int := fill (fill (fun _ => 0) 64 3 0) 67 2 0
def fE : Nat → Int := fill (upd (upd (upd f2 64 5) 64 9) 64 8) 64 3 18446744073709494610
set_option maxRecDepth 100000 in
set_option maxHeartbeats 4000000 in
theorem known_law (w : World) : Calls Try.prog 31 #[] w fun e w' => e = .returned (.bool true) ∧ Below w.heap.size w w' := by
  go_enter Try.func31, Try.ntmps31
  go_wp2_with fail
  refine (kn_new w).mono ?_
  rintro e W1 ⟨p, bc, bm, rfl, h1⟩
  replace h1 := Lib.hid h1
  go_wp2_with fail
  refine (kn_take h1.out 3 64 (by omega) (by omega) (by omega) l0).mono ?_
  rintro e W2 ⟨rfl, h2⟩
  clear h1
  replace h2 := Lib.hid h2
  go_wp2_with fail
  refine (kn_take h2.out 2 67 (by omega) (by omega) (by omega) lA).mono ?_
  rintro e W3 ⟨rfl, h3⟩
  clear h2
  replace h3 := Lib.hid (show Kn w p bc bm 2 f2 gB dB W3 from h3)
  go_wp2_with fail
  refine (kn_free h3.out 64 67 ((3 : Nat) : Int) ((2 : Nat) : Int) d2B (by omega) (by omega) (by omega) (by omega)).mono ?_
  rintro e W4 ⟨rfl, h4⟩
  clear h3
  replace h4 := Lib.hid h4
  go_wp2_with fail
  refine (kn_store h4.out 64 (by omega) 5).mono ?_
  rintro e W5 ⟨rfl, h5⟩
  clear h4
  replace h5 := Lib.hid (show Kn w p bc bm 2 (upd f2 64 5) gB dB W5 from h5)
  go_wp2_with fail
  refine (kn_swap h5.out 64 (by omega) 5 9).mono ?_
  rw [show (upd f2 64 5) 64 = 5 from upd_same _ _ _]
  rintro e W6 ⟨rfl, h6⟩
  clear h5
  replace h6 := Lib.hid (show Kn w p bc bm 2 (upd (upd f2 64 5) 64 9) gB dB W6 from (by have := h6; rwa [show swF (upd f2 64 5) 64 5 9 = upd (upd f2 64 5) 64 9 from if_pos (by simp [upd_same])] at this))
  go_wp2_with fail
  refine (kn_swap h6.out 64 (by omega) 5 7).mono ?_
  rw [show (upd (upd f2 64 5) 64 9) 64 = 9 from upd_same _ _ _]
  rintro e W7 ⟨rfl, h7⟩
  clear h6
  replace h7 := Lib.hid (show Kn w p bc bm 2 (upd (upd f2 64 5) 64 9) gB dB W7 from (by have := h7; rwa [show swF (upd (upd f2 64 5) 64 9) 64 5 7 = upd (upd f2 64 5) 64 9 from if_neg (by simp [upd_same])] at this))
  go_wp2_with fail
  refine (kn_add h7.out 64 (by omega) 18446744073709551615).mono ?_
  rw [show (upd (upd f2 64 5) 64 9) 64 = 9 from upd_same _ _ _, show IntKind.u64.wrap (9 + 18446744073709551615) = 8 from by decide]
  rintro e W8 ⟨rfl, h8⟩
  clear h7
  replace h8 := Lib.hid h8
  go_wp2_with fail
  refine (kn_give h8.out 64 3 (by omega) (atB64 _) ((hasB _).2 (Or.inl rfl))).mono ?_
  rintro e W9 ⟨rfl, h9⟩
  clear h8
  replace h9 := Lib.hid (show Kn w p bc bm 2 fE gC (dB.del (.int .u64 ((64 : Nat) : Int))) W9 from h9)
  go_wp2_with fail
  refine (kn_load h9.out 64 (by omega)).mono ?_
  rw [show fE 64 = 18446744073709494610 from rfl]
  rintro e W10 ⟨rfl, h10⟩
  clear h9
  replace h10 := Lib.hid h10
  go_wp2_with fail
  refine (kn_giveno h10.out 64 (by omega) has_del_same).mono ?_
  rintro e W11 ⟨rfl, h11⟩
  clear h10
  replace h11 := Lib.hid h11
  go_wp2_with fail
  refine (kn_take h11.out 4 69 (by omega) (by omega) (by omega) lC).mono ?_
  rintro e W12 ⟨rfl, h12⟩
  clear h11
  replace h12 := Lib.hid (show Kn w p bc bm 3 (fill fE 69 4 0) gD ((dB.del (.int .u64 ((64 : Nat) : Int))).put (.int .u64 ((69 : Nat) : Int)) (.lit (.int .i64 ((4 : Nat) : Int)))) W12 from h12)
  go_wp2_with fail
  refine (kn_take h12.out 3 64 (by omega) (by omega) (by omega) lD).mono ?_
  rintro e W13 ⟨rfl, h13⟩
  clear h12
  replace h13 := Lib.hid h13
  go_wp2_with fail
  refine (kn_loadno h13.out).mono ?_
  rintro e W14 ⟨rfl, h14⟩
  clear h13
  replace h14 := Lib.hid h14
  go_wp2_with fail
  refine (kn_bad h14.out 0 (by omega)).mono ?_
  rintro e W15 ⟨rfl, h15⟩
  clear h14
  replace h15 := Lib.hid h15
  go_wp2_with fail
  refine (kn_bad h15.out 257 (by omega)).mono ?_
  rintro e W16 ⟨rfl, h16⟩
  clear h15
  replace h16 := Lib.hid h16
  go_wp2_with fail
  go_ret
  exact ⟨rfl, h16.out.bel⟩
end Go.Proofs.Ytbjhcbiihekceaa
