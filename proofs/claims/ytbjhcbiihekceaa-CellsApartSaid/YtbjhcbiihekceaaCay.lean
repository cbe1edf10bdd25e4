/- Arenas: New; where there is room; cells laid. -/
import Derived.Test.YtbjhcbiihekceaaCax
namespace Go.Proofs.Ytbjhcbiihekceaa
open Go.ChangeShapes Go.WideShapes Go.ChangeAt Go.RowKit Go.Maps
set_option linter.unusedVariables false
set_option linter.unusedSimpArgs false
variable {p bc bm n m : Nat} {f : Nat → Int} {g : Nat → Bool} {D : DataW Unit}
theorem new_law (n : Nat) (h1 : 1024 ≤ n) (h2 : n ≤ 65536) (w : World) : Calls Try.prog 29 #[.int .i64 n] w fun e w' => e = .returned (.tuple #[.pointer (some ⟨w.heap.size + 1 + 1, 0, none⟩), .int .i64 0]) ∧ Ar w' (w.heap.size + 1 + 1) w.heap.size (w.heap.size + 1) n 0 (fun _ => 0) (fun _ => false) (.map []) ∧ Below w.heap.size w w' := by
  have hk := mk_cells n h2
  have hmm := @run_makeMap Try.prog
  go_enter Try.func29, Try.ntmps29
  go_wp2
  go_ret2
  refine ⟨rfl, ⟨?_, ?_, ?_, h1, h2⟩, step_below (step_below (bl1 _ _) (bl1 _ _)) (bl1 _ _)⟩
  · have := BoxC.new ((w.alloc (.cells (cellsA n (fun _ => 0) (fun _ => false)) 146)).alloc (.map #[] 0)) #[.slice (some ⟨w.heap.size, 0, none⟩) n n, .map (some (w.heap.size + 1))] 135
    simpa using this
  · exact ((BoxC.new w _ 146).alloc _).alloc _
  · have := World.ownsMap_made (H := Unit) (w.alloc (.cells (cellsA n (fun _ => 0) (fun _ => false)) 146)) Try.prog 62 (plainElem Try.prog 3)
    simp only [World.size_alloc] at this
    exact this.alloc _
theorem new_bad (N : Int) (h1 : N < 1024 ∨ 65536 < N) (w : World) : Calls Try.prog 29 #[.int .i64 N] w fun e w' => e = .returned (.tuple #[.pointer none, .int .i64 2]) ∧ w = w' := by
  by_cases h : N < 1024
  · clear h1
    go_enter Try.func29, Try.ntmps29
    go_wp2
    go_ret2
    exact ⟨rfl, rfl⟩
  · have h2 : 65536 < N := by omega
    have h3 : ¬ N < 1024 := h
    clear h h1
    go_enter Try.func29, Try.ntmps29
    go_wp2
    go_ret2
    exact ⟨rfl, rfl⟩
/-- So many free cells stand there. -/
def Room (g : Nat → Bool) (N k a : Nat) : Prop := 64 ≤ a ∧ a + k ≤ N ∧ ∀ j, a ≤ j → j < a + k → g j = false
/-- The first place that has room. -/
def Least (g : Nat → Bool) (N k a : Nat) : Prop := Room g N k a ∧ ∀ b, Room g N k b → a ≤ b
/-- What the search has seen ahead of cell A: F free ones in a row, and no room. -/
structure Seen (g : Nat → Bool) (N k A F : Nat) : Prop where
  lo : 64 ≤ A
  hi : A ≤ N
  lt : F < k
  le : F + 64 ≤ A
  free : ∀ j, A ≤ j + F → j < A → g j = false
  edge : F + 64 = A ∨ g (A - F - 1) = true
  no : ∀ b, Room g N k b → A < b + k
theorem Seen.start (g : Nat → Bool) (N k : Nat) (hN : 64 ≤ N) (hk : 1 ≤ k) : Seen g N k 64 0 := ⟨Nat.le_refl _, hN, by omega, by omega, fun j h1 h2 => by omega, Or.inl rfl, fun b hb => by have := hb.1; omega⟩
theorem Seen.go {g : Nat → Bool} {N k A F : Nat} (h : Seen g N k A F) (hA : A < N) (hg : g A = false) (hF : F + 1 < k) : Seen g N k (A + 1) (F + 1) := by
  refine ⟨by have := h.lo; omega, by omega, hF, by have := h.le; omega, fun j h1 h2 => ?_, ?_, fun b hb => ?_⟩
  · by_cases e : j = A
    · rw [e]; exact hg
    · exact h.free j (by omega) (by omega)
  · rcases h.edge with e | e
    · exact Or.inl (by omega)
    · exact Or.inr (by rw [show A + 1 - (F + 1) - 1 = A - F - 1 by omega]; exact e)
  · have h1 := h.no b hb
    by_cases e : b + k = A + 1
    · rcases h.edge with e2 | e2
      · have := hb.1; omega
      · have hl := h.le
        have := hb.2.2 (A - F - 1) (by omega) (by omega)
        rw [e2] at this; cases this
    · omega
theorem Seen.halt {g : Nat → Bool} {N k A F : Nat} (h : Seen g N k A F) (hA : A < N) (hg : g A = true) : Seen g N k (A + 1) 0 := by
  refine ⟨by have := h.lo; omega, by omega, by have := h.lt; omega, by have := h.lo; omega, fun j h1 h2 => by omega, Or.inr (by simpa using hg), fun b hb => ?_⟩
  have h1 := h.no b hb
  by_cases e : b + k = A + 1
  · have hk := h.lt
    have := hb.2.2 A (by omega) (by omega)
    rw [hg] at this; cases this
  · omega
theorem Seen.hit {g : Nat → Bool} {N k A F : Nat} (h : Seen g N k A F) (hA : A < N) (hg : g A = false) (hF : F + 1 = k) : Least g N k (A + 1 - k) := by
  have hl := h.le
  refine ⟨⟨by omega, by omega, fun j h1 h2 => ?_⟩, fun b hb => by have := h.no b hb; omega⟩
  by_cases e : j = A
  · rw [e]; exact hg
  · exact h.free j (by omega) (by omega)
theorem Seen.none {g : Nat → Bool} {N k F : Nat} (h : Seen g N k N F) (b : Nat) : ¬ Room g N k b := fun hb => by
  have := h.no b hb
  have := hb.2.1
  omega
def RoomPost (g : Nat → Bool) (N k : Nat) (e : Ending) : Prop := (∃ a : Nat, Least g N k a ∧ e = .returned (.tuple #[.int .u64 a, .bool true])) ∨ ((∀ a, ¬ Room g N k a) ∧ ∃ x : Int, e = .returned (.tuple #[.int .u64 x, .bool false]))
theorem room_law {w : World} (h : Ar w p bc bm n m f g D) (k : Nat) (hk : 1 ≤ k) (hk2 : k ≤ 256) : Calls Try.prog 79 #[.pointer (some ⟨p, 0, none⟩), .int .i64 k] w fun e w' => RoomPost g n k e ∧ w = w' := by
  have HH := Lib.hid h
  have h0 := h.c0
  have hlo := h.lo
  have hhi := h.hi
  clear h
  go_enter Try.func79, Try.ntmps79
  go_wp2
  go_step3
  go_wp2_with fail
  go_step3
  go_wp2_with fail
  go_loop [6, 7] (fun fr at_ => ∃ F A : Nat, Hid (Seen g n k A F) ∧ F < k ∧ A ≤ n ∧ fr = .int .i64 (F : Int) ∧ at_ = .int .i64 (A : Int)) (fun _ at_ => n - (intOf at_).toNat)
  case atStart => exact ⟨0, 64, Lib.hid (Seen.start g n k (by omega) hk), hk, by omega, rfl, rfl⟩
  case round =>
    obtain ⟨F, A, HS, hF, hA, rfl, rfl⟩ := hrel
    by_cases hlt : A < n
    · have ht := HH.out.t hlt
      by_cases hg : g A = true
      · rw [hg] at ht
        have hz : ((0 : Int) == (k : Int)) = false := by simp; omega
        go_wp2
        go_round
        case rel => exact ⟨0, A + 1, Lib.hid (HS.out.halt hlt hg), hk, by omega, rfl, by go_num⟩
        case measure => simp [intOf]; omega
      · have hg' : g A = false := by simpa using hg
        rw [hg'] at ht
        by_cases he : F + 1 = k
        · have hz : ((F : Int) + 1 == (k : Int)) = true := by simp; omega
          have hq : (k : Int) ≤ A + 1 := by have := HS.out.le; omega
          have hv : ((A + 1 - k : Nat) : Int) = (A : Int) + 1 - k := by omega
          have HV := Lib.hid hv
          clear hv
          go_wp2
          try rw [Exit.noGoto_ret]
          go_ret2
          exact ⟨Or.inl ⟨A + 1 - k, HS.out.hit hlt hg' he, by rw [HV.out]; rfl⟩, rfl⟩
        · have hz : ((F : Int) + 1 == (k : Int)) = false := by simp; omega
          go_wp2
          go_round
          case rel => exact ⟨F + 1, A + 1, Lib.hid (HS.out.go hlt hg' (by omega)), by omega, by omega, by go_num, by go_num⟩
          case measure => simp [intOf]; omega
    · obtain rfl : A = n := by omega
      have hz : ((F : Int) == (k : Int)) = false := by simp; omega
      go_wp2
      try rw [Exit.noGoto_ret]
      go_ret2
      exact ⟨Or.inr ⟨HS.out.none, _, rfl⟩, rfl⟩

/-- From a on, k values are x. -/
def fill {α : Type} (f : Nat → α) (a k : Nat) (x : α) : Nat → α := fun j => if a ≤ j ∧ j < a + k then x else f j
theorem fill_zero {α : Type} (f : Nat → α) (a : Nat) (x : α) : fill f a 0 x = f := funext fun j => if_neg (by omega)
theorem fill_succ {α : Type} (f : Nat → α) (a k : Nat) (x : α) : fill f a (k + 1) x = upd (fill f a k x) (a + k) x := funext fun j => by
  show (if a ≤ j ∧ j < a + (k + 1) then x else f j) = if j = a + k then x else (if a ≤ j ∧ j < a + k then x else f j)
  by_cases e : j = a + k
  · subst e; rw [if_pos (by omega), if_pos rfl]
  · rw [if_neg e]
    by_cases h : a ≤ j ∧ j < a + k
    · rw [if_pos h, if_pos (by omega)]
    · rw [if_neg h, if_neg (by omega)]
set_option maxHeartbeats 1000000 in
theorem lay_law {w : World} (h : Ar w p bc bm n m f g D) (a k : Nat) (hk : a + k ≤ n) (x : Int) (t : Bool) : Calls Try.prog 80 #[.pointer (some ⟨p, 0, none⟩), .int .u64 a, .int .i64 k, .agg #[.int .u64 x, .bool t]] w fun e w' => e = .returned (.tuple #[]) ∧ Ar w' p bc bm n m (fill f a k x) (fill g a k t) D ∧ Off (fun j => j = bc) w w' := by
  have hX := BoxC.new w #[.int .u64 x, .bool t] 146
  have HH := Lib.hid (h.below (bl1 w (.cells #[.int .u64 x, .bool t] 146)))
  have hO := Lib.hid (Off.of (S := fun j => j = bc) (bl1 w (.cells #[.int .u64 x, .bool t] 146)))
  have hhi := h.hi
  have hblt := h.row.lt
  clear h
  go_enter Try.func80, Try.ntmps80
  go_wp2
  generalize w.alloc (.cells #[.int .u64 x, .bool t] 146) = W0 at hX HH hO ⊢
  have HX := Lib.hid hX
  clear hX
  go_loopw [10] (fun i wr => ∃ j : Nat, j ≤ k ∧ i = .int .i64 (j : Int) ∧ Hid (Ar wr p bc bm n m (fill f a j x) (fill g a j t) D ∧ Off (fun j => j = bc) w wr ∧ BoxC wr w.heap.size #[.int .u64 x, .bool t] 146)) (fun i _ => k - (intOf i).toNat)
  case atStart => exact ⟨0, Nat.zero_le _, rfl, Lib.hid ⟨by rw [fill_zero, fill_zero]; exact HH.out, hO.out, HX.out⟩⟩
  case round =>
    obtain ⟨j, hj, rfl, HR⟩ := hrel
    by_cases hlt : j < k
    · have c0 := HR.out.1.c0
      have x0 := HR.out.2.2.cell 0
      have x1 := HR.out.2.2.cell 1
      have d0 := HR.out.1.w (i := a + j) (by omega)
      have d1 := HR.out.1.t (i := a + j) (by omega)
      have f0 := HR.out.1.row.frozen ((a + j) * 2)
      have f1 := HR.out.1.row.frozen ((a + j) * 2 + 1)
      clear hj
      go_wp2
      go_region
      all_goals
        go_wp2
        go_roundw
        case rel => exact ⟨j + 1, by omega, by go_num, Lib.hid ⟨by rw [fill_succ, fill_succ]; exact ((HR.out.1.setw (a + j) x).sett (a + j) t).drew, ((HR.out.2.1.set ⟨bc, (a + j) * 2, none⟩ rfl _).set ⟨bc, (a + j) * 2 + 1, none⟩ rfl _).drew, ((HR.out.2.2.oth (by omega)).oth (by omega)).below (Below.drew (Below.refl _ _))⟩⟩
        case measure => simp [intOf]; omega
    · obtain rfl : j = k := by omega
      go_wp2
      go_end0
      exact ⟨rfl, HR.out.1, HR.out.2.1⟩

theorem Off.two {W W' : World} (h : Off (fun j => j = bc) W W') : Off (fun j => j = bc ∨ j = bm) W W' := h.mono fun k e => Or.inl e
/-- What a piece more makes of an arena. -/
def TakePost (W : World) (p bc bm n m : Nat) (f : Nat → Int) (g : Nat → Bool) (D : DataW Unit) (k : Nat) (e : Ending) (W' : World) : Prop :=
  (∃ a : Nat, Least g n k a ∧ e = .returned (.tuple #[.int .u64 a, .int .i64 0]) ∧ Ar W' p bc bm n (m + 1) (fill f a k 0) (fill g a k true) (D.put (.int .u64 a) (.lit (.int .i64 k))) ∧ Off (fun j => j = bc ∨ j = bm) W W') ∨
  ((∀ a, ¬ Room g n k a) ∧ e = .returned (.tuple #[.int .u64 0, .int .i64 5]) ∧ W = W')
set_option maxHeartbeats 1000000 in
theorem take_law {w : World} (h : Ar w p bc bm n m f g D) (k : Nat) (hk : 1 ≤ k) (hk2 : k ≤ 256) (hm : m < 1000000) : Calls Try.prog 34 #[.pointer (some ⟨p, 0, none⟩), .int .i64 k] w (TakePost w p bc bm n m f g D k) := by
  have HH := Lib.hid h
  have hhi := h.hi
  have hc1 := h.c1
  have hne1 := h.ne1
  have hne2 := h.ne2
  have hne3 := h.ne3
  have HM := Lib.hid hm
  clear h hm
  go_enter Try.func34, Try.ntmps34
  go_wp2_with (go_at_call 78; refine (none_law HH.out).mono ?_; rintro e w' ⟨rfl, rfl⟩)
  refine (room_law HH.out k hk hk2).mono ?_
  rintro e w' ⟨hr, rfl⟩
  rcases hr with ⟨a, ha, rfl⟩ | ⟨hno, x, rfl⟩
  · have hN : a + k ≤ n := ha.1.2.1
    have hwf : (Lit.int .u64 (a : Int)).wf = true := WalkArith.wf_u64 (by omega)
    have hwk : (Lit.int .i64 (k : Int)).wf = true := WalkArith.wf_i64 (by omega)
    replace ha := Lib.hid ha
    have HP := Lib.hid (plainElem_int (H := Unit) Try.underlying3 hwk)
    have HK := Lib.hid (keyOf_int_mk Try.underlying62 hwf)
    clear hwf hwk
    go_wp2_with (at_mapUpdate; refine wpList_mapUpdate_own _ rfl _ _ _ 133 rfl 62 3 law62 Try.underlying133 _ bm m D rfl HH.out.map (by have := HM.out; unfold maxLen; omega) _ _ _ rfl rfl HK.out _ [] HP.out ?_; intro w1 hown1 hgrow1)
    have hO1 := Lib.hid (Off.of_map (S := fun j => j = bm) hgrow1 rfl)
    have hA1 := Lib.hid (show Ar w1 p bc bm n (m + 1) f g (D.put (.int .u64 a) (.lit (.int .i64 k))) from ⟨hO1.out.box HH.out.box hne2, hO1.out.box HH.out.row hne3, hown1, HH.out.lo, HH.out.hi⟩)
    clear hown1 hgrow1
    refine (lay_law hA1.out a k hN 0 true).mono ?_
    rintro e w2 ⟨rfl, hA2, hO2⟩
    replace hA2 := Lib.hid hA2
    replace hO2 := Lib.hid hO2
    go_wp2_with fail
    go_ret2
    exact Or.inl ⟨a, ha.out, rfl, hA2.out, (hO1.out.mono fun j e => Or.inr e).trans (hO2.out.mono fun j e => Or.inl e)⟩
  · replace hno := Lib.hid hno
    go_wp2_with fail
    go_ret2
    exact Or.inr ⟨hno.out, rfl, rfl⟩

theorem take_bad {w : World} (h : Ar w p bc bm n m f g D) (k : Int) (hk : k < 1 ∨ 256 < k) : Calls Try.prog 34 #[.pointer (some ⟨p, 0, none⟩), .int .i64 k] w fun e w' => e = .returned (.tuple #[.int .u64 0, .int .i64 2]) ∧ w = w' := by
  have HH := Lib.hid h
  clear h
  by_cases h1 : k < 1
  · clear hk
    go_enter Try.func34, Try.ntmps34
    go_wp2_with (go_at_call 78; refine (none_law HH.out).mono ?_; rintro e w' ⟨rfl, rfl⟩)
    go_ret2
    exact ⟨rfl, rfl⟩
  · have h2 : 256 < k := by omega
    clear hk
    go_enter Try.func34, Try.ntmps34
    go_wp2_with (go_at_call 78; refine (none_law HH.out).mono ?_; rintro e w' ⟨rfl, rfl⟩)
    go_ret2
    exact ⟨rfl, rfl⟩
set_option maxHeartbeats 1000000 in
/-- A piece given back. -/
theorem give_law {w : World} (h : Ar w p bc bm n m f g D) (a k : Nat) (hk : a + k ≤ n) (hD : D.atKey (.int .u64 a) (.lit (.int .i64 0)) = .lit (.int .i64 k)) (hH : Maps.has D (.int .u64 a) = true) : Calls Try.prog 38 #[.pointer (some ⟨p, 0, none⟩), .int .u64 a] w fun e w' => e = .returned (.tuple #[.int .i64 k, .int .i64 0]) ∧ Ar w' p bc bm n m (fill f a k 18446744073709494610) (fill g a k false) (D.del (.int .u64 a)) ∧ Off (fun j => j = bc ∨ j = bm) w w' := by
  have HH := Lib.hid h
  have hc1 := h.c1
  have hne2 := h.ne2
  have hne3 := h.ne3
  have hhi := h.hi
  have HK := Lib.hid (keyOf_int_mk Try.underlying62 (a := (a : Int)) (WalkArith.wf_u64 (by omega)))
  have HD := Lib.hid hD
  have HHs := Lib.hid hH
  clear h hD hH
  go_enter Try.func38, Try.ntmps38
  go_wp2_with (first | (go_at_call 78; refine (none_law HH.out).mono ?_; rintro e w' ⟨rfl, rfl⟩) | (at_lookup; refine wpList_lookup_own_ok_int _ rfl _ _ 133 rfl 62 3 .i64 law62 Try.underlying133 Try.underlying3 (zero3 _) bm m D rfl HH.out.map _ _ rfl HK.out ?_; intro c hat hwc; rw [HHs.out]; obtain rfl : c = (k : Int) := (by rw [HD.out] at hat; simpa using hat.symm); clear hat hwc) | (at_delete; refine wpList_delete_own _ rfl _ _ 133 62 rfl 3 law62 Try.underlying133 _ bm m D rfl HH.out.map _ _ rfl HK.out ?_; intro w1 hown1 hturn1))
  have hO1 := Lib.hid (Off.of_map (S := fun j => j = bm) hturn1.grown rfl)
  have hA1 := Lib.hid (show Ar w1 p bc bm n m f g (D.del (.int .u64 a)) from ⟨hO1.out.box HH.out.box hne2, hO1.out.box HH.out.row hne3, hown1, HH.out.lo, HH.out.hi⟩)
  clear hown1 hturn1
  refine (lay_law hA1.out a k hk 18446744073709494610 false).mono ?_
  rintro e w2 ⟨rfl, hA2, hO2⟩
  replace hA2 := Lib.hid hA2
  replace hO2 := Lib.hid hO2
  go_wp2_with fail
  go_ret2
  exact ⟨rfl, hA2.out, (hO1.out.mono fun j e => Or.inr e).trans (hO2.out.mono fun j e => Or.inl e)⟩
theorem give_no {w : World} (h : Ar w p bc bm n m f g D) (a : Nat) (ha : a < 18446744073709551616) (hH : Maps.has D (.int .u64 a) = false) : Calls Try.prog 38 #[.pointer (some ⟨p, 0, none⟩), .int .u64 a] w fun e w' => e = .returned (.tuple #[.int .i64 0, .int .i64 6]) ∧ w = w' := by
  have HH := Lib.hid h
  have hc1 := h.c1
  have HK := Lib.hid (keyOf_int_mk Try.underlying62 (a := (a : Int)) (WalkArith.wf_u64 (by omega)))
  have HHs := Lib.hid hH
  clear h hH ha
  go_enter Try.func38, Try.ntmps38
  go_wp2_with (first | (go_at_call 78; refine (none_law HH.out).mono ?_; rintro e w' ⟨rfl, rfl⟩) | (at_lookup; refine wpList_lookup_own_ok_int _ rfl _ _ 133 rfl 62 3 .i64 law62 Try.underlying133 Try.underlying3 (zero3 _) bm m D rfl HH.out.map _ _ rfl HK.out ?_; intro c hat hwc; rw [HHs.out]; clear hat hwc))
  go_ret2
  exact ⟨rfl, rfl⟩
end Go.Proofs.Ytbjhcbiihekceaa
