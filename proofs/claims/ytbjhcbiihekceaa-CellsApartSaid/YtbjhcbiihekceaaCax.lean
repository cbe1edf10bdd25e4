/- Arenas: Add and Swap. -/
import Derived.Test.YtbjhcbiihekceaaCaw
namespace Go.Proofs.Ytbjhcbiihekceaa
open Go.ChangeShapes Go.WideShapes Go.ChangeAt Go.RowKit Go.Maps
set_option linter.unusedVariables false
set_option linter.unusedSimpArgs false
variable {p bc bm n m : Nat} {f : Nat → Int} {g : Nat → Bool} {D : DataW Unit}
theorem sc_same {w : World} {a : Addr} {v u : Value} (h : w.cell? a = some u) : (w.setCell a v).cell? a = some v := World.cell?_setCell_same w a v h
theorem sc_oth {w : World} {a b : Addr} {v : Value} (h : a ≠ b) : (w.setCell a v).cell? b = w.cell? b := by
  first | exact World.cell?_setCell_other w a b v h | exact World.cell?_setCell_other w a v b h | exact World.cell?_setCell_other (w := w) h
theorem l89 (w : World) (a b c : Addr) (x y z : Int) (h : w.cell? a = some (.int .u64 x)) (hf : w.frozen? a = false) (hb : w.cell? b = some (.int .u64 y)) (hc : w.cell? c = some (.int .u64 z)) (hfc : w.frozen? c = false) (hne : a ≠ c) : Calls Try.prog 89 #[.pointer (some a), .pointer (some b), .pointer (some c)] w fun e w' => e = .returned (.tuple #[]) ∧ w' = ((w.setCell a (.int .u64 (IntKind.u64.wrap (x + y)))).setCell c (.int .u64 (IntKind.u64.wrap (x + y)))).drew := by
  have g1 : ∀ v, (w.setCell a v).cell? a = some v := fun v => sc_same h
  have g2 : ∀ v, (w.setCell a v).cell? c = some (.int .u64 z) := fun v => by rw [sc_oth hne]; exact hc
  go_enter Try.func89, Try.ntmps89
  go_wp2
  go_region
  all_goals
    go_wp2
    go_end0
    exact ⟨rfl, rfl⟩
theorem l90y (w : World) (a b c d q : Addr) (x z y : Int) (t : Bool) (h : w.cell? a = some (.int .u64 x)) (hf : w.frozen? a = false) (hb : w.cell? b = some (.int .u64 z)) (hfb : w.frozen? b = false) (hc : w.cell? c = some (.int .u64 x)) (hd : w.cell? d = some (.bool t)) (hfd : w.frozen? d = false) (hq : w.cell? q = some (.int .u64 y)) (e1 : b ≠ a) (e2 : b ≠ c) (e3 : b ≠ d) (e4 : b ≠ q) (e5 : d ≠ a) (e6 : d ≠ q) : Calls Try.prog 90 #[.pointer (some a), .pointer (some b), .pointer (some c), .pointer (some d), .pointer (some q)] w fun e w' => e = .returned (.tuple #[]) ∧ w' = (((w.setCell b (.int .u64 x)).setCell d (.bool true)).setCell a (.int .u64 y)) := by
  have k1 : (w.setCell b (.int .u64 x)).cell? b = some (.int .u64 x) := sc_same hb
  have k2 : (w.setCell b (.int .u64 x)).cell? c = some (.int .u64 x) := by rw [sc_oth e2]; exact hc
  have k3 : (w.setCell b (.int .u64 x)).cell? d = some (.bool t) := by rw [sc_oth e3]; exact hd
  have k4 : ((w.setCell b (.int .u64 x)).setCell d (.bool true)).cell? d = some (.bool true) := sc_same k3
  have k5 : ((w.setCell b (.int .u64 x)).setCell d (.bool true)).cell? q = some (.int .u64 y) := by rw [sc_oth e6, sc_oth e4]; exact hq
  have k6 : ((w.setCell b (.int .u64 x)).setCell d (.bool true)).cell? a = some (.int .u64 x) := by rw [sc_oth e5, sc_oth e1]; exact h
  have k7 : (x == x) = true := by simp
  go_enter Try.func90, Try.ntmps90
  go_wp2
  go_end0
  exact ⟨rfl, rfl⟩
theorem l90n (w : World) (a b c d q : Addr) (x z u : Int) (t : Bool) (hu : x ≠ u) (h : w.cell? a = some (.int .u64 x)) (hb : w.cell? b = some (.int .u64 z)) (hfb : w.frozen? b = false) (hc : w.cell? c = some (.int .u64 u)) (hd : w.cell? d = some (.bool t)) (hfd : w.frozen? d = false) (e2 : b ≠ c) (e3 : b ≠ d) : Calls Try.prog 90 #[.pointer (some a), .pointer (some b), .pointer (some c), .pointer (some d), .pointer (some q)] w fun e w' => e = .returned (.tuple #[]) ∧ w' = ((w.setCell b (.int .u64 x)).setCell d (.bool false)) := by
  have k1 : (w.setCell b (.int .u64 x)).cell? b = some (.int .u64 x) := sc_same hb
  have k2 : (w.setCell b (.int .u64 x)).cell? c = some (.int .u64 u) := by rw [sc_oth e2]; exact hc
  have k3 : (w.setCell b (.int .u64 x)).cell? d = some (.bool t) := by rw [sc_oth e3]; exact hd
  have k4 : ((w.setCell b (.int .u64 x)).setCell d (.bool false)).cell? d = some (.bool false) := sc_same k3
  have k7 : (x == u) = false := by simpa using hu
  clear hu
  go_enter Try.func90, Try.ntmps90
  go_wp2
  go_end0
  exact ⟨rfl, rfl⟩
theorem Off.new {S : Nat → Prop} {w W : World} (h : Off S w W) (a : Addr) (ha : w.heap.size ≤ a.block) (v : Value) : Off S w (W.setCell a v) :=
  ⟨h.os, h.tape, h.output, by have := h.size; simpa using this, fun k hk hn => (Below.heap_setCell _ _ _ k (by omega)).trans (h.block k hk hn)⟩
theorem Off.drew {S : Nat → Prop} {w W : World} (h : Off S w W) : Off S w W.drew := ⟨h.os, h.tape, h.output, h.size, h.block⟩
theorem Ar.new {w W : World} (h : Ar W p bc bm n m f g D) (a : Addr) (h1 : p ≠ a.block) (h2 : bc ≠ a.block) (h3 : bm ≠ a.block) (v : Value) : Ar (W.setCell a v) p bc bm n m f g D :=
  h.off ((Off.refl (fun k => k = a.block) W).set a rfl _) h1 h2 h3
theorem Ar.drew {W : World} (h : Ar W p bc bm n m f g D) : Ar W.drew p bc bm n m f g D := h.below (Below.drew (Below.refl _ _))
theorem Off.drewN {S : Nat → Prop} {w W : World} (h : Off S w W) (k : Nat) : Off S w (W.drewN k) := ⟨h.os, h.tape, h.output, h.size, h.block⟩
theorem Ar.drewN {W : World} (h : Ar W p bc bm n m f g D) (k : Nat) : Ar (W.drewN k) p bc bm n m f g D := ⟨h.box, h.row, h.map, h.lo, h.hi⟩
theorem wf_of (i : Nat) (h : i < 18446744073709551616) : IntKind.u64.wrap (i : Int) = i := by rw [IntKind.wrap_u64]; omega
theorem add_law {w : World} (h : Ar w p bc bm n m f g D) (i : Nat) (hi : i < n) (x : Int) : Calls Try.prog 41 #[.pointer (some ⟨p, 0, none⟩), .int .u64 i, .int .u64 x] w fun e w' => e = .returned (.tuple #[.int .u64 (IntKind.u64.wrap (f i + x)), .int .i64 0]) ∧ Ar w' p bc bm n m (upd f i (IntKind.u64.wrap (f i + x))) g D ∧ Off (fun k => k = bc) w w' := by
  have hlt := h.row.lt
  have B2 : Below w.heap.size w ((w.alloc (.cells #[.int .u64 x] 62)).alloc (.cells #[.int .u64 0] 62)) := step_below (bl1 _ _) (bl1 _ _)
  have HH := Lib.hid (h.below B2)
  have hX := (BoxC.new w #[.int .u64 x] 62).alloc (.cells #[.int .u64 0] 62)
  have hY := BoxC.new (w.alloc (.cells #[.int .u64 x] 62)) #[.int .u64 0] 62
  simp only [World.size_alloc] at hY
  have HD := Lib.hid (l89 _ ⟨bc, i * 2, none⟩ ⟨w.heap.size, 0, none⟩ ⟨w.heap.size + 1, 0, none⟩ _ _ _ (HH.out.w hi) (HH.out.row.frozen _) (hX.cell 0) (hY.cell 0) (hY.frozen 0) (by intro e; injection e with e; omega))
  have HR := Lib.hid (show ∀ w', w' = ((((w.alloc (.cells #[.int .u64 x] 62)).alloc (.cells #[.int .u64 0] 62)).setCell ⟨bc, i * 2, none⟩ (.int .u64 (IntKind.u64.wrap (f i + x)))).setCell ⟨w.heap.size + 1, 0, none⟩ (.int .u64 (IntKind.u64.wrap (f i + x)))).drew → Ar w' p bc bm n m (upd f i (IntKind.u64.wrap (f i + x))) g D ∧ Off (fun k => k = bc) w w' ∧ w'.cell? ⟨w.heap.size + 1, 0, none⟩ = some (.int .u64 (IntKind.u64.wrap (f i + x))) from fun w' e => by
    have hA := HH.out.setw i (IntKind.u64.wrap (f i + x))
    have hO : Off (fun k => k = bc) w (((w.alloc (.cells #[.int .u64 x] 62)).alloc (.cells #[.int .u64 0] 62)).setCell ⟨bc, i * 2, none⟩ (.int .u64 (IntKind.u64.wrap (f i + x)))) := (Off.of (S := fun k => k = bc) B2).set ⟨bc, i * 2, none⟩ rfl _
    have hp := h.box.lt
    have hm := h.map.lt
    have hY2 : ((((w.alloc (.cells #[.int .u64 x] 62)).alloc (.cells #[.int .u64 0] 62)).setCell ⟨bc, i * 2, none⟩ (.int .u64 (IntKind.u64.wrap (f i + x)))).setCell ⟨w.heap.size + 1, 0, none⟩ (.int .u64 (IntKind.u64.wrap (f i + x)))).cell? ⟨w.heap.size + 1, 0, none⟩ = some (.int .u64 (IntKind.u64.wrap (f i + x))) := sc_same ((hY.oth (by omega)).cell 0)
    generalize (((w.alloc (.cells #[.int .u64 x] 62)).alloc (.cells #[.int .u64 0] 62)).setCell ⟨bc, i * 2, none⟩ (.int .u64 (IntKind.u64.wrap (f i + x)))) = W1 at hA hO hY2 e
    subst e
    exact ⟨(hA.new (w := w) _ (by show p ≠ w.heap.size + 1; omega) (by show bc ≠ w.heap.size + 1; omega) (by show bm ≠ w.heap.size + 1; omega) _).drew, (hO.new _ (by show w.heap.size ≤ w.heap.size + 1; omega) _).drew, hY2⟩)
  have HC := Lib.hid ((ask_89 HH.out i hi _ _ _ HD.out).mono fun e w' h => And.intro h.1 (HR.out w' h.2))
  clear h hX hY hlt B2 HD HR
  go_enter Try.func41, Try.ntmps41
  go_wp2_with (go_at_call 81; refine HC.out.mono ?_; rintro e w' ⟨rfl, hA, hO, hx⟩; replace hA := Lib.hid hA; replace hO := Lib.hid hO)
  go_ret2
  exact ⟨rfl, hA.out, hO.out⟩
theorem add_no {w : World} (h : Ar w p bc bm n m f g D) (i : Nat) (hi : n ≤ i) (x : Int) : Calls Try.prog 41 #[.pointer (some ⟨p, 0, none⟩), .int .u64 i, .int .u64 x] w fun e w' => e = .returned (.tuple #[.int .u64 0, .int .i64 2]) ∧ Below w.heap.size w w' := by
  have B2 : Below w.heap.size w ((w.alloc (.cells #[.int .u64 x] 62)).alloc (.cells #[.int .u64 0] 62)) := step_below (bl1 _ _) (bl1 _ _)
  have HH := Lib.hid (h.below B2)
  have HB := Lib.hid B2
  clear h B2
  go_enter Try.func41, Try.ntmps41
  go_wp2_with (go_at_call 81; refine (ask_89_no HH.out i hi _ _).mono ?_; rintro e w' ⟨rfl, rfl⟩)
  go_ret2
  exact ⟨rfl, HB.out⟩

/-- The four boxes of Swap. -/
def sw4 (w : World) (a b : Int) : World := (((w.alloc (.cells #[.int .u64 a] 62)).alloc (.cells #[.int .u64 b] 62)).alloc (.cells #[.int .u64 0] 62)).alloc (.cells #[.bool false] 4)
theorem sw4_box (w : World) (a b : Int) : Below w.heap.size w (sw4 w a b) ∧ BoxC (sw4 w a b) w.heap.size #[.int .u64 a] 62 ∧ BoxC (sw4 w a b) (w.heap.size + 1) #[.int .u64 b] 62 ∧ BoxC (sw4 w a b) (w.heap.size + 1 + 1) #[.int .u64 0] 62 ∧ BoxC (sw4 w a b) (w.heap.size + 1 + 1 + 1) #[.bool false] 4 := by
  have h0 := BoxC.new w #[.int .u64 a] 62
  have h1 := BoxC.new (w.alloc (.cells #[.int .u64 a] 62)) #[.int .u64 b] 62
  have h2 := BoxC.new ((w.alloc (.cells #[.int .u64 a] 62)).alloc (.cells #[.int .u64 b] 62)) #[.int .u64 0] 62
  have h3 := BoxC.new (((w.alloc (.cells #[.int .u64 a] 62)).alloc (.cells #[.int .u64 b] 62)).alloc (.cells #[.int .u64 0] 62)) #[.bool false] 4
  simp only [World.size_alloc] at h1 h2 h3
  exact ⟨step_below (step_below (step_below (bl1 _ _) (bl1 _ _)) (bl1 _ _)) (bl1 _ _), ((h0.alloc _).alloc _).alloc _, (h1.alloc _).alloc _, h2.alloc _, h3⟩
def swF (f : Nat → Int) (i : Nat) (a b : Int) : Nat → Int := if f i == a then upd f i b else f
theorem swap_law {w : World} (h : Ar w p bc bm n m f g D) (i : Nat) (hi : i < n) (a b : Int) : Calls Try.prog 42 #[.pointer (some ⟨p, 0, none⟩), .int .u64 i, .int .u64 a, .int .u64 b] w fun e w' => e = .returned (.tuple #[.int .u64 (f i), .bool (f i == a), .int .i64 0]) ∧ Ar w' p bc bm n m (swF f i a b) g D ∧ Off (fun k => k = bc) w w' := by
  have hlt := h.row.lt
  have hp := h.box.lt
  have hm := h.map.lt
  obtain ⟨B4, b0, b1, b2, b3⟩ := sw4_box w a b
  have HH := h.below B4
  have hD : Calls Try.prog 90 #[.pointer (some ⟨bc, i * 2, none⟩), .pointer (some ⟨w.heap.size + 1 + 1, 0, none⟩), .pointer (some ⟨w.heap.size, 0, none⟩), .pointer (some ⟨w.heap.size + 1 + 1 + 1, 0, none⟩), .pointer (some ⟨w.heap.size + 1, 0, none⟩)] (sw4 w a b) fun e w' => e = .returned (.tuple #[]) ∧ (Ar w' p bc bm n m (swF f i a b) g D ∧ Off (fun k => k = bc) w w' ∧ w'.cell? ⟨w.heap.size + 1 + 1, 0, none⟩ = some (.int .u64 (f i)) ∧ w'.cell? ⟨w.heap.size + 1 + 1 + 1, 0, none⟩ = some (.bool (f i == a))) := by
    by_cases e : f i = a
    · have hfa : (f i == a) = true := by simpa using e
      rw [hfa, show swF f i a b = upd f i b from if_pos hfa]
      refine (l90y (sw4 w a b) ⟨bc, i * 2, none⟩ ⟨w.heap.size + 1 + 1, 0, none⟩ ⟨w.heap.size, 0, none⟩ ⟨w.heap.size + 1 + 1 + 1, 0, none⟩ ⟨w.heap.size + 1, 0, none⟩ (f i) 0 b false (HH.w hi) (HH.row.frozen _) (b2.cell 0) (b2.frozen 0) (by rw [e]; exact b0.cell 0) (b3.cell 0) (b3.frozen 0) (b1.cell 0) (by intro e; injection e with e; omega) (by intro e; injection e with e; omega) (by intro e; injection e with e; omega) (by intro e; injection e with e; omega) (by intro e; injection e with e; omega) (by intro e; injection e with e; omega)).mono ?_
      rintro r w' ⟨hr, rfl⟩
      refine ⟨hr, ?_, ?_, ?_, ?_⟩
      · exact ((HH.new (w := w) _ (by show p ≠ w.heap.size + 1 + 1; omega) (by show bc ≠ w.heap.size + 1 + 1; omega) (by show bm ≠ w.heap.size + 1 + 1; omega) _).new (w := w) _ (by show p ≠ w.heap.size + 1 + 1 + 1; omega) (by show bc ≠ w.heap.size + 1 + 1 + 1; omega) (by show bm ≠ w.heap.size + 1 + 1 + 1; omega) _).setw i b
      · exact (((Off.of (S := fun k => k = bc) B4).new _ (by show w.heap.size ≤ w.heap.size + 1 + 1; omega) _).new _ (by show w.heap.size ≤ w.heap.size + 1 + 1 + 1; omega) _).set ⟨bc, i * 2, none⟩ rfl _
      · rw [((((b2.put 0 (.int .u64 (f i))).oth (by omega)).oth (by omega))).cell]; rfl
      · rw [((((b3.oth (by omega)).put 0 (.bool true)).oth (by omega))).cell]; rfl
    · have hfa : (f i == a) = false := by simpa using e
      rw [hfa, show swF f i a b = f from if_neg (by rw [hfa]; simp)]
      refine (l90n (sw4 w a b) ⟨bc, i * 2, none⟩ ⟨w.heap.size + 1 + 1, 0, none⟩ ⟨w.heap.size, 0, none⟩ ⟨w.heap.size + 1 + 1 + 1, 0, none⟩ ⟨w.heap.size + 1, 0, none⟩ (f i) 0 a false e (HH.w hi) (b2.cell 0) (b2.frozen 0) (b0.cell 0) (b3.cell 0) (b3.frozen 0) (by intro e; injection e with e; omega) (by intro e; injection e with e; omega)).mono ?_
      rintro r w' ⟨hr, rfl⟩
      refine ⟨hr, ?_, ?_, ?_, ?_⟩
      · exact ((HH.new (w := w) _ (by show p ≠ w.heap.size + 1 + 1; omega) (by show bc ≠ w.heap.size + 1 + 1; omega) (by show bm ≠ w.heap.size + 1 + 1; omega) _).new (w := w) _ (by show p ≠ w.heap.size + 1 + 1 + 1; omega) (by show bc ≠ w.heap.size + 1 + 1 + 1; omega) (by show bm ≠ w.heap.size + 1 + 1 + 1; omega) _)
      · exact (((Off.of (S := fun k => k = bc) B4).new _ (by show w.heap.size ≤ w.heap.size + 1 + 1; omega) _).new _ (by show w.heap.size ≤ w.heap.size + 1 + 1 + 1; omega) _)
      · rw [(((b2.put 0 (.int .u64 (f i))).oth (by omega))).cell]; rfl
      · rw [(((b3.oth (by omega)).put 0 (.bool false))).cell]; rfl
  have HC := Lib.hid (ask_90 HH i hi _ _ _ _ _ hD)
  clear h b0 b1 b2 b3 hlt hp hm B4 HH hD
  unfold sw4 at HC
  go_enter Try.func42, Try.ntmps42
  go_wp2_with (go_at_call 81; refine HC.out.mono ?_; rintro e w' ⟨rfl, hA, hO, hx, hy⟩; replace hA := Lib.hid hA; replace hO := Lib.hid hO)
  go_quiet (fail)
  go_wp2
  go_ret3
  exact ⟨rfl, hA.out.drewN _, hO.out.drewN _⟩
end Go.Proofs.Ytbjhcbiihekceaa
