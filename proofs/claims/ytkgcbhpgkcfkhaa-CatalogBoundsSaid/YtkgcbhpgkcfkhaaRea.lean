/- Rows that are read, where numbers are of one byte: by contracts. -/
import Derived.Test.YtkgcbhpgkcfkhaaSpl
import Derived.Test.YtkgcbhpgkcfkhaaWor
namespace Go.Proofs.Ytkgcbhpgkcfkhaa
open Go.ChangeShapes Go.WideShapes Go.ChangeAt Go.RowKit
set_option linter.unusedVariables false
set_option linter.unusedSimpArgs false

/-- A reader in its block. -/
structure Rdr (W : World) (B : Nat) (ad : Option Addr) (cap n : Nat) (L : List Int) (at_ : Nat) : Prop where
  len : L.length = n
  c0 : W.cell? ⟨B, 0, none⟩ = some (.slice ad n cap)
  c1 : W.cell? ⟨B, 1, none⟩ = some (.int .i64 (at_ : Int))
  c2 : W.cell? ⟨B, 2, none⟩ = some (.bool true)
  f0 : W.frozen? ⟨B, 0, none⟩ = false
  f1 : W.frozen? ⟨B, 1, none⟩ = false
  f2 : W.frozen? ⟨B, 2, none⟩ = false
  ls : ∀ W', (∀ k b off, ad = some ⟨b, off, none⟩ → W'.cell? ⟨b, off + k, none⟩ = W.cell? ⟨b, off + k, none⟩) → Ls .u8 W' ad cap L
  le : at_ ≤ n
  apart : ∀ b off, ad = some ⟨b, off, none⟩ → b < B
theorem Rdr.lt {W : World} {B : Nat} {ad : Option Addr} {cap n : Nat} {L : List Int} {p : Nat} (h : Rdr W B ad cap n L p) : B < W.heap.size := World.block_lt_of_cell? W _ h.c0
theorem Rdr.here {W : World} {B : Nat} {ad : Option Addr} {cap n : Nat} {L : List Int} {p : Nat} (h : Rdr W B ad cap n L p) : Ls .u8 W ad cap L := h.ls W fun _ _ _ _ => rfl
theorem Rdr.below {W W' : World} {B : Nat} {ad : Option Addr} {cap n : Nat} {L : List Int} {p : Nat} (h : Rdr W B ad cap n L p) (b : Below W.heap.size W W') : Rdr W' B ad cap n L p := by
  have hl := h.lt
  refine ⟨h.len, (b.cell (p := ⟨B, 0, none⟩) hl).trans h.c0, (b.cell (p := ⟨B, 1, none⟩) hl).trans h.c1, (b.cell (p := ⟨B, 2, none⟩) hl).trans h.c2, (b.frozen (p := ⟨B, 0, none⟩) hl).trans h.f0, (b.frozen (p := ⟨B, 1, none⟩) hl).trans h.f1, (b.frozen (p := ⟨B, 2, none⟩) hl).trans h.f2, fun W2 h2 => ?_, h.le, h.apart⟩
  refine h.ls W2 fun k b' off e => ?_
  rw [h2 k b' off e]
  exact b.cell (p := ⟨b', off + k, none⟩) (by have := h.apart b' off e; simp; omega)
theorem Rdr.move {W : World} {B : Nat} {ad : Option Addr} {cap n : Nat} {L : List Int} {p : Nat} (h : Rdr W B ad cap n L p) (q : Nat) (hq : q ≤ n) : Rdr (W.setCell ⟨B, 1, none⟩ (.int .i64 (q : Int))) B ad cap n L q := by
  refine ⟨h.len, ?_, World.cell?_setCell_same W _ _ h.c1, ?_, by rw [World.frozen?_setCell]; exact h.f0, by rw [World.frozen?_setCell]; exact h.f1, by rw [World.frozen?_setCell]; exact h.f2, fun W2 h2 => ?_, hq, h.apart⟩
  · rw [World.cell?_setCell_other W ⟨B, 1, none⟩ ⟨B, 0, none⟩ _ (fun q => by simp at q)]; exact h.c0
  · rw [World.cell?_setCell_other W ⟨B, 1, none⟩ ⟨B, 2, none⟩ _ (fun q => by simp at q)]; exact h.c2
  · refine h.ls W2 fun k b' off e => ?_
    rw [h2 k b' off e]
    have := h.apart b' off e
    exact World.cell?_setCell_other W ⟨B, 1, none⟩ ⟨b', off + k, none⟩ _ (fun q => by simp at q <;> omega)
theorem none_law {W : World} {B : Nat} {ad : Option Addr} {cap n : Nat} {L : List Int} {p : Nat} (h : Rdr W B ad cap n L p) :
    Calls Try.prog 104 #[.pointer (some ⟨B, 0, none⟩)] W fun r w' => r = .returned (.bool false) ∧ W = w' := by
  have c2 := h.c2
  clear h
  go_enter Try.func104, Try.ntmps104
  go_wp2
  go_ret
  exact ⟨rfl, rfl⟩
set_option maxHeartbeats 1000000 in
theorem left_law {W : World} {B : Nat} {ad : Option Addr} {cap n : Nat} {L : List Int} {p : Nat} (h : Rdr W B ad cap n L p) (hn : n ≤ 1000000) :
    Calls Try.prog 106 #[.pointer (some ⟨B, 0, none⟩)] W fun r w' => r = .returned (.int .i64 ((n - p : Nat) : Int)) ∧ Below W.heap.size W w' := by
  have c0 := h.c0
  have c1 := h.c1
  have hle := h.le
  have H := Lib.hid h
  have hi : (n : Int) ≤ 1000000 := by omega
  have hj : (p : Int) ≤ (n : Int) := by omega
  have e : ((n - p : Nat) : Int) = (n : Int) - (p : Int) := by omega
  rw [e]
  clear h e hle
  go_enter Try.func106, Try.ntmps106
  go_wp2_with fail
  refine (none_law H.out).mono ?_; rintro e w' ⟨rfl, rfl⟩
  go_wp2_with fail
  go_quiet (fail)
  go_wp2_with fail
  go_ret
  exact ⟨rfl, below_drewN (Below.refl _ _) _⟩

theorem oth_trans {a b c : World} {row : Option Nat} (h : a.grownBy b row) (k : b.grownBy c row) : a.grownBy c row :=
  ⟨k.os.trans h.os, k.tape.trans h.tape, k.output.trans h.output, Nat.le_trans h.size k.size, fun i hi hne => (k.block i (Nat.lt_of_lt_of_le hi h.size) hne).trans (h.block i hi hne)⟩
theorem oth_set (W : World) (B o : Nat) (v : Value) : W.grownBy (W.setCell ⟨B, o, none⟩ v) (some B) := by
  have b := (Below.refl B W).setCell (p := ⟨B, o, none⟩) (Nat.le_refl _) v
  exact ⟨b.os, b.tape, b.output, b.size, fun k hk hne => Below.heap_setCell W ⟨B, o, none⟩ v k (fun e => hne (by rw [e]))⟩
theorem oth_below {W W' : World} (B : Nat) (h : Below W.heap.size W W') : W.grownBy W' (some B) := ⟨h.os, h.tape, h.output, h.size, fun k hk _ => h.block k hk⟩
theorem below_oth {N B : Nat} {w W W' : World} (h : Below N w W) (k : W.grownBy W' (some B)) (hN : N ≤ W.heap.size) (hB : N ≤ B) : Below N w W' := h.grown k hN (fun j hj => by cases hj; exact hB)
theorem bits127 : ∀ c : Fin 128, bits .and .u8 ((c.val : Nat) : Int) 127 = ((c.val : Nat) : Int) := by decide +kernel
theorem bits128 : ∀ c : Fin 128, bits .and .u8 ((c.val : Nat) : Int) 128 = 0 := by decide +kernel
theorem or_zero (c : Nat) (h : c ≤ 127) : bits .or .u64 0 (c : Int) = (c : Int) := by
  have := u64_or_nat 0 c (by omega) (by omega)
  simpa using this
set_option maxRecDepth 100000 in
set_option maxHeartbeats 2000000 in
theorem number_one {W : World} {B : Nat} {ad : Option Addr} {cap n : Nat} {L : List Int} {p : Nat} (h : Rdr W B ad cap n L p) (hn : n ≤ 1000000) (c : Nat) (hp : p < n) (hc : L.getD p 0 = (c : Int)) (h1 : c ≤ 127) :
    Calls Try.prog 112 #[.pointer (some ⟨B, 0, none⟩)] W fun r w' => r = .returned (.tuple #[.int .u64 (c : Int), .int .i64 0]) ∧ Rdr w' B ad cap n L (p + 1) ∧ W.grownBy w' (some B) := by
  have c0 := h.c0
  have c1 := h.c1
  have f1 := h.f1
  have H := Lib.hid h
  have hi : (n : Int) ≤ 1000000 := by omega
  have hj : (p : Int) ≤ (n : Int) := by omega
  obtain ⟨a', c', s', l'⟩ := h.here.lo eltB n p h.len (by omega)
  obtain ⟨m, hm⟩ : ∃ m, n - p = m := ⟨_, rfl⟩
  rw [hm] at s'
  have hm0 : (0 : Int) < (m : Int) := by omega
  have hm1 : 0 < m := by omega
  obtain ⟨b1, o1, e1, d1⟩ := l'.get 0 (by rw [List.length_drop, h.len]; omega)
  subst e1
  have hg : (L.drop p).getD 0 0 = (c : Int) := by rw [← hc]; simp [List.getD, List.getElem?_drop]
  rw [hg, Nat.add_zero] at d1
  have hb7 : bits .and .u8 (c : Int) 127 = (c : Int) := bits127 ⟨c, by omega⟩
  have hb8 : bits .and .u8 (c : Int) 128 = 0 := bits128 ⟨c, by omega⟩
  have hor := or_zero c h1
  have hcw : IntKind.u64.wrap (c : Int) = (c : Int) := by rw [IntKind.wrap_u64]; omega
  have HM := Lib.hid hm
  have hpn := Lib.hid hp
  clear h hm hg hc l' hp
  go_enter Try.func112, Try.ntmps112
  go_wp2_with fail
  go_step3
  go_wp2_with fail
  refine (none_law H.out).mono ?_; rintro e w' ⟨rfl, rfl⟩
  go_wp2_with fail
  go_step3
  go_wp2_with fail
  go_quiet (fail)
  go_wp2_with fail
  go_loopw [4, 19] (fun v i wr => v = .int .u64 0 ∧ i = .int .i64 0 ∧ Below W.heap.size W wr) (fun _ _ _ => 0)
  case atStart => exact ⟨rfl, rfl, below_drewN (Below.refl _ _) _⟩
  case round =>
    obtain ⟨rfl, rfl, BW⟩ := hrel
    have d2 := (BW.cell (p := ⟨b1, o1, none⟩) (World.block_lt_of_cell? W _ d1)).trans d1
    have HR := H.out.below BW
    have e1 := HR.c1
    have g1 := HR.f1
    have HH := Lib.hid HR
    have BB := Lib.hid BW
    clear c0 c1 f1 d1 HR BW
    have hwp : IntKind.i64.wrap ((p : Int) + 1) = ((p + 1 : Nat) : Int) := by rw [IntKind.wrap_i64]; omega
    go_wp2_with fail
    try rw [Exit.noGoto_ret]
    go_ret2
    have hmv := HH.out.move (p + 1) (by have := hpn.out; omega)
    have hw1 : ((p : Int) + 1) = ((p + 1 : Nat) : Int) := by omega
    rw [hw1]
    exact ⟨rfl, hmv, oth_trans (oth_below B BB.out) (oth_set _ _ _ _)⟩
set_option maxRecDepth 100000 in
set_option maxHeartbeats 2000000 in
theorem number_end {W : World} {B : Nat} {ad : Option Addr} {cap n : Nat} {L : List Int} (h : Rdr W B ad cap n L n) (hn : n ≤ 1000000) :
    Calls Try.prog 112 #[.pointer (some ⟨B, 0, none⟩)] W fun r w' => r = .returned (.tuple #[.int .u64 0, .int .i64 4]) ∧ Below W.heap.size W w' := by
  have c0 := h.c0
  have c1 := h.c1
  have H := Lib.hid h
  have hi : (n : Int) ≤ 1000000 := by omega
  obtain ⟨a', c', s', l'⟩ := h.here.lo eltB n n h.len (by omega)
  rw [Nat.sub_self] at s'
  clear h l'
  go_enter Try.func112, Try.ntmps112
  go_wp2_with fail
  go_step3
  go_wp2_with fail
  refine (none_law H.out).mono ?_; rintro e w' ⟨rfl, rfl⟩
  go_wp2_with fail
  go_step3
  go_wp2_with fail
  go_quiet (fail)
  go_wp2_with fail
  go_loopw [4, 19] (fun v i wr => v = .int .u64 0 ∧ i = .int .i64 0 ∧ Below W.heap.size W wr) (fun _ _ _ => 0)
  case atStart => exact ⟨rfl, rfl, below_drewN (Below.refl _ _) _⟩
  case round =>
    obtain ⟨rfl, rfl, BW⟩ := hrel
    clear c0 c1
    go_wp2_with fail
    try rw [Exit.noGoto_ret]
    go_ret2
    exact ⟨rfl, BW⟩
/-- How many there are, where at most so many may be. -/
theorem count_one {W : World} {B : Nat} {ad : Option Addr} {cap n : Nat} {L : List Int} {p : Nat} (h : Rdr W B ad cap n L p) (hn : n ≤ 1000000) (c most : Nat) (hp : p < n) (hc : L.getD p 0 = (c : Int)) (h1 : c ≤ most) (hm : most ≤ 127) :
    Calls Try.prog 105 #[.pointer (some ⟨B, 0, none⟩), .int .i64 (most : Int)] W fun r w' => r = .returned (.tuple #[.int .u64 (c : Int), .int .i64 0]) ∧ Rdr w' B ad cap n L (p + 1) ∧ W.grownBy w' (some B) := by
  have H := Lib.hid (number_one h hn c hp hc (by omega))
  have hi : ¬ (most : Int) < 0 := by omega
  have hj : ¬ (most : Int) < (c : Int) := by omega
  have hk : (most : Int) ≤ 127 := by omega
  clear h hc
  go_enter Try.func105, Try.ntmps105
  go_wp2_with fail
  refine H.out.mono ?_; rintro e w' ⟨rfl, h2, h3⟩
  go_wp2_with fail
  go_ret2
  exact ⟨rfl, h2, h3⟩
theorem count_end {W : World} {B : Nat} {ad : Option Addr} {cap n : Nat} {L : List Int} (h : Rdr W B ad cap n L n) (hn : n ≤ 1000000) (most : Nat) (hm : most ≤ 127) :
    Calls Try.prog 105 #[.pointer (some ⟨B, 0, none⟩), .int .i64 (most : Int)] W fun r w' => r = .returned (.tuple #[.int .u64 0, .int .i64 4]) ∧ Below W.heap.size W w' := by
  have H := Lib.hid (number_end h hn)
  have hi : ¬ (most : Int) < 0 := by omega
  have hk : (most : Int) ≤ 127 := by omega
  clear h
  go_enter Try.func105, Try.ntmps105
  go_wp2_with fail
  refine H.out.mono ?_; rintro e w' ⟨rfl, h2⟩
  go_wp2_with fail
  go_ret2
  exact ⟨rfl, h2⟩
end Go.Proofs.Ytkgcbhpgkcfkhaa
