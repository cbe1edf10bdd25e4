/- The functions of layer 9 that ask and move, each by a contract. -/
import Derived.Test.YtochdmdojcfceaaRows
import Derived.Test.YtochdmdojcfceaaMath
import Derived.WalkKit
import Derived.WalkMore
import Derived.ProofKit
import Derived.Outline
import Derived.WalkLawsBesides
import Derived.WalkSpells
import Derived.Lib.Hide
import Derived.Below
import Derived.WalkSmall
import Derived.BigRegion
import Derived.Laws.Rows
namespace Go.Proofs.Ytochdmdojcfceaa
open Go.ChangeShapes Go.WideShapes Go.ChangeAt Go.RowKit
open PM
set_option linter.unusedVariables false
set_option linter.unusedSimpArgs false

theorem ret_bool {a b : Bool} (h : a = b) : Ending.returned (.bool a) = .returned (.bool b) := by rw [h]
theorem ret_int {k : IntKind} {a b : Int} (h : a = b) : Ending.returned (.int k a) = .returned (.int k b) := by rw [h]
theorem step_below {w a b : World} (h : Below w.heap.size w a) (k : Below a.heap.size a b) : Below w.heap.size w b := h.trans (k.mono h.size)

/-- A word of sixteen digits: how many places are used, and the places. -/
structure Wrd (n : Nat) (l : List Nat) : Prop where
  n16 : n < 16
  len : l.length = 15
  dig : Dig l
theorem Wrd.lt {n : Nat} {l : List Nat} (h : Wrd n l) : enc (n :: l) < 18446744073709551616 := by
  have := enc_lt _ (Dig.cons h.n16 h.dig)
  rw [List.length_cons, h.len] at this
  exact this
theorem Wrd.get {n : Nat} {l : List Nat} (h : Wrd n l) (i : Nat) (hi : i < 15) : enc (n :: l) / 2 ^ (4 * (i + 1)) % 16 = l.getD i 0 := by
  have := enc_get (n :: l) (Dig.cons h.n16 h.dig) (i + 1) (by simp [h.len]; omega)
  rw [pow16, this]
  simp [List.getElem_cons_succ, List.getD, List.getElem?_eq_getElem (show i < l.length by rw [h.len]; exact hi)]
theorem Wrd.get16 {n : Nat} {l : List Nat} (h : Wrd n l) (i : Nat) (hi : i < 15) : l.getD i 0 < 16 := by
  rw [← h.get i hi]; omega
theorem Wrd.low {n : Nat} {l : List Nat} (h : Wrd n l) : enc (n :: l) % 16 = n := by
  have := h.n16
  rw [enc]; omega
theorem Wrd.shr {n : Nat} {l : List Nat} (h : Wrd n l) : enc (n :: l) / 16 = enc l := by
  have := h.n16
  rw [enc]; omega

theorem at_law (n : Nat) (l : List Nat) (i : Nat) (h : Wrd n l) (hi : i < 15) (w : World) :
    Calls Try.prog 31 #[.int .u64 ((enc (n :: l) : Nat) : Int), .int .i64 (i : Int)] w fun e w' => e = .returned (.int .i64 ((l.getD i 0 : Nat) : Int)) ∧ w = w' := by
  have hp := h.lt
  have hg := Lib.hid (h.get i hi)
  generalize enc (n :: l) = p at hp hg ⊢
  have hp' : (p : Int) < 18446744073709551616 := by omega
  have hi' : (i : Int) < 15 := by omega
  go_enter Try.func31, Try.ntmps31
  go_wp2
  go_ret
  refine ⟨ret_int ?_, rfl⟩
  rw [← hg.out]
  have hc : ((2 : Int) ^ (4 * (i + 1))) = ((2 ^ (4 * (i + 1)) : Nat) : Int) := by simp
  have hb : p / 2 ^ (4 * (i + 1)) ≤ p := Nat.div_le_self _ _
  show wrap64 (bits .and .u64 ((p : Int) / 2 ^ (4 * (i + 1))) 15) = _
  rw [hc, ← Int.natCast_ediv, show (15 : Int) = ((15 : Nat) : Int) from rfl, u64_and_nat _ _ (by omega) (by omega), nat_mask4]
  have h2 : p / 2 ^ (4 * (i + 1)) % 16 < 16 := Nat.mod_lt _ (by omega)
  exact IntWalk.wrap64_in ((p / 2 ^ (4 * (i + 1)) % 16 : Nat) : Int) (by omega)

/-- The places of a word, each from 0 to 14, none twice. -/
def Ok (l : List Nat) : Prop := ∀ i < 15, l.getD i 0 < 15 ∧ l.getD i 0 ∉ l.take i
def okB (l : List Nat) : Bool := (List.range 15).all fun i => decide (l.getD i 0 < 15) && !(l.take i).contains (l.getD i 0)
theorem okB_iff (l : List Nat) : okB l = true ↔ Ok l := by
  unfold okB Ok
  rw [List.all_eq_true]
  constructor
  · intro h i hi
    have := h i (List.mem_range.2 hi)
    simpa using this
  · intro h i hi
    have := h i (List.mem_range.1 hi)
    simpa using this

/-- A block of bools: which are in the list. -/
structure Seen (W : World) (B : Nat) (l : List Nat) : Prop where
  cell : ∀ j < 15, W.cell? ⟨B, j, none⟩ = some (.bool (decide (j ∈ l)))
  free : ∀ j < 15, W.frozen? ⟨B, j, none⟩ = false
theorem Seen.lt {W : World} {B : Nat} {l : List Nat} (h : Seen W B l) : B < W.heap.size := World.block_lt_of_cell? W _ (h.cell 0 (by omega))
theorem Seen.set {W : World} {B : Nat} {l : List Nat} (h : Seen W B l) (x : Nat) (hx : x < 15) (m : List Nat) (hm : ∀ j, j ∈ m ↔ j ∈ l ∨ j = x) : Seen (W.setCell ⟨B, x, none⟩ (.bool true)) B m :=
  ⟨fun j hj => by
    by_cases e : j = x
    · subst e
      rw [World.cell?_setCell_same W ⟨B, j, none⟩ (.bool true) (h.cell j hj)]
      simp [hm]
    · rw [World.cell?_setCell_other W ⟨B, x, none⟩ ⟨B, j, none⟩ (.bool true) (fun q => e (by cases q; rfl)), h.cell j hj]
      congr 2
      simp [hm, e],
   fun j hj => by rw [World.frozen?_setCell]; exact h.free j hj⟩
theorem seen_new (W : World) : Seen (W.alloc (.cells #[.bool false, .bool false, .bool false, .bool false, .bool false, .bool false, .bool false, .bool false, .bool false, .bool false, .bool false, .bool false, .bool false, .bool false, .bool false] 66)) W.heap.size [] :=
  ⟨fun j hj => by
    rcases (show j = 0 ∨ j = 1 ∨ j = 2 ∨ j = 3 ∨ j = 4 ∨ j = 5 ∨ j = 6 ∨ j = 7 ∨ j = 8 ∨ j = 9 ∨ j = 10 ∨ j = 11 ∨ j = 12 ∨ j = 13 ∨ j = 14 from by omega) with rfl | rfl | rfl | rfl | rfl | rfl | rfl | rfl | rfl | rfl | rfl | rfl | rfl | rfl | rfl <;> simp [go_sem],
   fun j hj => by
    rcases (show j = 0 ∨ j = 1 ∨ j = 2 ∨ j = 3 ∨ j = 4 ∨ j = 5 ∨ j = 6 ∨ j = 7 ∨ j = 8 ∨ j = 9 ∨ j = 10 ∨ j = 11 ∨ j = 12 ∨ j = 13 ∨ j = 14 from by omega) with rfl | rfl | rfl | rfl | rfl | rfl | rfl | rfl | rfl | rfl | rfl | rfl | rfl | rfl | rfl <;> simp [go_sem]⟩
theorem take_mem (l : List Nat) (i : Nat) (h : i < l.length) (j : Nat) : j ∈ l.take (i + 1) ↔ j ∈ l.take i ∨ j = l.getD i 0 := by
  have e : l.getD i 0 = l[i] := by simp [List.getD, List.getElem?_eq_getElem h]
  rw [e, List.take_succ_eq_append_getElem h, List.mem_append, List.mem_singleton]

theorem jstep {P : Nat → Prop} {k : Nat} (h : ∀ j < k, P j) (hk : P k) : ∀ j < k + 1, P j := fun j hj => by
  rcases (show j < k ∨ j = k from by omega) with h' | rfl
  · exact h j h'
  · exact hk

set_option maxHeartbeats 1000000 in
theorem may_law (n : Nat) (l : List Nat) (h : Wrd n l) (w : World) :
    Calls Try.prog 16 #[.int .u64 ((enc (n :: l) : Nat) : Int)] w fun e w' => e = .returned (.bool (okB l)) ∧ Below w.heap.size w w' := by
  have h15 := h.len
  have HW := Lib.hid h
  have hS0 := seen_new w
  clear h
  go_enter Try.func16, Try.ntmps16
  go_wp2_with fail
  go_step3
  go_wp2_with fail
  go_step3
  go_wp2_with fail
  go_loopw [4, 7] (fun o i wr => ∃ k : Nat, k ≤ 15 ∧ o = .bool true ∧ i = .int .i64 k ∧ (∀ i < k, l.getD i 0 < 15 ∧ l.getD i 0 ∉ l.take i) ∧ Seen wr w.heap.size (l.take k) ∧ Below w.heap.size w wr) (fun _ i _ => 15 - (intOf i).toNat)
  case atStart => exact ⟨0, by omega, rfl, rfl, fun i hi => absurd hi (by omega), hS0, (Below.refl _ _).alloc (Nat.le_refl _) _⟩
  case round =>
    clear hS0
    obtain ⟨k, hk, rfl, rfl, hpre, hS, B⟩ := hrel
    have HP := Lib.hid hpre
    clear hpre
    by_cases hlt : k < 15
    · have hkl : (k : Int) < 15 := by omega
      have h16 := HW.out.get16 k hlt
      go_wp2_with fail
      refine (at_law n l k HW.out hlt _).mono ?_; rintro e w' ⟨rfl, rfl⟩
      by_cases hd : l.getD k 0 < 15
      · have hdl : ((l.getD k 0 : Nat) : Int) < 15 := by omega
        have c := hS.cell _ hd
        have f := hS.free _ hd
        have hbl := hS.lt
        by_cases hm : l.getD k 0 ∈ l.take k
        · rw [decide_eq_true hm] at c
          have HN := Lib.hid (show okB l = false by
            cases hb : okB l
            · rfl
            · exact absurd hm ((okB_iff l).1 hb k hlt).2)
          clear hm hS
          generalize l.getD k 0 = x at *
          go_wp2_with fail
          try rw [Exit.noGoto_ret]
          go_ret
          exact ⟨ret_bool HN.out.symm, B⟩
        · have hS2 := hS.set _ hd (l.take (k + 1)) (take_mem l k (by omega))
          have HG := Lib.hid (show l.getD k 0 < 15 ∧ l.getD k 0 ∉ l.take k from ⟨hd, hm⟩)
          rw [decide_eq_false hm] at c
          clear hm hS
          obtain ⟨x, hx⟩ : ∃ x, l.getD k 0 = x := ⟨_, rfl⟩
          rw [hx] at c f hd hdl h16 hS2 ⊢
          have HX := Lib.hid hx
          clear hx
          go_wp2_with fail
          go_roundw
          case rel => exact ⟨k + 1, by omega, rfl, by go_num, jstep HP.out HG.out, hS2, B.setCell (Nat.le_refl _) _⟩
          case measure => simp [intOf]; omega
      · have hdl : ¬ ((l.getD k 0 : Nat) : Int) < 15 := by omega
        have HN := Lib.hid (show okB l = false by
          cases hb : okB l
          · rfl
          · exact absurd ((okB_iff l).1 hb k hlt).1 hd)
        clear hd
        generalize l.getD k 0 = x at *
        go_wp2_with fail
        try rw [Exit.noGoto_ret]
        go_ret
        exact ⟨ret_bool HN.out.symm, B⟩
    · have hkl : ¬ (k : Int) < 15 := by omega
      have e : k = 15 := by omega
      have HN := Lib.hid (show okB l = true from (okB_iff l).2 fun i hi => HP.out i (by omega))
      clear e
      go_wp2_with fail
      try rw [Exit.noGoto_ret]
      go_ret
      exact ⟨ret_bool HN.out.symm, B⟩

def cV (n : Nat) (l : List Nat) : Nat := if okB l = true then n else 0
theorem cV_le {n : Nat} {l : List Nat} (h : Wrd n l) : cV n l ≤ 15 := by have := h.n16; unfold cV; split <;> omega
theorem low_bits (p n : Nat) (hp : p < 18446744073709551616) (h : p % 16 = n) : bits .and .u64 (p : Int) 15 = (n : Int) := by
  rw [show (15 : Int) = ((15 : Nat) : Int) from rfl, u64_and_nat _ _ hp (by omega), nat_mask4, h]
theorem count_law (n : Nat) (l : List Nat) (h : Wrd n l) (w : World) :
    Calls Try.prog 17 #[.int .u64 ((enc (n :: l) : Nat) : Int)] w fun e w' => e = .returned (.int .i64 (cV n l : Nat)) ∧ Below w.heap.size w w' := by
  have hp := h.lt
  have h16 := h.n16
  have hb := low_bits (enc (n :: l)) n hp h.low
  have HW := Lib.hid h
  have HB := Lib.hid hb
  clear h hb
  cases ho : okB l
  · have e : cV n l = 0 := by unfold cV; rw [ho]; rfl
    rw [e]
    go_enter Try.func17, Try.ntmps17
    go_wp2_with fail
    refine (may_law n l HW.out _).mono ?_; rintro e w' ⟨rfl, B⟩
    rw [ho]
    go_wp2_with fail
    go_ret
    exact ⟨rfl, B⟩
  · have e : cV n l = n := by unfold cV; rw [ho]; rfl
    rw [e]
    clear e
    go_enter Try.func17, Try.ntmps17
    go_wp2_with fail
    refine (may_law n l HW.out _).mono ?_; rintro e w' ⟨rfl, B⟩
    rw [ho]
    go_wp2_with fail
    go_ret
    refine ⟨ret_int ?_, B⟩
    show wrap64 (bits .and .u64 ((enc (n :: l) : Nat) : Int) 15) = _
    rw [HB.out]
    exact IntWalk.wrap64_in _ (by omega)

def atV (n : Nat) (l : List Nat) (i : Int) : Nat × Int := if 0 ≤ i ∧ i < (cV n l : Nat) then (l.getD i.toNat 0, 0) else (0, 2)
theorem At_law (n : Nat) (l : List Nat) (i : Int) (h : Wrd n l) (w : World) :
    Calls Try.prog 12 #[.int .u64 ((enc (n :: l) : Nat) : Int), .int .i64 i] w fun e w' => e = .returned (.tuple #[.int .i64 ((atV n l i).1 : Nat), .int .i64 (atV n l i).2]) ∧ Below w.heap.size w w' := by
  have hc := cV_le h
  rcases (show i < 0 ∨ (0 ≤ i ∧ ¬ i < (cV n l : Nat)) ∨ (0 ≤ i ∧ i < (cV n l : Nat)) from by omega) with h0 | ⟨h0, h1⟩ | ⟨h0, h1⟩
  · rw [atV, if_neg (by omega)]
    go_enter Try.func12, Try.ntmps12
    go_wp2_with fail
    go_ret2
    exact ⟨rfl, Below.refl _ _⟩
  · rw [atV, if_neg (by omega)]
    go_enter Try.func12, Try.ntmps12
    go_wp2_with fail
    refine (count_law n l h _).mono ?_; rintro e w' ⟨rfl, B⟩
    go_wp2_with fail
    go_ret2
    exact ⟨rfl, B⟩
  · rw [atV, if_pos ⟨h0, h1⟩]
    obtain ⟨k, rfl⟩ : ∃ k : Nat, i = k := ⟨i.toNat, by omega⟩
    go_enter Try.func12, Try.ntmps12
    go_wp2_with fail
    refine (count_law n l h _).mono ?_; rintro e w' ⟨rfl, B⟩
    go_wp2_with fail
    refine (at_law n l k h (by omega) _).mono ?_; rintro e w' ⟨rfl, rfl⟩
    go_wp2_with fail
    go_ret2
    exact ⟨by simp, B⟩

/-- The places, where one is put elsewhere. -/
def mvd (l : List Nat) (i j : Nat) : List Nat := put (out l i) j (l.getD i 0)
theorem mvd_wrd {n : Nat} {l : List Nat} (h : Wrd n l) (i j : Nat) (hi : i < 15) (hj : j < 15) : Wrd n (mvd l i j) :=
  ⟨h.n16, by have h1 := out_length (l := l) (i := i) (by rw [h.len]; exact hi); have h2 := put_length (l := out l i) (j := j) (d := l.getD i 0) (by rw [h1, h.len]; omega); have := h.len; unfold mvd; omega,
    put_dig (out_dig h.dig i) j _ (h.get16 i hi)⟩
theorem move_law (n : Nat) (l : List Nat) (i j : Nat) (h : Wrd n l) (hi : i < 15) (hj : j < 15) (w : World) :
    Calls Try.prog 34 #[.int .u64 ((enc (n :: l) : Nat) : Int), .int .i64 (i : Int), .int .i64 (j : Int)] w fun e w' => e = .returned (.int .u64 ((enc (n :: mvd l i j) : Nat) : Int)) ∧ w = w' := by
  have hp := h.lt
  obtain ⟨d, hd⟩ : ∃ d, l.getD i 0 = d := ⟨_, rfl⟩
  have h16 := h.get16 i hi
  have hg := at_law n l i h hi w
  have m1 := mv1 n l i h.n16 h.len h.dig hi
  have m2 := mv2 n (out l i) j (l.getD i 0) h.n16 (by rw [out_length (by rw [h.len]; exact hi), h.len]) (out_dig h.dig i) hj h16
  unfold mvd
  rw [hd] at h16 hg m2 ⊢
  have hdi : (d : Int) < 16 := by omega
  have hd0 : 0 ≤ (d : Int) := by omega
  have HG := Lib.hid hg
  have M1 := Lib.hid m1
  have M2 := Lib.hid m2
  have hp' : ((enc (n :: l) : Nat) : Int) < 18446744073709551616 := by omega
  have hi' : (i : Int) < 15 := by omega
  have hj' : (j : Int) < 15 := by omega
  clear h m1 m2 hg hd
  go_enter Try.func34, Try.ntmps34
  go_wp2_with fail
  refine HG.out.mono ?_; rintro e w' ⟨rfl, rfl⟩
  go_wp2_with fail
  go_ret
  refine ⟨?_, rfl⟩
  have a1 := M1.out
  have a2 := M2.out
  rw [← a1] at a2
  rw [Int.natCast_ediv] at a2
  rw [← a2]
  rfl
end Go.Proofs.Ytochdmdojcfceaa
