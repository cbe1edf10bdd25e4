/- A row's words, by contracts. -/
import Derived.Test.YtkgcbhpgkcfkhaaByt
import Derived.Laws.BitsAllLaws
import Derived.IntWalk
namespace Go.Proofs.Ytkgcbhpgkcfkhaa
open Go.ChangeShapes Go.WideShapes Go.ChangeAt Go.RowKit
set_option linter.unusedVariables false
set_option linter.unusedSimpArgs false

theorem eltW : Elt .u64 31 40 8 := ⟨Try.underlying31, by kernel_rfl, by decide⟩
def wv (B : List Int) (j : Nat) : Int := B.getD (8 * j) 0 * 72057594037927936 + B.getD (8 * j + 1) 0 * 281474976710656 + B.getD (8 * j + 2) 0 * 1099511627776 + B.getD (8 * j + 3) 0 * 4294967296 + B.getD (8 * j + 4) 0 * 16777216 + B.getD (8 * j + 5) 0 * 65536 + B.getD (8 * j + 6) 0 * 256 + B.getD (8 * j + 7) 0
theorem getD_take (L : List Int) (k i : Nat) : (L.take k).getD i 0 = if i < k then L.getD i 0 else 0 := by
  simp only [List.getD, List.getElem?_take]
  split <;> simp
theorem getD_byt {L : List Int} (h : Byt L) (i : Nat) : 0 ≤ L.getD i 0 ∧ L.getD i 0 ≤ 255 := by
  by_cases hi : i < L.length
  · exact h.get i hi
  · simp [List.getD, List.getElem?_eq_none (Nat.le_of_not_lt hi)]
theorem lt8 {r : Nat} (h : r < 8) : r = 0 ∨ r = 1 ∨ r = 2 ∨ r = 3 ∨ r = 4 ∨ r = 5 ∨ r = 6 ∨ r = 7 := by omega
/-- One byte more. -/
theorem wv_step {L : List Int} (h : Byt L) (j r : Nat) (hr : r < 8) : wv (L.take (8 * j + r + 1)) j = wv (L.take (8 * j + r)) j + L.getD (8 * j + r) 0 * 2 ^ (56 - 8 * r) ∧
    0 ≤ wv (L.take (8 * j + r)) j ∧ wv (L.take (8 * j + r)) j < 18446744073709551616 ∧ wv (L.take (8 * j + r)) j % 2 ^ (64 - 8 * r) = 0 := by
  have h0 := getD_byt h (8 * j); have h1 := getD_byt h (8 * j + 1); have h2 := getD_byt h (8 * j + 2); have h3 := getD_byt h (8 * j + 3); have h4 := getD_byt h (8 * j + 4); have h5 := getD_byt h (8 * j + 5); have h6 := getD_byt h (8 * j + 6); have h7 := getD_byt h (8 * j + 7)
  rcases lt8 hr with rfl | rfl | rfl | rfl | rfl | rfl | rfl | rfl
  all_goals
    simp only [wv, getD_take, Nat.add_zero] at *
    generalize L.getD (8 * j) 0 = y0 at *
    generalize L.getD (8 * j + 1) 0 = y1 at *
    generalize L.getD (8 * j + 2) 0 = y2 at *
    generalize L.getD (8 * j + 3) 0 = y3 at *
    generalize L.getD (8 * j + 4) 0 = y4 at *
    generalize L.getD (8 * j + 5) 0 = y5 at *
    generalize L.getD (8 * j + 6) 0 = y6 at *
    generalize L.getD (8 * j + 7) 0 = y7 at *
    simp
    omega
theorem wv_other (L : List Int) (j r i : Nat) (hr : r < 8) (hi : i ≠ j) : wv (L.take (8 * j + r + 1)) i = wv (L.take (8 * j + r)) i := by
  have e : ∀ q < 8, (L.take (8 * j + r + 1)).getD (8 * i + q) 0 = (L.take (8 * j + r)).getD (8 * i + q) 0 := fun q hq => by
    rw [getD_take, getD_take]
    by_cases h1 : 8 * i + q < 8 * j + r
    · rw [if_pos h1, if_pos (by omega)]
    · rw [if_neg h1, if_neg (by omega)]
  unfold wv
  have e0 := e 0 (by omega)
  simp only [Nat.add_zero] at e0
  rw [e0, e 1 (by omega), e 2 (by omega), e 3 (by omega), e 4 (by omega), e 5 (by omega), e 6 (by omega), e 7 (by omega)]
theorem or_plus (X Y : Int) (m : Nat) (hm : m ≤ 64) (h0 : 0 ≤ X) (h1 : X < 18446744073709551616) (hX : X % 2 ^ m = 0) (h2 : 0 ≤ Y) (h3 : Y < 2 ^ m) : bits .or .u64 X Y = X + Y := by
  obtain ⟨a, rfl⟩ : ∃ a : Nat, X = a := ⟨X.toNat, by omega⟩
  obtain ⟨b, rfl⟩ : ∃ b : Nat, Y = b := ⟨Y.toNat, by omega⟩
  have hb : b < 2 ^ m := by exact_mod_cast h3
  have ha : a % 2 ^ m = 0 := by exact_mod_cast hX
  have hp : 2 ^ m ≤ 2 ^ 64 := Nat.pow_le_pow_right (by omega) hm
  rw [u64_or_nat a b (by omega) (by omega), nat_join m a b ha hb]
  simp
theorem word_or (x y : Int) (r : Nat) (hr : r < 8) (h0 : 0 ≤ x) (h1 : x ≤ 255) (h2 : 0 ≤ y) (h3 : y < 18446744073709551616) (h4 : y % 2 ^ (64 - 8 * r) = 0) : bits .or .u64 y (IntKind.u64.wrap (IntKind.u64.wrap x * 2 ^ (56 - 8 * r))) = y + x * 2 ^ (56 - 8 * r) := by
  rw [show IntKind.u64.wrap x = x by rw [IntKind.wrap_u64]; omega]
  rcases lt8 hr with rfl | rfl | rfl | rfl | rfl | rfl | rfl | rfl
  all_goals
    simp only [Nat.mul_zero, Nat.sub_zero, Nat.reduceMul, Nat.reduceSub] at *
    rw [IntKind.wrap_u64, Int.emod_eq_of_lt (by omega) (by omega)]
    exact or_plus _ _ _ (by omega) h2 h3 h4 (by omega) (by omega)
theorem count_law (n : Nat) (hn : n ≤ 1000000) (w : World) : Calls Try.prog 61 #[.int .i64 (n : Int)] w fun r w' => r = .returned (.int .i64 (((n + 7) / 8 : Nat) : Int)) ∧ w = w' := by
  have hi : (n : Int) ≤ 1000000 := by omega
  go_enter Try.func61, Try.ntmps61
  go_wp2
  go_ret
  refine ⟨ret_int ?_, rfl⟩
  omega
theorem shift_law (k : Nat) (hn : k ≤ 1000000) (w : World) : Calls Try.prog 62 #[.int .i64 (k : Int)] w fun r w' => r = .returned (.int .i64 ((56 - 8 * (k % 8) : Nat) : Int)) ∧ w' = w := by
  have hi : (k : Int) ≤ 1000000 := by omega
  go_enter Try.func62, Try.ntmps62
  go_wp2
  go_ret
  refine ⟨ret_int ?_, rfl⟩
  omega

/-- The words so far: how many bytes, then these. -/
def mw (n : Nat) (L : List Int) (k j : Nat) : Int := if j = 0 then (n : Int) else wv (L.take k) (j - 1)
structure Mw (W : World) (g n c : Nat) (L : List Int) (k : Nat) : Prop where
  cell : ∀ j < 1 + c, W.cell? ⟨g, j, none⟩ = some (.int .u64 (mw n L k j))
  free : ∀ j < 1 + c, W.frozen? ⟨g, j, none⟩ = false
theorem Mw.drew {W : World} {g n c : Nat} {L : List Int} {k : Nat} (h : Mw W g n c L k) : Mw W.drew g n c L k := ⟨h.cell, h.free⟩
theorem Mw.set {W : World} {g n c : Nat} {L : List Int} {k : Nat} (h : Mw W g n c L k) (j r : Nat) (hk : k = 8 * j + r) (hr : r < 8) (hj : j < c) (x : Int) (hx : x = wv (L.take (k + 1)) j) : Mw (W.setCell ⟨g, 1 + j, none⟩ (.int .u64 x)) g n c L (k + 1) :=
  ⟨fun i hi => by
    by_cases e : i = 1 + j
    · subst e
      rw [World.cell?_setCell_same W ⟨g, 1 + j, none⟩ _ (h.cell _ hi), mw, if_neg (by omega), show 1 + j - 1 = j by omega, hx]
    · rw [World.cell?_setCell_other W ⟨g, 1 + j, none⟩ ⟨g, i, none⟩ _ (fun q => by simp at q <;> omega), h.cell i hi]
      congr 2
      unfold mw
      by_cases h0 : i = 0
      · rw [if_pos h0, if_pos h0]
      · rw [if_neg h0, if_neg h0, hk, wv_other L j r (i - 1) hr (by omega)],
   fun i hi => by rw [World.frozen?_setCell]; exact h.free i hi⟩
def wordsL (L : List Int) : List Int := (List.range (1 + (L.length + 7) / 8)).map fun j => mw L.length L L.length j
theorem wordsL_length (L : List Int) : (wordsL L).length = 1 + (L.length + 7) / 8 := by simp [wordsL]
theorem Mw.ls {W : World} {g n c : Nat} {L : List Int} (h : Mw W g n c L n) (hn : L.length = n) (hc : c = (n + 7) / 8) : Ls .u64 W (some ⟨g, 0, none⟩) (1 + c) (wordsL L) := by
  subst hn hc
  refine ⟨fun k hk => ⟨g, 0, rfl, ?_⟩, fun e => (by cases e), by rw [wordsL_length]; exact Nat.le_refl _⟩
  rw [wordsL_length] at hk
  rw [Nat.zero_add, h.cell k hk]
  congr 2
  simp [wordsL, List.getD, hk]
theorem wv_nil (j : Nat) : wv [] j = 0 := by simp [wv]

theorem own_froz {w : World} {base n g cap : Nat} {e : TypeId} {xs : List Value} (h : w.ownsRow base e 1 (.slice (some ⟨g, 0, none⟩) n cap) n xs) (j : Nat) : w.frozen? ⟨g, j, none⟩ = false := by
  rcases h.2 with ⟨e, _⟩ | ⟨g2, cap2, cur, e, _, hh, _⟩
  · cases e
  · cases e
    simp [World.frozen?, hh]

set_option maxRecDepth 100000 in
set_option maxHeartbeats 1000000 in
theorem words_bad (a : Option Addr) (R : List P1) (n cap : Nat) (hn : R.length = n) (hn3 : n ≤ 1000000) (hm : mayR R = false) (w : World) (hR : RdR w a R) :
    Calls Try.prog 16 #[.slice a n cap] w fun r w' => r = .returned (.tuple #[.slice none 0 0, .int .i64 2]) ∧ Below w.heap.size w w' := by
  have H := Lib.hid (bytes_bad a R n cap hn hn3 hm w hR)
  clear hn hm hR
  go_enter Try.func16, Try.ntmps16
  go_wp2_with fail
  refine H.out.mono ?_; rintro e w' ⟨rfl, B⟩
  go_wp2_with fail
  go_ret2
  exact ⟨rfl, B⟩
theorem rbytes_byt {R : List P1} (h : ∀ p ∈ R, Byt p.bs) (hl : ∀ p ∈ R, p.bs.length ≤ 24) (h3 : R.length ≤ 3) : Byt (rbytesL R) := by
  intro x hx
  rcases List.mem_cons.1 hx with rfl | hx
  · omega
  · unfold manyL at hx
    rw [List.mem_flatten] at hx
    obtain ⟨l, hl1, hl2⟩ := hx
    obtain ⟨p, hp, rfl⟩ := List.mem_map.1 hl1
    exact wbytesL_byt (h p hp) (by have := hl p hp; omega) x hl2
theorem rbytes_len {R : List P1} (hm : mayR R = true) : (rbytesL R).length ≤ 76 := by
  obtain ⟨h1, _, h3⟩ := (mayR_iff R).1 hm
  have := manyL_len R h1
  rw [rbytesL, List.length_cons]; omega
set_option maxRecDepth 100000 in
set_option maxHeartbeats 4000000 in
theorem words_ok (a : Option Addr) (R : List P1) (n cap : Nat) (hn : R.length = n) (hm : mayR R = true) (hb : ∀ p ∈ R, Byt p.bs) (w : World) (hR : RdR w a R) :
    Calls Try.prog 16 #[.slice a n cap] w fun r w' => ∃ a' c', r = .returned (.tuple #[.slice a' (wordsL (rbytesL R)).length c', .int .i64 0]) ∧ Ls .u64 w' a' c' (wordsL (rbytesL R)) ∧ Below w.heap.size w w' := by
  obtain ⟨h1, _, h3⟩ := (mayR_iff R).1 hm
  have HB := Lib.hid (rbytes_byt hb h1 h3)
  have hlen := rbytes_len hm
  have h := bytes_ok a R n cap hn hm w hR
  clear hn hm hb hR h1 h3
  obtain ⟨L, hL⟩ : ∃ L, rbytesL R = L := ⟨_, rfl⟩
  rw [hL] at HB h hlen ⊢
  clear hL
  rw [wordsL_length]
  obtain ⟨N, hN⟩ : ∃ N, L.length = N := ⟨_, rfl⟩
  rw [hN] at h hlen ⊢
  have HN := Lib.hid hN
  have H := Lib.hid h
  have hNi : (N : Int) ≤ 76 := by omega
  have hcl := fun w => count_law N (by omega) w
  obtain ⟨c, hc⟩ : ∃ c, (N + 7) / 8 = c := ⟨_, rfl⟩
  rw [hc] at hcl ⊢
  have HC := Lib.hid hc
  have HCL := Lib.hid hcl
  have hc10 : (c : Int) ≤ 10 := by omega
  have hc11 : c ≤ 10 := by omega
  clear hN h hc hcl
  obtain ⟨i0, hi, hz0, hz1, hz2⟩ := info_parts eltW.inf
  go_enter Try.func16, Try.ntmps16
  go_wp2_with fail
  refine H.out.mono ?_; rintro e w1 ⟨a1, c1, rfl, l1, B1⟩
  go_wp2_with fail
  refine (HCL.out _).mono ?_; rintro e w' ⟨rfl, rfl⟩
  go_wp2_with (at_make; refine wpList_make_full _ rfl _ _ 31 rfl w1.heap.size 40 i0 (.int .u64 0) 1 Try.underlying31 hi hz0 hz1 .i64 .i64 _ _ (1 + c) rfl rfl (by push_cast; rfl) (by push_cast; rfl) (by rw [hz2]; omega) (by unfold maxLen; omega) (Nat.le_refl _) ?_)
  intro w2 hown hgrow
  have HL1 := Lib.hid (show ∀ W, Below w1.heap.size w1 W → Ls .u8 W a1 c1 L from fun W b => l1.below b)
  have HB1 := Lib.hid (show ∀ W, Below w1.heap.size w1 W → Below w.heap.size w W from fun W b => step_below B1 b)
  have B2 : Below w1.heap.size w1 w2 := (Below.refl w1.heap.size w1).grown hgrow (Nat.le_refl _) (fun j hj => by cases hj)
  have hg2 := (hown.lt _ rfl).2
  obtain ⟨g, hg⟩ : ∃ g, w1.heap.size = g := ⟨_, rfl⟩
  rw [hg] at hown hg2 HL1 HB1 B2 ⊢
  have hz : ∀ j < 1 + c, w2.cell? ⟨g, j, none⟩ = some (.int .u64 0) := fun j hj => by
    rw [hown.cellAt j (by omega)]
    simp [madeCells, hj, Nat.mod_one]
  have hf : ∀ j, w2.frozen? ⟨g, j, none⟩ = false := own_froz hown
  have c0 := hz 0 (by omega)
  have f0 := hf 0
  have h1c : (0 : Int) < 1 + (c : Int) := by omega
  have h1c' : 0 < 1 + c := by omega
  have M0 : Mw (w2.setCell ⟨g, 0, none⟩ (.int .u64 (N : Int))) g N c L 0 := ⟨fun j hj => by
    by_cases e : j = 0
    · subst e; rw [World.cell?_setCell_same _ _ _ c0]; rfl
    · rw [World.cell?_setCell_other w2 ⟨g, 0, none⟩ ⟨g, j, none⟩ _ (fun q => by simp at q <;> omega), hz j hj, mw, if_neg e]
      simp [wv],
    fun j hj => by rw [World.frozen?_setCell]; exact hf j⟩
  have B3 := B2.setCell (p := ⟨g, 0, none⟩) (Nat.le_refl _) (.int .u64 (N : Int))
  clear hown hgrow hz hf l1 B1 B2
  go_wp2_with fail
  clear c0 f0
  go_loopw [29] (fun i wr => ∃ k : Nat, k ≤ N ∧ i = .int .i64 k ∧ Mw wr g N c L k ∧ Below g w1 wr) (fun i _ => N - (intOf i).toNat)
  case atStart => exact ⟨0, by omega, rfl, M0, B3⟩
  case round =>
    clear M0 B3
    obtain ⟨k, hk, rfl, hM, B⟩ := hrel
    by_cases hlt : k < N
    · have hkl : (k : Int) < (N : Int) := by omega
      have hkL : k < L.length := by rw [HN.out]; exact hlt
      obtain ⟨b1, o1, e1, c1'⟩ := (HL1.out wr B).get k hkL
      subst e1
      have hbx := HB.out.get k hkL
      obtain ⟨j, hj⟩ : ∃ j, k / 8 = j := ⟨_, rfl⟩
      obtain ⟨r, hr⟩ : ∃ r, k % 8 = r := ⟨_, rfl⟩
      have hkjr : k = 8 * j + r := by omega
      have hr8 : r < 8 := by omega
      have hjc : j < c := by have := HC.out; omega
      obtain ⟨s1, s2, s3, s4⟩ := wv_step HB.out j r hr8
      rw [← hkjr] at s1 s2 s3 s4
      have hcell := hM.cell (1 + j) (by omega)
      have hfree := hM.free (1 + j) (by omega)
      rw [mw, if_neg (by omega), show 1 + j - 1 = j by omega] at hcell
      obtain ⟨x, hx⟩ : ∃ x, L.getD k 0 = x := ⟨_, rfl⟩
      rw [hx] at c1' hbx s1
      obtain ⟨y, hy⟩ : ∃ y, wv (L.take k) j = y := ⟨_, rfl⟩
      rw [hy] at s1 s2 s3 s4 hcell
      have hq8 : (k : Int) / 8 = (j : Int) := by omega
      have hjci : 1 + (j : Int) < 1 + (c : Int) := by omega
      have hsh := shift_law k (by omega)
      rw [hr] at hsh
      have HSH := Lib.hid hsh
      have S1 := Lib.hid s1
      have S4 := Lib.hid s4
      have HKJ := Lib.hid hkjr
      have HM := Lib.hid hM
      have HR8 := Lib.hid hr8
      have hs56 : ((56 - 8 * r : Nat) : Int) ≤ 56 := by omega
      have hw1 : IntKind.i64.wrap (j : Int) = (j : Int) := by rw [IntKind.wrap_i64]; omega
      have hw2 : IntKind.i64.wrap (1 + (j : Int)) = 1 + (j : Int) := by rw [IntKind.wrap_i64]; omega
      have hw3 : (1 + (j : Int)).toNat = 1 + j := by omega
      have hj0 : (0 : Int) ≤ 1 + (j : Int) := by omega
      clear hx hy hj hr hkjr s1 s4 hsh hM
      go_wp2_with fail
      have hmx : Try.prog.follows .mixedOrders = true := by kernel_rfl
      go_still_tail 13, (by kernel_rfl)
      still_call (HSH.out _)
      repeat still_step
      refine wpStill_nil ?_
      change wpList _ _ _ _ _ wr.drew
      have HM2 := HM.out.drew
      have BD := B.drew
      have hcell2 : wr.drew.cell? ⟨g, 1 + j, none⟩ = some (.int .u64 y) := hcell
      have hfree2 : wr.drew.frozen? ⟨g, 1 + j, none⟩ = false := hfree
      clear hcell hfree B HM c1'
      generalize wr.drew = W2 at hcell2 hfree2 BD HM2 ⊢
      have hVv := (word_or x y r hr8 hbx.1 hbx.2 s2 s3 S4.out).trans S1.out.symm
      obtain ⟨V, hV⟩ : ∃ V, bits .or .u64 y (IntKind.u64.wrap (IntKind.u64.wrap x * 2 ^ (56 - 8 * r))) = V := ⟨_, rfl⟩
      rw [hV] at hVv ⊢
      have M3 := HM2.set j r HKJ.out hr8 hjc V hVv
      have B3 := BD.setCell (p := ⟨g, 1 + j, none⟩) (Nat.le_refl _) (.int .u64 V)
      clear hV hVv HM2 BD
      go_wp2_with fail
      go_roundw
      case rel => exact ⟨k + 1, by omega, by go_num, M3, B3⟩
      case measure => simp [intOf]; omega
    · have hkl : ¬ (k : Int) < (N : Int) := by omega
      have e : k = N := by omega
      subst e
      have l3 := hM.ls HN.out HC.out.symm
      have B3 := HB1.out _ B
      go_wp2_with fail
      go_ret2
      exact ⟨some ⟨g, 0, none⟩, 1 + c, rfl, l3, B3⟩
end Go.Proofs.Ytkgcbhpgkcfkhaa
