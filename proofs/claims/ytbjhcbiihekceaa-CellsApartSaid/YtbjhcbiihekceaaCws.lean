/- CellsWords' walk. -/
import Derived.Test.YtbjhcbiihekceaaCkn
namespace Go.Proofs.Ytbjhcbiihekceaa
open Go.ChangeShapes Go.WideShapes Go.ChangeAt Go.RowKit Go.Maps
set_option linter.unusedVariables false
set_option linter.unusedSimpArgs false
theorem known_any (w : World) {base : Nat} {w0 : World} (h : Below base w0 w) (hs : base ≤ w.heap.size) : Calls Try.prog 31 #[] w fun e w' => e = .returned (.bool true) ∧ Below base w0 w' :=
  (known_law w).mono fun e w' h' => ⟨h'.1, h.trans (h'.2.mono hs)⟩
/-- An arena that stands in new blocks. -/
structure Kw (w : World) (p bc bm n : Nat) (f : Nat → Int) (W : World) : Prop where
  ar : Ar W p bc bm n 0 f (fun _ => false) (.map [])
  bel : Below w.heap.size w W
  bc : w.heap.size ≤ bc
  bm : w.heap.size ≤ bm
theorem words_no (N : Int) (at_ other : Nat) (a : Option Addr) (len cap : Nat) (w : World) (h : N < 1024 ∨ 65536 < N) : Calls Try.prog 10 #[.int .i64 N, .int .u64 at_, .int .u64 other, .slice a len cap] w fun e w' => e = .returned (.bool true) ∧ Below w.heap.size w w' := by
  have HN := Lib.hid h
  clear h
  go_enter Try.func10, Try.ntmps10
  go_wp2_with fail
  refine (new_bad N HN.out w).mono ?_
  rintro e w' ⟨rfl, rfl⟩
  go_wp2_with fail
  refine (known_law w).mono ?_
  rintro e w' ⟨rfl, hB⟩
  replace hB := Lib.hid hB
  go_wp2_with fail
  go_ret
  exact ⟨rfl, hB.out⟩
set_option maxRecDepth 100000 in
set_option maxHeartbeats 2000000 in
theorem words_skip (n at_ other : Nat) (a : Option Addr) (len cap : Nat) (w : World) (h1 : 1024 ≤ n) (h2 : n ≤ 65536) (h : at_ = other ∨ n ≤ at_ ∨ n ≤ other ∨ 50 < len) : Calls Try.prog 10 #[.int .i64 n, .int .u64 at_, .int .u64 other, .slice a len cap] w fun e w' => e = .returned (.bool true) ∧ Below w.heap.size w w' := by
  have HN := Lib.hid (new_law n h1 h2 w)
  by_cases c1 : at_ = other
  · clear h
    subst c1
    go_enter Try.func10, Try.ntmps10
    go_wp2_with fail
    refine HN.out.mono ?_
    rintro e W1 ⟨rfl, hA, hB⟩
    replace hB := Lib.hid hB
    clear hA
    go_wp2_with fail
    refine (known_any W1 hB.out hB.out.size).mono ?_
    rintro e w' ⟨rfl, hB2⟩
    replace hB2 := Lib.hid hB2
    go_wp2_with fail
    go_ret
    exact ⟨rfl, hB2.out⟩
  · have e1 : ((at_ : Int) == (other : Int)) = false := by simp; omega
    have e1' : (at_ == other) = false := by simp; omega
    by_cases c2 : n ≤ at_
    · have d1 : decide (n ≤ at_) = true := decide_eq_true c2
      clear h c1 c2
      go_enter Try.func10, Try.ntmps10
      go_wp2_with fail
      refine HN.out.mono ?_
      rintro e W1 ⟨rfl, hA, hB⟩
      replace hB := Lib.hid hB
      clear hA
      go_wp2_with fail
      refine (known_any W1 hB.out hB.out.size).mono ?_
      rintro e w' ⟨rfl, hB2⟩
      replace hB2 := Lib.hid hB2
      go_wp2_with fail
      go_ret
      exact ⟨rfl, hB2.out⟩
    · have d1 : decide (n ≤ at_) = false := decide_eq_false c2
      by_cases c3 : n ≤ other
      · have d2 : decide (n ≤ other) = true := decide_eq_true c3
        clear h c1 c2 c3
        go_enter Try.func10, Try.ntmps10
        go_wp2_with fail
        refine HN.out.mono ?_
        rintro e W1 ⟨rfl, hA, hB⟩
        replace hB := Lib.hid hB
        clear hA
        go_wp2_with fail
        refine (known_any W1 hB.out hB.out.size).mono ?_
        rintro e w' ⟨rfl, hB2⟩
        replace hB2 := Lib.hid hB2
        go_wp2_with fail
        go_ret
        exact ⟨rfl, hB2.out⟩
      · have d2 : decide (n ≤ other) = false := decide_eq_false c3
        have hl : 50 < len := by omega
        clear h c1 c2 c3
        go_enter Try.func10, Try.ntmps10
        go_wp2_with fail
        refine HN.out.mono ?_
        rintro e W1 ⟨rfl, hA, hB⟩
        replace hB := Lib.hid hB
        clear hA
        go_wp2_with fail
        refine (known_any W1 hB.out hB.out.size).mono ?_
        rintro e w' ⟨rfl, hB2⟩
        replace hB2 := Lib.hid hB2
        go_wp2_with fail
        go_ret
        exact ⟨rfl, hB2.out⟩

theorem Kw.off {w W W' : World} {p bc bm n : Nat} {f f' : Nat → Int} (h : Kw w p bc bm n f W) (a : Ar W' p bc bm n 0 f' (fun _ => false) (.map [])) (o : Off (fun j => j = bc) W W') : Kw w p bc bm n f' W' :=
  ⟨a, o.below h.bel h.bel.size (fun k e => by have := h.bc; omega), h.bc, h.bm⟩
theorem Kw.below {w W W' : World} {p bc bm n : Nat} {f : Nat → Int} (h : Kw w p bc bm n f W) (b : Below W.heap.size W W') : Kw w p bc bm n f W' := ⟨h.ar.below b, step_below h.bel b, h.bc, h.bm⟩
theorem kw_add {w W : World} {p bc bm n : Nat} {f : Nat → Int} (h : Kw w p bc bm n f W) (i : Nat) (hi : i < n) (x s : Int) (hs : f i = s) : Calls Try.prog 41 #[.pointer (some ⟨p, 0, none⟩), .int .u64 i, .int .u64 x] W fun e W' => e = .returned (.tuple #[.int .u64 (IntKind.u64.wrap (s + x)), .int .i64 0]) ∧ Kw w p bc bm n (upd f i (IntKind.u64.wrap (s + x))) W' := by
  subst hs
  refine (add_law h.ar i hi x).mono ?_
  rintro e W' ⟨rfl, hA, hO⟩
  exact ⟨rfl, h.off hA hO⟩
theorem kw_load {w W : World} {p bc bm n : Nat} {f : Nat → Int} (h : Kw w p bc bm n f W) (i : Nat) (hi : i < n) (s : Int) (hs : f i = s) : Calls Try.prog 35 #[.pointer (some ⟨p, 0, none⟩), .int .u64 i] W fun e W' => e = .returned (.tuple #[.int .u64 s, .int .i64 0]) ∧ Kw w p bc bm n f W' := by
  subst hs
  refine (load_law h.ar i hi).mono ?_
  rintro e W' ⟨rfl, hB⟩
  exact ⟨rfl, h.below hB⟩
theorem kw_store {w W : World} {p bc bm n : Nat} {f : Nat → Int} (h : Kw w p bc bm n f W) (i : Nat) (hi : i < n) (x : Int) : Calls Try.prog 37 #[.pointer (some ⟨p, 0, none⟩), .int .u64 i, .int .u64 x] W fun e W' => e = .returned (.int .i64 0) ∧ Kw w p bc bm n (upd f i x) W' := by
  refine (store_law h.ar i hi x).mono ?_
  rintro e W' ⟨rfl, hA, hO⟩
  exact ⟨rfl, h.off hA hO⟩
theorem kw_swap {w W : World} {p bc bm n : Nat} {f : Nat → Int} (h : Kw w p bc bm n f W) (i : Nat) (hi : i < n) (s a : Int) (hs : f i = s) (hne : s ≠ a) : Calls Try.prog 42 #[.pointer (some ⟨p, 0, none⟩), .int .u64 i, .int .u64 a, .int .u64 0] W fun e W' => e = .returned (.tuple #[.int .u64 s, .bool false, .int .i64 0]) ∧ Kw w p bc bm n f W' := by
  subst hs
  have hb : (f i == a) = false := by simpa using hne
  refine (swap_law h.ar i hi a 0).mono ?_
  rintro e W' ⟨rfl, hA, hO⟩
  rw [show swF f i a 0 = f from if_neg (by rw [hb]; simp)] at hA
  exact ⟨by rw [hb], h.off hA hO⟩
set_option maxRecDepth 100000 in
set_option maxHeartbeats 4000000 in
theorem words_main (n at_ other : Nat) (a : Option Addr) (len cap : Nat) (w : World) (h1 : 1024 ≤ n) (h2 : n ≤ 65536) (c1 : at_ ≠ other) (c2 : at_ < n) (c3 : other < n) (c4 : len ≤ 50) (hc : ∀ k < len, ∃ b off x, a = some ⟨b, off, none⟩ ∧ b < w.heap.size ∧ w.cell? ⟨b, off + k, none⟩ = some (.int .u64 x)) : Calls Try.prog 10 #[.int .i64 n, .int .u64 at_, .int .u64 other, .slice a len cap] w fun e w' => e = .returned (.bool true) ∧ Below w.heap.size w w' := by
  have HN := Lib.hid (new_law n h1 h2 w)
  have e1 : ((at_ : Int) == (other : Int)) = false := by simp; omega
  have e1' : (at_ == other) = false := by simp; omega
  have d1 : decide (n ≤ at_) = false := decide_eq_false (by omega)
  have d2 : decide (n ≤ other) = false := decide_eq_false (by omega)
  have HC := Lib.hid hc
  have HX := Lib.hid (And.intro c1 (And.intro c2 c3))
  clear hc c1 c2 c3
  go_enter Try.func10, Try.ntmps10
  go_wp2_with fail
  refine HN.out.mono ?_
  rintro e W1 ⟨rfl, hA, hB⟩
  have HK := Lib.hid (show Kw w (w.heap.size + 1 + 1) w.heap.size (w.heap.size + 1) n (fun _ => 0) W1 from ⟨hA, hB, Nat.le_refl _, by omega⟩)
  clear hA hB HN
  go_wp2_with fail
  go_loopw [11, 12, 13] (fun l s i wr => ∃ (k : Nat) (l' s' : Int), k ≤ len ∧ l = .int .u64 l' ∧ s = .int .u64 s' ∧ i = .int .i64 (k : Int) ∧ Hid (∃ F : Nat → Int, Kw w (w.heap.size + 1 + 1) w.heap.size (w.heap.size + 1) n F wr ∧ F at_ = l' ∧ F other = s')) (fun _ _ i _ => len - (intOf i).toNat)
  case atStart => exact ⟨0, 0, 0, Nat.zero_le _, rfl, rfl, rfl, Lib.hid ⟨_, HK.out, rfl, rfl⟩⟩
  case round =>
    obtain ⟨k, l, s, hk, rfl, rfl, rfl, HR⟩ := hrel
    clear HK
    by_cases hlt : k < len
    · obtain ⟨b, off, x, rfl, hb, hx⟩ := HC.out k hlt
      obtain ⟨F, hK, hF1, hF2⟩ := HR.out
      clear HR hk
      have HXX := Lib.hid (And.intro hb hx)
      have hx1 := (hK.bel.cell (p := ⟨b, off + k, none⟩) hb).trans hx
      have HF := Lib.hid (And.intro hF1 hF2)
      replace hK := Lib.hid hK
      clear hb hx hF1 hF2
      go_wp2_with fail
      refine (kw_add hK.out other HX.out.2.2 x s HF.out.2).mono ?_
      rintro e W2 ⟨rfl, hK2⟩
      have hx2 := (hK2.bel.cell (p := ⟨b, off + k, none⟩) HXX.out.1).trans HXX.out.2
      have HF2 := Lib.hid (show upd F other (IntKind.u64.wrap (s + x)) at_ = l ∧ upd F other (IntKind.u64.wrap (s + x)) other = IntKind.u64.wrap (s + x) from ⟨by rw [upd_oth _ HX.out.1]; exact HF.out.1, upd_same _ _ _⟩)
      generalize upd F other (IntKind.u64.wrap (s + x)) = F2 at hK2 HF2
      obtain ⟨s2, hs2⟩ : ∃ s2, IntKind.u64.wrap (s + x) = s2 := ⟨_, rfl⟩
      have HS := Lib.hid (show s2 ≠ IntKind.u64.wrap (s2 + 1) by rw [← hs2]; simp only [IntKind.wrap_u64]; omega)
      replace hK2 := Lib.hid hK2
      clear hK hx1 HF
      go_wp2_with fail
      refine (kw_load hK2.out at_ HX.out.2.1 l (by have := HF2.out.1; exact this)).mono ?_
      rintro e W3 ⟨rfl, hK3⟩
      have hx3 := (hK3.bel.cell (p := ⟨b, off + k, none⟩) HXX.out.1).trans HXX.out.2
      replace hK3 := Lib.hid hK3
      clear hK2 hx2
      rw [hs2] at HF2
      clear hs2
      go_wp2_with fail
      refine (kw_store hK3.out at_ HX.out.2.1 x).mono ?_
      rintro e W4 ⟨rfl, hK4⟩
      have hx4 := (hK4.bel.cell (p := ⟨b, off + k, none⟩) HXX.out.1).trans HXX.out.2
      have HF4 := Lib.hid (show upd F2 at_ x at_ = x ∧ upd F2 at_ x other = s2 from ⟨upd_same _ _ _, by rw [upd_oth _ (fun e => HX.out.1 e.symm)]; exact HF2.out.2⟩)
      generalize upd F2 at_ x = F4 at hK4 HF4
      replace hK4 := Lib.hid hK4
      clear hK3 hx3 HF2
      go_wp2_with fail
      refine (kw_swap hK4.out other HX.out.2.2 s2 _ HF4.out.2 HS.out).mono ?_
      rintro e W5 ⟨rfl, hK5⟩
      replace hK5 := Lib.hid hK5
      clear hK4 hx4
      go_wp2_with fail
      go_roundw
      case rel => exact ⟨k + 1, x, s2, by omega, rfl, rfl, by go_num, Lib.hid ⟨F4, hK5.out, HF4.out.1, HF4.out.2⟩⟩
      case measure => simp [intOf]; omega
    · obtain ⟨F, hK, hF1, hF2⟩ := HR.out
      have HF := Lib.hid (And.intro hF1 hF2)
      replace hK := Lib.hid hK
      clear HR hF1 hF2
      go_wp2_with fail
      refine (kw_load hK.out at_ HX.out.2.1 l HF.out.1).mono ?_
      rintro e W3 ⟨rfl, hK3⟩
      replace hK3 := Lib.hid hK3
      clear hK
      go_wp2_with fail
      refine (kw_load hK3.out other HX.out.2.2 s HF.out.2).mono ?_
      rintro e W4 ⟨rfl, hK4⟩
      replace hK4 := Lib.hid hK4
      clear hK3
      go_wp2_with fail
      refine (known_any W4 hK4.out.bel hK4.out.bel.size).mono ?_
      rintro e w' ⟨rfl, hB2⟩
      replace hB2 := Lib.hid hB2
      go_wp2_with fail
      go_ret
      exact ⟨rfl, hB2.out⟩

/-- A slice of words that came in. -/
def IsRow (k : IntKind) (w : World) (a : Option Addr) (len cap : Nat) (zs : List Int) : Prop :=
  (a = none ∧ len = 0 ∧ cap = 0 ∧ zs = []) ∨ ∃ x : Addr, a = some x ∧ len ≤ cap ∧ cap ≤ maxLen ∧ zs.length = cap ∧ (∀ j, j < zs.length → w.cell? (x.add j) = some (.int k (zs.getD j 0))) ∧ ∀ z ∈ zs, (Lit.int k z).wf = true
theorem addr_add (b off j : Nat) : (⟨b, off, none⟩ : Addr).add j = ⟨b, off + j, none⟩ := by
  unfold Addr.add
  by_cases h : j = 0 <;> simp [h]
theorem IsRow.cells {K : IntKind} {w : World} {a : Option Addr} {len cap : Nat} {zs : List Int} (h : IsRow K w a len cap zs) : ∀ k < len, ∃ b off x, a = some ⟨b, off, none⟩ ∧ b < w.heap.size ∧ w.cell? ⟨b, off + k, none⟩ = some (.int K x) := fun k hk => by
  rcases h with ⟨_, rfl, _⟩ | ⟨y, rfl, hlc, _, hz, hcell, _⟩
  · omega
  · obtain ⟨b, off, spot⟩ := y
    have hc0 := hcell 0 (by omega)
    have hspot : spot = none := by simpa [Addr.add] using World.cell?_spot hc0
    subst hspot
    have hc := hcell k (by omega)
    rw [addr_add] at hc
    exact ⟨b, off, _, rfl, World.block_lt_of_cell? w _ hc, hc⟩
theorem words_law (N x1 x2 : Int) (a : Option Addr) (len cap : Nat) (w : World) (b1 : 0 ≤ x1) (b2 : 0 ≤ x2) (hc : ∀ k < len, ∃ b off x, a = some ⟨b, off, none⟩ ∧ b < w.heap.size ∧ w.cell? ⟨b, off + k, none⟩ = some (.int .u64 x)) : Calls Try.prog 10 #[.int .i64 N, .int .u64 x1, .int .u64 x2, .slice a len cap] w fun e w' => e = .returned (.bool true) ∧ Below w.heap.size w w' := by
  obtain ⟨i, rfl⟩ := Int.eq_ofNat_of_zero_le b1
  obtain ⟨j, rfl⟩ := Int.eq_ofNat_of_zero_le b2
  by_cases hN : N < 1024 ∨ 65536 < N
  · exact words_no N i j a len cap w hN
  · obtain ⟨n, rfl⟩ := Int.eq_ofNat_of_zero_le (show 0 ≤ N by omega)
    by_cases h : i = j ∨ n ≤ i ∨ n ≤ j ∨ 50 < len
    · exact words_skip n i j a len cap w (by omega) (by omega) h
    · exact words_main n i j a len cap w (by omega) (by omega) (by omega) (by omega) (by omega) (by omega) hc
end Go.Proofs.Ytbjhcbiihekceaa
