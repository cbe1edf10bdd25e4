/- The walk of 'VersionChanges': it returns true, whatever its arguments. -/
import Derived.Test.YtleodeoopckfjaaKnown
import Derived.ProofKit
import Derived.Laws.Rows
namespace Go.Proofs.Ytleodeoopckfjaa
open Go.ChangeShapes Go.WideShapes Go.ChangeAt Go.RowKit
open VM

/-- What the walk is told of a slice of integers that came in. -/
def IsRow (k : IntKind) (w : World) (a : Option Addr) (len cap : Nat) (zs : List Int) : Prop :=
  (a = none ∧ len = 0 ∧ cap = 0 ∧ zs = []) ∨
  ∃ x, a = some x ∧ len ≤ cap ∧ cap ≤ maxLen ∧ zs.length = cap ∧ (∀ i, i < zs.length → w.cell? (x.add i) = some (.int k (zs.getD i 0))) ∧ ∀ n ∈ zs, (Lit.int k n).wf = true

/-! What one round makes of the word. -/
structure Clean (V : Int) : Prop where
  may : mayB V = true
  pos : 0 ≤ V
  lt : V < 72057594037927936
  low : V % 8 = 0

theorem Clean.lock {V : Int} (h : Clean V) : mayB (V + 1) = true ∧ (V + 1) % 2 = 1 := by
  have a := may_mod h.may
  have b := h.lt
  have c := h.low
  exact ⟨may_mk (by omega) (by omega), by omega⟩
theorem clean_none {V : Int} (h : Clean V) : unlockedV (V + 1) = V := by
  have c := h.low
  rw [cases_unlocked, if_neg (by omega), if_neg (by omega)]; omega
theorem clean_ins {V : Int} (h : Clean V) : ∃ L U : Int, V + 1 + 2 - (V + 1) / 2 % 2 * 2 = L ∧ unlockedV L = U ∧ 0 ≤ L ∧ L < 18446744073709551616 ∧ mayB L = true ∧ L % 2 = 1 ∧ Clean U ∧ sameB U V = false ∧
    (U / 256 % 65536 - V / 256 % 65536 - 1) % 65536 = 0 ∧ U / 16777216 % 4294967296 = V / 16777216 % 4294967296 := by
  have a := may_mod h.may
  have b := h.lt
  have c := h.low
  have p := h.pos
  have m : mayB (V + 3) = true := may_mk (by omega) (by omega)
  have u := unlocked_may (x := V + 3) (by omega) m
  have e : unlockedV (V + 3) = count8V V := by
    rw [cases_unlocked, if_neg (by omega), if_pos (by omega)]
    rw [show V + 3 - (V + 3) % 8 = V from by omega]
  refine ⟨V + 3, unlockedV (V + 3), by omega, rfl, by omega, by omega, m, by omega, ⟨u.1, u.2.1, u.2.2.1, u.2.2.2⟩, ?_, ?_, ?_⟩
  · rw [e]; unfold sameB count8V; split <;> (rw [decide_eq_false_iff_not]; omega)
  · rw [e]; unfold count8V; split <;> omega
  · rw [e]; unfold count8V; split <;> omega
theorem clean_split {V : Int} (h : Clean V) : ∃ L U : Int, V + 1 + 4 - (V + 1) / 4 % 2 * 4 = L ∧ unlockedV L = U ∧ 0 ≤ L ∧ L < 18446744073709551616 ∧ mayB L = true ∧ L % 2 = 1 ∧ Clean U ∧ sameB U V = false ∧
    (U / 16777216 % 4294967296 - V / 16777216 % 4294967296 - 1) % 4294967296 = 0 ∧ U / 256 % 65536 = V / 256 % 65536 := by
  have a := may_mod h.may
  have b := h.lt
  have c := h.low
  have p := h.pos
  have m : mayB (V + 5) = true := may_mk (by omega) (by omega)
  have u := unlocked_may (x := V + 5) (by omega) m
  have e : unlockedV (V + 5) = count24V V := by
    rw [cases_unlocked, if_pos (by omega)]
    rw [show V + 5 - (V + 5) % 8 = V from by omega]
  refine ⟨V + 5, unlockedV (V + 5), by omega, rfl, by omega, by omega, m, by omega, ⟨u.1, u.2.1, u.2.2.1, u.2.2.2⟩, ?_, ?_, ?_⟩
  · rw [e]; unfold sameB count24V; split <;> (rw [decide_eq_false_iff_not]; omega)
  · rw [e]; unfold count24V; split <;> omega
  · rw [e]; unfold count24V; split <;> omega
theorem tmod_zero {a b : Int} (h : a % b = 0) : a.tmod b = 0 :=
  Int.tmod_eq_zero_of_dvd (Int.dvd_of_emod_eq_zero h)

/-- The word and the counts behind k marks. -/
structure At (x V ni ns : Int) (k : Nat) : Prop where
  clean : Clean V
  n0 : 0 ≤ ni
  n1 : ni ≤ k
  s0 : 0 ≤ ns
  s1 : ns ≤ k
  ins : (V / 256 % 65536 - x / 256 % 65536 - ni) % 65536 = 0
  spl : (V / 16777216 % 4294967296 - x / 16777216 % 4294967296 - ns) % 4294967296 = 0

def Rel (x : Int) (len : Nat) (w : World) (v i n s : Value) (wr : World) : Prop :=
  ∃ (k : Nat) (V ni ns : Int), k ≤ len ∧ i = .int .i64 k ∧ v = .int .u64 V ∧ n = .int .i64 ni ∧ s = .int .i64 ns ∧ At x V ni ns k ∧ Below w.heap.size w wr

theorem same_back (x y : Int) (b : Bool) (h0 : 0 ≤ x) (h1 : x < 18446744073709551616) (k0 : 0 ≤ y) (k1 : y < 18446744073709551616) (hb : sameB x y = b) (w : World) :
    Calls Try.prog 25 #[.int .u64 x, .int .u64 y] w fun e w' => e = .returned (.bool b) ∧ w' = w := by
  rw [← hb]
  exact (same_any x y h0 h1 k0 k1 w).mono fun _ _ ⟨a, b⟩ => ⟨a, b.symm⟩
theorem at_none {x V ni ns : Int} {k : Nat} (h : At x V ni ns k) : At x V ni ns (k + 1) := ⟨h.clean, h.n0, by have := h.n1; omega, h.s0, by have := h.s1; omega, h.ins, h.spl⟩
theorem at_ins {x V U ni ns : Int} {k : Nat} (h : At x V ni ns k) (hU : Clean U) (hi : (U / 256 % 65536 - V / 256 % 65536 - 1) % 65536 = 0) (hs : U / 16777216 % 4294967296 = V / 16777216 % 4294967296) : At x U (ni + 1) ns (k + 1) :=
  ⟨hU, by have := h.n0; omega, by have := h.n1; omega, h.s0, by have := h.s1; omega, by have := h.ins; omega, by have := h.spl; rw [hs]; omega⟩
theorem at_split {x V U ni ns : Int} {k : Nat} (h : At x V ni ns k) (hU : Clean U) (hi : (U / 16777216 % 4294967296 - V / 16777216 % 4294967296 - 1) % 4294967296 = 0) (hs : U / 256 % 65536 = V / 256 % 65536) : At x U ni (ns + 1) (k + 1) :=
  ⟨hU, h.n0, by have := h.n1; omega, by have := h.s0; omega, by have := h.s1; omega, by have := h.ins; rw [hs]; omega, by have := h.spl; omega⟩
theorem same_self (V : Int) : sameB V V = true := by unfold sameB; simp

set_option maxRecDepth 100000 in
set_option maxHeartbeats 4000000 in
theorem changes_go (x : Int) (a : Option Addr) (len cap : Nat) (zs : List Int) (h0 : 0 ≤ x) (h1 : x < 18446744073709551616) (w : World) (h : mayB x = true) (b1 : bitB x 1 = false) (b2 : bitB x 2 = false) (b4 : bitB x 4 = false) (hlen : len ≤ 200)
    (hx : Clean x) (hc : ∀ k < len, ∃ b off, a = some ⟨b, off, none⟩ ∧ w.cell? ⟨b, off + k, none⟩ = some (.int .i64 (zs.getD k 0))) :
    Calls Try.prog 7 #[.int .u64 x, .slice a len cap] w fun e w' => e = .returned (.bool true) ∧ Below w.heap.size w w' := by
  have HC := Lib.hid hc; clear hc
  have HX := Lib.hid hx; clear hx
  go_enter Try.func7, Try.ntmps7
  go_wp2_with (first | (go_at_call 10; refine (lawmay_any _ h0 h1 _).mono ?_; rintro e w' ⟨rfl, rfl⟩) | (go_at_call 12; refine (bit_any _ _ h0 h1 (by decide) (by decide) _).mono ?_; rintro e w' ⟨rfl, rfl⟩))
  go_loopw [0, 6, 7, 8] (fun v n s i wr => Rel x len w v i n s wr) (fun _ _ _ i _ => len - (intOf i).toNat)
  case atStart => exact ⟨0, x, 0, 0, Nat.zero_le _, rfl, rfl, rfl, rfl, ⟨HX.out, by omega, by omega, by omega, by omega, by simp, by simp⟩, Below.refl _ _⟩
  case round =>
    obtain ⟨k, V, ni, ns, hk, rfl, rfl, rfl, rfl, hat, hnx⟩ := hrel
    have v0 : 0 ≤ V := hat.clean.pos
    have v1 : V < 18446744073709551616 := by have := hat.clean.lt; omega
    have n0 := hat.n0; have n1 := hat.n1; have s0 := hat.s0; have s1 := hat.s1
    have HA := Lib.hid hat; clear hat
    by_cases hlt : k < len
    · have L0 : 0 ≤ V + 1 := by omega
      have L1 : V + 1 < 18446744073709551616 := by have := HA.out.clean.lt; omega
      obtain ⟨b, off, ea, hcell⟩ := HC.out k hlt
      subst ea
      have hcr : wr.cell? ⟨b, off + k, none⟩ = some (.int .i64 (zs.getD k 0)) := (hnx.cell (block_lt_of_cell hcell)).trans hcell
      have hb : b < wr.heap.size := block_lt_of_cell hcr
      clear hcell HC
      obtain ⟨z, hz⟩ : ∃ z, zs.getD k 0 = z := ⟨_, rfl⟩
      rw [hz] at hcr; clear hz
      by_cases z1 : z = 1
      · subst z1
        obtain ⟨L, U, eL, eU, l0, l1, ml, pl, cU, sU, dU, oU⟩ := clean_ins HA.out.clean
        have u0 : 0 ≤ U := cU.pos
        have u1 : U < 18446744073709551616 := by have := cU.lt; omega
        have EL := Lib.hid eL; have EU := Lib.hid eU; have PL := Lib.hid pl; have CU := Lib.hid cU; have SU := Lib.hid sU; have DU := Lib.hid dU; have OU := Lib.hid oU
        clear eL eU pl cU sU dU oU
        go_wp2_with fail
        refine (lock_ok _ v0 v1 HA.out.clean.may (by have := HA.out.clean.low; omega) _).mono ?_; rintro e W1 ⟨rfl, B1⟩
        have hcr1 := (B1.cell (p := ⟨b, off + k, none⟩) hb).trans hcr
        have bb1 := hnx.trans (B1.mono hnx.size)
        have hb1 : b < W1.heap.size := block_lt_of_cell hcr1
        clear B1 hnx hcr
        go_wp2_with fail
        refine (two_lit (insert_ok _ L0 L1 HA.out.clean.lock.1 HA.out.clean.lock.2 _) EL.out).mono ?_; rintro e W2 ⟨rfl, B2⟩
        have hcr2 := (B2.cell (p := ⟨b, off + k, none⟩) hb1).trans hcr1
        have bb2 := bb1.trans (B2.mono bb1.size)
        have hb2 : b < W2.heap.size := block_lt_of_cell hcr2
        clear B2 bb1 hcr1
        go_wp2_with fail
        refine (two_lit (unlock_ok _ l0 l1 ml PL.out _) EU.out).mono ?_; rintro e W3 ⟨rfl, B3⟩
        have hcr3 := (B3.cell (p := ⟨b, off + k, none⟩) hb2).trans hcr2
        have bb3 := bb2.trans (B3.mono bb2.size)
        have hki : (k : Int) < (len : Int) := by omega
        clear B3 bb2 hcr2 hb hb1 hb2
        go_wp2_with fail
        go_quiet ((go_at_call 25; exact Calls.quiet_of_same (same_back U V false u0 u1 v0 v1 SU.out _)))
        go_wp2_with fail
        go_roundw
        case rel => exact ⟨k + 1, U, ni + 1, ns, by omega, by go_num, rfl, by go_num, by go_num, at_ins HA.out CU.out DU.out OU.out, below_drewN bb3 _⟩
        case measure => simp [intOf]; omega
      · by_cases z2 : z = 2
        · subst z2
          obtain ⟨L, U, eL, eU, l0, l1, ml, pl, cU, sU, dU, oU⟩ := clean_split HA.out.clean
          have u0 : 0 ≤ U := cU.pos
          have u1 : U < 18446744073709551616 := by have := cU.lt; omega
          have EL := Lib.hid eL; have EU := Lib.hid eU; have PL := Lib.hid pl; have CU := Lib.hid cU; have SU := Lib.hid sU; have DU := Lib.hid dU; have OU := Lib.hid oU
          clear eL eU pl cU sU dU oU
          go_wp2_with fail
          refine (lock_ok _ v0 v1 HA.out.clean.may (by have := HA.out.clean.low; omega) _).mono ?_; rintro e W1 ⟨rfl, B1⟩
          have hcr1 := (B1.cell (p := ⟨b, off + k, none⟩) hb).trans hcr
          have bb1 := hnx.trans (B1.mono hnx.size)
          have hb1 : b < W1.heap.size := block_lt_of_cell hcr1
          clear B1 hnx hcr
          go_wp2_with fail
          refine (two_lit (split_ok _ L0 L1 HA.out.clean.lock.1 HA.out.clean.lock.2 _) EL.out).mono ?_; rintro e W2 ⟨rfl, B2⟩
          have hcr2 := (B2.cell (p := ⟨b, off + k, none⟩) hb1).trans hcr1
          have bb2 := bb1.trans (B2.mono bb1.size)
          have hb2 : b < W2.heap.size := block_lt_of_cell hcr2
          clear B2 bb1 hcr1
          go_wp2_with fail
          refine (two_lit (unlock_ok _ l0 l1 ml PL.out _) EU.out).mono ?_; rintro e W3 ⟨rfl, B3⟩
          have hcr3 := (B3.cell (p := ⟨b, off + k, none⟩) hb2).trans hcr2
          have bb3 := bb2.trans (B3.mono bb2.size)
          have hki : (k : Int) < (len : Int) := by omega
          clear B3 bb2 hcr2 hb hb1 hb2
          go_wp2_with fail
          go_quiet ((go_at_call 25; exact Calls.quiet_of_same (same_back U V false u0 u1 v0 v1 SU.out _)))
          go_wp2_with fail
          go_roundw
          case rel => exact ⟨k + 1, U, ni, ns + 1, by omega, by go_num, rfl, by go_num, by go_num, at_split HA.out CU.out DU.out OU.out, below_drewN bb3 _⟩
          case measure => simp [intOf]; omega
        · have e1 : (z == 1) = false := by simp [z1]
          have e2 : (z == 2) = false := by simp [z2]
          have e1' : (z != 1) = true := by simp [z1]
          have e2' : (z != 2) = true := by simp [z2]
          clear z1 z2
          go_wp2_with fail
          refine (lock_ok _ v0 v1 HA.out.clean.may (by have := HA.out.clean.low; omega) _).mono ?_; rintro e W1 ⟨rfl, B1⟩
          have hcr1 := (B1.cell (p := ⟨b, off + k, none⟩) hb).trans hcr
          have bb1 := hnx.trans (B1.mono hnx.size)
          clear B1 hnx hcr
          go_wp2_with fail
          refine (two_lit (unlock_ok _ L0 L1 HA.out.clean.lock.1 HA.out.clean.lock.2 _) (clean_none HA.out.clean)).mono ?_; rintro e W2 ⟨rfl, B2⟩
          have hb1 : b < W1.heap.size := block_lt_of_cell hcr1
          have hcr2 := (B2.cell (p := ⟨b, off + k, none⟩) hb1).trans hcr1
          have bb2 := bb1.trans (B2.mono bb1.size)
          have hki : (k : Int) < (len : Int) := by omega
          clear B2 bb1 hcr1 hb hb1
          go_wp2_with fail
          go_quiet ((go_at_call 25; exact Calls.quiet_of_same (same_back V V true v0 v1 v0 v1 (same_self V) _)))
          go_wp2_with fail
          go_roundw
          case rel => exact ⟨k + 1, V, ni, ns, by omega, by go_num, rfl, rfl, rfl, at_none HA.out, below_drewN bb2 _⟩
          case measure => simp [intOf]; omega
    · obtain rfl : k = len := by omega
      have i0 : ((V / 256 % 65536 - x / 256 % 65536 - ni).tmod 65536 == 0) = true := by rw [tmod_zero HA.out.ins]; rfl
      have i1 : ((V / 16777216 % 4294967296 - x / 16777216 % 4294967296 - ns).tmod 4294967296 == 0) = true := by rw [tmod_zero HA.out.spl]; rfl
      go_wp2_with fail
      refine (inserts_any _ v0 v1 _).mono ?_; rintro e w' ⟨rfl, rfl⟩
      go_wp2_with fail
      refine (inserts_any _ h0 h1 _).mono ?_; rintro e w' ⟨rfl, rfl⟩
      go_wp2_with fail
      refine (splits_any _ v0 v1 _).mono ?_; rintro e w' ⟨rfl, rfl⟩
      go_wp2_with fail
      refine (splits_any _ h0 h1 _).mono ?_; rintro e w' ⟨rfl, rfl⟩
      go_wp2_with fail
      refine (known_any _).mono ?_; rintro e W1 ⟨rfl, B1⟩
      go_wp2_with fail
      go_ret
      exact ⟨rfl, hnx.trans (B1.mono hnx.size)⟩

theorem changes_arg (x : Int) (a : Option Addr) (len cap : Nat) (h0 : 0 ≤ x) (h1 : x < 18446744073709551616) (h : mayB x = false) (w : World) :
    Calls Try.prog 7 #[.int .u64 x, .slice a len cap] w fun e w' => e = .returned (.bool true) ∧ Below w.heap.size w w' := by
  go_enter Try.func7, Try.ntmps7
  go_wp2_with fail
  refine (lawmay_any _ h0 h1 _).mono ?_; rintro e w' ⟨rfl, rfl⟩
  go_wp2_with fail
  refine (known_any _).mono ?_; rintro e W1 ⟨rfl, B1⟩
  go_wp2_with fail
  go_ret
  exact ⟨rfl, B1⟩

theorem changes_b1 (x : Int) (a : Option Addr) (len cap : Nat) (h0 : 0 ≤ x) (h1 : x < 18446744073709551616) (h : mayB x = true) (b1 : bitB x 1 = true) (w : World) :
    Calls Try.prog 7 #[.int .u64 x, .slice a len cap] w fun e w' => e = .returned (.bool true) ∧ Below w.heap.size w w' := by
  go_enter Try.func7, Try.ntmps7
  go_wp2_with fail
  refine (lawmay_any _ h0 h1 _).mono ?_; rintro e w' ⟨rfl, rfl⟩
  go_wp2_with fail
  refine (bit_any _ _ h0 h1 (by decide) (by decide) _).mono ?_; rintro e w' ⟨rfl, rfl⟩
  go_wp2_with fail
  refine (known_any _).mono ?_; rintro e W1 ⟨rfl, B1⟩
  go_wp2_with fail
  go_ret
  exact ⟨rfl, B1⟩

theorem changes_b2 (x : Int) (a : Option Addr) (len cap : Nat) (h0 : 0 ≤ x) (h1 : x < 18446744073709551616) (h : mayB x = true) (b1 : bitB x 1 = false) (b2 : bitB x 2 = true) (w : World) :
    Calls Try.prog 7 #[.int .u64 x, .slice a len cap] w fun e w' => e = .returned (.bool true) ∧ Below w.heap.size w w' := by
  go_enter Try.func7, Try.ntmps7
  go_wp2_with fail
  refine (lawmay_any _ h0 h1 _).mono ?_; rintro e w' ⟨rfl, rfl⟩
  go_wp2_with fail
  refine (bit_any _ _ h0 h1 (by decide) (by decide) _).mono ?_; rintro e w' ⟨rfl, rfl⟩
  go_wp2_with fail
  refine (bit_any _ _ h0 h1 (by decide) (by decide) _).mono ?_; rintro e w' ⟨rfl, rfl⟩
  go_wp2_with fail
  refine (known_any _).mono ?_; rintro e W1 ⟨rfl, B1⟩
  go_wp2_with fail
  go_ret
  exact ⟨rfl, B1⟩

theorem changes_b4 (x : Int) (a : Option Addr) (len cap : Nat) (h0 : 0 ≤ x) (h1 : x < 18446744073709551616) (h : mayB x = true) (b1 : bitB x 1 = false) (b2 : bitB x 2 = false) (b4 : bitB x 4 = true) (w : World) :
    Calls Try.prog 7 #[.int .u64 x, .slice a len cap] w fun e w' => e = .returned (.bool true) ∧ Below w.heap.size w w' := by
  go_enter Try.func7, Try.ntmps7
  go_wp2_with fail
  refine (lawmay_any _ h0 h1 _).mono ?_; rintro e w' ⟨rfl, rfl⟩
  go_wp2_with fail
  refine (bit_any _ _ h0 h1 (by decide) (by decide) _).mono ?_; rintro e w' ⟨rfl, rfl⟩
  go_wp2_with fail
  refine (bit_any _ _ h0 h1 (by decide) (by decide) _).mono ?_; rintro e w' ⟨rfl, rfl⟩
  go_wp2_with fail
  refine (bit_any _ _ h0 h1 (by decide) (by decide) _).mono ?_; rintro e w' ⟨rfl, rfl⟩
  go_wp2_with fail
  refine (known_any _).mono ?_; rintro e W1 ⟨rfl, B1⟩
  go_wp2_with fail
  go_ret
  exact ⟨rfl, B1⟩

theorem changes_long (x : Int) (a : Option Addr) (len cap : Nat) (h0 : 0 ≤ x) (h1 : x < 18446744073709551616) (h : mayB x = true) (b1 : bitB x 1 = false) (b2 : bitB x 2 = false) (b4 : bitB x 4 = false) (hl : 200 < len) (w : World) :
    Calls Try.prog 7 #[.int .u64 x, .slice a len cap] w fun e w' => e = .returned (.bool true) ∧ Below w.heap.size w w' := by
  go_enter Try.func7, Try.ntmps7
  go_wp2_with fail
  refine (lawmay_any _ h0 h1 _).mono ?_; rintro e w' ⟨rfl, rfl⟩
  go_wp2_with fail
  refine (bit_any _ _ h0 h1 (by decide) (by decide) _).mono ?_; rintro e w' ⟨rfl, rfl⟩
  go_wp2_with fail
  refine (bit_any _ _ h0 h1 (by decide) (by decide) _).mono ?_; rintro e w' ⟨rfl, rfl⟩
  go_wp2_with fail
  refine (bit_any _ _ h0 h1 (by decide) (by decide) _).mono ?_; rintro e w' ⟨rfl, rfl⟩
  go_wp2_with fail
  refine (known_any _).mono ?_; rintro e W1 ⟨rfl, B1⟩
  go_wp2_with fail
  go_ret
  exact ⟨rfl, B1⟩

theorem clean_of {x : Int} (h0 : 0 ≤ x) (h : mayB x = true) (b1 : bitB x 1 = false) (b2 : bitB x 2 = false) (b4 : bitB x 4 = false) : Clean x := by
  unfold bitB at b1 b2 b4
  simp only [decide_eq_false_iff_not, Int.ediv_one] at b1 b2 b4
  exact ⟨h, h0, may_lt h, by omega⟩

theorem add_none (b off k : Nat) : (⟨b, off, none⟩ : Addr).add k = ⟨b, off + k, none⟩ := by
  unfold Addr.add
  split
  · subst_vars; rfl
  · rfl

theorem changes_law (x : Int) (a : Option Addr) (len cap : Nat) (zs : List Int) (bx : 0 ≤ x ∧ x ≤ 18446744073709551615) (w : World) (hr : IsRow .i64 w a len cap zs) :
    Calls Try.prog 7 #[.int .u64 x, .slice a len cap] w fun e w' => e = .returned (.bool true) ∧ Below w.heap.size w w' := by
  have h0 := bx.1
  have h1 : x < 18446744073709551616 := by omega
  cases h : mayB x
  · exact changes_arg x a len cap h0 h1 h w
  cases b1 : bitB x 1
  · cases b2 : bitB x 2
    · cases b4 : bitB x 4
      · by_cases hl : len ≤ 200
        · refine changes_go x a len cap zs h0 h1 w h b1 b2 b4 hl (clean_of h0 h b1 b2 b4) ?_
          intro k hk
          rcases hr with ⟨rfl, rfl, _, _⟩ | ⟨y, rfl, hlc, _, hz, hcell, _⟩
          · omega
          · obtain ⟨b, off, spot⟩ := y
            have hc0 := hcell 0 (by omega)
            have hspot : spot = none := by simpa [Addr.add] using World.cell?_spot hc0
            subst hspot
            have hc := hcell k (by omega)
            rw [add_none] at hc
            exact ⟨b, off, rfl, hc⟩
        · exact changes_long x a len cap h0 h1 h b1 b2 b4 (by omega) w
      · exact changes_b4 x a len cap h0 h1 h b1 b2 b4 w
    · exact changes_b2 x a len cap h0 h1 h b1 b2 w
  · exact changes_b1 x a len cap h0 h1 h b1 w

end Go.Proofs.Ytleodeoopckfjaa
