/- Plain arithmetic of the version words: what the bit operations on literal masks are, as sums, quotients and rests. No Go in sight. -/
import Derived.Laws.BitsAllLaws
namespace Go.Proofs.Ytleodeoopckfjaa.VM

theorem or_add_and (a : Nat) : ∀ b, (a ||| b) + (a &&& b) = a + b := by
  induction a using Nat.strongRecOn with
  | _ a ih =>
    intro b
    by_cases h : a = 0
    · subst h; simp
    · have := ih (a / 2) (by omega) (b / 2)
      have h1 := Nat.or_div_two (a := a) (b := b)
      have h2 := Nat.and_div_two (a := a) (b := b)
      have h3 : (a ||| b) % 2 + (a &&& b) % 2 = a % 2 + b % 2 := by
        have e1 := Nat.or_mod_two_pow (a := a) (b := b) (n := 1)
        have e2 := Nat.and_mod_two_pow (a := a) (b := b) (n := 1)
        simp only [Nat.pow_one] at e1 e2
        rw [e1, e2]
        rcases Nat.mod_two_eq_zero_or_one a with x | x <;> rcases Nat.mod_two_eq_zero_or_one b with y | y <;> simp [x, y]
      omega

theorem xor_add_and (a : Nat) : ∀ b, (a ^^^ b) + 2 * (a &&& b) = a + b := by
  induction a using Nat.strongRecOn with
  | _ a ih =>
    intro b
    by_cases h : a = 0
    · subst h; simp
    · have := ih (a / 2) (by omega) (b / 2)
      have h1 := Nat.xor_div_two (a := a) (b := b)
      have h2 := Nat.and_div_two (a := a) (b := b)
      have h3 : (a ^^^ b) % 2 + 2 * ((a &&& b) % 2) = a % 2 + b % 2 := by
        have e1 := Nat.xor_mod_two_pow (a := a) (b := b) (n := 1)
        have e2 := Nat.and_mod_two_pow (a := a) (b := b) (n := 1)
        simp only [Nat.pow_one] at e1 e2
        rw [e1, e2]
        rcases Nat.mod_two_eq_zero_or_one a with x | x <;> rcases Nat.mod_two_eq_zero_or_one b with y | y <;> simp [x, y]
      omega

theorem mask (n w a : Nat) : n &&& ((2^w - 1) * 2^a) = (n / 2^a % 2^w) * 2^a := by
  apply Nat.eq_of_testBit_eq; intro i
  simp only [Nat.testBit_and, Nat.testBit_mul_two_pow, Nat.testBit_two_pow_sub_one, Nat.testBit_mod_two_pow, Nat.testBit_div_two_pow]
  by_cases h : a ≤ i
  · have e : i - a + a = i := by omega
    simp [h, e, Bool.and_comm]
  · simp [h]

theorem split_at (n c d s : Nat) (h1 : c ||| d = s) (h2 : c &&& d = 0) : (n &&& c) + (n &&& d) = n &&& s := by
  have e := or_add_and (n &&& c) (n &&& d)
  have e1 : (n &&& c) ||| (n &&& d) = n &&& s := by rw [← h1, Nat.and_or_distrib_left]
  have e2 : (n &&& c) &&& (n &&& d) = 0 := by
    have : (n &&& c) &&& (n &&& d) = n &&& (c &&& d) := by
      apply Nat.eq_of_testBit_eq; intro i
      simp only [Nat.testBit_and]
      cases n.testBit i <;> cases c.testBit i <;> cases d.testBit i <;> rfl
    rw [this, h2, Nat.and_zero]
  omega

theorem and_all (n : Nat) (h : n < 18446744073709551616) : n &&& 18446744073709551615 = n := by
  have := Nat.and_two_pow_sub_one_eq_mod n 64
  have e : (2 : Nat) ^ 64 - 1 = 18446744073709551615 := by decide
  have e' : (2 : Nat) ^ 64 = 18446744073709551616 := by decide
  rw [e, e', Nat.mod_eq_of_lt h] at this
  exact this

section
variable (x y : Int) (h0 : 0 ≤ x) (h1 : x < 18446744073709551616) (k0 : 0 ≤ y) (k1 : y < 18446744073709551616)
include h0 h1

theorem iand (c s q w a : Nat) (hs : s = 2 ^ a) (hq : q = 2 ^ w) (hc : c = (q - 1) * s) (hl : c < 18446744073709551616) :
    bits .and .u64 x (c : Int) = x / (s : Int) % (q : Int) * (s : Int) := by
  obtain ⟨n, rfl⟩ := Int.eq_ofNat_of_zero_le h0
  rw [u64_and_nat n c (by omega) hl, hc, hs, hq, mask]
  push_cast
  rfl

theorem iandNot (c d : Nat) (hl : c < 18446744073709551616) (hd : d = 18446744073709551615 - c) (e1 : c ||| d = 18446744073709551615) (e2 : c &&& d = 0) :
    bits .andNot .u64 x (c : Int) = x - bits .and .u64 x (c : Int) := by
  obtain ⟨n, rfl⟩ := Int.eq_ofNat_of_zero_le h0
  rw [u64_andNot_nat n c (by omega) hl, u64_and_nat n c (by omega) hl, ← hd]
  have := split_at n c d _ e1 e2
  rw [and_all n (by omega)] at this
  omega

theorem ior (c : Nat) (hl : c < 18446744073709551616) : bits .or .u64 x (c : Int) = x + c - bits .and .u64 x (c : Int) := by
  obtain ⟨n, rfl⟩ := Int.eq_ofNat_of_zero_le h0
  rw [u64_or_nat n c (by omega) hl, u64_and_nat n c (by omega) hl]
  have := or_add_and n c
  omega

theorem and1 : bits .and .u64 x 1 = x % 2 := by
  have := iand x h0 h1 1 1 2 1 0 (by decide) (by decide) (by decide) (by decide)
  rw [show ((1 : Nat) : Int) = 1 from rfl, Int.ediv_one, Int.mul_one] at this
  exact this
theorem and2 : bits .and .u64 x 2 = x / 2 % 2 * 2 := by
  have := iand x h0 h1 2 2 2 1 1 (by decide) (by decide) (by decide) (by decide)
  omega
theorem and4 : bits .and .u64 x 4 = x / 4 % 2 * 4 := by
  have := iand x h0 h1 4 4 2 1 2 (by decide) (by decide) (by decide) (by decide)
  omega
theorem and6 : bits .and .u64 x 6 = x / 2 % 4 * 2 := by
  have := iand x h0 h1 6 2 4 2 1 (by decide) (by decide) (by decide) (by decide)
  omega
theorem and7 : bits .and .u64 x 7 = x % 8 := by
  have := iand x h0 h1 7 1 8 3 0 (by decide) (by decide) (by decide) (by decide)
  rw [show ((1 : Nat) : Int) = 1 from rfl, Int.ediv_one, Int.mul_one] at this
  exact this
theorem and8 : bits .and .u64 x 8 = x / 8 % 2 * 8 := by
  have := iand x h0 h1 8 8 2 1 3 (by decide) (by decide) (by decide) (by decide)
  omega
theorem and16 : bits .and .u64 x 16 = x / 16 % 2 * 16 := by
  have := iand x h0 h1 16 16 2 1 4 (by decide) (by decide) (by decide) (by decide)
  omega
theorem and32 : bits .and .u64 x 32 = x / 32 % 2 * 32 := by
  have := iand x h0 h1 32 32 2 1 5 (by decide) (by decide) (by decide) (by decide)
  omega
theorem and192 : bits .and .u64 x 192 = x / 64 % 4 * 64 := by
  have := iand x h0 h1 192 64 4 2 6 (by decide) (by decide) (by decide) (by decide)
  omega
theorem and65535 : bits .and .u64 x 65535 = x % 65536 := by
  have := iand x h0 h1 65535 1 65536 16 0 (by decide) (by decide) (by decide) (by decide)
  rw [show ((1 : Nat) : Int) = 1 from rfl, Int.ediv_one, Int.mul_one] at this
  exact this
theorem and4294967295 : bits .and .u64 x 4294967295 = x % 4294967296 := by
  have := iand x h0 h1 4294967295 1 4294967296 32 0 (by decide) (by decide) (by decide) (by decide)
  rw [show ((1 : Nat) : Int) = 1 from rfl, Int.ediv_one, Int.mul_one] at this
  exact this
theorem and16776960 : bits .and .u64 x 16776960 = x / 256 % 65536 * 256 := by
  have := iand x h0 h1 16776960 256 65536 16 8 (by decide) (by decide) (by decide) (by decide)
  omega
theorem and72057594021150720 : bits .and .u64 x 72057594021150720 = x / 16777216 % 4294967296 * 16777216 := by
  have := iand x h0 h1 72057594021150720 16777216 4294967296 32 24 (by decide) (by decide) (by decide) (by decide)
  omega
theorem and18374686479671623680 : bits .and .u64 x 18374686479671623680 = x / 72057594037927936 % 256 * 72057594037927936 := by
  have := iand x h0 h1 18374686479671623680 72057594037927936 256 8 56 (by decide) (by decide) (by decide) (by decide)
  omega
theorem not1 : bits .andNot .u64 x 1 = x - bits .and .u64 x 1 := iandNot x h0 h1 1 18446744073709551614 (by decide) (by decide) (by decide) (by decide)
theorem not7 : bits .andNot .u64 x 7 = x - bits .and .u64 x 7 := iandNot x h0 h1 7 18446744073709551608 (by decide) (by decide) (by decide) (by decide)
theorem not16 : bits .andNot .u64 x 16 = x - bits .and .u64 x 16 := iandNot x h0 h1 16 18446744073709551599 (by decide) (by decide) (by decide) (by decide)
theorem not16776960 : bits .andNot .u64 x 16776960 = x - bits .and .u64 x 16776960 := iandNot x h0 h1 16776960 18446744073692774655 (by decide) (by decide) (by decide) (by decide)
theorem not72057594021150720 : bits .andNot .u64 x 72057594021150720 = x - bits .and .u64 x 72057594021150720 := iandNot x h0 h1 72057594021150720 18374686479688400895 (by decide) (by decide) (by decide) (by decide)
theorem or1 : bits .or .u64 x 1 = x + 1 - bits .and .u64 x 1 := ior x h0 h1 1 (by decide)
theorem or2 : bits .or .u64 x 2 = x + 2 - bits .and .u64 x 2 := ior x h0 h1 2 (by decide)
theorem or4 : bits .or .u64 x 4 = x + 4 - bits .and .u64 x 4 := ior x h0 h1 4 (by decide)
theorem or8 : bits .or .u64 x 8 = x + 8 - bits .and .u64 x 8 := ior x h0 h1 8 (by decide)
theorem or16 : bits .or .u64 x 16 = x + 16 - bits .and .u64 x 16 := ior x h0 h1 16 (by decide)
theorem or32 : bits .or .u64 x 32 = x + 32 - bits .and .u64 x 32 := ior x h0 h1 32 (by decide)

theorem andUnused : bits .and .u64 x 18374686479671623872 = bits .and .u64 x 192 + bits .and .u64 x 18374686479671623680 := by
  obtain ⟨n, rfl⟩ := Int.eq_ofNat_of_zero_le h0
  have a := u64_and_nat n 18374686479671623872 (by omega) (by decide)
  have b := u64_and_nat n 192 (by omega) (by decide)
  have c := u64_and_nat n 18374686479671623680 (by omega) (by decide)
  have d := split_at n 192 18374686479671623680 18374686479671623872 (by decide) (by decide)
  have f := congrArg (fun t : Nat => (t : Int)) d
  simp only [Int.natCast_add] at f
  exact a.trans (f.symm.trans (by rw [← b, ← c]; rfl))
end

/-! The functions' values, by sums, quotients and rests. -/
def mayB (x : Int) : Bool := decide (x < 72057594037927936) && decide (x / 64 % 4 = 0)
def stillB (x : Int) : Bool := decide (x / 2 % 2 = 0) && decide (x / 4 % 2 = 0)
def bitB (x k : Int) : Bool := decide (x / k % 2 = 1)
def rootV (x : Int) (b : Bool) : Int := if b then x + 16 - x / 16 % 2 * 16 else x - x / 16 % 2 * 16
def goneV (x : Int) : Int := x + 8 - x / 8 % 2 * 8
def unlockedV (x : Int) : Int :=
  if x / 4 % 2 = 1 then (if x / 16777216 % 4294967296 = 4294967295 then x - x % 8 - 72057594021150720 else x - x % 8 + 16777216)
  else if x / 2 % 2 = 1 then (if x / 256 % 65536 = 65535 then x - x % 8 - 16776960 else x - x % 8 + 256)
  else x - x % 8
def sameB (x y : Int) : Bool := decide (x / 2 = y / 2)
def movedB (x y : Int) : Bool := decide (x / 16777216 % 4294967296 ≠ y / 16777216 % 4294967296) || decide (x / 8 % 2 ≠ y / 8 % 2)

theorem may_eq (x : Int) (h0 : 0 ≤ x) (h1 : x < 18446744073709551616) : (bits .and .u64 x 18374686479671623872 == 0) = mayB x := by
  rw [andUnused x h0 h1, and192 x h0 h1, and18374686479671623680 x h0 h1]
  unfold mayB
  rw [Bool.eq_iff_iff]
  simp only [beq_iff_eq, Bool.and_eq_true, decide_eq_true_eq]
  omega
theorem still_eq (x : Int) (h0 : 0 ≤ x) (h1 : x < 18446744073709551616) : (bits .and .u64 x 6 == 0) = stillB x := by
  rw [and6 x h0 h1]
  unfold stillB
  rw [Bool.eq_iff_iff]
  simp only [beq_iff_eq, Bool.and_eq_true, decide_eq_true_eq]
  omega

theorem has_eq (x y : Int) (h0 : 0 ≤ x) (h1 : x < 18446744073709551616) (k0 : 0 ≤ y) (k1 : y < 18446744073709551616) :
    (bits .and .u64 x y == y) = decide (∀ i < 64, y / 2 ^ i % 2 = 1 → x / 2 ^ i % 2 = 1) := by
  obtain ⟨n, rfl⟩ := Int.eq_ofNat_of_zero_le h0
  obtain ⟨m, rfl⟩ := Int.eq_ofNat_of_zero_le k0
  rw [u64_and_nat n m (by omega) (by omega), Bool.eq_iff_iff]
  simp only [beq_iff_eq, decide_eq_true_eq]
  have tb : ∀ (a i : Nat), (a : Int) / 2 ^ i % 2 = 1 ↔ a.testBit i = true := by
    intro a i
    rw [Nat.testBit_eq_decide_div_mod_eq, decide_eq_true_eq]
    have : ((a / 2 ^ i % 2 : Nat) : Int) = (a : Int) / 2 ^ i % 2 := by push_cast; rfl
    omega
  have key : n &&& m = m ↔ ∀ i < 64, m.testBit i = true → n.testBit i = true := by
    constructor
    · intro e i _ hi
      rw [← e, Nat.testBit_and] at hi
      simp at hi
      exact hi.1
    · intro h
      apply Nat.eq_of_testBit_eq; intro i
      rw [Nat.testBit_and]
      by_cases hi : i < 64
      · have := h i hi
        cases e : m.testBit i
        · simp
        · simp [this e]
      · have : m.testBit i = false := Nat.testBit_lt_two_pow (Nat.lt_of_lt_of_le (show m < 2 ^ 64 by omega) (Nat.pow_le_pow_right (by decide) (by omega)))
        simp [this]
  rw [show ((n &&& m : Nat) : Int) = (m : Int) ↔ n &&& m = m from by omega, key]
  constructor
  · intro h i hi e
    exact (tb n i).2 (h i hi ((tb m i).1 e))
  · intro h i hi e
    exact (tb n i).1 (h i hi ((tb m i).2 e))

theorem same_eq (x y : Int) (h0 : 0 ≤ x) (h1 : x < 18446744073709551616) (k0 : 0 ≤ y) (k1 : y < 18446744073709551616) :
    (bits .andNot .u64 (bits .xor .u64 x y) 1 == 0) = sameB x y := by
  obtain ⟨n, rfl⟩ := Int.eq_ofNat_of_zero_le h0
  obtain ⟨m, rfl⟩ := Int.eq_ofNat_of_zero_le k0
  rw [bits_xor_u64_nat n m (by omega) (by omega)]
  have hx : n ^^^ m < 2 ^ 64 := Nat.xor_lt_two_pow (by omega) (by omega)
  rw [not1 _ (by omega) (by omega), and1 _ (by omega) (by omega)]
  unfold sameB
  rw [Bool.eq_iff_iff]
  simp only [beq_iff_eq, decide_eq_true_eq]
  have h2 := Nat.xor_div_two (a := n) (b := m)
  have key : (n ^^^ m) / 2 = 0 ↔ n / 2 = m / 2 := by
    rw [h2]
    constructor
    · intro h
      have a := xor_add_and (n / 2) (m / 2)
      have b : (n / 2) &&& (m / 2) ≤ n / 2 := Nat.and_le_left
      have c : (n / 2) &&& (m / 2) ≤ m / 2 := Nat.and_le_right
      omega
    · intro h; rw [h, Nat.xor_self]
  omega

theorem xor8 (x y : Int) (h0 : 0 ≤ x) (h1 : x < 18446744073709551616) (k0 : 0 ≤ y) (k1 : y < 18446744073709551616) :
    (bits .and .u64 (bits .xor .u64 x y) 8 != 0) = decide (x / 8 % 2 ≠ y / 8 % 2) := by
  obtain ⟨n, rfl⟩ := Int.eq_ofNat_of_zero_le h0
  obtain ⟨m, rfl⟩ := Int.eq_ofNat_of_zero_le k0
  rw [bits_xor_u64_nat n m (by omega) (by omega)]
  have hx : n ^^^ m < 2 ^ 64 := Nat.xor_lt_two_pow (by omega) (by omega)
  rw [and8 _ (by omega) (by omega), Bool.eq_iff_iff]
  simp only [bne_iff_ne, ne_eq, decide_eq_true_eq]
  have e1 : (n ^^^ m) / 8 % 2 = (n / 8 % 2) ^^^ (m / 8 % 2) := by
    have a := Nat.xor_div_two_pow (a := n) (b := m) (n := 3)
    have b := Nat.xor_mod_two_pow (a := n / 2 ^ 3) (b := m / 2 ^ 3) (n := 1)
    simp only [Nat.pow_one] at b
    rw [show (8 : Nat) = 2 ^ 3 from rfl, a, b]
  have key : (n / 8 % 2) ^^^ (m / 8 % 2) = 0 ↔ n / 8 % 2 = m / 8 % 2 := by
    rcases Nat.mod_two_eq_zero_or_one (n / 8) with x | x <;> rcases Nat.mod_two_eq_zero_or_one (m / 8) with y | y <;> simp [x, y]
  omega

theorem inserts_eq (x : Int) (h0 : 0 ≤ x) (h1 : x < 18446744073709551616) : bits .and .u64 (x / 256) 65535 = x / 256 % 65536 :=
  and65535 _ (by omega) (by omega)
theorem splits_eq (x : Int) (h0 : 0 ≤ x) (h1 : x < 18446744073709551616) : bits .and .u64 (x / 16777216) 4294967295 = x / 16777216 % 4294967296 :=
  and4294967295 _ (by omega) (by omega)

theorem or_apart (x y : Int) (h0 : 0 ≤ x) (h1 : x < 18446744073709551616) (k0 : 0 ≤ y) (k1 : y < 18446744073709551616) (M : Nat) (hM : M < 18446744073709551616)
    (hx : bits .and .u64 x (M : Int) = 0) (hy : bits .and .u64 y (M : Int) = y) : bits .or .u64 x y = x + y := by
  obtain ⟨n, rfl⟩ := Int.eq_ofNat_of_zero_le h0
  obtain ⟨m, rfl⟩ := Int.eq_ofNat_of_zero_le k0
  rw [u64_and_nat n M (by omega) hM] at hx
  rw [u64_and_nat m M (by omega) hM] at hy
  rw [u64_or_nat n m (by omega) (by omega)]
  have a : n &&& M = 0 := by omega
  have b : m &&& M = m := by omega
  have e : n &&& m = 0 := by
    rw [← b, Nat.and_comm m M, ← Nat.and_assoc, a, Nat.zero_and]
  have := or_add_and n m
  omega
def count8V (x : Int) : Int := if x / 256 % 65536 = 65535 then x - 16776960 else x + 256
def count24V (x : Int) : Int := if x / 16777216 % 4294967296 = 4294967295 then x - 72057594021150720 else x + 16777216
theorem count8_eq (x : Int) (h0 : 0 ≤ x) (h1 : x < 18446744073709551616) :
    bits .or .u64 (bits .andNot .u64 x 16776960) (bits .and .u64 (x / 256 + 1) 65535 * 256) = count8V x := by
  rw [and65535 _ (by omega) (by omega), not16776960 x h0 h1, and16776960 x h0 h1]
  rw [or_apart _ _ (by omega) (by omega) (by omega) (by omega) 16776960 (by decide) ((and16776960 _ (by omega) (by omega)).trans (by omega)) ((and16776960 _ (by omega) (by omega)).trans (by omega))]
  unfold count8V
  split <;> omega
theorem count24_eq (x : Int) (h0 : 0 ≤ x) (h1 : x < 18446744073709551616) :
    bits .or .u64 (bits .andNot .u64 x 72057594021150720) (bits .and .u64 (x / 16777216 + 1) 4294967295 * 16777216) = count24V x := by
  rw [and4294967295 _ (by omega) (by omega), not72057594021150720 x h0 h1, and72057594021150720 x h0 h1]
  rw [or_apart _ _ (by omega) (by omega) (by omega) (by omega) 72057594021150720 (by decide) ((and72057594021150720 _ (by omega) (by omega)).trans (by omega)) ((and72057594021150720 _ (by omega) (by omega)).trans (by omega))]
  unfold count24V
  split <;> omega

theorem cases_unlocked (x : Int) : unlockedV x = (if x / 4 % 2 = 1 then count24V (x - x % 8) else if x / 2 % 2 = 1 then count8V (x - x % 8) else x - x % 8) := by
  have a : (x - x % 8) / 256 = x / 256 := by omega
  have b : (x - x % 8) / 16777216 = x / 16777216 := by omega
  unfold unlockedV count24V count8V
  rw [a, b]

end Go.Proofs.Ytleodeoopckfjaa.VM
