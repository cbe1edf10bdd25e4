/- Plain arithmetic of words: what the bit operations on literal masks are, as sums, quotients and rests. No Go in sight. -/
import Derived.Laws.BitsAllLaws
import Derived.Laws.BitsLemmas
namespace Go.Proofs.YtfdboihfgpibcaaDoor.TM

theorem or_add_and (a : Nat) : ∀ b, (a ||| b) + (a &&& b) = a + b := by
  induction a using Nat.strongRecOn with
  | _ a ih =>
    intro b
    by_cases h : a = 0
    · subst h; simp
    · have := ih (a / 2) (by omega) (b / 2)
      have h1 := Nat.or_div_two (a := a) (b := b)
      have h2 := Nat.and_div_two (a := a) (b := b)
      have h3 : (a ||| b) % 2 + (a &&& b) % 2 = a % 2 + b % 2 := by
        have e1 := Nat.or_mod_two_pow (a := a) (b := b) (n := 1)
        have e2 := Nat.and_mod_two_pow (a := a) (b := b) (n := 1)
        simp only [Nat.pow_one] at e1 e2
        rw [e1, e2]
        rcases Nat.mod_two_eq_zero_or_one a with x | x <;> rcases Nat.mod_two_eq_zero_or_one b with y | y <;> simp [x, y]
      omega

theorem xor_add_and (a : Nat) : ∀ b, (a ^^^ b) + 2 * (a &&& b) = a + b := by
  induction a using Nat.strongRecOn with
  | _ a ih =>
    intro b
    by_cases h : a = 0
    · subst h; simp
    · have := ih (a / 2) (by omega) (b / 2)
      have h1 := Nat.xor_div_two (a := a) (b := b)
      have h2 := Nat.and_div_two (a := a) (b := b)
      have h3 : (a ^^^ b) % 2 + 2 * ((a &&& b) % 2) = a % 2 + b % 2 := by
        have e1 := Nat.xor_mod_two_pow (a := a) (b := b) (n := 1)
        have e2 := Nat.and_mod_two_pow (a := a) (b := b) (n := 1)
        simp only [Nat.pow_one] at e1 e2
        rw [e1, e2]
        rcases Nat.mod_two_eq_zero_or_one a with x | x <;> rcases Nat.mod_two_eq_zero_or_one b with y | y <;> simp [x, y]
      omega

theorem mask (n w a : Nat) : n &&& ((2^w - 1) * 2^a) = (n / 2^a % 2^w) * 2^a := by
  apply Nat.eq_of_testBit_eq; intro i
  simp only [Nat.testBit_and, Nat.testBit_mul_two_pow, Nat.testBit_two_pow_sub_one, Nat.testBit_mod_two_pow, Nat.testBit_div_two_pow]
  by_cases h : a ≤ i
  · have e : i - a + a = i := by omega
    simp [h, e, Bool.and_comm]
  · simp [h]

theorem split_at (n c d s : Nat) (h1 : c ||| d = s) (h2 : c &&& d = 0) : (n &&& c) + (n &&& d) = n &&& s := by
  have e := or_add_and (n &&& c) (n &&& d)
  have e1 : (n &&& c) ||| (n &&& d) = n &&& s := by rw [← h1, Nat.and_or_distrib_left]
  have e2 : (n &&& c) &&& (n &&& d) = 0 := by
    have : (n &&& c) &&& (n &&& d) = n &&& (c &&& d) := by
      apply Nat.eq_of_testBit_eq; intro i
      simp only [Nat.testBit_and]
      cases n.testBit i <;> cases c.testBit i <;> cases d.testBit i <;> rfl
    rw [this, h2, Nat.and_zero]
  omega

theorem and_all (n : Nat) (h : n < 18446744073709551616) : n &&& 18446744073709551615 = n := by
  have := Nat.and_two_pow_sub_one_eq_mod n 64
  have e : (2 : Nat) ^ 64 - 1 = 18446744073709551615 := by decide
  have e' : (2 : Nat) ^ 64 = 18446744073709551616 := by decide
  rw [e, e', Nat.mod_eq_of_lt h] at this
  exact this

section
variable (x y : Int) (h0 : 0 ≤ x) (h1 : x < 18446744073709551616) (k0 : 0 ≤ y) (k1 : y < 18446744073709551616)
include h0 h1

theorem iand (c s q w a : Nat) (hs : s = 2 ^ a) (hq : q = 2 ^ w) (hc : c = (q - 1) * s) (hl : c < 18446744073709551616) :
    bits .and .u64 x (c : Int) = x / (s : Int) % (q : Int) * (s : Int) := by
  obtain ⟨n, rfl⟩ := Int.eq_ofNat_of_zero_le h0
  rw [u64_and_nat n c (by omega) hl, hc, hs, hq, mask]
  push_cast
  rfl

theorem iandNot (c d : Nat) (hl : c < 18446744073709551616) (hd : d = 18446744073709551615 - c) (e1 : c ||| d = 18446744073709551615) (e2 : c &&& d = 0) :
    bits .andNot .u64 x (c : Int) = x - bits .and .u64 x (c : Int) := by
  obtain ⟨n, rfl⟩ := Int.eq_ofNat_of_zero_le h0
  rw [u64_andNot_nat n c (by omega) hl, u64_and_nat n c (by omega) hl, ← hd]
  have := split_at n c d _ e1 e2
  rw [and_all n (by omega)] at this
  omega

theorem ior (c : Nat) (hl : c < 18446744073709551616) : bits .or .u64 x (c : Int) = x + c - bits .and .u64 x (c : Int) := by
  obtain ⟨n, rfl⟩ := Int.eq_ofNat_of_zero_le h0
  rw [u64_or_nat n c (by omega) hl, u64_and_nat n c (by omega) hl]
  have := or_add_and n c
  omega

theorem and1 : bits .and .u64 x 1 = x % 2 := by
  have := iand x h0 h1 1 1 2 1 0 (by decide) (by decide) (by decide) (by decide)
  rw [show ((1 : Nat) : Int) = 1 from rfl, Int.ediv_one, Int.mul_one] at this
  exact this
theorem and2 : bits .and .u64 x 2 = x / 2 % 2 * 2 := by
  have := iand x h0 h1 2 2 2 1 1 (by decide) (by decide) (by decide) (by decide)
  omega
theorem and4 : bits .and .u64 x 4 = x / 4 % 2 * 4 := by
  have := iand x h0 h1 4 4 2 1 2 (by decide) (by decide) (by decide) (by decide)
  omega
theorem and7 : bits .and .u64 x 7 = x % 8 := by
  have := iand x h0 h1 7 1 8 3 0 (by decide) (by decide) (by decide) (by decide)
  rw [show ((1 : Nat) : Int) = 1 from rfl, Int.ediv_one, Int.mul_one] at this
  exact this
theorem and16777215 : bits .and .u64 x 16777215 = x % 16777216 := by
  have := iand x h0 h1 16777215 1 16777216 24 0 (by decide) (by decide) (by decide) (by decide)
  rw [show ((1 : Nat) : Int) = 1 from rfl, Int.ediv_one, Int.mul_one] at this
  exact this
theorem and2147483647 : bits .and .u64 x 2147483647 = x % 2147483648 := by
  have := iand x h0 h1 2147483647 1 2147483648 31 0 (by decide) (by decide) (by decide) (by decide)
  rw [show ((1 : Nat) : Int) = 1 from rfl, Int.ediv_one, Int.mul_one] at this
  exact this
theorem not7 : bits .andNot .u64 x 7 = x - bits .and .u64 x 7 := iandNot x h0 h1 7 18446744073709551608 (by decide) (by decide) (by decide) (by decide)
theorem or1 : bits .or .u64 x 1 = x + 1 - bits .and .u64 x 1 := ior x h0 h1 1 (by decide)
theorem or2 : bits .or .u64 x 2 = x + 2 - bits .and .u64 x 2 := ior x h0 h1 2 (by decide)
theorem or4 : bits .or .u64 x 4 = x + 4 - bits .and .u64 x 4 := ior x h0 h1 4 (by decide)
end

def epV (x : Int) : Int := x / 17179869184 % 16777216
def nuV (x : Int) : Int := x / 8 % 2147483648
def bareV (x : Int) : Int := x - x % 8
def b2i (b : Bool) : Int := if b then 1 else 0
def withV (x : Int) (l d a : Bool) : Int := x - x % 8 + b2i l + 2 * b2i d + 4 * b2i a
def wordV (e n : Int) : Int := e * 17179869184 + n * 8
def mayB (x : Int) : Bool := decide (x < 288230376151711744)
def bitB (x k : Int) : Bool := decide (x / k % 2 = 1)
def lessB (x y : Int) : Bool := if epV x = epV y then decide (nuV x < nuV y) else decide (epV x < epV y)

theorem b2i_bd (b : Bool) : 0 ≤ b2i b ∧ b2i b ≤ 1 := by cases b <;> simp [b2i]
theorem bits_pos (x k : Int) (h : bits .and .u64 x k = x / k % 2 * k) (hk : 0 < k) : (bits .and .u64 x k != 0) = bitB x k := by
  rw [h]; unfold bitB
  rw [Bool.eq_iff_iff]
  simp only [bne_iff_ne, ne_eq, decide_eq_true_eq]
  rcases Int.emod_two_eq (x / k) with e | e <;> rw [e] <;> omega
theorem word_or (e n : Int) (h0 : 0 ≤ e) (h1 : e ≤ 16777215) (k0 : 0 ≤ n) (k1 : n ≤ 2147483647) : bits .or .u64 (e * 17179869184) (n * 8) = wordV e n :=
  bits_join .u64 64 (by decide) (fun n a b => by rw [IntKind.wrap_u64]; omega) 34 _ _ (by omega) (by omega) (by omega) (by omega) (by omega) (by omega)

end Go.Proofs.YtfdboihfgpibcaaDoor.TM
