/- Plain arithmetic of slices' words: bytes put by shifts. -/
import Derived.Laws.BitsAllLaws
import Derived.IntWalk
namespace Go.Proofs.Ytkgcbhpgkcfkhaa.K8.SM

/-- A word's value behind i bytes, the first one highest. -/
def wd (f : Nat → Int) : Nat → Int
  | 0 => 0
  | i + 1 => wd f i + f i * 2 ^ (56 - 8 * i)

theorem lt8 {k : Nat} (h : k < 8) : k = 0 ∨ k = 1 ∨ k = 2 ∨ k = 3 ∨ k = 4 ∨ k = 5 ∨ k = 6 ∨ k = 7 := by omega

theorem wd_bd (f : Nat → Int) (hf : ∀ i, 0 ≤ f i ∧ f i ≤ 255) : ∀ i, i ≤ 8 → 0 ≤ wd f i ∧ wd f i ≤ 18446744073709551616 - 2 ^ (64 - 8 * i) ∧ wd f i % 2 ^ (64 - 8 * i) = 0 := by
  intro i hi
  match i, hi with
  | 0, _ => simp [wd]
  | 1, _ => have := hf 0; simp [wd]; omega
  | 2, _ => have := hf 0; have := hf 1; simp [wd]; omega
  | 3, _ => have := hf 0; have := hf 1; have := hf 2; simp [wd]; omega
  | 4, _ => have := hf 0; have := hf 1; have := hf 2; have := hf 3; simp [wd]; omega
  | 5, _ => have := hf 0; have := hf 1; have := hf 2; have := hf 3; have := hf 4; simp [wd]; omega
  | 6, _ => have := hf 0; have := hf 1; have := hf 2; have := hf 3; have := hf 4; have := hf 5; simp [wd]; omega
  | 7, _ => have := hf 0; have := hf 1; have := hf 2; have := hf 3; have := hf 4; have := hf 5; have := hf 6; simp [wd]; omega
  | 8, _ => have := hf 0; have := hf 1; have := hf 2; have := hf 3; have := hf 4; have := hf 5; have := hf 6; have := hf 7; simp [wd]; omega

theorem wraps_u64 (n : Int) (h₀ : 0 ≤ n) (h₁ : n < 2 ^ 64) : IntKind.u64.wrap n = n := by rw [IntKind.wrap_u64]; omega

theorem wd_put (f : Nat → Int) (hf : ∀ i, 0 ≤ f i ∧ f i ≤ 255) (k : Nat) (hk : k < 8) :
    bits BinOp.or IntKind.u64 (wd f k) (IntKind.u64.wrap (IntKind.u64.wrap (f k) * 2 ^ (56 - 8 * k))) = wd f (k + 1) := by
  have a := wd_bd f hf k (by omega)
  have b := hf k
  rw [wraps_u64 (f k) b.1 (by omega)]
  have e : IntKind.u64.wrap (f k * 2 ^ (56 - 8 * k)) = f k * 2 ^ (56 - 8 * k) ∧ 0 ≤ f k * 2 ^ (56 - 8 * k) ∧ f k * 2 ^ (56 - 8 * k) < 2 ^ (64 - 8 * k) ∧ f k * 2 ^ (56 - 8 * k) < 2 ^ 64 ∧ wd f k < 2 ^ 64 := by
    rcases lt8 hk with rfl | rfl | rfl | rfl | rfl | rfl | rfl | rfl <;> (simp only [Nat.reduceMul, Nat.reduceSub, Int.reducePow] at a ⊢; rw [IntKind.wrap_u64]; omega)
  rw [e.1, bits_join .u64 64 (by decide) wraps_u64 (64 - 8 * k) _ _ a.1 a.2.2 e.2.2.2.2 e.2.1 e.2.2.1 e.2.2.2.1]
  rfl

end Go.Proofs.Ytkgcbhpgkcfkhaa.K8.SM
