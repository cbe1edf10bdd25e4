/- Plain arithmetic of words of sixteen digits to the base 16, the lowest first. -/
import Derived.Laws.BitsAllLaws
import Derived.IntWalk
namespace Go.Proofs.Ytochdmdojcfceaa.PM
open Go
set_option linter.unusedVariables false
set_option linter.unusedSimpArgs false

def enc : List Nat → Nat
  | [] => 0
  | d :: r => d + 16 * enc r
def dig : Nat → Nat → List Nat
  | 0, _ => []
  | n + 1, w => w % 16 :: dig n (w / 16)
def Dig (l : List Nat) : Prop := ∀ d ∈ l, d < 16
theorem Dig.cons {d : Nat} {l : List Nat} (h : d < 16) (k : Dig l) : Dig (d :: l) := fun x hx => by
  rcases List.mem_cons.1 hx with rfl | hx
  · exact h
  · exact k x hx
theorem Dig.tail {d : Nat} {l : List Nat} (h : Dig (d :: l)) : Dig l := fun x hx => h x (List.mem_cons_of_mem _ hx)
theorem Dig.append {a b : List Nat} (h : Dig a) (k : Dig b) : Dig (a ++ b) := fun x hx => (List.mem_append.1 hx).elim (h x) (k x)
theorem Dig.take {l : List Nat} (h : Dig l) (n : Nat) : Dig (l.take n) := fun x hx => h x (List.mem_of_mem_take hx)
theorem Dig.drop {l : List Nat} (h : Dig l) (n : Nat) : Dig (l.drop n) := fun x hx => h x (List.mem_of_mem_drop hx)
theorem dig_length : ∀ n w, (dig n w).length = n
  | 0, _ => rfl
  | n + 1, w => by simp [dig, dig_length n]
theorem dig_dig : ∀ n w, Dig (dig n w)
  | 0, _ => fun d h => by cases h
  | n + 1, w => Dig.cons (Nat.mod_lt _ (by omega)) (dig_dig n _)
theorem enc_dig : ∀ n w, w < 16 ^ n → enc (dig n w) = w
  | 0, w, h => by simp at h; simp [dig, enc, h]
  | n + 1, w, h => by
    rw [dig, enc, enc_dig n (w / 16) (by rw [Nat.pow_succ] at h; omega)]; omega
theorem dig_enc : ∀ l, Dig l → dig l.length (enc l) = l
  | [], _ => rfl
  | d :: r, h => by
    have hd := h d (List.mem_cons_self ..)
    rw [List.length_cons, dig, enc, show (d + 16 * enc r) % 16 = d from by omega, show (d + 16 * enc r) / 16 = enc r from by omega, dig_enc r h.tail]
theorem enc_append : ∀ a b : List Nat, enc (a ++ b) = enc a + 16 ^ a.length * enc b
  | [], b => by simp [enc]
  | d :: r, b => by
    rw [List.cons_append, enc, enc_append r b, enc, List.length_cons, Nat.pow_succ, Nat.mul_comm (16 ^ r.length) 16, Nat.mul_assoc]; omega
theorem enc_lt : ∀ l, Dig l → enc l < 16 ^ l.length
  | [], _ => by simp [enc]
  | d :: r, h => by
    have hd := h d (List.mem_cons_self ..)
    have := enc_lt r h.tail
    rw [enc, List.length_cons, Nat.pow_succ]; omega
theorem enc_inj {a b : List Nat} (ha : Dig a) (hb : Dig b) (hl : a.length = b.length) (h : enc a = enc b) : a = b := by
  rw [← dig_enc a ha, ← dig_enc b hb, hl, h]
theorem enc_mod (l : List Nat) (h : Dig l) (k : Nat) (hk : k ≤ l.length) : enc l % 16 ^ k = enc (l.take k) := by
  have e := enc_append (l.take k) (l.drop k)
  rw [List.take_append_drop, List.length_take, Nat.min_eq_left hk] at e
  have hlt := enc_lt _ (h.take k)
  rw [List.length_take, Nat.min_eq_left hk] at hlt
  rw [e, Nat.add_mul_mod_self_left, Nat.mod_eq_of_lt hlt]
theorem enc_div (l : List Nat) (h : Dig l) (k : Nat) (hk : k ≤ l.length) : enc l / 16 ^ k = enc (l.drop k) := by
  have e := enc_append (l.take k) (l.drop k)
  rw [List.take_append_drop, List.length_take, Nat.min_eq_left hk] at e
  have hlt := enc_lt _ (h.take k)
  rw [List.length_take, Nat.min_eq_left hk] at hlt
  rw [e, Nat.add_mul_div_left _ _ (Nat.pow_pos (by omega) : 0 < 16 ^ k), Nat.div_eq_of_lt hlt, Nat.zero_add]
theorem enc_get (l : List Nat) (h : Dig l) (k : Nat) (hk : k < l.length) : enc l / 16 ^ k % 16 = l[k] := by
  rw [enc_div l h k (by omega), List.drop_eq_getElem_cons hk, enc]
  have := h _ (List.getElem_mem hk)
  omega

theorem pow16 (k : Nat) : 2 ^ (4 * k) = 16 ^ k := by rw [Nat.pow_mul]
theorem u64_mask (P k : Nat) (hP : P < 18446744073709551616) (hk : k ≤ 15) : bits .and .u64 (P : Int) (IntKind.u64.wrap (IntKind.u64.wrap (2 ^ (4 * k)) - 1)) = ((P % 16 ^ k : Nat) : Int) := by
  have hlt : 16 ^ k ≤ 16 ^ 15 := Nat.pow_le_pow_right (by omega) hk
  have e : IntKind.u64.wrap (IntKind.u64.wrap (2 ^ (4 * k)) - 1) = ((2 ^ (4 * k) - 1 : Nat) : Int) := by
    have hp : 0 < 16 ^ k := Nat.pow_pos (by omega)
    have hc : ((2 : Int) ^ (4 * k)) = ((16 ^ k : Nat) : Int) := by rw [← pow16]; simp
    rw [hc, pow16, IntKind.wrap_u64, IntKind.wrap_u64]; omega
  rw [e, u64_and_nat P _ hP (by rw [pow16]; omega), Nat.and_two_pow_sub_one_eq_mod, pow16]
theorem nat_high (a k : Nat) (ha : a < 2 ^ 64) (hk : k ≤ 64) : a &&& (2 ^ 64 - 2 ^ k) = a / 2 ^ k * 2 ^ k := by
  apply Nat.eq_of_testBit_eq
  intro j
  have e : 2 ^ 64 - 2 ^ k = (2 ^ (64 - k) - 1) * 2 ^ k := by
    rw [Nat.sub_mul, ← Nat.pow_add, show 64 - k + k = 64 from by omega, Nat.one_mul]
  rw [e, Nat.testBit_and, Nat.testBit_mul_two_pow, Nat.testBit_mul_two_pow, Nat.testBit_two_pow_sub_one, Nat.testBit_div_two_pow]
  by_cases h : k ≤ j
  · by_cases h2 : j < 64
    · simp [h, show j - k < 64 - k from by omega]
    · have : a.testBit j = false := Nat.testBit_lt_two_pow (Nat.lt_of_lt_of_le ha (Nat.pow_le_pow_right (by omega) (by omega)))
      simp [h, this]
  · simp [h]
theorem u64_high (P k : Nat) (hP : P < 18446744073709551616) (hk : k ≤ 15) : bits .andNot .u64 (P : Int) (IntKind.u64.wrap (IntKind.u64.wrap (2 ^ (4 * k)) - 1)) = ((P / 16 ^ k * 16 ^ k : Nat) : Int) := by
  have hlt : 16 ^ k ≤ 16 ^ 15 := Nat.pow_le_pow_right (by omega) hk
  have hp : 0 < 16 ^ k := Nat.pow_pos (by omega)
  have e : IntKind.u64.wrap (IntKind.u64.wrap (2 ^ (4 * k)) - 1) = ((2 ^ (4 * k) - 1 : Nat) : Int) := by
    have hc : ((2 : Int) ^ (4 * k)) = ((16 ^ k : Nat) : Int) := by rw [← pow16]; simp
    rw [hc, pow16, IntKind.wrap_u64, IntKind.wrap_u64]; omega
  rw [e, u64_andNot_nat P _ hP (by rw [pow16]; omega)]
  have h := nat_high P (4 * k) hP (by omega)
  rw [show 18446744073709551615 - (2 ^ (4 * k) - 1) = 2 ^ 64 - 2 ^ (4 * k) from by rw [pow16]; omega, h, pow16]
theorem u64_plus (k X Y : Nat) (hX : X < 18446744073709551616) (hY : Y < 16 ^ k) (hk : k ≤ 16) (h0 : X % 16 ^ k = 0) : bits .or .u64 (X : Int) (Y : Int) = ((X + Y : Nat) : Int) := by
  have hlt : 16 ^ k ≤ 16 ^ 16 := Nat.pow_le_pow_right (by omega) hk
  rw [u64_or_nat X Y hX (by omega), nat_join (4 * k) X Y (by rw [pow16]; exact h0) (by rw [pow16]; exact hY)]
theorem u64_plus' (k X Y : Nat) (hX : X < 18446744073709551616) (hY : Y < 16 ^ k) (hk : k ≤ 16) (h0 : X % 16 ^ k = 0) : bits .or .u64 (Y : Int) (X : Int) = ((Y + X : Nat) : Int) := by
  have hlt : 16 ^ k ≤ 16 ^ 16 := Nat.pow_le_pow_right (by omega) hk
  rw [u64_or_nat Y X (by omega) hX, Nat.or_comm, nat_join (4 * k) X Y (by rw [pow16]; exact h0) (by rw [pow16]; exact hY), Nat.add_comm]

/-- A place that is taken out of the list, and one that is put into it. -/
def out (l : List Nat) (i : Nat) : List Nat := l.take i ++ l.drop (i + 1)
def put (l : List Nat) (j d : Nat) : List Nat := l.take j ++ d :: l.drop j
theorem out_length {l : List Nat} {i : Nat} (h : i < l.length) : (out l i).length = l.length - 1 := by simp [out]; omega
theorem put_length {l : List Nat} {j d : Nat} (h : j ≤ l.length) : (put l j d).length = l.length + 1 := by simp [put]; omega
theorem out_dig {l : List Nat} (h : Dig l) (i : Nat) : Dig (out l i) := (h.take i).append (h.drop _)
theorem put_dig {l : List Nat} (h : Dig l) (j d : Nat) (hd : d < 16) : Dig (put l j d) := (h.take j).append (Dig.cons hd (h.drop _))

theorem mv1 (n : Nat) (l : List Nat) (i : Nat) (hn : n < 16) (hl : l.length = 15) (hd : Dig l) (hi : i < 15) :
    bits .or .u64 (bits .and .u64 ((enc (n :: l) : Nat) : Int) (IntKind.u64.wrap (IntKind.u64.wrap (2 ^ (4 * (i + 1))) - 1))) (bits .andNot .u64 (((enc (n :: l) / 16 : Nat) : Int)) (IntKind.u64.wrap (IntKind.u64.wrap (2 ^ (4 * (i + 1))) - 1))) = ((enc (n :: out l i) : Nat) : Int) := by
  have hD : Dig (n :: l) := Dig.cons hn hd
  have hL : (n :: l).length = 16 := by simp [hl]
  have hlt : enc (n :: l) < 16 ^ 16 := by have := enc_lt _ hD; rwa [hL] at this
  have hp : 0 < 16 ^ (i + 1) := Nat.pow_pos (by omega)
  have e1 : enc (n :: l) / 16 / 16 ^ (i + 1) = enc (l.drop (i + 1)) := by
    rw [Nat.div_div_eq_div_mul, show 16 * 16 ^ (i + 1) = 16 ^ (i + 2) from by rw [Nat.pow_succ 16 (i + 1)]; omega, enc_div _ hD _ (by omega)]; rfl
  rw [u64_mask _ _ (by omega) (by omega), u64_high _ _ (by omega) (by omega), u64_plus' (i + 1) _ _ ?_ ?_ (by omega) ?_]
  · rw [enc_mod _ hD _ (by omega), e1]
    have := enc_append ((n :: l).take (i + 1)) (l.drop (i + 1))
    rw [List.length_take, hL, Nat.min_eq_left (by omega)] at this
    rw [Nat.mul_comm (enc (l.drop (i + 1))), ← this]; rfl
  · have h2 := Nat.div_mul_le_self (enc (n :: l) / 16) (16 ^ (i + 1)); omega
  · exact Nat.mod_lt _ hp
  · exact Nat.mul_mod_left _ _

theorem mv2 (n : Nat) (l : List Nat) (j d : Nat) (hn : n < 16) (hl : l.length = 14) (hd : Dig l) (hj : j < 15) (hd16 : d < 16) :
    bits .or .u64 (bits .or .u64 (bits .and .u64 ((enc (n :: l) : Nat) : Int) (IntKind.u64.wrap (IntKind.u64.wrap (2 ^ (4 * (j + 1))) - 1))) (IntKind.u64.wrap ((d : Int) * 2 ^ (4 * (j + 1)))))
      (IntKind.u64.wrap (bits .andNot .u64 ((enc (n :: l) : Nat) : Int) (IntKind.u64.wrap (IntKind.u64.wrap (2 ^ (4 * (j + 1))) - 1)) * 16)) = ((enc (n :: put l j d) : Nat) : Int) := by
  have hD : Dig (n :: l) := Dig.cons hn hd
  have hL : (n :: l).length = 15 := by simp [hl]
  have hlt : enc (n :: l) < 16 ^ 15 := by have := enc_lt _ hD; rwa [hL] at this
  have hp : 0 < 16 ^ (j + 1) := Nat.pow_pos (by omega)
  have hle : 16 ^ (j + 1) ≤ 16 ^ 15 := Nat.pow_le_pow_right (by omega) (by omega)
  have hle2 : d * 16 ^ (j + 1) ≤ 15 * 16 ^ (j + 1) := Nat.mul_le_mul_right _ (by omega)
  have e1 : IntKind.u64.wrap ((d : Int) * 2 ^ (4 * (j + 1))) = ((d * 16 ^ (j + 1) : Nat) : Int) := by
    have hc : ((2 : Int) ^ (4 * (j + 1))) = ((16 ^ (j + 1) : Nat) : Int) := by rw [← pow16]; simp
    have hc2 : (d : Int) * ((16 ^ (j + 1) : Nat) : Int) = ((d * 16 ^ (j + 1) : Nat) : Int) := by simp
    rw [hc, hc2, IntKind.wrap_u64]
    generalize d * 16 ^ (j + 1) = q at *
    omega
  have hdm := Nat.div_mul_le_self (enc (n :: l)) (16 ^ (j + 1))
  have e2 : IntKind.u64.wrap (((enc (n :: l) / 16 ^ (j + 1) * 16 ^ (j + 1) : Nat) : Int) * 16) = ((enc (n :: l) / 16 ^ (j + 1) * 16 ^ (j + 1) * 16 : Nat) : Int) := by
    rw [IntKind.wrap_u64]
    generalize enc (n :: l) / 16 ^ (j + 1) * 16 ^ (j + 1) = q at *
    omega
  rw [u64_mask _ _ (by omega) (by omega), u64_high _ _ (by omega) (by omega), e1, e2]
  have hm := Nat.mod_lt (enc (n :: l)) hp
  rw [u64_plus' (j + 1) _ _ (by omega) hm (by omega) (Nat.mul_mod_left _ _)]
  have hs : enc (n :: l) % 16 ^ (j + 1) + d * 16 ^ (j + 1) < 16 ^ (j + 2) := by
    rw [Nat.pow_succ 16 (j + 1)]; omega
  have hz : enc (n :: l) / 16 ^ (j + 1) * 16 ^ (j + 1) * 16 % 16 ^ (j + 2) = 0 := by
    rw [Nat.mul_assoc, ← Nat.pow_succ]; exact Nat.mul_mod_left _ _
  have hb : enc (n :: l) / 16 ^ (j + 1) * 16 ^ (j + 1) * 16 < 18446744073709551616 := by
    generalize enc (n :: l) / 16 ^ (j + 1) * 16 ^ (j + 1) = q at *
    omega
  rw [u64_plus' (j + 2) _ _ hb hs (by omega) hz]
  rw [enc_mod _ hD _ (by omega), enc_div _ hD _ (by omega)]
  have a1 := enc_append ((n :: l).take (j + 1)) (d :: (n :: l).drop (j + 1))
  rw [List.length_take, hL, Nat.min_eq_left (by omega)] at a1
  have a2 : (n :: l).take (j + 1) ++ d :: (n :: l).drop (j + 1) = n :: put l j d := rfl
  rw [a2] at a1
  rw [a1, enc]
  congr 1
  rw [Nat.mul_add, Nat.mul_comm d, Nat.mul_comm (enc (List.drop (j + 1) (n :: l))) (16 ^ (j + 1)), Nat.add_assoc, Nat.mul_assoc, Nat.mul_comm (enc (List.drop (j + 1) (n :: l))) 16]
end Go.Proofs.Ytochdmdojcfceaa.PM
