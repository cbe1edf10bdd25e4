/- The reference's lists of a perm, and its word, by contracts. -/
import Derived.Test.YtochdmdojcfceaaRefA
namespace Go.Proofs.Ytochdmdojcfceaa
open Go.ChangeShapes Go.WideShapes Go.ChangeAt Go.RowKit Go.Shelf
open PM
set_option linter.unusedVariables false
set_option linter.unusedSimpArgs false

/-- A box of a perm's value. -/
theorem pb_box (w : World) (n : Nat) (l : List Nat) : PB (w.alloc (.cells (pvl n l).toArray 27)) w.heap.size n l := by
  refine ⟨?_, fun j hj => ?_, fun j hj => ?_⟩
  · rw [cell_new]; simpa using pvl_zero n l
  · rw [cell_new]; simpa using pvl_at n l j hj
  · simp [go_sem]
set_option maxRecDepth 100000 in
set_option maxHeartbeats 4000000 in
theorem word_law (n : Nat) (l : List Nat) (h : Wrd n l) (w : World) :
    Calls Try.prog 35 #[.agg (pvl n l).toArray] w fun e w' => e = .returned (.int .u64 ((enc (n :: l) : Nat) : Int)) ∧ Below w.heap.size w w' := by
  have hp := h.lt
  have hlen := h.len
  have HW := Lib.hid h
  clear h
  have P0 := pb_box w n l
  have B0 : Below w.heap.size w (w.alloc (.cells (pvl n l).toArray 27)) := (Below.refl _ _).alloc (Nat.le_refl _) _
  go_enter Try.func35, Try.ntmps35
  go_wp2_with fail
  generalize w.alloc (.cells (pvl n l).toArray 27) = W0 at P0 B0 ⊢
  go_loopw [3, 4] (fun p i wr => ∃ k : Nat, k ≤ 15 ∧ i = .int .i64 ((k : Int) - 1) ∧ p = .int .u64 ((enc (l.drop k) : Nat) : Int) ∧ wr = W0) (fun _ i _ => (intOf i + 1).toNat)
  case atStart => exact ⟨15, by omega, rfl, by rw [List.drop_of_length_le (by omega)]; rfl, rfl⟩
  case round =>
    obtain ⟨k, hk, rfl, rfl, rfl⟩ := hrel
    rcases k with _ | k
    · have c0 := P0.c0
      have hn := HW.out.n16
      have hlow := HW.out.low
      have hE : enc l * 16 + n = enc (n :: l) := by rw [enc]; omega
      have hE2 : enc l * 16 + n < 18446744073709551616 := by omega
      obtain ⟨y, hy⟩ : ∃ y, enc l = y := ⟨_, rfl⟩
      rw [hy] at hE hE2
      have HE := Lib.hid hE
      have hy' : (enc (List.drop 0 l)) = y := hy
      rw [hy']
      have hyb : y < 18446744073709551616 := by omega
      clear hlow hE hy hy'
      go_wp2_with fail
      go_ret
      exact ⟨by rw [← HE.out]; push_cast; rfl, B0⟩
    · have hkl : (0 : Int) ≤ (k : Int) := by omega
      have hkl2 : (k : Int) < 15 := by omega
      have c1 := P0.cell k (by omega)
      have hx16 := HW.out.get16 k (by omega)
      have hd : enc (l.drop k) = enc (l.drop (k + 1)) * 16 + l.getD k 0 := by
        have hkl : k < l.length := by omega
        rw [List.drop_eq_getElem_cons hkl, enc]
        have e : l.getD k 0 = l[k] := by simp [List.getD, List.getElem?_eq_getElem hkl]
        rw [e]; omega
      have hE := enc_lt (l.drop k) (HW.out.dig.drop k)
      have hlt64 : enc (l.drop k) < 18446744073709551616 := by
        have h2 : 16 ^ (l.drop k).length ≤ 16 ^ 15 := Nat.pow_le_pow_right (by omega) (by simp; omega)
        omega
      obtain ⟨x, hx⟩ : ∃ x, l.getD k 0 = x := ⟨_, rfl⟩
      obtain ⟨y, hy⟩ : ∃ y, enc (l.drop (k + 1)) = y := ⟨_, rfl⟩
      obtain ⟨z, hz⟩ : ∃ z, enc (l.drop k) = z := ⟨_, rfl⟩
      rw [hx, hy, hz] at hd
      rw [hz] at hlt64
      rw [hx] at c1 hx16
      have HD := Lib.hid hd
      have HZ := Lib.hid hz
      have hyb : y < 18446744073709551616 := by omega
      have hyx : y * 16 + x < 18446744073709551616 := by omega
      rw [hy]
      clear hd hz hy hx hE
      rw [show ((k + 1 : Nat) : Int) - 1 = (k : Int) by omega]
      go_wp2_with fail
      exact ⟨⟨k, by omega, rfl, by rw [HZ.out, HD.out]; simp, trivial⟩, by simp [intOf]⟩
set_option maxRecDepth 100000 in
set_option maxHeartbeats 4000000 in
theorem rused_law (n : Nat) (l : List Nat) (h : Wrd n l) (w : World) :
    Calls Try.prog 10 #[.agg (pvl n l).toArray] w fun e w' => ∃ a cap, e = .returned (.slice a (n) cap) ∧ n ≤ cap ∧ Rd w' a (ints (l.take n)) ∧ (0 < n → ∃ g, a = some ⟨g, 0, none⟩) ∧ Below w.heap.size w w' := by
  have hlen := h.len
  have h16 := h.n16
  obtain ⟨i0, hi, hz0, hz1, hz2⟩ := info_parts info3
  have P0 := pb_box w n l
  have B0 : Below w.heap.size w (w.alloc (.cells (pvl n l).toArray 27)) := (Below.refl _ _).alloc (Nat.le_refl _) _
  have c0 := P0.c0
  have hnl : (n : Int) ≤ 15 := by omega
  have hll : (l.take n).length = n := by simp [hlen]; try omega
  have k1 : (iv (l.take n)).length = (n) * 1 := by rw [Nat.mul_one]; simp [iv, hlen]; try omega
  have k2 : ∀ j u, (iv (l.take n))[j]? = some u → (w.alloc (.cells (pvl n l).toArray 27)).cell? ((⟨w.heap.size, 1, none⟩ : Addr).add j) = some u := by
    intro j u hj
    have hjl : j < (l.take n).length := by have := (List.getElem?_eq_some_iff.1 hj).1; simpa [iv] using this
    rw [hll] at hjl
    have hu : u = .int .i64 ((l.getD (j) 0 : Nat) : Int) := by
      have hg : (j) < l.length := by omega
      simp [iv, List.getElem?_take, List.getElem?_drop, hjl, hg] at hj
      rw [← hj]; simp [List.getD, List.getElem?_eq_getElem hg]
    rw [hu]
    have := P0.cell (j) (by omega)
    rw [← this]
    congr 1
    simp [Addr.add, Nat.add_assoc]
  have k3 : ∀ u ∈ iv (l.take n), u.oneCell' = true := by intro u hu; simp only [iv, List.mem_map] at hu; obtain ⟨x, _, rfl⟩ := hu; rfl
  have k4 : 0 + (n) ≤ maxLen := by unfold maxLen; omega
  have k5 : (0 + (n)) * 8 ≤ 140737488355328 := by omega
  have k6 : w.heap.size + 1 ≤ (w.alloc (.cells (pvl n l).toArray 27)).heap.size := by simp
  have k0 := World.ownsRow_nil (w.alloc (.cells (pvl n l).toArray 27)) (w.heap.size + 1) 3 1
  have K2 := Lib.hid k2
  have HW := Lib.hid h
  clear k2 h
  go_enter Try.func10, Try.ntmps10
  go_wp2_with (at_builtin; refine wpList_append_own _ rfl _ _ 23 rfl (w.heap.size + 1) 3 i0 (.int .i64 0) 1 8 Try.underlying23 hi hz0 hz1 hz2 rfl (by decide) _ 0 [] rfl k0 ⟨w.heap.size, 1, none⟩ (n) (15) (iv (l.take n)) rfl k1 K2.out k3 k4 k5 k6 ?_)
  intro v' w3 hown' hgrow _
  have hB3 : Below w.heap.size w w3 := B0.grown hgrow (by simp) (fun j hj => by have := (k0.lt j hj).1; omega)
  have K7 := Lib.hid (own_rd (l := l.take n) (by simpa using hown') (by simp [hlen]; try omega))
  clear hown' hgrow
  go_wp2_with fail
  go_ret
  obtain ⟨a, cap, rfl, h2, h3, h4⟩ := K7.out
  exact ⟨a, cap, rfl, h2, h3, h4, hB3⟩
set_option maxRecDepth 100000 in
set_option maxHeartbeats 4000000 in
theorem rfree_law (n : Nat) (l : List Nat) (h : Wrd n l) (w : World) :
    Calls Try.prog 11 #[.agg (pvl n l).toArray] w fun e w' => ∃ a cap, e = .returned (.slice a (15 - n) cap) ∧ 15 - n ≤ cap ∧ Rd w' a (ints (l.drop n)) ∧ (0 < 15 - n → ∃ g, a = some ⟨g, 0, none⟩) ∧ Below w.heap.size w w' := by
  have hlen := h.len
  have h16 := h.n16
  obtain ⟨i0, hi, hz0, hz1, hz2⟩ := info_parts info3
  have P0 := pb_box w n l
  have B0 : Below w.heap.size w (w.alloc (.cells (pvl n l).toArray 27)) := (Below.refl _ _).alloc (Nat.le_refl _) _
  have c0 := P0.c0
  have hnl : (n : Int) ≤ 15 := by omega
  have hll : (l.drop n).length = 15 - n := by simp [hlen]; try omega
  have k1 : (iv (l.drop n)).length = (15 - n) * 1 := by rw [Nat.mul_one]; simp [iv, hlen]; try omega
  have k2 : ∀ j u, (iv (l.drop n))[j]? = some u → (w.alloc (.cells (pvl n l).toArray 27)).cell? ((⟨w.heap.size, 1 + n, none⟩ : Addr).add j) = some u := by
    intro j u hj
    have hjl : j < (l.drop n).length := by have := (List.getElem?_eq_some_iff.1 hj).1; simpa [iv] using this
    rw [hll] at hjl
    have hu : u = .int .i64 ((l.getD (n + j) 0 : Nat) : Int) := by
      have hg : (n + j) < l.length := by omega
      simp [iv, List.getElem?_take, List.getElem?_drop, hjl, hg] at hj
      rw [← hj]; simp [List.getD, List.getElem?_eq_getElem hg]
    rw [hu]
    have := P0.cell (n + j) (by omega)
    rw [← this]
    congr 1
    simp [Addr.add, Nat.add_assoc]
  have k3 : ∀ u ∈ iv (l.drop n), u.oneCell' = true := by intro u hu; simp only [iv, List.mem_map] at hu; obtain ⟨x, _, rfl⟩ := hu; rfl
  have k4 : 0 + (15 - n) ≤ maxLen := by unfold maxLen; omega
  have k5 : (0 + (15 - n)) * 8 ≤ 140737488355328 := by omega
  have k6 : w.heap.size + 1 ≤ (w.alloc (.cells (pvl n l).toArray 27)).heap.size := by simp
  have k0 := World.ownsRow_nil (w.alloc (.cells (pvl n l).toArray 27)) (w.heap.size + 1) 3 1
  have K2 := Lib.hid k2
  have HW := Lib.hid h
  clear k2 h
  rcases (show n = 15 ∨ n < 15 by omega) with e | hlt
  · subst e
    have hd : l.drop 15 = [] := List.drop_of_length_le (by omega)
    rw [hd] at k1 k3 hll K2 ⊢
    have k7 : ∀ j u, (iv [])[j]? = some u → (w.alloc (.cells (pvl 15 l).toArray 27)).cell? ((⟨w.heap.size, 1, none⟩ : Addr).add j) = some u := fun j u hj => by simp [iv] at hj
    have K8 := Lib.hid k7
    clear K2 k7
    go_enter Try.func11, Try.ntmps11
    go_wp2_with (at_builtin; refine wpList_append_own _ rfl _ _ 23 rfl (w.heap.size + 1) 3 i0 (.int .i64 0) 1 8 Try.underlying23 hi hz0 hz1 hz2 rfl (by decide) _ 0 [] rfl k0 ⟨w.heap.size, 1, none⟩ 0 0 (iv []) rfl rfl K8.out k3 (by unfold maxLen; omega) (by omega) k6 ?_)
    intro v' w3 hown' hgrow _
    have hB3 : Below w.heap.size w w3 := B0.grown hgrow (by simp) (fun j hj => by have := (k0.lt j hj).1; omega)
    have K7 := Lib.hid (own_rd (l := []) (by simpa using hown') rfl)
    clear hown' hgrow
    go_wp2_with fail
    go_ret
    obtain ⟨a, cap, rfl, h2, h3, h4⟩ := K7.out
    exact ⟨a, cap, rfl, h2, h3, h4, hB3⟩
  · have q1 : ¬ n = 15 := by omega
    have q2 : ¬ 15 = n := by omega
    have q3 : ¬ 15 - n = 0 := by omega
    have q4 : (n : Int) < 15 := by omega
    have q5 : 0 < 15 - n := by omega
    go_enter Try.func11, Try.ntmps11
    go_wp2_with (at_builtin; refine wpList_append_own _ rfl _ _ 23 rfl (w.heap.size + 1) 3 i0 (.int .i64 0) 1 8 Try.underlying23 hi hz0 hz1 hz2 rfl (by decide) _ 0 [] rfl k0 ⟨w.heap.size, 1 + n, none⟩ (15 - n) (15 - n) (iv (l.drop n)) rfl k1 K2.out k3 k4 k5 k6 ?_)
    intro v' w3 hown' hgrow _
    have hB3 : Below w.heap.size w w3 := B0.grown hgrow (by simp) (fun j hj => by have := (k0.lt j hj).1; omega)
    have K7 := Lib.hid (own_rd (l := l.drop n) (by simpa using hown') hll)
    clear hown' hgrow
    go_wp2_with fail
    go_ret
    obtain ⟨a, cap, rfl, h2, h3, h4⟩ := K7.out
    exact ⟨a, cap, rfl, h2, h3, h4, hB3⟩
end Go.Proofs.Ytochdmdojcfceaa
