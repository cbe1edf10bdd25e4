/- The reference's lists of a perm, handed on. -/
import Derived.Test.YtochdmdojcfceaaRefG
namespace Go.Proofs.Ytochdmdojcfceaa
open Go.ChangeShapes Go.WideShapes Go.ChangeAt Go.RowKit Go.Shelf
open PM
set_option linter.unusedVariables false
set_option linter.unusedSimpArgs false

set_option maxRecDepth 100000 in
set_option maxHeartbeats 4000000 in
theorem rused_ls (n : Nat) (l : List Nat) (h : Wrd n l) (w : World) :
    Calls Try.prog 10 #[.agg (pvl n l).toArray] w fun e w' => ∃ a cap, e = .returned (.slice a (n) cap) ∧ Ls w' a cap (l.take n) ∧ (0 < n → ∃ g, a = some ⟨g, 0, none⟩) ∧ Below w.heap.size w w' := by
  have hlen := h.len
  have h16 := h.n16
  obtain ⟨i0, hi, hz0, hz1, hz2⟩ := info_parts info3
  have P0 := pb_box w n l
  have B0 : Below w.heap.size w (w.alloc (.cells (pvl n l).toArray 27)) := (Below.refl _ _).alloc (Nat.le_refl _) _
  have c0 := P0.c0
  have hnl : (n : Int) ≤ 15 := by omega
  have hll : (l.take n).length = n := by simp [hlen]; try omega
  have k1 : (iv (l.take n)).length = (n) * 1 := by rw [Nat.mul_one]; simp [iv, hlen]; try omega
  have k2 : ∀ j u, (iv (l.take n))[j]? = some u → (w.alloc (.cells (pvl n l).toArray 27)).cell? ((⟨w.heap.size, 1, none⟩ : Addr).add j) = some u := by
    intro j u hj
    have hjl : j < (l.take n).length := by have := (List.getElem?_eq_some_iff.1 hj).1; simpa [iv] using this
    rw [hll] at hjl
    have hu : u = .int .i64 ((l.getD (j) 0 : Nat) : Int) := by
      have hg : (j) < l.length := by omega
      simp [iv, List.getElem?_take, List.getElem?_drop, hjl, hg] at hj
      rw [← hj]; simp [List.getD, List.getElem?_eq_getElem hg]
    rw [hu]
    have := P0.cell (j) (by omega)
    rw [← this]
    congr 1
    simp [Addr.add, Nat.add_assoc]
  have k3 : ∀ u ∈ iv (l.take n), u.oneCell' = true := by intro u hu; simp only [iv, List.mem_map] at hu; obtain ⟨x, _, rfl⟩ := hu; rfl
  have k4 : 0 + (n) ≤ maxLen := by unfold maxLen; omega
  have k5 : (0 + (n)) * 8 ≤ 140737488355328 := by omega
  have k6 : w.heap.size + 1 ≤ (w.alloc (.cells (pvl n l).toArray 27)).heap.size := by simp
  have k0 := World.ownsRow_nil (w.alloc (.cells (pvl n l).toArray 27)) (w.heap.size + 1) 3 1
  have K2 := Lib.hid k2
  have HW := Lib.hid h
  clear k2 h
  go_enter Try.func10, Try.ntmps10
  go_wp2_with (at_builtin; refine wpList_append_own _ rfl _ _ 23 rfl (w.heap.size + 1) 3 i0 (.int .i64 0) 1 8 Try.underlying23 hi hz0 hz1 hz2 rfl (by decide) _ 0 [] rfl k0 ⟨w.heap.size, 1, none⟩ (n) (15) (iv (l.take n)) rfl k1 K2.out k3 k4 k5 k6 ?_)
  intro v' w3 hown' hgrow _
  have hB3 : Below w.heap.size w w3 := B0.grown hgrow (by simp) (fun j hj => by have := (k0.lt j hj).1; omega)
  have K7 := Lib.hid (own_ls (l := l.take n) (by simpa using hown') (by simp [hlen]; try omega))
  clear hown' hgrow
  go_wp2_with fail
  go_ret
  obtain ⟨a, cap, rfl, h3, h4⟩ := K7.out
  exact ⟨a, cap, rfl, h3, h4, hB3⟩
set_option maxRecDepth 100000 in
set_option maxHeartbeats 4000000 in
theorem rfree_ls (n : Nat) (l : List Nat) (h : Wrd n l) (w : World) :
    Calls Try.prog 11 #[.agg (pvl n l).toArray] w fun e w' => ∃ a cap, e = .returned (.slice a (15 - n) cap) ∧ Ls w' a cap (l.drop n) ∧ (0 < 15 - n → ∃ g, a = some ⟨g, 0, none⟩) ∧ Below w.heap.size w w' := by
  have hlen := h.len
  have h16 := h.n16
  obtain ⟨i0, hi, hz0, hz1, hz2⟩ := info_parts info3
  have P0 := pb_box w n l
  have B0 : Below w.heap.size w (w.alloc (.cells (pvl n l).toArray 27)) := (Below.refl _ _).alloc (Nat.le_refl _) _
  have c0 := P0.c0
  have hnl : (n : Int) ≤ 15 := by omega
  have hll : (l.drop n).length = 15 - n := by simp [hlen]; try omega
  have k1 : (iv (l.drop n)).length = (15 - n) * 1 := by rw [Nat.mul_one]; simp [iv, hlen]; try omega
  have k2 : ∀ j u, (iv (l.drop n))[j]? = some u → (w.alloc (.cells (pvl n l).toArray 27)).cell? ((⟨w.heap.size, 1 + n, none⟩ : Addr).add j) = some u := by
    intro j u hj
    have hjl : j < (l.drop n).length := by have := (List.getElem?_eq_some_iff.1 hj).1; simpa [iv] using this
    rw [hll] at hjl
    have hu : u = .int .i64 ((l.getD (n + j) 0 : Nat) : Int) := by
      have hg : (n + j) < l.length := by omega
      simp [iv, List.getElem?_take, List.getElem?_drop, hjl, hg] at hj
      rw [← hj]; simp [List.getD, List.getElem?_eq_getElem hg]
    rw [hu]
    have := P0.cell (n + j) (by omega)
    rw [← this]
    congr 1
    simp [Addr.add, Nat.add_assoc]
  have k3 : ∀ u ∈ iv (l.drop n), u.oneCell' = true := by intro u hu; simp only [iv, List.mem_map] at hu; obtain ⟨x, _, rfl⟩ := hu; rfl
  have k4 : 0 + (15 - n) ≤ maxLen := by unfold maxLen; omega
  have k5 : (0 + (15 - n)) * 8 ≤ 140737488355328 := by omega
  have k6 : w.heap.size + 1 ≤ (w.alloc (.cells (pvl n l).toArray 27)).heap.size := by simp
  have k0 := World.ownsRow_nil (w.alloc (.cells (pvl n l).toArray 27)) (w.heap.size + 1) 3 1
  have K2 := Lib.hid k2
  have HW := Lib.hid h
  clear k2 h
  rcases (show n = 15 ∨ n < 15 by omega) with e | hlt
  · subst e
    have hd : l.drop 15 = [] := List.drop_of_length_le (by omega)
    rw [hd] at k1 k3 hll K2 ⊢
    have k7 : ∀ j u, (iv [])[j]? = some u → (w.alloc (.cells (pvl 15 l).toArray 27)).cell? ((⟨w.heap.size, 1, none⟩ : Addr).add j) = some u := fun j u hj => by simp [iv] at hj
    have K8 := Lib.hid k7
    clear K2 k7
    go_enter Try.func11, Try.ntmps11
    go_wp2_with (at_builtin; refine wpList_append_own _ rfl _ _ 23 rfl (w.heap.size + 1) 3 i0 (.int .i64 0) 1 8 Try.underlying23 hi hz0 hz1 hz2 rfl (by decide) _ 0 [] rfl k0 ⟨w.heap.size, 1, none⟩ 0 0 (iv []) rfl rfl K8.out k3 (by unfold maxLen; omega) (by omega) k6 ?_)
    intro v' w3 hown' hgrow _
    have hB3 : Below w.heap.size w w3 := B0.grown hgrow (by simp) (fun j hj => by have := (k0.lt j hj).1; omega)
    have K7 := Lib.hid (own_ls (l := []) (by simpa using hown') rfl)
    clear hown' hgrow
    go_wp2_with fail
    go_ret
    obtain ⟨a, cap, rfl, h3, h4⟩ := K7.out
    exact ⟨a, cap, rfl, h3, h4, hB3⟩
  · have q1 : ¬ n = 15 := by omega
    have q2 : ¬ 15 = n := by omega
    have q3 : ¬ 15 - n = 0 := by omega
    have q4 : (n : Int) < 15 := by omega
    have q5 : 0 < 15 - n := by omega
    go_enter Try.func11, Try.ntmps11
    go_wp2_with (at_builtin; refine wpList_append_own _ rfl _ _ 23 rfl (w.heap.size + 1) 3 i0 (.int .i64 0) 1 8 Try.underlying23 hi hz0 hz1 hz2 rfl (by decide) _ 0 [] rfl k0 ⟨w.heap.size, 1 + n, none⟩ (15 - n) (15 - n) (iv (l.drop n)) rfl k1 K2.out k3 k4 k5 k6 ?_)
    intro v' w3 hown' hgrow _
    have hB3 : Below w.heap.size w w3 := B0.grown hgrow (by simp) (fun j hj => by have := (k0.lt j hj).1; omega)
    have K7 := Lib.hid (own_ls (l := l.drop n) (by simpa using hown') hll)
    clear hown' hgrow
    go_wp2_with fail
    go_ret
    obtain ⟨a, cap, rfl, h3, h4⟩ := K7.out
    exact ⟨a, cap, rfl, h3, h4, hB3⟩
theorem iv_append (a b : List Nat) : iv (a ++ b) = iv a ++ iv b := by simp [iv]
theorem wrd_mk {n m : Nat} {l : List Nat} (h : Wrd n l) (hm : m < 16) : Wrd m l := ⟨hm, h.len, h.dig⟩
end Go.Proofs.Ytochdmdojcfceaa
