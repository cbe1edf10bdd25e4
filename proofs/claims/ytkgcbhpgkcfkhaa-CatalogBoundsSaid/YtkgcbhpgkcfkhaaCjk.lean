/- The reference's Tree, by contracts. -/
import Derived.Test.YtkgcbhpgkcfkhaaCji
namespace Go.Proofs.Ytkgcbhpgkcfkhaa
open Go.ChangeShapes Go.WideShapes Go.ChangeAt Go.RowKit Go.Shelf
set_option linter.unusedVariables false
set_option linter.unusedSimpArgs false

theorem idx_split (l : List (Int × Int)) (k : Nat) (q : Int × Int) (h : l[k]? = some q) : idx 0 l = idx 0 (l.take k) ++ [(k, q.1, q.2)] ++ idx (k + 1) (l.drop (k + 1)) := by
  obtain ⟨hk, e⟩ := List.getElem?_eq_some_iff.1 h
  have e1 : l = l.take k ++ (q :: l.drop (k + 1)) := by rw [← e, ← List.drop_eq_getElem_cons hk, List.take_append_drop]
  conv => lhs; rw [e1]
  rw [idx_append, idx, List.length_take, Nat.min_eq_left (by omega), Nat.zero_add]
  simp
theorem idx_mem : ∀ (l : List (Int × Int)) (s : Nat) (x : Tr), x ∈ idx s l → ∃ i, l[i]? = some (x.2.1, x.2.2) ∧ x.1 = s + i
  | [], s, x, h => by simp [idx] at h
  | p :: r, s, x, h => by
    rcases List.mem_cons.1 h with e | h
    · subst e; exact ⟨0, by simp, by simp⟩
    · obtain ⟨i, h1, h2⟩ := idx_mem r (s + 1) x h
      exact ⟨i + 1, by simpa using h1, by omega⟩
theorem trV_at (j : Job) (a b : Int) (k : Nat) (h : (named j)[k]? = some (a, b)) (hno : ∀ i < k, (named j)[i]? ≠ some (a, b)) : trV j a b = ((k : Int), a, b, true) := by
  unfold trV
  rw [idx_split _ _ _ h]
  refine firstV_some (by simp) fun y hy => ?_
  obtain ⟨i, h1, h2⟩ := idx_mem _ _ _ hy
  rw [decide_eq_false_iff_not]
  rintro ⟨e1, e2⟩
  rw [e1, e2] at h1
  rw [List.getElem?_take] at h1
  split at h1
  · exact hno i (by omega) h1
  · cases h1
theorem trV_none (j : Job) (a b : Int) (hno : ∀ i < (named j).length, (named j)[i]? ≠ some (a, b)) : trV j a b = (0, 0, 0, false) := by
  unfold trV
  refine firstV_none fun y hy => ?_
  obtain ⟨i, h1, h2⟩ := idx_mem _ _ _ hy
  rw [decide_eq_false_iff_not]
  rintro ⟨e1, e2⟩
  rw [e1, e2] at h1
  exact hno i (List.getElem?_eq_some_iff.1 h1).1 h1
set_option maxRecDepth 100000 in
set_option maxHeartbeats 4000000 in
theorem qtree_law (j : Job) (a b : Int) (w : World) (hj : JobAt w j) :
    Calls Try.prog 41 #[.agg #[.int .i64 j.w, .int .i64 j.l, .int .i64 j.d, .int .i64 j.c, .int .i64 j.k, .int .i64 j.e, .slice j.a j.n j.cap], .int .i64 a, .int .i64 b] w fun r w' => r = .returned (.tuple #[.int .i64 (trV j a b).1, .int .i64 (if (trV j a b).2.2.2 then 0 else 2)]) ∧ Below w.heap.size w w' := by
  have HJ := Lib.hid hj
  have hnl := named_len j (by have := hj.len; omega)
  have HA := Lib.hid (trV_at j a b)
  have HN := Lib.hid (trV_none j a b)
  clear hj
  have hQ := Lib.hid (fun (k : Nat) (h : trV j a b = ((k : Int), a, b, true)) => show Value.tuple #[.int .i64 (k : Int), .int .i64 0] = .tuple #[.int .i64 (trV j a b).1, .int .i64 (if (trV j a b).2.2.2 then 0 else 2)] by rw [h]; rfl)
  have hQ0 := Lib.hid (fun (h : trV j a b = (0, 0, 0, false)) => show Value.tuple #[.int .i64 0, .int .i64 2] = .tuple #[.int .i64 (trV j a b).1, .int .i64 (if (trV j a b).2.2.2 then 0 else 2)] by rw [h]; rfl)
  obtain ⟨T, hT⟩ : ∃ T, Value.tuple #[.int .i64 (trV j a b).1, .int .i64 (if (trV j a b).2.2.2 then 0 else 2)] = T := ⟨_, rfl⟩
  rw [hT] at hQ hQ0 ⊢
  clear hT
  go_enter Try.func41, Try.ntmps41
  go_wp2_with fail
  have hB1 : Below w.heap.size w (w.alloc (.cells #[.int .i64 j.w, .int .i64 j.l, .int .i64 j.d, .int .i64 j.c, .int .i64 j.k, .int .i64 j.e, .slice j.a j.n j.cap] 53)) := (Below.refl _ _).alloc (Nat.le_refl _) _
  generalize w.alloc (.cells #[.int .i64 j.w, .int .i64 j.l, .int .i64 j.d, .int .i64 j.c, .int .i64 j.k, .int .i64 j.e, .slice j.a j.n j.cap] 53) = W1 at hB1 ⊢
  refine (qnamed_law j _ (HJ.out.below hB1)).mono ?_
  rintro e W2 ⟨⟨v, rfl, hown⟩, B2⟩
  obtain ⟨la, lc, rfl, hR⟩ := own_nmr hown rfl
  have HB2 := Lib.hid (step_below hB1 B2)
  have HR := Lib.hid hR
  clear hown B2 hB1 hR
  generalize named j = l at HR hnl HA HN
  obtain ⟨n, hn⟩ : ∃ n, l.length = n := ⟨_, rfl⟩
  rw [hn] at hnl HN ⊢
  have HLN := Lib.hid hn
  have hni : (n : Int) ≤ 12 := by omega
  clear hn
  go_wp2_with fail
  go_loopw [9] (fun i wr => ∃ k : Nat, k ≤ n ∧ i = .int .i64 (k : Int) ∧ Hid (∀ i < k, l[i]? ≠ some (a, b)) ∧ wr = W2) (fun i _ => n - (intOf i).toNat)
  case atStart => exact ⟨0, by omega, rfl, Lib.hid (fun i hi => absurd hi (by omega)), rfl⟩
  case round =>
    obtain ⟨k, hk, rfl, hno, rfl⟩ := hrel
    by_cases hlt : k < n
    · have hkl : (k : Int) < (n : Int) := by omega
      obtain ⟨p, hp⟩ : ∃ p, l[k]? = some p := ⟨_, List.getElem?_eq_getElem (by rw [HLN.out]; exact hlt)⟩
      obtain ⟨b1, o1, ea, d0, d1⟩ := HR.out k p hp
      obtain ⟨x, y⟩ := p
      simp only at d0 d1
      have HP := Lib.hid hp
      subst ea
      clear hp
      by_cases q1 : x = a
      · have t1 : (x == a) = true := by simpa using q1
        by_cases q2 : y = b
        · have t2 : (y == b) = true := by simpa using q2
          have HV := Lib.hid (HA.out k (by rw [HP.out, q1, q2]) hno.out)
          clear q1 q2
          go_wp2_with fail
          try rw [Exit.noGoto_ret]
          go_ret2
          exact ⟨congrArg Ending.returned (hQ.out k HV.out), HB2.out⟩
        · have t2 : (y == b) = false := by simpa using q2
          have HN2 := Lib.hid (show ∀ i < k + 1, l[i]? ≠ some (a, b) from jstep hno.out (by rw [HP.out]; intro h; simp at h; exact q2 h.2))
          clear q1 q2
          go_wp2_with fail
          go_roundw
          case rel => exact ⟨k + 1, by omega, by go_num, HN2, trivial⟩
          case measure => simp [intOf]; omega
      · have t1 : (x == a) = false := by simpa using q1
        have HN2 := Lib.hid (show ∀ i < k + 1, l[i]? ≠ some (a, b) from jstep hno.out (by rw [HP.out]; intro h; simp at h; exact q1 h.1))
        clear q1
        go_wp2_with fail
        go_roundw
        case rel => exact ⟨k + 1, by omega, by go_num, HN2, trivial⟩
        case measure => simp [intOf]; omega
    · have hkl : ¬ (k : Int) < (n : Int) := by omega
      have HV := Lib.hid (HN.out (fun i hi => hno.out i (by omega)))
      go_wp2_with fail
      try rw [Exit.noGoto_ret]
      go_ret2
      exact ⟨congrArg Ending.returned (hQ0.out HV.out), HB2.out⟩
end Go.Proofs.Ytkgcbhpgkcfkhaa
