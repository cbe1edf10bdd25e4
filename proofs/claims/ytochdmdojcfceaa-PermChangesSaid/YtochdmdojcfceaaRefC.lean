/- The reference's At, by a contract. -/
import Derived.Test.YtochdmdojcfceaaRefB
namespace Go.Proofs.Ytochdmdojcfceaa
open Go.ChangeShapes Go.WideShapes Go.ChangeAt Go.RowKit Go.Shelf
open PM
set_option linter.unusedVariables false
set_option linter.unusedSimpArgs false

theorem rdV_uni (n : Nat) (l : List Nat) : ∃ l', rdV n l = pvl (cV n l) l' ∧ (okB l = true → l' = l ∧ cV n l = n) ∧ (okB l = false → cV n l = 0) := by
  unfold rdV cV
  cases okB l
  · exact ⟨[], rfl, fun h => absurd h (by simp), fun _ => rfl⟩
  · exact ⟨l, rfl, fun _ => ⟨rfl, rfl⟩, fun h => absurd h (by simp)⟩
set_option maxRecDepth 100000 in
set_option maxHeartbeats 600000 in
theorem rat_law (n : Nat) (l : List Nat) (i : Int) (h : Wrd n l) (w : World) :
    Calls Try.prog 13 #[.int .u64 ((enc (n :: l) : Nat) : Int), .int .i64 i] w fun e w' => e = .returned (.tuple #[.int .i64 ((atV n l i).1 : Nat), .int .i64 (atV n l i).2]) ∧ Below w.heap.size w w' := by
  have HW := Lib.hid h
  have h15 : cV n l ≤ 15 := cV_le h
  obtain ⟨l', hrd, hok, hno⟩ := rdV_uni n l
  obtain ⟨c, hc⟩ : ∃ c, cV n l = c := ⟨_, rfl⟩
  rw [hc] at hrd hok hno h15
  obtain ⟨o, ho⟩ : ∃ o, okB l = o := ⟨_, rfl⟩
  rw [ho] at hok hno
  have HRD := Lib.hid hrd
  have HOK := Lib.hid hok
  have HO := Lib.hid ho
  have HC := Lib.hid hc
  clear h hrd hok ho hc
  go_enter Try.func13, Try.ntmps13
  go_wp2_with fail
  refine (read_law n l HW.out w).mono ?_; rintro e w1 ⟨rfl, B⟩
  rw [HRD.out, HO.out]
  have P1 := pb_new w1 0
  simp only [Int.ofNat_zero, Int.natCast_zero] at P1
  have HTH := Lib.hid (P1.there (pvl c l').toArray (pvl_size _ _))
  have HONE := Lib.hid (all_oneCell_toArray (pvl_one c l'))
  have HINF := Lib.hid (info27a c l')
  have HS := Lib.hid (show ∃ W2, World.setCells (w1.alloc (.cells #[.int .i64 0, .int .i64 0, .int .i64 0, .int .i64 0, .int .i64 0, .int .i64 0, .int .i64 0, .int .i64 0, .int .i64 0, .int .i64 0, .int .i64 0, .int .i64 0, .int .i64 0, .int .i64 0, .int .i64 0, .int .i64 0] 27)) w1.heap.size 0 (pvl c l') = W2 ∧ PB W2 w1.heap.size c l' ∧ Below w.heap.size w W2 from ⟨_, rfl, P1.stored c l', below_setCells _ B.size _ _ _ (B.alloc B.size _)⟩)
  clear P1
  rcases (show o = false ∨ o = true by cases o <;> simp) with e | e
  · subst e
    have hz := Lib.hid (hno rfl)
    clear hno
    go_wp2_with (refine wpList_store_mid rfl 27 (.tmp 6) (.tmp 11) rfl w1.heap.size 0 (pvl c l').toArray rfl rfl HTH.out HINF.out HONE.out ?_; obtain ⟨W2, hW2, P2, B2⟩ := HS.out; (first | rw [hW2] | (change wpList _ _ _ _ _ (World.setCells _ _ _ (pvl c l')); rw [hW2])); clear hW2; have c0 := P2.c0; skip)
    go_ret2
    refine ⟨?_, by assumption⟩
    rw [atV, if_neg (by rw [HC.out, hz.out]; omega)]; rfl
  · subst e
    obtain ⟨e1, e2⟩ := HOK.out rfl
    have E1 := Lib.hid e1
    have E2 := Lib.hid e2
    clear hno e1 e2
    rcases (show i < 0 ∨ (0 ≤ i ∧ c ≤ i) ∨ (0 ≤ i ∧ i < c) by omega) with q | ⟨q0, q⟩ | ⟨q0, q⟩
    · go_wp2_with (refine wpList_store_mid rfl 27 (.tmp 6) (.tmp 11) rfl w1.heap.size 0 (pvl c l').toArray rfl rfl HTH.out HINF.out HONE.out ?_; obtain ⟨W2, hW2, P2, B2⟩ := HS.out; (first | rw [hW2] | (change wpList _ _ _ _ _ (World.setCells _ _ _ (pvl c l')); rw [hW2])); clear hW2; have c0 := P2.c0; skip)
      go_ret2
      refine ⟨?_, by assumption⟩
      rw [atV, if_neg (by rw [HC.out]; omega)]; rfl
    · have q1 : ¬ i < 0 := by omega
      go_wp2_with (refine wpList_store_mid rfl 27 (.tmp 6) (.tmp 11) rfl w1.heap.size 0 (pvl c l').toArray rfl rfl HTH.out HINF.out HONE.out ?_; obtain ⟨W2, hW2, P2, B2⟩ := HS.out; (first | rw [hW2] | (change wpList _ _ _ _ _ (World.setCells _ _ _ (pvl c l')); rw [hW2])); clear hW2; have c0 := P2.c0; skip)
      go_ret2
      refine ⟨?_, by assumption⟩
      rw [atV, if_neg (by rw [HC.out]; omega)]; rfl
    · obtain ⟨k, rfl⟩ : ∃ k : Nat, i = k := ⟨i.toNat, by omega⟩
      have q1 : ¬ (k : Int) < 0 := by omega
      have q2 : ¬ (c : Int) ≤ k := by omega
      have q3 : (k : Int) < 15 := by omega
      have q4 : k < 15 := by omega
      obtain ⟨x, hx⟩ : ∃ x, l'.getD k 0 = x := ⟨_, rfl⟩
      have HX := Lib.hid hx
      clear hx
      go_wp2_with (refine wpList_store_mid rfl 27 (.tmp 6) (.tmp 11) rfl w1.heap.size 0 (pvl c l').toArray rfl rfl HTH.out HINF.out HONE.out ?_; obtain ⟨W2, hW2, P2, B2⟩ := HS.out; (first | rw [hW2] | (change wpList _ _ _ _ _ (World.setCells _ _ _ (pvl c l')); rw [hW2])); clear hW2; have c0 := P2.c0; have cx := P2.cell k q4; rw [HX.out] at cx)
      go_ret2
      refine ⟨?_, by assumption⟩
      rw [atV, if_pos (by rw [HC.out]; omega), Int.toNat_natCast, ← E1.out, HX.out]; rfl
end Go.Proofs.Ytochdmdojcfceaa
