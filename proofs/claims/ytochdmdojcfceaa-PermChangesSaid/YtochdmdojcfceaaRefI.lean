/- The reference's Insert, Remove and Cut, by contracts. -/
import Derived.Test.YtochdmdojcfceaaRefH
namespace Go.Proofs.Ytochdmdojcfceaa
open Go.ChangeShapes Go.WideShapes Go.ChangeAt Go.RowKit Go.Shelf
open PM
set_option linter.unusedVariables false
set_option linter.unusedSimpArgs false

set_option maxRecDepth 100000 in
set_option maxHeartbeats 1000000 in
theorem rins_bad (n : Nat) (l : List Nat) (i width : Int) (er : Int) (hbad : (okB l = false ∧ er = 2) ∨ (okB l = true ∧ ((i < 0 ∧ er = 2) ∨ (¬ i < 0 ∧ (n : Int) < i ∧ er = 2) ∨ (¬ i < 0 ∧ ¬ (n : Int) < i ∧ width < 3 ∧ er = 2) ∨ (¬ i < 0 ∧ ¬ (n : Int) < i ∧ ¬ width < 3 ∧ 15 < width ∧ er = 2) ∨ (¬ i < 0 ∧ ¬ (n : Int) < i ∧ ¬ width < 3 ∧ ¬ 15 < width ∧ width ≤ (n : Int) ∧ er = 5)))) (h : Wrd n l) (w : World) :
    Calls Try.prog 26 #[.int .u64 ((enc (n :: l) : Nat) : Int), .int .i64 i, .int .i64 width] w fun e w' => e = .returned (.tuple #[.int .u64 0, .int .i64 0, .int .i64 er]) ∧ Below w.heap.size w w' := by
  have HW := Lib.hid h
  have h15 : cV n l ≤ 15 := cV_le h
  obtain ⟨l', hrd, hok, hno⟩ := rdV_uni n l
  obtain ⟨c, hc⟩ : ∃ c, cV n l = c := ⟨_, rfl⟩
  rw [hc] at hrd hok hno h15
  obtain ⟨o, ho⟩ : ∃ o, okB l = o := ⟨_, rfl⟩
  rw [ho] at hok hno hbad
  have HRD := Lib.hid hrd
  have HO := Lib.hid ho
  have hcn : o = true → c = n := fun h => (hok h).2
  clear h hrd hok ho hc hno
  go_enter Try.func26, Try.ntmps26
  go_wp2_with fail
  refine (read_law n l HW.out w).mono ?_; rintro e w1 ⟨rfl, B⟩
  rw [HRD.out, HO.out]
  have P1 := pb_new w1 0
  simp only [Int.ofNat_zero, Int.natCast_zero] at P1
  have HTH := Lib.hid (P1.there (pvl c l').toArray (pvl_size _ _))
  have HONE := Lib.hid (all_oneCell_toArray (pvl_one c l'))
  have HINF := Lib.hid (info27a c l')
  have HS := Lib.hid (show ∃ W2, World.setCells (w1.alloc (.cells #[.int .i64 0, .int .i64 0, .int .i64 0, .int .i64 0, .int .i64 0, .int .i64 0, .int .i64 0, .int .i64 0, .int .i64 0, .int .i64 0, .int .i64 0, .int .i64 0, .int .i64 0, .int .i64 0, .int .i64 0, .int .i64 0] 27)) w1.heap.size 0 (pvl c l') = W2 ∧ PB W2 w1.heap.size c l' ∧ Below w.heap.size w W2 from ⟨_, rfl, P1.stored c l', below_setCells _ B.size _ _ _ (B.alloc B.size _)⟩)
  clear P1
  rcases hbad with ⟨rfl, rfl⟩ | ⟨rfl, hbad⟩
  · clear hcn
    go_wp2_with (refine wpList_store_mid rfl 27 (.tmp 9) (.tmp 17) rfl w1.heap.size 0 (pvl c l').toArray rfl rfl HTH.out HINF.out HONE.out ?_; obtain ⟨W2, hW2, P2, B2⟩ := HS.out; (first | rw [hW2] | (change wpList _ _ _ _ _ (World.setCells _ _ _ (pvl c l')); rw [hW2])); clear hW2; have c0 := P2.c0; skip)
    go_ret3
    exact ⟨rfl, by assumption⟩
  · have hcn := hcn rfl
    subst hcn
    rcases hbad with ⟨q, rfl⟩ | ⟨q1, q, rfl⟩ | ⟨q1, q2, q, rfl⟩ | ⟨q1, q2, q3, q, rfl⟩ | ⟨q1, q2, q3, q4, q, rfl⟩
    all_goals
      go_wp2_with (refine wpList_store_mid rfl 27 (.tmp 9) (.tmp 17) rfl w1.heap.size 0 (pvl c l').toArray rfl rfl HTH.out HINF.out HONE.out ?_; obtain ⟨W2, hW2, P2, B2⟩ := HS.out; (first | rw [hW2] | (change wpList _ _ _ _ _ (World.setCells _ _ _ (pvl c l')); rw [hW2])); clear hW2; have c0 := P2.c0; skip)
      go_ret3
      exact ⟨rfl, by assumption⟩
set_option maxRecDepth 100000 in
set_option maxHeartbeats 1000000 in
theorem rrem_bad (n : Nat) (l : List Nat) (i : Int) (er : Int) (hbad : (okB l = false ∧ er = 2) ∨ (okB l = true ∧ ((i < 0 ∧ er = 2) ∨ (¬ i < 0 ∧ (n : Int) ≤ i ∧ er = 2)))) (h : Wrd n l) (w : World) :
    Calls Try.prog 28 #[.int .u64 ((enc (n :: l) : Nat) : Int), .int .i64 i] w fun e w' => e = .returned (.tuple #[.int .u64 0, .int .i64 0, .int .i64 er]) ∧ Below w.heap.size w w' := by
  have HW := Lib.hid h
  have h15 : cV n l ≤ 15 := cV_le h
  obtain ⟨l', hrd, hok, hno⟩ := rdV_uni n l
  obtain ⟨c, hc⟩ : ∃ c, cV n l = c := ⟨_, rfl⟩
  rw [hc] at hrd hok hno h15
  obtain ⟨o, ho⟩ : ∃ o, okB l = o := ⟨_, rfl⟩
  rw [ho] at hok hno hbad
  have HRD := Lib.hid hrd
  have HO := Lib.hid ho
  have hcn : o = true → c = n := fun h => (hok h).2
  clear h hrd hok ho hc hno
  go_enter Try.func28, Try.ntmps28
  go_wp2_with fail
  refine (read_law n l HW.out w).mono ?_; rintro e w1 ⟨rfl, B⟩
  rw [HRD.out, HO.out]
  have P1 := pb_new w1 0
  simp only [Int.ofNat_zero, Int.natCast_zero] at P1
  have HTH := Lib.hid (P1.there (pvl c l').toArray (pvl_size _ _))
  have HONE := Lib.hid (all_oneCell_toArray (pvl_one c l'))
  have HINF := Lib.hid (info27a c l')
  have HS := Lib.hid (show ∃ W2, World.setCells (w1.alloc (.cells #[.int .i64 0, .int .i64 0, .int .i64 0, .int .i64 0, .int .i64 0, .int .i64 0, .int .i64 0, .int .i64 0, .int .i64 0, .int .i64 0, .int .i64 0, .int .i64 0, .int .i64 0, .int .i64 0, .int .i64 0, .int .i64 0] 27)) w1.heap.size 0 (pvl c l') = W2 ∧ PB W2 w1.heap.size c l' ∧ Below w.heap.size w W2 from ⟨_, rfl, P1.stored c l', below_setCells _ B.size _ _ _ (B.alloc B.size _)⟩)
  clear P1
  rcases hbad with ⟨rfl, rfl⟩ | ⟨rfl, hbad⟩
  · clear hcn
    go_wp2_with (refine wpList_store_mid rfl 27 (.tmp 7) (.tmp 15) rfl w1.heap.size 0 (pvl c l').toArray rfl rfl HTH.out HINF.out HONE.out ?_; obtain ⟨W2, hW2, P2, B2⟩ := HS.out; (first | rw [hW2] | (change wpList _ _ _ _ _ (World.setCells _ _ _ (pvl c l')); rw [hW2])); clear hW2; have c0 := P2.c0; skip)
    go_ret3
    exact ⟨rfl, by assumption⟩
  · have hcn := hcn rfl
    subst hcn
    rcases hbad with ⟨q, rfl⟩ | ⟨q1, q, rfl⟩
    all_goals
      go_wp2_with (refine wpList_store_mid rfl 27 (.tmp 7) (.tmp 15) rfl w1.heap.size 0 (pvl c l').toArray rfl rfl HTH.out HINF.out HONE.out ?_; obtain ⟨W2, hW2, P2, B2⟩ := HS.out; (first | rw [hW2] | (change wpList _ _ _ _ _ (World.setCells _ _ _ (pvl c l')); rw [hW2])); clear hW2; have c0 := P2.c0; skip)
      go_ret3
      exact ⟨rfl, by assumption⟩
set_option maxRecDepth 100000 in
set_option maxHeartbeats 1000000 in
theorem rcut_bad (n : Nat) (l : List Nat) (i : Int) (er : Int) (hbad : (okB l = false ∧ er = 2) ∨ (okB l = true ∧ ((i < 0 ∧ er = 2) ∨ (¬ i < 0 ∧ (n : Int) < i ∧ er = 2)))) (h : Wrd n l) (w : World) :
    Calls Try.prog 30 #[.int .u64 ((enc (n :: l) : Nat) : Int), .int .i64 i] w fun e w' => e = .returned (.tuple #[.int .u64 0, .slice none 0 0, .int .i64 er]) ∧ Below w.heap.size w w' := by
  have HW := Lib.hid h
  have h15 : cV n l ≤ 15 := cV_le h
  obtain ⟨l', hrd, hok, hno⟩ := rdV_uni n l
  obtain ⟨c, hc⟩ : ∃ c, cV n l = c := ⟨_, rfl⟩
  rw [hc] at hrd hok hno h15
  obtain ⟨o, ho⟩ : ∃ o, okB l = o := ⟨_, rfl⟩
  rw [ho] at hok hno hbad
  have HRD := Lib.hid hrd
  have HO := Lib.hid ho
  have hcn : o = true → c = n := fun h => (hok h).2
  clear h hrd hok ho hc hno
  go_enter Try.func30, Try.ntmps30
  go_wp2_with fail
  refine (read_law n l HW.out w).mono ?_; rintro e w1 ⟨rfl, B⟩
  rw [HRD.out, HO.out]
  have P1 := pb_new w1 0
  simp only [Int.ofNat_zero, Int.natCast_zero] at P1
  have HTH := Lib.hid (P1.there (pvl c l').toArray (pvl_size _ _))
  have HONE := Lib.hid (all_oneCell_toArray (pvl_one c l'))
  have HINF := Lib.hid (info27a c l')
  have HS := Lib.hid (show ∃ W2, World.setCells (w1.alloc (.cells #[.int .i64 0, .int .i64 0, .int .i64 0, .int .i64 0, .int .i64 0, .int .i64 0, .int .i64 0, .int .i64 0, .int .i64 0, .int .i64 0, .int .i64 0, .int .i64 0, .int .i64 0, .int .i64 0, .int .i64 0, .int .i64 0] 27)) w1.heap.size 0 (pvl c l') = W2 ∧ PB W2 w1.heap.size c l' ∧ Below w.heap.size w W2 from ⟨_, rfl, P1.stored c l', below_setCells _ B.size _ _ _ (B.alloc B.size _)⟩)
  clear P1
  rcases hbad with ⟨rfl, rfl⟩ | ⟨rfl, hbad⟩
  · clear hcn
    go_wp2_with (refine wpList_store_mid rfl 27 (.tmp 7) (.tmp 14) rfl w1.heap.size 0 (pvl c l').toArray rfl rfl HTH.out HINF.out HONE.out ?_; obtain ⟨W2, hW2, P2, B2⟩ := HS.out; (first | rw [hW2] | (change wpList _ _ _ _ _ (World.setCells _ _ _ (pvl c l')); rw [hW2])); clear hW2; have c0 := P2.c0; skip)
    go_ret3
    exact ⟨rfl, by assumption⟩
  · have hcn := hcn rfl
    subst hcn
    rcases hbad with ⟨q, rfl⟩ | ⟨q1, q, rfl⟩
    all_goals
      go_wp2_with (refine wpList_store_mid rfl 27 (.tmp 7) (.tmp 14) rfl w1.heap.size 0 (pvl c l').toArray rfl rfl HTH.out HINF.out HONE.out ?_; obtain ⟨W2, hW2, P2, B2⟩ := HS.out; (first | rw [hW2] | (change wpList _ _ _ _ _ (World.setCells _ _ _ (pvl c l')); rw [hW2])); clear hW2; have c0 := P2.c0; skip)
      go_ret3
      exact ⟨rfl, by assumption⟩
end Go.Proofs.Ytochdmdojcfceaa
