/- The program's Needless. -/
import Derived.Test.YtglkndoghnblcaaGreatDoorLpo
import Derived.Test.YtglkndoghnblcaaGreatDoorOkg
namespace Go.Proofs.YtglkndoghnblcaaGreatDoor
open Go.ChangeShapes Go.WideShapes Go.ChangeAt Go.RowKit
set_option linter.unusedVariables false
set_option linter.unusedSimpArgs false
theorem ndL0_len (nm : ByteArray) : (ndL0 nm).length ≤ 4 := by unfold ndL0; split <;> simp
set_option maxRecDepth 100000 in
set_option maxHeartbeats 4000000 in
/-- The program's Needless (17). -/
theorem needless_law (g e f : Int) (nm : ByteArray) (a an : Option Addr) (c cn n p : Nat) (xs : List LpV) (ns : List ByteArray) (hs : nm.size ≤ maxLen) (hsx : ∀ x ∈ xs, x.1.size ≤ maxLen) (hn : xs.length = n) (hp : ns.length = p) (hnm : n ≤ 900000) (hp6 : p ≤ 1000000) (hnc : n ≤ c) (w : World) (ht : TabW w) (hA : LpsR w a xs) (hB : StrR w an ns) :
    Calls Tryz.prog 17 #[.agg #[.int .i64 g, .string nm, .int .i64 e, .int .i64 f, .slice a n c], .slice an p cn] w (NlR w (nlV (manB g e f nm xs) g nm xs ns)) := by
  have HR := Lib.hid hA
  have HRN := Lib.hid hB
  have HN := Lib.hid hn
  have HP := Lib.hid hp
  have HNM := Lib.hid hnm
  have hn6 : n ≤ 1000000 := by omega
  have HM := Lib.hid (fun W (b : Below w.heap.size w W) => mayman_law g e f nm a xs n c hs hsx hn hn6 hnc W (hA.below b))
  have HTB := Lib.hid ht
  clear hA hB hs hsx hn hp hnm ht
  go_enter Tryz.func17, Tryz.ntmps17
  go_upto_region 1 with (fail)
  obtain ⟨W1, hW1⟩ : ∃ W1, w.alloc (.cells #[.int .i64 g, .string nm, .int .i64 e, .int .i64 f, .slice a n c] 39) = W1 := ⟨_, rfl⟩
  have hb1 : Below w.heap.size w W1 := by rw [← hW1]; exact bl1 _ _
  have bx : BoxC W1 w.heap.size #[.int .i64 g, .string nm, .int .i64 e, .int .i64 f, .slice a n c] 39 := by rw [← hW1]; exact BoxC.new w _ 39
  try rw [hW1]
  clear hW1
  have HW1 := Lib.hid hb1
  have HLN := Lib.hid (fun l W (b : Below W1.heap.size W1 W) => logname_law g l W (HTB.out.below (step_below hb1 b)))
  have y0 := bx.cell 0
  have y1 := bx.cell 1
  have y2 := bx.cell 2
  have y3 := bx.cell 3
  have y4 := bx.cell 4
  simp at y0 y1 y2 y3 y4
  clear hb1
  go_wp2_with fail
  refine (HM.out _ HW1.out).mono ?_; rintro r w1 ⟨rfl, hb2⟩
  have HB1 := Lib.hid hb2
  clear hb2 y0 y1 y2 y3 y4
  cases hM : manB g e f nm xs
  · have HOK := Lib.hid hM
    clear hM
    go_wp2_with fail
    go_ret2
    rw [HOK.out]
    exact ⟨⟨none, 0, rfl, fun k x hx => by simp [nlV] at hx⟩, step_below HW1.out HB1.out⟩
  · have HOK := Lib.hid hM
    clear hM
    go_upto_region 4 with (fail)
    obtain ⟨W4, hW4⟩ : ∃ W, w1.alloc (.cells #[.string nMan, .string nDur, .string nDurN] 9) = W := ⟨_, rfl⟩
    have hb4 : Below w1.heap.size w1 W4 := by rw [← hW4]; exact bl1 _ _
    have HB4 := Lib.hid (step_below HB1.out hb4)
    have HO4 := Lib.hid (show W4.ownsRow W1.heap.size 9 1 (.slice (some ⟨w1.heap.size, 0, none⟩) 3 3) 3 (sv [nMan, nDur, nDurN]) by rw [← hW4]; exact World.ownsRow_lit w1 #[.string nMan, .string nDur, .string nDurN] 3 HB1.out.size (by unfold maxLen; omega) rfl)
    have hW4' := hW4
    unfold nMan nDur nDurN at hW4'
    try rw [hW4']
    clear hW4 hW4' hb4
    have b1 := (bx.below HB4.out).cell 1
    simp at b1
    cases hE : eqE nm
    · have hE2 : nm.toList.isEmpty = false := hE
      have HNL := Lib.hid (show (3 : Nat) ≤ 1000010 by omega)
      have HZ4 := Lib.hid HB4.out.size
      have HE := Lib.hid hE
      clear hE
      go_upto_region 6 with (at_builtin; refine append_str rfl (.tmp 22) (.tmp 25) rfl W1.heap.size _ 3 [nMan, nDur, nDurN] rfl (HO4.out.alloc _) W4.heap.size nm rfl (by simp [go_sem]) (by omega) (by have := HZ4.out; simp; omega) ?_; intro a8 c8 w8 hown8 hgrow8; have HO0 := Lib.hid hown8; have HB0 := Lib.hid ((HB4.out.alloc HZ4.out _).grown hgrow8 (by have := HZ4.out; simp; omega) (fun j hj => (HO4.out.lt j hj).1)); clear hown8 hgrow8)
      clear b1 hE2
      have HD0 := Lib.hid (show [nMan, nDur, nDurN] ++ [nm] = ndL0 nm from by unfold ndL0; rw [HE.out]; rfl)
      go_upto_region 6 with (fail)
      have b4 := (bx.below HB0.out).cell 4
      simp at b4
      go_wp2_with fail
      clear b4
      go_loopw [6, 30] (fun v i wr => ∃ (k : Nat), k ≤ n ∧ i = .int .i64 (k : Int) ∧ Hid (wr.ownsRow W1.heap.size 9 1 v (ndL0 nm ++ (xs.take k).map Prod.fst).length (sv (ndL0 nm ++ (xs.take k).map Prod.fst))) ∧ Hid (Below W1.heap.size W1 wr)) (fun _ i _ => n - (intOf i).toNat)
      case atStart => exact ⟨0, Nat.zero_le _, rfl, Lib.hid (by rw [List.take_zero, List.map_nil, List.append_nil, ← HD0.out]; exact HO0.out), HB0⟩
      case round =>
        clear HO0 HB0
        obtain ⟨k, hk, rfl, HO, HBW⟩ := hrel
        by_cases hlt : k < n
        · have d1 : (k : Int) < (n : Int) := by omega
          obtain ⟨x, hx⟩ : ∃ x, xs[k]? = some x := ⟨_, List.getElem?_eq_getElem (by rw [HN.out]; exact hlt)⟩
          have HT := Lib.hid (take_fst hx)
          obtain ⟨b1, o1, e1, y0, y1⟩ := (HR.out.below (step_below HW1.out HBW.out)) k x hx
          subst e1
          obtain ⟨xn, hxn⟩ : ∃ z, x.1 = z := ⟨_, rfl⟩
          obtain ⟨xt, hxt⟩ : ∃ z, x.2 = z := ⟨_, rfl⟩
          rw [hxn] at y0 HT
          rw [hxt] at y1
          clear hx hxn hxt
          obtain ⟨L, hL⟩ : ∃ l, ndL0 nm ++ (xs.take k).map Prod.fst = l := ⟨_, rfl⟩
          have HL := Lib.hid hL
          have HNL := Lib.hid (show L.length ≤ 1000010 by rw [← hL, List.length_append, List.length_map, List.length_take]; have := ndL0_len nm; omega)
          rw [hL] at HO
          clear hL
          go_upto_region 9 with (fail)
          obtain ⟨W6, hW6⟩ : ∃ W6, wr.alloc (.cells #[.string xn, .int .i64 xt] 42) = W6 := ⟨_, rfl⟩
          have hb6 : Below wr.heap.size wr W6 := by rw [← hW6]; exact bl1 _ _
          have bp6 : BoxC W6 wr.heap.size #[.string xn, .int .i64 xt] 42 := by rw [← hW6]; exact BoxC.new _ _ _
          try rw [hW6]
          clear hW6 y0 y1
          have y0 := bp6.cell 0
          simp at y0
          have HB6 := Lib.hid hb6
          have HO6 := Lib.hid (own_below HO.out hb6)
          have HZ6 := Lib.hid (show W1.heap.size ≤ W6.heap.size from Nat.le_trans HBW.out.size hb6.size)
          clear hb6 bp6
          go_wp2_with (at_builtin; refine append_str rfl (.tmp 34) (.tmp 37) rfl W1.heap.size _ L.length L rfl (HO6.out.alloc _) W6.heap.size xn rfl (by simp [go_sem]) (by have := HNL.out; omega) (by have := HZ6.out; simp; omega) ?_; intro a8 c8 w8 hown8 hgrow8; have HO8 := Lib.hid hown8; have HB8 := Lib.hid (((step_below HBW.out (HB6.out.mono (Nat.le_refl _))).alloc HZ6.out _).grown hgrow8 (by have := HZ6.out; simp; omega) (fun j hj => (HO.out.lt j hj).1)); clear hown8 hgrow8)
          go_roundw
          case rel =>
            refine ⟨k + 1, by omega, by go_num, Lib.hid ?_, HB8⟩
            rw [HT.out, ← List.append_assoc, HL.out, List.length_append, List.length_singleton]
            exact HO8.out
          case measure => simp [intOf]; omega
        · have d1 : ¬ (k : Int) < (n : Int) := by omega
          rw [List.take_of_length_le (show xs.length ≤ k by rw [HN.out]; omega)] at HO
          go_wp2_with fail
          have HL := Lib.hid (show ndL1 nm xs = ndL0 nm ++ xs.map Prod.fst from rfl)
          rw [← HL.out] at HO
          have HNL := Lib.hid (show (ndL1 nm xs).length ≤ 1000010 by rw [HL.out, List.length_append, List.length_map, HN.out]; have := ndL0_len nm; omega)
          obtain ⟨Wq, rfl⟩ : ∃ W, W = wr := ⟨_, rfl⟩
          go_loopw [6, 40] (fun v i wr => ((i = .int .i64 0 ∧ Hid (wr.ownsRow W1.heap.size 9 1 v (ndL1 nm xs).length (sv (ndL1 nm xs)))) ∨ (i = .int .i64 1 ∧ Hid (wr.ownsRow W1.heap.size 9 1 v ((ndL1 nm xs).length + 1) (sv (ndL1 nm xs ++ [lnS g 0])))) ∨ (i = .int .i64 2 ∧ Hid (wr.ownsRow W1.heap.size 9 1 v ((ndL1 nm xs).length + 1 + 1) (sv (ndL g nm xs))))) ∧ Hid (Below W1.heap.size W1 wr)) (fun _ i _ => 2 - (intOf i).toNat)
          case atStart => exact ⟨.inl ⟨rfl, HO⟩, HBW⟩
          case round =>
            clear HO HBW
            obtain ⟨hd, HBW⟩ := hrel
            have b0 := (bx.below HBW.out).cell 0
            simp at b0
            have HZ6 := Lib.hid HBW.out.size
            rcases hd with ⟨rfl, HO⟩ | ⟨rfl, HO⟩ | ⟨rfl, HO⟩
            · go_upto_region 14 with (fail)
              go_wp2_with fail
              refine (HLN.out 0 _ HBW.out).mono ?_; rintro r w7 ⟨rfl, hb7⟩
              have HO7 := Lib.hid (own_below HO.out hb7)
              have HB7 := Lib.hid (step_below HBW.out hb7)
              have HZ7 := Lib.hid (Nat.le_trans HZ6.out hb7.size)
              clear hb7 b0
              go_wp2_with (at_builtin; refine append_str rfl (.tmp 50) (.tmp 52) rfl W1.heap.size _ (ndL1 nm xs).length (ndL1 nm xs) rfl (HO7.out.alloc _) _ (lnS g 0) rfl (by simp [go_sem]) (by have := HNL.out; omega) (by have := HZ7.out; simp; omega) ?_; intro a8 c8 w8 hown8 hgrow8; have HO8 := Lib.hid hown8; have HB8 := Lib.hid ((HB7.out.alloc HZ7.out _).grown hgrow8 (by have := HZ7.out; simp; omega) (fun j hj => (HO7.out.lt j hj).1)); clear hown8 hgrow8)
              go_roundw
              case rel => exact ⟨.inr (.inl ⟨by go_num, HO8⟩), HB8⟩
              case measure => simp [intOf]
            · go_upto_region 14 with (fail)
              go_wp2_with fail
              refine (HLN.out 1 _ HBW.out).mono ?_; rintro r w7 ⟨rfl, hb7⟩
              have HO7 := Lib.hid (own_below HO.out hb7)
              have HB7 := Lib.hid (step_below HBW.out hb7)
              have HZ7 := Lib.hid (Nat.le_trans HZ6.out hb7.size)
              clear hb7 b0
              go_wp2_with (at_builtin; refine append_str rfl (.tmp 50) (.tmp 52) rfl W1.heap.size _ ((ndL1 nm xs).length + 1) (ndL1 nm xs ++ [lnS g 0]) rfl (HO7.out.alloc _) _ (lnS g 1) rfl (by simp [go_sem]) (by have := HNL.out; omega) (by have := HZ7.out; simp; omega) ?_; intro a8 c8 w8 hown8 hgrow8; have HO8 := Lib.hid hown8; have HB8 := Lib.hid ((HB7.out.alloc HZ7.out _).grown hgrow8 (by have := HZ7.out; simp; omega) (fun j hj => (HO7.out.lt j hj).1)); clear hown8 hgrow8)
              go_roundw
              case rel => exact ⟨.inr (.inr ⟨by go_num, HO8⟩), HB8⟩
              case measure => simp [intOf]
            · clear b0
              go_wp2_with fail
              have HLE := Lib.hid (show (ndL g nm xs).length = (ndL1 nm xs).length + 1 + 1 by unfold ndL; rw [List.length_append, List.length_append]; rfl)
              rw [← HLE.out] at HO
              obtain ⟨a6, c6, rfl⟩ := own_form HO.out
              have HND := Lib.hid (fun s => (show Lib.containsS (ndL g nm xs) s = ndB g nm xs s from rfl))
              have HNL6 := Lib.hid (show (ndL g nm xs).length ≤ 1000000 by rw [HLE.out]; have := HNM.out; rw [HL.out, List.length_append, List.length_map, HN.out]; have := ndL0_len nm; omega)
              obtain ⟨W2, rfl⟩ : ∃ W, W = wr := ⟨_, rfl⟩
              have HSR := Lib.hid (strs_own HO.out rfl)
              obtain ⟨DL, hDL⟩ : ∃ l, ndL g nm xs = l := ⟨_, rfl⟩
              rw [hDL] at HSR HND HNL6 ⊢
              obtain ⟨dn, hdn⟩ : ∃ l, DL.length = l := ⟨_, rfl⟩
              rw [hdn]
              have HDN := Lib.hid hdn
              have HCT := Lib.hid (fun s W (b : Below W2.heap.size W2 W) => contains_strs a6 DL dn c6 HDN.out (by rw [← HDN.out]; exact HNL6.out) s W (HSR.out.below b))
              clear hDL hdn
              go_wp2_with fail
              go_loopw [12, 57] (fun v i wr => ∃ (k : Nat), k ≤ p ∧ i = .int .i64 (k : Int) ∧ Hid (wr.ownsRow W2.heap.size 9 1 v (flK g nm xs ns k).length (sv (flK g nm xs ns k))) ∧ Hid (Below W2.heap.size W2 wr)) (fun _ i _ => p - (intOf i).toNat)
              case atStart => exact ⟨0, Nat.zero_le _, rfl, Lib.hid (World.ownsRow_nil _ _ _ _), Lib.hid (Below.refl _ _)⟩
              case round =>
                obtain ⟨k, hk, rfl, HO3, HB3⟩ := hrel
                by_cases hlt : k < p
                · have d1 : (k : Int) < (p : Int) := by omega
                  obtain ⟨x, hx⟩ : ∃ x, ns[k]? = some x := ⟨_, List.getElem?_eq_getElem (by rw [HP.out]; exact hlt)⟩
                  have HX := Lib.hid hx
                  obtain ⟨b1, o1, e1, y0⟩ := (HRN.out.below (step_below HW1.out (step_below HBW.out HB3.out))) k x hx
                  subst e1
                  have HNL3 := Lib.hid (show (flK g nm xs ns k).length ≤ 1000000 from Nat.le_trans (flK_len _ _ _ _ _) (by rw [HP.out]; exact hp6))
                  have HZ3 := Lib.hid HB3.out.size
                  clear hx
                  go_wp2_with fail
                  refine (HCT.out x _ HB3.out).mono ?_; rintro r w7 ⟨rfl, rfl⟩
                  rw [HND.out]
                  cases hB : ndB g nm xs x
                  · have HKP := Lib.hid (flK_yes HX.out hB)
                    clear hB
                    go_wp2_with (at_builtin; refine append_str rfl (.tmp 65) (.tmp 67) rfl W2.heap.size _ _ _ rfl (HO3.out.alloc _) _ x rfl (by simp [go_sem]) (by have := HNL3.out; omega) (by have := HZ3.out; simp; omega) ?_; intro a8 c8 w8 hown8 hgrow8; have HO8 := Lib.hid hown8; have HB8 := Lib.hid ((HB3.out.alloc HZ3.out _).grown hgrow8 (by have := HZ3.out; simp; omega) (fun j hj => (HO3.out.lt j hj).1)); clear hown8 hgrow8)
                    go_roundw
                    case rel =>
                      refine ⟨k + 1, by omega, by go_num, Lib.hid ?_, HB8⟩
                      rw [HKP.out, List.length_append, List.length_singleton]
                      exact HO8.out
                    case measure => simp [intOf]; omega
                  · have HKP := Lib.hid (flK_no HX.out hB)
                    clear hB
                    go_wp2_with fail
                    go_roundw
                    case rel =>
                      refine ⟨k + 1, by omega, by go_num, Lib.hid ?_, HB3⟩
                      rw [HKP.out]
                      exact HO3.out
                    case measure => simp [intOf]; omega
                · have d1 : ¬ (k : Int) < (p : Int) := by omega
                  have HAL := Lib.hid (flK_all (g := g) (nm := nm) (xs := xs) (ns := ns) (k := k) (by rw [HP.out]; omega))
                  obtain ⟨a9, c9, rfl⟩ := own_form HO3.out
                  have HS3 := Lib.hid (strs_own HO3.out rfl)
                  rw [HAL.out] at HS3 ⊢
                  have HBF := Lib.hid (step_below HW1.out (step_below HBW.out HB3.out))
                  go_wp2_with fail
                  go_ret2
                  rw [HOK.out]
                  exact ⟨⟨a9, c9, rfl, HS3.out⟩, HBF.out⟩
    · have hE2 : nm.toList.isEmpty = true := hE
      have HE := Lib.hid hE
      have HO0 := HO4
      have HB0 := HB4
      clear hE
      go_upto_region 6 with (fail)
      clear b1 hE2
      have HD0 := Lib.hid (show [nMan, nDur, nDurN] = ndL0 nm from by unfold ndL0; rw [HE.out]; rfl)
      go_upto_region 6 with (fail)
      have b4 := (bx.below HB0.out).cell 4
      simp at b4
      go_wp2_with fail
      clear b4
      go_loopw [6, 30] (fun v i wr => ∃ (k : Nat), k ≤ n ∧ i = .int .i64 (k : Int) ∧ Hid (wr.ownsRow W1.heap.size 9 1 v (ndL0 nm ++ (xs.take k).map Prod.fst).length (sv (ndL0 nm ++ (xs.take k).map Prod.fst))) ∧ Hid (Below W1.heap.size W1 wr)) (fun _ i _ => n - (intOf i).toNat)
      case atStart => exact ⟨0, Nat.zero_le _, rfl, Lib.hid (by rw [List.take_zero, List.map_nil, List.append_nil, ← HD0.out]; exact HO0.out), HB0⟩
      case round =>
        clear HO0 HB0
        obtain ⟨k, hk, rfl, HO, HBW⟩ := hrel
        by_cases hlt : k < n
        · have d1 : (k : Int) < (n : Int) := by omega
          obtain ⟨x, hx⟩ : ∃ x, xs[k]? = some x := ⟨_, List.getElem?_eq_getElem (by rw [HN.out]; exact hlt)⟩
          have HT := Lib.hid (take_fst hx)
          obtain ⟨b1, o1, e1, y0, y1⟩ := (HR.out.below (step_below HW1.out HBW.out)) k x hx
          subst e1
          obtain ⟨xn, hxn⟩ : ∃ z, x.1 = z := ⟨_, rfl⟩
          obtain ⟨xt, hxt⟩ : ∃ z, x.2 = z := ⟨_, rfl⟩
          rw [hxn] at y0 HT
          rw [hxt] at y1
          clear hx hxn hxt
          obtain ⟨L, hL⟩ : ∃ l, ndL0 nm ++ (xs.take k).map Prod.fst = l := ⟨_, rfl⟩
          have HL := Lib.hid hL
          have HNL := Lib.hid (show L.length ≤ 1000010 by rw [← hL, List.length_append, List.length_map, List.length_take]; have := ndL0_len nm; omega)
          rw [hL] at HO
          clear hL
          go_upto_region 9 with (fail)
          obtain ⟨W6, hW6⟩ : ∃ W6, wr.alloc (.cells #[.string xn, .int .i64 xt] 42) = W6 := ⟨_, rfl⟩
          have hb6 : Below wr.heap.size wr W6 := by rw [← hW6]; exact bl1 _ _
          have bp6 : BoxC W6 wr.heap.size #[.string xn, .int .i64 xt] 42 := by rw [← hW6]; exact BoxC.new _ _ _
          try rw [hW6]
          clear hW6 y0 y1
          have y0 := bp6.cell 0
          simp at y0
          have HB6 := Lib.hid hb6
          have HO6 := Lib.hid (own_below HO.out hb6)
          have HZ6 := Lib.hid (show W1.heap.size ≤ W6.heap.size from Nat.le_trans HBW.out.size hb6.size)
          clear hb6 bp6
          go_wp2_with (at_builtin; refine append_str rfl (.tmp 34) (.tmp 37) rfl W1.heap.size _ L.length L rfl (HO6.out.alloc _) W6.heap.size xn rfl (by simp [go_sem]) (by have := HNL.out; omega) (by have := HZ6.out; simp; omega) ?_; intro a8 c8 w8 hown8 hgrow8; have HO8 := Lib.hid hown8; have HB8 := Lib.hid (((step_below HBW.out (HB6.out.mono (Nat.le_refl _))).alloc HZ6.out _).grown hgrow8 (by have := HZ6.out; simp; omega) (fun j hj => (HO.out.lt j hj).1)); clear hown8 hgrow8)
          go_roundw
          case rel =>
            refine ⟨k + 1, by omega, by go_num, Lib.hid ?_, HB8⟩
            rw [HT.out, ← List.append_assoc, HL.out, List.length_append, List.length_singleton]
            exact HO8.out
          case measure => simp [intOf]; omega
        · have d1 : ¬ (k : Int) < (n : Int) := by omega
          rw [List.take_of_length_le (show xs.length ≤ k by rw [HN.out]; omega)] at HO
          go_wp2_with fail
          have HL := Lib.hid (show ndL1 nm xs = ndL0 nm ++ xs.map Prod.fst from rfl)
          rw [← HL.out] at HO
          have HNL := Lib.hid (show (ndL1 nm xs).length ≤ 1000010 by rw [HL.out, List.length_append, List.length_map, HN.out]; have := ndL0_len nm; omega)
          obtain ⟨Wq, rfl⟩ : ∃ W, W = wr := ⟨_, rfl⟩
          go_loopw [6, 40] (fun v i wr => ((i = .int .i64 0 ∧ Hid (wr.ownsRow W1.heap.size 9 1 v (ndL1 nm xs).length (sv (ndL1 nm xs)))) ∨ (i = .int .i64 1 ∧ Hid (wr.ownsRow W1.heap.size 9 1 v ((ndL1 nm xs).length + 1) (sv (ndL1 nm xs ++ [lnS g 0])))) ∨ (i = .int .i64 2 ∧ Hid (wr.ownsRow W1.heap.size 9 1 v ((ndL1 nm xs).length + 1 + 1) (sv (ndL g nm xs))))) ∧ Hid (Below W1.heap.size W1 wr)) (fun _ i _ => 2 - (intOf i).toNat)
          case atStart => exact ⟨.inl ⟨rfl, HO⟩, HBW⟩
          case round =>
            clear HO HBW
            obtain ⟨hd, HBW⟩ := hrel
            have b0 := (bx.below HBW.out).cell 0
            simp at b0
            have HZ6 := Lib.hid HBW.out.size
            rcases hd with ⟨rfl, HO⟩ | ⟨rfl, HO⟩ | ⟨rfl, HO⟩
            · go_upto_region 14 with (fail)
              go_wp2_with fail
              refine (HLN.out 0 _ HBW.out).mono ?_; rintro r w7 ⟨rfl, hb7⟩
              have HO7 := Lib.hid (own_below HO.out hb7)
              have HB7 := Lib.hid (step_below HBW.out hb7)
              have HZ7 := Lib.hid (Nat.le_trans HZ6.out hb7.size)
              clear hb7 b0
              go_wp2_with (at_builtin; refine append_str rfl (.tmp 50) (.tmp 52) rfl W1.heap.size _ (ndL1 nm xs).length (ndL1 nm xs) rfl (HO7.out.alloc _) _ (lnS g 0) rfl (by simp [go_sem]) (by have := HNL.out; omega) (by have := HZ7.out; simp; omega) ?_; intro a8 c8 w8 hown8 hgrow8; have HO8 := Lib.hid hown8; have HB8 := Lib.hid ((HB7.out.alloc HZ7.out _).grown hgrow8 (by have := HZ7.out; simp; omega) (fun j hj => (HO7.out.lt j hj).1)); clear hown8 hgrow8)
              go_roundw
              case rel => exact ⟨.inr (.inl ⟨by go_num, HO8⟩), HB8⟩
              case measure => simp [intOf]
            · go_upto_region 14 with (fail)
              go_wp2_with fail
              refine (HLN.out 1 _ HBW.out).mono ?_; rintro r w7 ⟨rfl, hb7⟩
              have HO7 := Lib.hid (own_below HO.out hb7)
              have HB7 := Lib.hid (step_below HBW.out hb7)
              have HZ7 := Lib.hid (Nat.le_trans HZ6.out hb7.size)
              clear hb7 b0
              go_wp2_with (at_builtin; refine append_str rfl (.tmp 50) (.tmp 52) rfl W1.heap.size _ ((ndL1 nm xs).length + 1) (ndL1 nm xs ++ [lnS g 0]) rfl (HO7.out.alloc _) _ (lnS g 1) rfl (by simp [go_sem]) (by have := HNL.out; omega) (by have := HZ7.out; simp; omega) ?_; intro a8 c8 w8 hown8 hgrow8; have HO8 := Lib.hid hown8; have HB8 := Lib.hid ((HB7.out.alloc HZ7.out _).grown hgrow8 (by have := HZ7.out; simp; omega) (fun j hj => (HO7.out.lt j hj).1)); clear hown8 hgrow8)
              go_roundw
              case rel => exact ⟨.inr (.inr ⟨by go_num, HO8⟩), HB8⟩
              case measure => simp [intOf]
            · clear b0
              go_wp2_with fail
              have HLE := Lib.hid (show (ndL g nm xs).length = (ndL1 nm xs).length + 1 + 1 by unfold ndL; rw [List.length_append, List.length_append]; rfl)
              rw [← HLE.out] at HO
              obtain ⟨a6, c6, rfl⟩ := own_form HO.out
              have HND := Lib.hid (fun s => (show Lib.containsS (ndL g nm xs) s = ndB g nm xs s from rfl))
              have HNL6 := Lib.hid (show (ndL g nm xs).length ≤ 1000000 by rw [HLE.out]; have := HNM.out; rw [HL.out, List.length_append, List.length_map, HN.out]; have := ndL0_len nm; omega)
              obtain ⟨W2, rfl⟩ : ∃ W, W = wr := ⟨_, rfl⟩
              have HSR := Lib.hid (strs_own HO.out rfl)
              obtain ⟨DL, hDL⟩ : ∃ l, ndL g nm xs = l := ⟨_, rfl⟩
              rw [hDL] at HSR HND HNL6 ⊢
              obtain ⟨dn, hdn⟩ : ∃ l, DL.length = l := ⟨_, rfl⟩
              rw [hdn]
              have HDN := Lib.hid hdn
              have HCT := Lib.hid (fun s W (b : Below W2.heap.size W2 W) => contains_strs a6 DL dn c6 HDN.out (by rw [← HDN.out]; exact HNL6.out) s W (HSR.out.below b))
              clear hDL hdn
              go_wp2_with fail
              go_loopw [12, 57] (fun v i wr => ∃ (k : Nat), k ≤ p ∧ i = .int .i64 (k : Int) ∧ Hid (wr.ownsRow W2.heap.size 9 1 v (flK g nm xs ns k).length (sv (flK g nm xs ns k))) ∧ Hid (Below W2.heap.size W2 wr)) (fun _ i _ => p - (intOf i).toNat)
              case atStart => exact ⟨0, Nat.zero_le _, rfl, Lib.hid (World.ownsRow_nil _ _ _ _), Lib.hid (Below.refl _ _)⟩
              case round =>
                obtain ⟨k, hk, rfl, HO3, HB3⟩ := hrel
                by_cases hlt : k < p
                · have d1 : (k : Int) < (p : Int) := by omega
                  obtain ⟨x, hx⟩ : ∃ x, ns[k]? = some x := ⟨_, List.getElem?_eq_getElem (by rw [HP.out]; exact hlt)⟩
                  have HX := Lib.hid hx
                  obtain ⟨b1, o1, e1, y0⟩ := (HRN.out.below (step_below HW1.out (step_below HBW.out HB3.out))) k x hx
                  subst e1
                  have HNL3 := Lib.hid (show (flK g nm xs ns k).length ≤ 1000000 from Nat.le_trans (flK_len _ _ _ _ _) (by rw [HP.out]; exact hp6))
                  have HZ3 := Lib.hid HB3.out.size
                  clear hx
                  go_wp2_with fail
                  refine (HCT.out x _ HB3.out).mono ?_; rintro r w7 ⟨rfl, rfl⟩
                  rw [HND.out]
                  cases hB : ndB g nm xs x
                  · have HKP := Lib.hid (flK_yes HX.out hB)
                    clear hB
                    go_wp2_with (at_builtin; refine append_str rfl (.tmp 65) (.tmp 67) rfl W2.heap.size _ _ _ rfl (HO3.out.alloc _) _ x rfl (by simp [go_sem]) (by have := HNL3.out; omega) (by have := HZ3.out; simp; omega) ?_; intro a8 c8 w8 hown8 hgrow8; have HO8 := Lib.hid hown8; have HB8 := Lib.hid ((HB3.out.alloc HZ3.out _).grown hgrow8 (by have := HZ3.out; simp; omega) (fun j hj => (HO3.out.lt j hj).1)); clear hown8 hgrow8)
                    go_roundw
                    case rel =>
                      refine ⟨k + 1, by omega, by go_num, Lib.hid ?_, HB8⟩
                      rw [HKP.out, List.length_append, List.length_singleton]
                      exact HO8.out
                    case measure => simp [intOf]; omega
                  · have HKP := Lib.hid (flK_no HX.out hB)
                    clear hB
                    go_wp2_with fail
                    go_roundw
                    case rel =>
                      refine ⟨k + 1, by omega, by go_num, Lib.hid ?_, HB3⟩
                      rw [HKP.out]
                      exact HO3.out
                    case measure => simp [intOf]; omega
                · have d1 : ¬ (k : Int) < (p : Int) := by omega
                  have HAL := Lib.hid (flK_all (g := g) (nm := nm) (xs := xs) (ns := ns) (k := k) (by rw [HP.out]; omega))
                  obtain ⟨a9, c9, rfl⟩ := own_form HO3.out
                  have HS3 := Lib.hid (strs_own HO3.out rfl)
                  rw [HAL.out] at HS3 ⊢
                  have HBF := Lib.hid (step_below HW1.out (step_below HBW.out HB3.out))
                  go_wp2_with fail
                  go_ret2
                  rw [HOK.out]
                  exact ⟨⟨a9, c9, rfl, HS3.out⟩, HBF.out⟩
end Go.Proofs.YtglkndoghnblcaaGreatDoor
