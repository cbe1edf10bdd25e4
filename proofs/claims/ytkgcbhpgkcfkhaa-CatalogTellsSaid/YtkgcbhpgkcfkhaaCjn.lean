/- The reference's without, and its Changes, by contracts. -/
import Derived.Test.YtkgcbhpgkcfkhaaCjm
import Derived.Test.YtkgcbhpgkcfkhaaCjv
namespace Go.Proofs.Ytkgcbhpgkcfkhaa
open Go.ChangeShapes Go.WideShapes Go.ChangeAt Go.RowKit Go.Shelf
set_option linter.unusedVariables false
set_option linter.unusedSimpArgs false

theorem any_take {O : List E1} {k : Nat} {p : E1} (hp : O[k]? = some p) (f : E1 → Bool) : (O.take (k + 1)).any f = ((O.take k).any f || f p) := by
  rw [List.take_add_one, hp]; simp
theorem wo_take {L O : List E1} {k : Nat} {p : E1} (hp : L[k]? = some p) : wo (L.take (k + 1)) O = wo (L.take k) O ++ (if inE O p then [] else [p]) := by
  unfold wo
  rw [List.take_add_one, hp, List.filter_append]
  congr 1
  by_cases h : inE O p = true <;> simp [h]
def WoP (V : List E1) (r : Ending) (w' : World) : Prop := ∃ a' c', r = .returned (.slice a' V.length c') ∧ EnR w' a' V
theorem wo_len (L O : List E1) : (wo L O).length ≤ L.length := List.length_filter_le _ _
set_option maxRecDepth 100000 in
set_option maxHeartbeats 4000000 in
theorem qwithout_law (a b : Option Addr) (L O : List E1) (n m ca cb : Nat) (hL : L.length = n) (hO : O.length = m) (hn : n ≤ 1000000) (hm : m ≤ 1000000) (bL : EnB L) (bO : EnB O) (w : World) (hA : EnR w a L) (hB : EnR w b O) :
    Calls Try.prog 87 #[.slice a n ca, .slice b m cb] w fun r w' => WoP (wo L O) r w' ∧ Below w.heap.size w w' := by
  obtain ⟨i0, hi, hz0, hz1, hz2⟩ := info_parts info91
  have HA := Lib.hid hA
  have HB := Lib.hid hB
  have HL := Lib.hid hL
  have HO := Lib.hid hO
  have BL := Lib.hid bL
  have BO := Lib.hid bO
  have hni : (n : Int) ≤ 1000000 := by omega
  have hmi : (m : Int) ≤ 1000000 := by omega
  clear hA hB hL hO bL bO
  go_enter Try.func87, Try.ntmps87
  go_wp2_with fail
  go_loopw [5, 6, 7, 8] (fun v i _ _ wr => ∃ k : Nat, k ≤ n ∧ i = .int .i64 (k : Int) ∧ Hid (wr.ownsRow w.heap.size 91 2 v (wo (L.take k) O).length (ev (wo (L.take k) O))) ∧ Hid (Below w.heap.size w wr)) (fun _ i _ _ _ => n - (intOf i).toNat)
  case atStart => exact ⟨0, by omega, rfl, Lib.hid (by rw [List.take_zero]; exact World.ownsRow_nil _ _ _ _), Lib.hid (Below.refl _ _)⟩
  case round =>
    obtain ⟨k, hk, rfl, HV, BB⟩ := hrel
    by_cases hlt : k < n
    · have hkl : (k : Int) < (n : Int) := by omega
      obtain ⟨⟨xt, xv⟩, hx⟩ : ∃ x, L[k]? = some x := ⟨_, List.getElem?_eq_getElem (by rw [HL.out]; exact hlt)⟩
      have HX := Lib.hid hx
      obtain ⟨l, hl⟩ : ∃ l, (wo (L.take k) O).length = l := ⟨_, rfl⟩
      rw [hl] at HV
      have HLL := Lib.hid hl
      have hl1 : l ≤ 1000000 := by
        have h1 := wo_len (L.take k) O
        rw [hl, List.length_take] at h1
        omega
      clear hx hl
      go_wp2_with fail
      obtain ⟨W1, hW1⟩ : ∃ W1, W1 = wr := ⟨_, rfl⟩
      rw [← hW1] at HV BB ⊢
      clear hW1
      go_loopw [7, 8] (fun h i wq => ∃ q : Nat, q ≤ m ∧ i = .int .i64 (q : Int) ∧ h = .bool ((O.take q).any fun o => eqE o (xt, xv)) ∧ Hid (Below W1.heap.size W1 wq)) (fun _ i _ => m - (intOf i).toNat)
      case atStart => exact ⟨0, by omega, rfl, rfl, Lib.hid (Below.refl _ _)⟩
      case round =>
        obtain ⟨q, hq, rfl, rfl, BQ⟩ := hrel
        obtain ⟨hb, hhb⟩ : ∃ hb, ((O.take q).any fun o => eqE o (xt, xv)) = hb := ⟨_, rfl⟩
        rw [hhb]
        have HHB := Lib.hid hhb
        have BW := Lib.hid (step_below BB.out BQ.out)
        obtain ⟨b1, o1, e1, c1, g1, l1⟩ := HA.out.below BW.out k _ HX.out
        subst e1
        have d1 : wr.cell? ⟨b1, o1 + k * 2, none⟩ = some (.int .i64 xt) := c1
        have d3 : wr.cell? ⟨b1, o1 + k * 2 + 1, none⟩ = some (.slice xv.ad xv.bs.length xv.cap) := g1
        clear hhb c1 g1
        by_cases hqm : q < m
        · have hql : (q : Int) < (m : Int) := by omega
          have hk9 : (k : Int) ≤ 1000000 := by omega
          obtain ⟨⟨pt, pv⟩, hp⟩ : ∃ p, O[q]? = some p := ⟨_, List.getElem?_eq_getElem (by rw [HO.out]; exact hqm)⟩
          obtain ⟨b2, o2, e2, c2, g2, l2⟩ := HB.out.below BW.out q _ hp
          subst e2
          have q1 : ∀ n, (convert 24 9 (.slice xv.ad xv.bs.length xv.cap)).run Try.prog (wr.drewN n) = .ok (.string (strOfNums xv.bs)) (wr.drewN n) := fun n => kc2 (wr.drewN n) xv.ad xv.bs.length xv.cap xv.bs rfl l1.drewN
          have q2 : ∀ n, (convert 24 9 (.slice pv.ad pv.bs.length pv.cap)).run Try.prog (wr.drewN n) = .ok (.string (strOfNums pv.bs)) (wr.drewN n) := fun n => kc2 (wr.drewN n) pv.ad pv.bs.length pv.cap pv.bs rfl l2.drewN
          have d2 : wr.cell? ⟨b2, o2 + q * 2, none⟩ = some (.int .i64 pt) := c2
          have d4 : wr.cell? ⟨b2, o2 + q * 2 + 1, none⟩ = some (.slice pv.ad pv.bs.length pv.cap) := g2
          have BP := Lib.hid (BO.out _ _ (List.mem_of_getElem? hp)).1
          have BX := Lib.hid (BL.out _ _ (List.mem_of_getElem? HX.out)).1
          have HN := Lib.hid ((any_take hp (fun o => eqE o (xt, xv))).trans (by rw [HHB.out]) : ((O.take (q + 1)).any fun o => eqE o (xt, xv)) = (hb || eqE (pt, pv) (xt, xv)))
          clear c2 g2 hp l1 l2
          cases hb
          · by_cases ht : xt = pt
            · subst ht
              have hpq : (xt == xt) = true := by simp
              by_cases hle : pv.bs = xv.bs
              · rw [hle] at q2 d4
                have HE := Lib.hid (show eqE (xt, pv) (xt, xv) = true from decide_eq_true ⟨rfl, hle⟩)
                clear hle
                go_wp2_with fail
                go_quiet (fail)
                go_wp2_with fail
                go_roundw
                case rel => exact ⟨q + 1, by omega, by go_num, by rw [HN.out, HE.out]; rfl, Lib.hid (below_drewN BQ.out _)⟩
                case measure => simp [intOf]; omega
              · have hs : ((strOfNums xv.bs).toList == (strOfNums pv.bs).toList) = false := by
                  rw [beq_eq_false_iff_ne]
                  intro e
                  rw [Lib.strOfNums_toList, Lib.strOfNums_toList] at e
                  exact hle (str_inj BX.out BP.out (ByteArray.ext (Array.toList_inj.1 (by rw [strOfNums_data, strOfNums_data]; exact e)))).symm
                have HE := Lib.hid (show eqE (xt, pv) (xt, xv) = false from decide_eq_false fun h => hle h.2)
                clear hle
                go_wp2_with fail
                go_quiet (fail)
                go_wp2_with fail
                go_roundw
                case rel => exact ⟨q + 1, by omega, by go_num, by rw [HN.out, HE.out]; rfl, Lib.hid (below_drewN BQ.out _)⟩
                case measure => simp [intOf]; omega
            · have hpq : (xt == pt) = false := by simpa using ht
              have HE := Lib.hid (show eqE (pt, pv) (xt, xv) = false from decide_eq_false fun h => ht h.1.symm)
              clear ht
              go_wp2_with fail
              go_quiet (fail)
              go_wp2_with fail
              go_roundw
              case rel => exact ⟨q + 1, by omega, by go_num, by rw [HN.out, HE.out]; rfl, Lib.hid (below_drewN BQ.out _)⟩
              case measure => simp [intOf]; omega
          · go_wp2_with fail
            go_quiet (fail)
            go_wp2_with fail
            go_roundw
            case rel => exact ⟨q + 1, by omega, by go_num, by rw [HN.out]; rfl, Lib.hid (below_drewN BQ.out _)⟩
            case measure => simp [intOf]; omega
        · have hql : ¬ (q : Int) < (m : Int) := by omega
          have HIN := Lib.hid (show inE O (xt, xv) = hb by rw [← HHB.out, List.take_of_length_le (by rw [HO.out]; omega)]; rfl)
          have HW := Lib.hid (wo_take (O := O) HX.out)
          have HV2 := Lib.hid (own_kept HV.out BQ.out)
          cases hb
          · have hs1 := BW.out.size
            have hw2 := HW.out
            rw [HIN.out] at hw2
            simp only [Bool.false_eq_true, if_false] at hw2
            have HW2 := Lib.hid hw2
            clear hw2
            go_wp2_with (at_builtin; refine wpList_append_own _ rfl (.tmp 52) (.tmp 57) 68 rfl w.heap.size 91 i0 (.agg #[.int .i64 0, .slice none 0 0]) 2 32 Try.underlying68 hi hz0 hz1 hz2 rfl (by decide) _ l (ev (wo (L.take k) O)) rfl (HV2.out.alloc _) ⟨wr.heap.size, 0, none⟩ 1 1 [.int .i64 xt, .slice xv.ad xv.bs.length xv.cap] rfl rfl (cell_two_new _ _ _ _) (by intro u hu; simp at hu; rcases hu with rfl | rfl <;> rfl) (by unfold maxLen; omega) (by omega) (by simp; omega) ?_)
            intro v5 w5 hown5 hgrow5 _
            have b5 : Below w.heap.size wr w5 := ((Below.refl _ wr).alloc hs1 _).grown hgrow5 (by simp; omega) (fun j hj => (HV2.out.lt j hj).1)
            have HV5 := Lib.hid (show w5.ownsRow w.heap.size 91 2 v5 (wo (L.take (k + 1)) O).length (ev (wo (L.take (k + 1)) O)) by
              rw [HW2.out, List.length_append, HLL.out, ev_append]
              exact hown5)
            have B5 := Lib.hid (BW.out.trans b5)
            clear hown5 hgrow5 b5
            go_wp2_with fail
            go_roundw
            case rel => exact ⟨k + 1, by omega, by go_num, HV5, B5⟩
            case measure => simp [intOf]; omega
          · have hw2 := HW.out
            rw [HIN.out] at hw2
            simp only [if_true, List.append_nil] at hw2
            have HW2 := Lib.hid hw2
            clear hw2
            go_wp2_with fail
            go_roundw
            case rel => exact ⟨k + 1, by omega, by go_num, Lib.hid (by rw [HW2.out, HLL.out]; exact HV2.out), BW⟩
            case measure => simp [intOf]; omega
    · have hkl : ¬ (k : Int) < (n : Int) := by omega
      have hv := HV.out
      rw [List.take_of_length_le (by rw [HL.out]; omega)] at hv
      obtain ⟨la, lc, rfl, hen⟩ := own_enr hv rfl (fun p hp => enr_ls (HA.out.below BB.out) p.1 p.2 (List.mem_filter.1 hp).1)
      obtain ⟨l, hl⟩ : ∃ l, (wo L O).length = l := ⟨_, rfl⟩
      rw [hl]
      have HLL := Lib.hid hl
      have HE := Lib.hid hen
      clear hv hen hl HV
      go_wp2_with fail
      go_ret
      exact ⟨⟨la, lc, by rw [HLL.out]; rfl, HE.out⟩, BB.out⟩
theorem qwithout_any (a b : Option Addr) (L O : List E1) (n m ca cb : Nat) (hL : L.length = n) (hO : O.length = m) (hn : n ≤ 1000000) (hm : m ≤ 1000000) (bL : EnB L) (bO : EnB O) (w : World) (hA : EnR w a L) (hB : EnR w b O) :
    Calls Try.prog 87 #[.slice a n ca, .slice b m cb] w fun r w' => ∃ a' c', r = .returned (.slice a' (wo L O).length c') ∧ EnR w' a' (wo L O) ∧ Below w.heap.size w w' := (qwithout_law a b L O n m ca cb hL hO hn hm bL bO w hA hB).mono fun r w' ⟨⟨a', c', h1, h2⟩, B⟩ => ⟨a', c', h1, h2, B⟩
set_option maxRecDepth 100000 in
set_option maxHeartbeats 4000000 in
theorem qchanges_law (j : Job) (t : Int) (ka : Option Addr) (K : List Int) (kn kc : Nat) (ra sa : Option Addr) (R S : List P1) (rn rc sn sc : Nat) (hK : K.length = kn) (hR : R.length = rn) (hS : S.length = sn) (hrn : rn ≤ 1000000) (hsn : sn ≤ 1000000) (bK : Byt K) (bR : ∀ p ∈ R, Byt p.bs) (bS : ∀ p ∈ S, Byt p.bs) (w : World) (hj : JobAt w j) (hk : Ls .u8 w ka kc K) (hr : RdR w ra R) (hs : RdR w sa S) :
    Calls Try.prog 46 #[.agg #[.int .i64 j.w, .int .i64 j.l, .int .i64 j.d, .int .i64 j.c, .int .i64 j.k, .int .i64 j.e, .slice j.a j.n j.cap], .int .i64 t, .slice ka kn kc, .slice ra rn rc, .slice sa sn sc] w fun r w' => ChP (chV (entV j t R K) (entV j t S K)) r w' ∧ Below w.heap.size w w' := by
  have b0 : Below w.heap.size w (w.alloc (.cells #[.int .i64 j.w, .int .i64 j.l, .int .i64 j.d, .int .i64 j.c, .int .i64 j.k, .int .i64 j.e, .slice j.a j.n j.cap] 53)) := (Below.refl _ _).alloc (Nat.le_refl _) _
  have hbj := BoxC.new w #[.int .i64 j.w, .int .i64 j.l, .int .i64 j.d, .int .i64 j.c, .int .i64 j.k, .int .i64 j.e, .slice j.a j.n j.cap] 53
  have bA := entV_byt j t R K bR bK
  have bB := entV_byt j t S K bS bK
  have lA := entV_len j t R K
  have lB := entV_len j t S K
  have hE1 := qentries_law j t ka K kn kc ra R rn rc hK hR hrn _ (hj.below b0) (hk.below b0) (hr.below b0)
  have hE2 := fun W (BW : Below w.heap.size w W) => qentries_law j t ka K kn kc sa S sn sc hK hS hsn W (hj.below BW) (hk.below BW) (hs.below BW)
  generalize entV j t R K = A at *
  generalize entV j t S K = B at *
  obtain ⟨A, ae⟩ := A
  obtain ⟨B, be⟩ := B
  simp only at bA bB lA lB
  have HE1 := Lib.hid hE1
  have HE2 := Lib.hid hE2
  have HB0 := Lib.hid b0
  have HBJ := Lib.hid hbj
  have LA := Lib.hid (show A.length ≤ 1000000 by omega)
  have LB := Lib.hid (show B.length ≤ 1000000 by omega)
  have BA := Lib.hid bA
  have BB := Lib.hid bB
  clear hE1 hE2 b0 hbj hj hk hr hs bK bR bS hK hR hS bA bB lA lB hrn hsn
  by_cases ha : ae = 0
  · by_cases hb : be = 0
    · subst ha hb
      have HC := Lib.hid (show chV (A, 0) (B, 0) = (woS A B, woS B A, 0) from rfl)
      go_enter Try.func46, Try.ntmps46
      go_wp2_with fail
      refine HE1.out.mono ?_; rintro r w2 ⟨⟨a1, c1, L, rfl, e1, r1⟩, B2⟩
      have HR1 := Lib.hid r1
      have HS1 := Lib.hid (show enS L = A from e1)
      have HB2 := Lib.hid (step_below HB0.out B2)
      have hb2 := HBJ.out.below B2
      have g0 := hb2.cell 0
      have g1 := hb2.cell 1
      have g2 := hb2.cell 2
      have g3 := hb2.cell 3
      have g4 := hb2.cell 4
      have g5 := hb2.cell 5
      have g6 := hb2.cell 6
      simp only [List.getElem?_toArray, List.getElem?_cons_zero, List.getElem?_cons_succ] at g0 g1 g2 g3 g4 g5 g6
      clear r1 e1 B2 hb2
      go_wp2_with fail
      refine (HE2.out _ HB2.out).mono ?_; rintro r w3 ⟨⟨a2, c2, M, rfl, e2, r2⟩, B3⟩
      have HR2 := Lib.hid r2
      have HS2 := Lib.hid (show enS M = B from e2)
      have HB3 := Lib.hid B3
      clear r2 e2 B3 g0 g1 g2 g3 g4 g5 g6
      have hlen1 : L.length = A.length := by rw [← HS1.out, enS_length]
      have hlen2 : M.length = B.length := by rw [← HS2.out, enS_length]
      have hr1 := HR1.out.below HB3.out
      have HW1 := Lib.hid (qwithout_any a1 a2 L M A.length B.length c1 c2 hlen1 hlen2 LA.out LB.out (enB_of HS1.out BA.out) (enB_of HS2.out BB.out) w3 hr1 HR2.out)
      have HW2 := Lib.hid (fun W (BW : Below w3.heap.size w3 W) => qwithout_any a2 a1 M L B.length A.length c2 c1 hlen2 hlen1 LB.out LA.out (enB_of HS2.out BB.out) (enB_of HS1.out BA.out) W (HR2.out.below BW) (hr1.below BW))
      clear hlen1 hlen2 hr1
      simp only at *
      go_wp2_with fail
      refine HW1.out.mono ?_; rintro r w4 ⟨a4, c4, rfl, r4, B4⟩
      have HR4 := Lib.hid r4
      have HB4 := Lib.hid B4
      have HG1 := Lib.hid (show enS (wo L M) = woS A B by rw [enS_wo, HS1.out, HS2.out])
      obtain ⟨n4, hn4⟩ : ∃ n4, (wo L M).length = n4 := ⟨_, rfl⟩
      rw [hn4]
      have HN4 := Lib.hid hn4
      clear r4 B4 hn4
      go_wp2_with fail
      refine (HW2.out _ HB4.out).mono ?_; rintro r w5 ⟨a5, c5, rfl, r5, B5⟩
      have HR5 := Lib.hid r5
      have HB5 := Lib.hid B5
      have HG2 := Lib.hid (show enS (wo M L) = woS B A by rw [enS_wo, HS1.out, HS2.out])
      obtain ⟨n5, hn5⟩ : ∃ n5, (wo M L).length = n5 := ⟨_, rfl⟩
      rw [hn5]
      have HN5 := Lib.hid hn5
      clear r5 B5 hn5
      go_wp2_with fail
      go_ret3
      have l4 : (woS A B).length = n4 := by rw [← HG1.out, enS_length, HN4.out]
      have l5 : (woS B A).length = n5 := by rw [← HG2.out, enS_length, HN5.out]
      exact ⟨by rw [HC.out]; exact ⟨a4, a5, c4, c5, wo L M, wo M L, by simp only [l4, l5]; rfl, HG1.out, HR4.out.below HB5.out, HG2.out, HR5.out⟩, step_below (step_below (step_below HB2.out HB3.out) HB4.out) HB5.out⟩
    · subst ha
      have hbe : (be != 0) = true := by simpa using hb
      have HC := Lib.hid (show chV (A, 0) (B, be) = ([], [], 2) from if_neg fun h => hb h.2)
      clear hb
      go_enter Try.func46, Try.ntmps46
      go_wp2_with fail
      refine HE1.out.mono ?_; rintro r w2 ⟨⟨a1, c1, L, rfl, e1, r1⟩, B2⟩
      have HR1 := Lib.hid r1
      have HS1 := Lib.hid (show enS L = A from e1)
      have HB2 := Lib.hid (step_below HB0.out B2)
      have hb2 := HBJ.out.below B2
      have g0 := hb2.cell 0
      have g1 := hb2.cell 1
      have g2 := hb2.cell 2
      have g3 := hb2.cell 3
      have g4 := hb2.cell 4
      have g5 := hb2.cell 5
      have g6 := hb2.cell 6
      simp only [List.getElem?_toArray, List.getElem?_cons_zero, List.getElem?_cons_succ] at g0 g1 g2 g3 g4 g5 g6
      clear r1 e1 B2 hb2
      go_wp2_with fail
      refine (HE2.out _ HB2.out).mono ?_; rintro r w3 ⟨⟨a2, c2, M, rfl, e2, r2⟩, B3⟩
      have HR2 := Lib.hid r2
      have HS2 := Lib.hid (show enS M = B from e2)
      have HB3 := Lib.hid B3
      clear r2 e2 B3 g0 g1 g2 g3 g4 g5 g6
      go_wp2_with fail
      go_ret3
      exact ⟨by rw [HC.out]; exact ⟨none, none, 0, 0, [], [], rfl, rfl, fun k p hp => by simp at hp, rfl, fun k p hp => by simp at hp⟩, step_below HB2.out HB3.out⟩
  · have hae : (ae != 0) = true := by simpa using ha
    have HC := Lib.hid (show chV (A, ae) (B, be) = ([], [], 2) from if_neg fun h => ha h.1)
    clear ha
    go_enter Try.func46, Try.ntmps46
    go_wp2_with fail
    refine HE1.out.mono ?_; rintro r w2 ⟨⟨a1, c1, L, rfl, e1, r1⟩, B2⟩
    have HR1 := Lib.hid r1
    have HS1 := Lib.hid (show enS L = A from e1)
    have HB2 := Lib.hid (step_below HB0.out B2)
    have hb2 := HBJ.out.below B2
    have g0 := hb2.cell 0
    have g1 := hb2.cell 1
    have g2 := hb2.cell 2
    have g3 := hb2.cell 3
    have g4 := hb2.cell 4
    have g5 := hb2.cell 5
    have g6 := hb2.cell 6
    simp only [List.getElem?_toArray, List.getElem?_cons_zero, List.getElem?_cons_succ] at g0 g1 g2 g3 g4 g5 g6
    clear r1 e1 B2 hb2
    go_wp2_with fail
    refine (HE2.out _ HB2.out).mono ?_; rintro r w3 ⟨⟨a2, c2, M, rfl, e2, r2⟩, B3⟩
    have HR2 := Lib.hid r2
    have HS2 := Lib.hid (show enS M = B from e2)
    have HB3 := Lib.hid B3
    clear r2 e2 B3 g0 g1 g2 g3 g4 g5 g6
    go_wp2_with fail
    go_ret3
    exact ⟨by rw [HC.out]; exact ⟨none, none, 0, 0, [], [], rfl, rfl, fun k p hp => by simp at hp, rfl, fun k p hp => by simp at hp⟩, step_below HB2.out HB3.out⟩
end Go.Proofs.Ytkgcbhpgkcfkhaa
