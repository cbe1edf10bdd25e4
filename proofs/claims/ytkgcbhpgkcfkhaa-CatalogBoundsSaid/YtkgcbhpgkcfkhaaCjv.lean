/- A row's change, by contracts. -/
import Derived.Test.YtkgcbhpgkcfkhaaCjw
namespace Go.Proofs.Ytkgcbhpgkcfkhaa
open Go.ChangeShapes Go.WideShapes Go.ChangeAt Go.RowKit Go.Shelf
set_option linter.unusedVariables false
set_option linter.unusedSimpArgs false

theorem byt_nil : Byt [] := fun x hx => by simp at hx
theorem entryL_byt {F K : List Int} (hF : Byt F) (hK : Byt K) : Byt (entryL F K) := by
  intro x hx
  have e : entryL F K = frontL F ++ ([0, 1] ++ K) := rfl
  rw [e] at hx
  rcases List.mem_append.1 hx with h | h
  · exact frontL_byt hF x h
  · rcases List.mem_append.1 h with h | h
    · simp at h; rcases h with rfl | rfl <;> omega
    · exact hK x h
theorem entryL_len (F K : List Int) : (entryL F K).length ≤ 2 * F.length + 2 + K.length := by
  have e : entryL F K = frontL F ++ ([0, 1] ++ K) := rfl
  have := frontL_len F
  rw [e]
  simp
  omega
theorem entV_byt (j : Job) (t : Int) (R : List P1) (K : List Int) (bR : ∀ p ∈ R, Byt p.bs) (bK : Byt K) : ∀ x ∈ (entV j t R K).1, Byt x.2 ∧ x.2.length ≤ 1048576 := by
  intro x hx
  unfold entV at hx
  split at hx
  · rename_i h
    simp only [Bool.and_eq_true] at h
    obtain ⟨⟨_, hk⟩, hr⟩ := h
    have hk32 : K.length ≤ 32 := by unfold mayK at hk; simp at hk; omega
    simp only [entL, List.mem_map, List.mem_range] at hx
    obtain ⟨i, hi, rfl⟩ := hx
    have hmr : mayR R = true := by
      unfold rowOk at hr
      simp at hr
      rcases hr with h | h
      · subst h; simp at hi
      · exact h
    have hm := (mayR_iff R).1 hmr
    have : Byt ((R.map P1.bs).getD (i + 1) []) ∧ ((R.map P1.bs).getD (i + 1) []).length ≤ 24 := by
      by_cases hl : i + 1 < R.length
      · simp only [List.getD, List.getElem?_map, List.getElem?_eq_getElem hl, Option.map_some, Option.getD_some]
        exact ⟨bR _ (List.getElem_mem hl), hm.1 _ (List.getElem_mem hl)⟩
      · have e : (R.map P1.bs).getD (i + 1) [] = [] := by simp [List.getD, List.getElem?_eq_none (show R.length ≤ i + 1 by omega)]
        rw [e]
        exact ⟨byt_nil, by simp⟩
    refine ⟨entryL_byt this.1 bK, ?_⟩
    have := entryL_len ((R.map P1.bs).getD (i + 1) []) K
    simp only
    omega
  · simp at hx
theorem entV_len (j : Job) (t : Int) (R : List P1) (K : List Int) : (entV j t R K).1.length ≤ R.length := by
  unfold entV
  split
  · simp only [entL_length]; omega
  · simp
theorem enB_of {L : List E1} {V : List (Int × List Int)} (h : enS L = V) (hV : ∀ x ∈ V, Byt x.2 ∧ x.2.length ≤ 1048576) : EnB L := fun t v hm =>
  hV (t, v.bs) (by rw [← h]; exact List.mem_map.2 ⟨(t, v), hm, rfl⟩)
/-- What goes, what comes, and the error. -/
def chV (A B : List (Int × List Int) × Int) : List (Int × List Int) × List (Int × List Int) × Int := if A.2 = 0 ∧ B.2 = 0 then (woS A.1 B.1, woS B.1 A.1, 0) else ([], [], 2)
def ChP (V : List (Int × List Int) × List (Int × List Int) × Int) (r : Ending) (w' : World) : Prop := ∃ (a b : Option Addr) (c d : Nat) (G C : List E1), r = .returned (.tuple #[.slice a V.1.length c, .slice b V.2.1.length d, .int .i64 V.2.2]) ∧ enS G = V.1 ∧ EnR w' a G ∧ enS C = V.2.1 ∧ EnR w' b C
theorem enS_length (L : List E1) : (enS L).length = L.length := by simp [enS]
set_option maxRecDepth 100000 in
set_option maxHeartbeats 4000000 in
theorem changes_law (j : Job) (t : Int) (ka : Option Addr) (K : List Int) (kn kc : Nat) (ra sa : Option Addr) (R S : List P1) (rn rc sn sc : Nat) (hK : K.length = kn) (hR : R.length = rn) (hS : S.length = sn) (hrn : rn ≤ 1000000) (hsn : sn ≤ 1000000) (bK : Byt K) (bR : ∀ p ∈ R, Byt p.bs) (bS : ∀ p ∈ S, Byt p.bs) (w : World) (hj : JobAt w j) (hk : Ls .u8 w ka kc K) (hr : RdR w ra R) (hs : RdR w sa S) :
    Calls Try.prog 45 #[.agg #[.int .i64 j.w, .int .i64 j.l, .int .i64 j.d, .int .i64 j.c, .int .i64 j.k, .int .i64 j.e, .slice j.a j.n j.cap], .int .i64 t, .slice ka kn kc, .slice ra rn rc, .slice sa sn sc] w fun r w' => ChP (chV (entV j t R K) (entV j t S K)) r w' ∧ Below w.heap.size w w' := by
  have b0 : Below w.heap.size w (w.alloc (.cells #[.int .i64 j.w, .int .i64 j.l, .int .i64 j.d, .int .i64 j.c, .int .i64 j.k, .int .i64 j.e, .slice j.a j.n j.cap] 53)) := (Below.refl _ _).alloc (Nat.le_refl _) _
  have hbj := BoxC.new w #[.int .i64 j.w, .int .i64 j.l, .int .i64 j.d, .int .i64 j.c, .int .i64 j.k, .int .i64 j.e, .slice j.a j.n j.cap] 53
  have bA := entV_byt j t R K bR bK
  have bB := entV_byt j t S K bS bK
  have lA := entV_len j t R K
  have lB := entV_len j t S K
  have hE1 := entries_law j t ka K kn kc ra R rn rc hK hR hrn _ (hj.below b0) (hk.below b0) (hr.below b0)
  have hE2 := fun W (BW : Below w.heap.size w W) => entries_law j t ka K kn kc sa S sn sc hK hS hsn W (hj.below BW) (hk.below BW) (hs.below BW)
  generalize entV j t R K = A at *
  generalize entV j t S K = B at *
  obtain ⟨A, ae⟩ := A
  obtain ⟨B, be⟩ := B
  simp only at bA bB lA lB
  have HE1 := Lib.hid hE1
  have HE2 := Lib.hid hE2
  have HB0 := Lib.hid b0
  have HBJ := Lib.hid hbj
  have LA := Lib.hid (show A.length ≤ 1000000 by omega)
  have LB := Lib.hid (show B.length ≤ 1000000 by omega)
  have BA := Lib.hid bA
  have BB := Lib.hid bB
  clear hE1 hE2 b0 hbj hj hk hr hs bK bR bS hK hR hS bA bB lA lB hrn hsn
  by_cases ha : ae = 0
  · by_cases hb : be = 0
    · subst ha hb
      have HC := Lib.hid (show chV (A, 0) (B, 0) = (woS A B, woS B A, 0) from rfl)
      go_enter Try.func45, Try.ntmps45
      go_wp2_with fail
      refine HE1.out.mono ?_; rintro r w2 ⟨⟨a1, c1, L, rfl, e1, r1⟩, B2⟩
      have HR1 := Lib.hid r1
      have HS1 := Lib.hid (show enS L = A from e1)
      have HB2 := Lib.hid (step_below HB0.out B2)
      have hb2 := HBJ.out.below B2
      have g0 := hb2.cell 0
      have g1 := hb2.cell 1
      have g2 := hb2.cell 2
      have g3 := hb2.cell 3
      have g4 := hb2.cell 4
      have g5 := hb2.cell 5
      have g6 := hb2.cell 6
      simp only [List.getElem?_toArray, List.getElem?_cons_zero, List.getElem?_cons_succ] at g0 g1 g2 g3 g4 g5 g6
      clear r1 e1 B2 hb2
      go_wp2_with fail
      refine (HE2.out _ HB2.out).mono ?_; rintro r w3 ⟨⟨a2, c2, M, rfl, e2, r2⟩, B3⟩
      have HR2 := Lib.hid r2
      have HS2 := Lib.hid (show enS M = B from e2)
      have HB3 := Lib.hid B3
      clear r2 e2 B3 g0 g1 g2 g3 g4 g5 g6
      have hlen1 : L.length = A.length := by rw [← HS1.out, enS_length]
      have hlen2 : M.length = B.length := by rw [← HS2.out, enS_length]
      have hr1 := HR1.out.below HB3.out
      have HW1 := Lib.hid (without_law a1 a2 L M A.length B.length c1 c2 hlen1 hlen2 LA.out LB.out (enB_of HS1.out BA.out) (enB_of HS2.out BB.out) w3 hr1 HR2.out)
      have HW2 := Lib.hid (fun W (BW : Below w3.heap.size w3 W) => without_law a2 a1 M L B.length A.length c2 c1 hlen2 hlen1 LB.out LA.out (enB_of HS2.out BB.out) (enB_of HS1.out BA.out) W (HR2.out.below BW) (hr1.below BW))
      clear hlen1 hlen2 hr1
      simp only at *
      go_wp2_with fail
      refine HW1.out.mono ?_; rintro r w4 ⟨a4, c4, rfl, r4, B4⟩
      have HR4 := Lib.hid r4
      have HB4 := Lib.hid B4
      have HG1 := Lib.hid (show enS (wo L M) = woS A B by rw [enS_wo, HS1.out, HS2.out])
      obtain ⟨n4, hn4⟩ : ∃ n4, (wo L M).length = n4 := ⟨_, rfl⟩
      rw [hn4]
      have HN4 := Lib.hid hn4
      clear r4 B4 hn4
      go_wp2_with fail
      refine (HW2.out _ HB4.out).mono ?_; rintro r w5 ⟨a5, c5, rfl, r5, B5⟩
      have HR5 := Lib.hid r5
      have HB5 := Lib.hid B5
      have HG2 := Lib.hid (show enS (wo M L) = woS B A by rw [enS_wo, HS1.out, HS2.out])
      obtain ⟨n5, hn5⟩ : ∃ n5, (wo M L).length = n5 := ⟨_, rfl⟩
      rw [hn5]
      have HN5 := Lib.hid hn5
      clear r5 B5 hn5
      go_wp2_with fail
      go_ret3
      have l4 : (woS A B).length = n4 := by rw [← HG1.out, enS_length, HN4.out]
      have l5 : (woS B A).length = n5 := by rw [← HG2.out, enS_length, HN5.out]
      exact ⟨by rw [HC.out]; exact ⟨a4, a5, c4, c5, wo L M, wo M L, by simp only [l4, l5]; rfl, HG1.out, HR4.out.below HB5.out, HG2.out, HR5.out⟩, step_below (step_below (step_below HB2.out HB3.out) HB4.out) HB5.out⟩
    · subst ha
      have hbe : (be != 0) = true := by simpa using hb
      have HC := Lib.hid (show chV (A, 0) (B, be) = ([], [], 2) from if_neg fun h => hb h.2)
      clear hb
      go_enter Try.func45, Try.ntmps45
      go_wp2_with fail
      refine HE1.out.mono ?_; rintro r w2 ⟨⟨a1, c1, L, rfl, e1, r1⟩, B2⟩
      have HR1 := Lib.hid r1
      have HS1 := Lib.hid (show enS L = A from e1)
      have HB2 := Lib.hid (step_below HB0.out B2)
      have hb2 := HBJ.out.below B2
      have g0 := hb2.cell 0
      have g1 := hb2.cell 1
      have g2 := hb2.cell 2
      have g3 := hb2.cell 3
      have g4 := hb2.cell 4
      have g5 := hb2.cell 5
      have g6 := hb2.cell 6
      simp only [List.getElem?_toArray, List.getElem?_cons_zero, List.getElem?_cons_succ] at g0 g1 g2 g3 g4 g5 g6
      clear r1 e1 B2 hb2
      go_wp2_with fail
      refine (HE2.out _ HB2.out).mono ?_; rintro r w3 ⟨⟨a2, c2, M, rfl, e2, r2⟩, B3⟩
      have HR2 := Lib.hid r2
      have HS2 := Lib.hid (show enS M = B from e2)
      have HB3 := Lib.hid B3
      clear r2 e2 B3 g0 g1 g2 g3 g4 g5 g6
      go_wp2_with fail
      go_ret3
      exact ⟨by rw [HC.out]; exact ⟨none, none, 0, 0, [], [], rfl, rfl, fun k p hp => by simp at hp, rfl, fun k p hp => by simp at hp⟩, step_below HB2.out HB3.out⟩
  · have hae : (ae != 0) = true := by simpa using ha
    have HC := Lib.hid (show chV (A, ae) (B, be) = ([], [], 2) from if_neg fun h => ha h.1)
    clear ha
    go_enter Try.func45, Try.ntmps45
    go_wp2_with fail
    refine HE1.out.mono ?_; rintro r w2 ⟨⟨a1, c1, L, rfl, e1, r1⟩, B2⟩
    have HR1 := Lib.hid r1
    have HS1 := Lib.hid (show enS L = A from e1)
    have HB2 := Lib.hid (step_below HB0.out B2)
    have hb2 := HBJ.out.below B2
    have g0 := hb2.cell 0
    have g1 := hb2.cell 1
    have g2 := hb2.cell 2
    have g3 := hb2.cell 3
    have g4 := hb2.cell 4
    have g5 := hb2.cell 5
    have g6 := hb2.cell 6
    simp only [List.getElem?_toArray, List.getElem?_cons_zero, List.getElem?_cons_succ] at g0 g1 g2 g3 g4 g5 g6
    clear r1 e1 B2 hb2
    go_wp2_with fail
    refine (HE2.out _ HB2.out).mono ?_; rintro r w3 ⟨⟨a2, c2, M, rfl, e2, r2⟩, B3⟩
    have HR2 := Lib.hid r2
    have HS2 := Lib.hid (show enS M = B from e2)
    have HB3 := Lib.hid B3
    clear r2 e2 B3 g0 g1 g2 g3 g4 g5 g6
    go_wp2_with fail
    go_ret3
    exact ⟨by rw [HC.out]; exact ⟨none, none, 0, 0, [], [], rfl, rfl, fun k p hp => by simp at hp, rfl, fun k p hp => by simp at hp⟩, step_below HB2.out HB3.out⟩
end Go.Proofs.Ytkgcbhpgkcfkhaa
