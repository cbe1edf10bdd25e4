/- CatalogTells' walk, where both rows have entries. -/
import Derived.Test.YtkgcbhpgkcfkhaaCtb
import Derived.IntWalk
namespace Go.Proofs.Ytkgcbhpgkcfkhaa
open Go.ChangeShapes Go.WideShapes Go.ChangeAt Go.RowKit Go.Shelf
set_option linter.unusedVariables false
set_option linter.unusedSimpArgs false

theorem woS_len' (A B : List (Int × List Int)) : (woS A B).length ≤ A.length := List.length_filter_le _ _
theorem mem_woS {A B : List (Int × List Int)} {x : Int × List Int} : x ∈ woS A B ↔ x ∈ A ∧ x ∉ B := by
  unfold woS
  rw [List.mem_filter]
  simp
theorem strneF {a b : List Int} (ha : Byt a) (hb : Byt b) (h : a ≠ b) : ((strOfNums a).toList == (strOfNums b).toList) = false := by
  rw [beq_eq_false_iff_ne]
  intro e
  rw [Lib.strOfNums_toList, Lib.strOfNums_toList] at e
  exact h (str_inj ha hb (ByteArray.ext (Array.toList_inj.1 (by rw [strOfNums_data, strOfNums_data]; exact e))))
theorem strneT {a b : List Int} (ha : Byt a) (hb : Byt b) (h : a ≠ b) : ((strOfNums a).toList != (strOfNums b).toList) = true := by
  rw [bne, strneF ha hb h]; rfl
theorem enS_at {L : List E1} {V : List (Int × List Int)} (h : enS L = V) {m : Nat} {pt : Int} {pv : P1} (hp : L[m]? = some (pt, pv)) : V[m]? = some (pt, pv.bs) := by
  rw [← h]; simp [enS, hp]
/-- 'has' at one list, of one entry, from one world on. -/
def Has1 (w : World) (xt : Int) (xa : Option Addr) (xn xc : Nat) (a : Option Addr) (n c : Nat) (v : Bool) : Prop := ∀ W, Below w.heap.size w W → Calls Try.prog 54 #[.slice a n c, .agg #[.int .i64 xt, .slice xa xn xc]] W fun r w' => r = .returned (.bool v) ∧ Below W.heap.size W w'
theorem Has1.run {w : World} {xt : Int} {xa : Option Addr} {xn xc : Nat} {a : Option Addr} {n c : Nat} {v : Bool} (h : Has1 w xt xa xn xc a n c v) (W : World) (b : Below w.heap.size w W) : Calls Try.prog 54 #[.slice a n c, .agg #[.int .i64 xt, .slice xa xn xc]] W fun r w' => r = .returned (.bool v) ∧ Below W.heap.size W w' := h W b
theorem has1_mk {w : World} {pt : Int} {pv : P1} {a : Option Addr} {L : List E1} {V : List (Int × List Int)} {n c : Nat} {v : Bool} (hV : enS L = V) (hn : V.length = n) (hn3 : n ≤ 2) (bV : ∀ x ∈ V, Byt x.2 ∧ x.2.length ≤ 1048576) (bx : Byt pv.bs) (hA : EnR w a L) (hx : Ls .u8 w pv.ad pv.cap pv.bs) (hv : decide ((pt, pv.bs) ∈ V) = v) : Has1 w pt pv.ad pv.bs.length pv.cap a n c v := fun W b => by
  have := has_law a L n c pt pv (by rw [← hn, ← hV, enS_length]) (by omega) (enB_of hV bV) bx W (hA.below b) (hx.below b)
  rw [hV, hv] at this
  exact this
set_option maxRecDepth 100000 in
set_option maxHeartbeats 8000000 in
theorem tells_good (j : Job) (t : Int) (ka0 ka1 : Option Addr) (K0 K1 : List Int) (n0 n1 c0 c1 : Nat) (ra0 ra1 : Option Addr) (R0 R1 : List P1) (m0 m1 d0 d1 : Nat) (hK0 : K0.length = n0) (hK1 : K1.length = n1) (hR0 : R0.length = m0) (hR1 : R1.length = m1) (s0 : n0 ≤ 140737488355328) (s1 : n1 ≤ 140737488355328) (bK0 : Byt K0) (bK1 : Byt K1) (bR0 : ∀ p ∈ R0, Byt p.bs) (bR1 : ∀ p ∈ R1, Byt p.bs) (w : World) (hl : Ls .i64 w j.a j.cap j.T) (hn : j.T.length = j.n) (hk0 : Ls .u8 w ka0 c0 K0) (hk1 : Ls .u8 w ka1 c1 K1) (hr0 : RdR w ra0 R0) (hr1 : RdR w ra1 R1) (h0 : (entV j t R0 K0).2 = 0) (h1 : (entV j t R1 K1).2 = 0) :
    Calls Try.prog 10 #[.agg #[.int .i64 j.w, .int .i64 j.l, .int .i64 j.d, .int .i64 j.c, .int .i64 j.k, .int .i64 j.e, .slice j.a j.n j.cap], .int .i64 t, .agg #[.slice ka0 n0 c0, .slice ka1 n1 c1], .agg #[.slice ra0 m0 d0, .slice ra1 m1 d1]] w fun r w' => r = .returned (.bool true) ∧ Below w.heap.size w w' := by
  have HF := Lib.hid (tells_facts (R0 := R0) (R1 := R1) hn h0 h1)
  have H01 := Lib.hid (And.intro h0 h1)
  clear h0 h1
  obtain ⟨hb0, HCE⟩ := boxes3 w #[.int .i64 j.w, .int .i64 j.l, .int .i64 j.d, .int .i64 j.c, .int .i64 j.k, .int .i64 j.e, .slice j.a j.n j.cap] #[.slice ka0 n0 c0, .slice ka1 n1 c1] #[.slice ra0 m0 d0, .slice ra1 m1 d1] 53 88 89
  have i0 : (n0 : Int) ≤ 140737488355328 := by omega
  have i1 : (n1 : Int) ≤ 140737488355328 := by omega
  go_enter Try.func10, Try.ntmps10
  go_wp2_with fail
  generalize (((w.alloc (.cells #[.int .i64 j.w, .int .i64 j.l, .int .i64 j.d, .int .i64 j.c, .int .i64 j.k, .int .i64 j.e, .slice j.a j.n j.cap] 53)).alloc (.cells #[.slice ka0 n0 c0, .slice ka1 n1 c1] 88)).alloc (.cells #[.slice ra0 m0 d0, .slice ra1 m1 d1] 89)) = W0 at *
  have FG := Lib.hid (fun W (b : Below W0.heap.size W0 W) => (by
    obtain ⟨x, y, z⟩ := HCE W b
    exact ⟨x.cell 0, x.cell 1, x.cell 2, x.cell 3, x.cell 4, x.cell 5, x.cell 6, y.cell 0, y.cell 1, z.cell 0, z.cell 1⟩ : W.cell? ⟨w.heap.size, 0, none⟩ = some (.int .i64 j.w) ∧ W.cell? ⟨w.heap.size, 1, none⟩ = some (.int .i64 j.l) ∧ W.cell? ⟨w.heap.size, 2, none⟩ = some (.int .i64 j.d) ∧ W.cell? ⟨w.heap.size, 3, none⟩ = some (.int .i64 j.c) ∧ W.cell? ⟨w.heap.size, 4, none⟩ = some (.int .i64 j.k) ∧ W.cell? ⟨w.heap.size, 5, none⟩ = some (.int .i64 j.e) ∧ W.cell? ⟨w.heap.size, 6, none⟩ = some (.slice j.a j.n j.cap) ∧ W.cell? ⟨w.heap.size + 1, 0, none⟩ = some (.slice ka0 n0 c0) ∧ W.cell? ⟨w.heap.size + 1, 1, none⟩ = some (.slice ka1 n1 c1) ∧ W.cell? ⟨w.heap.size + 1 + 1, 0, none⟩ = some (.slice ra0 m0 d0) ∧ W.cell? ⟨w.heap.size + 1 + 1, 1, none⟩ = some (.slice ra1 m1 d1)))
  have FJ := Lib.hid (fun W (b : Below W0.heap.size W0 W) => (⟨(hl.below hb0).below b, hn⟩ : Ls .i64 W j.a j.cap j.T ∧ j.T.length = j.n))
  have FK := Lib.hid (fun W (b : Below W0.heap.size W0 W) => (⟨(hk0.below hb0).below b, (hk1.below hb0).below b⟩ : Ls .u8 W ka0 c0 K0 ∧ Ls .u8 W ka1 c1 K1))
  have FR := Lib.hid (fun W (b : Below W0.heap.size W0 W) => (⟨(hr0.below hb0).below b, (hr1.below hb0).below b⟩ : RdR W ra0 R0 ∧ RdR W ra1 R1))
  have HB0 := Lib.hid hb0
  have HLEN := Lib.hid (And.intro (And.intro hK0 hK1) (And.intro hR0 hR1))
  have HBYT := Lib.hid (And.intro (And.intro bK0 bK1) (And.intro bR0 bR1))
  clear hb0 HCE hl hn hk0 hk1 hr0 hr1 hK0 hK1 hR0 hR1 bK0 bK1 bR0 bR1 s0 s1
  refine (known33 _).mono ?_; rintro r w1 ⟨rfl, B1⟩
  have HB1 := Lib.hid B1
  clear B1
  obtain ⟨g0, g1, g2, g3, g4, g5, g6, y0, y1, z0, z1⟩ := FG.out _ HB1.out
  by_cases hjn : 2000 < j.n
  · have hjni : (2000 : Int) < (j.n : Int) := by omega
    clear hjn
    go_wp2_with fail
    go_ret
    exact ⟨rfl, step_below HB0.out HB1.out⟩
  have hjni : ¬ (2000 : Int) < (j.n : Int) := by omega
  by_cases hkn : 9000 < n0 + n1
  · have hkni : (9000 : Int) < (n0 : Int) + (n1 : Int) := by omega
    clear hjn hkn
    go_wp2_with fail
    go_ret
    exact ⟨rfl, step_below HB0.out HB1.out⟩
  have hkni : ¬ (9000 : Int) < (n0 : Int) + (n1 : Int) := by omega
  have hnj := Lib.hid (show j.n ≤ 1000000 by omega)
  clear hjn hkn
  go_wp2_with fail
  refine (sizes_law ra0 R0 m0 d0 HLEN.out.2.1 _ (FR.out _ HB1.out).1).mono ?_; rintro r w' ⟨⟨z3, rfl, hz3, hzl3⟩, rfl⟩
  by_cases hzb : 9000 < z3
  · have hzbi : (9000 : Int) < (z3 : Int) := by omega
    clear hzl3
    go_wp2_with fail
    go_ret
    exact ⟨rfl, step_below HB0.out HB1.out⟩
  have hzbi : ¬ (9000 : Int) < (z3 : Int) := by omega
  clear hzl3
  go_wp2_with fail
  refine (sizes_law ra1 R1 m1 d1 HLEN.out.2.2 _ (FR.out _ HB1.out).2).mono ?_; rintro r w' ⟨⟨z4, rfl, hz4, hzl4⟩, rfl⟩
  by_cases hzc : 9000 < z4
  · have hzci : (9000 : Int) < (z4 : Int) := by omega
    clear hzl4
    go_wp2_with fail
    go_ret
    exact ⟨rfl, step_below HB0.out HB1.out⟩
  have hzci : ¬ (9000 : Int) < (z4 : Int) := by omega
  have hm0 := Lib.hid (show m0 ≤ 1000000 by omega)
  have hm1 := Lib.hid (show m1 ≤ 1000000 by omega)
  have hm0i : (m0 : Int) ≤ 9000 := by omega
  have hm1i : (m1 : Int) ≤ 9000 := by omega
  clear hzl4 hzb hzc hz3 hz4
  have HE0 := Lib.hid (fun W (b : Below W0.heap.size W0 W) => entries_law j t ka0 K0 n0 c0 ra0 R0 m0 d0 HLEN.out.1.1 HLEN.out.2.1 hm0.out W ⟨(FJ.out W b).1, (FJ.out W b).2, hnj.out⟩ (FK.out W b).1 (FR.out W b).1)
  have HE1 := Lib.hid (fun W (b : Below W0.heap.size W0 W) => entries_law j t ka1 K1 n1 c1 ra1 R1 m1 d1 HLEN.out.1.2 HLEN.out.2.2 hm1.out W ⟨(FJ.out W b).1, (FJ.out W b).2, hnj.out⟩ (FK.out W b).2 (FR.out W b).2)
  have HE2 := Lib.hid (fun W (b : Below W0.heap.size W0 W) => entries_law j t ka0 K0 n0 c0 ra1 R1 m1 d1 HLEN.out.1.1 HLEN.out.2.2 hm1.out W ⟨(FJ.out W b).1, (FJ.out W b).2, hnj.out⟩ (FK.out W b).1 (FR.out W b).2)
  have HCH := Lib.hid (fun W (b : Below W0.heap.size W0 W) => changes_law j t ka0 K0 n0 c0 ra0 ra1 R0 R1 m0 d0 m1 d1 HLEN.out.1.1 HLEN.out.2.1 HLEN.out.2.2 hm0.out hm1.out HBYT.out.1.1 HBYT.out.2.1 HBYT.out.2.2 W ⟨(FJ.out W b).1, (FJ.out W b).2, hnj.out⟩ (FK.out W b).1 (FR.out W b).1 (FR.out W b).2)
  have HBV0 := Lib.hid (entV_byt j t R0 K0 HBYT.out.2.1 HBYT.out.1.1)
  have HBV1 := Lib.hid (entV_byt j t R1 K1 HBYT.out.2.2 HBYT.out.1.2)
  have HBV2 := Lib.hid (entV_byt j t R1 K0 HBYT.out.2.2 HBYT.out.1.1)
  have hof := HF.out.of
  have hun := HF.out.un
  have hcnt := HF.out.cnt
  have hle := HF.out.le
  obtain ⟨V0, hV0⟩ : ∃ V, entV j t R0 K0 = (V, 0) := ⟨(entV j t R0 K0).1, Prod.ext rfl H01.out.1⟩
  obtain ⟨V1, hV1⟩ : ∃ V, entV j t R1 K1 = (V, 0) := ⟨(entV j t R1 K1).1, Prod.ext rfl H01.out.2⟩
  obtain ⟨V2, hV2⟩ : ∃ V, entV j t R1 K0 = (V, 0) := ⟨(entV j t R1 K0).1, Prod.ext rfl HF.out.er⟩
  clear HF H01
  rw [hV0] at HE0 HCH hof hun hcnt hle HBV0
  rw [hV1] at HE1 hun hle HBV1
  rw [hV2] at HE2 HCH hcnt hle HBV2
  rw [show chV (V0, 0) (V2, 0) = (woS V0 V2, woS V2 V0, 0) from rfl] at HCH
  unfold EnP at HE0 HE1 HE2
  unfold ChP at HCH
  clear hV0 hV1 hV2
  have hgl := woS_len' V0 V2
  have hcl := woS_len' V2 V0
  obtain ⟨l0, hl0⟩ : ∃ n, V0.length = n := ⟨_, rfl⟩
  obtain ⟨l1, hl1⟩ : ∃ n, V1.length = n := ⟨_, rfl⟩
  obtain ⟨l2, hl2⟩ : ∃ n, V2.length = n := ⟨_, rfl⟩
  obtain ⟨gl, hg⟩ : ∃ n, (woS V0 V2).length = n := ⟨_, rfl⟩
  obtain ⟨cl, hc⟩ : ∃ n, (woS V2 V0).length = n := ⟨_, rfl⟩
  simp only [hl0, hl1, hl2, hg, hc] at HE0 HE1 HE2 HCH hcnt hle hgl hcl
  obtain ⟨lr0, lr1, lv0, lv1, lv2, lk0, lk1⟩ := hle
  have HVL := Lib.hid (And.intro hl0 (And.intro hl1 (And.intro hl2 (And.intro hg hc))))
  have HOF := Lib.hid hof
  have HUN := Lib.hid hun
  have HCNT := Lib.hid hcnt
  have hgl2 : gl ≤ 2 := by omega
  have hcl2 : cl ≤ 2 := by omega
  have hBG := Lib.hid (show ∀ x ∈ woS V0 V2, Byt x.2 ∧ x.2.length ≤ 1048576 from fun x hx => HBV0.out x (mem_woS.1 hx).1)
  have hBC := Lib.hid (show ∀ x ∈ woS V2 V0, Byt x.2 ∧ x.2.length ≤ 1048576 from fun x hx => HBV2.out x (mem_woS.1 hx).1)
  have HSM := Lib.hid (show n0 ≤ 300000 ∧ n1 ≤ 300000 ∧ m0 ≤ 3 ∧ m1 ≤ 3 by
    have := HLEN.out; omega)
  clear hof hun hcnt hl0 hl1 hl2 hg hc hgl hcl lk0 lk1 lr0 lr1
  go_wp2_with fail
  refine (HE0.out _ HB1.out).mono ?_; rintro r w3 ⟨⟨a0, x0, L0, rfl, e0, r0⟩, B3⟩
  have HS0 := Lib.hid e0
  have HR0 := Lib.hid (fun W (b : Below w3.heap.size w3 W) => r0.below b)
  have HB3 := Lib.hid (step_below HB1.out B3)
  clear e0 r0 B3 g0 g1 g2 g3 g4 g5 g6 y0 y1 z0 z1
  obtain ⟨g0, g1, g2, g3, g4, g5, g6, y0, y1, z0, z1⟩ := FG.out _ HB3.out
  go_wp2_with fail
  refine (HE1.out _ HB3.out).mono ?_; rintro r w4 ⟨⟨a1, x1, L1, rfl, e1, r1⟩, B4⟩
  have HS1 := Lib.hid e1
  have HR1 := Lib.hid (fun W (b : Below w4.heap.size w4 W) => r1.below b)
  have H34 := Lib.hid B4
  have HB4 := Lib.hid (step_below HB3.out B4)
  clear e1 r1 B4 g0 g1 g2 g3 g4 g5 g6 y0 y1 z0 z1
  go_wp2_with fail
  refine (num35 _ _).mono ?_; rintro r w' ⟨rfl, rfl⟩
  go_wp2_with fail
  refine (num35 _ _).mono ?_; rintro r w' ⟨rfl, rfl⟩
  go_wp2_with fail
  go_loopw [13, 14, 15, 16, 17, 18, 19, 20] (fun i _ _ _ _ _ _ _ wr => ∃ m : Nat, m ≤ l0 ∧ i = .int .i64 (m : Int) ∧ Hid (Below w4.heap.size w4 wr)) (fun i _ _ _ _ _ _ _ _ => l0 - (intOf i).toNat)
  case atStart => exact ⟨0, by omega, rfl, Lib.hid (Below.refl _ _)⟩
  case round =>
    obtain ⟨m, hm, rfl, BR⟩ := hrel
    have BW := Lib.hid (step_below HB4.out BR.out)
    by_cases hlt : m < l0
    · as_aux_lemma =>
      have hkl : (m : Int) < (l0 : Int) := by omega
      have hmi : (m : Int) ≤ 2 := by omega
      obtain ⟨⟨pt, pv⟩, hp⟩ : ∃ p, L0[m]? = some p := ⟨_, List.getElem?_eq_getElem (by rw [← enS_length, HS0.out, HVL.out.1]; exact hlt)⟩
      have hpV := enS_at HS0.out hp
      obtain ⟨ho, hsp, hlen, hb100⟩ := HOF.out m _ hpV
      simp only at ho hsp hb100
      have BP := Lib.hid (HBV0.out _ (List.mem_of_getElem? hpV)).1
      have HPV := Lib.hid hpV
      have HPP := Lib.hid hp
      obtain ⟨b1, o1, e1, c1, g1', lp⟩ := HR0.out wr (step_below H34.out BR.out) m _ hp
      simp only at c1 g1' lp
      subst e1
      obtain ⟨F, hF⟩ : ∃ F, ((R0.map P1.bs).getD (m + 1) []) = F := ⟨_, rfl⟩
      rw [hF] at hsp
      obtain ⟨fl, hfl⟩ : ∃ n, F.length = n := ⟨_, rfl⟩
      have hm0 : (m : Int) + 1 < (m0 : Int) := by have := HLEN.out.2.1; omega
      have HOC := Lib.hid (fun W (b : Below wr.heap.size wr W) => (by have h := of_tree j pt W ⟨(FJ.out W (step_below BW.out b)).1, (FJ.out W (step_below BW.out b)).2, hnj.out⟩; rw [ho] at h; exact h : Calls Try.prog 42 #[.agg #[.int .i64 j.w, .int .i64 j.l, .int .i64 j.d, .int .i64 j.c, .int .i64 j.k, .int .i64 j.e, .slice j.a j.n j.cap], .int .i64 pt] W fun r W' => r = .returned (.tuple #[.int .i64 t, .int .i64 (m : Int), .int .i64 0]) ∧ Below W.heap.size W W'))
      have HSP := Lib.hid (fun W (b : Below wr.heap.size wr W) => (by have h := rsplit_law pv.ad pv.bs pv.bs.length pv.cap rfl (by omega) F K0 0 hsp W (lp.below b); rw [hfl, HLEN.out.1.1] at h; exact h))
      have HLP := Lib.hid (fun W (b : Below wr.heap.size wr W) => lp.below b)
      have HFF := Lib.hid hF
      have HFL := Lib.hid hfl
      have HQ := Lib.hid (show ∀ W, Below wr.heap.size wr W → (W.cell? ⟨w.heap.size, 0, none⟩ = some (.int .i64 j.w) ∧ W.cell? ⟨w.heap.size, 1, none⟩ = some (.int .i64 j.l) ∧ W.cell? ⟨w.heap.size, 2, none⟩ = some (.int .i64 j.d) ∧ W.cell? ⟨w.heap.size, 3, none⟩ = some (.int .i64 j.c) ∧ W.cell? ⟨w.heap.size, 4, none⟩ = some (.int .i64 j.k) ∧ W.cell? ⟨w.heap.size, 5, none⟩ = some (.int .i64 j.e) ∧ W.cell? ⟨w.heap.size, 6, none⟩ = some (.slice j.a j.n j.cap)) ∧ W.cell? ⟨b1, o1 + m * 2, none⟩ = some (.int .i64 pt) ∧ Below wr.heap.size wr W from fun W b => (by
        obtain ⟨g0, g1, g2, g3, g4, g5, g6, y0, y1, z0, z1⟩ := FG.out W (step_below BW.out b)
        exact ⟨⟨g0, g1, g2, g3, g4, g5, g6⟩, (b.cell (World.block_lt_of_cell? _ _ c1)).trans c1, b⟩))
      have D3 := Lib.hid (fun W (b : Below wr.heap.size wr W) => (b.cell (World.block_lt_of_cell? _ _ g1')).trans g1')
      have HLT := Lib.hid hlt
      clear hp hpV ho hsp hlen hb100 c1 g1' lp hF hfl hlt
      have hmx : Try.prog.follows .mixedOrders = true := by kernel_rfl
      go_wp2_with fail
      go_region_held3 (fun W => (W.cell? ⟨w.heap.size, 0, none⟩ = some (.int .i64 j.w) ∧ W.cell? ⟨w.heap.size, 1, none⟩ = some (.int .i64 j.l) ∧ W.cell? ⟨w.heap.size, 2, none⟩ = some (.int .i64 j.d) ∧ W.cell? ⟨w.heap.size, 3, none⟩ = some (.int .i64 j.c) ∧ W.cell? ⟨w.heap.size, 4, none⟩ = some (.int .i64 j.k) ∧ W.cell? ⟨w.heap.size, 5, none⟩ = some (.int .i64 j.e) ∧ W.cell? ⟨w.heap.size, 6, none⟩ = some (.slice j.a j.n j.cap)) ∧ W.cell? ⟨b1, o1 + m * 2, none⟩ = some (.int .i64 pt) ∧ Below wr.heap.size wr W)
        (first | (exact HQ.out _ (Below.refl _ _).drew) | (go_split_ands; exact HQ.out _ (step_below (by assumption) B5)) | (go_split_ands; exact HQ.out _ (by assumption)))
        (first | (go_at_call 42; refine (HOC.out _ (by go_split_ands; assumption)).mono ?_; rintro e w5 ⟨rfl, B5⟩))
      have B6 : Hid (Below wr.heap.size wr w5) := Lib.hid (by go_split_ands; assumption)
      have d3 := D3.out w5 B6.out
      go_wp2_with fail
      refine (HSP.out w5 B6.out).mono ?_; rintro e w6 ⟨fa, fc, ka, kc, rfl, lf, lk, B7⟩
      have HB7 := Lib.hid (step_below B6.out B7)
      have HBW7 := Lib.hid (step_below BW.out HB7.out)
      have LF := Lib.hid lf
      have LK := Lib.hid lk
      clear lf lk B7 d3
      obtain ⟨p1, hp1⟩ : ∃ p, R0[m + 1]? = some p := ⟨_, List.getElem?_eq_getElem (by have := HLEN.out.2.1; omega)⟩
      have hF1 := HFF.out
      rw [show ((R0.map P1.bs).getD (m + 1) []) = p1.bs by simp [List.getD, hp1]] at hF1
      obtain ⟨b2, o2, e2, c2, l2'⟩ := (FR.out w6 HBW7.out).1 (m + 1) p1 hp1
      subst e2
      have c3 : w6.cell? ⟨b2, o2 + (m + 1), none⟩ = some (.slice p1.ad fl p1.cap) := by rw [c2, P1.v, hF1, HFL.out]
      rw [hF1] at l2'
      have q1 : ∀ n, (convert 24 9 (.slice ka n0 kc)).run Try.prog (w6.drewN n) = .ok (.string (strOfNums K0)) (w6.drewN n) := fun n => kc2 (w6.drewN n) ka n0 kc K0 HLEN.out.1.1 LK.out.drewN
      have q2 : ∀ n, (convert 24 9 (.slice ka0 n0 c0)).run Try.prog (w6.drewN n) = .ok (.string (strOfNums K0)) (w6.drewN n) := fun n => kc2 (w6.drewN n) ka0 n0 c0 K0 HLEN.out.1.1 (FK.out w6 HBW7.out).1.drewN
      have q3 : ∀ n, (convert 24 9 (.slice fa fl fc)).run Try.prog (w6.drewN n) = .ok (.string (strOfNums F)) (w6.drewN n) := fun n => kc2 (w6.drewN n) fa fl fc F HFL.out LF.out.drewN
      have q4 : ∀ n, (convert 24 9 (.slice p1.ad fl p1.cap)).run Try.prog (w6.drewN n) = .ok (.string (strOfNums F)) (w6.drewN n) := fun n => kc2 (w6.drewN n) p1.ad fl p1.cap F HFL.out l2'.drewN
      obtain ⟨g0, g1, g2, g3, g4, g5, g6, y0, y1, z0, z1⟩ := FG.out _ HBW7.out
      have hww : IntKind.i64.wrap ((m : Int) + 1) = (m : Int) + 1 := IntWalk.i64_in _ (by omega)
      have hwn : ((m : Int) + 1).toNat = m + 1 := by omega
      have hw0 : (0 : Int) ≤ (m : Int) + 1 := by omega
      have hwm : ¬ (m0 : Int) ≤ (m : Int) + 1 := by omega
      have htt : (t != t) = false := by simp
      have hs1 : ((strOfNums K0).toList != (strOfNums K0).toList) = false := by simp
      have hs2 : ((strOfNums F).toList != (strOfNums F).toList) = false := by simp
      clear c2 l2' hp1 hF1
      go_wp2_with fail
      go_quiet ((go_at_call 35; exact Calls.quiet_of_same (num35q _ _)))
      clear q1 q2 q3 q4 hww hwn hw0 hwm htt hs1 hs2 c3 g0 g1 g2 g3 g4 g5 g6 y0 y1 z0 z1
      go_wp2_with fail
      go_loopw [20] (fun q wq => ∃ l : Nat, l ≤ l1 ∧ q = .int .i64 (l : Int) ∧ Hid (Below w4.heap.size w4 wq)) (fun q _ => l1 - (intOf q).toNat)
      case atStart => exact ⟨0, by omega, rfl, Lib.hid (below_drewN (step_below BR.out HB7.out) _)⟩
      case round =>
        obtain ⟨l, hl, rfl, BQ⟩ := hrel
        have BX := Lib.hid (step_below HB4.out BQ.out)
        by_cases hll : l < l1
        · have hli : (l : Int) < (l1 : Int) := by omega
          have hli2 : (l : Int) ≤ 2 := by omega
          obtain ⟨⟨qt, qv⟩, hq⟩ : ∃ p, L1[l]? = some p := ⟨_, List.getElem?_eq_getElem (by rw [← enS_length, HS1.out, HVL.out.2.1]; exact hll)⟩
          have hqV := enS_at HS1.out hq
          obtain ⟨b3, o3, e3, c3, g3', l3⟩ := HR1.out wr BQ.out l _ hq
          subst e3
          obtain ⟨b4, o4, e4, c4, g4', l4⟩ := HR0.out wr (step_below H34.out BQ.out) m _ HPP.out
          obtain ⟨rfl, rfl⟩ : b1 = b4 ∧ o1 = o4 := by simpa using e4
          have d1 : wr.cell? ⟨b1, o1 + m * 2, none⟩ = some (.int .i64 pt) := c4
          have d2 : wr.cell? ⟨b1, o1 + m * 2 + 1, none⟩ = some (.slice pv.ad pv.bs.length pv.cap) := g4'
          have d3 : wr.cell? ⟨b3, o3 + l * 2, none⟩ = some (.int .i64 qt) := c3
          have d4 : wr.cell? ⟨b3, o3 + l * 2 + 1, none⟩ = some (.slice qv.ad qv.bs.length qv.cap) := g3'
          have q1 : ∀ n, (convert 24 9 (.slice ka0 n0 c0)).run Try.prog (wr.drewN n) = .ok (.string (strOfNums K0)) (wr.drewN n) := fun n => kc2 (wr.drewN n) ka0 n0 c0 K0 HLEN.out.1.1 (FK.out wr BX.out).1.drewN
          have q2 : ∀ n, (convert 24 9 (.slice ka1 n1 c1)).run Try.prog (wr.drewN n) = .ok (.string (strOfNums K1)) (wr.drewN n) := fun n => kc2 (wr.drewN n) ka1 n1 c1 K1 HLEN.out.1.2 (FK.out wr BX.out).2.drewN
          obtain ⟨g0, g1, g2, g3, g4, g5, g6, y0, y1, z0, z1⟩ := FG.out _ BX.out
          have hund := HUN.out m l _ _ HPV.out hqV
          simp only at hund
          have BQV := Lib.hid (HBV1.out _ (List.mem_of_getElem? hqV)).1
          clear hq hqV c3 g3' c4 g4' e4
          by_cases hKK : K0 = K1
          · have hs1 : ((strOfNums K0).toList != (strOfNums K0).toList) = false := by simp
            rw [← hKK] at q2
            clear hKK hund
            go_wp2_with fail
            go_quiet (fail)
            go_wp2_with fail
            go_roundw
            case rel => exact ⟨l + 1, by omega, by go_num, Lib.hid (below_drewN BQ.out _)⟩
            case measure => simp [intOf]; omega
          · have hs1 := strneT HBYT.out.1.1 HBYT.out.1.2 hKK
            have hs0 := strneF HBYT.out.1.1 HBYT.out.1.2 hKK
            have hund2 := hund hKK
            clear hund hKK
            by_cases ht : pt = qt
            · subst ht
              have hpq : (pt == pt) = true := by simp
              have hs2 := strneF BP.out BQV.out (fun h => hund2 ⟨rfl, h⟩)
              have q3 : ∀ n, (convert 24 9 (.slice pv.ad pv.bs.length pv.cap)).run Try.prog (wr.drewN n) = .ok (.string (strOfNums pv.bs)) (wr.drewN n) := fun n => kc2 (wr.drewN n) pv.ad pv.bs.length pv.cap pv.bs rfl l4.drewN
              have q4 : ∀ n, (convert 24 9 (.slice qv.ad qv.bs.length qv.cap)).run Try.prog (wr.drewN n) = .ok (.string (strOfNums qv.bs)) (wr.drewN n) := fun n => kc2 (wr.drewN n) qv.ad qv.bs.length qv.cap qv.bs rfl l3.drewN
              clear hund2 l3 l4
              go_wp2_with fail
              go_quiet (fail)
              go_wp2_with fail
              go_roundw
              case rel => exact ⟨l + 1, by omega, by go_num, Lib.hid (below_drewN BQ.out _)⟩
              case measure => simp [intOf]; omega
            · have hpq : (pt == qt) = false := by simpa using ht
              clear hund2 ht l3 l4
              go_wp2_with fail
              go_quiet (fail)
              go_wp2_with fail
              go_roundw
              case rel => exact ⟨l + 1, by omega, by go_num, Lib.hid (below_drewN BQ.out _)⟩
              case measure => simp [intOf]; omega
        · have hli : ¬ (l : Int) < (l1 : Int) := by omega
          go_wp2_with fail
          go_roundw
          case rel => exact ⟨m + 1, by have := HLT.out; omega, by go_num, BQ⟩
          case measure => simp [intOf]; have := HLT.out; omega
    · as_aux_lemma =>
      have hkl : ¬ (m : Int) < (l0 : Int) := by omega
      have hl0i : (l0 : Int) ≤ 2 := by omega
      have hl2i : (l2 : Int) ≤ 2 := by omega
      have hgli : (gl : Int) ≤ 2 := by omega
      have hcli : (cl : Int) ≤ 2 := by omega
      obtain ⟨g0, g1, g2, g3, g4, g5, g6, y0, y1, z0, z1⟩ := FG.out _ BW.out
      go_wp2_with fail
      refine (HE2.out _ BW.out).mono ?_; rintro r w5 ⟨⟨a2, x2, L2, rfl, e2, r2⟩, B5⟩
      have HS2 := Lib.hid e2
      have HR2 := Lib.hid (fun W (b : Below w5.heap.size w5 W) => r2.below b)
      have H45 := Lib.hid (step_below BR.out B5)
      have HB5 := Lib.hid (step_below BW.out B5)
      clear e2 r2 B5 g0 g1 g2 g3 g4 g5 g6 y0 y1 z0 z1
      obtain ⟨g0, g1, g2, g3, g4, g5, g6, y0, y1, z0, z1⟩ := FG.out _ HB5.out
      go_wp2_with fail
      refine (HCH.out _ HB5.out).mono ?_; rintro r w6 ⟨⟨ag, ac, xg, xc, LG, LC, rfl, eg, rg, ec, rc⟩, B6⟩
      have HSG := Lib.hid eg
      have HSC := Lib.hid ec
      have HRG := Lib.hid (fun W (b : Below w6.heap.size w6 W) => rg.below b)
      have HRC := Lib.hid (fun W (b : Below w6.heap.size w6 W) => rc.below b)
      have H56 := Lib.hid B6
      have H46 := Lib.hid (step_below H45.out B6)
      have HB6 := Lib.hid (step_below HB5.out B6)
      clear eg rg ec rc B6 g0 g1 g2 g3 g4 g5 g6 y0 y1 z0 z1
      have hne : ((l0 : Int) - (gl : Int) + (cl : Int) != (l2 : Int)) = false := by
        have := HCNT.out
        rw [bne_eq_false_iff_eq]; omega
      go_wp2_with fail
      refine (num35 _ _).mono ?_; rintro r w' ⟨rfl, rfl⟩
      go_wp2_with fail
      refine (num35 _ _).mono ?_; rintro r w' ⟨rfl, rfl⟩
      go_wp2_with fail
      clear hne
      go_loopw [26] (fun i wr => ∃ q : Nat, q ≤ l2 ∧ i = .int .i64 (q : Int) ∧ Hid (Below w6.heap.size w6 wr)) (fun i _ => l2 - (intOf i).toNat)
      case atStart => exact ⟨0, by omega, rfl, Lib.hid (Below.refl _ _)⟩
      case round =>
        obtain ⟨q, hq, rfl, BR6⟩ := hrel
        by_cases hqt : q < l2
        · have hqi : (q : Int) < (l2 : Int) := by omega
          obtain ⟨⟨pt, pv⟩, hp⟩ : ∃ p, L2[q]? = some p := ⟨_, List.getElem?_eq_getElem (by rw [← enS_length, HS2.out, HVL.out.2.2.1]; exact hqt)⟩
          have hpV := enS_at HS2.out hp
          have hpm := List.mem_of_getElem? hpV
          obtain ⟨b1, o1, e1, c1, g1', lp⟩ := HR2.out wr (step_below H56.out BR6.out) q _ hp
          subst e1
          have BP := (HBV2.out _ hpm).1
          obtain ⟨hh, hhe⟩ : ∃ b, decide ((pt, pv.bs) ∈ V0) = b := ⟨_, rfl⟩
          have hT0 : Has1 wr pt pv.ad pv.bs.length pv.cap a0 l0 x0 hh := has1_mk HS0.out HVL.out.1 (by omega) HBV0.out BP (HR0.out wr (step_below (step_below H34.out H46.out) BR6.out)) lp hhe
          have hTG : Has1 wr pt pv.ad pv.bs.length pv.cap ag gl xg false := has1_mk HSG.out HVL.out.2.2.2.1 (by omega) hBG.out BP (HRG.out wr BR6.out) lp (decide_eq_false fun h => (mem_woS.1 h).2 hpm)
          have hTC : Has1 wr pt pv.ad pv.bs.length pv.cap ac cl xc (!hh) := has1_mk HSC.out HVL.out.2.2.2.2 (by omega) hBC.out BP (HRC.out wr BR6.out) lp (by
            rw [← hhe, Bool.eq_iff_iff]
            simp [mem_woS, hpm])
          have HT0 := Lib.hid hT0
          have HTG := Lib.hid hTG
          have HTC := Lib.hid hTC
          have d1 : wr.cell? ⟨b1, o1 + q * 2, none⟩ = some (.int .i64 pt) := c1
          have d2 : wr.cell? ⟨b1, o1 + q * 2 + 1, none⟩ = some (.slice pv.ad pv.bs.length pv.cap) := g1'
          have HQ := Lib.hid (show ∀ W, Below wr.heap.size wr W → W.cell? ⟨b1, o1 + q * 2, none⟩ = some (.int .i64 pt) ∧ W.cell? ⟨b1, o1 + q * 2 + 1, none⟩ = some (.slice pv.ad pv.bs.length pv.cap) ∧ Below wr.heap.size wr W from fun W b => ⟨(b.cell (World.block_lt_of_cell? _ _ d1)).trans d1, (b.cell (World.block_lt_of_cell? _ _ d2)).trans d2, b⟩)
          have hqlt := Lib.hid hqt
          clear hp hpV hpm c1 g1' lp BP hhe hT0 hTG hTC hqt
          have hmx : Try.prog.follows .mixedOrders = true := by kernel_rfl
          cases hh
          · go_wp2_with fail
            refine wp_region_held_drew (S := (fun W => W.cell? ⟨b1, o1 + q * 2, none⟩ = some (.int .i64 pt) ∧ W.cell? ⟨b1, o1 + q * 2 + 1, none⟩ = some (.slice pv.ad pv.bs.length pv.cap) ∧ Below wr.heap.size wr W)) (by kernel_rfl) (HQ.out _ (Below.refl _ _).drew) (fun hHeld => ?_)
            refine wpAnyH_take (i := 0) (oi := { dst := some 238, op := Op.move (Operand.tmp 9), type := 68, pos := "law.go:164", after := #[], guard := none }) (v := ?_) rfl (by kernel_rfl) (by kernel_rfl) (by kernel_rfl) (fun _ _ _ h => h) (Or.inl ⟨by rfl, ?_⟩) (by assumption) ?_
            rotate_left
            · intro W hSw; go_simp; try with_reducible rfl
            try simp only [Act.put, List.setIfInBounds_toArray, List.set_cons_zero, List.set_cons_succ]
            refine wpAnyH_take (i := 1) (oi := { dst := some 239, op := Op.move (Operand.tmp 21), type := 68, pos := "law.go:164", after := #[], guard := none }) (v := ?_) rfl (by kernel_rfl) (by kernel_rfl) (by kernel_rfl) (fun _ _ _ h => h) (Or.inl ⟨by rfl, ?_⟩) (by assumption) ?_
            rotate_left
            · intro W hSw; go_simp; try with_reducible rfl
            try simp only [Act.put, List.setIfInBounds_toArray, List.set_cons_zero, List.set_cons_succ]
            refine wpAnyH_take (i := 2) (oi := { dst := some 240, op := Op.move (Operand.tmp 26), type := 3, pos := "law.go:164", after := #[], guard := none }) (v := ?_) rfl (by kernel_rfl) (by kernel_rfl) (by kernel_rfl) (fun _ _ _ h => h) (Or.inl ⟨by rfl, ?_⟩) (by assumption) ?_
            rotate_left
            · intro W hSw; go_simp; try with_reducible rfl
            try simp only [Act.put, List.setIfInBounds_toArray, List.set_cons_zero, List.set_cons_succ]
            refine wpAnyH_take (i := 3) (oi := { dst := some 241, op := Op.indexAddr 68 (Operand.tmp 239) (Operand.tmp 240), type := 0, pos := "law.go:164", after := #[{ on := 1, ground := Ground.data }, { on := 2, ground := Ground.data }], guard := none }) (v := ?_) rfl (by kernel_rfl) (by kernel_rfl) (by kernel_rfl) (fun _ _ _ h => h) (Or.inl ⟨by rfl, ?_⟩) (by assumption) ?_
            rotate_left
            · intro W hSw; go_simp; try with_reducible rfl
            try simp only [Act.put, List.setIfInBounds_toArray, List.set_cons_zero, List.set_cons_succ]
            refine wpAnyH_take (i := 4) (oi := { dst := some 242, op := Op.load 91 (Operand.tmp 241), type := 91, pos := "law.go:164", after := #[{ on := 3, ground := Ground.data }], guard := none }) (v := ?_) rfl (by kernel_rfl) (by kernel_rfl) (by kernel_rfl) (fun _ _ _ h => h) (Or.inl ⟨by rfl, ?_⟩) (by assumption) ?_
            rotate_left
            · intro W hSw; obtain ⟨s1, s2, s3⟩ := hSw; go_simp; try with_reducible rfl
            try simp only [Act.put, List.setIfInBounds_toArray, List.set_cons_zero, List.set_cons_succ]
            refine wpAnyH_ready (rs := [5]) (by kernel_rfl) (by simp) ?_
            refine AllReadyH.cons (o := { dst := some 243, op := Op.call { callee := Callee.value (Operand.func 54), args := #[Operand.tmp 238, Operand.tmp 242], argTypes := #[68, 91] }, type := 4, pos := "law.go:164", after := #[{ on := 0, ground := Ground.data }, { on := 4, ground := Ground.data }], guard := none }) rfl (fun K hK => ?_) AllReadyH.nil
            go_simp
            refine (HT0.out.run _ hHeld.2.2).mono ?_; rintro r W5 ⟨rfl, B5⟩
            go_wp2_with fail
            refine hK.out _ _ (HQ.out _ (step_below hHeld.2.2 B5)) (fun hHeldn => ?_)
            clear hK K hHeld; have hHeld := hHeldn; clear hHeldn
            clear B5
            try simp only [Act.put, List.setIfInBounds_toArray, List.set_cons_zero, List.set_cons_succ]
            refine wpAnyH_take (i := 6) (oi := { dst := some 244, op := Op.move (Operand.tmp 243), type := 4, pos := "law.go:164", after := #[{ on := 5, ground := Ground.data }, { on := 5, ground := Ground.chain }], guard := none }) (v := ?_) rfl (by kernel_rfl) (by kernel_rfl) (by kernel_rfl) (fun _ _ _ h => h) (Or.inl ⟨by rfl, ?_⟩) (by assumption) ?_
            rotate_left
            · intro W hSw; go_simp; try with_reducible rfl
            try simp only [Act.put, List.setIfInBounds_toArray, List.set_cons_zero, List.set_cons_succ]
            refine wpAnyH_take (i := 7) (oi := { dst := some 245, op := Op.move (Operand.tmp 23), type := 68, pos := "law.go:164", after := #[{ on := 6, ground := Ground.guard }], guard := some (6, true) }) (v := undef) rfl (by kernel_rfl) (by kernel_rfl) (by kernel_rfl) (fun _ _ _ h => h) (Or.inr ⟨by rfl, rfl⟩) (by assumption) ?_
            try simp only [Act.put, List.setIfInBounds_toArray, List.set_cons_zero, List.set_cons_succ]
            refine wpAnyH_take (i := 8) (oi := { dst := some 246, op := Op.move (Operand.tmp 21), type := 68, pos := "law.go:164", after := #[{ on := 6, ground := Ground.guard }], guard := some (6, true) }) (v := undef) rfl (by kernel_rfl) (by kernel_rfl) (by kernel_rfl) (fun _ _ _ h => h) (Or.inr ⟨by rfl, rfl⟩) (by assumption) ?_
            try simp only [Act.put, List.setIfInBounds_toArray, List.set_cons_zero, List.set_cons_succ]
            refine wpAnyH_take (i := 9) (oi := { dst := some 247, op := Op.move (Operand.tmp 26), type := 3, pos := "law.go:164", after := #[{ on := 6, ground := Ground.guard }], guard := some (6, true) }) (v := undef) rfl (by kernel_rfl) (by kernel_rfl) (by kernel_rfl) (fun _ _ _ h => h) (Or.inr ⟨by rfl, rfl⟩) (by assumption) ?_
            try simp only [Act.put, List.setIfInBounds_toArray, List.set_cons_zero, List.set_cons_succ]
            refine wpAnyH_take (i := 10) (oi := { dst := some 248, op := Op.indexAddr 68 (Operand.tmp 246) (Operand.tmp 247), type := 0, pos := "law.go:164", after := #[{ on := 8, ground := Ground.data }, { on := 9, ground := Ground.data }, { on := 6, ground := Ground.guard }], guard := some (6, true) }) (v := undef) rfl (by kernel_rfl) (by kernel_rfl) (by kernel_rfl) (fun _ _ _ h => h) (Or.inr ⟨by rfl, rfl⟩) (by assumption) ?_
            try simp only [Act.put, List.setIfInBounds_toArray, List.set_cons_zero, List.set_cons_succ]
            refine wpAnyH_take (i := 11) (oi := { dst := some 249, op := Op.load 91 (Operand.tmp 248), type := 91, pos := "law.go:164", after := #[{ on := 10, ground := Ground.data }, { on := 6, ground := Ground.guard }], guard := some (6, true) }) (v := undef) rfl (by kernel_rfl) (by kernel_rfl) (by kernel_rfl) (fun _ _ _ h => h) (Or.inr ⟨by rfl, rfl⟩) (by assumption) ?_
            try simp only [Act.put, List.setIfInBounds_toArray, List.set_cons_zero, List.set_cons_succ]
            refine wpAnyH_take (i := 12) (oi := { dst := some 250, op := Op.call { callee := Callee.value (Operand.func 54), args := #[Operand.tmp 245, Operand.tmp 249], argTypes := #[68, 91] }, type := 4, pos := "law.go:164", after := #[{ on := 7, ground := Ground.data }, { on := 11, ground := Ground.data }, { on := 6, ground := Ground.chain }, { on := 6, ground := Ground.guard }], guard := some (6, true) }) (v := undef) rfl (by kernel_rfl) (by kernel_rfl) (by kernel_rfl) (fun _ _ _ h => h) (Or.inr ⟨by rfl, rfl⟩) (by assumption) ?_
            try simp only [Act.put, List.setIfInBounds_toArray, List.set_cons_zero, List.set_cons_succ]
            refine wpAnyH_take (i := 13) (oi := { dst := some 251, op := Op.unOp UnOp.not 4 (Operand.tmp 250), type := 4, pos := "law.go:164", after := #[{ on := 12, ground := Ground.data }, { on := 6, ground := Ground.guard }], guard := some (6, true) }) (v := undef) rfl (by kernel_rfl) (by kernel_rfl) (by kernel_rfl) (fun _ _ _ h => h) (Or.inr ⟨by rfl, rfl⟩) (by assumption) ?_
            try simp only [Act.put, List.setIfInBounds_toArray, List.set_cons_zero, List.set_cons_succ]
            refine wpAnyH_take (i := 14) (oi := { dst := some 252, op := Op.move (Operand.tmp 24), type := 68, pos := "law.go:164", after := #[{ on := 6, ground := Ground.guard }], guard := some (6, true) }) (v := undef) rfl (by kernel_rfl) (by kernel_rfl) (by kernel_rfl) (fun _ _ _ h => h) (Or.inr ⟨by rfl, rfl⟩) (by assumption) ?_
            try simp only [Act.put, List.setIfInBounds_toArray, List.set_cons_zero, List.set_cons_succ]
            refine wpAnyH_take (i := 15) (oi := { dst := some 253, op := Op.move (Operand.tmp 21), type := 68, pos := "law.go:164", after := #[{ on := 6, ground := Ground.guard }], guard := some (6, true) }) (v := undef) rfl (by kernel_rfl) (by kernel_rfl) (by kernel_rfl) (fun _ _ _ h => h) (Or.inr ⟨by rfl, rfl⟩) (by assumption) ?_
            try simp only [Act.put, List.setIfInBounds_toArray, List.set_cons_zero, List.set_cons_succ]
            refine wpAnyH_take (i := 16) (oi := { dst := some 254, op := Op.move (Operand.tmp 26), type := 3, pos := "law.go:164", after := #[{ on := 6, ground := Ground.guard }], guard := some (6, true) }) (v := undef) rfl (by kernel_rfl) (by kernel_rfl) (by kernel_rfl) (fun _ _ _ h => h) (Or.inr ⟨by rfl, rfl⟩) (by assumption) ?_
            try simp only [Act.put, List.setIfInBounds_toArray, List.set_cons_zero, List.set_cons_succ]
            refine wpAnyH_take (i := 17) (oi := { dst := some 255, op := Op.indexAddr 68 (Operand.tmp 253) (Operand.tmp 254), type := 0, pos := "law.go:164", after := #[{ on := 15, ground := Ground.data }, { on := 16, ground := Ground.data }, { on := 6, ground := Ground.guard }], guard := some (6, true) }) (v := undef) rfl (by kernel_rfl) (by kernel_rfl) (by kernel_rfl) (fun _ _ _ h => h) (Or.inr ⟨by rfl, rfl⟩) (by assumption) ?_
            try simp only [Act.put, List.setIfInBounds_toArray, List.set_cons_zero, List.set_cons_succ]
            refine wpAnyH_take (i := 18) (oi := { dst := some 256, op := Op.load 91 (Operand.tmp 255), type := 91, pos := "law.go:164", after := #[{ on := 17, ground := Ground.data }, { on := 6, ground := Ground.guard }], guard := some (6, true) }) (v := undef) rfl (by kernel_rfl) (by kernel_rfl) (by kernel_rfl) (fun _ _ _ h => h) (Or.inr ⟨by rfl, rfl⟩) (by assumption) ?_
            try simp only [Act.put, List.setIfInBounds_toArray, List.set_cons_zero, List.set_cons_succ]
            refine wpAnyH_take (i := 19) (oi := { dst := some 257, op := Op.call { callee := Callee.value (Operand.func 54), args := #[Operand.tmp 252, Operand.tmp 256], argTypes := #[68, 91] }, type := 4, pos := "law.go:164", after := #[{ on := 14, ground := Ground.data }, { on := 18, ground := Ground.data }, { on := 12, ground := Ground.chain }, { on := 6, ground := Ground.guard }], guard := some (6, true) }) (v := undef) rfl (by kernel_rfl) (by kernel_rfl) (by kernel_rfl) (fun _ _ _ h => h) (Or.inr ⟨by rfl, rfl⟩) (by assumption) ?_
            try simp only [Act.put, List.setIfInBounds_toArray, List.set_cons_zero, List.set_cons_succ]
            refine wpAnyH_take (i := 20) (oi := { dst := some 258, op := Op.binOp BinOp.eql 4 (Operand.tmp 251) (Operand.tmp 257) 4, type := 4, pos := "law.go:164", after := #[{ on := 13, ground := Ground.data }, { on := 19, ground := Ground.data }, { on := 6, ground := Ground.guard }], guard := some (6, true) }) (v := undef) rfl (by kernel_rfl) (by kernel_rfl) (by kernel_rfl) (fun _ _ _ h => h) (Or.inr ⟨by rfl, rfl⟩) (by assumption) ?_
            try simp only [Act.put, List.setIfInBounds_toArray, List.set_cons_zero, List.set_cons_succ]
            refine wpAnyH_take (i := 21) (oi := { dst := some 259, op := Op.pick (Operand.tmp 244) (Operand.tmp 258) (Operand.const (Value.bool false)), type := 4, pos := "law.go:164", after := #[{ on := 6, ground := Ground.data }, { on := 20, ground := Ground.data }], guard := none }) (v := ?_) rfl (by kernel_rfl) (by kernel_rfl) (by kernel_rfl) (fun _ _ _ h => h) (Or.inl ⟨by rfl, ?_⟩) (by assumption) ?_
            rotate_left
            · intro W hSw; go_simp; try with_reducible rfl
            try simp only [Act.put, List.setIfInBounds_toArray, List.set_cons_zero, List.set_cons_succ]
            refine wpAnyH_take (i := 22) (oi := { dst := some 260, op := Op.move (Operand.tmp 259), type := 4, pos := "law.go:164", after := #[{ on := 21, ground := Ground.data }, { on := 19, ground := Ground.chain }], guard := none }) (v := ?_) rfl (by kernel_rfl) (by kernel_rfl) (by kernel_rfl) (fun _ _ _ h => h) (Or.inl ⟨by rfl, ?_⟩) (by assumption) ?_
            rotate_left
            · intro W hSw; go_simp; try with_reducible rfl
            try simp only [Act.put, List.setIfInBounds_toArray, List.set_cons_zero, List.set_cons_succ]
            refine wpAnyH_take (i := 23) (oi := { dst := some 261, op := Op.move (Operand.tmp 9), type := 68, pos := "law.go:164", after := #[{ on := 22, ground := Ground.guard }], guard := some (22, false) }) (v := ?_) rfl (by kernel_rfl) (by kernel_rfl) (by kernel_rfl) (fun _ _ _ h => h) (Or.inl ⟨by rfl, ?_⟩) (by assumption) ?_
            rotate_left
            · intro W hSw; go_simp; try with_reducible rfl
            try simp only [Act.put, List.setIfInBounds_toArray, List.set_cons_zero, List.set_cons_succ]
            refine wpAnyH_take (i := 24) (oi := { dst := some 262, op := Op.move (Operand.tmp 21), type := 68, pos := "law.go:164", after := #[{ on := 22, ground := Ground.guard }], guard := some (22, false) }) (v := ?_) rfl (by kernel_rfl) (by kernel_rfl) (by kernel_rfl) (fun _ _ _ h => h) (Or.inl ⟨by rfl, ?_⟩) (by assumption) ?_
            rotate_left
            · intro W hSw; go_simp; try with_reducible rfl
            try simp only [Act.put, List.setIfInBounds_toArray, List.set_cons_zero, List.set_cons_succ]
            refine wpAnyH_take (i := 25) (oi := { dst := some 263, op := Op.move (Operand.tmp 26), type := 3, pos := "law.go:164", after := #[{ on := 22, ground := Ground.guard }], guard := some (22, false) }) (v := ?_) rfl (by kernel_rfl) (by kernel_rfl) (by kernel_rfl) (fun _ _ _ h => h) (Or.inl ⟨by rfl, ?_⟩) (by assumption) ?_
            rotate_left
            · intro W hSw; go_simp; try with_reducible rfl
            try simp only [Act.put, List.setIfInBounds_toArray, List.set_cons_zero, List.set_cons_succ]
            refine wpAnyH_take (i := 26) (oi := { dst := some 264, op := Op.indexAddr 68 (Operand.tmp 262) (Operand.tmp 263), type := 0, pos := "law.go:164", after := #[{ on := 24, ground := Ground.data }, { on := 25, ground := Ground.data }, { on := 22, ground := Ground.guard }], guard := some (22, false) }) (v := ?_) rfl (by kernel_rfl) (by kernel_rfl) (by kernel_rfl) (fun _ _ _ h => h) (Or.inl ⟨by rfl, ?_⟩) (by assumption) ?_
            rotate_left
            · intro W hSw; go_simp; try with_reducible rfl
            try simp only [Act.put, List.setIfInBounds_toArray, List.set_cons_zero, List.set_cons_succ]
            refine wpAnyH_take (i := 27) (oi := { dst := some 265, op := Op.load 91 (Operand.tmp 264), type := 91, pos := "law.go:164", after := #[{ on := 26, ground := Ground.data }, { on := 22, ground := Ground.guard }], guard := some (22, false) }) (v := ?_) rfl (by kernel_rfl) (by kernel_rfl) (by kernel_rfl) (fun _ _ _ h => h) (Or.inl ⟨by rfl, ?_⟩) (by assumption) ?_
            rotate_left
            · intro W hSw; obtain ⟨s1, s2, s3⟩ := hSw; go_simp; try with_reducible rfl
            try simp only [Act.put, List.setIfInBounds_toArray, List.set_cons_zero, List.set_cons_succ]
            refine wpAnyH_ready (rs := [28]) (by kernel_rfl) (by simp) ?_
            refine AllReadyH.cons (o := { dst := some 266, op := Op.call { callee := Callee.value (Operand.func 54), args := #[Operand.tmp 261, Operand.tmp 265], argTypes := #[68, 91] }, type := 4, pos := "law.go:164", after := #[{ on := 23, ground := Ground.data }, { on := 27, ground := Ground.data }, { on := 22, ground := Ground.chain }, { on := 22, ground := Ground.guard }], guard := some (22, false) }) rfl (fun K hK => ?_) AllReadyH.nil
            go_simp
            refine (HT0.out.run _ hHeld.2.2).mono ?_; rintro r W8 ⟨rfl, B5⟩
            go_wp2_with fail
            refine hK.out _ _ (HQ.out _ (step_below hHeld.2.2 B5)) (fun hHeldn => ?_)
            clear hK K hHeld; have hHeld := hHeldn; clear hHeldn
            clear B5
            try simp only [Act.put, List.setIfInBounds_toArray, List.set_cons_zero, List.set_cons_succ]
            refine wpAnyH_take (i := 29) (oi := { dst := some 267, op := Op.unOp UnOp.not 4 (Operand.tmp 266), type := 4, pos := "law.go:164", after := #[{ on := 28, ground := Ground.data }, { on := 22, ground := Ground.guard }], guard := some (22, false) }) (v := ?_) rfl (by kernel_rfl) (by kernel_rfl) (by kernel_rfl) (fun _ _ _ h => h) (Or.inl ⟨by rfl, ?_⟩) (by assumption) ?_
            rotate_left
            · intro W hSw; go_simp; try with_reducible rfl
            try simp only [Act.put, List.setIfInBounds_toArray, List.set_cons_zero, List.set_cons_succ]
            refine wpAnyH_take (i := 30) (oi := { dst := some 268, op := Op.move (Operand.tmp 267), type := 4, pos := "law.go:164", after := #[{ on := 29, ground := Ground.data }, { on := 28, ground := Ground.chain }, { on := 22, ground := Ground.guard }], guard := some (22, false) }) (v := ?_) rfl (by kernel_rfl) (by kernel_rfl) (by kernel_rfl) (fun _ _ _ h => h) (Or.inl ⟨by rfl, ?_⟩) (by assumption) ?_
            rotate_left
            · intro W hSw; go_simp; try with_reducible rfl
            try simp only [Act.put, List.setIfInBounds_toArray, List.set_cons_zero, List.set_cons_succ]
            refine wpAnyH_take (i := 31) (oi := { dst := some 269, op := Op.move (Operand.tmp 24), type := 68, pos := "law.go:164", after := #[{ on := 30, ground := Ground.guard }], guard := some (30, true) }) (v := ?_) rfl (by kernel_rfl) (by kernel_rfl) (by kernel_rfl) (fun _ _ _ h => h) (Or.inl ⟨by rfl, ?_⟩) (by assumption) ?_
            rotate_left
            · intro W hSw; go_simp; try with_reducible rfl
            try simp only [Act.put, List.setIfInBounds_toArray, List.set_cons_zero, List.set_cons_succ]
            refine wpAnyH_take (i := 32) (oi := { dst := some 270, op := Op.move (Operand.tmp 21), type := 68, pos := "law.go:164", after := #[{ on := 30, ground := Ground.guard }], guard := some (30, true) }) (v := ?_) rfl (by kernel_rfl) (by kernel_rfl) (by kernel_rfl) (fun _ _ _ h => h) (Or.inl ⟨by rfl, ?_⟩) (by assumption) ?_
            rotate_left
            · intro W hSw; go_simp; try with_reducible rfl
            try simp only [Act.put, List.setIfInBounds_toArray, List.set_cons_zero, List.set_cons_succ]
            refine wpAnyH_take (i := 33) (oi := { dst := some 271, op := Op.move (Operand.tmp 26), type := 3, pos := "law.go:164", after := #[{ on := 30, ground := Ground.guard }], guard := some (30, true) }) (v := ?_) rfl (by kernel_rfl) (by kernel_rfl) (by kernel_rfl) (fun _ _ _ h => h) (Or.inl ⟨by rfl, ?_⟩) (by assumption) ?_
            rotate_left
            · intro W hSw; go_simp; try with_reducible rfl
            try simp only [Act.put, List.setIfInBounds_toArray, List.set_cons_zero, List.set_cons_succ]
            refine wpAnyH_take (i := 34) (oi := { dst := some 272, op := Op.indexAddr 68 (Operand.tmp 270) (Operand.tmp 271), type := 0, pos := "law.go:164", after := #[{ on := 32, ground := Ground.data }, { on := 33, ground := Ground.data }, { on := 30, ground := Ground.guard }], guard := some (30, true) }) (v := ?_) rfl (by kernel_rfl) (by kernel_rfl) (by kernel_rfl) (fun _ _ _ h => h) (Or.inl ⟨by rfl, ?_⟩) (by assumption) ?_
            rotate_left
            · intro W hSw; go_simp; try with_reducible rfl
            try simp only [Act.put, List.setIfInBounds_toArray, List.set_cons_zero, List.set_cons_succ]
            refine wpAnyH_take (i := 35) (oi := { dst := some 273, op := Op.load 91 (Operand.tmp 272), type := 91, pos := "law.go:164", after := #[{ on := 34, ground := Ground.data }, { on := 30, ground := Ground.guard }], guard := some (30, true) }) (v := ?_) rfl (by kernel_rfl) (by kernel_rfl) (by kernel_rfl) (fun _ _ _ h => h) (Or.inl ⟨by rfl, ?_⟩) (by assumption) ?_
            rotate_left
            · intro W hSw; obtain ⟨s1, s2, s3⟩ := hSw; go_simp; try with_reducible rfl
            try simp only [Act.put, List.setIfInBounds_toArray, List.set_cons_zero, List.set_cons_succ]
            refine wpAnyH_ready (rs := [36]) (by kernel_rfl) (by simp) ?_
            refine AllReadyH.cons (o := { dst := some 274, op := Op.call { callee := Callee.value (Operand.func 54), args := #[Operand.tmp 269, Operand.tmp 273], argTypes := #[68, 91] }, type := 4, pos := "law.go:164", after := #[{ on := 31, ground := Ground.data }, { on := 35, ground := Ground.data }, { on := 30, ground := Ground.chain }, { on := 30, ground := Ground.guard }], guard := some (30, true) }) rfl (fun K hK => ?_) AllReadyH.nil
            go_simp
            refine (HTC.out.run _ hHeld.2.2).mono ?_; rintro r W9 ⟨rfl, B5⟩
            go_wp2_with fail
            refine hK.out _ _ (HQ.out _ (step_below hHeld.2.2 B5)) (fun hHeldn => ?_)
            clear hK K hHeld; have hHeld := hHeldn; clear hHeldn
            clear B5
            try simp only [Act.put, List.setIfInBounds_toArray, List.set_cons_zero, List.set_cons_succ]
            refine wpAnyH_take (i := 37) (oi := { dst := some 275, op := Op.unOp UnOp.not 4 (Operand.tmp 274), type := 4, pos := "law.go:164", after := #[{ on := 36, ground := Ground.data }, { on := 30, ground := Ground.guard }], guard := some (30, true) }) (v := ?_) rfl (by kernel_rfl) (by kernel_rfl) (by kernel_rfl) (fun _ _ _ h => h) (Or.inl ⟨by rfl, ?_⟩) (by assumption) ?_
            rotate_left
            · intro W hSw; go_simp; try with_reducible rfl
            try simp only [Act.put, List.setIfInBounds_toArray, List.set_cons_zero, List.set_cons_succ]
            refine wpAnyH_take (i := 38) (oi := { dst := some 276, op := Op.pick (Operand.tmp 268) (Operand.tmp 275) (Operand.const (Value.bool false)), type := 4, pos := "law.go:164", after := #[{ on := 30, ground := Ground.data }, { on := 37, ground := Ground.data }, { on := 22, ground := Ground.guard }], guard := some (22, false) }) (v := ?_) rfl (by kernel_rfl) (by kernel_rfl) (by kernel_rfl) (fun _ _ _ h => h) (Or.inl ⟨by rfl, ?_⟩) (by assumption) ?_
            rotate_left
            · intro W hSw; go_simp; try with_reducible rfl
            try simp only [Act.put, List.setIfInBounds_toArray, List.set_cons_zero, List.set_cons_succ]
            refine wpAnyH_take (i := 39) (oi := { dst := some 277, op := Op.pick (Operand.tmp 260) (Operand.const (Value.bool true)) (Operand.tmp 276), type := 4, pos := "law.go:164", after := #[{ on := 22, ground := Ground.data }, { on := 38, ground := Ground.data }], guard := none }) (v := ?_) rfl (by kernel_rfl) (by kernel_rfl) (by kernel_rfl) (fun _ _ _ h => h) (Or.inl ⟨by rfl, ?_⟩) (by assumption) ?_
            rotate_left
            · intro W hSw; go_simp; try with_reducible rfl
            try simp only [Act.put, List.setIfInBounds_toArray, List.set_cons_zero, List.set_cons_succ]
            refine wpAnyH_done (by kernel_rfl) ?_ _
            have HBn := Lib.hid (step_below BR6.out hHeld.2.2)
            clear hHeld
            go_wp2_with fail
            go_roundw
            case rel => exact ⟨q + 1, by have := hqlt.out; omega, by go_num, HBn⟩
            case measure => simp [intOf]; have := hqlt.out; omega
          · go_wp2_with fail
            refine wp_region_held_drew (S := (fun W => W.cell? ⟨b1, o1 + q * 2, none⟩ = some (.int .i64 pt) ∧ W.cell? ⟨b1, o1 + q * 2 + 1, none⟩ = some (.slice pv.ad pv.bs.length pv.cap) ∧ Below wr.heap.size wr W)) (by kernel_rfl) (HQ.out _ (Below.refl _ _).drew) (fun hHeld => ?_)
            refine wpAnyH_take (i := 0) (oi := { dst := some 238, op := Op.move (Operand.tmp 9), type := 68, pos := "law.go:164", after := #[], guard := none }) (v := ?_) rfl (by kernel_rfl) (by kernel_rfl) (by kernel_rfl) (fun _ _ _ h => h) (Or.inl ⟨by rfl, ?_⟩) (by assumption) ?_
            rotate_left
            · intro W hSw; go_simp; try with_reducible rfl
            try simp only [Act.put, List.setIfInBounds_toArray, List.set_cons_zero, List.set_cons_succ]
            refine wpAnyH_take (i := 1) (oi := { dst := some 239, op := Op.move (Operand.tmp 21), type := 68, pos := "law.go:164", after := #[], guard := none }) (v := ?_) rfl (by kernel_rfl) (by kernel_rfl) (by kernel_rfl) (fun _ _ _ h => h) (Or.inl ⟨by rfl, ?_⟩) (by assumption) ?_
            rotate_left
            · intro W hSw; go_simp; try with_reducible rfl
            try simp only [Act.put, List.setIfInBounds_toArray, List.set_cons_zero, List.set_cons_succ]
            refine wpAnyH_take (i := 2) (oi := { dst := some 240, op := Op.move (Operand.tmp 26), type := 3, pos := "law.go:164", after := #[], guard := none }) (v := ?_) rfl (by kernel_rfl) (by kernel_rfl) (by kernel_rfl) (fun _ _ _ h => h) (Or.inl ⟨by rfl, ?_⟩) (by assumption) ?_
            rotate_left
            · intro W hSw; go_simp; try with_reducible rfl
            try simp only [Act.put, List.setIfInBounds_toArray, List.set_cons_zero, List.set_cons_succ]
            refine wpAnyH_take (i := 3) (oi := { dst := some 241, op := Op.indexAddr 68 (Operand.tmp 239) (Operand.tmp 240), type := 0, pos := "law.go:164", after := #[{ on := 1, ground := Ground.data }, { on := 2, ground := Ground.data }], guard := none }) (v := ?_) rfl (by kernel_rfl) (by kernel_rfl) (by kernel_rfl) (fun _ _ _ h => h) (Or.inl ⟨by rfl, ?_⟩) (by assumption) ?_
            rotate_left
            · intro W hSw; go_simp; try with_reducible rfl
            try simp only [Act.put, List.setIfInBounds_toArray, List.set_cons_zero, List.set_cons_succ]
            refine wpAnyH_take (i := 4) (oi := { dst := some 242, op := Op.load 91 (Operand.tmp 241), type := 91, pos := "law.go:164", after := #[{ on := 3, ground := Ground.data }], guard := none }) (v := ?_) rfl (by kernel_rfl) (by kernel_rfl) (by kernel_rfl) (fun _ _ _ h => h) (Or.inl ⟨by rfl, ?_⟩) (by assumption) ?_
            rotate_left
            · intro W hSw; obtain ⟨s1, s2, s3⟩ := hSw; go_simp; try with_reducible rfl
            try simp only [Act.put, List.setIfInBounds_toArray, List.set_cons_zero, List.set_cons_succ]
            refine wpAnyH_ready (rs := [5]) (by kernel_rfl) (by simp) ?_
            refine AllReadyH.cons (o := { dst := some 243, op := Op.call { callee := Callee.value (Operand.func 54), args := #[Operand.tmp 238, Operand.tmp 242], argTypes := #[68, 91] }, type := 4, pos := "law.go:164", after := #[{ on := 0, ground := Ground.data }, { on := 4, ground := Ground.data }], guard := none }) rfl (fun K hK => ?_) AllReadyH.nil
            go_simp
            refine (HT0.out.run _ hHeld.2.2).mono ?_; rintro r W5 ⟨rfl, B5⟩
            go_wp2_with fail
            refine hK.out _ _ (HQ.out _ (step_below hHeld.2.2 B5)) (fun hHeldn => ?_)
            clear hK K hHeld; have hHeld := hHeldn; clear hHeldn
            clear B5
            try simp only [Act.put, List.setIfInBounds_toArray, List.set_cons_zero, List.set_cons_succ]
            refine wpAnyH_take (i := 6) (oi := { dst := some 244, op := Op.move (Operand.tmp 243), type := 4, pos := "law.go:164", after := #[{ on := 5, ground := Ground.data }, { on := 5, ground := Ground.chain }], guard := none }) (v := ?_) rfl (by kernel_rfl) (by kernel_rfl) (by kernel_rfl) (fun _ _ _ h => h) (Or.inl ⟨by rfl, ?_⟩) (by assumption) ?_
            rotate_left
            · intro W hSw; go_simp; try with_reducible rfl
            try simp only [Act.put, List.setIfInBounds_toArray, List.set_cons_zero, List.set_cons_succ]
            refine wpAnyH_take (i := 7) (oi := { dst := some 245, op := Op.move (Operand.tmp 23), type := 68, pos := "law.go:164", after := #[{ on := 6, ground := Ground.guard }], guard := some (6, true) }) (v := ?_) rfl (by kernel_rfl) (by kernel_rfl) (by kernel_rfl) (fun _ _ _ h => h) (Or.inl ⟨by rfl, ?_⟩) (by assumption) ?_
            rotate_left
            · intro W hSw; go_simp; try with_reducible rfl
            try simp only [Act.put, List.setIfInBounds_toArray, List.set_cons_zero, List.set_cons_succ]
            refine wpAnyH_take (i := 8) (oi := { dst := some 246, op := Op.move (Operand.tmp 21), type := 68, pos := "law.go:164", after := #[{ on := 6, ground := Ground.guard }], guard := some (6, true) }) (v := ?_) rfl (by kernel_rfl) (by kernel_rfl) (by kernel_rfl) (fun _ _ _ h => h) (Or.inl ⟨by rfl, ?_⟩) (by assumption) ?_
            rotate_left
            · intro W hSw; go_simp; try with_reducible rfl
            try simp only [Act.put, List.setIfInBounds_toArray, List.set_cons_zero, List.set_cons_succ]
            refine wpAnyH_take (i := 9) (oi := { dst := some 247, op := Op.move (Operand.tmp 26), type := 3, pos := "law.go:164", after := #[{ on := 6, ground := Ground.guard }], guard := some (6, true) }) (v := ?_) rfl (by kernel_rfl) (by kernel_rfl) (by kernel_rfl) (fun _ _ _ h => h) (Or.inl ⟨by rfl, ?_⟩) (by assumption) ?_
            rotate_left
            · intro W hSw; go_simp; try with_reducible rfl
            try simp only [Act.put, List.setIfInBounds_toArray, List.set_cons_zero, List.set_cons_succ]
            refine wpAnyH_take (i := 10) (oi := { dst := some 248, op := Op.indexAddr 68 (Operand.tmp 246) (Operand.tmp 247), type := 0, pos := "law.go:164", after := #[{ on := 8, ground := Ground.data }, { on := 9, ground := Ground.data }, { on := 6, ground := Ground.guard }], guard := some (6, true) }) (v := ?_) rfl (by kernel_rfl) (by kernel_rfl) (by kernel_rfl) (fun _ _ _ h => h) (Or.inl ⟨by rfl, ?_⟩) (by assumption) ?_
            rotate_left
            · intro W hSw; go_simp; try with_reducible rfl
            try simp only [Act.put, List.setIfInBounds_toArray, List.set_cons_zero, List.set_cons_succ]
            refine wpAnyH_take (i := 11) (oi := { dst := some 249, op := Op.load 91 (Operand.tmp 248), type := 91, pos := "law.go:164", after := #[{ on := 10, ground := Ground.data }, { on := 6, ground := Ground.guard }], guard := some (6, true) }) (v := ?_) rfl (by kernel_rfl) (by kernel_rfl) (by kernel_rfl) (fun _ _ _ h => h) (Or.inl ⟨by rfl, ?_⟩) (by assumption) ?_
            rotate_left
            · intro W hSw; obtain ⟨s1, s2, s3⟩ := hSw; go_simp; try with_reducible rfl
            try simp only [Act.put, List.setIfInBounds_toArray, List.set_cons_zero, List.set_cons_succ]
            refine wpAnyH_take (i := 14) (oi := { dst := some 252, op := Op.move (Operand.tmp 24), type := 68, pos := "law.go:164", after := #[{ on := 6, ground := Ground.guard }], guard := some (6, true) }) (v := ?_) rfl (by kernel_rfl) (by kernel_rfl) (by kernel_rfl) (fun _ _ _ h => h) (Or.inl ⟨by rfl, ?_⟩) (by assumption) ?_
            rotate_left
            · intro W hSw; go_simp; try with_reducible rfl
            try simp only [Act.put, List.setIfInBounds_toArray, List.set_cons_zero, List.set_cons_succ]
            refine wpAnyH_take (i := 15) (oi := { dst := some 253, op := Op.move (Operand.tmp 21), type := 68, pos := "law.go:164", after := #[{ on := 6, ground := Ground.guard }], guard := some (6, true) }) (v := ?_) rfl (by kernel_rfl) (by kernel_rfl) (by kernel_rfl) (fun _ _ _ h => h) (Or.inl ⟨by rfl, ?_⟩) (by assumption) ?_
            rotate_left
            · intro W hSw; go_simp; try with_reducible rfl
            try simp only [Act.put, List.setIfInBounds_toArray, List.set_cons_zero, List.set_cons_succ]
            refine wpAnyH_take (i := 16) (oi := { dst := some 254, op := Op.move (Operand.tmp 26), type := 3, pos := "law.go:164", after := #[{ on := 6, ground := Ground.guard }], guard := some (6, true) }) (v := ?_) rfl (by kernel_rfl) (by kernel_rfl) (by kernel_rfl) (fun _ _ _ h => h) (Or.inl ⟨by rfl, ?_⟩) (by assumption) ?_
            rotate_left
            · intro W hSw; go_simp; try with_reducible rfl
            try simp only [Act.put, List.setIfInBounds_toArray, List.set_cons_zero, List.set_cons_succ]
            refine wpAnyH_take (i := 17) (oi := { dst := some 255, op := Op.indexAddr 68 (Operand.tmp 253) (Operand.tmp 254), type := 0, pos := "law.go:164", after := #[{ on := 15, ground := Ground.data }, { on := 16, ground := Ground.data }, { on := 6, ground := Ground.guard }], guard := some (6, true) }) (v := ?_) rfl (by kernel_rfl) (by kernel_rfl) (by kernel_rfl) (fun _ _ _ h => h) (Or.inl ⟨by rfl, ?_⟩) (by assumption) ?_
            rotate_left
            · intro W hSw; go_simp; try with_reducible rfl
            try simp only [Act.put, List.setIfInBounds_toArray, List.set_cons_zero, List.set_cons_succ]
            refine wpAnyH_take (i := 18) (oi := { dst := some 256, op := Op.load 91 (Operand.tmp 255), type := 91, pos := "law.go:164", after := #[{ on := 17, ground := Ground.data }, { on := 6, ground := Ground.guard }], guard := some (6, true) }) (v := ?_) rfl (by kernel_rfl) (by kernel_rfl) (by kernel_rfl) (fun _ _ _ h => h) (Or.inl ⟨by rfl, ?_⟩) (by assumption) ?_
            rotate_left
            · intro W hSw; obtain ⟨s1, s2, s3⟩ := hSw; go_simp; try with_reducible rfl
            try simp only [Act.put, List.setIfInBounds_toArray, List.set_cons_zero, List.set_cons_succ]
            refine wpAnyH_ready (rs := [12]) (by kernel_rfl) (by simp) ?_
            refine AllReadyH.cons (o := { dst := some 250, op := Op.call { callee := Callee.value (Operand.func 54), args := #[Operand.tmp 245, Operand.tmp 249], argTypes := #[68, 91] }, type := 4, pos := "law.go:164", after := #[{ on := 7, ground := Ground.data }, { on := 11, ground := Ground.data }, { on := 6, ground := Ground.chain }, { on := 6, ground := Ground.guard }], guard := some (6, true) }) rfl (fun K hK => ?_) AllReadyH.nil
            go_simp
            refine (HTG.out.run _ hHeld.2.2).mono ?_; rintro r W6 ⟨rfl, B5⟩
            go_wp2_with fail
            refine hK.out _ _ (HQ.out _ (step_below hHeld.2.2 B5)) (fun hHeldn => ?_)
            clear hK K hHeld; have hHeld := hHeldn; clear hHeldn
            clear B5
            try simp only [Act.put, List.setIfInBounds_toArray, List.set_cons_zero, List.set_cons_succ]
            refine wpAnyH_take (i := 13) (oi := { dst := some 251, op := Op.unOp UnOp.not 4 (Operand.tmp 250), type := 4, pos := "law.go:164", after := #[{ on := 12, ground := Ground.data }, { on := 6, ground := Ground.guard }], guard := some (6, true) }) (v := ?_) rfl (by kernel_rfl) (by kernel_rfl) (by kernel_rfl) (fun _ _ _ h => h) (Or.inl ⟨by rfl, ?_⟩) (by assumption) ?_
            rotate_left
            · intro W hSw; go_simp; try with_reducible rfl
            try simp only [Act.put, List.setIfInBounds_toArray, List.set_cons_zero, List.set_cons_succ]
            refine wpAnyH_ready (rs := [19]) (by kernel_rfl) (by simp) ?_
            refine AllReadyH.cons (o := { dst := some 257, op := Op.call { callee := Callee.value (Operand.func 54), args := #[Operand.tmp 252, Operand.tmp 256], argTypes := #[68, 91] }, type := 4, pos := "law.go:164", after := #[{ on := 14, ground := Ground.data }, { on := 18, ground := Ground.data }, { on := 12, ground := Ground.chain }, { on := 6, ground := Ground.guard }], guard := some (6, true) }) rfl (fun K hK => ?_) AllReadyH.nil
            go_simp
            refine (HTC.out.run _ hHeld.2.2).mono ?_; rintro r W7 ⟨rfl, B5⟩
            go_wp2_with fail
            refine hK.out _ _ (HQ.out _ (step_below hHeld.2.2 B5)) (fun hHeldn => ?_)
            clear hK K hHeld; have hHeld := hHeldn; clear hHeldn
            clear B5
            try simp only [Act.put, List.setIfInBounds_toArray, List.set_cons_zero, List.set_cons_succ]
            refine wpAnyH_take (i := 20) (oi := { dst := some 258, op := Op.binOp BinOp.eql 4 (Operand.tmp 251) (Operand.tmp 257) 4, type := 4, pos := "law.go:164", after := #[{ on := 13, ground := Ground.data }, { on := 19, ground := Ground.data }, { on := 6, ground := Ground.guard }], guard := some (6, true) }) (v := ?_) rfl (by kernel_rfl) (by kernel_rfl) (by kernel_rfl) (fun _ _ _ h => h) (Or.inl ⟨by rfl, ?_⟩) (by assumption) ?_
            rotate_left
            · intro W hSw; go_simp; try with_reducible rfl
            try simp only [Act.put, List.setIfInBounds_toArray, List.set_cons_zero, List.set_cons_succ]
            refine wpAnyH_take (i := 21) (oi := { dst := some 259, op := Op.pick (Operand.tmp 244) (Operand.tmp 258) (Operand.const (Value.bool false)), type := 4, pos := "law.go:164", after := #[{ on := 6, ground := Ground.data }, { on := 20, ground := Ground.data }], guard := none }) (v := ?_) rfl (by kernel_rfl) (by kernel_rfl) (by kernel_rfl) (fun _ _ _ h => h) (Or.inl ⟨by rfl, ?_⟩) (by assumption) ?_
            rotate_left
            · intro W hSw; go_simp; try with_reducible rfl
            try simp only [Act.put, List.setIfInBounds_toArray, List.set_cons_zero, List.set_cons_succ]
            refine wpAnyH_take (i := 22) (oi := { dst := some 260, op := Op.move (Operand.tmp 259), type := 4, pos := "law.go:164", after := #[{ on := 21, ground := Ground.data }, { on := 19, ground := Ground.chain }], guard := none }) (v := ?_) rfl (by kernel_rfl) (by kernel_rfl) (by kernel_rfl) (fun _ _ _ h => h) (Or.inl ⟨by rfl, ?_⟩) (by assumption) ?_
            rotate_left
            · intro W hSw; go_simp; try with_reducible rfl
            try simp only [Act.put, List.setIfInBounds_toArray, List.set_cons_zero, List.set_cons_succ]
            refine wpAnyH_take (i := 23) (oi := { dst := some 261, op := Op.move (Operand.tmp 9), type := 68, pos := "law.go:164", after := #[{ on := 22, ground := Ground.guard }], guard := some (22, false) }) (v := ?_) rfl (by kernel_rfl) (by kernel_rfl) (by kernel_rfl) (fun _ _ _ h => h) (Or.inl ⟨by rfl, ?_⟩) (by assumption) ?_
            rotate_left
            · intro W hSw; go_simp; try with_reducible rfl
            try simp only [Act.put, List.setIfInBounds_toArray, List.set_cons_zero, List.set_cons_succ]
            refine wpAnyH_take (i := 24) (oi := { dst := some 262, op := Op.move (Operand.tmp 21), type := 68, pos := "law.go:164", after := #[{ on := 22, ground := Ground.guard }], guard := some (22, false) }) (v := ?_) rfl (by kernel_rfl) (by kernel_rfl) (by kernel_rfl) (fun _ _ _ h => h) (Or.inl ⟨by rfl, ?_⟩) (by assumption) ?_
            rotate_left
            · intro W hSw; go_simp; try with_reducible rfl
            try simp only [Act.put, List.setIfInBounds_toArray, List.set_cons_zero, List.set_cons_succ]
            refine wpAnyH_take (i := 25) (oi := { dst := some 263, op := Op.move (Operand.tmp 26), type := 3, pos := "law.go:164", after := #[{ on := 22, ground := Ground.guard }], guard := some (22, false) }) (v := ?_) rfl (by kernel_rfl) (by kernel_rfl) (by kernel_rfl) (fun _ _ _ h => h) (Or.inl ⟨by rfl, ?_⟩) (by assumption) ?_
            rotate_left
            · intro W hSw; go_simp; try with_reducible rfl
            try simp only [Act.put, List.setIfInBounds_toArray, List.set_cons_zero, List.set_cons_succ]
            refine wpAnyH_take (i := 26) (oi := { dst := some 264, op := Op.indexAddr 68 (Operand.tmp 262) (Operand.tmp 263), type := 0, pos := "law.go:164", after := #[{ on := 24, ground := Ground.data }, { on := 25, ground := Ground.data }, { on := 22, ground := Ground.guard }], guard := some (22, false) }) (v := ?_) rfl (by kernel_rfl) (by kernel_rfl) (by kernel_rfl) (fun _ _ _ h => h) (Or.inl ⟨by rfl, ?_⟩) (by assumption) ?_
            rotate_left
            · intro W hSw; go_simp; try with_reducible rfl
            try simp only [Act.put, List.setIfInBounds_toArray, List.set_cons_zero, List.set_cons_succ]
            refine wpAnyH_take (i := 27) (oi := { dst := some 265, op := Op.load 91 (Operand.tmp 264), type := 91, pos := "law.go:164", after := #[{ on := 26, ground := Ground.data }, { on := 22, ground := Ground.guard }], guard := some (22, false) }) (v := ?_) rfl (by kernel_rfl) (by kernel_rfl) (by kernel_rfl) (fun _ _ _ h => h) (Or.inl ⟨by rfl, ?_⟩) (by assumption) ?_
            rotate_left
            · intro W hSw; obtain ⟨s1, s2, s3⟩ := hSw; go_simp; try with_reducible rfl
            try simp only [Act.put, List.setIfInBounds_toArray, List.set_cons_zero, List.set_cons_succ]
            refine wpAnyH_ready (rs := [28]) (by kernel_rfl) (by simp) ?_
            refine AllReadyH.cons (o := { dst := some 266, op := Op.call { callee := Callee.value (Operand.func 54), args := #[Operand.tmp 261, Operand.tmp 265], argTypes := #[68, 91] }, type := 4, pos := "law.go:164", after := #[{ on := 23, ground := Ground.data }, { on := 27, ground := Ground.data }, { on := 22, ground := Ground.chain }, { on := 22, ground := Ground.guard }], guard := some (22, false) }) rfl (fun K hK => ?_) AllReadyH.nil
            go_simp
            refine (HT0.out.run _ hHeld.2.2).mono ?_; rintro r W8 ⟨rfl, B5⟩
            go_wp2_with fail
            refine hK.out _ _ (HQ.out _ (step_below hHeld.2.2 B5)) (fun hHeldn => ?_)
            clear hK K hHeld; have hHeld := hHeldn; clear hHeldn
            clear B5
            try simp only [Act.put, List.setIfInBounds_toArray, List.set_cons_zero, List.set_cons_succ]
            refine wpAnyH_take (i := 29) (oi := { dst := some 267, op := Op.unOp UnOp.not 4 (Operand.tmp 266), type := 4, pos := "law.go:164", after := #[{ on := 28, ground := Ground.data }, { on := 22, ground := Ground.guard }], guard := some (22, false) }) (v := ?_) rfl (by kernel_rfl) (by kernel_rfl) (by kernel_rfl) (fun _ _ _ h => h) (Or.inl ⟨by rfl, ?_⟩) (by assumption) ?_
            rotate_left
            · intro W hSw; go_simp; try with_reducible rfl
            try simp only [Act.put, List.setIfInBounds_toArray, List.set_cons_zero, List.set_cons_succ]
            refine wpAnyH_take (i := 30) (oi := { dst := some 268, op := Op.move (Operand.tmp 267), type := 4, pos := "law.go:164", after := #[{ on := 29, ground := Ground.data }, { on := 28, ground := Ground.chain }, { on := 22, ground := Ground.guard }], guard := some (22, false) }) (v := ?_) rfl (by kernel_rfl) (by kernel_rfl) (by kernel_rfl) (fun _ _ _ h => h) (Or.inl ⟨by rfl, ?_⟩) (by assumption) ?_
            rotate_left
            · intro W hSw; go_simp; try with_reducible rfl
            try simp only [Act.put, List.setIfInBounds_toArray, List.set_cons_zero, List.set_cons_succ]
            refine wpAnyH_take (i := 31) (oi := { dst := some 269, op := Op.move (Operand.tmp 24), type := 68, pos := "law.go:164", after := #[{ on := 30, ground := Ground.guard }], guard := some (30, true) }) (v := undef) rfl (by kernel_rfl) (by kernel_rfl) (by kernel_rfl) (fun _ _ _ h => h) (Or.inr ⟨by rfl, rfl⟩) (by assumption) ?_
            try simp only [Act.put, List.setIfInBounds_toArray, List.set_cons_zero, List.set_cons_succ]
            refine wpAnyH_take (i := 32) (oi := { dst := some 270, op := Op.move (Operand.tmp 21), type := 68, pos := "law.go:164", after := #[{ on := 30, ground := Ground.guard }], guard := some (30, true) }) (v := undef) rfl (by kernel_rfl) (by kernel_rfl) (by kernel_rfl) (fun _ _ _ h => h) (Or.inr ⟨by rfl, rfl⟩) (by assumption) ?_
            try simp only [Act.put, List.setIfInBounds_toArray, List.set_cons_zero, List.set_cons_succ]
            refine wpAnyH_take (i := 33) (oi := { dst := some 271, op := Op.move (Operand.tmp 26), type := 3, pos := "law.go:164", after := #[{ on := 30, ground := Ground.guard }], guard := some (30, true) }) (v := undef) rfl (by kernel_rfl) (by kernel_rfl) (by kernel_rfl) (fun _ _ _ h => h) (Or.inr ⟨by rfl, rfl⟩) (by assumption) ?_
            try simp only [Act.put, List.setIfInBounds_toArray, List.set_cons_zero, List.set_cons_succ]
            refine wpAnyH_take (i := 34) (oi := { dst := some 272, op := Op.indexAddr 68 (Operand.tmp 270) (Operand.tmp 271), type := 0, pos := "law.go:164", after := #[{ on := 32, ground := Ground.data }, { on := 33, ground := Ground.data }, { on := 30, ground := Ground.guard }], guard := some (30, true) }) (v := undef) rfl (by kernel_rfl) (by kernel_rfl) (by kernel_rfl) (fun _ _ _ h => h) (Or.inr ⟨by rfl, rfl⟩) (by assumption) ?_
            try simp only [Act.put, List.setIfInBounds_toArray, List.set_cons_zero, List.set_cons_succ]
            refine wpAnyH_take (i := 35) (oi := { dst := some 273, op := Op.load 91 (Operand.tmp 272), type := 91, pos := "law.go:164", after := #[{ on := 34, ground := Ground.data }, { on := 30, ground := Ground.guard }], guard := some (30, true) }) (v := undef) rfl (by kernel_rfl) (by kernel_rfl) (by kernel_rfl) (fun _ _ _ h => h) (Or.inr ⟨by rfl, rfl⟩) (by assumption) ?_
            try simp only [Act.put, List.setIfInBounds_toArray, List.set_cons_zero, List.set_cons_succ]
            refine wpAnyH_take (i := 36) (oi := { dst := some 274, op := Op.call { callee := Callee.value (Operand.func 54), args := #[Operand.tmp 269, Operand.tmp 273], argTypes := #[68, 91] }, type := 4, pos := "law.go:164", after := #[{ on := 31, ground := Ground.data }, { on := 35, ground := Ground.data }, { on := 30, ground := Ground.chain }, { on := 30, ground := Ground.guard }], guard := some (30, true) }) (v := undef) rfl (by kernel_rfl) (by kernel_rfl) (by kernel_rfl) (fun _ _ _ h => h) (Or.inr ⟨by rfl, rfl⟩) (by assumption) ?_
            try simp only [Act.put, List.setIfInBounds_toArray, List.set_cons_zero, List.set_cons_succ]
            refine wpAnyH_take (i := 37) (oi := { dst := some 275, op := Op.unOp UnOp.not 4 (Operand.tmp 274), type := 4, pos := "law.go:164", after := #[{ on := 36, ground := Ground.data }, { on := 30, ground := Ground.guard }], guard := some (30, true) }) (v := undef) rfl (by kernel_rfl) (by kernel_rfl) (by kernel_rfl) (fun _ _ _ h => h) (Or.inr ⟨by rfl, rfl⟩) (by assumption) ?_
            try simp only [Act.put, List.setIfInBounds_toArray, List.set_cons_zero, List.set_cons_succ]
            refine wpAnyH_take (i := 38) (oi := { dst := some 276, op := Op.pick (Operand.tmp 268) (Operand.tmp 275) (Operand.const (Value.bool false)), type := 4, pos := "law.go:164", after := #[{ on := 30, ground := Ground.data }, { on := 37, ground := Ground.data }, { on := 22, ground := Ground.guard }], guard := some (22, false) }) (v := ?_) rfl (by kernel_rfl) (by kernel_rfl) (by kernel_rfl) (fun _ _ _ h => h) (Or.inl ⟨by rfl, ?_⟩) (by assumption) ?_
            rotate_left
            · intro W hSw; go_simp; try with_reducible rfl
            try simp only [Act.put, List.setIfInBounds_toArray, List.set_cons_zero, List.set_cons_succ]
            refine wpAnyH_take (i := 39) (oi := { dst := some 277, op := Op.pick (Operand.tmp 260) (Operand.const (Value.bool true)) (Operand.tmp 276), type := 4, pos := "law.go:164", after := #[{ on := 22, ground := Ground.data }, { on := 38, ground := Ground.data }], guard := none }) (v := ?_) rfl (by kernel_rfl) (by kernel_rfl) (by kernel_rfl) (fun _ _ _ h => h) (Or.inl ⟨by rfl, ?_⟩) (by assumption) ?_
            rotate_left
            · intro W hSw; go_simp; try with_reducible rfl
            try simp only [Act.put, List.setIfInBounds_toArray, List.set_cons_zero, List.set_cons_succ]
            refine wpAnyH_done (by kernel_rfl) ?_ _
            have HBn := Lib.hid (step_below BR6.out hHeld.2.2)
            clear hHeld
            go_wp2_with fail
            go_roundw
            case rel => exact ⟨q + 1, by have := hqlt.out; omega, by go_num, HBn⟩
            case measure => simp [intOf]; have := hqlt.out; omega
        · have hqi : ¬ (q : Int) < (l2 : Int) := by omega
          go_wp2_with fail
          go_loopw [27] (fun i wr => ∃ p : Nat, p ≤ gl ∧ i = .int .i64 (p : Int) ∧ Hid (Below w6.heap.size w6 wr)) (fun i _ => gl - (intOf i).toNat)
          case atStart => exact ⟨0, by omega, rfl, BR6⟩
          case round =>
            obtain ⟨p, hp, rfl, BR7⟩ := hrel
            by_cases hpt : p < gl
            · have hpi : (p : Int) < (gl : Int) := by omega
              obtain ⟨⟨pt, pv⟩, hp⟩ : ∃ x, LG[p]? = some x := ⟨_, List.getElem?_eq_getElem (by rw [← enS_length, HSG.out, HVL.out.2.2.2.1]; exact hpt)⟩
              have hpV := enS_at HSG.out hp
              have hpm := mem_woS.1 (List.mem_of_getElem? hpV)
              obtain ⟨b1, o1, e1, c1, g1', lp⟩ := HRG.out wr BR7.out p _ hp
              subst e1
              have BP := (HBV0.out _ hpm.1).1
              have hT0 : Has1 wr pt pv.ad pv.bs.length pv.cap a0 l0 x0 true := has1_mk HS0.out HVL.out.1 (by omega) HBV0.out BP (HR0.out wr (step_below (step_below H34.out H46.out) BR7.out)) lp (decide_eq_true hpm.1)
              have hT2 : Has1 wr pt pv.ad pv.bs.length pv.cap a2 l2 x2 false := has1_mk HS2.out HVL.out.2.2.1 (by omega) HBV2.out BP (HR2.out wr (step_below H56.out BR7.out)) lp (decide_eq_false hpm.2)
              have HT0 := Lib.hid hT0
              have HT2 := Lib.hid hT2
              have d1 : wr.cell? ⟨b1, o1 + p * 2, none⟩ = some (.int .i64 pt) := c1
              have d2 : wr.cell? ⟨b1, o1 + p * 2 + 1, none⟩ = some (.slice pv.ad pv.bs.length pv.cap) := g1'
              have hplt := Lib.hid hpt
              have HQ := Lib.hid (show ∀ W, Below wr.heap.size wr W → W.cell? ⟨b1, o1 + p * 2, none⟩ = some (.int .i64 pt) ∧ W.cell? ⟨b1, o1 + p * 2 + 1, none⟩ = some (.slice pv.ad pv.bs.length pv.cap) from fun W b => ⟨(b.cell (World.block_lt_of_cell? _ _ d1)).trans d1, (b.cell (World.block_lt_of_cell? _ _ d2)).trans d2⟩)
              clear hp hpV hpm c1 g1' lp BP hT0 hT2 hpt
              go_wp2_with fail
              refine (HT0.out.run _ (Below.refl _ _)).mono ?_; rintro e W5 ⟨rfl, B5⟩
              have H5 := Lib.hid B5
              obtain ⟨f1, f2⟩ := HQ.out _ B5
              clear B5 d1 d2
              go_wp2_with fail
              refine (HT2.out.run _ H5.out).mono ?_; rintro e W6 ⟨rfl, B6⟩
              have H6 := Lib.hid (step_below BR7.out (step_below H5.out B6))
              clear B6 f1 f2
              go_wp2_with fail
              go_roundw
              case rel => exact ⟨p + 1, by have := hplt.out; omega, by go_num, H6⟩
              case measure => simp [intOf]; have := hplt.out; omega
            · have hpi : ¬ (p : Int) < (gl : Int) := by omega
              go_wp2_with fail
              go_ret
              exact ⟨rfl, step_below HB0.out (step_below HB6.out BR7.out)⟩
theorem tells_law (j : Job) (t : Int) (ka0 ka1 : Option Addr) (K0 K1 : List Int) (n0 n1 c0 c1 : Nat) (ra0 ra1 : Option Addr) (R0 R1 : List P1) (m0 m1 d0 d1 : Nat) (hK0 : K0.length = n0) (hK1 : K1.length = n1) (hR0 : R0.length = m0) (hR1 : R1.length = m1) (s0 : n0 ≤ 140737488355328) (s1 : n1 ≤ 140737488355328) (bK0 : Byt K0) (bK1 : Byt K1) (bR0 : ∀ p ∈ R0, Byt p.bs) (bR1 : ∀ p ∈ R1, Byt p.bs) (w : World) (hl : Ls .i64 w j.a j.cap j.T) (hn : j.T.length = j.n) (hk0 : Ls .u8 w ka0 c0 K0) (hk1 : Ls .u8 w ka1 c1 K1) (hr0 : RdR w ra0 R0) (hr1 : RdR w ra1 R1) :
    Calls Try.prog 10 #[.agg #[.int .i64 j.w, .int .i64 j.l, .int .i64 j.d, .int .i64 j.c, .int .i64 j.k, .int .i64 j.e, .slice j.a j.n j.cap], .int .i64 t, .agg #[.slice ka0 n0 c0, .slice ka1 n1 c1], .agg #[.slice ra0 m0 d0, .slice ra1 m1 d1]] w fun r w' => r = .returned (.bool true) ∧ Below w.heap.size w w' := by
  by_cases h : (entV j t R0 K0).2 = 0 ∧ (entV j t R1 K1).2 = 0
  · exact tells_good j t ka0 ka1 K0 K1 n0 n1 c0 c1 ra0 ra1 R0 R1 m0 m1 d0 d1 hK0 hK1 hR0 hR1 s0 s1 bK0 bK1 bR0 bR1 w hl hn hk0 hk1 hr0 hr1 h.1 h.2
  · exact tells_bad j t ka0 ka1 K0 K1 n0 n1 c0 c1 ra0 ra1 R0 R1 m0 m1 d0 d1 hK0 hK1 hR0 hR1 s0 s1 bK0 bK1 bR0 bR1 w hl hn hk0 hk1 hr0 hr1 h
end Go.Proofs.Ytkgcbhpgkcfkhaa
