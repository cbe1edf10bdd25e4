/- The reference's Entries, by a contract. -/
import Derived.Test.YtkgcbhpgkcfkhaaCje
import Derived.Test.YtkgcbhpgkcfkhaaRby
import Derived.Test.YtkgcbhpgkcfkhaaRfr
namespace Go.Proofs.Ytkgcbhpgkcfkhaa
open Go.ChangeShapes Go.WideShapes Go.ChangeAt Go.RowKit Go.Shelf
set_option linter.unusedVariables false
set_option linter.unusedSimpArgs false

/-- Where a table's index stands. -/
theorem trV_pos {j : Job} (ok : okB j = true) {k m : Nat} (hk : k < j.T.length) (hm : m < (j.T.getD k 0 + 1).toNat) : trV j (k : Int) ((m : Int) - 1) = ((((nmL 0 (j.T.take k)).length + m : Nat) : Int), (k : Int), (m : Int) - 1, true) := by
  obtain ⟨tl, htl⟩ := nmP_pre j.T k (m + 1) hk hm
  rw [nmP_succ] at htl
  have hpl : (nmP j.T k m).length = (nmL 0 (j.T.take k)).length + m := by simp [nmP, rowN_length]
  refine trV_at j _ _ _ ?_ ?_
  · rw [named_ok ok, htl, ← hpl]
    simp
  · intro i hi e
    rw [named_ok ok, htl, ← hpl] at *
    rw [List.append_assoc, List.getElem?_append_left hi] at e
    have hm' := List.mem_of_getElem? e
    rw [nmP] at hm'
    rcases List.mem_append.1 hm' with h | h
    · obtain ⟨k', h1, h2⟩ := nmL_mem _ _ _ h
      simp at h1 h2
      omega
    · simp [rowN] at h
      obtain ⟨i', h1, h2⟩ := h
      omega
theorem entV_no (j : Job) (t : Int) (R : List P1) (K : List Int) (hj : j.T.length = j.n) (h : okB j = false ∨ t < 0 ∨ (j.n : Int) ≤ t ∨ mayK K.length = false ∨ rowOk R = false) : entV j t R K = ([], 2) := by
  unfold entV
  rw [if_neg]
  intro e
  simp only [Bool.and_eq_true] at e
  obtain ⟨⟨e1, e2⟩, e3⟩ := e
  obtain ⟨k, f, rfl, hk, ho, _⟩ := trV_facts hj e1
  rcases h with h | h | h | h | h
  · rw [ho] at h; cases h
  · omega
  · omega
  · rw [e2] at h; cases h
  · rw [e3] at h; cases h
theorem entV_yes (j : Job) (k : Nat) (R : List P1) (K : List Int) (ok : okB j = true) (hk : k < j.T.length) (h1 : mayK K.length = true) (h2 : rowOk R = true) : entV j (k : Int) R K = (entL (nmL 0 (j.T.take k)).length (min (j.T.getD k 0).toNat (R.length - 1)) R K, 0) := by
  have h0 := okB_T ok k hk
  have h3 : trV j (k : Int) (-1) = (((nmL 0 (j.T.take k)).length : Int), (k : Int), -1, true) := by simpa using trV_pos ok hk (m := 0) (by omega)
  unfold entV
  rw [h3, h1, h2]
  simp
set_option maxRecDepth 100000 in
set_option maxHeartbeats 2000000 in
theorem rentry_own (a b : Option Addr) (L K : List Int) (n m ca cb : Nat) (hL : L.length = n) (hK : K.length = m) (hn : n ≤ 300000) (hm : m ≤ 300000) (w : World) (hA : Ls .u8 w a ca L) (hB : Ls .u8 w b cb K) :
    Calls Try.prog 32 #[.slice a n ca, .slice b m cb] w fun r w' => ∃ a' c', r = .returned (.slice a' (entryL L K).length c') ∧ w'.ownsRow w.heap.size 5 1 (.slice a' (entryL L K).length c') (entryL L K).length (iv .u8 (entryL L K)) ∧ Below w.heap.size w w' := by
  have h := rfront_own a L n ca hL hn w hA
  have hfl := frontL_len L
  have hE : entryL L K = frontL L ++ [0, 1] ++ K := by rw [entryL, List.append_assoc]
  obtain ⟨F, hF⟩ : ∃ F, frontL L = F := ⟨_, rfl⟩
  rw [hF] at h hfl hE
  rw [hE]
  obtain ⟨f, hf⟩ : ∃ f, F.length = f := ⟨_, rfl⟩
  rw [hf] at h hfl
  have H := Lib.hid h
  have HF := Lib.hid hf
  have HB := Lib.hid hB
  have HK := Lib.hid hK
  have hf6 := Lib.hid (show f ≤ 600000 by omega)
  have hl := Lib.hid (show (F ++ [0, 1] ++ K).length = f + 2 + m by rw [List.length_append, List.length_append, hf, hK]; rfl)
  clear h hF hE hf hfl hB hA hK hL
  rw [hl.out]
  go_enter Try.func32, Try.ntmps32
  go_wp2_with fail
  refine H.out.mono ?_; rintro e w1 ⟨v1, rfl, hown1, B1⟩
  have HO1 := Lib.hid hown1
  have hs1 := B1.size
  clear hown1
  go_wp2_with (at_builtin; refine append_ls eltB rfl (.tmp 6) (.tmp 7) rfl w.heap.size _ f (iv .u8 F) rfl (HO1.out.alloc _) _ _ 2 [0, 1] rfl rfl (ls_new .u8 _ [0, 1] _ _ _ rfl 2 rfl) (by have := hf6.out; omega) (by simp; omega) ?_)
  intro v2 w2 hown2 hgrow2
  rw [← iv_append] at hown2
  have B2 := (B1.alloc hs1 _).grown hgrow2 (by simp; omega) (fun j hj => (HO1.out.lt j hj).1)
  have hs2 := B2.size
  have HO2 := Lib.hid hown2
  clear hown2 hgrow2
  go_wp2_with (at_builtin; refine append_ls eltB rfl (.tmp 8) (.tmp 9) rfl w.heap.size v2 (f + 2) (iv .u8 (F ++ [0, 1])) rfl HO2.out b cb m K HK.out rfl (HB.out.below B2) (by have := hf6.out; omega) hs2 ?_)
  intro v3 w3 hown3 hgrow3
  rw [← iv_append] at hown3
  have B3 := B2.grown hgrow3 hs2 (fun j hj => (HO2.out.lt j hj).1)
  obtain ⟨a', c', rfl, _, _⟩ := own_ls hown3 hl.out
  have HL3 := Lib.hid hown3
  clear hown3 hgrow3
  go_wp2_with fail
  go_ret
  exact ⟨a', c', rfl, HL3.out, B3⟩
set_option maxRecDepth 100000 in
set_option maxHeartbeats 4000000 in
theorem qentries_law (j : Job) (t : Int) (ka : Option Addr) (K : List Int) (kn kc : Nat) (ra : Option Addr) (R : List P1) (rn rc : Nat) (hK : K.length = kn) (hR : R.length = rn) (hrn : rn ≤ 1000000) (w : World) (hj : JobAt w j) (hk : Ls .u8 w ka kc K) (hr : RdR w ra R) :
    Calls Try.prog 44 #[.agg #[.int .i64 j.w, .int .i64 j.l, .int .i64 j.d, .int .i64 j.c, .int .i64 j.k, .int .i64 j.e, .slice j.a j.n j.cap], .int .i64 t, .slice ka kn kc, .slice ra rn rc] w fun r w' => EnP (entV j t R K) r w' ∧ Below w.heap.size w w' := by
  obtain ⟨i0, hi, hz0, hz1, hz2⟩ := info_parts info91
  have HJ := Lib.hid hj
  have HKK := Lib.hid hk
  have HRR := Lib.hid hr
  have HK := Lib.hid hK
  have HR := Lib.hid hR
  have HNO := Lib.hid (entV_no j t R K hj.len)
  have hri : (rn : Int) ≤ 1000000 := by omega
  have hB1 : Below w.heap.size w (w.alloc (.cells #[.int .i64 j.w, .int .i64 j.l, .int .i64 j.d, .int .i64 j.c, .int .i64 j.k, .int .i64 j.e, .slice j.a j.n j.cap] 53)) := (Below.refl _ _).alloc (Nat.le_refl _) _
  have HB1 := Lib.hid hB1
  have hbj := BoxC.new w #[.int .i64 j.w, .int .i64 j.l, .int .i64 j.d, .int .i64 j.c, .int .i64 j.k, .int .i64 j.e, .slice j.a j.n j.cap] 53
  have HBJ := Lib.hid hbj
  have HQC := Lib.hid (fun W (h : JobAt W j) => qcheck_law j W h)
  clear hj hk hr hK hR hB1 hbj
  by_cases hok0 : okB j = false
  · have HN := Lib.hid (HNO.out (.inl hok0))
    rw [chk_no hok0] at HQC
    clear hok0 HNO
    go_enter Try.func44, Try.ntmps44
    go_wp2_with fail
    refine (HQC.out _ (HJ.out.below HB1.out)).mono ?_; rintro r w2 ⟨rfl, B2⟩
    have HB2 := Lib.hid (step_below HB1.out B2)
    clear B2
    go_wp2_with fail
    go_ret2
    exact ⟨enP_none _ HN.out, HB2.out⟩
  have hok : okB j = true := by simpa using hok0
  clear hok0
  rw [chk_ok hok] at HQC
  rcases (show t < 0 ∨ (0 ≤ t ∧ (j.n : Int) ≤ t) ∨ (0 ≤ t ∧ t < (j.n : Int)) by omega) with ht | ⟨ht0, ht⟩ | ⟨ht0, ht⟩
  · have HN := Lib.hid (HNO.out (.inr (.inl ht)))
    clear hok HNO
    go_enter Try.func44, Try.ntmps44
    go_wp2_with fail
    refine (HQC.out _ (HJ.out.below HB1.out)).mono ?_; rintro r w2 ⟨rfl, B2⟩
    have HB2 := Lib.hid (step_below HB1.out B2)
    clear B2
    go_wp2_with fail
    go_ret2
    exact ⟨enP_none _ HN.out, HB2.out⟩
  · have HN := Lib.hid (HNO.out (.inr (.inr (.inl ht))))
    have ht1 : ¬ t < 0 := by omega
    clear hok HNO
    go_enter Try.func44, Try.ntmps44
    go_wp2_with fail
    refine (HQC.out _ (HJ.out.below HB1.out)).mono ?_; rintro r w2 ⟨rfl, B2⟩
    have HB2 := Lib.hid (step_below HB1.out B2)
    have g6 := (HBJ.out.below B2).cell 6
    simp only [List.getElem?_toArray, List.getElem?_cons_zero, List.getElem?_cons_succ] at g6
    clear B2
    go_wp2_with fail
    go_ret2
    exact ⟨enP_none _ HN.out, HB2.out⟩
  · obtain ⟨k, rfl⟩ : ∃ k : Nat, t = (k : Int) := ⟨t.toNat, by omega⟩
    have hkn : (k : Int) < (j.n : Int) := ht
    have hkN : ¬ (j.n : Int) ≤ (k : Int) := by omega
    have hkT : k < j.T.length := by have := HJ.out.len; omega
    have hxx := okB_T hok k hkT
    obtain ⟨x, hx⟩ : ∃ x : Nat, j.T.getD k 0 = (x : Int) := ⟨(j.T.getD k 0).toNat, by omega⟩
    have hx2 : x ≤ 2 := by omega
    have hx2i : (x : Int) ≤ 2 := by omega
    obtain ⟨b1, o1, ea, d1⟩ := (HJ.out.ls).get k hkT
    rw [hx] at d1
    have D1 := Lib.hid d1
    have HEA := Lib.hid ea
    obtain ⟨f, hf⟩ : ∃ f, (nmL 0 (j.T.take k)).length = f := ⟨_, rfl⟩
    have HYES := Lib.hid (fun (h1 : mayK kn = true) (h2 : rowOk R = true) => (by have := entV_yes j k R K hok hkT (by rw [HK.out]; exact h1) h2; rwa [hf, hx, Int.toNat_natCast, HR.out] at this : entV j (k : Int) R K = (entL f (min x (rn - 1)) R K, 0)))
    have HTV := Lib.hid (fun (m : Nat) (hm : m < x) => (by
      have := trV_pos hok hkT (m := m + 1) (by rw [hx]; omega)
      rw [hf] at this
      rw [show (((m + 1 : Nat) : Int) - 1) = (m : Int) by omega] at this
      rw [this]; simp only [Prod.mk.injEq, and_true]; omega : trV j (k : Int) (m : Int) = (((f : Int) + 1 + (m : Int)), (k : Int), (m : Int), true)))
    have hfi : (f : Int) ≤ 12 := by
      have := nmL_len j.T k 0 (by omega) (fun i hi => okB_T hok i hi)
      have h4 := (okB_n hok).2
      have := HJ.out.len
      omega
    have HTR := Lib.hid (fun (m : Nat) (hm : m < x) W (h : JobAt W j) => (by
      have := qtree_law j (k : Int) (m : Int) W h
      rw [HTV.out m hm] at this
      exact this : Calls Try.prog 41 #[.agg #[.int .i64 j.w, .int .i64 j.l, .int .i64 j.d, .int .i64 j.c, .int .i64 j.k, .int .i64 j.e, .slice j.a j.n j.cap], .int .i64 (k : Int), .int .i64 (m : Int)] W fun r w' => r = .returned (.tuple #[.int .i64 ((f : Int) + 1 + (m : Int)), .int .i64 0]) ∧ Below W.heap.size W w'))
    clear hok hxx hx d1 ea hf ht ht0 hkT HTV
    have hk0 : ¬ (k : Int) < 0 := by omega
    have hkd : decide ((k : Int) < 0) = false := decide_eq_false hk0
    have hkM : decide (j.n ≤ k) = false := decide_eq_false (by omega)
    cases hmk : mayK kn
    · have HN := Lib.hid (HNO.out (.inr (.inr (.inr (.inl (by rw [HK.out]; exact hmk))))))
      have HMK := Lib.hid hmk
      clear HNO HYES HTR hmk
      go_enter Try.func44, Try.ntmps44
      go_wp2_with fail
      refine (HQC.out _ (HJ.out.below HB1.out)).mono ?_; rintro r w2 ⟨rfl, B2⟩
      have HB2 := Lib.hid (step_below HB1.out B2)
      have g6 := (HBJ.out.below B2).cell 6
      simp only [List.getElem?_toArray, List.getElem?_cons_zero, List.getElem?_cons_succ] at g6
      clear B2
      go_wp2_with fail
      refine (rmaykey_law _ _ _ _).mono ?_; rintro r w3 ⟨rfl, rfl⟩
      rw [HMK.out]
      go_wp2_with fail
      go_ret2
      exact ⟨enP_none _ HN.out, HB2.out⟩
    cases hro : rowOk R
    · have HN := Lib.hid (HNO.out (.inr (.inr (.inr (.inr hro)))))
      have HMK := Lib.hid hmk
      have hro2 : 0 < rn ∧ mayR R = false := by
        unfold rowOk at hro
        simp at hro
        exact ⟨by rw [← HR.out]; exact List.length_pos_iff.2 hro.1, hro.2⟩
      have hrn0 : (0 : Int) < (rn : Int) := by omega
      have HMR := Lib.hid (fun W (b : RdR W ra R) => by have := refmay_law ra R rn rc HR.out W b; rwa [hro2.2] at this)
      clear HNO HYES HTR hmk hro hro2
      go_enter Try.func44, Try.ntmps44
      go_wp2_with fail
      refine (HQC.out _ (HJ.out.below HB1.out)).mono ?_; rintro r w2 ⟨rfl, B2⟩
      have HB2 := Lib.hid (step_below HB1.out B2)
      have g6 := (HBJ.out.below B2).cell 6
      simp only [List.getElem?_toArray, List.getElem?_cons_zero, List.getElem?_cons_succ] at g6
      clear B2
      go_wp2_with fail
      refine (rmaykey_law _ _ _ _).mono ?_; rintro r w3 ⟨rfl, rfl⟩
      rw [HMK.out]
      go_wp2_with fail
      refine (HMR.out _ (HRR.out.below HB2.out)).mono ?_; rintro r w3 ⟨rfl, rfl⟩
      go_wp2_with fail
      go_ret2
      exact ⟨enP_none _ HN.out, HB2.out⟩
    have HN := Lib.hid (HYES.out hmk hro)
    have HMK := Lib.hid hmk
    clear HNO HYES hmk
    rcases (show rn = 0 ∨ (0 < rn ∧ mayR R = true) by
        unfold rowOk at hro
        simp at hro
        rcases hro with h | h
        · left; rw [← HR.out, h]; rfl
        · right; exact ⟨by rw [← HR.out]; exact ((mayR_iff R).1 h).2.1, h⟩) with hr0 | ⟨hr0, hmr⟩
    · subst hr0
      have HN2 := Lib.hid (show entV j (k : Int) R K = ([], 0) by rw [HN.out]; simp [entL])
      clear hro HN HTR
      go_enter Try.func44, Try.ntmps44
      go_wp2_with fail
      refine (HQC.out _ (HJ.out.below HB1.out)).mono ?_; rintro r w2 ⟨rfl, B2⟩
      have HB2 := Lib.hid (step_below HB1.out B2)
      have g6 := (HBJ.out.below B2).cell 6
      simp only [List.getElem?_toArray, List.getElem?_cons_zero, List.getElem?_cons_succ] at g6
      have d2 := ((step_below HB1.out B2).cell (p := ⟨b1, o1 + k, none⟩) (World.block_lt_of_cell? w _ D1.out)).trans D1.out
      rw [HEA.out] at g6
      clear B2
      go_wp2_with fail
      refine (rmaykey_law _ _ _ _).mono ?_; rintro r w3 ⟨rfl, rfl⟩
      rw [HMK.out]
      go_wp2_with fail
      go_loopw [10, 11] (fun v i wr => i = .int .i64 0 ∧ v = .slice none 0 0 ∧ wr = w2) (fun _ i _ => 0)
      case atStart => exact ⟨rfl, rfl, rfl⟩
      case round =>
        obtain ⟨rfl, rfl, rfl⟩ := hrel
        by_cases hlt : 0 < x
        · have hml : (0 : Int) < (x : Int) := by omega
          have hm1 : ¬ (0 : Int) + 1 < 0 := by omega
          go_wp2_with fail
          go_ret2
          exact ⟨by rw [HN2.out]; exact ⟨none, 0, [], rfl, rfl, fun k p hp => by simp at hp⟩, HB2.out⟩
        · have hml : ¬ (0 : Int) < (x : Int) := by omega
          go_wp2_with fail
          go_ret2
          exact ⟨by rw [HN2.out]; exact ⟨none, 0, [], rfl, rfl, fun k p hp => by simp at hp⟩, HB2.out⟩
    · have hrn0 : (0 : Int) < (rn : Int) := by omega
      have HMR := Lib.hid (fun W (b : RdR W ra R) => by have := refmay_law ra R rn rc HR.out W b; rwa [hmr] at this)
      have HM := Lib.hid ((mayR_iff R).1 hmr)
      have hrn3 : rn ≤ 3 := by have := HM.out.2.2; rw [HR.out] at this; exact this
      clear hro hmr
      go_enter Try.func44, Try.ntmps44
      go_wp2_with fail
      refine (HQC.out _ (HJ.out.below HB1.out)).mono ?_; rintro r w2 ⟨rfl, B2⟩
      have HB2 := Lib.hid (step_below HB1.out B2)
      have HBJ2 := Lib.hid (HBJ.out.below B2)
      have g6 := (HBJ.out.below B2).cell 6
      simp only [List.getElem?_toArray, List.getElem?_cons_zero, List.getElem?_cons_succ] at g6
      rw [HEA.out] at g6
      clear B2
      go_wp2_with fail
      refine (rmaykey_law _ _ _ _).mono ?_; rintro r w3 ⟨rfl, rfl⟩
      rw [HMK.out]
      go_wp2_with fail
      refine (HMR.out _ (HRR.out.below HB2.out)).mono ?_; rintro r w3 ⟨rfl, rfl⟩
      clear g6
      go_wp2_with fail
      go_loopw [10, 11, 12, 13] (fun v i _ _ wr => ∃ m : Nat, m ≤ min x (rn - 1) ∧ i = .int .i64 (m : Int) ∧ EnI w2.heap.size f m R K v wr ∧ Hid (Below w2.heap.size w2 wr)) (fun _ i _ _ _ => min x (rn - 1) - (intOf i).toNat)
      case atStart => exact ⟨0, by omega, rfl, ⟨[], by simp [enS, entL], World.ownsRow_nil _ _ _ _, fun p hp => by simp at hp⟩, Lib.hid (Below.refl _ _)⟩
      case round =>
        obtain ⟨m, hm, rfl, hI, BR⟩ := hrel
        have BB := Lib.hid (step_below HB2.out BR.out)
        have HBR := Lib.hid (HBJ2.out.below BR.out)
        have d2 := (BB.out.cell (p := ⟨b1, o1 + k, none⟩) (World.block_lt_of_cell? w _ D1.out)).trans D1.out
        have g0 := (HBR.out).cell 0
        have g1 := (HBR.out).cell 1
        have g2 := (HBR.out).cell 2
        have g3 := (HBR.out).cell 3
        have g4 := (HBR.out).cell 4
        have g5 := (HBR.out).cell 5
        have g6 := (HBR.out).cell 6
        simp only [List.getElem?_toArray, List.getElem?_cons_zero, List.getElem?_cons_succ] at g0 g1 g2 g3 g4 g5 g6
        rw [HEA.out] at g6
        have HI := Lib.hid hI
        clear hI
        by_cases hlt : m < x ∧ m + 1 < rn
        · have hml : (m : Int) < (x : Int) := by omega
          have hmi : (m : Int) ≤ 2 := by omega
          have hmrl : (m : Int) + 1 < (rn : Int) := by omega
          have hm0 : (0 : Int) ≤ (m : Int) + 1 := by omega
          have hmt : ((m : Int) + 1).toNat = m + 1 := by omega
          obtain ⟨p, hp⟩ : ∃ p, R[m + 1]? = some p := ⟨_, List.getElem?_eq_getElem (by rw [HR.out]; exact hlt.2)⟩
          have HP := Lib.hid hp
          obtain ⟨q, hq⟩ : ∃ q, p.bs.length = q := ⟨_, rfl⟩
          have HQ := Lib.hid hq
          have hq24 : q ≤ 24 := by rw [← hq]; exact HM.out.1 p (List.mem_of_getElem? hp)
          have HG := Lib.hid (show ((R.map P1.bs).getD (m + 1) []) = p.bs by simp [List.getD, hp])
          have HTM := HTR.out m hlt.1 wr (HJ.out.below BB.out)
          rw [HEA.out] at HTM
          have hxm := Lib.hid (show m + 1 ≤ min x (rn - 1) by omega)
          clear hp hq hlt hm
          go_wp2_with fail
          refine HTM.mono ?_; clear HTM; rintro r w3 ⟨rfl, B3⟩
          have HB3 := Lib.hid (step_below BB.out B3)
          have HBR3 := Lib.hid (step_below BR.out B3)
          have HI3 := Lib.hid (HI.out.below B3)
          obtain ⟨b2, o2, e2, c2, l2⟩ := HRR.out.below HB3.out (m + 1) p HP.out
          subst e2
          have c3 : w3.cell? ⟨b2, o2 + (m + 1), none⟩ = some (.slice p.ad q p.cap) := by rw [c2]; simp [P1.v, HQ.out]
          have HE := Lib.hid (rentry_own p.ad ka p.bs K q kn p.cap kc HQ.out HK.out (by omega) (by have := HMK.out; unfold mayK at this; simp at this; omega) w3 l2 (HKK.out.below HB3.out))
          obtain ⟨EL, hEL⟩ : ∃ E, entryL p.bs K = E := ⟨_, rfl⟩
          rw [hEL] at HE
          obtain ⟨el, hel⟩ : ∃ n, EL.length = n := ⟨_, rfl⟩
          rw [hel] at HE
          have HEL := Lib.hid (And.intro hEL hel)
          have hs1 := HBR3.out.size
          clear c2 l2 hEL hel B3 g0 g1 g2 g3 g4 g5 g6 d2
          go_wp2_with fail
          refine HE.out.mono ?_; rintro r w4 ⟨a4, c4, rfl, o4, B4⟩
          obtain ⟨L, i1, i2, i3⟩ := (HI3.out.below B4).ex
          have O4 := Lib.hid (own_base hs1 o4)
          have I1 := Lib.hid i1
          have I2 := Lib.hid i2
          have I3 := Lib.hid i3
          have hs4 : w2.heap.size ≤ w4.heap.size := Nat.le_trans hs1 B4.size
          have HB4 := Lib.hid (step_below HB3.out B4)
          have HBR4 := Lib.hid (step_below HBR3.out B4)
          have HS := Lib.hid (show ((f + 1 + m : Nat) : Int) = (f : Int) + 1 + (m : Int) by omega)
          clear o4 i1 i2 i3 B4 c3
          go_wp2_with (at_builtin; refine wpList_append_own _ rfl (.tmp 66) (.tmp 76) 68 rfl w2.heap.size 91 i0 (.agg #[.int .i64 0, .slice none 0 0]) 2 32 Try.underlying68 hi hz0 hz1 hz2 rfl (by decide) _ m (ev L) rfl (I2.out.alloc _) ⟨w4.heap.size, 0, none⟩ 1 1 [.int .i64 ((f : Int) + 1 + (m : Int)), .slice a4 el c4] rfl rfl (cell_two_new _ _ _ _) (by intro u hu; simp at hu; rcases hu with rfl | rfl <;> rfl) (by unfold maxLen; omega) (by omega) (by simp; omega) ?_)
          intro v5 w5 hown5 hgrow5 _
          have keep : ∀ (y : Value) (n : Nat) (xs : List Value), w4.ownsRow w2.heap.size 5 1 y n xs → w5.ownsRow w2.heap.size 5 1 y n xs := fun y n xs hy => (hy.alloc _).kept hgrow5 (own_apart hy I2.out (by decide))
          have b5 : Below w2.heap.size w4 w5 := ((Below.refl _ w4).alloc hs4 _).grown hgrow5 (by simp; omega) (fun j hj => (I2.out.lt j hj).1)
          have HI5 := Lib.hid (show EnI w2.heap.size f (m + 1) R K v5 w5 by
            refine ⟨L ++ [(((f + 1 + m : Nat) : Int), ⟨a4, c4, EL⟩)], ?_, ?_, fun p hp => ?_⟩
            · rw [entL_succ, HG.out, HEL.out.1, ← I1.out]; simp [enS]
            · rw [ev_append, HS.out]
              have e : ev [((f : Int) + 1 + (m : Int), (⟨a4, c4, EL⟩ : P1))] = [.int .i64 ((f : Int) + 1 + (m : Int)), .slice a4 el c4] := by simp [ev, P1.v, HEL.out.2]
              rw [e]; exact hown5
            · rcases List.mem_append.1 hp with hp | hp
              · exact keep _ _ _ (I3.out p hp)
              · simp at hp
                subst hp
                have := keep _ _ _ O4.out
                simpa [P1.v, HEL.out.2] using this)
          have HBR5 := Lib.hid (HBR4.out.trans b5)
          clear keep b5 hown5 hgrow5
          go_wp2_with fail
          go_roundw
          case rel => exact ⟨m + 1, hxm.out, by go_num, HI5.out, HBR5⟩
          case measure => simp [intOf]; have := hxm.out; omega
        · have hor : ¬ (m : Int) < (x : Int) ∨ ((m : Int) < (x : Int) ∧ ¬ (m : Int) + 1 < (rn : Int)) := by omega
          have HMM := Lib.hid (show m = min x (rn - 1) by omega)
          obtain ⟨L, i1, i2, i3⟩ := HI.out.ex
          have hL : L.length = m := by have := congrArg List.length i1; simpa [enS, entL_length] using this
          obtain ⟨la, lc, rfl, hen⟩ := own_enr i2 hL (fun p hp => by obtain ⟨a, c, e, l, _⟩ := own_ls (i3 p hp) rfl; simp [P1.v] at e; obtain ⟨rfl, rfl⟩ := e; exact l)
          have HE := Lib.hid hen
          have I1 := Lib.hid i1
          have HN2 := Lib.hid (show entV j (k : Int) R K = (entL f m R K, 0) by rw [HN.out, ← HMM.out])
          clear i1 i2 i3 hen hL hm hlt
          rcases hor with h1 | ⟨h1, h2⟩
          · go_wp2_with fail
            go_ret2
            exact ⟨by rw [HN2.out]; exact ⟨la, lc, L, by rw [entL_length]; rfl, I1.out, HE.out⟩, BB.out⟩
          · have hm0 : (0 : Int) ≤ (m : Int) + 1 := by omega
            go_wp2_with fail
            go_ret2
            exact ⟨by rw [HN2.out]; exact ⟨la, lc, L, by rw [entL_length]; rfl, I1.out, HE.out⟩, BB.out⟩
end Go.Proofs.Ytkgcbhpgkcfkhaa
