/- 'RowWrites', by contracts: whatever row and key came in, it returns true. -/
import Derived.Test.YtkgcbhpgkcfkhaaWrk
import Derived.Test.YtkgcbhpgkcfkhaaRfr
import Derived.ProofKit
import Derived.BigQuiet
namespace Go.Proofs.Ytkgcbhpgkcfkhaa
open Go.ChangeShapes Go.WideShapes Go.ChangeAt Go.RowKit
set_option linter.unusedVariables false
set_option linter.unusedSimpArgs false

/-- A condition that says more, from here on. -/
theorem wpAnyH_swap {P : Program} {ops : Array Oper} {Q : Exit → Act → World → Prop} {md : Region.Mode} {S S' : World → Prop} (h : ∀ w, S' w → S w) :
    ∀ {fuel : Nat} {listed : Array Bool} {a : Act} {w : World}, wpAnyH P md ops Q S' fuel listed a w → wpAnyH P md ops Q S fuel listed a w
  | 0, _, _, _, k => k
  | fuel + 1, _, _, _, k => ⟨k.1, fun i hi => wpOp_mono (fun a' w' k' => ⟨h _ k'.1, wpAnyH_swap h k'.2⟩) (k.2 i hi)⟩

set_option maxRecDepth 100000 in
set_option maxHeartbeats 8000000 in
theorem writes_law (a b : Option Addr) (R : List P1) (n m ca cb : Nat) (hn : R.length = n) (bR : ∀ p ∈ R, Byt p.bs) (w : World) (hR : RdR w a R) :
    Calls Try.prog 3 #[.slice a n ca, .slice b m cb] w fun r w' => r = .returned (.bool true) ∧ Below w.heap.size w w' := by
  have HZ0 := Lib.hid (sizes_law a R n ca hn w hR)
  have HCP := Lib.hid (fun (hn3 : n ≤ 9000) (hl : ∀ p ∈ R, p.bs.length ≤ 9000) => copy_cp a R n ca hn hn3 hl w hR)
  have HBK := Lib.hid (fun (hn3 : n ≤ 1000000) K (h : K.map P1.bs = R.map P1.bs) a' c' W (l : RdR W a' K) => bytes_cp h a' n c' hn hn3 W l)
  have HWK := Lib.hid (fun (hn3 : n ≤ 1000000) K (h : K.map P1.bs = R.map P1.bs) a' c' W (l : RdR W a' K) => words_cp h a' n c' hn hn3 bR W l)
  have HHK := Lib.hid (fun (hn3 : n ≤ 9000) (hl : ∀ p ∈ R, p.bs.length ≤ 9000) K (h : K.map P1.bs = R.map P1.bs) a' c' W (l : RdR W a' K) => held_cp h a' n c' hn hn3 hl W l)
  have HMK := Lib.hid (fun (hn3 : n ≤ 1000000) K (h : K.map P1.bs = R.map P1.bs) a' c' W (l : RdR W a' K) => may_cp h a' n c' hn hn3 W l)
  have HMR := Lib.hid (fun W (bb : Below w.heap.size w W) => refmay_law a R n ca hn W (hR.below bb))
  have HSR := Lib.hid (fun (hn3 : n ≤ 1000000) K (h : K.map P1.bs = R.map P1.bs) a' c' W (l : RdR W a' K) (bb : Below w.heap.size w W) => rsame_cp h a' a n c' ca hn hn3 bR W l (hR.below bb))
  have HSK := Lib.hid (fun (hn3 : n ≤ 1000000) K H (h : K.map P1.bs = R.map P1.bs) (h2 : H.map P1.bs = R.map P1.bs) a1 c1 a2 c2 W (l1 : RdR W a1 K) (l2 : RdR W a2 H) => same_cp (h.trans h2.symm) a1 a2 n c1 c2 (by rw [len_congr h2]; exact hn) hn3 (byt_congr h2 bR) W l1 l2)
  have HRB := Lib.hid (fun (hm : mayR R = true) W (bb : Below w.heap.size w W) => (by have := refbytes_law a R n ca hn hm W (hR.below bb); rwa [show rbytesL R = bA R by rw [bA, if_pos hm]] at this : Calls Try.prog 26 #[.slice a n ca] W fun r w' => (∃ a' c', r = .returned (.slice a' (bA R).length c') ∧ Ls .u8 w' a' c' (bA R)) ∧ Below W.heap.size W w'))
  have HRW := Lib.hid (fun (hm : mayR R = true) W (bb : Below w.heap.size w W) => (by have := refwords_law a R n ca hn hm bR W (hR.below bb); rwa [show wordsL (rbytesL R) = wA R by rw [wA, if_pos hm]] at this : Calls Try.prog 25 #[.slice a n ca] W fun r w' => (∃ a' c', r = .returned (.slice a' (wA R).length c') ∧ Ls .u64 w' a' c' (wA R)) ∧ Below W.heap.size W w'))
  have hno : mayR R = false → bA R = [] ∧ wA R = [] ∧ eR R = 2 := fun h => by simp [bA, wA, eR, h]
  have hyes : mayR R = true → eR R = 0 := fun h => by simp [eR, h]
  have hl1 := wA_len11 R
  have HN := Lib.hid hn
  clear hn bR hR
  generalize mayR R = M at *
  generalize eR R = e at *
  generalize bA R = A at *
  generalize wA R = U at *
  obtain ⟨la, hla⟩ : ∃ l, A.length = l := ⟨_, rfl⟩
  obtain ⟨lu, hlu⟩ : ∃ l, U.length = l := ⟨_, rfl⟩
  have hno2 : M = false → la = 0 ∧ lu = 0 ∧ e = 2 := fun h => by
    obtain ⟨h1, h2, h3⟩ := hno h
    subst h1 h2
    exact ⟨by simpa using hla.symm, by simpa using hlu.symm, h3⟩
  rw [hla] at HBK HRB
  rw [hlu] at HWK HRW hl1
  have HNO := Lib.hid hno2
  have HYES := Lib.hid hyes
  have HLA := Lib.hid hla
  have HLU := Lib.hid hlu
  have hMM : (M == M) = true := by simp
  have hkk : (mayK m == mayK m) = true := by simp
  obtain ⟨mk, hmk⟩ : ∃ mk, mayK m = mk := ⟨_, rfl⟩
  have HK1 := Lib.hid (fun W => by have := maykey_law b m cb W; rwa [hmk] at this : ∀ W, Calls Try.prog 20 #[.slice b m cb] W fun r w' => r = .returned (.bool mk) ∧ W = w')
  have HK2 := Lib.hid (fun W => by have := rmaykey_law b m cb W; rwa [hmk] at this : ∀ W, Calls Try.prog 21 #[.slice b m cb] W fun r w' => r = .returned (.bool mk) ∧ W = w')
  rw [hmk] at hkk
  clear hla hlu hno hno2 hyes hmk
  go_enter Try.func3, Try.ntmps3
  go_wp2_with fail
  refine HZ0.out.mono ?_; rintro r w' ⟨⟨z0, rfl, hz0, hzl⟩, rfl⟩
  by_cases hb0 : 9000 < z0
  · have hb0i : (9000 : Int) < (z0 : Int) := by omega
    go_wp2_with fail
    refine (known_law _).mono ?_; rintro r w' ⟨rfl, B⟩
    go_wp2_with fail
    go_ret
    exact ⟨rfl, B⟩
  have hb0i : ¬ (9000 : Int) < (z0 : Int) := by omega
  by_cases hb1 : 9000 < m
  · have hb1i : (9000 : Int) < (m : Int) := by omega
    go_wp2_with fail
    refine (known_law _).mono ?_; rintro r w' ⟨rfl, B⟩
    go_wp2_with fail
    go_ret
    exact ⟨rfl, B⟩
  have hb1i : ¬ (9000 : Int) < (m : Int) := by omega
  have hn3 := Lib.hid (show n ≤ 1000000 by omega)
  have hn9 := Lib.hid (show n ≤ 9000 by omega)
  have hni : (n : Int) ≤ 9000 := by omega
  have HZL := Lib.hid (hzl (by omega))
  clear hzl
  go_wp2_with fail
  refine (HCP.out hn9.out HZL.out).mono ?_; rintro r w1 ⟨⟨ka, kc, K, rfl, hK, lk⟩, B1⟩
  have HK := Lib.hid hK
  have LK1 := Lib.hid lk
  clear hK lk
  go_wp2_with fail
  refine (HBK.out hn3.out K HK.out ka kc _ LK1.out).mono ?_; rintro r w2 ⟨xa, xc, rfl, L2, B2⟩
  have LK2 := Lib.hid (LK1.out.below B2)
  replace B2 := step_below B1 B2
  clear B1 LK1
  go_wp2_with fail
  refine (HWK.out hn3.out K HK.out ka kc _ LK2.out).mono ?_; rintro r w3 ⟨ua, uc, rfl, L3, B3⟩
  have H3 := Lib.hid (show ∀ W, Below w3.heap.size w3 W → RdR W ka K ∧ Ls .u8 W xa xc A ∧ Ls .u64 W ua uc U ∧ Below w.heap.size w W from fun W bb => ⟨(LK2.out.below B3).below bb, (L2.below B3).below bb, L3.below bb, step_below (step_below B2 B3) bb⟩)
  clear L2 L3 B2 B3 LK2
  go_wp2_with fail
  refine (HHK.out hn9.out HZL.out K HK.out ka kc _ (H3.out _ (Below.refl _ _)).1).mono ?_; rintro r w4 ⟨⟨ha, hc, H, rfl, hH, lh, fl⟩, B4⟩
  have HH := Lib.hid hH
  have HF4 := Lib.hid (show ∀ W, Below w4.heap.size w4 W → RdR W ha H ∧ FlipI w3.heap.size ha H W ∧ Below w3.heap.size w3 W from fun W bb => ⟨lh.below bb, fl.below bb, step_below B4 bb⟩)
  clear hH lh fl B4
  go_wp2_with fail
  refine (HMK.out hn3.out K HK.out ka kc _ (H3.out _ (HF4.out _ (Below.refl _ _)).2.2).1).mono ?_; rintro r w5 ⟨rfl, B5⟩
  go_wp2_with fail
  refine (HMR.out _ (H3.out _ (HF4.out _ B5).2.2).2.2.2).mono ?_; rintro r w' ⟨rfl, rfl⟩
  go_wp2_with fail
  refine (HK1.out _).mono ?_; rintro r w' ⟨rfl, rfl⟩
  go_wp2_with fail
  refine (HK2.out _).mono ?_; rintro r w' ⟨rfl, rfl⟩
  go_wp2_with fail
  refine (HSR.out hn3.out K HK.out ka kc _ (H3.out _ (HF4.out _ B5).2.2).1 (H3.out _ (HF4.out _ B5).2.2).2.2.2).mono ?_; rintro r w6 ⟨rfl, B6⟩
  replace B6 := step_below B5 B6
  clear B5
  go_wp2_with fail
  refine (HSR.out hn3.out H HH.out ha hc _ (HF4.out _ B6).1 (H3.out _ (HF4.out _ B6).2.2).2.2.2).mono ?_; rintro r w7 ⟨rfl, B7⟩
  replace B7 := step_below B6 B7
  clear B6
  go_wp2_with fail
  refine (HSK.out hn3.out K H HK.out HH.out ka kc ha hc _ (H3.out _ (HF4.out _ B7).2.2).1 (HF4.out _ B7).1).mono ?_; rintro r w8 ⟨rfl, B8⟩
  replace B8 := step_below B7 B8
  clear B7
  have HLH := Lib.hid (show H.length = n from (len_congr HH.out).trans HN.out)
  have F8 := Lib.hid (HF4.out _ B8).2.1
  have HB8 := Lib.hid (HF4.out _ B8).2.2
  clear B8 HZ0 HCP HBK HWK HHK HMK HK1 HK2 HSK hz0 hb0 hb1
  go_wp2_with fail
  go_loopw [12] (fun i wr => ∃ k : Nat, k ≤ n ∧ i = .int .i64 k ∧ FlipI w3.heap.size ha H wr ∧ Below w3.heap.size w3 wr) (fun i _ => n - (intOf i).toNat)
  case atStart => exact ⟨0, by omega, rfl, F8.out, HB8.out⟩
  case round =>
    clear F8 HB8
    obtain ⟨k, hk, rfl, hF, B⟩ := hrel
    by_cases hlt : k < n
    · have hkl : (k : Int) < (n : Int) := by omega
      obtain ⟨p, hp⟩ : ∃ p, H[k]? = some p := ⟨_, List.getElem?_eq_getElem (by rw [HLH.out]; exact hlt)⟩
      have HPP := Lib.hid hp
      have FF := Lib.hid hF
      have BB := Lib.hid B
      obtain ⟨l, hl⟩ : ∃ l, p.bs.length = l := ⟨_, rfl⟩
      have HL := Lib.hid hl
      have hl9 : l ≤ 9000 := by rw [← hl]; exact lens_congr HH.out HZL.out p (List.mem_of_getElem? hp)
      have hl9i : (l : Int) ≤ 9000 := by omega
      clear hp hF B hl
      go_wp2_with fail
      go_loopw [13] (fun j wq => ∃ t : Nat, t ≤ l ∧ j = .int .i64 t ∧ FlipI w3.heap.size ha H wq ∧ Below w3.heap.size w3 wq) (fun j _ => l - (intOf j).toNat)
      case atStart => exact ⟨0, by omega, rfl, FF.out, BB.out⟩
      case round =>
        clear FF BB
        obtain ⟨t, ht, rfl, hF, B⟩ := hrel
        have FF := Lib.hid hF
        have BB := Lib.hid B
        clear hF B
        obtain ⟨⟨b1, o1, e1, c1⟩, c2⟩ := FF.out k p HPP.out
        subst e1
        rw [P1.v, HL.out] at c1
        by_cases htl : t < l
        · have htli : (t : Int) < (l : Int) := by omega
          obtain ⟨g, x, e2, hg, c3, f3⟩ := c2 t (by rw [HL.out]; exact htl)
          rw [e2] at c1
          clear c2 e2
          have hmx : Try.prog.follows .mixedOrders = true := by kernel_rfl
          go_wp2_with fail
          go_still_tail 14, (by kernel_rfl)
          change wpList _ _ _ _ _ wr.drew
          have FD := FF.out.drew
          have BD := BB.out.drew
          have c3d : wr.drew.cell? ⟨g, t, none⟩ = some (.int .u8 x) := c3
          have f3d : wr.drew.frozen? ⟨g, t, none⟩ = false := f3
          clear c1 c3 f3 FF BB
          generalize wr.drew = W2 at FD BD c3d f3d ⊢
          go_wp2_with fail
          go_roundw
          case rel => exact ⟨t + 1, by omega, by go_num, FD.set c3d _, BD.setCell (p := ⟨g, t, none⟩) hg _⟩
          case measure => simp [intOf]; omega
        · have htli : ¬ (t : Int) < (l : Int) := by omega
          clear c2
          go_wp2_with fail
          go_roundw
          case rel => exact ⟨k + 1, by omega, by go_num, FF.out, BB.out⟩
          case measure => simp [intOf]; omega
    · have hkl : ¬ (k : Int) < (n : Int) := by omega
      have BB := Lib.hid B
      clear hF B
      go_wp2_with fail
      refine (HSR.out hn3.out K HK.out ka kc _ (H3.out _ BB.out).1 (H3.out _ BB.out).2.2.2).mono ?_; rintro r w9 ⟨rfl, B9⟩
      replace B9 := Lib.hid (step_below BB.out B9)
      go_wp2_with fail
      refine (HMR.out _ (H3.out _ B9.out).2.2.2).mono ?_; rintro r w' ⟨rfl, rfl⟩
      cases M with
      | false =>
        obtain ⟨rfl, rfl, rfl⟩ := HNO.out rfl
        go_wp2_with fail
        refine (num_law _ _).mono ?_; rintro r w' ⟨rfl, rfl⟩
        go_wp2_with fail
        refine (num_law _ _).mono ?_; rintro r w' ⟨rfl, rfl⟩
        go_wp2_with fail
        refine (known_law _).mono ?_; rintro r w10 ⟨rfl, B10⟩
        go_wp2_with fail
        go_ret
        exact ⟨rfl, step_below (H3.out _ B9.out).2.2.2 B10⟩
      | true =>
        have he0 := HYES.out rfl
        subst he0
        go_wp2_with fail
        refine (HRW.out (by simp) _ (H3.out _ B9.out).2.2.2).mono ?_; rintro r w10 ⟨⟨va, vc, rfl, LV⟩, B10⟩
        have HB10 := Lib.hid (step_below B9.out B10)
        have HLV := Lib.hid LV
        clear LV B10
        have hmx : Try.prog.follows .mixedOrders = true := by kernel_rfl
        go_wp2_with fail
        have hlu11 : ¬ (11 : Int) < (lu : Int) := by omega
        have HDA := Lib.hid (H3.out _ HB10.out.drew).2.2.2
        have hw0 : IntKind.i64.wrap 0 = 0 := by decide
        have hw1 : (IntKind.i64.wrap 0 != 0) = false := by decide
        refine wp_region_held_drew (S := fun W => Below w10.drew.heap.size w10.drew W) (by kernel_rfl) (Below.refl _ _) (fun hHeld => ?_)
        refine wpAnyH_take (i := 0) (oi := { dst := some 129, op := Op.move (Operand.tmp 6), type := 24, pos := "law.go:52", after := #[], guard := none }) (v := ?_) rfl (by kernel_rfl) (by kernel_rfl) (by kernel_rfl) (fun _ _ _ h => h) (Or.inl ⟨by rfl, ?_⟩) (by assumption) ?_
        rotate_left
        · intro w hSw; go_simp; try with_reducible rfl
        try simp only [Act.put, List.setIfInBounds_toArray, List.set_cons_zero, List.set_cons_succ]
        refine wpAnyH_take (i := 1) (oi := { dst := some 130, op := Op.convert 24 9 (Operand.tmp 129), type := 9, pos := "law.go:52", after := #[{ on := 0, ground := Ground.data }], guard := none }) (v := ?_) rfl (by kernel_rfl) (by kernel_rfl) (by kernel_rfl) (fun _ _ _ h => h) (Or.inl ⟨by rfl, ?_⟩) (by assumption) ?_
        rotate_left
        · intro w hSw; have hc := kc2 w xa la xc A HLA.out (H3.out w (step_below HB10.out.drew hSw)).2.1; go_simp; try with_reducible rfl
        try simp only [Act.put, List.setIfInBounds_toArray, List.set_cons_zero, List.set_cons_succ]
        refine wpAnyH_take (i := 2) (oi := { dst := some 131, op := Op.move (Operand.tmp 0), type := 23, pos := "law.go:52", after := #[], guard := none }) (v := ?_) rfl (by kernel_rfl) (by kernel_rfl) (by kernel_rfl) (fun _ _ _ h => h) (Or.inl ⟨by rfl, ?_⟩) (by assumption) ?_
        rotate_left
        · intro w hSw; go_simp; try with_reducible rfl
        try simp only [Act.put, List.setIfInBounds_toArray, List.set_cons_zero, List.set_cons_succ]
        refine wpAnyH_ready (rs := [3]) (by kernel_rfl) (by simp) ?_
        refine AllReadyH.cons (o := { dst := some 132, op := Op.call { callee := Callee.value (Operand.func 26), args := #[Operand.tmp 131], argTypes := #[23] }, type := 24, pos := "law.go:52", after := #[{ on := 2, ground := Ground.data }], guard := none }) rfl (fun K hK => ?_) AllReadyH.nil
        go_simp
        refine (HRB.out (by simp) _ HDA.out).mono ?_; rintro r W4 ⟨⟨a4, c4, rfl, l4⟩, B4⟩
        go_wp2_with fail
        refine hK.out _ _ B4 (fun _ => ?_)
        clear hK K
        try simp only [Act.put, List.setIfInBounds_toArray, List.set_cons_zero, List.set_cons_succ]
        have HL4 := Lib.hid l4
        refine wpAnyH_swap (S' := fun W => Below W4.heap.size W4 W) (fun W h => step_below B4 h) ?_
        have hH4 : (fun W => Below W4.heap.size W4 W) W4 := Below.refl _ _
        clear hHeld
        refine wpAnyH_take (i := 4) (oi := { dst := some 133, op := Op.convert 24 9 (Operand.tmp 132), type := 9, pos := "law.go:52", after := #[{ on := 3, ground := Ground.data }], guard := none }) (v := ?_) rfl (by kernel_rfl) (by kernel_rfl) (by kernel_rfl) (fun _ _ _ h => h) (Or.inl ⟨by rfl, ?_⟩) (by assumption) ?_
        rotate_left
        · intro w hSw; have hc := kc2 w a4 la c4 A HLA.out (HL4.out.below hSw); go_simp; try with_reducible rfl
        try simp only [Act.put, List.setIfInBounds_toArray, List.set_cons_zero, List.set_cons_succ]
        refine wpAnyH_take (i := 5) (oi := { dst := some 134, op := Op.binOp BinOp.neq 9 (Operand.tmp 130) (Operand.tmp 133) 9, type := 4, pos := "law.go:52", after := #[{ on := 1, ground := Ground.data }, { on := 4, ground := Ground.data }], guard := none }) (v := ?_) rfl (by kernel_rfl) (by kernel_rfl) (by kernel_rfl) (fun _ _ _ h => h) (Or.inl ⟨by rfl, ?_⟩) (by assumption) ?_
        rotate_left
        · intro w hSw; go_simp; try with_reducible rfl
        try simp only [Act.put, List.setIfInBounds_toArray, List.set_cons_zero, List.set_cons_succ]
        refine wpAnyH_take (i := 6) (oi := { dst := some 135, op := Op.move (Operand.tmp 134), type := 4, pos := "law.go:52", after := #[{ on := 5, ground := Ground.data }, { on := 3, ground := Ground.chain }], guard := none }) (v := ?_) rfl (by kernel_rfl) (by kernel_rfl) (by kernel_rfl) (fun _ _ _ h => h) (Or.inl ⟨by rfl, ?_⟩) (by assumption) ?_
        rotate_left
        · intro w hSw; go_simp; try with_reducible rfl
        try simp only [Act.put, List.setIfInBounds_toArray, List.set_cons_zero, List.set_cons_succ]
        refine wpAnyH_take (i := 7) (oi := { dst := some 136, op := Op.move (Operand.tmp 7), type := 28, pos := "law.go:52", after := #[{ on := 6, ground := Ground.guard }], guard := some (6, false) }) (v := ?_) rfl (by kernel_rfl) (by kernel_rfl) (by kernel_rfl) (fun _ _ _ h => h) (Or.inl ⟨by rfl, ?_⟩) (by assumption) ?_
        rotate_left
        · intro w hSw; go_simp; try with_reducible rfl
        try simp only [Act.put, List.setIfInBounds_toArray, List.set_cons_zero, List.set_cons_succ]
        refine wpAnyH_take (i := 9) (oi := { dst := some 138, op := Op.move (Operand.tmp 9), type := 28, pos := "law.go:52", after := #[{ on := 6, ground := Ground.guard }], guard := some (6, false) }) (v := ?_) rfl (by kernel_rfl) (by kernel_rfl) (by kernel_rfl) (fun _ _ _ h => h) (Or.inl ⟨by rfl, ?_⟩) (by assumption) ?_
        rotate_left
        · intro w hSw; go_simp; try with_reducible rfl
        try simp only [Act.put, List.setIfInBounds_toArray, List.set_cons_zero, List.set_cons_succ]
        refine wpAnyH_ready (rs := [8]) (by kernel_rfl) (by simp) ?_
        refine AllReadyH.cons (o := { dst := some 137, op := Op.call { callee := Callee.value (Operand.func 24), args := #[Operand.tmp 136], argTypes := #[28] }, type := 3, pos := "law.go:52", after := #[{ on := 7, ground := Ground.data }, { on := 6, ground := Ground.chain }, { on := 6, ground := Ground.guard }], guard := some (6, false) }) rfl (fun K hK => ?_) AllReadyH.nil
        go_simp
        refine (num_law _ _).mono ?_; rintro r w' ⟨rfl, rfl⟩
        go_wp2_with fail
        refine hK.out _ _ (Below.refl _ _) (fun _ => ?_)
        clear hK K
        try simp only [Act.put, List.setIfInBounds_toArray, List.set_cons_zero, List.set_cons_succ]
        refine wpAnyH_ready (rs := [10]) (by kernel_rfl) (by simp) ?_
        refine AllReadyH.cons (o := { dst := some 139, op := Op.call { callee := Callee.value (Operand.func 24), args := #[Operand.tmp 138], argTypes := #[28] }, type := 3, pos := "law.go:52", after := #[{ on := 9, ground := Ground.data }, { on := 8, ground := Ground.chain }, { on := 6, ground := Ground.guard }], guard := some (6, false) }) rfl (fun K hK => ?_) AllReadyH.nil
        go_simp
        refine (num_law _ _).mono ?_; rintro r w' ⟨rfl, rfl⟩
        go_wp2_with fail
        refine hK.out _ _ (Below.refl _ _) (fun _ => ?_)
        clear hK K
        try simp only [Act.put, List.setIfInBounds_toArray, List.set_cons_zero, List.set_cons_succ]
        refine wpAnyH_take (i := 11) (oi := { dst := some 140, op := Op.binOp BinOp.add 3 (Operand.tmp 137) (Operand.tmp 139) 3, type := 3, pos := "law.go:52", after := #[{ on := 8, ground := Ground.data }, { on := 10, ground := Ground.data }, { on := 6, ground := Ground.guard }], guard := some (6, false) }) (v := ?_) rfl (by kernel_rfl) (by kernel_rfl) (by kernel_rfl) (fun _ _ _ h => h) (Or.inl ⟨by rfl, ?_⟩) (by assumption) ?_
        rotate_left
        · intro w hSw; go_simp; try with_reducible rfl
        try simp only [Act.put, List.setIfInBounds_toArray, List.set_cons_zero, List.set_cons_succ]
        refine wpAnyH_take (i := 12) (oi := { dst := some 141, op := Op.binOp BinOp.neq 3 (Operand.tmp 140) (Operand.const (Value.int IntKind.i64 0)) 3, type := 4, pos := "law.go:52", after := #[{ on := 11, ground := Ground.data }, { on := 6, ground := Ground.guard }], guard := some (6, false) }) (v := ?_) rfl (by kernel_rfl) (by kernel_rfl) (by kernel_rfl) (fun _ _ _ h => h) (Or.inl ⟨by rfl, ?_⟩) (by assumption) ?_
        rotate_left
        · intro w hSw; go_simp; try with_reducible rfl
        try simp only [Act.put, List.setIfInBounds_toArray, List.set_cons_zero, List.set_cons_succ]
        refine wpAnyH_take (i := 13) (oi := { dst := some 142, op := Op.pick (Operand.tmp 135) (Operand.const (Value.bool true)) (Operand.tmp 141), type := 4, pos := "law.go:52", after := #[{ on := 6, ground := Ground.data }, { on := 12, ground := Ground.data }], guard := none }) (v := ?_) rfl (by kernel_rfl) (by kernel_rfl) (by kernel_rfl) (fun _ _ _ h => h) (Or.inl ⟨by rfl, ?_⟩) (by assumption) ?_
        rotate_left
        · intro w hSw; go_simp; try with_reducible rfl
        try simp only [Act.put, List.setIfInBounds_toArray, List.set_cons_zero, List.set_cons_succ]
        refine wpAnyH_take (i := 14) (oi := { dst := some 143, op := Op.move (Operand.tmp 142), type := 4, pos := "law.go:52", after := #[{ on := 13, ground := Ground.data }, { on := 10, ground := Ground.chain }], guard := none }) (v := ?_) rfl (by kernel_rfl) (by kernel_rfl) (by kernel_rfl) (fun _ _ _ h => h) (Or.inl ⟨by rfl, ?_⟩) (by assumption) ?_
        rotate_left
        · intro w hSw; go_simp; try with_reducible rfl
        try simp only [Act.put, List.setIfInBounds_toArray, List.set_cons_zero, List.set_cons_succ]
        refine wpAnyH_take (i := 15) (oi := { dst := some 144, op := Op.move (Operand.tmp 8), type := 31, pos := "law.go:52", after := #[{ on := 14, ground := Ground.guard }], guard := some (14, false) }) (v := ?_) rfl (by kernel_rfl) (by kernel_rfl) (by kernel_rfl) (fun _ _ _ h => h) (Or.inl ⟨by rfl, ?_⟩) (by assumption) ?_
        rotate_left
        · intro w hSw; go_simp; try with_reducible rfl
        try simp only [Act.put, List.setIfInBounds_toArray, List.set_cons_zero, List.set_cons_succ]
        refine wpAnyH_take (i := 16) (oi := { dst := some 145, op := Op.call { callee := Callee.builtin Builtin.len, args := #[Operand.tmp 144], argTypes := #[31] }, type := 3, pos := "law.go:52", after := #[{ on := 15, ground := Ground.data }, { on := 14, ground := Ground.guard }], guard := some (14, false) }) (v := ?_) rfl (by kernel_rfl) (by kernel_rfl) (by kernel_rfl) (fun _ _ _ h => h) (Or.inl ⟨by rfl, ?_⟩) (by assumption) ?_
        rotate_left
        · intro w hSw; go_simp; try with_reducible rfl
        try simp only [Act.put, List.setIfInBounds_toArray, List.set_cons_zero, List.set_cons_succ]
        refine wpAnyH_take (i := 17) (oi := { dst := some 146, op := Op.move (Operand.tmp 14), type := 31, pos := "law.go:52", after := #[{ on := 14, ground := Ground.guard }], guard := some (14, false) }) (v := ?_) rfl (by kernel_rfl) (by kernel_rfl) (by kernel_rfl) (fun _ _ _ h => h) (Or.inl ⟨by rfl, ?_⟩) (by assumption) ?_
        rotate_left
        · intro w hSw; go_simp; try with_reducible rfl
        try simp only [Act.put, List.setIfInBounds_toArray, List.set_cons_zero, List.set_cons_succ]
        refine wpAnyH_take (i := 18) (oi := { dst := some 147, op := Op.call { callee := Callee.builtin Builtin.len, args := #[Operand.tmp 146], argTypes := #[31] }, type := 3, pos := "law.go:52", after := #[{ on := 17, ground := Ground.data }, { on := 14, ground := Ground.guard }], guard := some (14, false) }) (v := ?_) rfl (by kernel_rfl) (by kernel_rfl) (by kernel_rfl) (fun _ _ _ h => h) (Or.inl ⟨by rfl, ?_⟩) (by assumption) ?_
        rotate_left
        · intro w hSw; go_simp; try with_reducible rfl
        try simp only [Act.put, List.setIfInBounds_toArray, List.set_cons_zero, List.set_cons_succ]
        refine wpAnyH_take (i := 19) (oi := { dst := some 148, op := Op.binOp BinOp.neq 3 (Operand.tmp 145) (Operand.tmp 147) 3, type := 4, pos := "law.go:52", after := #[{ on := 16, ground := Ground.data }, { on := 18, ground := Ground.data }, { on := 14, ground := Ground.guard }], guard := some (14, false) }) (v := ?_) rfl (by kernel_rfl) (by kernel_rfl) (by kernel_rfl) (fun _ _ _ h => h) (Or.inl ⟨by rfl, ?_⟩) (by assumption) ?_
        rotate_left
        · intro w hSw; go_simp; try with_reducible rfl
        try simp only [Act.put, List.setIfInBounds_toArray, List.set_cons_zero, List.set_cons_succ]
        refine wpAnyH_take (i := 20) (oi := { dst := some 149, op := Op.pick (Operand.tmp 143) (Operand.const (Value.bool true)) (Operand.tmp 148), type := 4, pos := "law.go:52", after := #[{ on := 14, ground := Ground.data }, { on := 19, ground := Ground.data }], guard := none }) (v := ?_) rfl (by kernel_rfl) (by kernel_rfl) (by kernel_rfl) (fun _ _ _ h => h) (Or.inl ⟨by rfl, ?_⟩) (by assumption) ?_
        rotate_left
        · intro w hSw; go_simp; try with_reducible rfl
        try simp only [Act.put, List.setIfInBounds_toArray, List.set_cons_zero, List.set_cons_succ]
        refine wpAnyH_take (i := 21) (oi := { dst := some 150, op := Op.move (Operand.tmp 149), type := 4, pos := "law.go:52", after := #[{ on := 20, ground := Ground.data }, { on := 14, ground := Ground.chain }], guard := none }) (v := ?_) rfl (by kernel_rfl) (by kernel_rfl) (by kernel_rfl) (fun _ _ _ h => h) (Or.inl ⟨by rfl, ?_⟩) (by assumption) ?_
        rotate_left
        · intro w hSw; go_simp; try with_reducible rfl
        try simp only [Act.put, List.setIfInBounds_toArray, List.set_cons_zero, List.set_cons_succ]
        refine wpAnyH_take (i := 22) (oi := { dst := some 151, op := Op.move (Operand.tmp 8), type := 31, pos := "law.go:52", after := #[{ on := 21, ground := Ground.guard }], guard := some (21, false) }) (v := ?_) rfl (by kernel_rfl) (by kernel_rfl) (by kernel_rfl) (fun _ _ _ h => h) (Or.inl ⟨by rfl, ?_⟩) (by assumption) ?_
        rotate_left
        · intro w hSw; go_simp; try with_reducible rfl
        try simp only [Act.put, List.setIfInBounds_toArray, List.set_cons_zero, List.set_cons_succ]
        refine wpAnyH_take (i := 23) (oi := { dst := some 152, op := Op.call { callee := Callee.builtin Builtin.len, args := #[Operand.tmp 151], argTypes := #[31] }, type := 3, pos := "law.go:52", after := #[{ on := 22, ground := Ground.data }, { on := 21, ground := Ground.guard }], guard := some (21, false) }) (v := ?_) rfl (by kernel_rfl) (by kernel_rfl) (by kernel_rfl) (fun _ _ _ h => h) (Or.inl ⟨by rfl, ?_⟩) (by assumption) ?_
        rotate_left
        · intro w hSw; go_simp; try with_reducible rfl
        try simp only [Act.put, List.setIfInBounds_toArray, List.set_cons_zero, List.set_cons_succ]
        refine wpAnyH_take (i := 24) (oi := { dst := some 153, op := Op.binOp BinOp.gtr 3 (Operand.tmp 152) (Operand.const (Value.int IntKind.i64 11)) 3, type := 4, pos := "law.go:52", after := #[{ on := 23, ground := Ground.data }, { on := 21, ground := Ground.guard }], guard := some (21, false) }) (v := ?_) rfl (by kernel_rfl) (by kernel_rfl) (by kernel_rfl) (fun _ _ _ h => h) (Or.inl ⟨by rfl, ?_⟩) (by assumption) ?_
        rotate_left
        · intro w hSw; go_simp; try with_reducible rfl
        try simp only [Act.put, List.setIfInBounds_toArray, List.set_cons_zero, List.set_cons_succ]
        refine wpAnyH_take (i := 25) (oi := { dst := some 154, op := Op.pick (Operand.tmp 150) (Operand.const (Value.bool true)) (Operand.tmp 153), type := 4, pos := "law.go:52", after := #[{ on := 21, ground := Ground.data }, { on := 24, ground := Ground.data }], guard := none }) (v := ?_) rfl (by kernel_rfl) (by kernel_rfl) (by kernel_rfl) (fun _ _ _ h => h) (Or.inl ⟨by rfl, ?_⟩) (by assumption) ?_
        rotate_left
        · intro w hSw; go_simp; try with_reducible rfl
        try simp only [Act.put, List.setIfInBounds_toArray, List.set_cons_zero, List.set_cons_succ]
        refine wpAnyH_done (by kernel_rfl) ?_ _
        have HB5 := Lib.hid (step_below HB10.out.drew B4)
        have HV5 := Lib.hid (fun W (bb : Below W4.heap.size W4 W) => (HLV.out.drew.below B4).below bb)
        clear l4 HL4 hH4 B4 HDA HB10 HLV HRB HRW HSR HMR
        go_wp2_with fail
        go_loopw [15] (fun i wr => ∃ k : Nat, k ≤ lu ∧ i = .int .i64 k ∧ Below W4.heap.size W4 wr) (fun i _ => lu - (intOf i).toNat)
        case atStart => exact ⟨0, by omega, rfl, Below.refl _ _⟩
        case round =>
          obtain ⟨k, hk, rfl, B⟩ := hrel
          have BB := Lib.hid B
          clear B
          have hk11 : (k : Int) ≤ 11 := by omega
          by_cases hlt : k < lu
          · have hkl : (k : Int) < (lu : Int) := by omega
            obtain ⟨b1, o1, e1, c1⟩ := (H3.out wr (step_below HB5.out BB.out)).2.2.1.get k (by rw [HLU.out]; exact hlt)
            obtain ⟨b2, o2, e2, c2⟩ := (HV5.out wr BB.out).get k (by rw [HLU.out]; exact hlt)
            subst e1 e2
            obtain ⟨x, hx⟩ : ∃ x, U.getD k 0 = x := ⟨_, rfl⟩
            rw [hx] at c1 c2
            clear hx
            go_wp2_with fail
            go_quiet (fail)
            go_wp2_with fail
            go_roundw
            case rel => exact ⟨k + 1, by omega, by go_num, below_drewN BB.out _⟩
            case measure => simp [intOf]; omega
          · have hkl : ¬ (k : Int) < (lu : Int) := by omega
            go_wp2_with fail
            refine (known_law _).mono ?_; rintro r w11 ⟨rfl, B11⟩
            go_wp2_with fail
            go_ret
            exact ⟨rfl, step_below (H3.out _ (step_below HB5.out BB.out)).2.2.2 B11⟩
end Go.Proofs.Ytkgcbhpgkcfkhaa
