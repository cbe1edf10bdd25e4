/- CatalogCalls' walk. -/
import Derived.Test.YtkgcbhpgkcfkhaaCoB
import Derived.Test.YtkgcbhpgkcfkhaaCoR
import Derived.Test.YtkgcbhpgkcfkhaaCkw
namespace Go.Proofs.Ytkgcbhpgkcfkhaa
open Go.ChangeShapes Go.WideShapes Go.ChangeAt Go.RowKit Go.Shelf
set_option linter.unusedVariables false
set_option linter.unusedSimpArgs false

def SeG (s : SesV) : Prop := s.n ≤ 140737488355328 ∧ ∀ x ∈ s.ts, TxG x
def SeM (s : SesV) : Prop := s.ts.length ≤ 9000 ∧ ∀ x ∈ s.ts, x.ops.length ≤ 9000 ∧ ∀ o ∈ x.ops, o.rn ≤ 9000
set_option maxRecDepth 100000 in
set_option maxHeartbeats 8000000 in
theorem ccalls_law (j : Job) (la : Option Addr) (L : List SesV) (n lc : Nat) (hL : L.length = n) (hB : ∀ s ∈ L, SeG s) (w : World) (hjl : Ls .i64 w j.a j.cap j.T) (hjn : j.T.length = j.n) (hs : SesR w la L) :
    Calls Try.prog 9 #[.agg #[.int .i64 j.w, .int .i64 j.l, .int .i64 j.d, .int .i64 j.c, .int .i64 j.k, .int .i64 j.e, .slice j.a j.n j.cap], .slice la n lc] w fun r w' => r = .returned (.bool true) ∧ Below w.heap.size w w' := by
  have hb0 : Below w.heap.size w (w.alloc (.cells #[.int .i64 j.w, .int .i64 j.l, .int .i64 j.d, .int .i64 j.c, .int .i64 j.k, .int .i64 j.e, .slice j.a j.n j.cap] 53)) := (Below.refl _ _).alloc (Nat.le_refl _) _
  have hbx := BoxC.new w #[.int .i64 j.w, .int .i64 j.l, .int .i64 j.d, .int .i64 j.c, .int .i64 j.k, .int .i64 j.e, .slice j.a j.n j.cap] 53
  have HLN := Lib.hid hL
  have HBB := Lib.hid hB
  clear hB hL
  have hmx : Try.prog.follows .mixedOrders = true := by kernel_rfl
  go_enter Try.func9, Try.ntmps9
  go_upto_region 1 with (fail)
  generalize (w.alloc (.cells #[.int .i64 j.w, .int .i64 j.l, .int .i64 j.d, .int .i64 j.c, .int .i64 j.k, .int .i64 j.e, .slice j.a j.n j.cap] 53)) = W0 at *
  have FG := Lib.hid (fun W (b : Below W0.heap.size W0 W) => (by
    have x := hbx.below b
    exact ⟨x.cell 0, x.cell 1, x.cell 2, x.cell 3, x.cell 4, x.cell 5, x.cell 6⟩ : W.cell? ⟨w.heap.size, 0, none⟩ = some (.int .i64 j.w) ∧ W.cell? ⟨w.heap.size, 1, none⟩ = some (.int .i64 j.l) ∧ W.cell? ⟨w.heap.size, 2, none⟩ = some (.int .i64 j.d) ∧ W.cell? ⟨w.heap.size, 3, none⟩ = some (.int .i64 j.c) ∧ W.cell? ⟨w.heap.size, 4, none⟩ = some (.int .i64 j.k) ∧ W.cell? ⟨w.heap.size, 5, none⟩ = some (.int .i64 j.e) ∧ W.cell? ⟨w.heap.size, 6, none⟩ = some (.slice j.a j.n j.cap)))
  have FL := Lib.hid (fun W (b : Below W0.heap.size W0 W) => (⟨(hjl.below hb0).below b, hjn⟩ : Ls .i64 W j.a j.cap j.T ∧ j.T.length = j.n))
  have FS := Lib.hid (fun W (b : Below W0.heap.size W0 W) => (hs.below hb0).below b)
  have HB0 := Lib.hid hb0
  clear hb0 hbx hjl hjn hs
  obtain ⟨g0, g1, g2, g3, g4, g5, g6⟩ := FG.out _ (Below.refl _ _)
  by_cases h2000 : 2000 < j.n
  · have h2i : (2000 : Int) < (j.n : Int) := by omega
    go_wp2_with fail
    refine (known33 _).mono ?_; rintro r w9 ⟨rfl, B2⟩
    go_wp2_with fail
    go_ret
    exact ⟨rfl, step_below HB0.out B2⟩
  have h2i : ¬ (2000 : Int) < (j.n : Int) := by omega
  by_cases h100 : 100 < n
  · have h1i : (100 : Int) < (n : Int) := by omega
    go_wp2_with fail
    refine (known33 _).mono ?_; rintro r w9 ⟨rfl, B2⟩
    go_wp2_with fail
    go_ret
    exact ⟨rfl, step_below HB0.out B2⟩
  have h1i : ¬ (100 : Int) < (n : Int) := by omega
  have hni : (n : Int) ≤ 100 := by omega
  have FJ := Lib.hid (fun W (b : Below W0.heap.size W0 W) => (⟨(FL.out W b).1, (FL.out W b).2, by omega⟩ : JobAt W j))
  have HN100 := Lib.hid (show n ≤ 100 by omega)
  clear h2000 h100
  go_wp2_with fail
  clear g0 g1 g2 g3 g4 g5 g6
  go_loopw [5] (fun i wr => ∃ k : Nat, k ≤ n ∧ i = .int .i64 (k : Int) ∧ Hid (∀ q, q < k → ∀ s, L[q]? = some s → SeM s) ∧ Hid (Below W0.heap.size W0 wr)) (fun i _ => n - (intOf i).toNat)
  case atStart => exact ⟨0, by omega, rfl, Lib.hid (fun q hq => absurd hq (by omega)), Lib.hid (Below.refl _ _)⟩
  case round =>
    obtain ⟨k, hk, rfl, HALL, BR⟩ := hrel
    by_cases hlt : k < n
    · as_aux_lemma =>
      have hkl : (k : Int) < (n : Int) := by omega
      obtain ⟨s, ho⟩ : ∃ o, L[k]? = some o := ⟨_, List.getElem?_eq_getElem (by rw [HLN.out]; exact hlt)⟩
      obtain ⟨hsn, hsb⟩ := HBB.out s (List.mem_of_getElem? ho)
      obtain ⟨b1, o1, ea, d0, hts, htl⟩ := FS.out _ BR.out k s ho
      subst ea
      have HM := Lib.hid (much_law s.a s.ts s.n s.c htl hsn hsb wr hts)
      have HO := Lib.hid ho
      have HLT := Lib.hid hlt
      clear ho hsb hts htl hlt
      go_wp2_with fail
      refine HM.out.mono ?_; rintro r w5 ⟨⟨b, rfl, hb⟩, B5⟩
      have H5 := Lib.hid (step_below BR.out B5)
      have HBM := Lib.hid hb
      clear hb B5 d0
      cases b
      · have HST := Lib.hid (show ∀ q, q < k + 1 → ∀ s, L[q]? = some s → SeM s from fun q hq p hp => by
          by_cases e : q = k
          · subst e; rw [HO.out] at hp; cases hp; exact HBM.out rfl
          · exact HALL.out q (by omega) p hp)
        go_wp2_with fail
        go_roundw
        case rel => exact ⟨k + 1, by have := HLT.out; omega, by go_num, HST, H5⟩
        case measure => simp [intOf]; have := HLT.out; omega
      · go_wp2_with fail
        refine (known33 _).mono ?_; rintro r w9 ⟨rfl, B2⟩
        go_wp2_with fail
        try rw [Exit.noGoto_ret]
        go_ret
        exact ⟨rfl, step_below HB0.out (step_below H5.out B2)⟩
    · as_aux_lemma =>
      have hkl : ¬ (k : Int) < (n : Int) := by omega
      have HSM := Lib.hid (show ∀ s ∈ L, SeM s from fun s hs => by
        obtain ⟨q, hq⟩ := List.mem_iff_getElem?.1 hs
        exact HALL.out q (by have := (List.getElem?_eq_some_iff.1 hq).1; have := HLN.out; omega) s hq)
      obtain ⟨W3, hW3⟩ : ∃ W, W = wr := ⟨_, rfl⟩
      rw [← hW3] at BR ⊢
      clear hW3 HALL hlt hk
      have FT := Lib.hid (fun W (b : Below W0.heap.size W0 W) (k : Nat) (s : SesV) (ho : L[k]? = some s) => (by
        obtain ⟨b1, o1, ea, d0, hts, htl⟩ := FS.out W b k s ho
        have hm := HSM.out s (List.mem_of_getElem? ho)
        refine ⟨⟨b1, o1, ea, d0, hts, htl⟩, ⟨by rw [← htl]; have := hm.1; omega, fun x hx => ?_⟩⟩
        obtain ⟨q, hq⟩ := List.mem_iff_getElem?.1 hx
        obtain ⟨_, _, _, _, hxa⟩ := hts q x hq
        have hxm := hm.2 x hx
        exact ⟨by rw [← hxa.ol]; omega, fun o ho => by have := hxm.2 o ho; omega⟩ : (∃ b off, la = some ⟨b, off, none⟩ ∧ W.cell? ⟨b, off + k, none⟩ = some (.slice s.a s.n s.c) ∧ TxsR W s.a s.ts ∧ s.ts.length = s.n) ∧ SeB s))
      have HSE := Lib.hid (show ∀ s ∈ L, SeB s from fun s hs => by
        obtain ⟨q, hq⟩ := List.mem_iff_getElem?.1 hs
        exact (FT.out _ BR.out q s hq).2)
      have HM1 := Lib.hid (fun W (b : Below W3.heap.size W3 W) => maysess_law j la L n lc HLN.out (by have := HN100.out; omega) HSE.out W (FJ.out _ (step_below BR.out b)) (FS.out _ (step_below BR.out b)))
      have HM2 := Lib.hid (fun W (b : Below W3.heap.size W3 W) => qmaysess_law j la L n lc HLN.out (by have := HN100.out; omega) HSE.out W (FJ.out _ (step_below BR.out b)) (FS.out _ (step_below BR.out b)))
      generalize mayS j L n = ms at HM1 HM2
      go_wp2_with fail
      go_cut [36] (fun x wx => x = .bool false ∧ Hid (Below W3.heap.size W3 wx))
      case first =>
        refine wp_region_held_drew (S := (fun W => Below W3.heap.size W3 W)) (by kernel_rfl) ((Below.refl _ _).drew) (fun hHeld => ?_)
        refine wpAnyH_take (i := 0) (oi := { dst := some 30, op := Op.load 53 (Operand.tmp 2), type := 53, pos := "law.go:108", after := #[], guard := none }) (v := ?_) rfl (by kernel_rfl) (by kernel_rfl) (by kernel_rfl) (fun _ _ _ h => h) (Or.inl ⟨by rfl, ?_⟩) (by assumption) ?_
        rotate_left
        · intro W hSw; obtain ⟨s0, s1, s2, s3, s4, s5, s6⟩ := FG.out W (step_below BR.out hSw); go_simp; try with_reducible rfl
        try simp only [Act.put, List.setIfInBounds_toArray, List.set_cons_zero, List.set_cons_succ]
        refine wpAnyH_take (i := 1) (oi := { dst := some 31, op := Op.move (Operand.tmp 1), type := 79, pos := "law.go:108", after := #[], guard := none }) (v := ?_) rfl (by kernel_rfl) (by kernel_rfl) (by kernel_rfl) (fun _ _ _ h => h) (Or.inl ⟨by rfl, ?_⟩) (by assumption) ?_
        rotate_left
        · intro W hSw; go_simp; try with_reducible rfl
        try simp only [Act.put, List.setIfInBounds_toArray, List.set_cons_zero, List.set_cons_succ]
        refine wpAnyH_take (i := 3) (oi := { dst := some 33, op := Op.load 53 (Operand.tmp 2), type := 53, pos := "law.go:108", after := #[], guard := none }) (v := ?_) rfl (by kernel_rfl) (by kernel_rfl) (by kernel_rfl) (fun _ _ _ h => h) (Or.inl ⟨by rfl, ?_⟩) (by assumption) ?_
        rotate_left
        · intro W hSw; obtain ⟨s0, s1, s2, s3, s4, s5, s6⟩ := FG.out W (step_below BR.out hSw); go_simp; try with_reducible rfl
        try simp only [Act.put, List.setIfInBounds_toArray, List.set_cons_zero, List.set_cons_succ]
        refine wpAnyH_take (i := 4) (oi := { dst := some 34, op := Op.move (Operand.tmp 1), type := 79, pos := "law.go:108", after := #[], guard := none }) (v := ?_) rfl (by kernel_rfl) (by kernel_rfl) (by kernel_rfl) (fun _ _ _ h => h) (Or.inl ⟨by rfl, ?_⟩) (by assumption) ?_
        rotate_left
        · intro W hSw; go_simp; try with_reducible rfl
        try simp only [Act.put, List.setIfInBounds_toArray, List.set_cons_zero, List.set_cons_succ]
        refine wpAnyH_ready (rs := [2]) (by kernel_rfl) (by simp) ?_
        refine AllReadyH.cons (o := { dst := some 32, op := Op.call { callee := Callee.value (Operand.func 49), args := #[Operand.tmp 30, Operand.tmp 31], argTypes := #[53, 79] }, type := 4, pos := "law.go:108", after := #[{ on := 0, ground := Ground.data }, { on := 1, ground := Ground.data }], guard := none }) rfl (fun K hK => ?_) AllReadyH.nil
        go_simp
        refine (HM1.out _ hHeld).mono ?_; rintro r W5 ⟨rfl, B5⟩
        go_wp2_with fail
        refine hK.out _ _ (step_below hHeld B5) (fun hHeldn => ?_)
        clear hK K hHeld; have hHeld := hHeldn; clear hHeldn
        clear B5
        try simp only [Act.put, List.setIfInBounds_toArray, List.set_cons_zero, List.set_cons_succ]
        refine wpAnyH_ready (rs := [5]) (by kernel_rfl) (by simp) ?_
        refine AllReadyH.cons (o := { dst := some 35, op := Op.call { callee := Callee.value (Operand.func 50), args := #[Operand.tmp 33, Operand.tmp 34], argTypes := #[53, 79] }, type := 4, pos := "law.go:108", after := #[{ on := 3, ground := Ground.data }, { on := 4, ground := Ground.data }, { on := 2, ground := Ground.chain }], guard := none }) rfl (fun K hK => ?_) AllReadyH.nil
        go_simp
        refine (HM2.out _ hHeld).mono ?_; rintro r W5 ⟨rfl, B5⟩
        go_wp2_with fail
        refine hK.out _ _ (step_below hHeld B5) (fun hHeldn => ?_)
        clear hK K hHeld; have hHeld := hHeldn; clear hHeldn
        clear B5
        try simp only [Act.put, List.setIfInBounds_toArray, List.set_cons_zero, List.set_cons_succ]
        refine wpAnyH_take (i := 6) (oi := { dst := some 36, op := Op.binOp BinOp.neq 4 (Operand.tmp 32) (Operand.tmp 35) 4, type := 4, pos := "law.go:108", after := #[{ on := 2, ground := Ground.data }, { on := 5, ground := Ground.data }], guard := none }) (v := ?_) rfl (by kernel_rfl) (by kernel_rfl) (by kernel_rfl) (fun _ _ _ h => h) (Or.inl ⟨by rfl, ?_⟩) (by assumption) ?_
        rotate_left
        · intro W hSw; go_simp; try with_reducible rfl
        try simp only [Act.put, List.setIfInBounds_toArray, List.set_cons_zero, List.set_cons_succ]
        refine wpAnyH_done (by kernel_rfl) ?_ _
        go_wp2_with fail
        go_meet
        exact ⟨rfl, Lib.hid hHeld⟩
      case rest =>
        obtain ⟨rfl, HC3⟩ := hcut
        clear HM1 HM2
        have HB4 := Lib.hid (step_below BR.out HC3.out)
        go_wp2_with fail
        obtain ⟨W4, hW4⟩ : ∃ W, W = wc := ⟨_, rfl⟩
        rw [← hW4] at HB4 ⊢
        clear hW4 HC3 BR
        go_loopw [6, 7] (fun i _ wr => ∃ k : Nat, k ≤ n ∧ i = .int .i64 (k : Int) ∧ Hid (Below W4.heap.size W4 wr)) (fun i _ _ => n - (intOf i).toNat)
        case atStart => exact ⟨0, by omega, rfl, Lib.hid (Below.refl _ _)⟩
        case round =>
          obtain ⟨k, hk, rfl, BR⟩ := hrel
          by_cases hlt : k < n
          · have hkl : (k : Int) < (n : Int) := by omega
            have hki : (k : Int) ≤ 100 := by omega
            obtain ⟨s, ho⟩ : ∃ o, L[k]? = some o := ⟨_, List.getElem?_eq_getElem (by rw [HLN.out]; exact hlt)⟩
            obtain ⟨⟨b1, o1, ea, d0, hts, htl⟩, hse⟩ := FT.out _ (step_below HB4.out BR.out) k s ho
            subst ea
            have HTL := Lib.hid htl
            have HSB := Lib.hid hse
            have HTS := Lib.hid (fun W (b : Below wr.heap.size wr W) => hts.below b)
            have HD0 := Lib.hid (fun W (b : Below wr.heap.size wr W) => (b.cell (World.block_lt_of_cell? _ _ d0)).trans d0)
            have HLT := Lib.hid hlt
            have hsi : (s.n : Int) ≤ 1000000 := by have := hse.1; omega
            clear ho hlt hts htl hse
            go_wp2_with fail
            obtain ⟨W1, hW1⟩ : ∃ W, W = wr := ⟨_, rfl⟩
            rw [← hW1] at BR HTS HD0 ⊢
            clear hW1 d0
            go_loopw [7] (fun i wq => ∃ q : Nat, q ≤ s.n ∧ i = .int .i64 (q : Int) ∧ Hid (Below W1.heap.size W1 wq)) (fun i _ => s.n - (intOf i).toNat)
            case atStart => exact ⟨0, by omega, rfl, Lib.hid (Below.refl _ _)⟩
            case round =>
              obtain ⟨q, hq, rfl, BQ⟩ := hrel
              have BX := Lib.hid (step_below HB4.out (step_below BR.out BQ.out))
              have d0 := HD0.out _ BQ.out
              by_cases hqt : q < s.n
              · have hqi : (q : Int) < (s.n : Int) := by omega
                by_cases hq100 : q < 100
                · have hqh : (q : Int) < 100 := by omega
                  obtain ⟨x, hx⟩ : ∃ o, s.ts[q]? = some o := ⟨_, List.getElem?_eq_getElem (by rw [HTL.out]; exact hqt)⟩
                  have hxb := HSB.out.2 x (List.mem_of_getElem? hx)
                  obtain ⟨b2, o2, e2, ⟨y0, y1, y2⟩, hxa⟩ := HTS.out _ BQ.out q x hx
                  have HEA := Lib.hid e2
                  rw [e2] at d0
                  obtain ⟨mt, hmt⟩ : ∃ b, mayT j x = b := ⟨_, rfl⟩
                  have HM := Lib.hid (fun W (b : Below wr.heap.size wr W) => (by have h := maytxn_law j x hxb.1 hxb.2 W (FJ.out _ (step_below BX.out b)) (hxa.below b); rwa [hmt] at h : Calls Try.prog 51 #[.agg #[.int .i64 j.w, .int .i64 j.l, .int .i64 j.d, .int .i64 j.c, .int .i64 j.k, .int .i64 j.e, .slice j.a j.n j.cap], .agg #[.slice x.oa x.on x.oc, .bool x.sn, .bool x.ab]] W fun r w' => r = .returned (.bool mt) ∧ Below W.heap.size W w'))
                  have HQM := Lib.hid (fun W (b : Below wr.heap.size wr W) => (by have h := qmaytxn_law j x hxb.1 W (FJ.out _ (step_below BX.out b)) (hxa.below b); rwa [hmt] at h : Calls Try.prog 52 #[.agg #[.int .i64 j.w, .int .i64 j.l, .int .i64 j.d, .int .i64 j.c, .int .i64 j.k, .int .i64 j.e, .slice j.a j.n j.cap], .agg #[.slice x.oa x.on x.oc, .bool x.sn, .bool x.ab]] W fun r w' => r = .returned (.bool mt) ∧ Below W.heap.size W w'))
                  have HCA := Lib.hid (fun W (b : Below wr.heap.size wr W) => calls_law j x.oa x.ops x.on x.oc hxa.ol hxb.1 hxb.2 W (FJ.out _ (step_below BX.out b)) (hxa.below b).os)
                  have HQ := Lib.hid (show ∀ W, Below wr.heap.size wr W → (W.cell? ⟨w.heap.size, 0, none⟩ = some (.int .i64 j.w) ∧ W.cell? ⟨w.heap.size, 1, none⟩ = some (.int .i64 j.l) ∧ W.cell? ⟨w.heap.size, 2, none⟩ = some (.int .i64 j.d) ∧ W.cell? ⟨w.heap.size, 3, none⟩ = some (.int .i64 j.c) ∧ W.cell? ⟨w.heap.size, 4, none⟩ = some (.int .i64 j.k) ∧ W.cell? ⟨w.heap.size, 5, none⟩ = some (.int .i64 j.e) ∧ W.cell? ⟨w.heap.size, 6, none⟩ = some (.slice j.a j.n j.cap)) ∧ W.cell? ⟨b1, o1 + k, none⟩ = some (.slice (some ⟨b2, o2, none⟩) s.n s.c) ∧ W.cell? ⟨b2, o2 + q * 3, none⟩ = some (.slice x.oa x.on x.oc) ∧ W.cell? ⟨b2, o2 + q * 3 + 1, none⟩ = some (.bool x.sn) ∧ W.cell? ⟨b2, o2 + q * 3 + 2, none⟩ = some (.bool x.ab) from fun W b => (by
                    have f : ∀ {p v}, wr.cell? p = some v → W.cell? p = some v := fun h => (b.cell (World.block_lt_of_cell? _ _ h)).trans h
                    exact ⟨FG.out W (step_below BX.out b), f d0, f y0, f y1, f y2⟩))
                  have HQT := Lib.hid hqt
                  clear hx hxb e2 hxa hqt hmt
                  go_wp2_with fail
                  go_cut [87] (fun x wx => x = .bool false ∧ Hid (Below wr.heap.size wr wx))
                  case first =>
                    refine wp_region_held_drew (S := (fun W => Below wr.heap.size wr W)) (by kernel_rfl) ((Below.refl _ _).drew) (fun hHeld => ?_)
                    refine wpAnyH_take (i := 0) (oi := { dst := some 56, op := Op.load 53 (Operand.tmp 2), type := 53, pos := "law.go:113", after := #[], guard := none }) (v := ?_) rfl (by kernel_rfl) (by kernel_rfl) (by kernel_rfl) (fun _ _ _ h => h) (Or.inl ⟨by rfl, ?_⟩) (by assumption) ?_
                    rotate_left
                    · intro W hSw; obtain ⟨⟨s0, s1, s2, s3, s4, s5, s6⟩, s7, t0, t1, t2⟩ := HQ.out W hSw; go_simp; try with_reducible rfl
                    try simp only [Act.put, List.setIfInBounds_toArray, List.set_cons_zero, List.set_cons_succ]
                    refine wpAnyH_take (i := 1) (oi := { dst := some 57, op := Op.move (Operand.tmp 1), type := 79, pos := "law.go:113", after := #[], guard := none }) (v := ?_) rfl (by kernel_rfl) (by kernel_rfl) (by kernel_rfl) (fun _ _ _ h => h) (Or.inl ⟨by rfl, ?_⟩) (by assumption) ?_
                    rotate_left
                    · intro W hSw; go_simp; try with_reducible rfl
                    try simp only [Act.put, List.setIfInBounds_toArray, List.set_cons_zero, List.set_cons_succ]
                    refine wpAnyH_take (i := 2) (oi := { dst := some 58, op := Op.move (Operand.tmp 6), type := 3, pos := "law.go:113", after := #[], guard := none }) (v := ?_) rfl (by kernel_rfl) (by kernel_rfl) (by kernel_rfl) (fun _ _ _ h => h) (Or.inl ⟨by rfl, ?_⟩) (by assumption) ?_
                    rotate_left
                    · intro W hSw; go_simp; try with_reducible rfl
                    try simp only [Act.put, List.setIfInBounds_toArray, List.set_cons_zero, List.set_cons_succ]
                    refine wpAnyH_take (i := 3) (oi := { dst := some 59, op := Op.indexAddr 79 (Operand.tmp 57) (Operand.tmp 58), type := 0, pos := "law.go:113", after := #[{ on := 1, ground := Ground.data }, { on := 2, ground := Ground.data }], guard := none }) (v := ?_) rfl (by kernel_rfl) (by kernel_rfl) (by kernel_rfl) (fun _ _ _ h => h) (Or.inl ⟨by rfl, ?_⟩) (by assumption) ?_
                    rotate_left
                    · intro W hSw; go_simp; try with_reducible rfl
                    try simp only [Act.put, List.setIfInBounds_toArray, List.set_cons_zero, List.set_cons_succ]
                    refine wpAnyH_take (i := 4) (oi := { dst := some 60, op := Op.load 81 (Operand.tmp 59), type := 81, pos := "law.go:113", after := #[{ on := 3, ground := Ground.data }], guard := none }) (v := ?_) rfl (by kernel_rfl) (by kernel_rfl) (by kernel_rfl) (fun _ _ _ h => h) (Or.inl ⟨by rfl, ?_⟩) (by assumption) ?_
                    rotate_left
                    · intro W hSw; obtain ⟨⟨s0, s1, s2, s3, s4, s5, s6⟩, s7, t0, t1, t2⟩ := HQ.out W hSw; go_simp; try with_reducible rfl
                    try simp only [Act.put, List.setIfInBounds_toArray, List.set_cons_zero, List.set_cons_succ]
                    refine wpAnyH_take (i := 5) (oi := { dst := some 61, op := Op.move (Operand.tmp 7), type := 3, pos := "law.go:113", after := #[], guard := none }) (v := ?_) rfl (by kernel_rfl) (by kernel_rfl) (by kernel_rfl) (fun _ _ _ h => h) (Or.inl ⟨by rfl, ?_⟩) (by assumption) ?_
                    rotate_left
                    · intro W hSw; go_simp; try with_reducible rfl
                    try simp only [Act.put, List.setIfInBounds_toArray, List.set_cons_zero, List.set_cons_succ]
                    refine wpAnyH_take (i := 6) (oi := { dst := some 62, op := Op.indexAddr 81 (Operand.tmp 60) (Operand.tmp 61), type := 0, pos := "law.go:113", after := #[{ on := 4, ground := Ground.data }, { on := 5, ground := Ground.data }], guard := none }) (v := ?_) rfl (by kernel_rfl) (by kernel_rfl) (by kernel_rfl) (fun _ _ _ h => h) (Or.inl ⟨by rfl, ?_⟩) (by assumption) ?_
                    rotate_left
                    · intro W hSw; go_simp; try with_reducible rfl
                    try simp only [Act.put, List.setIfInBounds_toArray, List.set_cons_zero, List.set_cons_succ]
                    refine wpAnyH_take (i := 7) (oi := { dst := some 63, op := Op.load 86 (Operand.tmp 62), type := 86, pos := "law.go:113", after := #[{ on := 6, ground := Ground.data }], guard := none }) (v := ?_) rfl (by kernel_rfl) (by kernel_rfl) (by kernel_rfl) (fun _ _ _ h => h) (Or.inl ⟨by rfl, ?_⟩) (by assumption) ?_
                    rotate_left
                    · intro W hSw; obtain ⟨⟨s0, s1, s2, s3, s4, s5, s6⟩, s7, t0, t1, t2⟩ := HQ.out W hSw; go_simp; try with_reducible rfl
                    try simp only [Act.put, List.setIfInBounds_toArray, List.set_cons_zero, List.set_cons_succ]
                    refine wpAnyH_take (i := 9) (oi := { dst := some 65, op := Op.load 53 (Operand.tmp 2), type := 53, pos := "law.go:113", after := #[], guard := none }) (v := ?_) rfl (by kernel_rfl) (by kernel_rfl) (by kernel_rfl) (fun _ _ _ h => h) (Or.inl ⟨by rfl, ?_⟩) (by assumption) ?_
                    rotate_left
                    · intro W hSw; obtain ⟨⟨s0, s1, s2, s3, s4, s5, s6⟩, s7, t0, t1, t2⟩ := HQ.out W hSw; go_simp; try with_reducible rfl
                    try simp only [Act.put, List.setIfInBounds_toArray, List.set_cons_zero, List.set_cons_succ]
                    refine wpAnyH_take (i := 10) (oi := { dst := some 66, op := Op.move (Operand.tmp 1), type := 79, pos := "law.go:113", after := #[], guard := none }) (v := ?_) rfl (by kernel_rfl) (by kernel_rfl) (by kernel_rfl) (fun _ _ _ h => h) (Or.inl ⟨by rfl, ?_⟩) (by assumption) ?_
                    rotate_left
                    · intro W hSw; go_simp; try with_reducible rfl
                    try simp only [Act.put, List.setIfInBounds_toArray, List.set_cons_zero, List.set_cons_succ]
                    refine wpAnyH_take (i := 11) (oi := { dst := some 67, op := Op.move (Operand.tmp 6), type := 3, pos := "law.go:113", after := #[], guard := none }) (v := ?_) rfl (by kernel_rfl) (by kernel_rfl) (by kernel_rfl) (fun _ _ _ h => h) (Or.inl ⟨by rfl, ?_⟩) (by assumption) ?_
                    rotate_left
                    · intro W hSw; go_simp; try with_reducible rfl
                    try simp only [Act.put, List.setIfInBounds_toArray, List.set_cons_zero, List.set_cons_succ]
                    refine wpAnyH_take (i := 12) (oi := { dst := some 68, op := Op.indexAddr 79 (Operand.tmp 66) (Operand.tmp 67), type := 0, pos := "law.go:113", after := #[{ on := 10, ground := Ground.data }, { on := 11, ground := Ground.data }], guard := none }) (v := ?_) rfl (by kernel_rfl) (by kernel_rfl) (by kernel_rfl) (fun _ _ _ h => h) (Or.inl ⟨by rfl, ?_⟩) (by assumption) ?_
                    rotate_left
                    · intro W hSw; go_simp; try with_reducible rfl
                    try simp only [Act.put, List.setIfInBounds_toArray, List.set_cons_zero, List.set_cons_succ]
                    refine wpAnyH_take (i := 13) (oi := { dst := some 69, op := Op.load 81 (Operand.tmp 68), type := 81, pos := "law.go:113", after := #[{ on := 12, ground := Ground.data }], guard := none }) (v := ?_) rfl (by kernel_rfl) (by kernel_rfl) (by kernel_rfl) (fun _ _ _ h => h) (Or.inl ⟨by rfl, ?_⟩) (by assumption) ?_
                    rotate_left
                    · intro W hSw; obtain ⟨⟨s0, s1, s2, s3, s4, s5, s6⟩, s7, t0, t1, t2⟩ := HQ.out W hSw; go_simp; try with_reducible rfl
                    try simp only [Act.put, List.setIfInBounds_toArray, List.set_cons_zero, List.set_cons_succ]
                    refine wpAnyH_take (i := 14) (oi := { dst := some 70, op := Op.move (Operand.tmp 7), type := 3, pos := "law.go:113", after := #[], guard := none }) (v := ?_) rfl (by kernel_rfl) (by kernel_rfl) (by kernel_rfl) (fun _ _ _ h => h) (Or.inl ⟨by rfl, ?_⟩) (by assumption) ?_
                    rotate_left
                    · intro W hSw; go_simp; try with_reducible rfl
                    try simp only [Act.put, List.setIfInBounds_toArray, List.set_cons_zero, List.set_cons_succ]
                    refine wpAnyH_take (i := 15) (oi := { dst := some 71, op := Op.indexAddr 81 (Operand.tmp 69) (Operand.tmp 70), type := 0, pos := "law.go:113", after := #[{ on := 13, ground := Ground.data }, { on := 14, ground := Ground.data }], guard := none }) (v := ?_) rfl (by kernel_rfl) (by kernel_rfl) (by kernel_rfl) (fun _ _ _ h => h) (Or.inl ⟨by rfl, ?_⟩) (by assumption) ?_
                    rotate_left
                    · intro W hSw; go_simp; try with_reducible rfl
                    try simp only [Act.put, List.setIfInBounds_toArray, List.set_cons_zero, List.set_cons_succ]
                    refine wpAnyH_take (i := 16) (oi := { dst := some 72, op := Op.load 86 (Operand.tmp 71), type := 86, pos := "law.go:113", after := #[{ on := 15, ground := Ground.data }], guard := none }) (v := ?_) rfl (by kernel_rfl) (by kernel_rfl) (by kernel_rfl) (fun _ _ _ h => h) (Or.inl ⟨by rfl, ?_⟩) (by assumption) ?_
                    rotate_left
                    · intro W hSw; obtain ⟨⟨s0, s1, s2, s3, s4, s5, s6⟩, s7, t0, t1, t2⟩ := HQ.out W hSw; go_simp; try with_reducible rfl
                    try simp only [Act.put, List.setIfInBounds_toArray, List.set_cons_zero, List.set_cons_succ]
                    refine wpAnyH_ready (rs := [8]) (by kernel_rfl) (by simp) ?_
                    refine AllReadyH.cons (o := { dst := some 64, op := Op.call { callee := Callee.value (Operand.func 51), args := #[Operand.tmp 56, Operand.tmp 63], argTypes := #[53, 86] }, type := 4, pos := "law.go:113", after := #[{ on := 0, ground := Ground.data }, { on := 7, ground := Ground.data }], guard := none }) rfl (fun K hK => ?_) AllReadyH.nil
                    go_simp
                    refine (HM.out _ hHeld).mono ?_; rintro r W5 ⟨rfl, B5⟩
                    go_wp2_with fail
                    refine hK.out _ _ (step_below hHeld B5) (fun hHeldn => ?_)
                    clear hK K hHeld; have hHeld := hHeldn; clear hHeldn
                    clear B5
                    try simp only [Act.put, List.setIfInBounds_toArray, List.set_cons_zero, List.set_cons_succ]
                    refine wpAnyH_ready (rs := [17]) (by kernel_rfl) (by simp) ?_
                    refine AllReadyH.cons (o := { dst := some 73, op := Op.call { callee := Callee.value (Operand.func 52), args := #[Operand.tmp 65, Operand.tmp 72], argTypes := #[53, 86] }, type := 4, pos := "law.go:113", after := #[{ on := 9, ground := Ground.data }, { on := 16, ground := Ground.data }, { on := 8, ground := Ground.chain }], guard := none }) rfl (fun K hK => ?_) AllReadyH.nil
                    go_simp
                    refine (HQM.out _ hHeld).mono ?_; rintro r W5 ⟨rfl, B5⟩
                    go_wp2_with fail
                    refine hK.out _ _ (step_below hHeld B5) (fun hHeldn => ?_)
                    clear hK K hHeld; have hHeld := hHeldn; clear hHeldn
                    clear B5
                    try simp only [Act.put, List.setIfInBounds_toArray, List.set_cons_zero, List.set_cons_succ]
                    refine wpAnyH_take (i := 18) (oi := { dst := some 74, op := Op.binOp BinOp.neq 4 (Operand.tmp 64) (Operand.tmp 73) 4, type := 4, pos := "law.go:113", after := #[{ on := 8, ground := Ground.data }, { on := 17, ground := Ground.data }], guard := none }) (v := ?_) rfl (by kernel_rfl) (by kernel_rfl) (by kernel_rfl) (fun _ _ _ h => h) (Or.inl ⟨by rfl, ?_⟩) (by assumption) ?_
                    rotate_left
                    · intro W hSw; go_simp; try with_reducible rfl
                    try simp only [Act.put, List.setIfInBounds_toArray, List.set_cons_zero, List.set_cons_succ]
                    refine wpAnyH_take (i := 19) (oi := { dst := some 75, op := Op.move (Operand.tmp 74), type := 4, pos := "law.go:113", after := #[{ on := 18, ground := Ground.data }, { on := 17, ground := Ground.chain }], guard := none }) (v := ?_) rfl (by kernel_rfl) (by kernel_rfl) (by kernel_rfl) (fun _ _ _ h => h) (Or.inl ⟨by rfl, ?_⟩) (by assumption) ?_
                    rotate_left
                    · intro W hSw; go_simp; try with_reducible rfl
                    try simp only [Act.put, List.setIfInBounds_toArray, List.set_cons_zero, List.set_cons_succ]
                    refine wpAnyH_take (i := 20) (oi := { dst := some 76, op := Op.load 53 (Operand.tmp 2), type := 53, pos := "law.go:113", after := #[{ on := 19, ground := Ground.guard }], guard := some (19, false) }) (v := ?_) rfl (by kernel_rfl) (by kernel_rfl) (by kernel_rfl) (fun _ _ _ h => h) (Or.inl ⟨by rfl, ?_⟩) (by assumption) ?_
                    rotate_left
                    · intro W hSw; obtain ⟨⟨s0, s1, s2, s3, s4, s5, s6⟩, s7, t0, t1, t2⟩ := HQ.out W hSw; go_simp; try with_reducible rfl
                    try simp only [Act.put, List.setIfInBounds_toArray, List.set_cons_zero, List.set_cons_succ]
                    refine wpAnyH_take (i := 21) (oi := { dst := some 77, op := Op.move (Operand.tmp 1), type := 79, pos := "law.go:113", after := #[{ on := 19, ground := Ground.guard }], guard := some (19, false) }) (v := ?_) rfl (by kernel_rfl) (by kernel_rfl) (by kernel_rfl) (fun _ _ _ h => h) (Or.inl ⟨by rfl, ?_⟩) (by assumption) ?_
                    rotate_left
                    · intro W hSw; go_simp; try with_reducible rfl
                    try simp only [Act.put, List.setIfInBounds_toArray, List.set_cons_zero, List.set_cons_succ]
                    refine wpAnyH_take (i := 22) (oi := { dst := some 78, op := Op.move (Operand.tmp 6), type := 3, pos := "law.go:113", after := #[{ on := 19, ground := Ground.guard }], guard := some (19, false) }) (v := ?_) rfl (by kernel_rfl) (by kernel_rfl) (by kernel_rfl) (fun _ _ _ h => h) (Or.inl ⟨by rfl, ?_⟩) (by assumption) ?_
                    rotate_left
                    · intro W hSw; go_simp; try with_reducible rfl
                    try simp only [Act.put, List.setIfInBounds_toArray, List.set_cons_zero, List.set_cons_succ]
                    refine wpAnyH_take (i := 23) (oi := { dst := some 79, op := Op.indexAddr 79 (Operand.tmp 77) (Operand.tmp 78), type := 0, pos := "law.go:113", after := #[{ on := 21, ground := Ground.data }, { on := 22, ground := Ground.data }, { on := 19, ground := Ground.guard }], guard := some (19, false) }) (v := ?_) rfl (by kernel_rfl) (by kernel_rfl) (by kernel_rfl) (fun _ _ _ h => h) (Or.inl ⟨by rfl, ?_⟩) (by assumption) ?_
                    rotate_left
                    · intro W hSw; go_simp; try with_reducible rfl
                    try simp only [Act.put, List.setIfInBounds_toArray, List.set_cons_zero, List.set_cons_succ]
                    refine wpAnyH_take (i := 24) (oi := { dst := some 80, op := Op.load 81 (Operand.tmp 79), type := 81, pos := "law.go:113", after := #[{ on := 23, ground := Ground.data }, { on := 19, ground := Ground.guard }], guard := some (19, false) }) (v := ?_) rfl (by kernel_rfl) (by kernel_rfl) (by kernel_rfl) (fun _ _ _ h => h) (Or.inl ⟨by rfl, ?_⟩) (by assumption) ?_
                    rotate_left
                    · intro W hSw; obtain ⟨⟨s0, s1, s2, s3, s4, s5, s6⟩, s7, t0, t1, t2⟩ := HQ.out W hSw; go_simp; try with_reducible rfl
                    try simp only [Act.put, List.setIfInBounds_toArray, List.set_cons_zero, List.set_cons_succ]
                    refine wpAnyH_take (i := 25) (oi := { dst := some 81, op := Op.move (Operand.tmp 7), type := 3, pos := "law.go:113", after := #[{ on := 19, ground := Ground.guard }], guard := some (19, false) }) (v := ?_) rfl (by kernel_rfl) (by kernel_rfl) (by kernel_rfl) (fun _ _ _ h => h) (Or.inl ⟨by rfl, ?_⟩) (by assumption) ?_
                    rotate_left
                    · intro W hSw; go_simp; try with_reducible rfl
                    try simp only [Act.put, List.setIfInBounds_toArray, List.set_cons_zero, List.set_cons_succ]
                    refine wpAnyH_take (i := 26) (oi := { dst := some 82, op := Op.indexAddr 81 (Operand.tmp 80) (Operand.tmp 81), type := 0, pos := "law.go:113", after := #[{ on := 24, ground := Ground.data }, { on := 25, ground := Ground.data }, { on := 19, ground := Ground.guard }], guard := some (19, false) }) (v := ?_) rfl (by kernel_rfl) (by kernel_rfl) (by kernel_rfl) (fun _ _ _ h => h) (Or.inl ⟨by rfl, ?_⟩) (by assumption) ?_
                    rotate_left
                    · intro W hSw; go_simp; try with_reducible rfl
                    try simp only [Act.put, List.setIfInBounds_toArray, List.set_cons_zero, List.set_cons_succ]
                    refine wpAnyH_take (i := 27) (oi := { dst := some 83, op := Op.fieldAddr 86 (Operand.tmp 82) 0, type := 0, pos := "law.go:113", after := #[{ on := 26, ground := Ground.data }, { on := 19, ground := Ground.guard }], guard := some (19, false) }) (v := ?_) rfl (by kernel_rfl) (by kernel_rfl) (by kernel_rfl) (fun _ _ _ h => h) (Or.inl ⟨by rfl, ?_⟩) (by assumption) ?_
                    rotate_left
                    · intro W hSw; go_simp; try with_reducible rfl
                    try simp only [Act.put, List.setIfInBounds_toArray, List.set_cons_zero, List.set_cons_succ]
                    refine wpAnyH_take (i := 28) (oi := { dst := some 84, op := Op.load 84 (Operand.tmp 83), type := 84, pos := "law.go:113", after := #[{ on := 27, ground := Ground.data }, { on := 19, ground := Ground.guard }], guard := some (19, false) }) (v := ?_) rfl (by kernel_rfl) (by kernel_rfl) (by kernel_rfl) (fun _ _ _ h => h) (Or.inl ⟨by rfl, ?_⟩) (by assumption) ?_
                    rotate_left
                    · intro W hSw; obtain ⟨⟨s0, s1, s2, s3, s4, s5, s6⟩, s7, t0, t1, t2⟩ := HQ.out W hSw; go_simp; try with_reducible rfl
                    try simp only [Act.put, List.setIfInBounds_toArray, List.set_cons_zero, List.set_cons_succ]
                    refine wpAnyH_ready (rs := [29]) (by kernel_rfl) (by simp) ?_
                    refine AllReadyH.cons (o := { dst := some 85, op := Op.call { callee := Callee.value (Operand.func 53), args := #[Operand.tmp 76, Operand.tmp 84], argTypes := #[53, 84] }, type := 4, pos := "law.go:113", after := #[{ on := 20, ground := Ground.data }, { on := 28, ground := Ground.data }, { on := 19, ground := Ground.chain }, { on := 19, ground := Ground.guard }], guard := some (19, false) }) rfl (fun K hK => ?_) AllReadyH.nil
                    go_simp
                    refine (HCA.out _ hHeld).mono ?_; rintro r W5 ⟨rfl, B5⟩
                    go_wp2_with fail
                    refine hK.out _ _ (step_below hHeld B5) (fun hHeldn => ?_)
                    clear hK K hHeld; have hHeld := hHeldn; clear hHeldn
                    clear B5
                    try simp only [Act.put, List.setIfInBounds_toArray, List.set_cons_zero, List.set_cons_succ]
                    refine wpAnyH_take (i := 30) (oi := { dst := some 86, op := Op.unOp UnOp.not 4 (Operand.tmp 85), type := 4, pos := "law.go:113", after := #[{ on := 29, ground := Ground.data }, { on := 19, ground := Ground.guard }], guard := some (19, false) }) (v := ?_) rfl (by kernel_rfl) (by kernel_rfl) (by kernel_rfl) (fun _ _ _ h => h) (Or.inl ⟨by rfl, ?_⟩) (by assumption) ?_
                    rotate_left
                    · intro W hSw; go_simp; try with_reducible rfl
                    try simp only [Act.put, List.setIfInBounds_toArray, List.set_cons_zero, List.set_cons_succ]
                    refine wpAnyH_take (i := 31) (oi := { dst := some 87, op := Op.pick (Operand.tmp 75) (Operand.const (Value.bool true)) (Operand.tmp 86), type := 4, pos := "law.go:113", after := #[{ on := 19, ground := Ground.data }, { on := 30, ground := Ground.data }], guard := none }) (v := ?_) rfl (by kernel_rfl) (by kernel_rfl) (by kernel_rfl) (fun _ _ _ h => h) (Or.inl ⟨by rfl, ?_⟩) (by assumption) ?_
                    rotate_left
                    · intro W hSw; go_simp; try with_reducible rfl
                    try simp only [Act.put, List.setIfInBounds_toArray, List.set_cons_zero, List.set_cons_succ]
                    refine wpAnyH_done (by kernel_rfl) ?_ _
                    go_wp2_with fail
                    go_meet
                    exact ⟨rfl, Lib.hid hHeld⟩
                  case rest =>
                    obtain ⟨rfl, HC9⟩ := hcut
                    have H9 := Lib.hid (step_below BQ.out HC9.out)
                    go_wp2_with fail
                    go_roundw
                    case rel => exact ⟨q + 1, by have := HQT.out; omega, by go_num, H9⟩
                    case measure => simp [intOf]; have := HQT.out; omega
                · have hqh : ¬ (q : Int) < 100 := by omega
                  have H9 := Lib.hid (step_below BR.out BQ.out)
                  go_wp2_with fail
                  go_roundw
                  case rel => exact ⟨k + 1, by have := HLT.out; omega, by go_num, H9⟩
                  case measure => simp [intOf]; have := HLT.out; omega
              · have hqi : ¬ (q : Int) < (s.n : Int) := by omega
                have H9 := Lib.hid (step_below BR.out BQ.out)
                go_wp2_with fail
                go_roundw
                case rel => exact ⟨k + 1, by have := HLT.out; omega, by go_num, H9⟩
                case measure => simp [intOf]; have := HLT.out; omega
          · have hkl : ¬ (k : Int) < (n : Int) := by omega
            go_wp2_with fail
            refine (known33 _).mono ?_; rintro r w9 ⟨rfl, B2⟩
            go_wp2_with fail
            go_ret
            exact ⟨rfl, step_below HB0.out (step_below HB4.out (step_below BR.out B2))⟩
end Go.Proofs.Ytkgcbhpgkcfkhaa
