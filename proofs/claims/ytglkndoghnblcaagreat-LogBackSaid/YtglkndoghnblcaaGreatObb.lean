/- 'LogBack' returns true whatever its arguments, which read afterwards as before; no conditions. -/
import Derived.Test.YtglkndoghnblcaaGreatOba
import Derived.Deep.DeepCutAuto
import Derived.Test.YtglkndoghnblcaaGreatRows
import Derived.WalkKit
import Derived.ProofKit
import Derived.OpenShut
import Derived.ShutString
import Derived.ChangeOld
import Derived.Below
import Derived.Test.YtglkndoghnblcaaGreatOqa
namespace Go.Proofs.YtglkndoghnblcaaGreat
open Go.ChangeShapes Go.WideShapes Go.ChangeAt Go.RowKit
set_option linter.unusedVariables false
set_option linter.unusedSimpArgs false
/-- Bytes L come back, all well. -/
def BackR (w : World) (L : List Int) (r : Ending) (w' : World) : Prop := ∃ a c, r = .returned (.tuple #[.slice a L.length c, .int .i64 0]) ∧ w'.ownsRow w.heap.size 5 1 (.slice a L.length c) L.length (iv .u8 L) ∧ Ls .u8 w' a c L ∧ Below w.heap.size w w'
theorem frames_len : ∀ (n : Nat) (L : List Int), L.length ≤ n → ∀ p ∈ framesL L, 1 ≤ p.length ∧ p.length ≤ 4096
  | n, L, hn, p, hp => by
    cases hi : isL L with
    | false => rw [framesL_no hi] at hp; simp at hp
    | true =>
      have h1 := isL_iff.1 hi
      have h2 := bodyL_len hi
      match n with
      | 0 => omega
      | n + 1 =>
        rw [framesL_yes hi] at hp
        rcases List.mem_cons.1 hp with rfl | hp
        · omega
        · exact frames_len n (L.drop (8 + lenL L)) (by rw [List.length_drop]; omega) p hp
/-- What was read as a checkpoint, and what it is good for. -/
theorem RckR.get {w w' : World} {L : List Int} {r : Ending} (hb : Byt L) (h : RckR w L r w') : ∃ (ev : Int) (a : Option Addr) (n c : Nat) (er : Int), r = .returned (.tuple #[.agg #[.int .i64 ev, .slice a n c], .int .i64 er]) ∧ Below w.heap.size w w' ∧
    (er = 4 ∨ (er = 0 ∧ ∀ W, Below w'.heap.size w' W → Calls Tryz.prog 29 #[.agg #[.int .i64 ev, .slice a n c]] W (BackR W L))) := by
  obtain ⟨⟨e, tabs, hck, v, ts, rfl, hown, hts, hst⟩ | ⟨_, rfl⟩, hbl⟩ := h
  · obtain ⟨a, c, rfl⟩ := own_form hown.row
    refine ⟨_, a, ts.length, c, 0, rfl, hbl, .inr ⟨rfl, fun W hW => ?_⟩⟩
    obtain ⟨h1, h2, h3, h4⟩ := ck_inv hb hck hts
    obtain ⟨_, _, hR⟩ := hown.lies hst
    have ok := ck_ok h1
    have hsz : ∀ t ∈ ts, t.xs.length ≤ 1000000 ∧ ∀ x ∈ t.xs, x.R.length ≤ 1000000 := fun t ht => by
      refine ⟨?_, fun x hx => ?_⟩
      · have : t.xs.length ∈ ts.map fun t => t.xs.length := List.mem_map_of_mem (f := fun t : TbP => t.xs.length) ht
        have := sum_mem this
        unfold cntT at h2
        rw [List.take_length] at h2
        omega
      · have := (ok.all t ht x hx).r
        unfold mayR at this
        rw [Bool.and_eq_true] at this
        have := of_decide_eq_true this.2
        omega
    refine (putck_ok (e : Int) a ts ts.length c rfl (by omega) hsz W (hR.below hW) h1 h2).mono ?_
    rintro r W' ⟨⟨k, _⟩ | ⟨_, k, _⟩ | ⟨_, _, a', c', rfl, ho, hl⟩, hb2⟩
    · rw [h1] at k; cases k
    · omega
    · rw [Int.toNat_natCast, ← h4] at ho hl ⊢
      exact ⟨a', c', rfl, ho, hl, hb2⟩
  · exact ⟨0, none, 0, 0, 4, rfl, hbl, .inl rfl⟩
theorem RmnR.get {w w' : World} {L : List Int} {r : Ending} (hb : Byt L) (h : RmnR w (rmanP L) r w') : ∃ (g : Int) (nm : ByteArray) (e f : Int) (a : Option Addr) (n c : Nat) (er : Int), r = .returned (.tuple #[.agg #[.int .i64 g, .string nm, .int .i64 e, .int .i64 f, .slice a n c], .int .i64 er]) ∧ Below w.heap.size w w' ∧
    (er = 4 ∨ (er = 0 ∧ ∀ W, Below w'.heap.size w' W → Calls Tryz.prog 35 #[.agg #[.int .i64 g, .string nm, .int .i64 e, .int .i64 f, .slice a n c]] W (BackR W L))) := by
  obtain ⟨⟨_, rfl⟩ | ⟨x, v, hx, rfl, a, c, rfl, hP⟩, hbl⟩ := h
  · exact ⟨0, _, 0, 0, none, 0, 0, 4, rfl, hbl, .inl rfl⟩
  · obtain ⟨h1, h2, h3⟩ := rmanP_inv hb hx
    obtain ⟨_, hnc, hR⟩ := hP.lies
    refine ⟨_, _, _, _, a, x.logs.length, c, 0, rfl, hbl, .inr ⟨rfl, fun W hW => ?_⟩⟩
    refine (putman_law (x.g : Int) (x.e : Int) (x.f : Int) (strOfNums x.nm) a (x.logs.map lpN) x.logs.length c (nm_small h2) (lpN_small h2) (by simp) (by have := h2.ll; omega) hnc W (hR.below hW)).mono ?_
    rintro r W' ⟨⟨k, _⟩ | ⟨_, a', c', rfl, ho, hl⟩, hb2⟩
    · unfold mnB at h1; rw [h1] at k; cases k
    · simp only [Int.toNat_natCast] at ho hl ⊢
      rw [← frameL_len, ← h3] at ho ⊢
      rw [← h3] at hl
      exact ⟨a', c', rfl, ho, hl, hb2⟩
theorem rdur_get {L : List Int} (hb : Byt L) : ∃ (g e er : Int), durV (rdurP L) = .tuple #[.agg #[.int .i64 g, .int .i64 e], .int .i64 er] ∧ (er = 4 ∨ (er = 0 ∧ ∀ W, Calls Tryz.prog 38 #[.agg #[.int .i64 g, .int .i64 e]] W (BackR W L))) := by
  cases h : rdurP L with
  | none => exact ⟨0, 0, 4, rfl, .inl rfl⟩
  | some x =>
    obtain ⟨h1, h2⟩ := rdurP_inv hb h
    refine ⟨(x.1 : Int), (x.2 : Int), 0, rfl, .inr ⟨rfl, fun W => ?_⟩⟩
    refine (putdur_law (x.1 : Int) (x.2 : Int) W).mono ?_
    rintro r W' ⟨⟨k, _⟩ | ⟨_, a', c', rfl, ho, hl⟩, hb2⟩
    · rw [h1] at k; cases k
    · simp only [Int.toNat_natCast] at ho hl ⊢
      rw [← frameL_len, ← h2] at ho ⊢
      rw [← h2] at hl
      exact ⟨a', c', rfl, ho, hl, hb2⟩
theorem wtc_cont : ∀ (ws : List WtP) (ys : List Wr3), ws.map wtC = ys.map wr3C → ws.map cont = ys ∧ ∀ p ∈ ws, 0 ≤ p.tab
  | [], [], _ => ⟨rfl, fun p hp => by simp at hp⟩
  | [], y :: ys, h => by simp at h
  | p :: ws, [], h => by simp at h
  | p :: ws, y :: ys, h => by
    rw [List.map_cons, List.map_cons, List.cons.injEq] at h
    obtain ⟨i1, i2⟩ := wtc_cont ws ys h.2
    have h1 := h.1
    obtain ⟨y1, y2, y3⟩ := y
    unfold wtC wr3C at h1
    rw [Prod.mk.injEq, Prod.mk.injEq] at h1
    obtain ⟨a1, a2, a3⟩ := h1
    simp only at a1 a2 a3
    refine ⟨?_, fun q hq => ?_⟩
    · rw [List.map_cons, i1]
      congr 1
      unfold cont
      rw [a1, a2, a3, Int.toNat_natCast]
    · rcases List.mem_cons.1 hq with rfl | hq
      · omega
      · exact i2 q hq
/-- A transaction that was read, written. -/
theorem puttx_back {q : TxQ} {x : Tx3} (h : txC q = tx3C x) (ho : okTx x = true) (hl : (t3W x).length ≤ 4096) (hB : TxqB q) (hx : x.2.length ≤ 16) (W : World) (hR : WtsR W q.a q.ws) :
    Calls Tryz.prog 19 #[.agg #[.int .i64 q.e, .int .i64 q.s, .slice q.a q.ws.length q.c]] W (BackR W (frameL (t3W x))) := by
  obtain ⟨⟨e, s⟩, ys⟩ := x
  obtain ⟨qe, qs, qa, qc, ws⟩ := q
  unfold txC tx3C at h
  rw [Prod.mk.injEq, Prod.mk.injEq] at h
  obtain ⟨h1, h2, h3⟩ := h
  simp only at h1 h2 h3 hB hR ⊢
  subst h1 h2
  obtain ⟨hc, hp⟩ := wtc_cont ws ys h3
  have hok : txB (e : Int) (s : Int) ws = true := by rw [okTx_lies e s hp, hc]; exact ho
  have hw : txW e s ws = t3W ((e, s), ys) := by rw [txW_cont, hc]
  refine (puttxn_law (e : Int) (s : Int) qa ws ws.length qc rfl hB.1 hB.2 W hR).mono ?_
  rintro r W' (⟨k, _⟩ | ⟨_, k, _⟩ | ⟨_, _, _, a', c', rfl, ho2, hl2, hb2⟩)
  · rw [hok] at k; cases k
  · rw [Int.toNat_natCast, Int.toNat_natCast, hw] at k; omega
  · rw [Int.toNat_natCast, Int.toNat_natCast, hw] at ho2 hl2 ⊢
    rw [← frameL_len] at ho2 ⊢
    exact ⟨a', c', rfl, ho2, hl2, hb2⟩
end Go.Proofs.YtglkndoghnblcaaGreat
namespace Go.Proofs.YtglkndoghnblcaaGreat
open Go.ChangeShapes Go.WideShapes Go.ChangeAt Go.RowKit
set_option linter.unusedVariables false
set_option linter.unusedSimpArgs false
set_option maxRecDepth 100000 in
set_option maxHeartbeats 4000000 in
/-- LogBack (9). -/
theorem logback_law (a : Option Addr) (L : List Int) (n cap : Nat) (hn : L.length = n) (hB : Byt L) (w : World) (hL : Ls .u8 w a cap L) :
    Calls Tryz.prog 9 #[.slice a n cap] w fun r w' => r = .returned (.bool true) ∧ Below w.heap.size w w' := by
  have HN := Lib.hid (And.intro hn (And.intro hB hL))
  clear hn hB hL
  by_cases g2 : (30000 : Int) < (n : Int)
  · go_enter Tryz.func9, Tryz.ntmps9
    go_wp2_with fail
    refine (known_law _).mono ?_; rintro r w9 ⟨rfl, hb9⟩
    have HB9 := Lib.hid hb9
    clear hb9
    go_wp2_with fail
    go_ret
    exact ⟨rfl, HB9.out⟩
  go_enter Tryz.func9, Tryz.ntmps9
  go_wp2_with fail
  refine (readck_law a L n cap HN.out.1 (by omega) HN.out.2.1 _ HN.out.2.2).mono ?_
  rintro r X1 hr
  obtain ⟨ev, ca, cn, cc, er1, rfl, hb1, hc1⟩ := RckR.get HN.out.2.1 hr
  have HB1 := Lib.hid hb1
  have HC1 := Lib.hid hc1
  clear hr hb1 hc1
  obtain ⟨V1, hV1⟩ : ∃ V, X1.alloc (.cells #[.int .i64 0, .slice none 0 0] 56) = V := ⟨_, rfl⟩
  have bx1 : BoxC V1 X1.heap.size #[.int .i64 0, .slice none 0 0] 56 := by rw [← hV1]; exact BoxC.new _ _ _
  have hbv1 : Below w.heap.size w V1 := by rw [← hV1]; exact HB1.out.alloc HB1.out.size _
  have x0 := bx1.cell 0
  have f0 := bx1.frozen 0
  have x1 := bx1.cell 1
  have f1 := bx1.frozen 1
  simp only [List.getElem?_toArray, List.getElem?_cons_zero, List.getElem?_cons_succ] at x0 x1
  have BX1 := Lib.hid ((bx1.put 0 (.int .i64 ev)).put 1 (.slice ca cn cc))
  have HV1 := Lib.hid ((hbv1.setCell (p := ⟨X1.heap.size, 0, none⟩) HB1.out.size (.int .i64 ev)).setCell (p := ⟨X1.heap.size, 1, none⟩) HB1.out.size (.slice ca cn cc))
  have hxv1 : Below X1.heap.size X1 V1 := by rw [← hV1]; exact bl1 _ _
  have HX1 := Lib.hid ((hxv1.setCell (p := ⟨X1.heap.size, 0, none⟩) (Nat.le_refl _) (.int .i64 ev)).setCell (p := ⟨X1.heap.size, 1, none⟩) (Nat.le_refl _) (.slice ca cn cc))
  clear bx1 hbv1 hxv1
  go_upto_if 31 with (fail)
  refine (num_law er1 _).mono ?_; rintro r w8 ⟨rfl, rfl⟩
  go_upto_if 31 with (fail)
  clear hV1 x0 f0 x1 f1
  generalize ((V1.setCell ⟨X1.heap.size, 0, none⟩ (.int .i64 ev)).setCell ⟨X1.heap.size, 1, none⟩ (.slice ca cn cc)) = Y1 at *
  go_cut [31] (fun v wx => Hid (Below w.heap.size w wx))
  case first =>
    rcases HC1.out with rfl | ⟨rfl, hcall⟩
    · go_wp2_with fail
      go_meet
      exact HV1
    · have HCL := Lib.hid hcall
      clear hcall
      have x0 := BX1.out.cell 0
      have x1 := BX1.out.cell 1
      simp at x0 x1
      go_wp2_with fail
      refine (HCL.out _ HX1.out).mono ?_
      rintro r w5 ⟨a5, c5, rfl, _, hl5, hb5⟩
      have HB5 := Lib.hid (step_below HV1.out hb5)
      have hcv1 := conv_ls w5 a5 n c5 L HN.out.1 hl5.rd
      have hcv2 := conv_ls w5 a n cap L HN.out.1 (HN.out.2.2.below HB5.out).rd
      rw [HN.out.1]
      clear hb5 hl5
      go_wp2_with fail
      refine (num_law 0 _).mono ?_; rintro r w8 ⟨rfl, rfl⟩
      go_wp2_with fail
      go_meet
      exact HB5
  case rest =>
  rename_i hK1
  refine hK1 _ _ ?_
  clear hK1
  go_wp2_with fail
  refine (readman_law a L n cap HN.out.1 (by omega) HN.out.2.1 _ (HN.out.2.2.below hcut.out)).mono ?_
  rintro r X2 hr
  obtain ⟨mg, mn, me, mf, ma, ml, mc, er2, rfl, hb2, hc2⟩ := RmnR.get HN.out.2.1 hr
  have HB2 := Lib.hid (step_below hcut.out hb2)
  have HC2 := Lib.hid hc2
  clear hr hb2 hc2 hcut
  obtain ⟨V2, hV2⟩ : ∃ V, X2.alloc (.cells #[.int .i64 0, .string { data := #[] }, .int .i64 0, .int .i64 0, .slice none 0 0] 72) = V := ⟨_, rfl⟩
  have bx2 : BoxC V2 X2.heap.size #[.int .i64 0, .string { data := #[] }, .int .i64 0, .int .i64 0, .slice none 0 0] 72 := by rw [← hV2]; exact BoxC.new _ _ _
  have hbv2 : Below w.heap.size w V2 := by rw [← hV2]; exact HB2.out.alloc HB2.out.size _
  have x0 := bx2.cell 0
  have f0 := bx2.frozen 0
  have x1 := bx2.cell 1
  have f1 := bx2.frozen 1
  have x2 := bx2.cell 2
  have f2 := bx2.frozen 2
  have x3 := bx2.cell 3
  have f3 := bx2.frozen 3
  have x4 := bx2.cell 4
  have f4 := bx2.frozen 4
  simp only [List.getElem?_toArray, List.getElem?_cons_zero, List.getElem?_cons_succ] at x0 x1 x2 x3 x4
  have BX2 := Lib.hid (((((bx2.put 0 (.int .i64 mg)).put 1 (.string mn)).put 2 (.int .i64 me)).put 3 (.int .i64 mf)).put 4 (.slice ma ml mc))
  have HV2 := Lib.hid (((((hbv2.setCell (p := ⟨X2.heap.size, 0, none⟩) HB2.out.size (.int .i64 mg)).setCell (p := ⟨X2.heap.size, 1, none⟩) HB2.out.size (.string mn)).setCell (p := ⟨X2.heap.size, 2, none⟩) HB2.out.size (.int .i64 me)).setCell (p := ⟨X2.heap.size, 3, none⟩) HB2.out.size (.int .i64 mf)).setCell (p := ⟨X2.heap.size, 4, none⟩) HB2.out.size (.slice ma ml mc))
  have hxv2 : Below X2.heap.size X2 V2 := by rw [← hV2]; exact bl1 _ _
  have HX2 := Lib.hid (((((hxv2.setCell (p := ⟨X2.heap.size, 0, none⟩) (Nat.le_refl _) (.int .i64 mg)).setCell (p := ⟨X2.heap.size, 1, none⟩) (Nat.le_refl _) (.string mn)).setCell (p := ⟨X2.heap.size, 2, none⟩) (Nat.le_refl _) (.int .i64 me)).setCell (p := ⟨X2.heap.size, 3, none⟩) (Nat.le_refl _) (.int .i64 mf)).setCell (p := ⟨X2.heap.size, 4, none⟩) (Nat.le_refl _) (.slice ma ml mc))
  clear bx2 hbv2 hxv2
  go_upto_if 54 with (fail)
  refine (num_law er2 _).mono ?_; rintro r w8 ⟨rfl, rfl⟩
  go_upto_if 54 with (fail)
  clear hV2 x0 f0 x1 f1 x2 f2 x3 f3 x4 f4
  generalize (((((V2.setCell ⟨X2.heap.size, 0, none⟩ (.int .i64 mg)).setCell ⟨X2.heap.size, 1, none⟩ (.string mn)).setCell ⟨X2.heap.size, 2, none⟩ (.int .i64 me)).setCell ⟨X2.heap.size, 3, none⟩ (.int .i64 mf)).setCell ⟨X2.heap.size, 4, none⟩ (.slice ma ml mc)) = Y2 at *
  go_cut [54] (fun v wx => Hid (Below w.heap.size w wx))
  case first =>
    rcases HC2.out with rfl | ⟨rfl, hcall⟩
    · go_wp2_with fail
      go_meet
      exact HV2
    · have HCL := Lib.hid hcall
      clear hcall
      have x0 := BX2.out.cell 0
      have x1 := BX2.out.cell 1
      have x2 := BX2.out.cell 2
      have x3 := BX2.out.cell 3
      have x4 := BX2.out.cell 4
      simp at x0 x1 x2 x3 x4
      go_wp2_with fail
      refine (HCL.out _ HX2.out).mono ?_
      rintro r w5 ⟨a5, c5, rfl, _, hl5, hb5⟩
      have HB5 := Lib.hid (step_below HV2.out hb5)
      have hcv1 := conv_ls w5 a5 n c5 L HN.out.1 hl5.rd
      have hcv2 := conv_ls w5 a n cap L HN.out.1 (HN.out.2.2.below HB5.out).rd
      rw [HN.out.1]
      clear hb5 hl5
      go_wp2_with fail
      refine (num_law 0 _).mono ?_; rintro r w8 ⟨rfl, rfl⟩
      go_wp2_with fail
      go_meet
      exact HB5
  case rest =>
  rename_i hK2
  refine hK2 _ _ ?_
  clear hK2
  go_wp2_with fail
  refine (readdur_law a L n cap HN.out.1 (by omega) HN.out.2.1 _ (HN.out.2.2.below hcut.out)).mono ?_
  obtain ⟨dg, de, er3, hd3, hc3⟩ := rdur_get HN.out.2.1
  rw [hd3]
  rintro r X3 ⟨rfl, hb3⟩
  have HB3 := Lib.hid (step_below hcut.out hb3)
  have HC3 := Lib.hid (show er3 = 4 ∨ (er3 = 0 ∧ ∀ W, Below X3.heap.size X3 W → Calls Tryz.prog 38 #[.agg #[.int .i64 dg, .int .i64 de]] W (BackR W L)) from hc3.imp id (fun h => ⟨h.1, fun W _ => h.2 W⟩))
  clear hd3 hb3 hc3 hcut
  obtain ⟨V3, hV3⟩ : ∃ V, X3.alloc (.cells #[.int .i64 0, .int .i64 0] 74) = V := ⟨_, rfl⟩
  have bx3 : BoxC V3 X3.heap.size #[.int .i64 0, .int .i64 0] 74 := by rw [← hV3]; exact BoxC.new _ _ _
  have hbv3 : Below w.heap.size w V3 := by rw [← hV3]; exact HB3.out.alloc HB3.out.size _
  have x0 := bx3.cell 0
  have f0 := bx3.frozen 0
  have x1 := bx3.cell 1
  have f1 := bx3.frozen 1
  simp only [List.getElem?_toArray, List.getElem?_cons_zero, List.getElem?_cons_succ] at x0 x1
  have BX3 := Lib.hid ((bx3.put 0 (.int .i64 dg)).put 1 (.int .i64 de))
  have HV3 := Lib.hid ((hbv3.setCell (p := ⟨X3.heap.size, 0, none⟩) HB3.out.size (.int .i64 dg)).setCell (p := ⟨X3.heap.size, 1, none⟩) HB3.out.size (.int .i64 de))
  have hxv3 : Below X3.heap.size X3 V3 := by rw [← hV3]; exact bl1 _ _
  have HX3 := Lib.hid ((hxv3.setCell (p := ⟨X3.heap.size, 0, none⟩) (Nat.le_refl _) (.int .i64 dg)).setCell (p := ⟨X3.heap.size, 1, none⟩) (Nat.le_refl _) (.int .i64 de))
  clear bx3 hbv3 hxv3
  go_upto_if 77 with (fail)
  refine (num_law er3 _).mono ?_; rintro r w8 ⟨rfl, rfl⟩
  go_upto_if 77 with (fail)
  clear hV3 x0 f0 x1 f1
  generalize ((V3.setCell ⟨X3.heap.size, 0, none⟩ (.int .i64 dg)).setCell ⟨X3.heap.size, 1, none⟩ (.int .i64 de)) = Y3 at *
  go_cut [77] (fun v wx => Hid (Below w.heap.size w wx))
  case first =>
    rcases HC3.out with rfl | ⟨rfl, hcall⟩
    · go_wp2_with fail
      go_meet
      exact HV3
    · have HCL := Lib.hid hcall
      clear hcall
      have x0 := BX3.out.cell 0
      have x1 := BX3.out.cell 1
      simp at x0 x1
      go_wp2_with fail
      refine (HCL.out _ HX3.out).mono ?_
      rintro r w5 ⟨a5, c5, rfl, _, hl5, hb5⟩
      have HB5 := Lib.hid (step_below HV3.out hb5)
      have hcv1 := conv_ls w5 a5 n c5 L HN.out.1 hl5.rd
      have hcv2 := conv_ls w5 a n cap L HN.out.1 (HN.out.2.2.below HB5.out).rd
      rw [HN.out.1]
      clear hb5 hl5
      go_wp2_with fail
      refine (num_law 0 _).mono ?_; rintro r w8 ⟨rfl, rfl⟩
      go_wp2_with fail
      go_meet
      exact HB5
  case rest =>
  rename_i hK3
  refine hK3 _ _ ?_
  clear hK3
  go_wp2_with fail
  refine (txns_law a L n cap HN.out.1 (by omega) HN.out.2.1 _ (HN.out.2.2.below hcut.out)).mono ?_
  rintro r X4 ⟨tv, rfl, htx, hb4⟩
  have HB4 := Lib.hid (step_below hcut.out hb4)
  clear hcut hb4
  have hby := frames_byt _ L (Nat.le_refl _) HN.out.2.1
  obtain ⟨qs, hqn, hql, hqR, hqB, hqC⟩ : ∃ qs : List TxQ, (∃ ta tc, tv = .slice ta (txsL (framesL L)).length tc ∧ TxqR X4 ta qs) ∧ qs.length = (txsL (framesL L)).length ∧ True ∧ (∀ q ∈ qs, TxqB q) ∧ qs.map txC = (txsL (framesL L)).map tx3C := by
    obtain ⟨ta, tc, rfl⟩ : ∃ ta tc, tv = .slice ta (txsL (framesL L)).length tc := by
      obtain ⟨ps, h1, h2, h3⟩ := htx
      exact own_form h2
    obtain ⟨qs, h1, h2, h3, h4, h5⟩ := htx.lies (txsL_all hby)
    exact ⟨qs, ⟨ta, tc, rfl, h3⟩, h2, trivial, h4, h5⟩
  obtain ⟨ta, tc, rfl, hqR⟩ := hqn
  have HQ := Lib.hid (show ∀ (j : Nat) (q : TxQ), qs[j]? = some q → ∃ x p, (framesL L)[j]? = some p ∧ p = t3W x ∧ okTx x = true ∧ TxB x ∧ txC q = tx3C x ∧ p.length ≤ 4096 from fun j q hq => by
    have h1 := congrArg (fun l => l[j]?) hqC
    simp only [List.getElem?_map, hq, Option.map_some] at h1
    cases hx : (txsL (framesL L))[j]? with
    | none => rw [hx] at h1; simp at h1
    | some x =>
      rw [hx] at h1
      obtain ⟨p, hp, h2, h3, h4⟩ := txsL_inv _ hby j x hx
      exact ⟨x, p, hp, h2, h3, h4, by simpa using h1, (frames_len _ L (Nat.le_refl _) p (List.mem_of_getElem? hp)).2⟩)
  obtain ⟨K, hK⟩ : ∃ K, (txsL (framesL L)).length = K := ⟨_, rfl⟩
  have hKF : K ≤ (framesL L).length := by rw [← hK]; exact txsL_le _
  have HTK := Lib.hid (fun j (h : j ≤ K) => frames_take HN.out.2.1 j (Nat.le_trans h hKF))
  have HQR := Lib.hid (And.intro hqR (And.intro hqB (hql.trans hK)))
  rw [hK]
  obtain ⟨sm, hsm⟩ : ∃ sm, sumF (framesL L) K = sm := ⟨_, rfl⟩
  have HSM := Lib.hid hsm
  rw [hsm]
  obtain ⟨bo, hbo⟩ : ∃ b, (sm == wholeL L) = b := ⟨_, rfl⟩
  rw [hbo]
  have hK1 : K ≤ 30000 := by
    have h1 := sumF_ge (framesL L) K hKF
    have h2 := (HTK.out K (Nat.le_refl _)).2
    rw [HN.out.1] at h2
    omega
  clear htx hby hql hqB hqC hK hsm hbo hqR
  go_wp2_with fail
  go_loopw [16, 17, 18, 19] (fun v i q1 q2 wr => ∃ j : Nat, j ≤ K ∧ i = .int .i64 (j : Int) ∧ ∃ aa ac sj, v = .slice aa sj ac ∧ Hid (sumF (framesL L) j = sj) ∧ Hid (wr.ownsRow X4.heap.size 5 1 (.slice aa sj ac) sj (iv .u8 (((framesL L).take j).map frameL).flatten)) ∧ Hid (Below X4.heap.size X4 wr)) (fun _ i _ _ _ => K - (intOf i).toNat)
  case atStart => exact ⟨0, Nat.zero_le _, rfl, none, 0, 0, rfl, Lib.hid (by simp [sumF]), Lib.hid (World.ownsRow_nil _ _ _ _), Lib.hid (Below.refl _ _)⟩
  case round =>
    obtain ⟨j, hj, rfl, aa, ac, sj, rfl, HSJ, HO, HBW⟩ := hrel
    by_cases hlt : j < K
    · have dl : (j : Int) < (K : Int) := by omega
      obtain ⟨q, hq⟩ : ∃ q, qs[j]? = some q := ⟨_, List.getElem?_eq_getElem (by have := HQR.out.2.2; omega)⟩
      obtain ⟨x, p, hp, hpx, hok, htb, hxc, hpl⟩ := HQ.out j q hq
      obtain ⟨b, off, rfl, c0, c1, c2, hws⟩ := HQR.out.1 j q hq
      have hqb := HQR.out.2.1 q (List.mem_of_getElem? hq)
      have z0 := (HBW.out.cell (cell_lt c0)).trans c0
      have z1 := (HBW.out.cell (cell_lt c1)).trans c1
      have z2 := (HBW.out.cell (cell_lt c2)).trans c2
      have HPB := Lib.hid (puttx_back hxc hok (by rw [← hpx]; exact hpl) hqb htb.n wr (hws.below HBW.out))
      obtain ⟨fl, hfl⟩ : ∃ fl, (frameL p).length = fl := ⟨_, rfl⟩
      have hfl2 : fl ≤ 4104 := by rw [← hfl, frameL_len]; omega
      have hsj2 : sj ≤ 30000 := by have := (HTK.out j (by omega)).2; rw [HSJ.out, HN.out.1] at this; omega
      have HNX := Lib.hid (And.intro (show sumF (framesL L) (j + 1) = sj + fl by rw [sumF_succ hp, HSJ.out, ← hfl, frameL_len]) (show (((framesL L).take (j + 1)).map frameL).flatten = (((framesL L).take j).map frameL).flatten ++ frameL p by rw [List.take_add_one, hp]; simp))
      have HFL := Lib.hid hfl
      obtain ⟨qe, hqe⟩ : ∃ e, q.e = e := ⟨_, rfl⟩
      obtain ⟨qt, hqt⟩ : ∃ e, q.s = e := ⟨_, rfl⟩
      obtain ⟨qa, hqa⟩ : ∃ e, q.a = e := ⟨_, rfl⟩
      obtain ⟨ql, hql⟩ : ∃ e, q.ws.length = e := ⟨_, rfl⟩
      obtain ⟨qc, hqc⟩ : ∃ e, q.c = e := ⟨_, rfl⟩
      rw [← hpx] at HPB
      rw [hqe, hqt, hqa, hql, hqc] at HPB
      rw [hqe] at z0
      rw [hqt] at z1
      rw [hqa, hql, hqc] at z2
      clear hq hp hpx hok htb hxc hpl c0 c1 c2 hws hqb hfl hqe hqt hqa hql hqc
      go_wp2_with fail
      refine HPB.out.mono ?_
      rintro r w5 ⟨a5, c5, rfl, _, hl5, hb5⟩
      rw [HFL.out]
      have HL5 := Lib.hid hl5
      have HO5 := Lib.hid (own_below HO.out hb5)
      have HB5 := Lib.hid (step_below HBW.out hb5)
      have hs5 := HB5.out.size
      clear hl5 hb5 z0 z1 z2
      go_wp2_with fail
      refine (num_law 0 _).mono ?_; rintro r w8 ⟨rfl, rfl⟩
      go_wp2_with (at_builtin; refine append_ls eltB rfl (.tmp 116) (.tmp 117) rfl X4.heap.size _ sj (iv .u8 (((framesL L).take j).map frameL).flatten) rfl HO5.out _ _ fl (frameL p) HFL.out rfl HL5.out (by omega) hs5 ?_; intro v6 w6 hown6 hgrow6; rw [← iv_append, ← HNX.out.2] at hown6; have HO6 := Lib.hid hown6; have HB6 := Lib.hid (HB5.out.grown hgrow6 hs5 (fun i hi => (HO5.out.lt i hi).1)); obtain ⟨a6, c6, hv6⟩ := own_form hown6; subst hv6; clear hown6 hgrow6)
      go_roundw
      case rel => exact ⟨j + 1, by omega, by go_num, _, _, _, rfl, Lib.hid HNX.out.1, HO6, HB6⟩
      case measure => simp [intOf]; omega
    · have dl : ¬ (j : Int) < (K : Int) := by omega
      obtain rfl : j = K := by omega
      obtain rfl : sj = sm := by rw [← HSJ.out, HSM.out]
      obtain ⟨WF, rfl⟩ : ∃ W, W = wr := ⟨_, rfl⟩
      have hsj2 : sj ≤ n := by have := (HTK.out j (Nat.le_refl _)).2; rw [HSJ.out, HN.out.1] at this; omega
      have htk := (HTK.out j (Nat.le_refl _)).1
      rw [HSJ.out] at htk
      have HBF := Lib.hid (step_below HB4.out HBW.out)
      have hown := HO.out
      rw [← htk] at hown
      obtain ⟨a7, c7, e7, hl7, _⟩ := own_ls hown (by rw [List.length_take, HN.out.1]; omega)
      cases e7
      have HAL := Lib.hid (And.intro (show (L.take sj).length = sj by rw [List.length_take, HN.out.1]; omega) hl7)
      obtain ⟨sa, sc, hsl, hsL⟩ := Ls.hi eltB (HN.out.2.2.below HBF.out) n sj HN.out.1 hsj2
      have HSL := Lib.hid (And.intro HAL.out.1 hsL)
      have dle : (sj : Int) ≤ (n : Int) := by omega
      clear htk hown hl7 hsL
      go_upto_region 27 with (fail)
      rename_i KK hKK
      refine Code.wp_mono (Q := Exit.then KK (fun _ _ _ => False)) (fun e a' w' h => by cases e <;> first | exact h | exact h.elim) ?_
      refine wp_region_held_drew (S := (fun X => Below WF.heap.size WF X)) (by kernel_rfl) ((Below.refl _ _).drew) (fun hHeld => ?_)
      refine tk 0 ?_ rfl (.inl ⟨by rfl, ?_⟩) ?_
      rotate_left
      · intro W hSw; go_simp; try with_reducible rfl
      try simp only [Act.put, List.setIfInBounds_toArray, List.set_cons_zero, List.set_cons_succ]
      refine tk 1 ?_ rfl (.inl ⟨by rfl, ?_⟩) ?_
      rotate_left
      · intro W hSw; go_simp; try with_reducible rfl
      try simp only [Act.put, List.setIfInBounds_toArray, List.set_cons_zero, List.set_cons_succ]
      refine tk 2 ?_ rfl (.inl ⟨by rfl, ?_⟩) ?_
      rotate_left
      · intro W hSw; go_simp; try with_reducible rfl
      try simp only [Act.put, List.setIfInBounds_toArray, List.set_cons_zero, List.set_cons_succ]
      refine tk 3 (.bool true) rfl (.inl ⟨by rfl, ?_⟩) ?_
      · intro W hSw; go_simp; try (first | (simp; done) | (simp; omega) | omega)
      try simp only [Act.put, List.setIfInBounds_toArray, List.set_cons_zero, List.set_cons_succ]
      refine tk 4 (.bool true) rfl (.inl ⟨by rfl, ?_⟩) ?_
      · intro W hSw; go_simp; try rfl
      try simp only [Act.put, List.setIfInBounds_toArray, List.set_cons_zero, List.set_cons_succ]
      refine tk 5 ?_ rfl (.inl ⟨by rfl, ?_⟩) ?_
      rotate_left
      · intro W hSw; go_simp; try with_reducible rfl
      try simp only [Act.put, List.setIfInBounds_toArray, List.set_cons_zero, List.set_cons_succ]
      refine tk 6 ?_ rfl (.inl ⟨by rfl, ?_⟩) ?_
      rotate_left
      · intro W hSw; have hcv := conv_ls W aa sj ac (L.take sj) HAL.out.1 (HAL.out.2.below hSw).rd; go_simp; try with_reducible rfl
      try simp only [Act.put, List.setIfInBounds_toArray, List.set_cons_zero, List.set_cons_succ]
      refine tk 7 ?_ rfl (.inl ⟨by rfl, ?_⟩) ?_
      rotate_left
      · intro W hSw; go_simp; try with_reducible rfl
      try simp only [Act.put, List.setIfInBounds_toArray, List.set_cons_zero, List.set_cons_succ]
      refine tk 8 ?_ rfl (.inl ⟨by rfl, ?_⟩) ?_
      rotate_left
      · intro W hSw; go_simp; try with_reducible rfl
      try simp only [Act.put, List.setIfInBounds_toArray, List.set_cons_zero, List.set_cons_succ]
      refine tk 9 ?_ rfl (.inl ⟨by rfl, ?_⟩) ?_
      rotate_left
      · intro W hSw; have hsl9 := hsl; go_simp; try with_reducible rfl
      try simp only [Act.put, List.setIfInBounds_toArray, List.set_cons_zero, List.set_cons_succ]
      refine tk 10 ?_ rfl (.inl ⟨by rfl, ?_⟩) ?_
      rotate_left
      · intro W hSw; have hcv := conv_ls W sa sj sc (L.take sj) HSL.out.1 (HSL.out.2.below hSw).rd; go_simp; try with_reducible rfl
      try simp only [Act.put, List.setIfInBounds_toArray, List.set_cons_zero, List.set_cons_succ]
      refine tk 11 (.bool true) rfl (.inl ⟨by rfl, ?_⟩) ?_
      · intro W hSw; go_simp; try simp
      try simp only [Act.put, List.setIfInBounds_toArray, List.set_cons_zero, List.set_cons_succ]
      refine tk 12 (.bool true) rfl (.inl ⟨by rfl, ?_⟩) ?_
      · intro W hSw; go_simp; try rfl
      try simp only [Act.put, List.setIfInBounds_toArray, List.set_cons_zero, List.set_cons_succ]
      refine tk 13 (.bool true) rfl (.inl ⟨by rfl, ?_⟩) ?_
      · intro W hSw; go_simp; try rfl
      try simp only [Act.put, List.setIfInBounds_toArray, List.set_cons_zero, List.set_cons_succ]
      refine wpAnyH_ready (rs := [14]) (by kernel_rfl) (by simp) ?_
      refine AllReadyH.cons (o := { dst := some 133, op := Op.call { callee := Callee.value (Operand.func 10), args := #[], argTypes := #[] }, type := 4, pos := "law.go:331", after := #[{ on := 13, ground := Ground.chain }, { on := 13, ground := Ground.guard }], guard := some (13, true) }) rfl (fun K hK => ?_) AllReadyH.nil
      go_simp
      refine (known_law _).mono ?_; rintro e9 w5 ⟨rfl, hb5⟩
      go_wp2_with fail
      refine hK.out _ _ (step_below hHeld hb5) (fun hHeldn => ?_)
      clear hK K hHeld; have hHeld := hHeldn; clear hHeldn
      clear hb5
      try simp only [Act.put, List.setIfInBounds_toArray, List.set_cons_zero, List.set_cons_succ]
      refine tk 15 (.bool true) rfl (.inl ⟨by rfl, ?_⟩) ?_
      · intro W hSw; go_simp; try rfl
      try simp only [Act.put, List.setIfInBounds_toArray, List.set_cons_zero, List.set_cons_succ]
      refine tk 16 ?_ rfl (.inl ⟨by rfl, ?_⟩) ?_
      rotate_left
      · intro W hSw; go_simp; try with_reducible rfl
      try simp only [Act.put, List.setIfInBounds_toArray, List.set_cons_zero, List.set_cons_succ]
      refine wpAnyH_done (by kernel_rfl) ?_ _
      skip
      refine hKK _ _ ?_
      have HBZ := Lib.hid (step_below HBF.out hHeld)
      clear hKK hHeld
      go_wp2_with fail
      go_ret
      exact ⟨rfl, HBZ.out⟩
end Go.Proofs.YtglkndoghnblcaaGreat
namespace Go.Proofs.YtglkndoghnblcaaGreat.logBackP
open Go.ChangeShapes Go.WideShapes Go.ChangeAt Go.RowKit
open Go.ChangeMaps (open_string shut_string)
set_option linter.unusedVariables false
set_option linter.unusedSimpArgs false

theorem own : ownKnob Tryz.prog.godebug = none := by kernel_rfl
theorem laidOut : laidOutB Tryz.prog = true := by kernel_rfl

set_option maxRecDepth 100000 in
theorem lifted (os : Os) (started : os.Started) (H : Type) (enc : TypeId × Value → H) :
    ReturnsInHanded {} Tryz.checked os 9 .any (Rows.logBackSpec.pre6 enc Tryz.prog Tryz.f9 Rows.logBackRow.domain false) (Rows.logBackSpec.post enc Tryz.prog Tryz.f9 false true false false) := by
  refine returnsInHanded_of_change (C := Tryz.checked) own started (by kernel_rfl) Tryz.func9
    (ChangeSpec.witness6 (enc := enc) (C := Tryz.checked) false ⟨#[], #[.slice none 0 0], []⟩ 12 (by kernel_rfl) (by kernel_rfl) (by kernel_rfl) (by kernel_rfl)) ?_
  intro W base args ds gs before hval0 hW hcnd _
  have hval : ∀ (j : Nat) t v, Tryz.f9.params[j]? = some t → args[j]? = some v → Value.okWide Tryz.prog W .any base t v := hval0
  have hW' := hW
  obtain ⟨p, q, hA0, hV, rfl, hfz, hnd⟩ := hW
  have hA : DataW.TrodAll enc Tryz.prog W 0 (fun _ => true) true Tryz.f9.params.toList args.toList ds p := hA0
  rw [Tryz.params9] at hA hval
  obtain ⟨v0, vs0, d0, ds0, p0, q0, hargs, rfl, rfl, h0, r0⟩ := trodAll_cons hA
  obtain ⟨rfl, rfl, rfl⟩ := trodAll_nil r0
  obtain rfl : args = #[v0] := by cases args; simp_all
  obtain ⟨rfl, rfl⟩ := trodVars_none hV
  obtain ⟨a0, len0, cap0, rfl⟩ := okWide_slice Tryz.underlying22 (hval 0 22 v0 rfl rfl)
  have k0 := h0
  have lt0 : ∀ x ∈ p0, x.block < W.heap.size := by obtain ⟨m, hm⟩ := k0; exact DataW.trod_lt m _ _ _ hm
  obtain ⟨z0, w0⟩ : ∃ zs, IsRow .u8 W a0 len0 cap0 zs := by
    obtain ⟨fuel, hf⟩ := h0
    rcases open_ints Tryz.underlying22 Tryz.underlying5 (by kernel_rfl) hf with ⟨hcs, _⟩ | ⟨x, l, c, zs, hcs, _, hl, hm, hz, _, hcell, hwz⟩
    · simp [Value.cells] at hcs
      obtain ⟨rfl, rfl, rfl⟩ := hcs
      exact ⟨[], .inl ⟨rfl, rfl, rfl, rfl⟩⟩
    · simp [Value.cells] at hcs
      obtain ⟨rfl, rfl, rfl⟩ := hcs
      exact ⟨zs, .inr ⟨_, rfl, hl, hm, by simpa using hz, hcell, hwz⟩⟩
  clear hA0 hval0
  refine (logback_law a0 (z0.take len0) len0 cap0 w0.ls.2 w0.byt W w0.ls.1).mono fun e W' ⟨he, bel⟩ => ?_
  subst he
  exact ⟨_, rfl, _, _, _, [], _, [], hW', trodAll_mk1 (shut_bool Tryz.underlying4 _), (trodAll_cons_mk (Below.trod laidOut (by kernel_rfl) (of_decide_eq_true (by kernel_rfl)) k0 bel lt0) trodAll_mk0), rfl, bel.frame _, fun h => by cases h⟩

theorem over : Rows.logBackRow.holds Tryz.pinned (OpenSpec.ofChange Rows.logBackSpec) :=
  OpenClaim.holds_of_wide 9 Tryz.f9 rfl rfl rfl rfl rfl rfl rfl ⟨rfl, rfl, rfl, rfl, rfl⟩ rfl rfl rfl rfl rfl (by kernel_rfl) Tryz.func9 (by kernel_rfl)
    (of_decide_eq_true (by kernel_rfl)) (by unfold Func.isWrapper; first | (rw [if_pos (by decide +kernel)]; kernel_rfl) | (rw [if_neg (by decide +kernel)]; exact ⟨rfl, rfl⟩))
    (fun os started H enc _ => lifted os started H enc)

theorem proved : Rows.LogBackSaid := over
#print axioms proved
end Go.Proofs.YtglkndoghnblcaaGreat.logBackP
