/- Transactions that may be, by the program: a contract. -/
import Derived.Test.YtkgcbhpgkcfkhaaCo2
namespace Go.Proofs.Ytkgcbhpgkcfkhaa
open Go.ChangeShapes Go.WideShapes Go.ChangeAt Go.RowKit Go.Shelf
set_option linter.unusedVariables false
set_option linter.unusedSimpArgs false

/-- Calls in a row, read. -/
def OpsR (W : World) (a : Option Addr) (L : List CallV) : Prop := ∀ (k : Nat) (o : CallV), L[k]? = some o → ∃ b off, a = some ⟨b, off, none⟩ ∧ (W.cell? ⟨b, off + k * 7, none⟩ = some (.int .i64 o.k) ∧ W.cell? ⟨b, off + k * 7 + 1, none⟩ = some (.int .i64 o.t) ∧ W.cell? ⟨b, off + k * 7 + 2, none⟩ = some (.int .i64 o.i) ∧ W.cell? ⟨b, off + k * 7 + 3, none⟩ = some (.slice o.ka o.kn o.kc) ∧ W.cell? ⟨b, off + k * 7 + 4, none⟩ = some (.slice o.ta o.tn o.tc) ∧ W.cell? ⟨b, off + k * 7 + 5, none⟩ = some (.int .i64 o.m) ∧ W.cell? ⟨b, off + k * 7 + 6, none⟩ = some (.slice o.ra o.rn o.rc)) ∧ CallAt W o
theorem OpsR.below {W W' : World} {a : Option Addr} {L : List CallV} (h : OpsR W a L) (b : Below W.heap.size W W') : OpsR W' a L := fun k o ho => by
  obtain ⟨g, off, e, ⟨h0, h1, h2, h3, h4, h5, h6⟩, hc⟩ := h k o ho
  have f : ∀ {p v}, W.cell? p = some v → W'.cell? p = some v := fun h => (b.cell (World.block_lt_of_cell? W _ h)).trans h
  exact ⟨g, off, e, ⟨f h0, f h1, f h2, f h3, f h4, f h5, f h6⟩, hc.below b⟩
/-- A transaction. -/
structure TxnV where
  oa : Option Addr
  on : Nat
  oc : Nat
  ops : List CallV
  sn : Bool
  ab : Bool
structure TxnAt (W : World) (x : TxnV) : Prop where
  os : OpsR W x.oa x.ops
  ol : x.ops.length = x.on
theorem TxnAt.below {W W' : World} {x : TxnV} (h : TxnAt W x) (b : Below W.heap.size W W') : TxnAt W' x := ⟨h.os.below b, h.ol⟩
def wrB (k : Int) : Bool := kf k 5
def opB (j : Job) (sn : Bool) (o : CallV) : Bool := pO j o && !(sn && kf o.k 5)
/-- May it be a transaction? -/
def mayT (j : Job) (x : TxnV) : Bool := okB j && decide (x.on ≤ 16) && !(x.sn && x.ab) && x.ops.all (opB j x.sn)
theorem put_eq {K : Act → World → Prop} {a : Act} {d : Option Tmp} {u v : Value} {w : World} (e : u = v) (h : K (a.put d v) w) : K (a.put d u) w := e ▸ h
theorem all_take {α : Type} (L : List α) (f : α → Bool) {k : Nat} {o : α} (h : L[k]? = some o) : (L.take (k + 1)).all f = ((L.take k).all f && f o) := by
  rw [List.take_add_one, h]; simp
set_option maxRecDepth 100000 in
set_option maxHeartbeats 4000000 in
theorem maytxn_law (j : Job) (x : TxnV) (hon : x.on ≤ 1000000) (hrn : ∀ o ∈ x.ops, o.rn ≤ 1000000) (w : World) (hj : JobAt w j) (hx : TxnAt w x) :
    Calls Try.prog 51 #[.agg #[.int .i64 j.w, .int .i64 j.l, .int .i64 j.d, .int .i64 j.c, .int .i64 j.k, .int .i64 j.e, .slice j.a j.n j.cap], .agg #[.slice x.oa x.on x.oc, .bool x.sn, .bool x.ab]] w fun r w' => r = .returned (.bool (mayT j x)) ∧ Below w.heap.size w w' := by
  obtain ⟨hb0, hbx⟩ := boxes2 w #[.int .i64 j.w, .int .i64 j.l, .int .i64 j.d, .int .i64 j.c, .int .i64 j.k, .int .i64 j.e, .slice j.a j.n j.cap] #[.slice x.oa x.on x.oc, .bool x.sn, .bool x.ab] 53 86
  have HCK := Lib.hid (show chkV j = if okB j then 0 else 2 from rfl)
  have hlei : (j.n : Int) ≤ 1000000 := by have := hj.le; omega
  have hoi : (x.on : Int) ≤ 1000000 := by omega
  have HRN := Lib.hid hrn
  obtain ⟨ans, hans⟩ : ∃ a, mayT j x = a := ⟨_, rfl⟩
  obtain ⟨bs, hbs⟩ : ∃ b, (okB j && decide (x.on ≤ 16) && !(x.sn && x.ab)) = b := ⟨_, rfl⟩
  have HP := Lib.hid (show ans = (bs && x.ops.all (opB j x.sn)) by rw [← hans, ← hbs]; rfl)
  rw [hans]
  have HBS := Lib.hid hbs
  obtain ⟨sn, hsn⟩ : ∃ s, x.sn = s := ⟨_, rfl⟩
  obtain ⟨ab, hab⟩ : ∃ s, x.ab = s := ⟨_, rfl⟩
  rw [hsn] at HP HBS
  rw [hab] at HBS
  rw [hsn, hab] at hb0 hbx ⊢
  clear hans hbs hrn hsn hab
  go_enter Try.func51, Try.ntmps51
  go_upto_region 1 with (fail)
  generalize ((w.alloc (.cells #[.int .i64 j.w, .int .i64 j.l, .int .i64 j.d, .int .i64 j.c, .int .i64 j.k, .int .i64 j.e, .slice j.a j.n j.cap] 53)).alloc (.cells #[.slice x.oa x.on x.oc, .bool sn, .bool ab] 86)) = W0 at *
  have FG := Lib.hid (fun W (b : Below W0.heap.size W0 W) => (by
    obtain ⟨x, y⟩ := hbx W b
    exact ⟨x.cell 0, x.cell 1, x.cell 2, x.cell 3, x.cell 4, x.cell 5, x.cell 6⟩ : W.cell? ⟨w.heap.size, 0, none⟩ = some (.int .i64 j.w) ∧ W.cell? ⟨w.heap.size, 1, none⟩ = some (.int .i64 j.l) ∧ W.cell? ⟨w.heap.size, 2, none⟩ = some (.int .i64 j.d) ∧ W.cell? ⟨w.heap.size, 3, none⟩ = some (.int .i64 j.c) ∧ W.cell? ⟨w.heap.size, 4, none⟩ = some (.int .i64 j.k) ∧ W.cell? ⟨w.heap.size, 5, none⟩ = some (.int .i64 j.e) ∧ W.cell? ⟨w.heap.size, 6, none⟩ = some (.slice j.a j.n j.cap)))
  have FX := Lib.hid (fun W (b : Below W0.heap.size W0 W) => (by
    obtain ⟨y, z⟩ := hbx W b
    exact ⟨z.cell 0, z.cell 1, z.cell 2⟩ : W.cell? ⟨w.heap.size + 1, 0, none⟩ = some (.slice x.oa x.on x.oc) ∧ W.cell? ⟨w.heap.size + 1, 1, none⟩ = some (.bool sn) ∧ W.cell? ⟨w.heap.size + 1, 2, none⟩ = some (.bool ab)))
  have FJ := Lib.hid (fun W (b : Below W0.heap.size W0 W) => (hj.below hb0).below b)
  have FO := Lib.hid (fun W (b : Below W0.heap.size W0 W) => (hx.below hb0).below b)
  have HB0 := Lib.hid hb0
  have HOL := Lib.hid hx.ol
  clear hb0 hbx hj hx
  go_cut [5] (fun v wx => v = .bool bs ∧ Hid (Below W0.heap.size W0 wx))
  case first =>
    obtain ⟨g0, g1, g2, g3, g4, g5, g6⟩ := FG.out _ (Below.refl _ _)
    go_wp2_with fail
    refine (check_law j W0 (FJ.out _ (Below.refl _ _))).mono ?_; rintro r w3 ⟨rfl, B3⟩
    have HBW := Lib.hid B3
    rw [HCK.out]
    clear B3
    obtain ⟨x0, x1, x2⟩ := FX.out _ HBW.out
    obtain ⟨ok, hok⟩ : ∃ x, okB j = x := ⟨_, rfl⟩
    rw [hok] at HBS ⊢
    clear hok
    by_cases h16 : x.on ≤ 16
    · have h16i : (x.on : Int) ≤ 16 := by omega
      have hd : decide (x.on ≤ 16) = true := decide_eq_true h16
      rw [hd] at HBS
      clear hd
      cases ok
      all_goals cases sn
      all_goals cases ab
      all_goals
        simp only [Bool.false_eq_true, ↓reduceIte]
        go_wp2_with fail
        go_meet
        exact ⟨by rw [← HBS.out]; rfl, HBW⟩
    · have h16i : ¬ (x.on : Int) ≤ 16 := by omega
      have hd : decide (x.on ≤ 16) = false := decide_eq_false h16
      rw [hd] at HBS
      clear hd
      cases ok
      all_goals
        simp only [Bool.false_eq_true, ↓reduceIte]
        go_wp2_with fail
        go_meet
        exact ⟨by rw [← HBS.out]; rfl, HBW⟩
  case rest =>
    obtain ⟨rfl, HBW⟩ := hcut
    clear HBS
    obtain ⟨w3, hw3⟩ : ∃ W, W = wc := ⟨_, rfl⟩
    rw [← hw3] at HBW ⊢
    clear hw3
    obtain ⟨x0, x1, x2⟩ := FX.out _ HBW.out
    go_wp2_with fail
    go_loopw [5, 29] (fun v i wr => ∃ k : Nat, k ≤ x.on ∧ i = .int .i64 (k : Int) ∧ v = .bool (bs && (x.ops.take k).all (opB j sn)) ∧ Hid (Below w3.heap.size w3 wr)) (fun _ i _ => x.on - (intOf i).toNat)
    case atStart => exact ⟨0, by omega, rfl, by simp, Lib.hid (Below.refl _ _)⟩
    case round =>
      obtain ⟨k, hk, rfl, rfl, BR⟩ := hrel
      clear x0 x1 x2
      obtain ⟨bk, hbk⟩ : ∃ b, (bs && (x.ops.take k).all (opB j sn)) = b := ⟨_, rfl⟩
      rw [hbk]
      by_cases hlt : k < x.on
      · have hkl : (k : Int) < (x.on : Int) := by omega
        obtain ⟨o, ho⟩ : ∃ o, x.ops[k]? = some o := ⟨_, List.getElem?_eq_getElem (by rw [HOL.out]; exact hlt)⟩
        have HN := Lib.hid (show (bs && (x.ops.take (k + 1)).all (opB j sn)) = (bk && opB j sn o) by rw [all_take _ _ ho, ← Bool.and_assoc, hbk])
        have hor := HRN.out o (List.mem_of_getElem? ho)
        obtain ⟨b1, o1, ea, ⟨d0, d1, d2, d3, d4, d5, d6⟩, hc⟩ := (FO.out _ (step_below HBW.out BR.out)).os k o ho
        have HOB := Lib.hid (show opB j sn o = (pO j o && !(sn && kf o.k 5)) from rfl)
        have HEA := Lib.hid ea
        have HC := Lib.hid hc
        have HLT := Lib.hid hlt
        have HBX := BoxC.new wr #[.int .i64 o.k, .int .i64 o.t, .int .i64 o.i, .slice o.ka o.kn o.kc, .slice o.ta o.tn o.tc, .int .i64 o.m, .slice o.ra o.rn o.rc] 98
        have HB98 : Below wr.heap.size wr (wr.alloc (.cells #[.int .i64 o.k, .int .i64 o.t, .int .i64 o.i, .slice o.ka o.kn o.kc, .slice o.ta o.tn o.tc, .int .i64 o.m, .slice o.ra o.rn o.rc] 98)) := (Below.refl _ _).alloc (Nat.le_refl _) _
        have H98 := Lib.hid HB98
        have H99 := Lib.hid (step_below BR.out HB98)
        have HCB := Lib.hid HBX
        clear hbk ho hc hlt HBX HB98
        rw [ea]
        obtain ⟨pb, hpb⟩ : ∃ b, pO j o = b := ⟨_, rfl⟩
        obtain ⟨f5, hf5⟩ : ∃ b, kf o.k 5 = b := ⟨_, rfl⟩
        have HM := Lib.hid (fun W (b : Below wr.heap.size wr W) => (by have h := mayop_law j o hor W (FJ.out _ (step_below (step_below HBW.out BR.out) b)) (HC.out.below b); rwa [hpb] at h : Calls Try.prog 56 #[.agg #[.int .i64 j.w, .int .i64 j.l, .int .i64 j.d, .int .i64 j.c, .int .i64 j.k, .int .i64 j.e, .slice j.a j.n j.cap], .agg #[.int .i64 o.k, .int .i64 o.t, .int .i64 o.i, .slice o.ka o.kn o.kc, .slice o.ta o.tn o.tc, .int .i64 o.m, .slice o.ra o.rn o.rc]] W fun r w' => r = .returned (.bool pb) ∧ Below W.heap.size W w'))
        have HKD := Lib.hid (fun W => (by have h := kind_law o.k o.t o.i o.m o.ka o.ta o.ra o.kn o.kc o.tn o.tc o.rn o.rc W; rwa [hf5] at h : Calls Try.prog 89 #[.agg #[.int .i64 o.k, .int .i64 o.t, .int .i64 o.i, .slice o.ka o.kn o.kc, .slice o.ta o.tn o.tc, .int .i64 o.m, .slice o.ra o.rn o.rc]] W fun r w' => r = .returned (kN (kf o.k 0) (kf o.k 1) (kf o.k 2) (kf o.k 3) (kf o.k 4) f5) ∧ Below W.heap.size W w'))
        rw [hpb, hf5] at HOB
        clear hpb hf5 ea
        cases bk
        · go_wp2_with fail
          go_roundw
          case rel => exact ⟨k + 1, by have := HLT.out; omega, by go_num, by rw [HN.out]; rfl, H99⟩
          case measure => simp [intOf]; have := HLT.out; omega
        · obtain ⟨g0, g1, g2, g3, g4, g5, g6⟩ := FG.out _ (step_below HBW.out H99.out)
          go_wp2_with fail
          generalize wr.alloc (.cells #[.int .i64 o.k, .int .i64 o.t, .int .i64 o.i, .slice o.ka o.kn o.kc, .slice o.ta o.tn o.tc, .int .i64 o.m, .slice o.ra o.rn o.rc] 98) = W9 at *
          refine (HM.out _ H98.out).mono ?_; rintro r w5 ⟨rfl, B5⟩
          have H5 := Lib.hid (step_below H99.out B5)
          have hcb := HCB.out.below B5
          obtain ⟨x0, x1, x2⟩ := FX.out _ (step_below HBW.out H5.out)
          have c0 := hcb.cell 0
          have c1 := hcb.cell 1
          have c2 := hcb.cell 2
          have c3 := hcb.cell 3
          have c4 := hcb.cell 4
          have c5 := hcb.cell 5
          have c6 := hcb.cell 6
          simp only [List.getElem?_toArray, List.getElem?_cons_zero, List.getElem?_cons_succ] at c0 c1 c2 c3 c4 c5 c6
          clear B5 hcb g0 g1 g2 g3 g4 g5 g6
          cases pb
          · go_wp2_with fail
            go_roundw
            case rel => exact ⟨k + 1, by have := HLT.out; omega, by go_num, by rw [HN.out, HOB.out]; rfl, H5⟩
            case measure => simp [intOf]; have := HLT.out; omega
          · cases sn
            · go_wp2_with fail
              go_roundw
              case rel => exact ⟨k + 1, by have := HLT.out; omega, by go_num, by rw [HN.out, HOB.out]; rfl, H5⟩
              case measure => simp [intOf]; have := HLT.out; omega
            · go_wp2_with fail
              refine (HKD.out _).mono ?_; rintro r w6 ⟨rfl, B6⟩
              unfold kN
              have H6 := Lib.hid (step_below H5.out B6)
              clear B6 x0 x1 x2 c0 c1 c2 c3 c4 c5 c6
              go_wp2_with fail
              refine put_eq (v := .bool f5) rfl ?_
              go_wp2_with fail
              go_roundw
              case rel => exact ⟨k + 1, by have := HLT.out; omega, by go_num, by rw [HN.out, HOB.out]; simp, H6⟩
              case measure => simp [intOf]; have := HLT.out; omega
      · have hkl : ¬ (k : Int) < (x.on : Int) := by omega
        have HE := Lib.hid (show ans = bk by rw [HP.out, ← hbk, List.take_of_length_le (by rw [HOL.out]; omega)])
        clear hbk
        go_wp2_with fail
        go_ret
        exact ⟨ret_bool HE.out.symm, step_below HB0.out (step_below HBW.out BR.out)⟩
end Go.Proofs.Ytkgcbhpgkcfkhaa
