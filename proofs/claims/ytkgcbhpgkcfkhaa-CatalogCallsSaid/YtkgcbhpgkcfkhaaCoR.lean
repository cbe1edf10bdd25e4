/- Sessions that may be, and how much there is: contracts. -/
import Derived.Test.YtkgcbhpgkcfkhaaCo5
import Derived.IntWalk
namespace Go.Proofs.Ytkgcbhpgkcfkhaa
open Go.ChangeShapes Go.WideShapes Go.ChangeAt Go.RowKit Go.Shelf
set_option linter.unusedVariables false
set_option linter.unusedSimpArgs false

/-- Transactions in a row, read. -/
def TxsR (W : World) (a : Option Addr) (L : List TxnV) : Prop := ∀ (k : Nat) (x : TxnV), L[k]? = some x → ∃ b off, a = some ⟨b, off, none⟩ ∧ (W.cell? ⟨b, off + k * 3, none⟩ = some (.slice x.oa x.on x.oc) ∧ W.cell? ⟨b, off + k * 3 + 1, none⟩ = some (.bool x.sn) ∧ W.cell? ⟨b, off + k * 3 + 2, none⟩ = some (.bool x.ab)) ∧ TxnAt W x
theorem TxsR.below {W W' : World} {a : Option Addr} {L : List TxnV} (h : TxsR W a L) (b : Below W.heap.size W W') : TxsR W' a L := fun k o ho => by
  obtain ⟨g, off, e, ⟨h0, h1, h2⟩, hc⟩ := h k o ho
  have f : ∀ {p v}, W.cell? p = some v → W'.cell? p = some v := fun h => (b.cell (World.block_lt_of_cell? W _ h)).trans h
  exact ⟨g, off, e, ⟨f h0, f h1, f h2⟩, hc.below b⟩
/-- A session. -/
structure SesV where
  a : Option Addr
  n : Nat
  c : Nat
  ts : List TxnV
/-- Sessions in a row, read. -/
def SesR (W : World) (a : Option Addr) (L : List SesV) : Prop := ∀ (k : Nat) (s : SesV), L[k]? = some s → ∃ b off, a = some ⟨b, off, none⟩ ∧ W.cell? ⟨b, off + k, none⟩ = some (.slice s.a s.n s.c) ∧ TxsR W s.a s.ts ∧ s.ts.length = s.n
theorem SesR.below {W W' : World} {a : Option Addr} {L : List SesV} (h : SesR W a L) (b : Below W.heap.size W W') : SesR W' a L := fun k o ho => by
  obtain ⟨g, off, e, h0, hc, hl⟩ := h k o ho
  exact ⟨g, off, e, (b.cell (World.block_lt_of_cell? W _ h0)).trans h0, hc.below b, hl⟩
/-- Bounds on what they hold. -/
def TxB (x : TxnV) : Prop := x.on ≤ 1000000 ∧ ∀ o ∈ x.ops, o.rn ≤ 1000000
def SeB (s : SesV) : Prop := s.n ≤ 1000000 ∧ ∀ x ∈ s.ts, TxB x
def sesB (j : Job) (s : SesV) : Bool := decide (s.n ≤ 64) && s.ts.all (mayT j)
def mayS (j : Job) (L : List SesV) (n : Nat) : Bool := okB j && ((n : Int) == j.w) && L.all (sesB j)
set_option maxRecDepth 100000 in
set_option maxHeartbeats 4000000 in
theorem maysess_law (j : Job) (la : Option Addr) (L : List SesV) (n lc : Nat) (hL : L.length = n) (hn : n ≤ 1000000) (hB : ∀ s ∈ L, SeB s) (w : World) (hj : JobAt w j) (hs : SesR w la L) :
    Calls Try.prog 49 #[.agg #[.int .i64 j.w, .int .i64 j.l, .int .i64 j.d, .int .i64 j.c, .int .i64 j.k, .int .i64 j.e, .slice j.a j.n j.cap], .slice la n lc] w fun r w' => r = .returned (.bool (mayS j L n)) ∧ Below w.heap.size w w' := by
  have hb0 : Below w.heap.size w (w.alloc (.cells #[.int .i64 j.w, .int .i64 j.l, .int .i64 j.d, .int .i64 j.c, .int .i64 j.k, .int .i64 j.e, .slice j.a j.n j.cap] 53)) := (Below.refl _ _).alloc (Nat.le_refl _) _
  have hbx := BoxC.new w #[.int .i64 j.w, .int .i64 j.l, .int .i64 j.d, .int .i64 j.c, .int .i64 j.k, .int .i64 j.e, .slice j.a j.n j.cap] 53
  have HCK := Lib.hid (show chkV j = if okB j then 0 else 2 from rfl)
  have hni : (n : Int) ≤ 1000000 := by omega
  have HLN := Lib.hid hL
  have HBB := Lib.hid hB
  obtain ⟨ans, hans⟩ : ∃ a, mayS j L n = a := ⟨_, rfl⟩
  obtain ⟨bs, hbs⟩ : ∃ b, (okB j && ((n : Int) == j.w)) = b := ⟨_, rfl⟩
  have HP := Lib.hid (show ans = (bs && L.all (sesB j)) by rw [← hans, ← hbs]; rfl)
  rw [hans]
  have HBS := Lib.hid hbs
  clear hans hbs hB hL
  go_enter Try.func49, Try.ntmps49
  go_upto_region 1 with (fail)
  generalize (w.alloc (.cells #[.int .i64 j.w, .int .i64 j.l, .int .i64 j.d, .int .i64 j.c, .int .i64 j.k, .int .i64 j.e, .slice j.a j.n j.cap] 53)) = W0 at *
  have FG := Lib.hid (fun W (b : Below W0.heap.size W0 W) => (by
    have x := hbx.below b
    exact ⟨x.cell 0, x.cell 1, x.cell 2, x.cell 3, x.cell 4, x.cell 5, x.cell 6⟩ : W.cell? ⟨w.heap.size, 0, none⟩ = some (.int .i64 j.w) ∧ W.cell? ⟨w.heap.size, 1, none⟩ = some (.int .i64 j.l) ∧ W.cell? ⟨w.heap.size, 2, none⟩ = some (.int .i64 j.d) ∧ W.cell? ⟨w.heap.size, 3, none⟩ = some (.int .i64 j.c) ∧ W.cell? ⟨w.heap.size, 4, none⟩ = some (.int .i64 j.k) ∧ W.cell? ⟨w.heap.size, 5, none⟩ = some (.int .i64 j.e) ∧ W.cell? ⟨w.heap.size, 6, none⟩ = some (.slice j.a j.n j.cap)))
  have FJ := Lib.hid (fun W (b : Below W0.heap.size W0 W) => (hj.below hb0).below b)
  have FS := Lib.hid (fun W (b : Below W0.heap.size W0 W) => (hs.below hb0).below b)
  have HB0 := Lib.hid hb0
  clear hb0 hbx hj hs
  go_cut [5] (fun v wx => v = .bool bs ∧ Hid (Below W0.heap.size W0 wx))
  case first =>
    obtain ⟨g0, g1, g2, g3, g4, g5, g6⟩ := FG.out _ (Below.refl _ _)
    go_wp2_with fail
    refine (check_law j W0 (FJ.out _ (Below.refl _ _))).mono ?_; rintro r w3 ⟨rfl, B3⟩
    have HBW := Lib.hid B3
    rw [HCK.out]
    clear B3 g0 g1 g2 g3 g4 g5 g6
    obtain ⟨g0, g1, g2, g3, g4, g5, g6⟩ := FG.out _ HBW.out
    obtain ⟨ok, hok⟩ : ∃ x, okB j = x := ⟨_, rfl⟩
    rw [hok] at HBS ⊢
    clear hok
    cases ok
    all_goals
      simp only [Bool.false_eq_true, ↓reduceIte]
      go_wp2_with fail
      go_meet
      exact ⟨by rw [← HBS.out]; rfl, HBW⟩
  case rest =>
    obtain ⟨rfl, HBW⟩ := hcut
    clear HBS
    obtain ⟨w3, hw3⟩ : ∃ W, W = wc := ⟨_, rfl⟩
    rw [← hw3] at HBW ⊢
    clear hw3
    go_wp2_with fail
    go_loopw [5, 22] (fun v i wr => ∃ k : Nat, k ≤ n ∧ i = .int .i64 (k : Int) ∧ v = .bool (bs && (L.take k).all (sesB j)) ∧ Hid (Below w3.heap.size w3 wr)) (fun _ i _ => n - (intOf i).toNat)
    case atStart => exact ⟨0, by omega, rfl, by simp, Lib.hid (Below.refl _ _)⟩
    case round =>
      obtain ⟨k, hk, rfl, rfl, BR⟩ := hrel
      obtain ⟨bk, hbk⟩ : ∃ b, (bs && (L.take k).all (sesB j)) = b := ⟨_, rfl⟩
      rw [hbk]
      by_cases hlt : k < n
      · have hkl : (k : Int) < (n : Int) := by omega
        obtain ⟨s, ho⟩ : ∃ o, L[k]? = some o := ⟨_, List.getElem?_eq_getElem (by rw [HLN.out]; exact hlt)⟩
        have HN := Lib.hid (show (bs && (L.take (k + 1)).all (sesB j)) = (bk && sesB j s) by rw [all_take _ _ ho, ← Bool.and_assoc, hbk])
        obtain ⟨hsn, hsb⟩ := HBB.out s (List.mem_of_getElem? ho)
        obtain ⟨b1, o1, ea, d0, hts, htl⟩ := (FS.out _ (step_below HBW.out BR.out)) k s ho
        have HTL := Lib.hid htl
        have HSB := Lib.hid hsb
        have HTS := Lib.hid (fun W (b : Below wr.heap.size wr W) => hts.below b)
        have HLT := Lib.hid hlt
        have hsi : (s.n : Int) ≤ 1000000 := by omega
        clear hbk ho hlt hts htl hsb
        subst ea
        obtain ⟨c0, hc0⟩ : ∃ b, (bk && decide (s.n ≤ 64)) = b := ⟨_, rfl⟩
        have HFIN := Lib.hid (show (bk && sesB j s) = (c0 && s.ts.all (mayT j)) by rw [← hc0, sesB, Bool.and_assoc])
        obtain ⟨W1, hW1⟩ : ∃ W, W = wr := ⟨_, rfl⟩
        rw [← hW1] at BR HTS d0 ⊢
        clear hW1
        have hcase : (bk = true ∧ s.n ≤ 64 ∧ c0 = true) ∨ (bk = true ∧ ¬ s.n ≤ 64 ∧ c0 = false) ∨ (bk = false ∧ c0 = false) := by
          cases bk
          · exact .inr (.inr ⟨rfl, by rw [← hc0]; rfl⟩)
          · by_cases h : s.n ≤ 64
            · exact .inl ⟨rfl, h, by rw [← hc0]; simpa using h⟩
            · exact .inr (.inl ⟨rfl, h, by rw [← hc0]; simpa using h⟩)
        rcases hcase with ⟨rfl, h64, rfl⟩ | ⟨rfl, h64, rfl⟩ | ⟨rfl, rfl⟩
        · have h64i : (s.n : Int) ≤ 64 := by omega
          go_wp2_with fail
          go_loopw [5, 34] (fun v i wq => ∃ q : Nat, q ≤ s.n ∧ i = .int .i64 (q : Int) ∧ v = .bool (true && (s.ts.take q).all (mayT j)) ∧ Hid (Below W1.heap.size W1 wq)) (fun _ i _ => s.n - (intOf i).toNat)
          case atStart => exact ⟨0, by omega, rfl, by simp, Lib.hid (Below.refl _ _)⟩
          case round =>
            obtain ⟨q, hq, rfl, rfl, BQ⟩ := hrel
            have BW := Lib.hid (step_below HBW.out (step_below BR.out BQ.out))
            obtain ⟨bq, hbq⟩ : ∃ b, (true && (s.ts.take q).all (mayT j)) = b := ⟨_, rfl⟩
            rw [hbq]
            by_cases hqt : q < s.n
            · have hqi : (q : Int) < (s.n : Int) := by omega
              obtain ⟨x, hx⟩ : ∃ o, s.ts[q]? = some o := ⟨_, List.getElem?_eq_getElem (by rw [HTL.out]; exact hqt)⟩
              have HNQ := Lib.hid (show (true && (s.ts.take (q + 1)).all (mayT j)) = (bq && mayT j x) by rw [all_take _ _ hx, ← Bool.and_assoc, hbq])
              have hxb := HSB.out x (List.mem_of_getElem? hx)
              obtain ⟨b2, o2, e2, ⟨y0, y1, y2⟩, hxa⟩ := HTS.out _ BQ.out q x hx
              have HXA := Lib.hid (fun W (b : Below wr.heap.size wr W) => hxa.below b)
              have HEA := Lib.hid e2
              rw [e2]
              have B86 : Below wr.heap.size wr (wr.alloc (.cells #[.slice x.oa x.on x.oc, .bool x.sn, .bool x.ab] 86)) := (Below.refl _ _).alloc (Nat.le_refl _) _
              have H86 := Lib.hid B86
              have H87 := Lib.hid (step_below BQ.out B86)
              have HQT := Lib.hid hqt
              obtain ⟨mt, hmt⟩ : ∃ b, mayT j x = b := ⟨_, rfl⟩
              have HM := Lib.hid (fun W (b : Below wr.heap.size wr W) => (by have h := maytxn_law j x hxb.1 hxb.2 W (FJ.out _ (step_below BW.out b)) (HXA.out W b); rwa [hmt] at h : Calls Try.prog 51 #[.agg #[.int .i64 j.w, .int .i64 j.l, .int .i64 j.d, .int .i64 j.c, .int .i64 j.k, .int .i64 j.e, .slice j.a j.n j.cap], .agg #[.slice x.oa x.on x.oc, .bool x.sn, .bool x.ab]] W fun r w' => r = .returned (.bool mt) ∧ Below W.heap.size W w'))
              rw [hmt] at HNQ
              clear hbq hx hxb e2 hxa B86 hqt hmt
              cases bq
              · go_wp2_with fail
                go_roundw
                case rel => exact ⟨q + 1, by have := HQT.out; omega, by go_num, by rw [HNQ.out]; rfl, H87⟩
                case measure => simp [intOf]; have := HQT.out; omega
              · obtain ⟨g0, g1, g2, g3, g4, g5, g6⟩ := FG.out _ (step_below BW.out H86.out)
                go_wp2_with fail
                refine (HM.out _ H86.out).mono ?_; rintro r w5 ⟨rfl, B5⟩
                have H5 := Lib.hid (step_below H87.out B5)
                clear B5 g0 g1 g2 g3 g4 g5 g6
                go_wp2_with fail
                go_roundw
                case rel => exact ⟨q + 1, by have := HQT.out; omega, by go_num, by rw [HNQ.out]; rfl, H5⟩
                case measure => simp [intOf]; have := HQT.out; omega
            · have hqi : ¬ (q : Int) < (s.n : Int) := by omega
              have HE := Lib.hid (show (true && sesB j s) = bq by rw [HFIN.out, ← hbq, List.take_of_length_le (by rw [HTL.out]; omega)])
              have H9 := Lib.hid (step_below BR.out BQ.out)
              clear hbq
              go_wp2_with fail
              go_roundw
              case rel => exact ⟨k + 1, by have := HLT.out; omega, by go_num, by rw [HN.out, HE.out], H9⟩
              case measure => simp [intOf]; have := HLT.out; omega
        · have h64i : ¬ (s.n : Int) ≤ 64 := by omega
          go_wp2_with fail
          go_loopw [5, 34] (fun v i wq => ∃ q : Nat, q ≤ s.n ∧ i = .int .i64 (q : Int) ∧ v = .bool (false && (s.ts.take q).all (mayT j)) ∧ Hid (Below W1.heap.size W1 wq)) (fun _ i _ => s.n - (intOf i).toNat)
          case atStart => exact ⟨0, by omega, rfl, by simp, Lib.hid (Below.refl _ _)⟩
          case round =>
            obtain ⟨q, hq, rfl, rfl, BQ⟩ := hrel
            have BW := Lib.hid (step_below HBW.out (step_below BR.out BQ.out))
            obtain ⟨bq, hbq⟩ : ∃ b, (false && (s.ts.take q).all (mayT j)) = b := ⟨_, rfl⟩
            rw [hbq]
            by_cases hqt : q < s.n
            · have hqi : (q : Int) < (s.n : Int) := by omega
              obtain ⟨x, hx⟩ : ∃ o, s.ts[q]? = some o := ⟨_, List.getElem?_eq_getElem (by rw [HTL.out]; exact hqt)⟩
              have HNQ := Lib.hid (show (false && (s.ts.take (q + 1)).all (mayT j)) = (bq && mayT j x) by rw [all_take _ _ hx, ← Bool.and_assoc, hbq])
              have hxb := HSB.out x (List.mem_of_getElem? hx)
              obtain ⟨b2, o2, e2, ⟨y0, y1, y2⟩, hxa⟩ := HTS.out _ BQ.out q x hx
              have HXA := Lib.hid (fun W (b : Below wr.heap.size wr W) => hxa.below b)
              have HEA := Lib.hid e2
              rw [e2]
              have B86 : Below wr.heap.size wr (wr.alloc (.cells #[.slice x.oa x.on x.oc, .bool x.sn, .bool x.ab] 86)) := (Below.refl _ _).alloc (Nat.le_refl _) _
              have H86 := Lib.hid B86
              have H87 := Lib.hid (step_below BQ.out B86)
              have HQT := Lib.hid hqt
              obtain ⟨mt, hmt⟩ : ∃ b, mayT j x = b := ⟨_, rfl⟩
              have HM := Lib.hid (fun W (b : Below wr.heap.size wr W) => (by have h := maytxn_law j x hxb.1 hxb.2 W (FJ.out _ (step_below BW.out b)) (HXA.out W b); rwa [hmt] at h : Calls Try.prog 51 #[.agg #[.int .i64 j.w, .int .i64 j.l, .int .i64 j.d, .int .i64 j.c, .int .i64 j.k, .int .i64 j.e, .slice j.a j.n j.cap], .agg #[.slice x.oa x.on x.oc, .bool x.sn, .bool x.ab]] W fun r w' => r = .returned (.bool mt) ∧ Below W.heap.size W w'))
              rw [hmt] at HNQ
              clear hbq hx hxb e2 hxa B86 hqt hmt
              cases bq
              · go_wp2_with fail
                go_roundw
                case rel => exact ⟨q + 1, by have := HQT.out; omega, by go_num, by rw [HNQ.out]; rfl, H87⟩
                case measure => simp [intOf]; have := HQT.out; omega
              · obtain ⟨g0, g1, g2, g3, g4, g5, g6⟩ := FG.out _ (step_below BW.out H86.out)
                go_wp2_with fail
                refine (HM.out _ H86.out).mono ?_; rintro r w5 ⟨rfl, B5⟩
                have H5 := Lib.hid (step_below H87.out B5)
                clear B5 g0 g1 g2 g3 g4 g5 g6
                go_wp2_with fail
                go_roundw
                case rel => exact ⟨q + 1, by have := HQT.out; omega, by go_num, by rw [HNQ.out]; rfl, H5⟩
                case measure => simp [intOf]; have := HQT.out; omega
            · have hqi : ¬ (q : Int) < (s.n : Int) := by omega
              have HE := Lib.hid (show (true && sesB j s) = bq by rw [HFIN.out, ← hbq, List.take_of_length_le (by rw [HTL.out]; omega)])
              have H9 := Lib.hid (step_below BR.out BQ.out)
              clear hbq
              go_wp2_with fail
              go_roundw
              case rel => exact ⟨k + 1, by have := HLT.out; omega, by go_num, by rw [HN.out, HE.out], H9⟩
              case measure => simp [intOf]; have := HLT.out; omega
        · skip
          go_wp2_with fail
          go_loopw [5, 34] (fun v i wq => ∃ q : Nat, q ≤ s.n ∧ i = .int .i64 (q : Int) ∧ v = .bool (false && (s.ts.take q).all (mayT j)) ∧ Hid (Below W1.heap.size W1 wq)) (fun _ i _ => s.n - (intOf i).toNat)
          case atStart => exact ⟨0, by omega, rfl, by simp, Lib.hid (Below.refl _ _)⟩
          case round =>
            obtain ⟨q, hq, rfl, rfl, BQ⟩ := hrel
            have BW := Lib.hid (step_below HBW.out (step_below BR.out BQ.out))
            obtain ⟨bq, hbq⟩ : ∃ b, (false && (s.ts.take q).all (mayT j)) = b := ⟨_, rfl⟩
            rw [hbq]
            by_cases hqt : q < s.n
            · have hqi : (q : Int) < (s.n : Int) := by omega
              obtain ⟨x, hx⟩ : ∃ o, s.ts[q]? = some o := ⟨_, List.getElem?_eq_getElem (by rw [HTL.out]; exact hqt)⟩
              have HNQ := Lib.hid (show (false && (s.ts.take (q + 1)).all (mayT j)) = (bq && mayT j x) by rw [all_take _ _ hx, ← Bool.and_assoc, hbq])
              have hxb := HSB.out x (List.mem_of_getElem? hx)
              obtain ⟨b2, o2, e2, ⟨y0, y1, y2⟩, hxa⟩ := HTS.out _ BQ.out q x hx
              have HXA := Lib.hid (fun W (b : Below wr.heap.size wr W) => hxa.below b)
              have HEA := Lib.hid e2
              rw [e2]
              have B86 : Below wr.heap.size wr (wr.alloc (.cells #[.slice x.oa x.on x.oc, .bool x.sn, .bool x.ab] 86)) := (Below.refl _ _).alloc (Nat.le_refl _) _
              have H86 := Lib.hid B86
              have H87 := Lib.hid (step_below BQ.out B86)
              have HQT := Lib.hid hqt
              obtain ⟨mt, hmt⟩ : ∃ b, mayT j x = b := ⟨_, rfl⟩
              have HM := Lib.hid (fun W (b : Below wr.heap.size wr W) => (by have h := maytxn_law j x hxb.1 hxb.2 W (FJ.out _ (step_below BW.out b)) (HXA.out W b); rwa [hmt] at h : Calls Try.prog 51 #[.agg #[.int .i64 j.w, .int .i64 j.l, .int .i64 j.d, .int .i64 j.c, .int .i64 j.k, .int .i64 j.e, .slice j.a j.n j.cap], .agg #[.slice x.oa x.on x.oc, .bool x.sn, .bool x.ab]] W fun r w' => r = .returned (.bool mt) ∧ Below W.heap.size W w'))
              rw [hmt] at HNQ
              clear hbq hx hxb e2 hxa B86 hqt hmt
              cases bq
              · go_wp2_with fail
                go_roundw
                case rel => exact ⟨q + 1, by have := HQT.out; omega, by go_num, by rw [HNQ.out]; rfl, H87⟩
                case measure => simp [intOf]; have := HQT.out; omega
              · obtain ⟨g0, g1, g2, g3, g4, g5, g6⟩ := FG.out _ (step_below BW.out H86.out)
                go_wp2_with fail
                refine (HM.out _ H86.out).mono ?_; rintro r w5 ⟨rfl, B5⟩
                have H5 := Lib.hid (step_below H87.out B5)
                clear B5 g0 g1 g2 g3 g4 g5 g6
                go_wp2_with fail
                go_roundw
                case rel => exact ⟨q + 1, by have := HQT.out; omega, by go_num, by rw [HNQ.out]; rfl, H5⟩
                case measure => simp [intOf]; have := HQT.out; omega
            · have hqi : ¬ (q : Int) < (s.n : Int) := by omega
              have HE := Lib.hid (show (false && sesB j s) = bq by rw [HFIN.out, ← hbq, List.take_of_length_le (by rw [HTL.out]; omega)])
              have H9 := Lib.hid (step_below BR.out BQ.out)
              clear hbq
              go_wp2_with fail
              go_roundw
              case rel => exact ⟨k + 1, by have := HLT.out; omega, by go_num, by rw [HN.out, HE.out], H9⟩
              case measure => simp [intOf]; have := HLT.out; omega
      · have hkl : ¬ (k : Int) < (n : Int) := by omega
        have HE := Lib.hid (show ans = bk by rw [HP.out, ← hbk, List.take_of_length_le (by rw [HLN.out]; omega)])
        clear hbk
        go_wp2_with fail
        go_ret
        exact ⟨ret_bool HE.out.symm, step_below HB0.out (step_below HBW.out BR.out)⟩
end Go.Proofs.Ytkgcbhpgkcfkhaa

namespace Go.Proofs.Ytkgcbhpgkcfkhaa
open Go.ChangeShapes Go.WideShapes Go.ChangeAt Go.RowKit Go.Shelf
set_option linter.unusedVariables false
set_option linter.unusedSimpArgs false

theorem mayS_no {j : Job} {L : List SesV} {n k : Nat} {s : SesV} (h : L[k]? = some s) (hb : sesB j s = false) : mayS j L n = false := by
  unfold mayS
  rw [Bool.and_eq_false_iff]
  right
  rw [Bool.eq_false_iff]
  intro e
  have := List.all_eq_true.1 e s (List.mem_of_getElem? h)
  rw [hb] at this; cases this
theorem mayS_yes {j : Job} {L : List SesV} {n : Nat} (h1 : okB j = true) (h2 : ((n : Int) == j.w) = true) (hall : ∀ q, q < L.length → ∀ s, L[q]? = some s → sesB j s = true) : mayS j L n = true := by
  unfold mayS
  rw [h1, h2]
  simp only [Bool.true_and]
  rw [List.all_eq_true]
  intro o ho
  obtain ⟨q, hq⟩ := List.mem_iff_getElem?.1 ho
  exact hall q (List.getElem?_eq_some_iff.1 hq).1 o hq
theorem sesB_no {j : Job} {s : SesV} {q : Nat} {x : TxnV} (h : s.ts[q]? = some x) (hb : mayT j x = false) : sesB j s = false := by
  unfold sesB
  rw [Bool.and_eq_false_iff]
  right
  rw [Bool.eq_false_iff]
  intro e
  have := List.all_eq_true.1 e x (List.mem_of_getElem? h)
  rw [hb] at this; cases this
theorem sesB_yes {j : Job} {s : SesV} (h : s.n ≤ 64) (hall : ∀ q, q < s.ts.length → ∀ x, s.ts[q]? = some x → mayT j x = true) : sesB j s = true := by
  unfold sesB
  rw [decide_eq_true h, Bool.true_and, List.all_eq_true]
  intro o ho
  obtain ⟨q, hq⟩ := List.mem_iff_getElem?.1 ho
  exact hall q (List.getElem?_eq_some_iff.1 hq).1 o hq
set_option maxRecDepth 100000 in
set_option maxHeartbeats 4000000 in
theorem qmaysess_law (j : Job) (la : Option Addr) (L : List SesV) (n lc : Nat) (hL : L.length = n) (hn : n ≤ 1000000) (hB : ∀ s ∈ L, SeB s) (w : World) (hj : JobAt w j) (hs : SesR w la L) :
    Calls Try.prog 50 #[.agg #[.int .i64 j.w, .int .i64 j.l, .int .i64 j.d, .int .i64 j.c, .int .i64 j.k, .int .i64 j.e, .slice j.a j.n j.cap], .slice la n lc] w fun r w' => r = .returned (.bool (mayS j L n)) ∧ Below w.heap.size w w' := by
  have hb0 : Below w.heap.size w (w.alloc (.cells #[.int .i64 j.w, .int .i64 j.l, .int .i64 j.d, .int .i64 j.c, .int .i64 j.k, .int .i64 j.e, .slice j.a j.n j.cap] 53)) := (Below.refl _ _).alloc (Nat.le_refl _) _
  have hbx := BoxC.new w #[.int .i64 j.w, .int .i64 j.l, .int .i64 j.d, .int .i64 j.c, .int .i64 j.k, .int .i64 j.e, .slice j.a j.n j.cap] 53
  have HCK := Lib.hid (show chkV j = if okB j then 0 else 2 from rfl)
  have hni : (n : Int) ≤ 1000000 := by omega
  have HLN := Lib.hid hL
  have HBB := Lib.hid hB
  have HNO := Lib.hid (fun k s => @mayS_no j L n k s)
  have HYES := Lib.hid (@mayS_yes j L n)
  have HDF := Lib.hid (show mayS j L n = (okB j && ((n : Int) == j.w) && L.all (sesB j)) from rfl)
  obtain ⟨ans, hans⟩ : ∃ a, mayS j L n = a := ⟨_, rfl⟩
  rw [hans] at HNO HYES HDF ⊢
  clear hans hB hL
  go_enter Try.func50, Try.ntmps50
  go_upto_region 1 with (fail)
  generalize (w.alloc (.cells #[.int .i64 j.w, .int .i64 j.l, .int .i64 j.d, .int .i64 j.c, .int .i64 j.k, .int .i64 j.e, .slice j.a j.n j.cap] 53)) = W0 at *
  have FG := Lib.hid (fun W (b : Below W0.heap.size W0 W) => (by
    have x := hbx.below b
    exact ⟨x.cell 0, x.cell 1, x.cell 2, x.cell 3, x.cell 4, x.cell 5, x.cell 6⟩ : W.cell? ⟨w.heap.size, 0, none⟩ = some (.int .i64 j.w) ∧ W.cell? ⟨w.heap.size, 1, none⟩ = some (.int .i64 j.l) ∧ W.cell? ⟨w.heap.size, 2, none⟩ = some (.int .i64 j.d) ∧ W.cell? ⟨w.heap.size, 3, none⟩ = some (.int .i64 j.c) ∧ W.cell? ⟨w.heap.size, 4, none⟩ = some (.int .i64 j.k) ∧ W.cell? ⟨w.heap.size, 5, none⟩ = some (.int .i64 j.e) ∧ W.cell? ⟨w.heap.size, 6, none⟩ = some (.slice j.a j.n j.cap)))
  have FJ := Lib.hid (fun W (b : Below W0.heap.size W0 W) => (hj.below hb0).below b)
  have FS := Lib.hid (fun W (b : Below W0.heap.size W0 W) => (hs.below hb0).below b)
  have HB0 := Lib.hid hb0
  clear hb0 hbx hj hs
  obtain ⟨g0, g1, g2, g3, g4, g5, g6⟩ := FG.out _ (Below.refl _ _)
  go_wp2_with fail
  refine (qcheck_law j W0 (FJ.out _ (Below.refl _ _))).mono ?_; rintro r w3 ⟨rfl, B3⟩
  have HBW := Lib.hid B3
  rw [HCK.out]
  clear B3 g0 g1 g2 g3 g4 g5 g6
  obtain ⟨g0, g1, g2, g3, g4, g5, g6⟩ := FG.out _ HBW.out
  obtain ⟨ok, hok⟩ : ∃ x, okB j = x := ⟨_, rfl⟩
  rw [hok] at HDF HYES ⊢
  clear hok
  cases ok
  · simp only [Bool.false_eq_true, ↓reduceIte]
    go_wp2_with fail
    go_ret
    exact ⟨ret_bool (by rw [HDF.out]; rfl), step_below HB0.out HBW.out⟩
  simp only [↓reduceIte]
  by_cases hnw : (n : Int) = j.w
  case neg =>
    have h1 : ((n : Int) != j.w) = true := by simpa using hnw
    have h2 : ((n : Int) == j.w) = false := by simpa using hnw
    rw [h2] at HDF
    clear h2 hnw
    go_wp2_with fail
    go_ret
    exact ⟨ret_bool (by rw [HDF.out]; rfl), step_below HB0.out HBW.out⟩
  have h1 : ((n : Int) != j.w) = false := by simpa using hnw
  have HNW := Lib.hid (show ((n : Int) == j.w) = true by simpa using hnw)
  clear hnw HDF
  go_wp2_with fail
  clear g0 g1 g2 g3 g4 g5 g6
  go_loopw [5, 6] (fun i _ wr => ∃ k : Nat, k ≤ n ∧ i = .int .i64 (k : Int) ∧ Hid (∀ q, q < k → ∀ s, L[q]? = some s → sesB j s = true) ∧ Hid (Below w3.heap.size w3 wr)) (fun i _ _ => n - (intOf i).toNat)
  case atStart => exact ⟨0, by omega, rfl, Lib.hid (fun q hq => absurd hq (by omega)), Lib.hid (Below.refl _ _)⟩
  case round =>
    obtain ⟨k, hk, rfl, HALL, BR⟩ := hrel
    have BW := Lib.hid (step_below HBW.out BR.out)
    by_cases hlt : k < n
    · have hkl : (k : Int) < (n : Int) := by omega
      have hki : (k : Int) ≤ 1000000 := by omega
      obtain ⟨s, ho⟩ : ∃ o, L[k]? = some o := ⟨_, List.getElem?_eq_getElem (by rw [HLN.out]; exact hlt)⟩
      have HN := Lib.hid (fun (h : sesB j s = false) => HNO.out k s ho h)
      have HST := Lib.hid (fun (h : sesB j s = true) => show ∀ q, q < k + 1 → ∀ s, L[q]? = some s → sesB j s = true from fun q hq p hp => by
        by_cases e : q = k
        · subst e; rw [ho] at hp; cases hp; exact h
        · exact HALL.out q (by omega) p hp)
      obtain ⟨hsn, hsb⟩ := HBB.out s (List.mem_of_getElem? ho)
      obtain ⟨b1, o1, ea, d0, hts, htl⟩ := (FS.out _ BW.out) k s ho
      have HTL := Lib.hid htl
      have HSB := Lib.hid hsb
      have HTS := Lib.hid (fun W (b : Below wr.heap.size wr W) => hts.below b)
      have HD0 := Lib.hid (fun W (b : Below wr.heap.size wr W) => (b.cell (World.block_lt_of_cell? _ _ d0)).trans d0)
      have HLT := Lib.hid hlt
      have hsi : (s.n : Int) ≤ 1000000 := by omega
      clear ho hlt hts htl hsb
      subst ea
      by_cases h64 : 64 < s.n
      · have h64i : (64 : Int) < (s.n : Int) := by omega
        have HF := Lib.hid (show sesB j s = false by unfold sesB; rw [decide_eq_false (by omega)]; rfl)
        go_wp2_with fail
        try rw [Exit.noGoto_ret]
        go_ret
        exact ⟨ret_bool (HN.out HF.out).symm, step_below HB0.out BW.out⟩
      have h64i : ¬ (64 : Int) < (s.n : Int) := by omega
      have H64 := Lib.hid (show s.n ≤ 64 by omega)
      obtain ⟨W1, hW1⟩ : ∃ W, W = wr := ⟨_, rfl⟩
      rw [← hW1] at BR BW HTS HD0 d0 ⊢
      clear hW1
      go_wp2_with fail
      go_loopw [6] (fun i wq => ∃ q : Nat, q ≤ s.n ∧ i = .int .i64 (q : Int) ∧ Hid (∀ p, p < q → ∀ x, s.ts[p]? = some x → mayT j x = true) ∧ Hid (Below W1.heap.size W1 wq)) (fun i _ => s.n - (intOf i).toNat)
      case atStart => exact ⟨0, by omega, rfl, Lib.hid (fun q hq => absurd hq (by omega)), Lib.hid (Below.refl _ _)⟩
      case round =>
        obtain ⟨q, hq, rfl, HALQ, BQ⟩ := hrel
        have BX := Lib.hid (step_below BW.out BQ.out)
        clear d0
        have d0 := HD0.out _ BQ.out
        by_cases hqt : q < s.n
        · have hqi : (q : Int) < (s.n : Int) := by omega
          have hqi2 : (q : Int) ≤ 1000000 := by omega
          obtain ⟨x, hx⟩ : ∃ o, s.ts[q]? = some o := ⟨_, List.getElem?_eq_getElem (by rw [HTL.out]; exact hqt)⟩
          have HNQ := Lib.hid (fun (h : mayT j x = false) => sesB_no hx h)
          have HSQ := Lib.hid (fun (h : mayT j x = true) => show ∀ p, p < q + 1 → ∀ x, s.ts[p]? = some x → mayT j x = true from fun p hp y hy => by
            by_cases e : p = q
            · subst e; rw [hx] at hy; cases hy; exact h
            · exact HALQ.out p (by omega) y hy)
          have hxb := HSB.out x (List.mem_of_getElem? hx)
          obtain ⟨b2, o2, e2, ⟨y0, y1, y2⟩, hxa⟩ := HTS.out _ BQ.out q x hx
          have HEA := Lib.hid e2
          rw [e2] at d0
          obtain ⟨mt, hmt⟩ : ∃ b, mayT j x = b := ⟨_, rfl⟩
          have HM := Lib.hid (fun W (b : Below wr.heap.size wr W) => (by have h := qmaytxn_law j x hxb.1 W (FJ.out _ (step_below BX.out b)) (hxa.below b); rwa [hmt] at h : Calls Try.prog 52 #[.agg #[.int .i64 j.w, .int .i64 j.l, .int .i64 j.d, .int .i64 j.c, .int .i64 j.k, .int .i64 j.e, .slice j.a j.n j.cap], .agg #[.slice x.oa x.on x.oc, .bool x.sn, .bool x.ab]] W fun r w' => r = .returned (.bool mt) ∧ Below W.heap.size W w'))
          rw [hmt] at HNQ HSQ
          have HQ := Lib.hid (show ∀ W, Below wr.heap.size wr W → (W.cell? ⟨w.heap.size, 0, none⟩ = some (.int .i64 j.w) ∧ W.cell? ⟨w.heap.size, 1, none⟩ = some (.int .i64 j.l) ∧ W.cell? ⟨w.heap.size, 2, none⟩ = some (.int .i64 j.d) ∧ W.cell? ⟨w.heap.size, 3, none⟩ = some (.int .i64 j.c) ∧ W.cell? ⟨w.heap.size, 4, none⟩ = some (.int .i64 j.k) ∧ W.cell? ⟨w.heap.size, 5, none⟩ = some (.int .i64 j.e) ∧ W.cell? ⟨w.heap.size, 6, none⟩ = some (.slice j.a j.n j.cap)) ∧ W.cell? ⟨b1, o1 + k, none⟩ = some (.slice (some ⟨b2, o2, none⟩) s.n s.c) ∧ W.cell? ⟨b2, o2 + q * 3, none⟩ = some (.slice x.oa x.on x.oc) ∧ W.cell? ⟨b2, o2 + q * 3 + 1, none⟩ = some (.bool x.sn) ∧ W.cell? ⟨b2, o2 + q * 3 + 2, none⟩ = some (.bool x.ab) from fun W b => (by
            have f : ∀ {p v}, wr.cell? p = some v → W.cell? p = some v := fun h => (b.cell (World.block_lt_of_cell? _ _ h)).trans h
            exact ⟨FG.out W (step_below BX.out b), f d0, f y0, f y1, f y2⟩))
          have HQT := Lib.hid hqt
          clear hx hxb e2 hxa hqt hmt
          go_wp2_with fail
          refine wp_region_held_drew (S := (fun W => Below wr.heap.size wr W)) (by kernel_rfl) ((Below.refl _ _).drew) (fun hHeld => ?_)
          refine wpAnyH_take (i := 0) (oi := { dst := some 38, op := Op.load 53 (Operand.tmp 2), type := 53, pos := "ref.go:156", after := #[], guard := none }) (v := ?_) rfl (by kernel_rfl) (by kernel_rfl) (by kernel_rfl) (fun _ _ _ h => h) (Or.inl ⟨by rfl, ?_⟩) (by assumption) ?_
          rotate_left
          · intro W hSw; obtain ⟨⟨s0, s1, s2, s3, s4, s5, s6⟩, s7, t0, t1, t2⟩ := HQ.out W hSw; go_simp; try with_reducible rfl
          try simp only [Act.put, List.setIfInBounds_toArray, List.set_cons_zero, List.set_cons_succ]
          refine wpAnyH_take (i := 1) (oi := { dst := some 39, op := Op.move (Operand.tmp 1), type := 79, pos := "ref.go:156", after := #[], guard := none }) (v := ?_) rfl (by kernel_rfl) (by kernel_rfl) (by kernel_rfl) (fun _ _ _ h => h) (Or.inl ⟨by rfl, ?_⟩) (by assumption) ?_
          rotate_left
          · intro W hSw; go_simp; try with_reducible rfl
          try simp only [Act.put, List.setIfInBounds_toArray, List.set_cons_zero, List.set_cons_succ]
          refine wpAnyH_take (i := 2) (oi := { dst := some 40, op := Op.move (Operand.tmp 5), type := 3, pos := "ref.go:156", after := #[], guard := none }) (v := ?_) rfl (by kernel_rfl) (by kernel_rfl) (by kernel_rfl) (fun _ _ _ h => h) (Or.inl ⟨by rfl, ?_⟩) (by assumption) ?_
          rotate_left
          · intro W hSw; go_simp; try with_reducible rfl
          try simp only [Act.put, List.setIfInBounds_toArray, List.set_cons_zero, List.set_cons_succ]
          refine wpAnyH_take (i := 3) (oi := { dst := some 41, op := Op.indexAddr 79 (Operand.tmp 39) (Operand.tmp 40), type := 0, pos := "ref.go:156", after := #[{ on := 1, ground := Ground.data }, { on := 2, ground := Ground.data }], guard := none }) (v := ?_) rfl (by kernel_rfl) (by kernel_rfl) (by kernel_rfl) (fun _ _ _ h => h) (Or.inl ⟨by rfl, ?_⟩) (by assumption) ?_
          rotate_left
          · intro W hSw; go_simp; try with_reducible rfl
          try simp only [Act.put, List.setIfInBounds_toArray, List.set_cons_zero, List.set_cons_succ]
          refine wpAnyH_take (i := 4) (oi := { dst := some 42, op := Op.load 81 (Operand.tmp 41), type := 81, pos := "ref.go:156", after := #[{ on := 3, ground := Ground.data }], guard := none }) (v := ?_) rfl (by kernel_rfl) (by kernel_rfl) (by kernel_rfl) (fun _ _ _ h => h) (Or.inl ⟨by rfl, ?_⟩) (by assumption) ?_
          rotate_left
          · intro W hSw; obtain ⟨⟨s0, s1, s2, s3, s4, s5, s6⟩, s7, t0, t1, t2⟩ := HQ.out W hSw; go_simp; try with_reducible rfl
          try simp only [Act.put, List.setIfInBounds_toArray, List.set_cons_zero, List.set_cons_succ]
          refine wpAnyH_take (i := 5) (oi := { dst := some 43, op := Op.move (Operand.tmp 6), type := 3, pos := "ref.go:156", after := #[], guard := none }) (v := ?_) rfl (by kernel_rfl) (by kernel_rfl) (by kernel_rfl) (fun _ _ _ h => h) (Or.inl ⟨by rfl, ?_⟩) (by assumption) ?_
          rotate_left
          · intro W hSw; go_simp; try with_reducible rfl
          try simp only [Act.put, List.setIfInBounds_toArray, List.set_cons_zero, List.set_cons_succ]
          refine wpAnyH_take (i := 6) (oi := { dst := some 44, op := Op.indexAddr 81 (Operand.tmp 42) (Operand.tmp 43), type := 0, pos := "ref.go:156", after := #[{ on := 4, ground := Ground.data }, { on := 5, ground := Ground.data }], guard := none }) (v := ?_) rfl (by kernel_rfl) (by kernel_rfl) (by kernel_rfl) (fun _ _ _ h => h) (Or.inl ⟨by rfl, ?_⟩) (by assumption) ?_
          rotate_left
          · intro W hSw; go_simp; try with_reducible rfl
          try simp only [Act.put, List.setIfInBounds_toArray, List.set_cons_zero, List.set_cons_succ]
          refine wpAnyH_take (i := 7) (oi := { dst := some 45, op := Op.load 86 (Operand.tmp 44), type := 86, pos := "ref.go:156", after := #[{ on := 6, ground := Ground.data }], guard := none }) (v := ?_) rfl (by kernel_rfl) (by kernel_rfl) (by kernel_rfl) (fun _ _ _ h => h) (Or.inl ⟨by rfl, ?_⟩) (by assumption) ?_
          rotate_left
          · intro W hSw; obtain ⟨⟨s0, s1, s2, s3, s4, s5, s6⟩, s7, t0, t1, t2⟩ := HQ.out W hSw; go_simp; try with_reducible rfl
          try simp only [Act.put, List.setIfInBounds_toArray, List.set_cons_zero, List.set_cons_succ]
          refine wpAnyH_ready (rs := [8]) (by kernel_rfl) (by simp) ?_
          refine AllReadyH.cons (o := { dst := some 46, op := Op.call { callee := Callee.value (Operand.func 52), args := #[Operand.tmp 38, Operand.tmp 45], argTypes := #[53, 86] }, type := 4, pos := "ref.go:156", after := #[{ on := 0, ground := Ground.data }, { on := 7, ground := Ground.data }], guard := none }) rfl (fun K hK => ?_) AllReadyH.nil
          go_simp
          refine (HM.out _ hHeld).mono ?_; rintro r W5 ⟨rfl, B5⟩
          go_wp2_with fail
          refine hK.out _ _ (step_below hHeld B5) (fun hHeldn => ?_)
          clear hK K hHeld; have hHeld := hHeldn; clear hHeldn
          clear B5
          try simp only [Act.put, List.setIfInBounds_toArray, List.set_cons_zero, List.set_cons_succ]
          refine wpAnyH_take (i := 9) (oi := { dst := some 47, op := Op.unOp UnOp.not 4 (Operand.tmp 46), type := 4, pos := "ref.go:156", after := #[{ on := 8, ground := Ground.data }], guard := none }) (v := ?_) rfl (by kernel_rfl) (by kernel_rfl) (by kernel_rfl) (fun _ _ _ h => h) (Or.inl ⟨by rfl, ?_⟩) (by assumption) ?_
          rotate_left
          · intro W hSw; go_simp; try with_reducible rfl
          try simp only [Act.put, List.setIfInBounds_toArray, List.set_cons_zero, List.set_cons_succ]
          refine wpAnyH_done (by kernel_rfl) ?_ _
          have H9 := Lib.hid (step_below BQ.out hHeld)
          clear hHeld
          cases mt
          · go_wp2_with fail
            try rw [Exit.noGoto_ret]
            go_ret
            exact ⟨ret_bool (HN.out (HNQ.out (by first | exact rfl | trivial))).symm, step_below HB0.out (step_below BW.out H9.out)⟩
          · go_wp2_with fail
            go_roundw
            case rel => exact ⟨q + 1, by have := HQT.out; omega, by go_num, Lib.hid (HSQ.out (by first | exact rfl | trivial)), H9⟩
            case measure => simp [intOf]; have := HQT.out; omega
        · have hqi : ¬ (q : Int) < (s.n : Int) := by omega
          have HSY := Lib.hid (sesB_yes H64.out (fun p hp y hy => HALQ.out p (by have := HTL.out; omega) y hy))
          have H9 := Lib.hid (step_below BR.out BQ.out)
          go_wp2_with fail
          go_roundw
          case rel => exact ⟨k + 1, by have := HLT.out; omega, by go_num, Lib.hid (HST.out HSY.out), H9⟩
          case measure => simp [intOf]; have := HLT.out; omega
    · have hkl : ¬ (k : Int) < (n : Int) := by omega
      have HE := Lib.hid (HYES.out (by first | exact rfl | trivial) HNW.out (fun q hq o ho => HALL.out q (by have := HLN.out; omega) o ho))
      go_wp2_with fail
      go_ret
      exact ⟨ret_bool HE.out.symm, step_below HB0.out BW.out⟩
end Go.Proofs.Ytkgcbhpgkcfkhaa

namespace Go.Proofs.Ytkgcbhpgkcfkhaa
open Go.ChangeShapes Go.WideShapes Go.ChangeAt Go.RowKit Go.Shelf
set_option linter.unusedVariables false
set_option linter.unusedSimpArgs false

def szGo : List P1 → Nat → Nat
  | [], s => s
  | p :: r, s => if s < 1048576 then szGo r (s + min p.bs.length 1048576) else s
def szF (R : List P1) : Nat := szGo R R.length
theorem szGo_ge : ∀ (R : List P1) (s : Nat), s ≤ szGo R s
  | [], s => Nat.le_refl _
  | p :: r, s => by
    unfold szGo
    split
    · have := szGo_ge r (s + min p.bs.length 1048576); omega
    · omega
theorem szGo_le : ∀ (R : List P1) (s m : Nat), s ≤ m + 2097152 → szGo R s ≤ m + 2097152
  | [], s, m, h => h
  | p :: r, s, m, h => by
    unfold szGo
    split
    · exact szGo_le r _ m (by omega)
    · exact h
theorem szF_ge (R : List P1) : R.length ≤ szF R := szGo_ge R _
theorem szF_le (R : List P1) : szF R ≤ R.length + 2097152 := szGo_le R _ _ (by omega)
theorem szGo_stop (R : List P1) (s : Nat) (h : ¬ s < 1048576) : szGo R s = s := by
  cases R with
  | nil => rfl
  | cons p r => unfold szGo; rw [if_neg h]
theorem szGo_step {R : List P1} {k s : Nat} {p : P1} (hp : R[k]? = some p) (h : s < 1048576) : szGo (R.drop k) s = szGo (R.drop (k + 1)) (s + min p.bs.length 1048576) := by
  obtain ⟨hk, e⟩ := List.getElem?_eq_some_iff.1 hp
  rw [List.drop_eq_getElem_cons hk, szGo, if_pos h, e]
set_option maxRecDepth 100000 in
set_option maxHeartbeats 1000000 in
theorem sizef_law (a : Option Addr) (R : List P1) (n cap : Nat) (hn : R.length = n) (w : World) (hR : RdR w a R) :
    Calls Try.prog 12 #[.slice a n cap] w fun r w' => r = .returned (.int .i64 (szF R : Int)) ∧ w' = w := by
  have HR := Lib.hid hR
  have HN := Lib.hid hn
  obtain ⟨ans, hans⟩ : ∃ x, szF R = x := ⟨_, rfl⟩
  have HA := Lib.hid (show szGo R n = ans by rw [← hans, ← hn]; rfl)
  rw [hans]
  clear hR hn hans
  go_enter Try.func12, Try.ntmps12
  go_wp2_with fail
  go_loopw [3, 4] (fun x i wr => ∃ k s : Nat, k ≤ n ∧ i = .int .i64 k ∧ x = .int .i64 s ∧ n ≤ s ∧ Hid (szGo (R.drop k) s = ans) ∧ w = wr) (fun _ i _ => n - (intOf i).toNat)
  case atStart => exact ⟨0, n, by omega, rfl, rfl, by omega, Lib.hid (by simpa using HA.out), rfl⟩
  case round =>
    obtain ⟨k, s, hk, rfl, rfl, hns, HS, rfl⟩ := hrel
    by_cases hlt : k < n
    · have hkl : (k : Int) < (n : Int) := by omega
      by_cases hs2 : s < 1048576
      · have hsl : (s : Int) < 1048576 := by omega
        have hs9 : (s : Int) ≤ 1048576 := by omega
        obtain ⟨p, hp⟩ : ∃ p, R[k]? = some p := ⟨_, List.getElem?_eq_getElem (by rw [HN.out]; exact hlt)⟩
        obtain ⟨b1, o1, e1, c1, l1⟩ := HR.out k p hp
        subst e1
        have c2 : w.cell? ⟨b1, o1 + k, none⟩ = some (.slice p.ad p.bs.length p.cap) := c1
        have HST := Lib.hid (show szGo (R.drop (k + 1)) (s + min p.bs.length 1048576) = ans by rw [← szGo_step hp hs2]; exact HS.out)
        obtain ⟨m, hm⟩ : ∃ m, p.bs.length = m := ⟨_, rfl⟩
        rw [hm] at c2 HST
        clear c1 hp hm l1
        by_cases hm2 : m < 1048576
        · have hml : (m : Int) < 1048576 := by omega
          have HX := Lib.hid (show szGo (R.drop (k + 1)) (s + m) = ans by rw [← HST.out]; congr 1; omega)
          go_wp2_with fail
          go_roundw
          case rel => exact ⟨k + 1, s + m, by omega, by go_num, by go_num, by omega, HX, trivial⟩
          case measure => simp [intOf]; omega
        · have hml : ¬ (m : Int) < 1048576 := by omega
          have HX := Lib.hid (show szGo (R.drop (k + 1)) (s + 1048576) = ans by rw [← HST.out]; congr 1; omega)
          go_wp2_with fail
          go_roundw
          case rel => exact ⟨k + 1, s + 1048576, by omega, by go_num, by go_num, by omega, HX, trivial⟩
          case measure => simp [intOf]; omega
      · have hsl : ¬ (s : Int) < 1048576 := by omega
        have HE := Lib.hid (show ans = s by rw [← HS.out, szGo_stop _ _ hs2])
        go_wp2_with fail
        go_ret
        exact ⟨ret_int (by rw [HE.out]), rfl⟩
    · have hkl : ¬ (k : Int) < (n : Int) := by omega
      have HE := Lib.hid (show ans = s by rw [← HS.out, List.drop_of_length_le (by rw [HN.out]; omega)]; rfl)
      go_wp2_with fail
      go_ret
      exact ⟨ret_int (by rw [HE.out]), rfl⟩
/-- What is told of calls that are not too many. -/
def MuO (L : List CallV) (r : Ending) : Prop := ∃ b, r = .returned (.bool b) ∧ (b = false → L.length ≤ 9000 ∧ ∀ o ∈ L, o.rn ≤ 9000)
set_option maxRecDepth 100000 in
set_option maxHeartbeats 4000000 in
theorem muchops_law (a : Option Addr) (L : List CallV) (n cap : Nat) (hL : L.length = n) (hn : n ≤ 140737488355328) (hB : ∀ o ∈ L, o.rn ≤ 140737488355328) (w : World) (hA : OpsR w a L) :
    Calls Try.prog 88 #[.slice a n cap, .int .i64 9000] w fun r w' => MuO L r ∧ Below w.heap.size w w' := by
  have HA := Lib.hid (fun W (b : Below w.heap.size w W) => hA.below b)
  have HL := Lib.hid hL
  have HBD := Lib.hid hB
  have hni : (n : Int) ≤ 140737488355328 := by omega
  clear hA hL hB
  go_enter Try.func88, Try.ntmps88
  go_wp2_with fail
  go_loopw [5, 6] (fun x i wr => ∃ k s : Nat, k ≤ n ∧ i = .int .i64 (k : Int) ∧ x = .int .i64 (s : Int) ∧ k ≤ s ∧ s ≤ 281474976710656 ∧ Hid (s ≤ 9000 → ∀ q, q < k → ∀ o, L[q]? = some o → o.rn ≤ 9000) ∧ Hid (Below w.heap.size w wr)) (fun _ i _ => n - (intOf i).toNat)
  case atStart => exact ⟨0, 0, by omega, rfl, rfl, by omega, by omega, Lib.hid (fun _ q hq => absurd hq (by omega)), Lib.hid (Below.refl _ _)⟩
  case round =>
    obtain ⟨k, s, hk, rfl, rfl, hks, hs2, HP, BB⟩ := hrel
    have hsb : (s : Int) ≤ 281474976710656 := by omega
    by_cases hlt : k < n
    · have hkl : (k : Int) < (n : Int) := by omega
      by_cases hs : s ≤ 9000
      · have hsi : (s : Int) ≤ 9000 := by omega
        have hki : (k : Int) ≤ 9000 := by omega
        obtain ⟨o, ho⟩ : ∃ o, L[k]? = some o := ⟨_, List.getElem?_eq_getElem (by rw [HL.out]; exact hlt)⟩
        obtain ⟨b1, o1, ea, ⟨d0, d1, d2, d3, d4, d5, d6⟩, hc⟩ := HA.out _ BB.out k o ho
        subst ea
        have hrn := HBD.out o (List.mem_of_getElem? ho)
        have hg := szF_ge o.R
        have hle := szF_le o.R
        rw [hc.rl] at hg hle
        have HSZ := Lib.hid (fun m => (sizef_law o.ra o.R o.rn o.rc hc.rl (wr.drewN m) (hc.below (below_drewN (Below.refl _ _) m)).rs))
        obtain ⟨z, hz⟩ : ∃ z, szF o.R = z := ⟨_, rfl⟩
        rw [hz] at hg hle HSZ
        have HO := Lib.hid ho
        have hz0 : (0 : Int) ≤ (z : Int) := by omega
        have hz1 : (z : Int) ≤ 140737490452480 := by omega
        clear ho hc hz
        obtain ⟨km, hkm⟩ : ∃ km : Nat, km = min o.kn 9001 := ⟨_, rfl⟩
        obtain ⟨tm, htm⟩ : ∃ tm : Nat, tm = min o.tn 9001 := ⟨_, rfl⟩
        have HST := Lib.hid (show s + 1 + km + tm + z ≤ 9000 → ∀ q, q < k + 1 → ∀ o, L[q]? = some o → o.rn ≤ 9000 from fun h q hq p hp => by
          by_cases e : q = k
          · subst e; rw [HO.out] at hp; cases hp; omega
          · exact HP.out (by omega) q (by omega) p hp)
        have w1 : IntKind.i64.wrap ((s : Int) + 1) = (s : Int) + 1 := IntWalk.i64_in _ (by omega)
        have w2 : IntKind.i64.wrap ((9000 : Int) + 1) = 9001 := by decide
        have w3 : IntKind.i64.wrap ((s : Int) + 1 + (km : Int)) = (s : Int) + 1 + (km : Int) := IntWalk.i64_in _ (by omega)
        have w4 : IntKind.i64.wrap ((s : Int) + 1 + (km : Int) + (tm : Int)) = (s : Int) + 1 + (km : Int) + (tm : Int) := IntWalk.i64_in _ (by omega)
        have w5 : IntKind.i64.wrap ((s : Int) + 1 + (km : Int) + (tm : Int) + (z : Int)) = (s : Int) + 1 + (km : Int) + (tm : Int) + (z : Int) := IntWalk.i64_in _ (by omega)
        have hfin : s + 1 + km + tm + z ≤ 281474976710656 := by omega
        have m1 : min (o.kn : Int) 9001 = (km : Int) := by omega
        have m2 : min (o.tn : Int) 9001 = (tm : Int) := by omega
        have hkz : k + 1 ≤ s + 1 + km + tm + z := by omega
        have hcast : ((s : Int) + 1 + (km : Int) + (tm : Int) + (z : Int)) = ((s + 1 + km + tm + z : Nat) : Int) := by omega
        have HC := Lib.hid hcast
        have HKM := Lib.hid hkm
        have HTM := Lib.hid htm
        clear hkm htm hcast
        go_wp2_with fail
        go_quiet ((go_at_call 12; exact Calls.quiet_of_same (HSZ.out _)))
        go_wp2_with fail
        go_roundw
        case rel => exact ⟨k + 1, s + 1 + km + tm + z, by omega, by go_num, by have h1 := HKM.out; have h2 := HTM.out; congr 1; split <;> split <;> omega, hkz, hfin, HST, Lib.hid (below_drewN BB.out _)⟩
        case measure => simp [intOf]; omega
      · have hsi : ¬ (s : Int) ≤ 9000 := by omega
        have hsj : (9000 : Int) < (s : Int) := by omega
        go_wp2_with fail
        go_ret
        exact ⟨⟨true, rfl, fun h => by cases h⟩, BB.out⟩
    · have hkl : ¬ (k : Int) < (n : Int) := by omega
      by_cases hs : s ≤ 9000
      · have hsi : ¬ (9000 : Int) < (s : Int) := by omega
        have HR := Lib.hid (show L.length ≤ 9000 ∧ ∀ o ∈ L, o.rn ≤ 9000 from ⟨by rw [HL.out]; omega, fun o ho => by
          obtain ⟨q, hq⟩ := List.mem_iff_getElem?.1 ho
          exact HP.out hs q (by have := (List.getElem?_eq_some_iff.1 hq).1; have := HL.out; omega) o hq⟩)
        go_wp2_with fail
        go_ret
        exact ⟨⟨false, rfl, fun _ => HR.out⟩, BB.out⟩
      · have hsi : (9000 : Int) < (s : Int) := by omega
        go_wp2_with fail
        go_ret
        exact ⟨⟨true, rfl, fun h => by cases h⟩, BB.out⟩
/-- What is told of transactions that are not too many. -/
def MuT (L : List TxnV) (r : Ending) : Prop := ∃ b, r = .returned (.bool b) ∧ (b = false → L.length ≤ 9000 ∧ ∀ x ∈ L, x.ops.length ≤ 9000 ∧ ∀ o ∈ x.ops, o.rn ≤ 9000)
def TxG (x : TxnV) : Prop := x.on ≤ 140737488355328 ∧ ∀ o ∈ x.ops, o.rn ≤ 140737488355328
set_option maxRecDepth 100000 in
set_option maxHeartbeats 4000000 in
theorem much_law (a : Option Addr) (L : List TxnV) (n cap : Nat) (hL : L.length = n) (hn : n ≤ 140737488355328) (hB : ∀ x ∈ L, TxG x) (w : World) (hA : TxsR w a L) :
    Calls Try.prog 48 #[.slice a n cap, .int .i64 9000] w fun r w' => MuT L r ∧ Below w.heap.size w w' := by
  have HA := Lib.hid (fun W (b : Below w.heap.size w W) => hA.below b)
  have HL := Lib.hid hL
  have HBD := Lib.hid hB
  have hni : (n : Int) ≤ 140737488355328 := by omega
  clear hA hL hB
  go_enter Try.func48, Try.ntmps48
  go_wp2_with fail
  go_loopw [5, 6] (fun x i wr => ∃ k s : Nat, k ≤ n ∧ i = .int .i64 (k : Int) ∧ x = .int .i64 (s : Int) ∧ k ≤ s ∧ s ≤ 20000 ∧ Hid (s ≤ 9000 → ∀ q, q < k → ∀ x, L[q]? = some x → x.ops.length ≤ 9000 ∧ ∀ o ∈ x.ops, o.rn ≤ 9000) ∧ Hid (Below w.heap.size w wr)) (fun _ i _ => n - (intOf i).toNat)
  case atStart => exact ⟨0, 0, by omega, rfl, rfl, by omega, by omega, Lib.hid (fun _ q hq => absurd hq (by omega)), Lib.hid (Below.refl _ _)⟩
  case round =>
    obtain ⟨k, s, hk, rfl, rfl, hks, hs2, HP, BB⟩ := hrel
    have hsb : (s : Int) ≤ 20000 := by omega
    by_cases hlt : k < n
    · have hkl : (k : Int) < (n : Int) := by omega
      by_cases hs : s ≤ 9000
      · have hsi : (s : Int) ≤ 9000 := by omega
        have hki : (k : Int) ≤ 9000 := by omega
        obtain ⟨x, ho⟩ : ∃ o, L[k]? = some o := ⟨_, List.getElem?_eq_getElem (by rw [HL.out]; exact hlt)⟩
        obtain ⟨b1, o1, ea, ⟨d0, d1, d2⟩, hc⟩ := HA.out _ BB.out k x ho
        subst ea
        obtain ⟨hx1, hx2⟩ := HBD.out x (List.mem_of_getElem? ho)
        have HM := Lib.hid (muchops_law x.oa x.ops x.on x.oc hc.ol hx1 hx2 wr hc.os)
        have HXL := Lib.hid hc.ol
        have HO := Lib.hid ho
        have hx1i : (x.on : Int) ≤ 140737488355328 := by omega
        have HD0 := Lib.hid (fun W (b : Below wr.heap.size wr W) => (b.cell (World.block_lt_of_cell? _ _ d0)).trans d0)
        clear ho hc hx2
        go_wp2_with fail
        refine HM.out.mono ?_; rintro r w5 ⟨⟨b, rfl, hb⟩, B5⟩
        have H5 := Lib.hid (step_below BB.out B5)
        have HBB := Lib.hid hb
        have e0 := HD0.out _ B5
        clear hb B5 d0 d1 d2
        cases b
        · obtain ⟨hl9, ho9⟩ := HBB.out rfl
          have hon9 : x.on ≤ 9000 := by have := HXL.out; omega
          have hon9i : (x.on : Int) ≤ 9000 := by omega
          have HST := Lib.hid (show s + 1 + x.on ≤ 9000 → ∀ q, q < k + 1 → ∀ x, L[q]? = some x → x.ops.length ≤ 9000 ∧ ∀ o ∈ x.ops, o.rn ≤ 9000 from fun h q hq p hp => by
            by_cases e : q = k
            · subst e; rw [HO.out] at hp; cases hp; exact ⟨hl9, ho9⟩
            · exact HP.out (by omega) q (by omega) p hp)
          clear hl9 ho9
          go_wp2_with fail
          go_roundw
          case rel => exact ⟨k + 1, s + 1 + x.on, by omega, by go_num, by go_num, by omega, by omega, HST, H5⟩
          case measure => simp [intOf]; omega
        · go_wp2_with fail
          try rw [Exit.noGoto_ret]
          go_ret
          exact ⟨⟨true, rfl, fun h => by cases h⟩, H5.out⟩
      · have hsi : ¬ (s : Int) ≤ 9000 := by omega
        have hsj : (9000 : Int) < (s : Int) := by omega
        go_wp2_with fail
        go_ret
        exact ⟨⟨true, rfl, fun h => by cases h⟩, BB.out⟩
    · have hkl : ¬ (k : Int) < (n : Int) := by omega
      by_cases hs : s ≤ 9000
      · have hsi : ¬ (9000 : Int) < (s : Int) := by omega
        have HR := Lib.hid (show L.length ≤ 9000 ∧ ∀ x ∈ L, x.ops.length ≤ 9000 ∧ ∀ o ∈ x.ops, o.rn ≤ 9000 from ⟨by rw [HL.out]; omega, fun o ho => by
          obtain ⟨q, hq⟩ := List.mem_iff_getElem?.1 ho
          exact HP.out hs q (by have := (List.getElem?_eq_some_iff.1 hq).1; have := HL.out; omega) o hq⟩)
        go_wp2_with fail
        go_ret
        exact ⟨⟨false, rfl, fun _ => HR.out⟩, BB.out⟩
      · have hsi : (9000 : Int) < (s : Int) := by omega
        go_wp2_with fail
        go_ret
        exact ⟨⟨true, rfl, fun h => by cases h⟩, BB.out⟩
end Go.Proofs.Ytkgcbhpgkcfkhaa
