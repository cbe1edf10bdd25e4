/- known: the chapter's rows. Part 8. -/
import Derived.Test.YtglkndoghnblcaaGreatDoorOkg
import Derived.Test.YtglkndoghnblcaaGreatDoorOkf
import Derived.Test.YtglkndoghnblcaaGreatDoorOke
import Derived.Shelf.Abstract
import Derived.OwnWalkIn
import Derived.Sort.CutIn
import Derived.Test.YtglkndoghnblcaaGreatDoorOkb
import Derived.Test.YtglkndoghnblcaaGreatDoorOka
namespace Go.Proofs.YtglkndoghnblcaaGreatDoor
open Go.ChangeShapes Go.WideShapes Go.ChangeAt Go.RowKit
set_option linter.unusedVariables false
set_option linter.unusedSimpArgs false
/-- Tables in a row. -/
structure TabR (w : World) (base : Nat) (ts : List TbP) (v : Value) : Prop where
  row : w.ownsRow base 74 1 v ts.length (ts.map TbP.v)
  tabs : ∀ t ∈ ts, w.ownsRow base 72 4 t.v t.xs.length (scells t.xs)
theorem TabR.nil (w : World) (base : Nat) : TabR w base [] (.slice none 0 0) := ⟨World.ownsRow_nil _ _ _ _, fun t ht => by simp at ht⟩
theorem TabR.below {w w' : World} {base : Nat} {ts : List TbP} {v : Value} (h : TabR w base ts v) (b : Below w.heap.size w w') : TabR w' base ts v := ⟨own_below h.row b, fun t ht => own_below (h.tabs t ht) b⟩
theorem TabR.oth {w w' : World} {base B : Nat} {ts : List TbP} {v : Value} (h : TabR w base ts v) (hB : B < base) (g : w.grownBy w' (some B)) : TabR w' base ts v := ⟨own_oth h.row hB g, fun t ht => own_oth (h.tabs t ht) hB g⟩
theorem TabR.snoc {w w' : World} {base n : Nat} {ts : List TbP} {t : TbP} {v v' : Value} (h : TabR w base ts v) (hn : ts.length = n) (ht : w.ownsRow base 72 4 t.v t.xs.length (scells t.xs))
    (h' : w'.ownsRow base 74 1 v' (n + 1) (ts.map TbP.v ++ [t.v])) (g : w.grownBy w' v.ownBlock) : TabR w' base (ts ++ [t]) v' := by
  refine ⟨by rw [List.length_append, hn, List.map_append]; exact h', fun u hu => ?_⟩
  rcases List.mem_append.1 hu with hu | hu
  · exact (h.tabs u hu).kept g (own_apart (h.tabs u hu) h.row (by decide))
  · simp only [List.mem_singleton] at hu
    subst hu
    exact ht.kept g (own_apart ht h.row (by decide))
theorem cntT_snoc {ts : List TbP} {t : TbP} {i : Nat} (h : ts.length = i) : cntT (ts ++ [t]) (i + 1) = cntT ts i + t.xs.length := by
  unfold cntT
  rw [List.take_of_length_le (by simp [h]), List.take_of_length_le (by omega)]
  simp
def WithR (w : World) (base : Nat) (e : Int) (each : List Nat) (qs : List PlQ) (r : Ending) (w' : World) : Prop :=
  ((¬ OkW each (qs.map PlQ.t) ∧ r = .returned (.tuple #[.agg #[.int .i64 0, .slice none 0 0], .int .i64 4])) ∨
    (OkW each (qs.map PlQ.t) ∧ ∃ v ts, r = .returned (.tuple #[.agg #[.int .i64 e, v], .int .i64 0]) ∧ TabsO w' base ts v ∧ ts.map TbP.xs = splitW each (qs.map PlQ.st))) ∧ Below w.heap.size w w'
/-- Are the first tables' rows as they are told? -/
def GdW (each tn : List Nat) (i : Nat) : Prop := ∀ j m, j < i → each[j]? = some m → ∀ k, k < m → tn[posT each j + k]? = some j
set_option maxRecDepth 100000 in
set_option maxHeartbeats 4000000 in
/-- (head).with (86). -/
theorem with_law (e : Int) (each : List Nat) (an : Option Addr) (n cn : Nat) (hn : each.length = n) (hn2 : n ≤ 1000000) (hp : posT each n ≤ 1000000) (qs : List PlQ) (a : Option Addr) (R c : Nat) (hR : qs.length = R) (hR2 : R ≤ 1000000) (base : Nat) (w : World) (hbase : base ≤ w.heap.size)
    (hE : NuR w an (each.map fun (k : Nat) => (k : Int))) (hQ : w.ownsRow base 137 5 (.slice a R c) R (qcells qs)) (hS : ∀ q ∈ qs, StOw w base q.st) (hB : ∀ q ∈ qs, StB q.st) :
    Calls Tryz.prog 82 #[.agg #[.int .i64 e, .slice an n cn], .slice a R c] w (WithR w base e each qs) := by
  obtain ⟨i59, hi59, hz590, hz591, hz592⟩ := info_parts info59
  obtain ⟨i57, hi57, hz570, hz571, hz572⟩ := info_parts info57
  have HE := Lib.hid hE
  have HQ := Lib.hid hQ
  have HSB := Lib.hid (And.intro hS (And.intro hB hbase))
  have HN := Lib.hid hn
  have HRL := Lib.hid hR
  have HPL := Lib.hid (show ∀ i, posT each i ≤ 1000000 from fun i => Nat.le_trans (posT_le each i) (by rw [hn]; exact hp))
  have HCC := Lib.hid (show R ≤ c by rcases hQ.2 with ⟨e0, h0⟩ | ⟨g, cap, cur, e0, _, _, hc, _⟩ <;> cases e0 <;> omega)
  clear hE hQ hS hB hn hR hp hbase
  go_enter Tryz.func82, Tryz.ntmps82
  go_upto_region 2 with (fail)
  obtain ⟨W0, hW0⟩ : ∃ W0, (((w.alloc (.cells #[.int .i64 e, .slice an n cn] 131)).alloc (.cells #[.int .i64 0, .slice none 0 0] 77)).alloc (.cells #[.int .i64 e, .slice none 0 0] 77)) = W0 := ⟨_, rfl⟩
  have hb0 : Below w.heap.size w W0 := by rw [← hW0]; exact (((Below.refl _ w).alloc (Nat.le_refl _) _).alloc (by simp) _).alloc (by simp; omega) _
  have b2 : BoxC W0 w.heap.size #[.int .i64 e, .slice an n cn] 131 := by rw [← hW0]; exact ((BoxC.new w _ 131).alloc _).alloc _
  have b4 : BoxC W0 (w.heap.size + 1) #[.int .i64 0, .slice none 0 0] 77 := by
    rw [← hW0]; have := (BoxC.new (w.alloc (.cells #[.int .i64 e, .slice an n cn] 131)) #[.int .i64 0, .slice none 0 0] 77).alloc (.cells #[.int .i64 e, .slice none 0 0] 77); simpa using this
  have b6 : BoxC W0 (w.heap.size + 1 + 1) #[.int .i64 e, .slice none 0 0] 77 := by
    rw [← hW0]; have := BoxC.new ((w.alloc (.cells #[.int .i64 e, .slice an n cn] 131)).alloc (.cells #[.int .i64 0, .slice none 0 0] 77)) #[.int .i64 e, .slice none 0 0] 77; simpa using this
  have hs0 : W0.heap.size = w.heap.size + 3 := by rw [← hW0]; simp
  try rw [hW0]
  clear hW0
  have z1 := b2.cell 1
  simp only [List.getElem?_toArray, List.getElem?_cons_zero, List.getElem?_cons_succ] at z1
  have HB0 := Lib.hid hb0
  have HS0 := Lib.hid hs0
  have B4 := Lib.hid b4
  have B6 := Lib.hid b6
  clear hb0 b2 b4 b6 hs0
  go_wp2_with fail
  go_loopw [1, 7, 8, 9, 18] (fun v1 q2 q3 q4 j wr => ∃ i : Nat, i ≤ n ∧ j = .int .i64 (i : Int) ∧ ∃ x, v1 = .slice x (R - posT each i) (c - posT each i) ∧ posT each i ≤ R ∧ Hid (posT each i < R → ∃ g, a = some ⟨g, 0, none⟩ ∧ x = some ⟨g, posT each i * 5, none⟩) ∧ Hid (GdW each (qs.map PlQ.t) i) ∧ Hid (Below w.heap.size w wr) ∧ Hid (W0.heap.size ≤ wr.heap.size) ∧ Hid (BoxC wr (w.heap.size + 1) #[.int .i64 0, .slice none 0 0] 77) ∧ Hid (∃ vt ts, BoxC wr (w.heap.size + 1 + 1) #[.int .i64 e, vt] 77 ∧ ts.length = i ∧ TabR wr W0.heap.size ts vt ∧ ts.map TbP.xs = (splitW each (qs.map PlQ.st)).take i ∧ cntT ts i = posT each i)) (fun _ _ _ _ j _ => n - (intOf j).toNat)
  case atStart =>
    refine ⟨0, Nat.zero_le _, rfl, a, by simp [posT], Nat.zero_le _, Lib.hid (fun h => ?_), Lib.hid (fun j m hj => by omega), HB0, Lib.hid (Nat.le_refl _), B4, Lib.hid ⟨_, [], B6.out, rfl, TabR.nil _ _, by simp, by simp [cntT, posT]⟩⟩
    have h0 : 0 < R := by simpa [posT] using h
    rcases HQ.out.2 with ⟨e0, h1⟩ | ⟨g, cap, cur, e0, _⟩
    · omega
    · cases e0
      exact ⟨g, rfl, by simp [posT]⟩
  case round =>
    obtain ⟨i, hi, rfl, x1, rfl, hpR, HX1, HG, HBW, HSZ, HB4, HTS⟩ := hrel
    clear B4 B6 z1
    by_cases hlt : i < n
    · have d1 : (i : Int) < (n : Int) := by omega
      obtain ⟨m, hm⟩ : ∃ m, each[i]? = some m := ⟨_, List.getElem?_eq_getElem (by rw [HN.out]; exact hlt)⟩
      obtain ⟨be, oe, rfl, ce⟩ := (HE.out.below HBW.out) i (m : Int) (by rw [List.getElem?_map, hm]; rfl)
      have HM := Lib.hid hm
      have HPN := Lib.hid (posT_next hm)
      have hpm : posT each i + m ≤ 1000000 := by rw [← posT_next hm]; exact HPL.out _
      obtain ⟨p, hp⟩ : ∃ p, posT each i = p := ⟨_, rfl⟩
      have HP := Lib.hid hp
      rw [hp] at hpm hpR HPN HX1 HTS ⊢
      clear hm hp
      go_upto_region 7 with (fail)
      obtain ⟨WO, rfl⟩ : ∃ WO, WO = wr := ⟨_, rfl⟩
      go_loopw [1, 9, 24] (fun v1 v9 j wr => ∃ k : Nat, k ≤ m ∧ j = .int .i64 (k : Int) ∧ ∃ x, v1 = .slice x (R - (p + k)) (c - (p + k)) ∧ p + k ≤ R ∧ Hid (p + k < R → ∃ g, a = some ⟨g, 0, none⟩ ∧ x = some ⟨g, (p + k) * 5, none⟩) ∧ Hid (∀ l, l < k → (qs.map PlQ.t)[p + l]? = some i) ∧ Hid (wr.ownsRow WO.heap.size 72 4 v9 k (scells (((qs.map PlQ.st).drop p).take k))) ∧ Hid (Below WO.heap.size WO wr)) (fun _ _ j _ => m - (intOf j).toNat)
      case atStart => exact ⟨0, Nat.zero_le _, rfl, x1, rfl, hpR, HX1, Lib.hid (fun l hl => by omega), Lib.hid (by simpa [scells] using World.ownsRow_nil _ _ _ _), Lib.hid (Below.refl _ _)⟩
      case round =>
        obtain ⟨k, hk, rfl, x, rfl, hkR, HX, HGK, HO9, HBO⟩ := hrel
        clear ce
        have HWR := Lib.hid (step_below HBW.out HBO.out)
        obtain ⟨r, hr⟩ : ∃ r, R - (p + k) = r := ⟨_, rfl⟩
        obtain ⟨cr, hcr⟩ : ∃ cr, c - (p + k) = cr := ⟨_, rfl⟩
        have HRC := Lib.hid (And.intro hr hcr)
        rw [hr, hcr]
        by_cases hkm : k < m
        · have d2 : (k : Int) < (m : Int) := by omega
          by_cases hq : p + k < R
          · obtain ⟨g, ha, hx⟩ := HX.out hq
            subst ha
            subst hx
            have hr1 : 1 ≤ r := by omega
            have e0 : ((r : Int) == 0) = false := by rw [beq_eq_false_iff_ne]; omega
            have d3 : (0 : Int) < (r : Int) := by omega
            obtain ⟨q, hqq⟩ : ∃ q, qs[p + k]? = some q := ⟨_, List.getElem?_eq_getElem (by rw [HRL.out]; exact hq)⟩
            have hcw := own_below HQ.out HWR.out
            have c0 := (hcw.cellAt ((p + k) * 5 + 0) (by omega)).trans (qcells_at hqq 0 (by omega))
            have c1 := (hcw.cellAt ((p + k) * 5 + 1) (by omega)).trans (qcells_at hqq 1 (by omega))
            have c2 := (hcw.cellAt ((p + k) * 5 + 2) (by omega)).trans (qcells_at hqq 2 (by omega))
            have c3 := (hcw.cellAt ((p + k) * 5 + 3) (by omega)).trans (qcells_at hqq 3 (by omega))
            have c4 := (hcw.cellAt ((p + k) * 5 + 4) (by omega)).trans (qcells_at hqq 4 (by omega))
            simp only [PlQ.cells, StP.cells, List.getElem?_cons_zero, List.getElem?_cons_succ] at c0 c1 c2 c3 c4
            rw [Nat.add_zero] at c0
            have HQQ := Lib.hid hqq
            have HTN := Lib.hid (show (qs.map PlQ.t)[p + k]? = some q.t by rw [List.getElem?_map, hqq]; rfl)
            have HLN := Lib.hid (show ((qs.map PlQ.st).drop p).take (k + 1) = ((qs.map PlQ.st).drop p).take k ++ [q.st] by rw [List.take_add_one, List.getElem?_drop, List.getElem?_map, hqq]; rfl)
            obtain ⟨o, ho⟩ : ∃ o, (p + k) * 5 = o := ⟨_, rfl⟩
            rw [ho] at c0 c1 c2 c3 c4 ⊢
            have HO := Lib.hid ho
            clear hqq hcw ho
            by_cases ht : q.t = i
            · have e1 : ((q.t : Int) != (i : Int)) = false := by rw [ht]; simp
              have e2 : ((q.t : Int) == (i : Int)) = true := by rw [ht]; simp
              have HLO := fun W => lo_run135 W g o r cr hr1
              have HT := Lib.hid ht
              obtain ⟨st, hst⟩ : ∃ st, q.st = st := ⟨_, rfl⟩
              rw [hst] at c1 c2 c3 c4 HLN
              obtain ⟨kl, hkl⟩ : ∃ kl, st.key.length = kl := ⟨_, rfl⟩
              obtain ⟨rl, hrl⟩ : ∃ rl, st.R.length = rl := ⟨_, rfl⟩
              have HKR := Lib.hid (And.intro hkl hrl)
              rw [hkl] at c1
              rw [hrl] at c2
              have hk1 : k ≤ 1000000 := by omega
              clear ht hst hkl hrl
              go_wp2_with (at_builtin; refine wpList_append_own _ rfl (.tmp 38) (.tmp 43) 74 rfl WO.heap.size 72 i59 (.agg #[.slice none 0 0, .slice none 0 0, .int .i64 0, .int .i64 0]) 4 64 Tryz.underlying74 hi59 hz590 hz591 hz592 rfl (by decide) _ k (scells (((qs.map PlQ.st).drop p).take k)) rfl (HO9.out.alloc _) ⟨wr.heap.size, 0, none⟩ 1 1 [.slice st.ka kl st.kc, .slice st.ra rl st.rc, .int .i64 st.e, .int .i64 st.s] rfl rfl (by intro j u hj; match j, hj with | 0, hj => (simp at hj; subst hj; simp [Addr.add, go_sem]) | 1, hj => (simp at hj; subst hj; simp [Addr.add, go_sem]) | 2, hj => (simp at hj; subst hj; simp [Addr.add, go_sem]) | 3, hj => (simp at hj; subst hj; simp [Addr.add, go_sem]) | j + 4, hj => simp at hj) (by intro u hu; simp at hu; rcases hu with rfl | rfl | rfl | rfl <;> rfl) (by unfold maxLen; omega) (by omega) (by have := HBO.out.size; simp; omega) ?_)
              rintro v10 w10 hown10 hgrow10 _
              have HO10 := Lib.hid (show w10.ownsRow WO.heap.size 72 4 v10 (k + 1) (scells (((qs.map PlQ.st).drop p).take (k + 1))) by
                rw [HLN.out]
                have e9 : scells (((qs.map PlQ.st).drop p).take k ++ [st]) = scells (((qs.map PlQ.st).drop p).take k) ++ st.cells := by simp [scells]
                rw [e9]
                unfold StP.cells
                rw [HKR.out.1, HKR.out.2]
                exact hown10)
              have HB10 := Lib.hid ((HBO.out.alloc HBO.out.size _).grown hgrow10 (by have := HBO.out.size; simp; omega) (fun j hj => (HO9.out.lt j hj).1))
              clear hown10 hgrow10 c0 c1 c2 c3 c4
              go_wp2_with fail
              go_roundw
              case rel =>
                refine ⟨k + 1, by omega, by go_num, some ⟨g, if cr = 1 then o else o + 5, none⟩, ?_, by omega, Lib.hid (fun h => ⟨g, rfl, ?_⟩), Lib.hid (fun l hl => ?_), HO10, HB10⟩
                · rw [← HRC.out.1, ← HRC.out.2]
                  congr 1 <;> omega
                · have h1 := HRC.out.1
                  have h2 := HRC.out.2
                  have h3 := HCC.out
                  rw [if_neg (by omega), ← HO.out]
                  congr 2
                  omega
                · rcases Nat.lt_or_ge l k with h | h
                  · exact HGK.out l h
                  · obtain rfl : l = k := by omega
                    rw [HTN.out, HT.out]
              case measure => simp [intOf]; omega
            · have e1 : ((q.t : Int) != (i : Int)) = true := by simp; omega
              have e2 : ((q.t : Int) == (i : Int)) = false := by rw [beq_eq_false_iff_ne]; omega
              have HT := Lib.hid ht
              clear c1 c2 c3 c4 ht
              have HNO := Lib.hid (show ¬ OkW each (qs.map PlQ.t) from fun h => HT.out (by have h1 := h.1 i m HM.out k hkm; rw [HP.out, HTN.out] at h1; exact Option.some.inj h1))
              have y4 := HB4.out.below HBO.out
              have q0 := y4.cell 0
              have q1 := y4.cell 1
              have f0 := y4.frozen 0
              have f1 := y4.frozen 1
              simp only [List.getElem?_toArray, List.getElem?_cons_zero, List.getElem?_cons_succ] at q0 q1
              have X9 := Lib.hid ((y4.put 0 (.int .i64 0)).put 1 (.slice none 0 0))
              have HB9 := Lib.hid ((HWR.out.setCell (p := ⟨w.heap.size + 1, 0, none⟩) (by simp) (.int .i64 0)).setCell (p := ⟨w.heap.size + 1, 1, none⟩) (by simp) (.slice none 0 0))
              clear y4
              go_wp2_with fail
              clear q0 q1 f0 f1
              generalize ((wr.setCell ⟨w.heap.size + 1, 0, none⟩ (.int .i64 0)).setCell ⟨w.heap.size + 1, 1, none⟩ (.slice none 0 0)) = W9 at *
              refine bodyPost_ret (v := .tuple #[.agg #[.int .i64 0, .slice none 0 0], .int .i64 4]) ?_ rfl ⟨.inl ⟨HNO.out, rfl⟩, HB9.out⟩
              have x0 := X9.out.cell 0
              have x1 := X9.out.cell 1
              simp at x0 x1
              simp [results, Tryz.results82, go_sem, x0, x1]
          · have hr0 : r = 0 := by omega
            subst hr0
            have HNO := Lib.hid (show ¬ OkW each (qs.map PlQ.t) from fun h => by have h1 := h.1 i m HM.out k hkm; rw [HP.out, List.getElem?_eq_none (by rw [List.length_map, HRL.out]; omega)] at h1; cases h1)
            have y4 := HB4.out.below HBO.out
            have q0 := y4.cell 0
            have q1 := y4.cell 1
            have f0 := y4.frozen 0
            have f1 := y4.frozen 1
            simp only [List.getElem?_toArray, List.getElem?_cons_zero, List.getElem?_cons_succ] at q0 q1
            have X9 := Lib.hid ((y4.put 0 (.int .i64 0)).put 1 (.slice none 0 0))
            have HB9 := Lib.hid ((HWR.out.setCell (p := ⟨w.heap.size + 1, 0, none⟩) (by simp) (.int .i64 0)).setCell (p := ⟨w.heap.size + 1, 1, none⟩) (by simp) (.slice none 0 0))
            clear y4
            go_wp2_with fail
            clear q0 q1 f0 f1
            generalize ((wr.setCell ⟨w.heap.size + 1, 0, none⟩ (.int .i64 0)).setCell ⟨w.heap.size + 1, 1, none⟩ (.slice none 0 0)) = W9 at *
            refine bodyPost_ret (v := .tuple #[.agg #[.int .i64 0, .slice none 0 0], .int .i64 4]) ?_ rfl ⟨.inl ⟨HNO.out, rfl⟩, HB9.out⟩
            have x0 := X9.out.cell 0
            have x1 := X9.out.cell 1
            simp at x0 x1
            simp [results, Tryz.results82, go_sem, x0, x1]
        · obtain rfl : k = m := by omega
          have d2 : ¬ (k : Int) < (k : Int) := by omega
          obtain ⟨a9, c9, rfl⟩ := own_form HO9.out
          obtain ⟨vt, ts, hb6, htl, hto, htx, htc⟩ := HTS.out
          have hb6 := hb6.below HBO.out
          have hto := hto.below HBO.out
          obtain ⟨at_, ct, rfl⟩ := own_form hto.row
          rw [htl] at hb6 hto
          have HTO := Lib.hid hto
          have HTT := Lib.hid (And.intro htl (And.intro htx htc))
          have HB6 := Lib.hid hb6
          have z1 := hb6.cell 1
          have g1 := hb6.frozen 1
          simp only [List.getElem?_toArray, List.getElem?_cons_zero, List.getElem?_cons_succ] at z1
          have HROW := Lib.hid (show wr.ownsRow W0.heap.size 74 1 (.slice at_ i ct) i (ts.map TbP.v) by have := hto.row; rw [htl] at this; exact this)
          have HSZ2 := Lib.hid (Nat.le_trans HSZ.out HBO.out.size)
          clear hb6 hto htx htc htl
          go_wp2_with (at_builtin; refine wpList_append_own _ rfl (.tmp 49) (.tmp 51) 75 rfl W0.heap.size 74 i57 (.slice none 0 0) 1 24 Tryz.underlying75 hi57 hz570 hz571 hz572 rfl (by decide) _ i (ts.map TbP.v) rfl (HROW.out.alloc _) ⟨wr.heap.size, 0, none⟩ 1 1 [.slice a9 k c9] rfl rfl (by intro j u hj; match j, hj with | 0, hj => (simp at hj; subst hj; simp [Addr.add, go_sem]) | j + 1, hj => simp at hj) (by intro u hu; simp at hu; subst hu; rfl) (by unfold maxLen; omega) (by omega) (by have := HSZ2.out; simp; omega) ?_)
          rintro v10 w10 hown10 hgrow10 _
          obtain ⟨a10, c10, rfl⟩ := own_form hown10
          obtain ⟨L, hL⟩ : ∃ L, qs.map PlQ.st = L := ⟨_, rfl⟩
          have HLL := Lib.hid hL
          rw [hL] at HO9 HTT
          obtain ⟨X, hX⟩ : ∃ X, (L.drop p).take k = X := ⟨_, rfl⟩
          have hXl : X.length = k := by
            rw [← hX, List.length_take, List.length_drop, ← hL, List.length_map, HRL.out]
            omega
          have HXX := Lib.hid (And.intro hX hXl)
          rw [hX] at HO9
          have HO9' := Lib.hid (show (wr.alloc (.cells #[.slice a9 k c9] 74)).ownsRow W0.heap.size 72 4 (TbP.v ⟨a9, c9, X⟩) X.length (scells X) by
            unfold TbP.v
            simp only
            rw [hXl]
            exact own_base HSZ.out (HO9.out.alloc _))
          have HT10 := Lib.hid (TabR.snoc (t := ⟨a9, c9, X⟩) (HTO.out.below (bl1 _ (.cells #[.slice a9 k c9] 74))) HTT.out.1 HO9'.out (by unfold TbP.v; simp only; rw [hXl]; exact hown10) hgrow10)
          have hne : ∀ b, b < W0.heap.size → some b ≠ (Value.slice at_ i ct).ownBlock := fun b hb e => by
            have := (HROW.out.lt b e.symm).1
            omega
          have hb10 := (HB6.out.alloc (.cells #[.slice a9 k c9] 74)).kept hgrow10 (hne _ (by have := HS0.out; omega))
          have hb410 := ((HB4.out.below HBO.out).alloc (.cells #[.slice a9 k c9] 74)).kept hgrow10 (hne _ (by have := HS0.out; omega))
          have HB10 := Lib.hid ((HWR.out.alloc HWR.out.size (.cells #[.slice a9 k c9] 74)).grown hgrow10 (by have := HWR.out.size; simp; omega) (fun j hj => by have := (HROW.out.lt j hj).1; have := HS0.out; omega))
          have HS10 := Lib.hid (show W0.heap.size ≤ w10.heap.size from Nat.le_trans (Nat.le_trans HSZ2.out (by simp)) hgrow10.size)
          have z10 := hb10.cell 1
          have g10 := hb10.frozen 1
          simp only [List.getElem?_toArray, List.getElem?_cons_zero, List.getElem?_cons_succ] at z10
          have HB610 := Lib.hid hb10
          have HB410 := Lib.hid hb410
          clear hown10 hgrow10 hb10 hb410 hne hX hXl hL z1 g1
          go_wp2_with fail
          go_roundw
          case rel =>
            refine ⟨i + 1, by omega, by go_num, x, by rw [HPN.out, HRC.out.1, HRC.out.2], by rw [HPN.out]; omega, Lib.hid (by rw [HPN.out]; exact HX.out), Lib.hid (fun j m' hj hm' l hl => ?_), Lib.hid (HB10.out.setCell (by simp; omega) _), Lib.hid (by simpa [World.setCell] using HS10.out), Lib.hid (BoxC.oth (by omega) HB410.out), Lib.hid ⟨.slice a10 (i + 1) c10, ts ++ [⟨a9, c9, X⟩], HB610.out.put 1 (.slice a10 (i + 1) c10), by rw [List.length_append, HTT.out.1]; rfl, HT10.out.oth (B := w.heap.size + 1 + 1) (by have := HS0.out; omega) (oth_set _ _ _ _), ?_, ?_⟩⟩
            · rcases Nat.lt_or_ge j i with h | h
              · exact HG.out j m' h hm' l hl
              · obtain rfl : j = i := by omega
                have : m' = k := by have h2 := HM.out; rw [hm'] at h2; exact Option.some.inj h2
                rw [HP.out]
                exact HGK.out l (by omega)
            · rw [List.map_append, HTT.out.2.1, List.take_add_one, HLL.out, splitW_get each L i k HM.out, HP.out, HXX.out.1]
              rfl
            · rw [cntT_snoc HTT.out.1, HTT.out.2.2, HPN.out]
              simp only
              rw [HXX.out.2]
          case measure => simp [intOf]; omega
    · obtain rfl : i = n := by omega
      have d1 : ¬ (i : Int) < (i : Int) := by omega
      obtain ⟨vt, ts, hb6, htl, hto, htx, htc⟩ := HTS.out
      obtain ⟨at_, ct, rfl⟩ := own_form hto.row
      have htx2 : ts.map TbP.xs = splitW each (qs.map PlQ.st) := by rw [htx, List.take_of_length_le (by rw [splitW_len, HN.out]; omega)]
      have hal : ∀ t ∈ ts, ∀ x ∈ t.xs, ∃ q ∈ qs, q.st = x := fun t ht x hx => by
        have h1 : t.xs ∈ splitW each (qs.map PlQ.st) := by rw [← htx2]; exact List.mem_map_of_mem ht
        have h2 := splitW_mem _ _ _ _ h1 hx
        obtain ⟨q, hq, e⟩ := List.mem_map.1 h2
        exact ⟨q, hq, e⟩
      have HMK := Lib.hid (show ∀ W, TabR W W0.heap.size ts (.slice at_ ts.length ct) → Below w.heap.size w W → TabsO W base ts (.slice at_ ts.length ct) from fun W h b => ⟨own_base (by have h1 := HS0.out; have h2 := HSB.out.2.2; omega) h.row, fun t ht => own_base (by have h1 := HS0.out; have h2 := HSB.out.2.2; omega) (h.tabs t ht), fun t ht x hx => by
        obtain ⟨q, hq, rfl⟩ := hal t ht x hx
        exact (HSB.out.1 q hq).below b⟩)
      have HBY := Lib.hid (show ∀ t ∈ ts, ∀ x ∈ t.xs, StB x from fun t ht x hx => by
        obtain ⟨q, hq, rfl⟩ := hal t ht x hx
        exact HSB.out.2.1 q hq)
      have hcl := HPL.out i
      obtain ⟨s, hs⟩ : ∃ s, posT each i = s := ⟨_, rfl⟩
      rw [hs] at htc hcl hpR ⊢
      have HC := Lib.hid (counts_law e at_ ts i ct htl hn2 (by rw [htc]; omega) wr ((HMK.out wr hto HBW.out).lies HBY.out).2.2)
      rw [htc] at HC
      have HTO := Lib.hid hto
      have HTT := Lib.hid (And.intro htl htx2)
      have HPS := Lib.hid (show posT each each.length = s by rw [HN.out, hs])
      rw [htl] at hb6
      have HB6 := Lib.hid hb6
      have z0 := hb6.cell 0
      have z1 := hb6.cell 1
      simp only [List.getElem?_toArray, List.getElem?_cons_zero, List.getElem?_cons_succ] at z0 z1
      obtain ⟨r, hr⟩ : ∃ r, R - s = r := ⟨_, rfl⟩
      have HRR := Lib.hid hr
      rw [hr]
      clear hto htx2 htx htc htl hal hb6 hs hr
      go_wp2_with fail
      refine HC.out.mono ?_; rintro rr w3 ⟨a3, c3, rfl, _, hb3⟩
      have HW3 := Lib.hid (step_below HBW.out hb3)
      have B43 := Lib.hid (HB4.out.below hb3)
      have hb63 := HB6.out.below hb3
      have HTO3 := Lib.hid (HTO.out.below hb3)
      have y0 := hb63.cell 0
      have y1 := hb63.cell 1
      simp only [List.getElem?_toArray, List.getElem?_cons_zero, List.getElem?_cons_succ] at y0 y1
      clear hb3 z0 z1 HC
      by_cases hr0 : 0 < r
      · have d3 : (0 : Int) < (r : Int) := by omega
        clear y0 y1 hb63
        have HNO := Lib.hid (show ¬ OkW each (qs.map PlQ.t) from fun h => by have h1 := h.2.1; rw [HPS.out, List.length_map, HRL.out] at h1; have := HRR.out; omega)
        have y4 := B43.out
        have q0 := y4.cell 0
        have q1 := y4.cell 1
        have f0 := y4.frozen 0
        have f1 := y4.frozen 1
        simp only [List.getElem?_toArray, List.getElem?_cons_zero, List.getElem?_cons_succ] at q0 q1
        have X9 := Lib.hid ((y4.put 0 (.int .i64 0)).put 1 (.slice none 0 0))
        have HB9 := Lib.hid ((HW3.out.setCell (p := ⟨w.heap.size + 1, 0, none⟩) (by simp) (.int .i64 0)).setCell (p := ⟨w.heap.size + 1, 1, none⟩) (by simp) (.slice none 0 0))
        clear y4
        go_wp2_with fail
        clear q0 q1 f0 f1
        generalize ((w3.setCell ⟨w.heap.size + 1, 0, none⟩ (.int .i64 0)).setCell ⟨w.heap.size + 1, 1, none⟩ (.slice none 0 0)) = W9 at *
        refine bodyPost_ret (v := .tuple #[.agg #[.int .i64 0, .slice none 0 0], .int .i64 4]) ?_ rfl ⟨.inl ⟨HNO.out, rfl⟩, HB9.out⟩
        have x0 := X9.out.cell 0
        have x1 := X9.out.cell 1
        simp at x0 x1
        simp [results, Tryz.results82, go_sem, x0, x1]
      · obtain rfl : r = 0 := by omega
        by_cases hs4 : 4096 < s
        · have d4 : (4096 : Int) < (s : Int) := by omega
          clear y0 y1 hb63
          have HNO := Lib.hid (show ¬ OkW each (qs.map PlQ.t) from fun h => by have h1 := h.2.2; rw [HPS.out] at h1; omega)
          have y4 := B43.out
          have q0 := y4.cell 0
          have q1 := y4.cell 1
          have f0 := y4.frozen 0
          have f1 := y4.frozen 1
          simp only [List.getElem?_toArray, List.getElem?_cons_zero, List.getElem?_cons_succ] at q0 q1
          have X9 := Lib.hid ((y4.put 0 (.int .i64 0)).put 1 (.slice none 0 0))
          have HB9 := Lib.hid ((HW3.out.setCell (p := ⟨w.heap.size + 1, 0, none⟩) (by simp) (.int .i64 0)).setCell (p := ⟨w.heap.size + 1, 1, none⟩) (by simp) (.slice none 0 0))
          clear y4
          go_wp2_with fail
          clear q0 q1 f0 f1
          generalize ((w3.setCell ⟨w.heap.size + 1, 0, none⟩ (.int .i64 0)).setCell ⟨w.heap.size + 1, 1, none⟩ (.slice none 0 0)) = W9 at *
          refine bodyPost_ret (v := .tuple #[.agg #[.int .i64 0, .slice none 0 0], .int .i64 4]) ?_ rfl ⟨.inl ⟨HNO.out, rfl⟩, HB9.out⟩
          have x0 := X9.out.cell 0
          have x1 := X9.out.cell 1
          simp at x0 x1
          simp [results, Tryz.results82, go_sem, x0, x1]
        · have d4 : ¬ (4096 : Int) < (s : Int) := by omega
          have HOK := Lib.hid (show OkW each (qs.map PlQ.t) from ⟨fun j m hj k hk => HG.out j m (by have := (List.getElem?_eq_some_iff.1 hj).1; rw [HN.out] at this; exact this) hj k hk, by rw [HPS.out, List.length_map, HRL.out]; have := HRR.out; omega, by rw [HPS.out]; omega⟩)
          have y4 := B43.out
          have q0 := y4.cell 0
          have q1 := y4.cell 1
          have f0 := y4.frozen 0
          have f1 := y4.frozen 1
          simp only [List.getElem?_toArray, List.getElem?_cons_zero, List.getElem?_cons_succ] at q0 q1
          have X9 := Lib.hid ((y4.put 0 (.int .i64 e)).put 1 (.slice at_ i ct))
          have HB9 := Lib.hid ((HW3.out.setCell (p := ⟨w.heap.size + 1, 0, none⟩) (by simp) (.int .i64 e)).setCell (p := ⟨w.heap.size + 1, 1, none⟩) (by simp) (.slice at_ i ct))
          have HT9 := Lib.hid ((HTO3.out.oth (B := w.heap.size + 1) (by have := HS0.out; omega) (oth_set _ (w.heap.size + 1) 0 (.int .i64 e))).oth (B := w.heap.size + 1) (by have := HS0.out; omega) (oth_set _ (w.heap.size + 1) 1 (.slice at_ i ct)))
          clear y4 hb63
          go_wp2_with fail
          clear q0 q1 f0 f1 y0 y1
          generalize ((w3.setCell ⟨w.heap.size + 1, 0, none⟩ (.int .i64 e)).setCell ⟨w.heap.size + 1, 1, none⟩ (.slice at_ i ct)) = W9 at *
          have HTF := HMK.out W9 HT9.out HB9.out
          rw [HTT.out.1] at HTF
          refine bodyPost_ret (v := .tuple #[.agg #[.int .i64 e, .slice at_ i ct], .int .i64 0]) ?_ rfl ⟨.inr ⟨HOK.out, _, ts, rfl, HTF, HTT.out.2⟩, HB9.out⟩
          have x0 := X9.out.cell 0
          have x1 := X9.out.cell 1
          simp at x0 x1
          simp [results, Tryz.results82, go_sem, x0, x1]
end Go.Proofs.YtglkndoghnblcaaGreatDoor
namespace Go.Proofs.YtglkndoghnblcaaGreatDoor
open Go.ChangeShapes Go.WideShapes Go.ChangeAt Go.RowKit
set_option linter.unusedVariables false
set_option linter.unusedSimpArgs false
set_option maxRecDepth 100000 in
set_option maxHeartbeats 4000000 in
/-- sure (87), where nothing was read. -/
theorem sureck_no (x : Int) (o0 : Int) (o1a : Option Addr) (o1n o1c : Nat) (hx : ¬ x = 0) (w : World) :
    Calls Tryz.prog 83 #[.agg #[.int .i64 o0, .slice o1a o1n o1c], .int .i64 x, .func (.func 70) #[] #[]] w fun r w' => r = .returned (.tuple #[.agg #[.int .i64 0, .slice none 0 0], .int .i64 4]) ∧ Below w.heap.size w w' := by
  have h1 : (x != 0) = true := by simp [hx]
  have h2 : (x == 0) = false := by simp [hx]
  go_enter Tryz.func83, Tryz.ntmps83
  go_upto_region 1 with (fail)
  obtain ⟨W1, hW1⟩ : ∃ W1, (w.alloc (.cells #[.int .i64 o0, .slice o1a o1n o1c] 77)).alloc (.cells #[.int .i64 0, .slice none 0 0] 77) = W1 := ⟨_, rfl⟩
  have hb1 : Below w.heap.size w W1 := by rw [← hW1]; exact step_below (bl1 _ _) (bl1 _ _)
  have x3 : BoxC W1 w.heap.size #[.int .i64 o0, .slice o1a o1n o1c] 77 := by rw [← hW1]; exact (BoxC.new _ _ _).alloc _
  have x6 : BoxC W1 (w.heap.size + 1) #[.int .i64 0, .slice none 0 0] 77 := by rw [← hW1]; have := BoxC.new (w.alloc (.cells #[.int .i64 o0, .slice o1a o1n o1c] 77)) #[.int .i64 0, .slice none 0 0] 77; simpa using this
  have hs1 : W1.heap.size = w.heap.size + 1 + 1 := by rw [← hW1]; simp
  try rw [hW1]
  clear hW1
  have HB1 := Lib.hid hb1
  clear hb1 x3
  obtain ⟨N, hN⟩ : ∃ N, w.heap.size = N := ⟨_, rfl⟩
  rw [hN] at x6 hs1 ⊢
  have HN := Lib.hid hN
  go_upto_region 3 with (fail)
  obtain ⟨W2, hW2⟩ : ∃ W2, W1.alloc (.cells #[.int .i64 0, .slice none 0 0] 77) = W2 := ⟨_, rfl⟩
  have hb2 : Below W1.heap.size W1 W2 := by rw [← hW2]; exact bl1 _ _
  have x8 : BoxC W2 W1.heap.size #[.int .i64 0, .slice none 0 0] 77 := by rw [← hW2]; exact BoxC.new _ _ _
  try rw [hW2]
  clear hW2
  have x62 := x6.below hb2
  have y0 := x8.cell 0
  have d0 := x62.cell 0
  have f0 := x62.frozen 0
  have y1 := x8.cell 1
  have d1 := x62.cell 1
  have f1 := x62.frozen 1
  simp only [List.getElem?_toArray, List.getElem?_cons_zero, List.getElem?_cons_succ] at y0 y1 d0 d1
  try rw [hs1] at y0 y1
  have X9 := Lib.hid ((x62.put 0 (.int .i64 0)).put 1 (.slice none 0 0))
  have HB9 := Lib.hid (((step_below HB1.out hb2).setCell (p := ⟨N + 1, 0, none⟩) (by simp; omega) (.int .i64 0)).setCell (p := ⟨N + 1, 1, none⟩) (by simp; omega) (.slice none 0 0))
  clear x62 x8 hb2
  go_wp2_with fail
  clear y0 y1 d0 d1 f0 f1
  generalize ((W2.setCell ⟨N + 1, 0, none⟩ (.int .i64 0)).setCell ⟨N + 1, 1, none⟩ (.slice none 0 0)) = W9 at *
  refine bodyPost_ret (v := .tuple #[.agg #[.int .i64 0, .slice none 0 0], .int .i64 4]) ?_ rfl ⟨rfl, by first | exact HB9.out | (rw [← HN.out]; exact HB9.out)⟩
  have x0 := X9.out.cell 0
  have x1 := X9.out.cell 1
  simp at x0 x1
  simp [results, Tryz.results83, go_sem, x0, x1]
set_option maxRecDepth 100000 in
set_option maxHeartbeats 4000000 in
/-- sure (87), where one was read. -/
theorem sureck_law (o0 : Int) (o1a : Option Addr) (o1n o1c : Nat) (b : Bool) (w : World) (hM : ∀ W, Below w.heap.size w W → Calls Tryz.prog 70 #[.agg #[.int .i64 o0, .slice o1a o1n o1c]] W fun r w' => r = .returned (.bool b) ∧ Below W.heap.size W w') :
    Calls Tryz.prog 83 #[.agg #[.int .i64 o0, .slice o1a o1n o1c], .int .i64 0, .func (.func 70) #[] #[]] w fun r w' => (r = .returned (if b then .tuple #[.agg #[.int .i64 o0, .slice o1a o1n o1c], .int .i64 0] else .tuple #[.agg #[.int .i64 0, .slice none 0 0], .int .i64 4])) ∧ Below w.heap.size w w' := by
  have HM := Lib.hid hM
  clear hM
  go_enter Tryz.func83, Tryz.ntmps83
  go_upto_region 1 with (fail)
  obtain ⟨W1, hW1⟩ : ∃ W1, (w.alloc (.cells #[.int .i64 o0, .slice o1a o1n o1c] 77)).alloc (.cells #[.int .i64 0, .slice none 0 0] 77) = W1 := ⟨_, rfl⟩
  have hb1 : Below w.heap.size w W1 := by rw [← hW1]; exact step_below (bl1 _ _) (bl1 _ _)
  have x3 : BoxC W1 w.heap.size #[.int .i64 o0, .slice o1a o1n o1c] 77 := by rw [← hW1]; exact (BoxC.new _ _ _).alloc _
  have x6 : BoxC W1 (w.heap.size + 1) #[.int .i64 0, .slice none 0 0] 77 := by rw [← hW1]; have := BoxC.new (w.alloc (.cells #[.int .i64 o0, .slice o1a o1n o1c] 77)) #[.int .i64 0, .slice none 0 0] 77; simpa using this
  have hs1 : W1.heap.size = w.heap.size + 1 + 1 := by rw [← hW1]; simp
  try rw [hW1]
  clear hW1
  have HB1 := Lib.hid hb1
  have HC := Lib.hid (HM.out W1 hb1)
  have c0 := x3.cell 0
  have c1 := x3.cell 1
  simp only [List.getElem?_toArray, List.getElem?_cons_zero, List.getElem?_cons_succ] at c0 c1
  have X3 := Lib.hid x3
  have X6 := Lib.hid x6
  clear hb1 x3 x6 HM
  cases b with
  | false =>
    go_wp2_with fail
    refine HC.out.mono ?_; rintro r w3 ⟨rfl, b3⟩
    have HB3 := Lib.hid (step_below HB1.out b3)
    have x63 := X6.out.below b3
    have hs3 : w.heap.size + 1 + 1 ≤ w3.heap.size := by rw [← hs1]; exact b3.size
    clear c0 c1 b3 HC
    obtain ⟨N, hN⟩ : ∃ N, w.heap.size = N := ⟨_, rfl⟩
    rw [hN] at x63 hs1 hs3 ⊢
    have HN := Lib.hid hN
    go_upto_region 3 with (fail)
    obtain ⟨W2, hW2⟩ : ∃ W2, w3.alloc (.cells #[.int .i64 0, .slice none 0 0] 77) = W2 := ⟨_, rfl⟩
    have hb2 : Below w3.heap.size w3 W2 := by rw [← hW2]; exact bl1 _ _
    have x8 : BoxC W2 w3.heap.size #[.int .i64 0, .slice none 0 0] 77 := by rw [← hW2]; exact BoxC.new _ _ _
    try rw [hW2]
    clear hW2
    have x62 := x63.below hb2
    have y0 := x8.cell 0
    have d0 := x62.cell 0
    have f0 := x62.frozen 0
    have y1 := x8.cell 1
    have d1 := x62.cell 1
    have f1 := x62.frozen 1
    simp only [List.getElem?_toArray, List.getElem?_cons_zero, List.getElem?_cons_succ] at y0 y1 d0 d1
    try rw [hs1] at y0 y1
    have X9 := Lib.hid ((x62.put 0 (.int .i64 0)).put 1 (.slice none 0 0))
    have HB9 := Lib.hid (((step_below HB3.out hb2).setCell (p := ⟨N + 1, 0, none⟩) (by simp; omega) (.int .i64 0)).setCell (p := ⟨N + 1, 1, none⟩) (by simp; omega) (.slice none 0 0))
    clear x62 x8 hb2
    go_wp2_with fail
    clear y0 y1 d0 d1 f0 f1
    generalize ((W2.setCell ⟨N + 1, 0, none⟩ (.int .i64 0)).setCell ⟨N + 1, 1, none⟩ (.slice none 0 0)) = W9 at *
    refine bodyPost_ret (v := .tuple #[.agg #[.int .i64 0, .slice none 0 0], .int .i64 4]) ?_ rfl ⟨by simp, by first | exact HB9.out | (rw [← HN.out]; exact HB9.out)⟩
    have x0 := X9.out.cell 0
    have x1 := X9.out.cell 1
    simp at x0 x1
    simp [results, Tryz.results83, go_sem, x0, x1]
  | true =>
    go_wp2_with fail
    refine HC.out.mono ?_; rintro r w3 ⟨rfl, b3⟩
    have HB3 := Lib.hid (step_below HB1.out b3)
    have x63 := X6.out.below b3
    have x33 := X3.out.below b3
    clear c0 c1 b3 HC
    have y0 := x33.cell 0
    have d0 := x63.cell 0
    have f0 := x63.frozen 0
    have y1 := x33.cell 1
    have d1 := x63.cell 1
    have f1 := x63.frozen 1
    simp only [List.getElem?_toArray, List.getElem?_cons_zero, List.getElem?_cons_succ] at y0 y1 d0 d1
    have X9 := Lib.hid ((x63.put 0 (.int .i64 o0)).put 1 (.slice o1a o1n o1c))
    have HB9 := Lib.hid ((HB3.out.setCell (p := ⟨w.heap.size + 1, 0, none⟩) (by simp) (.int .i64 o0)).setCell (p := ⟨w.heap.size + 1, 1, none⟩) (by simp) (.slice o1a o1n o1c))
    clear x63 x33
    go_wp2_with fail
    clear y0 y1 d0 d1 f0 f1
    generalize ((w3.setCell ⟨w.heap.size + 1, 0, none⟩ (.int .i64 o0)).setCell ⟨w.heap.size + 1, 1, none⟩ (.slice o1a o1n o1c)) = W9 at *
    refine bodyPost_ret (v := .tuple #[.agg #[.int .i64 o0, .slice o1a o1n o1c], .int .i64 0]) ?_ rfl ⟨by simp, HB9.out⟩
    have x0 := X9.out.cell 0
    have x1 := X9.out.cell 1
    simp at x0 x1
    simp [results, Tryz.results83, go_sem, x0, x1]
end Go.Proofs.YtglkndoghnblcaaGreatDoor
namespace Go.Proofs.YtglkndoghnblcaaGreatDoor
open Go.ChangeShapes Go.WideShapes Go.ChangeAt Go.RowKit
set_option linter.unusedVariables false
set_option linter.unusedSimpArgs false
def plZ : Pl := ⟨0, [], [], 0, 0⟩
/-- What a later frame tells. -/
def ckRow (p : List Int) : Pl := (readP (plP p)).getD plZ
/-- The error, behind so many frames. -/
def erK (FS : List (List Int)) : Nat → Int
  | 0 => 4
  | k + 1 => match FS[k]? with
    | some p => if k = 0 then (if (readP (headP p)).isSome then 0 else 4) else (if (readP (plP p)).isSome then erK FS k else 4)
    | none => erK FS k
theorem erK_head {FS : List (List Int)} {p : List Int} (h : FS[0]? = some p) : erK FS 1 = if (readP (headP p)).isSome then 0 else 4 := by
  show (match FS[0]? with | some p => if (0 : Nat) = 0 then _ else _ | none => _) = _
  rw [h]
  rfl
theorem erK_next {FS : List (List Int)} {p : List Int} {k : Nat} (hk : 0 < k) (h : FS[k]? = some p) : erK FS (k + 1) = if (readP (plP p)).isSome then erK FS k else 4 := by
  show (match FS[k]? with | some p => if k = 0 then _ else _ | none => _) = _
  rw [h]
  simp only
  rw [if_neg (by omega)]
theorem erK_04 (FS : List (List Int)) : ∀ k, erK FS k = 0 ∨ erK FS k = 4
  | 0 => .inr rfl
  | k + 1 => by
    unfold erK
    split
    · split
      · split <;> simp
      · split
        · exact erK_04 FS k
        · simp
    · exact erK_04 FS k
theorem KK.growT {base b n sz : Nat} {ty : TypeId} {A B : World} {v : Value} {cs : List Value} (hty : ty ≠ 5) (h : A.ownsRow b ty sz v n cs) (g : A.grownBy B v.ownBlock) : KK base A B := by
  rcases h.2 with ⟨rfl, _⟩ | ⟨gg, cap, cur, rfl, _, hgg, _⟩
  · exact ⟨KeepsOthers.of_grownBy g (fun j o e => by cases e), KpB.grow g (fun r e => by cases e)⟩
  · refine ⟨KeepsOthers.of_grownBy g (fun j o e ho => ?_), KpB.grow g (fun r e => ?_)⟩
    · have e' : gg = j := by simpa [Value.ownBlock] using e
      subst e'
      rw [hgg] at ho; cases ho; rfl
    · have e' : gg = r := by simpa [Value.ownBlock] using e
      subst e'
      refine ⟨_, hgg, ?_⟩
      unfold isB
      split
      · rename_i heq
        injection heq with _ h2 _
        exact absurd h2 hty
      · rfl
theorem NumsO.own {w w' : World} {base : Nat} {xs : List Nat} {v : Value} {row : Option Nat} (h : NumsO w base xs v) (hg : w.grownBy w' row) (hr : ∀ r, row = some r → ∃ o : Obj, w.heap[r]? = some o ∧ o.isCells = false) : NumsO w' base xs v := own_own h hg hr
/-- What the first frame has told. -/
def HdI (FS : List (List Int)) (base k : Nat) (W : World) (ev : Int) (v : Value) : Prop := ∀ p x, 0 < k → FS[0]? = some p → readP (headP p) = some x → ev = (x.1 : Int) ∧ NumsO W base x.2 v
/-- The world while ReadCheckpoint goes over the frames. -/
structure CkI (w : World) (base : Nat) (FS : List (List Int)) (k : Nat) (W : World) : Prop where
  bel : Below w.heap.size w W
  res : BoxC W w.heap.size #[.int .i64 0, .slice none 0 0] 77
  hd : ∃ ev sa sn sc, BoxC W (w.heap.size + 1) #[.int .i64 ev, .slice sa sn sc] 131 ∧ HdI FS base k W ev (.slice sa sn sc)
  row : ∃ v xs, BoxC W (w.heap.size + 2) #[v] 132 ∧ PlsO W base xs v ∧ xs = ((FS.take k).drop 1).map ckRow
  err : BoxC W (w.heap.size + 3) #[.int .i64 (erK FS k)] 26
  beg : BoxC W (w.heap.size + 4) #[.bool (decide (0 < k))] 4
  sz : base ≤ W.heap.size
/-- What bytes tell of a checkpoint. -/
def rckP (L : List Int) : Option (Nat × List Nat × List Pl) := match framesL L with
  | [] => none
  | p :: ps => match readP (headP p) with
    | some x => if ps.all (fun q => (readP (plP q)).isSome) ∧ wholeL L = L.length then some (x.1, x.2, ps.map ckRow) else none
    | none => none
theorem erK_all (p : List Int) (ps : List (List Int)) : ∀ k, k ≤ ps.length → (erK (p :: ps) (k + 1) = 0 ↔ ((readP (headP p)).isSome = true ∧ (ps.take k).all (fun q => (readP (plP q)).isSome) = true))
  | 0, _ => by
    rw [erK_head (p := p) rfl]
    cases (readP (headP p)).isSome <;> simp
  | k + 1, hk => by
    obtain ⟨q, hq⟩ : ∃ q, ps[k]? = some q := ⟨_, List.getElem?_eq_getElem (by omega)⟩
    rw [erK_next (p := q) (by omega) (by rw [List.getElem?_cons_succ]; exact hq)]
    have ih := erK_all p ps k (by omega)
    rw [List.take_add_one, hq, List.all_append]
    cases hs : (readP (plP q)).isSome with
    | true =>
      simp only [if_true, Option.toList_some, List.all_cons, hs, List.all_nil, Bool.and_true]
      exact ih
    | false => simp [hs]
end Go.Proofs.YtglkndoghnblcaaGreatDoor
namespace Go.Proofs.YtglkndoghnblcaaGreatDoor
open Go.ChangeShapes Go.WideShapes Go.ChangeAt Go.RowKit
set_option linter.unusedVariables false
set_option linter.unusedSimpArgs false
abbrev C4 := List Int × List (List Int) × Int × Int
def stC (x : StP) : C4 := (x.key, x.R.map P1.bs, x.e, x.s)
def plC (p : Pl) : C4 := (p.k, p.fs, (p.e : Int), (p.s : Int))
theorem plq_c {q : PlQ} (h0 : 0 ≤ q.st.e) (h1 : 0 ≤ q.st.s) : plC q.pl = stC q.st := by
  unfold plC stC PlQ.pl
  simp only
  rw [Int.toNat_of_nonneg h0, Int.toNat_of_nonneg h1]
def stBc (e : Int) (c : C4) : Bool := mayK c.1.length && (mayF c.2.1 && (tidB c.2.2.1 c.2.2.2 && decide (c.2.2.1 ≤ e)))
theorem stB_c (e : Int) (x : StP) : stB e x = stBc e (stC x) := by unfold stB stBc stC; rw [mayR_F]
def okRc (e : Int) (cs : List C4) : Nat → Bool
  | 0 => true
  | k + 1 => match cs[k]? with
    | some x => (okRc e cs k && stBc e x) && (if k = 0 then true else match cs[k - 1]? with
      | some l => decide (cmpI l.1 x.1 < 0)
      | none => true)
    | none => okRc e cs k
theorem okR_c (e : Int) (xs : List StP) : ∀ k, okR e xs k = okRc e (xs.map stC) k
  | 0 => rfl
  | k + 1 => by
    unfold okR okRc
    rw [List.getElem?_map, List.getElem?_map, okR_c e xs k]
    cases xs[k]? with
    | none => rfl
    | some x =>
      simp only [Option.map_some, stB_c]
      cases xs[k - 1]? <;> rfl
def okTc (e : Int) (ts : List (List C4)) : Nat → Bool
  | 0 => inB e 0 16777215 && decide ((ts.length : Int) ≤ 4)
  | k + 1 => match ts[k]? with
    | some t => okTc e ts k && okRc e t t.length
    | none => okTc e ts k
theorem okT_c (e : Int) (ts : List TbP) : ∀ k, okT e ts k = okTc e (ts.map fun t => t.xs.map stC) k
  | 0 => by unfold okT okTc; rw [List.length_map]
  | k + 1 => by
    unfold okT okTc
    rw [List.getElem?_map, okT_c e ts k]
    cases ts[k]? with
    | none => rfl
    | some t =>
      simp only [Option.map_some, tbB, okR_c, List.length_map]
/-- May that be a checkpoint? -/
def ckBc (e : Int) (ts : List (List C4)) : Bool := okTc e ts ts.length
theorem ckB_c (e : Int) (ts : List TbP) : ckB e ts = ckBc e (ts.map fun t => t.xs.map stC) := by unfold ckB ckBc; rw [okT_c, List.length_map]
theorem splitW_map {α β : Type} (f : α → β) : ∀ (each : List Nat) (l : List α), splitW each (l.map f) = (splitW each l).map (List.map f)
  | [], _ => rfl
  | n :: ns, l => by
    simp only [splitW, List.map_cons]
    rw [← List.map_take, ← List.map_drop, splitW_map f ns]
structure PlB (x : Pl) : Prop where
  k : Byt x.k
  f : ∀ f ∈ x.fs, Byt f
  fl : x.fs.length ≤ 3
theorem plP_all {L r : List Int} {x : Pl} (hb : Byt L) (h : plP L = some (x, r)) : PlB x := by
  unfold plP at h
  obtain ⟨t, r1, h1, h⟩ := bindP_inv h
  obtain ⟨k, r2, h2, h⟩ := bindP_inv h
  obtain ⟨fs, r3, h3, h⟩ := bindP_inv h
  obtain ⟨ts, r4, h4, h⟩ := bindP_inv h
  cases h
  have b1 := upP_rest hb h1
  obtain ⟨k1, _, b2⟩ := bytesP_all b1 h2
  obtain ⟨f1, f2, _⟩ := arowP_all b2 h3
  refine ⟨k1, f1, ?_⟩
  unfold mayF at f2
  rw [Bool.and_eq_true, decide_eq_true_eq] at f2
  exact f2.2.2
theorem headP_all {L r : List Int} {x : Hd2} (hb : Byt L) (h : headP L = some (x, r)) : x.2.length ≤ 4 ∧ ∀ m ∈ x.2, m ≤ 4096 := by
  unfold headP at h
  obtain ⟨e, r1, h1, h⟩ := bindP_inv h
  obtain ⟨xs, r2, h2, h⟩ := bindP_inv h
  cases h
  obtain ⟨q1, q2, _⟩ := listP_all (P := fun m : Nat => m ≤ 4096) (fun L x s hb h => ⟨upP_le hb h, upP_rest hb h⟩) (upP_rest hb h1) h2
  exact ⟨q2, q1⟩
theorem posT_small {xs : List Nat} (h1 : xs.length ≤ 4) (h2 : ∀ m ∈ xs, m ≤ 4096) (i : Nat) : posT xs i ≤ 16384 := by
  have hs : ∀ l : List Nat, (∀ m ∈ l, m ≤ 4096) → l.sum ≤ l.length * 4096 := by
    intro l
    induction l with
    | nil => intro _; simp
    | cons y l ih =>
      intro h
      rw [List.sum_cons, List.length_cons, Nat.succ_mul]
      have := h y (by simp)
      have := ih (fun m hm => h m (by simp [hm]))
      omega
  unfold posT
  have := hs (xs.take i) (fun m hm => h2 m (List.mem_of_mem_take hm))
  rw [List.length_take] at this
  have : min i xs.length * 4096 ≤ 4 * 4096 := Nat.mul_le_mul_right _ (by omega)
  omega
theorem frames_byt : ∀ (n : Nat) (L : List Int), L.length ≤ n → Byt L → ∀ p ∈ framesL L, Byt p
  | 0, L, h, hb => by rw [framesL_no (isL_no (by omega))]; simp
  | n + 1, L, h, hb => by
    cases hi : isL L with
    | false => rw [framesL_no hi]; simp
    | true =>
      rw [framesL_yes hi]
      intro p hp
      rcases List.mem_cons.1 hp with rfl | hp
      · have := isL_inv hb hi
        intro x hx
        refine hb x ?_
        rw [this]
        unfold frameL
        simp [hx]
      · have h1 := isL_iff.1 hi
        exact frames_byt n (L.drop (8 + lenL L)) (by rw [List.length_drop]; omega) (fun x hx => hb x (List.mem_of_mem_drop hx)) p hp
/-- What a checkpoint is that bytes tell. -/
def CkRd (L : List Int) (e : Nat) (tabs : List (List C4)) : Prop := ∃ each ps, rckP L = some (e, each, ps) ∧ OkW each (ps.map Pl.t) ∧ tabs = splitW each (ps.map plC) ∧ ckBc (e : Int) tabs = true
theorem rckP_yes {L : List Int} (h : erK (framesL L) (framesL L).length = 0) (hw : wholeL L = L.length) : ∃ p ps x, framesL L = p :: ps ∧ readP (headP p) = some x ∧ (∀ q ∈ ps, ∃ y, readP (plP q) = some y) ∧ rckP L = some (x.1, x.2, ps.map ckRow) := by
  cases hF : framesL L with
  | nil => rw [hF] at h; cases h
  | cons p ps =>
    rw [hF] at h
    obtain ⟨h1, h2⟩ := (erK_all p ps ps.length (Nat.le_refl _)).1 h
    rw [List.take_length] at h2
    obtain ⟨x, hx⟩ := Option.isSome_iff_exists.1 h1
    refine ⟨p, ps, x, rfl, hx, fun q hq => Option.isSome_iff_exists.1 ((List.all_eq_true.1 h2) q hq), ?_⟩
    unfold rckP
    rw [hF]
    simp only
    rw [hx]
    simp only
    rw [if_pos ⟨h2, hw⟩]
theorem rckP_no {L : List Int} (h : ¬ erK (framesL L) (framesL L).length = 0 ∨ ¬ wholeL L = L.length) : rckP L = none := by
  unfold rckP
  cases hF : framesL L with
  | nil => rfl
  | cons p ps =>
    rw [hF] at h
    simp only
    cases hx : readP (headP p) with
    | none => rfl
    | some x =>
      simp only
      rw [if_neg]
      rintro ⟨h2, h3⟩
      rcases h with h | h
      · exact h ((erK_all p ps ps.length (Nat.le_refl _)).2 ⟨by rw [hx]; rfl, by rw [List.take_length]; exact h2⟩)
      · exact h h3
theorem rck_none {L : List Int} (h : rckP L = none) : ∀ e tabs, ¬ CkRd L e tabs := by
  rintro e tabs ⟨each, ps, h1, _⟩
  rw [h] at h1
  cases h1
def RckR (w : World) (L : List Int) (r : Ending) (w' : World) : Prop :=
  ((∃ e tabs, CkRd L e tabs ∧ ∃ v ts, r = .returned (.tuple #[.agg #[.int .i64 (e : Int), v], .int .i64 0]) ∧ TabsO w' w.heap.size ts v ∧ ts.map (fun t => t.xs.map stC) = tabs ∧ ∀ t ∈ ts, ∀ x ∈ t.xs, StB x) ∨
    ((∀ e tabs, ¬ CkRd L e tabs) ∧ r = .returned (.tuple #[.agg #[.int .i64 0, .slice none 0 0], .int .i64 4]))) ∧ Below w.heap.size w w'
end Go.Proofs.YtglkndoghnblcaaGreatDoor
namespace Go.Proofs.YtglkndoghnblcaaGreatDoor
open Go.ChangeShapes Go.WideShapes Go.ChangeAt Go.RowKit
set_option linter.unusedVariables false
set_option linter.unusedSimpArgs false
def OrdB (w : World) (B2 B4 B5 B6 B7 base : Nat) : Prop := w.heap.size ≤ B2 ∧ B2 < B4 ∧ B4 < B5 ∧ B5 < B6 ∧ B6 < B7 ∧ B7 < base
/-- The boxes of ReadCheckpoint. -/
structure CkS (w : World) (B2 B4 B5 B6 B7 base : Nat) (W : World) (ev : Int) (sv rv : Value) (er : Int) (bg : Bool) : Prop where
  bel : Below w.heap.size w W
  res : BoxC W B2 #[.int .i64 0, .slice none 0 0] 77
  hd : BoxC W B4 #[.int .i64 ev, sv] 131
  row : BoxC W B5 #[rv] 132
  err : BoxC W B6 #[.int .i64 er] 26
  beg : BoxC W B7 #[.bool bg] 4
  sz : base ≤ W.heap.size
theorem CkS.set7 {w W : World} {B2 B4 B5 B6 B7 base : Nat} {ev er : Int} {sv rv : Value} {bg : Bool} (h : CkS w B2 B4 B5 B6 B7 base W ev sv rv er bg) (o : OrdB w B2 B4 B5 B6 B7 base) (b : Bool) : CkS w B2 B4 B5 B6 B7 base (W.setCell ⟨B7, 0, none⟩ (.bool b)) ev sv rv er b ∧ KK base W (W.setCell ⟨B7, 0, none⟩ (.bool b)) := by
  obtain ⟨o1, o2, o3, o4, o5, o6⟩ := o
  exact ⟨⟨h.bel.setCell (p := ⟨B7, 0, none⟩) (by simp; omega) _, BoxC.oth (by omega) h.res, BoxC.oth (by omega) h.hd, BoxC.oth (by omega) h.row, BoxC.oth (by omega) h.err, h.beg.put 0 _, by simpa [World.setCell] using h.sz⟩, KK.box _ h.beg (by decide)⟩
theorem CkS.set6 {w W : World} {B2 B4 B5 B6 B7 base : Nat} {ev er : Int} {sv rv : Value} {bg : Bool} (h : CkS w B2 B4 B5 B6 B7 base W ev sv rv er bg) (o : OrdB w B2 B4 B5 B6 B7 base) (e : Int) : CkS w B2 B4 B5 B6 B7 base (W.setCell ⟨B6, 0, none⟩ (.int .i64 e)) ev sv rv e bg ∧ KK base W (W.setCell ⟨B6, 0, none⟩ (.int .i64 e)) := by
  obtain ⟨o1, o2, o3, o4, o5, o6⟩ := o
  exact ⟨⟨h.bel.setCell (p := ⟨B6, 0, none⟩) (by simp; omega) _, BoxC.oth (by omega) h.res, BoxC.oth (by omega) h.hd, BoxC.oth (by omega) h.row, h.err.put 0 _, BoxC.oth (by omega) h.beg, by simpa [World.setCell] using h.sz⟩, KK.box _ h.err (by decide)⟩
theorem CkS.set5 {w W : World} {B2 B4 B5 B6 B7 base : Nat} {ev er : Int} {sv rv : Value} {bg : Bool} (h : CkS w B2 B4 B5 B6 B7 base W ev sv rv er bg) (o : OrdB w B2 B4 B5 B6 B7 base) (v : Value) : CkS w B2 B4 B5 B6 B7 base (W.setCell ⟨B5, 0, none⟩ (v)) ev sv v er bg ∧ KK base W (W.setCell ⟨B5, 0, none⟩ (v)) := by
  obtain ⟨o1, o2, o3, o4, o5, o6⟩ := o
  exact ⟨⟨h.bel.setCell (p := ⟨B5, 0, none⟩) (by simp; omega) _, BoxC.oth (by omega) h.res, BoxC.oth (by omega) h.hd, h.row.put 0 _, BoxC.oth (by omega) h.err, BoxC.oth (by omega) h.beg, by simpa [World.setCell] using h.sz⟩, KK.box _ h.row (by decide)⟩
theorem CkS.set40 {w W : World} {B2 B4 B5 B6 B7 base : Nat} {ev er : Int} {sv rv : Value} {bg : Bool} (h : CkS w B2 B4 B5 B6 B7 base W ev sv rv er bg) (o : OrdB w B2 B4 B5 B6 B7 base) (e : Int) : CkS w B2 B4 B5 B6 B7 base (W.setCell ⟨B4, 0, none⟩ (.int .i64 e)) e sv rv er bg ∧ KK base W (W.setCell ⟨B4, 0, none⟩ (.int .i64 e)) := by
  obtain ⟨o1, o2, o3, o4, o5, o6⟩ := o
  exact ⟨⟨h.bel.setCell (p := ⟨B4, 0, none⟩) (by simp; omega) _, BoxC.oth (by omega) h.res, h.hd.put 0 _, BoxC.oth (by omega) h.row, BoxC.oth (by omega) h.err, BoxC.oth (by omega) h.beg, by simpa [World.setCell] using h.sz⟩, KK.box _ h.hd (by decide)⟩
theorem CkS.set41 {w W : World} {B2 B4 B5 B6 B7 base : Nat} {ev er : Int} {sv rv : Value} {bg : Bool} (h : CkS w B2 B4 B5 B6 B7 base W ev sv rv er bg) (o : OrdB w B2 B4 B5 B6 B7 base) (v : Value) : CkS w B2 B4 B5 B6 B7 base (W.setCell ⟨B4, 1, none⟩ (v)) ev v rv er bg ∧ KK base W (W.setCell ⟨B4, 1, none⟩ (v)) := by
  obtain ⟨o1, o2, o3, o4, o5, o6⟩ := o
  exact ⟨⟨h.bel.setCell (p := ⟨B4, 1, none⟩) (by simp; omega) _, BoxC.oth (by omega) h.res, h.hd.put 1 _, BoxC.oth (by omega) h.row, BoxC.oth (by omega) h.err, BoxC.oth (by omega) h.beg, by simpa [World.setCell] using h.sz⟩, KK.box _ h.hd (by decide)⟩
theorem CkS.below {w W W' : World} {B2 B4 B5 B6 B7 base : Nat} {ev er : Int} {sv rv : Value} {bg : Bool} (h : CkS w B2 B4 B5 B6 B7 base W ev sv rv er bg) (b : Below W.heap.size W W') : CkS w B2 B4 B5 B6 B7 base W' ev sv rv er bg ∧ KK base W W' :=
  ⟨⟨h.bel.trans (b.mono h.bel.size), h.res.below b, h.hd.below b, h.row.below b, h.err.below b, h.beg.below b, Nat.le_trans h.sz b.size⟩, KK.below b⟩
theorem CkS.kept {w W W' : World} {B2 B4 B5 B6 B7 base n sz : Nat} {ev er : Int} {sv rv v : Value} {bg : Bool} {ty : TypeId} {cs : List Value} (h : CkS w B2 B4 B5 B6 B7 base W ev sv rv er bg) (o : OrdB w B2 B4 B5 B6 B7 base) (hty : ty ≠ 5) (ho : W.ownsRow base ty sz v n cs) (g : W.grownBy W' v.ownBlock) : CkS w B2 B4 B5 B6 B7 base W' ev sv rv er bg ∧ KK base W W' := by
  obtain ⟨o1, o2, o3, o4, o5, o6⟩ := o
  have hn : ∀ b, b < base → some b ≠ v.ownBlock := fun b hb e => by
    have := (ho.lt b e.symm).1
    omega
  exact ⟨⟨h.bel.grown g h.bel.size (fun j hj => by have := (ho.lt j hj).1; omega), h.res.kept g (hn _ (by omega)), h.hd.kept g (hn _ (by omega)), h.row.kept g (hn _ (by omega)), h.err.kept g (hn _ (by omega)), h.beg.kept g (hn _ (by omega)), Nat.le_trans h.sz g.size⟩, KK.growT hty ho g⟩
theorem CkS.own {w A B : World} {B2 B4 B5 B6 B7 base : Nat} {ev er : Int} {sv rv : Value} {bg : Bool} {row : Option Nat} (h : CkS w B2 B4 B5 B6 B7 base A ev sv rv er bg) (hb : Below w.heap.size w B) (hg : A.grownBy B row) (hr : ∀ r, row = some r → ∃ o : Obj, A.heap[r]? = some o ∧ o.isCells = false) : CkS w B2 B4 B5 B6 B7 base B ev sv rv er bg :=
  ⟨hb, h.res.own hg hr, h.hd.own hg hr, h.row.own hg hr, h.err.own hg hr, h.beg.own hg hr, Nat.le_trans h.sz hg.size⟩
theorem HdI.oth {FS : List (List Int)} {base k B : Nat} {W W' : World} {ev : Int} {v : Value} (h : HdI FS base k W ev v) (hB : B < base) (g : W.grownBy W' (some B)) : HdI FS base k W' ev v := fun p x h1 h2 h3 => ⟨(h p x h1 h2 h3).1, (h p x h1 h2 h3).2.oth hB g⟩
theorem HdI.below {FS : List (List Int)} {base k : Nat} {W W' : World} {ev : Int} {v : Value} (h : HdI FS base k W ev v) (b : Below W.heap.size W W') : HdI FS base k W' ev v := fun p x h1 h2 h3 => ⟨(h p x h1 h2 h3).1, (h p x h1 h2 h3).2.below b⟩
theorem HdI.own {FS : List (List Int)} {base k : Nat} {W W' : World} {ev : Int} {v : Value} {row : Option Nat} (h : HdI FS base k W ev v) (hg : W.grownBy W' row) (hr : ∀ r, row = some r → ∃ o : Obj, W.heap[r]? = some o ∧ o.isCells = false) : HdI FS base k W' ev v := fun p x h1 h2 h3 => ⟨(h p x h1 h2 h3).1, (h p x h1 h2 h3).2.own hg hr⟩
theorem HdI.kept {FS : List (List Int)} {base k b2 n sz : Nat} {ty : TypeId} {W W' : World} {ev : Int} {v u : Value} {cs : List Value} (h : HdI FS base k W ev v) (hown : W.ownsRow b2 ty sz u n cs) (h2t : 2 ≠ ty) (g : W.grownBy W' u.ownBlock) : HdI FS base k W' ev v := fun p x h1 h2 h3 => ⟨(h p x h1 h2 h3).1, World.ownsRow.kept (h p x h1 h2 h3).2 g (own_apart (h p x h1 h2 h3).2 hown h2t)⟩
theorem HdI.next {FS : List (List Int)} {base k : Nat} {W : World} {ev : Int} {v : Value} (h : HdI FS base k W ev v) (hk : 0 < k) : HdI FS base (k + 1) W ev v := fun p x _ h2 h3 => h p x hk h2 h3
/-- The world while ReadCheckpoint goes over the frames. -/
def CkJ (w : World) (B2 B4 B5 B6 B7 base : Nat) (FS : List (List Int)) (k : Nat) (W : World) : Prop :=
  ∃ ev sa sn sc rv xs, CkS w B2 B4 B5 B6 B7 base W ev (.slice sa sn sc) rv (erK FS k) (decide (0 < k)) ∧ HdI FS base k W ev (.slice sa sn sc) ∧ PlsO W base xs rv ∧ xs = ((FS.take k).drop 1).map ckRow
theorem CkJ.own {w A B : World} {B2 B4 B5 B6 B7 base k : Nat} {FS : List (List Int)} {row : Option Nat} (h : CkJ w B2 B4 B5 B6 B7 base FS k A) (hb : Below w.heap.size w A → Below w.heap.size w B) (hg : A.grownBy B row) (hr : ∀ r, row = some r → ∃ o : Obj, A.heap[r]? = some o ∧ o.isCells = false) : CkJ w B2 B4 B5 B6 B7 base FS k B := by
  obtain ⟨ev, sa, sn, sc, rv, xs, h1, h2, h3, h4⟩ := h
  exact ⟨ev, sa, sn, sc, rv, xs, h1.own (hb h1.bel) hg hr, h2.own hg hr, h3.own hg hr, h4⟩
def erO {α : Type} (o : Option α) : Int := if o.isSome then 0 else 4
theorem RdHd.get {w w' : World} {L : List Int} {r : Ending} (h : RdHd w (readP (headP L)) r w') : ∃ ev sa sn sc, r = .returned (.tuple #[.agg #[.int .i64 ev, .slice sa sn sc], .int .i64 (erO (readP (headP L)))]) ∧ (∀ x, readP (headP L) = some x → ev = (x.1 : Int) ∧ NumsO w' w.heap.size x.2 (.slice sa sn sc)) ∧ Below w.heap.size w w' := by
  rcases h with ⟨⟨h1, rfl⟩ | ⟨x, v, h1, rfl, a, c, rfl, h2⟩, b⟩
  · exact ⟨0, none, 0, 0, by rw [h1]; rfl, fun x hx => (by rw [h1] at hx; cases hx), b⟩
  · exact ⟨_, _, _, _, by rw [h1]; rfl, fun y hy => (by rw [h1] at hy; cases hy; exact ⟨rfl, h2⟩), b⟩
theorem RdPl.get {w w' : World} {L : List Int} {r : Ending} (h : RdPl w (readP (plP L)) r w') : ∃ q : PlQ, q.pl = ckRow L ∧ r = .returned (.tuple #[.agg #[.int .i64 (q.t : Int), .slice q.st.ka q.st.key.length q.st.kc, .slice q.st.ra q.st.R.length q.st.rc, .int .i64 q.st.e, .int .i64 q.st.s], .int .i64 (erO (readP (plP L)))]) ∧ StOw w' w.heap.size q.st ∧ Below w.heap.size w w' := by
  rcases h with ⟨⟨h1, rfl⟩ | ⟨x, v, h1, rfl, h2⟩, b⟩
  · refine ⟨⟨0, none, 0, [], none, 0, [], 0, 0⟩, by unfold ckRow; rw [h1]; rfl, by rw [h1]; rfl, ⟨Int.le_refl _, Int.le_refl _, World.ownsRow_nil _ _ _ _, World.ownsRow_nil _ _ _ _, fun q hq => by simp at hq⟩, b⟩
  · obtain ⟨q, hq, rfl, h3⟩ := h2.get
    exact ⟨q, by unfold ckRow; rw [h1]; exact hq, by rw [h1]; rfl, h3, b⟩
theorem erK_max {FS : List (List Int)} {p : List Int} {k : Nat} (hk : 0 < k) (h : FS[k]? = some p) : max (erK FS k) (erO (readP (plP p))) = erK FS (k + 1) := by
  rw [erK_next hk h]
  unfold erO
  rcases erK_04 FS k with e | e <;> rw [e] <;> cases (readP (plP p)).isSome <;> rfl
end Go.Proofs.YtglkndoghnblcaaGreatDoor
namespace Go.Proofs.YtglkndoghnblcaaGreatDoor
open Go.ChangeShapes Go.WideShapes Go.ChangeAt Go.RowKit
set_option linter.unusedVariables false
set_option linter.unusedSimpArgs false
theorem pl_t (qs : List PlQ) : (qs.map PlQ.pl).map Pl.t = qs.map PlQ.t := by
  rw [List.map_map]
  rfl
theorem tabs_eq {ts : List TbP} {each : List Nat} {qs : List PlQ} (h0 : ∀ q ∈ qs, 0 ≤ q.st.e ∧ 0 ≤ q.st.s) (h : ts.map TbP.xs = splitW each (qs.map PlQ.st)) : ts.map (fun t => t.xs.map stC) = splitW each ((qs.map PlQ.pl).map plC) := by
  have h1 : (qs.map PlQ.pl).map plC = (qs.map PlQ.st).map stC := by
    rw [List.map_map, List.map_map]
    exact List.map_congr_left (fun q hq => plq_c (h0 q hq).1 (h0 q hq).2)
  rw [h1, splitW_map, ← h, List.map_map]
  rfl
theorem row_ok {q : PlQ} {p : List Int} {y : Pl} (hp : Byt p) (h : readP (plP p) = some y) (hq : q.pl = ckRow p) : StB q.st ∧ q.st.R.length ≤ 3 := by
  have h1 := plP_all hp (readP_some h)
  have h2 : q.pl = y := by rw [hq]; unfold ckRow; rw [h]; rfl
  have e1 : q.st.key = y.k := by rw [← h2]; rfl
  have e2 : q.st.R.map P1.bs = y.fs := by rw [← h2]; rfl
  refine ⟨⟨by rw [e1]; exact h1.k, fun p hp => h1.f p.bs (by rw [← e2]; exact List.mem_map_of_mem hp)⟩, ?_⟩
  have := h1.fl
  rw [← e2, List.length_map] at this
  exact this
theorem splitW_le {α : Type} : ∀ (each : List Nat) (l t : List α), t ∈ splitW each l → t.length ≤ l.length
  | [], _, t, h => by simp [splitW] at h
  | n :: ns, l, t, h => by
    rcases List.mem_cons.1 h with rfl | h
    · rw [List.length_take]; omega
    · have := splitW_le ns (l.drop n) t h
      rw [List.length_drop] at this
      omega
theorem NumsO.nu {w : World} {base n c : Nat} {a : Option Addr} {xs : List Nat} (h : NumsO w base xs (.slice a n c)) : n = xs.length ∧ NuR w a (xs.map fun (k : Nat) => (k : Int)) := by
  have e : ncells xs = iv .i64 (xs.map fun (k : Nat) => (k : Int)) := by unfold ncells iv; rw [List.map_map]; rfl
  unfold NumsO at h
  rw [e] at h
  obtain ⟨a2, c2, e2, h2, _⟩ := own_ls h (by simp)
  cases e2
  exact ⟨rfl, NuR.of h2⟩
theorem TabsO.own {w w' : World} {base : Nat} {ts : List TbP} {v : Value} {row : Option Nat} (h : TabsO w base ts v) (hg : w.grownBy w' row) (hr : ∀ r, row = some r → ∃ o : Obj, w.heap[r]? = some o ∧ o.isCells = false) : TabsO w' base ts v := ⟨own_own h.row hg hr, fun t ht => own_own (h.tabs t ht) hg hr, fun t ht x hx => (h.all t ht x hx).own hg hr⟩
theorem rck_eq {L : List Int} {x : Hd2} {ps : List Pl} {e : Nat} {tabs : List (List C4)} (h : rckP L = some (x.1, x.2, ps)) (h2 : CkRd L e tabs) : e = x.1 ∧ OkW x.2 (ps.map Pl.t) ∧ tabs = splitW x.2 (ps.map plC) ∧ ckBc (x.1 : Int) tabs = true := by
  obtain ⟨each, qs, h3, h4, h5, h6⟩ := h2
  rw [h] at h3
  cases h3
  exact ⟨rfl, h4, h5, h6⟩
end Go.Proofs.YtglkndoghnblcaaGreatDoor
namespace Go.Proofs.YtglkndoghnblcaaGreatDoor
open Go.ChangeShapes Go.WideShapes Go.ChangeAt Go.RowKit Go.Shelf
set_option linter.unusedVariables false
set_option linter.unusedSimpArgs false
attribute [local go_sem] Oper.semAt_some
set_option maxRecDepth 100000 in
set_option maxHeartbeats 4000000 in
/-- ReadCheckpoint (30). -/
theorem readck_law (a : Option Addr) (L : List Int) (n cap : Nat) (hn : L.length = n) (hn2 : n ≤ 1000000) (hB : Byt L) (w : World) (hL : Ls .u8 w a cap L) :
    Calls Tryz.prog 32 #[.slice a n cap] w (RckR w L) := by
  have HN := Lib.hid (And.intro hn (And.intro hB hL))
  have WH := Lib.hid (fun W (b : Below w.heap.size w W) => whole_law a L n cap hn hn2 hB W (hL.below b))
  have hwl : wholeL L ≤ 1000000 := Nat.le_trans (whole_le n L (Nat.le_of_eq hn)) (by omega)
  obtain ⟨wl, hwl2⟩ : ∃ wl, wholeL L = wl := ⟨_, rfl⟩
  have HWL := Lib.hid hwl2
  obtain ⟨FS, hFS⟩ : ∃ FS, framesL L = FS := ⟨_, rfl⟩
  have HFS := Lib.hid hFS
  have HLE := Lib.hid (show ∀ k, sumF FS k ≤ 1000000 from fun k => Nat.le_trans (sumF_le FS k) (by rw [← hFS]; exact hwl))
  rw [hwl2] at WH
  clear hn hB hL hFS hwl hwl2
  obtain ⟨i0, hi, hz0, hz1, hz2⟩ := info_parts info140
  refine (callsIn_wide (n := 6)).1 ?_
  refine callsIn_of_wp_marks Tryz.func32 rfl trivial ?_ rfl
  simp only [Tryz.ntmps32, List.size_toArray, List.length_cons, List.length_nil, Nat.reduceAdd, Nat.reduceSub, Array.replicate_succ, Array.replicate_zero, List.push_toArray, List.append_toArray, List.nil_append, List.cons_append]
  refine wpIn_wide.2 ?_
  go_wp2_with fail
  refine (frames_law a n cap _).mono ?_
  rintro e w' ⟨rfl, rfl⟩
  go_wp2_with fail
  refine (wpIn_wide (n := 6)).1 ?_
  rename_i KT hKT
  obtain ⟨W5, hW5⟩ : ∃ W5, ((((((w.alloc (.cells #[.int .i64 0, .slice none 0 0] 77)).alloc (.cells #[.int .i64 0, .slice none 0 0] 131)).alloc (.cells #[.slice none 0 0] 132)).alloc (.cells #[.int .i64 4] 26)).alloc (.cells #[.bool false] 4)).alloc (.cells #[.slice a n cap] 54)) = W5 := ⟨_, rfl⟩
  have hb5 : Below w.heap.size w W5 := by rw [← hW5]; exact ((((((Below.refl _ w).alloc (Nat.le_refl _) _).alloc (by simp) _).alloc (by simp; omega) _).alloc (by simp; omega) _).alloc (by simp; omega) _).alloc (by simp; omega) _
  have b2 : BoxC W5 w.heap.size #[.int .i64 0, .slice none 0 0] 77 := by rw [← hW5]; exact (((((BoxC.new w _ 77).alloc _).alloc _).alloc _).alloc _).alloc _
  have b4 : BoxC W5 (w.heap.size + 1) #[.int .i64 0, .slice none 0 0] 131 := by
    rw [← hW5]; have := (BoxC.new (w.alloc (.cells #[.int .i64 0, .slice none 0 0] 77)) #[.int .i64 0, .slice none 0 0] 131); refine BoxC.alloc (BoxC.alloc (BoxC.alloc (BoxC.alloc ?_ _) _) _) _; simpa using this
  have b5 : BoxC W5 (w.heap.size + 1 + 1) #[.slice none 0 0] 132 := by
    rw [← hW5]; have := (BoxC.new ((w.alloc (.cells #[.int .i64 0, .slice none 0 0] 77)).alloc (.cells #[.int .i64 0, .slice none 0 0] 131)) #[.slice none 0 0] 132); refine BoxC.alloc (BoxC.alloc (BoxC.alloc ?_ _) _) _; simpa using this
  have b6 : BoxC W5 (w.heap.size + 1 + 1 + 1) #[.int .i64 4] 26 := by
    rw [← hW5]; have := (BoxC.new (((w.alloc (.cells #[.int .i64 0, .slice none 0 0] 77)).alloc (.cells #[.int .i64 0, .slice none 0 0] 131)).alloc (.cells #[.slice none 0 0] 132)) #[.int .i64 4] 26); refine BoxC.alloc (BoxC.alloc ?_ _) _; simpa using this
  have b7 : BoxC W5 (w.heap.size + 1 + 1 + 1 + 1) #[.bool false] 4 := by
    rw [← hW5]; have := (BoxC.new ((((w.alloc (.cells #[.int .i64 0, .slice none 0 0] 77)).alloc (.cells #[.int .i64 0, .slice none 0 0] 131)).alloc (.cells #[.slice none 0 0] 132)).alloc (.cells #[.int .i64 4] 26)) #[.bool false] 4); refine BoxC.alloc ?_ _; simpa using this
  have bF : BoxC W5 (w.heap.size + 1 + 1 + 1 + 1 + 1) #[.slice a n cap] 54 := by
    rw [← hW5]; have := (BoxC.new (((((w.alloc (.cells #[.int .i64 0, .slice none 0 0] 77)).alloc (.cells #[.int .i64 0, .slice none 0 0] 131)).alloc (.cells #[.slice none 0 0] 132)).alloc (.cells #[.int .i64 4] 26)).alloc (.cells #[.bool false] 4)) #[.slice a n cap] 54); simpa using this
  have hs5 : W5.heap.size = w.heap.size + 6 := by rw [← hW5]; simp
  rw [hW5]
  clear hW5
  obtain ⟨B2, hB2⟩ : ∃ B, w.heap.size = B := ⟨_, rfl⟩
  obtain ⟨B4, hB4⟩ : ∃ B, B2 + 1 = B := ⟨_, rfl⟩
  obtain ⟨B5, hB5⟩ : ∃ B, B4 + 1 = B := ⟨_, rfl⟩
  obtain ⟨B6, hB6⟩ : ∃ B, B5 + 1 = B := ⟨_, rfl⟩
  obtain ⟨B7, hB7⟩ : ∃ B, B6 + 1 = B := ⟨_, rfl⟩
  obtain ⟨BF, hBF⟩ : ∃ B, B7 + 1 = B := ⟨_, rfl⟩
  have HO := Lib.hid (show OrdB w B2 B4 B5 B6 B7 W5.heap.size from ⟨by omega, by omega, by omega, by omega, by omega, by omega⟩)
  have HB2 := Lib.hid hB2
  rw [hB2] at b2 b4 b5 b6 b7 bF ⊢
  rw [hB4] at b4 b5 b6 b7 bF ⊢
  rw [hB5] at b5 b6 b7 bF ⊢
  rw [hB6] at b6 b7 bF ⊢
  rw [hB7] at b7 bF ⊢
  rw [hBF] at bF ⊢
  have hsq : SeqX Fence.wide 5 Tryz.prog 100 #[.pointer (some ⟨BF, 0, none⟩)] encF (KpB W5.heap.size) (PxF W5.heap.size FS) FS.length W5 := by
    have := frames_x 5 (by omega) (w := W5) a L n cap HN.out.1 hn2 HN.out.2.1 (HN.out.2.2.below hb5) BF bF
    rw [HFS.out] at this
    exact this
  have hbs : w.heap.size ≤ W5.heap.size := by omega
  clear hB2 hB4 hB5 hB6 hB7 hBF hs5 bF
  obtain ⟨Bs, hBs⟩ : ∃ Bs, W5.heap.size = Bs := ⟨_, rfl⟩
  refine wp_range_x1 rfl (by omega) (gf := 100) (lb := #[.pointer (some ⟨BF, 0, none⟩)]) rfl trivial (enters_of Tryz.func100 (by kernel_rfl) rfl)
    hsq KpB.trans (fun A => KpB.refl _ A) (fun W l o o' h1 h2 h3 h4 => KpB.put W l o o' h1 h2 h3 h4)
    (fun k x W l o o' h1 h2 h3 h4 hp => hp.kp (KpB.put W l o o' h1 h2 h3 h4)) (fun _ => rfl)
    (fun k W => CkJ w B2 B4 B5 B6 B7 W5.heap.size FS k W) (fun _ _ => False)
    (fun s A B row hs hg hr => hs.own (fun hb => hb.grown hg hb.size (fun j e => by have := (hr j e).1; omega)) hg (fun r e => (hr r e).2))
    (fun s A B row hs _ _ => hs)
    ⟨0, none, 0, 0, .slice none 0 0, [], ⟨hb5, b2, b4, b5, b6, b7, Nat.le_refl _⟩, fun p x h => by omega, PlsO.nil _ _, by simp⟩
    ?a1 ?assign ?body ?done ?stop
  case assign =>
    rintro l x W K hK
    dsimp only [encF, P1.v]
    gi_wp2
    exact hK
  case body =>
    rintro l k x W hk hI hpx
    rw [hBs] at hI hpx HO ⊢
    clear hb5 b2 b4 b5 b6 b7 hsq hBs hbs
    obtain ⟨ev, sa, sn, sc, rv, xs, hS, hH, hP, hxs⟩ := hI
    have hlen := hpx.len
    have hat := hpx.at_
    obtain ⟨pl, hpl⟩ : ∃ pl, x.bs.length = pl := ⟨_, rfl⟩
    have HPL := Lib.hid hpl
    have HSP := Lib.hid hS
    by_cases hk0 : k = 0
    · subst hk0
      have z7 := hS.beg.cell 0
      have f7 := hS.beg.frozen 0
      simp at z7
      obtain ⟨s7, k7⟩ := hS.set7 HO.out true
      have hpx7 := hpx.kp k7.kb
      have HRD := Lib.hid (readhd_law x.ad x.bs x.bs.length x.cap rfl (by omega) hpx.byt _ hpx7.lies.ls)
      have HS7 := Lib.hid s7
      have HK7 := Lib.hid k7
      have HAT := Lib.hid hat
      have HXS := Lib.hid hxs
      have HH7 := Lib.hid (hP.oth (B := B7) HO.out.2.2.2.2.2 (oth_set _ B7 0 (.bool true)))
      rw [hpl] at HRD hlen ⊢
      clear hS hH hP hxs hpx hpx7 s7 k7 hpl hat
      gi_wp2_with fail
      refine ⟨trivial, ?_⟩
      refine (CallsIn.inRound l (callsIn_wide.2 HRD.out)).mono ?_
      rintro r w1 hr
      obtain ⟨ev1, sa1, sn1, sc1, rfl, hx1, b1⟩ := hr.get
      obtain ⟨s1, k1⟩ := HS7.out.below b1
      obtain ⟨s2, k2⟩ := s1.set40 HO.out ev1
      obtain ⟨s3, k3⟩ := s2.set41 HO.out (.slice sa1 sn1 sc1)
      obtain ⟨s4, k4⟩ := s3.set6 HO.out (erO (readP (headP x.bs)))
      have x0 := s1.hd.cell 0
      have x1 := s1.hd.cell 1
      have f0 := s1.hd.frozen 0
      have f1 := s1.hd.frozen 1
      have g0 := s1.err.cell 0
      have g1 := s1.err.frozen 0
      simp only [List.getElem?_toArray, List.getElem?_cons_zero, List.getElem?_cons_succ] at x0 x1 g0
      have HKK := Lib.hid ((((HK7.out.trans k1).trans k2).trans k3).trans k4)
      have HS4 := Lib.hid s4
      have HO4 := HO.out.2.1
      have HO5 := HO.out.2.2.1
      have HO6 := HO.out.2.2.2.1
      have hne : B6 ≠ B4 := by omega
      have HP4 := Lib.hid ((((HH7.out.below b1).oth (B := B4) (by have := HO.out.2.2.2.2; omega) (oth_set _ B4 0 (.int .i64 ev1))).oth (B := B4) (by have := HO.out.2.2.2.2; omega) (oth_set _ B4 1 (.slice sa1 sn1 sc1))).oth (B := B6) (by have := HO.out.2.2.2.2; omega) (oth_set _ B6 0 (.int .i64 (erO (readP (headP x.bs))))))
      have HX4 := Lib.hid (show ∀ y, readP (headP x.bs) = some y → ev1 = (y.1 : Int) ∧ NumsO _ Bs y.2 (.slice sa1 sn1 sc1) from fun y hy => ⟨(hx1 y hy).1, ((((hx1 y hy).2.base (by have := HS7.out.sz; exact this)).oth (B := B4) (by have := HO.out.2.2.2.2; omega) (oth_set _ B4 0 (.int .i64 ev1))).oth (B := B4) (by have := HO.out.2.2.2.2; omega) (oth_set _ B4 1 (.slice sa1 sn1 sc1))).oth (B := B6) (by have := HO.out.2.2.2.2; omega) (oth_set _ B6 0 (.int .i64 (erO (readP (headP x.bs)))))⟩)
      obtain ⟨er, her⟩ : ∃ er, erO (readP (headP x.bs)) = er := ⟨_, rfl⟩
      have HER := Lib.hid her
      rw [her] at HS4 HKK HP4 HX4 ⊢
      clear s1 s2 s3 s4 k1 k2 k3 k4 hx1 her hr
      gi_wp2_with fail
      refine ⟨HKK.out.ko.from _, HKK.out.kb, ev1, sa1, sn1, sc1, rv, xs, ?_, ?_, HP4.out, ?_⟩
      · have e1 : erK FS 1 = er := by rw [erK_head HAT.out, ← HER.out]; rfl
        rw [e1]
        exact HS4.out
      · intro p y _ h2 h3
        have e2 : p = x.bs := by have h4 := HAT.out; rw [h2] at h4; exact Option.some.inj h4
        subst e2
        exact HX4.out y h3
      · rw [HXS.out]
        simp
    · have hk1 : 0 < k := by omega
      have z7 := hS.beg.cell 0
      have f7 := hS.beg.frozen 0
      simp [hk1] at z7
      have hS' := hS
      rw [decide_eq_true hk1] at hS'
      have HSP := Lib.hid hS'
      clear hS'
      have HRD := Lib.hid (readpl_law x.ad x.bs x.bs.length x.cap rfl (by omega) hpx.byt W hpx.lies.ls)
      have HAT := Lib.hid hat
      have HXS := Lib.hid hxs
      have HH := Lib.hid hH
      have HPP := Lib.hid hP
      rw [hpl] at HRD hlen ⊢
      clear hS hH hP hxs hpx hpl hat
      gi_wp2_with fail
      refine ⟨trivial, ?_⟩
      refine (CallsIn.inRound l (callsIn_wide.2 HRD.out)).mono ?_
      rintro r w1 hr
      obtain ⟨q, hq, rfl, ho, b1⟩ := hr.get
      obtain ⟨s1, k1⟩ := HSP.out.below b1
      obtain ⟨kl, hkl⟩ : ∃ kl, q.st.key.length = kl := ⟨_, rfl⟩
      obtain ⟨rl, hrl⟩ : ∃ rl, q.st.R.length = rl := ⟨_, rfl⟩
      have HKR := Lib.hid (And.intro hkl hrl)
      rw [hkl, hrl]
      obtain ⟨s2, k2⟩ := s1.below (bl1 w1 (.cells #[.int .i64 (q.t : Int), .slice q.st.ka kl q.st.kc, .slice q.st.ra rl q.st.rc, .int .i64 q.st.e, .int .i64 q.st.s] 137))
      have bq : BoxC (w1.alloc (.cells #[.int .i64 (q.t : Int), .slice q.st.ka kl q.st.kc, .slice q.st.ra rl q.st.rc, .int .i64 q.st.e, .int .i64 q.st.s] 137)) w1.heap.size #[.int .i64 (q.t : Int), .slice q.st.ka kl q.st.kc, .slice q.st.ra rl q.st.rc, .int .i64 q.st.e, .int .i64 q.st.s] 137 := BoxC.new _ _ _
      have HE := Lib.hid (erK_max hk1 HAT.out)
      have hle : erK FS k ≤ erK FS (k + 1) := by rw [← HE.out]; exact Int.le_max_left _ _
      obtain ⟨er, her⟩ : ∃ er, erK FS k = er := ⟨_, rfl⟩
      obtain ⟨eb, heb⟩ : ∃ eb, erO (readP (plP x.bs)) = eb := ⟨_, rfl⟩
      obtain ⟨en, hen⟩ : ∃ en, erK FS (k + 1) = en := ⟨_, rfl⟩
      rw [heb]
      rw [her, heb, hen] at HE
      rw [her] at s1 s2
      have g0 := s2.err.cell 0
      have g1 := s2.err.frozen 0
      simp only [List.getElem?_toArray, List.getElem?_cons_zero] at g0
      clear hkl hrl hr z7 f7
      gi_upto_region 12 with (fail)
      have hif : (if er < eb then eb else er) = en := by
        rw [← HE.out]
        split <;> omega
      rw [hif]
      obtain ⟨s3, k3⟩ := s2.set6 HO.out en
      have hwb : Bs ≤ w1.heap.size := s1.sz
      have bq3 : BoxC ((w1.alloc (.cells #[.int .i64 (q.t : Int), .slice q.st.ka kl q.st.kc, .slice q.st.ra rl q.st.rc, .int .i64 q.st.e, .int .i64 q.st.s] 137)).setCell ⟨B6, 0, none⟩ (.int .i64 en)) w1.heap.size #[.int .i64 (q.t : Int), .slice q.st.ka kl q.st.kc, .slice q.st.ra rl q.st.rc, .int .i64 q.st.e, .int .i64 q.st.s] 137 := BoxC.oth (by have := HO.out.2.2.2.2; omega) bq
      have hB6 : B6 < Bs := by have := HO.out.2.2.2.2; omega
      have hB5 : B5 < Bs := by have := HO.out.2.2.2; omega
      have hP3 := ((HPP.out.below b1).below (bl1 w1 (.cells #[.int .i64 (q.t : Int), .slice q.st.ka kl q.st.kc, .slice q.st.ra rl q.st.rc, .int .i64 q.st.e, .int .i64 q.st.s] 137))).oth hB6 (oth_set _ B6 0 (.int .i64 en))
      have hH3 := ((HH.out.below b1).below (bl1 w1 (.cells #[.int .i64 (q.t : Int), .slice q.st.ka kl q.st.kc, .slice q.st.ra rl q.st.rc, .int .i64 q.st.e, .int .i64 q.st.s] 137))).oth hB6 (oth_set _ B6 0 (.int .i64 en))
      have ho3 := ((ho.base (show Bs ≤ W.heap.size from HSP.out.sz)).below (bl1 w1 (.cells #[.int .i64 (q.t : Int), .slice q.st.ka kl q.st.kc, .slice q.st.ra rl q.st.rc, .int .i64 q.st.e, .int .i64 q.st.s] 137))).oth hB6 (oth_set _ B6 0 (.int .i64 en))
      obtain ⟨W3, hW3⟩ : ∃ W3, (w1.alloc (.cells #[.int .i64 (q.t : Int), .slice q.st.ka kl q.st.kc, .slice q.st.ra rl q.st.rc, .int .i64 q.st.e, .int .i64 q.st.s] 137)).setCell ⟨B6, 0, none⟩ (.int .i64 en) = W3 := ⟨_, rfl⟩
      rw [hW3] at s3 k3 bq3 hP3 hH3 ho3 ⊢
      clear hW3
      obtain ⟨qs, hq1, hq2, hq3⟩ := hP3
      obtain ⟨a0, c0, rfl⟩ := own_form hq2
      obtain ⟨xl, hxl⟩ : ∃ xl, xs.length = xl := ⟨_, rfl⟩
      have hkk : k ≤ 1000000 := by
        have := sumF_ge FS k (by omega)
        have := HLE.out k
        omega
      have hxl2 : xl ≤ 1000000 := by
        rw [← hxl, HXS.out, List.length_map, List.length_drop, List.length_take]
        omega
      rw [hxl] at hq2 s3
      have z0 := s3.row.cell 0
      have y0 := bq3.cell 0
      have y1 := bq3.cell 1
      have y2 := bq3.cell 2
      have y3 := bq3.cell 3
      have y4 := bq3.cell 4
      simp only [List.getElem?_toArray, List.getElem?_cons_zero, List.getElem?_cons_succ] at z0 y0 y1 y2 y3 y4
      obtain ⟨s4, k4⟩ := s3.below (bl1 W3 (.cells #[.int .i64 (q.t : Int), .slice q.st.ka kl q.st.kc, .slice q.st.ra rl q.st.rc, .int .i64 q.st.e, .int .i64 q.st.s] 137))
      have HKK := Lib.hid ((((k1.trans k2).trans k3).trans k4))
      have HS4 := Lib.hid s4
      have HQ1 := Lib.hid hq1
      have HQ2 := Lib.hid hq2
      have HQ3 := Lib.hid (show ∀ u ∈ qs, StOw (W3.alloc (.cells #[.int .i64 (q.t : Int), .slice q.st.ka kl q.st.kc, .slice q.st.ra rl q.st.rc, .int .i64 q.st.e, .int .i64 q.st.s] 137)) Bs u.st from fun u h => (hq3 u h).below (bl1 _ _))
      have HOQ := Lib.hid (ho3.below (bl1 _ (.cells #[.int .i64 (q.t : Int), .slice q.st.ka kl q.st.kc, .slice q.st.ra rl q.st.rc, .int .i64 q.st.e, .int .i64 q.st.s] 137)))
      have HH4 := Lib.hid (hH3.below (bl1 _ (.cells #[.int .i64 (q.t : Int), .slice q.st.ka kl q.st.kc, .slice q.st.ra rl q.st.rc, .int .i64 q.st.e, .int .i64 q.st.s] 137)))
      have HQP := Lib.hid hq
      have HXL := Lib.hid hxl
      have hws : Bs ≤ W3.heap.size := s3.sz
      have HEN := Lib.hid hen
      clear hif hq1 hq2 hq3 ho3 hH3 hq ho s1 s2 s3 s4 k1 k2 k3 k4 hxl bq bq3 b1 g0 g1 hle her heb hen hwb HRD HH HPP
      gi_wp2_with (gi_at_builtin; refine wpListIn_append_own _ rfl (.tmp 30) (.tmp 32) 132 rfl Bs 137 i0 (.agg #[.int .i64 0, .slice none 0 0, .slice none 0 0, .int .i64 0, .int .i64 0]) 5 72 Tryz.underlying132 hi hz0 hz1 hz2 rfl (by decide) _ xl (qcells qs) rfl (HQ2.out.alloc _) ⟨W3.heap.size, 0, none⟩ 1 1 [.int .i64 (q.t : Int), .slice q.st.ka kl q.st.kc, .slice q.st.ra rl q.st.rc, .int .i64 q.st.e, .int .i64 q.st.s] rfl rfl (by intro j u hj; match j, hj with | 0, hj => (simp at hj; subst hj; simp [Addr.add, go_sem]) | 1, hj => (simp at hj; subst hj; simp [Addr.add, go_sem]) | 2, hj => (simp at hj; subst hj; simp [Addr.add, go_sem]) | 3, hj => (simp at hj; subst hj; simp [Addr.add, go_sem]) | 4, hj => (simp at hj; subst hj; simp [Addr.add, go_sem]) | j + 5, hj => simp at hj) (by intro u hu; simp at hu; rcases hu with rfl | rfl | rfl | rfl | rfl <;> rfl) (by unfold maxLen; omega) (by omega) (by simp; omega) ?_)
      intro v10 w10 hown10 hgrow10 _
      obtain ⟨a10, c10, rfl⟩ := own_form hown10
      obtain ⟨s5, k5⟩ := HS4.out.kept HO.out (by decide) (HQ2.out.alloc (.cells #[.int .i64 (q.t : Int), .slice q.st.ka kl q.st.kc, .slice q.st.ra rl q.st.rc, .int .i64 q.st.e, .int .i64 q.st.s] 137)) hgrow10
      obtain ⟨s6, k6⟩ := s5.set5 HO.out (.slice a10 (xl + 1) c10)
      have HP6 := Lib.hid ((PlsO.snoc (p := q) HQ1.out HXL.out (HQ2.out.alloc _) HQ3.out HOQ.out (by unfold PlQ.cells StP.cells; rw [HKR.out.1, HKR.out.2]; exact hown10) hgrow10).oth hB5 (oth_set _ B5 0 (.slice a10 (xl + 1) c10)))
      have HH6 := Lib.hid (((HH4.out.kept (HQ2.out.alloc _) (by decide) hgrow10).oth hB5 (oth_set _ B5 0 (.slice a10 (xl + 1) c10))).next hk1)
      have z10 := s5.row.cell 0
      have f10 := s5.row.frozen 0
      simp only [List.getElem?_toArray, List.getElem?_cons_zero] at z10
      have HKF := Lib.hid ((HKK.out.trans k5).trans k6)
      have HS6 := Lib.hid s6
      clear s5 s6 k5 k6 hown10 hgrow10
      gi_wp2_with fail
      refine ⟨HKF.out.ko.from _, HKF.out.kb, ev, sa, sn, sc, _, _, ?_, HH6.out, HP6.out, ?_⟩
      · rw [HEN.out, decide_eq_true (show 0 < k + 1 by omega)]
        exact HS6.out
      · rw [HXS.out, HQP.out, List.take_add_one, HAT.out]
        simp only [Option.toList_some]
        rw [List.drop_append_of_le_length (by rw [List.length_take]; omega), List.map_append]
        rfl
  case done =>
    rintro D W hD hI hK
    rw [hBs] at hI HO
    obtain ⟨ev, sa, sn, sc, rv, xs, hS, hH, hP, hxs⟩ := hI
    show KT _ _
    refine hKT _ _ ?_
    have HKD := Lib.hid hK
    have HBS := Lib.hid (show w.heap.size < D by rw [hBs] at hD; have := HO.out; unfold OrdB at this; omega)
    clear hKT hsq b2 b4 b5 b6 b7 hb5 hbs hK
    obtain ⟨er, her⟩ : ∃ er, erK FS FS.length = er := ⟨_, rfl⟩
    rw [her] at hS
    have HER := Lib.hid her
    have g0 := hS.err.cell 0
    simp only [List.getElem?_toArray, List.getElem?_cons_zero] at g0
    have hkr : KK Bs W W := KK.below (Below.refl _ _)
    by_cases he : er = 0
    · subst he
      have e3 : ((0 : Int) != 0) = false := rfl
      go_wp2_with fail
      refine (WH.out _ hS.bel).mono ?_; rintro r w3 ⟨rfl, b3⟩
      obtain ⟨s3, k3⟩ := hS.below b3
      have hH3 := hH.below b3
      have hP3 := hP.below b3
      clear g0 hS hH hP b3 WH
      by_cases hw : wl = n
      · subst hw
        have e4 : ((wl : Int) != (wl : Int)) = false := by simp
        obtain ⟨p, ps, x, hF, hxr, hall, hrk⟩ := rckP_yes (L := L) (by rw [HFS.out, HER.out]) (by rw [HWL.out, HN.out.1])
        have hF2 : FS = p :: ps := by rw [← HFS.out, hF]
        obtain ⟨hv1, hnu⟩ := hH3 p x (by rw [hF2]; simp) (by rw [hF2]; rfl) hxr
        subst hv1
        obtain ⟨qs, hq1, hq2, hq3⟩ := hP3
        obtain ⟨ra, rc, rfl⟩ := own_form hq2
        obtain ⟨hsn, hE⟩ := hnu.nu
        have hby := frames_byt _ L (Nat.le_refl _) HN.out.2.1
        have hpb : Byt p := hby p (by rw [hF]; simp)
        obtain ⟨hh1, hh2⟩ := headP_all hpb (readP_some hxr)
        have hxs2 : xs = ps.map ckRow := by rw [hxs, hF2, List.take_length]; rfl
        have hrow : ∀ q ∈ qs, StB q.st ∧ q.st.R.length ≤ 3 := fun q hq => by
          have h1 : q.pl ∈ ps.map ckRow := by rw [← hxs2, ← hq1]; exact List.mem_map_of_mem hq
          obtain ⟨u, hu, e⟩ := List.mem_map.1 h1
          obtain ⟨y, hy⟩ := hall u hu
          exact row_ok (hby u (by rw [hF]; simp [hu])) hy e.symm
        have hxl : xs.length ≤ 1000000 := by
          have h1 := sumF_ge FS FS.length (Nat.le_refl _)
          have h2 := HLE.out FS.length
          rw [hxs2, List.length_map]
          rw [hF2, List.length_cons] at h1
          rw [hF2, List.length_cons] at h2
          omega
        have hql : qs.length = xs.length := by rw [← hq1, List.length_map]
        have HC := Lib.hid (with_law (x.1 : Int) x.2 sa sn sc hsn.symm (by omega) (by have := posT_small hh1 hh2 sn; omega) qs ra xs.length rc hql hxl Bs w3 s3.sz hE hq2 hq3 (fun q hq => (hrow q hq).1))
        obtain ⟨xl, hxl2⟩ : ∃ xl, xs.length = xl := ⟨_, rfl⟩
        rw [hxl2] at HC s3
        have HPT := Lib.hid (show ps.map ckRow = qs.map PlQ.pl by rw [hq1, hxs2])
        have HRK := Lib.hid hrk
        have HHL := Lib.hid (show x.2.length ≤ 1000000 by omega)
        have HROW := Lib.hid hrow
        have HNN := Lib.hid (show ∀ q ∈ qs, 0 ≤ q.st.e ∧ 0 ≤ q.st.s from fun q hq => ⟨(hq3 q hq).e0, (hq3 q hq).s0⟩)
        have HQL := Lib.hid (show qs.length ≤ 1000000 by omega)
        have HK3 := Lib.hid k3
        have HS3 := Lib.hid s3
        have y0 := s3.hd.cell 0
        have y1 := s3.hd.cell 1
        have y2 := s3.row.cell 0
        simp only [List.getElem?_toArray, List.getElem?_cons_zero, List.getElem?_cons_succ] at y0 y1 y2
        obtain ⟨e, he⟩ : ∃ e, x.1 = e := ⟨_, rfl⟩
        have HEE := Lib.hid he
        rw [he] at HC HS3 y0
        have hneB : B6 ≠ w3.heap.size := by have := HO.out.2.2.2.2; have := HS3.out.sz; omega
        clear hF hF2 hxr hall hrk hnu hq1 hq2 hq3 hsn hE hby hpb hh1 hh2 hxs hxs2 hrow hxl hql hH3 s3 k3 he
        go_wp2_with fail
        refine HC.out.mono ?_
        rintro r w4 ⟨⟨hno, rfl⟩ | ⟨hok, v, ts, rfl, hT, hX⟩, b4⟩
        · obtain ⟨s4, k4⟩ := HS3.out.below b4
          obtain ⟨s5, k5⟩ := s4.below (bl1 w4 (.cells #[.int .i64 0, .slice none 0 0] 77))
          obtain ⟨s6, k6⟩ := s5.set6 HO.out 4
          have bx := BoxC.oth (B' := B6) (i := 0) (v := .int .i64 4) (by have := HO.out.2.2.2.2; have := s4.sz; omega) (BoxC.new w4 #[.int .i64 0, .slice none 0 0] 77)
          have g0 := s5.err.cell 0
          have g1 := s5.err.frozen 0
          have g2 := s6.err.cell 0
          have x0 := bx.cell 0
          have x1 := bx.cell 1
          simp only [List.getElem?_toArray, List.getElem?_cons_zero, List.getElem?_cons_succ] at g0 x0 x1
          simp at g2
          have HS6 := Lib.hid s6
          have HK6 := Lib.hid ((((hkr.trans HK3.out).trans k4).trans k5).trans k6)
          have HNO1 := Lib.hid (show ∀ e tabs, ¬ CkRd L e tabs from fun e tabs h => hno (by have h1 := (rck_eq HRK.out h).2.1; rw [HPT.out, pl_t] at h1; exact h1))
          clear s4 s5 s6 k4 k5 k6 bx b4 y0 y1 y2 hno
          go_wp2_with fail
          refine (sureck_no 4 0 none 0 0 (by decide) _).mono ?_; rintro r w7 ⟨rfl, b7⟩
          obtain ⟨s7, k7⟩ := HS6.out.below b7
          have kk7 := HK6.out.trans k7
          clear x0 x1 g0 g1 g2
          have HNO := Lib.hid (show ∀ e tabs, ¬ CkRd L e tabs from HNO1.out)
          have q0 := s7.res.cell 0
          have q1 := s7.res.cell 1
          have f0 := s7.res.frozen 0
          have f1 := s7.res.frozen 1
          simp only [List.getElem?_toArray, List.getElem?_cons_zero, List.getElem?_cons_succ] at q0 q1
          have X9 := Lib.hid ((s7.res.put 0 (.int .i64 0)).put 1 (.slice none 0 0))
          have HB9 := Lib.hid ((s7.bel.setCell (p := ⟨B2, 0, none⟩) HO.out.1 (.int .i64 0)).setCell (p := ⟨B2, 1, none⟩) HO.out.1 (.slice none 0 0))
          have HK9 := Lib.hid (kk7.trans ((KK.box (base := Bs) (i := 0) (.int .i64 0) s7.res (by decide)).trans (KK.box (base := Bs) (i := 1) (.slice none 0 0) (s7.res.put 0 (.int .i64 0)) (by decide))))
          go_wp2_with fail
          have hKd : ((w7.setCell ⟨B2, 0, none⟩ (.int .i64 0)).setCell ⟨B2, 1, none⟩ (.slice none 0 0)).heap[D]? = some (.deferred (some [])) := (HK9.out.ko.from Bs).same D _ (by rw [← hBs]; exact hD) HKD.out rfl
          refine ⟨by simp, .inl ⟨_, _, rfl, run_takeDeferred hKd, ?_⟩⟩
          have X8 := X9.out.own (grownBy_putObj' _ D (.deferred none)) (fun r e => by cases e; exact ⟨_, hKd, rfl⟩)
          have x0 := X8.cell 0
          have x1 := X8.cell 1
          simp at x0 x1
          refine ⟨.tuple #[.agg #[.int .i64 0, .slice none 0 0], .int .i64 4], by simp [results, Tryz.results32, go_sem, x0, x1], ?_⟩
          have hbf := HB9.out.trans (belowK_b (w := w) (Nat.le_refl _) _ D _ (.deferred none) (by have := HBS.out; omega) hKd rfl rfl)
          exact ⟨.inr ⟨HNO.out, rfl⟩, hbf⟩
        · obtain ⟨va, vc, rfl⟩ := own_form hT.row
          obtain ⟨vn, hvn⟩ : ∃ vn, ts.length = vn := ⟨_, rfl⟩
          rw [hvn] at hT ⊢
          obtain ⟨s4, k4⟩ := HS3.out.below b4
          obtain ⟨s5, k5⟩ := s4.below (bl1 w4 (.cells #[.int .i64 (e : Int), .slice va vn vc] 77))
          obtain ⟨s6, k6⟩ := s5.set6 HO.out 0
          have bx := BoxC.oth (B' := B6) (i := 0) (v := .int .i64 0) (by have := HO.out.2.2.2.2; have := s4.sz; omega) (BoxC.new w4 #[.int .i64 (e : Int), .slice va vn vc] 77)
          have g0 := s5.err.cell 0
          have g1 := s5.err.frozen 0
          have g2 := s6.err.cell 0
          have x0 := bx.cell 0
          have x1 := bx.cell 1
          simp only [List.getElem?_toArray, List.getElem?_cons_zero, List.getElem?_cons_succ] at g0 x0 x1
          simp at g2
          have hT6 := (hT.below (bl1 w4 (.cells #[.int .i64 (e : Int), .slice va vn vc] 77))).oth (B := B6) (by have := HO.out.2.2.2.2; omega) (oth_set _ B6 0 (.int .i64 0))
          have hmem : ∀ t ∈ ts, ∀ x ∈ t.xs, StB x ∧ x.R.length ≤ 3 := fun t ht y hy => by
            have h1 : t.xs ∈ splitW x.2 (qs.map PlQ.st) := by rw [← hX]; exact List.mem_map_of_mem ht
            obtain ⟨q, hq, e⟩ := List.mem_map.1 (splitW_mem _ _ _ _ h1 hy)
            rw [← e]
            exact HROW.out q hq
          have HTL := Lib.hid (show ∀ t ∈ ts, t.xs.length ≤ 1000000 ∧ ∀ x ∈ t.xs, x.R.length ≤ 1000000 from fun t ht => ⟨by
            have h1 : t.xs ∈ splitW x.2 (qs.map PlQ.st) := by rw [← hX]; exact List.mem_map_of_mem ht
            have h2 := splitW_le _ _ _ h1
            rw [List.length_map] at h2
            have := HQL.out
            omega, fun y hy => by have := (hmem t ht y hy).2; omega⟩)
          have HMM := Lib.hid (show ∀ t ∈ ts, ∀ x ∈ t.xs, StB x from fun t ht y hy => (hmem t ht y hy).1)
          have HVN := Lib.hid hvn
          have HTE := Lib.hid (tabs_eq HNN.out hX)
          have HOK := Lib.hid hok
          have hvl : vn ≤ 1000000 := by
            have h1 := congrArg List.length hX
            rw [List.length_map, splitW_len, hvn] at h1
            have h2 := HRK.out
            rw [h1]
            by_cases hc : x.2.length ≤ 1000000
            · exact hc
            · exfalso
              exact hc (HHL.out)
          have HT6 := Lib.hid hT6
          have HSU := Lib.hid (fun W (b : Below ((w4.alloc (.cells #[.int .i64 (e : Int), .slice va vn vc] 77)).setCell ⟨B6, 0, none⟩ (.int .i64 0)).heap.size ((w4.alloc (.cells #[.int .i64 (e : Int), .slice va vn vc] 77)).setCell ⟨B6, 0, none⟩ (.int .i64 0)) W) => mayck_law (e : Int) va ts vn vc hvn hvl HTL.out W (by have h := (HT6.out.below b); exact (TabsO.lies h HMM.out).2.2))
          have HS6 := Lib.hid s6
          have HK6 := Lib.hid ((((hkr.trans HK3.out).trans k4).trans k5).trans k6)
          obtain ⟨ok, hck⟩ : ∃ ok, ckB (e : Int) ts = ok := ⟨_, rfl⟩
          rw [hck] at HSU
          have HCK := Lib.hid hck
          clear s4 s5 s6 k4 k5 k6 bx b4 y0 y1 y2 hok hT hT6 hX hmem hvn hck
          go_wp2_with fail
          refine (sureck_law (e : Int) va vn vc ok _ HSU.out).mono ?_; rintro r w7 ⟨rfl, b7⟩
          obtain ⟨s7, k7⟩ := HS6.out.below b7
          have kk7 := HK6.out.trans k7
          have HT7 := Lib.hid (HT6.out.below b7)
          clear x0 x1 g0 g1 g2 HSU
          cases ok with
          | false =>
            simp only [Bool.false_eq_true, if_false]
            have HNO := Lib.hid (show ∀ e tabs, ¬ CkRd L e tabs from fun e2 tabs h => by obtain ⟨h0, h1, h2, h3⟩ := rck_eq HRK.out h; rw [h2, HPT.out, ← HTE.out, ← ckB_c, HEE.out, HCK.out] at h3; cases h3)
            have q0 := s7.res.cell 0
            have q1 := s7.res.cell 1
            have f0 := s7.res.frozen 0
            have f1 := s7.res.frozen 1
            simp only [List.getElem?_toArray, List.getElem?_cons_zero, List.getElem?_cons_succ] at q0 q1
            have X9 := Lib.hid ((s7.res.put 0 (.int .i64 0)).put 1 (.slice none 0 0))
            have HB9 := Lib.hid ((s7.bel.setCell (p := ⟨B2, 0, none⟩) HO.out.1 (.int .i64 0)).setCell (p := ⟨B2, 1, none⟩) HO.out.1 (.slice none 0 0))
            have HK9 := Lib.hid (kk7.trans ((KK.box (base := Bs) (i := 0) (.int .i64 0) s7.res (by decide)).trans (KK.box (base := Bs) (i := 1) (.slice none 0 0) (s7.res.put 0 (.int .i64 0)) (by decide))))
            go_wp2_with fail
            have hKd : ((w7.setCell ⟨B2, 0, none⟩ (.int .i64 0)).setCell ⟨B2, 1, none⟩ (.slice none 0 0)).heap[D]? = some (.deferred (some [])) := (HK9.out.ko.from Bs).same D _ (by rw [← hBs]; exact hD) HKD.out rfl
            refine ⟨by simp, .inl ⟨_, _, rfl, run_takeDeferred hKd, ?_⟩⟩
            have X8 := X9.out.own (grownBy_putObj' _ D (.deferred none)) (fun r e => by cases e; exact ⟨_, hKd, rfl⟩)
            have x0 := X8.cell 0
            have x1 := X8.cell 1
            simp at x0 x1
            refine ⟨.tuple #[.agg #[.int .i64 0, .slice none 0 0], .int .i64 4], by simp [results, Tryz.results32, go_sem, x0, x1], ?_⟩
            have hbf := HB9.out.trans (belowK_b (w := w) (Nat.le_refl _) _ D _ (.deferred none) (by have := HBS.out; omega) hKd rfl rfl)
            exact ⟨.inr ⟨HNO.out, rfl⟩, hbf⟩
          | true =>
            simp only [if_true]
            have q0 := s7.res.cell 0
            have q1 := s7.res.cell 1
            have f0 := s7.res.frozen 0
            have f1 := s7.res.frozen 1
            simp only [List.getElem?_toArray, List.getElem?_cons_zero, List.getElem?_cons_succ] at q0 q1
            have X9 := Lib.hid ((s7.res.put 0 (.int .i64 (e : Int))).put 1 (.slice va vn vc))
            have HB9 := Lib.hid ((s7.bel.setCell (p := ⟨B2, 0, none⟩) HO.out.1 (.int .i64 (e : Int))).setCell (p := ⟨B2, 1, none⟩) HO.out.1 (.slice va vn vc))
            have HK9 := Lib.hid (kk7.trans ((KK.box (base := Bs) (i := 0) (.int .i64 (e : Int)) s7.res (by decide)).trans (KK.box (base := Bs) (i := 1) (.slice va vn vc) (s7.res.put 0 (.int .i64 (e : Int))) (by decide))))
            have HT9 := Lib.hid ((HT7.out.oth (B := B2) (by have := HO.out; unfold OrdB at this; omega) (oth_set _ B2 0 (.int .i64 (e : Int)))).oth (B := B2) (by have := HO.out; unfold OrdB at this; omega) (oth_set _ B2 1 (.slice va vn vc)))
            go_wp2_with fail
            have hKd : ((w7.setCell ⟨B2, 0, none⟩ (.int .i64 (e : Int))).setCell ⟨B2, 1, none⟩ (.slice va vn vc)).heap[D]? = some (.deferred (some [])) := (HK9.out.ko.from Bs).same D _ (by rw [← hBs]; exact hD) HKD.out rfl
            refine ⟨by simp, .inl ⟨_, _, rfl, run_takeDeferred hKd, ?_⟩⟩
            have X8 := X9.out.own (grownBy_putObj' _ D (.deferred none)) (fun r e => by cases e; exact ⟨_, hKd, rfl⟩)
            have x0 := X8.cell 0
            have x1 := X8.cell 1
            simp at x0 x1
            refine ⟨.tuple #[.agg #[.int .i64 (e : Int), .slice va vn vc], .int .i64 0], by simp [results, Tryz.results32, go_sem, x0, x1], ?_⟩
            have hbf := HB9.out.trans (belowK_b (w := w) (Nat.le_refl _) _ D _ (.deferred none) (by have := HBS.out; omega) hKd rfl rfl)
            have hT8 := (HT9.out.own (grownBy_putObj' _ D (.deferred none)) (fun r e => by cases e; exact ⟨_, hKd, rfl⟩)).base (show w.heap.size ≤ Bs by have := HO.out; unfold OrdB at this; omega)
            refine ⟨.inl ⟨e, _, ⟨x.2, _, by rw [HRK.out, HEE.out], by rw [HPT.out, pl_t]; exact HOK.out, by rw [HPT.out], by rw [← HTE.out, ← ckB_c]; exact HCK.out⟩, _, ts, rfl, hT8, HTE.out, HMM.out⟩, hbf⟩
      · have e4 : ((wl : Int) != (n : Int)) = true := by simp; omega
        have e5 : ((wl : Int) == (n : Int)) = false := by rw [beq_eq_false_iff_ne]; omega
        have kk3 := hkr.trans k3
        have HNO := Lib.hid (show ∀ e tabs, ¬ CkRd L e tabs from rck_none (rckP_no (.inr (by rw [HWL.out, HN.out.1]; exact hw))))
        have q0 := s3.res.cell 0
        have q1 := s3.res.cell 1
        have f0 := s3.res.frozen 0
        have f1 := s3.res.frozen 1
        simp only [List.getElem?_toArray, List.getElem?_cons_zero, List.getElem?_cons_succ] at q0 q1
        have X9 := Lib.hid ((s3.res.put 0 (.int .i64 0)).put 1 (.slice none 0 0))
        have HB9 := Lib.hid ((s3.bel.setCell (p := ⟨B2, 0, none⟩) HO.out.1 (.int .i64 0)).setCell (p := ⟨B2, 1, none⟩) HO.out.1 (.slice none 0 0))
        have HK9 := Lib.hid (kk3.trans ((KK.box (base := Bs) (i := 0) (.int .i64 0) s3.res (by decide)).trans (KK.box (base := Bs) (i := 1) (.slice none 0 0) (s3.res.put 0 (.int .i64 0)) (by decide))))
        go_wp2_with fail
        have hKd : ((w3.setCell ⟨B2, 0, none⟩ (.int .i64 0)).setCell ⟨B2, 1, none⟩ (.slice none 0 0)).heap[D]? = some (.deferred (some [])) := (HK9.out.ko.from Bs).same D _ (by rw [← hBs]; exact hD) HKD.out rfl
        refine ⟨by simp, .inl ⟨_, _, rfl, run_takeDeferred hKd, ?_⟩⟩
        have X8 := X9.out.own (grownBy_putObj' _ D (.deferred none)) (fun r e => by cases e; exact ⟨_, hKd, rfl⟩)
        have x0 := X8.cell 0
        have x1 := X8.cell 1
        simp at x0 x1
        refine ⟨.tuple #[.agg #[.int .i64 0, .slice none 0 0], .int .i64 4], by simp [results, Tryz.results32, go_sem, x0, x1], ?_⟩
        have hbf := HB9.out.trans (belowK_b (w := w) (Nat.le_refl _) _ D _ (.deferred none) (by have := HBS.out; omega) hKd rfl rfl)
        exact ⟨.inr ⟨HNO.out, rfl⟩, hbf⟩
    · have e1 : (er != 0) = true := by simp [he]
      have e2 : (er == 0) = false := by rw [beq_eq_false_iff_ne]; exact he
      have HNO := Lib.hid (show ∀ e tabs, ¬ CkRd L e tabs from rck_none (rckP_no (.inl (by rw [HFS.out, HER.out]; exact he))))
      have q0 := hS.res.cell 0
      have q1 := hS.res.cell 1
      have f0 := hS.res.frozen 0
      have f1 := hS.res.frozen 1
      simp only [List.getElem?_toArray, List.getElem?_cons_zero, List.getElem?_cons_succ] at q0 q1
      have X9 := Lib.hid ((hS.res.put 0 (.int .i64 0)).put 1 (.slice none 0 0))
      have HB9 := Lib.hid ((hS.bel.setCell (p := ⟨B2, 0, none⟩) HO.out.1 (.int .i64 0)).setCell (p := ⟨B2, 1, none⟩) HO.out.1 (.slice none 0 0))
      have HK9 := Lib.hid (hkr.trans ((KK.box (base := Bs) (i := 0) (.int .i64 0) hS.res (by decide)).trans (KK.box (base := Bs) (i := 1) (.slice none 0 0) (hS.res.put 0 (.int .i64 0)) (by decide))))
      go_wp2_with fail
      have hKd : ((W.setCell ⟨B2, 0, none⟩ (.int .i64 0)).setCell ⟨B2, 1, none⟩ (.slice none 0 0)).heap[D]? = some (.deferred (some [])) := (HK9.out.ko.from Bs).same D _ (by rw [← hBs]; exact hD) HKD.out rfl
      refine ⟨by simp, .inl ⟨_, _, rfl, run_takeDeferred hKd, ?_⟩⟩
      have X8 := X9.out.own (grownBy_putObj' _ D (.deferred none)) (fun r e => by cases e; exact ⟨_, hKd, rfl⟩)
      have x0 := X8.cell 0
      have x1 := X8.cell 1
      simp at x0 x1
      refine ⟨.tuple #[.agg #[.int .i64 0, .slice none 0 0], .int .i64 4], by simp [results, Tryz.results32, go_sem, x0, x1], ?_⟩
      have hbf := HB9.out.trans (belowK_b (w := w) (Nat.le_refl _) _ D _ (.deferred none) (by have := HBS.out; omega) hKd rfl rfl)
      exact ⟨.inr ⟨HNO.out, rfl⟩, hbf⟩
  case stop =>
    rintro D k W hD hk hf hK
    exact hf.elim
end Go.Proofs.YtglkndoghnblcaaGreatDoor
namespace Go.Proofs.YtglkndoghnblcaaGreatDoor
open Go.ChangeShapes Go.WideShapes Go.ChangeAt Go.RowKit
set_option linter.unusedVariables false
set_option linter.unusedSimpArgs false
set_option maxRecDepth 100000 in
set_option maxHeartbeats 4000000 in
/-- The document's Frame (16). -/
theorem rframe_own (a : Option Addr) (P : List Int) (n cap : Nat) (hn : P.length = n) (hn2 : n ≤ 1000000) (hB : Byt P) (w : World) (hL : Ls .u8 w a cap P) :
    Calls Tryz.prog 31 #[.slice a n cap] w (OwnB w (frameL P)) := by
  have HN := Lib.hid (And.intro hn hL)
  have hw : IntKind.u32.wrap (n : Int) = (n : Int) := by rw [IntKind.wrap_u32]; omega
  have HS := Lib.hid (fun W (b : Below w.heap.size w W) => rsum_law a P n cap hn hn2 hB W (hL.below b).rd)
  have hc : crcV P < 4294967296 := crcV_lt hB
  obtain ⟨s, hs⟩ : ∃ s, crcV P = s := ⟨_, rfl⟩
  rw [hs] at HS hc
  have HFR := Lib.hid (show frameL P = be4 n ++ be4 s ++ P by unfold frameL; rw [hn, hs, List.append_assoc])
  have hfl := frameL_len P
  rw [hn] at hfl
  have HFL := Lib.hid hfl
  clear hn hL hB hs hfl
  go_enter Tryz.func31, Tryz.ntmps31
  go_wp2_with fail
  refine (rword_law n (by omega) _).mono ?_
  rintro e w1 ⟨rfl, ho1, hb1⟩
  have HO1 := Lib.hid ho1
  have HB1 := Lib.hid hb1
  clear ho1 hb1
  go_wp2_with fail
  refine (HS.out _ HB1.out).mono ?_
  rintro e w2 ⟨rfl, rfl⟩
  go_wp2_with fail
  refine (rword_law s hc _).mono ?_
  rintro e w2 ⟨rfl, ho2, hb2⟩
  obtain ⟨a2, c2, e2, hl2, _⟩ := own_ls ho2 rfl
  cases e2
  have HL2 := Lib.hid hl2
  have HO2 := Lib.hid (own_below HO1.out hb2)
  have HB2 := Lib.hid (step_below HB1.out hb2)
  have hs2 := HB2.out.size
  clear ho2 hb2 hl2 HS
  go_wp2_with (at_builtin; refine append_ls eltB rfl (.tmp 6) (.tmp 9) rfl w.heap.size _ 4 (iv .u8 (be4 n)) rfl HO2.out _ _ 4 (be4 s) rfl rfl HL2.out (by omega) hs2 ?_; intro v3 w3 hown3 hgrow3; rw [← iv_append] at hown3; have HO3 := Lib.hid hown3; have HB3 := Lib.hid (HB2.out.grown hgrow3 hs2 (fun j hj => (HO2.out.lt j hj).1)); have hs3 := HB3.out.size; clear hown3 hgrow3; go_wp2_with (at_builtin; refine append_ls eltB rfl (.tmp 10) (.tmp 11) rfl w.heap.size _ 8 (iv .u8 (be4 n ++ be4 s)) rfl HO3.out _ _ n P HN.out.1 rfl (HN.out.2.below HB3.out) (by omega) hs3 ?_; intro v4 w4 hown4 hgrow4; rw [← iv_append, ← HFR.out] at hown4; have HB4 := Lib.hid (HB3.out.grown hgrow4 hs3 (fun j hj => (HO3.out.lt j hj).1)); obtain ⟨a5, c5, hv5⟩ := own_form hown4; subst hv5; have HO4 := Lib.hid hown4; clear hown4 hgrow4))
  go_ret
  exact OwnB.mk HO4.out HFL.out HB4.out
end Go.Proofs.YtglkndoghnblcaaGreatDoor
namespace Go.Proofs.YtglkndoghnblcaaGreatDoor
open Go.ChangeShapes Go.WideShapes Go.ChangeAt Go.RowKit
set_option linter.unusedVariables false
set_option linter.unusedSimpArgs false
set_option maxRecDepth 100000 in
set_option maxHeartbeats 4000000 in
/-- The document's bytes of a row (75). -/
theorem rrow_own (a : Option Addr) (R : List P1) (n cap : Nat) (hn : R.length = n) (hn2 : n ≤ 1000000) (ht : (putL bsW R).length ≤ 1048576) (hl : ∀ p ∈ R, p.bs.length ≤ 1000000) (w : World) (hR : RdR w a R) :
    Calls Tryz.prog 77 #[.slice a n cap] w (OwnB w (putL bsW R)) := by
  have HR := Lib.hid hR
  have HN := Lib.hid (And.intro hn hl)
  have HT := Lib.hid (show (numW n).length + (R.map bsW).flatten.length ≤ 1048576 by rw [← hn, ← putL_len]; exact ht)
  have hw : IntKind.u64.wrap (n : Int) = (n : Int) := by rw [IntKind.wrap_u64]; omega
  clear hR hl ht hn
  go_enter Tryz.func77, Tryz.ntmps77
  go_wp2_with fail
  refine (rnumber_own n (by omega) _).mono ?_
  rintro e w1 ⟨a1, c1, rfl, ho, hl, hb⟩
  have HO1 := Lib.hid ho
  have HB1 := Lib.hid hb
  clear ho hl hb
  obtain ⟨q, hq⟩ : ∃ q, (numW n).length = q := ⟨_, rfl⟩
  have HQ := Lib.hid hq
  rw [hq] at HO1 HT ⊢
  clear hq
  go_wp2_with fail
  go_loopw [3, 4] (fun v i wr => ∃ k : Nat, k ≤ n ∧ i = .int .i64 (k : Int) ∧ wr.ownsRow w.heap.size 5 1 v (q + ((R.take k).map bsW).flatten.length) (iv .u8 (numW n ++ ((R.take k).map bsW).flatten)) ∧ Below w.heap.size w wr) (fun _ i _ => n - (intOf i).toNat)
  case atStart => exact ⟨0, by omega, rfl, by simpa using HO1.out, HB1.out⟩
  case round =>
    clear HO1 HB1
    obtain ⟨k, hk, rfl, hown, B⟩ := hrel
    have HO := Lib.hid hown
    have HB := Lib.hid B
    have hs1 := B.size
    clear hown
    by_cases hlt : k < n
    · have hkl : (k : Int) < (n : Int) := by omega
      obtain ⟨x, hx⟩ : ∃ x, R[k]? = some x := ⟨_, List.getElem?_eq_getElem (by rw [HN.out.1]; exact hlt)⟩
      obtain ⟨b1, o1, e1, cc1, l1⟩ := HR.out.below B k x hx
      subst e1
      have cc2 : wr.cell? ⟨b1, o1 + k, none⟩ = some (.slice x.ad x.bs.length x.cap) := cc1
      have HC := Lib.hid (rbytes_own x.ad x.bs x.bs.length x.cap rfl (HN.out.2 x (List.mem_of_getElem? hx)) wr l1)
      have HS := Lib.hid (flat_take bsW R k x hx)
      have HLE := Lib.hid (show ((R.take k).map bsW).flatten.length + (bsW x).length ≤ (R.map bsW).flatten.length by rw [← List.length_append, ← flat_take bsW R k x hx]; exact flat_le bsW R (k + 1))
      obtain ⟨F, hF⟩ : ∃ F, ((R.take k).map bsW).flatten = F := ⟨_, rfl⟩
      obtain ⟨X, hX⟩ : ∃ X, bsW x = X := ⟨_, rfl⟩
      rw [hF] at HO HS HLE
      have HC2 := Lib.hid (show Calls Tryz.prog 76 #[.slice x.ad x.bs.length x.cap] wr (OwnB wr X) by rw [← hX]; exact HC.out)
      rw [hX] at HS HLE
      obtain ⟨fl, hfl⟩ : ∃ fl, F.length = fl := ⟨_, rfl⟩
      obtain ⟨xl, hxl⟩ : ∃ xl, X.length = xl := ⟨_, rfl⟩
      have HXL := Lib.hid (And.intro hfl hxl)
      rw [hfl] at HO HLE
      rw [hxl] at HLE
      have hsum : q + fl + xl ≤ 1048576 := by have := HT.out; have := HLE.out; omega
      clear hx hF hX hfl hxl B cc1 l1 HC
      go_wp2_with fail
      refine HC2.out.mono ?_
      rintro e w2 ⟨a2, c2, rfl, ho2, hl2, hb2⟩
      have HL2 := Lib.hid hl2.ls
      have HO2 := Lib.hid (own_below HO.out hb2)
      have HB2 := Lib.hid (step_below HB.out hb2)
      have hs2 := HB2.out.size
      rw [HXL.out.2]
      clear ho2 hl2 hb2 HO
      go_wp2_with (at_builtin; refine append_ls eltB rfl (.tmp 15) (.tmp 20) rfl w.heap.size _ (q + fl) (iv .u8 (numW n ++ F)) rfl HO2.out _ _ xl X HXL.out.2 rfl HL2.out hsum hs2 ?_; intro v2 w3 hown2 hgrow2; rw [← iv_append, List.append_assoc] at hown2; have HO3 := Lib.hid hown2; have HB3 := Lib.hid (HB2.out.grown hgrow2 hs2 (fun j hj => (HO2.out.lt j hj).1)); clear hown2 hgrow2)
      go_roundw
      case rel => exact ⟨k + 1, by omega, by go_num, by rw [HS.out, List.length_append, HXL.out.1, HXL.out.2, ← Nat.add_assoc]; exact HO3.out, HB3.out⟩
      case measure => simp [intOf]; omega
    · have hkl : ¬ (k : Int) < (n : Int) := by omega
      obtain rfl : k = n := by omega
      have hPL : numW k ++ ((R.take k).map bsW).flatten = putL bsW R := by
        unfold putL
        rw [HN.out.1, List.take_of_length_le (by rw [HN.out.1]; exact Nat.le_refl _)]
      have hLL : q + ((R.take k).map bsW).flatten.length = (putL bsW R).length := by rw [← hPL, List.length_append, HQ.out]
      have HO4 := HO.out
      rw [hPL, hLL] at HO4
      obtain ⟨a', c', hv⟩ := own_form HO4
      subst hv
      have HX := Lib.hid HO4
      clear hPL hLL HO4 HO B
      obtain ⟨pl, hpl⟩ : ∃ pl, (putL bsW R).length = pl := ⟨_, rfl⟩
      have HPL := Lib.hid hpl
      rw [hpl] at HX ⊢
      clear hpl
      go_wp2_with fail
      go_ret
      exact OwnB.mk HX.out HPL.out HB.out
end Go.Proofs.YtglkndoghnblcaaGreatDoor
