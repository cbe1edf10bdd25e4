/- What 'CatalogTells' stands on: entries told apart, what goes and comes counted; 'has', by a contract. -/
import Derived.Test.YtkgcbhpgkcfkhaaCjn
namespace Go.Proofs.Ytkgcbhpgkcfkhaa
open Go.ChangeShapes Go.WideShapes Go.ChangeAt Go.RowKit Go.Shelf
set_option linter.unusedVariables false
set_option linter.unusedSimpArgs false

/-- An entry is taken apart into what it was made of. -/
theorem split_entry : ∀ (f p k : List Int), (p ++ f).length ≤ 24 → mayK k.length = true → 1 ≤ k.length → splitL p (entryL f k) = some (p ++ f, k)
  | [], p, k, hl, hk, h1 => by
    simp only [entryL, frontL, List.nil_append, List.cons_append, splitL, if_true, List.append_nil] at hl ⊢
    rw [if_pos ⟨hl, hk⟩]
  | x :: f, p, k, hl, hk, h1 => by
    have ih := split_entry f (p ++ [x]) k (by simpa using hl) hk h1
    have e : entryL (x :: f) k = esc x ++ entryL f k := by simp [entryL, frontL]
    rw [e]
    unfold esc
    split
    · rename_i h0
      subst h0
      simp only [List.cons_append, List.nil_append, splitL, if_true, show ¬ (255 : Int) = 1 by decide, if_false]
      rw [ih]; simp
    · rename_i h0
      obtain ⟨y, s, hy⟩ : ∃ y s, entryL f k = y :: s := by
        cases h : entryL f k with
        | nil => have := congrArg List.length h; simp [entryL] at this
        | cons y s => exact ⟨y, s, rfl⟩
      rw [hy, List.cons_append, List.nil_append, splitL, if_neg h0, ← hy, ih]; simp
theorem splitV_entry (f k : List Int) (hf : f.length ≤ 24) (hk : mayK k.length = true) : splitV (entryL f k) = (f, k, 0) := by
  have h1 : 1 ≤ k.length := by unfold mayK at hk; simp at hk; exact hk.1
  rw [splitV, split_entry f [] k (by simpa using hf) hk h1]; rfl
theorem entryL_inj {f g k l : List Int} (hf : f.length ≤ 24) (hg : g.length ≤ 24) (hk : mayK k.length = true) (hl : mayK l.length = true) (h : entryL f k = entryL g l) : f = g ∧ k = l := by
  have h1 := splitV_entry f k hf hk
  rw [h, splitV_entry g l hg hl] at h1
  simp only [Prod.mk.injEq, and_true] at h1
  exact ⟨h1.1.symm, h1.2.symm⟩
theorem named_pos {j : Job} (ok : okB j = true) {k m : Nat} (hk : k < j.T.length) (hm : m < (j.T.getD k 0 + 1).toNat) : (named j)[(nmL 0 (j.T.take k)).length + m]? = some ((k : Int), (m : Int) - 1) := by
  obtain ⟨tl, htl⟩ := nmP_pre j.T k (m + 1) hk hm
  rw [nmP_succ] at htl
  have hpl : (nmP j.T k m).length = (nmL 0 (j.T.take k)).length + m := by simp [nmP, rowN_length]
  rw [named_ok ok, htl, ← hpl]
  simp
theorem ofV_at' (j : Job) (k : Nat) (p : Int × Int) (h : (named j)[k]? = some p) : ofV j (k : Int) = ((k : Int), p.1, p.2, true) := by
  unfold ofV
  rw [idx_split _ _ _ h]
  refine firstV_some (by simp) fun y hy => ?_
  obtain ⟨i, h1, h2⟩ := idx_mem _ _ _ hy
  have hi := (List.getElem?_eq_some_iff.1 h1).1
  rw [List.length_take] at hi
  rw [decide_eq_false_iff_not]
  intro e
  omega
theorem entV_zero {j : Job} {t : Int} {R : List P1} {K : List Int} (hj : j.T.length = j.n) (h : (entV j t R K).2 = 0) : ∃ k : Nat, t = (k : Int) ∧ k < j.T.length ∧ okB j = true ∧ mayK K.length = true ∧ rowOk R = true ∧ entV j t R K = (entL (nmL 0 (j.T.take k)).length (min (j.T.getD k 0).toNat (R.length - 1)) R K, 0) := by
  have hno := entV_no j t R K hj
  have hh : ¬ (okB j = false ∨ t < 0 ∨ (j.n : Int) ≤ t ∨ mayK K.length = false ∨ rowOk R = false) := fun hc => by rw [hno hc] at h; simp at h
  simp only [not_or, Bool.not_eq_false] at hh
  obtain ⟨h1, h2, h3, h4, h5⟩ := hh
  obtain ⟨k, rfl⟩ : ∃ k : Nat, t = (k : Int) := ⟨t.toNat, by omega⟩
  have hk : k < j.T.length := by omega
  exact ⟨k, rfl, hk, h1, h4, h5, entV_yes j k R K h1 hk h4 h5⟩
theorem rowOk_field {R : List P1} (h : rowOk R = true) (i : Nat) : ((R.map P1.bs).getD i []).length ≤ 24 := by
  rcases hp : R[i]? with _ | p
  · simp [List.getD, hp]
  · have : R.length ≠ 0 := fun e => by rw [List.length_eq_zero_iff.1 e] at hp; simp at hp
    have hm : mayR R = true := by simpa [rowOk, this] using h
    have := ((mayR_iff R).1 hm).1 p (List.mem_of_getElem? hp)
    simpa [List.getD, hp] using this
theorem rowOk_len {R : List P1} (h : rowOk R = true) : R.length ≤ 3 := by
  by_cases e : R.length = 0
  · omega
  · have hm : mayR R = true := by simpa [rowOk, e] using h
    exact ((mayR_iff R).1 hm).2.2
theorem entL_get {f m : Nat} {R : List P1} {K : List Int} {i : Nat} {p : Int × List Int} (h : (entL f m R K)[i]? = some p) : i < m ∧ p = (((f + 1 + i : Nat) : Int), entryL ((R.map P1.bs).getD (i + 1) []) K) := by
  have hi := (List.getElem?_eq_some_iff.1 h).1
  rw [entL_length] at hi
  refine ⟨hi, ?_⟩
  simp only [entL, List.getElem?_map, List.getElem?_range hi, Option.map_some, Option.some.injEq] at h
  exact h.symm
theorem entL_nodup (f m : Nat) (R : List P1) (K : List Int) : (entL f m R K).Nodup := by
  unfold entL
  refine List.pairwise_map.2 (List.Pairwise.imp ?_ (List.nodup_range (n := m)))
  intro a b hab e
  simp at e
  omega
theorem fl_not {α : Type} (p : α → Bool) : ∀ l : List α, (l.filter p).length + (l.filter fun x => !p x).length = l.length
  | [] => rfl
  | x :: r => by
    have := fl_not p r
    cases h : p x <;> simp [h] <;> omega
theorem cnt1 {α : Type} [DecidableEq α] (x : α) (r : List α) (hx : x ∉ r) : ∀ C : List α, (C.filter fun y => decide (y ∈ x :: r)).length = C.count x + (C.filter fun y => decide (y ∈ r)).length
  | [] => rfl
  | c :: C => by
    have ih := cnt1 x r hx C
    simp only [List.filter_cons, List.count_cons]
    by_cases e : c = x
    · subst e
      simp only [List.mem_cons, true_or, decide_true, if_true, beq_self_eq_true, hx, decide_false, Bool.false_eq_true, if_false, List.length_cons]
      simp only [List.mem_cons] at ih
      omega
    · have e2 : (c == x) = false := by simpa using e
      simp only [List.mem_cons, e, false_or, e2, Bool.false_eq_true, if_false, Nat.add_zero]
      simp only [List.mem_cons] at ih
      split
      · simp only [List.length_cons]; omega
      · exact ih
theorem cnt_one {α : Type} [DecidableEq α] (x : α) : ∀ C : List α, C.Nodup → C.count x = if x ∈ C then 1 else 0
  | [], _ => rfl
  | c :: C, h => by
    obtain ⟨h1, h2⟩ := List.nodup_cons.1 h
    have ih := cnt_one x C h2
    rw [List.count_cons, ih]
    by_cases e : c = x
    · subst e
      simp [h1]
    · have e2 : (c == x) = false := by simpa using e
      have e3 : x ≠ c := fun h => e h.symm
      simp [e2, e3]
theorem cnt_both {α : Type} [DecidableEq α] : ∀ A C : List α, A.Nodup → C.Nodup → (A.filter fun y => decide (y ∈ C)).length = (C.filter fun y => decide (y ∈ A)).length
  | [], C, _, _ => by
    have : (C.filter fun y => decide (y ∈ ([] : List α))) = [] := List.filter_eq_nil_iff.2 (by simp)
    rw [this]; rfl
  | x :: r, C, hA, hC => by
    obtain ⟨h1, h2⟩ := List.nodup_cons.1 hA
    have ih := cnt_both r C h2 hC
    rw [cnt1 x r h1 C, cnt_one x C hC, List.filter_cons]
    by_cases e : x ∈ C
    · simp only [e, decide_true, if_true, List.length_cons]; omega
    · simp only [e, decide_false, Bool.false_eq_true, if_false]; omega
theorem woS_count (A C : List (Int × List Int)) (hA : A.Nodup) (hC : C.Nodup) : (woS C A).length + A.length = C.length + (woS A C).length := by
  have h1 := fl_not (fun x => decide (x ∈ C)) A
  have h2 := fl_not (fun x => decide (x ∈ A)) C
  have h3 : (A.filter fun x => decide (x ∈ C)).length = (C.filter fun x => decide (x ∈ A)).length := by
    refine Eq.trans (congrArg List.length (List.filter_congr fun x _ => ?_)) ((cnt_both A C hA hC).trans (congrArg List.length (List.filter_congr fun x _ => ?_))) <;> exact decide_eq_decide.2 Iff.rfl
  unfold woS
  omega
/-- All that the walk asks of the lists. -/
structure TellsF (j : Job) (t : Int) (R0 R1 : List P1) (K0 K1 : List Int) : Prop where
  of : ∀ (i : Nat) (p : Int × List Int), (entV j t R0 K0).1[i]? = some p → ofV j p.1 = (p.1, t, (i : Int), true) ∧ splitV p.2 = ((R0.map P1.bs).getD (i + 1) [], K0, 0) ∧ i + 1 < R0.length ∧ p.2.length ≤ 100
  un : ∀ (i l : Nat) (p q : Int × List Int), (entV j t R0 K0).1[i]? = some p → (entV j t R1 K1).1[l]? = some q → K0 ≠ K1 → ¬ (p.1 = q.1 ∧ p.2 = q.2)
  er : (entV j t R1 K0).2 = 0
  cnt : (woS (entV j t R1 K0).1 (entV j t R0 K0).1).length + (entV j t R0 K0).1.length = (entV j t R1 K0).1.length + (woS (entV j t R0 K0).1 (entV j t R1 K0).1).length
  le : R0.length ≤ 3 ∧ R1.length ≤ 3 ∧ (entV j t R0 K0).1.length ≤ 2 ∧ (entV j t R1 K1).1.length ≤ 2 ∧ (entV j t R1 K0).1.length ≤ 2 ∧ K0.length ≤ 32 ∧ K1.length ≤ 32
theorem tells_facts {j : Job} {t : Int} {R0 R1 : List P1} {K0 K1 : List Int} (hj : j.T.length = j.n) (h0 : (entV j t R0 K0).2 = 0) (h1 : (entV j t R1 K1).2 = 0) : TellsF j t R0 R1 K0 K1 := by
  obtain ⟨k, rfl, hk, ok, hk0, hr0, e0⟩ := entV_zero hj h0
  obtain ⟨k', ekk, hk', _, hk1, hr1, e1⟩ := entV_zero hj h1
  obtain rfl : k = k' := by omega
  have e2 := entV_yes j k R1 K0 ok hk hk0 hr1
  have hT := okB_T ok k hk
  have l0 := rowOk_len hr0
  have l1 := rowOk_len hr1
  refine ⟨fun i p hp => ?_, fun i l p q hp hq hne => ?_, by rw [e2], ?_, ?_⟩
  · rw [e0] at hp
    obtain ⟨hi, rfl⟩ := entL_get hp
    have hn := named_pos ok hk (m := i + 1) (by omega)
    have ho := ofV_at' j _ _ hn
    refine ⟨?_, splitV_entry _ _ (rowOk_field hr0 _) hk0, by omega, ?_⟩
    · simp only
      rw [show (nmL 0 (j.T.take k)).length + 1 + i = (nmL 0 (j.T.take k)).length + (i + 1) by omega, ho]
      simp only [Prod.mk.injEq, and_true, true_and]
      omega
    · have := entryL_len ((R0.map P1.bs).getD (i + 1) []) K0
      have := rowOk_field hr0 (i + 1)
      unfold mayK at hk0
      simp at hk0
      simp only
      omega
  · rw [e0] at hp
    rw [e1] at hq
    obtain ⟨hi, rfl⟩ := entL_get hp
    obtain ⟨hl, rfl⟩ := entL_get hq
    rintro ⟨_, he⟩
    exact hne (entryL_inj (rowOk_field hr0 _) (rowOk_field hr1 _) hk0 hk1 he).2
  · rw [e0, e2]
    exact woS_count _ _ (entL_nodup _ _ _ _) (entL_nodup _ _ _ _)
  · rw [e0, e1, e2]
    simp only [entL_length]
    unfold mayK at hk0 hk1
    simp at hk0 hk1
    exact ⟨l0, l1, by omega, by omega, by omega, hk0.2, hk1.2⟩
set_option maxRecDepth 100000 in
set_option maxHeartbeats 2000000 in
theorem has_law (a : Option Addr) (L : List E1) (n ca : Nat) (xt : Int) (xv : P1) (hL : L.length = n) (hn : n ≤ 1000000) (bL : EnB L) (bx : Byt xv.bs) (w : World) (hA : EnR w a L) (hx : Ls .u8 w xv.ad xv.cap xv.bs) :
    Calls Try.prog 54 #[.slice a n ca, .agg #[.int .i64 xt, xv.v]] w fun r w' => r = .returned (.bool (decide ((xt, xv.bs) ∈ enS L))) ∧ Below w.heap.size w w' := by
  obtain ⟨xa, xc, xl⟩ := xv
  have b0 : Below w.heap.size w (w.alloc (.cells #[.int .i64 xt, .slice xa xl.length xc] 91)) := (Below.refl _ _).alloc (Nat.le_refl _) _
  have f0 : (w.alloc (.cells #[.int .i64 xt, .slice xa xl.length xc] 91)).cell? ⟨w.heap.size, 0, none⟩ = some (.int .i64 xt) := by rw [cell_new]; rfl
  have f1 : (w.alloc (.cells #[.int .i64 xt, .slice xa xl.length xc] 91)).cell? ⟨w.heap.size, 1, none⟩ = some (.slice xa xl.length xc) := by rw [cell_new]; rfl
  have HA := Lib.hid (hA.below b0)
  have HX := Lib.hid (hx.below b0)
  have HB0 := Lib.hid b0
  have HL := Lib.hid hL
  have BL := Lib.hid bL
  have BX := Lib.hid bx
  have HV := Lib.hid (inE_iff L (xt, ⟨xa, xc, xl⟩))
  have HV : Hid (decide ((xt, xl) ∈ enS L) = inE L (xt, ⟨xa, xc, xl⟩)) := Lib.hid HV.out.symm
  simp only
  rw [HV.out]
  show Calls Try.prog 54 #[.slice a n ca, .agg #[.int .i64 xt, .slice xa xl.length xc]] w _
  clear hA hx b0 hL bL bx
  go_enter Try.func54, Try.ntmps54
  go_wp2_with fail
  generalize w.alloc (.cells #[.int .i64 xt, .slice xa xl.length xc] 91) = W0 at *
  have hl0 : w.heap.size < W0.heap.size := World.block_lt_of_cell? _ _ f0
  have F0 := Lib.hid (fun W (b : Below W0.heap.size W0 W) => And.intro ((b.cell (p := ⟨w.heap.size, 0, none⟩) hl0).trans f0) ((b.cell (p := ⟨w.heap.size, 1, none⟩) hl0).trans f1))
  clear f0 f1
  go_loopw [5] (fun i wr => ∃ k : Nat, k ≤ n ∧ i = .int .i64 (k : Int) ∧ Hid (∀ q < k, ∀ p, L[q]? = some p → eqE p (xt, ⟨xa, xc, xl⟩) = false) ∧ Hid (Below W0.heap.size W0 wr)) (fun i _ => n - (intOf i).toNat)
  case atStart => exact ⟨0, by omega, rfl, Lib.hid (fun q hq => absurd hq (by omega)), Lib.hid (Below.refl _ _)⟩
  case round =>
    obtain ⟨k, hk, rfl, HP, BB⟩ := hrel
    by_cases hlt : k < n
    · have hkl : (k : Int) < (n : Int) := by omega
      have hk9 : (k : Int) ≤ 1000000 := by omega
      obtain ⟨⟨pt, pv⟩, hp⟩ : ∃ p, L[k]? = some p := ⟨_, List.getElem?_eq_getElem (by rw [HL.out]; exact hlt)⟩
      obtain ⟨b1, o1, e1, c1, g1, l1⟩ := HA.out.below BB.out k _ hp
      subst e1
      obtain ⟨e0, e1⟩ := F0.out _ BB.out
      have q1 : ∀ n, (convert 24 9 (.slice pv.ad pv.bs.length pv.cap)).run Try.prog (wr.drewN n) = .ok (.string (strOfNums pv.bs)) (wr.drewN n) := fun n => kc2 (wr.drewN n) pv.ad pv.bs.length pv.cap pv.bs rfl l1.drewN
      have q2 : ∀ n, (convert 24 9 (.slice xa xl.length xc)).run Try.prog (wr.drewN n) = .ok (.string (strOfNums xl)) (wr.drewN n) := fun n => kc2 (wr.drewN n) xa xl.length xc xl rfl (HX.out.below BB.out).drewN
      have d1 : wr.cell? ⟨b1, o1 + k * 2, none⟩ = some (.int .i64 pt) := c1
      have d3 : wr.cell? ⟨b1, o1 + k * 2 + 1, none⟩ = some (.slice pv.ad pv.bs.length pv.cap) := g1
      have BP := Lib.hid (BL.out _ _ (List.mem_of_getElem? hp)).1
      have HPP := Lib.hid hp
      have HST := Lib.hid (fun (he : eqE (pt, pv) (xt, ⟨xa, xc, xl⟩) = false) => show ∀ q < k + 1, ∀ p, L[q]? = some p → eqE p (xt, ⟨xa, xc, xl⟩) = false from fun q hq p h => by
        by_cases e : q = k
        · subst e; rw [HPP.out] at h; cases h; exact he
        · exact HP.out q (by omega) p h)
      clear c1 g1 hp l1
      by_cases ht : pt = xt
      · subst ht
        have hpq : (pt == pt) = true := by simp
        by_cases hle : pv.bs = xl
        · rw [hle] at q1 d3
          have HE := Lib.hid (show inE L (pt, ⟨xa, xc, xl⟩) = true from List.any_eq_true.2 ⟨_, List.mem_of_getElem? HPP.out, decide_eq_true ⟨rfl, hle⟩⟩)
          clear hle
          go_wp2_with fail
          go_quiet (fail)
          go_wp2_with fail
          try rw [Exit.noGoto_ret]
          go_ret
          exact ⟨ret_bool HE.out.symm, HB0.out.trans ((below_drewN BB.out _).mono HB0.out.size)⟩
        · have hs : ((strOfNums pv.bs).toList == (strOfNums xl).toList) = false := by
            rw [beq_eq_false_iff_ne]
            intro e
            rw [Lib.strOfNums_toList, Lib.strOfNums_toList] at e
            exact hle (str_inj BP.out BX.out (ByteArray.ext (Array.toList_inj.1 (by rw [strOfNums_data, strOfNums_data]; exact e))))
          have HS := Lib.hid (HST.out (decide_eq_false fun h => hle h.2))
          clear hle
          go_wp2_with fail
          go_quiet (fail)
          go_wp2_with fail
          go_roundw
          case rel => exact ⟨k + 1, by omega, by go_num, HS, Lib.hid (below_drewN BB.out _)⟩
          case measure => simp [intOf]; omega
      · have hpq : (pt == xt) = false := by simpa using ht
        have HS := Lib.hid (HST.out (decide_eq_false fun h => ht h.1))
        clear ht
        go_wp2_with fail
        go_quiet (fail)
        go_wp2_with fail
        go_roundw
        case rel => exact ⟨k + 1, by omega, by go_num, HS, Lib.hid (below_drewN BB.out _)⟩
        case measure => simp [intOf]; omega
    · have hkl : ¬ (k : Int) < (n : Int) := by omega
      have HE := Lib.hid (show inE L (xt, ⟨xa, xc, xl⟩) = false from by
        unfold inE
        rw [Bool.eq_false_iff]
        intro h
        obtain ⟨o, ho, he⟩ := List.any_eq_true.1 h
        obtain ⟨q, hq⟩ := List.mem_iff_getElem?.1 ho
        have hql := (List.getElem?_eq_some_iff.1 hq).1
        rw [HP.out q (by have := HL.out; omega) o hq] at he
        cases he)
      go_wp2_with fail
      go_ret
      exact ⟨ret_bool HE.out.symm, HB0.out.trans (BB.out.mono HB0.out.size)⟩
end Go.Proofs.Ytkgcbhpgkcfkhaa
