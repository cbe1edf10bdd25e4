/- The reference's list of trees, by contracts. -/
import Derived.Test.YtkgcbhpgkcfkhaaCjh
namespace Go.Proofs.Ytkgcbhpgkcfkhaa
open Go.ChangeShapes Go.WideShapes Go.ChangeAt Go.RowKit Go.Shelf
set_option linter.unusedVariables false
set_option linter.unusedSimpArgs false

def nv (l : List (Int × Int)) : List Value := l.flatMap fun p => [.int .i64 p.1, .int .i64 p.2]
theorem nv_append (a b : List (Int × Int)) : nv (a ++ b) = nv a ++ nv b := by simp [nv]
theorem nv_length (a : List (Int × Int)) : (nv a).length = a.length * 2 := by
  induction a with
  | nil => rfl
  | cons p r ih => simp [nv] at ih ⊢; omega
theorem nv_at (l : List (Int × Int)) : ∀ (k : Nat) (p : Int × Int), l[k]? = some p → (nv l)[k * 2]? = some (.int .i64 p.1) ∧ (nv l)[k * 2 + 1]? = some (.int .i64 p.2) := by
  induction l with
  | nil => intro k p h; simp at h
  | cons q r ih =>
    intro k p h
    cases k with
    | zero => simp at h; subst h; simp [nv]
    | succ k =>
      have h' : r[k]? = some p := by simpa using h
      have := ih k p h'
      simp only [nv, List.flatMap_cons, List.cons_append, List.nil_append] at this ⊢
      rw [show (k + 1) * 2 = k * 2 + 1 + 1 by omega]
      simpa using this
theorem info66 : (Try.prog.info? 66).map (fun i => (i.zero, i.size, i.bytes)) = some (some (.agg #[.int .i64 0, .int .i64 0]), 2, 16) := by kernel_rfl
/-- A list of trees, read. -/
def NmR (W : World) (a : Option Addr) (l : List (Int × Int)) : Prop := ∀ (k : Nat) (p : Int × Int), l[k]? = some p → ∃ b off, a = some ⟨b, off, none⟩ ∧ W.cell? ⟨b, off + k * 2, none⟩ = some (.int .i64 p.1) ∧ W.cell? ⟨b, off + k * 2 + 1, none⟩ = some (.int .i64 p.2)
theorem NmR.below {W W' : World} {a : Option Addr} {l : List (Int × Int)} (h : NmR W a l) (b : Below W.heap.size W W') : NmR W' a l := fun k p hp => by
  obtain ⟨g, off, e, h1, h2⟩ := h k p hp
  exact ⟨g, off, e, (b.cell (World.block_lt_of_cell? W _ h1)).trans h1, (b.cell (World.block_lt_of_cell? W _ h2)).trans h2⟩
theorem own_nmr {w : World} {base n : Nat} {v : Value} {l : List (Int × Int)} (h : w.ownsRow base 66 2 v n (nv l)) (hn : l.length = n) : ∃ a cap, v = .slice a n cap ∧ NmR w a l := by
  have h' := h
  rcases h.2 with ⟨e, h0⟩ | ⟨g, cap, cur, rfl, hg, _, hc, _⟩
  · have : l = [] := List.length_eq_zero_iff.1 (by omega)
    subst this h0
    exact ⟨none, 0, e, fun k p hp => by simp at hp⟩
  · refine ⟨_, cap, rfl, fun k p hp => ⟨g, 0, rfl, ?_, ?_⟩⟩
    · have hk := (List.getElem?_eq_some_iff.1 hp).1
      rw [Nat.zero_add, h'.cellAt (k * 2) (by omega)]
      exact (nv_at l k p hp).1
    · have hk := (List.getElem?_eq_some_iff.1 hp).1
      rw [Nat.zero_add, h'.cellAt (k * 2 + 1) (by omega)]
      exact (nv_at l k p hp).2
set_option maxRecDepth 100000 in
set_option maxHeartbeats 4000000 in
theorem qnamed_law (j : Job) (w : World) (hj : JobAt w j) :
    Calls Try.prog 34 #[.agg #[.int .i64 j.w, .int .i64 j.l, .int .i64 j.d, .int .i64 j.c, .int .i64 j.k, .int .i64 j.e, .slice j.a j.n j.cap]] w fun r w' => (∃ v, r = .returned v ∧ w'.ownsRow w.heap.size 66 2 v (named j).length (nv (named j))) ∧ Below w.heap.size w w' := by
  obtain ⟨i0, hi, hz0, hz1, hz2⟩ := info_parts info66
  have HJ := Lib.hid hj
  have hle := hj.le
  have hlen := Lib.hid hj.len
  clear hj
  go_enter Try.func34, Try.ntmps34
  go_upto_region 2 with (fail)
  have hb := BoxC.new w #[.int .i64 j.w, .int .i64 j.l, .int .i64 j.d, .int .i64 j.c, .int .i64 j.k, .int .i64 j.e, .slice j.a j.n j.cap] 53
  have hB1 : Below w.heap.size w (w.alloc (.cells #[.int .i64 j.w, .int .i64 j.l, .int .i64 j.d, .int .i64 j.c, .int .i64 j.k, .int .i64 j.e, .slice j.a j.n j.cap] 53)) := (Below.refl _ _).alloc (Nat.le_refl _) _
  have hsz : (w.alloc (.cells #[.int .i64 j.w, .int .i64 j.l, .int .i64 j.d, .int .i64 j.c, .int .i64 j.k, .int .i64 j.e, .slice j.a j.n j.cap] 53)).heap.size = w.heap.size + 1 := by simp
  generalize w.alloc (.cells #[.int .i64 j.w, .int .i64 j.l, .int .i64 j.d, .int .i64 j.c, .int .i64 j.k, .int .i64 j.e, .slice j.a j.n j.cap] 53) = W1 at hb hB1 hsz ⊢
  have c0 := hb.cell 0
  have c1 := hb.cell 1
  have c2 := hb.cell 2
  have c3 := hb.cell 3
  have c4 := hb.cell 4
  have c5 := hb.cell 5
  have c6 := hb.cell 6
  simp only [List.getElem?_toArray, List.getElem?_cons_zero, List.getElem?_cons_succ] at c0 c1 c2 c3 c4 c5 c6
  have C6 := Lib.hid c6
  have HB1 := Lib.hid hB1
  have HSZ := Lib.hid hsz
  clear hb hB1 hsz
  go_wp2_with fail
  refine (qcheck_law j _ (HJ.out.below HB1.out)).mono ?_
  rintro e W2 ⟨rfl, B2⟩
  have HB2 := Lib.hid (show Below (w.heap.size + 1) W1 W2 by rw [← HSZ.out]; exact B2)
  clear B2 c0 c1 c2 c3 c4 c5 c6
  have hfin : ∀ wr, Below (w.heap.size + 1) W1 wr → Below w.heap.size w wr := fun wr h => HB1.out.trans (h.mono (by omega))
  have HFIN := Lib.hid hfin
  clear hfin
  cases hok : okB j
  · have hnm := Lib.hid (named_no hok)
    rw [chk_no hok]
    clear hok
    go_wp2_with fail
    go_ret
    exact ⟨⟨_, rfl, by rw [hnm.out]; exact World.ownsRow_nil _ _ _ _⟩, HFIN.out _ HB2.out⟩
  · have hnm := Lib.hid (named_ok hok)
    have hT := Lib.hid (okB_T hok)
    have hn4 := (okB_n hok).2
    have hn4i : (j.n : Int) ≤ 4 := by omega
    rw [chk_ok hok]
    clear hok
    go_wp2_with fail
    go_loopw [3, 4] (fun v i wr => ∃ k : Nat, k ≤ j.n ∧ i = .int .i64 (k : Int) ∧ wr.ownsRow (w.heap.size + 1) 66 2 v (nmL 0 (j.T.take k)).length (nv (nmL 0 (j.T.take k))) ∧ Below (w.heap.size + 1) W1 wr) (fun _ i _ => j.n - (intOf i).toNat)
    case atStart => exact ⟨0, by omega, rfl, World.ownsRow_nil _ _ _ _, HB2.out⟩
    case round =>
      clear HB2
      obtain ⟨k, hk, rfl, hown, hK⟩ := hrel
      have c6 := (hK.cell (p := ⟨w.heap.size, 6, none⟩) (by simp)).trans C6.out
      by_cases hlt : k < j.n
      · have hkl : (k : Int) < (j.n : Int) := by omega
        have hkT : k < j.T.length := by rw [hlen.out]; exact hlt
        obtain ⟨hx0, hx2⟩ := hT.out k hkT
        obtain ⟨x, hx⟩ : ∃ x : Nat, j.T.getD k 0 = (x : Int) := ⟨(j.T.getD k 0).toNat, by omega⟩
        have hx2 : x ≤ 2 := by omega
        have hx2i : (x : Int) ≤ 2 := by omega
        have HX := Lib.hid hx
        have e0 := nmP_zero j.T k
        rw [← e0] at hown
        have HO := Lib.hid hown
        have HK := Lib.hid hK
        clear hx hkT e0 hown hK
        go_wp2_with fail
        go_loopw [3, 5] (fun v i wr => ∃ m : Nat, m ≤ x + 1 ∧ i = .int .i64 ((m : Int) - 1) ∧ wr.ownsRow (w.heap.size + 1) 66 2 v (nmP j.T k m).length (nv (nmP j.T k m)) ∧ Below (w.heap.size + 1) W1 wr) (fun _ i _ => 5 - (intOf i + 1).toNat)
        case atStart => exact ⟨0, by omega, rfl, HO.out, HK.out⟩
        case round =>
          clear HO HK c6
          obtain ⟨m, hm, rfl, hown, hK⟩ := hrel
          have c6 := (hK.cell (p := ⟨w.heap.size, 6, none⟩) (by simp)).trans C6.out
          obtain ⟨b1, o1, ea, d1⟩ := (HJ.out.ls.below (HFIN.out _ hK)).get k (by rw [hlen.out]; exact hlt)
          rw [HX.out] at d1
          rw [ea] at c6
          clear ea
          have hsz : w.heap.size + 1 ≤ wr.heap.size := by rw [← HSZ.out]; have := hK.size; rw [HSZ.out] at this ⊢; omega
          by_cases hmx : m < x + 1
          · have hml : (m : Int) - 1 < (x : Int) := by omega
            have hq12 : (nmP j.T k m).length ≤ 20 := by
              have h1 := nmL_len j.T k 0 (by rw [hlen.out]; omega) hT.out
              rw [nmP, List.length_append, rowN_length]; omega
            have hL : (nmP j.T k (m + 1)).length = (nmP j.T k m).length + 1 := by rw [nmP_succ]; simp
            have hV : nv (nmP j.T k (m + 1)) = nv (nmP j.T k m) ++ [.int .i64 (k : Int), .int .i64 ((m : Int) - 1)] := by rw [nmP_succ, nv_append]; rfl
            obtain ⟨q, hq⟩ : ∃ q, (nmP j.T k m).length = q := ⟨_, rfl⟩
            rw [hq] at hown hL hq12
            have HL := Lib.hid hL
            have HV := Lib.hid hV
            have HO := Lib.hid hown
            have HK := Lib.hid hK
            clear hq hL hV hown hK
            go_wp2_with (at_builtin; refine wpList_append_own _ rfl (.tmp 26) (.tmp 30) 54 rfl (w.heap.size + 1) 66 i0 (.agg #[.int .i64 0, .int .i64 0]) 2 16 Try.underlying54 hi hz0 hz1 hz2 rfl (by decide) _ q (nv (nmP j.T k m)) rfl (HO.out.alloc _) ⟨wr.heap.size, 0, none⟩ 1 1 [.int .i64 (k : Int), .int .i64 ((m : Int) - 1)] rfl rfl (cell_two_new _ _ _ _) (by intro u hu; simp at hu; rcases hu with rfl | rfl <;> rfl) (by unfold maxLen; omega) (by omega) (by simp; omega) ?_)
            intro v4 w4 hown4 hgrow4 _
            rw [← HV.out, ← HL.out] at hown4
            have b4 : Below (w.heap.size + 1) W1 w4 := HK.out.trans (((Below.refl _ wr).alloc hsz _).grown hgrow4 (by simp; omega) (fun j hj => (HO.out.lt j hj).1))
            have HO4 := Lib.hid hown4
            have HB4 := Lib.hid b4
            clear hown4 hgrow4 b4
            go_wp2_with fail
            go_roundw
            case rel => exact ⟨m + 1, by omega, by first | go_num | (congr 1; omega), HO4.out, HB4.out⟩
            case measure => simp [intOf]; omega
          · have hml : ¬ (m : Int) - 1 < (x : Int) := by omega
            have hme : m = x + 1 := by omega
            have hnx := nmP_next j.T k (by rw [hlen.out]; exact hlt)
            rw [HX.out, show ((x : Int) + 1).toNat = x + 1 by omega, ← hme] at hnx
            rw [hnx] at hown
            have HO := Lib.hid hown
            have HK := Lib.hid hK
            clear hnx hme hown hK
            go_wp2_with fail
            go_roundw
            case rel => exact ⟨k + 1, by omega, by go_num, HO.out, HK.out⟩
            case measure => simp [intOf]; omega
      · have hkl : ¬ (k : Int) < (j.n : Int) := by omega
        have HE := Lib.hid (show wr.ownsRow w.heap.size 66 2 _ (named j).length (nv (named j)) by
          rw [List.take_of_length_le (by rw [hlen.out]; omega)] at hown
          rw [hnm.out]; exact own_base (by omega) hown)
        have HK := Lib.hid hK
        clear hown hK
        go_wp2_with fail
        go_ret
        exact ⟨⟨_, rfl, HE.out⟩, HFIN.out _ HK.out⟩
end Go.Proofs.Ytkgcbhpgkcfkhaa
