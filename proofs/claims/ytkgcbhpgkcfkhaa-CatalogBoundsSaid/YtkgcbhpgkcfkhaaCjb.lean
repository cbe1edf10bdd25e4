/- The iterator over a job's trees, by a contract. -/
import Derived.Test.YtkgcbhpgkcfkhaaCja
import Derived.RangeFuncNested
import Derived.RangeFuncBound
import Derived.RangeFuncBox
import Derived.RangeFuncCalls
import Derived.RangeFuncLeaves
import Derived.Shelf.Abstract
import Derived.Shelf.RegionOpen
import Derived.OwnWalkIn
import Derived.TacticsInMore
import Derived.LoopNIn
import Derived.LoopIn
namespace Go.Proofs.Ytkgcbhpgkcfkhaa
open Go.ChangeShapes Go.WideShapes Go.ChangeAt Go.RowKit Go.Shelf
set_option linter.unusedVariables false
set_option linter.unusedSimpArgs false
attribute [local go_sem] Oper.semAt_some

abbrev Tr := Nat × Int × Int
def encs (x : Tr) : Array Value := #[.int .i64 (x.1 : Int), .agg #[.int .i64 x.2.1, .int .i64 x.2.2]]
def rowN (t m : Nat) : List (Int × Int) := (List.range m).map fun (i : Nat) => ((t : Int), (i : Int) - 1)
def nmL : Nat → List Int → List (Int × Int)
  | _, [] => []
  | t, x :: r => rowN t (x + 1).toNat ++ nmL (t + 1) r
def idx : Nat → List (Int × Int) → List Tr
  | _, [] => []
  | s, p :: r => (s, p.1, p.2) :: idx (s + 1) r
def named (j : Job) : List (Int × Int) := if okB j then nmL 0 j.T else []
theorem idx_append (a b : List (Int × Int)) : ∀ s, idx s (a ++ b) = idx s a ++ idx (s + a.length) b := by
  induction a with
  | nil => intro s; simp [idx]
  | cons p r ih => intro s; simp [idx, ih, Nat.add_assoc, Nat.add_comm 1]
theorem idx_length (a : List (Int × Int)) : ∀ s, (idx s a).length = a.length := by
  induction a with
  | nil => intro s; rfl
  | cons p r ih => intro s; simp [idx, ih]
theorem nmL_append (a b : List Int) : ∀ t, nmL t (a ++ b) = nmL t a ++ nmL (t + a.length) b := by
  induction a with
  | nil => intro t; simp [nmL]
  | cons p r ih => intro t; simp [nmL, ih, Nat.add_assoc, Nat.add_comm 1]
theorem rowN_succ (t m : Nat) : rowN t (m + 1) = rowN t m ++ [((t : Int), (m : Int) - 1)] := by simp [rowN, List.range_succ]
theorem rowN_length (t m : Nat) : (rowN t m).length = m := by simp [rowN]
/-- So far: the tables below k, and m trees of table k. -/
def nmP (T : List Int) (k m : Nat) : List (Int × Int) := nmL 0 (T.take k) ++ rowN k m
theorem nmP_zero (T : List Int) (k : Nat) : nmP T k 0 = nmL 0 (T.take k) := by simp [nmP, rowN]
theorem nmP_succ (T : List Int) (k m : Nat) : nmP T k (m + 1) = nmP T k m ++ [((k : Int), (m : Int) - 1)] := by rw [nmP, rowN_succ, ← List.append_assoc]; rfl
theorem nmP_next (T : List Int) (k : Nat) (hk : k < T.length) : nmP T k (T.getD k 0 + 1).toNat = nmL 0 (T.take (k + 1)) := by
  rw [take_succ T k hk, nmL_append, List.length_take, Nat.min_eq_left (by omega), Nat.zero_add]
  simp [nmP, nmL]
theorem nmP_pre (T : List Int) (k m : Nat) (hk : k < T.length) (hm : m ≤ (T.getD k 0 + 1).toNat) : ∃ t, nmL 0 T = nmP T k m ++ t := by
  have h1 := nmP_next T k hk
  have h2 : nmL 0 T = nmL 0 (T.take (k + 1)) ++ nmL (0 + (T.take (k + 1)).length) (T.drop (k + 1)) := by rw [← nmL_append, List.take_append_drop]
  obtain ⟨d, hd⟩ : ∃ d, (T.getD k 0 + 1).toNat = m + d := ⟨_, (Nat.add_sub_cancel' hm).symm⟩
  have h3 : ∃ t, rowN k (m + d) = rowN k m ++ t := by
    refine ⟨(List.range d).map fun (i : Nat) => ((k : Int), ((m + i : Nat) : Int) - 1), ?_⟩
    rw [rowN, List.range_add, List.map_append, List.map_map]
    rfl
  obtain ⟨t, ht⟩ := h3
  refine ⟨t ++ nmL (0 + (T.take (k + 1)).length) (T.drop (k + 1)), ?_⟩
  rw [h2, ← h1, nmP, hd, ht, nmP]
  simp [List.append_assoc]
theorem nmL_len (T : List Int) (k t : Nat) (hk : k ≤ T.length) (h : ∀ i, i < T.length → 0 ≤ T.getD i 0 ∧ T.getD i 0 ≤ 2) : (nmL t (T.take k)).length ≤ 3 * k := by
  induction k with
  | zero => simp [nmL]
  | succ k ih =>
    have h1 := ih (by omega)
    have h2 := h k (by omega)
    rw [take_succ T k (by omega), nmL_append, List.length_append]
    simp only [nmL, List.append_nil, rowN_length]
    omega
theorem named_ok {j : Job} (h : okB j = true) : named j = nmL 0 j.T := by rw [named, if_pos h]
theorem named_no {j : Job} (h : okB j = false) : named j = [] := by rw [named, if_neg (by rw [h]; simp)]
theorem okB_T {j : Job} (h : okB j = true) : ∀ k, k < j.T.length → 0 ≤ j.T.getD k 0 ∧ j.T.getD k 0 ≤ 2 := fun k hk => by
  have h2 : tB j.T = true := by simp [okB] at h; exact h.2
  simp only [tB, List.all_eq_true] at h2
  have := h2 (j.T[k]) (List.getElem_mem hk)
  simp [inB] at this
  simpa [List.getD, List.getElem?_eq_getElem hk] using this
theorem okB_n {j : Job} (h : okB j = true) : 1 ≤ j.n ∧ j.n ≤ 4 := by
  simp [okB, hB] at h
  omega
theorem chk_ok {j : Job} (h : okB j = true) : chkV j = 0 := by rw [chkV, if_pos h]
theorem chk_no {j : Job} (h : okB j = false) : chkV j = 2 := by rw [chkV, if_neg (by rw [h]; simp)]
/-- What a round keeps: what lay below, and the job's box. -/
def KP (base Bs : Nat) (cs : Array Value) (W W' : World) : Prop := Below base W W' ∧ (BoxC W Bs cs 53 → BoxC W' Bs cs 53)
theorem KP.trans {base Bs : Nat} {cs : Array Value} {A B C : World} (h : KP base Bs cs A B) (k : KP base Bs cs B C) : KP base Bs cs A C := ⟨h.1.trans k.1, fun x => k.2 (h.2 x)⟩
theorem KP.put {base Bs : Nat} {cs : Array Value} {w : World} (hn : base ≤ w.heap.size) (W : World) (l : Nat) (o o' : Obj) (hl : w.heap.size ≤ l) (h : W.heap[l]? = some o) (hc : o.isCells = false) (hw : o.isWalk = false) : KP base Bs cs W (W.putObj l o') :=
  ⟨belowK_b hn W l o o' hl h hc hw, fun hb => by
    have hne : Bs ≠ l := fun e => by subst e; rw [show W.heap[Bs]? = _ from hb] at h; cases h; cases hc
    exact (World.putObj_heap_other hne).trans hb⟩
theorem KP.below {base Bs : Nat} {cs : Array Value} {W W' : World} (hn : base ≤ W.heap.size) (h : Below W.heap.size W W') : KP base Bs cs W W' := ⟨h.mono hn, fun hb => hb.below h⟩
theorem grown_below' {w w' : World} (h : Below w.heap.size w w') : w.grownBy w' none := ⟨h.os, h.tape, h.output, h.size, fun k hk _ => h.block k hk⟩

theorem all_in (j : Job) (w : World) :
    Calls Try.prog 76 #[.agg #[.int .i64 j.w, .int .i64 j.l, .int .i64 j.d, .int .i64 j.c, .int .i64 j.k, .int .i64 j.e, .slice j.a j.n j.cap]] w fun e w' => e = .returned (.func (.func 98) #[] #[.pointer (some ⟨w.heap.size, 0, none⟩)]) ∧ w' = w.alloc (.cells #[.int .i64 j.w, .int .i64 j.l, .int .i64 j.d, .int .i64 j.c, .int .i64 j.k, .int .i64 j.e, .slice j.a j.n j.cap] 53) := by
  have hmf : ∀ (fn : Fn) (first cap : Array Value) (w : World), (Instr.makeFunc fn first cap).run Try.prog w = .ok (.func fn first cap) w := fun _ _ _ _ => rfl
  go_enter Try.func76, Try.ntmps76
  go_wp2
  go_ret
  exact ⟨rfl, rfl⟩

set_option maxRecDepth 100000 in
set_option maxHeartbeats 4000000 in
theorem all_stops (m : Nat) (hm : 1 ≤ m) (j : Job) (w0 : World) (hj : JobAt w0 j) (Bs : Nat) (w : World) (hB0 : Below w0.heap.size w0 w) (hBs : BoxC w Bs #[.int .i64 j.w, .int .i64 j.l, .int .i64 j.d, .int .i64 j.c, .int .i64 j.k, .int .i64 j.e, .slice j.a j.n j.cap] 53) :
    SeqStopsK Fence.wide m Try.prog 98 #[.pointer (some ⟨Bs, 0, none⟩)] encs (KP w0.heap.size Bs #[.int .i64 j.w, .int .i64 j.l, .int .i64 j.d, .int .i64 j.c, .int .i64 j.k, .int .i64 j.e, .slice j.a j.n j.cap]) (fun ys => ys = idx 0 (named j)) (fun pre => ∃ t, idx 0 (named j) = pre ++ t) (named j).length w := fun lp J Jx W hW hJ _ hY h0 => by
  have hb := hBs.below hW
  have hB1 : Below w0.heap.size w0 W := hB0.trans (hW.mono hB0.size)
  have HJ := Lib.hid hj
  have hle := hj.le
  have hlen := Lib.hid hj.len
  clear hj hBs hW hB0
  show CallsIn Fence.wide m Try.prog 98 #[.func (.yield lp) #[] #[], .pointer (some ⟨Bs, 0, none⟩)] W _
  refine callsIn_of_wp Try.func98 rfl trivial ?_ rfl
  simp only [Try.ntmps98, List.size_toArray, List.length_cons, List.length_nil, Nat.reduceAdd, Nat.reduceSub, Array.replicate_succ, Array.replicate_zero, List.push_toArray, List.append_toArray, List.nil_append, List.cons_append]
  have c0 := hb.cell 0
  have c1 := hb.cell 1
  have c2 := hb.cell 2
  have c3 := hb.cell 3
  have c4 := hb.cell 4
  have c5 := hb.cell 5
  have c6 := hb.cell 6
  simp only [List.getElem?_toArray, List.getElem?_cons_zero, List.getElem?_cons_succ] at c0 c1 c2 c3 c4 c5 c6
  obtain ⟨cs, hcs⟩ : ∃ cs, (#[.int .i64 j.w, .int .i64 j.l, .int .i64 j.d, .int .i64 j.c, .int .i64 j.k, .int .i64 j.e, .slice j.a j.n j.cap] : Array Value) = cs := ⟨_, rfl⟩
  rw [hcs] at hY hb
  clear hcs
  gi_wp2_with fail
  refine ⟨trivial, ?_⟩
  refine (callsIn_wide.2 (check_law j _ (HJ.out.below hB1))).mono ?_
  rintro e W1 ⟨rfl, B1⟩
  have J1 : J [] W1 := hJ _ _ _ _ h0 (grown_below' B1) (fun r e => by cases e)
  have hb1 := Lib.hid (hb.below B1)
  have c6' := (B1.cell (p := ⟨Bs, 6, none⟩) hb.lt).trans c6
  have HB1 := Lib.hid (hB1.trans (B1.mono hB1.size))
  have HJ1 := Lib.hid J1
  have hs1 := B1.size
  clear h0 hb B1 J1 hB1 c0 c1 c2 c3 c4 c5 c6
  cases hok : okB j
  · have hnm := Lib.hid (named_no hok)
    rw [chk_no hok]
    clear hok
    gi_wp2_with fail
    refine bodyPost_ret (results_none rfl _ _ _) rfl ?_
    exact ⟨⟨_, rfl⟩, .inl ⟨_, rfl, by rw [hnm.out]; exact HJ1.out⟩⟩
  · have hnm := Lib.hid (named_ok hok)
    have hT := Lib.hid (okB_T hok)
    have hn4 := (okB_n hok).2
    have hn4i : (j.n : Int) ≤ 4 := by omega
    rw [chk_ok hok]
    clear hok
    gi_wp2_with fail
    gi_loopw [3, 13] (fun t i wr => ∃ k : Nat, k ≤ j.n ∧ i = .int .i64 (k : Int) ∧ t = .int .i64 ((nmL 0 (j.T.take k)).length : Int) ∧ Hid (J (idx 0 (nmL 0 (j.T.take k))) wr) ∧ Hid (KP w0.heap.size Bs cs W1 wr)) (fun _ i _ => j.n - (intOf i).toNat)
    case atStart => exact ⟨0, by omega, rfl, rfl, HJ1, Lib.hid ⟨Below.refl _ _, fun h => h⟩⟩
    case round =>
      clear HJ1 c6'
      obtain ⟨k, hk, rfl, rfl, hJs, hK⟩ := hrel
      by_cases hlt : k < j.n
      · have hkl : (k : Int) < (j.n : Int) := by omega
        have hkT : k < j.T.length := by rw [hlen.out]; exact hlt
        obtain ⟨b1, o1, ea, d1⟩ := (HJ.out.ls.below (HB1.out.trans hK.out.1)).get k hkT
        obtain ⟨hx0, hx2⟩ := hT.out k hkT
        obtain ⟨x, hx⟩ : ∃ x : Nat, j.T.getD k 0 = (x : Int) := ⟨(j.T.getD k 0).toNat, by omega⟩
        rw [hx] at d1
        have hx2 : x ≤ 2 := by omega
        have hx2i : (x : Int) ≤ 2 := by omega
        have HX := Lib.hid hx
        have HEA := Lib.hid ea
        have HTL := Lib.hid (show (nmL 0 (j.T.take k)).length ≤ 12 by
          have h1 := nmL_len j.T k 0 (by omega) hT.out
          omega)
        rw [ea]
        have e0 := nmP_zero j.T k
        rw [← e0] at hJs HTL ⊢
        clear hx ea hkT e0
        gi_wp2_with fail
        gi_loopw [3, 6] (fun t i wr => ∃ m : Nat, m ≤ x + 1 ∧ i = .int .i64 ((m : Int) - 1) ∧ t = .int .i64 ((nmP j.T k m).length : Int) ∧ Hid (J (idx 0 (nmP j.T k m)) wr) ∧ Hid (KP w0.heap.size Bs cs W1 wr)) (fun _ i _ => 5 - (intOf i + 1).toNat)
        case atStart => exact ⟨0, by omega, rfl, rfl, hJs, hK⟩
        case round =>
          clear hJs hK d1
          obtain ⟨m, hm, rfl, rfl, hJs, hK⟩ := hrel
          by_cases hmx : m < x + 1
          · have hml : (m : Int) - 1 < (x : Int) := by omega
            have hpre := nmP_pre j.T k (m + 1) (by rw [hlen.out]; exact hlt) (by rw [HX.out]; omega)
            obtain ⟨t, ht⟩ := hpre
            have hbd : (idx 0 (nmP j.T k m)).length < (named j).length := by
              rw [idx_length, hnm.out, ht, nmP_succ]; first | (simp; done) | (simp; omega)
            obtain ⟨fn, tmps, assign, body, hy, hR⟩ := hY _ ((nmP j.T k m).length, (k : Int), (m : Int) - 1) wr hJs.out hbd
            dsimp only [encs] at hy
            have hE : idx 0 (nmP j.T k m) ++ [((nmP j.T k m).length, (k : Int), (m : Int) - 1)] = idx 0 (nmP j.T k (m + 1)) := by
              rw [nmP_succ, idx_append]; simp [idx]
            rw [hE] at hR
            have hL : (nmP j.T k (m + 1)).length = (nmP j.T k m).length + 1 := by rw [nmP_succ]; simp
            have hq12 : (nmP j.T k m).length ≤ 20 := by
              have h1 := nmL_len j.T k 0 (by rw [hlen.out]; omega) hT.out
              rw [nmP, List.length_append, rowN_length]; omega
            obtain ⟨q, hq⟩ : ∃ q, (nmP j.T k m).length = q := ⟨_, rfl⟩
            rw [hq] at hy hL hq12 ⊢
            have HL := Lib.hid hL
            have HT := Lib.hid (show ∃ t, idx 0 (named j) = idx 0 (nmP j.T k (m + 1)) ++ t from ⟨idx (0 + (nmP j.T k (m + 1)).length) t, by rw [hnm.out, ht, idx_append]⟩)
            clear hq hL ht hbd hE
            gi_wp2
            refine hR.mono ?_
            rintro e W3 (⟨rfl, hJ3, hk3⟩ | ⟨rfl, hJx3⟩)
            · have HJ3 := Lib.hid hJ3
              have HK3 := Lib.hid (hK.out.trans hk3)
              clear hJ3 hk3
              gi_wp2
              go_roundw
              case rel => exact ⟨m + 1, by omega, by first | go_num | (congr 1; omega), by rw [HL.out]; go_num, HJ3, HK3⟩
              case measure => simp [intOf]; omega
            · have HX3 := Lib.hid hJx3
              clear hJx3
              gi_wp2
              refine bodyPost_ret (results_none rfl _ _ _) rfl ?_
              exact ⟨⟨_, rfl⟩, .inr ⟨_, HT.out, HX3.out⟩⟩
          · have hml : ¬ (m : Int) - 1 < (x : Int) := by omega
            have hme : m = x + 1 := by omega
            have hnx := nmP_next j.T k (by rw [hlen.out]; exact hlt)
            rw [HX.out, show ((x : Int) + 1).toNat = x + 1 by omega, ← hme] at hnx
            rw [hnx] at hJs
            rw [hnx]
            clear hnx hme
            gi_wp2
            go_roundw
            case rel => exact ⟨k + 1, by omega, by go_num, rfl, hJs, hK⟩
            case measure => simp [intOf]; omega
      · have hkl : ¬ (k : Int) < (j.n : Int) := by omega
        have HE := Lib.hid (show J (idx 0 (named j)) wr by
          have := hJs.out
          rw [List.take_of_length_le (by rw [hlen.out]; omega)] at this
          rw [hnm.out]; exact this)
        clear hJs
        gi_wp2
        go_end0
        exact ⟨⟨_, rfl⟩, .inl HE.out⟩
end Go.Proofs.Ytkgcbhpgkcfkhaa
