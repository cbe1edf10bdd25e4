/- Part of the proof that ModelApplies holds for every input: writes that are done on tables leave them as the document says. Part 3. -/
import Derived.Test.YthmofoldmdafoaaGreatSvb
set_option linter.unusedVariables false
set_option linter.unusedSimpArgs false
set_option maxRecDepth 100000
set_option maxHeartbeats 4000000
namespace Go.Proofs.YthmofoldmdafoaaGreat
open Go.ChangeShapes Go.WideShapes Go.ChangeAt Go.RowKit
open Go.Lib (hid)
open Go.Proofs.Tryz
section
open Go.Shelf
attribute [local go_sem] Oper.semAt_some
abbrev Tr := Nat × Int × Int
def encs (x : Tr) : Array Value := #[.int .i64 (x.1 : Int), .agg #[.int .i64 x.2.1, .int .i64 x.2.2]]
def rowN (t m : Nat) : List (Int × Int) := (List.range m).map fun (i : Nat) => ((t : Int), (i : Int) - 1)
def nmL : Nat -> List Int -> List (Int × Int)
 | _, [] => []
 | t, x :: r => rowN t (x + 1).toNat ++ nmL (t + 1) r
def idx : Nat -> List (Int × Int) -> List Tr
 | _, [] => []
 | s, p :: r => (s, p.1, p.2) :: idx (s + 1) r
def z9_ (j : Job) : List (Int × Int) := if okB j then nmL 0 j.T else []
theorem qp_ (a b : List (Int × Int)) : ∀ s, idx s (a ++ b) = idx s a ++ idx (s + a.length) b := by
 induction a with
 | nil => intro s; simp [idx]
 | cons p r ih => intro s; simp [idx, ih, Nat.add_assoc, Nat.add_comm 1]
theorem idx_length (a : List (Int × Int)) : ∀ s, (idx s a).length = a.length := by
 induction a with
 | nil => intro s; rfl
 | cons p r ih => intro s; simp [idx, ih]
theorem qm_ (a b : List Int) : ∀ t, nmL t (a ++ b) = nmL t a ++ nmL (t + a.length) b := by
 induction a with
 | nil => intro t; simp [nmL]
 | cons p r ih => intro t; simp [nmL, ih, Nat.add_assoc, Nat.add_comm 1]
theorem rowN_succ (t m : Nat) : rowN t (m + 1) = rowN t m ++ [((t : Int), (m : Int) - 1)] := by simp [rowN, List.range_succ]
theorem yR_ (t m : Nat) : (rowN t m).length = m := by simp [rowN]
def nmP (T : List Int) (k m : Nat) : List (Int × Int) := nmL 0 (T.take k) ++ rowN k m
theorem nmP_zero (T : List Int) (k : Nat) : nmP T k 0 = nmL 0 (T.take k) := by simp [nmP, rowN]
theorem xp_ (T : List Int) (k m : Nat) : nmP T k (m + 1) = nmP T k m ++ [((k : Int), (m : Int) - 1)] := by rw [nmP, rowN_succ, ← List.append_assoc]; rfl
theorem j1_ (T : List Int) (k : Nat) (hk : k < T.length) : nmP T k (T.getD k 0 + 1).toNat = nmL 0 (T.take (k + 1)) := by
 rw [y6_ T k hk, qm_, List.length_take, Nat.min_eq_left Xt0, Nat.zero_add]
 simp [nmP, nmL]
theorem nmP_pre (T : List Int) (k m : Nat) (hk : k < T.length) (hm : m <= (T.getD k 0 + 1).toNat) : ∃ t, nmL 0 T = nmP T k m ++ t := by
 have h1 := j1_ T k hk
 have h2 : nmL 0 T = nmL 0 (T.take (k + 1)) ++ nmL (0 + (T.take (k + 1)).length) (T.drop (k + 1)) := by rw [← qm_, List.take_append_drop]
 obtain ⟨d, hd⟩ : ∃ d, (T.getD k 0 + 1).toNat = m + d := ⟨_, (Nat.add_sub_cancel' hm).symm⟩
 have h3 : ∃ t, rowN k (m + d) = rowN k m ++ t := by
  refine ⟨(List.range d).map fun (i : Nat) => ((k : Int), ((m + i : Nat) : Int) - 1), ?_⟩
  rw [rowN, List.range_add, List.map_append, List.map_map]
  rfl
 obtain ⟨t, ht⟩ := h3
 refine ⟨t ++ nmL (0 + (T.take (k + 1)).length) (T.drop (k + 1)), ?_⟩
 rw [h2, ← h1, nmP, hd, ht, nmP]
 simp [List.append_assoc]
theorem j2_ (T : List Int) (k t : Nat) (hk : k <= T.length) (h : ∀ i, i < T.length -> 0 <= T.getD i 0 /\ T.getD i 0 <= 2) : (nmL t (T.take k)).length <= 3 * k := by
 induction k with
 | zero => simp [nmL]
 | succ k ih =>
  have h1 := ih Xt0
  have h2 := h k Xt0
  rw [y6_ T k Xt0, qm_, List.length_append]
  simp only [nmL, List.append_nil, yR_]
  omega
theorem xq_ {j : Job} (h : okB j = true) : z9_ j = nmL 0 j.T := by rw [z9_, if_pos h]
theorem qG_ {j : Job} (h : okB j = false) : z9_ j = [] := by rw [z9_, if_neg (by rw [h]; simp)]
theorem jg_ {j : Job} (h : okB j = true) : ∀ k, k < j.T.length -> 0 <= j.T.getD k 0 /\ j.T.getD k 0 <= 2 := fun k hk => by
 have h2 : tB j.T = true := by simp [okB] at h; exact h.2
 simp only [tB, List.all_eq_true] at h2
 have := h2 (j.T[k]) (List.getElem_mem hk)
 simp [inB] at this
 simpa [List.getD, List.getElem?_eq_getElem hk] using this
theorem okB_n {j : Job} (h : okB j = true) : 1 <= j.n /\ j.n <= 4 := by
 simp [okB, hB] at h
 omega
theorem chk_ok {j : Job} (h : okB j = true) : qf_ j = 0 := by rw [qf_, if_pos h]
theorem chk_no {j : Job} (h : okB j = false) : qf_ j = 2 := by rw [qf_, if_neg (by rw [h]; simp)]
def KP (base Bs : Nat) (cs : Array Value) (W W' : World) : Prop := Below base W W' /\ (zg_ W Bs cs 53 -> zg_ W' Bs cs 53)
theorem KP.trans {base Bs : Nat} {cs : Array Value} {A B C : World} (h : KP base Bs cs A B) (k : KP base Bs cs B C) : KP base Bs cs A C := ⟨h.1.trans k.1, fun x => k.2 (h.2 x)⟩
theorem KP.put {base Bs : Nat} {cs : Array Value} {w : World} (hn : base <= w.heap.size) (W : World) (l : Nat) (o o' : Obj) (hl : w.heap.size <= l) (h : W.heap[l]? = some o) (hc : o.isCells = false) (hw : o.isWalk = false) : KP base Bs cs W (W.putObj l o') :=
 ⟨belowK_b hn W l o o' hl h hc hw, fun hb => by
  have hne : Bs ≠ l := fun e => by subst e; rw [show W.heap[Bs]? = _ from hb] at h; cases h; cases hc
  exact (World.putObj_heap_other hne).trans hb⟩
theorem KP.below {base Bs : Nat} {cs : Array Value} {W W' : World} (hn : base <= W.heap.size) (h : Below W.heap.size W W') : KP base Bs cs W W' := ⟨h.mono hn, fun hb => hb.below h⟩
theorem xf_ {w w' : World} (h : Below w.heap.size w w') : w.grownBy w' none := ⟨h.os, h.tape, h.output, h.size, fun k hk _ => h.block k hk⟩
theorem all_in (j : Job) (w : World) :
  Calls prog 136 #[.agg #[.int .i64 j.w, .int .i64 j.l, .int .i64 j.d, .int .i64 j.c, .int .i64 j.k, .int .i64 j.e, .slice j.a j.n j.cap]] w fun e w' => e = .returned (.func (.func 163) #[] #[.pointer (some ⟨w.heap.size, 0, none⟩)]) /\ w' = w.alloc (.cells #[.int .i64 j.w, .int .i64 j.l, .int .i64 j.d, .int .i64 j.c, .int .i64 j.k, .int .i64 j.e, .slice j.a j.n j.cap] 24) := by
 have hmf : ∀ (fn : Fn) (first cap : Array Value) (w : World), (Instr.makeFunc fn first cap).run prog w = .ok (.func fn first cap) w := fun _ _ _ _ => rfl
 go_enter func136, ntmps136
 exact Xb30
theorem all_stops (m : Nat) (hm : 1 <= m) (j : Job) (w0 : World) (hj : yd_ w0 j) (Bs : Nat) (w : World) (hB0 : Below w0.heap.size w0 w) (hBs : zg_ w Bs #[.int .i64 j.w, .int .i64 j.l, .int .i64 j.d, .int .i64 j.c, .int .i64 j.k, .int .i64 j.e, .slice j.a j.n j.cap] 24) :
  SeqStopsK Fence.wide m prog 163 #[.pointer (some ⟨Bs, 0, none⟩)] encs (KP w0.heap.size Bs #[.int .i64 j.w, .int .i64 j.l, .int .i64 j.d, .int .i64 j.c, .int .i64 j.k, .int .i64 j.e, .slice j.a j.n j.cap]) (fun ys => ys = idx 0 (z9_ j)) (fun pre => ∃ t, idx 0 (z9_ j) = pre ++ t) (z9_ j).length w := fun lp J Jx W hW hJ _ hY h0 => by
 have hb := hBs.below hW
 have hB1 : Below w0.heap.size w0 W := hB0.trans (hW.mono hB0.size)
 have HJ := hid hj
 have hle := hj.le
 have hlen := hid hj.len
 clear hj hBs hW hB0
 show CallsIn Fence.wide m prog 163 #[.func (.yield lp) #[] #[], .pointer (some ⟨Bs, 0, none⟩)] W _
 refine callsIn_of_wp func163 rfl trivial ?_ rfl
 simp only [ntmps163, List.size_toArray, List.length_cons, List.length_nil, Nat.reduceAdd, Nat.reduceSub, Array.replicate_succ, Array.replicate_zero, List.push_toArray, List.append_toArray, List.nil_append, List.cons_append]
 have c0 := hb.cell 0
 have c1 := hb.cell 1
 have c2 := hb.cell 2
 have c3 := hb.cell 3
 have c4 := hb.cell 4
 have c5 := hb.cell 5
 have c6 := hb.cell 6
 simp only [gtA, gtB, gtC] at c0 c1 c2 c3 c4 c5 c6
 obtain ⟨cs, hcs⟩ := gtx ((#[.int .i64 j.w, .int .i64 j.l, .int .i64 j.d, .int .i64 j.c, .int .i64 j.k, .int .i64 j.e, .slice j.a j.n j.cap] : Array Value))
 rw [hcs] at hY hb
 clear hcs
 gi_wp2_with fail
 refine ⟨trivial, ?_⟩
 refine (callsIn_wide.2 (x8_ j _ (HJ.out.below hB1))).mono ?_
 rintro e W1 ⟨rfl, B1⟩
 have J1 : J [] W1 := hJ _ _ _ _ h0 (xf_ B1) (fun r e => by cases e)
 have hb1 := hid (hb.below B1)
 have c6' := (B1.cell (p := ⟨Bs, 6, none⟩) hb.lt).trans c6
 have HB1 := hid (hB1.trans (B1.mono hB1.size))
 have HJ1 := hid J1
 have hs1 := B1.size
 clear h0 hb B1 J1 hB1 c0 c1 c2 c3 c4 c5 c6
 cases hok : okB j
 ·have hnm := hid (qG_ hok)
  rw [chk_no hok]
  clear hok
  gi_wp2_with fail
  refine bodyPost_ret (results_none rfl _ _ _) rfl ?_
  exact ⟨⟨_, rfl⟩, .inl ⟨_, rfl, by rw [hnm.out]; exact HJ1.out⟩⟩
 ·have hnm := hid (xq_ hok)
  have hT := hid (jg_ hok)
  have hn4 := (okB_n hok).2
  have hn4i : (j.n : Int) <= 4 := by omega
  rw [chk_ok hok]
  clear hok
  gi_wp2_with fail
  gi_loopw [3, 13] (fun t i wr => ∃ k : Nat, k <= j.n /\ i = .int .i64 (k : Int) /\ t = .int .i64 ((nmL 0 (j.T.take k)).length : Int) /\ Hid (J (idx 0 (nmL 0 (j.T.take k))) wr) /\ Hid (KP w0.heap.size Bs cs W1 wr)) (fun _ i _ => j.n - (intOf i).toNat)
  case atStart => exact ⟨0, by omega, rfl, rfl, HJ1, hid ⟨Below.refl _ _, fun h => h⟩⟩
  case round =>
   clear HJ1 c6'
   obtain ⟨k, hk, rfl, rfl, hJs, hK⟩ := hrel
   by_cases hlt : k < j.n
   ·have hkl : (k : Int) < (j.n : Int) := by omega
    have hkT : k < j.T.length := by rw [hlen.out]; exact hlt
    obtain ⟨b1, o1, ea, d1⟩ := (HJ.out.ls.below (HB1.out.trans hK.out.1)).get k hkT
    obtain ⟨hx0, hx2⟩ := hT.out k hkT
    obtain ⟨x, hx⟩ : ∃ x : Nat, j.T.getD k 0 = (x : Int) := ⟨(j.T.getD k 0).toNat, by omega⟩
    rw [hx] at d1
    have hx2 : x <= 2 := by omega
    have hx2i : (x : Int) <= 2 := by omega
    have HX := hid hx
    have HEA := hid ea
    have HTL := hid (show (nmL 0 (j.T.take k)).length <= 12 by
     have h1 := j2_ j.T k 0 Xt0 hT.out
     omega)
    rw [ea]
    have e0 := nmP_zero j.T k
    rw [← e0] at hJs HTL ⊢
    clear hx ea hkT e0
    gi_wp2_with fail
    gi_loopw [3, 6] (fun t i wr => ∃ m : Nat, m <= x + 1 /\ i = .int .i64 ((m : Int) - 1) /\ t = .int .i64 ((nmP j.T k m).length : Int) /\ Hid (J (idx 0 (nmP j.T k m)) wr) /\ Hid (KP w0.heap.size Bs cs W1 wr)) (fun _ i _ => 5 - (intOf i + 1).toNat)
    case atStart => exact ⟨0, by omega, rfl, rfl, hJs, hK⟩
    case round =>
     clear hJs hK d1
     obtain ⟨m, hm, rfl, rfl, hJs, hK⟩ := hrel
     by_cases hmx : m < x + 1
     ·have hml : (m : Int) - 1 < (x : Int) := by omega
      have hpre := nmP_pre j.T k (m + 1) Xt72 (by rw [HX.out]; omega)
      obtain ⟨t, ht⟩ := hpre
      have hbd : (idx 0 (nmP j.T k m)).length < (z9_ j).length := by
       rw [idx_length, hnm.out, ht, xp_]; first | (simp; done) | (simp; omega)
      obtain ⟨fn, tmps, assign, body, hy, hR⟩ := hY _ ((nmP j.T k m).length, (k : Int), (m : Int) - 1) wr hJs.out hbd
      dsimp only [encs] at hy
      have hE : idx 0 (nmP j.T k m) ++ [((nmP j.T k m).length, (k : Int), (m : Int) - 1)] = idx 0 (nmP j.T k (m + 1)) := by
       rw [xp_, qp_]; simp [idx]
      rw [hE] at hR
      have hL : (nmP j.T k (m + 1)).length = (nmP j.T k m).length + 1 := by rw [xp_]; simp
      have hq12 : (nmP j.T k m).length <= 20 := by
       exact Xb124
      obtain ⟨q, hq⟩ := gtx ((nmP j.T k m).length)
      rw [hq] at hy hL hq12 ⊢
      have HL := hid hL
      have HT := hid (show ∃ t, idx 0 (z9_ j) = idx 0 (nmP j.T k (m + 1)) ++ t from ⟨idx (0 + (nmP j.T k (m + 1)).length) t, by rw [hnm.out, ht, qp_]⟩)
      clear hq hL ht hbd hE
      gi_wp2
      refine hR.mono ?_
      rintro e W3 (⟨rfl, hJ3, hk3⟩ | ⟨rfl, hJx3⟩)
      ·have HJ3 := hid hJ3
       have HK3 := hid (hK.out.trans hk3)
       clear hJ3 hk3
       gi_wp2
       go_roundw
       case rel => exact ⟨m + 1, by omega, by first | go_num | (congr 1; omega), by rw [HL.out]; go_num, HJ3, HK3⟩
       case measure => simp [intOf]; omega
      ·have HX3 := hid hJx3
       clear hJx3
       gi_wp2
       refine bodyPost_ret (results_none rfl _ _ _) rfl ?_
       exact ⟨⟨_, rfl⟩, .inr ⟨_, HT.out, HX3.out⟩⟩
     ·have hml : ¬ (m : Int) - 1 < (x : Int) := by omega
      have hme : m = x + 1 := by omega
      have hnx := j1_ j.T k Xt72
      rw [HX.out, show ((x : Int) + 1).toNat = x + 1 by omega, ← hme] at hnx
      rw [hnx] at hJs
      rw [hnx]
      clear hnx hme
      gi_wp2
      go_roundw
      case rel => exact ⟨k + 1, by omega, by go_num, rfl, hJs, hK⟩
      case measure => simp [intOf]; omega
   ·have hkl : ¬ (k : Int) < (j.n : Int) := by omega
    have HE := hid (show J (idx 0 (z9_ j)) wr by
     have := hJs.out
     rw [List.take_of_length_le Xt84] at this
     rw [hnm.out]; exact this)
    clear hJs
    gi_wp2
    go_end0
    exact ⟨⟨_, rfl⟩, .inl HE.out⟩
end
section
open Go.Shelf
attribute [local go_sem] Oper.semAt_some
theorem QM_ (j : Job) (h : j.T.length = j.n) : (z9_ j).length <= 12 := by
 by_cases ho : okB j = true
 ·rw [xq_ ho]
  have h1 := j2_ j.T j.T.length 0 (Nat.le_refl _) (jg_ ho)
  rw [List.take_length] at h1
  have := (okB_n ho).2
  omega
 ·rw [qG_ (by simpa using ho)]; simp
theorem zf_ {W W' : World} {B : Nat} {t : TypeId} {v : Value} (h : Boxed W B t v) (hb : Below W.heap.size W W') : Boxed W' B t v := (hb.block B h.lt).trans h
end
section
open Go.Shelf
attribute [local go_sem] Oper.semAt_some
theorem jl_ {n : Nat} {P : Program} {c : Code} {Q : Exit -> Act -> World -> Prop} {a : Act} {w : World} (h : c.wpIn Fence.wide n P (Exit.noGoto Q) a w) : (Code.scope c).wpIn Fence.wide n P Q a w :=
 wpIn_wide.2 (wp_scope_straight (wpIn_wide.1 h))
theorem istree_law (k t i a b : Int) (P1 P2 : Nat) (w : World) (h1 : Boxed w P1 3 (.int .i64 a)) (h2 : Boxed w P2 3 (.int .i64 b)) :
  Calls prog 117 #[.int .i64 k, .agg #[.int .i64 t, .int .i64 i], .pointer (some ⟨P1, 0, none⟩), .pointer (some ⟨P2, 0, none⟩)] w fun r w' => r = .returned (.bool (decide (t = a /\ i = b))) /\ Below w.heap.size w w' := by
 have l1 := h1.lt
 have l2 := h2.lt
 have c1 := h1.cell
 have c2 := h2.cell
 clear h1 h2
 by_cases e1 : t = a <;> by_cases e2 : i = b
 all_goals
  go_enter func117, ntmps117
  go_wp2
  go_ret
  exact ⟨zc_ (by simp [e1, e2]), (Below.refl _ _).alloc (Nat.le_refl _) _⟩
def zO_ (p : Tr -> Bool) : List Tr -> Int × Int × Int × Bool
 | [] => (0, 0, 0, false)
 | x :: r => if p x then ((x.1 : Int), x.2.1, x.2.2, true) else zO_ p r
theorem xL_ {p : Tr -> Bool} : ∀ {l : List Tr}, (∀ x ∈ l, p x = false) -> zO_ p l = (0, 0, 0, false)
 | [], _ => rfl
 | x :: r, h => by rw [zO_, if_neg (by rw [h x Xt5]; simp)]; exact xL_ fun y hy => h y (by simp [hy])
theorem xK_ {p : Tr -> Bool} {x : Tr} {t : List Tr} (hx : p x = true) : ∀ {l : List Tr}, (∀ y ∈ l, p y = false) -> zO_ p (l ++ [x] ++ t) = ((x.1 : Int), x.2.1, x.2.2, true)
 | [], _ => by simp [zO_, hx]
 | y :: r, h => by
  simp only [List.cons_append, zO_, if_neg (show ¬ p y = true by rw [h y Xt5]; simp)]
  exact xK_ hx fun z hz => h z (by simp [hz])
theorem zg_.kept {W W' : World} {B : Nat} {cs : Array Value} {t : TypeId} {row : Option Nat} (h : zg_ W B cs t) (hg : W.grownBy W' row) (hne : some B ≠ row) : zg_ W' B cs t := (hg.block B h.lt hne).trans h
theorem zg_.alloc {W : World} {B : Nat} {cs : Array Value} {t : TypeId} (h : zg_ W B cs t) (o : Obj) : zg_ (W.alloc o) B cs t := h.kept (World.grownBy_alloc W o none) Xt5
theorem zg_.own {B : Nat} {cs : Array Value} {t : TypeId} {W W' : World} {row : Option Nat} (h : zg_ W B cs t) (hg : W.grownBy W' row) (hr : ∀ r, row = some r -> ∃ o : Obj, W.heap[r]? = some o /\ o.isCells = false) : zg_ W' B cs t :=
 h.kept hg (fun e => by obtain ⟨o, ho, hc⟩ := hr B e.symm; rw [show W.heap[B]? = _ from h] at ho; cases ho; cases hc)
theorem zg_.frozen {W : World} {B : Nat} {cs : Array Value} {t : TypeId} (h : zg_ W B cs t) (i : Nat) : W.frozen? ⟨B, i, none⟩ = false := by simp [World.frozen?, show W.heap[B]? = _ from h]
theorem zg_.oth {W : World} {B B' o : Nat} {cs : Array Value} {t : TypeId} {u : Value} (hne : B ≠ B') (h : zg_ W B cs t) : zg_ (W.setCell ⟨B', o, none⟩ u) B cs t := (Below.heap_setCell W ⟨B', o, none⟩ u B hne).trans h
theorem zg_.set1 {W : World} {B : Nat} {t : TypeId} {v v' : Value} (h : zg_ W B #[v] t) : zg_ (W.setCell ⟨B, 0, none⟩ v') B #[v'] t := Boxed.set v' h
theorem zg_.set2 {W : World} {B : Nat} {t : TypeId} {a b x y : Value} (h : zg_ W B #[a, b] t) : zg_ ((W.setCell ⟨B, 0, none⟩ x).setCell ⟨B, 1, none⟩ y) B #[x, y] t := by
 have h1 : zg_ (W.setCell ⟨B, 0, none⟩ x) B #[x, b] t := by
  obtain ⟨hlt, hk⟩ := Array.getElem?_eq_some_iff.1 h
  show (W.heap.modify B _)[B]? = _
  exact Xb108
 obtain ⟨hlt, hk⟩ := Array.getElem?_eq_some_iff.1 h1
 show ((W.setCell ⟨B, 0, none⟩ x).heap.modify B _)[B]? = _
 exact Xb108
theorem KeepsFrom.drw {B : Nat} {W X : World} (h : KeepsFrom B W X) : KeepsFrom B W X.drew := h.trans (KeepsFrom.of_grownBy (xf_ ((Below.refl X.heap.size X).drew)) (fun j e => by cases e))
structure FI (p : Tr -> Bool) (F N O R U : Nat) (fv : Value) (pre : List Tr) (W : World) : Prop where
 no : ∀ x ∈ pre, p x = false
 bF : zg_ W F #[.int .i64 0] 3
 bN : zg_ W N #[.int .i64 0, .int .i64 0] 184
 bO : zg_ W O #[.bool false] 4
 bR : zg_ W R #[.int .i64 0, .int .i64 0] 184
 bU : zg_ W U #[fv] 187
theorem FI.own {p : Tr -> Bool} {F N O R U : Nat} {fv : Value} {pre : List Tr} {W W' : World} {row : Option Nat} (h : FI p F N O R U fv pre W) (hg : W.grownBy W' row) (hr : ∀ r, row = some r -> ∃ o : Obj, W.heap[r]? = some o /\ o.isCells = false) : FI p F N O R U fv pre W' :=
 ⟨h.no, h.bF.own hg hr, h.bN.own hg hr, h.bO.own hg hr, h.bR.own hg hr, h.bU.own hg hr⟩
theorem FI.below {p : Tr -> Bool} {F N O R U : Nat} {fv : Value} {pre : List Tr} {W W' : World} (h : FI p F N O R U fv pre W) (b : Below W.heap.size W W') : FI p F N O R U fv pre W' :=
 ⟨h.no, h.bF.below b, h.bN.below b, h.bO.below b, h.bR.below b, h.bU.below b⟩
structure FX (p : Tr -> Bool) (F N O R : Nat) (pre : List Tr) (W : World) : Prop where
 ex : ∃ ini x, pre = ini ++ [x] /\ (∀ y ∈ ini, p y = false) /\ p x = true /\ zg_ W F #[.int .i64 (x.1 : Int)] 3 /\ zg_ W N #[.int .i64 x.2.1, .int .i64 x.2.2] 184
 bO : zg_ W O #[.bool true] 4
 bR : zg_ W R #[.int .i64 0, .int .i64 0] 184
theorem FX.own {p : Tr -> Bool} {F N O R : Nat} {pre : List Tr} {W W' : World} {row : Option Nat} (h : FX p F N O R pre W) (hg : W.grownBy W' row) (hr : ∀ r, row = some r -> ∃ o : Obj, W.heap[r]? = some o /\ o.isCells = false) : FX p F N O R pre W' := by
 obtain ⟨ini, x, e1, e2, e3, e4, e5⟩ := h.ex
 exact ⟨⟨ini, x, e1, e2, e3, e4.own hg hr, e5.own hg hr⟩, h.bO.own hg hr, h.bR.own hg hr⟩
theorem QY_ (j : Job) (a b : Int) (P1 P2 : Nat) (w : World) (hj : yd_ w j) (h1 : Boxed w P1 3 (.int .i64 a)) (h2 : Boxed w P2 3 (.int .i64 b)) :
  Calls prog 116 #[.agg #[.int .i64 j.w, .int .i64 j.l, .int .i64 j.d, .int .i64 j.c, .int .i64 j.k, .int .i64 j.e, .slice j.a j.n j.cap], .func (.func 117) #[] #[.pointer (some ⟨P1, 0, none⟩), .pointer (some ⟨P2, 0, none⟩)]] w fun r w' => r = .returned (.tuple #[.int .i64 (zO_ (fun x : Tr => decide (x.2.1 = a /\ x.2.2 = b)) (idx 0 (z9_ j))).1, .agg #[.int .i64 (zO_ (fun x : Tr => decide (x.2.1 = a /\ x.2.2 = b)) (idx 0 (z9_ j))).2.1, .int .i64 (zO_ (fun x : Tr => decide (x.2.1 = a /\ x.2.2 = b)) (idx 0 (z9_ j))).2.2.1], .bool (zO_ (fun x : Tr => decide (x.2.1 = a /\ x.2.2 = b)) (idx 0 (z9_ j))).2.2.2]) /\ Below w.heap.size w w' := by
 have HJ := hid hj
 have H1 := hid h1
 have H2 := hid h2
 clear h1 h2
 clear hj
 have HIS := hid (fun W (hW : Below w.heap.size w W) (x : Tr) => istree_law (x.1 : Int) x.2.1 x.2.2 a b P1 P2 W (zf_ H1.out hW) (zf_ H2.out hW))
 obtain ⟨PD, hPD⟩ : ∃ f : Tr -> Bool, (fun x : Tr => decide (x.2.1 = a /\ x.2.2 = b)) = f := ⟨_, rfl⟩
 rw [hPD]
 have HIS2 := hid (show ∀ W, Below w.heap.size w W -> ∀ x : Tr, Calls prog 117 (#[.int .i64 (x.1 : Int), .agg #[.int .i64 x.2.1, .int .i64 x.2.2]] ++ #[.pointer (some ⟨P1, 0, none⟩), .pointer (some ⟨P2, 0, none⟩)]) W fun r w' => r = .returned (.bool (PD x)) /\ Below W.heap.size W w' from fun W hW x => by rw [← hPD]; exact HIS.out W hW x)
 clear HIS hPD
 refine (callsIn_wide (n := 6)).1 ?_
 refine callsIn_of_wp_marks func116 rfl trivial ?_ rfl
 simp only [ntmps116, List.size_toArray, List.length_cons, List.length_nil, Nat.reduceAdd, Nat.reduceSub, Array.replicate_succ, Array.replicate_zero, List.push_toArray, List.append_toArray, List.nil_append, List.cons_append]
 gi_wp2_with fail
 refine jl_ ?_
 gi_wp2_with fail
 refine wpIn_label ?_
 gi_wp2_with fail
 refine ⟨trivial, ?_⟩
 refine (callsIn_wide.2 (all_in j _)).mono ?_
 rintro e w' ⟨rfl, rfl⟩
 gi_wp2_with fail
 have hbw : Below w.heap.size w (((((((w.alloc (.cells #[.int .i64 j.w, .int .i64 j.l, .int .i64 j.d, .int .i64 j.c, .int .i64 j.k, .int .i64 j.e, .slice j.a j.n j.cap] 24)).alloc (.cells #[.func (.func 117) #[] #[.pointer (some ⟨P1, 0, none⟩), .pointer (some ⟨P2, 0, none⟩)]] 187)).alloc (.cells #[.int .i64 0, .int .i64 0] 184)).alloc (.cells #[.int .i64 0] 3)).alloc (.cells #[.int .i64 0, .int .i64 0] 184)).alloc (.cells #[.bool false] 4)).alloc (.cells #[.int .i64 j.w, .int .i64 j.l, .int .i64 j.d, .int .i64 j.c, .int .i64 j.k, .int .i64 j.e, .slice j.a j.n j.cap] 24)) := (((((((Below.refl _ w).alloc (Nat.le_refl _) _).alloc Xt5 _).alloc Xt7 _).alloc Xt7 _).alloc Xt7 _).alloc Xt7 _).alloc Xt7 _
 have bU := (((((zg_.new (w.alloc (.cells #[.int .i64 j.w, .int .i64 j.l, .int .i64 j.d, .int .i64 j.c, .int .i64 j.k, .int .i64 j.e, .slice j.a j.n j.cap] 24)) #[.func (.func 117) #[] #[.pointer (some ⟨P1, 0, none⟩), .pointer (some ⟨P2, 0, none⟩)]] 187).alloc (.cells #[.int .i64 0, .int .i64 0] 184)).alloc (.cells #[.int .i64 0] 3)).alloc (.cells #[.int .i64 0, .int .i64 0] 184)).alloc (.cells #[.bool false] 4)).alloc (.cells #[.int .i64 j.w, .int .i64 j.l, .int .i64 j.d, .int .i64 j.c, .int .i64 j.k, .int .i64 j.e, .slice j.a j.n j.cap] 24)
 have bR := ((((zg_.new ((w.alloc (.cells #[.int .i64 j.w, .int .i64 j.l, .int .i64 j.d, .int .i64 j.c, .int .i64 j.k, .int .i64 j.e, .slice j.a j.n j.cap] 24)).alloc (.cells #[.func (.func 117) #[] #[.pointer (some ⟨P1, 0, none⟩), .pointer (some ⟨P2, 0, none⟩)]] 187)) #[.int .i64 0, .int .i64 0] 184).alloc (.cells #[.int .i64 0] 3)).alloc (.cells #[.int .i64 0, .int .i64 0] 184)).alloc (.cells #[.bool false] 4)).alloc (.cells #[.int .i64 j.w, .int .i64 j.l, .int .i64 j.d, .int .i64 j.c, .int .i64 j.k, .int .i64 j.e, .slice j.a j.n j.cap] 24)
 have bF := (((zg_.new (((w.alloc (.cells #[.int .i64 j.w, .int .i64 j.l, .int .i64 j.d, .int .i64 j.c, .int .i64 j.k, .int .i64 j.e, .slice j.a j.n j.cap] 24)).alloc (.cells #[.func (.func 117) #[] #[.pointer (some ⟨P1, 0, none⟩), .pointer (some ⟨P2, 0, none⟩)]] 187)).alloc (.cells #[.int .i64 0, .int .i64 0] 184)) #[.int .i64 0] 3).alloc (.cells #[.int .i64 0, .int .i64 0] 184)).alloc (.cells #[.bool false] 4)).alloc (.cells #[.int .i64 j.w, .int .i64 j.l, .int .i64 j.d, .int .i64 j.c, .int .i64 j.k, .int .i64 j.e, .slice j.a j.n j.cap] 24)
 have bN := ((zg_.new ((((w.alloc (.cells #[.int .i64 j.w, .int .i64 j.l, .int .i64 j.d, .int .i64 j.c, .int .i64 j.k, .int .i64 j.e, .slice j.a j.n j.cap] 24)).alloc (.cells #[.func (.func 117) #[] #[.pointer (some ⟨P1, 0, none⟩), .pointer (some ⟨P2, 0, none⟩)]] 187)).alloc (.cells #[.int .i64 0, .int .i64 0] 184)).alloc (.cells #[.int .i64 0] 3)) #[.int .i64 0, .int .i64 0] 184).alloc (.cells #[.bool false] 4)).alloc (.cells #[.int .i64 j.w, .int .i64 j.l, .int .i64 j.d, .int .i64 j.c, .int .i64 j.k, .int .i64 j.e, .slice j.a j.n j.cap] 24)
 have bO := (zg_.new (((((w.alloc (.cells #[.int .i64 j.w, .int .i64 j.l, .int .i64 j.d, .int .i64 j.c, .int .i64 j.k, .int .i64 j.e, .slice j.a j.n j.cap] 24)).alloc (.cells #[.func (.func 117) #[] #[.pointer (some ⟨P1, 0, none⟩), .pointer (some ⟨P2, 0, none⟩)]] 187)).alloc (.cells #[.int .i64 0, .int .i64 0] 184)).alloc (.cells #[.int .i64 0] 3)).alloc (.cells #[.int .i64 0, .int .i64 0] 184)) #[.bool false] 4).alloc (.cells #[.int .i64 j.w, .int .i64 j.l, .int .i64 j.d, .int .i64 j.c, .int .i64 j.k, .int .i64 j.e, .slice j.a j.n j.cap] 24)
 have bA := zg_.new ((((((w.alloc (.cells #[.int .i64 j.w, .int .i64 j.l, .int .i64 j.d, .int .i64 j.c, .int .i64 j.k, .int .i64 j.e, .slice j.a j.n j.cap] 24)).alloc (.cells #[.func (.func 117) #[] #[.pointer (some ⟨P1, 0, none⟩), .pointer (some ⟨P2, 0, none⟩)]] 187)).alloc (.cells #[.int .i64 0, .int .i64 0] 184)).alloc (.cells #[.int .i64 0] 3)).alloc (.cells #[.int .i64 0, .int .i64 0] 184)).alloc (.cells #[.bool false] 4)) #[.int .i64 j.w, .int .i64 j.l, .int .i64 j.d, .int .i64 j.c, .int .i64 j.k, .int .i64 j.e, .slice j.a j.n j.cap] 24
 simp only [World.size_alloc] at bU bR bF bN bO bA
 have hsz : (((((((w.alloc (.cells #[.int .i64 j.w, .int .i64 j.l, .int .i64 j.d, .int .i64 j.c, .int .i64 j.k, .int .i64 j.e, .slice j.a j.n j.cap] 24)).alloc (.cells #[.func (.func 117) #[] #[.pointer (some ⟨P1, 0, none⟩), .pointer (some ⟨P2, 0, none⟩)]] 187)).alloc (.cells #[.int .i64 0, .int .i64 0] 184)).alloc (.cells #[.int .i64 0] 3)).alloc (.cells #[.int .i64 0, .int .i64 0] 184)).alloc (.cells #[.bool false] 4)).alloc (.cells #[.int .i64 j.w, .int .i64 j.l, .int .i64 j.d, .int .i64 j.c, .int .i64 j.k, .int .i64 j.e, .slice j.a j.n j.cap] 24)).heap.size = w.heap.size + 7 := by simp
 obtain ⟨W0, hW0⟩ := gtx ((((((((w.alloc (.cells #[.int .i64 j.w, .int .i64 j.l, .int .i64 j.d, .int .i64 j.c, .int .i64 j.k, .int .i64 j.e, .slice j.a j.n j.cap] 24)).alloc (.cells #[.func (.func 117) #[] #[.pointer (some ⟨P1, 0, none⟩), .pointer (some ⟨P2, 0, none⟩)]] 187)).alloc (.cells #[.int .i64 0, .int .i64 0] 184)).alloc (.cells #[.int .i64 0] 3)).alloc (.cells #[.int .i64 0, .int .i64 0] 184)).alloc (.cells #[.bool false] 4)).alloc (.cells #[.int .i64 j.w, .int .i64 j.l, .int .i64 j.d, .int .i64 j.c, .int .i64 j.k, .int .i64 j.e, .slice j.a j.n j.cap] 24)))
 rw [hW0] at bU bR bF bN bO bA hbw hsz ⊢
 clear hW0
 refine wpIn_rangeFunc_ownH rfl Xt0 (gf := 163) (lb := #[.pointer (some ⟨w.heap.size + 1 + 1 + 1 + 1 + 1 + 1, 0, none⟩)]) rfl trivial (enters_of func163 Xt3 rfl)
  (all_stops 5 Xt0 j w HJ.out (w.heap.size + 1 + 1 + 1 + 1 + 1 + 1) W0 hbw bA) KP.trans (fun W l o o' h1 h2 h3 h4 => KP.put (w := W0) Xt0 W l o o' h1 h2 h3 h4) (Below.refl _ _) (fun _ => rfl)
  (fun pre W => FI PD (w.heap.size + 1 + 1 + 1) (w.heap.size + 1 + 1 + 1 + 1) (w.heap.size + 1 + 1 + 1 + 1 + 1) (w.heap.size + 1 + 1) (w.heap.size + 1) (.func (.func 117) #[] #[.pointer (some ⟨P1, 0, none⟩), .pointer (some ⟨P2, 0, none⟩)]) pre W /\ Below w.heap.size w W)
  (fun c pre W => (c = .exit 0 /\ FX PD (w.heap.size + 1 + 1 + 1) (w.heap.size + 1 + 1 + 1 + 1) (w.heap.size + 1 + 1 + 1 + 1 + 1) (w.heap.size + 1 + 1) pre W) /\ Below w.heap.size w W)
  (OwnFrom.and (Own.from (fun s X Y row hs hg hr => hs.own hg hr) _) (ownFrom_below (Nat.le_refl _) Xt0))
  (fun c => OwnFrom.and (Own.from (fun s X Y row hs hg hr => ⟨hs.1, hs.2.own hg hr⟩) _) (ownFrom_below (Nat.le_refl _) Xt0))
  ⟨⟨fun x hx => by simp at hx, bF, bN, bO, bR, bU⟩, hbw⟩
  (fun x a' W => ∃ Bx, w.heap.size + 1 + 1 + 1 + 1 + 1 < Bx /\ zg_ W Bx #[.int .i64 x.2.1, .int .i64 x.2.2] 184 /\ a' = { tmps := #[.agg #[.int .i64 j.w, .int .i64 j.l, .int .i64 j.d, .int .i64 j.c, .int .i64 j.k, .int .i64 j.e, .slice j.a j.n j.cap], .func (.func 117) #[] #[.pointer (some ⟨P1, 0, none⟩), .pointer (some ⟨P2, 0, none⟩)], .pointer (some ⟨w.heap.size, 0, none⟩), .pointer (some ⟨w.heap.size + 1, 0, none⟩), .int .i64 0, .pointer (some ⟨w.heap.size + 1 + 1, 0, none⟩), .bool false, .pointer (some ⟨w.heap.size + 1 + 1 + 1, 0, none⟩), .pointer (some ⟨w.heap.size + 1 + 1 + 1 + 1, 0, none⟩), .pointer (some ⟨w.heap.size + 1 + 1 + 1 + 1 + 1, 0, none⟩), .int .i64 (x.1 : Int), .pointer (some ⟨Bx, 0, none⟩), .agg #[.int .i64 0, .int .i64 0], .agg #[.int .i64 j.w, .int .i64 j.l, .int .i64 j.d, .int .i64 j.c, .int .i64 j.k, .int .i64 j.e, .slice j.a j.n j.cap], .func (.func 163) #[] #[.pointer (some ⟨w.heap.size + 1 + 1 + 1 + 1 + 1 + 1, 0, none⟩)], .int .i64 (x.1 : Int), .agg #[.int .i64 x.2.1, .int .i64 x.2.2], undef, undef, undef, undef, undef, undef, undef, undef, undef], defers := [] })
  (fun x a' _ X Y row hs hg hr => by obtain ⟨Bx, h1, h2, h3⟩ := hs; exact ⟨Bx, h1, h2.own hg (fun r e => (hr r e).2), h3⟩)
  ?assign ?body ?done ?stop
 case assign =>
  rintro l pre x W K ⟨hI, hB1⟩ hK
  dsimp only [encs]
  have hlO := hI.bO.lt
  gi_wp2
  have BA : Below W.heap.size W (W.alloc (.cells #[.int .i64 x.2.1, .int .i64 x.2.2] 184)) := (Below.refl _ W).alloc (Nat.le_refl _) _
  exact hK _ _ ((KeepsOthers.alloc _ _).from _) (KP.below hB1.size BA) ⟨hI.below BA, za_ hB1 BA⟩ ⟨W.heap.size, hlO, zg_.new _ _ _, by simp⟩
 case body =>
  rintro l pre x a' W hl _ ⟨hI, hB1⟩ ⟨Bx, hBx, bX, rfl⟩ hlt
  have cU := hI.bU.cell 0
  have cX0 := bX.cell 0
  have cX1 := bX.cell 1
  simp only [gtA, gtB, gtC] at cU cX0 cX1
  gi_wp2_with fail
  refine ⟨trivial, ?_⟩
  refine (CallsIn.inRound l (callsIn_wide.2 (HIS2.out W hB1 x))).mono ?_
  rintro e W1 ⟨rfl, B1⟩
  have hI1 := hI.below B1
  have bX1 := bX.below B1
  have hB2 := za_ hB1 B1
  have KF := hid (show KeepsFrom W0.heap.size W W1 from KeepsFrom.of_grownBy (xf_ B1) (fun j e => by cases e))
  have KK := hid (show KP w.heap.size (w.heap.size + 1 + 1 + 1 + 1 + 1 + 1) #[.int .i64 j.w, .int .i64 j.l, .int .i64 j.d, .int .i64 j.c, .int .i64 j.k, .int .i64 j.e, .slice j.a j.n j.cap] W W1 from KP.below hB1.size B1)
  have BT := hid (show Below w.heap.size W W1 from B1.mono hB1.size)
  clear cU cX0 cX1 hI bX hB1 B1
  cases hpx : PD x
  ·have HPX := hid hpx
   clear hpx
   gi_wp2
   exact ⟨KF.out, KK.out, ⟨⟨fun y hy => (List.mem_append.1 hy).elim (hI1.no y) (fun e => by simp at e; subst e; exact HPX.out), hI1.bF, hI1.bN, hI1.bO, hI1.bR, hI1.bU⟩, hB2⟩⟩
  ·have HPX := hid hpx
   have cX0 := bX1.cell 0
   have cX1 := bX1.cell 1
   have cF := hI1.bF.cell 0
   have cN0 := hI1.bN.cell 0
   have cN1 := hI1.bN.cell 1
   have cO := hI1.bO.cell 0
   have fF := hI1.bF.frozen 0
   have fN0 := hI1.bN.frozen 0
   have fN1 := hI1.bN.frozen 1
   have fO := hI1.bO.frozen 0
   simp only [gtA, gtB, gtC] at cX0 cX1 cF cN0 cN1 cO
   have HI := hid hI1
   have hlO : Bx < W1.heap.size := bX1.lt
   clear hpx hI1
   gi_wp2_with fail
   gi_region
   all_goals gi_wp2
   all_goals exact ⟨KeepsFrom.drw ((((KF.out.trans ((KeepsOthers.setCell _ _ _).from _)).trans ((KeepsOthers.setCell _ _ _).from _)).trans ((KeepsOthers.setCell _ _ _).from _)).trans ((KeepsOthers.setCell _ _ _).from _)),
    ⟨rfl, ⟨pre, x, rfl, HI.out.no, HPX.out, zg_.oth Xt0 (zg_.oth Xt0 (zg_.oth Xt0 (HI.out.bF.set1))), zg_.oth Xt0 (zg_.set2 (zg_.oth Xt0 HI.out.bN))⟩, zg_.set1 (zg_.oth Xt0 (zg_.oth Xt0 (zg_.oth Xt0 HI.out.bO))), zg_.oth Xt0 (zg_.oth Xt0 (zg_.oth Xt0 (zg_.oth Xt0 HI.out.bR)))⟩,
    ((((hB2.setCell (p := ⟨w.heap.size + 1 + 1 + 1, 0, none⟩) Xt7 _).setCell (p := ⟨w.heap.size + 1 + 1 + 1 + 1, 0, none⟩) Xt7 _).setCell (p := ⟨w.heap.size + 1 + 1 + 1 + 1, 1, none⟩) Xt7 _).setCell (p := ⟨w.heap.size + 1 + 1 + 1 + 1 + 1, 0, none⟩) Xt7 _).drew⟩
 case done =>
  rintro D zs W hD rfl ⟨hI, hB1⟩ hK
  have FV := hid (xL_ hI.no)
  have cF := hI.bF.cell 0
  have cN0 := hI.bN.cell 0
  have cN1 := hI.bN.cell 1
  have cO := hI.bO.cell 0
  have cR0 := hI.bR.cell 0
  have cR1 := hI.bR.cell 1
  have fR0 := hI.bR.frozen 0
  have fR1 := hI.bR.frozen 1
  simp only [gtA, gtB, gtC] at cF cN0 cN1 cO cR0 cR1
  have HI := hid hI
  clear hI
  gi_wp2_with fail
  gi_region
  all_goals gi_wp2
  all_goals
   rw [Exit.noGoto_ret]
   have hK2 := hid ((KeepsOthers.setCell _ ⟨w.heap.size + 1 + 1, 1, none⟩ (.int .i64 0)).same D _ ((KeepsOthers.setCell W ⟨w.heap.size + 1 + 1, 0, none⟩ (.int .i64 0)).same D _ hK rfl) rfl)
   have bR2 : zg_ ((W.setCell ⟨w.heap.size + 1 + 1, 0, none⟩ (.int .i64 0)).setCell ⟨w.heap.size + 1 + 1, 1, none⟩ (.int .i64 0)).drew (w.heap.size + 1 + 1) #[.int .i64 0, .int .i64 0] 184 := zg_.set2 HI.out.bR
   have B2 : Below w.heap.size w ((W.setCell ⟨w.heap.size + 1 + 1, 0, none⟩ (.int .i64 0)).setCell ⟨w.heap.size + 1 + 1, 1, none⟩ (.int .i64 0)).drew := ((hB1.setCell (p := ⟨w.heap.size + 1 + 1, 0, none⟩) Xt7 _).setCell (p := ⟨w.heap.size + 1 + 1, 1, none⟩) Xt7 _).drew
   have hK3 : ((W.setCell ⟨w.heap.size + 1 + 1, 0, none⟩ (.int .i64 0)).setCell ⟨w.heap.size + 1 + 1, 1, none⟩ (.int .i64 0)).drew.heap[D]? = some (.deferred (some [])) := hK2.out
   clear hK2
   generalize ((W.setCell ⟨w.heap.size + 1 + 1, 0, none⟩ (.int .i64 0)).setCell ⟨w.heap.size + 1 + 1, 1, none⟩ (.int .i64 0)).drew = W2 at bR2 B2 hK3 ⊢
   refine ⟨by simp, .inl ⟨_, _, rfl, run_takeDeferred hK3, ?_⟩⟩
   have bR3 := bR2.kept (grownBy_putObj' W2 D (.deferred none)) (fun e => by cases e; omega)
   have h0 := bR3.cell 0
   have h1 := bR3.cell 1
   simp only [gtA, gtB, gtC] at h0 h1
   refine ⟨.tuple #[.int .i64 0, .agg #[.int .i64 0, .int .i64 0], .bool false], ?_, by rw [FV.out], B2.trans (belowK_b (w := w) (Nat.le_refl _) _ D _ _ Xt0 hK3 rfl rfl)⟩
   simp [results, f116, go_sem, h0, h1]
 case stop =>
  rintro D c pre W hD ⟨t, ht⟩ ⟨⟨rfl, hX⟩, hB1⟩ hK
  obtain ⟨ini, x, e1, e2, e3, bF, bN⟩ := hX.ex
  have FV := hid (show zO_ PD (idx 0 (z9_ j)) = ((x.1 : Int), x.2.1, x.2.2, true) by rw [ht, e1, xK_ e3 e2])
  have cF := bF.cell 0
  have cN0 := bN.cell 0
  have cN1 := bN.cell 1
  have cO := hX.bO.cell 0
  have cR0 := hX.bR.cell 0
  have cR1 := hX.bR.cell 1
  have fR0 := hX.bR.frozen 0
  have fR1 := hX.bR.frozen 1
  simp only [gtA, gtB, gtC] at cF cN0 cN1 cO cR0 cR1
  have HX := hid hX
  clear hX e1 e2 e3 ht
  gi_wp2_with fail
  gi_region
  all_goals gi_wp2
  all_goals
   rw [Exit.noGoto_ret]
   have hK2 := hid ((KeepsOthers.setCell _ ⟨w.heap.size + 1 + 1, 1, none⟩ (.int .i64 x.2.2)).same D _ ((KeepsOthers.setCell W ⟨w.heap.size + 1 + 1, 0, none⟩ (.int .i64 x.2.1)).same D _ hK rfl) rfl)
   have bR2 : zg_ ((W.setCell ⟨w.heap.size + 1 + 1, 0, none⟩ (.int .i64 x.2.1)).setCell ⟨w.heap.size + 1 + 1, 1, none⟩ (.int .i64 x.2.2)).drew (w.heap.size + 1 + 1) #[.int .i64 x.2.1, .int .i64 x.2.2] 184 := zg_.set2 HX.out.bR
   have B2 : Below w.heap.size w ((W.setCell ⟨w.heap.size + 1 + 1, 0, none⟩ (.int .i64 x.2.1)).setCell ⟨w.heap.size + 1 + 1, 1, none⟩ (.int .i64 x.2.2)).drew := ((hB1.setCell (p := ⟨w.heap.size + 1 + 1, 0, none⟩) Xt7 _).setCell (p := ⟨w.heap.size + 1 + 1, 1, none⟩) Xt7 _).drew
   have hK3 : ((W.setCell ⟨w.heap.size + 1 + 1, 0, none⟩ (.int .i64 x.2.1)).setCell ⟨w.heap.size + 1 + 1, 1, none⟩ (.int .i64 x.2.2)).drew.heap[D]? = some (.deferred (some [])) := hK2.out
   clear hK2
   generalize ((W.setCell ⟨w.heap.size + 1 + 1, 0, none⟩ (.int .i64 x.2.1)).setCell ⟨w.heap.size + 1 + 1, 1, none⟩ (.int .i64 x.2.2)).drew = W2 at bR2 B2 hK3 ⊢
   refine ⟨by simp, .inl ⟨_, _, rfl, run_takeDeferred hK3, ?_⟩⟩
   have bR3 := bR2.kept (grownBy_putObj' W2 D (.deferred none)) (fun e => by cases e; omega)
   have h0 := bR3.cell 0
   have h1 := bR3.cell 1
   simp only [gtA, gtB, gtC] at h0 h1
   refine ⟨.tuple #[.int .i64 (x.1 : Int), .agg #[.int .i64 x.2.1, .int .i64 x.2.2], .bool true], ?_, by rw [FV.out], B2.trans (belowK_b (w := w) (Nat.le_refl _) _ D _ _ Xt0 hK3 rfl rfl)⟩
   simp [results, f116, go_sem, h0, h1]
end
end Go.Proofs.YthmofoldmdafoaaGreat
