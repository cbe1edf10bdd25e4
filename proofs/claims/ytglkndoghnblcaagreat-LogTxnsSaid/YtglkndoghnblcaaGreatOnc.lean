/- LogTxns: every transaction's frame, and what any bytes tell, for every argument. -/
import Derived.Test.YtglkndoghnblcaaGreatOnb
import Derived.Test.YtglkndoghnblcaaGreatOvc
import Derived.Test.YtglkndoghnblcaaGreatOna
import Derived.Test.YtglkndoghnblcaaGreatOvi
import Derived.Test.YtglkndoghnblcaaGreatOve
import Derived.Test.YtglkndoghnblcaaGreatOvl
import Derived.Lib.SmallJoins
import Derived.OpenShut
import Derived.Test.YtglkndoghnblcaaGreatRows
import Derived.SizedLaws
import Derived.WalkKit
import Derived.ProofKit
import Derived.ShutString
import Derived.ChangeOld
import Derived.Below
import Derived.Test.YtglkndoghnblcaaGreatOva
namespace Go.Proofs.YtglkndoghnblcaaGreat
open Go.ChangeShapes Go.WideShapes Go.ChangeAt Go.RowKit
set_option linter.unusedVariables false
set_option linter.unusedSimpArgs false
theorem wtC_parts {x y : WtP} (h : wtC x = wtC y) : x.tab = y.tab ∧ x.key = y.key ∧ x.R.map P1.bs = y.R.map P1.bs ∧ x.R.length = y.R.length := by
  unfold wtC at h
  injection h with h1 h2
  injection h2 with h2 h3
  exact ⟨h1, h2, h3, by have := congrArg List.length h3; simpa using this⟩
theorem wtB_c {x y : WtP} (h : wtC x = wtC y) : wtB x = wtB y := by
  obtain ⟨h1, h2, h3, h4⟩ := wtC_parts h
  unfold wtB
  rw [h1, h2, h4, mayR_F, mayR_F, h3]
theorem bsW_c {R S : List P1} (h : R.map P1.bs = S.map P1.bs) : putL bsW R = putL bsW S := by
  have hl : R.length = S.length := by have := congrArg List.length h; simpa using this
  have hm : R.map bsW = S.map bsW := by
    have e : ∀ R : List P1, R.map bsW = (R.map P1.bs).map bytesW := fun R => by rw [List.map_map]; rfl
    rw [e, e, h]
  unfold putL
  rw [hl, hm]
theorem wtW_c {x y : WtP} (h : wtC x = wtC y) : wtW x = wtW y := by
  obtain ⟨h1, h2, h3, h4⟩ := wtC_parts h
  unfold wtW
  rw [h1, h2, h4, bsW_c h3]
theorem map_at {α β : Type} {f : α → β} {xs ys : List α} (h : ys.map f = xs.map f) {k : Nat} {x : α} (hx : xs[k]? = some x) : ∃ y, ys[k]? = some y ∧ f y = f x := by
  have h1 : (ys.map f)[k]? = some (f x) := by rw [h, List.getElem?_map, hx]; rfl
  rw [List.getElem?_map] at h1
  cases hy : ys[k]? with
  | none => rw [hy] at h1; cases h1
  | some y => rw [hy] at h1; exact ⟨y, rfl, by simpa using h1⟩
theorem map_len {α β : Type} {f : α → β} {xs ys : List α} (h : ys.map f = xs.map f) : ys.length = xs.length := by have := congrArg List.length h; simpa using this
theorem okK_c (e s : Int) {xs ys : List WtP} (h : ys.map wtC = xs.map wtC) : ∀ k, okK e s ys k = okK e s xs k
  | 0 => by
    show (tidB e s && inB ((ys.length : Nat) : Int) 1 16) = (tidB e s && inB ((xs.length : Nat) : Int) 1 16)
    rw [map_len h]
  | k + 1 => by
    have ih := okK_c e s h k
    cases hx : xs[k]? with
    | none =>
      have hy : ys[k]? = none := by rw [List.getElem?_eq_none_iff] at hx ⊢; have := map_len h; omega
      show (match ys[k]? with | some x => _ | none => okK e s ys k) = (match xs[k]? with | some x => _ | none => okK e s xs k)
      rw [hx, hy]
      exact ih
    | some x =>
      obtain ⟨y, hy, hc⟩ := map_at h hx
      by_cases hk : k = 0
      · subst hk
        rw [okK_first hx, okK_first hy, ih, wtB_c hc]
      · obtain ⟨l, hl⟩ : ∃ l, xs[k - 1]? = some l := ⟨_, List.getElem?_eq_getElem (by have := (List.getElem?_eq_some_iff.1 hx).1; omega)⟩
        obtain ⟨m, hm, hcm⟩ := map_at h hl
        obtain ⟨p1, p2, _, _⟩ := wtC_parts hc
        obtain ⟨q1, q2, _, _⟩ := wtC_parts hcm
        rw [okK_next (by omega) hx hl, okK_next (by omega) hy hm, ih, wtB_c hc, p1, p2, q1, q2]
theorem txB_c (e s : Int) {xs ys : List WtP} (h : ys.map wtC = xs.map wtC) : txB e s ys = txB e s xs := by
  unfold txB
  rw [okK_c e s h, map_len h]
theorem map_cc {α β γ : Type} {f : α → β} {g : α → γ} (hfg : ∀ x y, f x = f y → g x = g y) : ∀ {xs ys : List α}, ys.map f = xs.map f → ys.map g = xs.map g
  | [], [], _ => rfl
  | [], _ :: _, h => by simp at h
  | _ :: _, [], h => by simp at h
  | x :: r, y :: t, h => by
    simp only [List.map_cons, List.cons.injEq] at h ⊢
    exact ⟨hfg _ _ h.1, map_cc hfg h.2⟩
theorem txW_c (e s : Nat) {xs ys : List WtP} (h : ys.map wtC = xs.map wtC) : txW e s ys = txW e s xs := by
  unfold txW putL
  rw [map_len h, map_cc (fun _ _ => wtW_c) h]
/-- What PutTxn answers, in one form. -/
def PtO (w : World) (e s : Int) (xs : List WtP) (r : Ending) (w' : World) : Prop :=
  ∃ (fa : Option Addr) (fl fc : Nat) (en : Int) (F : List Int), r = .returned (.tuple #[.slice fa fl fc, .int .i64 en]) ∧ F.length = fl ∧ fl ≤ 5000 ∧ Ls .u8 w' fa fc F ∧ Below w.heap.size w w' ∧
    ((txB e s xs = false ∧ fl = 0 ∧ en = 2) ∨ (txB e s xs = true ∧ 4096 < (txW e.toNat s.toNat xs).length ∧ fl = 0 ∧ en = 3) ∨ (txB e s xs = true ∧ 1 ≤ (txW e.toNat s.toNat xs).length ∧ (txW e.toNat s.toNat xs).length ≤ 4096 ∧ F = frameL (txW e.toNat s.toNat xs) ∧ en = 0))
theorem puttxn_o (e s : Int) (a : Option Addr) (xs : List WtP) (n cap : Nat) (hn : xs.length = n) (hn2 : n ≤ 1000000) (hrl : ∀ x ∈ xs, x.R.length ≤ 1000000) (w : World) (hR : WtsR w a xs) :
    Calls Tryz.prog 19 #[.agg #[.int .i64 e, .int .i64 s, .slice a n cap]] w (PtO w e s xs) := by
  refine (puttxn_law e s a xs n cap hn hn2 hrl w hR).mono ?_
  rintro r w' (⟨h1, rfl, hb⟩ | ⟨h1, h2, rfl, hb⟩ | ⟨h1, h2, h3, a', c', rfl, _, h4, hb⟩)
  · exact ⟨none, 0, 0, 2, [], rfl, rfl, by omega, Ls.nul _ _, hb, .inl ⟨h1, rfl, rfl⟩⟩
  · exact ⟨none, 0, 0, 3, [], rfl, rfl, by omega, Ls.nul _ _, hb, .inr (.inl ⟨h1, h2, rfl, rfl⟩)⟩
  · exact ⟨a', _, c', 0, _, rfl, by rw [frameL_len], by omega, h4, hb, .inr (.inr ⟨h1, h2, h3, rfl, rfl⟩)⟩
/-- What Txns answers, in one form. -/
def TqO (w : World) (L : List Int) (k m : Nat) (b : Bool) (r : Ending) (w' : World) : Prop :=
  ∃ (ta : Option Addr) (tc : Nat) (qs : List TxQ), r = .returned (.tuple #[.slice ta k tc, .int .i64 (m : Int), .bool b]) ∧ qs.length = k ∧ TxqR w' ta qs ∧ (∀ q ∈ qs, TxqB q) ∧ qs.map txC = (txsL (framesL L)).map tx3C ∧ Below w.heap.size w w'
theorem tqo_of {w w' : World} {L : List Int} {r : Ending} (hB : Byt L) (h : TxnsR w L r w') : TqO w L (txsL (framesL L)).length (sumF (framesL L) (txsL (framesL L)).length) (sumF (framesL L) (txsL (framesL L)).length == wholeL L) r w' := by
  obtain ⟨v, rfl, htx, hb⟩ := h
  have hall := txsL_all (frames_byt _ L (Nat.le_refl _) hB)
  obtain ⟨ta, tc, rfl⟩ : ∃ ta tc, v = .slice ta (txsL (framesL L)).length tc := by
    obtain ⟨ps, h1, h2, h3⟩ := htx
    exact own_form h2
  obtain ⟨qs, q1, q2, q3, q4, q5⟩ := htx.lies hall
  exact ⟨ta, tc, qs, rfl, q2, q3, q4, q5, hb⟩
theorem txq_one {W : World} {N : Nat} {t : TypeId} (q : TxQ) (h : BoxC W N #[.int .i64 q.e, .int .i64 q.s, .slice q.a q.ws.length q.c] t) (hw : WtsR W q.a q.ws) : TxqR W (some ⟨N, 0, none⟩) [q] := fun k x hx => by
  match k, hx with
  | 0, hx =>
    cases hx
    refine ⟨N, 0, rfl, ?_, ?_, ?_, hw⟩
    · exact h.cell 0
    · exact h.cell 1
    · exact h.cell 2
  | k + 1, hx => simp at hx
end Go.Proofs.YtglkndoghnblcaaGreat
namespace Go.Proofs.YtglkndoghnblcaaGreat
open Go.ChangeShapes Go.WideShapes Go.ChangeAt Go.RowKit
set_option linter.unusedVariables false
set_option linter.unusedSimpArgs false
/-- Bytes that are answered. -/
def LsB (w : World) (L : List Int) (e : Ending) (w' : World) : Prop := ∃ a c, e = .returned (.slice a L.length c) ∧ Ls .u8 w' a c L ∧ Below w.heap.size w w'
end Go.Proofs.YtglkndoghnblcaaGreat
namespace Go.Proofs.YtglkndoghnblcaaGreat
open Go.ChangeShapes Go.WideShapes Go.ChangeAt Go.RowKit
set_option linter.unusedVariables false
set_option linter.unusedSimpArgs false
theorem BoxC.apart {w w' : World} {N base n s : Nat} {cs : Array Value} {t e : TypeId} {v : Value} {xs : List Value} (h : BoxC w N cs t) (ho : w.ownsRow base e s v n xs) (ht : t ≠ e) (g : w.grownBy w' v.ownBlock) : BoxC w' N cs t :=
  h.kept g fun e' => by
    rcases ho.2 with ⟨rfl, _⟩ | ⟨gg, cap, cur, rfl, _, hgg, _⟩
    · cases e'
    · have e2 : N = gg := by simpa [Value.ownBlock] using e'
      subst e2
      rw [show w.heap[N]? = _ from h] at hgg
      cases hgg
      exact ht rfl
theorem lit_ls (W : World) (x : Int) : Ls .u8 (W.alloc (.cells #[.int .u8 x] 5)) (some ⟨W.heap.size, 0, none⟩) 1 [x] := ls_new .u8 W [x] #[.int .u8 x] 5 (0, 0) rfl 1 rfl
set_option maxRecDepth 100000 in
set_option maxHeartbeats 4000000 in
/-- The document's Txn (27). -/
theorem rtxn_law (e s : Nat) (a : Option Addr) (xs : List WtP) (n cap : Nat) (hn : xs.length = n) (ht : txB (e : Int) (s : Int) xs = true) (w : World) (hR : WtsR w a xs) :
    Calls Tryz.prog 27 #[.agg #[.int .i64 (e : Int), .int .i64 (s : Int), .slice a n cap]] w (LsB w (txW e s xs)) := by
  obtain ⟨⟨en, sn, he, hs, e1, e2, s1, s2⟩, l1, l2, hw, hp⟩ := txB_facts ht
  have he2 : e ≤ 16777215 := by omega
  have hs2 : s ≤ 2147483647 := by omega
  have hn16 : n ≤ 16 := by omega
  have t1 := numW_ten e (by omega)
  have t2 := numW_ten s (by omega)
  have t3 := numW_ten n (by omega)
  have HR := Lib.hid hR
  have HN := Lib.hid hn
  have HW := Lib.hid hw
  clear hR hn hw hp he hs e1 e2 s1 s2 l1 l2 en sn ht
  go_enter Tryz.func27, Tryz.ntmps27
  go_upto_region 1 with (fail)
  obtain ⟨W1, hW0⟩ : ∃ W0, w.alloc (.cells #[.int .i64 (e : Int), .int .i64 (s : Int), .slice a n cap] 39) = W0 := ⟨_, rfl⟩
  have hb0 : Below w.heap.size w W1 := by rw [← hW0]; exact bl1 _ _
  have bx : BoxC W1 w.heap.size #[.int .i64 (e : Int), .int .i64 (s : Int), .slice a n cap] 39 := by rw [← hW0]; exact BoxC.new w _ 39
  try rw [hW0]
  clear hW0
  have HB0 := Lib.hid hb0
  have FQ := Lib.hid (fun X (b : Below W1.heap.size W1 X) => (⟨(bx.below b).cell 0, (bx.below b).cell 1, (bx.below b).cell 2⟩ : X.cell? ⟨w.heap.size, 0, none⟩ = some (.int .i64 (e : Int)) ∧ X.cell? ⟨w.heap.size, 1, none⟩ = some (.int .i64 (s : Int)) ∧ X.cell? ⟨w.heap.size, 2, none⟩ = some (.slice a n cap)))
  clear hb0 bx
  rename_i KK hKK
  refine Code.wp_mono (Q := Exit.then KK (fun _ _ _ => False)) (fun e a' w' h => by cases e <;> first | exact h | exact h.elim) ?_
  refine wp_region_held_drew (S := (fun X => Below W1.heap.size W1 X)) (by kernel_rfl) ((Below.refl _ _).drew) (fun hHeld => ?_)
  refine tp 0 ?_ rfl (.inl ⟨by rfl, ?_⟩) ?_
  rotate_left
  · intro W hSw; go_simp; try with_reducible rfl
  refine tp 1 ?_ rfl (.inl ⟨by rfl, ?_⟩) ?_
  rotate_left
  · intro W hSw; go_simp; try with_reducible rfl
  refine tp 2 ?_ rfl (.inl ⟨by rfl, ?_⟩) ?_
  rotate_left
  · intro W hSw; obtain ⟨z0, z1, z2⟩ := FQ.out W hSw; go_simp; try with_reducible rfl
  refine tp 4 ?_ rfl (.inl ⟨by rfl, ?_⟩) ?_
  rotate_left
  · intro W hSw; go_simp; try with_reducible rfl
  refine tp 5 ?_ rfl (.inl ⟨by rfl, ?_⟩) ?_
  rotate_left
  · intro W hSw; go_simp; try with_reducible rfl
  refine tp 6 ?_ rfl (.inl ⟨by rfl, ?_⟩) ?_
  rotate_left
  · intro W hSw; obtain ⟨z0, z1, z2⟩ := FQ.out W hSw; go_simp; try with_reducible rfl
  refine wpAnyH_ready (rs := [3]) (by kernel_rfl) (by simp) ?_
  refine AllReadyH.cons (o := { dst := some 9, op := Op.call { callee := Callee.value (Operand.func 73), args := #[Operand.tmp 8], argTypes := #[2] }, type := 22, pos := "ref.go:99", after := #[{ on := 2, ground := Ground.data }], guard := none }) rfl (fun K hK => ?_) AllReadyH.nil
  go_simp
  refine (rnumber15_own e (by omega) _).mono ?_; rintro e9 w3 ⟨a3, c3, rfl, ho3, hl3, hb3⟩; have HA := Lib.hid (own_base (b := W1.heap.size) hHeld.size ho3)
  go_wp2_with fail
  refine hK.out _ _ (step_below hHeld hb3) (fun hHeldn => ?_)
  clear hK K hHeld; have hHeld := hHeldn; clear hHeldn
  clear ho3 hl3 hb3
  try simp only [Act.put, List.setIfInBounds_toArray, List.set_cons_zero, List.set_cons_succ]
  refine wpAnyH_ready (rs := [7]) (by kernel_rfl) (by simp) ?_
  refine AllReadyH.cons (o := { dst := some 13, op := Op.call { callee := Callee.value (Operand.func 73), args := #[Operand.tmp 12], argTypes := #[2] }, type := 22, pos := "ref.go:99", after := #[{ on := 6, ground := Ground.data }, { on := 3, ground := Ground.chain }], guard := none }) rfl (fun K hK => ?_) AllReadyH.nil
  go_simp
  refine (rnumber15_own s (by omega) _).mono ?_; rintro e9 w4 ⟨a4, c4, rfl, ho4, hl4, hb4⟩; have HC := Lib.hid hl4.ls; have HA2 := Lib.hid (own_below HA.out hb4)
  go_wp2_with fail
  refine hK.out _ _ (step_below hHeld hb4) (fun hHeldn => ?_)
  clear hK K hHeld; have hHeld := hHeldn; clear hHeldn
  clear ho4 hl4 hb4
  try simp only [Act.put, List.setIfInBounds_toArray, List.set_cons_zero, List.set_cons_succ]
  refine wpAnyH_ready (rs := [8]) (by kernel_rfl) (by simp) ?_
  refine AllReadyH.cons (o := { dst := some 14, op := Op.call { callee := Callee.builtin Builtin.append, args := #[Operand.tmp 9, Operand.tmp 13], argTypes := #[22, 22] }, type := 22, pos := "ref.go:99", after := #[{ on := 3, ground := Ground.data }, { on := 7, ground := Ground.data }, { on := 7, ground := Ground.chain }], guard := none }) rfl (fun K hK => ?_) AllReadyH.nil
  refine step_append_ls eltB rfl _ _ rfl W1.heap.size W1 hHeld _ ((numW e).length) (iv .u8 (numW e)) rfl HA2.out _ _ ((numW s).length) (numW s) rfl rfl HC.out (by omega) hHeld.size ?_
  intro v5 X5 ho5 hb5 hg5
  rw [← iv_append] at ho5
  have HP5 := Lib.hid ho5
  clear ho5 hg5
  refine hK.out _ _ hb5 (fun hHeldn => ?_)
  clear hK K hHeld; have hHeld := hHeldn; clear hHeldn hb5
  try simp only [Act.put, List.setIfInBounds_toArray, List.set_cons_zero, List.set_cons_succ]
  refine tp 9 ?_ rfl (.inl ⟨by rfl, ?_⟩) ?_
  rotate_left
  · intro W hSw; go_simp; try with_reducible rfl
  refine wpAnyH_done (by kernel_rfl) ?_ _
  skip
  refine hKK _ _ ?_
  obtain ⟨l1, hl1⟩ : ∃ l, (numW e).length + (numW s).length = l := ⟨_, rfl⟩
  obtain ⟨P1, hP1⟩ : ∃ P, numW e ++ numW s = P := ⟨_, rfl⟩
  have HE1 := Lib.hid (And.intro hP1 hl1)
  have hm1 : l1 ≤ 20 := by omega
  have HB1 := Lib.hid hHeld
  have HP1 := Lib.hid HP5.out
  rw [hl1, hP1] at HP1
  obtain ⟨z0, z1, z2⟩ := FQ.out _ HB1.out
  clear hKK hHeld HP5 hl1 hP1
  go_wp2_with fail
  refine (rnumber15_own n (by omega) _).mono ?_
  rintro r x2 ⟨a2, c2, rfl, ho, hl, hb⟩
  have HL2 := Lib.hid hl.ls
  have HQ2 := Lib.hid (own_below HP1.out hb)
  have HC2 := Lib.hid (step_below HB1.out hb)
  have hs2 := HC2.out.size
  clear ho hl hb HB1 HP1
  go_upto_region 4 with (at_builtin; refine append_ls eltB rfl (.tmp 15) (.tmp 19) rfl W1.heap.size _ l1 (iv .u8 P1) rfl HQ2.out _ _ (numW n).length (numW n) rfl rfl HL2.out (by omega) hs2 ?_)
  intro v2 w2 ho3 hg3
  rw [← iv_append] at ho3
  have HP2 := Lib.hid ho3
  have HB2 := Lib.hid (HC2.out.grown hg3 hs2 (fun j hj => (HQ2.out.lt j hj).1))
  obtain ⟨l2, hl2⟩ : ∃ l, l1 + (numW n).length = l := ⟨_, rfl⟩
  obtain ⟨P2, hP2⟩ : ∃ P, P1 ++ numW n = P := ⟨_, rfl⟩
  have HE2 := Lib.hid (And.intro hP2 hl2)
  have hm2 : l2 ≤ 30 := by omega
  rw [hl2, hP2] at HP2
  clear ho3 hg3 hl2 hP2 HC2 HQ2 HL2
  clear z0 z1 z2
  go_wp2_with fail
  go_loopw [3, 4] (fun v i wr => ∃ (k lk : Nat), k ≤ n ∧ i = .int .i64 (k : Int) ∧ lk ≤ 30 + k * 1100 ∧ Hid (l2 + ((xs.take k).map wtW).flatten.length = lk) ∧ Hid (wr.ownsRow W1.heap.size 5 1 v lk (iv .u8 (P2 ++ ((xs.take k).map wtW).flatten))) ∧ Hid (Below W1.heap.size W1 wr)) (fun _ i _ => n - (intOf i).toNat)
  case atStart => exact ⟨0, l2, by omega, rfl, by omega, Lib.hid (by simp), Lib.hid (by simpa using HP2.out), HB2⟩
  case round =>
    clear HP2 HB2
    obtain ⟨k, lk, hk, rfl, hlk, HLK, HPK, HBW⟩ := hrel
    obtain ⟨z0, z1, z2⟩ := FQ.out _ HBW.out
    by_cases hlt : k < n
    · have dl : (k : Int) < (n : Int) := by omega
      obtain ⟨x, hx⟩ : ∃ x, xs[k]? = some x := ⟨_, List.getElem?_eq_getElem (by rw [HN.out]; exact hlt)⟩
      have hxw := HW.out x (List.mem_of_getElem? hx)
      have hxl := wtW_len hxw
      obtain ⟨t, hxt, ht3, hkl, _, hxr, hpl⟩ := wtB_facts hxw
      have hwr := step_below HB0.out HBW.out
      obtain ⟨b1, o1, rfl, c0', c1', c2', hok⟩ := HR.out k x hx
      have c0 := (hwr.cell (cell_lt c0')).trans c0'
      have c1 := (hwr.cell (cell_lt c1')).trans c1'
      have c2 := (hwr.cell (cell_lt c2')).trans c2'
      clear c0' c1' c2' hwr
      have HS := Lib.hid (flat_take wtW xs k x hx)
      have HWX := Lib.hid (show wtW x = (numW t ++ (bytesW x.key ++ [if decide (0 < x.R.length) then 1 else 0])) ++ (if 0 < x.R.length then bytesW (putL bsW x.R) else []) by unfold wtW; rw [hxt, Int.toNat_natCast])
      have t4 := numW_ten t (by omega)
      have t5 := bytesW_len x.key (by omega)
      have HRW := Lib.hid (fun W (b : Below W1.heap.size W1 W) (h0 : ¬ x.R.length = 0) => rrow_own x.ra x.R x.R.length x.rc rfl (by have := (mayR_iff _).1 (hxr.resolve_left h0); omega) (by omega) (fun p hp => by have := ((mayR_iff _).1 (hxr.resolve_left h0)).1 p hp; omega) W (hok.below (step_below HB0.out b)).row)
      have HKW := Lib.hid (fun W (b : Below W1.heap.size W1 W) => rbytes_own x.ka x.key x.key.length x.kc rfl (by omega) W (hok.below (step_below HB0.out b)).ls)
      have t6 := bytesW_len (putL bsW x.R) (by omega)
      obtain ⟨X, hX⟩ : ∃ X, wtW x = X := ⟨_, rfl⟩
      rw [hX] at HS HWX hxl
      rw [hxt] at c0
      obtain ⟨key, hkey⟩ : ∃ y, x.key = y := ⟨_, rfl⟩
      obtain ⟨kl, hkl'⟩ : ∃ y, key.length = y := ⟨_, rfl⟩
      obtain ⟨xa, hxa⟩ : ∃ y, x.ka = y := ⟨_, rfl⟩
      obtain ⟨xc, hxc⟩ : ∃ y, x.kc = y := ⟨_, rfl⟩
      obtain ⟨xra, hxra⟩ : ∃ y, x.ra = y := ⟨_, rfl⟩
      obtain ⟨xrc, hxrc⟩ : ∃ y, x.rc = y := ⟨_, rfl⟩
      obtain ⟨RR, hRR⟩ : ∃ y, x.R = y := ⟨_, rfl⟩
      obtain ⟨rl, hrl⟩ : ∃ y, RR.length = y := ⟨_, rfl⟩
      rw [hxa, hkey, hkl', hxc] at c1 HKW
      rw [hxra, hRR, hrl, hxrc] at c2 HRW
      rw [hkey, hRR, hrl] at HWX
      rw [hkey, hkl'] at hkl
      rw [hkey, hkl'] at t5
      rw [hRR] at t6 hpl
      obtain ⟨P3, hP3⟩ : ∃ P, P2 ++ ((xs.take k).map wtW).flatten = P := ⟨_, rfl⟩
      have HPE := Lib.hid hP3
      obtain ⟨l3, rfl⟩ : ∃ l, l = lk := ⟨_, rfl⟩
      rw [hP3] at HPK
      clear hP3 hx hxw hxt hxr hok hX hkey hkl' hxa hxc hxra hxrc hRR hrl
      go_upto_region 7 with (fail)
      obtain ⟨w3, hW3⟩ : ∃ W3, wr.alloc (.cells #[.int .i64 (t : Int), .slice xa kl xc, .slice xra rl xrc] 51) = W3 := ⟨_, rfl⟩
      have hb3 : Below wr.heap.size wr w3 := by rw [← hW3]; exact bl1 _ _
      have bx3 : BoxC w3 wr.heap.size #[.int .i64 (t : Int), .slice xa kl xc, .slice xra rl xrc] 51 := by rw [← hW3]; exact BoxC.new _ _ _
      try rw [hW3]
      clear hW3
      have HN3 := Lib.hid bx3
      have HB3 := Lib.hid (step_below HBW.out hb3)
      have HP3 := Lib.hid (own_below HPK.out hb3)
      have y0 := bx3.cell 0
      simp at y0
      clear hb3 bx3 HPK z0 z1 z2 c0 c1 c2
      go_wp2_with fail
      refine (rnumber15_own t (by omega) _).mono ?_
      rintro r x4 ⟨a4, c4, rfl, ho, hl, hb⟩
      have HL4 := Lib.hid hl.ls
      have HQ4 := Lib.hid (own_below HP3.out hb)
      have HC4 := Lib.hid (step_below HB3.out hb)
      have HN4 := Lib.hid (HN3.out.below hb)
      have hs4 := HC4.out.size
      clear ho hl hb HB3 HP3
      go_upto_region 8 with (at_builtin; refine append_ls eltB rfl (.tmp 33) (.tmp 36) rfl W1.heap.size _ l3 (iv .u8 P3) rfl HQ4.out _ _ (numW t).length (numW t) rfl rfl HL4.out (by omega) hs4 ?_)
      intro v4 w4 ho3 hg3
      rw [← iv_append] at ho3
      have HP4 := Lib.hid ho3
      have HB4 := Lib.hid (HC4.out.grown hg3 hs4 (fun j hj => (HQ4.out.lt j hj).1))
      have HN4 := Lib.hid (HN4.out.apart HQ4.out (by decide) hg3)
      obtain ⟨l4, hl4⟩ : ∃ l, l3 + (numW t).length = l := ⟨_, rfl⟩
      obtain ⟨P4, hP4⟩ : ∃ P, P3 ++ numW t = P := ⟨_, rfl⟩
      have HE4 := Lib.hid (And.intro hP4 hl4)
      have hm4 : l4 ≤ l3 + 10 := by omega
      rw [hl4, hP4] at HP4
      clear ho3 hg3 hl4 hP4 HC4 HQ4 HL4
      clear y0
      have y1 := HN4.out.cell 1
      simp at y1
      go_wp2_with fail
      refine (HKW.out _ HB4.out).mono ?_
      rintro r x5 ⟨a5, c5, rfl, ho, hl, hb⟩
      have HL5 := Lib.hid hl.ls
      have HQ5 := Lib.hid (own_below HP4.out hb)
      have HC5 := Lib.hid (step_below HB4.out hb)
      have HN5 := Lib.hid (HN4.out.below hb)
      have hs5 := HC5.out.size
      clear ho hl hb HB4 HP4
      go_upto_region 9 with (at_builtin; refine append_ls eltB rfl (.tmp 38) (.tmp 41) rfl W1.heap.size _ l4 (iv .u8 P4) rfl HQ5.out _ _ (bytesW key).length (bytesW key) rfl rfl HL5.out (by omega) hs5 ?_)
      intro v5 w5 ho3 hg3
      rw [← iv_append] at ho3
      have HP5 := Lib.hid ho3
      have HB5 := Lib.hid (HC5.out.grown hg3 hs5 (fun j hj => (HQ5.out.lt j hj).1))
      have HN5 := Lib.hid (HN5.out.apart HQ5.out (by decide) hg3)
      obtain ⟨l5, hl5⟩ : ∃ l, l4 + (bytesW key).length = l := ⟨_, rfl⟩
      obtain ⟨P5, hP5⟩ : ∃ P, P4 ++ bytesW key = P := ⟨_, rfl⟩
      have HE5 := Lib.hid (And.intro hP5 hl5)
      have hm5 : l5 ≤ l4 + 42 := by omega
      rw [hl5, hP5] at HP5
      clear ho3 hg3 hl5 hP5 HC5 HQ5 HL5
      clear y1 HKW
      have y2 := HN5.out.cell 2
      simp at y2
      by_cases hr0 : rl = 0
      · have d0 : ((rl : Int) == 0) = true := by simp; omega
        have HX := Lib.hid (show X = (numW t ++ (bytesW key ++ [0])) ++ [] by rw [HWX.out, hr0]; rfl)
        have HLA := Lib.hid (lit_ls w5 0)
        have HPA := Lib.hid (HP5.out.alloc (.cells #[.int .u8 0] 5))
        have HCA := Lib.hid (HB5.out.alloc HB5.out.size (.cells #[.int .u8 0] 5))
        have hsA := HCA.out.size
        clear hr0 HRW
        go_wp2_with (at_builtin; refine append_ls eltB rfl (.tmp 47) (.tmp 48) rfl W1.heap.size _ l5 (iv .u8 P5) rfl HPA.out _ _ 1 [0] rfl rfl HLA.out (by omega) hsA ?_)
        intro v6 w6 ho3 hg3
        rw [← iv_append] at ho3
        have HP6 := Lib.hid ho3
        have HB6 := Lib.hid (HCA.out.grown hg3 hsA (fun j hj => (HPA.out.lt j hj).1))
        clear ho3 hg3
        have HXX := Lib.hid (show P5 ++ [0] = P2 ++ ((xs.take (k + 1)).map wtW).flatten by rw [HS.out, HX.out, ← List.append_assoc P2, HPE.out, ← HE5.out.1, ← HE4.out.1]; simp)
        have HXL := Lib.hid (show l5 + 1 = l3 + X.length by rw [HX.out, ← HE5.out.2, ← HE4.out.2]; simp; omega)
        go_wp2_with fail
        go_roundw
        case rel =>
          refine ⟨k + 1, l5 + 1, by omega, by go_num, by have := HXL.out; omega, Lib.hid ?_, Lib.hid (by rw [← HXX.out]; exact HP6.out), HB6⟩
          rw [HS.out, List.length_append, HXL.out, ← HLK.out]; omega
        case measure => simp [intOf]; omega
      · have d0 : ((rl : Int) == 0) = false := by simp; omega
        have HX := Lib.hid (show X = (numW t ++ (bytesW key ++ [1])) ++ bytesW (putL bsW RR) by
          have hrl0 : 0 < rl := by omega
          rw [HWX.out, if_pos hrl0, decide_eq_true hrl0]; rfl)
        have HLA := Lib.hid (lit_ls w5 1)
        have HPA := Lib.hid (HP5.out.alloc (.cells #[.int .u8 1] 5))
        have HCA := Lib.hid (HB5.out.alloc HB5.out.size (.cells #[.int .u8 1] 5))
        have HNA := Lib.hid (HN5.out.alloc (.cells #[.int .u8 1] 5))
        have hsA := HCA.out.size
        have HRX := Lib.hid (fun W b => HRW.out W b hr0)
        clear hr0 HRW
        go_upto_region 12 with (at_builtin; refine append_ls eltB rfl (.tmp 50) (.tmp 51) rfl W1.heap.size _ l5 (iv .u8 P5) rfl HPA.out _ _ 1 [1] rfl rfl HLA.out (by omega) hsA ?_)
        intro v6 w6 ho3 hg3
        rw [← iv_append] at ho3
        have HP6 := Lib.hid ho3
        have HB6 := Lib.hid (HCA.out.grown hg3 hsA (fun j hj => (HPA.out.lt j hj).1))
        have HN6 := Lib.hid (HNA.out.apart HPA.out (by decide) hg3)
        clear y2
        obtain ⟨l6, hl6⟩ : ∃ l, l5 + 1 = l := ⟨_, rfl⟩
        obtain ⟨P6, hP6⟩ : ∃ P, P5 ++ [1] = P := ⟨_, rfl⟩
        have HE6 := Lib.hid (And.intro hP6 hl6)
        have hm6 : l6 ≤ l5 + 1 := by omega
        rw [hl6, hP6] at HP6
        have y2 := HN6.out.cell 2
        simp at y2
        clear ho3 hg3 hl6 hP6 HCA HPA HLA HNA HN6
        go_wp2_with fail
        refine (HRX.out _ HB6.out).mono ?_
        rintro r x6 ⟨ar, cr, rfl, ho, hl, hb⟩
        have HLR := Lib.hid hl.ls
        have HP6x := Lib.hid (own_below HP6.out hb)
        have HB6x := Lib.hid (step_below HB6.out hb)
        clear ho hl hb HP6 HB6 HRX y2
        obtain ⟨HP6, HB6⟩ := And.intro HP6x HB6x
        go_wp2_with fail
        refine (rbytes_own ar (putL bsW RR) (putL bsW RR).length cr rfl (by omega) _ HLR.out).mono ?_
        rintro r x7 ⟨a7, c7, rfl, ho, hl, hb⟩
        have HL7 := Lib.hid hl.ls
        have HQ7 := Lib.hid (own_below HP6.out hb)
        have HC7 := Lib.hid (step_below HB6.out hb)
        have hs7 := HC7.out.size
        clear ho hl hb HB6 HP6
        go_wp2_with (at_builtin; refine append_ls eltB rfl (.tmp 53) (.tmp 57) rfl W1.heap.size _ l6 (iv .u8 P6) rfl HQ7.out _ _ (bytesW (putL bsW RR)).length (bytesW (putL bsW RR)) rfl rfl HL7.out (by omega) hs7 ?_)
        intro v7 w7 ho3 hg3
        rw [← iv_append] at ho3
        have HP7 := Lib.hid ho3
        have HB7 := Lib.hid (HC7.out.grown hg3 hs7 (fun j hj => (HQ7.out.lt j hj).1))
        obtain ⟨l7, hl7⟩ : ∃ l, l6 + (bytesW (putL bsW RR)).length = l := ⟨_, rfl⟩
        obtain ⟨P7, hP7⟩ : ∃ P, P6 ++ bytesW (putL bsW RR) = P := ⟨_, rfl⟩
        have HE7 := Lib.hid (And.intro hP7 hl7)
        have hm7 : l7 ≤ l6 + 1010 := by omega
        rw [hl7, hP7] at HP7
        clear ho3 hg3 hl7 hP7 HC7 HQ7 HL7
        have HXX := Lib.hid (show P7 = P2 ++ ((xs.take (k + 1)).map wtW).flatten by rw [HS.out, HX.out, ← List.append_assoc P2, HPE.out, ← HE7.out.1, ← HE6.out.1, ← HE5.out.1, ← HE4.out.1]; simp)
        have HXL := Lib.hid (show l7 = l3 + X.length by rw [HX.out, ← HE7.out.2, ← HE6.out.2, ← HE5.out.2, ← HE4.out.2]; simp; omega)
        go_wp2_with fail
        go_roundw
        case rel =>
          refine ⟨k + 1, l7, by omega, by go_num, by have := HXL.out; omega, Lib.hid ?_, Lib.hid (by rw [← HXX.out]; exact HP7.out), HB7⟩
          rw [HS.out, List.length_append, HXL.out, ← HLK.out]; omega
        case measure => simp [intOf]; omega
    · have dl : ¬ (k : Int) < (n : Int) := by omega
      obtain rfl : k = n := by omega
      obtain ⟨pa, pc, hv⟩ := own_form HPK.out
      subst hv
      have HML := Lib.hid (show P2 ++ ((xs.take k).map wtW).flatten = txW e s xs by
        rw [← HE2.out.1, ← HE1.out.1, ← HN.out, List.take_length]
        unfold txW tidW putL
        simp only [List.append_assoc])
      have hlen : (txW e s xs).length = lk := by rw [← HML.out, List.length_append, ← HLK.out, ← HE2.out.1, ← HE1.out.1, ← HE2.out.2, ← HE1.out.2]; simp; omega
      rw [HML.out] at HPK
      obtain ⟨_, _, ee, hll, _⟩ := own_ls HPK.out hlen
      cases ee
      have HFR := Lib.hid (And.intro hlen (And.intro hll (step_below HB0.out HBW.out)))
      clear hll hlen
      go_wp2_with fail
      go_ret
      exact ⟨pa, pc, by rw [HFR.out.1]; rfl, HFR.out.2.1, HFR.out.2.2⟩
end Go.Proofs.YtglkndoghnblcaaGreat
namespace Go.Proofs.YtglkndoghnblcaaGreat
open Go.ChangeShapes Go.WideShapes Go.ChangeAt Go.RowKit
set_option linter.unusedVariables false
set_option linter.unusedSimpArgs false
set_option maxRecDepth 100000 in
set_option maxHeartbeats 4000000 in
/-- LogTxns (4). -/
theorem logtxns_law (e s : Int) (a : Option Addr) (xs : List WtP) (n c : Nat) (ba : Option Addr) (L : List Int) (bl bc : Nat) (hn : xs.length = n) (hBG : BgW xs) (hbl : L.length = bl) (hB : Byt L) (w : World) (hR : WtsR w a xs) (hL : Ls .u8 w ba bc L) :
    Calls Tryz.prog 4 #[.agg #[.int .i64 e, .int .i64 s, .slice a n c], .slice ba bl bc] w fun r w' => r = .returned (.bool true) ∧ Below w.heap.size w w' := by
  have HN := Lib.hid hn
  have HBL := Lib.hid (And.intro hbl hB)
  have hnb : n ≤ 140737488355328 := by rw [← hn]; exact hBG.1
  have HMU := Lib.hid (fun W (b : Below w.heap.size w W) => muchw_law a xs n c hn hBG W (hR.below b))
  have HR := Lib.hid (And.intro hR hL)
  clear hn hBG hbl hB hR hL
  go_enter Tryz.func4, Tryz.ntmps4
  go_upto_region 1 with (fail)
  obtain ⟨W1, hW0⟩ : ∃ W0, w.alloc (.cells #[.int .i64 e, .int .i64 s, .slice a n c] 39) = W0 := ⟨_, rfl⟩
  have hb0 : Below w.heap.size w W1 := by rw [← hW0]; exact bl1 _ _
  have bx : BoxC W1 w.heap.size #[.int .i64 e, .int .i64 s, .slice a n c] 39 := by rw [← hW0]; exact BoxC.new w _ 39
  try rw [hW0]
  clear hW0
  have HB0 := Lib.hid hb0
  have FQ := Lib.hid (fun X (b' : Below W1.heap.size W1 X) => (⟨(bx.below b').cell 0, (bx.below b').cell 1, (bx.below b').cell 2⟩ : X.cell? ⟨w.heap.size, 0, none⟩ = some (.int .i64 e) ∧ X.cell? ⟨w.heap.size, 1, none⟩ = some (.int .i64 s) ∧ X.cell? ⟨w.heap.size, 2, none⟩ = some (.slice a n c)))
  have HMC := Lib.hid (HMU.out _ hb0)
  clear hb0 bx HMU
  obtain ⟨z0, z1, z2⟩ := FQ.out _ (Below.refl _ _)
  go_wp2_with fail
  refine HMC.out.mono ?_; rintro r w2 ⟨⟨mb, rfl, hmb⟩, hb2⟩
  have HB2 := Lib.hid hb2
  clear hb2 HMC z0 z1 z2
  cases mb with
  | true =>
    clear hmb
    go_wp2_with fail
    refine (known_law _).mono ?_; rintro r w5 ⟨rfl, hb5⟩
    have HB5 := Lib.hid (step_below (step_below HB0.out HB2.out) hb5)
    clear hb5
    go_wp2_with fail
    go_ret
    exact ⟨rfl, HB5.out⟩
  | false =>
  have HSM := Lib.hid (hmb rfl)
  clear hmb
  by_cases hbb : 30000 < bl
  · have e2 : (30000 : Int) < (bl : Int) := by omega
    go_wp2_with fail
    refine (known_law _).mono ?_; rintro r w5 ⟨rfl, hb5⟩
    have HB5 := Lib.hid (step_below (step_below HB0.out HB2.out) hb5)
    clear hb5
    go_wp2_with fail
    go_ret
    exact ⟨rfl, HB5.out⟩
  have e2 : ¬ (30000 : Int) < (bl : Int) := by omega
  have hbl2 : bl ≤ 30000 := by omega
  have hn9 : n ≤ 9000 := by rw [← HN.out]; exact HSM.out.1
  clear hbb
  obtain ⟨z0, z1, z2⟩ := FQ.out _ HB2.out
  have HCT := Lib.hid (copytxn_law e s a xs n c HN.out (by omega) (fun x hx => by
    obtain ⟨h1, h2, h3⟩ := HSM.out.2 x hx
    exact ⟨by omega, by omega, fun p hp => by have := h3 p hp; omega⟩) w2 (HR.out.1.below (step_below HB0.out HB2.out)))
  go_wp2_with fail
  refine HCT.out.mono ?_
  rintro r w3 ⟨oa, oc, ys, rfl, hyc, hyr, hoc, hb3⟩
  have HB3 := Lib.hid (step_below HB2.out hb3)
  have HYC := Lib.hid hyc
  have HYR := Lib.hid hyr
  clear z0 z1 z2 HCT hyc hyr hb3 hoc
  go_upto_region 4 with (fail)
  obtain ⟨W4, hW4⟩ : ∃ W0, w3.alloc (.cells #[.int .i64 e, .int .i64 s, .slice oa n oc] 39) = W0 := ⟨_, rfl⟩
  have hb4 : Below w3.heap.size w3 W4 := by rw [← hW4]; exact bl1 _ _
  have bo : BoxC W4 w3.heap.size #[.int .i64 e, .int .i64 s, .slice oa n oc] 39 := by rw [← hW4]; exact BoxC.new _ _ 39
  try rw [hW4]
  clear hW4
  have HB4 := Lib.hid (step_below HB3.out hb4)
  have HYR4 := Lib.hid (HYR.out.below hb4)
  generalize w3.heap.size = NO at *
  have BO := Lib.hid bo
  have o0 := bo.cell 0
  have o1 := bo.cell 1
  have o2 := bo.cell 2
  simp at o0 o1 o2
  have hyl : ys.length = n := (map_len HYC.out).trans HN.out
  have HYB := Lib.hid (show ∀ y ∈ ys, y.R.length ≤ 1000000 from fun y hy => by
    obtain ⟨k, hk⟩ := List.mem_iff_getElem?.1 hy
    obtain ⟨x, hx, hc⟩ := map_at HYC.out.symm hk
    have h1 := (wtC_parts hc).2.2.2
    have h2 := (HSM.out.2 x (List.mem_of_getElem? hx)).2.1
    omega)
  have HPT := Lib.hid (puttxn_o e s oa ys n oc hyl (by omega) HYB.out W4 HYR4.out)
  have HYL := Lib.hid hyl
  clear hb4 bo hyl
  go_wp2_with fail
  refine HPT.out.mono ?_
  rintro r w5 ⟨fa, fl, fc, en, F, rfl, hF, hfl, hFL, hb5, hcase⟩
  have HB5 := Lib.hid (step_below HB4.out hb5)
  have HB45 := Lib.hid hb5
  have HF := Lib.hid (And.intro hF hFL)
  have HCS := Lib.hid hcase
  have HT1 := Lib.hid (txns_law ba L bl bc HBL.out.1 (by omega) HBL.out.2 w5 (HR.out.2.below (step_below HB0.out HB5.out)))
  clear o0 o1 o2 HPT hF hFL hb5 hcase
  go_wp2_with fail
  refine HT1.out.mono ?_
  intro r w6 ht1
  have hb6 : Below w5.heap.size w5 w6 := by obtain ⟨_, _, _, h⟩ := ht1; exact h
  obtain ⟨ta, tc, qs, rfl, hql, hqr, hqb, hqc, _⟩ := tqo_of HBL.out.2 ht1
  have HB6 := Lib.hid (step_below HB5.out hb6)
  have HB46 := Lib.hid (step_below HB45.out hb6)
  have HF6 := Lib.hid (HF.out.2.below hb6)
  have HQ := Lib.hid (And.intro hql (And.intro hqr (And.intro hqb hqc)))
  have HT2 := Lib.hid (rtxns_law ba L bl bc HBL.out.1 (by omega) HBL.out.2 w6 (HR.out.2.below (step_below HB0.out HB6.out)))
  have HTK := Lib.hid (show (txsL (framesL L)).length ≤ 1000000 from by
    have h1 := txsL_le (framesL L)
    have h2 := sumF_ge (framesL L) _ (Nat.le_refl _)
    have h3 := whole_le bl L (Nat.le_of_eq HBL.out.1)
    have h5 := HBL.out.1
    have h4 : wholeL L = sumF (framesL L) (framesL L).length := (sumF_all _).symm
    omega)
  have HBC := Lib.hid (fun r w' (h : TxnsR w6 L r w') => tqo_of HBL.out.2 h)
  clear hql hqr hqb hqc hb6 ht1 HT1
  generalize (sumF (framesL L) (txsL (framesL L)).length == wholeL L) = ib at *
  generalize sumF (framesL L) (txsL (framesL L)).length = im at *
  generalize (txsL (framesL L)).length = ik at *
  go_wp2_with fail
  refine HT2.out.mono ?_
  intro r w7 ht2
  obtain ⟨va, vc, ps, rfl, hpl, hpr, hpb, hpc, hb7⟩ := HBC.out _ _ ht2
  have HB7 := Lib.hid (step_below HB6.out hb7)
  have HB47 := Lib.hid (step_below HB46.out hb7)
  have HF7 := Lib.hid (HF6.out.below hb7)
  have HQ7 := Lib.hid (HQ.out.2.1.below hb7)
  have HP := Lib.hid (And.intro hpl (And.intro hpr (And.intro hpb hpc)))
  clear hpl hpr hpb hpc hb7 ht2 HT2 HBC
  go_upto_region 7 with (fail)
  obtain ⟨WH, rfl⟩ : ∃ Y, Y = w7 := ⟨_, rfl⟩
  have HIK := Lib.hid HTK.out
  have HS1 := Lib.hid (fun W (b : Below WH.heap.size WH W) => (show Calls Tryz.prog 22 #[.slice ta ik tc, .slice va ik vc] W fun r w' => r = .returned (.bool true) ∧ Below W.heap.size W w' by
    have h := stxns_law ta va qs ps ik ik tc vc HQ.out.1 HP.out.1 HTK.out HTK.out HQ.out.2.2.1 HP.out.2.2.1 W (HQ7.out.below b) (HP.out.2.1.below b)
    rw [HQ.out.2.2.2, HP.out.2.2.2, decide_eq_true rfl] at h
    exact h))
  obtain ⟨tb, htb⟩ : ∃ b, txB e s xs = b := ⟨_, rfl⟩
  have HTB := Lib.hid htb
  have HM1 := Lib.hid (fun W (b : Below WH.heap.size WH W) => (show Calls Tryz.prog 23 #[.agg #[.int .i64 e, .int .i64 s, .slice oa n oc]] W fun r w' => r = .returned (.bool tb) ∧ Below W.heap.size W w' by
    have h := maytxn_law e s oa ys n oc HYL.out (by omega) HYB.out W (HYR4.out.below (step_below HB47.out b))
    rw [txB_c e s HYC.out, HTB.out] at h
    exact h))
  have HM2 := Lib.hid (fun W (b : Below WH.heap.size WH W) => (show Calls Tryz.prog 24 #[.agg #[.int .i64 e, .int .i64 s, .slice a n c]] W fun r w' => r = .returned (.bool tb) ∧ Below W.heap.size W w' by
    have h := rmaytxn_law e s a xs n c HN.out (by omega) W (HR.out.1.below (step_below HB0.out (step_below HB7.out b)))
    rw [HTB.out] at h
    exact h))
  have HS2 := Lib.hid (fun W (b : Below WH.heap.size WH W) N M (bo : BoxC W N #[.int .i64 e, .int .i64 s, .slice oa n oc] 39) (bt : BoxC W M #[.int .i64 e, .int .i64 s, .slice a n c] 39) => (show Calls Tryz.prog 22 #[.slice (some ⟨N, 0, none⟩) 1 1, .slice (some ⟨M, 0, none⟩) 1 1] W fun r w' => r = .returned (.bool true) ∧ Below W.heap.size W w' by
    have hyl := HYL.out
    have hxl := HN.out
    have h1 := txq_one (W := W) (N := N) ⟨e, s, oa, oc, ys⟩ (by rw [hyl]; exact bo) (HYR4.out.below (step_below HB47.out b))
    have h2 := txq_one (W := W) (N := M) ⟨e, s, a, c, xs⟩ (by rw [hxl]; exact bt) (HR.out.1.below (step_below HB0.out (step_below HB7.out b)))
    have h := stxns_law (some ⟨N, 0, none⟩) (some ⟨M, 0, none⟩) [⟨e, s, oa, oc, ys⟩] [⟨e, s, a, c, xs⟩] 1 1 1 1 rfl rfl (by omega) (by omega) (fun p hp => by
      rw [List.mem_singleton] at hp
      subst hp
      exact ⟨by simp only [hyl]; omega, HYB.out⟩) (fun p hp => by
      rw [List.mem_singleton] at hp
      subst hp
      exact ⟨by simp only [hxl]; omega, fun q hq => by have := (HSM.out.2 q hq).2.1; omega⟩) W h1 h2
    rw [decide_eq_true (by simp only [List.map_cons, List.map_nil, txC, HYC.out])] at h
    exact h))
  have FO := Lib.hid (fun W (b : Below WH.heap.size WH W) => (show W.cell? ⟨NO, 0, none⟩ = some (.int .i64 e) ∧ W.cell? ⟨NO, 1, none⟩ = some (.int .i64 s) ∧ W.cell? ⟨NO, 2, none⟩ = some (.slice oa n oc) ∧ W.cell? ⟨w.heap.size, 0, none⟩ = some (.int .i64 e) ∧ W.cell? ⟨w.heap.size, 1, none⟩ = some (.int .i64 s) ∧ W.cell? ⟨w.heap.size, 2, none⟩ = some (.slice a n c) by
    have bo := BO.out.below (step_below HB47.out b)
    obtain ⟨z0, z1, z2⟩ := FQ.out W (step_below HB7.out b)
    exact ⟨bo.cell 0, bo.cell 1, bo.cell 2, z0, z1, z2⟩))
  clear htb HTK HQ HP HQ7
  go_cut [72] (fun v wx => v = .bool false ∧ Hid (Below WH.heap.size WH wx))
  case first =>
    rename_i JJ KK hJJ hKK
    refine Code.wp_mono (Q := Exit.then KK (fun _ _ _ => False)) (fun e a' w' h => by cases e <;> first | exact h | exact h.elim) ?_
    refine wp_region_held_drew (S := (fun X => Below WH.heap.size WH X)) (by kernel_rfl) ((Below.refl _ _).drew) (fun hHeld => ?_)
    refine tp 0 ?_ rfl (.inl ⟨by rfl, ?_⟩) ?_
    rotate_left
    · intro W hSw; go_simp; try with_reducible rfl
    refine tp 1 ?_ rfl (.inl ⟨by rfl, ?_⟩) ?_
    rotate_left
    · intro W hSw; go_simp; try with_reducible rfl
    refine wpAnyH_ready (rs := [2]) (by kernel_rfl) (by simp) ?_
    refine AllReadyH.cons (o := { dst := some 46, op := Op.call { callee := Callee.value (Operand.func 22), args := #[Operand.tmp 44, Operand.tmp 45], argTypes := #[43, 43] }, type := 4, pos := "law.go:108", after := #[{ on := 0, ground := Ground.data }, { on := 1, ground := Ground.data }], guard := none }) rfl (fun K hK => ?_) AllReadyH.nil
    go_simp
    refine (HS1.out _ hHeld).mono ?_; rintro e9 w8 ⟨rfl, hb8⟩
    go_wp2_with fail
    refine hK.out _ _ (step_below hHeld hb8) (fun hHeldn => ?_)
    clear hK K hHeld; have hHeld := hHeldn; clear hHeldn
    clear hb8
    try simp only [Act.put, List.setIfInBounds_toArray, List.set_cons_zero, List.set_cons_succ]
    refine tp 3 ?_ rfl (.inl ⟨by rfl, ?_⟩) ?_
    rotate_left
    · intro W hSw; go_simp; try with_reducible rfl
    refine tp 4 ?_ rfl (.inl ⟨by rfl, ?_⟩) ?_
    rotate_left
    · intro W hSw; go_simp; try with_reducible rfl
    refine tp 5 ?_ rfl (.inl ⟨by rfl, ?_⟩) ?_
    rotate_left
    · intro W hSw; go_simp; try with_reducible rfl
    refine tp 6 ?_ rfl (.inl ⟨by rfl, ?_⟩) ?_
    rotate_left
    · intro W hSw; go_simp; try with_reducible rfl
    refine tp 7 ?_ rfl (.inl ⟨by rfl, ?_⟩) ?_
    rotate_left
    · intro W hSw; go_simp; try with_reducible rfl
    refine tp 8 ?_ rfl (.inl ⟨by rfl, ?_⟩) ?_
    rotate_left
    · intro W hSw; go_simp; try with_reducible rfl
    refine tp 9 ?_ rfl (.inl ⟨by rfl, ?_⟩) ?_
    rotate_left
    · intro W hSw; go_simp; try with_reducible rfl
    refine tp 10 ?_ rfl (.inl ⟨by rfl, ?_⟩) ?_
    rotate_left
    · intro W hSw; go_simp; try with_reducible rfl
    refine tp 11 ?_ rfl (.inl ⟨by rfl, ?_⟩) ?_
    rotate_left
    · intro W hSw; go_simp; try with_reducible rfl
    refine tp 12 ?_ rfl (.inl ⟨by rfl, ?_⟩) ?_
    rotate_left
    · intro W hSw; go_simp; try with_reducible rfl
    refine tp 13 ?_ rfl (.inl ⟨by rfl, ?_⟩) ?_
    rotate_left
    · intro W hSw; go_simp; try with_reducible rfl
    refine tp 14 ?_ rfl (.inl ⟨by rfl, ?_⟩) ?_
    rotate_left
    · intro W hSw; go_simp; try with_reducible rfl
    refine tp 15 ?_ rfl (.inl ⟨by rfl, ?_⟩) ?_
    rotate_left
    · intro W hSw; obtain ⟨o0, o1, o2, z0, z1, z2⟩ := FO.out W hSw; go_simp; try with_reducible rfl
    refine tp 17 ?_ rfl (.inl ⟨by rfl, ?_⟩) ?_
    rotate_left
    · intro W hSw; obtain ⟨o0, o1, o2, z0, z1, z2⟩ := FO.out W hSw; go_simp; try with_reducible rfl
    refine wpAnyH_ready (rs := [16]) (by kernel_rfl) (by simp) ?_
    refine AllReadyH.cons (o := { dst := some 60, op := Op.call { callee := Callee.value (Operand.func 23), args := #[Operand.tmp 59], argTypes := #[39] }, type := 4, pos := "law.go:108", after := #[{ on := 15, ground := Ground.data }, { on := 14, ground := Ground.chain }, { on := 14, ground := Ground.guard }], guard := some (14, false) }) rfl (fun K hK => ?_) AllReadyH.nil
    go_simp
    refine (HM1.out _ hHeld).mono ?_; rintro e9 w9 ⟨rfl, hb9⟩
    go_wp2_with fail
    refine hK.out _ _ (step_below hHeld hb9) (fun hHeldn => ?_)
    clear hK K hHeld; have hHeld := hHeldn; clear hHeldn
    clear hb9
    try simp only [Act.put, List.setIfInBounds_toArray, List.set_cons_zero, List.set_cons_succ]
    refine wpAnyH_ready (rs := [18]) (by kernel_rfl) (by simp) ?_
    refine AllReadyH.cons (o := { dst := some 62, op := Op.call { callee := Callee.value (Operand.func 24), args := #[Operand.tmp 61], argTypes := #[39] }, type := 4, pos := "law.go:108", after := #[{ on := 17, ground := Ground.data }, { on := 16, ground := Ground.chain }, { on := 14, ground := Ground.guard }], guard := some (14, false) }) rfl (fun K hK => ?_) AllReadyH.nil
    go_simp
    refine (HM2.out _ hHeld).mono ?_; rintro e9 w10 ⟨rfl, hb10⟩
    go_wp2_with fail
    refine hK.out _ _ (step_below hHeld hb10) (fun hHeldn => ?_)
    clear hK K hHeld; have hHeld := hHeldn; clear hHeldn
    clear hb10
    try simp only [Act.put, List.setIfInBounds_toArray, List.set_cons_zero, List.set_cons_succ]
    refine tp 19 ?_ rfl (.inl ⟨by rfl, ?_⟩) ?_
    rotate_left
    · intro W hSw; go_simp; try with_reducible rfl
    refine tp 20 ?_ rfl (.inl ⟨by rfl, ?_⟩) ?_
    rotate_left
    · intro W hSw; go_simp; try with_reducible rfl
    refine tp 21 ?_ rfl (.inl ⟨by rfl, ?_⟩) ?_
    rotate_left
    · intro W hSw; go_simp; try with_reducible rfl
    refine tp 22 ?_ rfl (.inl ⟨by rfl, ?_⟩) ?_
    rotate_left
    · intro W hSw; obtain ⟨o0, o1, o2, z0, z1, z2⟩ := FO.out W hSw; go_simp; try with_reducible rfl
    refine tp 24 ?_ rfl (.inl ⟨by rfl, ?_⟩) ?_
    rotate_left
    · intro W hSw; obtain ⟨o0, o1, o2, z0, z1, z2⟩ := FO.out W hSw; go_simp; try with_reducible rfl
    refine wpAnyH_ready (rs := [23, 25]) (by kernel_rfl) (by simp) ?_
    refine AllReadyH.cons (o := { dst := some 67, op := Op.buildSlice 43 1 #[(0, Operand.tmp 66)], type := 43, pos := "law.go:108", after := #[{ on := 22, ground := Ground.data }, { on := 21, ground := Ground.guard }], guard := some (21, false) }) rfl (fun K hK => ?_) ?_
    · skip
      go_simp
      obtain ⟨WB1, hWB1⟩ : ∃ Y, w10.alloc (.cells #[.int .i64 e, .int .i64 s, .slice oa n oc] 39) = Y := ⟨_, rfl⟩
      have BXO := Lib.hid (show BoxC WB1 w10.heap.size #[.int .i64 e, .int .i64 s, .slice oa n oc] 39 by rw [← hWB1]; exact BoxC.new _ _ _)
      have hbb : Below w10.heap.size w10 WB1 := by rw [← hWB1]; exact bl1 _ _
      try rw [hWB1]
      clear hWB1
      refine hK.out _ _ (step_below hHeld hbb) (fun hHeldn => ?_)
      clear hK K hHeld hbb; have hHeld := hHeldn; clear hHeldn
      try simp only [Act.put, List.setIfInBounds_toArray, List.set_cons_zero, List.set_cons_succ]
      refine wpAnyH_ready (rs := [25]) (by kernel_rfl) (by simp) ?_
      refine AllReadyH.cons (o := { dst := some 69, op := Op.buildSlice 43 1 #[(0, Operand.tmp 68)], type := 43, pos := "law.go:108", after := #[{ on := 24, ground := Ground.data }, { on := 21, ground := Ground.guard }], guard := some (21, false) }) rfl (fun K hK => ?_) AllReadyH.nil
      go_simp
      obtain ⟨WB2, hWB2⟩ : ∃ Y, WB1.alloc (.cells #[.int .i64 e, .int .i64 s, .slice a n c] 39) = Y := ⟨_, rfl⟩
      have BXT := Lib.hid (show BoxC WB2 WB1.heap.size #[.int .i64 e, .int .i64 s, .slice a n c] 39 by rw [← hWB2]; exact BoxC.new _ _ _)
      have hbb : Below WB1.heap.size WB1 WB2 := by rw [← hWB2]; exact bl1 _ _
      have BXO' := Lib.hid (BXO.out.below hbb)
      try rw [hWB2]
      clear hWB2 BXO
      have BXO := BXO'
      clear BXO'
      refine hK.out _ _ (step_below hHeld hbb) (fun hHeldn => ?_)
      clear hK K hHeld hbb; have hHeld := hHeldn; clear hHeldn
      try simp only [Act.put, List.setIfInBounds_toArray, List.set_cons_zero, List.set_cons_succ]
      refine wpAnyH_ready (rs := [26]) (by kernel_rfl) (by simp) ?_
      refine AllReadyH.cons (o := { dst := some 70, op := Op.call { callee := Callee.value (Operand.func 22), args := #[Operand.tmp 67, Operand.tmp 69], argTypes := #[43, 43] }, type := 4, pos := "law.go:108", after := #[{ on := 23, ground := Ground.data }, { on := 25, ground := Ground.data }, { on := 21, ground := Ground.chain }, { on := 21, ground := Ground.guard }], guard := some (21, false) }) rfl (fun K hK => ?_) AllReadyH.nil
      go_simp
      refine (HS2.out _ hHeld _ _ BXO.out BXT.out).mono ?_; rintro e9 w11 ⟨rfl, hb11⟩
      go_wp2_with fail
      refine hK.out _ _ (step_below hHeld hb11) (fun hHeldn => ?_)
      clear hK K hHeld; have hHeld := hHeldn; clear hHeldn
      clear hb11
      try simp only [Act.put, List.setIfInBounds_toArray, List.set_cons_zero, List.set_cons_succ]
      refine tp 27 ?_ rfl (.inl ⟨by rfl, ?_⟩) ?_
      rotate_left
      · intro W hSw; go_simp; try with_reducible rfl
      refine tp 28 ?_ rfl (.inl ⟨by rfl, ?_⟩) ?_
      rotate_left
      · intro W hSw; go_simp; try with_reducible rfl
      refine wpAnyH_done (by kernel_rfl) ?_ _
      refine hKK _ _ ?_
      go_meet
      exact ⟨rfl, Lib.hid hHeld⟩
    refine AllReadyH.cons (o := { dst := some 69, op := Op.buildSlice 43 1 #[(0, Operand.tmp 68)], type := 43, pos := "law.go:108", after := #[{ on := 24, ground := Ground.data }, { on := 21, ground := Ground.guard }], guard := some (21, false) }) rfl (fun K hK => ?_) AllReadyH.nil
    go_simp
    obtain ⟨WB1, hWB1⟩ : ∃ Y, w10.alloc (.cells #[.int .i64 e, .int .i64 s, .slice a n c] 39) = Y := ⟨_, rfl⟩
    have BXT := Lib.hid (show BoxC WB1 w10.heap.size #[.int .i64 e, .int .i64 s, .slice a n c] 39 by rw [← hWB1]; exact BoxC.new _ _ _)
    have hbb : Below w10.heap.size w10 WB1 := by rw [← hWB1]; exact bl1 _ _
    try rw [hWB1]
    clear hWB1
    refine hK.out _ _ (step_below hHeld hbb) (fun hHeldn => ?_)
    clear hK K hHeld hbb; have hHeld := hHeldn; clear hHeldn
    try simp only [Act.put, List.setIfInBounds_toArray, List.set_cons_zero, List.set_cons_succ]
    refine wpAnyH_ready (rs := [23]) (by kernel_rfl) (by simp) ?_
    refine AllReadyH.cons (o := { dst := some 67, op := Op.buildSlice 43 1 #[(0, Operand.tmp 66)], type := 43, pos := "law.go:108", after := #[{ on := 22, ground := Ground.data }, { on := 21, ground := Ground.guard }], guard := some (21, false) }) rfl (fun K hK => ?_) AllReadyH.nil
    go_simp
    obtain ⟨WB2, hWB2⟩ : ∃ Y, WB1.alloc (.cells #[.int .i64 e, .int .i64 s, .slice oa n oc] 39) = Y := ⟨_, rfl⟩
    have BXO := Lib.hid (show BoxC WB2 WB1.heap.size #[.int .i64 e, .int .i64 s, .slice oa n oc] 39 by rw [← hWB2]; exact BoxC.new _ _ _)
    have hbb : Below WB1.heap.size WB1 WB2 := by rw [← hWB2]; exact bl1 _ _
    have BXT' := Lib.hid (BXT.out.below hbb)
    try rw [hWB2]
    clear hWB2 BXT
    have BXT := BXT'
    clear BXT'
    refine hK.out _ _ (step_below hHeld hbb) (fun hHeldn => ?_)
    clear hK K hHeld hbb; have hHeld := hHeldn; clear hHeldn
    try simp only [Act.put, List.setIfInBounds_toArray, List.set_cons_zero, List.set_cons_succ]
    refine wpAnyH_ready (rs := [26]) (by kernel_rfl) (by simp) ?_
    refine AllReadyH.cons (o := { dst := some 70, op := Op.call { callee := Callee.value (Operand.func 22), args := #[Operand.tmp 67, Operand.tmp 69], argTypes := #[43, 43] }, type := 4, pos := "law.go:108", after := #[{ on := 23, ground := Ground.data }, { on := 25, ground := Ground.data }, { on := 21, ground := Ground.chain }, { on := 21, ground := Ground.guard }], guard := some (21, false) }) rfl (fun K hK => ?_) AllReadyH.nil
    go_simp
    refine (HS2.out _ hHeld _ _ BXO.out BXT.out).mono ?_; rintro e9 w11 ⟨rfl, hb11⟩
    go_wp2_with fail
    refine hK.out _ _ (step_below hHeld hb11) (fun hHeldn => ?_)
    clear hK K hHeld; have hHeld := hHeldn; clear hHeldn
    clear hb11
    try simp only [Act.put, List.setIfInBounds_toArray, List.set_cons_zero, List.set_cons_succ]
    refine tp 27 ?_ rfl (.inl ⟨by rfl, ?_⟩) ?_
    rotate_left
    · intro W hSw; go_simp; try with_reducible rfl
    refine tp 28 ?_ rfl (.inl ⟨by rfl, ?_⟩) ?_
    rotate_left
    · intro W hSw; go_simp; try with_reducible rfl
    refine wpAnyH_done (by kernel_rfl) ?_ _
    refine hKK _ _ ?_
    go_meet
    exact ⟨rfl, Lib.hid hHeld⟩
  case rest =>
  obtain ⟨rfl, HB8⟩ := hcut
  obtain ⟨o0, o1, o2, z0, z1, z2⟩ := FO.out _ HB8.out
  go_wp2_with fail
  go_loopw [14] (fun i wr => ∃ k : Nat, k ≤ n ∧ i = .int .i64 (k : Int) ∧ Hid (Below WH.heap.size WH wr)) (fun i _ => n - (intOf i).toNat)
  case atStart => exact ⟨0, by omega, rfl, HB8⟩
  case round =>
    clear HB8 o0 o1 o2 z0 z1 z2
    obtain ⟨k, hk, rfl, HBW⟩ := hrel
    obtain ⟨o0, o1, o2, z0, z1, z2⟩ := FO.out _ HBW.out
    by_cases hlt : k < n
    · have d1 : (k : Int) < (n : Int) := by omega
      obtain ⟨x, hx⟩ : ∃ x, xs[k]? = some x := ⟨_, List.getElem?_eq_getElem (by rw [HN.out]; exact hlt)⟩
      obtain ⟨y, hy, hyx⟩ := map_at HYC.out hx
      have HX := Lib.hid (fun W (b : Below WH.heap.size WH W) => (HR.out.1.below (step_below HB0.out (step_below HB7.out b))) k x hx)
      have HY := Lib.hid (fun W (b : Below WH.heap.size WH W) => (HYR4.out.below (step_below HB47.out b)) k y hy)
      obtain ⟨b1, o1, ea, c0, c1, c2, _⟩ := HX.out _ HBW.out
      obtain ⟨b2, p1, eb, e0, e1, e2, _⟩ := HY.out _ HBW.out
      subst ea eb
      have HMX := Lib.hid (fun W (b : Below WH.heap.size WH W) => (by
        obtain ⟨_, _, _, _, _, _, ok⟩ := HX.out W b
        exact rmaywrite_law x W ok))
      have HMY := Lib.hid (fun W (b : Below WH.heap.size WH W) => (by
        obtain ⟨_, _, _, _, _, _, ok⟩ := HY.out W b
        have h := maywrite_law y (HYB.out y (List.mem_of_getElem? hy)) W ok
        rw [wtB_c hyx] at h
        exact h))
      obtain ⟨wb, hwb⟩ : ∃ b, wtB x = b := ⟨_, rfl⟩
      rw [hwb] at HMX HMY
      obtain ⟨xt, hxt⟩ : ∃ t, x.tab = t := ⟨_, rfl⟩
      obtain ⟨xl, hxl⟩ : ∃ t, x.key.length = t := ⟨_, rfl⟩
      obtain ⟨xrl, hxrl⟩ : ∃ t, x.R.length = t := ⟨_, rfl⟩
      obtain ⟨xa, hxa⟩ : ∃ y, x.ka = y := ⟨_, rfl⟩
      obtain ⟨xc, hxc⟩ : ∃ y, x.kc = y := ⟨_, rfl⟩
      obtain ⟨xra, hxra⟩ : ∃ y, x.ra = y := ⟨_, rfl⟩
      obtain ⟨xrc, hxrc⟩ : ∃ y, x.rc = y := ⟨_, rfl⟩
      obtain ⟨yt, hyt⟩ : ∃ t, y.tab = t := ⟨_, rfl⟩
      obtain ⟨yl, hyl⟩ : ∃ t, y.key.length = t := ⟨_, rfl⟩
      obtain ⟨yrl, hyrl⟩ : ∃ t, y.R.length = t := ⟨_, rfl⟩
      obtain ⟨ya, hya⟩ : ∃ z, y.ka = z := ⟨_, rfl⟩
      obtain ⟨yc, hyc⟩ : ∃ z, y.kc = z := ⟨_, rfl⟩
      obtain ⟨yra, hyra⟩ : ∃ z, y.ra = z := ⟨_, rfl⟩
      obtain ⟨yrc, hyrc⟩ : ∃ z, y.rc = z := ⟨_, rfl⟩
      have FW := Lib.hid (fun W (b : Below WH.heap.size WH W) => (show W.cell? ⟨NO, 2, none⟩ = some (.slice (some ⟨b2, p1, none⟩) n oc) ∧ W.cell? ⟨w.heap.size, 2, none⟩ = some (.slice (some ⟨b1, o1, none⟩) n c) ∧ W.cell? ⟨b1, o1 + k * 3, none⟩ = some (.int .i64 xt) ∧ W.cell? ⟨b1, o1 + k * 3 + 1, none⟩ = some (.slice xa xl xc) ∧ W.cell? ⟨b1, o1 + k * 3 + 2, none⟩ = some (.slice xra xrl xrc) ∧ W.cell? ⟨b2, p1 + k * 3, none⟩ = some (.int .i64 yt) ∧ W.cell? ⟨b2, p1 + k * 3 + 1, none⟩ = some (.slice ya yl yc) ∧ W.cell? ⟨b2, p1 + k * 3 + 2, none⟩ = some (.slice yra yrl yrc) by
        obtain ⟨_, _, v2, _, _, u2⟩ := FO.out W b
        obtain ⟨_, _, ea, c0, c1, c2, _⟩ := HX.out W b
        obtain ⟨_, _, eb, e0, e1, e2, _⟩ := HY.out W b
        cases ea
        cases eb
        rw [hxt] at c0
        rw [hxa, hxl, hxc] at c1
        rw [hxra, hxrl, hxrc] at c2
        rw [hyt] at e0
        rw [hya, hyl, hyc] at e1
        rw [hyra, hyrl, hyrc] at e2
        exact ⟨v2, u2, c0, c1, c2, e0, e1, e2⟩))
      rw [hxt, hxl, hxrl, hxa, hxc, hxra, hxrc] at HMX
      rw [hyt, hyl, hyrl, hya, hyc, hyra, hyrc] at HMY
      clear hx hy hyx hwb HX HY c0 c1 c2 e0 e1 e2 hxt hxl hxrl hxa hxc hxra hxrc hyt hyl hyrl hya hyc hyra hyrc o0 z0 z1
      go_upto_region 12 with (fail)
      go_cut [92] (fun v wx => v = .bool false ∧ Hid (Below WH.heap.size WH wx))
      case first =>
        rename_i JJ KK hJJ hKK
        refine Code.wp_mono (Q := Exit.then KK (fun _ _ _ => False)) (fun e a' w' h => by cases e <;> first | exact h | exact h.elim) ?_
        refine wp_region_held_drew (S := (fun X => Below wr.heap.size wr X)) (by kernel_rfl) ((Below.refl _ _).drew) (fun hHeld => ?_)
        refine tp 0 ?_ rfl (.inl ⟨by rfl, ?_⟩) ?_
        rotate_left
        · intro W hSw; go_simp; try with_reducible rfl
        refine tp 1 ?_ rfl (.inl ⟨by rfl, ?_⟩) ?_
        rotate_left
        · intro W hSw; obtain ⟨v2, u2, c0, c1, c2, e0, e1, e2⟩ := FW.out W (step_below HBW.out hSw); go_simp; try with_reducible rfl
        refine tp 2 ?_ rfl (.inl ⟨by rfl, ?_⟩) ?_
        rotate_left
        · intro W hSw; go_simp; try with_reducible rfl
        refine tp 3 ?_ rfl (.inl ⟨by rfl, ?_⟩) ?_
        rotate_left
        · intro W hSw; go_simp; try with_reducible rfl
        refine tp 4 ?_ rfl (.inl ⟨by rfl, ?_⟩) ?_
        rotate_left
        · intro W hSw; obtain ⟨v2, u2, c0, c1, c2, e0, e1, e2⟩ := FW.out W (step_below HBW.out hSw); go_simp; try with_reducible rfl
        refine tp 6 ?_ rfl (.inl ⟨by rfl, ?_⟩) ?_
        rotate_left
        · intro W hSw; go_simp; try with_reducible rfl
        refine tp 7 ?_ rfl (.inl ⟨by rfl, ?_⟩) ?_
        rotate_left
        · intro W hSw; obtain ⟨v2, u2, c0, c1, c2, e0, e1, e2⟩ := FW.out W (step_below HBW.out hSw); go_simp; try with_reducible rfl
        refine tp 8 ?_ rfl (.inl ⟨by rfl, ?_⟩) ?_
        rotate_left
        · intro W hSw; go_simp; try with_reducible rfl
        refine tp 9 ?_ rfl (.inl ⟨by rfl, ?_⟩) ?_
        rotate_left
        · intro W hSw; go_simp; try with_reducible rfl
        refine tp 10 ?_ rfl (.inl ⟨by rfl, ?_⟩) ?_
        rotate_left
        · intro W hSw; obtain ⟨v2, u2, c0, c1, c2, e0, e1, e2⟩ := FW.out W (step_below HBW.out hSw); go_simp; try with_reducible rfl
        refine wpAnyH_ready (rs := [5]) (by kernel_rfl) (by simp) ?_
        refine AllReadyH.cons (o := { dst := some 85, op := Op.call { callee := Callee.value (Operand.func 25), args := #[Operand.tmp 84], argTypes := #[51] }, type := 4, pos := "law.go:112", after := #[{ on := 4, ground := Ground.data }], guard := none }) rfl (fun K hK => ?_) AllReadyH.nil
        go_simp
        refine (HMY.out _ (step_below HBW.out hHeld)).mono ?_; rintro e9 w10 ⟨rfl, hb10⟩
        go_wp2_with fail
        refine hK.out _ _ (step_below hHeld hb10) (fun hHeldn => ?_)
        clear hK K hHeld; have hHeld := hHeldn; clear hHeldn
        clear hb10
        try simp only [Act.put, List.setIfInBounds_toArray, List.set_cons_zero, List.set_cons_succ]
        refine wpAnyH_ready (rs := [11]) (by kernel_rfl) (by simp) ?_
        refine AllReadyH.cons (o := { dst := some 91, op := Op.call { callee := Callee.value (Operand.func 26), args := #[Operand.tmp 90], argTypes := #[51] }, type := 4, pos := "law.go:112", after := #[{ on := 10, ground := Ground.data }, { on := 5, ground := Ground.chain }], guard := none }) rfl (fun K hK => ?_) AllReadyH.nil
        go_simp
        refine (HMX.out _ (step_below HBW.out hHeld)).mono ?_; rintro e9 w11 ⟨rfl, hb11⟩
        go_wp2_with fail
        refine hK.out _ _ (step_below hHeld hb11) (fun hHeldn => ?_)
        clear hK K hHeld; have hHeld := hHeldn; clear hHeldn
        clear hb11
        try simp only [Act.put, List.setIfInBounds_toArray, List.set_cons_zero, List.set_cons_succ]
        refine tp 12 ?_ rfl (.inl ⟨by rfl, ?_⟩) ?_
        rotate_left
        · intro W hSw; go_simp; try with_reducible rfl
        refine wpAnyH_done (by kernel_rfl) ?_ _
        refine hKK _ _ ?_
        go_meet
        exact ⟨by first | rfl | simp, Lib.hid (step_below HBW.out hHeld)⟩
      case rest =>
      obtain ⟨rfl, HB9⟩ := hcut
      go_wp2_with fail
      go_roundw
      case rel => exact ⟨k + 1, by omega, by go_num, HB9⟩
      case measure => simp [intOf]; omega
    · have d1 : ¬ (k : Int) < (n : Int) := by omega
      clear o0 o1 o2
      go_wp2_with fail
      refine (HM2.out _ HBW.out).mono ?_
      rintro r w9 ⟨rfl, hb9⟩
      have HB9 := Lib.hid (step_below HBW.out hb9)
      have HF9 := Lib.hid (HF7.out.below (step_below HBW.out hb9))
      have HA9 := Lib.hid (step_below HB0.out (step_below HB7.out HB9.out))
      clear hb9 z0 z1 z2
      cases tb with
      | false =>
        obtain ⟨rfl, rfl⟩ : fl = 0 ∧ en = 2 := by
          rcases HCS.out with ⟨_, h⟩ | ⟨h, _⟩ | ⟨h, _⟩
          · exact h
          · rw [txB_c e s HYC.out, HTB.out] at h; cases h
          · rw [txB_c e s HYC.out, HTB.out] at h; cases h
        go_wp2_with fail
        refine (num_law _ _).mono ?_; rintro r w10 ⟨rfl, rfl⟩
        go_wp2_with fail
        refine (known_law _).mono ?_; rintro r w11 ⟨rfl, hb11⟩
        have HB11 := Lib.hid (step_below HA9.out hb11)
        clear hb11
        go_wp2_with fail
        go_ret
        exact ⟨rfl, HB11.out⟩
      | true =>
        obtain ⟨⟨en', sn, he, hs, i1, i2, i3, i4⟩, i5, i6, i7, i8⟩ := txB_facts HTB.out
        subst he hs
        have HTL := Lib.hid (txW_len (xs := xs) i2 i4 i8)
        have HTX := Lib.hid (rtxn_law en' sn a xs n c HN.out HTB.out w9 (HR.out.1.below HA9.out))
        have HPB := Lib.hid (show Byt (txW en' sn xs) from txW_byt (fun x hx => by
          obtain ⟨j, hj⟩ := List.mem_iff_getElem?.1 hx
          obtain ⟨_, _, _, _, _, _, ok⟩ := HR.out.1 j x hj
          exact ⟨ok.kb, ok.rb⟩))
        have HCT := Lib.hid (show (4096 < (txW en' sn xs).length ∧ fl = 0 ∧ en = 3) ∨ ((txW en' sn xs).length ≤ 4096 ∧ F = frameL (txW en' sn xs) ∧ en = 0) by
          rcases HCS.out with ⟨h, _⟩ | ⟨_, h⟩ | ⟨_, _, h⟩
          · rw [txB_c _ _ HYC.out, HTB.out] at h; cases h
          · rw [Int.toNat_natCast, Int.toNat_natCast, txW_c en' sn HYC.out] at h; exact .inl h
          · rw [Int.toNat_natCast, Int.toNat_natCast, txW_c en' sn HYC.out] at h; exact .inr h)
        clear i1 i2 i3 i4 i5 i6 i7 i8 HCS
        obtain ⟨P, hP⟩ : ∃ P, txW en' sn xs = P := ⟨_, rfl⟩
        rw [hP] at HTL HTX HPB HCT
        obtain ⟨pl, hpl⟩ : ∃ pl, P.length = pl := ⟨_, rfl⟩
        rw [hpl] at HTL HCT
        have HPL := Lib.hid hpl
        have hpl2 : pl ≤ 20020 := HTL.out.2
        clear hP
        obtain ⟨z0, z1, z2⟩ := FQ.out w9 (step_below HB7.out HB9.out)
        go_wp2_with fail
        refine HTX.out.mono ?_
        rintro r w10 ⟨pa, pc, rfl, hpL, hb10⟩
        have HB10 := Lib.hid (step_below HA9.out hb10)
        have HF10 := Lib.hid (HF9.out.below hb10)
        have HPR := Lib.hid hpL
        rw [hpl]
        clear hpL hb10 HTX z0 z1 z2 hpl HA9
        have HA9 := HB10
        by_cases h4 : 4096 < pl
        · have d4 : (4096 : Int) < (pl : Int) := by omega
          obtain ⟨rfl, rfl⟩ : fl = 0 ∧ en = 3 := by
            rcases HCT.out with ⟨_, h⟩ | ⟨h, _⟩
            · exact h
            · omega
          clear h4
          go_wp2_with fail
          refine (num_law _ _).mono ?_; rintro r w10 ⟨rfl, rfl⟩
          go_wp2_with fail
          refine (known_law _).mono ?_; rintro r w11 ⟨rfl, hb11⟩
          have HB11 := Lib.hid (step_below HA9.out hb11)
          clear hb11
          go_wp2_with fail
          go_ret
          exact ⟨rfl, HB11.out⟩
        have d4 : ¬ (4096 : Int) < (pl : Int) := by omega
        obtain ⟨rfl, rfl⟩ : F = frameL P ∧ en = 0 := by
          rcases HCT.out with ⟨h, _⟩ | ⟨_, h⟩
          · omega
          · exact h
        clear h4
        obtain ⟨F, hFF⟩ : ∃ F, frameL P = F := ⟨_, rfl⟩
        have HFR := Lib.hid (fun W (b : Below w10.heap.size w10 W) => rframe_own pa P pl pc HPL.out (by omega) HPB.out W (HPR.out.below b))
        rw [hFF] at HFR HF HF10
        clear hFF
        go_upto_region 19 with (fail)
        rename_i KK hKK
        refine Code.wp_mono (Q := Exit.then KK (fun _ _ _ => False)) (fun e a' w' h => by cases e <;> first | exact h | exact h.elim) ?_
        refine wp_region_held_drew (S := (fun X => Below w10.heap.size w10 X)) (by kernel_rfl) ((Below.refl _ _).drew) (fun hHeld => ?_)
        refine tp 0 ?_ rfl (.inl ⟨by rfl, ?_⟩) ?_
        rotate_left
        · intro W hSw; go_simp; try with_reducible rfl
        refine tp 1 ?_ rfl (.inl ⟨by rfl, ?_⟩) ?_
        rotate_left
        · intro W hSw; have hcv := conv_ls W fa fl fc F HF.out.1 (HF10.out.below hSw).rd; go_simp; try with_reducible rfl
        refine tp 2 ?_ rfl (.inl ⟨by rfl, ?_⟩) ?_
        rotate_left
        · intro W hSw; go_simp; try with_reducible rfl
        refine wpAnyH_ready (rs := [3]) (by kernel_rfl) (by simp) ?_
        refine AllReadyH.cons (o := { dst := some 126, op := Op.call { callee := Callee.value (Operand.func 16), args := #[Operand.tmp 125], argTypes := #[22] }, type := 22, pos := "law.go:123", after := #[{ on := 2, ground := Ground.data }], guard := none }) rfl (fun K hK => ?_) AllReadyH.nil
        go_simp
        refine (HFR.out _ hHeld).mono ?_; rintro e9 w12 ⟨a6, c6, rfl, ho6, hl6, hb6⟩; have HL6 := Lib.hid hl6.ls
        go_wp2_with fail
        refine hK.out _ _ (step_below hHeld hb6) (fun hHeldn => ?_)
        clear hK K hHeld; have hHeld := hHeldn; clear hHeldn
        clear hb6 ho6 hl6
        try simp only [Act.put, List.setIfInBounds_toArray, List.set_cons_zero, List.set_cons_succ]
        refine wpAnyH_ready (rs := [4]) (by kernel_rfl) (by simp) ?_
        refine AllReadyH.cons (o := { dst := some 127, op := Op.convert 22 9 (Operand.tmp 126), type := 9, pos := "law.go:123", after := #[{ on := 3, ground := Ground.data }], guard := none }) rfl (fun K hK => ?_) AllReadyH.nil
        have hcv2 := conv_ls _ a6 F.length c6 F rfl HL6.out.rd
        go_simp
        refine hK.out _ _ hHeld (fun hHeldn => ?_)
        clear hK K hHeld hcv2; have hHeld := hHeldn; clear hHeldn
        try simp only [Act.put, List.setIfInBounds_toArray, List.set_cons_zero, List.set_cons_succ]
        refine tp 5 (.bool true) rfl (.inl ⟨by rfl, ?_⟩) ?_
        · intro W hSw; go_simp; try (first | rfl | (simp; done))
        refine tp 6 (.bool true) rfl (.inl ⟨by rfl, ?_⟩) ?_
        · intro W hSw; go_simp; try (first | rfl | (simp; done))
        refine tp 7 ?_ rfl (.inl ⟨by rfl, ?_⟩) ?_
        rotate_left
        · intro W hSw; go_simp; try with_reducible rfl
        refine wpAnyH_ready (rs := [8]) (by kernel_rfl) (by simp) ?_
        refine AllReadyH.cons (o := { dst := some 131, op := Op.call { callee := Callee.value (Operand.func 15), args := #[Operand.tmp 130], argTypes := #[24] }, type := 3, pos := "law.go:123", after := #[{ on := 7, ground := Ground.data }, { on := 6, ground := Ground.chain }, { on := 6, ground := Ground.guard }], guard := some (6, true) }) rfl (fun K hK => ?_) AllReadyH.nil
        go_simp
        refine (num_law _ _).mono ?_; rintro e9 w13 ⟨rfl, rfl⟩
        go_wp2_with fail
        refine hK.out _ _ (hHeld) (fun hHeldn => ?_)
        clear hK K hHeld; have hHeld := hHeldn; clear hHeldn
        try simp only [Act.put, List.setIfInBounds_toArray, List.set_cons_zero, List.set_cons_succ]
        refine tp 9 (.bool true) rfl (.inl ⟨by rfl, ?_⟩) ?_
        · intro W hSw; go_simp; try (first | rfl | (simp; done))
        refine tp 10 (.bool true) rfl (.inl ⟨by rfl, ?_⟩) ?_
        · intro W hSw; go_simp; try (first | rfl | (simp; done))
        refine tp 11 (.bool true) rfl (.inl ⟨by rfl, ?_⟩) ?_
        · intro W hSw; go_simp; try (first | rfl | (simp; done))
        refine wpAnyH_ready (rs := [12]) (by kernel_rfl) (by simp) ?_
        refine AllReadyH.cons (o := { dst := some 135, op := Op.call { callee := Callee.value (Operand.func 10), args := #[], argTypes := #[] }, type := 4, pos := "law.go:123", after := #[{ on := 11, ground := Ground.chain }, { on := 11, ground := Ground.guard }], guard := some (11, true) }) rfl (fun K hK => ?_) AllReadyH.nil
        go_simp
        refine (known_law _).mono ?_; rintro e9 w14 ⟨rfl, hb14⟩
        go_wp2_with fail
        refine hK.out _ _ (step_below hHeld hb14) (fun hHeldn => ?_)
        clear hK K hHeld; have hHeld := hHeldn; clear hHeldn
        clear hb14
        try simp only [Act.put, List.setIfInBounds_toArray, List.set_cons_zero, List.set_cons_succ]
        refine tp 13 (.bool true) rfl (.inl ⟨by rfl, ?_⟩) ?_
        · intro W hSw; go_simp; try (first | rfl | (simp; done))
        refine tp 14 ?_ rfl (.inl ⟨by rfl, ?_⟩) ?_
        rotate_left
        · intro W hSw; go_simp; try with_reducible rfl
        refine wpAnyH_done (by kernel_rfl) ?_ _
        skip
        refine hKK _ _ ?_
        have HBZ := Lib.hid (step_below HA9.out hHeld)
        clear hKK hHeld
        go_wp2_with fail
        go_ret
        exact ⟨rfl, HBZ.out⟩
end Go.Proofs.YtglkndoghnblcaaGreat
namespace Go.Proofs.YtglkndoghnblcaaGreat
open Go.ChangeShapes Go.WideShapes Go.ChangeAt Go.RowKit Go.Deep Go.Joins
set_option linter.unusedVariables false
set_option linter.unusedSimpArgs false
section
variable {H : Type} {enc : TypeId × Value → H} {w : World} {base b0 : Nat} {held : Bool} {r : Reach} {v : Value} {d : DataW H} {ps : List MemPlace}
end
end Go.Proofs.YtglkndoghnblcaaGreat
namespace Go.Proofs.YtglkndoghnblcaaGreat
open Go.ChangeShapes Go.WideShapes Go.ChangeAt Go.RowKit Go.Deep Go.Joins
set_option linter.unusedVariables false
set_option linter.unusedSimpArgs false
section
variable {H : Type} {enc : TypeId × Value → H} {w : World} {base b0 : Nat} {held : Bool} {r : Reach} {v : Value} {d : DataW H} {ps : List MemPlace}
set_option maxRecDepth 100000 in
/-- A transaction that came in, by value. -/
theorem open_lg (hval : Value.okWide Tryz.prog w r b0 39 v) (hd : DataW.Trod enc Tryz.prog w base (fun _ => true) held 39 v d ps) (hsz : ∀ n ∈ d.weights Tryz.prog 39, n ≤ reachBytes) :
    ∃ (e s : Int) (a : Option Addr) (xs : List WtP) (c : Nat), v = .agg #[.int .i64 e, .int .i64 s, .slice a xs.length c] ∧ WtsR w a xs ∧ BgW xs := by
  obtain ⟨cs, rfl, hcz⟩ := okWide_struct Tryz.underlying39 hval
  obtain ⟨l⟩ := cs
  obtain ⟨fuel, hf⟩ := hd
  have hl : l.length = 3 := by
    have h : Tryz.prog.cellsOf 39 = 3 := by kernel_rfl
    rw [h] at hcz
    simpa using hcz
  obtain ⟨t, e1, h1, h2, _⟩ := one_lg (x := (d, ps)) (by simpa [Value.cells] using hf) hl hsz
  subst e1
  exact ⟨t.e, t.s, t.a, t.ws, t.c, rfl, h1, h2⟩
end
end Go.Proofs.YtglkndoghnblcaaGreat
namespace Go.Proofs.YtglkndoghnblcaaGreat.logTxnsP
open Go.ChangeShapes Go.WideShapes Go.ChangeAt Go.RowKit
open Go.ChangeMaps (open_string shut_string)
set_option linter.unusedVariables false
set_option linter.unusedSimpArgs false

theorem own : ownKnob Tryz.prog.godebug = none := by kernel_rfl
theorem laidOut : laidOutB Tryz.prog = true := by kernel_rfl

set_option maxRecDepth 100000 in
theorem lifted (os : Os) (started : os.Started) (H : Type) (enc : TypeId × Value → H) :
    ReturnsInHanded {} Tryz.checked os 4 .any (Rows.logTxnsSpec.pre6 enc Tryz.prog Tryz.f4 Rows.logTxnsRow.domain false) (Rows.logTxnsSpec.post enc Tryz.prog Tryz.f4 false true false false) := by
  refine returnsInHanded_of_change_sized (C := Tryz.checked) own started (by kernel_rfl) Tryz.func4
    (ChangeSpec.witness6 (enc := enc) (C := Tryz.checked) false ⟨#[], #[.agg #[.int .i64 0, .int .i64 0, .slice none 0 0], .slice none 0 0], []⟩ 12 (by kernel_rfl) (by kernel_rfl) (by kernel_rfl) (by kernel_rfl)) ?_
  intro W base args ds gs before hval0 hW hcnd hsz0 _
  have hsz : (DataW.weightsEach Tryz.prog (Tryz.f4.params.toList ++ Rows.logTxnsSpec.plain.varTypes Tryz.prog) (ds ++ gs)).all (· ≤ reachBytes) = true := hsz0
  clear hsz0
  have hval : ∀ (j : Nat) t v, Tryz.f4.params[j]? = some t → args[j]? = some v → Value.okWide Tryz.prog W .any base t v := hval0
  have hW' := hW
  obtain ⟨p, q, hA0, hV, rfl, hfz, hnd⟩ := hW
  have hA : DataW.TrodAll enc Tryz.prog W 0 (fun _ => true) true Tryz.f4.params.toList args.toList ds p := hA0
  rw [Tryz.params4] at hA hval hsz
  obtain ⟨v0, vs0, d0, ds0, p0, q0, hargs, rfl, rfl, h0, r0⟩ := trodAll_cons hA
  obtain ⟨v1, vs1, d1, ds1, p1, q1, rfl, rfl, rfl, h1, r1⟩ := trodAll_cons r0
  obtain ⟨rfl, rfl, rfl⟩ := trodAll_nil r1
  obtain rfl : args = #[v0, v1] := by cases args; simp_all
  obtain ⟨rfl, rfl⟩ := trodVars_none hV
  have k0 := h0
  have lt0 : ∀ x ∈ p0, x.block < W.heap.size := by obtain ⟨m, hm⟩ := k0; exact DataW.trod_lt m _ _ _ hm
  have all : ∀ n ∈ DataW.weightsEach Tryz.prog ([39, 22] ++ Rows.logTxnsSpec.plain.varTypes Tryz.prog) ([d0, d1] ++ []), n ≤ reachBytes := fun n hn => by simpa using List.all_eq_true.1 hsz n hn
  obtain ⟨te, ts, ta, tx, tc, rfl, htR, htB⟩ := open_lg (hval 0 39 v0 rfl rfl) h0 (fun n hn => all n (DataW.weights_mem_each (j := 0) (t := 39) rfl rfl n hn))
  obtain ⟨a1, len1, cap1, rfl⟩ := okWide_slice Tryz.underlying22 (hval 1 22 v1 rfl rfl)
  have k1 := h1
  have lt1 : ∀ x ∈ p1, x.block < W.heap.size := by obtain ⟨m, hm⟩ := k1; exact DataW.trod_lt m _ _ _ hm
  obtain ⟨z1, w1, r1z⟩ : ∃ zs, IsRow .u8 W a1 len1 cap1 zs ∧ len1 ≤ 140737488355328 := by
    obtain ⟨fuel, hf⟩ := h1
    rcases open_ints Tryz.underlying22 Tryz.underlying5 (by kernel_rfl) hf with ⟨hcs, _⟩ | ⟨x, l, c, zs, hcs, _, hl, hm, hz, hx, hcell, hwz⟩
    · simp [Value.cells] at hcs
      obtain ⟨rfl, rfl, rfl⟩ := hcs
      exact ⟨[], .inl ⟨rfl, rfl, rfl, rfl⟩, Nat.zero_le _⟩
    · simp [Value.cells] at hcs
      obtain ⟨rfl, rfl, rfl⟩ := hcs
      have hzl : zs.length = cap1 := by simpa using hz
      have hd := (Prod.mk.inj hx).1
      have := sized_slice hsz (j := 1) (t := 22) (e := 5) rfl (by rw [hd]; rfl) Tryz.underlying22
      rw [show Tryz.prog.bytesOf 5 = 1 by kernel_rfl] at this
      simp only [lits, List.length_map, List.length_take, List.length_drop, reachBytes] at this
      exact ⟨zs, .inr ⟨_, rfl, hl, hm, hzl, hcell, hwz⟩, by omega⟩
  clear hA0 hval0
  refine (logtxns_law te ts ta tx tx.length tc a1 (z1.take len1) len1 cap1 rfl htB w1.ls.2 w1.byt W htR w1.ls.1).mono fun e W' ⟨he, bel⟩ => ?_
  subst he
  exact ⟨_, rfl, _, _, _, [], _, [], hW', trodAll_mk1 (shut_bool Tryz.underlying4 _), (trodAll_cons_mk (Below.trod laidOut (by kernel_rfl) (of_decide_eq_true (by kernel_rfl)) k0 bel lt0) (trodAll_cons_mk (Below.trod laidOut (by kernel_rfl) (of_decide_eq_true (by kernel_rfl)) k1 bel lt1) trodAll_mk0)), rfl, bel.frame _, fun h => by cases h⟩

theorem over : Rows.logTxnsRow.holds Tryz.pinned (OpenSpec.ofChange Rows.logTxnsSpec) :=
  OpenClaim.holds_of_wide 4 Tryz.f4 rfl rfl rfl rfl rfl rfl rfl ⟨rfl, rfl, rfl, rfl, rfl⟩ rfl rfl rfl rfl rfl (by kernel_rfl) Tryz.func4 (by kernel_rfl)
    (of_decide_eq_true (by kernel_rfl)) (by unfold Func.isWrapper; first | (rw [if_pos (by decide +kernel)]; kernel_rfl) | (rw [if_neg (by decide +kernel)]; exact ⟨rfl, rfl⟩))
    (fun os started H enc _ => lifted os started H enc)

theorem proved : Rows.LogTxnsSaid := over
#print axioms proved
end Go.Proofs.YtglkndoghnblcaaGreat.logTxnsP
