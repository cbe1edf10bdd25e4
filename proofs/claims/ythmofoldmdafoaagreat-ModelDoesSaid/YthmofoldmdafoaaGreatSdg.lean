/- Part of the proof that ModelDoes holds for every input: tables, under any transactions, answer, write and stand as the document says. Part 7. -/
import Derived.Test.YthmofoldmdafoaaGreatSdf
set_option linter.unusedVariables false
set_option linter.unusedSimpArgs false
set_option maxRecDepth 100000
set_option maxHeartbeats 4000000
namespace Go.Proofs.YthmofoldmdafoaaGreat
open Go.ChangeShapes Go.WideShapes Go.ChangeAt Go.RowKit
open Go.Lib (hid)
open Go.Proofs.Tryz
section
open Go.Maps
def cellsOf {α : Type} (f : α -> List Value) (xs : List α) : List Value := (xs.map f).flatten
theorem zq_ {α : Type} (f : α -> List Value) (a b : List α) : cellsOf f (a ++ b) = cellsOf f a ++ cellsOf f b := by simp [cellsOf]
theorem zK_ {α : Type} {f : α -> List Value} {sz : Nat} (hf : ∀ x, (f x).length = sz) (a : List α) : (cellsOf f a).length = a.length * sz := by
 induction a with
 | nil => simp [cellsOf]
 | cons x r ih =>
  unfold cellsOf at *
  rw [List.map_cons, List.flatten_cons, List.length_append, ih, List.length_cons, hf, Nat.add_mul]
  omega
theorem cellsOf_one {α : Type} {f : α -> List Value} (hf : ∀ x, ∀ u ∈ f x, u.oneCell' = true) (a : List α) : ∀ u ∈ cellsOf f a, u.oneCell' = true := fun u hu => by
 obtain ⟨l, hl, hu⟩ := List.mem_flatten.1 hu
 obtain ⟨p, _, rfl⟩ := List.mem_map.1 hl
 exact hf p u hu
theorem zY_ {α : Type} {f : α -> List Value} {sz : Nat} (hf : ∀ x, (f x).length = sz) : ∀ (xs : List α) (k i : Nat) (x : α), xs[k]? = some x -> i < sz -> (cellsOf f xs)[k * sz + i]? = (f x)[i]?
 | [], k, i, x, h, _ => by simp at h
 | y :: xs, 0, i, x, h, hi => by
  simp only [List.getElem?_cons_zero, Option.some.injEq] at h
  subst h
  unfold cellsOf
  rw [List.map_cons, List.flatten_cons, List.getElem?_append_left (by rw [hf]; omega)]
  simp
 | y :: xs, k + 1, i, x, h, hi => by
  have ih := zY_ hf xs k i x (by simpa using h) hi
  unfold cellsOf at *
  rw [List.map_cons, List.flatten_cons, List.getElem?_append_right (by rw [hf, Nat.add_mul]; omega)]
  rw [show (k + 1) * sz + i - (f y).length = k * sz + i by rw [hf, Nat.add_mul]; omega]
  exact ih
theorem zt_ {α : Type} {f : α -> List Value} {sz : Nat} (hf : ∀ x, (f x).length = sz) (hs : 0 < sz) {W : World} {base n c : Nat} {e : TypeId} {a : Option Addr} {xs : List α} (h : W.ownsRow base e sz (.slice a n c) n (cellsOf f xs)) (hn : xs.length = n) (k : Nat) (x : α) (hx : xs[k]? = some x) :
  ∃ g, a = some ⟨g, 0, none⟩ /\ base <= g /\ ∀ i, i < sz -> W.cell? ⟨g, k * sz + i, none⟩ = (f x)[i]? := by
 have hk := (List.getElem?_eq_some_iff.1 hx).1
 have h' := h
 rcases h.2 with ⟨e0, h0⟩ | ⟨g, cap, cur, e0, hb, _⟩
 ·omega
 ·cases e0
  refine ⟨g, rfl, hb, fun i hi => ?_⟩
  have hm : k * sz + i < n * sz := by
   have := Nat.mul_le_mul_right sz (show k + 1 <= n by omega)
   rw [Nat.add_mul] at this; omega
  rw [h'.cellAt (k * sz + i) hm]
  exact zY_ hf xs k i x hx hi
structure AE (st e : TypeId) (z : Value) (sz bs : Nat) : Prop where
 u : prog.underlying st = some (.slice e)
 i : (prog.info? e).map (fun i => (i.zero, i.size, i.bytes)) = some (some z, sz, bs)
 c : z.cells.size = sz
 p : 0 < sz
 l : bs <= 1000
theorem yY_ {st e : TypeId} {z : Value} {sz bs : Nat} (E : AE st e z sz bs) (w : World) (ty : TypeId) (base : Nat) (v : Value) (n : Nat) (xs : List Value) (hown : w.ownsRow base e sz v n xs)
  (ad : Addr) (c k : Nat) (news : List Value) (hl : news.length = k * sz) (hnews : ∀ j u, news[j]? = some u -> w.cell? (ad.add j) = some u) (h1 : ∀ u ∈ news, u.oneCell' = true) (hb : n + k <= 2097152) (hbase : base <= w.heap.size) :
  ∃ v' w', (Builtin.append_ #[st, st] ty #[v, .slice (some ad) k c]).run prog w = .ok v' w' /\ w'.ownsRow base e sz v' (n + k) (xs ++ news) /\ w.grownBy w' v.ownBlock /\ (v'.ownBlock = v.ownBlock ∨ v'.ownBlock = some w.heap.size) := by
 obtain ⟨i0, hi, hz0, hz1, hz2⟩ := info_parts E.i
 have hle : (n + k) * bs <= 2097152 * 1000 := Nat.mul_le_mul hb E.l
 obtain ⟨v', w', r1, r2, r3, _, r4⟩ := run_append_own_at (P := prog) w base st ty e i0 z sz bs E.u hi hz0 hz1 hz2 E.c E.p v n xs hown ad k c news hl hnews h1 Xt15 Xt0 hbase
 exact ⟨v', w', r1, r2, r3, r4⟩
theorem zv_ {st e : TypeId} {z : Value} {sz bs : Nat} (E : AE st e z sz bs) {ops : Array Oper} {rest : List Oper} {o : Oper} {a : Act} {w : World} {Q : Exit -> Act -> World -> Prop} (hgd : o.guard = none) (s x : Operand)
  (ho : o.op = .call { callee := .builtin .append, args := #[s, x], argTypes := #[st, st] })
  (base : Nat) (v : Value) (n : Nat) (xs : List Value) (hs : a.eval s = v) (hown : w.ownsRow base e sz v n xs)
  (ad : Addr) (c k : Nat) (news : List Value) (hx : a.eval x = .slice (some ad) k c) (hl : news.length = k * sz) (hnews : ∀ j u, news[j]? = some u -> w.cell? (ad.add j) = some u) (h1 : ∀ u ∈ news, u.oneCell' = true) (hb : n + k <= 2097152) (hbase : base <= w.heap.size)
  (h : ∀ v' w', w'.ownsRow base e sz v' (n + k) (xs ++ news) -> w.grownBy w' v.ownBlock -> (v'.ownBlock = v.ownBlock ∨ v'.ownBlock = some w.heap.size) -> wpList prog ops Q rest (a.put o.dst v') w') :
  wpList prog ops Q (o :: rest) a w :=
 wpList_plain hgd fun Kt hK => by
  obtain ⟨v', w', h1, h2, h3, h4⟩ := yY_ E w o.type base v n xs hown ad c k news hl hnews h1 hb hbase
  unfold Oper.wp execOp
  simp only [ho, resolve, invoke, builtin, Sem.run_bind, Sem.run_pure, Result.andThen_ok, List.map_toArray, List.map_cons, List.map_nil, hs, hx, h1]
  exact hK _ _ (h v' w' h2 h3 h4)
theorem zC_ {st e : TypeId} {z : Value} {sz bs : Nat} (E : AE st e z sz bs) {ops : Array Oper} {o : Oper} {a : Act} {w : World} {Kt : Act -> World -> Prop} {Q : Exit -> Act -> World -> Prop} {Z : Prop} (hgd : o.guard = none) (s x : Operand)
  (ho : o.op = .call { callee := .builtin .append, args := #[s, x], argTypes := #[st, st] })
  (base : Nat) (v : Value) (n : Nat) (xs : List Value) (hs : a.eval s = v) (hown : w.ownsRow base e sz v n xs)
  (ad : Addr) (c k : Nat) (news : List Value) (hx : a.eval x = .slice (some ad) k c) (hl : news.length = k * sz) (hnews : ∀ j u, news[j]? = some u -> w.cell? (ad.add j) = some u) (h1 : ∀ u ∈ news, u.oneCell' = true) (hb : n + k <= 2097152) (hbase : base <= w.heap.size)
  (h : ∀ v' w', w'.ownsRow base e sz v' (n + k) (xs ++ news) -> w.grownBy w' v.ownBlock -> (v'.ownBlock = v.ownBlock ∨ v'.ownBlock = some w.heap.size) -> Kt (a.put o.dst v') w') :
  if Region.wanted o (yielded ops a.tmps) = true then Oper.wp prog o a w Kt Q else Z := by
 have hw : Region.wanted o (yielded ops a.tmps) = true := by simp [Region.wanted, hgd]
 rw [if_pos hw]
 obtain ⟨v', w', h1, h2, h3, h4⟩ := yY_ E w o.type base v n xs hown ad c k news hl hnews h1 hb hbase
 unfold Oper.wp execOp
 simp only [ho, resolve, invoke, builtin, Sem.run_bind, Sem.run_pure, Result.andThen_ok, List.map_toArray, List.map_cons, List.map_nil, hs, hx, h1]
 exact h v' w' h2 h3 h4
theorem zx_ (w : World) (cs : Array Value) (t : TypeId) (news : List Value) (h : cs = news.toArray) : ∀ j u, news[j]? = some u -> (w.alloc (.cells cs t)).cell? ((⟨w.heap.size, 0, none⟩ : Addr).add j) = some u := fun j u hj => by
 rw [zF_, Nat.zero_add]
 have := (zg_.new w cs t).cell j
 rw [this, h]; simpa using hj
theorem ae_map : AE 87 90 (.map none) 1 8 := ⟨underlying87, by kernel_rfl, by decide, by decide, by decide⟩
theorem ae_imap : AE 120 173 (.map none) 1 8 := ⟨underlying120, by kernel_rfl, by decide, by decide, by decide⟩
theorem Qb_ : AE 41 84 (.agg #[.int .i64 0, .slice none 0 0, .slice none 0 0]) 3 56 := ⟨underlying41, by kernel_rfl, by decide, by decide, by decide⟩
theorem QY_ : AE 59 81 (.agg #[.int .i64 0, .slice none 0 0]) 2 32 := ⟨underlying59, by kernel_rfl, by decide, by decide, by decide⟩
theorem xf_ : AE 69 78 (.agg #[.slice none 0 0, .slice none 0 0]) 2 48 := ⟨underlying69, by kernel_rfl, by decide, by decide, by decide⟩
theorem ae_tab : AE 46 69 (.slice none 0 0) 1 24 := ⟨underlying46, by kernel_rfl, by decide, by decide, by decide⟩
theorem ae_entry : AE 146 149 (.agg #[.slice none 0 0, .slice none 0 0, .slice none 0 0]) 3 72 := ⟨underlying146, by kernel_rfl, by decide, by decide, by decide⟩
theorem ae_op : AE 36 74 (.agg #[.int .i64 0, .int .i64 0, .int .i64 0, .slice none 0 0, .slice none 0 0, .int .i64 0, .slice none 0 0]) 7 104 := ⟨underlying36, by kernel_rfl, by decide, by decide, by decide⟩
end
structure xu_ where
 e : Int
 pa : Option Addr
 pc : Nat
 P : List PrV
def yx_ (x : xu_) : Int × List Pr := (x.e, x.P.map prC)
structure ym_ (x : xu_) : Prop where
 pn : x.P.length <= 1000000
 ps : ∀ p ∈ x.P, Qd_ p
def jE_ (W : World) (a : Option Addr) (L : List xu_) : Prop := ∀ (k : Nat) (x : xu_), L[k]? = some x -> ∃ b off, a = some ⟨b, off, none⟩ /\ W.cell? ⟨b, off + k * 2, none⟩ = some (.int .i64 x.e) /\ W.cell? ⟨b, off + k * 2 + 1, none⟩ = some (.slice x.pa x.P.length x.pc) /\ zn_ W x.pa x.P
theorem jE_.below {W W' : World} {a : Option Addr} {L : List xu_} (h : jE_ W a L) (hb : Below W.heap.size W W') : jE_ W' a L := fun k x hx => by
 exact Xb105
theorem zU_ (a b : Option Addr) (L M : List xu_) (n m ca cb : Nat) (hn : L.length = n) (hm : M.length = m) (hn2 : n <= 1000000) (hm2 : m <= 1000000) (okL : ∀ x ∈ L, ym_ x) (okM : ∀ x ∈ M, ym_ x) (w : World) (hA : jE_ w a L) (hB : jE_ w b M) :
  Calls prog 34 #[.slice a n ca, .slice b m cb] w fun r w' => r = .returned (.bool (decide (L.map yx_ = M.map yx_))) /\ Below w.heap.size w w' := by
 have HR := hid (And.intro hA hB)
 have HN := hid (And.intro hn hm)
 have HOK := hid (And.intro okL okM)
 have hni : (n : Int) <= 1000000 := by omega
 have hmi : (m : Int) <= 1000000 := by omega
 clear hA hB hn hm okL okM
 by_cases hnm : n = m
 ·subst hnm
  have e4 : ((n : Int) != (n : Int)) = false := by simp
  go_enter func34, ntmps34
  go_wp2_with fail
  clear e4
  go_loopw [5] (fun i wr => ∃ k : Nat, k <= n /\ i = .int .i64 (k : Int) /\ Hid ((L.take k).map yx_ = (M.take k).map yx_) /\ Hid (Below w.heap.size w wr)) (fun i _ => n - (intOf i).toNat)
  case atStart => exact ⟨0, by omega, rfl, hid rfl, hid (Below.refl _ _)⟩
  case round =>
   obtain ⟨k, hk, rfl, HE, HBW⟩ := hrel
   by_cases hlt : k < n
   ·have d1 : (k : Int) < (n : Int) := by omega
    obtain ⟨x, hx⟩ : ∃ x, L[k]? = some x := ⟨_, List.getElem?_eq_getElem Xt69⟩
    obtain ⟨y, hy⟩ : ∃ y, M[k]? = some y := ⟨_, List.getElem?_eq_getElem Xt70⟩
    obtain ⟨b1, o1, ea, c0, c1, rx⟩ := (HR.out.1.below HBW.out) k x hx
    subst ea
    obtain ⟨b2, o2, eb, e0, e1, ry⟩ := (HR.out.2.below HBW.out) k y hy
    subst eb
    have okx := HOK.out.1 x (List.mem_of_getElem? hx)
    have oky := HOK.out.2 y (List.mem_of_getElem? hy)
    have HXY := hid (And.intro hx hy)
    have HRS := hid (fun W (b : Below wr.heap.size wr W) => yz_ x.pa y.pa x.P y.P x.P.length y.P.length x.pc y.pc rfl rfl okx.pn oky.pn okx.ps oky.ps W (rx.below b) (ry.below b))
    obtain ⟨q, hq⟩ := gtx (decide (x.P.map prC = y.P.map prC))
    rw [hq] at HRS
    have HQ := hid hq
    have HPC := hid (show yx_ x = (x.e, x.P.map prC) /\ yx_ y = (y.e, y.P.map prC) from ⟨rfl, rfl⟩)
    obtain ⟨XK, hXK⟩ := gtx (x.e)
    obtain ⟨xrn, hxrn⟩ := gtx (x.P.length)
    obtain ⟨xra, hxra⟩ := gtx (x.pa)
    obtain ⟨xrc, hxrc⟩ := gtx (x.pc)
    obtain ⟨YK, hYK⟩ := gtx (y.e)
    obtain ⟨yrn, hyrn⟩ := gtx (y.P.length)
    obtain ⟨yra, hyra⟩ := gtx (y.pa)
    obtain ⟨yrc, hyrc⟩ := gtx (y.pc)
    rw [hXK] at c0
    rw [hxra, hxrn, hxrc] at c1
    rw [hYK] at e0
    rw [hyra, hyrn, hyrc] at e1
    rw [hxra, hyra, hxrn, hyrn, hxrc, hyrc] at HRS
    rw [hXK, hYK] at HPC
    have HX5 := hid (fun W (b : Below wr.heap.size wr W) => (⟨tcb b c0, tcb b c1⟩ : W.cell? ⟨b1, o1 + k * 2, none⟩ = some (.int .i64 XK) /\ W.cell? ⟨b1, o1 + k * 2 + 1, none⟩ = some (.slice xra xrn xrc)))
    have HY5 := hid (fun W (b : Below wr.heap.size wr W) => (⟨tcb b e0, tcb b e1⟩ : W.cell? ⟨b2, o2 + k * 2, none⟩ = some (.int .i64 YK) /\ W.cell? ⟨b2, o2 + k * 2 + 1, none⟩ = some (.slice yra yrn yrc)))
    clear c0 c1 e0 e1 rx ry okx oky hx hy hq hXK hxrn hxra hxrc hYK hyrn hyra hyrc
    by_cases hkk : XK = YK
    ·have HKK := hid hkk
     have hne : (XK != YK) = false := by rw [hkk]; simp
     have hnp : XK = YK := hkk
     clear hkk
     go_upto_region 6 with (fail)
     rename_i KK hKK
     refine wmo ?_
     refine rgw wr (Below.refl _ _).drew fun hH => ?_
     refine tkq4 0 1 2 3 ?_
     refine tkr 4 rfl Xf16 ?_
     refine tkq4 5 6 7 8 ?_
     refine tkr 9 rfl Xf17 ?_
     refine tkp 10 (.bool false) rfl (.inl ⟨by rfl, ?_⟩) ?_
     ·exact Xb22
     refine tkp 11 (.bool false) rfl (.inl ⟨by rfl, ?_⟩) ?_
     ·exact Xb22
     refine tkq4 12 13 14 15 ?_
     refine tkr 16 rfl Xf16 ?_
     refine tkq4 17 18 19 20 ?_
     refine tkr 21 rfl Xf17 ?_
     refine tk1 22 rfl fun K hK => ?_
     go_simp
     refine (HRS.out _ hH).mono ?_; rintro e9 w9 ⟨rfl, hb9⟩
     go_wp2_with fail
     refine hK.out _ _ (za_ hH hb9) fun hH => ?_
     clear hb9
     refine stP ?_
     refine tkq2 23 24 ?_
     refine adn ?_
     skip
     refine hKK _ _ ?_
     have HB9 := hid (za_ HBW.out hH)
     clear hH hne hnp
     cases q
     ·have HV := hid (show decide (L.map yx_ = M.map yx_) = false by
       rw [decide_eq_false_iff_not]
       refine y8_ HXY.out.1 HXY.out.2 ?_
       rw [HPC.out.1, HPC.out.2]
       intro e9
       have := HQ.out
       rw [decide_eq_false_iff_not] at this
       exact this (Prod.mk.inj e9).2)
      exact Xb45
     ·have HEN := hid (show (L.take (k + 1)).map yx_ = (M.take (k + 1)).map yx_ by
       rw [List.take_add_one, List.take_add_one, HXY.out.1, HXY.out.2, List.map_append, List.map_append, HE.out]
       have hr := HQ.out
       rw [decide_eq_true_eq] at hr
       simp only [Option.toList_some, List.map_cons, List.map_nil, HPC.out.1, HPC.out.2, HKK.out, hr])
      exact Xb49
    ·have HV := hid (show decide (L.map yx_ = M.map yx_) = false by
      rw [decide_eq_false_iff_not]
      refine y8_ HXY.out.1 HXY.out.2 ?_
      rw [HPC.out.1, HPC.out.2]
      exact fun e9 => hkk (Prod.mk.inj e9).1)
     have hne : (XK != YK) = true := bne_iff_ne.2 hkk
     have hnp : ¬ XK = YK := hkk
     clear hkk
     go_upto_region 6 with (fail)
     rename_i KK hKK
     refine wmo ?_
     refine rgw wr (Below.refl _ _).drew fun hH => ?_
     refine tkq4 0 1 2 3 ?_
     refine tkr 4 rfl Xf16 ?_
     refine tkq4 5 6 7 8 ?_
     refine tkr 9 rfl Xf17 ?_
     refine tkp 10 (.bool true) rfl (.inl ⟨by rfl, ?_⟩) ?_
     ·exact Xb22
     refine tkp 11 (.bool true) rfl (.inl ⟨by rfl, ?_⟩) ?_
     ·exact Xb22
     refine tkn 12 ?_
     refine tkn 13 ?_
     refine tkn 14 ?_
     refine tkn 15 ?_
     refine tkn 16 ?_
     refine tkn 17 ?_
     refine tkn 18 ?_
     refine tkn 19 ?_
     refine tkn 20 ?_
     refine tkn 21 ?_
     refine tkn 22 ?_
     refine tkn 23 ?_
     refine tkp 24 (.bool true) rfl (.inl ⟨by rfl, ?_⟩) ?_
     ·intro W hSw; go_simp; try (first | rfl | (simp; done))
     refine adn ?_
     skip
     refine hKK _ _ ?_
     have HB9 := hid (za_ HBW.out hH)
     clear hH hne hnp
     exact Xb45
   ·have d1 : ¬ (k : Int) < (n : Int) := by omega
    have HV := hid (show decide (L.map yx_ = M.map yx_) = true by
     have h1 := HE.out
     rw [List.take_of_length_le (by rw [HN.out.1]; omega), List.take_of_length_le (by rw [HN.out.2]; omega)] at h1
     rw [decide_eq_true_eq]; exact h1)
    exact Xb80
 ·have e4 : ((n : Int) != (m : Int)) = true := by rw [bne_iff_ne]; omega
  have HV := hid (show decide (L.map yx_ = M.map yx_) = false by
   rw [decide_eq_false_iff_not]
   intro e9
   have := congrArg List.length e9
   rw [List.length_map, List.length_map, HN.out.1, HN.out.2] at this
   exact hnm this)
  clear hnm
  go_enter func34, ntmps34
  exact Xb73
section
open Go.Maps
structure WtV where
 t : Nat
 ka : Option Addr
 kc : Nat
 K : List Int
 r : RV
def wcl (y : WtV) : List Value := [.int .i64 y.t, .slice y.ka y.K.length y.kc, y.r.v]
theorem zP_ (y : WtV) : (wcl y).length = 3 := rfl
theorem wcl_one (y : WtV) : ∀ u ∈ wcl y, u.oneCell' = true := fun u hu => by
 simp only [wcl, RV.v, List.mem_cons, List.not_mem_nil, or_false] at hu
 rcases hu with rfl | rfl | rfl <;> rfl
def rcl (y : xu_) : List Value := [.int .i64 y.e, .slice y.pa y.P.length y.pc]
theorem rcl_len (y : xu_) : (rcl y).length = 2 := rfl
theorem rcl_one (y : xu_) : ∀ u ∈ rcl y, u.oneCell' = true := fun u hu => by
 simp only [rcl, List.mem_cons, List.not_mem_nil, or_false] at hu
 rcases hu with rfl | rfl <;> rfl
def iV (i : Nat) : Value := .int .i64 (i : Int)
def WrB (W : World) (t : TypeId) (a : Option Addr) (n : Nat) : Prop := ∀ b off, a = some ⟨b, off, none⟩ -> 0 < n -> ∃ cs lo hi, W.heap[b]? = some (.cells cs t (lo, hi)) /\ ∀ k, k < n -> ¬ (lo <= off + k /\ off + k < hi)
theorem WrB.of {W : World} {t : TypeId} {a : Option Addr} {n c base : Nat} {size : Nat} {xs : List Value} (h : W.ownsRow base t size (.slice a n c) n xs) : WrB W t a n := fun b off e hn => by
 subst e
 rcases h.2 with ⟨e0, h0⟩ | ⟨g, cap, cur, e0, hb, hg, _⟩
 ·injection e0 with e0; cases e0
 ·injection e0 with e0
  injection e0 with e0
  injection e0 with e0
  subst e0
  exact ⟨cur, 0, 0, hg, fun k _ h => by omega⟩
theorem WrB.box {W : World} {b off : Nat} {cs : Array Value} {t : TypeId} (h : zg_ W b cs t) (n : Nat) : WrB W t (some ⟨b, off, none⟩) n := fun b' off' e _ => by
 cases e
 exact ⟨cs, 0, 0, h, fun k _ h => by omega⟩
theorem WrB.below {W W' : World} {t : TypeId} {a : Option Addr} {n : Nat} (h : WrB W t a n) (b : Below W.heap.size W W') : WrB W' t a n := fun x off e hn => by
 obtain ⟨cs, lo, hi, hc, r⟩ := h x off e hn
 exact ⟨cs, lo, hi, (b.block x (Array.getElem?_eq_some_iff.1 hc).1).trans hc, r⟩
def PrW (W : World) (p : PrV) : Prop := WrB W 5 p.ka p.K.length /\ WrB W 42 p.ra p.R.length
theorem PrW.below {W W' : World} {p : PrV} (h : PrW W p) (b : Below W.heap.size W W') : PrW W' p := ⟨h.1.below b, h.2.below b⟩
def ya_ (W : World) (a : Option Addr) (L : List PrV) : Prop := zn_ W a L /\ WrB W 78 a L.length /\ ∀ p ∈ L, PrW W p
theorem ya_.below {W W' : World} {a : Option Addr} {L : List PrV} (h : ya_ W a L) (b : Below W.heap.size W W') : ya_ W' a L := ⟨h.1.below b, h.2.1.below b, fun p hp => (h.2.2 p hp).below b⟩
theorem ya_.nil (W : World) (a : Option Addr) : ya_ W a [] := ⟨(fun k x h => by simp at h), (fun b off e h => by simp at h), (fun p hp => by cases hp)⟩
def Rb (S : Nat -> Prop) (base k : Nat) : Prop := S k ∨ k < base
def Ab (S : Nat -> Prop) (base k : Nat) : Prop := S k /\ base <= k
structure Tl where
 px : Nat
 bx : Nat
 bm : Nat
 bw : Nat
 wc : Nat
 wm : List (Nat × List (List Int × Nat))
 wv : Value
 rv : Value
 ws : List WtV
 rs : List xu_
def Tl.cs (m : Md) (x : Tl) : Array Value := #[.pointer (some ⟨m.p, 0, none⟩), .slice (some ⟨x.bw, 0, none⟩) x.wm.length x.wc, x.wv, x.rv, .func (.func 107) #[] #[.pointer (some ⟨x.bx, 0, none⟩), .pointer (some ⟨x.bm, 0, none⟩)]]
structure TlS (m : Md) (x : Tl) (W : World) : Prop where
 vx : zg_ W x.bx #[.pointer (some ⟨x.px, 0, none⟩)] 117
 vm : zg_ W x.bm #[.pointer (some ⟨m.p, 0, none⟩)] 28
 tab : ∀ k y, x.wm[k]? = some y -> W.cell? ⟨x.bw, k, none⟩ = some (.map (some y.1))
structure TlR (S : Nat -> Prop) (base : Nat) (W : World) (m : Md) (x : Tl) : Prop where
 md : MdR S W m
 bd : ∀ k, S k -> k < W.heap.size
 box : zg_ W x.px (x.cs m) 123
 st : zs_ S W (TlS m x)
 wmaps : ∀ y ∈ x.wm, Mp W y.1 iV y.2
 wlen : x.wm.length = m.tabs.length
 own : W.ownsRow base 84 3 x.wv x.ws.length (cellsOf wcl x.ws)
 wst : ∀ y ∈ x.ws, zs_ S W (fun W' => Ls .u8 W' y.ka y.kc y.K /\ RdR W' y.r.ra y.r.R)
 wok : ∀ y ∈ x.ws, y.t < m.tabs.length /\ zH_ y.K /\ (y.r.R ≠ [] -> rOk y.r.P)
 rown : W.ownsRow base 81 2 x.rv x.rs.length (cellsOf rcl x.rs)
 rst : ∀ y ∈ x.rs, zs_ (Rb S base) W (fun W' => ya_ W' y.pa y.P)
 coh : ∀ (t : Nat) (y : Nat × List (List Int × Nat)), x.wm[t]? = some y -> ∀ (K : List Int) (i : Nat), yc_ y.2 K = some i ↔ ∃ w : WtV, x.ws[i]? = some w /\ w.t = t /\ w.K = K
 hp : S x.px
 hm : ∀ y ∈ x.wm, S y.1
 hw : ∀ g, x.wv.ownBlock = some g -> S g
 hr : ∀ g, x.rv.ownBlock = some g -> S g
 nod : (x.wm.map Prod.fst).Nodup
 old : ∀ y ∈ m.tabs, y.1 < base
 lo : base <= x.px
 low : ∀ y ∈ x.wm, base <= y.1
 wl : ∀ y ∈ x.wm, y.2.length <= x.ws.length
 few : x.ws.length <= 1000
 rfew : x.rs.length <= 1000
def getX (m : Md) (x : Tl) (t : Nat) (K : List Int) : Option RV :=
 match x.ws.find? fun w : WtV => decide (w.t = t /\ w.K = K) with
 | some w => if w.r.R = [] then none else some w.r
 | none => match m.tabs[t]? with
  | some y => yc_ y.2 K
  | none => none
theorem TlR.rb {S : Nat -> Prop} {base : Nat} {W : World} {m : Md} {x : Tl} (h : TlR S base W m x) (hb : base <= W.heap.size) : ∀ k, Rb S base k -> k < W.heap.size := fun k hk => hk.elim (h.bd k) fun h => Nat.lt_of_lt_of_le h hb
theorem TlR.find_some {S : Nat -> Prop} {base : Nat} {W : World} {m : Md} {x : Tl} (h : TlR S base W m x) {t : Nat} {y : Nat × List (List Int × Nat)} (hy : x.wm[t]? = some y) {K : List Int} {i : Nat} (hi : yc_ y.2 K = some i) :
  ∃ w, x.ws[i]? = some w /\ x.ws.find? (fun w : WtV => decide (w.t = t /\ w.K = K)) = some w /\ w.t = t /\ w.K = K := by
 obtain ⟨w, h1, h2, h3⟩ := (h.coh t y hy K i).1 hi
 refine ⟨w, h1, ?_, h2, h3⟩
 cases hf : x.ws.find? (fun w : WtV => decide (w.t = t /\ w.K = K)) with
 | none =>
  rw [List.find?_eq_none] at hf
  have := hf w (List.mem_of_getElem? h1)
  simp [h2, h3] at this
 | some w' =>
  have hp := List.find?_some hf
  simp only [decide_eq_true_eq] at hp
  obtain ⟨j, hj⟩ := List.mem_iff_getElem?.1 (List.mem_of_find?_eq_some hf)
  have := (h.coh t y hy K j).2 ⟨w', hj, hp.1, hp.2⟩
  rw [hi] at this
  cases this
  rw [h1] at hj
  exact hj.symm
theorem TlR.find_none {S : Nat -> Prop} {base : Nat} {W : World} {m : Md} {x : Tl} (h : TlR S base W m x) {t : Nat} {y : Nat × List (List Int × Nat)} (hy : x.wm[t]? = some y) {K : List Int} (hi : yc_ y.2 K = none) :
  x.ws.find? (fun w : WtV => decide (w.t = t /\ w.K = K)) = none := by
 rw [List.find?_eq_none]
 intro w hw
 simp only [decide_eq_true_eq]
 intro hp
 obtain ⟨j, hj⟩ := List.mem_iff_getElem?.1 hw
 have := (h.coh t y hy K j).2 ⟨w, hj, hp.1, hp.2⟩
 rw [hi] at this
 cases this
theorem TlR.c {S : Nat -> Prop} {base : Nat} {W : World} {m : Md} {x : Tl} (h : TlR S base W m x) : W.cell? ⟨x.px, 0, none⟩ = some (.pointer (some ⟨m.p, 0, none⟩)) /\ W.cell? ⟨x.px, 1, none⟩ = some (.slice (some ⟨x.bw, 0, none⟩) x.wm.length x.wc) /\ W.cell? ⟨x.px, 2, none⟩ = some x.wv /\ W.cell? ⟨x.px, 3, none⟩ = some x.rv /\ W.cell? ⟨x.px, 4, none⟩ = some (.func (.func 107) #[] #[.pointer (some ⟨x.bx, 0, none⟩), .pointer (some ⟨x.bm, 0, none⟩)]) := by
 refine ⟨?_, ?_, ?_, ?_, ?_⟩ <;> (rw [h.box.cell]; rfl)
theorem zero3 (w : World) : (zeroValue 3).run prog w = .ok (.int .i64 0) w := by kernel_rfl
theorem xG_ {K : List Int} (h : K.length <= 1000000) : K.length <= maxLen := by unfold maxLen; omega
def GxR (o : Option RV) (w : World) (r : Ending) (w' : World) : Prop := (∃ v, r = .returned (.tuple #[v, .bool o.isSome]) /\ ∀ y, o = some y -> v = y.v) /\ w = w'
theorem qv_ {S : Nat -> Prop} {base : Nat} {w : World} {m : Md} {x : Tl} (h : TlR S base w m x) (t : Nat) (ht : t < m.tabs.length) (K : List Int) (bK : Byt K) (hK : K.length <= 1000000) :
  Calls prog 107 #[.int .i64 (t : Int), .string (strOfNums K), .pointer (some ⟨x.bx, 0, none⟩), .pointer (some ⟨x.bm, 0, none⟩)] w (GxR (getX m x t K) w) := by
 obtain ⟨y, hy⟩ : ∃ y, x.wm[t]? = some y := ⟨_, List.getElem?_eq_getElem Xt80⟩
 obtain ⟨z, hz⟩ : ∃ z, m.tabs[t]? = some z := ⟨_, List.getElem?_eq_getElem ht⟩
 obtain ⟨c0, c1, c2, c3, c4⟩ := h.c
 have v0 := h.st.now.vx.cell 0
 have v1 := h.st.now.vm.cell 0
 have d0 := h.md.c
 have e0 := h.st.now.tab t y hy
 have e1 := h.md.st.now.tab t z hz
 have hfew := h.md.few
 have hwl := h.wlen
 have ht0 : ¬ (t : Int) < 0 := by omega
 have ht1 : (t : Int) < (m.tabs.length : Int) := by omega
 have ht2 : (t : Int) < (x.wm.length : Int) := by omega
 have hl1 : (m.tabs.length : Int) <= 1000000 := by omega
 have hl2 : (x.wm.length : Int) <= 1000000 := by omega
 have hlk := (h.wmaps y (List.mem_of_getElem? hy)).look (t := 173) (e := 3) underlying173 (zero3 w) bK (xG_ hK)
 have hlm := (h.md.maps z (List.mem_of_getElem? hz)).look (t := 90) (e := 50) underlying90 (zero50 w) bK (xG_ hK)
 cases hi : yc_ y.2 K with
 | none =>
  have hf := h.find_none hy hi
  have hX : getX m x t K = yc_ z.2 K := by unfold getX; rw [hf, hz]
  rw [hX]
  obtain ⟨o, ho⟩ := gtx (yc_ z.2 K)
  rw [ho] at hlm ⊢
  rw [hi] at hlk
  obtain ⟨u, hu⟩ := gtx ((o.map RV.v).getD (.slice none 0 0))
  have HU := hid (fun y (e : o = some y) => (by rw [← hu, e]; rfl : u = y.v))
  rw [hu] at hlm
  obtain ⟨q, hq⟩ := gtx (o.isSome)
  rw [hq] at hlm
  have HQ := hid hq
  simp only [Option.map_none, Option.getD_none, Option.isSome_none] at hlk
  clear hi hf hX ho hu hq h hz hy hwl ht bK hK hfew
  go_enter func107, ntmps107
  go_wp2_with fail
  go_ret2
  exact ⟨⟨_, by rw [HQ.out]; rfl, HU.out⟩, rfl⟩
 | some i =>
  obtain ⟨wt, h1, hf, _, _⟩ := h.find_some hy hi
  have hX : getX m x t K = if wt.r.R = [] then none else some wt.r := by unfold getX; rw [hf]
  rw [hX]
  rw [hi] at hlk
  simp only [Option.map_some, Option.getD_some, Option.isSome_some, iV] at hlk
  obtain ⟨a4, c5, hv⟩ := zd_ h.own
  have ho := h.own
  rw [hv] at ho c2
  obtain ⟨g, rfl, hg, hcl⟩ := zt_ zP_ Xt0 ho rfl i wt h1
  have f2 : w.cell? ⟨g, i * 3 + 2, none⟩ = some (.slice wt.r.ra wt.r.R.length wt.r.rc) := hcl 2 Xt0
  have hi1 := (List.getElem?_eq_some_iff.1 h1).1
  have hwf := h.few
  have hi2 : (i : Int) < (x.ws.length : Int) := by omega
  have hi3 : ¬ (i : Int) < 0 := by omega
  have hi4 : (x.ws.length : Int) <= 1000000 := by omega
  clear hi hf hX h hz hy hwl ht bK hK hfew h1 ho hcl hg hv hi1 hwf hlm
  by_cases hR : wt.r.R = []
  ·rw [if_pos hR]
   have hn : wt.r.R.length = 0 := by rw [hR]; rfl
   rw [hn] at f2
   clear hR hn
   go_enter func107, ntmps107
   go_wp2_with fail
   go_ret2
   exact ⟨⟨_, rfl, fun y e => by cases e⟩, rfl⟩
  ·rw [if_neg hR]
   have hn : (0 : Int) < (wt.r.R.length : Int) := by have := List.length_pos_iff.2 hR; omega
   have HN := hid (show decide (0 < wt.r.R.length) = true by simp; exact List.length_pos_iff.2 hR)
   have HV := hid (show (.slice wt.r.ra wt.r.R.length wt.r.rc) = wt.r.v from rfl)
   clear hR
   go_enter func107, ntmps107
   go_wp2_with fail
   go_ret2
   refine ⟨⟨.slice wt.r.ra wt.r.R.length wt.r.rc, ?_, fun y e => by cases e; exact HV.out⟩, rfl⟩
   show Ending.returned (.tuple #[_, .bool (decide (0 < wt.r.R.length))]) = _
   rw [HN.out]
   rfl
theorem bl1 (X : World) (o : Obj) : Below X.heap.size X (X.alloc o) := (Below.refl _ _).alloc (Nat.le_refl _) o
theorem Mp.store {α : Type} {val : α -> Value} {W : World} {b t e : Nat} {L : List (List Int × α)} (h : Mp W b val L) (ht : prog.underlying t = some (.map 9 e)) {K : List Int} (hK : Byt K) (hn : K.length <= 1000000) (hl : L.length <= 1000000) (v : α) :
  ∃ w', (Instr.mapUpdate t (.map (some b)) (.string (strOfNums K)) (val v)).run prog W = .ok () w' /\ Mp w' b val (x7_ L K (some v)) /\ W.grownBy w' (some b) := by
 obtain ⟨w', hrun, hm, ht⟩ := h.own.store law9 ht Xt15 (keyK (xG_ hn)) (show RF (val v) = some (.held (val v), []) from rfl)
 exact ⟨w', hrun, h.put hK v hm, ht.grown⟩
theorem q2_ {α : Type} {f : α -> List Value} {sz : Nat} (hf : ∀ x, (f x).length = sz) (hs : 0 < sz) : ∀ (xs : List α) (k j : Nat) (x x' : α) (u : Value), xs[k]? = some x -> j < sz -> f x' = (f x).set j u -> (cellsOf f xs).set (k * sz + j) u = cellsOf f (xs.set k x')
 | [], k, j, x, x', u, h, _, _ => by simp at h
 | y :: xs, 0, j, x, x', u, h, hj, he => by
  simp only [List.getElem?_cons_zero, Option.some.injEq] at h
  subst h
  unfold cellsOf
  rw [List.map_cons, List.flatten_cons, List.set_cons_zero, List.map_cons, List.flatten_cons, he, Nat.zero_mul, Nat.zero_add, List.set_append_left _ _ (by rw [hf]; exact hj)]
 | y :: xs, k + 1, j, x, x', u, h, hj, he => by
  have ih := q2_ hf hs xs k j x x' u (by simpa using h) hj he
  unfold cellsOf at *
  rw [List.map_cons, List.flatten_cons, List.set_cons_succ, List.map_cons, List.flatten_cons, List.set_append_right _ _ (by rw [hf, Nat.add_mul]; omega)]
  rw [show (k + 1) * sz + j - (f y).length = k * sz + j by rw [hf, Nat.add_mul]; omega, ih]
theorem zb_ {W : World} {base n size : Nat} {e : TypeId} {v : Value} {xs : List Value} (h : W.ownsRow base e size v n xs) {g : Nat} (hg : v.ownBlock = some g) : base <= g /\ g < W.heap.size /\ ∃ cur, zg_ W g cur e := by
 rcases h.2 with ⟨e0, h0⟩ | ⟨g', cap, cur, e0, hb, hh, _⟩
 ·subst e0; cases hg
 ·subst e0
  simp [Value.ownBlock] at hg
  subst hg
  exact ⟨hb, (Array.getElem?_eq_some_iff.1 hh).1, cur, hh⟩
theorem zm_ {S : Nat -> Prop} {W W' : World} {base n size : Nat} {e : TypeId} {v : Value} {xs : List Value} (h : W.ownsRow base e size v n xs) (o : Off S W W') (hs : ∀ g, v.ownBlock = some g -> ¬ S g) : W'.ownsRow base e size v n xs :=
 ⟨h.1, h.2.imp id fun ⟨g, cap, cur, e0, hb, hg, r⟩ => ⟨g, cap, cur, e0, hb, (o.block g (Array.getElem?_eq_some_iff.1 hg).1 (hs g (by subst e0; rfl))).trans hg, r⟩⟩
theorem Mp.obj {α : Type} {val : α -> Value} {W : World} {b : Nat} {L : List (List Int × α)} (h : Mp W b val L) : ∃ o : Obj, W.heap[b]? = some o /\ o.isCells = false := by
 obtain ⟨es, c, hb, _⟩ := h.own
 exact ⟨_, hb, rfl⟩
theorem Mp.ne_box {α : Type} {val : α -> Value} {W : World} {b B : Nat} {L : List (List Int × α)} (h : Mp W b val L) {cs : Array Value} {t : TypeId} (hb : zg_ W B cs t) : b ≠ B := fun e => by
 obtain ⟨o, h1, h2⟩ := h.obj
 subst e
 rw [show W.heap[b]? = _ from hb] at h1
 cases h1; cases h2
theorem zo_ {W : World} {b B : Nat} {cs cs' : Array Value} {t t' : TypeId} (h : zg_ W b cs t) (h' : zg_ W B cs' t') (ht : t ≠ t') : b ≠ B := fun e => by
 subst e
 have := (show W.heap[b]? = _ from h).symm.trans h'
 injection this with this
 injection this with _ this
 exact ht this
theorem jS_ {S : Nat -> Prop} {W : World} {base n c : Nat} {a : Option Addr} {L : List Int} (h : W.ownsRow base 5 1 (.slice a n c) n (iv .u8 L)) (hn : L.length = n) (hs : ∀ k, S k -> k < base) : zs_ S W fun W' => Ls .u8 W' a c L := fun W' o =>
 yp_ (zl_ h o hs) hn
theorem cpR_stayW {S : Nat -> Prop} {W : World} {base n : Nat} {R : List P1} {v : Value} (h : CpR base R n v W) (hn : R.length = n) (hs : ∀ k, S k -> k < base) :
  ∃ a c R', v = .slice a n c /\ R'.length = n /\ R'.map P1.bs = R.map P1.bs /\ zs_ S W fun W' => RdR W' a R' /\ WrB W' 42 a n := by
 obtain ⟨R', h1, h2, h3⟩ := h.ex
 rw [List.take_of_length_le Xt0] at h1
 have hl : R'.length = n := by have := congrArg List.length h1; simpa [hn] using this
 obtain ⟨a, c, rfl⟩ := zd_ h2
 exact ⟨a, c, R', rfl, hl, h1, fun W' o => ⟨qx_ (zl_ h2 o hs) hl fun p hp => zl_ (h3 p hp) o hs, WrB.of (zl_ h2 o hs)⟩⟩
theorem xs_ {S : Nat -> Prop} {W : World} {base n : Nat} {R : List P1} {v : Value} (h : CpR base R n v W) (hn : R.length = n) (hs : ∀ k, S k -> k < base) :
  ∃ a c R', v = .slice a n c /\ R'.length = n /\ R'.map P1.bs = R.map P1.bs /\ zs_ S W fun W' => RdR W' a R' := by
 obtain ⟨R', h1, h2, h3⟩ := h.ex
 rw [List.take_of_length_le Xt0] at h1
 have hl : R'.length = n := by have := congrArg List.length h1; simpa [hn] using this
 obtain ⟨a, c, rfl⟩ := zd_ h2
 exact ⟨a, c, R', rfl, hl, h1, fun W' o => qx_ (zl_ h2 o hs) hl fun p hp => zl_ (h3 p hp) o hs⟩
def Mut (x : Tl) (k : Nat) : Prop := k = x.px ∨ (∃ y ∈ x.wm, k = y.1) ∨ x.wv.ownBlock = some k
theorem TlR.mut {S : Nat -> Prop} {base : Nat} {W : World} {m : Md} {x : Tl} (h : TlR S base W m x) : ∀ k, Mut x k -> S k /\ base <= k := fun k hk => by
 rcases hk with rfl | ⟨y, hy, rfl⟩ | hk
 ·exact ⟨h.hp, h.lo⟩
 ·exact ⟨h.hm y hy, h.low y hy⟩
 ·exact ⟨h.hw k hk, (zb_ h.own hk).1⟩
structure TSt (S S' : Nat -> Prop) (base : Nat) (w : World) (m : Md) (x : Tl) (w' : World) (x' : Tl) : Prop where
 tl : TlR S' base w' m x'
 su : ∀ k, S k -> S' k
 sd : ∀ k, S' k -> S k ∨ w.heap.size <= k
 off : Off (Mut x) w w'
 mu : ∀ k, Mut x' k -> Mut x k ∨ w.heap.size <= k
 px : x'.px = x.px
 bx : x'.bx = x.bx
 bm : x'.bm = x.bm
 rv : x'.rv = x.rv
 rs : x'.rs = x.rs
theorem TlR.next {S T : Nat -> Prop} {base : Nat} {w w' : World} {m : Md} {x : Tl} (h : TlR S base w m x) (o : Off T w w') (hT : ∀ k, T k -> S k /\ base <= k) (x' : Tl) (e1 : x'.px = x.px) (e2 : x'.bx = x.bx) (e3 : x'.bm = x.bm) (e4 : x'.bw = x.bw) (e5 : x'.wm.map Prod.fst = x.wm.map Prod.fst)
  (hbox : zg_ w' x.px (x'.cs m) 123) (hmaps : ∀ y ∈ x'.wm, Mp w' y.1 iV y.2) (how : w'.ownsRow base 84 3 x'.wv x'.ws.length (cellsOf wcl x'.ws)) (hro : w'.ownsRow base 81 2 x'.rv x'.rs.length (cellsOf rcl x'.rs))
  (S' : Nat -> Prop) (hS : ∀ k, S k -> S' k) (hS' : ∀ k, S' k -> S k ∨ w.heap.size <= k) (hb : ∀ k, S' k -> k < w'.heap.size) (hgw : ∀ g, x'.wv.ownBlock = some g -> S' g) (hgr : ∀ g, x'.rv.ownBlock = some g -> S' g)
  (hwst : ∀ y ∈ x'.ws, zs_ S' w' (fun W' => Ls .u8 W' y.ka y.kc y.K /\ RdR W' y.r.ra y.r.R)) (hwok : ∀ y ∈ x'.ws, y.t < m.tabs.length /\ zH_ y.K /\ (y.r.R ≠ [] -> rOk y.r.P)) (hrst : ∀ y ∈ x'.rs, zs_ (Rb S' base) w' (fun W' => ya_ W' y.pa y.P))
  (hcoh : ∀ (t : Nat) (y : Nat × List (List Int × Nat)), x'.wm[t]? = some y -> ∀ (K : List Int) (i : Nat), yc_ y.2 K = some i ↔ ∃ w : WtV, x'.ws[i]? = some w /\ w.t = t /\ w.K = K) (hwl : ∀ y ∈ x'.wm, y.2.length <= x'.ws.length) (hf : x'.ws.length <= 1000) (hrf : x'.rs.length <= 1000) : TlR S' base w' m x' := by
 have hel : x'.wm.length = x.wm.length := by have := congrArg List.length e5; simpa using this
 have hmem : ∀ y ∈ x'.wm, ∃ z ∈ x.wm, z.1 = y.1 := fun y hy => by
  have : y.1 ∈ x.wm.map Prod.fst := by rw [← e5]; exact List.mem_map.2 ⟨y, hy, rfl⟩
  obtain ⟨z, hz, e⟩ := List.mem_map.1 this
  exact ⟨z, hz, e⟩
 refine ⟨h.md.off o (fun k hk => (hT k hk).1) (fun y hy hk => ?_) (fun k hk => (hS' k hk)) fun y hy => hS _ (h.md.hS y hy), hb, by rw [e1]; exact hbox, ?_, hmaps, hel.trans h.wlen, how, hwst, hwok, hro, hrst, hcoh, by rw [e1]; exact hS _ h.hp, ?_, hgw, hgr, by rw [e5]; exact h.nod, h.old, by rw [e1]; exact h.lo, ?_, hwl, hf, hrf⟩
 ·have := h.old y hy
  have := (hT _ hk).2
  omega
 ·refine ((h.st.step (o.mono fun k hk => (hT k hk).1) hS').mono fun W hW => ⟨by rw [e1, e2]; exact hW.vx, by rw [e3]; exact hW.vm, fun k y hy => ?_⟩)
  have hk : k < x.wm.length := by rw [← hel]; exact (List.getElem?_eq_some_iff.1 hy).1
  have := hW.tab k _ (List.getElem?_eq_getElem hk)
  rw [e4, this]
  have h2 : (x'.wm.map Prod.fst)[k]? = (x.wm.map Prod.fst)[k]? := by rw [e5]
  rw [List.getElem?_map, List.getElem?_map, hy, List.getElem?_eq_getElem hk] at h2
  simp at h2
  rw [h2]
 ·intro y hy
  obtain ⟨z, hz, e⟩ := hmem y hy
  rw [← e]; exact hS _ (h.hm z hz)
 ·intro y hy
  obtain ⟨z, hz, e⟩ := hmem y hy
  rw [← e]; exact h.low z hz
theorem TlR.keepw {S S' T : Nat -> Prop} {base : Nat} {w w' : World} {m : Md} {x : Tl} (h : TlR S base w m x) (o : Off T w w') (hT : ∀ k, T k -> S k /\ base <= k) (hS' : ∀ k, S' k -> S k ∨ w.heap.size <= k) : ∀ y ∈ x.ws, zs_ S' w' (fun W' => Ls .u8 W' y.ka y.kc y.K /\ RdR W' y.r.ra y.r.R) :=
 fun y hy => (h.wst y hy).step (o.mono fun k hk => (hT k hk).1) hS'
theorem TlR.keepr {S S' T : Nat -> Prop} {base : Nat} {w w' : World} {m : Md} {x : Tl} (h : TlR S base w m x) (o : Off T w w') (hT : ∀ k, T k -> S k /\ base <= k) (hS' : ∀ k, S' k -> S k ∨ w.heap.size <= k) : ∀ y ∈ x.rs, zs_ (Rb S' base) w' (fun W' => ya_ W' y.pa y.P) :=
 fun y hy => (h.rst y hy).step (o.mono fun k hk => .inl (hT k hk).1) fun k hk => hk.elim (fun h => (hS' k h).imp .inl id) fun h => .inl (.inr h)
theorem TlR.below {S : Nat -> Prop} {base : Nat} {w w' : World} {m : Md} {x : Tl} (h : TlR S base w m x) (b : Below w.heap.size w w') : TlR S base w' m x := by
 have o : Off (fun _ => False) w w' := Off.of b
 have hT : ∀ k, (fun _ : Nat => False) k -> S k /\ base <= k := fun k hk => hk.elim
 have hS' : ∀ k, S k -> S k ∨ w.heap.size <= k := fun k hk => .inl hk
 exact h.next o hT x rfl rfl rfl rfl rfl (h.box.below b) (fun y hy => (h.wmaps y hy).below b) (ze_ h.own b) (ze_ h.rown b) S (fun _ h => h) hS' (fun k hk => Nat.lt_of_lt_of_le (h.bd k hk) b.size) h.hw h.hr (h.keepw o hT hS') h.wok (h.keepr o hT hS') h.coh h.wl h.few h.rfew
theorem tset_dev {S : Nat -> Prop} {base : Nat} {w : World} {m : Md} {x : Tl} (h : TlR S base w m x) (hbs : base <= w.heap.size) (t : Nat) (ht : t < m.tabs.length) (K : List Int) (ok : zH_ K) (ka : Option Addr) (kn kc : Nat) (hK : K.length = kn) (hk : Ls .u8 w ka kc K)
  (ra : Option Addr) (rn rc : Nat) (R : List P1) (hR : R.length = rn) (okR : R ≠ [] -> rOk (R.map P1.bs)) (hr : RdR w ra R) (hf : x.ws.length < 1000) (y : Nat × List (List Int × Nat)) (hy : x.wm[t]? = some y) (i : Nat) (hi : yc_ y.2 K = some i) :
  Calls prog 140 #[.pointer (some ⟨x.px, 0, none⟩), .int .i64 (t : Int), .slice ka kn kc, .slice ra rn rc] w fun r w' => r = .returned (.tuple #[]) /\ ∃ wt a8 c8 R8 w8 g c, x.ws[i]? = some wt /\ wt.t = t /\ wt.K = K /\ x.wv = .slice (some ⟨g, 0, none⟩) x.ws.length c /\ w' = w8.setCell ⟨g, i * 3 + 2, none⟩ (.slice a8 rn c8) /\ R8.length = rn /\ R8.map P1.bs = R.map P1.bs /\ Below w.heap.size w w8 /\ zs_ S w8 (fun W => RdR W a8 R8) := by
 obtain ⟨wt, h1, _, hwt, hwk⟩ := h.find_some hy hi
 obtain ⟨c0, c1, c2, c3, c4⟩ := h.c
 have hfew := h.md.few
 have hwl := h.wlen
 have ht0 : ¬ (t : Int) < 0 := by omega
 have ht2 : (t : Int) < (x.wm.length : Int) := by omega
 have hl2 : (x.wm.length : Int) <= 1000000 := by omega
 have hkn : kn <= 1000000 := by have := ok.2; omega
 have HX := hid (fun X (b : Below w.heap.size w X) => (⟨tcb b c1, (h.below b).st.now.tab t y hy, zA_ X ka kn kc K hK (hk.below b).rd, by have := ((h.below b).wmaps y (List.mem_of_getElem? hy)).look (t := 173) (e := 3) underlying173 (zero3 X) ok.1 (xG_ Xt0); rw [hi] at this; exact this⟩ : X.cell? ⟨x.px, 1, none⟩ = some (.slice (some ⟨x.bw, 0, none⟩) x.wm.length x.wc) /\ X.cell? ⟨x.bw, t, none⟩ = some (.map (some y.1)) /\ (convert 42 9 (.slice ka kn kc)).run prog X = .ok (.string (strOfNums K)) X /\ (Instr.lookup 173 (.map (some y.1)) (.string (strOfNums K)) true).run prog X = .ok (.tuple #[.int .i64 (i : Int), .bool true]) X))
 obtain ⟨a4, c5, hv⟩ := zd_ h.own
 have ho := h.own
 rw [hv] at ho c2
 obtain ⟨g, rfl, hg, hcl⟩ := zt_ zP_ Xt0 ho rfl i wt h1
 have HW5 := hid (fun X (b : Below w.heap.size w X) => tcb b c2)
 have HZ5 := hid (fun X (b : Below w.heap.size w X) => (by
  have ow := ze_ ho b
  obtain ⟨g', e, _, hh⟩ := zt_ zP_ Xt0 ow rfl i wt h1
  cases e
  exact ⟨hh 2 Xt0, ow.frozenAt _⟩ : X.cell? ⟨g, i * 3 + 2, none⟩ = some (.slice wt.r.ra wt.r.R.length wt.r.rc) /\ X.frozen? ⟨g, i * 3 + 2, none⟩ = false))
 have HRR := hid (And.intro hR (And.intro (show rn <= 9000 by
  by_cases e : R = []
  ·rw [← hR, e]; simp
  ·have := (okR e).2.1; rw [List.length_map] at this; omega) (And.intro (show ∀ q ∈ R, q.bs.length <= 9000 from fun q hq => by
  have := ((okR (fun e => by rw [e] at hq; simp at hq)).2.2 q.bs (List.mem_map.2 ⟨q, hq, rfl⟩)).2; omega) (fun X (b : Below w.heap.size w X) => hr.below b))))
 have hi1 := (List.getElem?_eq_some_iff.1 h1).1
 have hi2 : (i : Int) < (x.ws.length : Int) := by omega
 have hi3 : ¬ (i : Int) < 0 := by omega
 have hi4 : (x.ws.length : Int) <= 1000000 := by omega
 have HFIN := hid (And.intro h1 (And.intro hwt (And.intro hwk hv)))
 have HBD := hid h.bd
 clear hi h hy hwl ht ok hK hfew h1 ho hcl hg hv hi1 hk hr okR hR hwt hwk c0 c1 c2 c3 c4
 go_enter func140, ntmps140
 go_upto_region 0 with (fail)
 refine rgw w (Below.refl _ _).drew fun hH => ?_
 refine tkq3 0 1 2 ?_
 refine tkr 3 rfl Xf1 ?_
 refine tkq2 4 5 ?_
 refine tkr 6 rfl Xf3 ?_
 refine tkq 7 ?_
 refine tkr 8 rfl Xf2 ?_
 refine tkr 9 rfl Xf6 ?_
 refine tkq4 10 11 12 13 ?_
 refine tkq 14 ?_
 refine adn ?_
 skip
 generalize w.drew = W1 at hH ⊢
 have HBK := hid hH
 go_upto_region 5 with (fail)
 have HW5 := hid (fun X (b : Below W1.heap.size W1 X) => HW5.out X (HBK.out.trans (b.mono HBK.out.size)))
 have HZ5 := hid (fun X (b : Below W1.heap.size W1 X) => HZ5.out X (HBK.out.trans (b.mono HBK.out.size)))
 clear hH
 refine zr_ (z := 9) (S := (fun X => Below W1.heap.size W1 X)) Xt3 ((Below.refl _ _).drew) fun hH => ?_
 refine tlk 0 rfl Xt2 ?_
 refine tlk 1 rfl Xt2 ?_
 refine tlk 2 rfl Xt2 ?_
 refine tlk 3 rfl (fun W hSw => by have m := HW5.out W hSw; exact tks) ?_
 refine tlk 4 rfl Xt2 ?_
 refine tlk 5 rfl Xt2 ?_
 refine tl1 6 rfl fun K hK => ?_
 go_simp
 refine (zV_ ra R rn rc HRR.out.1 HRR.out.2.1 HRR.out.2.2.1 _ (HRR.out.2.2.2 _ (HBK.out.trans (hH.mono HBK.out.size)))).mono ?_; rintro r w8 ⟨⟨v8, rfl, hc8⟩, hb8⟩
 obtain ⟨a8, c8, R8, hv8, hl8, hm8, hst8⟩ := xs_ (S := S) hc8 HRR.out.1 (fun k hk => Nat.lt_of_lt_of_le (HBD.out k hk) (Nat.le_trans HBK.out.size hH.size))
 subst hv8
 go_wp2_with fail
 have HC8 := hid (And.intro hl8 (And.intro hm8 hst8))
 have HB8 := hid (za_ hH hb8)
 refine hK.out _ _ HB8.out (fun hHeldn => ?_)
 clear hK K hH hc8 hb8 hl8 hm8 hst8; have hH := hHeldn; clear hHeldn
 refine stP ?_
 refine tlf 7 rfl Xt2 ?_
 refine tlk 8 rfl Xt2 ?_
 refine tlz rfl fun K hK => ?_
 have hz := HZ5.out _ hH
 obtain ⟨x4, f4⟩ := hz
 go_simp
 refine hK.out _ _ ?_
 clear hK K x4 f4
 refine stP ?_
 refine zz_ Xt3 ?_ _
 skip
 refine bodyPost_end (v := .tuple #[]) (by simp [results, results140, go_sem]) rfl ?_
 have HFB := hid (HBK.out.trans (HB8.out.mono HBK.out.size))
 exact ⟨rfl, wt, a8, c8, R8, w8, g, c5, HFIN.out.1, HFIN.out.2.1, HFIN.out.2.2.1, HFIN.out.2.2.2, rfl, HC8.out.1, HC8.out.2.1, HFB.out, HC8.out.2.2⟩
end
end Go.Proofs.YthmofoldmdafoaaGreat
