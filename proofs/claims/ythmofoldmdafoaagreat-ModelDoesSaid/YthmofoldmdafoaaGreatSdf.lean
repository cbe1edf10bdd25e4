/- Part of the proof that ModelDoes holds for every input: tables, under any transactions, answer, write and stand as the document says. Part 6. -/
import Derived.Test.YthmofoldmdafoaaGreatSde
set_option linter.unusedVariables false
set_option linter.unusedSimpArgs false
set_option maxRecDepth 100000
set_option maxHeartbeats 4000000
namespace Go.Proofs.YthmofoldmdafoaaGreat
open Go.ChangeShapes Go.WideShapes Go.ChangeAt Go.RowKit
open Go.Lib (hid)
open Go.Proofs.Tryz
section
open Go.Maps
theorem zero50 (w : World) : (zeroValue 50).run prog w = .ok (.slice none 0 0) w := by kernel_rfl
theorem RV.bound {r : RV} (h : rOk r.P) : r.R.length <= 9000 /\ ∀ q ∈ r.R, q.bs.length <= 9000 := by
 obtain ⟨h1, h2, h3⟩ := h
 unfold RV.P at h1 h2 h3
 rw [List.length_map] at h1 h2
 exact ⟨by omega, fun q hq => by have := (h3 q.bs (List.mem_map.2 ⟨q, hq, rfl⟩)).2; omega⟩
theorem MdR.row {S : Nat -> Prop} {W : World} {m : Md} (h : MdR S W m) {t : Nat} {x : Nat × List (List Int × RV)} (hx : m.tabs[t]? = some x) {e : List Int × RV} (he : e ∈ x.2) : zH_ e.1 /\ rOk e.2.P := by
 have := (h.lim x (List.mem_of_getElem? hx)).2 (e.1, e.2.P) (List.mem_map.2 ⟨e, he, rfl⟩)
 exact this
def PGetR (w : World) (o : Option (List P1)) (r : Ending) (w' : World) : Prop :=
 (∃ v, r = .returned (.tuple #[v, .bool o.isSome]) /\ CpR w.heap.size (o.getD []) (o.getD []).length v w') /\ Below w.heap.size w w'
theorem mget_law {S : Nat -> Prop} {m : Md} {w : World} (h : MdR S w m) (t : Nat) (x : Nat × List (List Int × RV)) (hx : m.tabs[t]? = some x) (ka : Option Addr) (kn kc : Nat) (K : List Int) (hK : K.length = kn) (hkn : kn <= 1000000) (bK : Byt K) (hk : Ls .u8 w ka kc K) :
  Calls prog 18 #[.pointer (some ⟨m.p, 0, none⟩), .int .i64 (t : Int), .slice ka kn kc] w (PGetR w ((yc_ x.2 K).map RV.R)) := by
 have hin := List.mem_of_getElem? hx
 have htn : t < m.tabs.length := (List.getElem?_eq_some_iff.1 hx).1
 have HH := hid (yQ_ h (t : Int))
 have hti : (t : Int) < (m.tabs.length : Int) := by omega
 have ht0 : ¬ (t : Int) < 0 := by omega
 have htl : (m.tabs.length : Int) <= 1000000 := by have := h.few; omega
 have hd : decide ((0 : Int) <= t /\ (t : Int) < m.tabs.length) = true := by simp; omega
 rw [hd] at HH
 have kmx : K.length <= maxLen := by unfold maxLen; omega
 have HB := hid (fun X (b' : Below w.heap.size w X) => (⟨(b'.cell (World.block_lt_of_cell? w _ h.c)).trans h.c, (h.below b').st.now.tab t x hx, zA_ X ka kn kc K hK (hk.below b').rd, (h.below b').maps x hin |>.look (t := 90) (e := 50) underlying90 (zero50 X) bK kmx⟩ : X.cell? ⟨m.p, 7, none⟩ = some (.slice (some ⟨m.bt, 0, none⟩) m.tabs.length m.tc) /\ X.cell? ⟨m.bt, t, none⟩ = some (.map (some x.1)) /\ (convert 42 9 (.slice ka kn kc)).run prog X = .ok (.string (strOfNums K)) X /\ (Instr.lookup 90 (.map (some x.1)) (.string (strOfNums K)) true).run prog X = .ok (.tuple #[((yc_ x.2 K).map RV.v).getD (.slice none 0 0), .bool (yc_ x.2 K).isSome]) X))
 have HR := hid (fun y (hy : yc_ x.2 K = some y) => (⟨(h.rows x hin _ ((yv_ (h.maps x hin).ris).1 hy)).now, (h.row hx ((yv_ (h.maps x hin).ris).1 hy)).2⟩ : RdR w y.ra y.R /\ rOk y.P))
 clear hin hx htn h hK bK hk hd kmx
 obtain ⟨o, ho⟩ := gtx (yc_ x.2 K)
 rw [ho] at HB HR ⊢
 clear ho
 go_enter func18, ntmps18
 go_upto_region 3 with (go_at_call 52; refine HH.out.mono ?_; rintro e w' ⟨rfl, rfl⟩)
 cases o with
 | none =>
  have HX := hid (fun W (b : Below w.heap.size w W) => (HB.out W b : W.cell? ⟨m.p, 7, none⟩ = some (.slice (some ⟨m.bt, 0, none⟩) m.tabs.length m.tc) /\ W.cell? ⟨m.bt, t, none⟩ = some (.map (some x.1)) /\ (convert 42 9 (.slice ka kn kc)).run prog W = .ok (.string (strOfNums K)) W /\ (Instr.lookup 90 (.map (some x.1)) (.string (strOfNums K)) true).run prog W = .ok (.tuple #[.slice none 0 0, .bool false]) W))
  refine rgw w (Below.refl _ _).drew fun hH => ?_
  refine tkq3 0 1 2 ?_
  refine tkr 3 rfl Xf1 ?_
  refine tkq2 4 5 ?_
  refine tkr 6 rfl Xf3 ?_
  refine tkq 7 ?_
  refine tkr 8 rfl Xf2 ?_
  refine tkr 9 rfl Xf6 ?_
  refine tkq4 10 11 12 13 ?_
  refine tkq 14 ?_
  refine adn ?_
  skip
  generalize w.drew = W1 at hH ⊢
  go_wp2_with fail
  refine (zV_ none [] 0 0 rfl Xt0 (fun _ h => by simp at h) _ (RdR.nil _ _)).mono ?_; rintro r w1 ⟨⟨v, rfl, hc⟩, hb1⟩
  exact Xb68
 | some y =>
  have HX := hid (fun W (b : Below w.heap.size w W) => (HB.out W b : W.cell? ⟨m.p, 7, none⟩ = some (.slice (some ⟨m.bt, 0, none⟩) m.tabs.length m.tc) /\ W.cell? ⟨m.bt, t, none⟩ = some (.map (some x.1)) /\ (convert 42 9 (.slice ka kn kc)).run prog W = .ok (.string (strOfNums K)) W /\ (Instr.lookup 90 (.map (some x.1)) (.string (strOfNums K)) true).run prog W = .ok (.tuple #[.slice y.ra y.R.length y.rc, .bool true]) W))
  obtain ⟨hr, hok⟩ := HR.out y rfl
  have HR2 := hid hr
  have HO2 := hid (RV.bound hok)
  clear hr hok
  refine rgw w (Below.refl _ _).drew fun hH => ?_
  refine tkq3 0 1 2 ?_
  refine tkr 3 rfl Xf1 ?_
  refine tkq2 4 5 ?_
  refine tkr 6 rfl Xf3 ?_
  refine tkq 7 ?_
  refine tkr 8 rfl Xf2 ?_
  refine tkr 9 rfl Xf6 ?_
  refine tkq4 10 11 12 13 ?_
  refine tkq 14 ?_
  refine adn ?_
  skip
  generalize w.drew = W1 at hH ⊢
  go_wp2_with fail
  refine (zV_ y.ra y.R _ y.rc rfl HO2.out.1 HO2.out.2 _ (HR2.out.below hH)).mono ?_; rintro r w1 ⟨⟨v, rfl, hc⟩, hb1⟩
  exact Xb68
end
theorem zI_ (e : Int) (w : World) : Calls prog 12 #[.int .i64 e] w fun r w' => r = .returned (.int .i64 e) /\ w = w' := by
 go_enter func12, ntmps12
 go_wp2_with fail
 go_ret
 exact ⟨rfl, rfl⟩
def lenT (Ts : List TbV) : Nat := (Ts.map fun x => x.P.length).sum
theorem QH_ {Ts : List TbV} {k : Nat} {x : TbV} (h : Ts[k]? = some x) : lenT (Ts.take (k + 1)) = lenT (Ts.take k) + x.P.length := by
 unfold lenT; rw [List.take_add_one, h]; simp
theorem lenT_le {Ts : List TbV} {m : Nat} (h : ∀ x ∈ Ts, x.P.length <= m) : ∀ k, lenT (Ts.take k) <= k * m
 | 0 => by simp [lenT]
 | k + 1 => by
  cases hx : Ts[k]? with
  | none =>
   rw [List.take_add_one, hx, Option.toList_none, List.append_nil, Nat.succ_mul]
   have := lenT_le h k; omega
  | some x =>
   rw [QH_ hx, Nat.succ_mul]
   have := lenT_le h k; have := h x (List.mem_of_getElem? hx); omega
theorem rlen_law (p : Nat) (ta : Option Addr) (tn tc : Nat) (Ts : List TbV) (hn : Ts.length = tn) (hn2 : tn <= 1000000) (ok : ∀ x ∈ Ts, x.P.length <= 1000000) (w : World) (hc : w.cell? ⟨p, 7, none⟩ = some (.slice ta tn tc)) (hT : TbR w ta Ts) :
  Calls prog 44 #[.pointer (some ⟨p, 0, none⟩)] w fun r w' => r = .returned (.int .i64 (lenT Ts : Int)) /\ Below w.heap.size w w' := by
 have HT := hid hT
 have HN := hid hn
 have HL := hid (fun k => lenT_le ok k)
 have HOK := hid ok
 have HM := hid (fun X (b' : Below w.heap.size w X) => (b'.cell (World.block_lt_of_cell? w _ hc)).trans hc)
 have hni : (tn : Int) <= 1000000 := by omega
 clear hn ok hc hT
 go_enter func44, ntmps44
 go_wp2_with fail
 go_loopw [3, 4] (fun s i wr => ∃ k : Nat, k <= tn /\ i = .int .i64 (k : Int) /\ s = .int .i64 (lenT (Ts.take k) : Int) /\ Hid (Below w.heap.size w wr)) (fun _ i _ => tn - (intOf i).toNat)
 case atStart => exact ⟨0, by omega, rfl, rfl, hid (Below.refl _ _)⟩
 case round =>
  obtain ⟨k, hk, rfl, rfl, HBW⟩ := hrel
  have m0 := HM.out _ HBW.out
  by_cases hlt : k < tn
  ·have d1 : (k : Int) < (tn : Int) := by omega
   obtain ⟨x, hx⟩ : ∃ x, Ts[k]? = some x := ⟨_, List.getElem?_eq_getElem Xt9⟩
   obtain ⟨b1, o1, ea, c0, _⟩ := (HT.out.below HBW.out) k x hx
   subst ea
   have hs := HL.out k
   have hx2 := HOK.out x (List.mem_of_getElem? hx)
   have HS := hid (QH_ hx)
   obtain ⟨xl, hxl⟩ := gtx (x.P.length)
   obtain ⟨s, hsx⟩ := gtx (lenT (Ts.take k))
   rw [hxl] at c0 hx2 HS
   rw [hsx] at hs HS ⊢
   have hsb : s <= 1000000000000 := by
    have := Nat.mul_le_mul_right 1000000 (show k <= 1000000 by omega)
    omega
   have w3 : IntKind.i64.wrap ((s : Int) + (xl : Int)) = ((s + xl : Nat) : Int) := by rw [IntKind.wrap_i64]; omega
   clear hx hxl hsx hs
   go_wp2_with fail
   go_roundw
   case rel => exact ⟨k + 1, by omega, by go_num, by rw [HS.out]; rfl, HBW⟩
   case measure => simp [intOf]; omega
  ·have d1 : ¬ (k : Int) < (tn : Int) := by omega
   have HV := hid (show lenT (Ts.take k) = lenT Ts by rw [List.take_of_length_le Xt23])
   go_wp2_with fail
   go_ret
   exact ⟨by rw [← HV.out]; rfl, HBW.out⟩
def pcl (x : PrV) : List Value := [.slice x.ka x.K.length x.kc, .slice x.ra x.R.length x.rc]
def zi_ (xs : List PrV) : List Value := (xs.map pcl).flatten
theorem zw_ (a b : List PrV) : zi_ (a ++ b) = zi_ a ++ zi_ b := by simp [zi_]
theorem xC_ (a : List PrV) : (zi_ a).length = a.length * 2 := by
 induction a with
 | nil => rfl
 | cons x r ih =>
  unfold zi_ at *
  rw [List.map_cons, List.flatten_cons, List.length_append, ih, List.length_cons]
  simp only [pcl, List.length_cons, List.length_nil]
  omega
theorem prcells_one (a : List PrV) : ∀ u ∈ zi_ a, u.oneCell' = true := fun u hu => by
 obtain ⟨l, hl, hu⟩ := List.mem_flatten.1 hu
 obtain ⟨p, _, rfl⟩ := List.mem_map.1 hl
 simp only [pcl, List.mem_cons, List.not_mem_nil, or_false] at hu
 rcases hu with rfl | rfl <;> rfl
theorem QJ_ : (prog.info? 78).map (fun i => (i.zero, i.size, i.bytes)) = some (some (.agg #[.slice none 0 0, .slice none 0 0]), 2, 48) := by kernel_rfl
theorem qf_ : ∀ (xs : List PrV) (k i : Nat) (x : PrV), xs[k]? = some x -> i < 2 -> (zi_ xs)[k * 2 + i]? = (pcl x)[i]?
 | [], k, i, x, h, _ => by simp at h
 | y :: xs, 0, i, x, h, hi => by
  simp only [List.getElem?_cons_zero, Option.some.injEq] at h
  subst h
  unfold zi_
  rw [List.map_cons, List.flatten_cons, List.getElem?_append_left (by simp [pcl]; omega)]
  simp
 | y :: xs, k + 1, i, x, h, hi => by
  have ih := qf_ xs k i x (by simpa using h) hi
  unfold zi_ at *
  rw [List.map_cons, List.flatten_cons, List.getElem?_append_right (by simp [pcl]; omega)]
  rw [show (k + 1) * 2 + i - (pcl y).length = k * 2 + i by simp [pcl]; omega]
  exact ih
theorem Qw_ {W : World} {a : Addr} {xs : List PrV} (h : zn_ W (some a) xs) : ∀ (j : Nat) (u : Value), (zi_ xs)[j]? = some u -> W.cell? (a.add j) = some u := fun j u hj => by
 have hl := (List.getElem?_eq_some_iff.1 hj).1
 rw [xC_] at hl
 obtain ⟨x, hx⟩ : ∃ x, xs[j / 2]? = some x := ⟨_, List.getElem?_eq_getElem Xt0⟩
 obtain ⟨b, off, e, c0, c1, _⟩ := h (j / 2) x hx
 cases e
 rw [zF_]
 have hm := Nat.div_add_mod j 2
 have h3 := Nat.mod_lt j (show 2 > 0 by omega)
 have key := qf_ xs (j / 2) (j % 2) x hx h3
 rw [show j / 2 * 2 + j % 2 = j by omega] at key
 rw [hj] at key
 have hcases : j % 2 = 0 ∨ j % 2 = 1 := by omega
 rcases hcases with e | e
 ·rw [e] at key
  simp only [pcl, List.getElem?_cons_zero, Option.some.injEq] at key
  rw [key, show off + j = off + j / 2 * 2 by omega]; exact c0
 ·rw [e] at key
  simp only [pcl, List.getElem?_cons_zero, List.getElem?_cons_succ, Option.some.injEq] at key
  rw [key, show off + j = off + j / 2 * 2 + 1 by omega]; exact c1
theorem yd_ {W : World} {base n c : Nat} {a : Option Addr} {xs : List PrV} (h : W.ownsRow base 78 2 (.slice a n c) n (zi_ xs)) (hn : xs.length = n) (ok : ∀ x ∈ xs, Ls .u8 W x.ka x.kc x.K /\ RdR W x.ra x.R) : zn_ W a xs := fun k x hx => by
 have hk := (List.getElem?_eq_some_iff.1 hx).1
 have hc := fun i hi => qf_ xs k i x hx hi
 have h' := h
 rcases h.2 with ⟨e0, h0⟩ | ⟨g, cap, cur, e0, _⟩
 ·omega
 ·cases e0
  refine ⟨g, 0, rfl, ?_, ?_, ok x (List.mem_of_getElem? hx)⟩
  ·rw [Nat.zero_add, show k * 2 = k * 2 + 0 by omega, h'.cellAt (k * 2 + 0) Xt0]
   exact hc 0 Xt0
  ·rw [Nat.zero_add, h'.cellAt (k * 2 + 1) Xt0]
   exact hc 1 Xt0
theorem xv_ (w : World) (ty : TypeId) (base : Nat) (v : Value) (n : Nat) (xs : List PrV) (hown : w.ownsRow base 78 2 v n (zi_ xs))
  (ad : Option Addr) (c len : Nat) (ys : List PrV) (hlen : ys.length = len) (hR : zn_ w ad ys) (hnil : ad = none -> c = 0) (hb : n + len <= 2097152) (hbase : base <= w.heap.size) :
  ∃ v' w', (Builtin.append_ #[69, 69] ty #[v, .slice ad len c]).run prog w = .ok v' w' /\ w'.ownsRow base 78 2 v' (n + len) (zi_ (xs ++ ys)) /\ w.grownBy w' v.ownBlock := by
 subst hlen
 obtain ⟨i0, hi, hz0, hz1, hz2⟩ := info_parts QJ_
 rcases ad with _ | ad
 ·obtain rfl := hnil rfl
  have : ys = [] := by
   exact Xb103
  subst this
  exact ⟨v, w, run_append_owned_none (P := prog) (w := w) base 69 ty 78 i0 2 underlying69 hi v n (zi_ xs) hown, by simpa using hown, ⟨rfl, rfl, rfl, Nat.le_refl _, fun _ _ _ => rfl⟩⟩
 ·obtain ⟨v', w', h1, h2, h3, _⟩ := run_append_own (P := prog) w base 69 ty 78 i0 (.agg #[.slice none 0 0, .slice none 0 0]) 2 48 underlying69 hi hz0 hz1 hz2 rfl Xt4 v n (zi_ xs) hown ad ys.length c (zi_ ys) (xC_ ys) (Qw_ hR) (prcells_one ys) Xt15 Xt0 hbase
  exact ⟨v', w', h1, by rw [zw_]; exact h2, h3⟩
theorem jD_ {ops : Array Oper} {rest : List Oper} {o : Oper} {a : Act} {w : World} {Q : Exit -> Act -> World -> Prop} (hgd : o.guard = none) (s x : Operand)
  (ho : o.op = .call { callee := .builtin .append, args := #[s, x], argTypes := #[69, 69] })
  (base : Nat) (v : Value) (n : Nat) (xs : List PrV) (hs : a.eval s = v) (hown : w.ownsRow base 78 2 v n (zi_ xs))
  (ad : Option Addr) (c len : Nat) (ys : List PrV) (hlen : ys.length = len) (hx : a.eval x = .slice ad len c) (hR : zn_ w ad ys) (hnil : ad = none -> c = 0) (hb : n + len <= 2097152) (hbase : base <= w.heap.size)
  (h : ∀ v' w', w'.ownsRow base 78 2 v' (n + len) (zi_ (xs ++ ys)) -> w.grownBy w' v.ownBlock -> wpList prog ops Q rest (a.put o.dst v') w') :
  wpList prog ops Q (o :: rest) a w :=
 wpList_plain hgd fun Kt hK => by
  obtain ⟨v', w', h1, h2, h3⟩ := xv_ w o.type base v n xs hown ad c len ys hlen hR hnil hb hbase
  unfold Oper.wp execOp
  simp only [ho, resolve, invoke, builtin, Sem.run_bind, Sem.run_pure, Result.andThen_ok, List.map_toArray, List.map_cons, List.map_nil, hs, hx, h1]
  exact hK _ _ (h v' w' h2 h3)
theorem z3_ {ops : Array Oper} {o : Oper} {a : Act} {w : World} {Kt : Act -> World -> Prop} {Q : Exit -> Act -> World -> Prop} {Z : Prop} (hgd : o.guard = none) (s x : Operand)
  (ho : o.op = .call { callee := .builtin .append, args := #[s, x], argTypes := #[69, 69] })
  (base : Nat) (v : Value) (n : Nat) (xs : List PrV) (hs : a.eval s = v) (hown : w.ownsRow base 78 2 v n (zi_ xs))
  (ad : Option Addr) (c len : Nat) (ys : List PrV) (hlen : ys.length = len) (hx : a.eval x = .slice ad len c) (hR : zn_ w ad ys) (hnil : ad = none -> c = 0) (hb : n + len <= 2097152) (hbase : base <= w.heap.size)
  (h : ∀ v' w', w'.ownsRow base 78 2 v' (n + len) (zi_ (xs ++ ys)) -> w.grownBy w' v.ownBlock -> Kt (a.put o.dst v') w') :
  if Region.wanted o (yielded ops a.tmps) = true then Oper.wp prog o a w Kt Q else Z := by
 have hw : Region.wanted o (yielded ops a.tmps) = true := by simp [Region.wanted, hgd]
 rw [if_pos hw]
 obtain ⟨v', w', h1, h2, h3⟩ := xv_ w o.type base v n xs hown ad c len ys hlen hR hnil hb hbase
 exact Xb29
theorem zn_.take {W : World} {a : Option Addr} {L : List PrV} (h : zn_ W a L) (k : Nat) : zn_ W a (L.take k) := fun j x hx => by
 rw [List.getElem?_take] at hx
 split at hx
 ·exact h j x hx
 ·cases hx
theorem zn_.drop {W : World} {b off : Nat} {L : List PrV} (h : zn_ W (some ⟨b, off, none⟩) L) (k : Nat) : zn_ W (some ⟨b, off + k * 2, none⟩) (L.drop k) := fun j x hx => by
 rw [List.getElem?_drop] at hx
 obtain ⟨b', off', e, c0, c1, r⟩ := h (k + j) x hx
 cases e
 refine ⟨b, off + k * 2, rfl, ?_, ?_, r⟩
 ·rw [show off + k * 2 + j * 2 = off + (k + j) * 2 by omega]; exact c0
 ·rw [show off + k * 2 + j * 2 + 1 = off + (k + j) * 2 + 1 by omega]; exact c1
theorem set_place {K : List Int} {R : List (List Int)} {P : List PrV} (h : yf_ (P.map prC)) :
  (P.take (xe_ K P)).map prC ++ ((if R = [] then [] else [(K, R)]) ++ (P.drop (xe_ K P + (if x9_ K P then 1 else 0))).map prC) = xL_ (P.map prC) K R := by
 unfold xL_
 have e1 : ∀ P : List PrV, yf_ (P.map prC) -> (P.take (xe_ K P)).map prC = (P.map prC).filter fun p => ltL p.1 K := fun P => by
  induction P with
  | nil => intro _; rfl
  | cons x P ih =>
   intro h
   obtain ⟨h1, h2⟩ := List.pairwise_cons.1 h
   unfold xe_ at *
   by_cases hx : ltL x.K K = true
   ·rw [List.takeWhile_cons_of_pos (p := fun y : PrV => ltL y.K K) hx, List.length_cons, List.take_succ_cons, List.map_cons, List.map_cons, List.filter_cons_of_pos (by exact hx), ih h2]
   ·rw [List.takeWhile_cons_of_neg (p := fun y : PrV => ltL y.K K) hx, List.length_nil, List.take_zero, List.map_nil]
    symm
    rw [List.filter_eq_nil_iff]
    intro p hp hlt
    rcases List.mem_cons.1 hp with rfl | hp
    ·exact hx hlt
    ·exact hx (zE_ (h1 p hp) hlt)
 have e2 : ∀ P : List PrV, yf_ (P.map prC) -> (P.drop (xe_ K P + (if x9_ K P then 1 else 0))).map prC = (P.map prC).filter fun p => ltL K p.1 := fun P => by
  induction P with
  | nil => intro _; simp
  | cons x P ih =>
   intro h
   obtain ⟨h1, h2⟩ := List.pairwise_cons.1 h
   by_cases hx : ltL x.K K = true
   ·have ec : xe_ K (x :: P) = xe_ K P + 1 := by unfold xe_; rw [List.takeWhile_cons_of_pos (p := fun y : PrV => ltL y.K K) hx, List.length_cons]
    have eh : x9_ K (x :: P) = x9_ K P := by unfold x9_; rw [ec, List.getElem?_cons_succ]
    rw [ec, eh, show xe_ K P + 1 + (if x9_ K P = true then 1 else 0) = (xe_ K P + (if x9_ K P = true then 1 else 0)) + 1 by omega, List.drop_succ_cons, ih h2, List.map_cons, List.filter_cons_of_neg (by rw [show ltL K (prC x).1 = false from yy_ hx]; decide)]
   ·have ec : xe_ K (x :: P) = 0 := by unfold xe_; rw [List.takeWhile_cons_of_neg (p := fun y : PrV => ltL y.K K) hx]; rfl
    have eh : x9_ K (x :: P) = decide (x.K = K) := by unfold x9_; rw [ec, List.getElem?_cons_zero]
    have hgt : ∀ p ∈ P.map prC, ltL K p.1 = true := fun p hp => by
     have hxp := h1 p hp
     cases hk : ltL K x.K
     ·have : x.K = K := y9_ (by simpa using hx) hk
      rw [← this]; exact hxp
     ·exact zE_ hk hxp
    rw [ec, eh]
    by_cases hk : x.K = K
    ·rw [show decide (x.K = K) = true by simp [hk], if_pos rfl, Nat.zero_add, List.drop_succ_cons, List.drop_zero, List.map_cons, List.filter_cons_of_neg (by rw [show ltL K (prC x).1 = false by show ltL K x.K = false; rw [hk, zT_]]; decide), List.filter_eq_self.2 hgt]
    ·rw [show decide (x.K = K) = false by simp [hk], if_neg Xt4, Nat.add_zero, List.drop_zero]
     have : ltL K x.K = true := x0_ (by simpa using hx) (fun e => hk e.symm)
     rw [List.map_cons, List.filter_cons_of_pos (by exact this), List.filter_eq_self.2 hgt]
 rw [e1 P h, e2 P h]
theorem hi69 (W : World) (a : Option Addr) (n c i : Nat) (hi : i <= n) (hnc : n <= c) : (Instr.slice 69 (.slice a n c) .none (some (.int .i64 (i : Int))) .none).run prog W = .ok (.slice a i c) W := by
 obtain ⟨i0, hi0, hz0, hz1, hz2⟩ := info_parts QJ_
 have hel : prog.elem 69 = 78 := by simp [Program.elem, underlying69]
 rw [run_slice_h (P := prog) (w := W) 69 a n c Xt47 .i64 i Xt0 Xt0]
 have hs : ((sizeOf (prog.elem 69)).run prog W) = .ok 2 W := by rw [hel]; simp [sizeOf, typeInfo, hi0, hz1]
 rw [hs]
 exact Xb104
theorem lo69 (W : World) (a : Option Addr) (P : List PrV) (n c i : Nat) (hn : P.length = n) (hi : i <= n) (hnc : n <= c) (hna : a = none -> c = 0) (hP : zn_ W a P) :
  ∃ a', (∀ W', (Instr.slice 69 (.slice a n c) (some (.int .i64 (i : Int))) .none .none).run prog W' = .ok (.slice a' (n - i) (c - i)) W') /\ zn_ W a' (P.drop i) /\ (a' = none -> c - i = 0) := by
 obtain ⟨i0, hi0, hz0, hz1, hz2⟩ := info_parts QJ_
 have hel : prog.elem 69 = 78 := by simp [Program.elem, underlying69]
 have hs : ∀ W', ((sizeOf (prog.elem 69)).run prog W') = .ok 2 W' := fun W' => by rw [hel]; simp [sizeOf, typeInfo, hi0, hz1]
 by_cases hc : c = i
 ·refine ⟨a, fun W' => ?_, fun k x hx => ?_, fun _ => by omega⟩
  ·rw [run_slice_l (P := prog) (w := W') 69 a n c Xt47 .i64 i Xt0 Xt0, hs]
   cases a <;> simp [sliced, Result.andThen, Addr.add, hc]
  ·rw [List.getElem?_drop, List.getElem?_eq_none Xt0] at hx
   cases hx
 ·cases a with
  | none => have := hna rfl; omega
  | some ad =>
   obtain ⟨b, off, sp⟩ := ad
   by_cases h0 : P = []
   ·refine ⟨some ((⟨b, off, sp⟩ : Addr).add (i * 2)), fun W' => ?_, fun k x hx => ?_, fun h => by cases h⟩
    ·rw [run_slice_l (P := prog) (w := W') 69 (some ⟨b, off, sp⟩) n c Xt47 .i64 i Xt0 Xt0, hs]
     exact Xb115
    ·subst h0; simp at hx
   ·obtain ⟨x, hx⟩ : ∃ x, P[0]? = some x := ⟨_, List.getElem?_eq_getElem Xt64⟩
    obtain ⟨b', off', e, _⟩ := hP 0 x hx
    cases e
    refine ⟨some ⟨b, off + i * 2, none⟩, fun W' => ?_, hP.drop i, fun h => by cases h⟩
    rw [run_slice_l (P := prog) (w := W') 69 (some ⟨b, off, none⟩) n c Xt47 .i64 i Xt0 Xt0, hs]
    exact Xb117
theorem Qz_ {W : World} {base n : Nat} {v : Value} {R : List P1} (h : W.ownsRow base 42 1 v n (R.map P1.v)) (hn : R.length = n) (ok : ∀ p ∈ R, W.ownsRow base 5 1 p.v p.bs.length (iv .u8 p.bs)) :
  ∃ a c, v = .slice a n c /\ RdR W a R /\ n <= c /\ (a = none -> c = 0) := by
 have h' := h
 rcases h.2 with ⟨e0, h0⟩ | ⟨g, cap, cur, e0, _, _, hc, _⟩
 ·subst h0
  have : R = [] := List.length_eq_zero_iff.1 hn
  subst this
  exact ⟨none, 0, e0, fun k p hp => by simp at hp, Nat.le_refl _, fun _ => rfl⟩
 ·subst e0
  refine ⟨_, cap, rfl, fun k p hp => ?_, hc, fun e => by cases e⟩
  have hk : k < n := by have := (List.getElem?_eq_some_iff.1 hp).1; omega
  obtain ⟨a, c, e, l⟩ := ys_ (ok p (List.mem_of_getElem? hp)) rfl
  unfold P1.v at e
  cases e
  refine ⟨g, 0, rfl, ?_, l.1⟩
  rw [Nat.zero_add, h'.cellAt k Xt0, List.getElem?_map, hp]
  rfl
theorem CpR.lies {base n : Nat} {R : List P1} {v : Value} {W : World} (h : CpR base R n v W) (hn : R.length = n) :
  ∃ a c R', v = .slice a n c /\ RdR W a R' /\ R'.length = n /\ R'.map P1.bs = R.map P1.bs /\ n <= c /\ (a = none -> c = 0) /\ W.ownsRow base 42 1 v n (R'.map P1.v) /\ ∀ p ∈ R', W.ownsRow base 5 1 p.v p.bs.length (iv .u8 p.bs) := by
 obtain ⟨R', h1, h2, h3⟩ := h.ex
 rw [List.take_of_length_le Xt0] at h1
 have hl : R'.length = n := by have := congrArg List.length h1; rw [List.length_map, List.length_map] at this; omega
 obtain ⟨a, c, e, r, l1, l2⟩ := Qz_ h2 hl h3
 exact ⟨a, c, R', e, r, hl, h1, l1, l2, h2, h3⟩
section
variable {P : Program} {md : Region.Mode} {ops : Array Oper} {Q : Exit -> Act -> World -> Prop} {S : World -> Prop} {z : Nat}
def xN_ (md : Region.Mode) (ops : Array Oper) (z i : Nat) : Bool := match ops[z]? with | some o => o.after.toList.any fun e => Region.binds md e && e.on == i | none => false
def zL_ (P : Program) (md : Region.Mode) (ops : Array Oper) (Q : Exit -> Act -> World -> Prop) (S : World -> Prop) (z : Nat) : Nat -> Array Bool -> Act -> World -> Prop
 | 0, listed, a, w => Region.ready md ops listed = [] /\ Q .normal a w
 | fuel + 1, listed, a, w =>
  (Region.ready md ops listed = [] -> Q .normal a w) /\
  ∀ i ∈ Region.ready md ops listed, wpOp P ops Q i (fun a' w' => (i ≠ z -> listed.getD z true = false -> S w') /\ zL_ P md ops Q S z fuel (listed.setIfInBounds i true) a' w') a w
theorem any_of_L : ∀ (fuel : Nat) (listed : Array Bool) (a : Act) (w : World), zL_ P md ops Q S z fuel listed a w -> wpAny P md ops Q fuel listed a w
 | 0, _, _, _, h => h
 | fuel + 1, _, _, _, h => ⟨h.1, fun i hi => wpOp_mono (fun a' w' h' => any_of_L fuel _ a' w' h'.2) (h.2 i hi)⟩
theorem get_set {listed : Array Bool} {i z : Nat} (h : i ≠ z) (b : Bool) : (listed.setIfInBounds i b).getD z true = listed.getD z true := by
 simp only [Array.getD_eq_getD_getElem?, Array.getElem?_setIfInBounds_ne h]
theorem get_own {listed : Array Bool} {z : Nat} : (listed.setIfInBounds z true).getD z true = true := by
 by_cases h : z < listed.size
 ·simp [Array.getD_eq_getD_getElem?, h]
 ·simp [Array.getD_eq_getD_getElem?, Array.getElem?_eq_none (Nat.le_of_not_lt h)]
theorem Qe_ {i : Nat} {oi : Oper} {v : Value} {T : World -> Prop} (hT : xN_ md ops z i = true /\ T = S ∨ T = fun _ => True) (hiz : i ≠ z) (hi : ops[i]? = some oi) (hsel : ∀ (j : Nat) (o : Oper) cs b, ops[j]? = some o -> o.op ≠ .select cs b)
  (hQ : ∀ c a w, Q (.panic c) (a.put oi.dst v) w -> Q (.panic c) a w) :
  ∀ (fuel : Nat) (listed : Array Bool) (a : Act) (w : World),
   (∀ j oj, ops[j]? = some oj -> j ≠ i -> listed.getD j true = false -> (∀ e ∈ oj.after, Region.binds md e = true -> e.on ≠ i) -> oi.apart ops oj = true) ->
   i ∈ Region.ready md ops listed -> YieldsIf P ops T oi v a -> (xN_ md ops z i = true -> T = S -> listed.getD z true = false) -> (listed.getD z true = false -> S w) ->
   zL_ P md ops Q S z fuel (listed.setIfInBounds i true) (a.put oi.dst v) w -> zL_ P md ops Q S z (fuel + 1) listed a w
 | 0, listed, a, w, _, hr, hy, hzl, hS, H => by
  have hTw : T w := by
   exact Xb114
  refine ⟨fun h => (by rw [h] at hr; cases hr), fun j hj => ?_⟩
  by_cases hji : j = i
  ·subst hji
   exact hy.wpOp hi hTw ⟨fun _ => hS, H⟩
  ·have := ready_mono hj hji
   rw [H.1] at this
   cases this
 | fuel + 1, listed, a, w, hfree, hr, hy, hzl, hS, H => by
  have hTw : T w := by
   exact Xb114
  refine ⟨fun h => (by rw [h] at hr; cases hr), fun j hj => ?_⟩
  by_cases hji : j = i
  ·subst hji
   exact hy.wpOp hi hTw ⟨fun _ => hS, H⟩
  have hH := H.2 j (ready_mono hj hji)
  obtain ⟨hjun, oj, hoj, hall⟩ := mem_ready.1 hj
  have hnot : ∀ e ∈ oj.after, Region.binds md e = true -> e.on ≠ i := fun e he hb heq => by
   have hx := hall e he hb
   have h0 := (mem_ready.1 hr).1
   rw [heq] at hx
   rcases Nat.lt_or_ge i listed.size with h' | h'
   ·simp [h'] at h0 hx; rw [h0] at hx; cases hx
   ·simp [Array.getElem?_eq_none h'] at hx
  have hjz : xN_ md ops z i = true -> j ≠ z := fun hw e => by
   subst e
   simp only [xN_, hoj, List.any_eq_true, Bool.and_eq_true, Array.mem_toList_iff, beq_iff_eq] at hw
   obtain ⟨e, he, h1, h2⟩ := hw
   exact hnot e he h1 h2
  have hput := wpOp_putIf hoj (hfree j oj hoj hji hjun hnot) (fun cs b => hsel i oi cs b hi) (fun cs b => hsel j oj cs b hoj) hQ hy hH
  have hfree' : ∀ k ok, ops[k]? = some ok -> k ≠ i -> (listed.setIfInBounds j true).getD k true = false -> (∀ e ∈ ok.after, Region.binds md e = true -> e.on ≠ i) -> oi.apart ops ok = true := fun k ok hk hki hun hno => by
   refine hfree k ok hk hki ?_ hno
   by_cases hjk : j = k
   ·subst hjk; exact hjun
   ·rw [getD_set_ne true hjk] at hun; exact hun
  refine wpOp_mono (fun a' w' h3 => ?_) hput
  have hSj : j ≠ z -> listed.getD z true = false -> S w' := fun h1 h2 => h3.2.1 h1 (by rw [get_set hiz]; exact h2)
  refine ⟨hSj, Qe_ hT hiz hi hsel hQ fuel (listed.setIfInBounds j true) a' w' hfree' (ready_mono hr (Ne.symm hji)) h3.1 (fun h1 h2 => by rw [get_set (hjz h1)]; exact hzl h1 h2) (fun h => ?_) ?_⟩
  ·by_cases e : j = z
   ·subst e
    rw [get_own] at h; cases h
   ·rw [get_set e] at h
    exact hSj e h
  ·rw [Array.setIfInBounds_comm _ _ hji]
   exact h3.2.2
theorem wpAnyL_take {i : Nat} {oi : Oper} {v : Value} {fuel : Nat} {listed : Array Bool} {a : Act} {w : World} (hz : xN_ md ops z i = true) (hiz : (i == z) = false) (hzl : listed.getD z true = false) (hi : ops[i]? = some oi)
  (hs : Region.noSelect ops = true) (hf : Region.free md ops listed i = true) (hr : (Region.ready md ops listed).contains i = true)
  (hQ : ∀ c a w, Q (.panic c) (a.put oi.dst v) w -> Q (.panic c) a w) (hy : YieldsIf P ops S oi v a) (hS : S w)
  (h : zL_ P md ops Q S z fuel (listed.setIfInBounds i true) (a.put oi.dst v) w) : zL_ P md ops Q S z (fuel + 1) listed a w :=
 Qe_ (T := S) (Or.inl ⟨hz, rfl⟩) (by simpa using hiz) hi (Region.noSelect_spec hs) hQ fuel listed a w (Region.free_spec hi hf) (by simpa using hr) hy (fun _ _ => hzl) (fun _ => hS) h
theorem wpAnyL_free {i : Nat} {oi : Oper} {v : Value} {fuel : Nat} {listed : Array Bool} {a : Act} {w : World} (hz : xN_ md ops z i = false) (hiz : (i == z) = false) (hi : ops[i]? = some oi)
  (hs : Region.noSelect ops = true) (hf : Region.free md ops listed i = true) (hr : (Region.ready md ops listed).contains i = true)
  (hQ : ∀ c a w, Q (.panic c) (a.put oi.dst v) w -> Q (.panic c) a w) (hy : YieldsIf P ops (fun _ => True) oi v a) (hS : S w)
  (h : zL_ P md ops Q S z fuel (listed.setIfInBounds i true) (a.put oi.dst v) w) : zL_ P md ops Q S z (fuel + 1) listed a w :=
 Qe_ (T := fun _ => True) (Or.inr rfl) (by simpa using hiz) hi (Region.noSelect_spec hs) hQ fuel listed a w (Region.free_spec hi hf) (by simpa using hr) hy (fun h1 _ => by rw [hz] at h1; cases h1) (fun _ => hS) h
theorem zz_ {listed : Array Bool} {a : Act} {w : World} (hr : Region.ready md ops listed = []) (h : Q .normal a w) : ∀ fuel, zL_ P md ops Q S z fuel listed a w
 | 0 => ⟨hr, h⟩
 | _ + 1 => ⟨fun _ => h, by rw [hr]; simp⟩
def AllL (P : Program) (md : Region.Mode) (ops : Array Oper) (Q : Exit -> Act -> World -> Prop) (S : World -> Prop) (z fuel : Nat) (listed : Array Bool) (a : Act) (w : World) (rs : List Nat) : Prop :=
 ∀ i ∈ rs, wpOp P ops Q i (fun a' w' => (i ≠ z -> listed.getD z true = false -> S w') /\ zL_ P md ops Q S z fuel (listed.setIfInBounds i true) a' w') a w
theorem AllL.nil {fuel : Nat} {listed : Array Bool} {a : Act} {w : World} : AllL P md ops Q S z fuel listed a w [] := fun _ h => by cases h
theorem AllL.cons {fuel : Nat} {listed : Array Bool} {a : Act} {w : World} {i : Nat} {o : Oper} {rs : List Nat} (ho : ops[i]? = some o)
  (h : ∀ K' : Act -> World -> Prop, Shut (∀ a w, S w -> (S w -> zL_ P md ops Q S z fuel (listed.setIfInBounds i true) a w) -> K' a w) -> if Region.wanted o (yielded ops a.tmps) = true then Oper.wp P o a w K' Q else K' (a.put o.dst undef) w)
  (hs : AllL P md ops Q S z fuel listed a w rs) : AllL P md ops Q S z fuel listed a w (i :: rs) := fun j hj => by
 rcases List.mem_cons.1 hj with rfl | hj
 ·exact wpOp_step ho (fun K' hK => h K' (fun a w hS hW => hK a w ⟨fun _ _ => hS, hW hS⟩))
 ·exact hs j hj
theorem AllL.last {fuel : Nat} {listed : Array Bool} {a : Act} {w : World} {o : Oper} (ho : ops[z]? = some o)
  (h : ∀ K' : Act -> World -> Prop, Shut (∀ a w, zL_ P md ops Q S z fuel (listed.setIfInBounds z true) a w -> K' a w) -> if Region.wanted o (yielded ops a.tmps) = true then Oper.wp P o a w K' Q else K' (a.put o.dst undef) w) : AllL P md ops Q S z fuel listed a w [z] := fun j hj => by
 rcases List.mem_singleton.1 hj with rfl
 exact wpOp_step ho (fun K' hK => h K' (fun a w hW => hK a w ⟨fun hne => absurd rfl hne, hW⟩))
theorem yi_ {rs : List Nat} {fuel : Nat} {listed : Array Bool} {a : Act} {w : World} (hr : Region.ready md ops listed = rs) (hne : rs ≠ [])
  (h : AllL P md ops Q S z fuel listed a w rs) : zL_ P md ops Q S z (fuel + 1) listed a w := ⟨fun h0 => absurd (hr ▸ h0) hne, hr ▸ h⟩
theorem zr_ {id : Nat} {a : Act} {w : World} (hm : P.follows .mixedOrders = true) (hS : S w.drew)
  (h : S w.drew -> zL_ P .any ops Q S z ops.size (Array.replicate ops.size false) a w.drew) : (Code.region id ops true).wp P Q a w :=
 wp_region_any hm (any_of_L _ _ _ _ (h hS))
end
theorem tlk {P : Program} {md : Region.Mode} {ops : Array Oper} {Q : Exit -> Act -> World -> Prop} {S : World -> Prop} {z : Nat} (i : Nat) {v : Value} {oi : Oper} {fuel : Nat} {listed : Array Bool} {a a' : Act} {w : World}
 (hi : (ops.toList.drop i).head? = some oi) (hy : ∀ w, S w -> (execOp a.eval oi).run P w = .ok (.value v) w)
 (h : zL_ P md ops Q S z fuel (listed.setIfInBounds i true) a' w)
 (hw : Region.wanted oi (yielded ops a.tmps) = true := by rfl)
 (ha : a' = a.put oi.dst v := by (simp only [Act.put, List.setIfInBounds_toArray, List.set_cons_zero, List.set_cons_succ]; rfl))
 (hb : (xN_ md ops z i && !(i == z) && !listed.getD z true && Region.noSelect ops && Region.free md ops listed i && (Region.ready md ops listed).contains i) = true := by kernel_rfl)
 (hQ : ∀ c a w, Q (.panic c) (a.put oi.dst v) w -> Q (.panic c) a w := by intro _ _ _ h; exact h) (hS : S w := by assumption) : zL_ P md ops Q S z (fuel + 1) listed a w := by
 simp only [Bool.and_eq_true, Bool.not_eq_true'] at hb
 exact wpAnyL_take hb.1.1.1.1.1 hb.1.1.1.1.2 hb.1.1.1.2 (by simpa [List.head?_drop] using hi) hb.1.1.2 hb.1.2 hb.2 hQ (.inl ⟨hw, hy⟩) hS (ha ▸ h)
theorem tlf {P : Program} {md : Region.Mode} {ops : Array Oper} {Q : Exit -> Act -> World -> Prop} {S : World -> Prop} {z : Nat} (i : Nat) {v : Value} {oi : Oper} {fuel : Nat} {listed : Array Bool} {a a' : Act} {w : World}
 (hi : (ops.toList.drop i).head? = some oi) (hy : ∀ w, True -> (execOp a.eval oi).run P w = .ok (.value v) w)
 (h : zL_ P md ops Q S z fuel (listed.setIfInBounds i true) a' w)
 (hw : Region.wanted oi (yielded ops a.tmps) = true := by rfl)
 (ha : a' = a.put oi.dst v := by (simp only [Act.put, List.setIfInBounds_toArray, List.set_cons_zero, List.set_cons_succ]; rfl))
 (hb : (!xN_ md ops z i && !(i == z) && Region.noSelect ops && Region.free md ops listed i && (Region.ready md ops listed).contains i) = true := by kernel_rfl)
 (hQ : ∀ c a w, Q (.panic c) (a.put oi.dst v) w -> Q (.panic c) a w := by intro _ _ _ h; exact h) (hS : S w := by assumption) : zL_ P md ops Q S z (fuel + 1) listed a w := by
 simp only [Bool.and_eq_true, Bool.not_eq_true'] at hb
 exact wpAnyL_free hb.1.1.1.1 hb.1.1.1.2 (by simpa [List.head?_drop] using hi) hb.1.1.2 hb.1.2 hb.2 hQ (.inl ⟨hw, hy⟩) hS (ha ▸ h)
theorem tl1 {P : Program} {md : Region.Mode} {ops : Array Oper} {Q : Exit -> Act -> World -> Prop} {S : World -> Prop} {z : Nat} {fuel : Nat} {listed : Array Bool} {a : Act} {w : World} (i : Nat) {o : Oper}
 (ho : (ops.toList.drop i).head? = some o)
 (h : ∀ K' : Act -> World -> Prop, Shut (∀ a w, S w -> (S w -> zL_ P md ops Q S z fuel (listed.setIfInBounds i true) a w) -> K' a w) -> if Region.wanted o (yielded ops a.tmps) = true then Oper.wp P o a w K' Q else K' (a.put o.dst undef) w)
 (hr : Region.ready md ops listed = [i] := by kernel_rfl) : zL_ P md ops Q S z (fuel + 1) listed a w := yi_ hr Xt5 (AllL.cons (by simpa [List.head?_drop] using ho) h AllL.nil)
theorem tlz {P : Program} {md : Region.Mode} {ops : Array Oper} {Q : Exit -> Act -> World -> Prop} {S : World -> Prop} {z : Nat} {fuel : Nat} {listed : Array Bool} {a : Act} {w : World} {o : Oper}
 (ho : (ops.toList.drop z).head? = some o)
 (h : ∀ K' : Act -> World -> Prop, Shut (∀ a w, zL_ P md ops Q S z fuel (listed.setIfInBounds z true) a w -> K' a w) -> if Region.wanted o (yielded ops a.tmps) = true then Oper.wp P o a w K' Q else K' (a.put o.dst undef) w)
 (hr : Region.ready md ops listed = [z] := by kernel_rfl) : zL_ P md ops Q S z (fuel + 1) listed a w := yi_ hr Xt5 (AllL.last (by simpa [List.head?_drop] using ho) h)
theorem zJ_ {W : World} {base n c s : Nat} {e : TypeId} {a : Option Addr} {xs : List Value} (h : W.ownsRow base e s (.slice a n c) n xs) : n <= c /\ (a = none -> c = 0) := by
 rcases h.2 with ⟨e0, h0⟩ | ⟨g, cap, cur, e0, _, _, hc, _⟩
 ·cases e0; exact ⟨Nat.le_refl _, fun _ => rfl⟩
 ·cases e0; exact ⟨hc, fun e => by cases e⟩
theorem yP_ {W : World} {b b' n n' s s' : Nat} {e e' : TypeId} {v v' : Value} {xs xs' : List Value} (h : W.ownsRow b e s v n xs) (g : W.ownsRow b' e' s' v' n' xs') (hne : e ≠ e') : v.ownBlock = none ∨ v.ownBlock ≠ v'.ownBlock := by
 rcases h.2 with ⟨e0, h0⟩ | ⟨k, cap, cur, e0, _, hk, _⟩
 ·subst e0; exact .inl rfl
 ·rcases g.2 with ⟨e1, h1⟩ | ⟨k', cap', cur', e1, _, hk', _⟩
  ·subst e0 e1; exact .inr (by simp [Value.ownBlock])
  ·subst e0 e1
   refine .inr (fun q => hne ?_)
   simp [Value.ownBlock] at q
   subst q
   rw [hk] at hk'
   injection hk' with hk'
   injection hk'
theorem Qx_ {W : World} {B : Nat} (y : PrV) (h0 : W.cell? ⟨B, 0, none⟩ = some (.slice y.ka y.K.length y.kc)) (h1 : W.cell? ⟨B, 1, none⟩ = some (.slice y.ra y.R.length y.rc)) (l : Ls .u8 W y.ka y.kc y.K) (r : RdR W y.ra y.R) : zn_ W (some ⟨B, 0, none⟩) [y] := fun k x hx => by
 match k, hx with
 | 0, hx => cases hx; exact ⟨B, 0, rfl, by simpa using h0, by simpa using h1, l, r⟩
 | k + 1, hx => simp at hx
theorem qx_ {W : World} {base n c : Nat} {a : Option Addr} {R : List P1} (h : W.ownsRow base 42 1 (.slice a n c) n (R.map P1.v)) (hn : R.length = n) (ok : ∀ p ∈ R, W.ownsRow base 5 1 p.v p.bs.length (iv .u8 p.bs)) : RdR W a R := by
 obtain ⟨a', c', e, r, _⟩ := Qz_ h hn ok
 cases e; exact r
theorem yp_ {W : World} {base n c : Nat} {a : Option Addr} {L : List Int} (h : W.ownsRow base 5 1 (.slice a n c) n (iv .u8 L)) (hn : L.length = n) : Ls .u8 W a c L := by
 obtain ⟨a', c', e, l, _⟩ := ys_ h hn
 cases e; exact l
theorem zd_ {w : World} {base n s : Nat} {e : TypeId} {v : Value} {xs : List Value} (h : w.ownsRow base e s v n xs) : ∃ a c, v = .slice a n c := by
 rcases h.2 with ⟨e0, h0⟩ | ⟨g, cap, cur, e0, _⟩
 ·subst h0; exact ⟨_, _, e0⟩
 ·exact ⟨_, _, e0⟩
end Go.Proofs.YthmofoldmdafoaaGreat
