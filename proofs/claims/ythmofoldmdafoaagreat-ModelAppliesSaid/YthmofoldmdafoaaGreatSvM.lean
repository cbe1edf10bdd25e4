/- Part of the proof that ModelApplies holds for every input: writes that are done on tables leave them as the document says. Part 39. -/
import Derived.Test.YthmofoldmdafoaaGreatSvL
set_option linter.unusedVariables false
set_option linter.unusedSimpArgs false
set_option maxRecDepth 100000
set_option maxHeartbeats 4000000
namespace Go.Proofs.YthmofoldmdafoaaGreat
open Go.ChangeShapes Go.WideShapes Go.ChangeAt Go.RowKit
open Go.Lib (hid)
open Go.Proofs.Tryz
section
open Go.Maps Go.Shelf
theorem applies_law (j : Job) (a : Option Addr) (L : List z2_) (n c : Nat) (hL : L.length = n) (hn : n <= 140737488355328) (hB : ∀ x ∈ L, TxG x) (wa : Option Addr) (WL : List WrV) (wn wc : Nat) (hWL : WL.length = wn) (hWG : BgW WL) (hWB : ∀ t ∈ WL, Byt t.K /\ ∀ p ∈ t.r.R, Byt p.bs) (ka : Option Addr) (kn kc : Nat) (KK : List Int) (hKK : KK.length = kn) (hKB : Byt KK) (w : World) (hjl : Ls .i64 w j.a j.cap j.T) (hjT : j.T.length = j.n) (hA : TxsR w a L) (hW : WrR w wa WL) (hKL : Ls .u8 w ka kc KK) :
  Calls prog 4 #[.agg #[.int .i64 j.w, .int .i64 j.l, .int .i64 j.d, .int .i64 j.c, .int .i64 j.k, .int .i64 j.e, .slice j.a j.n j.cap], .slice a n c, .slice wa wn wc, .slice ka kn kc] w fun r w' => r = .returned (.bool true) /\ Below w.heap.size w w' := by
 have HL := hid hL
 have HA := hid (fun X (b : Below w.heap.size w X) => hA.below b)
 have HWA := hid (fun X (b : Below w.heap.size w X) => hW.below b)
 have HJL := hid (And.intro hjl hjT)
 have HKY := hid (And.intro hKL (And.intro hKK hKB))
 have HMU := hid (fun X (b : Below w.heap.size w X) => much8_lawS j a L n c hL hn hB X (hA.below b))
 have HMW := hid (fun X (b : Below w.heap.size w X) => muchw_law wa WL wn wc hWL hWG X (hW.below b))
 have HWN := hid (And.intro hWL hWB)
 have hnn : (n : Int) <= 140737488355328 := by omega
 obtain ⟨w1, hw1⟩ := gty (w.alloc (.cells #[.int .i64 j.w, .int .i64 j.l, .int .i64 j.d, .int .i64 j.c, .int .i64 j.k, .int .i64 j.e, .slice j.a j.n j.cap] 24))
 have hb1 : Below w.heap.size w w1 := by rw [hw1]; exact bl1 _ _
 have hx1 : zg_ w1 w.heap.size #[.int .i64 j.w, .int .i64 j.l, .int .i64 j.d, .int .i64 j.c, .int .i64 j.k, .int .i64 j.e, .slice j.a j.n j.cap] 24 := by rw [hw1]; exact zg_.new _ _ _
 have c0 := (hx1).cell 0
 have c1 := (hx1).cell 1
 have c2 := (hx1).cell 2
 have c3 := (hx1).cell 3
 have c4 := (hx1).cell 4
 have c5 := (hx1).cell 5
 have c6 := (hx1).cell 6
 simp only [gtA, gtB, gtC] at c0 c1 c2 c3 c4 c5 c6
 have HB1 := hid hb1
 have HX1 := hid hx1
 have HSZ1 := hid (show w1.heap.size = w.heap.size + 1 by rw [hw1]; simp)
 clear hL hn hB hA hb1 hx1 hjl hjT hWL hWG hWB hKK hKB hW hKL
 go_enter func4, ntmps4
 go_upto_region 1 with (fail)
 rw [← hw1]
 clear hw1
 go_wp2_with fail
 refine (HMU.out w1 HB1.out).mono ?_; rintro r w2 ⟨⟨b, rfl, hb⟩, hb2⟩
 have HMB := hid hb
 have HB2 := hid (za_ HB1.out hb2)
 have HX2 := hid (HX1.out.below hb2)
 have HSZ2 := hid (Nat.le_trans (Nat.le_of_eq HSZ1.out.symm) hb2.size)
 clear c0 c1 c2 c3 c4 c5 c6 hb hb2
 cases b with
 | true =>
  go_wp2_with fail
  refine (yf_ _).mono ?_; rintro r w8 ⟨rfl, hb8⟩
  have HB8 := hid (za_ HB2.out hb8)
  exact Xb44
 | false =>
  go_wp2_with fail
  refine (HMW.out w2 HB2.out).mono ?_; rintro r w3 ⟨⟨b2, rfl, hbw⟩, hb3⟩
  have HMC := hid hbw
  have HB3 := hid (za_ HB2.out hb3)
  have HX3 := hid (HX2.out.below hb3)
  have HSZ3 := hid (Nat.le_trans HSZ2.out hb3.size)
  clear hbw hb3
  cases b2 with
  | true =>
   go_wp2_with fail
   refine (yf_ _).mono ?_; rintro r w8 ⟨rfl, hb8⟩
   have HB8 := hid (za_ HB3.out hb8)
   exact Xb44
  | false =>
   by_cases hkn : 9000 < kn
   ·have d : (9000 : Int) < (kn : Int) := by omega
    go_wp2_with fail
    refine (yf_ _).mono ?_; rintro r w8 ⟨rfl, hb8⟩
    have HB8 := hid (za_ HB3.out hb8)
    exact Xb44
   have d : ¬ (9000 : Int) < (kn : Int) := by omega
   have HKN := hid hkn
   have HSW := hid (HMC.out (by first | rfl | trivial))
   have HWB := hid (show ∀ x ∈ WL, Byt x.K /\ x.K.length <= 1000000 /\ x.r.R.length <= 1000000 /\ ∀ p ∈ x.r.R, Byt p.bs from fun x hx => ⟨(HWN.out.2 x hx).1, by have := (HSW.out.2 x hx).1; omega, by have := (HSW.out.2 x hx).2.1; omega, (HWN.out.2 x hx).2⟩)
   have hx3 := HX3.out
   have c0 := (hx3).cell 0
   have c1 := (hx3).cell 1
   have c2 := (hx3).cell 2
   have c3 := (hx3).cell 3
   have c4 := (hx3).cell 4
   have c5 := (hx3).cell 5
   have c6 := (hx3).cell 6
   simp only [gtA, gtB, gtC] at c0 c1 c2 c3 c4 c5 c6
   obtain ⟨m1, m2, m3⟩ := HMB.out (by first | rfl | trivial)
   have HMM := hid m3
   have HJA := hid (show yd_ w3 j from ⟨HJL.out.1.below HB3.out, HJL.out.2, by omega⟩)
   have HNW := hid (new_law j w3 HJA.out)
   clear hx3 m2 m3 hkn
   go_wp2_with fail
   refine HNW.out.mono ?_; clear HNW; rintro r w4 hr
   unfold NewR at hr
   cases hok : okB j with
   | false =>
    rw [hok, if_neg Xt4] at hr
    obtain ⟨rfl, hb4⟩ := hr
    have HB4 := hid (za_ HB3.out hb4)
    have HRN := hid (rnew_law j w4 (HJA.out.below hb4))
    have hx4 := HX3.out.below hb4
    clear hb4 c0 c1 c2 c3 c4 c5 c6
    have c0 := (hx4).cell 0
    have c1 := (hx4).cell 1
    have c2 := (hx4).cell 2
    have c3 := (hx4).cell 3
    have c4 := (hx4).cell 4
    have c5 := (hx4).cell 5
    have c6 := (hx4).cell 6
    simp only [gtA, gtB, gtC] at c0 c1 c2 c3 c4 c5 c6
    clear hx4
    go_wp2_with fail
    refine HRN.out.mono ?_; clear HRN; rintro r w5 hr
    unfold RNewR at hr
    rw [hok, if_neg Xt4] at hr
    obtain ⟨rfl, hb5⟩ := hr
    have HB5 := hid (za_ HB4.out hb5)
    clear hb5 c0 c1 c2 c3 c4 c5 c6
    go_wp2_with fail
    refine (yf_ _).mono ?_; rintro r w8 ⟨rfl, hb8⟩
    have HB8 := hid (za_ HB5.out hb8)
    exact Xb44
   | true =>
    rw [hok, if_pos rfl] at hr
    obtain ⟨S0, m, rfl, hb4, hmd, hSm, hmj, hem⟩ := hr
    have HB4 := hid (za_ HB3.out hb4)
    have HRN := hid (rnew_law j w4 (HJA.out.below hb4))
    have HM0 := hid (And.intro hmd (And.intro hSm (And.intro hmj (And.intro hem hb4.size))))
    have hx4 := HX3.out.below hb4
    clear hb4 c0 c1 c2 c3 c4 c5 c6 hmd hSm hmj hem
    have c0 := (hx4).cell 0
    have c1 := (hx4).cell 1
    have c2 := (hx4).cell 2
    have c3 := (hx4).cell 3
    have c4 := (hx4).cell 4
    have c5 := (hx4).cell 5
    have c6 := (hx4).cell 6
    simp only [gtA, gtB, gtC] at c0 c1 c2 c3 c4 c5 c6
    clear hx4
    go_wp2_with fail
    refine HRN.out.mono ?_; clear HRN; rintro r w5 hr
    unfold RNewR at hr
    rw [hok, if_pos rfl] at hr
    obtain ⟨f, rfl, hb5, hfp, hfb, hfj, hfT, hfR⟩ := hr
    have HTW := hid (two_new (T := fun _ => False) w.heap.size HB3.out.size HM0.out.2.2.2.2 HM0.out.1 HM0.out.2.1 HM0.out.2.2.1 HM0.out.2.2.2.1 hb5 hfp hfb hfj hfT hfR)
    have HB5 := hid (za_ HB4.out hb5)
    obtain ⟨p0, hp0⟩ := gtx (f.p)
    rw [hp0]
    rw [hp0] at HTW
    clear hb5 hfp hfb hfj hfT hfR c0 c1 c2 c3 c4 c5 c6 hok HM0 hp0
    go_wp2_with fail
    go_loopw [12] (fun i wr => ∃ (k : Nat) (mc : Md) (fc : Rf) (S : Nat -> Prop), k <= 20 /\ k <= n /\ i = .int .i64 (k : Int) /\ Hid (TwoM w.heap.size wr m mc p0 fc S (16 * k)) /\ Hid (Below w.heap.size w wr)) (fun i _ => n - (intOf i).toNat)
    case atStart => exact ⟨0, m, f, _, by omega, by omega, rfl, HTW, HB5⟩
    case round =>
     obtain ⟨k, mc, fc, S, hk1, hk2, rfl, HT, HBW⟩ := hrel
     by_cases hlt : k < n
     ·have d1 : (k : Int) < (n : Int) := by omega
      by_cases h60 : k < 20
      ·have d2 : (k : Int) < 20 := by omega
       obtain ⟨x, hx⟩ : ∃ x, L[k]? = some x := ⟨_, List.getElem?_eq_getElem Xt80⟩
       obtain ⟨b9, o9, e9, ⟨q0, q1, q2⟩, ht9⟩ := HA.out wr HBW.out k x hx
       cases e9
       have hxm := HMM.out x (List.mem_of_getElem? hx)
       have HKEY := hid (two_do HT.out Xt0 x ⟨by have := ht9.ol; have := hxm.1; omega, hxm.2⟩ (fun W' o => by obtain ⟨_, _, _, _, ht⟩ := HA.out W' (Off.below HBW.out o HBW.out.size (fun q hq => HT.out.ge q hq)) k x hx; exact ht))
       clear hx hxm ht9
       go_wp2_with fail
       refine HKEY.out.mono ?_; clear HKEY; rintro r w7 ⟨rfl, m7, f7, S7, ht7, ho7, _, _⟩
       have HT7 := hid ht7
       have HB7 := hid (Off.below HBW.out ho7 HBW.out.size (fun q hq => HT.out.ge q (DoW.sub HT.out.hm HT.out.hf q hq)))
       clear ht7 ho7 q0 q1 q2
       go_wp2_with fail
       go_roundw
       case rel => exact ⟨k + 1, m7, f7, S7, by omega, by omega, by go_num, hid (HT7.out.more Xt0), HB7⟩
       case measure => simp [intOf]; omega
      ·have d2 : ¬ (k : Int) < 20 := by omega
       exact Xb3
     ·have d1 : ¬ (k : Int) < (n : Int) := by omega
      exact Xb3
end
section
open Go.Deep Go.Joins
theorem IsRow.byt {w : World} {a : Option Addr} {len cap : Nat} {zs : List Int} (h : IsRow .u8 w a len cap zs) : Byt (zs.take len) := by
 rcases h with ⟨_, rfl, _, rfl⟩ | ⟨y, rfl, hlc, _, hz, hcell, hw⟩
 ·intro x hx; simp at hx
 ·intro x hx
  have := hw x (List.mem_of_mem_take hx)
  simpa [Lit.wf, IntKind.min, IntKind.max, IntKind.signed, IntKind.bits] using this
section
variable {H : Type} {enc : TypeId × Value -> H} {w : World} {base : Nat} {held : Bool} {d : DataW H} {ps : List MemPlace}
theorem open_row {a : Option Addr} {len cap : Nat} (hd : DataW.Trod enc prog w base (fun _ => true) held 50 (.slice a len cap) d ps) :
  ∃ R : List P1, R.length = len /\ RdR w a R /\ ∀ p ∈ R, Byt p.bs := by
 obtain ⟨fuel, hf⟩ := hd
 rcases Deep.open_int_rows underlying50 underlying42 underlying5 Xt3 Xt3 hf with ⟨hcs, _⟩ | ⟨x, l, c, A, L, C, Z, hcs, hb, hl, hm, hx, hr⟩
 ·simp [Value.cells] at hcs
  obtain ⟨rfl, rfl, rfl⟩ := hcs
  exact ⟨[], rfl, RdR.nil _ _, fun p hp => by simp at hp⟩
 ·simp [Value.cells] at hcs
  obtain ⟨rfl, rfl, rfl⟩ := hcs
  refine ⟨(List.range len).map fun r => ⟨A r, C r, (Z r).take (L r)⟩, by simp, fun k p hp => ?_, fun p hp => ?_⟩
  ·have hk : k < len := by have := (List.getElem?_eq_some_iff.1 hp).1; simpa using this
   have hp' : p = ⟨A k, C k, (Z k).take (L k)⟩ := by
    simp [hk] at hp
    exact hp.symm
   subst hp'
   obtain ⟨hc, hLC, hCm, hZ, hwf, hnone, hsome⟩ := hr k Xt0
   obtain ⟨b, off, spot⟩ := x
   obtain ⟨hc0, _⟩ := hr 0 Xt0
   have hspot : spot = none := by simpa [Addr.add] using World.cell?_spot hc0
   subst hspot
   rw [zE_] at hc
   have hlen : ((Z k).take (L k)).length = L k := by rw [List.length_take, hZ]; omega
   refine ⟨b, off, rfl, ?_, ⟨fun j hj => ?_, fun e => ?_, by simp only; rw [hlen]; exact hLC⟩⟩
   ·rw [hc, P1.v, hlen]
   ·simp only at hj ⊢
    rw [hlen] at hj
    cases hA : A k with
    | none => have := hnone hA; omega
    | some a' =>
     obtain ⟨_, hcell⟩ := hsome a' hA
     obtain ⟨b2, o2, spot2⟩ := a'
     have hc2 := hcell 0 Xt0
     have hspot2 : spot2 = none := by simpa [Addr.add] using World.cell?_spot hc2
     subst hspot2
     refine ⟨b2, o2, rfl, ?_⟩
     have := hcell j Xt0
     rw [zE_] at this
     rw [this]
     simp [List.getD, List.getElem?_take, hj]
   ·simp only at e ⊢
    have := hnone e
    exact ⟨List.length_eq_zero_iff.1 (by rw [hlen]; omega), this⟩
  ·obtain ⟨r, hr2, rfl⟩ := List.mem_map.1 hp
   have hrl : r < len := by simpa using hr2
   obtain ⟨_, _, _, _, hwf, _⟩ := hr r Xt0
   intro y hy
   have := hwf y (List.mem_of_mem_take hy)
   simpa [Lit.wf, IntKind.min, IntKind.max, IntKind.signed, IntKind.bits] using this
end
theorem j4_ {α : Type} {p : Nat -> α -> Prop} : ∀ m, (∀ i, i < m -> ∃ x, p i x) -> ∃ L : List α, L.length = m /\ ∀ i x, L[i]? = some x -> p i x
 | 0, _ => ⟨[], rfl, fun i x h => by simp at h⟩
 | m + 1, h => by
  obtain ⟨L, hl, hp⟩ := j4_ m fun i hi => h i Xt0
  obtain ⟨x, hx⟩ := h m Xt0
  refine ⟨L ++ [x], by simp [hl], fun i y hy => ?_⟩
  by_cases e : i < L.length
  ·rw [List.getElem?_append_left e] at hy
   exact hp i y hy
  ·have hi := (List.getElem?_eq_some_iff.1 hy).1
   simp at hi
   obtain rfl : i = m := by omega
   rw [List.getElem?_append_right Xt0] at hy
   simp [hl] at hy
   rw [← hy]; exact hx
section
variable {H : Type} {enc : TypeId × Value -> H} {w : World} {base : Nat} {held : Bool}
theorem qO_ {P : Program} {e : TypeId} {d : DataW H} {n : Nat} (hn : n ∈ d.weights P e) : ∀ {l : List (DataW H)}, d ∈ l -> n ∈ DataW.weightsAll P e l
 | [], h => by simp at h
 | x :: r, h => by
  simp only [DataW.weightsAll, List.mem_append]
  rcases List.mem_cons.1 h with rfl | h
  ·exact .inl hn
  ·exact .inr (qO_ hn h)
theorem qC_ {t e : TypeId} (ht : prog.underlying t = some (.slice e)) (hb : 1 <= prog.bytesOf e) {len k : Nat} {D : Nat -> DataW H} (hsz : ∀ n ∈ (DataW.slice ((List.range len).map D) ((List.range k).map fun j => D (len + j))).weights prog t, n <= reachBytes) :
  len <= 140737488355328 /\ ∀ i, i < len -> ∀ n ∈ (D i).weights prog e, n <= reachBytes := by
 constructor
 ·have h1 := hsz ((((List.range len).map D).length + ((List.range k).map fun j => D (len + j)).length) * prog.bytesOf e) (by simp only [DataW.weights, ht]; exact List.mem_cons_self ..)
  simp only [List.length_map, List.length_range, reachBytes] at h1
  have : (len + k) * 1 <= (len + k) * prog.bytesOf e := Nat.mul_le_mul_left _ hb
  omega
 ·intro i hi n hn
  refine hsz n ?_
  simp only [DataW.weights, ht, List.mem_cons, List.mem_append]
  exact .inr (.inl (qO_ hn (List.mem_map.2 ⟨i, List.mem_range.2 hi, rfl⟩)))
theorem qF_ {m : Nat} {u : Value} {x : DataW H × List MemPlace} (h : DataW.trod enc prog w base (fun _ => true) held m 42 [u] = some x) :
  ∃ (a : Option Addr) (L : List Int) (n c : Nat), u = .slice a n c /\ L.length = n /\ Byt L /\ Ls .u8 w a c L := by
 rcases open_ints underlying42 underlying5 Xt3 h with ⟨hcs, _⟩ | ⟨y, l, c, zs, hcs, _, hl, hm, hz, hx, hcell, hwz⟩
 ·simp only [List.cons.injEq, and_true] at hcs
  exact ⟨none, [], 0, 0, hcs, rfl, fun x hx => by simp at hx, Ls.nul _ _⟩
 ·simp only [List.cons.injEq, and_true] at hcs
  have hr : IsRow .u8 w (some y) l c zs := .inr ⟨_, rfl, hl, hm, by simpa using hz, hcell, hwz⟩
  exact ⟨some y, zs.take l, l, c, hcs, hr.ls.2, hr.byt, hr.ls.1⟩
theorem op_row {m : Nat} {u : Value} {x : DataW H × List MemPlace} (h : DataW.trod enc prog w base (fun _ => true) held m 50 [u] = some x) (hsz : ∀ n ∈ x.1.weights prog 50, n <= reachBytes) :
  ∃ (a : Option Addr) (R : List P1) (n c : Nat), u = .slice a n c /\ R.length = n /\ RdR w a R /\ (∀ p ∈ R, Byt p.bs) /\ n <= 140737488355328 := by
 rcases open_slice underlying50 h with ⟨hcs, _⟩ | ⟨y, l, c, k, _, D, Pl, hcs, _, hl, hm, _, rfl, _⟩
 ·simp only [List.cons.injEq, and_true] at hcs
  subst hcs
  obtain ⟨R, h1, h2, h3⟩ := open_row (d := x.1) (ps := x.2) ⟨m, by simpa [Value.cells] using h⟩
  exact ⟨none, R, 0, 0, rfl, h1, h2, h3, Nat.zero_le _⟩
 ·simp only [List.cons.injEq, and_true] at hcs
  subst hcs
  obtain ⟨R, h1, h2, h3⟩ := open_row ⟨m, by simpa [Value.cells] using h⟩
  exact ⟨some y, R, l, c, rfl, h1, h2, h3, (qC_ underlying50 (of_decide_eq_true Xt3) hsz).1⟩
theorem c1_74 : prog.cellsOf 74 = 7 := by kernel_rfl
theorem c1_38 : prog.cellsOf 38 = 3 := by kernel_rfl
theorem c1_36 : prog.cellsOf 36 = 1 := by kernel_rfl
theorem c1_72 : prog.cellsOf 72 = 1 := by kernel_rfl
theorem c1_42 : prog.cellsOf 42 = 1 := by kernel_rfl
theorem c1_50 : prog.cellsOf 50 = 1 := by kernel_rfl
theorem c1_3 : prog.cellsOf 3 = 1 := by kernel_rfl
theorem c1_4 : prog.cellsOf 4 = 1 := by kernel_rfl
theorem one_op {m : Nat} {cs : List Value} {x : DataW H × List MemPlace} (h : DataW.trod enc prog w base (fun _ => true) held m 74 cs = some x) (hlen : cs.length = 7) (hsz : ∀ n ∈ x.1.weights prog 74, n <= reachBytes) :
  ∃ o : zj_, cs = [.int .i64 o.k, .int .i64 o.t, .int .i64 o.i, .slice o.ka o.kn o.kc, .slice o.ta o.tn o.tc, .int .i64 o.m, .slice o.ra o.rn o.rc] /\ zz_ w o /\ o.rn <= 140737488355328 := by
 match cs, hlen with
 | [u0, u1, u2, u3, u4, u5, u6], _ =>
  obtain ⟨xs, m2, _, hx, _, hl2, hel⟩ := DataW.trod_struct underlying74 h
  have g0 : DataW.trod enc prog w base (fun _ => true) held m2 72 (List.take (prog.cellsOf 72) (List.drop 0 [u0, u1, u2, u3, u4, u5, u6])) = xs[0]? := hel 0 _ rfl
  have g1 : DataW.trod enc prog w base (fun _ => true) held m2 3 (List.take (prog.cellsOf 3) (List.drop 1 [u0, u1, u2, u3, u4, u5, u6])) = xs[1]? := hel 1 _ rfl
  have g2 : DataW.trod enc prog w base (fun _ => true) held m2 3 (List.take (prog.cellsOf 3) (List.drop 2 [u0, u1, u2, u3, u4, u5, u6])) = xs[2]? := hel 2 _ rfl
  have g3 : DataW.trod enc prog w base (fun _ => true) held m2 42 (List.take (prog.cellsOf 42) (List.drop 3 [u0, u1, u2, u3, u4, u5, u6])) = xs[3]? := hel 3 _ rfl
  have g4 : DataW.trod enc prog w base (fun _ => true) held m2 42 (List.take (prog.cellsOf 42) (List.drop 4 [u0, u1, u2, u3, u4, u5, u6])) = xs[4]? := hel 4 _ rfl
  have g5 : DataW.trod enc prog w base (fun _ => true) held m2 3 (List.take (prog.cellsOf 3) (List.drop 5 [u0, u1, u2, u3, u4, u5, u6])) = xs[5]? := hel 5 _ rfl
  have g6 : DataW.trod enc prog w base (fun _ => true) held m2 50 (List.take (prog.cellsOf 50) (List.drop 6 [u0, u1, u2, u3, u4, u5, u6])) = xs[6]? := hel 6 _ rfl
  rw [c1_72] at g0
  rw [c1_3] at g1 g2 g5
  rw [c1_42] at g3 g4
  rw [c1_50] at g6
  simp only [List.drop, List.take] at g0 g1 g2 g3 g4 g5 g6
  match xs, hl2 with
  | [y0, y1, y2, y3, y4, y5, y6], _ =>
   have hx1 : x.1 = .agg [y0.1, y1.1, y2.1, y3.1, y4.1, y5.1, y6.1] := by rw [hx]; rfl
   rw [hx1] at hsz
   obtain ⟨z0, e0, _⟩ := DataW.trod_int underlying72 g0
   obtain ⟨z1, e1, _⟩ := DataW.trod_int underlying3 g1
   obtain ⟨z2, e2, _⟩ := DataW.trod_int underlying3 g2
   obtain ⟨z5, e5, _⟩ := DataW.trod_int underlying3 g5
   obtain ⟨a3, L3, n3, c3, e3, l3, b3, s3⟩ := qF_ g3
   obtain ⟨a4, L4, n4, c4, e4, l4, b4, s4⟩ := qF_ g4
   obtain ⟨a6, R6, n6, c6, e6, l6, r6, b6, k6⟩ := op_row g6 (fun n hn => hsz n (by
    have := DataW.weights_mem_each (P := prog) (ts := [72, 3, 3, 42, 42, 3, 50]) (ds := [y0.1, y1.1, y2.1, y3.1, y4.1, y5.1, y6.1]) (j := 6) (t := 50) rfl rfl n hn
    simpa [DataW.weights, underlying74] using this))
   simp only [List.cons.injEq, and_true] at e0 e1 e2 e5
   exact ⟨⟨z0, z1, z2, a3, n3, c3, L3, a4, n4, c4, L4, z5, a6, n6, c6, R6⟩, by rw [e0, e1, e2, e3, e4, e5, e6], ⟨s3, l3, b3, s4, l4, b4, r6, l6, b6⟩, k6⟩
theorem open_ops {m : Nat} {u : Value} {x : DataW H × List MemPlace} (h : DataW.trod enc prog w base (fun _ => true) held m 36 [u] = some x) (hsz : ∀ n ∈ x.1.weights prog 36, n <= reachBytes) :
  ∃ (a : Option Addr) (L : List zj_) (n c : Nat), u = .slice a n c /\ L.length = n /\ OpsR w a L /\ n <= 140737488355328 /\ ∀ o ∈ L, o.rn <= 140737488355328 := by
 rcases open_slice underlying36 h with ⟨hcs, _⟩ | ⟨y, l, c, k, m2, D, Pl, hcs, _, hl, hm, hk, rfl, hi⟩
 ·exact Xb76
 ·simp only [List.cons.injEq, and_true] at hcs
  subst hcs
  have hkl : l <= k := by rw [hk]; split <;> omega
  obtain ⟨sl, sd⟩ := qC_ underlying36 (of_decide_eq_true Xt3) hsz
  obtain ⟨L, hL, hp⟩ := j4_ (p := fun i (o : zj_) => (∀ j v, [Value.int .i64 o.k, .int .i64 o.t, .int .i64 o.i, .slice o.ka o.kn o.kc, .slice o.ta o.tn o.tc, .int .i64 o.m, .slice o.ra o.rn o.rc][j]? = some v -> w.cell? ((y.add (i * 7)).add j) = some v) /\ zz_ w o /\ o.rn <= 140737488355328) l (fun i him => by
   obtain ⟨cs', hc, ht⟩ := hi i Xt0
   rw [c1_74] at hc
   obtain ⟨_, hcl, hat⟩ := World.cells?_some hc
   obtain ⟨o, ho, hca, hrn⟩ := one_op ht hcl (sd i him)
   refine ⟨o, fun j v hj => ?_, hca, hrn⟩
   have hj7 : j < 7 := by have := (List.getElem?_eq_some_iff.1 hj).1; simpa using this
   rw [hat j hj7, ho]; exact hj)
  refine ⟨some y, L, l, c, rfl, hL, fun i o ho => ?_, sl, fun o ho => ?_⟩
  ·obtain ⟨b, off, spot⟩ := y
   obtain ⟨h0, hca, _⟩ := hp i o ho
   have hil : i < L.length := (List.getElem?_eq_some_iff.1 ho).1
   obtain ⟨z0, _, _⟩ := hp 0 L[0] (List.getElem?_eq_getElem Xt0)
   have hspot : spot = none := by simpa [Addr.add] using World.cell?_spot (z0 0 _ rfl)
   subst hspot
   have q : ∀ j v, [Value.int .i64 o.k, .int .i64 o.t, .int .i64 o.i, .slice o.ka o.kn o.kc, .slice o.ta o.tn o.tc, .int .i64 o.m, .slice o.ra o.rn o.rc][j]? = some v -> w.cell? ⟨b, off + i * 7 + j, none⟩ = some v := fun j v hj => by
    have := h0 j v hj
    rwa [zE_, zE_] at this
   exact ⟨b, off, rfl, ⟨q 0 _ rfl, q 1 _ rfl, q 2 _ rfl, q 3 _ rfl, q 4 _ rfl, q 5 _ rfl, q 6 _ rfl⟩, hca⟩
  ·obtain ⟨i, hi'⟩ := List.mem_iff_getElem?.1 ho
   exact (hp i o hi').2.2
theorem one_tx {m : Nat} {cs : List Value} {x : DataW H × List MemPlace} (h : DataW.trod enc prog w base (fun _ => true) held m 38 cs = some x) (hlen : cs.length = 3) (hsz : ∀ n ∈ x.1.weights prog 38, n <= reachBytes) :
  ∃ t : z2_, cs = [.slice t.oa t.on t.oc, .bool t.sn, .bool t.ab] /\ zR_ w t /\ TxG t := by
 match cs, hlen with
 | [u0, u1, u2], _ =>
  obtain ⟨xs, m2, _, hx, _, hl2, hel⟩ := DataW.trod_struct underlying38 h
  have g0 : DataW.trod enc prog w base (fun _ => true) held m2 36 (List.take (prog.cellsOf 36) (List.drop 0 [u0, u1, u2])) = xs[0]? := hel 0 _ rfl
  have g1 : DataW.trod enc prog w base (fun _ => true) held m2 4 (List.take (prog.cellsOf 4) (List.drop 1 [u0, u1, u2])) = xs[1]? := hel 1 _ rfl
  have g2 : DataW.trod enc prog w base (fun _ => true) held m2 4 (List.take (prog.cellsOf 4) (List.drop 2 [u0, u1, u2])) = xs[2]? := hel 2 _ rfl
  rw [c1_36] at g0
  rw [c1_4] at g1 g2
  simp only [List.drop, List.take] at g0 g1 g2
  match xs, hl2 with
  | [y0, y1, y2], _ =>
   have hx1 : x.1 = .agg [y0.1, y1.1, y2.1] := by rw [hx]; rfl
   rw [hx1] at hsz
   obtain ⟨a, L, n, c, e0, l0, r0, k0, o0⟩ := open_ops g0 (fun n hn => hsz n (by
    have := DataW.weights_mem_each (P := prog) (ts := [36, 4, 4]) (ds := [y0.1, y1.1, y2.1]) (j := 0) (t := 36) rfl rfl n hn
    simpa [DataW.weights, underlying38] using this))
   obtain ⟨z1, e1, _⟩ := DataW.trod_bool underlying4 g1
   obtain ⟨z2, e2, _⟩ := DataW.trod_bool underlying4 g2
   simp only [List.cons.injEq, and_true] at e1 e2
   exact ⟨⟨a, n, c, L, z1, z2⟩, by rw [e0, e1, e2], ⟨r0, l0⟩, ⟨k0, o0⟩⟩
theorem open_txs {m : Nat} {u : Value} {x : DataW H × List MemPlace} (h : DataW.trod enc prog w base (fun _ => true) held m 25 [u] = some x) (hsz : ∀ n ∈ x.1.weights prog 25, n <= reachBytes) :
  ∃ (a : Option Addr) (L : List z2_) (n c : Nat), u = .slice a n c /\ L.length = n /\ TxsR w a L /\ n <= 140737488355328 /\ ∀ t ∈ L, TxG t := by
 rcases open_slice underlying25 h with ⟨hcs, _⟩ | ⟨y, l, c, k, m2, D, Pl, hcs, _, hl, hm, hk, rfl, hi⟩
 ·exact Xb76
 ·simp only [List.cons.injEq, and_true] at hcs
  subst hcs
  have hkl : l <= k := by rw [hk]; split <;> omega
  obtain ⟨sl, sd⟩ := qC_ underlying25 (of_decide_eq_true Xt3) hsz
  obtain ⟨L, hL, hp⟩ := j4_ (p := fun i (t : z2_) => (∀ j v, [Value.slice t.oa t.on t.oc, .bool t.sn, .bool t.ab][j]? = some v -> w.cell? ((y.add (i * 3)).add j) = some v) /\ zR_ w t /\ TxG t) l (fun i him => by
   obtain ⟨cs', hc, ht⟩ := hi i Xt0
   rw [c1_38] at hc
   obtain ⟨_, hcl, hat⟩ := World.cells?_some hc
   obtain ⟨t, ho, hca, hrn⟩ := one_tx ht hcl (sd i him)
   refine ⟨t, fun j v hj => ?_, hca, hrn⟩
   have hj7 : j < 3 := by have := (List.getElem?_eq_some_iff.1 hj).1; simpa using this
   rw [hat j hj7, ho]; exact hj)
  refine ⟨some y, L, l, c, rfl, hL, fun i t ho => ?_, sl, fun t ho => ?_⟩
  ·obtain ⟨b, off, spot⟩ := y
   obtain ⟨h0, hca, _⟩ := hp i t ho
   have hil : i < L.length := (List.getElem?_eq_some_iff.1 ho).1
   obtain ⟨z0, _, _⟩ := hp 0 L[0] (List.getElem?_eq_getElem Xt0)
   have hspot : spot = none := by simpa [Addr.add] using World.cell?_spot (z0 0 _ rfl)
   subst hspot
   have q : ∀ j v, [Value.slice t.oa t.on t.oc, .bool t.sn, .bool t.ab][j]? = some v -> w.cell? ⟨b, off + i * 3 + j, none⟩ = some v := fun j v hj => by
    have := h0 j v hj
    rwa [zE_, zE_] at this
   exact ⟨b, off, rfl, ⟨q 0 _ rfl, q 1 _ rfl, q 2 _ rfl⟩, hca⟩
  ·obtain ⟨i, hi'⟩ := List.mem_iff_getElem?.1 ho
   exact (hp i t hi').2.2
end
section
variable {H : Type} {enc : TypeId × Value -> H} {P : Program} {w : World} {base : Nat} {spare : Nat -> Bool} {held : Bool}
theorem open_agg7 {r : Reach} {b0 : Nat} {t : TypeId} {f0 f1 f2 f3 f4 f5 f6 : Field} {v : Value} {d : DataW H} {p : List MemPlace} (hs : P.underlying t = some (.struct #[f0, f1, f2, f3, f4, f5, f6])) (hone : oneCellFields P #[f0, f1, f2, f3, f4, f5, f6] = true) (hC : P.cellsOf t = 7)
  (hv : Value.okWide P w r b0 t v) (h : DataW.Trod enc P w base spare held t v d p) :
  ∃ (v0 v1 v2 v3 v4 v5 v6 : Value) (y0 y1 y2 y3 y4 y5 y6 : DataW H × List MemPlace) (n : Nat), v = .agg #[v0, v1, v2, v3, v4, v5, v6] /\ d = .agg [y0.1, y1.1, y2.1, y3.1, y4.1, y5.1, y6.1] /\ p = y0.2 ++ (y1.2 ++ (y2.2 ++ (y3.2 ++ (y4.2 ++ (y5.2 ++ (y6.2)))))) /\
   DataW.trod enc P w base spare held n f0.type [v0] = some y0 /\ DataW.trod enc P w base spare held n f1.type [v1] = some y1 /\ DataW.trod enc P w base spare held n f2.type [v2] = some y2 /\ DataW.trod enc P w base spare held n f3.type [v3] = some y3 /\ DataW.trod enc P w base spare held n f4.type [v4] = some y4 /\ DataW.trod enc P w base spare held n f5.type [v5] = some y5 /\ DataW.trod enc P w base spare held n f6.type [v6] = some y6 := by
 obtain ⟨cs, rfl, hsz⟩ := okWide_struct hs hv
 obtain ⟨l⟩ := cs
 match l, hsz.trans hC with
 | [c0, c1, c2, c3, c4, c5, c6], _ =>
  obtain ⟨fuel, hf⟩ := h
  obtain ⟨xs, n, _, hx, _, hlen, hg⟩ := DataW.trod_struct hs hf
  obtain ⟨o0, k0⟩ := hone_of hone 0 f0 rfl
  obtain ⟨o1, k1⟩ := hone_of hone 1 f1 rfl
  obtain ⟨o2, k2⟩ := hone_of hone 2 f2 rfl
  obtain ⟨o3, k3⟩ := hone_of hone 3 f3 rfl
  obtain ⟨o4, k4⟩ := hone_of hone 4 f4 rfl
  obtain ⟨o5, k5⟩ := hone_of hone 5 f5 rfl
  obtain ⟨o6, k6⟩ := hone_of hone 6 f6 rfl
  match xs, hlen with
  | [y0, y1, y2, y3, y4, y5, y6], _ =>
   simp only [Prod.mk.injEq] at hx
   exact ⟨c0, c1, c2, c3, c4, c5, c6, y0, y1, y2, y3, y4, y5, y6, n, rfl, by simpa using hx.1, by simpa using hx.2, by simpa [Value.cells, o0, k0] using hg 0 f0 rfl, by simpa [Value.cells, o1, k1] using hg 1 f1 rfl, by simpa [Value.cells, o2, k2] using hg 2 f2 rfl, by simpa [Value.cells, o3, k3] using hg 3 f3 rfl, by simpa [Value.cells, o4, k4] using hg 4 f4 rfl, by simpa [Value.cells, o5, k5] using hg 5 f5 rfl, by simpa [Value.cells, o6, k6] using hg 6 f6 rfl⟩
end
section
variable {H : Type} {enc : TypeId × Value -> H} {w : World} {base b0 : Nat} {held : Bool} {r : Reach} {v : Value} {d : DataW H} {ps : List MemPlace}
theorem open_job (hval : Value.okWide prog w r b0 24 v) (hd : DataW.Trod enc prog w base (fun _ => true) held 24 v d ps) :
  ∃ j : Job, v = .agg #[.int .i64 j.w, .int .i64 j.l, .int .i64 j.d, .int .i64 j.c, .int .i64 j.k, .int .i64 j.e, .slice j.a j.n j.cap] /\ Ls .i64 w j.a j.cap j.T /\ j.T.length = j.n := by
 obtain ⟨v0, v1, v2, v3, v4, v5, v6, y0, y1, y2, y3, y4, y5, y6, n, rfl, _, _, h0, h1, h2, h3, h4, h5, h6⟩ := open_agg7 underlying24 Xt3 Xt3 hval hd
 obtain ⟨x0, e0, _⟩ := DataW.trod_int underlying3 h0
 obtain ⟨x1, e1, _⟩ := DataW.trod_int underlying3 h1
 obtain ⟨x2, e2, _⟩ := DataW.trod_int underlying3 h2
 obtain ⟨x3, e3, _⟩ := DataW.trod_int underlying3 h3
 obtain ⟨x4, e4, _⟩ := DataW.trod_int underlying3 h4
 obtain ⟨x5, e5, _⟩ := DataW.trod_int underlying3 h5
 simp only [List.cons.injEq, and_true] at e0 e1 e2 e3 e4 e5
 subst e0 e1 e2 e3 e4 e5
 rcases open_ints underlying22 underlying3 Xt3 h6 with ⟨hcs, _⟩ | ⟨x, l, c, zs, hcs, _, hl, hm, hz, _, hcell, hwz⟩
 ·simp at hcs
  subst hcs
  exact ⟨⟨x0, x1, x2, x3, x4, x5, none, 0, 0, []⟩, rfl, Ls.nul _ _, rfl⟩
 ·simp at hcs
  subst hcs
  have hr : IsRow .i64 w (some x) l c zs := .inr ⟨_, rfl, hl, hm, by simpa using hz, hcell, hwz⟩
  exact ⟨⟨x0, x1, x2, x3, x4, x5, some x, l, c, zs.take l⟩, rfl, hr.ls.1, hr.ls.2⟩
end
section
variable {H : Type} {enc : TypeId × Value -> H} {w : World} {base : Nat} {held : Bool}
theorem c1_84 : prog.cellsOf 84 = 3 := by kernel_rfl
theorem one_wr {m : Nat} {cs : List Value} {x : DataW H × List MemPlace} (h : DataW.trod enc prog w base (fun _ => true) held m 84 cs = some x) (hlen : cs.length = 3) (hsz : ∀ n ∈ x.1.weights prog 84, n <= reachBytes) :
  ∃ t : WrV, cs = [.int .i64 t.t, .slice t.ka t.K.length t.kc, .slice t.r.ra t.r.R.length t.r.rc] /\ Ls .u8 w t.ka t.kc t.K /\ RdR w t.r.ra t.r.R /\ Byt t.K /\ (∀ p ∈ t.r.R, Byt p.bs) /\ t.r.R.length <= 140737488355328 := by
 match cs, hlen with
 | [u0, u1, u2], _ =>
  obtain ⟨xs, m2, _, hx, _, hl2, hel⟩ := DataW.trod_struct underlying84 h
  have g0 : DataW.trod enc prog w base (fun _ => true) held m2 3 (List.take (prog.cellsOf 3) (List.drop 0 [u0, u1, u2])) = xs[0]? := hel 0 _ rfl
  have g1 : DataW.trod enc prog w base (fun _ => true) held m2 42 (List.take (prog.cellsOf 42) (List.drop 1 [u0, u1, u2])) = xs[1]? := hel 1 _ rfl
  have g2 : DataW.trod enc prog w base (fun _ => true) held m2 50 (List.take (prog.cellsOf 50) (List.drop 2 [u0, u1, u2])) = xs[2]? := hel 2 _ rfl
  rw [c1_3] at g0
  rw [c1_42] at g1
  rw [c1_50] at g2
  simp only [List.drop, List.take] at g0 g1 g2
  match xs, hl2 with
  | [y0, y1, y2], _ =>
   have hx1 : x.1 = .agg [y0.1, y1.1, y2.1] := by rw [hx]; rfl
   rw [hx1] at hsz
   obtain ⟨z0, e0, _⟩ := DataW.trod_int underlying3 g0
   obtain ⟨a1, L1, n1, c1, e1, l1, b1, s1⟩ := qF_ g1
   obtain ⟨a2, R2, n2, c2, e2, l2, r2, b2, k2⟩ := op_row g2 (fun n hn => hsz n (by
    have := DataW.weights_mem_each (P := prog) (ts := [3, 42, 50]) (ds := [y0.1, y1.1, y2.1]) (j := 2) (t := 50) rfl rfl n hn
    simpa [DataW.weights, underlying84] using this))
   simp only [List.cons.injEq, and_true] at e0
   subst l1
   subst l2
   exact ⟨⟨z0, a1, c1, L1, ⟨a2, c2, R2⟩⟩, by rw [e0, e1, e2], s1, r2, b1, b2, k2⟩
theorem open_wrs {m : Nat} {u : Value} {x : DataW H × List MemPlace} (h : DataW.trod enc prog w base (fun _ => true) held m 41 [u] = some x) (hsz : ∀ n ∈ x.1.weights prog 41, n <= reachBytes) :
  ∃ (a : Option Addr) (L : List WrV) (n c : Nat), u = .slice a n c /\ L.length = n /\ WrR w a L /\ BgW L /\ ∀ t ∈ L, Byt t.K /\ ∀ p ∈ t.r.R, Byt p.bs := by
 rcases open_slice underlying41 h with ⟨hcs, _⟩ | ⟨y, l, c, k, m2, D, Pl, hcs, _, hl, hm, hk, rfl, hi⟩
 ·simp only [List.cons.injEq, and_true] at hcs
  subst hcs
  exact ⟨none, [], 0, 0, rfl, rfl, fun k o ho => by simp at ho, ⟨Nat.zero_le _, fun o ho => by simp at ho⟩, fun o ho => by simp at ho⟩
 ·simp only [List.cons.injEq, and_true] at hcs
  subst hcs
  have hkl : l <= k := by rw [hk]; split <;> omega
  obtain ⟨sl, sd⟩ := qC_ underlying41 (of_decide_eq_true Xt3) hsz
  obtain ⟨L, hL, hp⟩ := j4_ (p := fun i (t : WrV) => (∀ j v, [Value.int .i64 t.t, .slice t.ka t.K.length t.kc, .slice t.r.ra t.r.R.length t.r.rc][j]? = some v -> w.cell? ((y.add (i * 3)).add j) = some v) /\ Ls .u8 w t.ka t.kc t.K /\ RdR w t.r.ra t.r.R /\ Byt t.K /\ (∀ p ∈ t.r.R, Byt p.bs) /\ t.r.R.length <= 140737488355328) l (fun i him => by
   obtain ⟨cs', hc, ht⟩ := hi i Xt0
   rw [c1_84] at hc
   obtain ⟨_, hcl, hat⟩ := World.cells?_some hc
   obtain ⟨t, ho, hca⟩ := one_wr ht hcl (sd i him)
   refine ⟨t, fun j v hj => ?_, hca⟩
   have hj7 : j < 3 := by have := (List.getElem?_eq_some_iff.1 hj).1; simpa using this
   rw [hat j hj7, ho]; exact hj)
  refine ⟨some y, L, l, c, rfl, hL, fun i t ho => ?_, ⟨by rw [hL]; exact sl, fun t ho => ?_⟩, fun t ho => ?_⟩
  ·obtain ⟨b, off, spot⟩ := y
   obtain ⟨h0, hl1, hl2, _⟩ := hp i t ho
   have hil : i < L.length := (List.getElem?_eq_some_iff.1 ho).1
   obtain ⟨z0, _, _⟩ := hp 0 L[0] (List.getElem?_eq_getElem Xt0)
   have hspot : spot = none := by simpa [Addr.add] using World.cell?_spot (z0 0 _ rfl)
   subst hspot
   have q : ∀ j v, [Value.int .i64 t.t, .slice t.ka t.K.length t.kc, .slice t.r.ra t.r.R.length t.r.rc][j]? = some v -> w.cell? ⟨b, off + i * 3 + j, none⟩ = some v := fun j v hj => by
    have := h0 j v hj
    rwa [zE_, zE_] at this
   exact ⟨b, off, rfl, q 0 _ rfl, q 1 _ rfl, q 2 _ rfl, hl1, hl2⟩
  ·obtain ⟨i, hi'⟩ := List.mem_iff_getElem?.1 ho
   exact (hp i t hi').2.2.2.2.2
  ·obtain ⟨i, hi'⟩ := List.mem_iff_getElem?.1 ho
   exact ⟨(hp i t hi').2.2.2.1, (hp i t hi').2.2.2.2.1⟩
end
end
end Go.Proofs.YthmofoldmdafoaaGreat
