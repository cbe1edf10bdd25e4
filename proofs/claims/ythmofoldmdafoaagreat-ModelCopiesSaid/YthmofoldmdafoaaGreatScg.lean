/- Part of the proof that ModelCopies holds for every input: a copy goes on apart; two models are the same just if tables and rows are. Part 7. -/
import Derived.Test.YthmofoldmdafoaaGreatScf
set_option linter.unusedVariables false
set_option linter.unusedSimpArgs false
set_option maxRecDepth 100000
set_option maxHeartbeats 4000000
namespace Go.Proofs.YthmofoldmdafoaaGreat
open Go.ChangeShapes Go.WideShapes Go.ChangeAt Go.RowKit
open Go.Lib (hid)
open Go.Proofs.Tryz
section
open Go.Maps
theorem sub_ris {α : Type} {lt : α -> α -> Prop} (hi : ∀ x, ¬ lt x x) (ht : ∀ {x y z}, lt x y -> lt y z -> lt x z) : ∀ {a b : List α}, a.Pairwise lt -> b.Pairwise lt -> (∀ x ∈ a, x ∈ b) -> a.Sublist b
 | [], b, _, _, _ => List.nil_sublist b
 | x :: a, [], _, _, h => by have := h x (List.mem_cons_self ..); cases this
 | x :: a, y :: b, ha, hb, h => by
  obtain ⟨a1, a2⟩ := List.pairwise_cons.1 ha
  obtain ⟨b1, b2⟩ := List.pairwise_cons.1 hb
  rcases List.mem_cons.1 (h x (List.mem_cons_self ..)) with e | hx
  ·subst e
   refine List.Sublist.cons_cons x (sub_ris hi ht a2 b2 fun z hz => ?_)
   rcases List.mem_cons.1 (h z (List.mem_cons_of_mem _ hz)) with e | hz'
   ·subst e; exact absurd (a1 z hz) (hi z)
   ·exact hz'
  ·refine List.Sublist.cons y (sub_ris hi ht ha b2 fun z hz => ?_)
   rcases List.mem_cons.1 hz with e | hz
   ·rw [e]; exact hx
   ·rcases List.mem_cons.1 (h z (List.mem_cons_of_mem _ hz)) with e | hz'
    ·subst e; exact absurd (ht (b1 x hx) (a1 z hz)) (hi z)
    ·exact hz'
structure TbW (W : World) (b : Nat) (L : List (List Int × RV)) : Prop where
 mp : Mp W b RV.v L
 rows : ∀ e ∈ L, RdR W e.2.ra e.2.R
 lim : tOk (yh_ L)
theorem TbW.below {W W' : World} {b : Nat} {L : List (List Int × RV)} (h : TbW W b L) (hb : Below W.heap.size W W') : TbW W' b L := ⟨h.mp.below hb, fun e he => (h.rows e he).below hb, h.lim⟩
theorem MdR.tb {S : Nat -> Prop} {W : World} {m : Md} (h : MdR S W m) {x : Nat × List (List Int × RV)} (hx : x ∈ m.tabs) : TbW W x.1 x.2 := ⟨h.maps x hx, fun e he => (h.rows x hx e he).now, h.lim x hx⟩
theorem TbW.row {W : World} {b : Nat} {L : List (List Int × RV)} (h : TbW W b L) {K : List Int} {r : RV} (hg : zU_ L K = some r) : RdR W r.ra r.R /\ zH_ K /\ rOk r.P := by
 have hm := (yd_ h.mp.ris).1 hg
 have := h.lim.2 _ (List.mem_map.2 ⟨_, hm, rfl⟩)
 exact ⟨h.rows _ hm, this.1, this.2⟩
theorem tab_eq {L1 L2 : List (List Int × RV)} (h1 : z1_ (yh_ L1)) (h2 : z1_ (yh_ L2)) (r1 : Ris Prod.fst L1) (hl : L1.length = L2.length) (h : ∀ K, K ∈ L1.map Prod.fst -> (zU_ L1 K).map RV.P = (zU_ L2 K).map RV.P) : yh_ L1 = yh_ L2 := by
 have hs : (yh_ L1).Sublist (yh_ L2) := sub_ris (lt := fun a b : Pr => ltL a.1 b.1 = true) (fun x e => by rw [zR_] at e; cases e) (fun a b => zF_ a b) h1 h2 fun p hp => by
  obtain ⟨x, hx, rfl⟩ := List.mem_map.1 hp
  have hg := (yd_ r1).2 (show (x.1, x.2) ∈ L1 from hx)
  have := h x.1 (List.mem_map.2 ⟨x, hx, rfl⟩)
  rw [hg] at this
  have h3 : y9_ (yh_ L2) x.1 = some x.2.P := by rw [yR_, ← this]; rfl
  exact (yq_ h2).1 h3
 refine hs.eq_of_length ?_
 unfold yh_
 rw [List.length_map, List.length_map, hl]
theorem tab_ne {L1 L2 : List (List Int × RV)} {K : List Int} (h : (zU_ L1 K).map RV.P ≠ (zU_ L2 K).map RV.P) : decide (yh_ L1 = yh_ L2) = false := decide_eq_false fun e => h (by rw [← yR_, ← yR_, e])
theorem meq_law (w : World) (b1 b2 : Nat) (L1 L2 : List (List Int × RV)) (h1 : TbW w b1 L1) (h2 : TbW w b2 L2) (hf : L1.length <= 900000 /\ L2.length <= 900000) :
  Calls prog 64 #[.map (some b1), .map (some b2), .func (.func 65) #[] #[]] w fun r w' => r = .returned (.bool (decide (yh_ L1 = yh_ L2))) /\ Below w.heap.size w w' := by
 have HT := hid (And.intro h1 h2)
 have HF := hid hf
 have hln1 : ∀ ty, (Builtin.len_ #[90] ty #[.map (some b1)]).run prog w = .ok (.int .i64 (L1.length : Int)) w := fun ty => by
  have := h1.mp.own.len underlying90 ty
  rw [yB_] at this; exact this
 have hln2 : ∀ ty, (Builtin.len_ #[90] ty #[.map (some b2)]).run prog w = .ok (.int .i64 (L2.length : Int)) w := fun ty => by
  have := h2.mp.own.len underlying90 ty
  rw [yB_] at this; exact this
 have hown := h1.mp.own
 by_cases hl : L1.length = L2.length
 ·have d1 : ((L1.length : Int) == (L2.length : Int)) = true := by simp [hl]
  have d2 : ((L1.length : Int) != (L2.length : Int)) = false := by simp [hl]
  have HL := hid hl
  clear h1 h2 hf hl
  go_enter func64, ntmps64
  go_wp2_with (at_range; refine wpList_range_own _ rfl _ 90 rfl 9 50 law9 underlying90 RF b1 _ _ rfl hown ?_; intro w5 hrg5 hg5 hs5)
  have HB5 := hid (show Below w.heap.size w w5 from Off.below (Below.refl _ _) ((Off.of_row hg5).mono (T := fun _ => False) (fun k hk => by cases hk)) (Nat.le_refl _) (fun _ h => h.elim))
  have HS5 := hid hs5
  obtain ⟨rr, hrr⟩ := gtx (w.heap.size)
  rw [hrr] at hrg5 HS5 ⊢
  have HRR := hid hrr
  clear hrr hg5 hs5 hown hln1 hln2 d1 d2
  go_frame
  go_loopw [18] (fun _ wr => ∃ (left : Lit -> Bool) (cnt : Nat), wr.ranges prog 9 RF b1 rr L1.length (mOf RV.v L1) left cnt /\ Hid (∀ K, K ∈ L1.map Prod.fst -> left (kL K) = false -> (zU_ L1 K).map RV.P = (zU_ L2 K).map RV.P) /\ Hid (Below w.heap.size w wr) /\ Hid (rr + 1 <= wr.heap.size)) (fun _ wr => wr.rangeLeft b1 rr)
  case atStart =>
   refine ⟨_, _, hrg5, hid (fun K hK hl => ?_), HB5, hid (by rw [HS5.out]; exact Nat.le_refl _)⟩
   obtain ⟨p, hp, rfl⟩ := List.mem_map.1 hK
   rw [Qb_ HT.out.1.mp.byt (HT.out.1.mp.byt p hp), yX_.1 hK] at hl
   cases hl
  case round =>
   obtain ⟨left, cnt, hrg, HIN, HB, HW⟩ := hrel
   go_wp2_with (at_next; go_loud (refine wpList_next_ranges _ rfl _ rfl 9 law9 RF Value.string (fun v : Value => v) Xt10 (fun v y _ => ⟨v, rfl⟩) b1 rr L1.length _ _ _ rfl hrg ?_ ?_))
   ·intro hc0 hl0
    have HEQ := hid (show decide (yh_ L1 = yh_ L2) = true from decide_eq_true (tab_eq HT.out.1.lim.1 HT.out.2.lim.1 HT.out.1.mp.ris HL.out fun K hK => HIN.out K hK (hl0 _)))
    clear hc0 hl0
    go_wp2_with fail
    go_ret
    exact ⟨by rw [HEQ.out]; rfl, HB.out⟩
   ·intro s c kl yd yp w6 cnt2 hkey hlk hv hat hrg6 hlt6 hg6 hs6 hen
    obtain ⟨K, hKm, es, ek⟩ := key_in hkey hat
    subst es
    subst ek
    obtain ⟨r0, hr0⟩ : ∃ r0, zU_ L1 K = some r0 := Option.isSome_iff_exists.1 (yX_.1 hKm)
    have hKB : Byt K := by obtain ⟨p, hp, rfl⟩ := List.mem_map.1 hKm; exact HT.out.1.mp.byt p hp
    have hcv : c = RV.v r0 := by
     have h1 := hat .nil
     rw [at_mOf HT.out.1.mp.byt hKB, hr0] at h1
     exact Xb86
    subst hcv
    unfold RV.v at hen hv
    have o6 : Off (fun q => q = rr) _ w6 := (Off.of_row hg6).mono (fun q hq => by cases hq; rfl)
    have hB6 := Off.below HB.out o6 HB.out.size (fun q hq => by cases hq; rw [HRR.out]; exact Nat.le_refl _)
    have hT1 := HT.out.1.below hB6
    have hT2 := HT.out.2.below hB6
    obtain ⟨hrow0, hk0, hrk0⟩ := hT1.row hr0
    have hlo := hT2.mp.look (t := 90) (e := 50) underlying90 (zero50 w6) hKB (by have := hk0.2.2; unfold maxLen; omega)
    have HB6 := hid hB6
    have HRG6 := hid hrg6
    have HR0 := hid hr0
    have HKB := hid hKB
    have HLT := hid hlt6
    have HLQ := hid hrg.left_eq
    have HS6 := hid (show rr + 1 <= w6.heap.size by have := HW.out; omega)
    have HBD := hid (RV.bound hrk0)
    have HBY := hid (yF_ (R := r0.R) hrk0)
    have HRW0 := hid hrow0
    obtain ⟨o, ho⟩ := gtx (zU_ L2 K)
    rw [ho] at hlo
    cases o with
    | none =>
     have HNE := hid (tab_ne (L1 := L1) (L2 := L2) (K := K) (by rw [hr0, ho]; simp))
     simp only [Option.map_none, Option.getD_none, Option.isSome_none] at hlo
     clear hkey hlk hv hat hlt6 hg6 hs6 hKm hr0 hKB o6 hB6 hT1 hT2 hrow0 hk0 hrk0 hrg hrg6 ho
     go_wp2_with fail
     go_ret
     exact ⟨by rw [HNE.out]; rfl, HB6.out⟩
    | some r1 =>
     obtain ⟨hrow1, _, hrk1⟩ := hT2.row ho
     have HSA := hid (same_law r0.ra r1.ra r0.R r1.R _ _ r0.rc r1.rc rfl rfl (by have := (RV.bound hrk0).1; omega) (yF_ hrk0) (yF_ hrk1) w6 hrow0 hrow1)
     simp only [Option.map_some, Option.getD_some, Option.isSome_some, RV.v] at hlo
     have HO := hid ho
     have HLK := hid hlk
     clear hkey hlk hv hat hlt6 hg6 hs6 hKm hr0 hKB o6 hB6 hT1 hT2 hrow0 hk0 hrk0 hrg hrg6 ho hrow1 hrk1
     go_wp2_with fail
     refine HSA.out.mono ?_; rintro e w7 ⟨rfl, hb7⟩
     have HB7 := hid (za_ HB6.out hb7)
     have HRG7 := hid (HRG6.out.kept (row := none) ⟨hb7.os, hb7.tape, hb7.output, hb7.size, fun k hk _ => hb7.block k hk⟩ Xt5 Xt5)
     have HS7 := hid (Nat.le_trans HS6.out hb7.size)
     clear hb7 hlo hen
     cases hq : eqB r0.R r1.R with
     | false =>
      have HNE := hid (tab_ne (L1 := L1) (L2 := L2) (K := K) (by
       rw [HR0.out, HO.out]
       intro e
       injection e with e
       exact (of_decide_eq_false hq) e))
      clear hq
      go_wp2_with fail
      go_ret
      exact ⟨by rw [HNE.out]; rfl, HB7.out⟩
     | true =>
      have HEQ := hid (show r0.P = r1.P from of_decide_eq_true hq)
      clear hq
      go_wp2_with fail
      go_roundw
      case rel =>
       refine ⟨_, cnt2, HRG7.out, hid (fun J hJ hl => ?_), HB7, HS7⟩
       by_cases e : J = K
       ·subst e
        rw [HR0.out, HO.out]
        show some r0.P = some r1.P
        rw [HEQ.out]
       ·refine HIN.out J hJ ?_
        have hJB : Byt J := by obtain ⟨p, hp, rfl⟩ := List.mem_map.1 hJ; exact HT.out.1.mp.byt p hp
        rw [xj_ hJB HKB.out] at hl
        simp [e] at hl
        exact hl
      case measure => rw [HRG7.out.left_eq, HLQ.out]; exact HLT.out
 ·have d1 : ((L1.length : Int) == (L2.length : Int)) = false := by simp; omega
  have d2 : ((L1.length : Int) != (L2.length : Int)) = true := by simp; omega
  have HNE := hid (show decide (yh_ L1 = yh_ L2) = false from decide_eq_false fun e => hl (by have := congrArg List.length e; unfold yh_ at this; simpa using this))
  clear h1 h2 hf hl hown
  go_enter func64, ntmps64
  exact Xb75
theorem iequal_law (a b : Option Addr) (A B : List Int) (n m ca cb : Nat) (hn : A.length = n) (hm : B.length = m) (hn3 : n <= 1000000) (w : World) (hA : Ls .i64 w a ca A) (hB : Ls .i64 w b cb B) :
  Calls prog 61 #[.slice a n ca, .slice b m cb] w fun r w' => r = .returned (.bool (decide (A = B))) /\ Below w.heap.size w w' := by
 by_cases h : n = m
 ·subst h
  have HA := hid hA
  have HB := hid hB
  have HN := hid hn
  have HM := hid hm
  clear hA hB hn hm
  go_enter func61, ntmps61
  go_wp2_with fail
  go_loopw [13] (fun i wr => ∃ k : Nat, k <= n /\ i = .int .i64 k /\ Hid (A.take k = B.take k) /\ Hid (Below w.heap.size w wr)) (fun i _ => n - (intOf i).toNat)
  case atStart => exact ⟨0, by omega, rfl, hid rfl, hid (Below.refl _ _)⟩
  case round =>
   obtain ⟨k, hk, rfl, HP, BB⟩ := hrel
   by_cases hlt : k < n
   ·have hkl : (k : Int) < (n : Int) := by omega
    have hk9 : (k : Int) <= 1000000 := by omega
    obtain ⟨b1, o1, e1, d1⟩ := (HA.out.below BB.out).get k Xt8
    obtain ⟨b2, o2, e2, d2⟩ := (HB.out.below BB.out).get k Xt65
    subst e1 e2
    obtain ⟨p, hp⟩ : ∃ p, A[k]? = some p := ⟨_, List.getElem?_eq_getElem Xt8⟩
    obtain ⟨q, hq⟩ : ∃ q, B[k]? = some q := ⟨_, List.getElem?_eq_getElem Xt65⟩
    have gp : A.getD k 0 = p := by rw [List.getD_eq_getElem?_getD, hp]; rfl
    have gq : B.getD k 0 = q := by rw [List.getD_eq_getElem?_getD, hq]; rfl
    rw [gp] at d1
    rw [gq] at d2
    have HPQ := hid (And.intro hp hq)
    clear hp hq gp gq
    by_cases hle : p = q
    ·have HTK := hid (show A.take (k + 1) = B.take (k + 1) by rw [List.take_add_one, List.take_add_one, HP.out, HPQ.out.1, HPQ.out.2, hle])
     have c1 : (p == q) = true := by simp [hle]
     have c2 : (p != q) = false := by simp [hle]
     clear hle
     go_wp2_with fail
     go_quiet (fail)
     go_wp2_with fail
     go_roundw
     case rel => exact ⟨k + 1, by omega, by go_num, HTK, hid (zl_ BB.out _)⟩
     case measure => simp [intOf]; omega
    ·have HNE := hid (show decide (A = B) = false from decide_eq_false fun e => by
      have h1 := HPQ.out.1
      rw [e, HPQ.out.2] at h1
      injection h1 with h1
      exact hle h1.symm)
     have c1 : (p == q) = false := by simpa using hle
     have c2 : (p != q) = true := by simpa using hle
     clear hle
     go_wp2_with fail
     go_quiet (fail)
     go_wp2_with fail
     go_ret
     exact ⟨by rw [HNE.out]; rfl, zl_ BB.out _⟩
   ·have hkl : ¬ (k : Int) < (n : Int) := by omega
    have HEQ := hid (show decide (A = B) = true from decide_eq_true (by
     have := HP.out
     rw [List.take_of_length_le Xt18, List.take_of_length_le (by rw [HM.out]; omega)] at this
     exact this))
    go_wp2_with fail
    go_ret
    exact ⟨by rw [HEQ.out]; rfl, BB.out⟩
 ·have HNE := hid (show decide (A = B) = false from decide_eq_false fun e => h (by rw [← hn, ← hm, e]))
  have d1 : ((n : Int) == (m : Int)) = false := by simp; omega
  have d2 : ((n : Int) != (m : Int)) = true := by simp; omega
  clear hA hB hn hm h
  go_enter func61, ntmps61
  exact Xb75
theorem meq1_law (w : World) (b1 b2 : Nat) (L1 L2 : List (List Int × RV)) (h1 : TbW w b1 L1) (h2 : TbW w b2 L2) (hf : L1.length <= 900000 /\ L2.length <= 900000) :
  Calls prog 63 #[.map (some b1), .map (some b2)] w fun r w' => r = .returned (.bool (decide (yh_ L1 = yh_ L2))) /\ Below w.heap.size w w' := by
 have HA := hid (meq_law w b1 b2 L1 L2 h1 h2 hf)
 clear h1 h2 hf
 go_enter func63, ntmps63
 go_wp2_with fail
 refine HA.out.mono ?_; rintro e w' ⟨rfl, hb⟩
 go_wp2_with fail
 go_ret
 exact ⟨rfl, hb⟩
def TbsW (W : World) (a : Option Addr) (T : List (Nat × List (List Int × RV))) : Prop := ∀ (k : Nat) (x : Nat × List (List Int × RV)), T[k]? = some x -> ∃ b off, a = some ⟨b, off, none⟩ /\ W.cell? ⟨b, off + k, none⟩ = some (.map (some x.1)) /\ TbW W x.1 x.2
theorem TbsW.below {W W' : World} {a : Option Addr} {T : List (Nat × List (List Int × RV))} (h : TbsW W a T) (hb : Below W.heap.size W W') : TbsW W' a T := fun k x hx => by
 obtain ⟨b, off, e, c, t⟩ := h k x hx
 exact ⟨b, off, e, tcb hb c, t.below hb⟩
def tbsP (T : List (Nat × List (List Int × RV))) : List (List Pr) := T.map fun x => yh_ x.2
theorem meqs_law (a b : Option Addr) (A B : List (Nat × List (List Int × RV))) (n m ca cb : Nat) (hn : A.length = n) (hm : B.length = m) (hn3 : n <= 1000000) (hfA : ∀ x ∈ A, x.2.length <= 900000) (hfB : ∀ x ∈ B, x.2.length <= 900000) (w : World) (hA : TbsW w a A) (hB : TbsW w b B) :
  Calls prog 62 #[.slice a n ca, .slice b m cb, .func (.func 63) #[] #[]] w fun r w' => r = .returned (.bool (decide (tbsP A = tbsP B))) /\ Below w.heap.size w w' := by
 by_cases h : n = m
 ·subst h
  have HA := hid hA
  have HB := hid hB
  have HN := hid hn
  have HM := hid hm
  have HF := hid (And.intro hfA hfB)
  clear hA hB hn hm hfA hfB
  go_enter func62, ntmps62
  go_wp2_with fail
  go_loopw [17] (fun i wr => ∃ k : Nat, k <= n /\ i = .int .i64 k /\ Hid (tbsP (A.take k) = tbsP (B.take k)) /\ Hid (Below w.heap.size w wr)) (fun i _ => n - (intOf i).toNat)
  case atStart => exact ⟨0, by omega, rfl, hid rfl, hid (Below.refl _ _)⟩
  case round =>
   obtain ⟨k, hk, rfl, HP, BB⟩ := hrel
   by_cases hlt : k < n
   ·have hkl : (k : Int) < (n : Int) := by omega
    have hk9 : (k : Int) <= 1000000 := by omega
    obtain ⟨p, hp⟩ : ∃ p, A[k]? = some p := ⟨_, List.getElem?_eq_getElem Xt8⟩
    obtain ⟨q, hq⟩ : ∃ q, B[k]? = some q := ⟨_, List.getElem?_eq_getElem Xt65⟩
    obtain ⟨b1, o1, e1, d1, t1⟩ := (HA.out.below BB.out) k p hp
    obtain ⟨b2, o2, e2, d2, t2⟩ := (HB.out.below BB.out) k q hq
    subst e1 e2
    have HMQ := hid (meq1_law wr p.1 q.1 p.2 q.2 t1 t2 ⟨HF.out.1 p (List.mem_of_getElem? hp), HF.out.2 q (List.mem_of_getElem? hq)⟩)
    have HPQ := hid (And.intro hp hq)
    clear hp hq t1 t2
    go_wp2_with fail
    refine HMQ.out.mono ?_; rintro e w7 ⟨rfl, hb7⟩
    have HB7 := hid (za_ BB.out hb7)
    clear hb7 d1 d2
    cases hle : decide (yh_ p.2 = yh_ q.2) with
    | true =>
     have HTK := hid (show tbsP (A.take (k + 1)) = tbsP (B.take (k + 1)) by
      have h1 := HP.out
      unfold tbsP at h1 ⊢
      rw [List.take_add_one, List.take_add_one, List.map_append, List.map_append, h1, HPQ.out.1, HPQ.out.2]
      show _ ++ [yh_ p.2] = _ ++ [yh_ q.2]
      rw [of_decide_eq_true hle])
     clear hle
     go_wp2_with fail
     go_roundw
     case rel => exact ⟨k + 1, by omega, by go_num, HTK, HB7⟩
     case measure => simp [intOf]; omega
    | false =>
     have HNE := hid (show decide (tbsP A = tbsP B) = false from decide_eq_false fun e => by
      have h1 := congrArg (fun l : List (List Pr) => l[k]?) e
      unfold tbsP at h1
      simp only [List.getElem?_map, HPQ.out.1, HPQ.out.2, Option.map_some] at h1
      injection h1 with h1
      exact (of_decide_eq_false hle) h1)
     clear hle
     go_wp2_with fail
     go_ret
     exact ⟨by rw [HNE.out]; rfl, HB7.out⟩
   ·have hkl : ¬ (k : Int) < (n : Int) := by omega
    have HEQ := hid (show decide (tbsP A = tbsP B) = true from decide_eq_true (by
     have := HP.out
     rw [List.take_of_length_le Xt18, List.take_of_length_le (by rw [HM.out]; omega)] at this
     exact this))
    go_wp2_with fail
    go_ret
    exact ⟨by rw [HEQ.out]; rfl, BB.out⟩
 ·have HNE := hid (show decide (tbsP A = tbsP B) = false from decide_eq_false fun e => h (by have := congrArg List.length e; unfold tbsP at this; rw [List.length_map, List.length_map] at this; omega))
  have d1 : ((n : Int) == (m : Int)) = false := by simp; omega
  have d2 : ((n : Int) != (m : Int)) = true := by simp; omega
  clear hA hB hn hm h
  go_enter func62, ntmps62
  exact Xb75
theorem MdR.tbs {S : Nat -> Prop} {W : World} {m : Md} (h : MdR S W m) : TbsW W (some ⟨m.bt, 0, none⟩) m.tabs := fun k x hx => ⟨m.bt, 0, rfl, by rw [Nat.zero_add]; exact h.st.now.tab k x hx, h.tb (List.mem_of_getElem? hx)⟩
theorem qW_ {S1 S2 : Nat -> Prop} {m1 m2 : Md} {w : World} (h1 : MdR S1 w m1) (h2 : MdR S2 w m2) (hf1 : ∀ z ∈ m1.tabs, z.2.length <= 900000) (hf2 : ∀ z ∈ m2.tabs, z.2.length <= 900000) :
  Calls prog 21 #[.pointer (some ⟨m1.p, 0, none⟩), .pointer (some ⟨m2.p, 0, none⟩)] w fun r w' => r = .returned (.bool (decide (m1.j.T = m2.j.T) && decide (m1.P = m2.P))) /\ Below w.heap.size w w' := by
 have HN1 := hid (zX_ h1)
 have HN2 := hid (zX_ h2)
 have hx := fun X (b : Below w.heap.size w X) => (by
  have q1 := ((h1.below b).st.now.box).cell 6
  have q2 := ((h2.below b).st.now.box).cell 6
  exact ⟨q1, q2, (h1.below b).c, (h2.below b).c⟩ : X.cell? ⟨m1.p, 6, none⟩ = some (.slice m1.j.a m1.j.n m1.j.cap) /\ X.cell? ⟨m2.p, 6, none⟩ = some (.slice m2.j.a m2.j.n m2.j.cap) /\ X.cell? ⟨m1.p, 7, none⟩ = some (.slice (some ⟨m1.bt, 0, none⟩) m1.tabs.length m1.tc) /\ X.cell? ⟨m2.p, 7, none⟩ = some (.slice (some ⟨m2.bt, 0, none⟩) m2.tabs.length m2.tc))
 have HX := hid hx
 have HQI := hid (fun X (b : Below w.heap.size w X) => iequal_law m1.j.a m2.j.a m1.j.T m2.j.T m1.j.n m2.j.n m1.j.cap m2.j.cap (h1.st.now.job).len (h2.st.now.job).len (h1.st.now.job).le X ((h1.below b).st.now.job.ls) ((h2.below b).st.now.job.ls))
 have HQM := hid (fun X (b : Below w.heap.size w X) => meqs_law (some ⟨m1.bt, 0, none⟩) (some ⟨m2.bt, 0, none⟩) m1.tabs m2.tabs m1.tabs.length m2.tabs.length m1.tc m2.tc rfl rfl (by have := h1.few; omega) hf1 hf2 X (h1.below b).tbs (h2.below b).tbs)
 clear h1 h2 hf1 hf2 hx
 cases hd : decide (m1.j.T = m2.j.T) with
 | true =>
  have HD := hid hd
  clear hd
  go_enter func21, ntmps21
  go_wp2_with fail
  refine HN1.out.mono ?_; rintro r w' ⟨rfl, rfl⟩
  go_wp2_with fail
  refine HN2.out.mono ?_; rintro r w' ⟨rfl, rfl⟩
  go_upto_region 3 with (fail)
  refine rgw w (Below.refl _ _).drew fun hH => ?_
  refine tkq4 0 1 2 3 ?_
  refine tkr 4 rfl (fun W hSw => by have m0 := (HX.out W hSw).1; exact tks) ?_
  refine tkq4 5 6 7 8 ?_
  refine tkr 9 rfl (fun W hSw => by have m0 := (HX.out W hSw).2.1; exact tks) ?_
  refine tk1 10 rfl fun K hK => ?_
  go_simp
  refine (HQI.out _ hH).mono ?_; rintro r w4 ⟨rfl, hb4⟩
  have HB4 := hid (za_ hH hb4)
  clear hb4
  rw [HD.out]
  go_wp2_with fail
  refine hK.out _ _ HB4.out fun hH => ?_
  refine stP ?_
  refine tkq4 11 12 13 14 ?_
  refine tkr 15 rfl (fun W hSw => by have m0 := (HX.out W hSw).2.2.1; exact tks) ?_
  refine tkq3 16 17 18 ?_
  refine tkr 19 rfl (fun W hSw => by have m0 := (HX.out W hSw).2.2.2; exact tks) ?_
  refine tk1 20 rfl fun K hK => ?_
  go_simp
  refine (HQM.out _ hH).mono ?_; rintro r w5 ⟨rfl, hb5⟩
  have HB5 := hid (za_ hH hb5)
  clear hb5
  go_wp2_with fail
  refine hK.out _ _ HB5.out fun hH => ?_
  refine stP ?_
  refine tkq2 21 22 ?_
  refine adn ?_
  skip
  go_wp2_with fail
  go_ret
  exact ⟨rfl, HB5.out⟩
 | false =>
  have HD := hid hd
  clear hd
  go_enter func21, ntmps21
  go_wp2_with fail
  refine HN1.out.mono ?_; rintro r w' ⟨rfl, rfl⟩
  go_wp2_with fail
  refine HN2.out.mono ?_; rintro r w' ⟨rfl, rfl⟩
  go_upto_region 3 with (fail)
  refine rgw w (Below.refl _ _).drew fun hH => ?_
  refine tkq4 0 1 2 3 ?_
  refine tkr 4 rfl (fun W hSw => by have m0 := (HX.out W hSw).1; exact tks) ?_
  refine tkq4 5 6 7 8 ?_
  refine tkr 9 rfl (fun W hSw => by have m0 := (HX.out W hSw).2.1; exact tks) ?_
  refine tk1 10 rfl fun K hK => ?_
  go_simp
  refine (HQI.out _ hH).mono ?_; rintro r w4 ⟨rfl, hb4⟩
  have HB4 := hid (za_ hH hb4)
  clear hb4
  rw [HD.out]
  go_wp2_with fail
  refine hK.out _ _ HB4.out fun hH => ?_
  refine stP ?_
  refine tkq 11 ?_
  refine tkn 12 ?_
  refine tkn 13 ?_
  refine tkn 14 ?_
  refine tkn 15 ?_
  refine tkn 16 ?_
  refine tkn 17 ?_
  refine tkn 18 ?_
  refine tkn 19 ?_
  refine tkn 20 ?_
  refine tkq2 21 22 ?_
  refine adn ?_
  skip
  go_wp2_with fail
  go_ret
  exact ⟨rfl, HB4.out⟩
def jobV (a : Option Addr) (c : Nat) : Job := ⟨1, 1, 3, 1024, 1024, 1, a, 1, c, [1]⟩
theorem job_law (w : World) : Calls prog 31 #[] w fun r w' => ∃ a c, r = .returned (.agg #[.int .i64 1, .int .i64 1, .int .i64 3, .int .i64 1024, .int .i64 1024, .int .i64 1, .slice a 1 c]) /\ Below w.heap.size w w' /\ z2_ w' (jobV a c) := by
 go_enter func31, ntmps31
 go_wp2_with fail
 have hb1 : zg_ ((w.alloc (.cells #[.int .i64 1, .int .i64 1, .int .i64 3, .int .i64 1024, .int .i64 1024, .int .i64 1, .slice (some ⟨w.heap.size + 1, 0, none⟩) 1 1] 24)).alloc (.cells #[.int .i64 1] 3)) w.heap.size #[.int .i64 1, .int .i64 1, .int .i64 3, .int .i64 1024, .int .i64 1024, .int .i64 1, .slice (some ⟨w.heap.size + 1, 0, none⟩) 1 1] 24 := (zg_.new w #[.int .i64 1, .int .i64 1, .int .i64 3, .int .i64 1024, .int .i64 1024, .int .i64 1, .slice (some ⟨w.heap.size + 1, 0, none⟩) 1 1] 24).alloc _
 have hb2 : zg_ ((w.alloc (.cells #[.int .i64 1, .int .i64 1, .int .i64 3, .int .i64 1024, .int .i64 1024, .int .i64 1, .slice (some ⟨w.heap.size + 1, 0, none⟩) 1 1] 24)).alloc (.cells #[.int .i64 1] 3)) (w.heap.size + 1) #[.int .i64 1] 3 := by
  have := zg_.new (w.alloc (.cells #[.int .i64 1, .int .i64 1, .int .i64 3, .int .i64 1024, .int .i64 1024, .int .i64 1, .slice (some ⟨w.heap.size + 1, 0, none⟩) 1 1] 24)) #[.int .i64 1] 3
  rwa [World.size_alloc] at this
 have hbl : Below w.heap.size w ((w.alloc (.cells #[.int .i64 1, .int .i64 1, .int .i64 3, .int .i64 1024, .int .i64 1024, .int .i64 1, .slice (some ⟨w.heap.size + 1, 0, none⟩) 1 1] 24)).alloc (.cells #[.int .i64 1] 3)) := za_ (bl1 _ _) (bl1 _ _)
 generalize (w.alloc (.cells #[.int .i64 1, .int .i64 1, .int .i64 3, .int .i64 1024, .int .i64 1024, .int .i64 1, .slice (some ⟨w.heap.size + 1, 0, none⟩) 1 1] 24)).alloc (.cells #[.int .i64 1] 3) = w2 at hb1 hb2 hbl ⊢
 have q0 := hb1.cell 0
 have q1 := hb1.cell 1
 have q2 := hb1.cell 2
 have q3 := hb1.cell 3
 have q4 := hb1.cell 4
 have q5 := hb1.cell 5
 have q6 := hb1.cell 6
 simp only [gtA, gtB, gtC] at q0 q1 q2 q3 q4 q5 q6
 refine bodyPost_ret (v := .agg #[.int .i64 1, .int .i64 1, .int .i64 3, .int .i64 1024, .int .i64 1024, .int .i64 1, .slice (some ⟨w.heap.size + 1, 0, none⟩) 1 1]) (by simp [results, results31, go_sem, q0, q1, q2, q3, q4, q5, q6]) rfl ?_
 refine ⟨_, _, rfl, hbl, ⟨⟨fun k hk => ?_, (fun e => by cases e), by simp [jobV]⟩, rfl, by simp [jobV]⟩⟩
 have hk0 : k = 0 := by simp [jobV] at hk; exact hk
 subst hk0
 exact ⟨w.heap.size + 1, 0, rfl, by rw [hb2.cell]; rfl⟩
def xo_ (a b : Nat × List Int × List (List Int)) : Prop := ¬ (a.1 = b.1 /\ a.2.1 = b.2.1)
theorem yH_ {l : Ws} (h : l.Pairwise xo_) (t : Nat) (K : List Int) (R : List (List Int)) : (xX_ l t K R).Pairwise xo_ := by
 unfold xX_
 split
 ·rename_i ha
  rw [List.pairwise_map]
  refine h.imp fun {a b} hd => ?_
  have e : ∀ w : Nat × List Int × List (List Int), (if w.1 = t /\ w.2.1 = K then (t, K, R) else w).1 = w.1 /\ (if w.1 = t /\ w.2.1 = K then (t, K, R) else w).2.1 = w.2.1 := fun w => by
   by_cases hw : w.1 = t /\ w.2.1 = K
   ·rw [if_pos hw]; exact ⟨hw.1.symm, hw.2.symm⟩
   ·rw [if_neg hw]; exact ⟨rfl, rfl⟩
  intro hc
  rw [(e a).1, (e a).2, (e b).1, (e b).2] at hc
  exact hd hc
 ·rename_i ha
  rw [List.pairwise_append]
  refine ⟨h, List.pairwise_singleton _ _, fun a hm b hb hc => ha ?_⟩
  rw [List.mem_singleton] at hb
  subst hb
  rw [List.any_eq_true]
  exact ⟨a, hm, decide_eq_true hc⟩
theorem callP_apart (j : Job) (T : List (List Pr)) {ws : Ws} (h : ws.Pairwise xo_) (o : zj_) : (yf_ j T ws o).2.Pairwise xo_ := by
 unfold yf_
 split
 ·exact h
 ·split
  ·exact yH_ h _ _ _
  ·split
   ·split
    ·exact h
    ·exact yH_ h _ _ _
   ·split
    ·split
     ·exact yH_ h _ _ _
     ·exact h
    ·split
     ·exact h
     ·exact h
theorem jp_ (j : Job) (T : List (List Pr)) (ops : List zj_) : (z6_ j T ops).2.Pairwise xo_ := by
 induction ops using zV_ with
 | nil => exact List.Pairwise.nil
 | append_singleton l o ih =>
  have e : z6_ j T (l ++ [o]) = y7_ j T (z6_ j T l) o := by unfold z6_; rw [List.foldl_append]; rfl
  rw [e]
  exact callP_apart j T ih o
def StrR (W : World) (a : Option Addr) (F : List (List Int)) : Prop := ∀ (k : Nat) (s : List Int), F[k]? = some s -> ∃ b off, a = some ⟨b, off, none⟩ /\ W.cell? ⟨b, off + k, none⟩ = some (.string (strOfNums s))
theorem StrR.below {W W' : World} {a : Option Addr} {F : List (List Int)} (h : StrR W a F) (hb : Below W.heap.size W W') : StrR W' a F := fun k s hs => by
 obtain ⟨b, off, e, c⟩ := h k s hs
 exact ⟨b, off, e, tcb hb c⟩
theorem ae_row : AE 50 42 (.slice none 0 0) 1 24 := ⟨underlying50, by kernel_rfl, by decide, by decide, by decide⟩
theorem cells_one (R : List P1) : cellsOf (fun p : P1 => [p.v]) R = R.map P1.v := by
 unfold cellsOf
 induction R with
 | nil => rfl
 | cons p r ih => rw [List.map_cons, List.flatten_cons, ih]; rfl
def OpR (w : World) (k0 : Int) (s : List Int) (F : List (List Int)) (r : Ending) (w' : World) : Prop :=
 ∃ (ka : Option Addr) (kc : Nat) (ra : Option Addr) (rc : Nat) (R : List P1), r = .returned (.agg #[.int .i64 k0, .int .i64 0, .int .i64 0, .slice ka s.length kc, .slice none 0 0, .int .i64 0, .slice ra R.length rc]) /\ Below w.heap.size w w' /\ R.map P1.bs = F /\ ∀ S : Nat -> Prop, (∀ q, S q -> q < w.heap.size) -> zs_ S w' fun W => zy_ W ⟨k0, 0, 0, ka, s.length, kc, s, none, 0, 0, [], 0, ra, R.length, rc, R⟩
theorem op_law (k0 : Int) (s : List Int) (bS : Byt s) (hs : s.length <= 1000) (fa : Option Addr) (n c : Nat) (F : List (List Int)) (hF : F.length = n) (hn : n <= 1000) (bF : ∀ f ∈ F, Byt f /\ f.length <= 1000) (w : World) (hS : StrR w fa F) :
  Calls prog 32 #[.int .i64 k0, .string (strOfNums s), .slice fa n c] w (OpR w k0 s F) := by
 have HF := hid hF
 have HBF := hid bF
 have HS := hid hS
 have HBS := hid (And.intro bS hs)
 have hcs := fun W => Qi_ W (strOfNums s)
 have hni : (n : Int) <= 1000 := by omega
 clear hF bF hS bS hs
 go_enter func32, ntmps32
 go_upto_region 2 with (fail)
 have hba : Below w.heap.size w (w.alloc (.cells #[.int .i64 0, .int .i64 0, .int .i64 0, .slice none 0 0, .slice none 0 0, .int .i64 0, .slice none 0 0] 74)) := bl1 _ _
 have hxa : zg_ (w.alloc (.cells #[.int .i64 0, .int .i64 0, .int .i64 0, .slice none 0 0, .slice none 0 0, .int .i64 0, .slice none 0 0] 74)) w.heap.size #[.int .i64 0, .int .i64 0, .int .i64 0, .slice none 0 0, .slice none 0 0, .int .i64 0, .slice none 0 0] 74 := zg_.new _ _ _
 have hsa : (w.alloc (.cells #[.int .i64 0, .int .i64 0, .int .i64 0, .slice none 0 0, .slice none 0 0, .int .i64 0, .slice none 0 0] 74)).heap.size = w.heap.size + 1 := by simp
 generalize w.alloc (.cells #[.int .i64 0, .int .i64 0, .int .i64 0, .slice none 0 0, .slice none 0 0, .int .i64 0, .slice none 0 0] 74) = wa at hba hxa hsa ⊢
 obtain ⟨kc, hkc⟩ := gtx (grownCap wa (strOfNums s).size 0 5)
 rw [hkc]
 have hkey := (bw_stay (S := fun q => q <= w.heap.size) wa HBS.out.1 (by have := HBS.out.2; unfold maxLen; omega) (fun q hq => by have : q <= w.heap.size := hq; omega)).mono fun _ h => h.1
 rw [hkc, hsa] at hkey
 have hbb : Below wa.heap.size wa (Lib.bytesWorld wa 5 (strOfNums s)) := qI_ _ _
 have hsb : (Lib.bytesWorld wa 5 (strOfNums s)).heap.size = w.heap.size + 2 := by rw [Lib.bytesWorld_size, hsa]
 generalize Lib.bytesWorld wa 5 (strOfNums s) = wb at hkey hbb hsb ⊢
 have HXB := hid (hxa.below hbb)
 have HBB := hid (hba.trans (hbb.mono hba.size))
 have HKEY := hid hkey
 have hbc : Below wb.heap.size wb (wb.alloc (.cells #[.int .i64 k0, .int .i64 0, .int .i64 0, .slice (some ⟨w.heap.size + 1, 0, none⟩) (strOfNums s).size kc, .slice none 0 0, .int .i64 0, .slice none 0 0] 74)) := bl1 _ _
 have hxc : zg_ (wb.alloc (.cells #[.int .i64 k0, .int .i64 0, .int .i64 0, .slice (some ⟨w.heap.size + 1, 0, none⟩) (strOfNums s).size kc, .slice none 0 0, .int .i64 0, .slice none 0 0] 74)) wb.heap.size #[.int .i64 k0, .int .i64 0, .int .i64 0, .slice (some ⟨w.heap.size + 1, 0, none⟩) (strOfNums s).size kc, .slice none 0 0, .int .i64 0, .slice none 0 0] 74 := zg_.new _ _ _
 generalize wb.alloc (.cells #[.int .i64 k0, .int .i64 0, .int .i64 0, .slice (some ⟨w.heap.size + 1, 0, none⟩) (strOfNums s).size kc, .slice none 0 0, .int .i64 0, .slice none 0 0] 74) = wc at hbc hxc ⊢
 obtain ⟨base, hbase⟩ := gtx (wb.heap.size)
 rw [hbase] at hbc hxc ⊢
 have HBC := hid hbc
 have HXC := hid hxc
 have HBE := hid (And.intro hbase hsb)
 clear hba hxa hsa hkc hkey hbb hsb hbc hxc hbase
 go_wp2_with fail
 go_loopw [8] (fun i wr => ∃ (k : Nat) (v : Value) (R' : List P1), k <= n /\ i = .int .i64 (k : Int) /\ Hid (zg_ wr base #[.int .i64 k0, .int .i64 0, .int .i64 0, .slice (some ⟨w.heap.size + 1, 0, none⟩) (strOfNums s).size kc, .slice none 0 0, .int .i64 0, v] 74) /\ Hid (R'.map P1.bs = F.take k) /\ Hid (wr.ownsRow base 42 1 v k (R'.map P1.v)) /\ Hid (∀ p ∈ R', zs_ (fun q => q <= w.heap.size ∨ q = base ∨ v.ownBlock = some q) wr (fun W => Ls .u8 W p.ad p.cap p.bs)) /\ Hid (Below base wb wr)) (fun i _ => n - (intOf i).toNat)
 case atStart => exact ⟨0, .slice none 0 0, [], by omega, rfl, HXC, hid rfl, hid (World.ownsRow_nil _ _ _ _), hid (fun p hp => by cases hp), HBC⟩
 case round =>
  obtain ⟨k, v, R', hk, rfl, HXP, HRB, HOW, HST, HB⟩ := hrel
  by_cases hlt : k < n
  ·have d1 : (k : Int) < (n : Int) := by omega
   obtain ⟨f, hf⟩ : ∃ f, F[k]? = some f := ⟨_, List.getElem?_eq_getElem (by rw [HF.out]; exact hlt)⟩
   have hbf := HBF.out f (List.mem_of_getElem? hf)
   have hbw : Below w.heap.size w wr := HBB.out.trans (HB.out.mono (by have := HBE.out; have := HBB.out.size; omega))
   obtain ⟨b1, o1, ea, p0⟩ := (HS.out.below hbw) k f hf
   subst ea
   have hnv : ∀ q, v.ownBlock = some q -> base <= q := fun q hq => (zb_ HOW.out hq).1
   have hnb : ¬ v.ownBlock = some base := fun e => by
    obtain ⟨_, _, cur, hb2⟩ := zb_ HOW.out e
    exact zo_ hb2 HXP.out Xt4 rfl
   have HBP := hid (fun X (o : Off (fun q => v.ownBlock = some q) wr X) => o.box HXP.out hnb)
   have HPX := hid (fun X (o : Off (fun q => v.ownBlock = some q) wr X) => (by rw [(HBP.out X o).cell]; rfl : X.cell? ⟨base, 6, none⟩ = some v))
   obtain ⟨b2, o2, eb, p1⟩ := HS.out k f hf
   cases eb
   have hlb := World.block_lt_of_cell? w _ p1
   have HSX := hid (fun X (o : Off (fun q => v.ownBlock = some q) wr X) => (o.cell p0 (fun e => by have := hnv _ e; have := HBE.out; have : b1 < w.heap.size := hlb; omega) : X.cell? ⟨b1, o1 + k, none⟩ = some (.string (strOfNums f))))
   have hce := fun W => Qi_ W (strOfNums f)
   have HBS2 := hid (show base <= wr.heap.size by have := HB.out.size; have := HBE.out; omega)
   have HFF := hid (And.intro hf hbf)
   have HWN := hid hbw
   clear hf hbf hbw p0 p1 hnv hnb hlb hcs
   go_upto_region 5 with (fail)
   refine zr_ (z := 10) (S := (fun X => Off (fun q => v.ownBlock = some q) wr X)) Xt3 ((Off.refl _ _).drew) fun hH => ?_
   refine tlk 0 rfl Xt2 ?_
   refine tlk 1 rfl (fun W hSw => by have m := HPX.out W hSw; exact tks) ?_
   refine tlk 2 rfl Xt2 ?_
   refine tlk 3 rfl Xt2 ?_
   refine tlk 4 rfl Xt2 ?_
   refine tlk 5 rfl (fun W hSw => by have m := HSX.out W hSw; exact tks) ?_
   refine tl1 6 rfl fun K hK => ?_
   go_simp
   have HB5 := hid (((Below.refl wr.heap.size wr).drew).trans (qI_ wr.drew (strOfNums f)))
   have HF5 := hid (hH.then (qI_ wr.drew (strOfNums f)))
   refine hK.out _ _ HF5.out fun hH => ?_
   refine stP ?_
   refine tl1 7 rfl fun K hK => ?_
   go_simp
   have HB6 := hid (za_ HB5.out (bl1 (Lib.bytesWorld wr.drew 5 (strOfNums f)) (.cells #[.slice (some ⟨wr.heap.size, 0, none⟩) (strOfNums f).size (grownCap wr.drew (strOfNums f).size 0 5)] 42)))
   have HF6 := hid (hH.then (bl1 (Lib.bytesWorld wr.drew 5 (strOfNums f)) (.cells #[.slice (some ⟨wr.heap.size, 0, none⟩) (strOfNums f).size (grownCap wr.drew (strOfNums f).size 0 5)] 42)))
   refine hK.out _ _ HF6.out fun hH => ?_
   refine stP ?_
   refine tl1 8 rfl fun K hK => ?_
   have hown := ze_ HOW.out HB6.out
   refine zD_ ae_row rfl _ _ rfl base v k (R'.map P1.v) rfl hown ⟨(Lib.bytesWorld wr.drew 5 (strOfNums f)).heap.size, 0, none⟩ 1 1 [.slice (some ⟨wr.heap.size, 0, none⟩) (strOfNums f).size (grownCap wr.drew (strOfNums f).size 0 5)] (by simp [go_sem]) rfl (zx_ (Lib.bytesWorld wr.drew 5 (strOfNums f)) _ _ _ rfl) Xt32 Xt0 (Nat.le_trans HBS2.out HB6.out.size) ?_
   intro v9 w9 hown9 hgrow9 hat9
   obtain ⟨a9, c9, hv9⟩ := zd_ hown9
   subst hv9
   have HO9 := hid hown9
   have HG9 := hid hgrow9
   have HAT := hid hat9
   have HF9 := hid (hH.trans (Off.of_row hgrow9))
   refine hK.out _ _ HF9.out (fun hHeldn => ?_)
   clear hown hown9 hgrow9 hat9
   clear hK K hH; have hH := hHeldn; clear hHeldn
   refine stP ?_
   refine tlk 9 rfl Xt2 ?_
   refine tlz rfl fun K hK => ?_
   have x4 := HPX.out w9 HF9.out
   have f4 := (HBP.out w9 HF9.out).frozen 6
   go_simp
   refine hK.out _ _ ?_
   clear hK K x4 f4
   refine stP ?_
   refine zz_ Xt3 ?_ _
   skip
   have hfl : (strOfNums f).size = f.length := xq_ f
   have hP9 := HBP.out w9 HF9.out
   have hne9 : ∀ g, Value.ownBlock (.slice a9 (k + 1) c9) = some g -> g ≠ base := fun g hg => by
    exact Xb89
   have oP : Off (fun q => q = base) w9 (w9.setCell ⟨base, 6, none⟩ (.slice a9 (k + 1) c9)) := Off.set (S := fun q => q = base) (Off.refl _ w9) ⟨base, 6, none⟩ rfl _
   have q2 : zg_ (w9.setCell ⟨base, 6, none⟩ (.slice a9 (k + 1) c9)) base #[.int .i64 k0, .int .i64 0, .int .i64 0, .slice (some ⟨w.heap.size + 1, 0, none⟩) (strOfNums s).size kc, .slice none 0 0, .int .i64 0, .slice a9 (k + 1) c9] 74 := heap_setCell_same w9 base 6 _ 74 _ hP9
   have q4 := zn_ HO9.out oP (fun g hg e => hne9 g hg e)
   have oA : Off (fun q => q <= w.heap.size ∨ q = base ∨ v.ownBlock = some q) wr (w9.setCell ⟨base, 6, none⟩ (.slice a9 (k + 1) c9)) := (HF9.out.mono fun q hq => .inr (.inr hq)).trans (oP.mono fun q hq => .inr (.inl hq))
   have oB : Off (fun q => q <= w.heap.size ∨ q = base ∨ v.ownBlock = some q) (Lib.bytesWorld wr.drew 5 (strOfNums f)) (w9.setCell ⟨base, 6, none⟩ (.slice a9 (k + 1) c9)) := (((Off.of (bl1 _ _)).trans (Off.of_row HG9.out)).mono (S := fun q => v.ownBlock = some q) fun q hq => .inr (.inr hq)).trans (oP.mono fun q hq => .inr (.inl hq))
   have hszb : (Lib.bytesWorld wr.drew 5 (strOfNums f)).heap.size = wr.heap.size + 1 := Lib.bytesWorld_size _ _ _
   have hnew : ∀ q, Value.ownBlock (.slice a9 (k + 1) c9) = some q -> v.ownBlock = some q ∨ wr.heap.size + 1 <= q := fun q hq => by
    rcases HAT.out with e | e
    ·exact .inl (e ▸ hq)
    ·rw [hq, World.size_alloc, hszb] at e
     injection e with e
     exact .inr Xt0
   have hxlt := HXP.out.lt
   have hwlt := HWN.out.size
   have hbw6 : w.heap.size < wr.heap.size := by have := HBE.out; have := HBS2.out; omega
   have q8 : ∀ p ∈ R' ++ [⟨some ⟨wr.heap.size, 0, none⟩, grownCap wr.drew (strOfNums f).size 0 5, f⟩], zs_ (fun q => q <= w.heap.size ∨ q = base ∨ Value.ownBlock (.slice a9 (k + 1) c9) = some q) (w9.setCell ⟨base, 6, none⟩ (.slice a9 (k + 1) c9)) (fun W => Ls .u8 W p.ad p.cap p.bs) := fun p hp => by
    rcases List.mem_append.1 hp with hp | hp
    ·refine (HST.out p hp).step oA fun q hq => ?_
     exact Xb72
    ·rw [List.mem_singleton] at hp
     subst hp
     refine ((bw_stay (S := fun q => q <= w.heap.size ∨ q = base ∨ v.ownBlock = some q) wr.drew HFF.out.2.1 (by have := HFF.out.2.2; unfold maxLen; omega) (fun q hq => ?_)).mono fun _ h => h.1).step oB fun q hq => ?_
     ·show q < wr.heap.size
      rcases hq with hq | hq | hq
      ·omega
      ·omega
      ·exact (zb_ HOW.out hq).2.1
     ·exact Xb72
   have q7 : Below base wb (w9.setCell ⟨base, 6, none⟩ (.slice a9 (k + 1) c9)) := (Off.below HB.out HF9.out (by have := HBE.out; omega) (fun g hg => (zb_ HOW.out hg).1)).setCell (Nat.le_refl _) _
   have HFL := hid hfl
   have Q2 := hid q2
   have Q4 := hid q4
   have Q7 := hid q7
   have Q8 := hid q8
   clear hfl hP9 hne9 oP q2 q4 oA oB hszb hnew hxlt hwlt hbw6 q8 q7 hce
   go_wp2_with fail
   go_roundw
   case rel =>
    refine ⟨k + 1, .slice a9 (k + 1) c9, _, by omega, by go_num, Q2, hid ?_, hid ?_, Q8, Q7⟩
    ·rw [List.map_append, HRB.out, List.take_add_one, HFF.out.1]; rfl
    ·rw [List.map_append]
     have := Q4.out
     rw [HFL.out] at this
     have e : List.map P1.v [(⟨some ⟨wr.heap.size, 0, none⟩, grownCap wr.drew (strOfNums f).size 0 5, f⟩ : P1)] = [.slice (some ⟨wr.heap.size, 0, none⟩) f.length (grownCap wr.drew f.length 0 5)] := by rw [HFL.out]; rfl
     rw [e]
     exact this
   case measure => simp [intOf]; omega
  ·have d1 : ¬ (k : Int) < (n : Int) := by omega
   have hke : k = n := by omega
   have HKE := hid hke
   obtain ⟨va, vc, hv⟩ := zd_ HOW.out
   subst hv
   rw [hke] at HXP HOW HST
   have hx6 := HXB.out.below (HBE.out.1 ▸ HB.out)
   have x0 := hx6.cell 0
   have x1 := hx6.cell 1
   have x2 := hx6.cell 2
   have x3 := hx6.cell 3
   have x4 := hx6.cell 4
   have x5 := hx6.cell 5
   have x6 := hx6.cell 6
   have f0 := hx6.frozen 0
   have f1 := hx6.frozen 1
   have f2 := hx6.frozen 2
   have f3 := hx6.frozen 3
   have f4 := hx6.frozen 4
   have f5 := hx6.frozen 5
   have f6 := hx6.frozen 6
   have y0 := HXP.out.cell 0
   have y1 := HXP.out.cell 1
   have y2 := HXP.out.cell 2
   have y3 := HXP.out.cell 3
   have y4 := HXP.out.cell 4
   have y5 := HXP.out.cell 5
   have y6 := HXP.out.cell 6
   simp only [gtA, gtB, gtC] at x0 x1 x2 x3 x4 x5 x6 y0 y1 y2 y3 y4 y5 y6
   clear hke hcs
   go_wp2_with fail
   clear x0 x1 x2 x3 x4 x5 x6 y0 y1 y2 y3 y4 y5 y6 f0 f1 f2 f3 f4 f5 f6
   have o7 : Off (fun q => q = w.heap.size) wr (((((((wr.setCell ⟨w.heap.size, 0, none⟩ (.int .i64 k0)).setCell ⟨w.heap.size, 1, none⟩ (.int .i64 0)).setCell ⟨w.heap.size, 2, none⟩ (.int .i64 0)).setCell ⟨w.heap.size, 3, none⟩ (.slice (some ⟨w.heap.size + 1, 0, none⟩) (strOfNums s).size kc)).setCell ⟨w.heap.size, 4, none⟩ (.slice none 0 0)).setCell ⟨w.heap.size, 5, none⟩ (.int .i64 0)).setCell ⟨w.heap.size, 6, none⟩ (.slice va n vc)) := (Off.set (S := fun q => q = w.heap.size) (Off.set (S := fun q => q = w.heap.size) (Off.set (S := fun q => q = w.heap.size) (Off.set (S := fun q => q = w.heap.size) (Off.set (S := fun q => q = w.heap.size) (Off.set (S := fun q => q = w.heap.size) (Off.set (S := fun q => q = w.heap.size) (Off.refl _ wr) ⟨w.heap.size, 0, none⟩ rfl _) ⟨w.heap.size, 1, none⟩ rfl _) ⟨w.heap.size, 2, none⟩ rfl _) ⟨w.heap.size, 3, none⟩ rfl _) ⟨w.heap.size, 4, none⟩ rfl _) ⟨w.heap.size, 5, none⟩ rfl _) ⟨w.heap.size, 6, none⟩ rfl _)
   have hx7 : zg_ (((((((wr.setCell ⟨w.heap.size, 0, none⟩ (.int .i64 k0)).setCell ⟨w.heap.size, 1, none⟩ (.int .i64 0)).setCell ⟨w.heap.size, 2, none⟩ (.int .i64 0)).setCell ⟨w.heap.size, 3, none⟩ (.slice (some ⟨w.heap.size + 1, 0, none⟩) (strOfNums s).size kc)).setCell ⟨w.heap.size, 4, none⟩ (.slice none 0 0)).setCell ⟨w.heap.size, 5, none⟩ (.int .i64 0)).setCell ⟨w.heap.size, 6, none⟩ (.slice va n vc)) w.heap.size #[.int .i64 k0, .int .i64 0, .int .i64 0, .slice (some ⟨w.heap.size + 1, 0, none⟩) (strOfNums s).size kc, .slice none 0 0, .int .i64 0, .slice va n vc] 74 := (heap_setCell_same ((((((wr.setCell ⟨w.heap.size, 0, none⟩ (.int .i64 k0)).setCell ⟨w.heap.size, 1, none⟩ (.int .i64 0)).setCell ⟨w.heap.size, 2, none⟩ (.int .i64 0)).setCell ⟨w.heap.size, 3, none⟩ (.slice (some ⟨w.heap.size + 1, 0, none⟩) (strOfNums s).size kc)).setCell ⟨w.heap.size, 4, none⟩ (.slice none 0 0)).setCell ⟨w.heap.size, 5, none⟩ (.int .i64 0)) w.heap.size 6 _ 74 _ (heap_setCell_same (((((wr.setCell ⟨w.heap.size, 0, none⟩ (.int .i64 k0)).setCell ⟨w.heap.size, 1, none⟩ (.int .i64 0)).setCell ⟨w.heap.size, 2, none⟩ (.int .i64 0)).setCell ⟨w.heap.size, 3, none⟩ (.slice (some ⟨w.heap.size + 1, 0, none⟩) (strOfNums s).size kc)).setCell ⟨w.heap.size, 4, none⟩ (.slice none 0 0)) w.heap.size 5 _ 74 _ (heap_setCell_same ((((wr.setCell ⟨w.heap.size, 0, none⟩ (.int .i64 k0)).setCell ⟨w.heap.size, 1, none⟩ (.int .i64 0)).setCell ⟨w.heap.size, 2, none⟩ (.int .i64 0)).setCell ⟨w.heap.size, 3, none⟩ (.slice (some ⟨w.heap.size + 1, 0, none⟩) (strOfNums s).size kc)) w.heap.size 4 _ 74 _ (heap_setCell_same (((wr.setCell ⟨w.heap.size, 0, none⟩ (.int .i64 k0)).setCell ⟨w.heap.size, 1, none⟩ (.int .i64 0)).setCell ⟨w.heap.size, 2, none⟩ (.int .i64 0)) w.heap.size 3 _ 74 _ (heap_setCell_same ((wr.setCell ⟨w.heap.size, 0, none⟩ (.int .i64 k0)).setCell ⟨w.heap.size, 1, none⟩ (.int .i64 0)) w.heap.size 2 _ 74 _ (heap_setCell_same (wr.setCell ⟨w.heap.size, 0, none⟩ (.int .i64 k0)) w.heap.size 1 _ 74 _ (heap_setCell_same wr w.heap.size 0 _ 74 _ hx6)))))))
   generalize (((((((wr.setCell ⟨w.heap.size, 0, none⟩ (.int .i64 k0)).setCell ⟨w.heap.size, 1, none⟩ (.int .i64 0)).setCell ⟨w.heap.size, 2, none⟩ (.int .i64 0)).setCell ⟨w.heap.size, 3, none⟩ (.slice (some ⟨w.heap.size + 1, 0, none⟩) (strOfNums s).size kc)).setCell ⟨w.heap.size, 4, none⟩ (.slice none 0 0)).setCell ⟨w.heap.size, 5, none⟩ (.int .i64 0)).setCell ⟨w.heap.size, 6, none⟩ (.slice va n vc)) = w7 at o7 hx7 ⊢
   have q0 := hx7.cell 0
   have q1 := hx7.cell 1
   have q2 := hx7.cell 2
   have q3 := hx7.cell 3
   have q4 := hx7.cell 4
   have q5 := hx7.cell 5
   have q6 := hx7.cell 6
   simp only [gtA, gtB, gtC] at q0 q1 q2 q3 q4 q5 q6
   refine bodyPost_ret (v := .agg #[.int .i64 k0, .int .i64 0, .int .i64 0, .slice (some ⟨w.heap.size + 1, 0, none⟩) (strOfNums s).size kc, .slice none 0 0, .int .i64 0, .slice va n vc]) (by simp [results, results32, go_sem, q0, q1, q2, q3, q4, q5, q6]) rfl ?_
   have hrl : R'.length = n := by have := congrArg List.length HRB.out; rw [List.length_map, List.length_take, HF.out] at this; have := HKE.out; omega
   have hsl : (strOfNums s).size = s.length := xq_ s
   have hrb : R'.map P1.bs = F := by rw [HRB.out, List.take_of_length_le (by rw [HF.out, HKE.out]; exact Nat.le_refl _)]
   have hbs := HBE.out
   have hbl : Below w.heap.size w w7 := Off.below (HBB.out.trans (HB.out.mono Xt0)) o7 (Nat.le_trans HBB.out.size (by have := HB.out.size; exact this)) (fun q hq => by cases hq; exact Nat.le_refl _)
   have hown := zn_ HOW.out o7 (fun q hq e => by have := (zb_ HOW.out hq).1; omega)
   refine ⟨some ⟨w.heap.size + 1, 0, none⟩, kc, va, vc, R', by rw [hrl, hsl], hbl, hrb, fun S' hS' W' o => ⟨?_, rfl, HBS.out.1, Ls.nul _ _, rfl, (fun x hx => by cases hx), ?_, rfl, fun p hp => ?_⟩⟩
   ·exact HKEY.out W' (((Off.of (hbs.1 ▸ HB.out)).trans (o7.mono fun q hq => by have : q = w.heap.size := hq; show q <= _; omega)).trans (o.mono fun q hq => Nat.le_of_lt (hS' q hq)))
   ·intro i p hp
    have hown2 := zn_ hown o (fun q hq e => by have h1 := hS' q e; have h2 := (zb_ hown hq).1; omega)
    have hoc : W'.ownsRow base 42 1 (.slice va n vc) n (cellsOf (fun p : P1 => [p.v]) R') := by rw [cells_one]; exact hown2
    obtain ⟨g, e, _, hc⟩ := zt_ (f := fun p : P1 => [p.v]) (sz := 1) (fun _ => rfl) Xt0 hoc hrl i p hp
    cases e
    refine ⟨g, 0, rfl, ?_, (HST.out p (List.mem_of_getElem? hp)) W' ((o7.mono fun q hq => .inl (by have : q = w.heap.size := hq; omega)).trans (o.mono fun q hq => .inl (Nat.le_of_lt (hS' q hq))))⟩
    have := hc 0 Xt0
    rw [Nat.mul_one, Nat.add_zero] at this
    rw [Nat.zero_add]
    exact this
   ·exact (HBF.out p.bs (by rw [← hrb]; exact List.mem_map.2 ⟨p, hp, rfl⟩)).1
end
section
variable {F : Fence} {n : Nat} {P : Program}
def SeqX {α : Type} (F : Fence) (n : Nat) (P : Program) (g : Nat) (lb : Array Value) (encs : α -> Array Value) (Kp : World -> World -> Prop) (Px : Nat -> α -> World -> Prop) (N : Nat) (w : World) : Prop :=
 ∀ (l : Nat) (J Jx : Nat -> World -> Prop) (W : World), Below w.heap.size w W -> w.heap.size + 2 <= W.heap.size -> (∀ k A B, J k A -> Below A.heap.size A B -> J k B) -> (∀ k A B, Jx k A -> Below A.heap.size A B -> Jx k B) ->
  (∀ k x W1, k < N -> J k W1 -> Px k x W1 -> YieldAt F (n - 1) P l (encs x) W1 fun e W' => (e = .returned (.bool true) /\ J (k + 1) W' /\ Kp W1 W') ∨ (e = .returned (.bool false) /\ Jx k W')) ->
  J 0 W -> CallsIn F n P g (#[.func (.yield l) #[] #[]] ++ lb) W fun e W' => (∃ v, e = .returned v) /\ (J N W' ∨ ∃ k, k < N /\ Jx k W')
def Own2 {ι : Type} (base : Nat) (I : ι -> World -> Prop) : Prop := ∀ k A B, I k A -> Off (fun j => j = base ∨ j = base + 1) A B -> I k B
theorem Own2.below {ι : Type} {base : Nat} {I : ι -> World -> Prop} (h : Own2 base I) {k : ι} {A B : World} (hi : I k A) (b : Below A.heap.size A B) : I k B := h k A B hi (Off.of b)
theorem Own2.put {ι : Type} {base : Nat} {I : ι -> World -> Prop} (h : Own2 base I) {k : ι} {A : World} (hi : I k A) (o : Obj) : I k (A.putObj (base + 1) o) :=
 h k A _ hi ⟨rfl, rfl, rfl, by simp, fun j _ hj => World.putObj_heap_other fun e => hj (.inr e)⟩
def postX (B : Nat) (Kp : World -> World -> Prop) (I Ix : Nat -> World -> Prop) (k : Nat) (W : World) : Exit -> Act -> World -> Prop
 | .normal, _, W' => KeepsFrom B W W' /\ Kp W W' /\ I (k + 1) W'
 | .ret, _, W' => KeepsFrom B W W' /\ Ix k W'
 | _, _, _ => False
def qt_ (l d : Nat) (r : Loop) (W : World) : Prop := W.heap[l]? = some (.loop r) /\ W.heap[d]? = some (.deferred (some []))
theorem qt_.keeps {l d : Nat} {r : Loop} {B : Nat} {W W' : World} (h : qt_ l d r W) (k : KeepsFrom B W W') (hl : B <= l) (hd : B <= d) : qt_ l d r W' := ⟨k.same _ _ hl h.1 rfl, k.same _ _ hd h.2 rfl⟩
theorem qt_.put {l d : Nat} {r : Loop} {W : World} (h : qt_ l d r W) (hne : d ≠ l) (r' : Loop) : qt_ l d r' (W.putObj l (.loop r')) := ⟨World.putObj_heap_same (Array.getElem?_eq_some_iff.1 h.1).1, (World.putObj_heap_other hne).trans h.2⟩
theorem qt_.below {l d : Nat} {r : Loop} {A B : World} (h : qt_ l d r A) (b : Below A.heap.size A B) : qt_ l d r B :=
 ⟨(b.block l (Array.getElem?_eq_some_iff.1 h.1).1).trans h.1, (b.block d (Array.getElem?_eq_some_iff.1 h.2).1).trans h.2⟩
theorem jl_ {α : Type} {g : Operand} {ps : Array Tmp} {assign body : Code} {Q : Exit -> Act -> World -> Prop} {a : Act} {w : World}
  (hro : F.round = none) (h1 : 1 <= n) {gf : Nat} {lb : Array Value} (hg : a.eval g = .func (.func gf) #[] lb) (hFg : F.fn gf) (eg : ∀ args w, (callFunc gf args).run P w = .ok (.enter gf args) w)
  {encs : α -> Array Value} {Kp : World -> World -> Prop} {Px : Nat -> α -> World -> Prop} {N : Nat} (hseq : SeqX F (n - 1) P gf lb encs Kp Px N w)
  (hKt : ∀ {A B C : World}, Kp A B -> Kp B C -> Kp A C) (hKb : ∀ (W : World) (o' : Obj), Kp W (W.putObj (w.heap.size + 1) o'))
  (hPb : ∀ (k : Nat) (x : α) (W : World) (o' : Obj), Px k x W -> Px k x (W.putObj (w.heap.size + 1) o')) (hps : ∀ x, (encs x).size = ps.size)
  (I Ix : Nat -> World -> Prop) (hI : Own2 w.heap.size I) (hIx : Own2 w.heap.size Ix) (h0 : I 0 w) (Ax : α -> Act -> World -> Prop) (hAx : ∀ x a', Own2 w.heap.size (fun (_ : Unit) W => Ax x a' W))
  (hassign : ∀ (l k : Nat) (x : α) (W : World) (K : Act -> World -> Prop), k < N -> I k W -> Px k x W -> (∀ a' W', KeepsFrom w.heap.size W W' -> Kp W W' -> I k W' -> Px k x W' -> Ax x a' W' -> K a' W') ->
   assign.wpIn (F.inRound l) (n - 1 - 1) P (Exit.then K (fun _ _ _ => False)) { tmps := (ps.zip (encs x)).foldl (fun t (p, v) => t.setIfInBounds p v) a.tmps, defers := [] } W)
  (hbody : ∀ (l k : Nat) (x : α) (a' : Act) (W : World), k < N -> I k W -> Px k x W -> Ax x a' W -> body.wpIn (F.inRound l) (n - 1 - 1) P (postX w.heap.size Kp I Ix k W) a' W)
  (hdone : ∀ (W : World), I N W -> W.heap[w.heap.size]? = some (.deferred (some [])) -> Q .normal { a with defers := { target := .collected w.heap.size, args := #[] } :: a.defers } W)
  (hstop : ∀ (k : Nat) (W : World), k < N -> Ix k W -> W.heap[w.heap.size]? = some (.deferred (some [])) -> Code.ret.wpIn F n P Q { a with defers := { target := .collected w.heap.size, args := #[] } :: a.defers } W) :
  (Code.rangeFunc g ps assign body).wpIn F n P Q a w := by
 refine wpIn_rangeFunc fun fn hfn => ?_
 rw [hro]
 obtain ⟨d, hd⟩ := gtx (w.heap.size)
 obtain ⟨mk, hmk⟩ : ∃ mk : LoopState -> Option Code -> Loop, mk = fun st pe => { state := st, pending := pe, fn, tmps := a.tmps, params := ps, assign, body, defers := d } := ⟨_, rfl⟩
 obtain ⟨V, hV⟩ := gtx ((w.alloc (.deferred (some []))).alloc (.loop (mk .ready none)))
 have hsz : V.heap.size = d + 2 := by rw [← hV, ← hd]; simp
 have hrec : qt_ (d + 1) d (mk .ready none) V := by
  rw [← hV, ← hd]
  refine ⟨?_, (Below.heap_alloc _ _ _ Xt5).trans (World.alloc_heap_new w _)⟩
  have := World.alloc_heap_new (w.alloc (.deferred (some []))) (.loop (mk .ready none))
  rwa [World.size_alloc] at this
 have hIV : I 0 V := by rw [← hV]; exact hI.below (hI.below h0 (Below.alloc (Below.refl _ _) (Nat.le_refl _) _)) (Below.alloc (Below.refl _ _) (Nat.le_refl _) _)
 have hbV : Below w.heap.size w V := by rw [← hV]; exact (((Below.refl _ w).alloc (Nat.le_refl _) _).alloc Xt5 _)
 have hent : (Instr.enterLoop fn a.tmps ps assign body none).run P w = .ok (d + 1, [{ target := .collected d, args := #[] }]) V := by
  rw [← hV, hmk, ← hd]; exact run_enterLoop_outer _ _ _ _ _
 rw [hd] at hI hIx hAx hKb hPb hassign hbody hdone hstop
 clear hV
 refine ⟨d + 1, [{ target := .collected d, args := #[] }], V, { target := .fn (.func gf) lb, args := #[.func (.yield (d + 1)) #[] #[]] }, V, gf, #[.func (.yield (d + 1)) #[] #[]] ++ lb, V, hent, ?_, ?_, ?_, fun _ => h1, ?_⟩
 ·simp only [resolve, hg]
  simp [go_sem]
 ·intro f' hf'
  simp [Target.leads] at hf'
  subst hf'
  exact hFg
 ·simp [invoke, go_sem, eg]
 refine (hseq (d + 1) (fun k W => I k W /\ qt_ (d + 1) d (mk .ready none) W) (fun k W => Ix k W /\ qt_ (d + 1) d (mk .done (some .ret)) W) V hbV Xt0
  (fun s A B hs b => ⟨hI.below hs.1 b, hs.2.below b⟩) (fun s A B hs b => ⟨hIx.below hs.1 b, hs.2.below b⟩) ?_ ⟨hIV, hrec⟩).mono ?_
 ·rintro k x W hk ⟨hi, hr⟩ hpx
  have hy := run_yield (P := P) (args := encs x) hr.1 (by rw [hmk]; exact hps x)
  rw [hmk] at hy
  refine ⟨fn, _, assign, body, hy, roundIn_of_wpIn hfn (hassign _ k x W _ hk hi hpx ?_)⟩
  intro a' W2 hkf hkp hi2 hpx2 hax
  have hr2 := hr.keeps hkf Xt0 (Nat.le_refl _)
  refine ⟨_, run_beginRound hr2.1 (by rw [hmk]), ?_⟩
  have hr3 := hr2.put Xt0 { mk .ready none with state := .busy }
  have hkp3 := hKb W2 (.loop { mk .ready none with state := .busy })
  refine wpIn_mono (hbody (d + 1) k x a' _ hk (hI.put hi2 _) (hPb k x W2 _ hpx2) ((hAx x a').put (k := ()) hax _)) ?_
  have ending : ∀ (jump : Option Code) (W3 : World), qt_ (d + 1) d { mk .ready none with state := .busy } W3 -> (Instr.endRound (d + 1) jump).run P W3 = .ok (.bool jump.isNone) (W3.putObj (d + 1) (.loop (mk (if jump.isNone then .ready else .done) jump))) := fun jump W3 h3 => by
   have hl3 := h3.1
   have := run_endRound (P := P) jump hl3
   rw [hmk] at this ⊢
   exact this
  rintro e a3 W3 hp
  cases e with
  | normal =>
   obtain ⟨k3, kp3, i3⟩ := hp
   have h3 := hr3.keeps k3 Xt0 (Nat.le_refl _)
   exact ⟨_, _, ending none W3 h3, Or.inl ⟨rfl, ⟨hI.put i3 _, h3.put Xt0 _⟩, hKt hkp (hKt hkp3 (hKt kp3 (hKb W3 _)))⟩⟩
  | ret =>
   obtain ⟨k3, i3⟩ := hp
   have h3 := hr3.keeps k3 Xt0 (Nat.le_refl _)
   exact ⟨_, _, ending (some .ret) W3 h3, Or.inr ⟨rfl, hIx.put i3 _, h3.put Xt0 _⟩⟩
  | exit id => exact hp.elim
  | goto t => exact hp.elim
  | panic ch => exact hp.elim
  | outgrown => exact hp.elim
 ·rintro e W2 ⟨⟨v, rfl⟩, (⟨hi, hr⟩ | ⟨k, hk, hi, hr⟩)⟩
  ·refine ⟨none, _, by have := run_endLoop (P := P) hr.1 (by rw [hmk]; simp); rw [hmk] at this; exact this, ?_⟩
   exact hdone _ (hI.put hi _) ((World.putObj_heap_other Xt0).trans hr.2)
  ·refine ⟨some .ret, _, by have := run_endLoop (P := P) hr.1 (by rw [hmk]; simp); rw [hmk] at this; exact this, ?_⟩
   exact hstop k _ hk (hIx.put hi _) ((World.putObj_heap_other Xt0).trans hr.2)
end
structure KpO (b : Nat) (ro : World -> Option Nat) (A B : World) : Prop where
 os : B.os = A.os
 tape : B.tape = A.tape
 output : B.output = A.output
 size : A.heap.size <= B.heap.size
 same : ∀ k, k < A.heap.size -> b <= k -> ro A ≠ some k -> B.heap[k]? = A.heap[k]?
 row : ∀ k, ro B = some k -> ro A = some k ∨ A.heap.size <= k
theorem KpO.trans {b : Nat} {ro : World -> Option Nat} {A B C : World} (h : KpO b ro A B) (k : KpO b ro B C) : KpO b ro A C :=
 ⟨k.os.trans h.os, k.tape.trans h.tape, k.output.trans h.output, Nat.le_trans h.size k.size,
  fun i hi hb hn => (k.same i (Nat.lt_of_lt_of_le hi h.size) hb (fun e => (h.row i e).elim hn Xt76)).trans (h.same i hi hb hn),
  fun i hi => (k.row i hi).elim (h.row i) fun hh => .inr (Nat.le_trans h.size hh)⟩
theorem KpO.below {b : Nat} {ro : World -> Option Nat} {A B : World} (h : Below A.heap.size A B) (hr : ro B = ro A) : KpO b ro A B := ⟨h.os, h.tape, h.output, h.size, fun k hk _ _ => h.block k hk, fun k hk => .inl (by rw [← hr]; exact hk)⟩
theorem KpO.put {b : Nat} {ro : World -> Option Nat} {A : World} {l : Nat} (o : Obj) (hl : l < b) (hr : ro (A.putObj l o) = ro A) : KpO b ro A (A.putObj l o) := ⟨rfl, rfl, rfl, by simp, fun k _ hb _ => World.putObj_heap_other Xt0, fun k hk => .inl (by rw [← hr]; exact hk)⟩
def Hg (b : Nat) (ro : World -> Option Nat) (W : World) (Q : World -> Prop) : Prop := ∃ lo hi, b <= lo /\ lo <= hi /\ hi <= W.heap.size /\ (∀ k, ro W = some k -> k < lo ∨ hi <= k) /\ zs_ (fun k => k < lo ∨ hi <= k) W Q
theorem Hg.now {b : Nat} {ro : World -> Option Nat} {W : World} {Q : World -> Prop} (h : Hg b ro W Q) : Q W := by
 obtain ⟨_, _, _, _, _, _, h⟩ := h
 exact h.now
theorem Hg.kp {b : Nat} {ro : World -> Option Nat} {W W' : World} {Q : World -> Prop} (h : Hg b ro W Q) (k : KpO b ro W W') : Hg b ro W' Q := by
 obtain ⟨lo, hi, h1, h0, h2, h3, h4⟩ := h
 refine ⟨lo, hi, h1, h0, Nat.le_trans h2 k.size, fun i e => (k.row i e).elim (h3 i) (fun h => .inr (Nat.le_trans h2 h)), h4.off ⟨k.os, k.tape, k.output, k.size, fun i hi' hn => k.same i hi' ?_ ?_⟩⟩
 ·exact Nat.le_trans h1 (Nat.le_of_not_lt fun h => hn (.inl h))
 ·exact fun e => hn (h3 i e)
theorem Hg.mono {b : Nat} {ro : World -> Option Nat} {W : World} {Q R : World -> Prop} (h : Hg b ro W Q) (hq : ∀ W, Q W -> R W) : Hg b ro W R := by
 obtain ⟨lo, hi, h1, h0, h2, h3, h4⟩ := h
 exact ⟨lo, hi, h1, h0, h2, h3, h4.mono hq⟩
theorem Hg.size {b : Nat} {ro : World -> Option Nat} {W : World} {Q : World -> Prop} (h : Hg b ro W Q) : b <= W.heap.size := by
 obtain ⟨lo, hi, h1, h0, h2, h3, h4⟩ := h
 omega
theorem Hg.stay {b : Nat} {ro : World -> Option Nat} {W : World} {Q : World -> Prop} {S : Nat -> Prop} (h : Hg b ro W Q) (hS : ∀ k, S k -> k < b) : zs_ S W Q := by
 obtain ⟨lo, hi, h1, h0, h2, h3, h4⟩ := h
 exact h4.less fun k hk => .inl (Nat.lt_of_lt_of_le (hS k hk) h1)
section
open Go.Maps Go.Shelf
attribute [local go_sem] Oper.semAt_some
def encP (y : PrV) : Array Value := #[.agg (pcl y).toArray]
def QP (x : PrV) (W : World) : Prop := Ls .u8 W x.ka x.kc x.K /\ RdR W x.ra x.R
def PsG (okp : PrV -> Prop) (w : World) (T : List Pr) (r : Ending) (w' : World) : Prop := ∃ a c P, r = .returned (.slice a P.length c) /\ Below w.heap.size w w' /\ P.map prC = T /\ (∀ p ∈ P, okp p) /\ P.length <= c /\ (a = none -> c = 0) /\ P.length <= 2000000 /\ ∀ S : Nat -> Prop, (∀ k, S k -> k < w.heap.size) -> zs_ S w' fun W' => zp_ W' a P
def okK (p : PrV) : Prop := zH_ p.K /\ rOk (p.R.map P1.bs)
structure PxP (okp : PrV -> Prop) (b : Nat) (ro : World -> Option Nat) (T : List Pr) (k : Nat) (x : PrV) (W : World) : Prop where
 at_ : T[k]? = some (prC x)
 ok : okp x
 lies : Hg b ro W (QP x)
theorem PxP.kp {okp : PrV -> Prop} {b : Nat} {ro : World -> Option Nat} {T : List Pr} {k : Nat} {x : PrV} {A B : World} (h : PxP okp b ro T k x A) (q : KpO b ro A B) : PxP okp b ro T k x B := ⟨h.at_, h.ok, h.lies.kp q⟩
theorem over80_x (okp : PrV -> Prop) (mm : Nat) (hm : 1 <= mm) (Bs B1 B2 : Nat) (T : List Pr) (w : World) (ro : World -> Option Nat) (hB : Boxed w Bs 142 (.func (.func 80) #[] #[.pointer (some ⟨B1, 0, none⟩), .pointer (some ⟨B2, 0, none⟩)]))
  (hN : ∀ W, Below w.heap.size w W -> Calls prog 80 #[.pointer (some ⟨B1, 0, none⟩), .pointer (some ⟨B2, 0, none⟩)] W (PsG okp W T)) (hro : ∀ W, Below w.heap.size w W -> ro W = none) (hrb : ∀ A B, w.heap.size <= A.heap.size -> Below A.heap.size A B -> ro B = ro A) :
  SeqX Fence.wide mm prog 106 #[.pointer (some ⟨Bs, 0, none⟩)] encP (KpO (w.heap.size + 2) ro) (PxP okp (w.heap.size + 2) ro T) T.length w := fun lp J Jx W hW hW2 hJ hJx hY h0 => by
 have hb : Boxed W Bs 142 (.func (.func 80) #[] #[.pointer (some ⟨B1, 0, none⟩), .pointer (some ⟨B2, 0, none⟩)]) := (hW.block Bs hB.lt).trans hB
 exact Xb3
theorem over84_x (okp : PrV -> Prop) (mm : Nat) (hm : 1 <= mm) (Bs B1 B2 B3 : Nat) (T : List Pr) (w : World) (ro : World -> Option Nat) (hB : Boxed w Bs 142 (.func (.func 84) #[] #[.pointer (some ⟨B1, 0, none⟩), .pointer (some ⟨B2, 0, none⟩), .pointer (some ⟨B3, 0, none⟩)]))
  (hN : ∀ W, Below w.heap.size w W -> Calls prog 84 #[.pointer (some ⟨B1, 0, none⟩), .pointer (some ⟨B2, 0, none⟩), .pointer (some ⟨B3, 0, none⟩)] W (PsG okp W T)) (hro : ∀ W, Below w.heap.size w W -> ro W = none) (hrb : ∀ A B, w.heap.size <= A.heap.size -> Below A.heap.size A B -> ro B = ro A) :
  SeqX Fence.wide mm prog 106 #[.pointer (some ⟨Bs, 0, none⟩)] encP (KpO (w.heap.size + 2) ro) (PxP okp (w.heap.size + 2) ro T) T.length w := fun lp J Jx W hW hW2 hJ hJx hY h0 => by
 have hb : Boxed W Bs 142 (.func (.func 84) #[] #[.pointer (some ⟨B1, 0, none⟩), .pointer (some ⟨B2, 0, none⟩), .pointer (some ⟨B3, 0, none⟩)]) := (hW.block Bs hB.lt).trans hB
 exact Xb3
end
section
open Go.Maps Go.Shelf
attribute [local go_sem] Oper.semAt_some
def roB (b : Nat) (W : World) : Option Nat := (W.cell? ⟨b, 0, none⟩).bind Value.ownBlock
theorem roB_of {b : Nat} {W : World} {t : TypeId} {v : Value} (h : Boxed W b t v) : roB b W = v.ownBlock := by unfold roB; rw [h.cell]; rfl
theorem QB_ {b : Nat} {A B : World} (h : B.heap[b]? = A.heap[b]?) : roB b B = roB b A := by unfold roB; rw [World.cell?_of_block (w := A) (w' := B) (a := ⟨b, 0, none⟩) h]
theorem pcl_one (y : PrV) : ∀ u ∈ pcl y, u.oneCell' = true := fun u hu => by
 simp [pcl] at hu
 rcases hu with rfl | rfl <;> rfl
theorem Qk_ {A B : World} {T : Nat -> Prop} {b : Nat} {cs : Array Value} {t : TypeId} (h : zg_ A b cs t) (o : Off T A B) (hn : ¬ T b) : zg_ B b cs t := (o.block b h.lt hn).trans h
structure CoI (okp : PrV -> Prop) (w : World) (T : List Pr) (k : Nat) (v : Value) (L : List PrV) (W : World) : Prop where
 box : Boxed W w.heap.size 69 v
 own : W.ownsRow (w.heap.size + 3) 78 2 v k (zi_ L)
 len : L.length = k
 at_ : L.map prC = T.take k
 ok : ∀ x ∈ L, okp x
 lies : ∀ x ∈ L, Hg (w.heap.size + 3) (roB w.heap.size) W (QP x)
 below : Below w.heap.size w W
theorem CoI.off {okp : PrV -> Prop} {w : World} {T : List Pr} {k : Nat} {v : Value} {L : List PrV} {A B : World} (h : CoI okp w T k v L A) (o : Off (fun j => j = w.heap.size + 1 ∨ j = w.heap.size + 1 + 1) A B) : CoI okp w T k v L B := by
 have hb := o.block w.heap.size h.box.lt Xt0
 refine ⟨hb.trans h.box, zm_ h.own o (fun k hk => by omega), h.len, h.at_, h.ok, fun x hx => (h.lies x hx).kp ⟨o.os, o.tape, o.output, o.size, fun k hk hb _ => o.block k hk Xt0, fun k hk => .inl (by rw [← QB_ hb]; exact hk)⟩, Off.below h.below o h.below.size (fun k hk => by omega)⟩
theorem papp_law (okp : PrV -> Prop) (w : World) (Bs : Nat) (T : List Pr) (hT : T.length <= 2000000)
  (hseq : SeqX Fence.wide 5 prog 106 #[.pointer (some ⟨Bs, 0, none⟩)] encP (KpO (w.heap.size + 3) (roB w.heap.size)) (PxP okp (w.heap.size + 3) (roB w.heap.size) T) T.length (w.alloc (.cells #[.slice none 0 0] 69))) :
  Calls prog 103 #[.slice none 0 0, .func (.func 106) #[] #[.pointer (some ⟨Bs, 0, none⟩)]] w (PsG okp w T) := by
 obtain ⟨N, hN⟩ := gtx (T.length)
 rw [hN] at hT hseq
 have HN := hid hN
 obtain ⟨i0, hi, hz0, hz1, hz2⟩ := info_parts QV_
 clear hN
 refine (callsIn_wide (n := 6)).1 ?_
 refine callsIn_of_wp_marks func103 rfl trivial ?_ rfl
 simp only [ntmps103, List.size_toArray, List.length_cons, List.length_nil, Nat.reduceAdd, Nat.reduceSub, Array.replicate_succ, Array.replicate_zero, List.push_toArray, List.append_toArray, List.nil_append, List.cons_append]
 gi_wp2_with fail
 have hbw : Below w.heap.size w (w.alloc (.cells #[.slice none 0 0] 69)) := bl1 _ _
 have bL := Boxed.new w 69 (.slice none 0 0)
 have hsz : (w.alloc (.cells #[.slice none 0 0] 69)).heap.size = w.heap.size + 1 := by simp
 obtain ⟨W0, hW0⟩ := gtx (w.alloc (.cells #[.slice none 0 0] 69))
 rw [hW0] at bL hbw hsz hseq ⊢
 clear hW0
 refine jl_ rfl Xt0 (gf := 106) (lb := #[.pointer (some ⟨Bs, 0, none⟩)]) rfl trivial (enters_of func106 Xt3 rfl) hseq (fun h k => h.trans k)
  (fun W o' => KpO.put o' Xt0 (QB_ (World.putObj_heap_other Xt0))) (fun k x W o' h => h.kp (KpO.put o' Xt0 (QB_ (World.putObj_heap_other Xt0)))) (fun _ => rfl)
  (fun k W => ∃ v L, CoI okp w T k v L W) (fun _ _ => False)
  (fun k A B h o => by obtain ⟨v, L, h⟩ := h; rw [hsz] at o; exact ⟨v, L, h.off o⟩) (fun k A B h o => h)
  ⟨_, [], bL, World.ownsRow_nil _ _ _ _, rfl, by simp, fun x hx => (nomatch hx), fun x hx => (nomatch hx), hbw⟩
  (fun x a' W => ∃ B, a' = { tmps := #[.slice none 0 0, .func (.func 106) #[] #[.pointer (some ⟨Bs, 0, none⟩)], .pointer (some ⟨w.heap.size, 0, none⟩), undef, .slice none 0 0, .pointer (some ⟨B, 0, none⟩), .func (.func 106) #[] #[.pointer (some ⟨Bs, 0, none⟩)], .agg (pcl x).toArray, undef, undef, undef, undef, undef], defers := [] } /\ zg_ W B (pcl x).toArray 78 /\ w.heap.size + 3 <= B)
  (fun x a' _ A A' h o => by obtain ⟨B, h1, h2, h3⟩ := h; exact ⟨B, h1, Qk_ h2 o Xt0, h3⟩)
  ?assign ?body ?done ?stop
 case assign =>
  rintro lp k x W K hk hI hPx hK
  dsimp only [encP]
  obtain ⟨v, L, hI⟩ := hI
  have hsW := hI.box.lt
  have hbW := hPx.lies.size
  unfold pcl
  gi_wp2
  have hbl := bl1 W (.cells (pcl x).toArray 78)
  have hro := QB_ (b := w.heap.size) (hbl.block w.heap.size hsW)
  exact hK _ _ ((KeepsOthers.alloc W _).from _) (KpO.below hbl hro) ⟨v, L, hI.off (Off.of hbl)⟩ (hPx.kp (KpO.below hbl hro)) ⟨W.heap.size, rfl, zg_.new W _ _, hbW⟩
 case body =>
  rintro lp k x a' W hk ⟨v, L, hI⟩ hPx ⟨B, rfl, hbx, hBB⟩
  have bL1 := hI.box
  have own1 := hI.own
  have cL := bL1.cell
  have fL := bL1.frozen
  have x0 := hbx.cell 0
  have x1 := hbx.cell 1
  unfold pcl at x0 x1
  simp only [gtA, gtB, gtC] at x0 x1
  have hw2 : w.heap.size + 3 <= W.heap.size := by have := hbx.lt; omega
  have hsW := bL1.lt
  have HI := hid hI
  have HPX := hid hPx
  have HPL := hid (show k < 2000000 by omega)
  clear hk hI hPx
  gi_wp2_with (gi_at_builtin; go_loud (refine wpListIn_append_own_at _ rfl _ _ 69 rfl (w.heap.size + 3) 78 i0 (.agg #[.slice none 0 0, .slice none 0 0]) 2 48 underlying69 hi hz0 hz1 hz2 rfl Xt4 _ _ _ rfl (own1.alloc _) ⟨W.heap.size, 0, none⟩ 1 1 (pcl x) rfl rfl (zx_ W _ _ _ rfl) (pcl_one x) Xt48 Xt66 Xt7 ?_))
  intro v' W1 hown' hgrow _ hat
  have hne : some w.heap.size ≠ v.ownBlock := fun e => by
   have := (zb_ own1 e.symm).1
   omega
  have bL2 : Boxed W1 w.heap.size 69 v := (bL1.alloc _).kept hgrow hne
  have ko := (KeepsOthers.alloc W (.cells (pcl x).toArray 78)).trans (yZ_ (own1.alloc _) hgrow)
  have hgl : ∀ j, j < W.heap.size -> some j ≠ v.ownBlock -> W1.heap[j]? = W.heap[j]? := fun j hj hn => (hgrow.block j Xt7 hn).trans ((bl1 W (.cells (pcl x).toArray 78)).block j hj)
  have hgs : W.heap.size + 1 <= W1.heap.size := by have := hgrow.size; simpa using this
  have HKP := hid (And.intro hgrow (And.intro hgl (And.intro hgs hat)))
  have HRO := hid (roB_of bL1)
  have cL2 := bL2.cell
  have fL2 := bL2.frozen
  have hl2 := bL2.lt
  have hown2 : W1.ownsRow (w.heap.size + 3) 78 2 v' (k + 1) (zi_ (L ++ [x])) := by
   rw [zw_]
   have e : zi_ [x] = pcl x := by simp [zi_]
   rw [e]
   exact hown'
  clear cL fL bL1 hgrow own1 hown' x0 x1 hgl hgs hat
  obtain ⟨g, gc, rfl⟩ := zd_ hown2
  gi_wp2_with fail
  have hbn : ∀ u : Value, Boxed (W1.setCell ⟨w.heap.size, 0, none⟩ u) w.heap.size 69 u := fun u => xS_ _ _ _ _ _ bL2
  have hkp : ∀ u : Value, u.ownBlock = (Value.slice g (k + 1) gc).ownBlock -> KpO (w.heap.size + 3) (roB w.heap.size) W (W1.setCell ⟨w.heap.size, 0, none⟩ u) := fun u hu => by
   obtain ⟨q1, q2, q3, q4⟩ := HKP.out
   refine ⟨q1.os, q1.tape, q1.output, by simp; omega, fun j hj hb hn => ?_, fun j hj => ?_⟩
   ·exact (Below.heap_setCell W1 ⟨w.heap.size, 0, none⟩ _ j (show j ≠ w.heap.size by omega)).trans (q2 j hj (fun e => hn (by rw [HRO.out]; exact e.symm)))
   ·rw [roB_of (hbn u), hu] at hj
    rcases q4 with e | e
    ·exact .inl (by rw [HRO.out, ← e]; exact hj)
    ·try rw [World.size_alloc] at e
     rw [hj] at e
     cases e; exact .inr Xt0
  refine ⟨(ko.trans (KeepsOthers.setCell _ _ _)).from _, hkp _ rfl, _, L ++ [x], hbn _, ?_, ?_, ?_, ?_, ?_, ?_⟩
  ·exact ownsRow_setCell_other (a := ⟨w.heap.size, 0, none⟩) hown2 (fun e => by
    have : w.heap.size + 3 <= w.heap.size := (zb_ hown2 e).1
    omega) _
  ·rw [List.length_append, HI.out.len]; rfl
  ·rw [List.map_append, HI.out.at_, List.take_add_one, HPX.out.at_]; rfl
  ·intro y hy
   rcases List.mem_append.1 hy with hy | hy
   ·exact HI.out.ok y hy
   ·rw [List.mem_singleton] at hy; subst hy; exact HPX.out.ok
  ·intro y hy
   rcases List.mem_append.1 hy with hy | hy
   ·exact (HI.out.lies y hy).kp (hkp _ rfl)
   ·rw [List.mem_singleton] at hy; subst hy; exact HPX.out.lies.kp (hkp _ rfl)
  ·refine Below.setCell (p := ⟨w.heap.size, 0, none⟩) (HI.out.below.trans ?_) (Nat.le_refl _) _
   obtain ⟨q1, q2, q3, q4⟩ := HKP.out
   refine ⟨q1.os, q1.tape, q1.output, by omega, fun j hj => q2 j Xt0 (fun e => ?_)⟩
   have := (zb_ HI.out.own e.symm).1
   omega
 case done =>
  rintro W ⟨v, L, hI⟩ hK
  have cL := hI.box.cell
  rw [hsz] at hK ⊢
  have hI2 := hI.off (B := W.putObj (w.heap.size + 1) (.deferred none)) ⟨rfl, rfl, rfl, by simp, fun j _ hj => World.putObj_heap_other fun e => hj (.inl e)⟩
  obtain ⟨va, vc, rfl⟩ := zd_ hI2.own
  have HI := hid hI2
  clear hI hI2
  gi_wp2
  refine ⟨by simp, .inl ⟨_, _, rfl, run_takeDeferred hK, ?_⟩⟩
  have hlen : L.length = N := HI.out.len
  refine ⟨.slice va N vc, ?_, va, vc, L, by rw [hlen], HI.out.below, ?_, HI.out.ok, ?_, ?_, by omega, fun S' hS' W' o => ?_⟩
  ·simp [results, f103, go_sem]
  ·rw [HI.out.at_, ← HN.out, List.take_of_length_le (Nat.le_refl _)]
  ·rw [hlen]; exact (zJ_ HI.out.own).1
  ·exact (zJ_ HI.out.own).2
  ·exact yi_ (zm_ HI.out.own o (fun k hk => by have := hS' k hk; omega)) hlen fun p hp => (HI.out.lies p hp).stay (fun k hk => by have := hS' k hk; omega) W' o
 case stop =>
  rintro k W hk hf hK
  exact hf.elim
theorem pcol_law (okp : PrV -> Prop) (w : World) (Bs : Nat) (T : List Pr) (hT : T.length <= 2000000)
  (hseq : SeqX Fence.wide 5 prog 106 #[.pointer (some ⟨Bs, 0, none⟩)] encP (KpO (w.heap.size + 3) (roB w.heap.size)) (PxP okp (w.heap.size + 3) (roB w.heap.size) T) T.length (w.alloc (.cells #[.slice none 0 0] 69))) :
  Calls prog 72 #[.func (.func 106) #[] #[.pointer (some ⟨Bs, 0, none⟩)]] w (PsG okp w T) := by
 have HS := hid (papp_law okp w Bs T hT hseq)
 clear hseq
 go_enter func72, ntmps72
 go_wp2_with fail
 refine HS.out.mono ?_; rintro r w1 ⟨a, c, P, rfl, hq⟩
 have HQ := hid hq
 clear hq
 go_wp2_with fail
 go_ret
 exact ⟨a, c, P, rfl, HQ.out⟩
end
section
open Go.Maps Go.Shelf
theorem over_law (w : World) (g : Nat) (lb : Array Value) : Calls prog 79 #[.func (.func g) #[] lb] w fun r w' => r = .returned (.func (.func 106) #[] #[.pointer (some ⟨w.heap.size, 0, none⟩)]) /\ w' = w.alloc (.cells #[.func (.func g) #[] lb] 142) := by
 have hmf := z3_
 go_enter func79, ntmps79
 exact Xb19
theorem jB_ (w : World) (p : Value) (pp : Option Addr) (hp : p = .pointer pp) (t : Int) : Calls prog 47 #[p, .int .i64 t] w fun r w' => r = .returned (.func (.func 106) #[] #[.pointer (some ⟨w.heap.size + 2, 0, none⟩)]) /\ Boxed w' w.heap.size 28 p /\ Boxed w' (w.heap.size + 1) 3 (.int .i64 t) /\ Boxed w' (w.heap.size + 2) 142 (.func (.func 80) #[] #[.pointer (some ⟨w.heap.size, 0, none⟩), .pointer (some ⟨w.heap.size + 1, 0, none⟩)]) /\ Below w.heap.size w w' := by
 subst hp
 have hmf := z3_
 go_enter func47, ntmps47
 go_wp2_with fail
 obtain ⟨W, hW⟩ := gtx ((w.alloc (.cells #[.pointer pp] 28)).alloc (.cells #[.int .i64 t] 3))
 have h1 : Boxed W w.heap.size 28 (.pointer pp) := by rw [← hW]; exact (Boxed.new w 28 (.pointer pp)).alloc _
 have h2 : Boxed W (w.heap.size + 1) 3 (.int .i64 t) := by rw [← hW]; have := Boxed.new (w.alloc (.cells #[.pointer pp] 28)) 3 (.int .i64 t); rwa [World.size_alloc] at this
 have h3 : Below w.heap.size w W := by rw [← hW]; exact ((Below.refl _ w).alloc (Nat.le_refl _) _).alloc Xt5 _
 have h4 : W.heap.size = w.heap.size + 2 := by rw [← hW]; simp
 rw [hW]
 have HW := hid (And.intro h1 (And.intro h2 (And.intro h3 h4)))
 clear hW h1 h2 h3 h4
 refine (over_law W 80 _).mono ?_; rintro r w1 ⟨rfl, rfl⟩
 go_wp2_with fail
 go_ret
 obtain ⟨h1, h2, h3, h4⟩ := HW.out
 have h5 := Boxed.new W 142 (.func (.func 80) #[] #[.pointer (some ⟨w.heap.size, 0, none⟩), .pointer (some ⟨w.heap.size + 1, 0, none⟩)])
 rw [h4] at h5 ⊢
 exact ⟨rfl, h1.alloc _, h2.alloc _, h5, za_ h3 (bl1 _ _)⟩
theorem jn_ {S : Nat -> Prop} {m : Md} {w : World} (h : MdR S w m) (hS : ∀ k, S k -> k < w.heap.size) (B1 B2 : Nat) (t : Nat) (b1 : Boxed w B1 28 (.pointer (some ⟨m.p, 0, none⟩))) (b2 : Boxed w B2 3 (.int .i64 (t : Int))) (ht : t < m.tabs.length) (hf : ∀ z ∈ m.tabs, z.2.length <= 900000) :
  Calls prog 80 #[.pointer (some ⟨B1, 0, none⟩), .pointer (some ⟨B2, 0, none⟩)] w (PsG okK w (m.P.getD t [])) := by
 have HM := hid (show Calls prog 52 #[.pointer (some ⟨m.p, 0, none⟩), .int .i64 (t : Int)] w fun e w' => e = .returned (.bool true) /\ w = w' from (yV_ h t).mono (by
  rintro e w' ⟨h1, h2⟩
  refine ⟨?_, h2⟩
  rw [h1, decide_eq_true Xt0]))
 have HH := hid h
 have HSS := hid hS
 have HX := hid (And.intro b1 b2)
 have HTL := hid ht
 have HF := hid hf
 have c1 := b1.cell
 have c2 := b2.cell
 clear h hS b1 b2 ht hf
 go_enter func80, ntmps80
 go_upto_region 3 with (go_at_call 52; refine HM.out.mono ?_; rintro e w' ⟨rfl, rfl⟩)
 refine rgw w (Below.refl _ _).drew fun hH => ?_
 refine tkr 0 rfl Xf7 ?_
 refine tkr 2 rfl (fun W hSw => by have m := (zf_ HX.out.2 hSw).cell; exact tks) ?_
 refine tk1 1 rfl fun K hK => ?_
 go_simp
 refine (xf_ (HH.out.below hH) (fun k hk => Nat.lt_of_lt_of_le (HSS.out k hk) hH.size)).mono ?_; rintro r w1 ⟨S1, x1, rfl, hb1, ht1, hws1, hrs1, hsa1, hsb1⟩
 have HB1 := hid (za_ hH hb1)
 have HT1 := hid (And.intro ht1 hws1)
 clear hb1 ht1 hws1 hrs1 hsa1 hsb1
 go_wp2_with fail
 refine hK.out _ _ HB1.out fun hH => ?_
 refine stP ?_
 refine tk1 3 rfl fun K hK => ?_
 go_simp
 refine (qj_ HT1.out.1 t HTL.out HF.out).mono ?_; rintro r w2 ⟨pa, pc, P, rfl, hb2, hq1, hq2, hq3, hq4, hq5, hq6⟩
 have hq : P.map prC = _ /\ _ /\ _ /\ _ /\ _ /\ ∀ S : Nat -> Prop, (∀ k, S k -> k < _) -> zs_ S w2 fun W' => zp_ W' pa P := ⟨hq1, hq2, hq3, hq4, hq5, fun S hS => (hq6 S hS).mono fun _ h => h.1⟩
 have HB2 := hid (za_ HB1.out hb2)
 have HQ := hid hq
 clear hb2 hq
 go_wp2_with fail
 refine hK.out _ _ HB2.out fun hH => ?_
 refine stP ?_
 refine tkq 4 ?_
 refine adn ?_
 skip
 go_wp2_with fail
 go_ret
 obtain ⟨q1, q2, q3, q4, q5, q6⟩ := HQ.out
 refine ⟨pa, pc, P, rfl, HB2.out, ?_, q2, q3, q4, by omega, fun S' hS' => q6 S' (fun k hk => Nat.lt_of_lt_of_le (hS' k hk) HB1.out.size)⟩
 rw [q1]
 unfold Tl.T
 rw [HT1.out.2]; rfl
theorem table1_no {S : Nat -> Prop} {m : Md} {w : World} (h : MdR S w m) (B1 B2 : Nat) (t : Int) (b1 : Boxed w B1 28 (.pointer (some ⟨m.p, 0, none⟩))) (b2 : Boxed w B2 3 (.int .i64 t)) (ht : ¬ (0 <= t /\ t < m.tabs.length)) :
  Calls prog 80 #[.pointer (some ⟨B1, 0, none⟩), .pointer (some ⟨B2, 0, none⟩)] w (PsG okK w []) := by
 have HM := hid (show Calls prog 52 #[.pointer (some ⟨m.p, 0, none⟩), .int .i64 t] w fun e w' => e = .returned (.bool false) /\ w = w' from (yV_ h t).mono (by
  rintro e w' ⟨h1, h2⟩
  refine ⟨?_, h2⟩
  rw [h1, decide_eq_false ht]))
 have c1 := b1.cell
 have c2 := b2.cell
 clear h b1 b2 ht
 go_enter func80, ntmps80
 go_wp2_with (go_at_call 52; refine HM.out.mono ?_; rintro e w' ⟨rfl, rfl⟩)
 go_ret
 exact ⟨none, 0, [], rfl, Below.refl _ _, rfl, fun p hp => (nomatch hp), Nat.le_refl _, fun _ => rfl, Nat.zero_le _, fun S' _ W' _ k x hx => by simp at hx⟩
theorem tabcol_law {S : Nat -> Prop} {m : Md} {w : World} (h : MdR S w m) (hS : ∀ k, S k -> k < w.heap.size) (Bs B1 B2 : Nat) (t : Nat) (b1 : Boxed w B1 28 (.pointer (some ⟨m.p, 0, none⟩))) (b2 : Boxed w B2 3 (.int .i64 (t : Int))) (b3 : Boxed w Bs 142 (.func (.func 80) #[] #[.pointer (some ⟨B1, 0, none⟩), .pointer (some ⟨B2, 0, none⟩)])) (ht : t < m.tabs.length) (hf : ∀ z ∈ m.tabs, z.2.length <= 900000) (hT : (m.P.getD t []).length <= 2000000) :
  Calls prog 72 #[.func (.func 106) #[] #[.pointer (some ⟨Bs, 0, none⟩)]] w (PsG okK w (m.P.getD t [])) := by
 obtain ⟨W0, hW0⟩ := gty (w.alloc (.cells #[.slice none 0 0] 69))
 have hb : Below w.heap.size w W0 := by rw [hW0]; exact bl1 _ _
 have hbx : Boxed W0 w.heap.size 69 (.slice none 0 0) := by rw [hW0]; exact Boxed.new w 69 _
 have hsz : W0.heap.size = w.heap.size + 1 := by rw [hW0]; simp
 have key := over80_x okK 5 Xt0 Bs B1 B2 (m.P.getD t []) W0 (roB w.heap.size) (zf_ b3 hb) (fun W hW => by
   have hw := za_ hb (hW.mono (Nat.le_refl _))
   exact jn_ (h.below hw) (fun k hk => Nat.lt_of_lt_of_le (hS k hk) hw.size) B1 B2 t (zf_ b1 hw) (zf_ b2 hw) ht hf)
  (fun W hW => by rw [roB_of (zf_ hbx hW)]; rfl) (fun A B hA hAB => QB_ (hAB.block _ Xt0))
 rw [hsz, hW0] at key
 exact pcol_law okK w Bs _ hT key
def okI (p : PrV) : Prop := Byt p.K /\ p.K.length <= 1000 /\ rOk (p.R.map P1.bs)
def idxP (j : Job) (t x : Int) (T : List Pr) : List Pr := (yL_ j t (trV j t x).1 T).map fun e => (e.1, e.2.2)
def eiP (e : EnV) : PrV := ⟨e.ka, e.kc, e.K, e.p.ra, e.p.rc, e.p.R⟩
theorem front_le : ∀ f : List Int, (zk_ f).length <= 2 * f.length
 | [] => by simp [zk_]
 | a :: f => by
  have ih := front_le f
  have e : zk_ (a :: f) = esc a ++ zk_ f := by rw [show a :: f = [a] ++ f from rfl, ye_, xy_]
  rw [e, List.length_append]
  have : (esc a).length <= 2 := by unfold esc; split <;> simp
  simp only [List.length_cons]; omega
theorem entry_le (f K : List Int) : (zu_ f K).length <= 2 * f.length + 2 + K.length := by
 unfold zu_
 have := front_le f
 simp only [List.length_append, List.length_cons, List.length_nil]; omega
theorem q1_ {j : Job} {t tr : Int} {T : List Pr} {e : List Int × Pr} (h : e ∈ yL_ j t tr T) : e.2 ∈ T /\ e ∈ entP j t tr e.2 := by
 unfold yL_ at h
 have h := (List.mergeSort_perm _ _).mem_iff.1 h
 unfold qp_ at h
 obtain ⟨p, hp, he⟩ := List.mem_flatMap.1 h
 have : e.2 = p := by
  unfold entP at he
  obtain ⟨x, _, rfl⟩ := List.mem_map.1 he
  rfl
 rw [this]; exact ⟨hp, he⟩
theorem mindex_law (w : World) (p : Value) (pp : Option Addr) (hp : p = .pointer pp) (t x : Int) : Calls prog 49 #[p, .int .i64 t, .int .i64 x] w fun r w' => r = .returned (.func (.func 106) #[] #[.pointer (some ⟨w.heap.size + 3, 0, none⟩)]) /\ Boxed w' w.heap.size 28 p /\ Boxed w' (w.heap.size + 1) 3 (.int .i64 t) /\ Boxed w' (w.heap.size + 2) 3 (.int .i64 x) /\ Boxed w' (w.heap.size + 3) 142 (.func (.func 84) #[] #[.pointer (some ⟨w.heap.size, 0, none⟩), .pointer (some ⟨w.heap.size + 1, 0, none⟩), .pointer (some ⟨w.heap.size + 2, 0, none⟩)]) /\ Below w.heap.size w w' := by
 subst hp
 have hmf := z3_
 go_enter func49, ntmps49
 go_wp2_with fail
 obtain ⟨W, hW⟩ := gtx (((w.alloc (.cells #[.pointer pp] 28)).alloc (.cells #[.int .i64 t] 3)).alloc (.cells #[.int .i64 x] 3))
 have h1 : Boxed W w.heap.size 28 (.pointer pp) := by rw [← hW]; exact ((Boxed.new w 28 (.pointer pp)).alloc _).alloc _
 have h2 : Boxed W (w.heap.size + 1) 3 (.int .i64 t) := by rw [← hW]; have := (Boxed.new (w.alloc (.cells #[.pointer pp] 28)) 3 (.int .i64 t)).alloc (.cells #[.int .i64 x] 3); rwa [World.size_alloc] at this
 have h3 : Boxed W (w.heap.size + 2) 3 (.int .i64 x) := by rw [← hW]; have := Boxed.new ((w.alloc (.cells #[.pointer pp] 28)).alloc (.cells #[.int .i64 t] 3)) 3 (.int .i64 x); rwa [World.size_alloc, World.size_alloc] at this
 have h4 : Below w.heap.size w W := by rw [← hW]; exact (((Below.refl _ w).alloc (Nat.le_refl _) _).alloc Xt5 _).alloc Xt7 _
 have h5 : W.heap.size = w.heap.size + 3 := by rw [← hW]; simp
 rw [hW]
 have HW := hid (And.intro h1 (And.intro h2 (And.intro h3 (And.intro h4 h5))))
 clear hW h1 h2 h3 h4 h5
 refine (over_law W 84 _).mono ?_; rintro r w1 ⟨rfl, rfl⟩
 go_wp2_with fail
 go_ret
 obtain ⟨h1, h2, h3, h4, h5⟩ := HW.out
 have h6 := Boxed.new W 142 (.func (.func 84) #[] #[.pointer (some ⟨w.heap.size, 0, none⟩), .pointer (some ⟨w.heap.size + 1, 0, none⟩), .pointer (some ⟨w.heap.size + 2, 0, none⟩)])
 rw [h5] at h6 ⊢
 exact ⟨rfl, h1.alloc _, h2.alloc _, h3.alloc _, h6, za_ h4 (bl1 _ _)⟩
theorem index1_law {S : Nat -> Prop} {m : Md} {w : World} (h : MdR S w m) (hS : ∀ k, S k -> k < w.heap.size) (C1 C2 C3 : Nat) (t x : Nat) (b1 : Boxed w C1 28 (.pointer (some ⟨m.p, 0, none⟩))) (b2 : Boxed w C2 3 (.int .i64 (t : Int))) (b3 : Boxed w C3 3 (.int .i64 (x : Int))) (ht : t < m.tabs.length) (tx : Int) (htx : m.j.T[t]? = some tx) (hxt : (x : Int) < tx) (hf : ∀ z ∈ m.tabs, z.2.length <= 300000) :
  Calls prog 84 #[.pointer (some ⟨C1, 0, none⟩), .pointer (some ⟨C2, 0, none⟩), .pointer (some ⟨C3, 0, none⟩)] w (PsG okI w (idxP m.j t x (m.P.getD t []))) := by
 have HM := hid (fun X (b : Below w.heap.size w X) => (show Calls prog 52 #[.pointer (some ⟨m.p, 0, none⟩), .int .i64 (t : Int)] X fun e w' => e = .returned (.bool true) /\ X = w' from (yV_ (h.below b) t).mono (by
  rintro e w' ⟨h1, h2⟩
  refine ⟨?_, h2⟩
  rw [h1, decide_eq_true Xt0])))
 have hjl := h.st.now.job
 have htl : t < m.j.T.length := (List.getElem?_eq_some_iff.1 htx).1
 obtain ⟨jb, jo, hja, hjc⟩ := hjl.ls.rd t htl
 rw [List.getD_eq_getElem?_getD, htx] at hjc
 simp only [Option.getD_some] at hjc
 have hbx := h.st.now.box
 have hjn : (t : Int) < (m.j.n : Int) := by have := hjl.len; omega
 have hjn2 : (m.j.n : Int) <= 1000000 := by have := hjl.le; omega
 have HTR := hid (fun X (b : Below w.heap.size w X) => (qA_ m.j t x X (hjl.below b)).mono (fun r w' (h : _ /\ _) => (⟨_, h.1, h.2⟩ : ∃ er, r = .returned (.tuple #[.int .i64 (trV m.j t x).1, .int .i64 er]) /\ Below X.heap.size X w')))
 rw [hja] at HTR
 have HJ := hid (fun X (b : Below w.heap.size w X) => (by
  have hb := hbx.below b
  unfold Md.cs at hb
  rw [hja] at hb
  exact ⟨hb.cell 6, tcb b hjc, hb.cell 0, hb.cell 1, hb.cell 2, hb.cell 3, hb.cell 4, hb.cell 5, hb.cell 6⟩ :
  X.cell? ⟨m.p, 6, none⟩ = some (.slice (some ⟨jb, jo, none⟩) m.j.n m.j.cap) /\ X.cell? ⟨jb, jo + t, none⟩ = some (.int .i64 tx) /\ X.cell? ⟨m.p, 0, none⟩ = some (.int .i64 m.j.w) /\ X.cell? ⟨m.p, 1, none⟩ = some (.int .i64 m.j.l) /\ X.cell? ⟨m.p, 2, none⟩ = some (.int .i64 m.j.d) /\ X.cell? ⟨m.p, 3, none⟩ = some (.int .i64 m.j.c) /\ X.cell? ⟨m.p, 4, none⟩ = some (.int .i64 m.j.k) /\ X.cell? ⟨m.p, 5, none⟩ = some (.int .i64 m.j.e) /\ X.cell? ⟨m.p, 6, none⟩ = some (.slice (some ⟨jb, jo, none⟩) m.j.n m.j.cap)))
 have HH := hid h
 have HSS := hid hS
 have HX := hid (And.intro b1 (And.intro b2 b3))
 have HTL := hid ht
 have HF := hid hf
 have hx0 : ¬ (x : Int) < 0 := by omega
 have hx1 : ¬ tx <= (x : Int) := by omega
 clear h hS b1 b2 b3 ht hf htx hxt hjl htl hja hjc hbx
 go_enter func84, ntmps84
 go_upto_region 1 with (fail)
 refine rgw w (Below.refl _ _).drew fun hH => ?_
 refine tkr 0 rfl Xf7 ?_
 refine tkr 1 rfl Xf9 ?_
 refine tk1 2 rfl fun K hK => ?_
 go_simp
 refine (HM.out _ hH).mono ?_; rintro r w1 ⟨rfl, rfl⟩
 go_wp2_with fail
 refine hK.out _ _ hH fun hH => ?_
 refine stP ?_
 refine tkq2 3 4 ?_
 refine tkr 5 rfl Xf16 ?_
 refine tkp 6 (.bool false) rfl (.inl ⟨by rfl, ?_⟩) ?_
 ·exact Xb69
 refine tkq 7 ?_
 refine tkp 8 (.bool false) rfl (.inl ⟨by rfl, ?_⟩) ?_
 ·exact Xb69
 refine tkr 9 rfl Xf16 ?_
 refine tkr 10 rfl Xf7 ?_
 refine tkq3 11 12 13 ?_
 refine tkr 14 rfl (fun W hSw => by have m := (HJ.out W hSw).1; exact tks) ?_
 refine tkr 15 rfl Xf9 ?_
 refine tkq 16 ?_
 refine tkr 17 rfl (fun W hSw => by have m := (HJ.out W hSw).2; exact tks) ?_
 refine tkp 18 (.bool false) rfl (.inl ⟨by rfl, ?_⟩) ?_
 ·exact Xb69
 refine tkq 19 ?_
 refine adn ?_
 skip
 clear HM
 go_upto_region 3 with (fail)
 refine wp_region_held_drew (S := (fun X => Below w.heap.size w X)) Xt3 (hH.drew) fun hH => ?_
 refine tkr 0 rfl Xf7 ?_
 refine tkq2 1 2 ?_
 refine tkr 3 rfl (fun W hSw => by have m := (HJ.out W hSw).2.2; exact tks) ?_
 refine tkr 4 rfl Xf9 ?_
 refine tkr 5 rfl Xf16 ?_
 refine tk1 6 rfl fun K hK => ?_
 go_simp
 refine (HTR.out _ hH).mono ?_; rintro r w1 ⟨er, rfl, hb1⟩
 have HB1 := hid (za_ hH hb1)
 clear hb1
 go_wp2_with fail
 refine hK.out _ _ HB1.out fun hH => ?_
 refine stP ?_
 refine tkq4 7 8 9 10 ?_
 refine tkq 11 ?_
 refine adn ?_
 skip
 go_upto_region 5 with (fail)
 refine wp_region_held_drew (S := (fun X => Below w.heap.size w X)) Xt3 (hH.drew) fun hH => ?_
 refine tkr 0 rfl Xf7 ?_
 refine tkr 2 rfl Xf9 ?_
 refine tkq2 3 6 ?_
 refine tk1 1 rfl fun K hK => ?_
 go_simp
 refine (xf_ (HH.out.below hH) (fun k hk => Nat.lt_of_lt_of_le (HSS.out k hk) hH.size)).mono ?_; rintro r w5 ⟨S1, x1, rfl, hb1, ht1, hws1, hrs1, hsa1, hsb1⟩
 have HB5 := hid (za_ hH hb1)
 have HT1 := hid (And.intro ht1 hws1)
 clear hb1 ht1 hws1 hrs1 hsa1 hsb1
 go_wp2_with fail
 refine hK.out _ _ HB5.out fun hH => ?_
 refine stP ?_
 refine tk1 4 rfl fun K hK => ?_
 go_simp
 refine (qv_ esort HT1.out.1 t HTL.out (trV m.j t x).1 HF.out).mono ?_; rintro r w6 ⟨ea, ec, L, rfl, hb6, hq1, hq2, hq3, hq4⟩
 have HB6 := hid hb6
 have HQ := hid (And.intro hq1 hq3)
 have HQ4 := hid hq4
 obtain ⟨n, hn⟩ := gtx (L.length)
 rw [hn] at hq2 ⊢
 have HLN := hid hn
 clear hb6 hq1 hq3 hq4 hn
 go_wp2_with fail
 refine hK.out _ _ (za_ HB5.out HB6.out) fun hH => ?_
 refine stP ?_
 refine tkq 5 ?_
 refine adn ?_
 skip
 have hni : (n : Int) <= 2000000 := by omega
 have HEN := hid (show ∀ W', Off (fun k => k < w5.heap.size ∨ w6.heap.size <= k) w6 W' -> EnsR W' ea L from fun W' o => HQ4.out (fun k => k < w5.heap.size) (fun k hk => hk) W' ⟨o.os, o.tape, o.output, o.size, fun k hk hn => o.block k hk (fun e => e.elim hn Xt76)⟩)
 have HPN := hid (show ∀ W, Below w6.heap.size w6 W -> EnsR W ea L from fun W b => HEN.out W (Off.of b))
 clear HQ4 HTR HJ
 go_wp2_with fail
 go_loopw [6, 45] (fun v i wr => ∃ k : Nat, k <= n /\ i = .int .i64 (k : Int) /\ Hid (wr.ownsRow w6.heap.size 78 2 v k (zi_ ((L.take k).map eiP))) /\ Hid (Below w6.heap.size w6 wr)) (fun _ i _ => n - (intOf i).toNat)
 case atStart => exact ⟨0, by omega, rfl, hid (World.ownsRow_nil _ _ _ _), hid (Below.refl _ _)⟩
 case round =>
  obtain ⟨k, hk, rfl, HOV, HBR⟩ := hrel
  obtain ⟨va, vc, hv⟩ := zd_ HOV.out
  subst hv
  by_cases hlt : k < n
  ·have d1 : (k : Int) < (n : Int) := by omega
   obtain ⟨y, hy⟩ : ∃ y, L[k]? = some y := ⟨_, List.getElem?_eq_getElem Xt77⟩
   obtain ⟨b1, o1, hea, p0, p1, p2, _⟩ := HPN.out wr HBR.out k y hy
   have HTK := hid (show (L.take (k + 1)).map eiP = (L.take k).map eiP ++ [eiP y] by rw [List.take_add_one, hy, List.map_append]; rfl)
   have HP3 := hid (show k + 1 <= 2097152 by omega)
   clear hy
   subst hea
   go_wp2_with (at_builtin; refine zv_ xn_ rfl _ _ rfl w6.heap.size (.slice va k vc) k (zi_ ((L.take k).map eiP)) rfl ((ze_ HOV.out (bl1 wr _)).alloc _) ⟨wr.heap.size + 1, 0, none⟩ 1 1 [.slice y.ka y.K.length y.kc, .slice y.p.ra y.p.R.length y.p.rc] rfl rfl (by rw [show wr.heap.size + 1 = (wr.alloc (.cells #[.slice y.ka y.K.length y.kc, .slice y.p.ka y.p.K.length y.p.kc, .slice y.p.ra y.p.R.length y.p.rc] 149)).heap.size by simp]; exact zx_ _ _ _ _ rfl) Xt12 HP3.out (Nat.le_trans HBR.out.size Xt7) ?_; intro v8 w8 hown8 hgrow8 hat8; have HO8 := hid hown8; have HG8 := hid hgrow8; have HAT8 := hid hat8; clear hown8 hgrow8 hat8)
   go_roundw
   case rel =>
    refine ⟨k + 1, by omega, by go_num, hid ?_, hid ?_⟩
    ·rw [HTK.out, zw_]; exact HO8.out
    ·have b2 : Below wr.heap.size wr ((wr.alloc (.cells #[.slice y.ka y.K.length y.kc, .slice y.p.ka y.p.K.length y.p.kc, .slice y.p.ra y.p.R.length y.p.rc] 149)).alloc (.cells #[.slice y.ka y.K.length y.kc, .slice y.p.ra y.p.R.length y.p.rc] 78)) := ((Below.refl _ _).alloc (Nat.le_refl _) _).alloc Xt5 _
     exact Off.below HBR.out ((Off.of (S := fun k' => Value.ownBlock (.slice va k vc) = some k') b2).trans (Off.of_row HG8.out)) HBR.out.size (fun j hj => (zb_ HOV.out hj).1)
   case measure => simp [intOf]; omega
  ·have d1 : ¬ (k : Int) < (n : Int) := by omega
   have HKE := hid (show k = n by omega)
   go_wp2_with fail
   go_ret
   have hkn := HKE.out
   have hln := HLN.out
   have htk : L.take k = L := List.take_of_length_le Xt0
   have hown := HOV.out
   rw [htk] at hown
   have hl2 : (L.map eiP).length = k := by rw [List.length_map]; omega
   obtain ⟨hcn, hna⟩ := zJ_ hown
   refine ⟨va, vc, L.map eiP, by show Ending.returned (.slice va k vc) = _; rw [hl2], za_ HB5.out (za_ HB6.out (HBR.out.mono (Nat.le_refl _))), ?_, ?_, by rw [hl2]; exact hcn, hna, by rw [hl2]; omega, fun S' hS' W' o => ?_⟩
   ·unfold idxP
    have h1 := HQ.out.1
    have hws : x1.T m t = m.P.getD t [] := by unfold Tl.T; rw [HT1.out.2]; rfl
    rw [hws] at h1
    try rw [List.getD_eq_getElem?_getD] at h1
    rw [← h1, List.map_map, List.map_map]; rfl
   ·intro p hp
    obtain ⟨e, he, rfl⟩ := List.mem_map.1 hp
    obtain ⟨e1, e2, e3⟩ := HQ.out.2 e he
    refine ⟨e1, ?_, e3⟩
    have hm : enC e ∈ yL_ m.j t (trV m.j t x).1 (x1.T m t) := by rw [← HQ.out.1]; exact List.mem_map.2 ⟨e, he, rfl⟩
    obtain ⟨h2, h3⟩ := q1_ hm
    obtain ⟨_, f, hf1, _, _, hf4⟩ := qG_ e2 e3 h3
    show e.K.length <= 1000
    have h4 : e.K = zu_ f e.p.K := hf4
    have := entry_le f e.p.K
    rw [h4]
    have := e2.2.2
    omega
   ·have oE : Off (fun j => j < w5.heap.size ∨ w6.heap.size <= j) w6 W' := (Off.of HBR.out).trans (o.mono fun j hj => .inl (Nat.lt_of_lt_of_le (hS' j hj) HB5.out.size))
    refine yi_ (zm_ hown o (fun j hj => Nat.lt_of_lt_of_le (hS' j hj) (Nat.le_trans HB5.out.size HB6.out.size))) hl2 fun p hp => ?_
    obtain ⟨e, he, rfl⟩ := List.mem_map.1 hp
    obtain ⟨i, hi⟩ := List.mem_iff_getElem?.1 he
    obtain ⟨_, _, _, _, _, _, l⟩ := HEN.out W' oE i e hi
    exact ⟨l.k, l.pr⟩
end
section
open Go.Maps Go.Shelf
attribute [local go_sem] Oper.semAt_some
def lastK (T : List Pr) (k : Nat) : List Int := ((T.take k).getLast?.map Prod.fst).getD []
theorem KpO.set {b : Nat} (W : World) (p : Addr) (v : Value) (h : p.block < b) : KpO b (fun _ => none) W (W.setCell p v) := ⟨rfl, rfl, rfl, by simp, fun k _ hb _ => Below.heap_setCell W p v k Xt0, fun _ h => nomatch h⟩
structure ElI (w : World) (a : Option Addr) (n c : Nat) (x : Nat) (T : List Pr) (k : Nat) (W : World) : Prop where
 b4 : Boxed W w.heap.size 69 (.slice a n c)
 b5 : Boxed W (w.heap.size + 1) 3 (.int .i64 (x : Int))
 b6 : Boxed W (w.heap.size + 1 + 1) 3 (.int .i64 0)
 b7 : Boxed W (w.heap.size + 1 + 1 + 1) 3 (.int .i64 (k : Int))
 b8 : Boxed W (w.heap.size + 1 + 1 + 1 + 1) 9 (.string (strOfNums (lastK T k)))
 bel : Below w.heap.size w W
end
section
variable {n : Nat} {P : Program} {ops : Array Oper} {Q : Exit -> Act -> World -> Prop}
def nodB (l : List Oper) : Bool := l.all fun o => match o.op with | .defer _ => false | _ => true
theorem nod_of {l : List Oper} (h : nodB l = true) : ∀ o ∈ l, ∀ c, o.op ≠ .defer c := fun o ho c e => by
 have := List.all_eq_true.1 h o ho
 simp only [e] at this
 cases this
theorem rowsIn_w {row : String} {args : Array Value} {w : World} {R : Value -> World -> Prop} (h : Rows P row args w R) : RowsIn Fence.wide n P row args w R :=
 fun c cs _ => let ⟨v, w', r, s⟩ := h c cs; ⟨v, w', r, stepsIn_wide.2 s⟩
theorem one_in {o : Oper} {a : Act} {w : World} {K : Act -> World -> Prop} {l : Nat} (nd : ∀ c, o.op ≠ .defer c) (h : o.wp P a w K Q) : o.wpIn (Fence.wide.inRound l) n P a w K Q := by
 refine ⟨fun f _ => trivial, ?_⟩
 rw [Fence.inRound_round, Oper.semAt_eq _ _ _ nd]
 unfold Oper.wp at h
 generalize (execOp a.eval o).run P w = r at h ⊢
 cases r with
 | ok x w' =>
  cases x <;> first | exact h | exact ⟨fun e => absurd e (by simp [Fence.wide, Fence.inRound]), CallsIn.inRound l (callsIn_wide.2 h)⟩ | exact ⟨fun e => absurd e (by simp [Fence.wide, Fence.inRound]), rowsIn_w h⟩ | exact h.elim
 | halt x w' =>
  cases x <;> first | exact h | exact h.elim
theorem up_in {a : Act} {w : World} {i l : Nat} {K : Act -> World -> Prop} (hno : ¬ LetsOut Q) (nd : ∀ o ∈ ops.toList, ∀ c, o.op ≠ .defer c) (h : wpOp P ops Q i K a w) : wpOpIn (Fence.wide.inRound l) n P ops Q i K a w := by
 unfold wpOp at h
 unfold wpOpIn
 cases e : ops[i]? with
 | none => simpa [e] using h
 | some o =>
  simp only [e] at h ⊢
  have hm : o ∈ ops.toList := by rw [Array.mem_toList_iff]; exact Array.mem_of_getElem? e
  by_cases hw : Region.wanted o (yielded ops a.tmps) = true
  ·rw [if_pos hw] at h ⊢
   rcases h with h | h
   ·exact one_in (nd o hm) h
   ·exact absurd h.2 hno
  ·rw [if_neg hw] at h ⊢; exact ⟨fun f _ => trivial, h⟩
theorem any_in {S : World -> Prop} {md : Region.Mode} {l : Nat} (hno : ¬ LetsOut Q) (nd : ∀ o ∈ ops.toList, ∀ c, o.op ≠ .defer c) : ∀ (fuel : Nat) (listed : Array Bool) (a : Act) (w : World), wpAnyH P md ops Q S fuel listed a w -> wpAnyIn (Fence.wide.inRound l) n P md ops Q fuel listed a w
 | 0, _, _, _, h => h
 | fuel + 1, _, _, _, h => ⟨h.1, fun i hi => wpOpIn_mono (fun a' w' h' => any_in hno nd fuel _ a' w' h'.2) (up_in hno nd (h.2 i hi))⟩
theorem qK_ {S : World -> Prop} {id l : Nat} {a : Act} {w : World} (hm : P.follows .mixedOrders = true) (hno : ¬ LetsOut Q) (nd : nodB ops.toList = true) (hS : S w.drew)
  (h : S w.drew -> wpAnyH P .any ops Q S ops.size (Array.replicate ops.size false) a w.drew) : (Code.region id ops true).wpIn (Fence.wide.inRound l) n P Q a w :=
 wpIn_region_any hm (any_in hno (nod_of nd) _ _ _ _ (h hS))
end
section
open Go.Maps Go.Shelf
theorem xE_ (a b : Option Addr) (A B : List WrV) (n ca cb : Nat) (hn : A.length = n) (hn2 : n <= 1000000) (hsame : A.map WrV.P = B.map WrV.P) (hA : ∀ p ∈ A, p.r.R.length <= 1000000 /\ ∀ q ∈ p.r.R, Byt q.bs) (hB : ∀ p ∈ B, ∀ q ∈ p.r.R, Byt q.bs) (w : World) (hRA : WrR w a A) (hRB : WrR w b B) :
  Calls prog 35 #[.slice a n ca, .slice b n cb] w fun r w' => r = .returned (.bool true) /\ Below w.heap.size w w' := by
 have HR := hid (And.intro hRA hRB)
 have hm : B.length = n := by have h := congrArg List.length hsame; rw [List.length_map, List.length_map] at h; omega
 have HN := hid (And.intro hn hm)
 have HRL := hid (And.intro hA hB)
 have HSA := hid hsame
 have hni : (n : Int) <= 1000000 := by omega
 clear hn hm hA hB hRA hRB hsame
 have e0 : ((n : Int) != (n : Int)) = false := by simp
 go_enter func35, ntmps35
 go_wp2_with fail
 go_loopw [5] (fun j wr => ∃ k : Nat, k <= n /\ j = .int .i64 (k : Int) /\ Hid (Below w.heap.size w wr)) (fun j _ => n - (intOf j).toNat)
 case atStart => exact ⟨0, Nat.zero_le _, rfl, hid (Below.refl _ _)⟩
 case round =>
  obtain ⟨k, hk, rfl, HBW⟩ := hrel
  by_cases hlt : k < n
  ·have dl : (k : Int) < (n : Int) := by omega
   obtain ⟨x, hx⟩ : ∃ x, A[k]? = some x := ⟨_, List.getElem?_eq_getElem Xt73⟩
   obtain ⟨y, hy⟩ : ∃ y, B[k]? = some y := ⟨_, List.getElem?_eq_getElem Xt74⟩
   have hxy : WrV.P x = WrV.P y := by
    have h1 : (A.map WrV.P)[k]? = some (WrV.P x) := by rw [List.getElem?_map, hx]; rfl
    have h2 : (B.map WrV.P)[k]? = some (WrV.P y) := by rw [List.getElem?_map, hy]; rfl
    rw [HSA.out, h2] at h1
    exact (Option.some.inj h1).symm
   have ht : y.t = x.t := (congrArg (fun z => z.1) hxy).symm
   have hK : y.K = x.K := (congrArg (fun z => z.2.1) hxy).symm
   have hP : eqB x.r.R y.r.R = true := decide_eq_true (congrArg (fun z => z.2.2) hxy)
   obtain ⟨b1, o1, e1, c1, c2, c3, l1, r1⟩ := (HR.out.1.below HBW.out) k x hx
   obtain ⟨b2, o2, e2, c4, c5, c6, l2, r2⟩ := (HR.out.2.below HBW.out) k y hy
   rw [ht] at c4
   rw [hK] at c5 l2
   have f : ∀ {p v}, wr.cell? p = some v -> ∀ X, Below wr.heap.size wr X -> X.cell? p = some v := fun h X b => tcb b h
   have HSM := hid (fun W (b : Below wr.heap.size wr W) => qS_ x.r.ra y.r.ra x.r.R y.r.R x.r.R.length y.r.R.length x.r.rc y.r.rc rfl rfl (HRL.out.1 x (List.mem_of_getElem? hx)).1 (HRL.out.1 x (List.mem_of_getElem? hx)).2 (HRL.out.2 y (List.mem_of_getElem? hy)) W (r1.below b) (r2.below b))
   rw [hP] at HSM
   obtain ⟨kl, hkl⟩ := gtx (x.K.length)
   rw [hkl] at c2 c5
   have FQ := hid (fun X (b : Below wr.heap.size wr X) => (⟨f c1 X b, f c2 X b, f c3 X b, f c4 X b, f c5 X b, f c6 X b⟩ : X.cell? ⟨b1, o1 + k * 3, none⟩ = some (.int .i64 x.t) /\ X.cell? ⟨b1, o1 + k * 3 + 1, none⟩ = some (.slice x.ka kl x.kc) /\ X.cell? ⟨b1, o1 + k * 3 + 2, none⟩ = some (.slice x.r.ra x.r.R.length x.r.rc) /\ X.cell? ⟨b2, o2 + k * 3, none⟩ = some (.int .i64 x.t) /\ X.cell? ⟨b2, o2 + k * 3 + 1, none⟩ = some (.slice y.ka kl y.kc) /\ X.cell? ⟨b2, o2 + k * 3 + 2, none⟩ = some (.slice y.r.ra y.r.R.length y.r.rc)))
   have HLX := hid (And.intro l1 l2)
   have HKL := hid hkl
   clear hx hy hxy ht hK hP c1 c2 c3 c4 c5 c6 l1 l2 r1 r2 f hkl
   subst e1
   subst e2
   go_upto_region 6 with (fail)
   refine rgw wr (Below.refl _ _).drew fun hH => ?_
   refine tkq4 0 1 2 3 ?_
   refine tkr 4 rfl Xf12 ?_
   refine tkq4 5 6 7 8 ?_
   refine tkr 9 rfl Xf12 ?_
   refine tkp 10 (.bool false) rfl (.inl ⟨by rfl, ?_⟩) ?_
   ·intro W hSw; go_simp; try simp
   refine tkp 11 (.bool false) rfl (.inl ⟨by rfl, ?_⟩) ?_
   ·intro W hSw; go_simp; try rfl
   refine tkq4 12 13 14 15 ?_
   refine tkr 16 rfl Xf12 ?_
   refine tkr 17 rfl (fun W hSw => by have hcv := kc2 W x.ka kl x.kc x.K HKL.out (HLX.out.1.below hSw); exact tks) ?_
   refine tkq4 18 19 20 21 ?_
   refine tkr 22 rfl Xf12 ?_
   refine tkr 23 rfl (fun W hSw => by have hcv := kc2 W y.ka kl y.kc x.K HKL.out (HLX.out.2.below hSw); exact tks) ?_
   refine tkp 24 (.bool false) rfl (.inl ⟨by rfl, ?_⟩) ?_
   ·intro W hSw; go_simp; try simp
   refine tkq 25 ?_
   refine tkp 26 (.bool false) rfl (.inl ⟨by rfl, ?_⟩) ?_
   ·intro W hSw; go_simp; try rfl
   refine tkq4 27 28 29 30 ?_
   refine tkr 31 rfl Xf12 ?_
   refine tkq4 32 33 34 35 ?_
   refine tkr 36 rfl Xf12 ?_
   refine tk1 37 rfl fun K hK => ?_
   go_simp
   refine (HSM.out _ hH).mono ?_; rintro e9 w3 ⟨rfl, hb3⟩
   go_wp2_with fail
   refine hK.out _ _ (za_ hH hb3) fun hH => ?_
   refine stP ?_
   refine tkq2 38 39 ?_
   refine adn ?_
   skip
   have HBN := hid (za_ HBW.out hH)
   go_wp2_with fail
   go_roundw
   case rel => exact ⟨k + 1, by omega, by go_num, HBN⟩
   case measure => simp [intOf]; omega
  ·have dl : ¬ (k : Int) < (n : Int) := by omega
   go_wp2_with fail
   go_ret
   exact ⟨rfl, HBW.out⟩
end
section
open Go.Shelf
def TxsR (W : World) (a : Option Addr) (L : List zW_) : Prop := ∀ (k : Nat) (x : zW_), L[k]? = some x -> ∃ b off, a = some ⟨b, off, none⟩ /\ (W.cell? ⟨b, off + k * 3, none⟩ = some (.slice x.oa x.on x.oc) /\ W.cell? ⟨b, off + k * 3 + 1, none⟩ = some (.bool x.sn) /\ W.cell? ⟨b, off + k * 3 + 2, none⟩ = some (.bool x.ab)) /\ zM_ W x
theorem TxsR.below {W W' : World} {a : Option Addr} {L : List zW_} (h : TxsR W a L) (b : Below W.heap.size W W') : TxsR W' a L := fun k o ho => by
 obtain ⟨g, off, e, ⟨h0, h1, h2⟩, hc⟩ := h k o ho
 have f : ∀ {p v}, W.cell? p = some v -> W'.cell? p = some v := fun h => tcb b h
 exact ⟨g, off, e, ⟨f h0, f h1, f h2⟩, hc.below b⟩
theorem ret_int {k : IntKind} {a b : Int} (h : a = b) : Ending.returned (.int k a) = .returned (.int k b) := by rw [h]
def Qs_ : List P1 -> Nat -> Nat
 | [], s => s
 | p :: r, s => if s < 1048576 then Qs_ r (s + min p.bs.length 1048576) else s
def szF (R : List P1) : Nat := Qs_ R R.length
theorem szGo_ge : ∀ (R : List P1) (s : Nat), s <= Qs_ R s
 | [], s => Nat.le_refl _
 | p :: r, s => by
  unfold Qs_
  split
  ·have := szGo_ge r (s + min p.bs.length 1048576); omega
  ·omega
theorem szGo_le : ∀ (R : List P1) (s m : Nat), s <= m + 2097152 -> Qs_ R s <= m + 2097152
 | [], s, m, h => h
 | p :: r, s, m, h => by
  unfold Qs_
  split
  ·exact szGo_le r _ m Xt0
  ·exact h
theorem szF_ge (R : List P1) : R.length <= szF R := szGo_ge R _
theorem szF_le (R : List P1) : szF R <= R.length + 2097152 := szGo_le R _ _ Xt0
theorem szGo_stop (R : List P1) (s : Nat) (h : ¬ s < 1048576) : Qs_ R s = s := by
 cases R with
 | nil => rfl
 | cons p r => unfold Qs_; rw [if_neg h]
theorem szGo_step {R : List P1} {k s : Nat} {p : P1} (hp : R[k]? = some p) (h : s < 1048576) : Qs_ (R.drop k) s = Qs_ (R.drop (k + 1)) (s + min p.bs.length 1048576) := by
 obtain ⟨hk, e⟩ := List.getElem?_eq_some_iff.1 hp
 rw [List.drop_eq_getElem_cons hk, Qs_, if_pos h, e]
theorem sizef_law (a : Option Addr) (R : List P1) (n cap : Nat) (hn : R.length = n) (w : World) (hR : RdR w a R) :
  Calls prog 50 #[.slice a n cap] w fun r w' => r = .returned (.int .i64 (szF R : Int)) /\ w' = w := by
 have HR := hid hR
 have HN := hid hn
 obtain ⟨ans, hans⟩ := gtx (szF R)
 have HA := hid (show Qs_ R n = ans by rw [← hans, ← hn]; rfl)
 rw [hans]
 clear hR hn hans
 go_enter func50, ntmps50
 go_wp2_with fail
 go_loopw [3, 4] (fun x i wr => ∃ k s : Nat, k <= n /\ i = .int .i64 k /\ x = .int .i64 s /\ n <= s /\ Hid (Qs_ (R.drop k) s = ans) /\ w = wr) (fun _ i _ => n - (intOf i).toNat)
 case atStart => exact ⟨0, n, by omega, rfl, rfl, by omega, hid (by simpa using HA.out), rfl⟩
 case round =>
  obtain ⟨k, s, hk, rfl, rfl, hns, HS, rfl⟩ := hrel
  by_cases hlt : k < n
  ·have hkl : (k : Int) < (n : Int) := by omega
   by_cases hs2 : s < 1048576
   ·have hsl : (s : Int) < 1048576 := by omega
    have hs9 : (s : Int) <= 1048576 := by omega
    obtain ⟨p, hp⟩ : ∃ p, R[k]? = some p := ⟨_, List.getElem?_eq_getElem Xt8⟩
    obtain ⟨b1, o1, e1, c1, l1⟩ := HR.out k p hp
    subst e1
    have c2 : w.cell? ⟨b1, o1 + k, none⟩ = some (.slice p.ad p.bs.length p.cap) := c1
    have HST := hid (show Qs_ (R.drop (k + 1)) (s + min p.bs.length 1048576) = ans by rw [← szGo_step hp hs2]; exact HS.out)
    obtain ⟨m, hm⟩ := gtx (p.bs.length)
    rw [hm] at c2 HST
    clear c1 hp hm l1
    by_cases hm2 : m < 1048576
    ·have hml : (m : Int) < 1048576 := by omega
     have HX := hid (show Qs_ (R.drop (k + 1)) (s + m) = ans by rw [← HST.out]; congr 1; omega)
     go_wp2_with fail
     go_roundw
     case rel => exact ⟨k + 1, s + m, by omega, by go_num, by go_num, by omega, HX, trivial⟩
     case measure => simp [intOf]; omega
    ·have hml : ¬ (m : Int) < 1048576 := by omega
     have HX := hid (show Qs_ (R.drop (k + 1)) (s + 1048576) = ans by rw [← HST.out]; congr 1; omega)
     go_wp2_with fail
     go_roundw
     case rel => exact ⟨k + 1, s + 1048576, by omega, by go_num, by go_num, by omega, HX, trivial⟩
     case measure => simp [intOf]; omega
   ·have hsl : ¬ (s : Int) < 1048576 := by omega
    have HE := hid (show ans = s by rw [← HS.out, szGo_stop _ _ hs2])
    go_wp2_with fail
    go_ret
    exact ⟨ret_int (by rw [HE.out]), rfl⟩
  ·have hkl : ¬ (k : Int) < (n : Int) := by omega
   have HE := hid (show ans = s by rw [← HS.out, List.drop_of_length_le Xt18]; rfl)
   go_wp2_with fail
   go_ret
   exact ⟨ret_int (by rw [HE.out]), rfl⟩
def TxG (x : zW_) : Prop := x.on <= 140737488355328 /\ ∀ o ∈ x.ops, o.rn <= 140737488355328
end
section
open Go.Maps Go.Shelf
theorem jz_ {R : List P1} (h : R.map P1.bs = []) : R = [] := List.map_eq_nil_iff.1 h
theorem one_row {R : List P1} {x : List Int} (h : R.map P1.bs = [x]) : ∃ a c, R = [⟨a, c, x⟩] := by
 match R, h with
 | [⟨a, c, y⟩], h => exact ⟨a, c, by simp at h; rw [h]⟩
theorem qz_ {R : List P1} {x y : List Int} (h : R.map P1.bs = [x, y]) : ∃ a c b d, R = [⟨a, c, x⟩, ⟨b, d, y⟩] := by
 match R, h with
 | [⟨a, c, u⟩, ⟨b, d, v⟩], h => exact ⟨a, c, b, d, by simp at h; rw [h.1, h.2]⟩
theorem yt_ (k0 : Int) (s : List Int) (str : ByteArray) (he : strOfNums s = str) (bS : Byt s) (hs : s.length <= 1000) (fa : Option Addr) (n c : Nat) (F : List (List Int)) (hF : F.length = n) (hn : n <= 1000) (bF : ∀ f ∈ F, Byt f /\ f.length <= 1000) (w : World) (hS : StrR w fa F) :
  Calls prog 32 #[.int .i64 k0, .string str, .slice fa n c] w (OpR w k0 s F) := by
 subst he
 exact op_law k0 s bS hs fa n c F hF hn bF w hS
theorem xF_ {W : World} {B : Nat} {cs : Array Value} (F : List (List Int)) (h : zg_ W B cs 9) (he : cs.toList = F.map fun s => .string (strOfNums s)) : StrR W (some ⟨B, 0, none⟩) F := fun k s hs => by
 refine ⟨B, 0, rfl, ?_⟩
 have := h.cell k
 rw [Nat.zero_add, this, ← Array.getElem?_toList, he, List.getElem?_map, hs]; rfl
theorem qO_ (W : World) (a : Option Addr) : StrR W a [] := fun k s hs => by simp at hs
def ocl (o : zj_) : List Value := [.int .i64 o.k, .int .i64 o.t, .int .i64 o.i, .slice o.ka o.kn o.kc, .slice o.ta o.tn o.tc, .int .i64 o.m, .slice o.ra o.rn o.rc]
theorem j2_ {S : Nat -> Prop} {W : World} {cs : Array Value} (L : List zj_) (hc : cs = (cellsOf ocl L).toArray) (hS : ∀ k, S k -> k < W.heap.size) (hst : ∀ o ∈ L, zs_ S W fun W' => zy_ W' o) : zs_ S (W.alloc (.cells cs 74)) fun W' => OpsR W' (some ⟨W.heap.size, 0, none⟩) L := fun W' o k x hx => by
 have hb : zg_ W' W.heap.size (cellsOf ocl L).toArray 74 := Qk_ (by rw [hc]; exact zg_.new W _ _) o Xt83
 have hcell : ∀ i, i < 7 -> W'.cell? ⟨W.heap.size, 0 + k * 7 + i, none⟩ = (ocl x)[i]? := fun i hi => by
  rw [Nat.zero_add, hb.cell (k * 7 + i)]
  rw [List.getElem?_toArray]
  exact z4_ (f := ocl) (sz := 7) (fun _ => rfl) L k i x hx hi
 refine ⟨W.heap.size, 0, rfl, ⟨?_, ?_, ?_, ?_, ?_, ?_, ?_⟩, (hst x (List.mem_of_getElem? hx)) W' ((Off.of (bl1 _ _)).trans o)⟩
 ·exact (hcell 0 Xt0)
 ·exact (hcell 1 Xt0)
 ·exact (hcell 2 Xt0)
 ·exact (hcell 3 Xt0)
 ·exact (hcell 4 Xt0)
 ·exact (hcell 5 Xt0)
 ·exact (hcell 6 Xt0)
def DoY (S : Nat -> Prop) (w : World) (m : Md) (x : zW_) (r : Ending) (w' : World) : Prop :=
 ∃ m' a c rs, r = .returned (.tuple #[.slice a rs.length c, .int .i64 0]) /\ MdR S w' m' /\ zC_ m m' /\ m'.P = yu_ m.P (wsI (jN_ m.j m.P x)) /\ Off (zS_ m) w w' /\ (∀ N : Nat, (∀ x ∈ m.tabs, x.2.length <= N) -> ∀ x ∈ m'.tabs, x.2.length <= N + 16) /\ rs.map yC_ = Q8_ m.j m.P x /\ (∀ y ∈ rs, ys_ y) /\ zs_ S w' fun W => jL_ W a rs
theorem do_yes {S : Nat -> Prop} {m : Md} {w : World} (h : MdR S w m) (hS : ∀ k, S k -> k < w.heap.size) (x : zW_) (hx : zs_ S w fun W => zM_ W x) (hon : x.on <= 1000000) (hrn : ∀ o ∈ x.ops, o.rn <= 1000000) (hf : ∀ z ∈ m.tabs, z.2.length <= 300000) (hm : yQ_ m.j x = true) :
  Calls prog 24 #[.pointer (some ⟨m.p, 0, none⟩), .agg #[.slice x.oa x.on x.oc, .bool x.sn, .bool x.ab]] w (DoY S w m x) := (do_law h hS x hx hon hrn hf).mono fun r w' h => by
 unfold DoR at h
 rw [if_pos hm] at h
 exact h
def opV (k : Int) (s : List Int) (ka : Option Addr) (kc : Nat) (ra : Option Addr) (rc : Nat) (R : List P1) : zj_ := ⟨k, 0, 0, ka, s.length, kc, s, none, 0, 0, [], 0, ra, R.length, rc, R⟩
def j9_ (a : Option Addr) (c : Nat) : Job := ⟨1, 1, 3, 1024, 1024, 1, a, 1, c, [1]⟩
def b1 (a : Option Addr) (c : Nat) (x : Int) : P1 := ⟨a, c, [x]⟩
theorem may1 (a : Option Addr) (c : Nat) (oa : Option Addr) (oc : Nat) (k1 k2 k3 k4 r1 r2 r3 r4 : Option Addr) (d1 d2 d3 d4 e1 e2 e3 e4 : Nat) (p1 p2 p3 : Option Addr) (q1 q2 q3 : Nat) :
  yQ_ (j9_ a c) ⟨oa, 4, oc, [opV 3 [97] k1 d1 r1 e1 [b1 p1 q1 120, b1 p2 q2 121], opV 3 [97] k2 d2 r2 e2 [b1 p3 q3 122], opV 1 [97] k3 d3 r3 e3 [], opV 4 [98] k4 d4 r4 e4 []], false, false⟩ = true := by rfl
theorem ans1 (a : Option Addr) (c : Nat) (oa : Option Addr) (oc : Nat) (k1 k2 k3 k4 r1 r2 r3 r4 : Option Addr) (d1 d2 d3 d4 e1 e2 e3 e4 : Nat) (p1 p2 p3 : Option Addr) (q1 q2 q3 : Nat) :
  Q8_ (j9_ a c) [[]] ⟨oa, 4, oc, [opV 3 [97] k1 d1 r1 e1 [b1 p1 q1 120, b1 p2 q2 121], opV 3 [97] k2 d2 r2 e2 [b1 p3 q3 122], opV 1 [97] k3 d3 r3 e3 [], opV 4 [98] k4 d4 r4 e4 []], false, false⟩ = [(0, []), (7, []), (0, [([97], [[120], [121]])]), (6, [])] := by rfl
theorem wrt1 (a : Option Addr) (c : Nat) (oa : Option Addr) (oc : Nat) (k1 k2 k3 k4 r1 r2 r3 r4 : Option Addr) (d1 d2 d3 d4 e1 e2 e3 e4 : Nat) (p1 p2 p3 : Option Addr) (q1 q2 q3 : Nat) :
  yu_ [[]] (wsI (jN_ (j9_ a c) [[]] ⟨oa, 4, oc, [opV 3 [97] k1 d1 r1 e1 [b1 p1 q1 120, b1 p2 q2 121], opV 3 [97] k2 d2 r2 e2 [b1 p3 q3 122], opV 1 [97] k3 d3 r3 e3 [], opV 4 [98] k4 d4 r4 e4 []], false, false⟩)) = [[([97], [[120], [121]])]] := by rfl
def opL (ka : Option Addr) (kc : Nat) : zj_ := ⟨6, 0, 0, ka, 1, kc, [119], none, 0, 0, [], 9, none, 0, 0, []⟩
def opS : zj_ := ⟨5, 0, 0, none, 0, 0, [], none, 0, 0, [], 1, none, 0, 0, []⟩
theorem may2 (a : Option Addr) (c : Nat) (oa : Option Addr) (oc : Nat) (k1 k2 r1 : Option Addr) (d1 d2 e1 : Nat) (p1 p2 : Option Addr) (q1 q2 : Nat) :
  yQ_ (j9_ a c) ⟨oa, 3, oc, [opV 2 [98] k1 d1 r1 e1 [b1 p1 q1 120, b1 p2 q2 119], opL k2 d2, opS], false, false⟩ = true := by rfl
theorem wrt2 (a : Option Addr) (c : Nat) (oa : Option Addr) (oc : Nat) (k1 k2 r1 : Option Addr) (d1 d2 e1 : Nat) (p1 p2 : Option Addr) (q1 q2 : Nat) :
  yu_ [[([97], [[120], [121]])]] (wsI (jN_ (j9_ a c) [[([97], [[120], [121]])]] ⟨oa, 3, oc, [opV 2 [98] k1 d1 r1 e1 [b1 p1 q1 120, b1 p2 q2 119], opL k2 d2, opS], false, false⟩)) = [[([97], [[120], [121]]), ([98], [[120], [119]])]] := by rfl
theorem srt2 (a : Option Addr) (c : Nat) : yL_ (j9_ a c) 0 (trV (j9_ a c) 0 0).1 [([97], [[120], [121]]), ([98], [[120], [119]])] = [([119, 0, 1, 98], ([98], [[120], [119]])), ([121, 0, 1, 97], ([97], [[120], [121]]))] := by
 have h : qp_ (j9_ a c) 0 (trV (j9_ a c) 0 0).1 [([97], [[120], [121]]), ([98], [[120], [119]])] = [([121, 0, 1, 97], ([97], [[120], [121]])), ([119, 0, 1, 98], ([98], [[120], [119]]))] := by rfl
 unfold yL_
 rw [h]
 simp [List.mergeSort, List.MergeSort.Internal.splitInTwo, leL, ltL]
theorem ans2 (a : Option Addr) (c : Nat) (oa : Option Addr) (oc : Nat) (k1 k2 r1 : Option Addr) (d1 d2 e1 : Nat) (p1 p2 : Option Addr) (q1 q2 : Nat) :
  Q8_ (j9_ a c) [[([97], [[120], [121]])]] ⟨oa, 3, oc, [opV 2 [98] k1 d1 r1 e1 [b1 p1 q1 120, b1 p2 q2 119], opL k2 d2, opS], false, false⟩ = [(0, []), (0, [([98], [[120], [119]]), ([97], [[120], [121]])]), (0, [([97], [[120], [121]])])] := by
 have h := srt2 a c
 have e : Q8_ (j9_ a c) [[([97], [[120], [121]])]] ⟨oa, 3, oc, [opV 2 [98] k1 d1 r1 e1 [b1 p1 q1 120, b1 p2 q2 119], opL k2 d2, opS], false, false⟩ = [(0, []), (0, (yP_ Prod.fst (zk_ [119]) (zk_ []) false 9 (yL_ (j9_ a c) 0 (trV (j9_ a c) 0 0).1 [([97], [[120], [121]]), ([98], [[120], [119]])]) []).map Prod.snd), (0, [([97], [[120], [121]])])] := by rfl
 rw [e, h]; rfl
theorem may3 (a : Option Addr) (c : Nat) (oa : Option Addr) (oc : Nat) (k1 k2 r1 r2 : Option Addr) (d1 d2 e1 e2 : Nat) :
  yQ_ (j9_ a c) ⟨oa, 2, oc, [opV 4 [97] k1 d1 r1 e1 [], opV 1 [97] k2 d2 r2 e2 []], false, true⟩ = true := by rfl
theorem ans3 (a : Option Addr) (c : Nat) (oa : Option Addr) (oc : Nat) (k1 k2 r1 r2 : Option Addr) (d1 d2 e1 e2 : Nat) :
  Q8_ (j9_ a c) [[([97], [[120], [121]]), ([98], [[120], [119]])]] ⟨oa, 2, oc, [opV 4 [97] k1 d1 r1 e1 [], opV 1 [97] k2 d2 r2 e2 []], false, true⟩ = [(0, []), (6, [])] := by rfl
theorem wrt3 (a : Option Addr) (c : Nat) (oa : Option Addr) (oc : Nat) (k1 k2 r1 r2 : Option Addr) (d1 d2 e1 e2 : Nat) :
  yu_ [[([97], [[120], [121]]), ([98], [[120], [119]])]] (wsI (jN_ (j9_ a c) [[([97], [[120], [121]]), ([98], [[120], [119]])]] ⟨oa, 2, oc, [opV 4 [97] k1 d1 r1 e1 [], opV 1 [97] k2 d2 r2 e2 []], false, true⟩)) = [[([97], [[120], [121]]), ([98], [[120], [119]])]] := by rfl
theorem may4 (a : Option Addr) (c : Nat) (oa : Option Addr) (oc : Nat) (k1 k2 k3 r1 r2 r3 : Option Addr) (d1 d2 d3 e1 e2 e3 : Nat) (p1 p2 : Option Addr) (q1 q2 : Nat) :
  yQ_ (j9_ a c) ⟨oa, 3, oc, [opV 2 [99] k1 d1 r1 e1 [b1 p1 q1 122], opV 4 [99] k2 d2 r2 e2 [], opV 3 [97] k3 d3 r3 e3 [b1 p2 q2 113]], false, false⟩ = true := by rfl
theorem wrt4 (a : Option Addr) (c : Nat) (oa : Option Addr) (oc : Nat) (k1 k2 k3 r1 r2 r3 : Option Addr) (d1 d2 d3 e1 e2 e3 : Nat) (p1 p2 : Option Addr) (q1 q2 : Nat) :
  jN_ (j9_ a c) [[([97], [[120], [121]]), ([98], [[120], [119]])]] ⟨oa, 3, oc, [opV 2 [99] k1 d1 r1 e1 [b1 p1 q1 122], opV 4 [99] k2 d2 r2 e2 [], opV 3 [97] k3 d3 r3 e3 [b1 p2 q2 113]], false, false⟩ = [(0, [99], [])] := by rfl
end
end Go.Proofs.YthmofoldmdafoaaGreat
