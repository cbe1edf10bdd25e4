/- ModelMeans: doing a transaction is doing its writes; for every input. -/
import Derived.Test.YthmofoldmdafoaaGreatRmb
import Derived.Test.YthmofoldmdafoaaGreatRrm
import Derived.Test.YthmofoldmdafoaaGreatRows
import Derived.SizedLaws
import Derived.WalkKit
import Derived.ProofKit
import Derived.OpenShut
import Derived.ShutString
import Derived.ChangeOld
import Derived.Below
import Derived.Test.YthmofoldmdafoaaGreatRma
import Derived.Test.YthmofoldmdafoaaGreatRra
namespace Go.Proofs.YthmofoldmdafoaaGreat
open Go.ChangeShapes Go.WideShapes Go.ChangeAt Go.RowKit Go.Maps Go.Shelf
set_option linter.unusedVariables false
set_option linter.unusedSimpArgs false

theorem may_t {j : Job} {x : TxnV} (h : mayT j x = true) {o : CallV} (ho : o ∈ x.ops) : 0 ≤ o.t ∧ o.t < (j.n : Int) ∧ (isW o = true → o.k ≠ 4 → 0 < o.rn) := by
  unfold mayT at h
  simp only [Bool.and_eq_true, List.all_eq_true] at h
  have h1 := h.2 o ho
  unfold opB at h1
  rw [Bool.and_eq_true] at h1
  have h2 := h1.1
  unfold pO at h2
  simp only [Bool.and_eq_true] at h2
  obtain ⟨⟨⟨⟨⟨⟨_, _⟩, h4⟩, _⟩, h6⟩, _⟩, _⟩ := h2
  unfold inB at h4
  rw [decide_eq_true_eq] at h4
  refine ⟨h4.1, by omega, fun hw h4 => ?_⟩
  have hk : o.k = 2 ∨ o.k = 3 := by
    have := of_decide_eq_true hw
    omega
  have h7 : kf o.k 2 = decide (0 < o.rn) := by simpa using h6
  rcases hk with hk | hk <;> (rw [hk] at h7; exact of_decide_eq_true (h7.symm.trans rfl))
theorem may_kn {j : Job} {x : TxnV} (h : mayT j x = true) {o : CallV} (ho : o ∈ x.ops) : o.kn ≤ 32 := by
  unfold mayT at h
  simp only [Bool.and_eq_true, List.all_eq_true] at h
  have h1 := h.2 o ho
  unfold opB at h1
  rw [Bool.and_eq_true] at h1
  have h2 := h1.1
  unfold pO at h2
  simp only [Bool.and_eq_true] at h2
  have h3 := h2.2
  unfold endB mostV mayK at h3
  split at h3
  · simp only [Bool.and_eq_true, decide_eq_true_eq] at h3
    have := h3.1.1
    split at this <;> omega
  · simp only [Bool.and_eq_true, decide_eq_true_eq] at h3
    exact h3.1.1.2
/-- What a key has behind a transaction. -/
theorem left_behind {S : Nat → Prop} {w w' : World} {m m' : Md} (h : MdR S w m) (h' : MdR S w' m') (hs : MdSame m m') {x : TxnV} (hmay : mayT m.j x = true) (hab : x.ab = false) (hP : m'.P = applyT m.P (wsI (wrtP m.j m.P x))) (hin : ∀ v ∈ wrtP m.j m.P x, v.1 < m.tabs.length) {rs : List ResV} (hans : rs.map resC = ansP m.j m.P x) (hca : ∀ o ∈ x.ops, o.R.length = o.rn)
    {k : Nat} {o : CallV} {y : ResV} (ho : x.ops[k]? = some o) (hy : rs[k]? = some y) (he : y.e = 0) (hw : isW o = true) : ∃ z, 0 ≤ o.t ∧ m'.tabs[o.t.toNat]? = some z ∧ (¬ againW (rs.map resC) x.ops o k → (getM z.2 o.K).map RV.P = leftW o) := by
  have hom := List.mem_of_getElem? ho
  obtain ⟨h1, h2, h3⟩ := may_t hmay hom
  have hlt : o.t.toNat < m'.tabs.length := by rw [hs.len, h.len]; omega
  obtain ⟨z, hz⟩ : ∃ z, m'.tabs[o.t.toNat]? = some z := ⟨_, List.getElem?_eq_getElem hlt⟩
  refine ⟨z, h1, hz, fun hno => ?_⟩
  have e1 : wrtP m.j m.P x = (runP m.j m.P x.ops).2 := by unfold wrtP; rw [hab]; rfl
  have e2 : m'.P.getD o.t.toNat [] = tabP z.2 := by rw [List.getD_eq_getElem?_getD]; unfold Md.P; rw [List.getElem?_map, hz]; rfl
  rw [← tabP_get, ← e2, hP, e1]
  show getT ((overT m.P (runP m.j m.P x.ops).2).getD o.t.toNat []) o.K = _
  rw [overT_get (fun t => (h.tok t).1) _ (fun v hv => by rw [Md.P_len]; exact hin v (by rw [e1]; exact hv)) (runP_apart m.j m.P x.ops)]
  have hr : (runP m.j m.P x.ops).1[k]? = some (resC y) := by
    have : ansP m.j m.P x = (runP m.j m.P x.ops).1 := rfl
    rw [← this, ← hans, List.getElem?_map, hy]; rfl
  refine last_left m.j m.P x.ops (fun q hq => (may_t hmay hq).1) ho hw hr he (fun h4 e => ?_) ?_
  · have := h3 hw h4
    rw [← hca o hom, e] at this
    simp at this
  · have : ansP m.j m.P x = (runP m.j m.P x.ops).1 := rfl
    rw [← this, ← hans]; exact hno

/-- What Writes answers, in one form. -/
theorem wr_form {S : Nat → Prop} {w w' : World} {m : Md} {x : TxnV} {r : Ending} {b : Bool} (hb : mayT m.j x = b) (h : WrtsR S w m x r w') : ∃ (ee : Int) (wa : Option Addr) (wn wc : Nat) (WL : List WrV), r = .returned (.tuple #[.slice wa wn wc, .int .i64 ee]) ∧ Below w.heap.size w w' ∧
    (ee = if b then 0 else 2) ∧ WL.length = wn ∧ (b = false → wn = 0 ∧ WL = []) ∧ (Stay S w' fun W => WrR W wa WL) ∧ (∀ z ∈ WL, Byt z.K ∧ z.K.length ≤ 1000000 ∧ z.r.R.length ≤ 1000000 ∧ ∀ p ∈ z.r.R, Byt p.bs) ∧ (b = true → WL.all (wrB m.tabs.length) = true ∧ ∃ E : List WtV, WL = E.map WtV.W ∧ (E.map WtV.P).Perm (wrtP m.j m.P x)) := by
  unfold WrtsR at h
  rw [hb] at h
  cases b with
  | true =>
    rw [if_pos rfl] at h
    obtain ⟨a, c, E, rfl, hbl, hp, _, hE, hst⟩ := h
    refine ⟨0, a, E.length, c, E.map WtV.W, rfl, hbl, rfl, List.length_map _, fun e => (nomatch e), hst, ?_, fun _ => ⟨?_, E, rfl, hp⟩⟩
    · intro x hx
      obtain ⟨y, hy, rfl⟩ := List.mem_map.1 hx
      obtain ⟨h1, h2, h3⟩ := hE y hy
      have hkl := h2.2.2
      refine ⟨h2.1, by show y.K.length ≤ 1000000; omega, ?_, fun p hp => ?_⟩
      · by_cases e : y.r.R = []
        · show y.r.R.length ≤ 1000000; rw [e]; simp
        · have := (h3 e).2.1
          unfold RV.P at this
          rw [List.length_map] at this
          show y.r.R.length ≤ 1000000; omega
      · have hp : p ∈ y.r.R := hp
        have hr := h3 (List.ne_nil_of_mem hp)
        exact rOk_byt hr p hp
    · rw [List.all_eq_true]
      intro x hx
      obtain ⟨y, hy, rfl⟩ := List.mem_map.1 hx
      obtain ⟨h1, h2, h3⟩ := hE y hy
      have k1 : mayK y.K.length = true := by unfold mayK; rw [decide_eq_true_eq]; exact h2.2
      unfold wrB
      show (decide (0 ≤ (y.t : Int) ∧ (y.t : Int) < (m.tabs.length : Int)) && mayK y.K.length && (decide (y.r.R.length = 0) || mayR y.r.R)) = true
      rw [k1, decide_eq_true (by omega)]
      by_cases e : y.r.R = []
      · rw [e]; rfl
      · have hr := h3 e
        unfold RV.P at hr
        unfold mayR allB
        simp only [Bool.and_eq_true, Bool.or_eq_true, decide_eq_true_eq, List.all_eq_true]
        refine ⟨⟨trivial, trivial⟩, .inr ⟨fun p hp => ?_, ?_, ?_⟩⟩
        · have := (hr.2.2 p.bs (List.mem_map.2 ⟨p, hp, rfl⟩)).2
          simpa using this
        · have := hr.1; rw [List.length_map] at this; exact this
        · have := hr.2.1; rw [List.length_map] at this; exact this
  | false =>
    rw [if_neg (by decide)] at h
    obtain ⟨rfl, hbl⟩ := h
    exact ⟨2, none, 0, 0, [], rfl, hbl, rfl, rfl, fun _ => ⟨rfl, rfl⟩, fun W' _ k z hz => by simp at hz, fun z hz => (nomatch hz), fun e => nomatch e⟩
/-- What Do answers, in one form. -/
theorem do_form {S : Nat → Prop} {w w' : World} {m : Md} {x : TxnV} {r : Ending} {b : Bool} (hm : MdR S w m) (hb : mayT m.j x = b) (h : DoR S w m x r w') : ∃ (da : Option Addr) (dn dc : Nat) (rs : List ResV) (m' : Md), r = .returned (.tuple #[.slice da dn dc, .int .i64 (if b then 0 else 2)]) ∧ MdR S w' m' ∧ MdSame m m' ∧ Off (Maps' m) w w' ∧ (∀ N : Nat, (∀ x ∈ m.tabs, x.2.length ≤ N) → ∀ x ∈ m'.tabs, x.2.length ≤ N + 16) ∧
    rs.length = dn ∧ (Stay S w' fun W => ResR W da rs) ∧ (b = true → rs.map resC = ansP m.j m.P x ∧ m'.P = applyT m.P (wsI (wrtP m.j m.P x))) ∧ (b = false → rs = [] ∧ m' = m) := by
  unfold DoR at h
  rw [hb] at h
  cases b with
  | true =>
    rw [if_pos rfl] at h
    obtain ⟨m', a, c, rs, rfl, h1, h2, h3, h4, h5, h6, _, h8⟩ := h
    exact ⟨a, rs.length, c, rs, m', rfl, h1, h2, h4, h5, rfl, h8, fun _ => ⟨h6, h3⟩, fun e => (nomatch e)⟩
  | false =>
    rw [if_neg (by decide)] at h
    obtain ⟨rfl, hbl⟩ := h
    exact ⟨none, 0, 0, [], m, rfl, hm.below hbl, MdSame.rfl' m, Off.of hbl, fun N hN x hx => Nat.le_trans (hN x hx) (by omega), rfl, fun W' _ k z hz => (by simp at hz), fun e => (nomatch e), fun _ => ⟨rfl, rfl⟩⟩
set_option maxRecDepth 100000 in
set_option maxHeartbeats 4000000 in
/-- The law: ModelMeans (6). -/
theorem means_law (j : Job) (a : Option Addr) (L : List TxnV) (n c : Nat) (hL : L.length = n) (hn : n ≤ 140737488355328) (hB : ∀ x ∈ L, TxG x) (w : World) (hjl : Ls .i64 w j.a j.cap j.T) (hjT : j.T.length = j.n) (hA : TxsR w a L) :
    Calls Tryz.prog 6 #[.agg #[.int .i64 j.w, .int .i64 j.l, .int .i64 j.d, .int .i64 j.c, .int .i64 j.k, .int .i64 j.e, .slice j.a j.n j.cap], .slice a n c] w fun r w' => r = .returned (.bool true) ∧ Below w.heap.size w w' := by
  have HL := Lib.hid hL
  have HA := Lib.hid (fun X (b : Below w.heap.size w X) => hA.below b)
  have HJL := Lib.hid (And.intro hjl hjT)
  have HMU := Lib.hid (fun X (b : Below w.heap.size w X) => much8_law j a L n c hL hn hB X (hA.below b))
  have hnn : (n : Int) ≤ 140737488355328 := by omega
  obtain ⟨w1, hw1⟩ : ∃ W, W = w.alloc (.cells #[.int .i64 j.w, .int .i64 j.l, .int .i64 j.d, .int .i64 j.c, .int .i64 j.k, .int .i64 j.e, .slice j.a j.n j.cap] 24) := ⟨_, rfl⟩
  have hb1 : Below w.heap.size w w1 := by rw [hw1]; exact bl1 _ _
  have hx1 : BoxC w1 w.heap.size #[.int .i64 j.w, .int .i64 j.l, .int .i64 j.d, .int .i64 j.c, .int .i64 j.k, .int .i64 j.e, .slice j.a j.n j.cap] 24 := by rw [hw1]; exact BoxC.new _ _ _
  have HB1 := Lib.hid hb1
  have HX1 := Lib.hid hx1
  have HSZ1 := Lib.hid (show w1.heap.size = w.heap.size + 1 by rw [hw1]; simp)
  clear hL hn hB hA hb1 hx1 hjl hjT
  go_enter Tryz.func6, Tryz.ntmps6
  go_upto_region 1 with (fail)
  rw [← hw1]
  clear hw1
  go_wp2_with fail
  refine (known_law22 _).mono ?_; rintro r w2 ⟨rfl, hb2⟩
  have HB2 := Lib.hid (step_below HB1.out hb2)
  have hx2 := HX1.out.below hb2
  have HX2 := Lib.hid hx2
  have HSZ2 := Lib.hid (Nat.le_trans (Nat.le_of_eq HSZ1.out.symm) hb2.size)
  have c0 := (hx2).cell 0
  have c1 := (hx2).cell 1
  have c2 := (hx2).cell 2
  have c3 := (hx2).cell 3
  have c4 := (hx2).cell 4
  have c5 := (hx2).cell 5
  have c6 := (hx2).cell 6
  simp only [List.getElem?_toArray, List.getElem?_cons_zero, List.getElem?_cons_succ] at c0 c1 c2 c3 c4 c5 c6
  clear hb2 hx2
  go_wp2_with fail
  refine (HMU.out w2 HB2.out).mono ?_; rintro r w3 ⟨⟨b, rfl, hb⟩, hb3⟩
  have HMB := Lib.hid hb
  have HB3 := Lib.hid (step_below HB2.out hb3)
  have hx3 := HX2.out.below hb3
  have HX3 := Lib.hid hx3
  have HSZ3 := Lib.hid (Nat.le_trans HSZ2.out hb3.size)
  clear c0 c1 c2 c3 c4 c5 c6 hb hb3
  cases b with
  | true =>
    clear hx3
    go_wp2_with fail
    go_ret
    exact ⟨rfl, HB3.out⟩
  | false =>
    have c0 := (hx3).cell 0
    have c1 := (hx3).cell 1
    have c2 := (hx3).cell 2
    have c3 := (hx3).cell 3
    have c4 := (hx3).cell 4
    have c5 := (hx3).cell 5
    have c6 := (hx3).cell 6
    simp only [List.getElem?_toArray, List.getElem?_cons_zero, List.getElem?_cons_succ] at c0 c1 c2 c3 c4 c5 c6
    obtain ⟨m1, m2, m3⟩ := HMB.out rfl
    have HMM := Lib.hid (And.intro m2 m3)
    have HJA := Lib.hid (show JobAt w3 j from ⟨HJL.out.1.below HB3.out, HJL.out.2, by omega⟩)
    have HNW := Lib.hid (new_law j w3 HJA.out)
    clear hx3 m2 m3
    go_wp2_with fail
    refine HNW.out.mono ?_; clear HNW; rintro r w4 hr
    unfold NewR at hr
    cases hok : okB j with
    | false =>
      rw [hok, if_neg (by decide)] at hr
      obtain ⟨rfl, hb4⟩ := hr
      have HB4 := Lib.hid (step_below HB3.out hb4)
      clear hb4 c0 c1 c2 c3 c4 c5 c6
      go_wp2_with fail
      refine (num22_law 2 _).mono ?_; rintro r w0 ⟨rfl, hw0⟩; subst hw0
      go_wp2_with fail
      go_ret
      exact ⟨rfl, HB4.out⟩
    | true =>
      rw [hok, if_pos rfl] at hr
      obtain ⟨S, m, rfl, hb4, hmd, hSm, ⟨mja, mjc, hmj⟩, hem⟩ := hr
      have HM0 := Lib.hid hmd
      have HZ := Lib.hid (fun k (hk : S k) => (hSm k hk).2)
      have HLO := Lib.hid (fun k (hk : S k) => (hSm k hk).1)
      have HLOW := Lib.hid (fun k (hk : S k) => Nat.le_trans HB3.out.size (hSm k hk).1)
      have HJ2 := Lib.hid (show m.j.n = j.n ∧ m.j.T = j.T by rw [hmj]; exact ⟨rfl, rfl⟩)
      have HEM := Lib.hid hem
      have HB4 := Lib.hid (step_below HB3.out hb4)
      have HW3W := Lib.hid hb4.size
      have HX := Lib.hid (fun W' (o : Off S w4 W') => boxc_off (HX3.out.below hb4) o (fun e => by have h1 := HLO.out _ e; have h2 := HSZ3.out; omega))
      have HBL := Lib.hid (fun W' (o : Off S w4 W') => Off.below HB4.out o HB4.out.size HLOW.out)
      clear hb4 hmd hSm hmj hem c0 c1 c2 c3 c4 c5 c6
      go_wp2_with fail
      refine (num22_law 0 _).mono ?_; rintro r w0 ⟨rfl, hw0⟩; subst hw0
      go_wp2_with fail
      obtain ⟨w3', hw3'⟩ : ∃ X, w4 = X := ⟨_, rfl⟩
      go_loopw [7] (fun i wr => ∃ (k : Nat) (mc : Md), k ≤ 40 ∧ k ≤ n ∧ i = .int .i64 (k : Int) ∧ Hid (MdR S wr mc) ∧ Hid (MdSame m mc) ∧ Hid (∀ z ∈ mc.tabs, z.2.length ≤ 16 * k) ∧ Hid (Off S w4 wr)) (fun i _ => n - (intOf i).toNat)
      case atStart => exact ⟨0, m, by omega, by omega, rfl, HM0, Lib.hid (MdSame.rfl' m), Lib.hid (fun z hz => by rw [HEM.out z hz]; exact Nat.zero_le _), Lib.hid (Off.refl _ _)⟩
      case round =>
        obtain ⟨k, mc, hk1, hk2, rfl, HM, HMS, HLN, HO⟩ := hrel
        by_cases hlt : k < n
        · have d1 : (k : Int) < (n : Int) := by omega
          by_cases h15 : k < 40
          · have d2 : (k : Int) < 40 := by omega
            obtain ⟨x, hx⟩ : ∃ x, L[k]? = some x := ⟨_, List.getElem?_eq_getElem (by rw [HL.out]; exact hlt)⟩
            have hbw := HBL.out wr HO.out
            obtain ⟨b9, o9, e9, ⟨q0, q1, q2⟩, hT0⟩ := HA.out wr hbw k x hx
            cases e9
            have hxm := HMM.out.2 x (List.mem_of_getElem? hx)
            have hol := hT0.ol
            have hon : x.on ≤ 1000000 := by have := hxm.1; omega
            have HXX := Lib.hid (fun X (b : Below w.heap.size w X) => (by obtain ⟨_, _, e, ⟨a0, a1, a2⟩, ht⟩ := HA.out X b k x hx; cases e; exact ⟨a0, a1, a2, ht⟩ : X.cell? ⟨b9, o9 + k * 3, none⟩ = some (.slice x.oa x.on x.oc) ∧ X.cell? ⟨b9, o9 + k * 3 + 1, none⟩ = some (.bool x.sn) ∧ X.cell? ⟨b9, o9 + k * 3 + 2, none⟩ = some (.bool x.ab) ∧ TxnAt X x))
            have HXM := Lib.hid (And.intro hxm (And.intro hol hon))
            have hsz : ∀ k, S k → k < wr.heap.size := fun k hk => Nat.lt_of_lt_of_le (HZ.out k hk) HO.out.size
            have key := copy_lawT S hsz HM.out (fun z hz => by have := HLN.out z hz; omega)
            rw [HMS.out.p] at key
            have HCO := Lib.hid key
            have HSZ := Lib.hid hsz
            have HBW := Lib.hid hbw
            clear hx hT0 hxm hol hon hsz key hbw q0 q1 q2
            go_wp2_with fail
            refine HCO.out.mono ?_; clear HCO; rintro r w4 ⟨S2, m2, rfl, hb4, hm2, hs21, hs22, hs23, hs24, ⟨ja2, jc2, hj2⟩, hP2⟩
            have HB4 := Lib.hid hb4
            have HS2 := Lib.hid (And.intro hs21 (And.intro hs22 (And.intro hs23 hs24)))
            have HM2 := Lib.hid (And.intro hm2 (And.intro hj2 hP2))
            have HMC := Lib.hid (HM.out.off (S' := S2) (T := fun _ => False) (Off.of hb4) (fun _ h => h.elim) (fun _ _ h => h) (fun k hk => hs22 k hk) (fun z hz => hs21 _ (HM.out.hS z hz)))
            have HW4 := Lib.hid (step_below HBW.out hb4)
            have HLO2 := Lib.hid (fun k (hk : S2 k) => (hs22 k hk).elim (fun h => HLOW.out k h) (fun h => Nat.le_trans HBW.out.size h))
            clear hb4 hm2 hs21 hs22 hs23 hs24 hj2 hP2
            have HTX := Lib.hid (fun W' (o : Off S2 w4 W') => (HXX.out W' (Off.below HW4.out o HW4.out.size HLO2.out)).2.2.2)
            have hlm : ∀ z ∈ mc.tabs, z.2.length ≤ 300000 := fun z hz => by have := HLN.out z hz; omega
            have HKW := Lib.hid (writes_law HMC.out HS2.out.2.2.1 x HTX.out HXM.out.2.2 (fun o ho => by have := HXM.out.1.2 o ho; omega) hlm)
            rw [HMS.out.p] at HKW
            obtain ⟨q0, q1, q2, _⟩ := HXX.out w4 HW4.out
            clear hlm
            go_wp2_with fail
            refine HKW.out.mono ?_; clear HKW; rintro r w5 hw
            obtain ⟨mayb, hmay⟩ : ∃ b, mayT mc.j x = b := ⟨_, rfl⟩
            obtain ⟨ee, wa, wn, wc, WL, rfl, hb5, hwf⟩ := wr_form hmay hw
            have HWF := Lib.hid hwf
            have HB5 := Lib.hid hb5
            have HW5 := Lib.hid (step_below HW4.out hb5)
            have HMC5 := Lib.hid (HMC.out.below hb5)
            have HMAY := Lib.hid hmay
            clear hw hwf hb5 q0 q1 q2
            have HKD := Lib.hid (do_law HMC5.out (fun k hk => Nat.lt_of_lt_of_le (HS2.out.2.2.1 k hk) HB5.out.size) x (fun W' o => HTX.out W' ((Off.of HB5.out).trans o)) HXM.out.2.2 (fun o ho => by have := HXM.out.1.2 o ho; omega) (fun z hz => by have := HLN.out z hz; omega))
            rw [HMS.out.p] at HKD
            obtain ⟨q0, q1, q2, _⟩ := HXX.out w5 HW5.out
            go_wp2_with fail
            refine HKD.out.mono ?_; clear HKD; rintro r w6 hd
            obtain ⟨da, dn, dc, rs, md, rfl, hmd, hms, hoff, hlen, hdf⟩ := do_form HMC5.out HMAY.out hd
            rw [← HWF.out.1]
            have HMD := Lib.hid (And.intro hmd (And.intro hms (And.intro hoff hlen)))
            have HDF := Lib.hid hdf
            have hSM : ∀ k, Maps' mc k → S2 k := fun k ⟨z, hz, e⟩ => e ▸ HMC.out.hS z hz
            have HW6 := Lib.hid (Off.below HW5.out (hoff.mono hSM) HW5.out.size HLO2.out)
            have HO6 := Lib.hid (And.intro hSM hoff)
            obtain ⟨q0', q1', q2', ht6⟩ := HXX.out w6 HW6.out
            clear hd hmd hms hoff hlen hdf hSM hmay q0 q1 q2
            have hml : m2.tabs.length = mc.tabs.length := by rw [← Md.P_len, HM2.out.2.2, Md.P_len]
            have hl2 : ∀ z ∈ m2.tabs, z.2.length ≤ 640 := fun z hz => by
              have h1 : tabP z.2 ∈ m2.P := List.mem_map.2 ⟨z, hz, rfl⟩
              rw [HM2.out.2.2] at h1
              obtain ⟨q, hq, e⟩ := List.mem_map.1 h1
              have h2 := HLN.out q hq
              have h3 := congrArg List.length e
              unfold tabP at h3
              rw [List.length_map, List.length_map] at h3
              omega
            have hwn : WL.length ≤ 9000 := by
              cases mayb with
              | false => rw [(HWF.out.2.2.1 (by simp)).2]; exact Nat.zero_le _
              | true =>
                obtain ⟨_, E, hE, hp⟩ := HWF.out.2.2.2.2.2 (by simp)
                have h1 := hp.length_eq
                rw [List.length_map] at h1
                rw [hE, List.length_map, h1]
                unfold wrtP
                split
                · exact Nat.zero_le _
                · exact Nat.le_trans (runP_len _ _ _).2 HXM.out.1.1
            have hall : WL.all (wrB m2.tabs.length) = true := by
              cases mayb with
              | false => rw [(HWF.out.2.2.1 (by simp)).2]; rfl
              | true => rw [hml]; exact (HWF.out.2.2.2.2.2 (by simp)).1
            have hPP : applyT m2.P (WL.map WrV.P) = md.P := by
              cases mayb with
              | false => rw [(HWF.out.2.2.1 (by simp)).2, HM2.out.2.2, (HDF.out.2.2.2 (by simp)).2]; rfl
              | true =>
                obtain ⟨_, E, hE, hp⟩ := HWF.out.2.2.2.2.2 (by simp)
                rw [(HDF.out.2.2.1 (by simp)).2, HM2.out.2.2, hE]
                exact writes_apply HMC5.out x hp
            have hdis : ∀ z ∈ m2.tabs, ¬ Maps' mc z.1 := fun z hz ⟨q, hq, e⟩ => by
              have h1 := HS2.out.2.2.2 z hz
              have h2 := HSZ.out _ (HM.out.hS q hq)
              omega
            have hm2w6 := (HM2.out.1.below HB5.out).off HO6.out.2 HO6.out.1 hdis (fun k hk => .inl hk) HM2.out.1.hS
            have HAP := Lib.hid (mapply_law hm2w6 (fun k hk => Nat.lt_of_lt_of_le (HS2.out.2.2.1 k hk) (Nat.le_trans HB5.out.size HO6.out.2.size)) wa wn wc WL HWF.out.2.1 (by rw [← HWF.out.2.1]; omega) (HWF.out.2.2.2.1.off (HO6.out.2.mono HO6.out.1)) HWF.out.2.2.2.2.1 (fun z hz => by have := hl2 z hz; omega))
            have HALL := Lib.hid (And.intro hall (And.intro hPP (And.intro hdis (And.intro hl2 hml))))
            clear hml hl2 hwn hall hPP hdis hm2w6
            cases mayb with
            | true =>
              have hee : ee = 0 := HWF.out.1
              have hdn : dn = x.on := by
                have h1 := congrArg List.length (HDF.out.2.2.1 (by simp)).1
                rw [List.length_map, HDF.out.1] at h1
                rw [h1, ← HXM.out.2.1]; exact (runP_len _ _ _).1
              have HEE := Lib.hid hee
              have HDN := Lib.hid hdn
              rw [hee]
              rw [hdn]
              clear hee hdn
              have e6 : ((x.on : Int) != (x.on : Int)) = false := by simp
              go_wp2_with fail
              refine (num22_law 0 _).mono ?_; rintro r w0 ⟨rfl, hw0⟩; subst hw0
              go_wp2_with fail
              refine (num22_law 0 _).mono ?_; rintro r w0 ⟨rfl, hw0⟩; subst hw0
              go_wp2_with fail
              refine (num22_law 0 _).mono ?_; rintro r w0 ⟨rfl, hw0⟩; subst hw0
              go_wp2_with fail
              refine HAP.out.mono ?_; clear HAP; rintro r w7 ⟨m3, hr7, hm3, hms3, hP3, hoff3, _⟩
              rw [if_pos HALL.out.1] at hr7 hP3
              subst hr7
              have hS23 : ∀ k, Maps' m2 k → S2 k := fun k ⟨z, hz, e⟩ => e ▸ HM2.out.1.hS z hz
              have HW7 := Lib.hid (Off.below HW6.out (hoff3.mono hS23) HW6.out.size HLO2.out)
              have HMD7 := Lib.hid (HMD.out.1.off hoff3 hS23 (fun z hz ⟨q, hq, e⟩ => by
                obtain ⟨z', hz', e'⟩ := HMD.out.2.1.mem hz
                exact HALL.out.2.2.1 q hq ⟨z', hz', by rw [← e, e']⟩) (fun k hk => .inl hk) HMD.out.1.hS)
              have HM37 := Lib.hid (And.intro hm3 (And.intro hms3 (And.intro (hP3.trans HALL.out.2.1) hoff3)))
              have hsame := msame_law hm3 HMD7.out (fun z hz => by
                have h1 : tabP z.2 ∈ m3.P := List.mem_map.2 ⟨z, hz, rfl⟩
                rw [hP3, HALL.out.2.1] at h1
                obtain ⟨q, hq, e⟩ := List.mem_map.1 h1
                have h2 := HMD.out.2.2.2 _ HLN.out q hq
                have h3 := congrArg List.length e
                unfold tabP at h3
                rw [List.length_map, List.length_map] at h3
                omega) (fun z hz => by have := HMD.out.2.2.2 _ HLN.out z hz; omega)
              rw [show decide (m3.j.T = md.j.T) = true from decide_eq_true (by rw [hms3.j, HM2.out.2.1, HMD.out.2.1.j]), show decide (m3.P = md.P) = true from decide_eq_true (hP3.trans HALL.out.2.1), hms3.p, HMD.out.2.1.p, HMS.out.p] at hsame
              have HSA := Lib.hid hsame
              clear hm3 hms3 hP3 hoff3 hS23 hsame q0' q1' q2' ht6
              go_wp2_with fail
              refine (num22_law 0 _).mono ?_; rintro r w0 ⟨rfl, hw0⟩; subst hw0
              go_wp2_with fail
              refine HSA.out.mono ?_; clear HSA; rintro r w8 ⟨rfl, hb8⟩
              have HB8 := Lib.hid hb8
              have HW8 := Lib.hid (step_below HW7.out hb8)
              obtain ⟨q0, q1, q2, ht8⟩ := HXX.out w8 HW8.out
              have HT8 := Lib.hid ht8
              clear hb8 ht8
              have HLA := Lib.hid (last_law (HMD7.out.below HB8.out) x HT8.out x.on rfl HXM.out.2.2 x.on (fun he o ho => by
                have h1 := HXM.out.1.2 o ho
                exact ⟨by omega, by have := may_kn HMAY.out ho; omega⟩) da dc rs (HDF.out.1.trans HDN.out) ((HDF.out.2.1.off (HM37.out.2.2.2.mono (fun k ⟨z, hz, e⟩ => e ▸ HM2.out.1.hS z hz))).now.below HB8.out) (fun hab _ i o y h1 h2 h3 h4 => left_behind HMC5.out HMD.out.1 HMD.out.2.1 HMAY.out hab (HDF.out.2.2.1 (by simp)).2 (fun v hv => by
                obtain ⟨ha, E, hE, hp⟩ := HWF.out.2.2.2.2.2 (by simp)
                obtain ⟨y, hy, rfl⟩ := List.mem_map.1 (hp.mem_iff.2 hv)
                have h1 := List.all_eq_true.1 ha y.W (by rw [hE]; exact List.mem_map.2 ⟨y, hy, rfl⟩)
                unfold wrB at h1
                simp only [Bool.and_eq_true, decide_eq_true_eq] at h1
                have h2 : (y.t : Int) < (mc.tabs.length : Int) := h1.1.1.2
                show y.t < _
                omega) (HDF.out.2.2.1 (by simp)).1 (fun o ho => by obtain ⟨i, hi⟩ := List.mem_iff_getElem?.1 ho; obtain ⟨_, _, _, _, hc⟩ := HT8.out.os i o hi; exact hc.rl) h1 h2 h3 h4))
              rw [HMD.out.2.1.p, HMS.out.p] at HLA
              have HIX := Lib.hid (fun X (b : Below w8.heap.size w8 X) => (by
                have bw := step_below HW8.out b
                have h1 := indexed_law (HMD7.out.below (step_below HB8.out b)) (fun k hk => Nat.lt_of_lt_of_le (HS2.out.2.2.1 k hk) (Nat.le_trans HB5.out.size (Nat.le_trans HO6.out.2.size (Nat.le_trans HM37.out.2.2.2.size (Nat.le_trans HB8.out.size b.size))))) (fun z hz => by have := HMD.out.2.2.2 _ HLN.out z hz; omega) j (HJL.out.1.below bw) (by rw [HMD.out.2.1.j, HMS.out.j]; exact HJ2.out.2) (by rw [HMD.out.2.1.j, HMS.out.j]; exact HJ2.out.1)
                rw [HMD.out.2.1.p, HMS.out.p] at h1
                exact h1 : Calls Tryz.prog 27 #[.pointer (some ⟨m.p, 0, none⟩), .agg #[.int .i64 j.w, .int .i64 j.l, .int .i64 j.d, .int .i64 j.c, .int .i64 j.k, .int .i64 j.e, .slice j.a j.n j.cap]] X fun r w' => r = .returned (.bool true) ∧ Below X.heap.size X w'))
              cases hab : x.ab with
              | true =>
                rw [hab] at q2 HLA
                have hw0 : wn = 0 := by
                  obtain ⟨_, E, hE, hp⟩ := HWF.out.2.2.2.2.2 (by simp)
                  have h1 := hp.length_eq
                  rw [← HWF.out.2.1, hE, List.length_map]
                  rw [List.length_map] at h1
                  rw [h1]; unfold wrtP; rw [hab]; rfl
                rw [hw0]
                clear hab
                go_wp2_with fail
                refine (num22_law 0 _).mono ?_; rintro r w0 ⟨rfl, hw0⟩; subst hw0
                go_wp2_with fail
                refine HLA.out.mono ?_; clear HLA; rintro r w9 ⟨rfl, hb9⟩
                have HB9 := Lib.hid hb9
                have HW9 := Lib.hid (step_below HW8.out HB9.out)
                have hbx9 := (((boxc_off (boxc_off (((HX.out wr HO.out).below HB4.out).below HB5.out) HO6.out.2 (fun ⟨z, hz, e⟩ => by
                  have h1 := HLO.out _ (HM.out.hS z hz); have h2 := HSZ3.out; omega)) HM37.out.2.2.2 (fun ⟨z, hz, e⟩ => by
                  have h1 := HS2.out.2.2.2 z hz; have h2 := HBW.out.size; have h3 := HSZ3.out; have h4 := HW3W.out; have h5 := HO.out.size; omega)).below HB8.out).below HB9.out)
                have c0 := (hbx9).cell 0
                have c1 := (hbx9).cell 1
                have c2 := (hbx9).cell 2
                have c3 := (hbx9).cell 3
                have c4 := (hbx9).cell 4
                have c5 := (hbx9).cell 5
                have c6 := (hbx9).cell 6
                simp only [List.getElem?_toArray, List.getElem?_cons_zero, List.getElem?_cons_succ] at c0 c1 c2 c3 c4 c5 c6
                clear hb9 hbx9 q0 q1 q2
                go_wp2_with fail
                refine (HIX.out w9 HB9.out).mono ?_; rintro r w10 ⟨rfl, hb10⟩
                have HB10 := Lib.hid hb10
                clear hb10 c0 c1 c2 c3 c4 c5 c6
                go_wp2_with fail
                go_roundw
                case rel =>
                  refine ⟨k + 1, md, by omega, by omega, by go_num, Lib.hid ?_, Lib.hid (HMS.out.trans HMD.out.2.1), Lib.hid (fun z hz => by have := HMD.out.2.2.2 _ HLN.out z hz; omega), Lib.hid ?_⟩
                  · exact (((HMD7.out.below HB8.out).below HB9.out).below HB10.out).less HS2.out.1 (fun z hz => by
                      obtain ⟨q, hq, e⟩ := HMD.out.2.1.mem hz
                      rw [e]; exact HM.out.hS q hq)
                  · have o6 := ((HO.out.trans (Off.of HB4.out)).trans (Off.of HB5.out)).trans (HO6.out.2.mono (fun k ⟨z, hz, e⟩ => e ▸ HM.out.hS z hz))
                    have o7 := o6.trans2 HM37.out.2.2.2 (fun b ⟨z, hz, e⟩ => .inr (by have h1 := HS2.out.2.2.2 z hz; have h5 := HO.out.size; omega))
                    exact ((o7.trans (Off.of HB8.out)).trans (Off.of HB9.out)).trans (Off.of HB10.out)
                case measure => simp [intOf]; omega
              | false =>
                rw [hab] at q2 HLA
                clear hab
                go_wp2_with fail
                refine (num22_law 0 _).mono ?_; rintro r w0 ⟨rfl, hw0⟩; subst hw0
                go_wp2_with fail
                refine HLA.out.mono ?_; clear HLA; rintro r w9 ⟨rfl, hb9⟩
                have HB9 := Lib.hid hb9
                have HW9 := Lib.hid (step_below HW8.out HB9.out)
                have hbx9 := (((boxc_off (boxc_off (((HX.out wr HO.out).below HB4.out).below HB5.out) HO6.out.2 (fun ⟨z, hz, e⟩ => by
                  have h1 := HLO.out _ (HM.out.hS z hz); have h2 := HSZ3.out; omega)) HM37.out.2.2.2 (fun ⟨z, hz, e⟩ => by
                  have h1 := HS2.out.2.2.2 z hz; have h2 := HBW.out.size; have h3 := HSZ3.out; have h4 := HW3W.out; have h5 := HO.out.size; omega)).below HB8.out).below HB9.out)
                have c0 := (hbx9).cell 0
                have c1 := (hbx9).cell 1
                have c2 := (hbx9).cell 2
                have c3 := (hbx9).cell 3
                have c4 := (hbx9).cell 4
                have c5 := (hbx9).cell 5
                have c6 := (hbx9).cell 6
                simp only [List.getElem?_toArray, List.getElem?_cons_zero, List.getElem?_cons_succ] at c0 c1 c2 c3 c4 c5 c6
                clear hb9 hbx9 q0 q1 q2
                go_wp2_with fail
                refine (HIX.out w9 HB9.out).mono ?_; rintro r w10 ⟨rfl, hb10⟩
                have HB10 := Lib.hid hb10
                clear hb10 c0 c1 c2 c3 c4 c5 c6
                go_wp2_with fail
                go_roundw
                case rel =>
                  refine ⟨k + 1, md, by omega, by omega, by go_num, Lib.hid ?_, Lib.hid (HMS.out.trans HMD.out.2.1), Lib.hid (fun z hz => by have := HMD.out.2.2.2 _ HLN.out z hz; omega), Lib.hid ?_⟩
                  · exact (((HMD7.out.below HB8.out).below HB9.out).below HB10.out).less HS2.out.1 (fun z hz => by
                      obtain ⟨q, hq, e⟩ := HMD.out.2.1.mem hz
                      rw [e]; exact HM.out.hS q hq)
                  · have o6 := ((HO.out.trans (Off.of HB4.out)).trans (Off.of HB5.out)).trans (HO6.out.2.mono (fun k ⟨z, hz, e⟩ => e ▸ HM.out.hS z hz))
                    have o7 := o6.trans2 HM37.out.2.2.2 (fun b ⟨z, hz, e⟩ => .inr (by have h1 := HS2.out.2.2.2 z hz; have h5 := HO.out.size; omega))
                    exact ((o7.trans (Off.of HB8.out)).trans (Off.of HB9.out)).trans (Off.of HB10.out)
                case measure => simp [intOf]; omega
            | false =>
              have hee : ee = 2 := HWF.out.1
              have HEE := Lib.hid hee
              rw [hee]
              clear hee
              go_wp2_with fail
              refine (num22_law 2 _).mono ?_; rintro r w0 ⟨rfl, hw0⟩; subst hw0
              go_wp2_with fail
              refine (num22_law 2 _).mono ?_; rintro r w0 ⟨rfl, hw0⟩; subst hw0
              go_wp2_with fail
              refine (num22_law 2 _).mono ?_; rintro r w0 ⟨rfl, hw0⟩; subst hw0
              go_wp2_with fail
              refine HAP.out.mono ?_; clear HAP; rintro r w7 ⟨m3, hr7, hm3, hms3, hP3, hoff3, _⟩
              rw [if_pos HALL.out.1] at hr7 hP3
              subst hr7
              have hS23 : ∀ k, Maps' m2 k → S2 k := fun k ⟨z, hz, e⟩ => e ▸ HM2.out.1.hS z hz
              have HW7 := Lib.hid (Off.below HW6.out (hoff3.mono hS23) HW6.out.size HLO2.out)
              have HMD7 := Lib.hid (HMD.out.1.off hoff3 hS23 (fun z hz ⟨q, hq, e⟩ => by
                obtain ⟨z', hz', e'⟩ := HMD.out.2.1.mem hz
                exact HALL.out.2.2.1 q hq ⟨z', hz', by rw [← e, e']⟩) (fun k hk => .inl hk) HMD.out.1.hS)
              have HM37 := Lib.hid (And.intro hm3 (And.intro hms3 (And.intro (hP3.trans HALL.out.2.1) hoff3)))
              have hsame := msame_law hm3 HMD7.out (fun z hz => by
                have h1 : tabP z.2 ∈ m3.P := List.mem_map.2 ⟨z, hz, rfl⟩
                rw [hP3, HALL.out.2.1] at h1
                obtain ⟨q, hq, e⟩ := List.mem_map.1 h1
                have h2 := HMD.out.2.2.2 _ HLN.out q hq
                have h3 := congrArg List.length e
                unfold tabP at h3
                rw [List.length_map, List.length_map] at h3
                omega) (fun z hz => by have := HMD.out.2.2.2 _ HLN.out z hz; omega)
              rw [show decide (m3.j.T = md.j.T) = true from decide_eq_true (by rw [hms3.j, HM2.out.2.1, HMD.out.2.1.j]), show decide (m3.P = md.P) = true from decide_eq_true (hP3.trans HALL.out.2.1), hms3.p, HMD.out.2.1.p, HMS.out.p] at hsame
              have HSA := Lib.hid hsame
              clear hm3 hms3 hP3 hoff3 hS23 hsame q0' q1' q2' ht6
              go_wp2_with fail
              refine (num22_law 0 _).mono ?_; rintro r w0 ⟨rfl, hw0⟩; subst hw0
              go_wp2_with fail
              refine HSA.out.mono ?_; clear HSA; rintro r w8 ⟨rfl, hb8⟩
              have HB8 := Lib.hid hb8
              have HW8 := Lib.hid (step_below HW7.out hb8)
              obtain ⟨q0, q1, q2, ht8⟩ := HXX.out w8 HW8.out
              have HT8 := Lib.hid ht8
              clear hb8 ht8
              have HLA := Lib.hid (last_law (HMD7.out.below HB8.out) x HT8.out x.on rfl HXM.out.2.2 dn (fun he o ho => by
                have h1 := HXM.out.1.2 o ho
                exfalso; have h2 := HDF.out.1; rw [(HDF.out.2.2.2 (by simp)).1] at h2; have h3 := HXM.out.2.1; have h4 := List.length_pos_of_mem ho; simp at h2; omega) da dc rs HDF.out.1 ((HDF.out.2.1.off (HM37.out.2.2.2.mono (fun k ⟨z, hz, e⟩ => e ▸ HM2.out.1.hS z hz))).now.below HB8.out) (fun _ _ i o y _ h2 => by rw [(HDF.out.2.2.2 (by simp)).1] at h2; simp at h2))
              rw [HMD.out.2.1.p, HMS.out.p] at HLA
              have HIX := Lib.hid (fun X (b : Below w8.heap.size w8 X) => (by
                have bw := step_below HW8.out b
                have h1 := indexed_law (HMD7.out.below (step_below HB8.out b)) (fun k hk => Nat.lt_of_lt_of_le (HS2.out.2.2.1 k hk) (Nat.le_trans HB5.out.size (Nat.le_trans HO6.out.2.size (Nat.le_trans HM37.out.2.2.2.size (Nat.le_trans HB8.out.size b.size))))) (fun z hz => by have := HMD.out.2.2.2 _ HLN.out z hz; omega) j (HJL.out.1.below bw) (by rw [HMD.out.2.1.j, HMS.out.j]; exact HJ2.out.2) (by rw [HMD.out.2.1.j, HMS.out.j]; exact HJ2.out.1)
                rw [HMD.out.2.1.p, HMS.out.p] at h1
                exact h1 : Calls Tryz.prog 27 #[.pointer (some ⟨m.p, 0, none⟩), .agg #[.int .i64 j.w, .int .i64 j.l, .int .i64 j.d, .int .i64 j.c, .int .i64 j.k, .int .i64 j.e, .slice j.a j.n j.cap]] X fun r w' => r = .returned (.bool true) ∧ Below X.heap.size X w'))
              cases hab : x.ab with
              | true =>
                rw [hab] at q2 HLA
                have hw0 : wn = 0 := (HWF.out.2.2.1 (by simp)).1
                rw [hw0]
                clear hab
                go_wp2_with fail
                refine (num22_law 2 _).mono ?_; rintro r w0 ⟨rfl, hw0⟩; subst hw0
                go_wp2_with fail
                refine HLA.out.mono ?_; clear HLA; rintro r w9 ⟨rfl, hb9⟩
                have HB9 := Lib.hid hb9
                have HW9 := Lib.hid (step_below HW8.out HB9.out)
                have hbx9 := (((boxc_off (boxc_off (((HX.out wr HO.out).below HB4.out).below HB5.out) HO6.out.2 (fun ⟨z, hz, e⟩ => by
                  have h1 := HLO.out _ (HM.out.hS z hz); have h2 := HSZ3.out; omega)) HM37.out.2.2.2 (fun ⟨z, hz, e⟩ => by
                  have h1 := HS2.out.2.2.2 z hz; have h2 := HBW.out.size; have h3 := HSZ3.out; have h4 := HW3W.out; have h5 := HO.out.size; omega)).below HB8.out).below HB9.out)
                have c0 := (hbx9).cell 0
                have c1 := (hbx9).cell 1
                have c2 := (hbx9).cell 2
                have c3 := (hbx9).cell 3
                have c4 := (hbx9).cell 4
                have c5 := (hbx9).cell 5
                have c6 := (hbx9).cell 6
                simp only [List.getElem?_toArray, List.getElem?_cons_zero, List.getElem?_cons_succ] at c0 c1 c2 c3 c4 c5 c6
                clear hb9 hbx9 q0 q1 q2
                go_wp2_with fail
                refine (HIX.out w9 HB9.out).mono ?_; rintro r w10 ⟨rfl, hb10⟩
                have HB10 := Lib.hid hb10
                clear hb10 c0 c1 c2 c3 c4 c5 c6
                go_wp2_with fail
                go_roundw
                case rel =>
                  refine ⟨k + 1, md, by omega, by omega, by go_num, Lib.hid ?_, Lib.hid (HMS.out.trans HMD.out.2.1), Lib.hid (fun z hz => by have := HMD.out.2.2.2 _ HLN.out z hz; omega), Lib.hid ?_⟩
                  · exact (((HMD7.out.below HB8.out).below HB9.out).below HB10.out).less HS2.out.1 (fun z hz => by
                      obtain ⟨q, hq, e⟩ := HMD.out.2.1.mem hz
                      rw [e]; exact HM.out.hS q hq)
                  · have o6 := ((HO.out.trans (Off.of HB4.out)).trans (Off.of HB5.out)).trans (HO6.out.2.mono (fun k ⟨z, hz, e⟩ => e ▸ HM.out.hS z hz))
                    have o7 := o6.trans2 HM37.out.2.2.2 (fun b ⟨z, hz, e⟩ => .inr (by have h1 := HS2.out.2.2.2 z hz; have h5 := HO.out.size; omega))
                    exact ((o7.trans (Off.of HB8.out)).trans (Off.of HB9.out)).trans (Off.of HB10.out)
                case measure => simp [intOf]; omega
              | false =>
                rw [hab] at q2 HLA
                have hw0 : wn = 0 := (HWF.out.2.2.1 (by simp)).1
                rw [hw0]
                clear hab
                go_wp2_with fail
                refine (num22_law 2 _).mono ?_; rintro r w0 ⟨rfl, hw0⟩; subst hw0
                go_wp2_with fail
                refine HLA.out.mono ?_; clear HLA; rintro r w9 ⟨rfl, hb9⟩
                have HB9 := Lib.hid hb9
                have HW9 := Lib.hid (step_below HW8.out HB9.out)
                have hbx9 := (((boxc_off (boxc_off (((HX.out wr HO.out).below HB4.out).below HB5.out) HO6.out.2 (fun ⟨z, hz, e⟩ => by
                  have h1 := HLO.out _ (HM.out.hS z hz); have h2 := HSZ3.out; omega)) HM37.out.2.2.2 (fun ⟨z, hz, e⟩ => by
                  have h1 := HS2.out.2.2.2 z hz; have h2 := HBW.out.size; have h3 := HSZ3.out; have h4 := HW3W.out; have h5 := HO.out.size; omega)).below HB8.out).below HB9.out)
                have c0 := (hbx9).cell 0
                have c1 := (hbx9).cell 1
                have c2 := (hbx9).cell 2
                have c3 := (hbx9).cell 3
                have c4 := (hbx9).cell 4
                have c5 := (hbx9).cell 5
                have c6 := (hbx9).cell 6
                simp only [List.getElem?_toArray, List.getElem?_cons_zero, List.getElem?_cons_succ] at c0 c1 c2 c3 c4 c5 c6
                clear hb9 hbx9 q0 q1 q2
                go_wp2_with fail
                refine (HIX.out w9 HB9.out).mono ?_; rintro r w10 ⟨rfl, hb10⟩
                have HB10 := Lib.hid hb10
                clear hb10 c0 c1 c2 c3 c4 c5 c6
                go_wp2_with fail
                go_roundw
                case rel =>
                  refine ⟨k + 1, md, by omega, by omega, by go_num, Lib.hid ?_, Lib.hid (HMS.out.trans HMD.out.2.1), Lib.hid (fun z hz => by have := HMD.out.2.2.2 _ HLN.out z hz; omega), Lib.hid ?_⟩
                  · exact (((HMD7.out.below HB8.out).below HB9.out).below HB10.out).less HS2.out.1 (fun z hz => by
                      obtain ⟨q, hq, e⟩ := HMD.out.2.1.mem hz
                      rw [e]; exact HM.out.hS q hq)
                  · have o6 := ((HO.out.trans (Off.of HB4.out)).trans (Off.of HB5.out)).trans (HO6.out.2.mono (fun k ⟨z, hz, e⟩ => e ▸ HM.out.hS z hz))
                    have o7 := o6.trans2 HM37.out.2.2.2 (fun b ⟨z, hz, e⟩ => .inr (by have h1 := HS2.out.2.2.2 z hz; have h5 := HO.out.size; omega))
                    exact ((o7.trans (Off.of HB8.out)).trans (Off.of HB9.out)).trans (Off.of HB10.out)
                case measure => simp [intOf]; omega
          · have d2 : ¬ (k : Int) < 40 := by omega
            go_wp2_with fail
            go_ret
            exact ⟨rfl, HBL.out wr HO.out⟩
        · have d1 : ¬ (k : Int) < (n : Int) := by omega
          go_wp2_with fail
          go_ret
          exact ⟨rfl, HBL.out wr HO.out⟩
end Go.Proofs.YthmofoldmdafoaaGreat
namespace Go.Proofs.YthmofoldmdafoaaGreat.modelMeansP
open Go.ChangeShapes Go.WideShapes Go.ChangeAt Go.RowKit
open Go.ChangeMaps (open_string shut_string)
set_option linter.unusedVariables false
set_option linter.unusedSimpArgs false

theorem own : ownKnob Tryz.prog.godebug = none := by kernel_rfl
theorem laidOut : laidOutB Tryz.prog = true := by kernel_rfl

set_option maxRecDepth 100000 in
theorem lifted (os : Os) (started : os.Started) (H : Type) (enc : TypeId × Value → H) :
    ReturnsInHanded {} Tryz.checked os 6 .any (Rows.modelMeansSpec.pre6 enc Tryz.prog Tryz.f6 Rows.modelMeansRow.domain false) (Rows.modelMeansSpec.post enc Tryz.prog Tryz.f6 false true false false) := by
  refine returnsInHanded_of_change_sized (C := Tryz.checked) own started (by kernel_rfl) Tryz.func6
    (ChangeSpec.witness6 (enc := enc) (C := Tryz.checked) false ⟨#[], #[.agg #[.int .i64 0, .int .i64 0, .int .i64 0, .int .i64 0, .int .i64 0, .int .i64 0, .slice none 0 0], .slice none 0 0], []⟩ 12 (by kernel_rfl) (by kernel_rfl) (by kernel_rfl) (by kernel_rfl)) ?_
  intro W base args ds gs before hval0 hW hcnd hsz0 _
  have hsz : (DataW.weightsEach Tryz.prog (Tryz.f6.params.toList ++ Rows.modelMeansSpec.plain.varTypes Tryz.prog) (ds ++ gs)).all (· ≤ reachBytes) = true := hsz0
  clear hsz0
  have hval : ∀ (j : Nat) t v, Tryz.f6.params[j]? = some t → args[j]? = some v → Value.okWide Tryz.prog W .any base t v := hval0
  have hW' := hW
  obtain ⟨p, q, hA0, hV, rfl, hfz, hnd⟩ := hW
  have hA : DataW.TrodAll enc Tryz.prog W 0 (fun _ => true) true Tryz.f6.params.toList args.toList ds p := hA0
  rw [Tryz.params6] at hA hval hsz
  obtain ⟨v0, vs0, d0, ds0, p0, q0, hargs, rfl, rfl, h0, r0⟩ := trodAll_cons hA
  obtain ⟨v1, vs1, d1, ds1, p1, q1, rfl, rfl, rfl, h1, r1⟩ := trodAll_cons r0
  obtain ⟨rfl, rfl, rfl⟩ := trodAll_nil r1
  obtain rfl : args = #[v0, v1] := by cases args; simp_all
  obtain ⟨rfl, rfl⟩ := trodVars_none hV
  have k0 := h0
  have lt0 : ∀ x ∈ p0, x.block < W.heap.size := by obtain ⟨m, hm⟩ := k0; exact DataW.trod_lt m _ _ _ hm
  obtain ⟨J, rfl, LJ, NJ⟩ := open_job (hval 0 24 v0 rfl rfl) h0
  have k1 := h1
  have lt1 : ∀ x ∈ p1, x.block < W.heap.size := by obtain ⟨m, hm⟩ := k1; exact DataW.trod_lt m _ _ _ hm
  have all : ∀ n ∈ DataW.weightsEach Tryz.prog ([24, 25] ++ Rows.modelMeansSpec.plain.varTypes Tryz.prog) ([d0, d1] ++ []), n ≤ reachBytes := fun n hn => by simpa using List.all_eq_true.1 hsz n hn
  obtain ⟨a1, n1, c1, rfl⟩ := okWide_slice Tryz.underlying25 (hval 1 25 v1 rfl rfl)
  obtain ⟨L1, hL1, hR1, hN1, hG1⟩ : ∃ L : List TxnV, L.length = n1 ∧ TxsR W a1 L ∧ n1 ≤ 140737488355328 ∧ ∀ s ∈ L, TxG s := by
    obtain ⟨fuel, hf⟩ := h1
    obtain ⟨a, L, n, c, e, h1, h2, h3, h4⟩ := open_txs (by simpa [Value.cells] using hf) (fun n hn => all n (DataW.weights_mem_each (j := 1) (t := 25) rfl rfl n hn))
    simp only [Value.slice.injEq] at e
    obtain ⟨rfl, rfl, rfl⟩ := e
    exact ⟨L, h1, h2, h3, h4⟩
  clear hA0 hval0
  refine (means_law J a1 L1 n1 c1 hL1 hN1 hG1 W LJ NJ hR1).mono fun e W' ⟨he, bel⟩ => ?_
  subst he
  exact ⟨_, rfl, _, _, _, [], _, [], hW', trodAll_mk1 (shut_bool Tryz.underlying4 _), (trodAll_cons_mk (Below.trod laidOut (by kernel_rfl) (of_decide_eq_true (by kernel_rfl)) k0 bel lt0) (trodAll_cons_mk (Below.trod laidOut (by kernel_rfl) (of_decide_eq_true (by kernel_rfl)) k1 bel lt1) trodAll_mk0)), rfl, bel.frame _, fun h => by cases h⟩

theorem over : Rows.modelMeansRow.holds Tryz.pinned (OpenSpec.ofChange Rows.modelMeansSpec) :=
  OpenClaim.holds_of_wide 6 Tryz.f6 rfl rfl rfl rfl rfl rfl rfl ⟨rfl, rfl, rfl, rfl, rfl⟩ rfl rfl rfl rfl rfl (by kernel_rfl) Tryz.func6 (by kernel_rfl)
    (of_decide_eq_true (by kernel_rfl)) (by unfold Func.isWrapper; first | (rw [if_pos (by decide +kernel)]; kernel_rfl) | (rw [if_neg (by decide +kernel)]; exact ⟨rfl, rfl⟩))
    (fun os started H enc _ => lifted os started H enc)

theorem proved : Rows.ModelMeansSaid := over
#print axioms proved
end Go.Proofs.YthmofoldmdafoaaGreat.modelMeansP
