/- ModelReads: a transaction that reads alone writes nothing, and is answered the same again and again; for every input. -/
import Derived.Test.YthmofoldmdafoaaGreatRrl
import Derived.Deep.Slices
import Derived.Deep.Fields
import Derived.ChangeSame
import Derived.SizedLaws
import Derived.OpenShut
import Derived.Lib.SmallJoins
import Derived.Deep.Matrix
import Derived.ProofKit
import Derived.Lib.Bytes
import Derived.Test.YthmofoldmdafoaaGreatRows
import Derived.WalkKit
import Derived.ShutString
import Derived.ChangeOld
import Derived.Below
namespace Go.Proofs.YthmofoldmdafoaaGreat
open Go.ChangeShapes Go.WideShapes Go.ChangeAt Go.RowKit Go.Maps Go.Shelf
set_option linter.unusedVariables false
set_option linter.unusedSimpArgs false

theorem much8_law (j : Job) (a : Option Addr) (L : List TxnV) (n c : Nat) (hL : L.length = n) (hn : n ≤ 140737488355328) (hB : ∀ x ∈ L, TxG x) (w : World) (hA : TxsR w a L) :
    Calls Tryz.prog 8 #[.agg #[.int .i64 j.w, .int .i64 j.l, .int .i64 j.d, .int .i64 j.c, .int .i64 j.k, .int .i64 j.e, .slice j.a j.n j.cap], .slice a n c] w fun r w' => (∃ b, r = .returned (.bool b) ∧ (b = false → j.n ≤ 2000 ∧ L.length ≤ 9000 ∧ ∀ x ∈ L, x.ops.length ≤ 9000 ∧ ∀ o ∈ x.ops, o.rn ≤ 9000)) ∧ Below w.heap.size w w' := by
  have HK := Lib.hid (fun X (b : Below w.heap.size w X) => much9_law a L n c hL hn hB X (hA.below b))
  obtain ⟨w1, hw1⟩ : ∃ W, W = w.alloc (.cells #[.int .i64 j.w, .int .i64 j.l, .int .i64 j.d, .int .i64 j.c, .int .i64 j.k, .int .i64 j.e, .slice j.a j.n j.cap] 24) := ⟨_, rfl⟩
  have hb1 : Below w.heap.size w w1 := by rw [hw1]; exact bl1 _ _
  have hx1 : BoxC w1 w.heap.size #[.int .i64 j.w, .int .i64 j.l, .int .i64 j.d, .int .i64 j.c, .int .i64 j.k, .int .i64 j.e, .slice j.a j.n j.cap] 24 := by rw [hw1]; exact BoxC.new _ _ _
  have c6 := hx1.cell 6
  simp only [List.getElem?_toArray, List.getElem?_cons_zero, List.getElem?_cons_succ] at c6
  have HB1 := Lib.hid hb1
  clear hL hn hB hA hb1 hx1
  go_enter Tryz.func8, Tryz.ntmps8
  go_upto_region 1 with (fail)
  rw [← hw1]
  clear hw1
  by_cases h2 : j.n ≤ 2000
  · have d : (j.n : Int) ≤ 2000 := by omega
    have d' : ¬ (2000 : Int) < (j.n : Int) := by omega
    go_wp2_with fail
    refine (HK.out w1 HB1.out).mono ?_; rintro r w2 ⟨⟨b, rfl, hb⟩, hb2⟩
    have HE := Lib.hid (And.intro hb (step_below HB1.out hb2))
    clear hb hb2
    go_wp2_with fail
    go_ret
    exact ⟨⟨b, rfl, fun e => ⟨h2, HE.out.1 e⟩⟩, HE.out.2⟩
  · have d : ¬ (j.n : Int) ≤ 2000 := by omega
    have d' : (2000 : Int) < (j.n : Int) := by omega
    go_wp2_with fail
    go_ret
    exact ⟨rfl, HB1.out⟩
theorem MdSame.trans {a b c : Md} (h : MdSame a b) (k : MdSame b c) : MdSame a c := ⟨k.p.trans h.p, k.j.trans h.j, k.f.trans h.f⟩
/-- Do, of anything. -/
def DoA (S : Nat → Prop) (w : World) (m : Md) (r : Ending) (w' : World) : Prop :=
  (∃ v, r = .returned v) ∧ ∃ m', MdR S w' m' ∧ MdSame m m' ∧ Off S w w' ∧ (∀ N : Nat, (∀ x ∈ m.tabs, x.2.length ≤ N) → ∀ x ∈ m'.tabs, x.2.length ≤ N + 16)
theorem do_any {S : Nat → Prop} {m : Md} {w : World} (h : MdR S w m) (hS : ∀ k, S k → k < w.heap.size) (x : TxnV) (hx : Stay S w fun W => TxnAt W x) (hon : x.on ≤ 1000000) (hrn : ∀ o ∈ x.ops, o.rn ≤ 1000000) (hf : ∀ z ∈ m.tabs, z.2.length ≤ 300000) :
    Calls Tryz.prog 24 #[.pointer (some ⟨m.p, 0, none⟩), .agg #[.slice x.oa x.on x.oc, .bool x.sn, .bool x.ab]] w (DoA S w m) := (do_law h hS x hx hon hrn hf).mono fun r w' hr => by
  unfold DoR at hr
  split at hr
  · obtain ⟨m', a, c, rs, rfl, h1, h2, _, h3, h4, _⟩ := hr
    exact ⟨⟨_, rfl⟩, m', h1, h2, h3.mono (fun k ⟨x, hx, e⟩ => e ▸ h.hS x hx), h4⟩
  · obtain ⟨rfl, hb⟩ := hr
    exact ⟨⟨_, rfl⟩, m, h.below hb, MdSame.rfl' m, Off.of hb, fun N hN x hx => Nat.le_trans (hN x hx) (by omega)⟩
set_option maxRecDepth 100000 in
set_option maxHeartbeats 4000000 in
/-- The law: ModelReads (7). -/
theorem reads_law (j : Job) (a : Option Addr) (L : List TxnV) (n c : Nat) (hL : L.length = n) (hn : n ≤ 140737488355328) (hB : ∀ x ∈ L, TxG x) (w : World) (hjl : Ls .i64 w j.a j.cap j.T) (hjT : j.T.length = j.n) (hA : TxsR w a L) :
    Calls Tryz.prog 7 #[.agg #[.int .i64 j.w, .int .i64 j.l, .int .i64 j.d, .int .i64 j.c, .int .i64 j.k, .int .i64 j.e, .slice j.a j.n j.cap], .slice a n c] w fun r w' => r = .returned (.bool true) ∧ Below w.heap.size w w' := by
  have HL := Lib.hid hL
  have HA := Lib.hid (fun X (b : Below w.heap.size w X) => hA.below b)
  have HJL := Lib.hid (And.intro hjl hjT)
  have HMU := Lib.hid (fun X (b : Below w.heap.size w X) => much8_law j a L n c hL hn hB X (hA.below b))
  have hnn : (n : Int) ≤ 140737488355328 := by omega
  obtain ⟨w1, hw1⟩ : ∃ W, W = w.alloc (.cells #[.int .i64 j.w, .int .i64 j.l, .int .i64 j.d, .int .i64 j.c, .int .i64 j.k, .int .i64 j.e, .slice j.a j.n j.cap] 24) := ⟨_, rfl⟩
  have hb1 : Below w.heap.size w w1 := by rw [hw1]; exact bl1 _ _
  have hx1 : BoxC w1 w.heap.size #[.int .i64 j.w, .int .i64 j.l, .int .i64 j.d, .int .i64 j.c, .int .i64 j.k, .int .i64 j.e, .slice j.a j.n j.cap] 24 := by rw [hw1]; exact BoxC.new _ _ _
  have c0 := (hx1).cell 0
  have c1 := (hx1).cell 1
  have c2 := (hx1).cell 2
  have c3 := (hx1).cell 3
  have c4 := (hx1).cell 4
  have c5 := (hx1).cell 5
  have c6 := (hx1).cell 6
  simp only [List.getElem?_toArray, List.getElem?_cons_zero, List.getElem?_cons_succ] at c0 c1 c2 c3 c4 c5 c6
  have HB1 := Lib.hid hb1
  have HX1 := Lib.hid hx1
  have HSZ1 := Lib.hid (show w1.heap.size = w.heap.size + 1 by rw [hw1]; simp)
  clear hL hn hB hA hb1 hx1 hjl hjT
  go_enter Tryz.func7, Tryz.ntmps7
  go_upto_region 1 with (fail)
  rw [← hw1]
  clear hw1
  go_wp2_with fail
  refine (HMU.out w1 HB1.out).mono ?_; rintro r w2 ⟨⟨b, rfl, hb⟩, hb2⟩
  have HMB := Lib.hid hb
  have HB2 := Lib.hid (step_below HB1.out hb2)
  have hx2 := HX1.out.below hb2
  have HX2 := Lib.hid hx2
  have HSZ2 := Lib.hid (Nat.le_trans (Nat.le_of_eq HSZ1.out.symm) hb2.size)
  clear c0 c1 c2 c3 c4 c5 c6 hb hb2
  cases b with
  | true =>
    clear hx2
    go_wp2_with fail
    refine (known_law22 _).mono ?_; rintro r w8 ⟨rfl, hb8⟩
    have HB8 := Lib.hid (step_below HB2.out hb8)
    clear hb8
    go_wp2_with fail
    go_ret
    exact ⟨rfl, HB8.out⟩
  | false =>
    have c0 := (hx2).cell 0
    have c1 := (hx2).cell 1
    have c2 := (hx2).cell 2
    have c3 := (hx2).cell 3
    have c4 := (hx2).cell 4
    have c5 := (hx2).cell 5
    have c6 := (hx2).cell 6
    simp only [List.getElem?_toArray, List.getElem?_cons_zero, List.getElem?_cons_succ] at c0 c1 c2 c3 c4 c5 c6
    obtain ⟨m1, m2, m3⟩ := HMB.out rfl
    have HMM := Lib.hid (And.intro m2 m3)
    have HJA := Lib.hid (show JobAt w2 j from ⟨HJL.out.1.below HB2.out, HJL.out.2, by omega⟩)
    have HNW := Lib.hid (new_law j w2 HJA.out)
    clear hx2 m2 m3
    go_wp2_with fail
    refine HNW.out.mono ?_; clear HNW; rintro r w3 hr
    unfold NewR at hr
    cases hok : okB j with
    | false =>
      rw [hok, if_neg (by decide)] at hr
      obtain ⟨rfl, hb3⟩ := hr
      have HB3 := Lib.hid (step_below HB2.out hb3)
      clear hb3 c0 c1 c2 c3 c4 c5 c6
      go_wp2_with fail
      refine (num22_law 2 _).mono ?_; rintro r w0 ⟨rfl, hw0⟩; subst hw0
      go_wp2_with fail
      refine (num22_law 2 _).mono ?_; rintro r w0 ⟨rfl, hw0⟩; subst hw0
      go_wp2_with fail
      refine (known_law22 _).mono ?_; rintro r w8 ⟨rfl, hb8⟩
      have HB8 := Lib.hid (step_below HB3.out hb8)
      clear hb8
      go_wp2_with fail
      go_ret
      exact ⟨rfl, HB8.out⟩
    | true =>
      rw [hok, if_pos rfl] at hr
      obtain ⟨S, m, rfl, hb3, hmd, hSm, ⟨mja, mjc, hmj⟩, hem⟩ := hr
      have HN4 := Lib.hid (show j.n ≤ 4 by have h1 := hmd.few; rw [hmd.len, hmj] at h1; exact h1.2)
      have HM0 := Lib.hid hmd
      have HZ := Lib.hid (fun k (hk : S k) => (hSm k hk).2)
      have HLO := Lib.hid (fun k (hk : S k) => (hSm k hk).1)
      have HJ2 := Lib.hid (show m.j.n = j.n by rw [hmj])
      have HEM := Lib.hid hem
      have HB3 := Lib.hid (step_below HB2.out hb3)
      have HX := Lib.hid (fun W' (o : Off S w3 W') => boxc_off (HX2.out.below hb3) o (fun e => by have h1 := HLO.out _ e; have h2 := HSZ2.out; omega))
      have HAT := Lib.hid (fun W' (o : Off S w3 W') => HA.out W' (Off.below HB3.out o HB3.out.size (fun k hk => by have h1 := HLO.out _ hk; have h2 := HB2.out.size; omega)))
      clear hb3 hmd hSm hmj hem c0 c1 c2 c3 c4 c5 c6
      go_wp2_with fail
      refine (num22_law 0 _).mono ?_; rintro r w0 ⟨rfl, hw0⟩; subst hw0
      go_wp2_with fail
      go_loopw [7] (fun i wr => ∃ (k : Nat) (mc : Md), k ≤ 30 ∧ k ≤ n ∧ i = .int .i64 (k : Int) ∧ Hid (MdR S wr mc) ∧ Hid (MdSame m mc) ∧ Hid (∀ z ∈ mc.tabs, z.2.length ≤ 16 * k) ∧ Hid (Off S w3 wr)) (fun i _ => n - (intOf i).toNat)
      case atStart => exact ⟨0, m, by omega, by omega, rfl, HM0, Lib.hid (MdSame.rfl' m), Lib.hid (fun z hz => by rw [HEM.out z hz]; exact Nat.zero_le _), Lib.hid (Off.refl _ _)⟩
      case round =>
        obtain ⟨k, mc, hk1, hk2, rfl, HM, HMS, HLN, HO⟩ := hrel
        by_cases hlt : k < n
        · have d1 : (k : Int) < (n : Int) := by omega
          by_cases h15 : k < 30
          · have d2 : (k : Int) < 30 := by omega
            obtain ⟨x, hx⟩ : ∃ x, L[k]? = some x := ⟨_, List.getElem?_eq_getElem (by rw [HL.out]; exact hlt)⟩
            obtain ⟨b9, o9, e9, ⟨q0, q1, q2⟩, _⟩ := HAT.out wr HO.out k x hx
            cases e9
            have hxm := HMM.out.2 x (List.mem_of_getElem? hx)
            have hon : x.on ≤ 1000000 := by obtain ⟨_, _, _, _, ht⟩ := HAT.out wr HO.out k x hx; have := ht.ol; have := hxm.1; omega
            have key := do_any HM.out (fun q hq => Nat.lt_of_lt_of_le (HZ.out q hq) HO.out.size) x (fun W' o => by obtain ⟨_, _, _, _, ht⟩ := HAT.out W' (HO.out.trans o) k x hx; exact ht) hon (fun o ho => by have := hxm.2 o ho; omega) (fun z hz => by have := HLN.out z hz; omega)
            rw [HMS.out.p] at key
            have HKEY := Lib.hid key
            clear hx hxm hon key
            go_wp2_with fail
            refine HKEY.out.mono ?_; clear HKEY; rintro r w7 ⟨⟨v, rfl⟩, md2, hmd2, hms2, ho2, hld2⟩
            have h1 := hld2 _ HLN.out
            have HR2 := Lib.hid (And.intro hmd2 (And.intro (HMS.out.trans hms2) (And.intro (HO.out.trans ho2) h1)))
            clear hmd2 hms2 ho2 hld2 h1 q0 q1 q2
            go_wp2_with fail
            go_roundw
            case rel => exact ⟨k + 1, md2, by omega, by omega, by go_num, Lib.hid HR2.out.1, Lib.hid HR2.out.2.1, Lib.hid (fun z hz => by have := HR2.out.2.2.2 z hz; omega), Lib.hid HR2.out.2.2.1⟩
            case measure => simp [intOf]; omega
          · have d2 : ¬ (k : Int) < 30 := by omega
            go_wp2_with fail
            have hsz : ∀ k, S k → k < wr.heap.size := fun k hk => Nat.lt_of_lt_of_le (HZ.out k hk) HO.out.size
            have hf9 : ∀ z ∈ mc.tabs, z.2.length ≤ 480 := fun z hz => by have := HLN.out z hz; omega
            have key := copy_lawT S hsz HM.out (fun z hz => by have := hf9 z hz; omega)
            rw [HMS.out.p] at key
            refine key.mono ?_; clear key; rintro r w4 ⟨S2, m2, rfl, hb4, hm2, hs21, hs22, hs23, hs24, ⟨ja2, jc2, hj2⟩, hP2⟩
            have HB4 := Lib.hid hb4
            have HM2 := Lib.hid (And.intro hm2 (And.intro hs21 (And.intro hs23 (And.intro hs24 (And.intro hj2 hP2)))))
            have HSZ := Lib.hid hsz
            have HF9 := Lib.hid hf9
            clear hb4 hm2 hs21 hs22 hs23 hs24 hj2 hP2 hsz hf9
            go_wp2_with fail
            have key := mtabs_law (HM.out.below HB4.out) (fun k hk => Nat.lt_of_lt_of_le (HSZ.out k hk) HB4.out.size) (fun z hz => by have := HF9.out z hz; omega)
            rw [HMS.out.p] at key
            refine key.mono ?_; clear key; rintro r w5 ⟨ta, tc, Ts, rfl, hb5, hT, hTG, hTS⟩
            have HB5 := Lib.hid hb5
            have HTS := Lib.hid (hTS S (fun k hk => Nat.lt_of_lt_of_le (HSZ.out k hk) HB4.out.size))
            have HT := Lib.hid (And.intro hT hTG)
            have hTl : Ts.length = j.n := by
              have h1 := congrArg List.length hT
              rw [List.length_map, Md.P_len, HM.out.len, HMS.out.j, HJ2.out] at h1
              exact h1
            rw [hTl]
            have HTL := Lib.hid hTl
            have O5 := Lib.hid (HO.out.trans ((Off.of HB4.out).trans (Off.of HB5.out)))
            have c6 := (HX.out w5 O5.out).cell 6
            simp only [List.getElem?_toArray, List.getElem?_cons_zero, List.getElem?_cons_succ] at c6
            have e0 : ((j.n : Int) != (j.n : Int)) = false := by simp
            clear hb5 hT hTG hTS hTl
            go_wp2_with fail
            go_loopw [10] (fun i wr => ∃ (k : Nat) (md : Md), k ≤ j.n ∧ i = .int .i64 (k : Int) ∧ Hid (MdR S wr md) ∧ Hid (MdSame m md) ∧ Hid (md.P = mc.P) ∧ Hid (∀ z ∈ md.tabs, z.2.length ≤ 480 + 16 * k) ∧ Hid (Off S w5 wr)) (fun i _ => j.n - (intOf i).toNat)
            case atStart => exact ⟨0, mc, by omega, rfl, Lib.hid ((HM.out.below HB4.out).below HB5.out), HMS, Lib.hid rfl, Lib.hid (fun z hz => by have := HF9.out z hz; omega), Lib.hid (Off.refl _ _)⟩
            case round =>
              obtain ⟨k2, md, hk3, rfl, HMD, HMSD, HPD, HLD, HOD⟩ := hrel
              have hj4 : j.n ≤ 4 := HN4.out
              by_cases hlt2 : k2 < j.n
              · have d3 : (k2 : Int) < (j.n : Int) := by omega
                obtain ⟨y, hy⟩ : ∃ y, Ts[k2]? = some y := ⟨_, List.getElem?_eq_getElem (by rw [HTL.out]; exact hlt2)⟩
                obtain ⟨b9, o9, e9, q0, _⟩ := HTS.out wr HOD.out k2 y hy
                cases e9
                have HY := Lib.hid hy
                have hyP : y.P.map prC = md.P.getD k2 [] := by
                  have h1 : (Ts.map tbC)[k2]? = some (y.P.map prC) := by rw [List.getElem?_map, hy]; rfl
                  rw [HT.out.1, ← HPD.out] at h1
                  rw [List.getD_eq_getElem?_getD, h1]; rfl
                have hks : k2 < md.tabs.length := by rw [HMSD.out.len, HM0.out.len, HJ2.out]; exact hlt2
                obtain ⟨yn, hyn⟩ : ∃ yn, y.P.length = yn := ⟨_, rfl⟩
                have hyl : yn ≤ 1000 := by
                  obtain ⟨z, hz⟩ : ∃ z, md.tabs[k2]? = some z := ⟨_, List.getElem?_eq_getElem hks⟩
                  have h1 := HLD.out z (List.mem_of_getElem? hz)
                  have h2 : md.P.getD k2 [] = tabP z.2 := by rw [List.getD_eq_getElem?_getD]; unfold Md.P; rw [List.getElem?_map, hz]; rfl
                  rw [h2] at hyP
                  have h3 := congrArg List.length hyP
                  unfold tabP at h3
                  rw [List.length_map, List.length_map] at h3
                  omega
                have HYP := Lib.hid (And.intro hyP (And.intro hks (And.intro hyl hyn)))
                have HKEY := Lib.hid (scanned_law HMD.out (fun k hk => Nat.lt_of_lt_of_le (HSZ.out k hk) (Nat.le_trans HB4.out.size (Nat.le_trans HB5.out.size HOD.out.size))) k2 hks y yn hyn (HT.out.2 y (List.mem_of_getElem? hy)) hyP (fun W' o => by
                  obtain ⟨_, _, e9, _, pr⟩ := HTS.out W' (HOD.out.trans o) k2 y hy
                  exact pr) (fun z hz => by have := HLD.out z hz; omega) (by omega))
                rw [HMSD.out.p] at HKEY
                rw [hyn] at q0
                clear hy hyP hks hyn
                go_wp2_with fail
                refine HKEY.out.mono ?_; clear HKEY; rintro r w7 ⟨rfl, md2, hmd2, hms2, hPd2, ho2, hld2⟩
                have h1 := hld2 _ HLD.out
                have HR2 := Lib.hid (And.intro hmd2 (And.intro (HMSD.out.trans hms2) (And.intro (hPd2.trans HPD.out) (And.intro (HOD.out.trans ho2) h1))))
                clear hmd2 hms2 hPd2 ho2 hld2 h1 q0
                go_wp2_with fail
                go_roundw
                case rel => exact ⟨k2 + 1, md2, by omega, by go_num, Lib.hid HR2.out.1, Lib.hid HR2.out.2.1, Lib.hid HR2.out.2.2.1, Lib.hid (fun z hz => by have := HR2.out.2.2.2.2 z hz; omega), Lib.hid HR2.out.2.2.2.1⟩
                case measure => simp [intOf]; omega
              · have d3 : ¬ (k2 : Int) < (j.n : Int) := by omega
                have hm2w : MdR S2 wr m2 := (HM2.out.1.below HB5.out).off HOD.out HM2.out.2.1 (fun x hx hs => by have h1 := HM2.out.2.2.2.1 x hx; have h2 := HSZ.out _ hs; omega) (fun k hk => .inl hk) HM2.out.1.hS
                have hl2 : ∀ z ∈ m2.tabs, z.2.length ≤ 480 := fun z hz => by
                  have h1 : tabP z.2 ∈ m2.P := List.mem_map.2 ⟨z, hz, rfl⟩
                  rw [HM2.out.2.2.2.2.2] at h1
                  obtain ⟨q, hq, e⟩ := List.mem_map.1 h1
                  have h2 := HF9.out q hq
                  have h3 := congrArg List.length e
                  unfold tabP at h3
                  rw [List.length_map, List.length_map] at h3
                  omega
                have key := msame_law hm2w HMD.out (fun z hz => by have := hl2 z hz; omega) (fun z hz => by have := HLD.out z hz; omega)
                rw [show decide (m2.j.T = md.j.T) = true from decide_eq_true (by rw [HM2.out.2.2.2.2.1, HMSD.out.j, HMS.out.j]), show decide (m2.P = md.P) = true from decide_eq_true (by rw [HM2.out.2.2.2.2.2, HPD.out]), HMSD.out.p] at key
                have HKEY := Lib.hid key
                clear key hm2w hl2
                go_wp2_with fail
                have HBW := Lib.hid (Off.below HB3.out (O5.out.trans HOD.out) HB3.out.size (fun k hk => by have h1 := HLO.out _ hk; have h2 := HB2.out.size; omega))
                refine HKEY.out.mono ?_; clear HKEY; rintro r w7 ⟨rfl, hb7⟩
                have HB7 := Lib.hid (step_below HBW.out hb7)
                clear hb7
                go_wp2_with fail
                refine (known_law22 _).mono ?_; rintro r w8 ⟨rfl, hb8⟩
                have HB8 := Lib.hid (step_below HB7.out hb8)
                clear hb8
                go_wp2_with fail
                go_ret
                exact ⟨rfl, HB8.out⟩
        · have d1 : ¬ (k : Int) < (n : Int) := by omega
          go_wp2_with fail
          have hsz : ∀ k, S k → k < wr.heap.size := fun k hk => Nat.lt_of_lt_of_le (HZ.out k hk) HO.out.size
          have hf9 : ∀ z ∈ mc.tabs, z.2.length ≤ 480 := fun z hz => by have := HLN.out z hz; omega
          have key := copy_lawT S hsz HM.out (fun z hz => by have := hf9 z hz; omega)
          rw [HMS.out.p] at key
          refine key.mono ?_; clear key; rintro r w4 ⟨S2, m2, rfl, hb4, hm2, hs21, hs22, hs23, hs24, ⟨ja2, jc2, hj2⟩, hP2⟩
          have HB4 := Lib.hid hb4
          have HM2 := Lib.hid (And.intro hm2 (And.intro hs21 (And.intro hs23 (And.intro hs24 (And.intro hj2 hP2)))))
          have HSZ := Lib.hid hsz
          have HF9 := Lib.hid hf9
          clear hb4 hm2 hs21 hs22 hs23 hs24 hj2 hP2 hsz hf9
          go_wp2_with fail
          have key := mtabs_law (HM.out.below HB4.out) (fun k hk => Nat.lt_of_lt_of_le (HSZ.out k hk) HB4.out.size) (fun z hz => by have := HF9.out z hz; omega)
          rw [HMS.out.p] at key
          refine key.mono ?_; clear key; rintro r w5 ⟨ta, tc, Ts, rfl, hb5, hT, hTG, hTS⟩
          have HB5 := Lib.hid hb5
          have HTS := Lib.hid (hTS S (fun k hk => Nat.lt_of_lt_of_le (HSZ.out k hk) HB4.out.size))
          have HT := Lib.hid (And.intro hT hTG)
          have hTl : Ts.length = j.n := by
            have h1 := congrArg List.length hT
            rw [List.length_map, Md.P_len, HM.out.len, HMS.out.j, HJ2.out] at h1
            exact h1
          rw [hTl]
          have HTL := Lib.hid hTl
          have O5 := Lib.hid (HO.out.trans ((Off.of HB4.out).trans (Off.of HB5.out)))
          have c6 := (HX.out w5 O5.out).cell 6
          simp only [List.getElem?_toArray, List.getElem?_cons_zero, List.getElem?_cons_succ] at c6
          have e0 : ((j.n : Int) != (j.n : Int)) = false := by simp
          clear hb5 hT hTG hTS hTl
          go_wp2_with fail
          go_loopw [10] (fun i wr => ∃ (k : Nat) (md : Md), k ≤ j.n ∧ i = .int .i64 (k : Int) ∧ Hid (MdR S wr md) ∧ Hid (MdSame m md) ∧ Hid (md.P = mc.P) ∧ Hid (∀ z ∈ md.tabs, z.2.length ≤ 480 + 16 * k) ∧ Hid (Off S w5 wr)) (fun i _ => j.n - (intOf i).toNat)
          case atStart => exact ⟨0, mc, by omega, rfl, Lib.hid ((HM.out.below HB4.out).below HB5.out), HMS, Lib.hid rfl, Lib.hid (fun z hz => by have := HF9.out z hz; omega), Lib.hid (Off.refl _ _)⟩
          case round =>
            obtain ⟨k2, md, hk3, rfl, HMD, HMSD, HPD, HLD, HOD⟩ := hrel
            have hj4 : j.n ≤ 4 := HN4.out
            by_cases hlt2 : k2 < j.n
            · have d3 : (k2 : Int) < (j.n : Int) := by omega
              obtain ⟨y, hy⟩ : ∃ y, Ts[k2]? = some y := ⟨_, List.getElem?_eq_getElem (by rw [HTL.out]; exact hlt2)⟩
              obtain ⟨b9, o9, e9, q0, _⟩ := HTS.out wr HOD.out k2 y hy
              cases e9
              have HY := Lib.hid hy
              have hyP : y.P.map prC = md.P.getD k2 [] := by
                have h1 : (Ts.map tbC)[k2]? = some (y.P.map prC) := by rw [List.getElem?_map, hy]; rfl
                rw [HT.out.1, ← HPD.out] at h1
                rw [List.getD_eq_getElem?_getD, h1]; rfl
              have hks : k2 < md.tabs.length := by rw [HMSD.out.len, HM0.out.len, HJ2.out]; exact hlt2
              obtain ⟨yn, hyn⟩ : ∃ yn, y.P.length = yn := ⟨_, rfl⟩
              have hyl : yn ≤ 1000 := by
                obtain ⟨z, hz⟩ : ∃ z, md.tabs[k2]? = some z := ⟨_, List.getElem?_eq_getElem hks⟩
                have h1 := HLD.out z (List.mem_of_getElem? hz)
                have h2 : md.P.getD k2 [] = tabP z.2 := by rw [List.getD_eq_getElem?_getD]; unfold Md.P; rw [List.getElem?_map, hz]; rfl
                rw [h2] at hyP
                have h3 := congrArg List.length hyP
                unfold tabP at h3
                rw [List.length_map, List.length_map] at h3
                omega
              have HYP := Lib.hid (And.intro hyP (And.intro hks (And.intro hyl hyn)))
              have HKEY := Lib.hid (scanned_law HMD.out (fun k hk => Nat.lt_of_lt_of_le (HSZ.out k hk) (Nat.le_trans HB4.out.size (Nat.le_trans HB5.out.size HOD.out.size))) k2 hks y yn hyn (HT.out.2 y (List.mem_of_getElem? hy)) hyP (fun W' o => by
                obtain ⟨_, _, e9, _, pr⟩ := HTS.out W' (HOD.out.trans o) k2 y hy
                exact pr) (fun z hz => by have := HLD.out z hz; omega) (by omega))
              rw [HMSD.out.p] at HKEY
              rw [hyn] at q0
              clear hy hyP hks hyn
              go_wp2_with fail
              refine HKEY.out.mono ?_; clear HKEY; rintro r w7 ⟨rfl, md2, hmd2, hms2, hPd2, ho2, hld2⟩
              have h1 := hld2 _ HLD.out
              have HR2 := Lib.hid (And.intro hmd2 (And.intro (HMSD.out.trans hms2) (And.intro (hPd2.trans HPD.out) (And.intro (HOD.out.trans ho2) h1))))
              clear hmd2 hms2 hPd2 ho2 hld2 h1 q0
              go_wp2_with fail
              go_roundw
              case rel => exact ⟨k2 + 1, md2, by omega, by go_num, Lib.hid HR2.out.1, Lib.hid HR2.out.2.1, Lib.hid HR2.out.2.2.1, Lib.hid (fun z hz => by have := HR2.out.2.2.2.2 z hz; omega), Lib.hid HR2.out.2.2.2.1⟩
              case measure => simp [intOf]; omega
            · have d3 : ¬ (k2 : Int) < (j.n : Int) := by omega
              have hm2w : MdR S2 wr m2 := (HM2.out.1.below HB5.out).off HOD.out HM2.out.2.1 (fun x hx hs => by have h1 := HM2.out.2.2.2.1 x hx; have h2 := HSZ.out _ hs; omega) (fun k hk => .inl hk) HM2.out.1.hS
              have hl2 : ∀ z ∈ m2.tabs, z.2.length ≤ 480 := fun z hz => by
                have h1 : tabP z.2 ∈ m2.P := List.mem_map.2 ⟨z, hz, rfl⟩
                rw [HM2.out.2.2.2.2.2] at h1
                obtain ⟨q, hq, e⟩ := List.mem_map.1 h1
                have h2 := HF9.out q hq
                have h3 := congrArg List.length e
                unfold tabP at h3
                rw [List.length_map, List.length_map] at h3
                omega
              have key := msame_law hm2w HMD.out (fun z hz => by have := hl2 z hz; omega) (fun z hz => by have := HLD.out z hz; omega)
              rw [show decide (m2.j.T = md.j.T) = true from decide_eq_true (by rw [HM2.out.2.2.2.2.1, HMSD.out.j, HMS.out.j]), show decide (m2.P = md.P) = true from decide_eq_true (by rw [HM2.out.2.2.2.2.2, HPD.out]), HMSD.out.p] at key
              have HKEY := Lib.hid key
              clear key hm2w hl2
              go_wp2_with fail
              have HBW := Lib.hid (Off.below HB3.out (O5.out.trans HOD.out) HB3.out.size (fun k hk => by have h1 := HLO.out _ hk; have h2 := HB2.out.size; omega))
              refine HKEY.out.mono ?_; clear HKEY; rintro r w7 ⟨rfl, hb7⟩
              have HB7 := Lib.hid (step_below HBW.out hb7)
              clear hb7
              go_wp2_with fail
              refine (known_law22 _).mono ?_; rintro r w8 ⟨rfl, hb8⟩
              have HB8 := Lib.hid (step_below HB7.out hb8)
              clear hb8
              go_wp2_with fail
              go_ret
              exact ⟨rfl, HB8.out⟩
end Go.Proofs.YthmofoldmdafoaaGreat
namespace Go.Proofs.YthmofoldmdafoaaGreat
open Go.ChangeShapes Go.WideShapes Go.ChangeAt Go.RowKit Go.Deep Go.Joins
set_option linter.unusedVariables false
set_option linter.unusedSimpArgs false
theorem IsRow.byt {w : World} {a : Option Addr} {len cap : Nat} {zs : List Int} (h : IsRow .u8 w a len cap zs) : Byt (zs.take len) := by
  rcases h with ⟨_, rfl, _, rfl⟩ | ⟨y, rfl, hlc, _, hz, hcell, hw⟩
  · intro x hx; simp at hx
  · intro x hx
    have := hw x (List.mem_of_mem_take hx)
    simpa [Lit.wf, IntKind.min, IntKind.max, IntKind.signed, IntKind.bits] using this
section
variable {H : Type} {enc : TypeId × Value → H} {w : World} {base : Nat} {held : Bool} {d : DataW H} {ps : List MemPlace}
/-- A row that came in. -/
theorem open_row {a : Option Addr} {len cap : Nat} (hd : DataW.Trod enc Tryz.prog w base (fun _ => true) held 50 (.slice a len cap) d ps) :
    ∃ R : List P1, R.length = len ∧ RdR w a R ∧ ∀ p ∈ R, Byt p.bs := by
  obtain ⟨fuel, hf⟩ := hd
  rcases Deep.open_int_rows Tryz.underlying50 Tryz.underlying42 Tryz.underlying5 (by kernel_rfl) (by kernel_rfl) hf with ⟨hcs, _⟩ | ⟨x, l, c, A, L, C, Z, hcs, hb, hl, hm, hx, hr⟩
  · simp [Value.cells] at hcs
    obtain ⟨rfl, rfl, rfl⟩ := hcs
    exact ⟨[], rfl, RdR.nil _ _, fun p hp => by simp at hp⟩
  · simp [Value.cells] at hcs
    obtain ⟨rfl, rfl, rfl⟩ := hcs
    refine ⟨(List.range len).map fun r => ⟨A r, C r, (Z r).take (L r)⟩, by simp, fun k p hp => ?_, fun p hp => ?_⟩
    · have hk : k < len := by have := (List.getElem?_eq_some_iff.1 hp).1; simpa using this
      have hp' : p = ⟨A k, C k, (Z k).take (L k)⟩ := by
        simp [hk] at hp
        exact hp.symm
      subst hp'
      obtain ⟨hc, hLC, hCm, hZ, hwf, hnone, hsome⟩ := hr k (by omega)
      obtain ⟨b, off, spot⟩ := x
      obtain ⟨hc0, _⟩ := hr 0 (by omega)
      have hspot : spot = none := by simpa [Addr.add] using World.cell?_spot hc0
      subst hspot
      rw [addr_add] at hc
      have hlen : ((Z k).take (L k)).length = L k := by rw [List.length_take, hZ]; omega
      refine ⟨b, off, rfl, ?_, ⟨fun j hj => ?_, fun e => ?_, by simp only; rw [hlen]; exact hLC⟩⟩
      · rw [hc, P1.v, hlen]
      · simp only at hj ⊢
        rw [hlen] at hj
        cases hA : A k with
        | none => have := hnone hA; omega
        | some a' =>
          obtain ⟨_, hcell⟩ := hsome a' hA
          obtain ⟨b2, o2, spot2⟩ := a'
          have hc2 := hcell 0 (by omega)
          have hspot2 : spot2 = none := by simpa [Addr.add] using World.cell?_spot hc2
          subst hspot2
          refine ⟨b2, o2, rfl, ?_⟩
          have := hcell j (by omega)
          rw [addr_add] at this
          rw [this]
          simp [List.getD, List.getElem?_take, hj]
      · simp only at e ⊢
        have := hnone e
        exact ⟨List.length_eq_zero_iff.1 (by rw [hlen]; omega), this⟩
    · obtain ⟨r, hr2, rfl⟩ := List.mem_map.1 hp
      have hrl : r < len := by simpa using hr2
      obtain ⟨_, _, _, _, hwf, _⟩ := hr r (by omega)
      intro y hy
      have := hwf y (List.mem_of_mem_take hy)
      simpa [Lit.wf, IntKind.min, IntKind.max, IntKind.signed, IntKind.bits] using this
end
theorem list_of {α : Type} {p : Nat → α → Prop} : ∀ m, (∀ i, i < m → ∃ x, p i x) → ∃ L : List α, L.length = m ∧ ∀ i x, L[i]? = some x → p i x
  | 0, _ => ⟨[], rfl, fun i x h => by simp at h⟩
  | m + 1, h => by
    obtain ⟨L, hl, hp⟩ := list_of m fun i hi => h i (by omega)
    obtain ⟨x, hx⟩ := h m (by omega)
    refine ⟨L ++ [x], by simp [hl], fun i y hy => ?_⟩
    by_cases e : i < L.length
    · rw [List.getElem?_append_left e] at hy
      exact hp i y hy
    · have hi := (List.getElem?_eq_some_iff.1 hy).1
      simp at hi
      obtain rfl : i = m := by omega
      rw [List.getElem?_append_right (by omega)] at hy
      simp [hl] at hy
      rw [← hy]; exact hx
section
variable {H : Type} {enc : TypeId × Value → H} {w : World} {base : Nat} {held : Bool}
theorem weights_all {P : Program} {e : TypeId} {d : DataW H} {n : Nat} (hn : n ∈ d.weights P e) : ∀ {l : List (DataW H)}, d ∈ l → n ∈ DataW.weightsAll P e l
  | [], h => by simp at h
  | x :: r, h => by
    simp only [DataW.weightsAll, List.mem_append]
    rcases List.mem_cons.1 h with rfl | h
    · exact .inl hn
    · exact .inr (weights_all hn h)
/-- What a slice that is read within the reach says of its length, and of its elements. -/
theorem slice_sz {t e : TypeId} (ht : Tryz.prog.underlying t = some (.slice e)) (hb : 1 ≤ Tryz.prog.bytesOf e) {len k : Nat} {D : Nat → DataW H} (hsz : ∀ n ∈ (DataW.slice ((List.range len).map D) ((List.range k).map fun j => D (len + j))).weights Tryz.prog t, n ≤ reachBytes) :
    len ≤ 140737488355328 ∧ ∀ i, i < len → ∀ n ∈ (D i).weights Tryz.prog e, n ≤ reachBytes := by
  constructor
  · have h1 := hsz ((((List.range len).map D).length + ((List.range k).map fun j => D (len + j)).length) * Tryz.prog.bytesOf e) (by simp only [DataW.weights, ht]; exact List.mem_cons_self ..)
    simp only [List.length_map, List.length_range, reachBytes] at h1
    have : (len + k) * 1 ≤ (len + k) * Tryz.prog.bytesOf e := Nat.mul_le_mul_left _ hb
    omega
  · intro i hi n hn
    refine hsz n ?_
    simp only [DataW.weights, ht, List.mem_cons, List.mem_append]
    exact .inr (.inl (weights_all hn (List.mem_map.2 ⟨i, List.mem_range.2 hi, rfl⟩)))
theorem op_bytes {m : Nat} {u : Value} {x : DataW H × List MemPlace} (h : DataW.trod enc Tryz.prog w base (fun _ => true) held m 42 [u] = some x) :
    ∃ (a : Option Addr) (L : List Int) (n c : Nat), u = .slice a n c ∧ L.length = n ∧ Byt L ∧ Ls .u8 w a c L := by
  rcases open_ints Tryz.underlying42 Tryz.underlying5 (by kernel_rfl) h with ⟨hcs, _⟩ | ⟨y, l, c, zs, hcs, _, hl, hm, hz, hx, hcell, hwz⟩
  · simp only [List.cons.injEq, and_true] at hcs
    exact ⟨none, [], 0, 0, hcs, rfl, fun x hx => by simp at hx, Ls.nul _ _⟩
  · simp only [List.cons.injEq, and_true] at hcs
    have hr : IsRow .u8 w (some y) l c zs := .inr ⟨_, rfl, hl, hm, by simpa using hz, hcell, hwz⟩
    exact ⟨some y, zs.take l, l, c, hcs, hr.ls.2, hr.byt, hr.ls.1⟩
theorem op_row {m : Nat} {u : Value} {x : DataW H × List MemPlace} (h : DataW.trod enc Tryz.prog w base (fun _ => true) held m 50 [u] = some x) (hsz : ∀ n ∈ x.1.weights Tryz.prog 50, n ≤ reachBytes) :
    ∃ (a : Option Addr) (R : List P1) (n c : Nat), u = .slice a n c ∧ R.length = n ∧ RdR w a R ∧ (∀ p ∈ R, Byt p.bs) ∧ n ≤ 140737488355328 := by
  rcases open_slice Tryz.underlying50 h with ⟨hcs, _⟩ | ⟨y, l, c, k, _, D, Pl, hcs, _, hl, hm, _, rfl, _⟩
  · simp only [List.cons.injEq, and_true] at hcs
    subst hcs
    obtain ⟨R, h1, h2, h3⟩ := open_row (d := x.1) (ps := x.2) ⟨m, by simpa [Value.cells] using h⟩
    exact ⟨none, R, 0, 0, rfl, h1, h2, h3, Nat.zero_le _⟩
  · simp only [List.cons.injEq, and_true] at hcs
    subst hcs
    obtain ⟨R, h1, h2, h3⟩ := open_row ⟨m, by simpa [Value.cells] using h⟩
    exact ⟨some y, R, l, c, rfl, h1, h2, h3, (slice_sz Tryz.underlying50 (of_decide_eq_true (by kernel_rfl)) hsz).1⟩
theorem c1_74 : Tryz.prog.cellsOf 74 = 7 := by kernel_rfl
theorem c1_38 : Tryz.prog.cellsOf 38 = 3 := by kernel_rfl
theorem c1_36 : Tryz.prog.cellsOf 36 = 1 := by kernel_rfl
theorem c1_72 : Tryz.prog.cellsOf 72 = 1 := by kernel_rfl
theorem c1_42 : Tryz.prog.cellsOf 42 = 1 := by kernel_rfl
theorem c1_50 : Tryz.prog.cellsOf 50 = 1 := by kernel_rfl
theorem c1_3 : Tryz.prog.cellsOf 3 = 1 := by kernel_rfl
theorem c1_4 : Tryz.prog.cellsOf 4 = 1 := by kernel_rfl
set_option maxRecDepth 100000 in
theorem one_op {m : Nat} {cs : List Value} {x : DataW H × List MemPlace} (h : DataW.trod enc Tryz.prog w base (fun _ => true) held m 74 cs = some x) (hlen : cs.length = 7) (hsz : ∀ n ∈ x.1.weights Tryz.prog 74, n ≤ reachBytes) :
    ∃ o : CallV, cs = [.int .i64 o.k, .int .i64 o.t, .int .i64 o.i, .slice o.ka o.kn o.kc, .slice o.ta o.tn o.tc, .int .i64 o.m, .slice o.ra o.rn o.rc] ∧ CallAt w o ∧ o.rn ≤ 140737488355328 := by
  match cs, hlen with
  | [u0, u1, u2, u3, u4, u5, u6], _ =>
    obtain ⟨xs, m2, _, hx, _, hl2, hel⟩ := DataW.trod_struct Tryz.underlying74 h
    have g0 : DataW.trod enc Tryz.prog w base (fun _ => true) held m2 72 (List.take (Tryz.prog.cellsOf 72) (List.drop 0 [u0, u1, u2, u3, u4, u5, u6])) = xs[0]? := hel 0 _ rfl
    have g1 : DataW.trod enc Tryz.prog w base (fun _ => true) held m2 3 (List.take (Tryz.prog.cellsOf 3) (List.drop 1 [u0, u1, u2, u3, u4, u5, u6])) = xs[1]? := hel 1 _ rfl
    have g2 : DataW.trod enc Tryz.prog w base (fun _ => true) held m2 3 (List.take (Tryz.prog.cellsOf 3) (List.drop 2 [u0, u1, u2, u3, u4, u5, u6])) = xs[2]? := hel 2 _ rfl
    have g3 : DataW.trod enc Tryz.prog w base (fun _ => true) held m2 42 (List.take (Tryz.prog.cellsOf 42) (List.drop 3 [u0, u1, u2, u3, u4, u5, u6])) = xs[3]? := hel 3 _ rfl
    have g4 : DataW.trod enc Tryz.prog w base (fun _ => true) held m2 42 (List.take (Tryz.prog.cellsOf 42) (List.drop 4 [u0, u1, u2, u3, u4, u5, u6])) = xs[4]? := hel 4 _ rfl
    have g5 : DataW.trod enc Tryz.prog w base (fun _ => true) held m2 3 (List.take (Tryz.prog.cellsOf 3) (List.drop 5 [u0, u1, u2, u3, u4, u5, u6])) = xs[5]? := hel 5 _ rfl
    have g6 : DataW.trod enc Tryz.prog w base (fun _ => true) held m2 50 (List.take (Tryz.prog.cellsOf 50) (List.drop 6 [u0, u1, u2, u3, u4, u5, u6])) = xs[6]? := hel 6 _ rfl
    rw [c1_72] at g0
    rw [c1_3] at g1 g2 g5
    rw [c1_42] at g3 g4
    rw [c1_50] at g6
    simp only [List.drop, List.take] at g0 g1 g2 g3 g4 g5 g6
    match xs, hl2 with
    | [y0, y1, y2, y3, y4, y5, y6], _ =>
      have hx1 : x.1 = .agg [y0.1, y1.1, y2.1, y3.1, y4.1, y5.1, y6.1] := by rw [hx]; rfl
      rw [hx1] at hsz
      obtain ⟨z0, e0, _⟩ := DataW.trod_int Tryz.underlying72 g0
      obtain ⟨z1, e1, _⟩ := DataW.trod_int Tryz.underlying3 g1
      obtain ⟨z2, e2, _⟩ := DataW.trod_int Tryz.underlying3 g2
      obtain ⟨z5, e5, _⟩ := DataW.trod_int Tryz.underlying3 g5
      obtain ⟨a3, L3, n3, c3, e3, l3, b3, s3⟩ := op_bytes g3
      obtain ⟨a4, L4, n4, c4, e4, l4, b4, s4⟩ := op_bytes g4
      obtain ⟨a6, R6, n6, c6, e6, l6, r6, b6, k6⟩ := op_row g6 (fun n hn => hsz n (by
        have := DataW.weights_mem_each (P := Tryz.prog) (ts := [72, 3, 3, 42, 42, 3, 50]) (ds := [y0.1, y1.1, y2.1, y3.1, y4.1, y5.1, y6.1]) (j := 6) (t := 50) rfl rfl n hn
        simpa [DataW.weights, Tryz.underlying74] using this))
      simp only [List.cons.injEq, and_true] at e0 e1 e2 e5
      exact ⟨⟨z0, z1, z2, a3, n3, c3, L3, a4, n4, c4, L4, z5, a6, n6, c6, R6⟩, by rw [e0, e1, e2, e3, e4, e5, e6], ⟨s3, l3, b3, s4, l4, b4, r6, l6, b6⟩, k6⟩
/-- A slice of calls, opened. -/
theorem open_ops {m : Nat} {u : Value} {x : DataW H × List MemPlace} (h : DataW.trod enc Tryz.prog w base (fun _ => true) held m 36 [u] = some x) (hsz : ∀ n ∈ x.1.weights Tryz.prog 36, n ≤ reachBytes) :
    ∃ (a : Option Addr) (L : List CallV) (n c : Nat), u = .slice a n c ∧ L.length = n ∧ OpsR w a L ∧ n ≤ 140737488355328 ∧ ∀ o ∈ L, o.rn ≤ 140737488355328 := by
  rcases open_slice Tryz.underlying36 h with ⟨hcs, _⟩ | ⟨y, l, c, k, m2, D, Pl, hcs, _, hl, hm, hk, rfl, hi⟩
  · simp only [List.cons.injEq, and_true] at hcs
    subst hcs
    exact ⟨none, [], 0, 0, rfl, rfl, fun k o ho => by simp at ho, Nat.zero_le _, fun o ho => by simp at ho⟩
  · simp only [List.cons.injEq, and_true] at hcs
    subst hcs
    have hkl : l ≤ k := by rw [hk]; split <;> omega
    obtain ⟨sl, sd⟩ := slice_sz Tryz.underlying36 (of_decide_eq_true (by kernel_rfl)) hsz
    obtain ⟨L, hL, hp⟩ := list_of (p := fun i (o : CallV) => (∀ j v, [Value.int .i64 o.k, .int .i64 o.t, .int .i64 o.i, .slice o.ka o.kn o.kc, .slice o.ta o.tn o.tc, .int .i64 o.m, .slice o.ra o.rn o.rc][j]? = some v → w.cell? ((y.add (i * 7)).add j) = some v) ∧ CallAt w o ∧ o.rn ≤ 140737488355328) l (fun i him => by
      obtain ⟨cs', hc, ht⟩ := hi i (by omega)
      rw [c1_74] at hc
      obtain ⟨_, hcl, hat⟩ := World.cells?_some hc
      obtain ⟨o, ho, hca, hrn⟩ := one_op ht hcl (sd i him)
      refine ⟨o, fun j v hj => ?_, hca, hrn⟩
      have hj7 : j < 7 := by have := (List.getElem?_eq_some_iff.1 hj).1; simpa using this
      rw [hat j hj7, ho]; exact hj)
    refine ⟨some y, L, l, c, rfl, hL, fun i o ho => ?_, sl, fun o ho => ?_⟩
    · obtain ⟨b, off, spot⟩ := y
      obtain ⟨h0, hca, _⟩ := hp i o ho
      have hil : i < L.length := (List.getElem?_eq_some_iff.1 ho).1
      obtain ⟨z0, _, _⟩ := hp 0 L[0] (List.getElem?_eq_getElem (by omega))
      have hspot : spot = none := by simpa [Addr.add] using World.cell?_spot (z0 0 _ rfl)
      subst hspot
      have q : ∀ j v, [Value.int .i64 o.k, .int .i64 o.t, .int .i64 o.i, .slice o.ka o.kn o.kc, .slice o.ta o.tn o.tc, .int .i64 o.m, .slice o.ra o.rn o.rc][j]? = some v → w.cell? ⟨b, off + i * 7 + j, none⟩ = some v := fun j v hj => by
        have := h0 j v hj
        rwa [addr_add, addr_add] at this
      exact ⟨b, off, rfl, ⟨q 0 _ rfl, q 1 _ rfl, q 2 _ rfl, q 3 _ rfl, q 4 _ rfl, q 5 _ rfl, q 6 _ rfl⟩, hca⟩
    · obtain ⟨i, hi'⟩ := List.mem_iff_getElem?.1 ho
      exact (hp i o hi').2.2
set_option maxRecDepth 100000 in
theorem one_tx {m : Nat} {cs : List Value} {x : DataW H × List MemPlace} (h : DataW.trod enc Tryz.prog w base (fun _ => true) held m 38 cs = some x) (hlen : cs.length = 3) (hsz : ∀ n ∈ x.1.weights Tryz.prog 38, n ≤ reachBytes) :
    ∃ t : TxnV, cs = [.slice t.oa t.on t.oc, .bool t.sn, .bool t.ab] ∧ TxnAt w t ∧ TxG t := by
  match cs, hlen with
  | [u0, u1, u2], _ =>
    obtain ⟨xs, m2, _, hx, _, hl2, hel⟩ := DataW.trod_struct Tryz.underlying38 h
    have g0 : DataW.trod enc Tryz.prog w base (fun _ => true) held m2 36 (List.take (Tryz.prog.cellsOf 36) (List.drop 0 [u0, u1, u2])) = xs[0]? := hel 0 _ rfl
    have g1 : DataW.trod enc Tryz.prog w base (fun _ => true) held m2 4 (List.take (Tryz.prog.cellsOf 4) (List.drop 1 [u0, u1, u2])) = xs[1]? := hel 1 _ rfl
    have g2 : DataW.trod enc Tryz.prog w base (fun _ => true) held m2 4 (List.take (Tryz.prog.cellsOf 4) (List.drop 2 [u0, u1, u2])) = xs[2]? := hel 2 _ rfl
    rw [c1_36] at g0
    rw [c1_4] at g1 g2
    simp only [List.drop, List.take] at g0 g1 g2
    match xs, hl2 with
    | [y0, y1, y2], _ =>
      have hx1 : x.1 = .agg [y0.1, y1.1, y2.1] := by rw [hx]; rfl
      rw [hx1] at hsz
      obtain ⟨a, L, n, c, e0, l0, r0, k0, o0⟩ := open_ops g0 (fun n hn => hsz n (by
        have := DataW.weights_mem_each (P := Tryz.prog) (ts := [36, 4, 4]) (ds := [y0.1, y1.1, y2.1]) (j := 0) (t := 36) rfl rfl n hn
        simpa [DataW.weights, Tryz.underlying38] using this))
      obtain ⟨z1, e1, _⟩ := DataW.trod_bool Tryz.underlying4 g1
      obtain ⟨z2, e2, _⟩ := DataW.trod_bool Tryz.underlying4 g2
      simp only [List.cons.injEq, and_true] at e1 e2
      exact ⟨⟨a, n, c, L, z1, z2⟩, by rw [e0, e1, e2], ⟨r0, l0⟩, ⟨k0, o0⟩⟩
/-- A slice of transactions, opened. -/
theorem open_txs {m : Nat} {u : Value} {x : DataW H × List MemPlace} (h : DataW.trod enc Tryz.prog w base (fun _ => true) held m 25 [u] = some x) (hsz : ∀ n ∈ x.1.weights Tryz.prog 25, n ≤ reachBytes) :
    ∃ (a : Option Addr) (L : List TxnV) (n c : Nat), u = .slice a n c ∧ L.length = n ∧ TxsR w a L ∧ n ≤ 140737488355328 ∧ ∀ t ∈ L, TxG t := by
  rcases open_slice Tryz.underlying25 h with ⟨hcs, _⟩ | ⟨y, l, c, k, m2, D, Pl, hcs, _, hl, hm, hk, rfl, hi⟩
  · simp only [List.cons.injEq, and_true] at hcs
    subst hcs
    exact ⟨none, [], 0, 0, rfl, rfl, fun k o ho => by simp at ho, Nat.zero_le _, fun o ho => by simp at ho⟩
  · simp only [List.cons.injEq, and_true] at hcs
    subst hcs
    have hkl : l ≤ k := by rw [hk]; split <;> omega
    obtain ⟨sl, sd⟩ := slice_sz Tryz.underlying25 (of_decide_eq_true (by kernel_rfl)) hsz
    obtain ⟨L, hL, hp⟩ := list_of (p := fun i (t : TxnV) => (∀ j v, [Value.slice t.oa t.on t.oc, .bool t.sn, .bool t.ab][j]? = some v → w.cell? ((y.add (i * 3)).add j) = some v) ∧ TxnAt w t ∧ TxG t) l (fun i him => by
      obtain ⟨cs', hc, ht⟩ := hi i (by omega)
      rw [c1_38] at hc
      obtain ⟨_, hcl, hat⟩ := World.cells?_some hc
      obtain ⟨t, ho, hca, hrn⟩ := one_tx ht hcl (sd i him)
      refine ⟨t, fun j v hj => ?_, hca, hrn⟩
      have hj7 : j < 3 := by have := (List.getElem?_eq_some_iff.1 hj).1; simpa using this
      rw [hat j hj7, ho]; exact hj)
    refine ⟨some y, L, l, c, rfl, hL, fun i t ho => ?_, sl, fun t ho => ?_⟩
    · obtain ⟨b, off, spot⟩ := y
      obtain ⟨h0, hca, _⟩ := hp i t ho
      have hil : i < L.length := (List.getElem?_eq_some_iff.1 ho).1
      obtain ⟨z0, _, _⟩ := hp 0 L[0] (List.getElem?_eq_getElem (by omega))
      have hspot : spot = none := by simpa [Addr.add] using World.cell?_spot (z0 0 _ rfl)
      subst hspot
      have q : ∀ j v, [Value.slice t.oa t.on t.oc, .bool t.sn, .bool t.ab][j]? = some v → w.cell? ⟨b, off + i * 3 + j, none⟩ = some v := fun j v hj => by
        have := h0 j v hj
        rwa [addr_add, addr_add] at this
      exact ⟨b, off, rfl, ⟨q 0 _ rfl, q 1 _ rfl, q 2 _ rfl⟩, hca⟩
    · obtain ⟨i, hi'⟩ := List.mem_iff_getElem?.1 ho
      exact (hp i t hi').2.2
end
section
variable {H : Type} {enc : TypeId × Value → H} {P : Program} {w : World} {base : Nat} {spare : Nat → Bool} {held : Bool}
theorem open_agg7 {r : Reach} {b0 : Nat} {t : TypeId} {f0 f1 f2 f3 f4 f5 f6 : Field} {v : Value} {d : DataW H} {p : List MemPlace} (hs : P.underlying t = some (.struct #[f0, f1, f2, f3, f4, f5, f6])) (hone : oneCellFields P #[f0, f1, f2, f3, f4, f5, f6] = true) (hC : P.cellsOf t = 7)
    (hv : Value.okWide P w r b0 t v) (h : DataW.Trod enc P w base spare held t v d p) :
    ∃ (v0 v1 v2 v3 v4 v5 v6 : Value) (y0 y1 y2 y3 y4 y5 y6 : DataW H × List MemPlace) (n : Nat), v = .agg #[v0, v1, v2, v3, v4, v5, v6] ∧ d = .agg [y0.1, y1.1, y2.1, y3.1, y4.1, y5.1, y6.1] ∧ p = y0.2 ++ (y1.2 ++ (y2.2 ++ (y3.2 ++ (y4.2 ++ (y5.2 ++ (y6.2)))))) ∧
      DataW.trod enc P w base spare held n f0.type [v0] = some y0 ∧ DataW.trod enc P w base spare held n f1.type [v1] = some y1 ∧ DataW.trod enc P w base spare held n f2.type [v2] = some y2 ∧ DataW.trod enc P w base spare held n f3.type [v3] = some y3 ∧ DataW.trod enc P w base spare held n f4.type [v4] = some y4 ∧ DataW.trod enc P w base spare held n f5.type [v5] = some y5 ∧ DataW.trod enc P w base spare held n f6.type [v6] = some y6 := by
  obtain ⟨cs, rfl, hsz⟩ := okWide_struct hs hv
  obtain ⟨l⟩ := cs
  match l, hsz.trans hC with
  | [c0, c1, c2, c3, c4, c5, c6], _ =>
    obtain ⟨fuel, hf⟩ := h
    obtain ⟨xs, n, _, hx, _, hlen, hg⟩ := DataW.trod_struct hs hf
    obtain ⟨o0, k0⟩ := hone_of hone 0 f0 rfl
    obtain ⟨o1, k1⟩ := hone_of hone 1 f1 rfl
    obtain ⟨o2, k2⟩ := hone_of hone 2 f2 rfl
    obtain ⟨o3, k3⟩ := hone_of hone 3 f3 rfl
    obtain ⟨o4, k4⟩ := hone_of hone 4 f4 rfl
    obtain ⟨o5, k5⟩ := hone_of hone 5 f5 rfl
    obtain ⟨o6, k6⟩ := hone_of hone 6 f6 rfl
    match xs, hlen with
    | [y0, y1, y2, y3, y4, y5, y6], _ =>
      simp only [Prod.mk.injEq] at hx
      exact ⟨c0, c1, c2, c3, c4, c5, c6, y0, y1, y2, y3, y4, y5, y6, n, rfl, by simpa using hx.1, by simpa using hx.2, by simpa [Value.cells, o0, k0] using hg 0 f0 rfl, by simpa [Value.cells, o1, k1] using hg 1 f1 rfl, by simpa [Value.cells, o2, k2] using hg 2 f2 rfl, by simpa [Value.cells, o3, k3] using hg 3 f3 rfl, by simpa [Value.cells, o4, k4] using hg 4 f4 rfl, by simpa [Value.cells, o5, k5] using hg 5 f5 rfl, by simpa [Value.cells, o6, k6] using hg 6 f6 rfl⟩
end
section
variable {H : Type} {enc : TypeId × Value → H} {w : World} {base b0 : Nat} {held : Bool} {r : Reach} {v : Value} {d : DataW H} {ps : List MemPlace}
set_option maxRecDepth 100000 in
theorem open_job (hval : Value.okWide Tryz.prog w r b0 24 v) (hd : DataW.Trod enc Tryz.prog w base (fun _ => true) held 24 v d ps) :
    ∃ j : Job, v = .agg #[.int .i64 j.w, .int .i64 j.l, .int .i64 j.d, .int .i64 j.c, .int .i64 j.k, .int .i64 j.e, .slice j.a j.n j.cap] ∧ Ls .i64 w j.a j.cap j.T ∧ j.T.length = j.n := by
  obtain ⟨v0, v1, v2, v3, v4, v5, v6, y0, y1, y2, y3, y4, y5, y6, n, rfl, _, _, h0, h1, h2, h3, h4, h5, h6⟩ := open_agg7 Tryz.underlying24 (by kernel_rfl) (by kernel_rfl) hval hd
  obtain ⟨x0, e0, _⟩ := DataW.trod_int Tryz.underlying3 h0
  obtain ⟨x1, e1, _⟩ := DataW.trod_int Tryz.underlying3 h1
  obtain ⟨x2, e2, _⟩ := DataW.trod_int Tryz.underlying3 h2
  obtain ⟨x3, e3, _⟩ := DataW.trod_int Tryz.underlying3 h3
  obtain ⟨x4, e4, _⟩ := DataW.trod_int Tryz.underlying3 h4
  obtain ⟨x5, e5, _⟩ := DataW.trod_int Tryz.underlying3 h5
  simp only [List.cons.injEq, and_true] at e0 e1 e2 e3 e4 e5
  subst e0 e1 e2 e3 e4 e5
  rcases open_ints Tryz.underlying22 Tryz.underlying3 (by kernel_rfl) h6 with ⟨hcs, _⟩ | ⟨x, l, c, zs, hcs, _, hl, hm, hz, _, hcell, hwz⟩
  · simp at hcs
    subst hcs
    exact ⟨⟨x0, x1, x2, x3, x4, x5, none, 0, 0, []⟩, rfl, Ls.nul _ _, rfl⟩
  · simp at hcs
    subst hcs
    have hr : IsRow .i64 w (some x) l c zs := .inr ⟨_, rfl, hl, hm, by simpa using hz, hcell, hwz⟩
    exact ⟨⟨x0, x1, x2, x3, x4, x5, some x, l, c, zs.take l⟩, rfl, hr.ls.1, hr.ls.2⟩
end
end Go.Proofs.YthmofoldmdafoaaGreat
namespace Go.Proofs.YthmofoldmdafoaaGreat.modelReadsP
open Go.ChangeShapes Go.WideShapes Go.ChangeAt Go.RowKit
open Go.ChangeMaps (open_string shut_string)
set_option linter.unusedVariables false
set_option linter.unusedSimpArgs false

theorem own : ownKnob Tryz.prog.godebug = none := by kernel_rfl
theorem laidOut : laidOutB Tryz.prog = true := by kernel_rfl

set_option maxRecDepth 100000 in
theorem lifted (os : Os) (started : os.Started) (H : Type) (enc : TypeId × Value → H) :
    ReturnsInHanded {} Tryz.checked os 7 .any (Rows.modelReadsSpec.pre6 enc Tryz.prog Tryz.f7 Rows.modelReadsRow.domain false) (Rows.modelReadsSpec.post enc Tryz.prog Tryz.f7 false true false false) := by
  refine returnsInHanded_of_change_sized (C := Tryz.checked) own started (by kernel_rfl) Tryz.func7
    (ChangeSpec.witness6 (enc := enc) (C := Tryz.checked) false ⟨#[], #[.agg #[.int .i64 0, .int .i64 0, .int .i64 0, .int .i64 0, .int .i64 0, .int .i64 0, .slice none 0 0], .slice none 0 0], []⟩ 12 (by kernel_rfl) (by kernel_rfl) (by kernel_rfl) (by kernel_rfl)) ?_
  intro W base args ds gs before hval0 hW hcnd hsz0 _
  have hsz : (DataW.weightsEach Tryz.prog (Tryz.f7.params.toList ++ Rows.modelReadsSpec.plain.varTypes Tryz.prog) (ds ++ gs)).all (· ≤ reachBytes) = true := hsz0
  clear hsz0
  have hval : ∀ (j : Nat) t v, Tryz.f7.params[j]? = some t → args[j]? = some v → Value.okWide Tryz.prog W .any base t v := hval0
  have hW' := hW
  obtain ⟨p, q, hA0, hV, rfl, hfz, hnd⟩ := hW
  have hA : DataW.TrodAll enc Tryz.prog W 0 (fun _ => true) true Tryz.f7.params.toList args.toList ds p := hA0
  rw [Tryz.params7] at hA hval hsz
  obtain ⟨v0, vs0, d0, ds0, p0, q0, hargs, rfl, rfl, h0, r0⟩ := trodAll_cons hA
  obtain ⟨v1, vs1, d1, ds1, p1, q1, rfl, rfl, rfl, h1, r1⟩ := trodAll_cons r0
  obtain ⟨rfl, rfl, rfl⟩ := trodAll_nil r1
  obtain rfl : args = #[v0, v1] := by cases args; simp_all
  obtain ⟨rfl, rfl⟩ := trodVars_none hV
  have k0 := h0
  have lt0 : ∀ x ∈ p0, x.block < W.heap.size := by obtain ⟨m, hm⟩ := k0; exact DataW.trod_lt m _ _ _ hm
  obtain ⟨J, rfl, LJ, NJ⟩ := open_job (hval 0 24 v0 rfl rfl) h0
  have k1 := h1
  have lt1 : ∀ x ∈ p1, x.block < W.heap.size := by obtain ⟨m, hm⟩ := k1; exact DataW.trod_lt m _ _ _ hm
  have all : ∀ n ∈ DataW.weightsEach Tryz.prog ([24, 25] ++ Rows.modelReadsSpec.plain.varTypes Tryz.prog) ([d0, d1] ++ []), n ≤ reachBytes := fun n hn => by simpa using List.all_eq_true.1 hsz n hn
  obtain ⟨a1, n1, c1, rfl⟩ := okWide_slice Tryz.underlying25 (hval 1 25 v1 rfl rfl)
  obtain ⟨L1, hL1, hR1, hN1, hG1⟩ : ∃ L : List TxnV, L.length = n1 ∧ TxsR W a1 L ∧ n1 ≤ 140737488355328 ∧ ∀ s ∈ L, TxG s := by
    obtain ⟨fuel, hf⟩ := h1
    obtain ⟨a, L, n, c, e, h1, h2, h3, h4⟩ := open_txs (by simpa [Value.cells] using hf) (fun n hn => all n (DataW.weights_mem_each (j := 1) (t := 25) rfl rfl n hn))
    simp only [Value.slice.injEq] at e
    obtain ⟨rfl, rfl, rfl⟩ := e
    exact ⟨L, h1, h2, h3, h4⟩
  clear hA0 hval0
  refine (reads_law J a1 L1 n1 c1 hL1 hN1 hG1 W LJ NJ hR1).mono fun e W' ⟨he, bel⟩ => ?_
  subst he
  exact ⟨_, rfl, _, _, _, [], _, [], hW', trodAll_mk1 (shut_bool Tryz.underlying4 _), (trodAll_cons_mk (Below.trod laidOut (by kernel_rfl) (of_decide_eq_true (by kernel_rfl)) k0 bel lt0) (trodAll_cons_mk (Below.trod laidOut (by kernel_rfl) (of_decide_eq_true (by kernel_rfl)) k1 bel lt1) trodAll_mk0)), rfl, bel.frame _, fun h => by cases h⟩

theorem over : Rows.modelReadsRow.holds Tryz.pinned (OpenSpec.ofChange Rows.modelReadsSpec) :=
  OpenClaim.holds_of_wide 7 Tryz.f7 rfl rfl rfl rfl rfl rfl rfl ⟨rfl, rfl, rfl, rfl, rfl⟩ rfl rfl rfl rfl rfl (by kernel_rfl) Tryz.func7 (by kernel_rfl)
    (of_decide_eq_true (by kernel_rfl)) (by unfold Func.isWrapper; first | (rw [if_pos (by decide +kernel)]; kernel_rfl) | (rw [if_neg (by decide +kernel)]; exact ⟨rfl, rfl⟩))
    (fun os started H enc _ => lifted os started H enc)

theorem proved : Rows.ModelReadsSaid := over
#print axioms proved
end Go.Proofs.YthmofoldmdafoaaGreat.modelReadsP
