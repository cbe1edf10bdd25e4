/- Part of the proof that ModelDoes holds for every input: tables, under any transactions, answer, write and stand as the document says. Part 37. -/
import Derived.Test.YthmofoldmdafoaaGreatSdJ
set_option linter.unusedVariables false
set_option linter.unusedSimpArgs false
set_option maxRecDepth 100000
set_option maxHeartbeats 4000000
namespace Go.Proofs.YthmofoldmdafoaaGreat
open Go.ChangeShapes Go.WideShapes Go.ChangeAt Go.RowKit
open Go.Lib (hid)
open Go.Proofs.Tryz
section
open Go.Maps Go.Shelf
theorem lenT_P (Ts : List TbV) : lenT Ts = lenP (Ts.map tbC) := by
 unfold lenT lenP
 rw [List.map_map]
 congr 1
 exact List.map_congr_left fun x _ => by simp [tbC]
theorem stands_law {S : Nat -> Prop} {m : Md} {f : Rf} {w : World} (hm : MdR S w m) (hf : RfR S w f) (hS : ∀ k, S k -> k < w.heap.size) (hj : JEq f.j m.j) (hP : f.P = m.P) (hl : ∀ z ∈ m.tabs, z.2.length <= 200000) (hfl : ∀ z ∈ f.Ts, z.P.length <= 200000) (lv : Int) :
  Calls prog 14 #[.pointer (some ⟨m.p, 0, none⟩), .pointer (some ⟨f.p, 0, none⟩), .int .i64 lv] w fun r w' => r = .returned (.bool true) /\ Below w.heap.size w w' := by
 have hml : m.tabs.length = f.Ts.length := by rw [← m.P_len, ← hP, f.P_len]
 have hfew := hf.few
 have HV := hid (And.intro hS (And.intro hj (And.intro hP (And.intro hml (And.intro hl hfl)))))
 have HM := hid hm
 have HF := hid hf
 have HSB := hid (fun X (b : Below w.heap.size w X) k (hk : S k) => Nat.lt_of_lt_of_le (hS k hk) b.size)
 have HOK := hid (show ∀ z ∈ f.Ts, TbOk z from fun z hz => hf.tok hz (by have := hfl z hz; omega))
 have HLM := hid (fun X (b : Below w.heap.size w X) => mlen_law (hm.below b) (fun z hz => by have := hl z hz; omega))
 have hlen : lenT f.Ts = lenP m.P := by rw [lenT_P, ← hP]; rfl
 obtain ⟨fn, hfn⟩ := gtx (f.Ts.length)
 have HFN := hid hfn
 have HLR := hid (fun X (b : Below w.heap.size w X) => rlen_law f.p (some ⟨f.b1, 0, none⟩) fn f.tc f.Ts hfn Xt0 (fun z hz => by have := hfl z hz; omega) X (by have h := (hf.below b).c; rw [hfn] at h; exact h) (hf.below b).tbs.now)
 rw [hlen] at HLR
 obtain ⟨N0, hN0⟩ := gtx (lenP m.P)
 rw [hN0] at HLM HLR
 have HTB := hid (fun X (b : Below w.heap.size w X) => mtabs_law (hm.below b) (HSB.out X b) (fun z hz => by have := hl z hz; omega))
 have HM7 := hid (fun X (b : Below w.heap.size w X) => (show X.cell? ⟨f.p, 7, none⟩ = some (.slice (some ⟨f.b1, 0, none⟩) fn f.tc) from by have h := (hf.below b).c; rw [hfn] at h; exact h))
 have HST := hid (fun (ta : Option Addr) (tc : Nat) (Ts : List TbV) (tn : Nat) (hT : Ts.map tbC = m.P /\ ∀ x ∈ Ts, TbG x) (htn : Ts.length = tn) X (b : Below w.heap.size w X) (hTS : TbR X ta Ts) => (by
  have h1 : tn = fn := by
   have h := congrArg List.length hT.1
   rw [List.length_map, m.P_len] at h
   omega
  have key := qM_ ta (some ⟨f.b1, 0, none⟩) Ts f.Ts tn fn tc f.tc htn hfn Xt0 Xt0 (fun z hz => by
   refine ⟨?_, fun p hp => okK_pr ((hT.2 z hz).1 p hp)⟩
   have h2 : tbC z ∈ m.P := by rw [← hT.1]; exact List.mem_map.2 ⟨z, hz, rfl⟩
   unfold Md.P at h2
   obtain ⟨q, hq, e⟩ := List.mem_map.1 h2
   have h3 := congrArg List.length e
   have h4 := hl q hq
   unfold x6_ tbC at h3
   rw [List.length_map, List.length_map] at h3
   omega) HOK.out X hTS (hf.below b).tbs.now
  rw [show decide (Ts.map tbC = f.Ts.map tbC) = true from decide_eq_true (by rw [hT.1, ← hP]; rfl)] at key
  exact key : Calls prog 45 #[.slice ta tn tc, .slice (some ⟨f.b1, 0, none⟩) fn f.tc] X fun r w' => r = .returned (.bool true) /\ Below X.heap.size X w'))
 have hfni : (fn : Int) <= 4 := by omega
 have hfn4 : fn <= 4 := by omega
 clear hm hf hS hj hP hml hl hfl hlen hfn hN0 hfew
 go_enter func14, ntmps14
 go_upto_region 1 with (fail)
 refine rgw w (Below.refl _ _).drew fun hH => ?_
 refine tkq2 0 2 ?_
 refine tk1 1 rfl fun K hK => ?_
 go_simp
 refine (HLM.out _ hH).mono ?_; rintro r w1 ⟨rfl, hw1⟩; subst hw1
 go_wp2_with fail
 refine hK.out _ _ hH fun hH => ?_
 refine stP ?_
 refine tk1 3 rfl fun K hK => ?_
 go_simp
 refine (HLR.out _ hH).mono ?_; rintro r w2 ⟨rfl, hb2⟩
 have HBc := za_ hH hb2
 clear hb2
 go_wp2_with fail
 refine hK.out _ _ HBc fun hH => ?_
 clear HBc
 refine stP ?_
 refine tkp 4 (.bool false) rfl (.inl ⟨by rfl, ?_⟩) ?_
 ·exact Xb17
 refine tkp 5 (.bool false) rfl (.inl ⟨by rfl, ?_⟩) ?_
 ·exact Xb17
 refine tkq4 6 8 9 10 ?_
 refine tkr 11 rfl (fun W hSw => by have m := HM7.out W hSw; exact tks) ?_
 refine tk1 7 rfl fun K hK => ?_
 go_simp
 refine (HTB.out _ hH).mono ?_; rintro r w3 ⟨ta, tc, Ts, rfl, hb3, hT, hTG, hTS⟩
 have HTS := hid (hTS (fun _ => False) (fun _ h => h.elim)).now
 have HT := hid (And.intro hT hTG)
 obtain ⟨tn, htn⟩ := gtx (Ts.length)
 have HTN := hid htn
 rw [htn]
 clear hT hTG hTS htn
 have HBc := za_ hH hb3
 clear hb3
 go_wp2_with fail
 refine hK.out _ _ HBc fun hH => ?_
 clear HBc
 refine stP ?_
 refine tk1 12 rfl fun K hK => ?_
 go_simp
 refine (HST.out ta tc Ts tn HT.out HTN.out _ hH HTS.out).mono ?_; rintro r w4 ⟨rfl, hb4⟩
 have HBc := za_ hH hb4
 clear hb4
 go_wp2_with fail
 refine hK.out _ _ HBc fun hH => ?_
 clear HBc
 refine stP ?_
 refine tkp 13 (.bool false) rfl (.inl ⟨by rfl, ?_⟩) ?_
 ·exact Xb17
 refine tkp 14 (.bool false) rfl (.inl ⟨by rfl, ?_⟩) ?_
 ·exact Xb17
 refine adn ?_
 skip
 have HB1 := hid hH
 have c7 := HM7.out _ HB1.out
 clear hH HLM HLR HTB HST HTS
 go_wp2_with fail
 clear c7
 go_loopw [7] (fun i wr => ∃ k : Nat, k <= fn /\ i = .int .i64 (k : Int) /\ Hid (Below w.heap.size w wr)) (fun i _ => fn - (intOf i).toNat)
 case atStart => exact ⟨0, by omega, rfl, HB1⟩
 case round =>
  obtain ⟨k, hk, rfl, HBW⟩ := hrel
  have c7 := HM7.out wr HBW.out
  by_cases hlt : k < fn
  ·have d1 : (k : Int) < (fn : Int) := by omega
   obtain ⟨x, hx⟩ : ∃ x, f.Ts[k]? = some x := ⟨_, List.getElem?_eq_getElem (by rw [HFN.out]; exact hlt)⟩
   obtain ⟨xn, hxn⟩ := gtx (x.P.length)
   have HQ := hid (fun X (b : Below wr.heap.size wr X) => (by
    have b' := za_ HBW.out b
    obtain ⟨_, _, e0, h1, _⟩ := (HF.out.below b').tbs k x hx
    cases e0
    rw [Nat.zero_add, hxn] at h1
    exact ⟨HM7.out X b', h1⟩ : X.cell? ⟨f.p, 7, none⟩ = some (.slice (some ⟨f.b1, 0, none⟩) fn f.tc) /\ X.cell? ⟨f.b1, k, none⟩ = some (.slice x.pa xn x.pc)))
   have H47 := hid (fun X (b : Below wr.heap.size wr X) => table_sq (HM.out.below (za_ HBW.out b)) (HSB.out X (za_ HBW.out b)) (k : Int) Xt30)
   have H46 := hid (fun X (b : Below wr.heap.size wr X) Bs (sq : SqAt okK X Bs (tabT m (k : Int))) (mo : Int) => (by
    have b' := za_ HBW.out b
    have hxm := List.mem_of_getElem? hx
    obtain ⟨_, _, e0, _, s⟩ := (HF.out.below b').tbs k x hx
    refine qQ_ okK (fun p h => okK_pr h) X Bs _ x.pa x.P xn x.pc hxn (by have := HV.out.2.2.2.2.2 x hxm; omega) (by have := (HF.out.sl x hxm).1; omega) ?_ s.now mo sq
    unfold tabT
    rw [if_pos (by have := HV.out.2.2.2.1; have := HFN.out; omega), Int.toNat_natCast, ← HV.out.2.2.1, HF.out.getD hx]
    rfl : Calls prog 46 #[.func (.func 106) #[] #[.pointer (some ⟨Bs, 0, none⟩)], .slice x.pa xn x.pc, .int .i64 mo] X fun r w' => r = .returned (.bool true) /\ Below X.heap.size X w'))
   have hkT : k < f.j.T.length := by rw [HF.out.job.now.len, ← HF.out.len, HFN.out]; exact hlt
   obtain ⟨jb, jo, hja, hjc⟩ := HF.out.job.now.ls.rd k hkT
   obtain ⟨jx, hjx⟩ := gtx (f.j.T.getD k 0)
   have hjb := jb_ HF.out.ok k hkT
   have hjr : 0 <= jx /\ jx <= 100 := by rw [← hjx]; omega
   rw [hjx] at hjc
   have hjn : f.j.n = fn := by rw [← HF.out.len]; exact HFN.out
   have HJ := hid (fun X (b : Below w.heap.size w X) => (by
    have h1 := (HF.out.below b).box.cell 6
    have e : (f.cs)[6]? = some (.slice f.j.a f.j.n f.j.cap) := rfl
    rw [e, hja, hjn] at h1
    exact ⟨h1, tcb b hjc⟩ : X.cell? ⟨f.p, 6, none⟩ = some (.slice (some ⟨jb, jo, none⟩) fn f.j.cap) /\ X.cell? ⟨jb, jo + k, none⟩ = some (.int .i64 jx)))
   have HIX := hid (fun X (b : Below w.heap.size w X) (i : Int) => rindex_any (HF.out.below b) (HSB.out X b) HV.out.2.1 HV.out.2.2.1 HV.out.2.2.2.1 k (by have := HFN.out; omega) i (fun z hz => by have := HV.out.2.2.2.2.2 z hz; omega))
   have HI49 := hid (fun X (b : Below w.heap.size w X) (i : Int) => index_sq (HM.out.below b) (HSB.out X b) (k : Int) i Xt30)
   have hj1 := hjr.1
   have hj2 := hjr.2
   clear hx hxn hkT hja hjc hjx hjb hjr hjn
   go_upto_region 6 with (fail)
   refine rgw wr (Below.refl _ _).drew fun hH => ?_
   refine tkq4 0 1 3 4 ?_
   refine tkq 5 ?_
   refine tkr 6 rfl (fun W hSw => by have m := (HQ.out W hSw).1; exact tks) ?_
   refine tkq2 7 8 ?_
   refine tkr 9 rfl (fun W hSw => by have m := (HQ.out W hSw).2; exact tks) ?_
   refine tkq 10 ?_
   refine tk1 2 rfl fun K hK => ?_
   go_simp
   refine (H47.out _ hH).mono ?_; rintro r w1 ⟨Bs1, rfl, hb1, hsq1⟩
   have HSQ1 := hid hsq1
   clear hsq1
   have HBc := za_ hH hb1
   clear hb1
   go_wp2_with fail
   refine hK.out _ _ HBc fun hH => ?_
   clear HBc
   refine stP ?_
   refine tk1 11 rfl fun K hK => ?_
   go_simp
   refine (H46.out _ hH Bs1 HSQ1.out lv).mono ?_; rintro r w2 ⟨rfl, hb2⟩
   have HBc := za_ hH hb2
   clear hb2
   go_wp2_with fail
   refine hK.out _ _ HBc fun hH => ?_
   clear HBc
   refine stP ?_
   refine tkp 12 (.bool false) rfl (.inl ⟨by rfl, ?_⟩) ?_
   ·exact Xb17
   refine tkp 13 (.bool false) rfl (.inl ⟨by rfl, ?_⟩) ?_
   ·exact Xb17
   refine tkq4 14 15 17 18 ?_
   refine tkq 19 ?_
   refine tkr 20 rfl (fun W hSw => by have m := (HQ.out W hSw).1; exact tks) ?_
   refine tkq2 21 22 ?_
   refine tkr 23 rfl (fun W hSw => by have m := (HQ.out W hSw).2; exact tks) ?_
   refine tk1 16 rfl fun K hK => ?_
   go_simp
   refine (H47.out _ hH).mono ?_; rintro r w3 ⟨Bs3, rfl, hb3, hsq3⟩
   have HSQ3 := hid hsq3
   clear hsq3
   have HBc := za_ hH hb3
   clear hb3
   go_wp2_with fail
   refine hK.out _ _ HBc fun hH => ?_
   clear HBc
   refine stP ?_
   refine tk1 24 rfl fun K hK => ?_
   go_simp
   refine (H46.out _ hH Bs3 HSQ3.out 0).mono ?_; rintro r w4 ⟨rfl, hb4⟩
   have HBc := za_ hH hb4
   clear hb4
   go_wp2_with fail
   refine hK.out _ _ HBc fun hH => ?_
   clear HBc
   refine stP ?_
   refine tkp 25 (.bool false) rfl (.inl ⟨by rfl, ?_⟩) ?_
   ·exact Xb17
   refine tkp 26 (.bool false) rfl (.inl ⟨by rfl, ?_⟩) ?_
   ·exact Xb17
   refine adn ?_
   skip
   have HB6 := hid (za_ HBW.out hH)
   clear hH c7 H47 H46 HQ HSQ1 HSQ3
   go_wp2_with fail
   go_loopw [8] (fun i wq => ∃ v : Int, -1 <= v /\ v <= jx + 1 /\ i = .int .i64 v /\ Hid (Below w.heap.size w wq)) (fun i _ => (jx + 1 - intOf i).toNat)
   case atStart => exact ⟨-1, by omega, by omega, rfl, HB6⟩
   case round =>
    obtain ⟨v, hv1, hv2, rfl, HBQ⟩ := hrel
    obtain ⟨j0, j1⟩ := HJ.out _ HBQ.out
    have w8 : IntKind.i64.wrap (v + 1) = v + 1 := by rw [IntKind.wrap_i64] <;> omega
    by_cases hle : v <= jx
    ·go_wp2_with fail
     refine (HIX.out _ HBQ.out v).mono ?_; rintro r w5 ⟨ea, ec, E, rfl, hb5, hE1, hE2, hE3, hE4⟩
     obtain ⟨en, hen⟩ := gtx (E.length)
     rw [hen] at hE2 hE3 ⊢
     have HB5 := hid (za_ HBQ.out hb5)
     have H46 := hid (fun X (b : Below w5.heap.size w5 X) Bs (sq : SqAt okI X Bs (idxT m (k : Int) v)) (mo : Int) => (qQ_ okI (fun p h => okI_pr h) X Bs _ ea E en ec hen hE2 hE3 hE1 (hE4 X b) mo sq : Calls prog 46 #[.func (.func 106) #[] #[.pointer (some ⟨Bs, 0, none⟩)], .slice ea en ec, .int .i64 mo] X fun r w' => r = .returned (.bool true) /\ Below X.heap.size X w'))
     clear hb5 hE1 hE2 hE3 hE4 hen j0 j1
     go_wp2_with fail
     refine (HI49.out _ HB5.out v).mono ?_; rintro r w6 ⟨Bs1, rfl, hb6, hsq1⟩
     have HB6 := hid (And.intro hb6 hsq1)
     clear hb6 hsq1
     go_wp2_with fail
     refine (H46.out _ HB6.out.1 Bs1 HB6.out.2 lv).mono ?_; rintro r w7 ⟨rfl, hb7⟩
     have HB7 := hid (za_ HB6.out.1 hb7)
     clear hb7
     go_wp2_with fail
     refine (HI49.out _ (za_ HB5.out HB7.out) v).mono ?_; rintro r w8' ⟨Bs2, rfl, hb8, hsq2⟩
     have HB8 := hid (And.intro (za_ HB7.out hb8) hsq2)
     clear hb8 hsq2
     go_wp2_with fail
     refine (H46.out _ HB8.out.1 Bs2 HB8.out.2 0).mono ?_; rintro r w9 ⟨rfl, hb9⟩
     have HB9 := hid (za_ HB5.out (za_ HB8.out.1 hb9))
     clear hb9
     go_wp2_with fail
     go_roundw
     case rel => exact ⟨v + 1, by omega, by omega, by go_num, HB9⟩
     case measure => simp [intOf]; omega
    ·go_wp2_with fail
     go_roundw
     case rel => exact ⟨k + 1, by omega, by go_num, HBQ⟩
     case measure => simp [intOf]; omega
  ·have d1 : ¬ (k : Int) < (fn : Int) := by omega
   have hf1 : tabT m (-1) = [] := by unfold tabT; rw [if_neg Xt0]
   have hf2 : tabT m (fn : Int) = [] := by unfold tabT; rw [if_neg (by have := HV.out.2.2.2.1; have := HFN.out; omega)]
   have hf3 : idxT m (-1) 0 = [] := by unfold idxT; rw [if_neg Xt0]
   have H47 := hid (fun X (b : Below wr.heap.size wr X) (t : Int) => table_sq (HM.out.below (za_ HBW.out b)) (HSB.out X (za_ HBW.out b)) t Xt30)
   have H49 := hid (fun X (b : Below wr.heap.size wr X) => index_sq (HM.out.below (za_ HBW.out b)) (HSB.out X (za_ HBW.out b)) (-1) 0 Xt30)
   have HE := hid (And.intro hf1 (And.intro hf2 hf3))
   clear hf1 hf2 hf3
   go_wp2_with fail
   refine (H47.out _ (Below.refl _ _) (-1)).mono ?_; rintro r w1 ⟨Bs1, rfl, hb1, hsq1⟩
   rw [HE.out.1] at hsq1
   have HB1 := hid (And.intro hb1 hsq1)
   clear hb1 hsq1
   go_wp2_with fail
   refine (jO_ okK (fun p h => okK_pr h) _ Bs1 0 HB1.out.2).mono ?_; rintro r w2 ⟨rfl, hb2⟩
   have HB2 := hid (za_ HB1.out.1 hb2)
   have c7 := HM7.out _ (za_ HBW.out HB2.out)
   clear hb2
   go_wp2_with fail
   refine (H47.out _ HB2.out (fn : Int)).mono ?_; rintro r w3 ⟨Bs3, rfl, hb3, hsq3⟩
   rw [HE.out.2.1] at hsq3
   have HB3 := hid (And.intro (za_ HB2.out hb3) hsq3)
   clear hb3 hsq3 c7
   go_wp2_with fail
   refine (jO_ okK (fun p h => okK_pr h) _ Bs3 0 HB3.out.2).mono ?_; rintro r w4 ⟨rfl, hb4⟩
   have HB4 := hid (za_ HB3.out.1 hb4)
   clear hb4
   go_wp2_with fail
   refine (H49.out _ HB4.out).mono ?_; rintro r w5 ⟨Bs5, rfl, hb5, hsq5⟩
   rw [HE.out.2.2] at hsq5
   have HB5 := hid (And.intro (za_ HB4.out hb5) hsq5)
   clear hb5 hsq5
   go_wp2_with fail
   refine (jO_ okI (fun p h => okI_pr h) _ Bs5 0 HB5.out.2).mono ?_; rintro r w6 ⟨rfl, hb6⟩
   have HB6 := hid (za_ HBW.out (za_ HB5.out.1 hb6))
   clear hb6
   go_wp2_with fail
   go_ret
   exact ⟨rfl, HB6.out⟩
def OpSm (o : zj_) : Prop := o.kn <= 9000 /\ o.tn <= 9000 /\ o.rn <= 9000 /\ ∀ p ∈ o.R, p.bs.length <= 9000
theorem szGo_mem : ∀ (R : List P1) (s : Nat), Qg_ R s <= 9000 -> ∀ p ∈ R, p.bs.length <= 9000
 | [], s, _, p, hp => by cases hp
 | q :: r, s, h, p, hp => by
  unfold Qg_ at h
  split at h
  ·have h1 := szGo_ge r (s + min q.bs.length 1048576)
   rcases List.mem_cons.1 hp with e | hp
   ·subst e; omega
   ·exact szGo_mem r _ h p hp
  ·omega
theorem szF_mem {R : List P1} (h : szF R <= 9000) : ∀ p ∈ R, p.bs.length <= 9000 := szGo_mem R _ h
def MuOS (L : List zj_) (r : Ending) : Prop := ∃ b, r = .returned (.bool b) /\ (b = false -> L.length <= 9000 /\ ∀ o ∈ L, OpSm o)
theorem QC_ (a : Option Addr) (L : List zj_) (n cap : Nat) (hL : L.length = n) (hn : n <= 140737488355328) (hB : ∀ o ∈ L, o.rn <= 140737488355328) (w : World) (hA : OpsR w a L) :
  Calls prog 74 #[.slice a n cap, .int .i64 9000] w fun r w' => MuOS L r /\ Below w.heap.size w w' := by
 have HA := hid (fun W (b : Below w.heap.size w W) => hA.below b)
 have HL := hid hL
 have HBD := hid hB
 have hni : (n : Int) <= 140737488355328 := by omega
 clear hA hL hB
 go_enter func74, ntmps74
 go_wp2_with fail
 go_loopw [5, 6] (fun x i wr => ∃ k s : Nat, k <= n /\ i = .int .i64 (k : Int) /\ x = .int .i64 (s : Int) /\ k <= s /\ s <= 281474976710656 /\ Hid (s <= 9000 -> ∀ q, q < k -> ∀ o, L[q]? = some o -> OpSm o) /\ Hid (Below w.heap.size w wr)) (fun _ i _ => n - (intOf i).toNat)
 case atStart => exact ⟨0, 0, by omega, rfl, rfl, by omega, by omega, hid (fun _ q hq => absurd hq Xt0), hid (Below.refl _ _)⟩
 case round =>
  obtain ⟨k, s, hk, rfl, rfl, hks, hs2, HP, BB⟩ := hrel
  have hsb : (s : Int) <= 281474976710656 := by omega
  by_cases hlt : k < n
  ·have hkl : (k : Int) < (n : Int) := by omega
   by_cases hs : s <= 9000
   ·have hsi : (s : Int) <= 9000 := by omega
    have hki : (k : Int) <= 9000 := by omega
    obtain ⟨o, ho⟩ : ∃ o, L[k]? = some o := ⟨_, List.getElem?_eq_getElem (by rw [HL.out]; exact hlt)⟩
    obtain ⟨b1, o1, ea, ⟨d0, d1, d2, d3, d4, d5, d6⟩, hc⟩ := HA.out _ BB.out k o ho
    subst ea
    have hrn := HBD.out o (List.mem_of_getElem? ho)
    have hg := szF_ge o.R
    have hle := szF_le o.R
    rw [hc.rl] at hg hle
    have HSZ := hid (fun m => (sizef_law o.ra o.R o.rn o.rc hc.rl (wr.drewN m) (hc.below (zp_ (Below.refl _ _) m)).rs))
    obtain ⟨z, hz⟩ := gtx (szF o.R)
    rw [hz] at hg hle HSZ
    have HZF := hid (show z <= 9000 -> ∀ p ∈ o.R, p.bs.length <= 9000 from fun h => szF_mem (by rw [hz]; exact h))
    have HO := hid ho
    have hz0 : (0 : Int) <= (z : Int) := by omega
    have hz1 : (z : Int) <= 140737490452480 := by omega
    clear ho hc hz
    obtain ⟨km, hkm⟩ : ∃ km : Nat, km = min o.kn 9001 := ⟨_, rfl⟩
    obtain ⟨tm, htm⟩ : ∃ tm : Nat, tm = min o.tn 9001 := ⟨_, rfl⟩
    have HST := hid (show s + 1 + km + tm + z <= 9000 -> ∀ q, q < k + 1 -> ∀ o, L[q]? = some o -> OpSm o from fun h q hq p hp => by
     by_cases e : q = k
     ·subst e; rw [HO.out] at hp; cases hp; exact ⟨by omega, by omega, by omega, HZF.out Xt0⟩
     ·exact HP.out Xt0 q Xt0 p hp)
    have w1 : IntKind.i64.wrap ((s : Int) + 1) = (s : Int) + 1 := IntWalk.i64_in _ Xt0
    have w2 : IntKind.i64.wrap ((9000 : Int) + 1) = 9001 := by decide
    have w3 : IntKind.i64.wrap ((s : Int) + 1 + (km : Int)) = (s : Int) + 1 + (km : Int) := IntWalk.i64_in _ Xt0
    have w4 : IntKind.i64.wrap ((s : Int) + 1 + (km : Int) + (tm : Int)) = (s : Int) + 1 + (km : Int) + (tm : Int) := IntWalk.i64_in _ Xt0
    have w5 : IntKind.i64.wrap ((s : Int) + 1 + (km : Int) + (tm : Int) + (z : Int)) = (s : Int) + 1 + (km : Int) + (tm : Int) + (z : Int) := IntWalk.i64_in _ Xt0
    have hfin : s + 1 + km + tm + z <= 281474976710656 := by omega
    have m1 : min (o.kn : Int) 9001 = (km : Int) := by omega
    have m2 : min (o.tn : Int) 9001 = (tm : Int) := by omega
    have hkz : k + 1 <= s + 1 + km + tm + z := by omega
    have hcast : ((s : Int) + 1 + (km : Int) + (tm : Int) + (z : Int)) = ((s + 1 + km + tm + z : Nat) : Int) := by omega
    have HC := hid hcast
    have HKM := hid hkm
    have HTM := hid htm
    clear hkm htm hcast
    go_wp2_with fail
    go_quiet ((go_at_call 50; exact Calls.quiet_of_same (HSZ.out _)))
    go_wp2_with fail
    go_roundw
    case rel => exact ⟨k + 1, s + 1 + km + tm + z, by omega, by go_num, by have h1 := HKM.out; have h2 := HTM.out; rw [HC.out], hkz, hfin, HST, hid (zp_ BB.out _)⟩
    case measure => simp [intOf]; omega
   ·have hsi : ¬ (s : Int) <= 9000 := by omega
    have hsj : (9000 : Int) < (s : Int) := by omega
    exact Xb50
  ·have hkl : ¬ (k : Int) < (n : Int) := by omega
   by_cases hs : s <= 9000
   ·have hsi : ¬ (9000 : Int) < (s : Int) := by omega
    have HR := hid (show L.length <= 9000 /\ ∀ o ∈ L, OpSm o from ⟨by rw [HL.out]; omega, fun o ho => by
     obtain ⟨q, hq⟩ := List.mem_iff_getElem?.1 ho
     exact HP.out hs q Xt60 o hq⟩)
    exact Xb116
   ·have hsi : (9000 : Int) < (s : Int) := by omega
    exact Xb50
def MuTS (L : List z0_) (r : Ending) : Prop := ∃ b, r = .returned (.bool b) /\ (b = false -> L.length <= 9000 /\ ∀ x ∈ L, x.ops.length <= 9000 /\ ∀ o ∈ x.ops, OpSm o)
theorem much9_lawS (a : Option Addr) (L : List z0_) (n cap : Nat) (hL : L.length = n) (hn : n <= 140737488355328) (hB : ∀ x ∈ L, TxG x) (w : World) (hA : TxsR w a L) :
  Calls prog 30 #[.slice a n cap, .int .i64 9000] w fun r w' => MuTS L r /\ Below w.heap.size w w' := by
 have HA := hid (fun W (b : Below w.heap.size w W) => hA.below b)
 have HL := hid hL
 have HBD := hid hB
 have hni : (n : Int) <= 140737488355328 := by omega
 clear hA hL hB
 go_enter func30, ntmps30
 go_wp2_with fail
 go_loopw [5, 6] (fun x i wr => ∃ k s : Nat, k <= n /\ i = .int .i64 (k : Int) /\ x = .int .i64 (s : Int) /\ k <= s /\ s <= 20000 /\ Hid (s <= 9000 -> ∀ q, q < k -> ∀ x, L[q]? = some x -> x.ops.length <= 9000 /\ ∀ o ∈ x.ops, OpSm o) /\ Hid (Below w.heap.size w wr)) (fun _ i _ => n - (intOf i).toNat)
 case atStart => exact ⟨0, 0, by omega, rfl, rfl, by omega, by omega, hid (fun _ q hq => absurd hq Xt0), hid (Below.refl _ _)⟩
 case round =>
  obtain ⟨k, s, hk, rfl, rfl, hks, hs2, HP, BB⟩ := hrel
  have hsb : (s : Int) <= 20000 := by omega
  by_cases hlt : k < n
  ·have hkl : (k : Int) < (n : Int) := by omega
   by_cases hs : s <= 9000
   ·have hsi : (s : Int) <= 9000 := by omega
    have hki : (k : Int) <= 9000 := by omega
    obtain ⟨x, ho⟩ : ∃ o, L[k]? = some o := ⟨_, List.getElem?_eq_getElem (by rw [HL.out]; exact hlt)⟩
    obtain ⟨b1, o1, ea, ⟨d0, d1, d2⟩, hc⟩ := HA.out _ BB.out k x ho
    subst ea
    obtain ⟨hx1, hx2⟩ := HBD.out x (List.mem_of_getElem? ho)
    have HM := hid (QC_ x.oa x.ops x.on x.oc hc.ol hx1 hx2 wr hc.os)
    have HXL := hid hc.ol
    have HO := hid ho
    have hx1i : (x.on : Int) <= 140737488355328 := by omega
    have HD0 := hid (fun W (b : Below wr.heap.size wr W) => tcb b d0)
    clear ho hc hx2
    go_wp2_with fail
    refine HM.out.mono ?_; rintro r w5 ⟨⟨b, rfl, hb⟩, B5⟩
    have H5 := hid (za_ BB.out B5)
    have HBB := hid hb
    have e0 := HD0.out _ B5
    clear hb B5 d0 d1 d2
    cases b
    ·obtain ⟨hl9, ho9⟩ := HBB.out rfl
     have hon9 : x.on <= 9000 := by have := HXL.out; omega
     have hon9i : (x.on : Int) <= 9000 := by omega
     have HST := hid (show s + 1 + x.on <= 9000 -> ∀ q, q < k + 1 -> ∀ x, L[q]? = some x -> x.ops.length <= 9000 /\ ∀ o ∈ x.ops, OpSm o from fun h q hq p hp => by
      by_cases e : q = k
      ·subst e; rw [HO.out] at hp; cases hp; exact ⟨hl9, ho9⟩
      ·exact HP.out Xt0 q Xt0 p hp)
     clear hl9 ho9
     go_wp2_with fail
     go_roundw
     case rel => exact ⟨k + 1, s + 1 + x.on, by omega, by go_num, by go_num, by omega, by omega, HST, H5⟩
     case measure => simp [intOf]; omega
    ·go_wp2_with fail
     try rw [Exit.noGoto_ret]
     go_ret
     exact ⟨⟨true, rfl, fun h => by cases h⟩, H5.out⟩
   ·have hsi : ¬ (s : Int) <= 9000 := by omega
    have hsj : (9000 : Int) < (s : Int) := by omega
    exact Xb50
  ·have hkl : ¬ (k : Int) < (n : Int) := by omega
   by_cases hs : s <= 9000
   ·have hsi : ¬ (9000 : Int) < (s : Int) := by omega
    have HR := hid (show L.length <= 9000 /\ ∀ x ∈ L, x.ops.length <= 9000 /\ ∀ o ∈ x.ops, OpSm o from ⟨by rw [HL.out]; omega, fun o ho => by
     obtain ⟨q, hq⟩ := List.mem_iff_getElem?.1 ho
     exact HP.out hs q Xt60 o hq⟩)
    exact Xb116
   ·have hsi : (9000 : Int) < (s : Int) := by omega
    exact Xb50
theorem much8_lawS (j : Job) (a : Option Addr) (L : List z0_) (n c : Nat) (hL : L.length = n) (hn : n <= 140737488355328) (hB : ∀ x ∈ L, TxG x) (w : World) (hA : TxsR w a L) :
  Calls prog 8 #[.agg #[.int .i64 j.w, .int .i64 j.l, .int .i64 j.d, .int .i64 j.c, .int .i64 j.k, .int .i64 j.e, .slice j.a j.n j.cap], .slice a n c] w fun r w' => (∃ b, r = .returned (.bool b) /\ (b = false -> j.n <= 2000 /\ L.length <= 9000 /\ ∀ x ∈ L, x.ops.length <= 9000 /\ ∀ o ∈ x.ops, OpSm o)) /\ Below w.heap.size w w' := by
 have HK := hid (fun X (b : Below w.heap.size w X) => much9_lawS a L n c hL hn hB X (hA.below b))
 obtain ⟨w1, hw1⟩ := gty (w.alloc (.cells #[.int .i64 j.w, .int .i64 j.l, .int .i64 j.d, .int .i64 j.c, .int .i64 j.k, .int .i64 j.e, .slice j.a j.n j.cap] 24))
 have hb1 : Below w.heap.size w w1 := by rw [hw1]; exact bl1 _ _
 have hx1 : zg_ w1 w.heap.size #[.int .i64 j.w, .int .i64 j.l, .int .i64 j.d, .int .i64 j.c, .int .i64 j.k, .int .i64 j.e, .slice j.a j.n j.cap] 24 := by rw [hw1]; exact zg_.new _ _ _
 have c6 := hx1.cell 6
 simp only [gtA, gtB, gtC] at c6
 have HB1 := hid hb1
 clear hL hn hB hA hb1 hx1
 go_enter func8, ntmps8
 go_upto_region 1 with (fail)
 rw [← hw1]
 clear hw1
 by_cases h2 : j.n <= 2000
 ·have d : (j.n : Int) <= 2000 := by omega
  have d' : ¬ (2000 : Int) < (j.n : Int) := by omega
  go_wp2_with fail
  refine (HK.out w1 HB1.out).mono ?_; rintro r w2 ⟨⟨b, rfl, hb⟩, hb2⟩
  have HE := hid (And.intro hb (za_ HB1.out hb2))
  clear hb hb2
  go_wp2_with fail
  go_ret
  exact ⟨⟨b, rfl, fun e => ⟨h2, HE.out.1 e⟩⟩, HE.out.2⟩
 ·have d : ¬ (j.n : Int) <= 2000 := by omega
  have d' : (2000 : Int) < (j.n : Int) := by omega
  go_wp2_with fail
  go_ret
  exact ⟨rfl, HB1.out⟩
structure TwoM (lo : Nat) (W : World) (m0 m : Md) (p0 : Nat) (f : Rf) (S : Nat -> Prop) (N : Nat) : Prop where
 hm : MdR S W m
 hf : RfR S W f
 hs : ∀ k, S k -> k < W.heap.size
 ge : ∀ k, S k -> lo <= k
 lw : lo <= W.heap.size
 ms : zG_ m0 m
 fp : f.p = p0
 je : JEq f.j m.j
 P : f.P = m.P
 lm : ∀ z ∈ m.tabs, z.2.length <= N
 lf : ∀ z ∈ f.Ts, z.P.length <= N
theorem TwoM.below {lo : Nat} {W W' : World} {m0 m : Md} {p0 : Nat} {f : Rf} {S : Nat -> Prop} {N : Nat} (h : TwoM lo W m0 m p0 f S N) (b : Below W.heap.size W W') : TwoM lo W' m0 m p0 f S N :=
 ⟨h.hm.below b, h.hf.below b, fun k hk => Nat.lt_of_lt_of_le (h.hs k hk) b.size, h.ge, Nat.le_trans h.lw b.size, h.ms, h.fp, h.je, h.P, h.lm, h.lf⟩
theorem TwoM.more {lo : Nat} {W : World} {m0 m : Md} {p0 : Nat} {f : Rf} {S : Nat -> Prop} {N M : Nat} (h : TwoM lo W m0 m p0 f S N) (hN : N <= M) : TwoM lo W m0 m p0 f S M :=
 ⟨h.hm, h.hf, h.hs, h.ge, h.lw, h.ms, h.fp, h.je, h.P, fun z hz => Nat.le_trans (h.lm z hz) hN, fun z hz => Nat.le_trans (h.lf z hz) hN⟩
structure TxB (x : z0_) : Prop where
 on : x.on <= 9000
 ops : ∀ o ∈ x.ops, OpSm o
def DoT (lo : Nat) (w : World) (m0 m : Md) (p0 : Nat) (f : Rf) (S : Nat -> Prop) (N : Nat) (r : Ending) (w' : World) : Prop :=
 r = .returned (.bool true) /\ ∃ (m' : Md) (f' : Rf) (S' : Nat -> Prop), TwoM lo w' m0 m' p0 f' S' (N + 16) /\ Off (DoW m f) w w' /\ (∀ k, S' k -> S k ∨ w.heap.size <= k) /\ (∀ k, S k -> S' k)
theorem two_do {lo : Nat} {w : World} {m0 m : Md} {p0 : Nat} {f : Rf} {S : Nat -> Prop} {N : Nat} (h : TwoM lo w m0 m p0 f S N) (hN : N <= 200000) (x : z0_) (hb : TxB x) (hx : zs_ S w fun W => zR_ W x) :
  Calls prog 13 #[.pointer (some ⟨m0.p, 0, none⟩), .pointer (some ⟨p0, 0, none⟩), .agg #[.slice x.oa x.on x.oc, .bool x.sn, .bool x.ab]] w (DoT lo w m0 m p0 f S N) := by
 have key := do13_law h.hm h.hf h.hs h.je h.P x hx hb.on hb.ops (fun z hz => Nat.le_trans (h.lm z hz) hN) (fun z hz => Nat.le_trans (h.lf z hz) hN)
 rw [h.ms.p, h.fp] at key
 refine key.mono ?_
 rintro r w' ⟨rfl, S', m', g, h1, h2, h3, ho, hm, hg, hms, hgp, hgj, hP, hl1, hl2⟩
 refine ⟨rfl, m', g, S', ⟨hm, hg, h2, fun k hk => (h1 k hk).elim (h.ge k) (Nat.le_trans h.lw), Nat.le_trans h.lw ho.size, h.ms.trans hms, hgp.trans h.fp, ?_, hP.symm, hl1 N h.lm, hl2 N h.lf⟩, ho, h1, h3⟩
 rw [hgj, hms.j]
 exact h.je
theorem two_stands {lo : Nat} {w : World} {m0 m : Md} {p0 : Nat} {f : Rf} {S : Nat -> Prop} {N : Nat} (h : TwoM lo w m0 m p0 f S N) (hN : N <= 200000) (lv : Int) :
  Calls prog 14 #[.pointer (some ⟨m0.p, 0, none⟩), .pointer (some ⟨p0, 0, none⟩), .int .i64 lv] w fun r w' => r = .returned (.bool true) /\ Below w.heap.size w w' := by
 have key := stands_law h.hm h.hf h.hs h.je h.P (fun z hz => Nat.le_trans (h.lm z hz) hN) (fun z hz => Nat.le_trans (h.lf z hz) hN) lv
 rw [h.ms.p, h.fp] at key
 exact key
theorem two_new {T S : Nat -> Prop} {w1 w w' : World} {j : Job} {m : Md} {f : Rf} (lo : Nat) (hlo : lo <= w1.heap.size) (hw1 : w1.heap.size <= w.heap.size) (hm : MdR S w m) (hS : ∀ k, S k -> w1.heap.size <= k /\ k < w.heap.size) (hmj : ∃ a c, m.j = { j with a := a, cap := c }) (hem : ∀ z ∈ m.tabs, z.2 = [])
  (hb : Below w.heap.size w w') (hp : w.heap.size <= f.p) (hb1 : w.heap.size <= f.b1) (hfj : ∃ a c, f.j = { j with a := a, cap := c }) (hTs : f.Ts = List.replicate j.n ⟨none, 0, []⟩) (hf : ∀ S : Nat -> Prop, (∀ k, S k -> k < w.heap.size ∨ k = f.p ∨ k = f.b1) -> S f.p -> S f.b1 -> RfR S w' f) :
  TwoM lo w' m m f.p f (fun k => S k ∨ k = f.p ∨ k = f.b1) 0 := by
 have hR : RfR (fun k => S k ∨ k = f.p ∨ k = f.b1) w' f := hf _ (fun k hk => hk.imp (fun h => (hS k h).2) id) (.inr (.inl rfl)) (.inr (.inr rfl))
 obtain ⟨a1, c1, e1⟩ := hmj
 obtain ⟨a2, c2, e2⟩ := hfj
 refine ⟨?_, hR, fun k hk => ?_, fun k hk => ?_, by have := hb.size; omega, zG_.rfl' m, rfl, ?_, ?_, fun z hz => by rw [hem z hz]; exact Nat.le_refl _, fun z hz => ?_⟩
 ·exact hm.off (T := fun _ => False) (Off.of hb) (fun _ h => h.elim) (fun _ _ h => h) (fun k hk => by
   rcases hk with h | h | h
   ·exact .inl h
   ·exact .inr (h ▸ hp)
   ·exact .inr (h ▸ hb1)) (fun z hz => .inl (hm.hS z hz))
 ·rcases hk with h | h | h
  ·have := (hS k h).2; have := hb.size; omega
  ·rw [h]; exact hR.box.lt
  ·rw [h]; obtain ⟨cs, hc⟩ := hR.tb; exact hc.lt
 ·rcases hk with h | h | h
  ·have := (hS k h).1; omega
  ·omega
  ·omega
 ·rw [e1, e2]
  exact (JEq.of j a2 c2).trans (JEq.of j a1 c1).symm
 ·have hl : m.tabs.length = j.n := by rw [hm.len, e1]
  have hP : m.P = List.replicate j.n [] := by
   refine List.eq_replicate_iff.2 ⟨by rw [m.P_len, hl], fun t ht => ?_⟩
   unfold Md.P at ht
   obtain ⟨z, hz, rfl⟩ := List.mem_map.1 ht
   rw [hem z hz]; rfl
  rw [hP]
  unfold Rf.P
  rw [hTs, List.map_replicate]
  rfl
 ·rw [hTs] at hz
  rw [(List.mem_replicate.1 hz).2]
  exact Nat.le_refl _
theorem does_law (j : Job) (a : Option Addr) (L : List z0_) (n c : Nat) (hL : L.length = n) (hn : n <= 140737488355328) (hB : ∀ x ∈ L, TxG x) (lv : Int) (w : World) (hjl : Ls .i64 w j.a j.cap j.T) (hjT : j.T.length = j.n) (hA : TxsR w a L) :
  Calls prog 3 #[.agg #[.int .i64 j.w, .int .i64 j.l, .int .i64 j.d, .int .i64 j.c, .int .i64 j.k, .int .i64 j.e, .slice j.a j.n j.cap], .slice a n c, .int .i64 lv] w fun r w' => r = .returned (.bool true) /\ Below w.heap.size w w' := by
 have HL := hid hL
 have HA := hid (fun X (b : Below w.heap.size w X) => hA.below b)
 have HJL := hid (And.intro hjl hjT)
 have HMU := hid (fun X (b : Below w.heap.size w X) => much8_lawS j a L n c hL hn hB X (hA.below b))
 have hnn : (n : Int) <= 140737488355328 := by omega
 obtain ⟨w1, hw1⟩ := gty (w.alloc (.cells #[.int .i64 j.w, .int .i64 j.l, .int .i64 j.d, .int .i64 j.c, .int .i64 j.k, .int .i64 j.e, .slice j.a j.n j.cap] 24))
 have hb1 : Below w.heap.size w w1 := by rw [hw1]; exact bl1 _ _
 have hx1 : zg_ w1 w.heap.size #[.int .i64 j.w, .int .i64 j.l, .int .i64 j.d, .int .i64 j.c, .int .i64 j.k, .int .i64 j.e, .slice j.a j.n j.cap] 24 := by rw [hw1]; exact zg_.new _ _ _
 have c0 := (hx1).cell 0
 have c1 := (hx1).cell 1
 have c2 := (hx1).cell 2
 have c3 := (hx1).cell 3
 have c4 := (hx1).cell 4
 have c5 := (hx1).cell 5
 have c6 := (hx1).cell 6
 simp only [gtA, gtB, gtC] at c0 c1 c2 c3 c4 c5 c6
 have HB1 := hid hb1
 have HX1 := hid hx1
 have HSZ1 := hid (show w1.heap.size = w.heap.size + 1 by rw [hw1]; simp)
 clear hL hn hB hA hb1 hx1 hjl hjT
 go_enter func3, ntmps3
 go_upto_region 1 with (fail)
 rw [← hw1]
 clear hw1
 go_wp2_with fail
 refine (HMU.out w1 HB1.out).mono ?_; rintro r w2 ⟨⟨b, rfl, hb⟩, hb2⟩
 have HMB := hid hb
 have HB2 := hid (za_ HB1.out hb2)
 have hx2 := HX1.out.below hb2
 have HX2 := hid hx2
 have HSZ2 := hid (Nat.le_trans (Nat.le_of_eq HSZ1.out.symm) hb2.size)
 clear c0 c1 c2 c3 c4 c5 c6 hb hb2
 cases b with
 | true =>
  clear hx2
  go_wp2_with fail
  refine (yT_ _).mono ?_; rintro r w8 ⟨rfl, hb8⟩
  have HB8 := hid (za_ HB2.out hb8)
  exact Xb60
 | false =>
  have c0 := (hx2).cell 0
  have c1 := (hx2).cell 1
  have c2 := (hx2).cell 2
  have c3 := (hx2).cell 3
  have c4 := (hx2).cell 4
  have c5 := (hx2).cell 5
  have c6 := (hx2).cell 6
  simp only [gtA, gtB, gtC] at c0 c1 c2 c3 c4 c5 c6
  obtain ⟨m1, m2, m3⟩ := HMB.out rfl
  have HMM := hid m3
  have HJA := hid (show yb_ w2 j from ⟨HJL.out.1.below HB2.out, HJL.out.2, by omega⟩)
  have HNW := hid (new_law j w2 HJA.out)
  clear hx2 m2 m3
  go_wp2_with fail
  refine HNW.out.mono ?_; clear HNW; rintro r w3 hr
  unfold NewR at hr
  cases hok : okB j with
  | false =>
   rw [hok, if_neg Xt4] at hr
   obtain ⟨rfl, hb3⟩ := hr
   have HB3 := hid (za_ HB2.out hb3)
   have HRN := hid (rnew_law j w3 (HJA.out.below hb3))
   have hx3 := HX2.out.below hb3
   clear hb3 c0 c1 c2 c3 c4 c5 c6
   have c0 := (hx3).cell 0
   have c1 := (hx3).cell 1
   have c2 := (hx3).cell 2
   have c3 := (hx3).cell 3
   have c4 := (hx3).cell 4
   have c5 := (hx3).cell 5
   have c6 := (hx3).cell 6
   simp only [gtA, gtB, gtC] at c0 c1 c2 c3 c4 c5 c6
   clear hx3
   go_wp2_with fail
   refine HRN.out.mono ?_; clear HRN; rintro r w4 hr
   unfold RNewR at hr
   rw [hok, if_neg Xt4] at hr
   obtain ⟨rfl, hb4⟩ := hr
   have HB4 := hid (za_ HB3.out hb4)
   clear hb4 c0 c1 c2 c3 c4 c5 c6
   go_wp2_with fail
   refine (zI_ 2 _).mono ?_; rintro r w0 ⟨rfl, hw0⟩; subst hw0
   go_wp2_with fail
   refine (yT_ _).mono ?_; rintro r w8 ⟨rfl, hb8⟩
   have HB8 := hid (za_ HB4.out hb8)
   exact Xb60
  | true =>
   rw [hok, if_pos rfl] at hr
   obtain ⟨S0, m, rfl, hb3, hmd, hSm, hmj, hem⟩ := hr
   have HB3 := hid (za_ HB2.out hb3)
   have HRN := hid (rnew_law j w3 (HJA.out.below hb3))
   have HM0 := hid (And.intro hmd (And.intro hSm (And.intro hmj (And.intro hem hb3.size))))
   have hx3 := HX2.out.below hb3
   clear hb3 c0 c1 c2 c3 c4 c5 c6 hmd hSm hmj hem
   have c0 := (hx3).cell 0
   have c1 := (hx3).cell 1
   have c2 := (hx3).cell 2
   have c3 := (hx3).cell 3
   have c4 := (hx3).cell 4
   have c5 := (hx3).cell 5
   have c6 := (hx3).cell 6
   simp only [gtA, gtB, gtC] at c0 c1 c2 c3 c4 c5 c6
   clear hx3
   go_wp2_with fail
   refine HRN.out.mono ?_; clear HRN; rintro r w4 hr
   unfold RNewR at hr
   rw [hok, if_pos rfl] at hr
   obtain ⟨f, rfl, hb4, hfp, hfb, hfj, hfT, hfR⟩ := hr
   have HTW := hid (two_new (T := fun _ => False) w.heap.size HB2.out.size HM0.out.2.2.2.2 HM0.out.1 HM0.out.2.1 HM0.out.2.2.1 HM0.out.2.2.2.1 hb4 hfp hfb hfj hfT hfR)
   have HB4 := hid (za_ HB3.out hb4)
   obtain ⟨p0, hp0⟩ := gtx (f.p)
   rw [hp0]
   rw [hp0] at HTW
   clear hb4 hfp hfb hfj hfT hfR c0 c1 c2 c3 c4 c5 c6 hok HM0 hp0
   go_wp2_with fail
   refine (zI_ 0 _).mono ?_; rintro r w0 ⟨rfl, hw0⟩; subst hw0
   go_wp2_with fail
   go_loopw [10] (fun i wr => ∃ (k : Nat) (mc : Md) (fc : Rf) (S : Nat -> Prop), k <= 60 /\ k <= n /\ i = .int .i64 (k : Int) /\ Hid (TwoM w.heap.size wr m mc p0 fc S (16 * k)) /\ Hid (Below w.heap.size w wr)) (fun i _ => n - (intOf i).toNat)
   case atStart => exact ⟨0, m, f, _, by omega, by omega, rfl, HTW, HB4⟩
   case round =>
    obtain ⟨k, mc, fc, S, hk1, hk2, rfl, HT, HBW⟩ := hrel
    by_cases hlt : k < n
    ·have d1 : (k : Int) < (n : Int) := by omega
     by_cases h60 : k < 60
     ·have d2 : (k : Int) < 60 := by omega
      obtain ⟨x, hx⟩ : ∃ x, L[k]? = some x := ⟨_, List.getElem?_eq_getElem (by rw [HL.out]; exact hlt)⟩
      obtain ⟨b9, o9, e9, ⟨q0, q1, q2⟩, ht9⟩ := HA.out wr HBW.out k x hx
      cases e9
      have hxm := HMM.out x (List.mem_of_getElem? hx)
      have HKEY := hid (two_do HT.out Xt0 x ⟨by have := ht9.ol; have := hxm.1; omega, hxm.2⟩ (fun W' o => by obtain ⟨_, _, _, _, ht⟩ := HA.out W' (Off.below HBW.out o HBW.out.size (fun q hq => HT.out.ge q hq)) k x hx; exact ht))
      clear hx hxm ht9
      go_wp2_with fail
      refine HKEY.out.mono ?_; clear HKEY; rintro r w7 ⟨rfl, m7, f7, S7, ht7, ho7, _, _⟩
      have HT7 := hid ht7
      have HB7 := hid (Off.below HBW.out ho7 HBW.out.size (fun q hq => HT.out.ge q (DoW.sub HT.out.hm HT.out.hf q hq)))
      clear ht7 ho7 q0 q1 q2
      go_wp2_with fail
      refine (two_stands HT7.out Xt0 lv).mono ?_; rintro r w9 ⟨rfl, hb9⟩
      have HT9 := hid (HT7.out.below hb9)
      have HB9 := hid (za_ HB7.out hb9)
      clear hb9
      go_wp2_with fail
      go_roundw
      case rel => exact ⟨k + 1, m7, f7, S7, by omega, by omega, by go_num, hid (HT9.out.more Xt0), HB9⟩
      case measure => simp [intOf]; omega
     ·have d2 : ¬ (k : Int) < 60 := by omega
      go_wp2_with fail
      refine (yT_ _).mono ?_; rintro r w8 ⟨rfl, hb8⟩
      have HB8 := hid (za_ HBW.out hb8)
      exact Xb60
    ·have d1 : ¬ (k : Int) < (n : Int) := by omega
     go_wp2_with fail
     refine (yT_ _).mono ?_; rintro r w8 ⟨rfl, hb8⟩
     have HB8 := hid (za_ HBW.out hb8)
     exact Xb60
end
end Go.Proofs.YthmofoldmdafoaaGreat
