/- Part of the proof that ModelDoes holds for every input: tables, under any transactions, answer, write and stand as the document says. Part 18. -/
import Derived.Test.YthmofoldmdafoaaGreatSdq
set_option linter.unusedVariables false
set_option linter.unusedSimpArgs false
set_option maxRecDepth 100000
set_option maxHeartbeats 4000000
namespace Go.Proofs.YthmofoldmdafoaaGreat
open Go.ChangeShapes Go.WideShapes Go.ChangeAt Go.RowKit
open Go.Lib (hid)
open Go.Proofs.Tryz
section
open Go.Maps
theorem Off.trans2 {T R : Nat -> Prop} {W W' W'' : World} (h : Off T W W') (k : Off R W' W'') (hr : ∀ b, R b -> T b ∨ W.heap.size <= b) : Off T W W'' :=
 ⟨k.os.trans h.os, k.tape.trans h.tape, k.output.trans h.output, Nat.le_trans h.size k.size, fun i hi hs => (k.block i (Nat.lt_of_lt_of_le hi h.size) (fun e => (hr i e).elim hs (fun hh => by omega))).trans (h.block i hi hs)⟩
theorem yH_ : ∀ {f : List Int}, Byt f -> Byt (zk_ f)
 | [], _ => fun x hx => by simp [zk_] at hx
 | a :: f, h => by
  have ih := yH_ (f := f) fun x hx => h x (List.mem_cons_of_mem _ hx)
  have ha := h a (List.mem_cons_self ..)
  have e : zk_ (a :: f) = esc a ++ zk_ f := by rw [show a :: f = [a] ++ f from rfl, z8_, xr_]
  rw [e]
  refine Byt.append ?_ ih
  unfold esc
  intro x hx
  split at hx
  ·simp at hx; rcases hx with rfl | rfl <;> omega
  ·simp at hx; subst hx; exact ha
theorem ql_ {f K : List Int} (hf : Byt f) (hK : Byt K) : Byt (zu_ f K) := by
 unfold zu_
 refine (yH_ hf).append (Byt.append (fun x hx => ?_) hK)
 simp at hx
 rcases hx with rfl | rfl <;> omega
theorem entV_byt22 {j : Job} {t : Int} {R : List P1} {K : List Int} (hR : ∀ p ∈ R, Byt p.bs) (hK : Byt K) : ∀ e ∈ (Qh_ j t R K).1, Byt e.2 := fun e he => by
 unfold Qh_ at he
 split at he
 ·unfold Qi_ at he
  obtain ⟨i, _, rfl⟩ := List.mem_map.1 he
  refine ql_ ?_ hK
  rw [List.getD_eq_getElem?_getD]
  cases hg : (R.map P1.bs)[i + 1]? with
  | none => exact fun x hx => by simp at hx
  | some b =>
   obtain ⟨p, hp, rfl⟩ := List.mem_map.1 (List.mem_of_getElem? hg)
   exact hR p hp
 ·cases he
def enC (e : EnV) : List Int × Pr := (e.K, prC e.p)
def ESort : Prop := ∀ (W : World) (base : Nat) (a : Option Addr) (n c : Nat) (E : List EnV), E.length = n -> n <= 2000000 -> W.ownsRow base 149 3 (.slice a n c) n (cellsOf ecl E) -> (∀ e ∈ E, Byt e.K /\ zs_ (fun k => Value.ownBlock (.slice a n c) = some k) W (fun W' => EnL W' e)) ->
 Calls prog 119 #[.slice a n c, .func (.func 120) #[] #[]] W fun r W' => r = .returned (.tuple #[]) /\ ∃ E' : List EnV, E'.Perm E /\ (E'.Pairwise fun a b => ltL b.K a.K = false) /\ W'.ownsRow base 149 3 (.slice a n c) n (cellsOf ecl E') /\ Off (fun k => Value.ownBlock (.slice a n c) = some k) W W'
def EtR (w : World) (T : List (List Int × Pr)) (r : Ending) (w' : World) : Prop := ∃ a c L, r = .returned (.slice a L.length c) /\ Below w.heap.size w w' /\ L.map enC = T /\ L.length <= 2000000 /\ (∀ e ∈ L, Byt e.K /\ zH_ e.p.K /\ rOk (e.p.R.map P1.bs)) /\ ∀ S : Nat -> Prop, (∀ k, S k -> k < w.heap.size) -> zs_ S w' fun W' => EnsR W' a L
theorem lookU_take (j : Job) (t tr : Int) {T : List Pr} {k : Nat} {p : Pr} (h : T[k]? = some p) : qi_ j t tr (T.take (k + 1)) = qi_ j t tr (T.take k) ++ entP j t tr p := by
 unfold qi_
 rw [List.take_add_one, h, List.flatMap_append]
 simp
def entK (V : List (Int × List Int)) (tr : Int) (i : Nat) (p : Pr) : List (List Int × Pr) := ((V.take i).filter fun e => decide (e.1 = tr)).map fun e => (e.2, p)
theorem entK_yes {V : List (Int × List Int)} {tr : Int} {i : Nat} {p : Pr} {e : Int × List Int} (h : V[i]? = some e) (he : e.1 = tr) : entK V tr (i + 1) p = entK V tr i p ++ [(e.2, p)] := by
 unfold entK
 rw [List.take_add_one, h]
 simp [he]
theorem entK_no {V : List (Int × List Int)} {tr : Int} {i : Nat} {p : Pr} {e : Int × List Int} (h : V[i]? = some e) (he : ¬ e.1 = tr) : entK V tr (i + 1) p = entK V tr i p := by
 unfold entK
 rw [List.take_add_one, h]
 simp [he]
theorem entV_len {j : Job} (hj : okB j = true) (hjl : j.T.length = j.n) (t : Int) (R : List P1) (K : List Int) : (Qh_ j t R K).1.length <= 2 := by
 unfold Qh_
 split
 ·rw [yV_]
  by_cases h : t.toNat < j.T.length
  ·have := jb_ hj t.toNat h; omega
  ·rw [List.getD_eq_getElem?_getD, List.getElem?_eq_none Xt0]; simp
 ·simp
theorem qp_ (hsort : ESort) {S : Nat -> Prop} {base : Nat} {w : World} {m : Md} {x : Tl} (h : TlR S base w m x) (t : Nat) (ht : t < m.tabs.length) (tr : Int) (hf : ∀ z ∈ m.tabs, z.2.length <= 300000) :
  Calls prog 86 #[.pointer (some ⟨x.px, 0, none⟩), .int .i64 (t : Int), .int .i64 tr] w (EtR w (yG_ m.j t tr (x.T m t))) := by
 have HH := hid h
 have HT := hid ht
 have HP := hid (qc_ h t ht (fun z hz => by have := hf z hz; omega))
 have HSO := hid hsort
 obtain ⟨c0, _⟩ := h.c
 have HC0 := hid c0
 clear h ht hf hsort c0
 go_enter func86, ntmps86
 go_wp2_with fail
 refine HP.out.mono ?_; rintro r w6 ⟨a6, c6, P, rfl, hb6, hP, hok, hPc, hPn, hPl, hst⟩
 have HB6 := hid hb6
 have HPM := hid hP
 have HPO := hid hok
 have HST := hid hst
 have HPR := hid (hst (fun _ => False) (fun _ h => h.elim)).now
 obtain ⟨n, hn⟩ := gtx (P.length)
 rw [hn] at hPl ⊢
 have HN := hid hn
 have hni : (n : Int) <= 1000000 := by omega
 clear hb6 hP hok hPc hPn hst hn
 go_wp2_with fail
 go_loopw [7, 18] (fun v i wr => ∃ (k : Nat) (E : List EnV), k <= n /\ i = .int .i64 (k : Int) /\ E.length <= 2 * k /\ Hid (wr.ownsRow w6.heap.size 149 3 v E.length (cellsOf ecl E)) /\ Hid (E.map enC = qi_ m.j t tr ((P.map prC).take k)) /\ Hid (∀ e ∈ E, Byt e.K /\ e.p ∈ P) /\ Hid (∀ e ∈ E, ∀ S' : Nat -> Prop, (∀ k, S' k -> k < w.heap.size ∨ v.ownBlock = some k) -> zs_ S' wr fun W' => EnL W' e) /\ Hid (Below w6.heap.size w6 wr)) (fun _ i _ => n - (intOf i).toNat)
 case atStart => exact ⟨0, [], by omega, rfl, Nat.zero_le _, hid (World.ownsRow_nil _ _ _ _), hid rfl, hid (fun e he => by simp at he), hid (fun e he => by simp at he), hid (Below.refl _ _)⟩
 case round =>
  obtain ⟨k, E, hk, rfl, hEl, HOV, HEM, HEB, HES, HBR⟩ := hrel
  obtain ⟨va, vc, hv⟩ := zd_ HOV.out
  subst hv
  by_cases hlt : k < n
  ·have d1 : (k : Int) < (n : Int) := by omega
   obtain ⟨p, hp⟩ : ∃ p, P[k]? = some p := ⟨_, List.getElem?_eq_getElem Xt9⟩
   obtain ⟨b1, o1, ea, p0, p1, hpl, hpr⟩ := (HPR.out.below HBR.out).1 k p hp
   subst ea
   have HPM1 := hid (List.mem_of_getElem? hp)
   have hpo := HPO.out p HPM1.out
   have HOK := hid (And.intro (show p.R.length <= 1000000 by have := hpo.2.2.1; rw [List.length_map] at this; omega) hpo)
   have HLU := hid (lookU_take m.j t tr (T := P.map prC) (k := k) (p := prC p) (by rw [List.getElem?_map, hp]; rfl))
   go_upto_region 5 with (fail)
   have HB5a := hid (bl1 wr (.cells #[.slice p.ka p.K.length p.kc, .slice p.ra p.R.length p.rc] 78))
   have hbx := zg_.new wr #[.slice p.ka p.K.length p.kc, .slice p.ra p.R.length p.rc] 78
   obtain ⟨bx, hbxe⟩ := gtx (wr.heap.size)
   have HSX := hid hbxe
   rw [hbxe] at hbx
   obtain ⟨w5, hw5⟩ := gty (wr.alloc (.cells #[.slice p.ka p.K.length p.kc, .slice p.ra p.R.length p.rc] 78))
   rw [← hw5] at HB5a hbx ⊢
   rw [hbxe]
   have HPL := hid (And.intro (hpl.below HB5a.out) (hpr.below HB5a.out))
   have HBX := hid hbx
   have HBW5 := hid (HB6.out.trans ((za_ HBR.out HB5a.out).mono HB6.out.size))
   have HMD5 := hid (HH.out.below HBW5.out).md
   have HX := hid (fun X (b : Below w5.heap.size w5 X) => (by
    have hm := (HMD5.out.below b).st.now.box
    have hq := HBX.out.below b
    have b2 := HBW5.out.trans (b.mono HBW5.out.size)
    refine ⟨tcb b2 HC0.out, ?_, ?_, ?_, ?_, ?_, ?_, ?_, ?_, ?_⟩
    all_goals first | (rw [hm.cell]; rfl) | (rw [hq.cell]; rfl) : X.cell? ⟨x.px, 0, none⟩ = some (.pointer (some ⟨m.p, 0, none⟩)) /\ X.cell? ⟨m.p, 0, none⟩ = some (.int .i64 m.j.w) /\ X.cell? ⟨m.p, 1, none⟩ = some (.int .i64 m.j.l) /\ X.cell? ⟨m.p, 2, none⟩ = some (.int .i64 m.j.d) /\ X.cell? ⟨m.p, 3, none⟩ = some (.int .i64 m.j.c) /\ X.cell? ⟨m.p, 4, none⟩ = some (.int .i64 m.j.k) /\ X.cell? ⟨m.p, 5, none⟩ = some (.int .i64 m.j.e) /\ X.cell? ⟨m.p, 6, none⟩ = some (.slice m.j.a m.j.n m.j.cap) /\ X.cell? ⟨bx, 0, none⟩ = some (.slice p.ka p.K.length p.kc) /\ X.cell? ⟨bx, 1, none⟩ = some (.slice p.ra p.R.length p.rc)))
   have HP9 := hid hp
   clear hbx hw5 hbxe hp p0 p1 hpl hpr hpo
   refine rgw w5 (Below.refl _ _).drew fun hH => ?_
   refine tkq3 0 1 2 ?_
   refine tkr 3 rfl (fun W hSw => by have q := (HX.out W hSw).1; exact tks) ?_
   refine tkq2 4 5 ?_
   refine tkr 6 rfl Xf24 ?_
   refine tkq2 7 8 ?_
   refine tkr 9 rfl (fun W hSw => by have q := (HX.out W hSw).2.2.2.2.2.2.2.2.1; exact tks) ?_
   refine tkq 10 ?_
   refine tkr 11 rfl (fun W hSw => by have q := (HX.out W hSw).2.2.2.2.2.2.2.2.2; exact tks) ?_
   refine tk1 12 rfl fun K hK => ?_
   go_simp
   refine (QO_ m.j (t : Int) p.ka p.K _ p.kc p.ra p.R _ p.rc rfl rfl HOK.out.1 _ (HMD5.out.below hH).st.now.job (HPL.out.1.below hH) (HPL.out.2.below hH)).mono ?_; rintro r w7 ⟨⟨a7, c7, L7, rfl, hen7, how7, hkeys7⟩, hb7⟩
   have HE7 := hid (And.intro hen7 (And.intro (yD_ how7 hH.size) (fun q hq => yD_ (hkeys7 q hq) hH.size)))
   have HB7 := hid (za_ hH hb7)
   clear hen7 how7 hkeys7 hb7
   go_wp2_with fail
   refine hK.out _ _ HB7.out fun hH => ?_
   refine stP ?_
   refine tkq4 13 14 15 16 ?_
   refine tkq 17 ?_
   refine adn ?_
   skip
   clear hH
   obtain ⟨V, hV⟩ := gtx ((Qh_ m.j (t : Int) p.R p.K).1)
   rw [hV] at HE7 ⊢
   have HVP := hid (show entK V tr V.length (prC p) = entP m.j (t : Int) tr (prC p) by
    unfold entK entP
    rw [List.take_length, ← hV, entV_ext m.j (t : Int) (show p.R.map P1.bs = (ofP (prC p).2).map P1.bs by rw [ofP_bs]; rfl) p.K]
    rfl)
   have hvl : V.length <= 2 := by rw [← hV]; exact entV_len HMD5.out.ok HMD5.out.st.now.job.len _ _ _
   obtain ⟨nv, hnv⟩ := gtx (V.length)
   rw [hnv] at hvl HE7 HVP ⊢
   have HNV := hid hnv
   have hvi : (nv : Int) <= 2 := by omega
   have HL7 := hid (show L7.length = nv by have := congrArg List.length HE7.out.1; rw [hnv] at this; simpa [enS] using this)
   have HBX7 := hid (HBX.out.below HB7.out)
   have HTB := hid (show ¬ Value.ownBlock (.slice va E.length vc) = some bx from fun e => by
    have := (zb_ HOV.out e).2.1
    have := HSX.out
    omega)
   have HW57 := hid (show wr.heap.size < w5.heap.size by have := HBX.out.lt; have := HSX.out; omega)
   have HOV7 := hid (ze_ HOV.out (za_ HB5a.out HB7.out))
   have HES7 := hid (fun e he S' hS' => (HES.out e he S' hS').below (za_ HB5a.out HB7.out))
   have HB67 := hid (HBR.out.trans ((za_ HB5a.out HB7.out).mono HBR.out.size))
   have HWS := hid HB6.out.size
   have HVB := hid (show ∀ e ∈ V, Byt e.2 by rw [← hV]; exact entV_byt22 (xB_ HOK.out.2.2) HOK.out.2.1.1)
   clear hV hnv
   go_wp2_with fail
   go_loopw [7, 40] (fun v i wr2 => ∃ (i2 : Nat) (E2 : List EnV), i2 <= nv /\ i = .int .i64 (i2 : Int) /\ E2.length <= 2 * k + i2 /\ Hid (wr2.ownsRow w6.heap.size 149 3 v E2.length (cellsOf ecl E2)) /\ Hid (E2.map enC = qi_ m.j t tr ((P.map prC).take k) ++ entK V tr i2 (prC p)) /\ Hid (∀ e ∈ E2, Byt e.K /\ e.p ∈ P) /\ Hid (∀ e ∈ E2, ∀ S' : Nat -> Prop, (∀ k, S' k -> k < w.heap.size ∨ v.ownBlock = some k) -> zs_ S' wr2 fun W' => EnL W' e) /\ Hid (Off (fun k => Value.ownBlock (.slice va E.length vc) = some k) w7 wr2) /\ Hid (∀ b, v.ownBlock = some b -> Value.ownBlock (.slice va E.length vc) = some b ∨ w7.heap.size <= b) /\ Hid (Below w6.heap.size w6 wr2)) (fun _ i _ => nv - (intOf i).toNat)
   case atStart => exact ⟨0, E, by omega, rfl, by omega, HOV7, hid (by rw [HEM.out]; simp [entK]), HEB, HES7, hid (Off.refl _ _), hid (fun b hb => .inl hb), HB67⟩
   case round =>
    obtain ⟨i2, E2, hi2, rfl, hE2l, HOV2, HEM2, HEB2, HES2, HOF2, HVB2, HBR2⟩ := hrel
    obtain ⟨va2, vc2, hv2⟩ := zd_ HOV2.out
    subst hv2
    by_cases hlt2 : i2 < nv
    ·have e1 : (i2 : Int) < (nv : Int) := by omega
     obtain ⟨q, hq⟩ : ∃ q, L7[i2]? = some q := ⟨_, List.getElem?_eq_getElem (by rw [HL7.out]; exact hlt2)⟩
     have hlow : ∀ k, (fun k => Value.ownBlock (.slice va E.length vc) = some k) k -> k < w5.heap.size := fun k hk => by
      have := (zb_ HOV.out hk).2.1; have := HW57.out; omega
     have HLOW := hid hlow
     have hrow := zl_ HE7.out.2.1 HOF2.out hlow
     have hqm := List.mem_of_getElem? hq
     have hqk := HE7.out.2.2 q hqm
     obtain ⟨a8, c8, e8, henr⟩ := own_enr hrow HL7.out (fun y hy => by
      have := zl_ (HE7.out.2.2 y hy) HOF2.out hlow
      exact yp_ this rfl)
     cases e8
     obtain ⟨b8, o8, ea8, q0, q1, _⟩ := henr i2 q hq
     subst ea8
     have hbx2 := HOF2.out.box HBX7.out HTB.out
     have hbx3 := hbx2.alloc (.cells #[.int .i64 q.1, .slice q.2.ad q.2.bs.length q.2.cap] 192)
     have y0 := hbx3.cell 0
     have y1 := hbx3.cell 1
     simp only [gtA, gtB, gtC] at y0 y1
     have HVQ := hid (show V[i2]? = some (q.1, q.2.bs) by
      have := HE7.out.1
      rw [← this]; unfold enS; rw [List.getElem?_map, hq]; rfl)
     have HQK := hid hqk
     have HQB := hid (show Byt q.2.bs from HVB.out _ (List.mem_of_getElem? HVQ.out))
     unfold P1.v at q1
     clear hq hrow hqk henr hqm hbx2 hbx3 hlow
     by_cases htr : q.1 = tr
     ·have hte : (q.1 == tr) = true := by simpa using htr
      have HEK := hid (entK_yes (p := prC p) HVQ.out htr)
      clear htr
      have hap : E2.length + 1 <= 2097152 := by omega
      have HBE := hid (za_ (bl1 wr (.cells #[.int .i64 q.1, .slice q.2.ad q.2.bs.length q.2.cap] 192)) (bl1 (wr.alloc (.cells #[.int .i64 q.1, .slice q.2.ad q.2.bs.length q.2.cap] 192)) (.cells #[.slice q.2.ad q.2.bs.length q.2.cap, .slice p.ka p.K.length p.kc, .slice p.ra p.R.length p.rc] 149)))
      have HOE := hid (((HOV2.out.alloc (.cells #[.int .i64 q.1, .slice q.2.ad q.2.bs.length q.2.cap] 192)).alloc (.cells #[.slice q.2.ad q.2.bs.length q.2.cap, .slice p.ka p.K.length p.kc, .slice p.ra p.R.length p.rc] 149)))
      have HCE := hid (zx_ (wr.alloc (.cells #[.int .i64 q.1, .slice q.2.ad q.2.bs.length q.2.cap] 192)) #[.slice q.2.ad q.2.bs.length q.2.cap, .slice p.ka p.K.length p.kc, .slice p.ra p.R.length p.rc] 149 (ecl ⟨q.2.ad, q.2.cap, q.2.bs, p⟩) rfl)
      rw [World.size_alloc] at HCE
      have HBSZ := hid (show w6.heap.size <= ((wr.alloc (.cells #[.int .i64 q.1, .slice q.2.ad q.2.bs.length q.2.cap] 192)).alloc (.cells #[.slice q.2.ad q.2.bs.length q.2.cap, .slice p.ka p.K.length p.kc, .slice p.ra p.R.length p.rc] 149)).heap.size from Nat.le_trans HBR2.out.size HBE.out.size)
      go_wp2_with (at_builtin; refine zv_ ae_entry rfl _ _ rfl w6.heap.size (.slice va2 E2.length vc2) E2.length (cellsOf ecl E2) rfl HOE.out ⟨wr.heap.size + 1, 0, none⟩ 1 1 (ecl ⟨q.2.ad, q.2.cap, q.2.bs, p⟩) rfl rfl HCE.out (ecl_one _) hap HBSZ.out ?_; intro v8 w8 hown8 hgrow8 hat8; have HO8 := hid hown8; have HG8 := hid hgrow8; have HAT8 := hid hat8; clear hown8 hgrow8 hat8)
      go_roundw
      case rel =>
       have o98 : Off (fun k => Value.ownBlock (.slice va2 E2.length vc2) = some k) wr w8 := (Off.of HBE.out).trans (Off.of_row HG8.out)
       have hnew : ∀ b, v8.ownBlock = some b -> Value.ownBlock (.slice va2 E2.length vc2) = some b ∨ wr.heap.size <= b := fun b hb => by
        rcases HAT8.out with e | e
        ·exact .inl (e ▸ hb)
        ·rw [hb] at e
         refine .inr ?_
         have := HBE.out.size
         cases e
         exact this
       have hlw : ∀ b, v8.ownBlock = some b -> w6.heap.size <= b := fun b hb => (zb_ HO8.out hb).1
       have o78 := HOF2.out.trans2 o98 (fun b hb => HVB2.out b hb)
       have hvb8 : ∀ b, v8.ownBlock = some b -> Value.ownBlock (.slice va E.length vc) = some b ∨ w7.heap.size <= b := fun b hb => by
        rcases hnew b hb with e | e
        ·exact HVB2.out b e
        ·exact .inr (Nat.le_trans HOF2.out.size e)
       have hb68 : Below w6.heap.size w6 w8 := Off.below HBR2.out o98 HBR2.out.size (fun b hb => (zb_ HOV2.out hb).1)
       refine ⟨i2 + 1, E2 ++ [⟨q.2.ad, q.2.cap, q.2.bs, p⟩], by omega, by go_num, by rw [List.length_append, List.length_singleton]; omega, hid ?_, hid ?_, hid ?_, hid ?_, hid o78, hid hvb8, hid hb68⟩
       ·rw [List.length_append, zq_]
        have := HO8.out
        simpa [cellsOf] using this
       ·rw [List.map_append, HEM2.out, HEK.out, List.append_assoc]
        rfl
       ·intro e he
        rcases List.mem_append.1 he with he | he
        ·exact HEB2.out e he
        ·rw [List.mem_singleton] at he; subst he; exact ⟨HQB.out, HPM1.out⟩
       ·intro e he S' hS'
        rcases List.mem_append.1 he with he | he
        ·refine (HES2.out e he (fun k => k < w.heap.size ∨ Value.ownBlock (.slice va2 E2.length vc2) = some k) (fun k hk => hk)).step (o98.mono fun k hk => .inr hk) (fun k hk => ?_)
         rcases hS' k hk with hk | hk
         ·exact .inl (.inl hk)
         ·exact (hnew k hk).imp .inr id
        ·rw [List.mem_singleton] at he
         subst he
         have st1 : zs_ S' w8 fun W' => Ls .u8 W' q.2.ad q.2.cap q.2.bs := by
          refine (jS_ (S := fun k => k < w5.heap.size) HQK.out rfl (fun k hk => hk)).step (o78.mono HLOW.out) (fun k hk => ?_)
          rcases hS' k hk with hk | hk
          ·have := HW57.out; have := HBR.out.size; have := HWS.out; have := HBW5.out.size; exact .inl (by show k < w5.heap.size; omega)
          ·exact (hvb8 k hk).imp (HLOW.out k) id
         have st2 : zs_ S' w8 fun W' => ya_ W' (some ⟨b1, o1, none⟩) P := by
          have := HST.out (fun k => k < w.heap.size) (fun k hk => hk)
          refine this.step (Off.of hb68) (fun k hk => ?_)
          rcases hS' k hk with hk | hk
          ·exact .inl hk
          ·exact .inr (hlw k hk)
         intro W' o
         obtain ⟨_, _, _, _, _, l, r⟩ := (st2 W' o).1 k p HP9.out
         exact ⟨st1 W' o, l, r, (st2 W' o).2.2 p (List.mem_of_getElem? HP9.out)⟩
      case measure => simp [intOf]; omega
     ·have hte : (q.1 == tr) = false := by simpa using htr
      have HEK := hid (entK_no (p := prC p) HVQ.out htr)
      clear htr
      have HBE := hid (bl1 wr (.cells #[.int .i64 q.1, .slice q.2.ad q.2.bs.length q.2.cap] 192))
      go_wp2_with fail
      go_roundw
      case rel => exact ⟨i2 + 1, E2, by omega, by go_num, by omega, hid (ze_ HOV2.out HBE.out), hid (by rw [HEM2.out, HEK.out]), HEB2, hid (fun e he S' hS' => (HES2.out e he S' hS').below HBE.out), hid (HOF2.out.then HBE.out), HVB2, hid (HBR2.out.trans (HBE.out.mono HBR2.out.size))⟩
      case measure => simp [intOf]; omega
    ·have e1 : ¬ (i2 : Int) < (nv : Int) := by omega
     have hie : i2 = nv := by omega
     have HIE := hid hie
     have hl3 : E2.length <= 2 * (k + 1) := by omega
     clear hie
     go_wp2_with fail
     go_roundw
     case rel => exact ⟨k + 1, E2, by omega, by go_num, hl3, HOV2, hid (by rw [HEM2.out, HLU.out, HIE.out, HVP.out]), HEB2, HES2, HBR2⟩
     case measure => simp [intOf]; omega
  ·have d1 : ¬ (k : Int) < (n : Int) := by omega
   have hke : k = n := by omega
   have HKE := hid hke
   have HEL := hid (show E.length <= 2000000 by omega)
   have HS1 := hid (HSO.out wr w6.heap.size va E.length vc E rfl Xt0 HOV.out (fun e he => ⟨(HEB.out e he).1, HES.out e he _ (fun k hk => .inr hk)⟩))
   clear hke
   go_wp2_with fail
   refine HS1.out.mono ?_; rintro r w8 ⟨rfl, E', hpm, hst8, how8, o8⟩
   have HFIN := hid (And.intro hpm (And.intro hst8 (And.intro how8 o8)))
   clear hpm hst8 how8 o8
   go_wp2_with fail
   go_ret
   obtain ⟨hpm, hst8, how8, o8⟩ := HFIN.out
   have hlen := hpm.length_eq
   have hTeq : (P.map prC).take k = x.T m t := by rw [List.take_of_length_le (by rw [List.length_map, HN.out, HKE.out]; exact Nat.le_refl _), HPM.out]
   have htok : tOk (x.T m t) := ⟨HH.out.tabok t, fun p hp => by
    rw [← HPM.out] at hp
    obtain ⟨q, hq, rfl⟩ := List.mem_map.1 hp
    exact HPO.out q hq⟩
   refine ⟨va, vc, E', by rw [hlen]; rfl, Off.below (HB6.out.trans (HBR.out.mono HB6.out.size)) o8 (Nat.le_trans HB6.out.size HBR.out.size) (fun b hb => Nat.le_trans HB6.out.size (zb_ HOV.out hb).1), ?_, by rw [hlen]; exact HEL.out, fun e he => ?_, fun S' hS' W' o => ?_⟩
   ·refine lookE_eq htok ?_ ?_
    ·have := hpm.map enC
     rw [HEM.out, hTeq] at this
     exact this
    ·rw [List.pairwise_map]; exact hst8
   ·have h1 := HEB.out e (hpm.mem_iff.1 he)
    exact ⟨h1.1, HPO.out _ h1.2⟩
   ·have how9 : w8.ownsRow w6.heap.size 149 3 (.slice va E'.length vc) E'.length (cellsOf ecl E') := by rw [hlen]; exact how8
    refine own_ens (zl_ how9 o (fun k hk => Nat.lt_of_lt_of_le (hS' k hk) HB6.out.size)) rfl (fun e he => ?_)
    have := HES.out e (hpm.mem_iff.1 he) (fun k => S' k ∨ Value.ownBlock (.slice va E.length vc) = some k) (fun k hk => hk.imp (hS' k) id)
    exact ((this.off (o8.mono fun k hk => .inr hk)).less (fun k hk => .inl hk)) W' o
theorem qF_ {α : Type} (key : α -> List Int) (f u : List Int) (en : Bool) (m : Int) : ∀ (l acc : List α), (acc.length : Int) <= m -> ((yL_ key f u en m l acc).length : Int) <= m
 | [], acc, h => h
 | e :: r, acc, h => by
  unfold yL_
  split
  ·exact qF_ key f u en m r acc h
  ·split
   ·exact h
   ·rename_i h2
    refine qF_ key f u en m r _ ?_
    rw [List.length_append, List.length_singleton]
    simp only [Bool.or_eq_true, decide_eq_true_eq, not_or] at h2
    have := h2.2
    omega
theorem tlook_law (hsort : ESort) {S : Nat -> Prop} {base : Nat} {w : World} {m : Md} {x : Tl} (h : TlR S base w m x) (hbs : base <= w.heap.size) (o : zj_) (t : Nat) (ho : OpS S base w m o t) (hk : o.k = 6) (hf : ∀ z ∈ m.tabs, z.2.length <= 300000) :
  Calls prog 128 #[.pointer (some ⟨x.px, 0, none⟩), .agg #[.int .i64 o.k, .int .i64 o.t, .int .i64 o.i, .slice o.ka o.kn o.kc, .slice o.ta o.tn o.tc, .int .i64 o.m, .slice o.ra o.rn o.rc]] w (Qf_ S base w m x ((0, (yL_ Prod.fst (zk_ o.K) (zk_ o.T) (decide (0 < o.tn)) o.m (yG_ m.j t (trV m.j o.t o.i).1 (x.T m t)) []).map Prod.snd) : Int × List Pr) (x.ws.map WtV.P)) := by
 obtain ⟨hb, hbx⟩ := yl_ w #[.int .i64 o.k, .int .i64 o.t, .int .i64 o.i, .slice o.ka o.kn o.kc, .slice o.ta o.tn o.tc, .int .i64 o.m, .slice o.ra o.rn o.rc] #[.int .i64 0, .slice none 0 0] 74 81
 obtain ⟨w2, hw2⟩ := gty ((w.alloc (.cells #[.int .i64 o.k, .int .i64 o.t, .int .i64 o.i, .slice o.ka o.kn o.kc, .slice o.ta o.tn o.tc, .int .i64 o.m, .slice o.ra o.rn o.rc] 74)).alloc (.cells #[.int .i64 0, .slice none 0 0] 81))
 rw [← hw2] at hb hbx
 have h2 := h.below hb
 have HMD := hid h2.md
 have HOP := hid (ho.at'.below hb).now
 have HRN := hid ho.rn
 obtain ⟨c0, _⟩ := h2.c
 have HX := hid (fun X (b : Below w2.heap.size w2 X) => (by
  have hm := (h2.md.below b).st.now.box
  have hp := (hbx X b).1
  refine ⟨tcb b c0, ?_, ?_, ?_, ?_, ?_, ?_, ?_, ?_, ?_, ?_, ?_, ?_, ?_, ?_⟩
  all_goals first | (rw [hm.cell]; rfl) | (rw [hp.cell]; rfl) : X.cell? ⟨x.px, 0, none⟩ = some (.pointer (some ⟨m.p, 0, none⟩)) /\ X.cell? ⟨m.p, 0, none⟩ = some (.int .i64 m.j.w) /\ X.cell? ⟨m.p, 1, none⟩ = some (.int .i64 m.j.l) /\ X.cell? ⟨m.p, 2, none⟩ = some (.int .i64 m.j.d) /\ X.cell? ⟨m.p, 3, none⟩ = some (.int .i64 m.j.c) /\ X.cell? ⟨m.p, 4, none⟩ = some (.int .i64 m.j.k) /\ X.cell? ⟨m.p, 5, none⟩ = some (.int .i64 m.j.e) /\ X.cell? ⟨m.p, 6, none⟩ = some (.slice m.j.a m.j.n m.j.cap) /\ X.cell? ⟨w.heap.size, 0, none⟩ = some (.int .i64 o.k) /\ X.cell? ⟨w.heap.size, 1, none⟩ = some (.int .i64 o.t) /\ X.cell? ⟨w.heap.size, 2, none⟩ = some (.int .i64 o.i) /\ X.cell? ⟨w.heap.size, 3, none⟩ = some (.slice o.ka o.kn o.kc) /\ X.cell? ⟨w.heap.size, 4, none⟩ = some (.slice o.ta o.tn o.tc) /\ X.cell? ⟨w.heap.size, 5, none⟩ = some (.int .i64 o.m) /\ X.cell? ⟨w.heap.size, 6, none⟩ = some (.slice o.ra o.rn o.rc)))
 have HH := hid (And.intro h (And.intro hbs (And.intro hb hbx)))
 have HO := hid ho
 have HF := hid hf
 have HSO := hid hsort
 have HK5 := hid hk
 have HW2 := hid hw2
 clear hsort h hbs ho hf hk h2 hb hbx c0
 go_enter func128, ntmps128
 go_upto_region 1 with (fail)
 rw [← hw2]
 clear hw2
 go_cut [5] (fun v wx => ∃ (bx : Nat) (fa : Option Addr) (fc : Nat) (ta : Option Addr) (tc : Nat), v = .pointer (some ⟨bx, 0, none⟩) /\ Hid (Below w2.heap.size w2 wx) /\ Hid (zg_ wx bx #[.int .i64 (zD_ m.j o).1, .slice fa (zD_ m.j o).2.1.length fc, .slice ta (zD_ m.j o).2.2.1.length tc, .bool (zD_ m.j o).2.2.2.1] 169) /\ Hid (Ls .u8 wx fa fc (zD_ m.j o).2.1) /\ Hid (Ls .u8 wx ta tc (zD_ m.j o).2.2.1))
 case first =>
  exact Xb5
 case rest =>
 obtain ⟨bx, fa, fc, ta, tc, rfl, HB3, HSP, HLF, HLU⟩ := hcut
 have HBW := hid (HH.out.2.2.1.trans (HB3.out.mono HH.out.2.2.1.size))
 have HB23 := hid HB3.out.size
 have h3 : kf o.k 3 = true := by rw [xb_, HK5.out]; rfl
 have h4 : kf o.k 4 = true := by rw [jx_, HK5.out]; rfl
 have hrg : zD_ m.j o = ((trV m.j o.t o.i).1, zk_ o.K, zk_ o.T, decide (0 < o.tn), 0) := by
  exact Xb88
 have HRG := hid hrg
 have hmo := jQ_ HO.out.po h3
 have HMO := hid (show 0 <= o.m /\ o.m <= 1000000 by omega)
 have hca := HO.out.at'.now
 have HBF := hid (show Byt (zD_ m.j o).2.1 /\ Byt (zD_ m.j o).2.2.1 by rw [hrg]; exact ⟨yH_ hca.kb, yH_ hca.tb⟩)
 have HSX := hid (fun X (b : Below wc.heap.size wc X) => (by
  have hop := (HH.out.2.2.2 X (HB3.out.trans (b.mono HB3.out.size))).1
  have hsp := HSP.out.below b
  refine ⟨by rw [hsp.cell]; rfl, by rw [hsp.cell]; rfl, by rw [hsp.cell]; rfl, by rw [hsp.cell]; rfl, by rw [hop.cell]; rfl, ?_⟩
  rw [hop.cell, ← HO.out.te]; rfl : X.cell? ⟨bx, 0, none⟩ = some (.int .i64 (zD_ m.j o).1) /\ X.cell? ⟨bx, 1, none⟩ = some (.slice fa (zD_ m.j o).2.1.length fc) /\ X.cell? ⟨bx, 2, none⟩ = some (.slice ta (zD_ m.j o).2.2.1.length tc) /\ X.cell? ⟨bx, 3, none⟩ = some (.bool (zD_ m.j o).2.2.2.1) /\ X.cell? ⟨w.heap.size, 5, none⟩ = some (.int .i64 o.m) /\ X.cell? ⟨w.heap.size, 1, none⟩ = some (.int .i64 (t : Int))))
 clear h3 h4 hrg hmo hca
 go_upto_region 2 with (fail)
 refine zr_ (z := 11) (S := (fun X => Below wc.heap.size wc X)) Xt3 ((Below.refl _ _).drew) fun hH => ?_
 refine tlk 0 rfl (fun W hSw => by obtain ⟨s0, s1, s2, s3, _⟩ := HSX.out W hSw; exact tks) ?_
 refine tlk 1 rfl Xt2 ?_
 refine tlk 2 rfl (fun W hSw => by obtain ⟨_, _, _, _, o5, _⟩ := HSX.out W hSw; exact tks) ?_
 refine tlk 3 rfl Xt2 ?_
 refine tlk 4 rfl Xt2 ?_
 refine tlk 5 rfl (fun W hSw => by obtain ⟨_, _, _, _, _, o1⟩ := HSX.out W hSw; exact tks) ?_
 refine tlk 6 rfl Xt2 ?_
 refine tlk 7 rfl (fun W hSw => by obtain ⟨s0, _⟩ := HSX.out W hSw; exact tks) ?_
 refine tl1 8 rfl fun K hK => ?_
 go_simp
 refine (qp_ HSO.out (HH.out.1.below (HBW.out.trans (hH.mono HBW.out.size))) t HO.out.tl (zD_ m.j o).1 HF.out).mono ?_; rintro r w6 ⟨a6, c6, L6, rfl, hb6, hm6, hl6, hx6, hst6⟩
 have HB6 := hid (za_ hH hb6)
 have HM6 := hid hm6
 have HL6 := hid hl6
 have HX6 := hid hx6
 have HST6 := hid (show ∀ S : Nat -> Prop, (∀ k, S k -> k < wc.heap.size) -> zs_ S w6 fun W' => EnsR W' a6 L6 from hst6)
 clear hb6 hm6 hl6 hx6 hst6
 go_wp2_with fail
 refine hK.out _ _ HB6.out fun hH => ?_
 refine stP ?_
 refine tl1 9 rfl fun K hK => ?_
 go_simp
 refine (qo_ (zD_ m.j o).1 fa ta _ fc _ tc (zD_ m.j o).2.1 (zD_ m.j o).2.2.1 (zD_ m.j o).2.2.2.1 o.m HMO.out rfl rfl HBF.out.1 HBF.out.2 a6 L6.length c6 L6 rfl HL6.out (fun e he => (HX6.out e he).1) w6 (HLF.out.below HB6.out) (HLU.out.below HB6.out) (HST6.out (fun _ => False) (fun _ h => h.elim)).now).mono ?_; rintro r w3 ⟨a9, c9, rfl, hb9, hc9, hn9, ho9⟩
 have HO9 := hid ho9
 have HB9 := hid hb9
 have HB69 := hid (za_ HB6.out hb9)
 clear hb9 hc9 hn9 ho9
 go_wp2_with fail
 refine hK.out _ _ HB69.out fun hH => ?_
 refine stP ?_
 refine tlk 10 rfl Xt2 ?_
 refine tlz rfl fun K hK => ?_
 have hbx1 := (HH.out.2.2.2 w3 (HB3.out.trans (HB69.out.mono HB3.out.size))).2
 have g0 := hbx1.cell 0
 have g1 := hbx1.cell 1
 have i0 := hbx1.frozen 0
 have i1 := hbx1.frozen 1
 simp only [gtA, gtB, gtC] at g0 g1
 go_simp
 refine hK.out _ _ ?_
 clear hK K hbx1 g0 g1 i0 i1
 refine stP ?_
 refine zz_ Xt3 ?_ _
 skip
 have HZM := hid (xh_ EnV.K (zD_ m.j o).2.1 (zD_ m.j o).2.2.1 (zD_ m.j o).2.2.2.1 o.m L6 [])
 have HZ1 := hid (qF_ EnV.K (zD_ m.j o).2.1 (zD_ m.j o).2.2.1 (zD_ m.j o).2.2.2.1 o.m L6 [] (by simpa using HMO.out.1))
 have HZP := hid (show (yL_ EnV.K (zD_ m.j o).2.1 (zD_ m.j o).2.2.1 (zD_ m.j o).2.2.2.1 o.m L6 []).map enC = yL_ Prod.fst (zk_ o.K) (zk_ o.T) (decide (0 < o.tn)) o.m (yG_ m.j t (trV m.j o.t o.i).1 (x.T m t)) [] by
  rw [jH_ enC EnV.K Prod.fst _ _ _ _ _ _ (fun e he => rfl), HM6.out, HRG.out]
  rfl)
 have hbx1 := (HH.out.2.2.2 w3 (HB3.out.trans (HB69.out.mono HB3.out.size))).2
 have HB1R := hid (show w.heap.size + 1 < w6.heap.size from (HH.out.2.2.2 w6 (HB3.out.trans (HB6.out.mono HB3.out.size))).2.lt)
 have HBT := hid (HBW.out.trans (HB69.out.mono HBW.out.size))
 have HB2 := hid ((HH.out.2.2.2 w2 (Below.refl _ _)).2.lt)
 obtain ⟨Z, hZ⟩ := gtx (yL_ EnV.K (zD_ m.j o).2.1 (zD_ m.j o).2.2.1 (zD_ m.j o).2.2.2.1 o.m L6 [])
 have ho9 := HO9.out
 rw [hZ] at HZM HZ1 HZP ho9 ⊢
 have HO9 := hid ho9
 have hb4 := zg_.set2 (x := .int .i64 0) (y := .slice a9 Z.length c9) hbx1
 have ho4 : Off (fun k => k = w.heap.size + 1) w3 ((w3.setCell ⟨w.heap.size + 1, 0, none⟩ (.int .i64 0)).setCell ⟨w.heap.size + 1, 1, none⟩ (.slice a9 Z.length c9)) :=
  Off.set (S := fun k => k = w.heap.size + 1) (Off.set (S := fun k => k = w.heap.size + 1) (Off.refl _ w3) ⟨w.heap.size + 1, 0, none⟩ rfl _) ⟨w.heap.size + 1, 1, none⟩ rfl _
 revert hb4 ho4
 generalize (w3.setCell ⟨w.heap.size + 1, 0, none⟩ (.int .i64 0)).setCell ⟨w.heap.size + 1, 1, none⟩ (.slice a9 Z.length c9) = w4
 intro hb4 ho4
 have q0 := hb4.cell 0
 have q1 := hb4.cell 1
 have HO4 := hid ho4
 clear hb4 ho4 hbx1 ho9 hZ
 go_wp2_with fail
 refine bodyPost_end (v := .agg #[.int .i64 0, .slice a9 Z.length c9]) (by simp [results, results128, go_sem, q0, q1]) rfl ?_
 have hl9 : (Z.map EnV.p).length = Z.length := List.length_map _
 have hzm : ∀ e ∈ Z, e ∈ L6 := fun e he => (HZM.out e he).elim id (fun h => by cases h)
 refine ⟨S, x, ⟨0, a9, c9, Z.map EnV.p⟩, by rw [hl9], TSt.same HH.out.1 (Off.below HBT.out HO4.out HBT.out.size Xt35), ?_, ⟨by rw [hl9]; have := HZ1.out; have := HMO.out; omega, fun p hp => ?_⟩, ?_, rfl⟩
 ·show ((0 : Int), (Z.map EnV.p).map prC) = _
  rw [← HZP.out, List.map_map, List.map_map]
  rfl
 ·obtain ⟨e, he, rfl⟩ := List.mem_map.1 hp
  have := HX6.out e (hzm e he)
  exact ⟨this.2.1.1, xB_ this.2.2, by have h2 := this.2.2.2.1; rw [List.length_map] at h2; omega⟩
 ·have hbd9 : ∀ k, (fun k => Rb S base k ∨ k = w.heap.size + 1) k -> k < wc.heap.size := fun k hk => by
   rcases hk with hk | rfl
   ·exact Nat.lt_of_lt_of_le (HH.out.1.rb HH.out.2.1 k hk) HBW.out.size
   ·exact Nat.lt_of_lt_of_le HB2.out HB23.out
  have h9 := ((HST6.out _ hbd9).below HB9.out).off (HO4.out.mono fun k hk => .inr hk)
  intro W' o'
  have hrow := zl_ (zl_ HO9.out HO4.out (fun k hk => by cases hk; exact HB1R.out)) o' (fun k hk => Nat.lt_of_lt_of_le (HH.out.1.rb HH.out.2.1 k hk) (Nat.le_trans HBW.out.size HB6.out.size))
  have hrow : W'.ownsRow w6.heap.size 78 2 (.slice a9 (Z.map EnV.p).length c9) (Z.map EnV.p).length (zi_ (Z.map EnV.p)) := by rw [hl9]; exact hrow
  refine ⟨yd_ hrow rfl (fun p hp => ?_), WrB.of hrow, fun p hp => ?_⟩
  rotate_left
  ·obtain ⟨e, he, rfl⟩ := List.mem_map.1 hp
   obtain ⟨i, hi⟩ := List.mem_iff_getElem?.1 (hzm e he)
   obtain ⟨_, _, _, _, _, _, l⟩ := (h9.less (fun k hk => .inl hk)) W' o' i e hi
   exact l.pw
  obtain ⟨e, he, rfl⟩ := List.mem_map.1 hp
  obtain ⟨i, hi⟩ := List.mem_iff_getElem?.1 (hzm e he)
  obtain ⟨_, _, _, _, _, _, l⟩ := (h9.less (fun k hk => .inl hk)) W' o' i e hi
  exact ⟨l.pk, l.pr⟩
abbrev Ws := List (Nat × List Int × List (List Int))
def z9_ (j : Job) (T : List (List Pr)) (ws : Ws) (o : zj_) : (Int × List Pr) × Ws :=
 if o.k = 1 then ((match y2_ T ws o.t.toNat o.K with | some R => (0, [(o.K, R)]) | none => (6, [])), ws)
 else if o.k = 2 then ((0, []), xP_ ws o.t.toNat o.K (o.R.map P1.bs))
 else if o.k = 3 then (if (y2_ T ws o.t.toNat o.K).isSome then ((7, []), ws) else ((0, []), xP_ ws o.t.toNat o.K (o.R.map P1.bs)))
 else if o.k = 4 then (if (y2_ T ws o.t.toNat o.K).isSome then ((0, []), xP_ ws o.t.toNat o.K []) else ((6, []), ws))
 else if o.k = 5 then ((0, yL_ Prod.fst o.K o.T (decide (0 < o.tn)) o.m ((yk_ T ws).getD o.t.toNat []) []), ws)
 else ((0, (yL_ Prod.fst (zk_ o.K) (zk_ o.T) (decide (0 < o.tn)) o.m (yG_ j o.t (trV j o.t o.i).1 ((yk_ T ws).getD o.t.toNat [])) []).map Prod.snd), ws)
theorem jM_ (ws : Ws) (t : Nat) (K : List Int) (R : List (List Int)) : (xP_ ws t K R).length <= ws.length + 1 := by
 unfold xP_
 split
 ·rw [List.length_map]; omega
 ·rw [List.length_append]; simp
theorem callP_len (j : Job) (T : List (List Pr)) (ws : Ws) (o : zj_) : (z9_ j T ws o).2.length <= ws.length + 1 := by
 unfold z9_
 split
 ·show ws.length <= _; omega
 ·split
  ·exact jM_ _ _ _ _
  ·split
   ·split
    ·show ws.length <= _; omega
    ·exact jM_ _ _ _ _
   ·split
    ·split
     ·exact jM_ _ _ _ _
     ·show ws.length <= _; omega
    ·split
     ·show ws.length <= _; omega
     ·show ws.length <= _; omega
theorem kf0_in {k : Int} (h : kf k 0 = true) : 1 <= k /\ k <= 6 := by
 by_cases h1 : k < 0 ∨ 6 < k
 ·rw [jw_ k h1] at h; cases h
 ·have h2 : 0 <= k /\ k <= 6 := by omega
  by_cases h3 : k = 0
  ·subst h3; revert h; decide
  ·omega
theorem jR_ {j : Job} {o : zj_} (h : pO j o = true) : 1 <= o.k /\ o.k <= 6 := by
 unfold pO at h
 simp only [Bool.and_eq_true] at h
 exact kf0_in h.1.1.1.1.1.2
theorem jr_ {j : Job} {o : zj_} (h : pO j o = true) (h3 : kf o.k 3 = false) (hl : o.K.length = o.kn) (hb : Byt o.K) : zH_ o.K := by
 unfold pO endB at h
 rw [if_neg (by rw [h3]; simp)] at h
 simp only [Bool.and_eq_true] at h
 have := h.2.1.1
 rw [← hl] at this
 exact mayK_ok this hb
theorem Qy_ {j : Job} {o : zj_} (h : pO j o = true) (hl : o.R.length = o.rn) (hb : ∀ p ∈ o.R, Byt p.bs) : o.R ≠ [] -> rOk (o.R.map P1.bs) := fun hne => by
 unfold pO at h
 simp only [Bool.and_eq_true] at h
 have h2 := h.1.1.2
 have h3 := h.1.2
 have hp : 0 < o.rn := by rw [← hl]; exact List.length_pos_iff.2 hne
 rw [decide_eq_true hp] at h2
 have h2 : kf o.k 2 = true := by simpa using h2
 rw [h2] at h3
 exact mayR_rOk (by simpa using h3) hb
theorem OpS.g {S : Nat -> Prop} {base : Nat} {w : World} {m : Md} {o : zj_} {t : Nat} (h : OpS S base w m o t) (hk : o.k < 5) : OpG S base w m o t := by
 have hc := h.at'.now
 exact ⟨h.at', h.te, h.tl, jr_ h.po Xt51 hc.kl hc.kb, Qy_ h.po hc.rl hc.rb⟩
theorem tcall_law (hsort : ESort) {S : Nat -> Prop} {base : Nat} {w : World} {m : Md} {x : Tl} (h : TlR S base w m x) (hbs : base <= w.heap.size) (o : zj_) (t : Nat) (ho : OpS S base w m o t) (hws : x.ws.length < 1000) (hf : ∀ z ∈ m.tabs, z.2.length <= 300000) (k : Nat) (hk : o.k = (k : Int)) :
  Calls prog (122 + k) #[.pointer (some ⟨x.px, 0, none⟩), .agg #[.int .i64 o.k, .int .i64 o.t, .int .i64 o.i, .slice o.ka o.kn o.kc, .slice o.ta o.tn o.tc, .int .i64 o.m, .slice o.ra o.rn o.rc]] w (Qf_ S base w m x (z9_ m.j m.P (x.ws.map WtV.P) o).1 (z9_ m.j m.P (x.ws.map WtV.P) o).2) := by
 have hkk := jR_ ho.po
 have ht : o.t.toNat = t := by rw [ho.te]; simp
 have e9 : ∀ z ∈ m.tabs, z.2.length <= 900000 := fun z hz => by have := hf z hz; omega
 unfold z9_
 rw [ht]
 match k, hk with
 | 0, hk => omega
 | 1, hk =>
  have hk : o.k = 1 := hk
  rw [if_pos hk]
  exact tread_law h hbs o t (ho.g Xt0) hws
 | 2, hk =>
  have hk : o.k = 2 := hk
  rw [if_neg Xt0, if_pos hk]
  exact tput_law h hbs o t (ho.g Xt0) hws
 | 3, hk =>
  have hk : o.k = 3 := hk
  rw [if_neg Xt0, if_neg Xt0, if_pos hk]
  have := tinsert_law h hbs o t (ho.g Xt0) hws
  exact Xb82
 | 4, hk =>
  have hk : o.k = 4 := hk
  rw [if_neg Xt0, if_neg Xt0, if_neg Xt0, if_pos hk]
  have := tremove_law h hbs o t (ho.g Xt0) hws
  exact Xb82
 | 5, hk =>
  have hk : o.k = 5 := hk
  rw [if_neg Xt0, if_neg Xt0, if_neg Xt0, if_neg Xt0, if_pos hk]
  exact tscan_law h hbs o t ho hk e9
 | 6, hk =>
  have hk : o.k = 6 := hk
  rw [if_neg Xt0, if_neg Xt0, if_neg Xt0, if_neg Xt0, if_neg Xt0, ho.te]
  have := tlook_law hsort h hbs o t ho hk hf
  rw [ho.te] at this
  exact this
 | k + 7, hk => omega
def y1_ (j : Job) (T : List (List Pr)) (st : List (Int × List Pr) × Ws) (o : zj_) : List (Int × List Pr) × Ws := (st.1 ++ [(z9_ j T st.2 o).1], (z9_ j T st.2 o).2)
def z1_ (j : Job) (T : List (List Pr)) (ops : List zj_) : List (Int × List Pr) × Ws := ops.foldl (y1_ j T) ([], [])
theorem runP_take (j : Job) (T : List (List Pr)) {ops : List zj_} {k : Nat} {o : zj_} (h : ops[k]? = some o) : z1_ j T (ops.take (k + 1)) = y1_ j T (z1_ j T (ops.take k)) o := by
 unfold z1_
 rw [List.take_add_one, h, List.foldl_append]
 rfl
theorem xS_ (j : Job) (T : List (List Pr)) (ops : List zj_) : (z1_ j T ops).1.length = ops.length /\ (z1_ j T ops).2.length <= ops.length := by
 induction ops using zS_ with
 | nil => exact ⟨rfl, Nat.le_refl _⟩
 | append_singleton l o ih =>
  have e : z1_ j T (l ++ [o]) = y1_ j T (z1_ j T l) o := by unfold z1_; rw [List.foldl_append]; rfl
  rw [e]
  have := callP_len j T (z1_ j T l).2 o
  unfold y1_
  refine ⟨?_, ?_⟩
  ·show ((z1_ j T l).1 ++ [_]).length = _
   rw [List.length_append, ih.1, List.length_append]
   rfl
  ·show (z9_ j T (z1_ j T l).2 o).2.length <= _
   rw [List.length_append, List.length_singleton]
   omega
end
end Go.Proofs.YthmofoldmdafoaaGreat
