/- Part of the proof that ModelDoes holds for every input: tables, under any transactions, answer, write and stand as the document says. Part 23. -/
import Derived.Test.YthmofoldmdafoaaGreatSdv
set_option linter.unusedVariables false
set_option linter.unusedSimpArgs false
set_option maxRecDepth 100000
set_option maxHeartbeats 4000000
namespace Go.Proofs.YthmofoldmdafoaaGreat
open Go.ChangeShapes Go.WideShapes Go.ChangeAt Go.RowKit
open Go.Lib (hid)
open Go.Proofs.Tryz
section
open Go.Maps Go.Shelf
attribute [local go_sem] Oper.semAt_some
def roB (b : Nat) (W : World) : Option Nat := (W.cell? ⟨b, 0, none⟩).bind Value.ownBlock
theorem roB_of {b : Nat} {W : World} {t : TypeId} {v : Value} (h : Boxed W b t v) : roB b W = v.ownBlock := by unfold roB; rw [h.cell]; rfl
theorem Qp_ {b : Nat} {A B : World} (h : B.heap[b]? = A.heap[b]?) : roB b B = roB b A := by unfold roB; rw [World.cell?_of_block (w := A) (w' := B) (a := ⟨b, 0, none⟩) h]
theorem pcl_one (y : PrV) : ∀ u ∈ pcl y, u.oneCell' = true := fun u hu => by
 simp [pcl] at hu
 rcases hu with rfl | rfl <;> rfl
theorem j8_ {A B : World} {T : Nat -> Prop} {b : Nat} {cs : Array Value} {t : TypeId} (h : zg_ A b cs t) (o : Off T A B) (hn : ¬ T b) : zg_ B b cs t := (o.block b h.lt hn).trans h
structure CoI (okp : PrV -> Prop) (w : World) (T : List Pr) (k : Nat) (v : Value) (L : List PrV) (W : World) : Prop where
 box : Boxed W w.heap.size 69 v
 own : W.ownsRow (w.heap.size + 3) 78 2 v k (zi_ L)
 len : L.length = k
 at_ : L.map prC = T.take k
 ok : ∀ x ∈ L, okp x
 lies : ∀ x ∈ L, Hg (w.heap.size + 3) (roB w.heap.size) W (QP x)
 below : Below w.heap.size w W
theorem CoI.off {okp : PrV -> Prop} {w : World} {T : List Pr} {k : Nat} {v : Value} {L : List PrV} {A B : World} (h : CoI okp w T k v L A) (o : Off (fun j => j = w.heap.size + 1 ∨ j = w.heap.size + 1 + 1) A B) : CoI okp w T k v L B := by
 have hb := o.block w.heap.size h.box.lt Xt0
 refine ⟨hb.trans h.box, zl_ h.own o (fun k hk => by omega), h.len, h.at_, h.ok, fun x hx => (h.lies x hx).kp ⟨o.os, o.tape, o.output, o.size, fun k hk hb _ => o.block k hk Xt0, fun k hk => .inl (by rw [← Qp_ hb]; exact hk)⟩, Off.below h.below o h.below.size (fun k hk => by omega)⟩
theorem papp_law (okp : PrV -> Prop) (w : World) (Bs : Nat) (T : List Pr) (hT : T.length <= 2000000)
  (hseq : SeqX Fence.wide 5 prog 106 #[.pointer (some ⟨Bs, 0, none⟩)] encP (KpO (w.heap.size + 3) (roB w.heap.size)) (PxP okp (w.heap.size + 3) (roB w.heap.size) T) T.length (w.alloc (.cells #[.slice none 0 0] 69))) :
  Calls prog 103 #[.slice none 0 0, .func (.func 106) #[] #[.pointer (some ⟨Bs, 0, none⟩)]] w (PsG okp w T) := by
 obtain ⟨N, hN⟩ := gtx (T.length)
 rw [hN] at hT hseq
 have HN := hid hN
 obtain ⟨i0, hi, hz0, hz1, hz2⟩ := info_parts QJ_
 clear hN
 refine (callsIn_wide (n := 6)).1 ?_
 refine callsIn_of_wp_marks func103 rfl trivial ?_ rfl
 simp only [ntmps103, List.size_toArray, List.length_cons, List.length_nil, Nat.reduceAdd, Nat.reduceSub, Array.replicate_succ, Array.replicate_zero, List.push_toArray, List.append_toArray, List.nil_append, List.cons_append]
 gi_wp2_with fail
 have hbw : Below w.heap.size w (w.alloc (.cells #[.slice none 0 0] 69)) := bl1 _ _
 have bL := Boxed.new w 69 (.slice none 0 0)
 have hsz : (w.alloc (.cells #[.slice none 0 0] 69)).heap.size = w.heap.size + 1 := by simp
 obtain ⟨W0, hW0⟩ := gtx (w.alloc (.cells #[.slice none 0 0] 69))
 rw [hW0] at bL hbw hsz hseq ⊢
 clear hW0
 refine jf_ rfl Xt0 (gf := 106) (lb := #[.pointer (some ⟨Bs, 0, none⟩)]) rfl trivial (enters_of func106 Xt3 rfl) hseq (fun h k => h.trans k)
  (fun W o' => KpO.put o' Xt0 (Qp_ (World.putObj_heap_other Xt0))) (fun k x W o' h => h.kp (KpO.put o' Xt0 (Qp_ (World.putObj_heap_other Xt0)))) (fun _ => rfl)
  (fun k W => ∃ v L, CoI okp w T k v L W) (fun _ _ => False)
  (fun k A B h o => by obtain ⟨v, L, h⟩ := h; rw [hsz] at o; exact ⟨v, L, h.off o⟩) (fun k A B h o => h)
  ⟨_, [], bL, World.ownsRow_nil _ _ _ _, rfl, by simp, fun x hx => (nomatch hx), fun x hx => (nomatch hx), hbw⟩
  (fun x a' W => ∃ B, a' = { tmps := #[.slice none 0 0, .func (.func 106) #[] #[.pointer (some ⟨Bs, 0, none⟩)], .pointer (some ⟨w.heap.size, 0, none⟩), undef, .slice none 0 0, .pointer (some ⟨B, 0, none⟩), .func (.func 106) #[] #[.pointer (some ⟨Bs, 0, none⟩)], .agg (pcl x).toArray, undef, undef, undef, undef, undef], defers := [] } /\ zg_ W B (pcl x).toArray 78 /\ w.heap.size + 3 <= B)
  (fun x a' _ A A' h o => by obtain ⟨B, h1, h2, h3⟩ := h; exact ⟨B, h1, j8_ h2 o Xt0, h3⟩)
  ?assign ?body ?done ?stop
 case assign =>
  rintro lp k x W K hk hI hPx hK
  dsimp only [encP]
  obtain ⟨v, L, hI⟩ := hI
  have hsW := hI.box.lt
  have hbW := hPx.lies.size
  unfold pcl
  gi_wp2
  have hbl := bl1 W (.cells (pcl x).toArray 78)
  have hro := Qp_ (b := w.heap.size) (hbl.block w.heap.size hsW)
  exact hK _ _ ((KeepsOthers.alloc W _).from _) (KpO.below hbl hro) ⟨v, L, hI.off (Off.of hbl)⟩ (hPx.kp (KpO.below hbl hro)) ⟨W.heap.size, rfl, zg_.new W _ _, hbW⟩
 case body =>
  rintro lp k x a' W hk ⟨v, L, hI⟩ hPx ⟨B, rfl, hbx, hBB⟩
  have bL1 := hI.box
  have own1 := hI.own
  have cL := bL1.cell
  have fL := bL1.frozen
  have x0 := hbx.cell 0
  have x1 := hbx.cell 1
  unfold pcl at x0 x1
  simp only [gtA, gtB, gtC] at x0 x1
  have hw2 : w.heap.size + 3 <= W.heap.size := by have := hbx.lt; omega
  have hsW := bL1.lt
  have HI := hid hI
  have HPX := hid hPx
  have HPL := hid (show k < 2000000 by omega)
  clear hk hI hPx
  gi_wp2_with (gi_at_builtin; go_loud (refine wpListIn_append_own_at _ rfl _ _ 69 rfl (w.heap.size + 3) 78 i0 (.agg #[.slice none 0 0, .slice none 0 0]) 2 48 underlying69 hi hz0 hz1 hz2 rfl Xt4 _ _ _ rfl (own1.alloc _) ⟨W.heap.size, 0, none⟩ 1 1 (pcl x) rfl rfl (zx_ W _ _ _ rfl) (pcl_one x) Xt45 Xt62 Xt7 ?_))
  intro v' W1 hown' hgrow _ hat
  have hne : some w.heap.size ≠ v.ownBlock := fun e => by
   have := (zb_ own1 e.symm).1
   omega
  have bL2 : Boxed W1 w.heap.size 69 v := (bL1.alloc _).kept hgrow hne
  have ko := (KeepsOthers.alloc W (.cells (pcl x).toArray 78)).trans (yU_ (own1.alloc _) hgrow)
  have hgl : ∀ j, j < W.heap.size -> some j ≠ v.ownBlock -> W1.heap[j]? = W.heap[j]? := fun j hj hn => (hgrow.block j Xt7 hn).trans ((bl1 W (.cells (pcl x).toArray 78)).block j hj)
  have hgs : W.heap.size + 1 <= W1.heap.size := by have := hgrow.size; simpa using this
  have HKP := hid (And.intro hgrow (And.intro hgl (And.intro hgs hat)))
  have HRO := hid (roB_of bL1)
  have cL2 := bL2.cell
  have fL2 := bL2.frozen
  have hl2 := bL2.lt
  have hown2 : W1.ownsRow (w.heap.size + 3) 78 2 v' (k + 1) (zi_ (L ++ [x])) := by
   rw [zw_]
   have e : zi_ [x] = pcl x := by simp [zi_]
   rw [e]
   exact hown'
  clear cL fL bL1 hgrow own1 hown' x0 x1 hgl hgs hat
  obtain ⟨g, gc, rfl⟩ := zd_ hown2
  gi_wp2_with fail
  have hbn : ∀ u : Value, Boxed (W1.setCell ⟨w.heap.size, 0, none⟩ u) w.heap.size 69 u := fun u => xK_ _ _ _ _ _ bL2
  have hkp : ∀ u : Value, u.ownBlock = (Value.slice g (k + 1) gc).ownBlock -> KpO (w.heap.size + 3) (roB w.heap.size) W (W1.setCell ⟨w.heap.size, 0, none⟩ u) := fun u hu => by
   obtain ⟨q1, q2, q3, q4⟩ := HKP.out
   refine ⟨q1.os, q1.tape, q1.output, by simp; omega, fun j hj hb hn => ?_, fun j hj => ?_⟩
   ·exact (Below.heap_setCell W1 ⟨w.heap.size, 0, none⟩ _ j (show j ≠ w.heap.size by omega)).trans (q2 j hj (fun e => hn (by rw [HRO.out]; exact e.symm)))
   ·rw [roB_of (hbn u), hu] at hj
    rcases q4 with e | e
    ·exact .inl (by rw [HRO.out, ← e]; exact hj)
    ·try rw [World.size_alloc] at e
     rw [hj] at e
     cases e; exact .inr Xt0
  refine ⟨(ko.trans (KeepsOthers.setCell _ _ _)).from _, hkp _ rfl, _, L ++ [x], hbn _, ?_, ?_, ?_, ?_, ?_, ?_⟩
  ·exact ownsRow_setCell_other (a := ⟨w.heap.size, 0, none⟩) hown2 (fun e => by
    have : w.heap.size + 3 <= w.heap.size := (zb_ hown2 e).1
    omega) _
  ·rw [List.length_append, HI.out.len]; rfl
  ·rw [List.map_append, HI.out.at_, List.take_add_one, HPX.out.at_]; rfl
  ·intro y hy
   rcases List.mem_append.1 hy with hy | hy
   ·exact HI.out.ok y hy
   ·rw [List.mem_singleton] at hy; subst hy; exact HPX.out.ok
  ·intro y hy
   rcases List.mem_append.1 hy with hy | hy
   ·exact (HI.out.lies y hy).kp (hkp _ rfl)
   ·rw [List.mem_singleton] at hy; subst hy; exact HPX.out.lies.kp (hkp _ rfl)
  ·refine Below.setCell (p := ⟨w.heap.size, 0, none⟩) (HI.out.below.trans ?_) (Nat.le_refl _) _
   obtain ⟨q1, q2, q3, q4⟩ := HKP.out
   refine ⟨q1.os, q1.tape, q1.output, by omega, fun j hj => q2 j Xt0 (fun e => ?_)⟩
   have := (zb_ HI.out.own e.symm).1
   omega
 case done =>
  rintro W ⟨v, L, hI⟩ hK
  have cL := hI.box.cell
  rw [hsz] at hK ⊢
  have hI2 := hI.off (B := W.putObj (w.heap.size + 1) (.deferred none)) ⟨rfl, rfl, rfl, by simp, fun j _ hj => World.putObj_heap_other fun e => hj (.inl e)⟩
  obtain ⟨va, vc, rfl⟩ := zd_ hI2.own
  have HI := hid hI2
  clear hI hI2
  gi_wp2
  refine ⟨by simp, .inl ⟨_, _, rfl, run_takeDeferred hK, ?_⟩⟩
  have hlen : L.length = N := HI.out.len
  refine ⟨.slice va N vc, ?_, va, vc, L, by rw [hlen], HI.out.below, ?_, HI.out.ok, ?_, ?_, by omega, fun S' hS' W' o => ?_⟩
  ·simp [results, f103, go_sem]
  ·rw [HI.out.at_, ← HN.out, List.take_of_length_le (Nat.le_refl _)]
  ·rw [hlen]; exact (zJ_ HI.out.own).1
  ·exact (zJ_ HI.out.own).2
  ·exact yd_ (zl_ HI.out.own o (fun k hk => by have := hS' k hk; omega)) hlen fun p hp => (HI.out.lies p hp).stay (fun k hk => by have := hS' k hk; omega) W' o
 case stop =>
  rintro k W hk hf hK
  exact hf.elim
theorem pcol_law (okp : PrV -> Prop) (w : World) (Bs : Nat) (T : List Pr) (hT : T.length <= 2000000)
  (hseq : SeqX Fence.wide 5 prog 106 #[.pointer (some ⟨Bs, 0, none⟩)] encP (KpO (w.heap.size + 3) (roB w.heap.size)) (PxP okp (w.heap.size + 3) (roB w.heap.size) T) T.length (w.alloc (.cells #[.slice none 0 0] 69))) :
  Calls prog 72 #[.func (.func 106) #[] #[.pointer (some ⟨Bs, 0, none⟩)]] w (PsG okp w T) := by
 have HS := hid (papp_law okp w Bs T hT hseq)
 clear hseq
 go_enter func72, ntmps72
 go_wp2_with fail
 refine HS.out.mono ?_; rintro r w1 ⟨a, c, P, rfl, hq⟩
 have HQ := hid hq
 clear hq
 go_wp2_with fail
 go_ret
 exact ⟨a, c, P, rfl, HQ.out⟩
end
section
open Go.Maps Go.Shelf
theorem over_law (w : World) (g : Nat) (lb : Array Value) : Calls prog 79 #[.func (.func g) #[] lb] w fun r w' => r = .returned (.func (.func 106) #[] #[.pointer (some ⟨w.heap.size, 0, none⟩)]) /\ w' = w.alloc (.cells #[.func (.func g) #[] lb] 142) := by
 have hmf := zX_
 go_enter func79, ntmps79
 exact Xb27
theorem ju_ (w : World) (p : Value) (pp : Option Addr) (hp : p = .pointer pp) (t : Int) : Calls prog 47 #[p, .int .i64 t] w fun r w' => r = .returned (.func (.func 106) #[] #[.pointer (some ⟨w.heap.size + 2, 0, none⟩)]) /\ Boxed w' w.heap.size 28 p /\ Boxed w' (w.heap.size + 1) 3 (.int .i64 t) /\ Boxed w' (w.heap.size + 2) 142 (.func (.func 80) #[] #[.pointer (some ⟨w.heap.size, 0, none⟩), .pointer (some ⟨w.heap.size + 1, 0, none⟩)]) /\ Below w.heap.size w w' := by
 subst hp
 have hmf := zX_
 go_enter func47, ntmps47
 go_wp2_with fail
 obtain ⟨W, hW⟩ := gtx ((w.alloc (.cells #[.pointer pp] 28)).alloc (.cells #[.int .i64 t] 3))
 have h1 : Boxed W w.heap.size 28 (.pointer pp) := by rw [← hW]; exact (Boxed.new w 28 (.pointer pp)).alloc _
 have h2 : Boxed W (w.heap.size + 1) 3 (.int .i64 t) := by rw [← hW]; have := Boxed.new (w.alloc (.cells #[.pointer pp] 28)) 3 (.int .i64 t); rwa [World.size_alloc] at this
 have h3 : Below w.heap.size w W := by rw [← hW]; exact ((Below.refl _ w).alloc (Nat.le_refl _) _).alloc Xt5 _
 have h4 : W.heap.size = w.heap.size + 2 := by rw [← hW]; simp
 rw [hW]
 have HW := hid (And.intro h1 (And.intro h2 (And.intro h3 h4)))
 clear hW h1 h2 h3 h4
 refine (over_law W 80 _).mono ?_; rintro r w1 ⟨rfl, rfl⟩
 go_wp2_with fail
 go_ret
 obtain ⟨h1, h2, h3, h4⟩ := HW.out
 have h5 := Boxed.new W 142 (.func (.func 80) #[] #[.pointer (some ⟨w.heap.size, 0, none⟩), .pointer (some ⟨w.heap.size + 1, 0, none⟩)])
 rw [h4] at h5 ⊢
 exact ⟨rfl, h1.alloc _, h2.alloc _, h5, za_ h3 (bl1 _ _)⟩
theorem jh_ {S : Nat -> Prop} {m : Md} {w : World} (h : MdR S w m) (hS : ∀ k, S k -> k < w.heap.size) (B1 B2 : Nat) (t : Nat) (b1 : Boxed w B1 28 (.pointer (some ⟨m.p, 0, none⟩))) (b2 : Boxed w B2 3 (.int .i64 (t : Int))) (ht : t < m.tabs.length) (hf : ∀ z ∈ m.tabs, z.2.length <= 900000) :
  Calls prog 80 #[.pointer (some ⟨B1, 0, none⟩), .pointer (some ⟨B2, 0, none⟩)] w (PsG okK w (m.P.getD t [])) := by
 have HM := hid (show Calls prog 52 #[.pointer (some ⟨m.p, 0, none⟩), .int .i64 (t : Int)] w fun e w' => e = .returned (.bool true) /\ w = w' from (yQ_ h t).mono (by
  rintro e w' ⟨h1, h2⟩
  refine ⟨?_, h2⟩
  rw [h1, decide_eq_true Xt0]))
 have HH := hid h
 have HSS := hid hS
 have HX := hid (And.intro b1 b2)
 have HTL := hid ht
 have HF := hid hf
 have c1 := b1.cell
 have c2 := b2.cell
 clear h hS b1 b2 ht hf
 go_enter func80, ntmps80
 go_upto_region 3 with (go_at_call 52; refine HM.out.mono ?_; rintro e w' ⟨rfl, rfl⟩)
 refine rgw w (Below.refl _ _).drew fun hH => ?_
 refine tkr 0 rfl Xf7 ?_
 refine tkr 2 rfl (fun W hSw => by have m := (zf_ HX.out.2 hSw).cell; exact tks) ?_
 refine tk1 1 rfl fun K hK => ?_
 go_simp
 refine (y7_ (HH.out.below hH) (fun k hk => Nat.lt_of_lt_of_le (HSS.out k hk) hH.size)).mono ?_; rintro r w1 ⟨S1, x1, rfl, hb1, ht1, hws1, hrs1, hsa1, hsb1⟩
 have HB1 := hid (za_ hH hb1)
 have HT1 := hid (And.intro ht1 hws1)
 clear hb1 ht1 hws1 hrs1 hsa1 hsb1
 go_wp2_with fail
 refine hK.out _ _ HB1.out fun hH => ?_
 refine stP ?_
 refine tk1 3 rfl fun K hK => ?_
 go_simp
 refine (qc_ HT1.out.1 t HTL.out HF.out).mono ?_; rintro r w2 ⟨pa, pc, P, rfl, hb2, hq1, hq2, hq3, hq4, hq5, hq6⟩
 have hq : P.map prC = _ /\ _ /\ _ /\ _ /\ _ /\ ∀ S : Nat -> Prop, (∀ k, S k -> k < _) -> zs_ S w2 fun W' => zn_ W' pa P := ⟨hq1, hq2, hq3, hq4, hq5, fun S hS => (hq6 S hS).mono fun _ h => h.1⟩
 have HB2 := hid (za_ HB1.out hb2)
 have HQ := hid hq
 clear hb2 hq
 go_wp2_with fail
 refine hK.out _ _ HB2.out fun hH => ?_
 refine stP ?_
 refine tkq 4 ?_
 refine adn ?_
 skip
 go_wp2_with fail
 go_ret
 obtain ⟨q1, q2, q3, q4, q5, q6⟩ := HQ.out
 refine ⟨pa, pc, P, rfl, HB2.out, ?_, q2, q3, q4, by omega, fun S' hS' => q6 S' (fun k hk => Nat.lt_of_lt_of_le (hS' k hk) HB1.out.size)⟩
 rw [q1]
 unfold Tl.T
 rw [HT1.out.2]; rfl
theorem table1_no {S : Nat -> Prop} {m : Md} {w : World} (h : MdR S w m) (B1 B2 : Nat) (t : Int) (b1 : Boxed w B1 28 (.pointer (some ⟨m.p, 0, none⟩))) (b2 : Boxed w B2 3 (.int .i64 t)) (ht : ¬ (0 <= t /\ t < m.tabs.length)) :
  Calls prog 80 #[.pointer (some ⟨B1, 0, none⟩), .pointer (some ⟨B2, 0, none⟩)] w (PsG okK w []) := by
 have HM := hid (show Calls prog 52 #[.pointer (some ⟨m.p, 0, none⟩), .int .i64 t] w fun e w' => e = .returned (.bool false) /\ w = w' from (yQ_ h t).mono (by
  rintro e w' ⟨h1, h2⟩
  refine ⟨?_, h2⟩
  rw [h1, decide_eq_false ht]))
 have c1 := b1.cell
 have c2 := b2.cell
 clear h b1 b2 ht
 go_enter func80, ntmps80
 go_wp2_with (go_at_call 52; refine HM.out.mono ?_; rintro e w' ⟨rfl, rfl⟩)
 go_ret
 exact ⟨none, 0, [], rfl, Below.refl _ _, rfl, fun p hp => (nomatch hp), Nat.le_refl _, fun _ => rfl, Nat.zero_le _, fun S' _ W' _ k x hx => by simp at hx⟩
theorem tabcol_law {S : Nat -> Prop} {m : Md} {w : World} (h : MdR S w m) (hS : ∀ k, S k -> k < w.heap.size) (Bs B1 B2 : Nat) (t : Nat) (b1 : Boxed w B1 28 (.pointer (some ⟨m.p, 0, none⟩))) (b2 : Boxed w B2 3 (.int .i64 (t : Int))) (b3 : Boxed w Bs 142 (.func (.func 80) #[] #[.pointer (some ⟨B1, 0, none⟩), .pointer (some ⟨B2, 0, none⟩)])) (ht : t < m.tabs.length) (hf : ∀ z ∈ m.tabs, z.2.length <= 900000) (hT : (m.P.getD t []).length <= 2000000) :
  Calls prog 72 #[.func (.func 106) #[] #[.pointer (some ⟨Bs, 0, none⟩)]] w (PsG okK w (m.P.getD t [])) := by
 obtain ⟨W0, hW0⟩ := gty (w.alloc (.cells #[.slice none 0 0] 69))
 have hb : Below w.heap.size w W0 := by rw [hW0]; exact bl1 _ _
 have hbx : Boxed W0 w.heap.size 69 (.slice none 0 0) := by rw [hW0]; exact Boxed.new w 69 _
 have hsz : W0.heap.size = w.heap.size + 1 := by rw [hW0]; simp
 have key := over80_x okK 5 Xt0 Bs B1 B2 (m.P.getD t []) W0 (roB w.heap.size) (zf_ b3 hb) (fun W hW => by
   have hw := za_ hb (hW.mono (Nat.le_refl _))
   exact jh_ (h.below hw) (fun k hk => Nat.lt_of_lt_of_le (hS k hk) hw.size) B1 B2 t (zf_ b1 hw) (zf_ b2 hw) ht hf)
  (fun W hW => by rw [roB_of (zf_ hbx hW)]; rfl) (fun A B hA hAB => Qp_ (hAB.block _ Xt0))
 rw [hsz, hW0] at key
 exact pcol_law okK w Bs _ hT key
def okI (p : PrV) : Prop := Byt p.K /\ p.K.length <= 1000 /\ rOk (p.R.map P1.bs)
def idxP (j : Job) (t x : Int) (T : List Pr) : List Pr := (yG_ j t (trV j t x).1 T).map fun e => (e.1, e.2.2)
def eiP (e : EnV) : PrV := ⟨e.ka, e.kc, e.K, e.p.ra, e.p.rc, e.p.R⟩
theorem front_le : ∀ f : List Int, (zk_ f).length <= 2 * f.length
 | [] => by simp [zk_]
 | a :: f => by
  have ih := front_le f
  have e : zk_ (a :: f) = esc a ++ zk_ f := by rw [show a :: f = [a] ++ f from rfl, z8_, xr_]
  rw [e, List.length_append]
  have : (esc a).length <= 2 := by unfold esc; split <;> simp
  simp only [List.length_cons]; omega
theorem entry_le (f K : List Int) : (zu_ f K).length <= 2 * f.length + 2 + K.length := by
 unfold zu_
 have := front_le f
 simp only [List.length_append, List.length_cons, List.length_nil]; omega
theorem qU_ {j : Job} {t tr : Int} {T : List Pr} {e : List Int × Pr} (h : e ∈ yG_ j t tr T) : e.2 ∈ T /\ e ∈ entP j t tr e.2 := by
 unfold yG_ at h
 have h := (List.mergeSort_perm _ _).mem_iff.1 h
 unfold qi_ at h
 obtain ⟨p, hp, he⟩ := List.mem_flatMap.1 h
 have : e.2 = p := by
  unfold entP at he
  obtain ⟨x, _, rfl⟩ := List.mem_map.1 he
  rfl
 rw [this]; exact ⟨hp, he⟩
theorem mindex_law (w : World) (p : Value) (pp : Option Addr) (hp : p = .pointer pp) (t x : Int) : Calls prog 49 #[p, .int .i64 t, .int .i64 x] w fun r w' => r = .returned (.func (.func 106) #[] #[.pointer (some ⟨w.heap.size + 3, 0, none⟩)]) /\ Boxed w' w.heap.size 28 p /\ Boxed w' (w.heap.size + 1) 3 (.int .i64 t) /\ Boxed w' (w.heap.size + 2) 3 (.int .i64 x) /\ Boxed w' (w.heap.size + 3) 142 (.func (.func 84) #[] #[.pointer (some ⟨w.heap.size, 0, none⟩), .pointer (some ⟨w.heap.size + 1, 0, none⟩), .pointer (some ⟨w.heap.size + 2, 0, none⟩)]) /\ Below w.heap.size w w' := by
 subst hp
 have hmf := zX_
 go_enter func49, ntmps49
 go_wp2_with fail
 obtain ⟨W, hW⟩ := gtx (((w.alloc (.cells #[.pointer pp] 28)).alloc (.cells #[.int .i64 t] 3)).alloc (.cells #[.int .i64 x] 3))
 have h1 : Boxed W w.heap.size 28 (.pointer pp) := by rw [← hW]; exact ((Boxed.new w 28 (.pointer pp)).alloc _).alloc _
 have h2 : Boxed W (w.heap.size + 1) 3 (.int .i64 t) := by rw [← hW]; have := (Boxed.new (w.alloc (.cells #[.pointer pp] 28)) 3 (.int .i64 t)).alloc (.cells #[.int .i64 x] 3); rwa [World.size_alloc] at this
 have h3 : Boxed W (w.heap.size + 2) 3 (.int .i64 x) := by rw [← hW]; have := Boxed.new ((w.alloc (.cells #[.pointer pp] 28)).alloc (.cells #[.int .i64 t] 3)) 3 (.int .i64 x); rwa [World.size_alloc, World.size_alloc] at this
 have h4 : Below w.heap.size w W := by rw [← hW]; exact (((Below.refl _ w).alloc (Nat.le_refl _) _).alloc Xt5 _).alloc Xt7 _
 have h5 : W.heap.size = w.heap.size + 3 := by rw [← hW]; simp
 rw [hW]
 have HW := hid (And.intro h1 (And.intro h2 (And.intro h3 (And.intro h4 h5))))
 clear hW h1 h2 h3 h4 h5
 refine (over_law W 84 _).mono ?_; rintro r w1 ⟨rfl, rfl⟩
 go_wp2_with fail
 go_ret
 obtain ⟨h1, h2, h3, h4, h5⟩ := HW.out
 have h6 := Boxed.new W 142 (.func (.func 84) #[] #[.pointer (some ⟨w.heap.size, 0, none⟩), .pointer (some ⟨w.heap.size + 1, 0, none⟩), .pointer (some ⟨w.heap.size + 2, 0, none⟩)])
 rw [h5] at h6 ⊢
 exact ⟨rfl, h1.alloc _, h2.alloc _, h3.alloc _, h6, za_ h4 (bl1 _ _)⟩
theorem index1_law {S : Nat -> Prop} {m : Md} {w : World} (h : MdR S w m) (hS : ∀ k, S k -> k < w.heap.size) (C1 C2 C3 : Nat) (t x : Nat) (b1 : Boxed w C1 28 (.pointer (some ⟨m.p, 0, none⟩))) (b2 : Boxed w C2 3 (.int .i64 (t : Int))) (b3 : Boxed w C3 3 (.int .i64 (x : Int))) (ht : t < m.tabs.length) (tx : Int) (htx : m.j.T[t]? = some tx) (hxt : (x : Int) < tx) (hf : ∀ z ∈ m.tabs, z.2.length <= 300000) :
  Calls prog 84 #[.pointer (some ⟨C1, 0, none⟩), .pointer (some ⟨C2, 0, none⟩), .pointer (some ⟨C3, 0, none⟩)] w (PsG okI w (idxP m.j t x (m.P.getD t []))) := by
 have HM := hid (fun X (b : Below w.heap.size w X) => (show Calls prog 52 #[.pointer (some ⟨m.p, 0, none⟩), .int .i64 (t : Int)] X fun e w' => e = .returned (.bool true) /\ X = w' from (yQ_ (h.below b) t).mono (by
  rintro e w' ⟨h1, h2⟩
  refine ⟨?_, h2⟩
  rw [h1, decide_eq_true Xt0])))
 have hjl := h.st.now.job
 have htl : t < m.j.T.length := (List.getElem?_eq_some_iff.1 htx).1
 obtain ⟨jb, jo, hja, hjc⟩ := hjl.ls.rd t htl
 rw [List.getD_eq_getElem?_getD, htx] at hjc
 simp only [Option.getD_some] at hjc
 have hbx := h.st.now.box
 have hjn : (t : Int) < (m.j.n : Int) := by have := hjl.len; omega
 have hjn2 : (m.j.n : Int) <= 1000000 := by have := hjl.le; omega
 have HTR := hid (fun X (b : Below w.heap.size w X) => (qu_ m.j t x X (hjl.below b)).mono (fun r w' (h : _ /\ _) => (⟨_, h.1, h.2⟩ : ∃ er, r = .returned (.tuple #[.int .i64 (trV m.j t x).1, .int .i64 er]) /\ Below X.heap.size X w')))
 rw [hja] at HTR
 have HJ := hid (fun X (b : Below w.heap.size w X) => (by
  have hb := hbx.below b
  unfold Md.cs at hb
  rw [hja] at hb
  exact ⟨hb.cell 6, tcb b hjc, hb.cell 0, hb.cell 1, hb.cell 2, hb.cell 3, hb.cell 4, hb.cell 5, hb.cell 6⟩ :
  X.cell? ⟨m.p, 6, none⟩ = some (.slice (some ⟨jb, jo, none⟩) m.j.n m.j.cap) /\ X.cell? ⟨jb, jo + t, none⟩ = some (.int .i64 tx) /\ X.cell? ⟨m.p, 0, none⟩ = some (.int .i64 m.j.w) /\ X.cell? ⟨m.p, 1, none⟩ = some (.int .i64 m.j.l) /\ X.cell? ⟨m.p, 2, none⟩ = some (.int .i64 m.j.d) /\ X.cell? ⟨m.p, 3, none⟩ = some (.int .i64 m.j.c) /\ X.cell? ⟨m.p, 4, none⟩ = some (.int .i64 m.j.k) /\ X.cell? ⟨m.p, 5, none⟩ = some (.int .i64 m.j.e) /\ X.cell? ⟨m.p, 6, none⟩ = some (.slice (some ⟨jb, jo, none⟩) m.j.n m.j.cap)))
 have HH := hid h
 have HSS := hid hS
 have HX := hid (And.intro b1 (And.intro b2 b3))
 have HTL := hid ht
 have HF := hid hf
 have hx0 : ¬ (x : Int) < 0 := by omega
 have hx1 : ¬ tx <= (x : Int) := by omega
 clear h hS b1 b2 b3 ht hf htx hxt hjl htl hja hjc hbx
 go_enter func84, ntmps84
 go_upto_region 1 with (fail)
 refine rgw w (Below.refl _ _).drew fun hH => ?_
 refine tkr 0 rfl Xf7 ?_
 refine tkr 1 rfl Xf9 ?_
 refine tk1 2 rfl fun K hK => ?_
 go_simp
 refine (HM.out _ hH).mono ?_; rintro r w1 ⟨rfl, rfl⟩
 go_wp2_with fail
 refine hK.out _ _ hH fun hH => ?_
 refine stP ?_
 refine tkq2 3 4 ?_
 refine tkr 5 rfl Xf15 ?_
 refine tkp 6 (.bool false) rfl (.inl ⟨by rfl, ?_⟩) ?_
 ·exact Xb67
 refine tkq 7 ?_
 refine tkp 8 (.bool false) rfl (.inl ⟨by rfl, ?_⟩) ?_
 ·exact Xb67
 refine tkr 9 rfl Xf15 ?_
 refine tkr 10 rfl Xf7 ?_
 refine tkq3 11 12 13 ?_
 refine tkr 14 rfl (fun W hSw => by have m := (HJ.out W hSw).1; exact tks) ?_
 refine tkr 15 rfl Xf9 ?_
 refine tkq 16 ?_
 refine tkr 17 rfl (fun W hSw => by have m := (HJ.out W hSw).2; exact tks) ?_
 refine tkp 18 (.bool false) rfl (.inl ⟨by rfl, ?_⟩) ?_
 ·exact Xb67
 refine tkq 19 ?_
 refine adn ?_
 skip
 clear HM
 go_upto_region 3 with (fail)
 refine wp_region_held_drew (S := (fun X => Below w.heap.size w X)) Xt3 (hH.drew) fun hH => ?_
 refine tkr 0 rfl Xf7 ?_
 refine tkq2 1 2 ?_
 refine tkr 3 rfl (fun W hSw => by have m := (HJ.out W hSw).2.2; exact tks) ?_
 refine tkr 4 rfl Xf9 ?_
 refine tkr 5 rfl Xf15 ?_
 refine tk1 6 rfl fun K hK => ?_
 go_simp
 refine (HTR.out _ hH).mono ?_; rintro r w1 ⟨er, rfl, hb1⟩
 have HB1 := hid (za_ hH hb1)
 clear hb1
 go_wp2_with fail
 refine hK.out _ _ HB1.out fun hH => ?_
 refine stP ?_
 refine tkq4 7 8 9 10 ?_
 refine tkq 11 ?_
 refine adn ?_
 skip
 go_upto_region 5 with (fail)
 refine wp_region_held_drew (S := (fun X => Below w.heap.size w X)) Xt3 (hH.drew) fun hH => ?_
 refine tkr 0 rfl Xf7 ?_
 refine tkr 2 rfl Xf9 ?_
 refine tkq2 3 6 ?_
 refine tk1 1 rfl fun K hK => ?_
 go_simp
 refine (y7_ (HH.out.below hH) (fun k hk => Nat.lt_of_lt_of_le (HSS.out k hk) hH.size)).mono ?_; rintro r w5 ⟨S1, x1, rfl, hb1, ht1, hws1, hrs1, hsa1, hsb1⟩
 have HB5 := hid (za_ hH hb1)
 have HT1 := hid (And.intro ht1 hws1)
 clear hb1 ht1 hws1 hrs1 hsa1 hsb1
 go_wp2_with fail
 refine hK.out _ _ HB5.out fun hH => ?_
 refine stP ?_
 refine tk1 4 rfl fun K hK => ?_
 go_simp
 refine (qp_ esort HT1.out.1 t HTL.out (trV m.j t x).1 HF.out).mono ?_; rintro r w6 ⟨ea, ec, L, rfl, hb6, hq1, hq2, hq3, hq4⟩
 have HB6 := hid hb6
 have HQ := hid (And.intro hq1 hq3)
 have HQ4 := hid hq4
 obtain ⟨n, hn⟩ := gtx (L.length)
 rw [hn] at hq2 ⊢
 have HLN := hid hn
 clear hb6 hq1 hq3 hq4 hn
 go_wp2_with fail
 refine hK.out _ _ (za_ HB5.out HB6.out) fun hH => ?_
 refine stP ?_
 refine tkq 5 ?_
 refine adn ?_
 skip
 have hni : (n : Int) <= 2000000 := by omega
 have HEN := hid (show ∀ W', Off (fun k => k < w5.heap.size ∨ w6.heap.size <= k) w6 W' -> EnsR W' ea L from fun W' o => HQ4.out (fun k => k < w5.heap.size) (fun k hk => hk) W' ⟨o.os, o.tape, o.output, o.size, fun k hk hn => o.block k hk (fun e => e.elim hn Xt72)⟩)
 have HPN := hid (show ∀ W, Below w6.heap.size w6 W -> EnsR W ea L from fun W b => HEN.out W (Off.of b))
 clear HQ4 HTR HJ
 go_wp2_with fail
 go_loopw [6, 45] (fun v i wr => ∃ k : Nat, k <= n /\ i = .int .i64 (k : Int) /\ Hid (wr.ownsRow w6.heap.size 78 2 v k (zi_ ((L.take k).map eiP))) /\ Hid (Below w6.heap.size w6 wr)) (fun _ i _ => n - (intOf i).toNat)
 case atStart => exact ⟨0, by omega, rfl, hid (World.ownsRow_nil _ _ _ _), hid (Below.refl _ _)⟩
 case round =>
  obtain ⟨k, hk, rfl, HOV, HBR⟩ := hrel
  obtain ⟨va, vc, hv⟩ := zd_ HOV.out
  subst hv
  by_cases hlt : k < n
  ·have d1 : (k : Int) < (n : Int) := by omega
   obtain ⟨y, hy⟩ : ∃ y, L[k]? = some y := ⟨_, List.getElem?_eq_getElem Xt73⟩
   obtain ⟨b1, o1, hea, p0, p1, p2, _⟩ := HPN.out wr HBR.out k y hy
   have HTK := hid (show (L.take (k + 1)).map eiP = (L.take k).map eiP ++ [eiP y] by rw [List.take_add_one, hy, List.map_append]; rfl)
   have HP3 := hid (show k + 1 <= 2097152 by omega)
   clear hy
   subst hea
   go_wp2_with (at_builtin; refine zv_ xf_ rfl _ _ rfl w6.heap.size (.slice va k vc) k (zi_ ((L.take k).map eiP)) rfl ((ze_ HOV.out (bl1 wr _)).alloc _) ⟨wr.heap.size + 1, 0, none⟩ 1 1 [.slice y.ka y.K.length y.kc, .slice y.p.ra y.p.R.length y.p.rc] rfl rfl (by rw [show wr.heap.size + 1 = (wr.alloc (.cells #[.slice y.ka y.K.length y.kc, .slice y.p.ka y.p.K.length y.p.kc, .slice y.p.ra y.p.R.length y.p.rc] 149)).heap.size by simp]; exact zx_ _ _ _ _ rfl) Xt11 HP3.out (Nat.le_trans HBR.out.size Xt7) ?_; intro v8 w8 hown8 hgrow8 hat8; have HO8 := hid hown8; have HG8 := hid hgrow8; have HAT8 := hid hat8; clear hown8 hgrow8 hat8)
   go_roundw
   case rel =>
    refine ⟨k + 1, by omega, by go_num, hid ?_, hid ?_⟩
    ·rw [HTK.out, zw_]; exact HO8.out
    ·have b2 : Below wr.heap.size wr ((wr.alloc (.cells #[.slice y.ka y.K.length y.kc, .slice y.p.ka y.p.K.length y.p.kc, .slice y.p.ra y.p.R.length y.p.rc] 149)).alloc (.cells #[.slice y.ka y.K.length y.kc, .slice y.p.ra y.p.R.length y.p.rc] 78)) := ((Below.refl _ _).alloc (Nat.le_refl _) _).alloc Xt5 _
     exact Off.below HBR.out ((Off.of (S := fun k' => Value.ownBlock (.slice va k vc) = some k') b2).trans (Off.of_row HG8.out)) HBR.out.size (fun j hj => (zb_ HOV.out hj).1)
   case measure => simp [intOf]; omega
  ·have d1 : ¬ (k : Int) < (n : Int) := by omega
   have HKE := hid (show k = n by omega)
   go_wp2_with fail
   go_ret
   have hkn := HKE.out
   have hln := HLN.out
   have htk : L.take k = L := List.take_of_length_le Xt0
   have hown := HOV.out
   rw [htk] at hown
   have hl2 : (L.map eiP).length = k := by rw [List.length_map]; omega
   obtain ⟨hcn, hna⟩ := zJ_ hown
   refine ⟨va, vc, L.map eiP, by show Ending.returned (.slice va k vc) = _; rw [hl2], za_ HB5.out (za_ HB6.out (HBR.out.mono (Nat.le_refl _))), ?_, ?_, by rw [hl2]; exact hcn, hna, by rw [hl2]; omega, fun S' hS' W' o => ?_⟩
   ·unfold idxP
    have h1 := HQ.out.1
    have hws : x1.T m t = m.P.getD t [] := by unfold Tl.T; rw [HT1.out.2]; rfl
    rw [hws] at h1
    try rw [List.getD_eq_getElem?_getD] at h1
    rw [← h1, List.map_map, List.map_map]; rfl
   ·intro p hp
    obtain ⟨e, he, rfl⟩ := List.mem_map.1 hp
    obtain ⟨e1, e2, e3⟩ := HQ.out.2 e he
    refine ⟨e1, ?_, e3⟩
    have hm : enC e ∈ yG_ m.j t (trV m.j t x).1 (x1.T m t) := by rw [← HQ.out.1]; exact List.mem_map.2 ⟨e, he, rfl⟩
    obtain ⟨h2, h3⟩ := qU_ hm
    obtain ⟨_, f, hf1, _, _, hf4⟩ := qA_ e2 e3 h3
    show e.K.length <= 1000
    have h4 : e.K = zu_ f e.p.K := hf4
    have := entry_le f e.p.K
    rw [h4]
    have := e2.2.2
    omega
   ·have oE : Off (fun j => j < w5.heap.size ∨ w6.heap.size <= j) w6 W' := (Off.of HBR.out).trans (o.mono fun j hj => .inl (Nat.lt_of_lt_of_le (hS' j hj) HB5.out.size))
    refine yd_ (zl_ hown o (fun j hj => Nat.lt_of_lt_of_le (hS' j hj) (Nat.le_trans HB5.out.size HB6.out.size))) hl2 fun p hp => ?_
    obtain ⟨e, he, rfl⟩ := List.mem_map.1 hp
    obtain ⟨i, hi⟩ := List.mem_iff_getElem?.1 he
    obtain ⟨_, _, _, _, _, _, l⟩ := HEN.out W' oE i e hi
    exact ⟨l.k, l.pr⟩
end
section
open Go.Maps Go.Shelf
attribute [local go_sem] Oper.semAt_some
def lastK (T : List Pr) (k : Nat) : List Int := ((T.take k).getLast?.map Prod.fst).getD []
theorem KpO.set {b : Nat} (W : World) (p : Addr) (v : Value) (h : p.block < b) : KpO b (fun _ => none) W (W.setCell p v) := ⟨rfl, rfl, rfl, by simp, fun k _ hb _ => Below.heap_setCell W p v k Xt0, fun _ h => nomatch h⟩
structure ElI (w : World) (a : Option Addr) (n c : Nat) (x : Nat) (T : List Pr) (k : Nat) (W : World) : Prop where
 b4 : Boxed W w.heap.size 69 (.slice a n c)
 b5 : Boxed W (w.heap.size + 1) 3 (.int .i64 (x : Int))
 b6 : Boxed W (w.heap.size + 1 + 1) 3 (.int .i64 0)
 b7 : Boxed W (w.heap.size + 1 + 1 + 1) 3 (.int .i64 (k : Int))
 b8 : Boxed W (w.heap.size + 1 + 1 + 1 + 1) 9 (.string (strOfNums (lastK T k)))
 bel : Below w.heap.size w W
end
section
variable {n : Nat} {P : Program} {ops : Array Oper} {Q : Exit -> Act -> World -> Prop}
def nodB (l : List Oper) : Bool := l.all fun o => match o.op with | .defer _ => false | _ => true
theorem nod_of {l : List Oper} (h : nodB l = true) : ∀ o ∈ l, ∀ c, o.op ≠ .defer c := fun o ho c e => by
 have := List.all_eq_true.1 h o ho
 simp only [e] at this
 cases this
theorem rowsIn_w {row : String} {args : Array Value} {w : World} {R : Value -> World -> Prop} (h : Rows P row args w R) : RowsIn Fence.wide n P row args w R :=
 fun c cs _ => let ⟨v, w', r, s⟩ := h c cs; ⟨v, w', r, stepsIn_wide.2 s⟩
theorem one_in {o : Oper} {a : Act} {w : World} {K : Act -> World -> Prop} {l : Nat} (nd : ∀ c, o.op ≠ .defer c) (h : o.wp P a w K Q) : o.wpIn (Fence.wide.inRound l) n P a w K Q := by
 refine ⟨fun f _ => trivial, ?_⟩
 rw [Fence.inRound_round, Oper.semAt_eq _ _ _ nd]
 unfold Oper.wp at h
 generalize (execOp a.eval o).run P w = r at h ⊢
 cases r with
 | ok x w' =>
  cases x <;> first | exact h | exact ⟨fun e => absurd e (by simp [Fence.wide, Fence.inRound]), CallsIn.inRound l (callsIn_wide.2 h)⟩ | exact ⟨fun e => absurd e (by simp [Fence.wide, Fence.inRound]), rowsIn_w h⟩ | exact h.elim
 | halt x w' =>
  cases x <;> first | exact h | exact h.elim
theorem up_in {a : Act} {w : World} {i l : Nat} {K : Act -> World -> Prop} (hno : ¬ LetsOut Q) (nd : ∀ o ∈ ops.toList, ∀ c, o.op ≠ .defer c) (h : wpOp P ops Q i K a w) : wpOpIn (Fence.wide.inRound l) n P ops Q i K a w := by
 unfold wpOp at h
 unfold wpOpIn
 cases e : ops[i]? with
 | none => simpa [e] using h
 | some o =>
  simp only [e] at h ⊢
  have hm : o ∈ ops.toList := by rw [Array.mem_toList_iff]; exact Array.mem_of_getElem? e
  by_cases hw : Region.wanted o (yielded ops a.tmps) = true
  ·rw [if_pos hw] at h ⊢
   rcases h with h | h
   ·exact one_in (nd o hm) h
   ·exact absurd h.2 hno
  ·rw [if_neg hw] at h ⊢; exact ⟨fun f _ => trivial, h⟩
theorem any_in {S : World -> Prop} {md : Region.Mode} {l : Nat} (hno : ¬ LetsOut Q) (nd : ∀ o ∈ ops.toList, ∀ c, o.op ≠ .defer c) : ∀ (fuel : Nat) (listed : Array Bool) (a : Act) (w : World), wpAnyH P md ops Q S fuel listed a w -> wpAnyIn (Fence.wide.inRound l) n P md ops Q fuel listed a w
 | 0, _, _, _, h => h
 | fuel + 1, _, _, _, h => ⟨h.1, fun i hi => wpOpIn_mono (fun a' w' h' => any_in hno nd fuel _ a' w' h'.2) (up_in hno nd (h.2 i hi))⟩
theorem qE_ {S : World -> Prop} {id l : Nat} {a : Act} {w : World} (hm : P.follows .mixedOrders = true) (hno : ¬ LetsOut Q) (nd : nodB ops.toList = true) (hS : S w.drew)
  (h : S w.drew -> wpAnyH P .any ops Q S ops.size (Array.replicate ops.size false) a w.drew) : (Code.region id ops true).wpIn (Fence.wide.inRound l) n P Q a w :=
 wpIn_region_any hm (any_in hno (nod_of nd) _ _ _ _ (h hS))
end
section
open Go.Maps Go.Shelf
theorem xx_ (a b : Option Addr) (A B : List WrV) (n ca cb : Nat) (hn : A.length = n) (hn2 : n <= 1000000) (hsame : A.map WrV.P = B.map WrV.P) (hA : ∀ p ∈ A, p.r.R.length <= 1000000 /\ ∀ q ∈ p.r.R, Byt q.bs) (hB : ∀ p ∈ B, ∀ q ∈ p.r.R, Byt q.bs) (w : World) (hRA : WrR w a A) (hRB : WrR w b B) :
  Calls prog 35 #[.slice a n ca, .slice b n cb] w fun r w' => r = .returned (.bool true) /\ Below w.heap.size w w' := by
 have HR := hid (And.intro hRA hRB)
 have hm : B.length = n := by have h := congrArg List.length hsame; rw [List.length_map, List.length_map] at h; omega
 have HN := hid (And.intro hn hm)
 have HRL := hid (And.intro hA hB)
 have HSA := hid hsame
 have hni : (n : Int) <= 1000000 := by omega
 clear hn hm hA hB hRA hRB hsame
 have e0 : ((n : Int) != (n : Int)) = false := by simp
 go_enter func35, ntmps35
 go_wp2_with fail
 go_loopw [5] (fun j wr => ∃ k : Nat, k <= n /\ j = .int .i64 (k : Int) /\ Hid (Below w.heap.size w wr)) (fun j _ => n - (intOf j).toNat)
 case atStart => exact ⟨0, Nat.zero_le _, rfl, hid (Below.refl _ _)⟩
 case round =>
  obtain ⟨k, hk, rfl, HBW⟩ := hrel
  by_cases hlt : k < n
  ·have dl : (k : Int) < (n : Int) := by omega
   obtain ⟨x, hx⟩ : ∃ x, A[k]? = some x := ⟨_, List.getElem?_eq_getElem Xt69⟩
   obtain ⟨y, hy⟩ : ∃ y, B[k]? = some y := ⟨_, List.getElem?_eq_getElem Xt70⟩
   have hxy : WrV.P x = WrV.P y := by
    have h1 : (A.map WrV.P)[k]? = some (WrV.P x) := by rw [List.getElem?_map, hx]; rfl
    have h2 : (B.map WrV.P)[k]? = some (WrV.P y) := by rw [List.getElem?_map, hy]; rfl
    rw [HSA.out, h2] at h1
    exact (Option.some.inj h1).symm
   have ht : y.t = x.t := (congrArg (fun z => z.1) hxy).symm
   have hK : y.K = x.K := (congrArg (fun z => z.2.1) hxy).symm
   have hP : eqB x.r.R y.r.R = true := decide_eq_true (congrArg (fun z => z.2.2) hxy)
   obtain ⟨b1, o1, e1, c1, c2, c3, l1, r1⟩ := (HR.out.1.below HBW.out) k x hx
   obtain ⟨b2, o2, e2, c4, c5, c6, l2, r2⟩ := (HR.out.2.below HBW.out) k y hy
   rw [ht] at c4
   rw [hK] at c5 l2
   have f : ∀ {p v}, wr.cell? p = some v -> ∀ X, Below wr.heap.size wr X -> X.cell? p = some v := fun h X b => tcb b h
   have HSM := hid (fun W (b : Below wr.heap.size wr W) => qN_ x.r.ra y.r.ra x.r.R y.r.R x.r.R.length y.r.R.length x.r.rc y.r.rc rfl rfl (HRL.out.1 x (List.mem_of_getElem? hx)).1 (HRL.out.1 x (List.mem_of_getElem? hx)).2 (HRL.out.2 y (List.mem_of_getElem? hy)) W (r1.below b) (r2.below b))
   rw [hP] at HSM
   obtain ⟨kl, hkl⟩ := gtx (x.K.length)
   rw [hkl] at c2 c5
   have FQ := hid (fun X (b : Below wr.heap.size wr X) => (⟨f c1 X b, f c2 X b, f c3 X b, f c4 X b, f c5 X b, f c6 X b⟩ : X.cell? ⟨b1, o1 + k * 3, none⟩ = some (.int .i64 x.t) /\ X.cell? ⟨b1, o1 + k * 3 + 1, none⟩ = some (.slice x.ka kl x.kc) /\ X.cell? ⟨b1, o1 + k * 3 + 2, none⟩ = some (.slice x.r.ra x.r.R.length x.r.rc) /\ X.cell? ⟨b2, o2 + k * 3, none⟩ = some (.int .i64 x.t) /\ X.cell? ⟨b2, o2 + k * 3 + 1, none⟩ = some (.slice y.ka kl y.kc) /\ X.cell? ⟨b2, o2 + k * 3 + 2, none⟩ = some (.slice y.r.ra y.r.R.length y.r.rc)))
   have HLX := hid (And.intro l1 l2)
   have HKL := hid hkl
   clear hx hy hxy ht hK hP c1 c2 c3 c4 c5 c6 l1 l2 r1 r2 f hkl
   subst e1
   subst e2
   go_upto_region 6 with (fail)
   refine rgw wr (Below.refl _ _).drew fun hH => ?_
   refine tkq4 0 1 2 3 ?_
   refine tkr 4 rfl Xf11 ?_
   refine tkq4 5 6 7 8 ?_
   refine tkr 9 rfl Xf11 ?_
   refine tkp 10 (.bool false) rfl (.inl ⟨by rfl, ?_⟩) ?_
   ·intro W hSw; go_simp; try simp
   refine tkp 11 (.bool false) rfl (.inl ⟨by rfl, ?_⟩) ?_
   ·intro W hSw; go_simp; try rfl
   refine tkq4 12 13 14 15 ?_
   refine tkr 16 rfl Xf11 ?_
   refine tkr 17 rfl (fun W hSw => by have hcv := kc2 W x.ka kl x.kc x.K HKL.out (HLX.out.1.below hSw); exact tks) ?_
   refine tkq4 18 19 20 21 ?_
   refine tkr 22 rfl Xf11 ?_
   refine tkr 23 rfl (fun W hSw => by have hcv := kc2 W y.ka kl y.kc x.K HKL.out (HLX.out.2.below hSw); exact tks) ?_
   refine tkp 24 (.bool false) rfl (.inl ⟨by rfl, ?_⟩) ?_
   ·intro W hSw; go_simp; try simp
   refine tkq 25 ?_
   refine tkp 26 (.bool false) rfl (.inl ⟨by rfl, ?_⟩) ?_
   ·intro W hSw; go_simp; try rfl
   refine tkq4 27 28 29 30 ?_
   refine tkr 31 rfl Xf11 ?_
   refine tkq4 32 33 34 35 ?_
   refine tkr 36 rfl Xf11 ?_
   refine tk1 37 rfl fun K hK => ?_
   go_simp
   refine (HSM.out _ hH).mono ?_; rintro e9 w3 ⟨rfl, hb3⟩
   go_wp2_with fail
   refine hK.out _ _ (za_ hH hb3) fun hH => ?_
   refine stP ?_
   refine tkq2 38 39 ?_
   refine adn ?_
   skip
   have HBN := hid (za_ HBW.out hH)
   go_wp2_with fail
   go_roundw
   case rel => exact ⟨k + 1, by omega, by go_num, HBN⟩
   case measure => simp [intOf]; omega
  ·have dl : ¬ (k : Int) < (n : Int) := by omega
   go_wp2_with fail
   go_ret
   exact ⟨rfl, HBW.out⟩
end
end Go.Proofs.YthmofoldmdafoaaGreat
