/- ModelReads: a transaction that reads alone writes nothing, and is answered the same again and again; for every input. Part 10. -/
import Derived.Test.YthmofoldmdafoaaGreatRri
import Derived.Maps.AppendAt
import Derived.RangeFuncNested
import Derived.RangeFuncBound
import Derived.RangeFuncCalls
import Derived.RangeFuncLeaves
import Derived.Shelf.Abstract
import Derived.Shelf.RegionOpen
import Derived.OwnWalkIn
import Derived.TacticsInMore
import Derived.LoopNIn
import Derived.LoopIn
import Derived.Maps.OwnIn
import Derived.Sort.MapsRangeIn
import Derived.Test.YthmofoldmdafoaaGreatRrd
import Derived.IntWalk
import Derived.Test.YthmofoldmdafoaaGreatRra
namespace Go.Proofs.YthmofoldmdafoaaGreat
open Go.ChangeShapes Go.WideShapes Go.ChangeAt Go.RowKit Go.Maps Go.Shelf
set_option linter.unusedVariables false
set_option linter.unusedSimpArgs false

attribute [local go_sem] Oper.semAt_some
/-- The row of the slice that lies in a box. -/
def roB (b : Nat) (W : World) : Option Nat := (W.cell? ⟨b, 0, none⟩).bind Value.ownBlock
theorem roB_of {b : Nat} {W : World} {t : TypeId} {v : Value} (h : Boxed W b t v) : roB b W = v.ownBlock := by unfold roB; rw [h.cell]; rfl
theorem roB_eq {b : Nat} {A B : World} (h : B.heap[b]? = A.heap[b]?) : roB b B = roB b A := by unfold roB; rw [World.cell?_of_block (w := A) (w' := B) (a := ⟨b, 0, none⟩) h]
theorem pcl_one (y : PrV) : ∀ u ∈ pcl y, u.oneCell' = true := fun u hu => by
  simp [pcl] at hu
  rcases hu with rfl | rfl <;> rfl
theorem boxc_off {A B : World} {T : Nat → Prop} {b : Nat} {cs : Array Value} {t : TypeId} (h : BoxC A b cs t) (o : Off T A B) (hn : ¬ T b) : BoxC B b cs t := (o.block b h.lt hn).trans h
/-- The pairs that were put behind each other so far. -/
structure CoI (okp : PrV → Prop) (w : World) (T : List Pr) (k : Nat) (v : Value) (L : List PrV) (W : World) : Prop where
  box : Boxed W w.heap.size 69 v
  own : W.ownsRow (w.heap.size + 3) 78 2 v k (prcells L)
  len : L.length = k
  at_ : L.map prC = T.take k
  ok : ∀ x ∈ L, okp x
  lies : ∀ x ∈ L, Hg (w.heap.size + 3) (roB w.heap.size) W (QP x)
  below : Below w.heap.size w W
theorem CoI.off {okp : PrV → Prop} {w : World} {T : List Pr} {k : Nat} {v : Value} {L : List PrV} {A B : World} (h : CoI okp w T k v L A) (o : Off (fun j => j = w.heap.size + 1 ∨ j = w.heap.size + 1 + 1) A B) : CoI okp w T k v L B := by
  have hb := o.block w.heap.size h.box.lt (by omega)
  refine ⟨hb.trans h.box, own_off22 h.own o (fun k hk => by omega), h.len, h.at_, h.ok, fun x hx => (h.lies x hx).kp ⟨o.os, o.tape, o.output, o.size, fun k hk hb _ => o.block k hk (by omega), fun k hk => .inl (by rw [← roB_eq hb]; exact hk)⟩, Off.below h.below o h.below.size (fun k hk => by omega)⟩
set_option maxRecDepth 100000 in
set_option maxHeartbeats 4000000 in
/-- slices.AppendSeq (103), of pairs. -/
theorem papp_law (okp : PrV → Prop) (w : World) (Bs : Nat) (T : List Pr) (hT : T.length ≤ 2000000)
    (hseq : SeqX Fence.wide 5 Tryz.prog 106 #[.pointer (some ⟨Bs, 0, none⟩)] encP (KpO (w.heap.size + 3) (roB w.heap.size)) (PxP okp (w.heap.size + 3) (roB w.heap.size) T) T.length (w.alloc (.cells #[.slice none 0 0] 69))) :
    Calls Tryz.prog 103 #[.slice none 0 0, .func (.func 106) #[] #[.pointer (some ⟨Bs, 0, none⟩)]] w (PsG okp w T) := by
  obtain ⟨N, hN⟩ : ∃ N, T.length = N := ⟨_, rfl⟩
  rw [hN] at hT hseq
  have HN := Lib.hid hN
  obtain ⟨i0, hi, hz0, hz1, hz2⟩ := info_parts info78
  clear hN
  refine (callsIn_wide (n := 6)).1 ?_
  refine callsIn_of_wp_marks Tryz.func103 rfl trivial ?_ rfl
  simp only [Tryz.ntmps103, List.size_toArray, List.length_cons, List.length_nil, Nat.reduceAdd, Nat.reduceSub, Array.replicate_succ, Array.replicate_zero, List.push_toArray, List.append_toArray, List.nil_append, List.cons_append]
  gi_wp2_with fail
  have hbw : Below w.heap.size w (w.alloc (.cells #[.slice none 0 0] 69)) := bl1 _ _
  have bL := Boxed.new w 69 (.slice none 0 0)
  have hsz : (w.alloc (.cells #[.slice none 0 0] 69)).heap.size = w.heap.size + 1 := by simp
  obtain ⟨W0, hW0⟩ : ∃ W0, w.alloc (.cells #[.slice none 0 0] 69) = W0 := ⟨_, rfl⟩
  rw [hW0] at bL hbw hsz hseq ⊢
  clear hW0
  refine wp_range_x rfl (by omega) (gf := 106) (lb := #[.pointer (some ⟨Bs, 0, none⟩)]) rfl trivial (enters_of Tryz.func106 (by kernel_rfl) rfl) hseq (fun h k => h.trans k)
    (fun W o' => KpO.put o' (by omega) (roB_eq (World.putObj_heap_other (by omega)))) (fun k x W o' h => h.kp (KpO.put o' (by omega) (roB_eq (World.putObj_heap_other (by omega))))) (fun _ => rfl)
    (fun k W => ∃ v L, CoI okp w T k v L W) (fun _ _ => False)
    (fun k A B h o => by obtain ⟨v, L, h⟩ := h; rw [hsz] at o; exact ⟨v, L, h.off o⟩) (fun k A B h o => h)
    ⟨_, [], bL, World.ownsRow_nil _ _ _ _, rfl, by simp, fun x hx => (nomatch hx), fun x hx => (nomatch hx), hbw⟩
    (fun x a' W => ∃ B, a' = { tmps := #[.slice none 0 0, .func (.func 106) #[] #[.pointer (some ⟨Bs, 0, none⟩)], .pointer (some ⟨w.heap.size, 0, none⟩), undef, .slice none 0 0, .pointer (some ⟨B, 0, none⟩), .func (.func 106) #[] #[.pointer (some ⟨Bs, 0, none⟩)], .agg (pcl x).toArray, undef, undef, undef, undef, undef], defers := [] } ∧ BoxC W B (pcl x).toArray 78 ∧ w.heap.size + 3 ≤ B)
    (fun x a' _ A A' h o => by obtain ⟨B, h1, h2, h3⟩ := h; exact ⟨B, h1, boxc_off h2 o (by omega), h3⟩)
    ?assign ?body ?done ?stop
  case assign =>
    rintro lp k x W K hk hI hPx hK
    dsimp only [encP]
    obtain ⟨v, L, hI⟩ := hI
    have hsW := hI.box.lt
    have hbW := hPx.lies.size
    unfold pcl
    gi_wp2
    have hbl := bl1 W (.cells (pcl x).toArray 78)
    have hro := roB_eq (b := w.heap.size) (hbl.block w.heap.size hsW)
    exact hK _ _ ((KeepsOthers.alloc W _).from _) (KpO.below hbl hro) ⟨v, L, hI.off (Off.of hbl)⟩ (hPx.kp (KpO.below hbl hro)) ⟨W.heap.size, rfl, BoxC.new W _ _, hbW⟩
  case body =>
    rintro lp k x a' W hk ⟨v, L, hI⟩ hPx ⟨B, rfl, hbx, hBB⟩
    have bL1 := hI.box
    have own1 := hI.own
    have cL := bL1.cell
    have fL := bL1.frozen
    have x0 := hbx.cell 0
    have x1 := hbx.cell 1
    unfold pcl at x0 x1
    simp only [List.getElem?_toArray, List.getElem?_cons_zero, List.getElem?_cons_succ] at x0 x1
    have hw2 : w.heap.size + 3 ≤ W.heap.size := by have := hbx.lt; omega
    have hsW := bL1.lt
    have HI := Lib.hid hI
    have HPX := Lib.hid hPx
    have HPL := Lib.hid (show k < 2000000 by omega)
    clear hk hI hPx
    gi_wp2_with (gi_at_builtin; go_loud (refine wpListIn_append_own_at _ rfl _ _ 69 rfl (w.heap.size + 3) 78 i0 (.agg #[.slice none 0 0, .slice none 0 0]) 2 48 Tryz.underlying69 hi hz0 hz1 hz2 rfl (by decide) _ _ _ rfl (own1.alloc _) ⟨W.heap.size, 0, none⟩ 1 1 (pcl x) rfl rfl (cells_new W _ _ _ rfl) (pcl_one x) (by have := HPL.out; unfold maxLen; omega) (by have := HPL.out; omega) (by simp; omega) ?_))
    intro v' W1 hown' hgrow _ hat
    have hne : some w.heap.size ≠ v.ownBlock := fun e => by
      have := (own_blk own1 e.symm).1
      omega
    have bL2 : Boxed W1 w.heap.size 69 v := (bL1.alloc _).kept hgrow hne
    have ko := (KeepsOthers.alloc W (.cells (pcl x).toArray 78)).trans (keeps_row22 (own1.alloc _) hgrow)
    have hgl : ∀ j, j < W.heap.size → some j ≠ v.ownBlock → W1.heap[j]? = W.heap[j]? := fun j hj hn => (hgrow.block j (by simp; omega) hn).trans ((bl1 W (.cells (pcl x).toArray 78)).block j hj)
    have hgs : W.heap.size + 1 ≤ W1.heap.size := by have := hgrow.size; simpa using this
    have HKP := Lib.hid (And.intro hgrow (And.intro hgl (And.intro hgs hat)))
    have HRO := Lib.hid (roB_of bL1)
    have cL2 := bL2.cell
    have fL2 := bL2.frozen
    have hl2 := bL2.lt
    have hown2 : W1.ownsRow (w.heap.size + 3) 78 2 v' (k + 1) (prcells (L ++ [x])) := by
      rw [prcells_append]
      have e : prcells [x] = pcl x := by simp [prcells]
      rw [e]
      exact hown'
    clear cL fL bL1 hgrow own1 hown' x0 x1 hgl hgs hat
    obtain ⟨g, gc, rfl⟩ := own_form22 hown2
    gi_wp2_with fail
    have hbn : ∀ u : Value, Boxed (W1.setCell ⟨w.heap.size, 0, none⟩ u) w.heap.size 69 u := fun u => box_set _ _ _ _ _ bL2
    have hkp : ∀ u : Value, u.ownBlock = (Value.slice g (k + 1) gc).ownBlock → KpO (w.heap.size + 3) (roB w.heap.size) W (W1.setCell ⟨w.heap.size, 0, none⟩ u) := fun u hu => by
      obtain ⟨q1, q2, q3, q4⟩ := HKP.out
      refine ⟨q1.os, q1.tape, q1.output, by simp; omega, fun j hj hb hn => ?_, fun j hj => ?_⟩
      · exact (Below.heap_setCell W1 ⟨w.heap.size, 0, none⟩ _ j (show j ≠ w.heap.size by omega)).trans (q2 j hj (fun e => hn (by rw [HRO.out]; exact e.symm)))
      · rw [roB_of (hbn u), hu] at hj
        rcases q4 with e | e
        · exact .inl (by rw [HRO.out, ← e]; exact hj)
        · try rw [World.size_alloc] at e
          rw [hj] at e
          cases e; exact .inr (by omega)
    refine ⟨(ko.trans (KeepsOthers.setCell _ _ _)).from _, hkp _ rfl, _, L ++ [x], hbn _, ?_, ?_, ?_, ?_, ?_, ?_⟩
    · exact ownsRow_setCell_other (a := ⟨w.heap.size, 0, none⟩) hown2 (fun e => by
        have : w.heap.size + 3 ≤ w.heap.size := (own_blk hown2 e).1
        omega) _
    · rw [List.length_append, HI.out.len]; rfl
    · rw [List.map_append, HI.out.at_, List.take_add_one, HPX.out.at_]; rfl
    · intro y hy
      rcases List.mem_append.1 hy with hy | hy
      · exact HI.out.ok y hy
      · rw [List.mem_singleton] at hy; subst hy; exact HPX.out.ok
    · intro y hy
      rcases List.mem_append.1 hy with hy | hy
      · exact (HI.out.lies y hy).kp (hkp _ rfl)
      · rw [List.mem_singleton] at hy; subst hy; exact HPX.out.lies.kp (hkp _ rfl)
    · refine Below.setCell (p := ⟨w.heap.size, 0, none⟩) (HI.out.below.trans ?_) (Nat.le_refl _) _
      obtain ⟨q1, q2, q3, q4⟩ := HKP.out
      refine ⟨q1.os, q1.tape, q1.output, by omega, fun j hj => q2 j (by omega) (fun e => ?_)⟩
      have := (own_blk HI.out.own e.symm).1
      omega
  case done =>
    rintro W ⟨v, L, hI⟩ hK
    have cL := hI.box.cell
    rw [hsz] at hK ⊢
    have hI2 := hI.off (B := W.putObj (w.heap.size + 1) (.deferred none)) ⟨rfl, rfl, rfl, by simp, fun j _ hj => World.putObj_heap_other fun e => hj (.inl e)⟩
    obtain ⟨va, vc, rfl⟩ := own_form22 hI2.own
    have HI := Lib.hid hI2
    clear hI hI2
    gi_wp2
    refine ⟨by simp, .inl ⟨_, _, rfl, run_takeDeferred hK, ?_⟩⟩
    have hlen : L.length = N := HI.out.len
    refine ⟨.slice va N vc, ?_, va, vc, L, by rw [hlen], HI.out.below, ?_, HI.out.ok, ?_, ?_, by omega, fun S' hS' W' o => ?_⟩
    · simp [results, Tryz.f103, go_sem]
    · rw [HI.out.at_, ← HN.out, List.take_of_length_le (Nat.le_refl _)]
    · rw [hlen]; exact (own_cn22 HI.out.own).1
    · exact (own_cn22 HI.out.own).2
    · exact prs_own (own_off22 HI.out.own o (fun k hk => by have := hS' k hk; omega)) hlen fun p hp => (HI.out.lies p hp).stay (fun k hk => by have := hS' k hk; omega) W' o
  case stop =>
    rintro k W hk hf hK
    exact hf.elim
set_option maxRecDepth 100000 in
set_option maxHeartbeats 4000000 in
/-- slices.Collect (72), of pairs. -/
theorem pcol_law (okp : PrV → Prop) (w : World) (Bs : Nat) (T : List Pr) (hT : T.length ≤ 2000000)
    (hseq : SeqX Fence.wide 5 Tryz.prog 106 #[.pointer (some ⟨Bs, 0, none⟩)] encP (KpO (w.heap.size + 3) (roB w.heap.size)) (PxP okp (w.heap.size + 3) (roB w.heap.size) T) T.length (w.alloc (.cells #[.slice none 0 0] 69))) :
    Calls Tryz.prog 72 #[.func (.func 106) #[] #[.pointer (some ⟨Bs, 0, none⟩)]] w (PsG okp w T) := by
  have HS := Lib.hid (papp_law okp w Bs T hT hseq)
  clear hseq
  go_enter Tryz.func72, Tryz.ntmps72
  go_wp2_with fail
  refine HS.out.mono ?_; rintro r w1 ⟨a, c, P, rfl, hq⟩
  have HQ := Lib.hid hq
  clear hq
  go_wp2_with fail
  go_ret
  exact ⟨a, c, P, rfl, HQ.out⟩
end Go.Proofs.YthmofoldmdafoaaGreat
namespace Go.Proofs.YthmofoldmdafoaaGreat
open Go.ChangeShapes Go.WideShapes Go.ChangeAt Go.RowKit Go.Maps Go.Shelf
set_option linter.unusedVariables false
set_option linter.unusedSimpArgs false

set_option maxRecDepth 100000 in
set_option maxHeartbeats 4000000 in
/-- over (79). -/
theorem over_law (w : World) (g : Nat) (lb : Array Value) : Calls Tryz.prog 79 #[.func (.func g) #[] lb] w fun r w' => r = .returned (.func (.func 106) #[] #[.pointer (some ⟨w.heap.size, 0, none⟩)]) ∧ w' = w.alloc (.cells #[.func (.func g) #[] lb] 142) := by
  have hmf := makeFunc_run
  go_enter Tryz.func79, Tryz.ntmps79
  go_wp2
  go_ret
  exact ⟨rfl, rfl⟩
set_option maxRecDepth 100000 in
set_option maxHeartbeats 4000000 in
/-- Table (47). -/
theorem mtable_law (w : World) (p : Value) (pp : Option Addr) (hp : p = .pointer pp) (t : Int) : Calls Tryz.prog 47 #[p, .int .i64 t] w fun r w' => r = .returned (.func (.func 106) #[] #[.pointer (some ⟨w.heap.size + 2, 0, none⟩)]) ∧ Boxed w' w.heap.size 28 p ∧ Boxed w' (w.heap.size + 1) 3 (.int .i64 t) ∧ Boxed w' (w.heap.size + 2) 142 (.func (.func 80) #[] #[.pointer (some ⟨w.heap.size, 0, none⟩), .pointer (some ⟨w.heap.size + 1, 0, none⟩)]) ∧ Below w.heap.size w w' := by
  subst hp
  have hmf := makeFunc_run
  go_enter Tryz.func47, Tryz.ntmps47
  go_wp2_with fail
  obtain ⟨W, hW⟩ : ∃ W, (w.alloc (.cells #[.pointer pp] 28)).alloc (.cells #[.int .i64 t] 3) = W := ⟨_, rfl⟩
  have h1 : Boxed W w.heap.size 28 (.pointer pp) := by rw [← hW]; exact (Boxed.new w 28 (.pointer pp)).alloc _
  have h2 : Boxed W (w.heap.size + 1) 3 (.int .i64 t) := by rw [← hW]; have := Boxed.new (w.alloc (.cells #[.pointer pp] 28)) 3 (.int .i64 t); rwa [World.size_alloc] at this
  have h3 : Below w.heap.size w W := by rw [← hW]; exact ((Below.refl _ w).alloc (Nat.le_refl _) _).alloc (by simp) _
  have h4 : W.heap.size = w.heap.size + 2 := by rw [← hW]; simp
  rw [hW]
  have HW := Lib.hid (And.intro h1 (And.intro h2 (And.intro h3 h4)))
  clear hW h1 h2 h3 h4
  refine (over_law W 80 _).mono ?_; rintro r w1 ⟨rfl, rfl⟩
  go_wp2_with fail
  go_ret
  obtain ⟨h1, h2, h3, h4⟩ := HW.out
  have h5 := Boxed.new W 142 (.func (.func 80) #[] #[.pointer (some ⟨w.heap.size, 0, none⟩), .pointer (some ⟨w.heap.size + 1, 0, none⟩)])
  rw [h4] at h5 ⊢
  exact ⟨rfl, h1.alloc _, h2.alloc _, h5, step_below h3 (bl1 _ _)⟩
set_option maxRecDepth 100000 in
set_option maxHeartbeats 4000000 in
/-- Table's inner function (80). -/
theorem table1_law {S : Nat → Prop} {m : Md} {w : World} (h : MdR S w m) (hS : ∀ k, S k → k < w.heap.size) (B1 B2 : Nat) (t : Nat) (b1 : Boxed w B1 28 (.pointer (some ⟨m.p, 0, none⟩))) (b2 : Boxed w B2 3 (.int .i64 (t : Int))) (ht : t < m.tabs.length) (hf : ∀ z ∈ m.tabs, z.2.length ≤ 900000) :
    Calls Tryz.prog 80 #[.pointer (some ⟨B1, 0, none⟩), .pointer (some ⟨B2, 0, none⟩)] w (PsG okK w (m.P.getD t [])) := by
  have HM := Lib.hid (show Calls Tryz.prog 52 #[.pointer (some ⟨m.p, 0, none⟩), .int .i64 (t : Int)] w fun e w' => e = .returned (.bool true) ∧ w = w' from (mhas_law h t).mono (by
    rintro e w' ⟨h1, h2⟩
    refine ⟨?_, h2⟩
    rw [h1, decide_eq_true (by omega)]))
  have HH := Lib.hid h
  have HSS := Lib.hid hS
  have HX := Lib.hid (And.intro b1 b2)
  have HTL := Lib.hid ht
  have HF := Lib.hid hf
  have c1 := b1.cell
  have c2 := b2.cell
  clear h hS b1 b2 ht hf
  go_enter Tryz.func80, Tryz.ntmps80
  go_upto_region 3 with (go_at_call 52; refine HM.out.mono ?_; rintro e w' ⟨rfl, rfl⟩)
  refine wp_region_held_drew (S := (fun X => Below w.heap.size w X)) (by kernel_rfl) ((Below.refl _ _).drew) (fun hHeld => ?_)
  refine tp 0 ?_ rfl (.inl ⟨by rfl, ?_⟩) ?_
  rotate_left
  · intro W hSw; have m := (boxed_below HX.out.1 hSw).cell; go_simp; try with_reducible rfl
  refine tp 2 ?_ rfl (.inl ⟨by rfl, ?_⟩) ?_
  rotate_left
  · intro W hSw; have m := (boxed_below HX.out.2 hSw).cell; go_simp; try with_reducible rfl
  refine wpAnyH_ready (rs := [1]) (by kernel_rfl) (by simp) ?_
  refine AllReadyH.cons (o := { dst := some 8, op := Op.call { callee := Callee.value (Operand.func 81), args := #[Operand.tmp 7], argTypes := #[28] }, type := 117, pos := "model.go:143", after := #[{ on := 0, ground := Ground.data }], guard := none }) rfl (fun K hK => ?_) AllReadyH.nil
  go_simp
  refine (newtrial_law (HH.out.below hHeld) (fun k hk => Nat.lt_of_lt_of_le (HSS.out k hk) hHeld.size)).mono ?_; rintro r w1 ⟨S1, x1, rfl, hb1, ht1, hws1, hrs1, hsa1, hsb1⟩
  have HB1 := Lib.hid (step_below hHeld hb1)
  have HT1 := Lib.hid (And.intro ht1 hws1)
  clear hb1 ht1 hws1 hrs1 hsa1 hsb1
  go_wp2_with fail
  refine hK.out _ _ HB1.out (fun hHeldn => ?_)
  clear hK K hHeld; have hHeld := hHeldn; clear hHeldn
  try simp only [Act.put, List.setIfInBounds_toArray, List.set_cons_zero, List.set_cons_succ]
  refine wpAnyH_ready (rs := [3]) (by kernel_rfl) (by simp) ?_
  refine AllReadyH.cons (o := { dst := some 10, op := Op.call { callee := Callee.value (Operand.func 82), args := #[Operand.tmp 8, Operand.tmp 9], argTypes := #[117, 3] }, type := 69, pos := "model.go:143", after := #[{ on := 1, ground := Ground.data }, { on := 2, ground := Ground.data }, { on := 1, ground := Ground.chain }], guard := none }) rfl (fun K hK => ?_) AllReadyH.nil
  go_simp
  refine (tpairs_law HT1.out.1 t HTL.out HF.out).mono ?_; rintro r w2 ⟨pa, pc, P, rfl, hb2, hq⟩
  have HB2 := Lib.hid (step_below HB1.out hb2)
  have HQ := Lib.hid hq
  clear hb2 hq
  go_wp2_with fail
  refine hK.out _ _ HB2.out (fun hHeldn => ?_)
  clear hK K hHeld; have hHeld := hHeldn; clear hHeldn
  try simp only [Act.put, List.setIfInBounds_toArray, List.set_cons_zero, List.set_cons_succ]
  refine tp 4 ?_ rfl (.inl ⟨by rfl, ?_⟩) ?_
  rotate_left
  · intro W hSw; go_simp; try with_reducible rfl
  refine wpAnyH_done (by kernel_rfl) ?_ _
  skip
  go_wp2_with fail
  go_ret
  obtain ⟨q1, q2, q3, q4, q5, q6⟩ := HQ.out
  refine ⟨pa, pc, P, rfl, HB2.out, ?_, q2, q3, q4, by omega, fun S' hS' => q6 S' (fun k hk => Nat.lt_of_lt_of_le (hS' k hk) HB1.out.size)⟩
  rw [q1]
  unfold Tl.T
  rw [HT1.out.2]; rfl
/-- A table's pairs, collected. -/
theorem tabcol_law {S : Nat → Prop} {m : Md} {w : World} (h : MdR S w m) (hS : ∀ k, S k → k < w.heap.size) (Bs B1 B2 : Nat) (t : Nat) (b1 : Boxed w B1 28 (.pointer (some ⟨m.p, 0, none⟩))) (b2 : Boxed w B2 3 (.int .i64 (t : Int))) (b3 : Boxed w Bs 142 (.func (.func 80) #[] #[.pointer (some ⟨B1, 0, none⟩), .pointer (some ⟨B2, 0, none⟩)])) (ht : t < m.tabs.length) (hf : ∀ z ∈ m.tabs, z.2.length ≤ 900000) (hT : (m.P.getD t []).length ≤ 2000000) :
    Calls Tryz.prog 72 #[.func (.func 106) #[] #[.pointer (some ⟨Bs, 0, none⟩)]] w (PsG okK w (m.P.getD t [])) := by
  obtain ⟨W0, hW0⟩ : ∃ W0, W0 = w.alloc (.cells #[.slice none 0 0] 69) := ⟨_, rfl⟩
  have hb : Below w.heap.size w W0 := by rw [hW0]; exact bl1 _ _
  have hbx : Boxed W0 w.heap.size 69 (.slice none 0 0) := by rw [hW0]; exact Boxed.new w 69 _
  have hsz : W0.heap.size = w.heap.size + 1 := by rw [hW0]; simp
  have key := over80_x okK 5 (by omega) Bs B1 B2 (m.P.getD t []) W0 (roB w.heap.size) (boxed_below b3 hb) (fun W hW => by
      have hw := step_below hb (hW.mono (Nat.le_refl _))
      exact table1_law (h.below hw) (fun k hk => Nat.lt_of_lt_of_le (hS k hk) hw.size) B1 B2 t (boxed_below b1 hw) (boxed_below b2 hw) ht hf)
    (fun W hW => by rw [roB_of (boxed_below hbx hW)]; rfl) (fun A B hA hAB => roB_eq (hAB.block _ (by omega)))
  rw [hsz, hW0] at key
  exact pcol_law okK w Bs _ hT key
end Go.Proofs.YthmofoldmdafoaaGreat
namespace Go.Proofs.YthmofoldmdafoaaGreat
open Go.ChangeShapes Go.WideShapes Go.ChangeAt Go.RowKit Go.Maps Go.Shelf
set_option linter.unusedVariables false
set_option linter.unusedSimpArgs false

end Go.Proofs.YthmofoldmdafoaaGreat
namespace Go.Proofs.YthmofoldmdafoaaGreat
open Go.ChangeShapes Go.WideShapes Go.ChangeAt Go.RowKit
set_option linter.unusedVariables false
set_option linter.unusedSimpArgs false

end Go.Proofs.YthmofoldmdafoaaGreat
namespace Go.Proofs.YthmofoldmdafoaaGreat
open Go.ChangeShapes Go.WideShapes Go.ChangeAt Go.RowKit Go.Maps Go.Shelf
set_option linter.unusedVariables false
set_option linter.unusedSimpArgs false

attribute [local go_sem] Oper.semAt_some
/-- The key ahead of the k-th. -/
def lastK (T : List Pr) (k : Nat) : List Int := ((T.take k).getLast?.map Prod.fst).getD []
/-- The world while entries goes over. -/
structure ElI (w : World) (a : Option Addr) (n c : Nat) (x : Nat) (T : List Pr) (k : Nat) (W : World) : Prop where
  b4 : Boxed W w.heap.size 69 (.slice a n c)
  b5 : Boxed W (w.heap.size + 1) 3 (.int .i64 (x : Int))
  b6 : Boxed W (w.heap.size + 1 + 1) 3 (.int .i64 0)
  b7 : Boxed W (w.heap.size + 1 + 1 + 1) 3 (.int .i64 (k : Int))
  b8 : Boxed W (w.heap.size + 1 + 1 + 1 + 1) 9 (.string (strOfNums (lastK T k)))
  bel : Below w.heap.size w W
end Go.Proofs.YthmofoldmdafoaaGreat
namespace Go.Proofs.YthmofoldmdafoaaGreat
open Go.ChangeShapes Go.WideShapes Go.ChangeAt Go.RowKit Go.Maps Go.Shelf
set_option linter.unusedVariables false
set_option linter.unusedSimpArgs false

set_option maxRecDepth 100000 in
set_option maxHeartbeats 4000000 in
/-- The document's SameWrites (35), of such that are the same. -/
theorem swrites_yes (a b : Option Addr) (A B : List WrV) (n ca cb : Nat) (hn : A.length = n) (hn2 : n ≤ 1000000) (hsame : A.map WrV.P = B.map WrV.P) (hA : ∀ p ∈ A, p.r.R.length ≤ 1000000 ∧ ∀ q ∈ p.r.R, Byt q.bs) (hB : ∀ p ∈ B, ∀ q ∈ p.r.R, Byt q.bs) (w : World) (hRA : WrR w a A) (hRB : WrR w b B) :
    Calls Tryz.prog 35 #[.slice a n ca, .slice b n cb] w fun r w' => r = .returned (.bool true) ∧ Below w.heap.size w w' := by
  have HR := Lib.hid (And.intro hRA hRB)
  have hm : B.length = n := by have h := congrArg List.length hsame; rw [List.length_map, List.length_map] at h; omega
  have HN := Lib.hid (And.intro hn hm)
  have HRL := Lib.hid (And.intro hA hB)
  have HSA := Lib.hid hsame
  have hni : (n : Int) ≤ 1000000 := by omega
  clear hn hm hA hB hRA hRB hsame
  have e0 : ((n : Int) != (n : Int)) = false := by simp
  go_enter Tryz.func35, Tryz.ntmps35
  go_wp2_with fail
  go_loopw [5] (fun j wr => ∃ k : Nat, k ≤ n ∧ j = .int .i64 (k : Int) ∧ Hid (Below w.heap.size w wr)) (fun j _ => n - (intOf j).toNat)
  case atStart => exact ⟨0, Nat.zero_le _, rfl, Lib.hid (Below.refl _ _)⟩
  case round =>
    obtain ⟨k, hk, rfl, HBW⟩ := hrel
    by_cases hlt : k < n
    · have dl : (k : Int) < (n : Int) := by omega
      obtain ⟨x, hx⟩ : ∃ x, A[k]? = some x := ⟨_, List.getElem?_eq_getElem (by rw [HN.out.1]; exact hlt)⟩
      obtain ⟨y, hy⟩ : ∃ y, B[k]? = some y := ⟨_, List.getElem?_eq_getElem (by rw [HN.out.2]; exact hlt)⟩
      have hxy : WrV.P x = WrV.P y := by
        have h1 : (A.map WrV.P)[k]? = some (WrV.P x) := by rw [List.getElem?_map, hx]; rfl
        have h2 : (B.map WrV.P)[k]? = some (WrV.P y) := by rw [List.getElem?_map, hy]; rfl
        rw [HSA.out, h2] at h1
        exact (Option.some.inj h1).symm
      have ht : y.t = x.t := (congrArg (fun z => z.1) hxy).symm
      have hK : y.K = x.K := (congrArg (fun z => z.2.1) hxy).symm
      have hP : eqB x.r.R y.r.R = true := decide_eq_true (congrArg (fun z => z.2.2) hxy)
      obtain ⟨b1, o1, e1, c1, c2, c3, l1, r1⟩ := (HR.out.1.below HBW.out) k x hx
      obtain ⟨b2, o2, e2, c4, c5, c6, l2, r2⟩ := (HR.out.2.below HBW.out) k y hy
      rw [ht] at c4
      rw [hK] at c5 l2
      have f : ∀ {p v}, wr.cell? p = some v → ∀ X, Below wr.heap.size wr X → X.cell? p = some v := fun h X b => (b.cell (World.block_lt_of_cell? _ _ h)).trans h
      have HSM := Lib.hid (fun W (b : Below wr.heap.size wr W) => rsame_law x.r.ra y.r.ra x.r.R y.r.R x.r.R.length y.r.R.length x.r.rc y.r.rc rfl rfl (HRL.out.1 x (List.mem_of_getElem? hx)).1 (HRL.out.1 x (List.mem_of_getElem? hx)).2 (HRL.out.2 y (List.mem_of_getElem? hy)) W (r1.below b) (r2.below b))
      rw [hP] at HSM
      obtain ⟨kl, hkl⟩ : ∃ kl, x.K.length = kl := ⟨_, rfl⟩
      rw [hkl] at c2 c5
      have FQ := Lib.hid (fun X (b : Below wr.heap.size wr X) => (⟨f c1 X b, f c2 X b, f c3 X b, f c4 X b, f c5 X b, f c6 X b⟩ : X.cell? ⟨b1, o1 + k * 3, none⟩ = some (.int .i64 x.t) ∧ X.cell? ⟨b1, o1 + k * 3 + 1, none⟩ = some (.slice x.ka kl x.kc) ∧ X.cell? ⟨b1, o1 + k * 3 + 2, none⟩ = some (.slice x.r.ra x.r.R.length x.r.rc) ∧ X.cell? ⟨b2, o2 + k * 3, none⟩ = some (.int .i64 x.t) ∧ X.cell? ⟨b2, o2 + k * 3 + 1, none⟩ = some (.slice y.ka kl y.kc) ∧ X.cell? ⟨b2, o2 + k * 3 + 2, none⟩ = some (.slice y.r.ra y.r.R.length y.r.rc)))
      have HLX := Lib.hid (And.intro l1 l2)
      have HKL := Lib.hid hkl
      clear hx hy hxy ht hK hP c1 c2 c3 c4 c5 c6 l1 l2 r1 r2 f hkl
      subst e1
      subst e2
      go_upto_region 6 with (fail)
      refine wp_region_held_drew (S := (fun X => Below wr.heap.size wr X)) (by kernel_rfl) ((Below.refl _ _).drew) (fun hHeld => ?_)
      refine tp 0 ?_ rfl (.inl ⟨by rfl, ?_⟩) ?_
      rotate_left
      · intro W hSw; go_simp; try with_reducible rfl
      refine tp 1 ?_ rfl (.inl ⟨by rfl, ?_⟩) ?_
      rotate_left
      · intro W hSw; go_simp; try with_reducible rfl
      refine tp 2 ?_ rfl (.inl ⟨by rfl, ?_⟩) ?_
      rotate_left
      · intro W hSw; go_simp; try with_reducible rfl
      refine tp 3 ?_ rfl (.inl ⟨by rfl, ?_⟩) ?_
      rotate_left
      · intro W hSw; go_simp; try with_reducible rfl
      refine tp 4 ?_ rfl (.inl ⟨by rfl, ?_⟩) ?_
      rotate_left
      · intro W hSw; obtain ⟨z0, z1, z2, z3, z4, z5⟩ := FQ.out W hSw; go_simp; try with_reducible rfl
      refine tp 5 ?_ rfl (.inl ⟨by rfl, ?_⟩) ?_
      rotate_left
      · intro W hSw; go_simp; try with_reducible rfl
      refine tp 6 ?_ rfl (.inl ⟨by rfl, ?_⟩) ?_
      rotate_left
      · intro W hSw; go_simp; try with_reducible rfl
      refine tp 7 ?_ rfl (.inl ⟨by rfl, ?_⟩) ?_
      rotate_left
      · intro W hSw; go_simp; try with_reducible rfl
      refine tp 8 ?_ rfl (.inl ⟨by rfl, ?_⟩) ?_
      rotate_left
      · intro W hSw; go_simp; try with_reducible rfl
      refine tp 9 ?_ rfl (.inl ⟨by rfl, ?_⟩) ?_
      rotate_left
      · intro W hSw; obtain ⟨z0, z1, z2, z3, z4, z5⟩ := FQ.out W hSw; go_simp; try with_reducible rfl
      refine tp 10 (.bool false) rfl (.inl ⟨by rfl, ?_⟩) ?_
      · intro W hSw; go_simp; try simp
      refine tp 11 (.bool false) rfl (.inl ⟨by rfl, ?_⟩) ?_
      · intro W hSw; go_simp; try rfl
      refine tp 12 ?_ rfl (.inl ⟨by rfl, ?_⟩) ?_
      rotate_left
      · intro W hSw; go_simp; try with_reducible rfl
      refine tp 13 ?_ rfl (.inl ⟨by rfl, ?_⟩) ?_
      rotate_left
      · intro W hSw; go_simp; try with_reducible rfl
      refine tp 14 ?_ rfl (.inl ⟨by rfl, ?_⟩) ?_
      rotate_left
      · intro W hSw; go_simp; try with_reducible rfl
      refine tp 15 ?_ rfl (.inl ⟨by rfl, ?_⟩) ?_
      rotate_left
      · intro W hSw; go_simp; try with_reducible rfl
      refine tp 16 ?_ rfl (.inl ⟨by rfl, ?_⟩) ?_
      rotate_left
      · intro W hSw; obtain ⟨z0, z1, z2, z3, z4, z5⟩ := FQ.out W hSw; go_simp; try with_reducible rfl
      refine tp 17 ?_ rfl (.inl ⟨by rfl, ?_⟩) ?_
      rotate_left
      · intro W hSw; have hcv := kc2 W x.ka kl x.kc x.K HKL.out (HLX.out.1.below hSw); go_simp; try with_reducible rfl
      refine tp 18 ?_ rfl (.inl ⟨by rfl, ?_⟩) ?_
      rotate_left
      · intro W hSw; go_simp; try with_reducible rfl
      refine tp 19 ?_ rfl (.inl ⟨by rfl, ?_⟩) ?_
      rotate_left
      · intro W hSw; go_simp; try with_reducible rfl
      refine tp 20 ?_ rfl (.inl ⟨by rfl, ?_⟩) ?_
      rotate_left
      · intro W hSw; go_simp; try with_reducible rfl
      refine tp 21 ?_ rfl (.inl ⟨by rfl, ?_⟩) ?_
      rotate_left
      · intro W hSw; go_simp; try with_reducible rfl
      refine tp 22 ?_ rfl (.inl ⟨by rfl, ?_⟩) ?_
      rotate_left
      · intro W hSw; obtain ⟨z0, z1, z2, z3, z4, z5⟩ := FQ.out W hSw; go_simp; try with_reducible rfl
      refine tp 23 ?_ rfl (.inl ⟨by rfl, ?_⟩) ?_
      rotate_left
      · intro W hSw; have hcv := kc2 W y.ka kl y.kc x.K HKL.out (HLX.out.2.below hSw); go_simp; try with_reducible rfl
      refine tp 24 (.bool false) rfl (.inl ⟨by rfl, ?_⟩) ?_
      · intro W hSw; go_simp; try simp
      refine tp 25 ?_ rfl (.inl ⟨by rfl, ?_⟩) ?_
      rotate_left
      · intro W hSw; go_simp; try with_reducible rfl
      refine tp 26 (.bool false) rfl (.inl ⟨by rfl, ?_⟩) ?_
      · intro W hSw; go_simp; try rfl
      refine tp 27 ?_ rfl (.inl ⟨by rfl, ?_⟩) ?_
      rotate_left
      · intro W hSw; go_simp; try with_reducible rfl
      refine tp 28 ?_ rfl (.inl ⟨by rfl, ?_⟩) ?_
      rotate_left
      · intro W hSw; go_simp; try with_reducible rfl
      refine tp 29 ?_ rfl (.inl ⟨by rfl, ?_⟩) ?_
      rotate_left
      · intro W hSw; go_simp; try with_reducible rfl
      refine tp 30 ?_ rfl (.inl ⟨by rfl, ?_⟩) ?_
      rotate_left
      · intro W hSw; go_simp; try with_reducible rfl
      refine tp 31 ?_ rfl (.inl ⟨by rfl, ?_⟩) ?_
      rotate_left
      · intro W hSw; obtain ⟨z0, z1, z2, z3, z4, z5⟩ := FQ.out W hSw; go_simp; try with_reducible rfl
      refine tp 32 ?_ rfl (.inl ⟨by rfl, ?_⟩) ?_
      rotate_left
      · intro W hSw; go_simp; try with_reducible rfl
      refine tp 33 ?_ rfl (.inl ⟨by rfl, ?_⟩) ?_
      rotate_left
      · intro W hSw; go_simp; try with_reducible rfl
      refine tp 34 ?_ rfl (.inl ⟨by rfl, ?_⟩) ?_
      rotate_left
      · intro W hSw; go_simp; try with_reducible rfl
      refine tp 35 ?_ rfl (.inl ⟨by rfl, ?_⟩) ?_
      rotate_left
      · intro W hSw; go_simp; try with_reducible rfl
      refine tp 36 ?_ rfl (.inl ⟨by rfl, ?_⟩) ?_
      rotate_left
      · intro W hSw; obtain ⟨z0, z1, z2, z3, z4, z5⟩ := FQ.out W hSw; go_simp; try with_reducible rfl
      refine wpAnyH_ready (rs := [37]) (by kernel_rfl) (by simp) ?_
      refine AllReadyH.cons (o := { dst := some 54, op := Op.call { callee := Callee.value (Operand.func 20), args := #[Operand.tmp 48, Operand.tmp 53], argTypes := #[50, 50] }, type := 4, pos := "ref.go:444", after := #[{ on := 31, ground := Ground.data }, { on := 36, ground := Ground.data }, { on := 26, ground := Ground.chain }, { on := 26, ground := Ground.guard }], guard := some (26, false) }) rfl (fun K hK => ?_) AllReadyH.nil
      go_simp
      refine (HSM.out _ hHeld).mono ?_; rintro e9 w3 ⟨rfl, hb3⟩
      go_wp2_with fail
      refine hK.out _ _ (step_below hHeld hb3) (fun hHeldn => ?_)
      clear hK K hHeld; have hHeld := hHeldn; clear hHeldn
      try simp only [Act.put, List.setIfInBounds_toArray, List.set_cons_zero, List.set_cons_succ]
      refine tp 38 ?_ rfl (.inl ⟨by rfl, ?_⟩) ?_
      rotate_left
      · intro W hSw; go_simp; try with_reducible rfl
      refine tp 39 ?_ rfl (.inl ⟨by rfl, ?_⟩) ?_
      rotate_left
      · intro W hSw; go_simp; try with_reducible rfl
      refine wpAnyH_done (by kernel_rfl) ?_ _
      skip
      have HBN := Lib.hid (step_below HBW.out hHeld)
      go_wp2_with fail
      go_roundw
      case rel => exact ⟨k + 1, by omega, by go_num, HBN⟩
      case measure => simp [intOf]; omega
    · have dl : ¬ (k : Int) < (n : Int) := by omega
      go_wp2_with fail
      go_ret
      exact ⟨rfl, HBW.out⟩
end Go.Proofs.YthmofoldmdafoaaGreat
namespace Go.Proofs.YthmofoldmdafoaaGreat
open Go.ChangeShapes Go.WideShapes Go.ChangeAt Go.RowKit Go.Shelf
set_option linter.unusedVariables false
set_option linter.unusedSimpArgs false

def TxsR (W : World) (a : Option Addr) (L : List TxnV) : Prop := ∀ (k : Nat) (x : TxnV), L[k]? = some x → ∃ b off, a = some ⟨b, off, none⟩ ∧ (W.cell? ⟨b, off + k * 3, none⟩ = some (.slice x.oa x.on x.oc) ∧ W.cell? ⟨b, off + k * 3 + 1, none⟩ = some (.bool x.sn) ∧ W.cell? ⟨b, off + k * 3 + 2, none⟩ = some (.bool x.ab)) ∧ TxnAt W x
theorem TxsR.below {W W' : World} {a : Option Addr} {L : List TxnV} (h : TxsR W a L) (b : Below W.heap.size W W') : TxsR W' a L := fun k o ho => by
  obtain ⟨g, off, e, ⟨h0, h1, h2⟩, hc⟩ := h k o ho
  have f : ∀ {p v}, W.cell? p = some v → W'.cell? p = some v := fun h => (b.cell (World.block_lt_of_cell? W _ h)).trans h
  exact ⟨g, off, e, ⟨f h0, f h1, f h2⟩, hc.below b⟩
theorem ret_int {k : IntKind} {a b : Int} (h : a = b) : Ending.returned (.int k a) = .returned (.int k b) := by rw [h]
def szGo : List P1 → Nat → Nat
  | [], s => s
  | p :: r, s => if s < 1048576 then szGo r (s + min p.bs.length 1048576) else s
def szF (R : List P1) : Nat := szGo R R.length
theorem szGo_ge : ∀ (R : List P1) (s : Nat), s ≤ szGo R s
  | [], s => Nat.le_refl _
  | p :: r, s => by
    unfold szGo
    split
    · have := szGo_ge r (s + min p.bs.length 1048576); omega
    · omega
theorem szGo_le : ∀ (R : List P1) (s m : Nat), s ≤ m + 2097152 → szGo R s ≤ m + 2097152
  | [], s, m, h => h
  | p :: r, s, m, h => by
    unfold szGo
    split
    · exact szGo_le r _ m (by omega)
    · exact h
theorem szF_ge (R : List P1) : R.length ≤ szF R := szGo_ge R _
theorem szF_le (R : List P1) : szF R ≤ R.length + 2097152 := szGo_le R _ _ (by omega)
theorem szGo_stop (R : List P1) (s : Nat) (h : ¬ s < 1048576) : szGo R s = s := by
  cases R with
  | nil => rfl
  | cons p r => unfold szGo; rw [if_neg h]
theorem szGo_step {R : List P1} {k s : Nat} {p : P1} (hp : R[k]? = some p) (h : s < 1048576) : szGo (R.drop k) s = szGo (R.drop (k + 1)) (s + min p.bs.length 1048576) := by
  obtain ⟨hk, e⟩ := List.getElem?_eq_some_iff.1 hp
  rw [List.drop_eq_getElem_cons hk, szGo, if_pos h, e]
set_option maxRecDepth 100000 in
set_option maxHeartbeats 1000000 in
theorem sizef_law (a : Option Addr) (R : List P1) (n cap : Nat) (hn : R.length = n) (w : World) (hR : RdR w a R) :
    Calls Tryz.prog 50 #[.slice a n cap] w fun r w' => r = .returned (.int .i64 (szF R : Int)) ∧ w' = w := by
  have HR := Lib.hid hR
  have HN := Lib.hid hn
  obtain ⟨ans, hans⟩ : ∃ x, szF R = x := ⟨_, rfl⟩
  have HA := Lib.hid (show szGo R n = ans by rw [← hans, ← hn]; rfl)
  rw [hans]
  clear hR hn hans
  go_enter Tryz.func50, Tryz.ntmps50
  go_wp2_with fail
  go_loopw [3, 4] (fun x i wr => ∃ k s : Nat, k ≤ n ∧ i = .int .i64 k ∧ x = .int .i64 s ∧ n ≤ s ∧ Hid (szGo (R.drop k) s = ans) ∧ w = wr) (fun _ i _ => n - (intOf i).toNat)
  case atStart => exact ⟨0, n, by omega, rfl, rfl, by omega, Lib.hid (by simpa using HA.out), rfl⟩
  case round =>
    obtain ⟨k, s, hk, rfl, rfl, hns, HS, rfl⟩ := hrel
    by_cases hlt : k < n
    · have hkl : (k : Int) < (n : Int) := by omega
      by_cases hs2 : s < 1048576
      · have hsl : (s : Int) < 1048576 := by omega
        have hs9 : (s : Int) ≤ 1048576 := by omega
        obtain ⟨p, hp⟩ : ∃ p, R[k]? = some p := ⟨_, List.getElem?_eq_getElem (by rw [HN.out]; exact hlt)⟩
        obtain ⟨b1, o1, e1, c1, l1⟩ := HR.out k p hp
        subst e1
        have c2 : w.cell? ⟨b1, o1 + k, none⟩ = some (.slice p.ad p.bs.length p.cap) := c1
        have HST := Lib.hid (show szGo (R.drop (k + 1)) (s + min p.bs.length 1048576) = ans by rw [← szGo_step hp hs2]; exact HS.out)
        obtain ⟨m, hm⟩ : ∃ m, p.bs.length = m := ⟨_, rfl⟩
        rw [hm] at c2 HST
        clear c1 hp hm l1
        by_cases hm2 : m < 1048576
        · have hml : (m : Int) < 1048576 := by omega
          have HX := Lib.hid (show szGo (R.drop (k + 1)) (s + m) = ans by rw [← HST.out]; congr 1; omega)
          go_wp2_with fail
          go_roundw
          case rel => exact ⟨k + 1, s + m, by omega, by go_num, by go_num, by omega, HX, trivial⟩
          case measure => simp [intOf]; omega
        · have hml : ¬ (m : Int) < 1048576 := by omega
          have HX := Lib.hid (show szGo (R.drop (k + 1)) (s + 1048576) = ans by rw [← HST.out]; congr 1; omega)
          go_wp2_with fail
          go_roundw
          case rel => exact ⟨k + 1, s + 1048576, by omega, by go_num, by go_num, by omega, HX, trivial⟩
          case measure => simp [intOf]; omega
      · have hsl : ¬ (s : Int) < 1048576 := by omega
        have HE := Lib.hid (show ans = s by rw [← HS.out, szGo_stop _ _ hs2])
        go_wp2_with fail
        go_ret
        exact ⟨ret_int (by rw [HE.out]), rfl⟩
    · have hkl : ¬ (k : Int) < (n : Int) := by omega
      have HE := Lib.hid (show ans = s by rw [← HS.out, List.drop_of_length_le (by rw [HN.out]; omega)]; rfl)
      go_wp2_with fail
      go_ret
      exact ⟨ret_int (by rw [HE.out]), rfl⟩
/-- What is told of calls that are not too many. -/
def MuO (L : List CallV) (r : Ending) : Prop := ∃ b, r = .returned (.bool b) ∧ (b = false → L.length ≤ 9000 ∧ ∀ o ∈ L, o.rn ≤ 9000)
set_option maxRecDepth 100000 in
set_option maxHeartbeats 4000000 in
theorem muchops_law (a : Option Addr) (L : List CallV) (n cap : Nat) (hL : L.length = n) (hn : n ≤ 140737488355328) (hB : ∀ o ∈ L, o.rn ≤ 140737488355328) (w : World) (hA : OpsR w a L) :
    Calls Tryz.prog 74 #[.slice a n cap, .int .i64 9000] w fun r w' => MuO L r ∧ Below w.heap.size w w' := by
  have HA := Lib.hid (fun W (b : Below w.heap.size w W) => hA.below b)
  have HL := Lib.hid hL
  have HBD := Lib.hid hB
  have hni : (n : Int) ≤ 140737488355328 := by omega
  clear hA hL hB
  go_enter Tryz.func74, Tryz.ntmps74
  go_wp2_with fail
  go_loopw [5, 6] (fun x i wr => ∃ k s : Nat, k ≤ n ∧ i = .int .i64 (k : Int) ∧ x = .int .i64 (s : Int) ∧ k ≤ s ∧ s ≤ 281474976710656 ∧ Hid (s ≤ 9000 → ∀ q, q < k → ∀ o, L[q]? = some o → o.rn ≤ 9000) ∧ Hid (Below w.heap.size w wr)) (fun _ i _ => n - (intOf i).toNat)
  case atStart => exact ⟨0, 0, by omega, rfl, rfl, by omega, by omega, Lib.hid (fun _ q hq => absurd hq (by omega)), Lib.hid (Below.refl _ _)⟩
  case round =>
    obtain ⟨k, s, hk, rfl, rfl, hks, hs2, HP, BB⟩ := hrel
    have hsb : (s : Int) ≤ 281474976710656 := by omega
    by_cases hlt : k < n
    · have hkl : (k : Int) < (n : Int) := by omega
      by_cases hs : s ≤ 9000
      · have hsi : (s : Int) ≤ 9000 := by omega
        have hki : (k : Int) ≤ 9000 := by omega
        obtain ⟨o, ho⟩ : ∃ o, L[k]? = some o := ⟨_, List.getElem?_eq_getElem (by rw [HL.out]; exact hlt)⟩
        obtain ⟨b1, o1, ea, ⟨d0, d1, d2, d3, d4, d5, d6⟩, hc⟩ := HA.out _ BB.out k o ho
        subst ea
        have hrn := HBD.out o (List.mem_of_getElem? ho)
        have hg := szF_ge o.R
        have hle := szF_le o.R
        rw [hc.rl] at hg hle
        have HSZ := Lib.hid (fun m => (sizef_law o.ra o.R o.rn o.rc hc.rl (wr.drewN m) (hc.below (below_drewN (Below.refl _ _) m)).rs))
        obtain ⟨z, hz⟩ : ∃ z, szF o.R = z := ⟨_, rfl⟩
        rw [hz] at hg hle HSZ
        have HO := Lib.hid ho
        have hz0 : (0 : Int) ≤ (z : Int) := by omega
        have hz1 : (z : Int) ≤ 140737490452480 := by omega
        clear ho hc hz
        obtain ⟨km, hkm⟩ : ∃ km : Nat, km = min o.kn 9001 := ⟨_, rfl⟩
        obtain ⟨tm, htm⟩ : ∃ tm : Nat, tm = min o.tn 9001 := ⟨_, rfl⟩
        have HST := Lib.hid (show s + 1 + km + tm + z ≤ 9000 → ∀ q, q < k + 1 → ∀ o, L[q]? = some o → o.rn ≤ 9000 from fun h q hq p hp => by
          by_cases e : q = k
          · subst e; rw [HO.out] at hp; cases hp; omega
          · exact HP.out (by omega) q (by omega) p hp)
        have w1 : IntKind.i64.wrap ((s : Int) + 1) = (s : Int) + 1 := IntWalk.i64_in _ (by omega)
        have w2 : IntKind.i64.wrap ((9000 : Int) + 1) = 9001 := by decide
        have w3 : IntKind.i64.wrap ((s : Int) + 1 + (km : Int)) = (s : Int) + 1 + (km : Int) := IntWalk.i64_in _ (by omega)
        have w4 : IntKind.i64.wrap ((s : Int) + 1 + (km : Int) + (tm : Int)) = (s : Int) + 1 + (km : Int) + (tm : Int) := IntWalk.i64_in _ (by omega)
        have w5 : IntKind.i64.wrap ((s : Int) + 1 + (km : Int) + (tm : Int) + (z : Int)) = (s : Int) + 1 + (km : Int) + (tm : Int) + (z : Int) := IntWalk.i64_in _ (by omega)
        have hfin : s + 1 + km + tm + z ≤ 281474976710656 := by omega
        have m1 : min (o.kn : Int) 9001 = (km : Int) := by omega
        have m2 : min (o.tn : Int) 9001 = (tm : Int) := by omega
        have hkz : k + 1 ≤ s + 1 + km + tm + z := by omega
        have hcast : ((s : Int) + 1 + (km : Int) + (tm : Int) + (z : Int)) = ((s + 1 + km + tm + z : Nat) : Int) := by omega
        have HC := Lib.hid hcast
        have HKM := Lib.hid hkm
        have HTM := Lib.hid htm
        clear hkm htm hcast
        go_wp2_with fail
        go_quiet ((go_at_call 50; exact Calls.quiet_of_same (HSZ.out _)))
        go_wp2_with fail
        go_roundw
        case rel => exact ⟨k + 1, s + 1 + km + tm + z, by omega, by go_num, by have h1 := HKM.out; have h2 := HTM.out; rw [HC.out], hkz, hfin, HST, Lib.hid (below_drewN BB.out _)⟩
        case measure => simp [intOf]; omega
      · have hsi : ¬ (s : Int) ≤ 9000 := by omega
        have hsj : (9000 : Int) < (s : Int) := by omega
        go_wp2_with fail
        go_ret
        exact ⟨⟨true, rfl, fun h => by cases h⟩, BB.out⟩
    · have hkl : ¬ (k : Int) < (n : Int) := by omega
      by_cases hs : s ≤ 9000
      · have hsi : ¬ (9000 : Int) < (s : Int) := by omega
        have HR := Lib.hid (show L.length ≤ 9000 ∧ ∀ o ∈ L, o.rn ≤ 9000 from ⟨by rw [HL.out]; omega, fun o ho => by
          obtain ⟨q, hq⟩ := List.mem_iff_getElem?.1 ho
          exact HP.out hs q (by have := (List.getElem?_eq_some_iff.1 hq).1; have := HL.out; omega) o hq⟩)
        go_wp2_with fail
        go_ret
        exact ⟨⟨false, rfl, fun _ => HR.out⟩, BB.out⟩
      · have hsi : (9000 : Int) < (s : Int) := by omega
        go_wp2_with fail
        go_ret
        exact ⟨⟨true, rfl, fun h => by cases h⟩, BB.out⟩
/-- What is told of transactions that are not too many. -/
def MuT (L : List TxnV) (r : Ending) : Prop := ∃ b, r = .returned (.bool b) ∧ (b = false → L.length ≤ 9000 ∧ ∀ x ∈ L, x.ops.length ≤ 9000 ∧ ∀ o ∈ x.ops, o.rn ≤ 9000)
def TxG (x : TxnV) : Prop := x.on ≤ 140737488355328 ∧ ∀ o ∈ x.ops, o.rn ≤ 140737488355328
set_option maxRecDepth 100000 in
set_option maxHeartbeats 4000000 in
theorem much9_law (a : Option Addr) (L : List TxnV) (n cap : Nat) (hL : L.length = n) (hn : n ≤ 140737488355328) (hB : ∀ x ∈ L, TxG x) (w : World) (hA : TxsR w a L) :
    Calls Tryz.prog 30 #[.slice a n cap, .int .i64 9000] w fun r w' => MuT L r ∧ Below w.heap.size w w' := by
  have HA := Lib.hid (fun W (b : Below w.heap.size w W) => hA.below b)
  have HL := Lib.hid hL
  have HBD := Lib.hid hB
  have hni : (n : Int) ≤ 140737488355328 := by omega
  clear hA hL hB
  go_enter Tryz.func30, Tryz.ntmps30
  go_wp2_with fail
  go_loopw [5, 6] (fun x i wr => ∃ k s : Nat, k ≤ n ∧ i = .int .i64 (k : Int) ∧ x = .int .i64 (s : Int) ∧ k ≤ s ∧ s ≤ 20000 ∧ Hid (s ≤ 9000 → ∀ q, q < k → ∀ x, L[q]? = some x → x.ops.length ≤ 9000 ∧ ∀ o ∈ x.ops, o.rn ≤ 9000) ∧ Hid (Below w.heap.size w wr)) (fun _ i _ => n - (intOf i).toNat)
  case atStart => exact ⟨0, 0, by omega, rfl, rfl, by omega, by omega, Lib.hid (fun _ q hq => absurd hq (by omega)), Lib.hid (Below.refl _ _)⟩
  case round =>
    obtain ⟨k, s, hk, rfl, rfl, hks, hs2, HP, BB⟩ := hrel
    have hsb : (s : Int) ≤ 20000 := by omega
    by_cases hlt : k < n
    · have hkl : (k : Int) < (n : Int) := by omega
      by_cases hs : s ≤ 9000
      · have hsi : (s : Int) ≤ 9000 := by omega
        have hki : (k : Int) ≤ 9000 := by omega
        obtain ⟨x, ho⟩ : ∃ o, L[k]? = some o := ⟨_, List.getElem?_eq_getElem (by rw [HL.out]; exact hlt)⟩
        obtain ⟨b1, o1, ea, ⟨d0, d1, d2⟩, hc⟩ := HA.out _ BB.out k x ho
        subst ea
        obtain ⟨hx1, hx2⟩ := HBD.out x (List.mem_of_getElem? ho)
        have HM := Lib.hid (muchops_law x.oa x.ops x.on x.oc hc.ol hx1 hx2 wr hc.os)
        have HXL := Lib.hid hc.ol
        have HO := Lib.hid ho
        have hx1i : (x.on : Int) ≤ 140737488355328 := by omega
        have HD0 := Lib.hid (fun W (b : Below wr.heap.size wr W) => (b.cell (World.block_lt_of_cell? _ _ d0)).trans d0)
        clear ho hc hx2
        go_wp2_with fail
        refine HM.out.mono ?_; rintro r w5 ⟨⟨b, rfl, hb⟩, B5⟩
        have H5 := Lib.hid (step_below BB.out B5)
        have HBB := Lib.hid hb
        have e0 := HD0.out _ B5
        clear hb B5 d0 d1 d2
        cases b
        · obtain ⟨hl9, ho9⟩ := HBB.out rfl
          have hon9 : x.on ≤ 9000 := by have := HXL.out; omega
          have hon9i : (x.on : Int) ≤ 9000 := by omega
          have HST := Lib.hid (show s + 1 + x.on ≤ 9000 → ∀ q, q < k + 1 → ∀ x, L[q]? = some x → x.ops.length ≤ 9000 ∧ ∀ o ∈ x.ops, o.rn ≤ 9000 from fun h q hq p hp => by
            by_cases e : q = k
            · subst e; rw [HO.out] at hp; cases hp; exact ⟨hl9, ho9⟩
            · exact HP.out (by omega) q (by omega) p hp)
          clear hl9 ho9
          go_wp2_with fail
          go_roundw
          case rel => exact ⟨k + 1, s + 1 + x.on, by omega, by go_num, by go_num, by omega, by omega, HST, H5⟩
          case measure => simp [intOf]; omega
        · go_wp2_with fail
          try rw [Exit.noGoto_ret]
          go_ret
          exact ⟨⟨true, rfl, fun h => by cases h⟩, H5.out⟩
      · have hsi : ¬ (s : Int) ≤ 9000 := by omega
        have hsj : (9000 : Int) < (s : Int) := by omega
        go_wp2_with fail
        go_ret
        exact ⟨⟨true, rfl, fun h => by cases h⟩, BB.out⟩
    · have hkl : ¬ (k : Int) < (n : Int) := by omega
      by_cases hs : s ≤ 9000
      · have hsi : ¬ (9000 : Int) < (s : Int) := by omega
        have HR := Lib.hid (show L.length ≤ 9000 ∧ ∀ x ∈ L, x.ops.length ≤ 9000 ∧ ∀ o ∈ x.ops, o.rn ≤ 9000 from ⟨by rw [HL.out]; omega, fun o ho => by
          obtain ⟨q, hq⟩ := List.mem_iff_getElem?.1 ho
          exact HP.out hs q (by have := (List.getElem?_eq_some_iff.1 hq).1; have := HL.out; omega) o hq⟩)
        go_wp2_with fail
        go_ret
        exact ⟨⟨false, rfl, fun _ => HR.out⟩, BB.out⟩
      · have hsi : (9000 : Int) < (s : Int) := by omega
        go_wp2_with fail
        go_ret
        exact ⟨⟨true, rfl, fun h => by cases h⟩, BB.out⟩
end Go.Proofs.YthmofoldmdafoaaGreat
namespace Go.Proofs.YthmofoldmdafoaaGreat
open Go.ChangeShapes Go.WideShapes Go.ChangeAt Go.RowKit Go.Maps Go.Shelf
set_option linter.unusedVariables false
set_option linter.unusedSimpArgs false

theorem no_row {R : List P1} (h : R.map P1.bs = []) : R = [] := List.map_eq_nil_iff.1 h
theorem one_row {R : List P1} {x : List Int} (h : R.map P1.bs = [x]) : ∃ a c, R = [⟨a, c, x⟩] := by
  match R, h with
  | [⟨a, c, y⟩], h => exact ⟨a, c, by simp at h; rw [h]⟩
theorem two_rows {R : List P1} {x y : List Int} (h : R.map P1.bs = [x, y]) : ∃ a c b d, R = [⟨a, c, x⟩, ⟨b, d, y⟩] := by
  match R, h with
  | [⟨a, c, u⟩, ⟨b, d, v⟩], h => exact ⟨a, c, b, d, by simp at h; rw [h.1, h.2]⟩
/-- op (32), with the text as it is. -/
theorem opc_law (k0 : Int) (s : List Int) (str : ByteArray) (he : strOfNums s = str) (bS : Byt s) (hs : s.length ≤ 1000) (fa : Option Addr) (n c : Nat) (F : List (List Int)) (hF : F.length = n) (hn : n ≤ 1000) (bF : ∀ f ∈ F, Byt f ∧ f.length ≤ 1000) (w : World) (hS : StrR w fa F) :
    Calls Tryz.prog 32 #[.int .i64 k0, .string str, .slice fa n c] w (OpR w k0 s F) := by
  subst he
  exact op_law k0 s bS hs fa n c F hF hn bF w hS
theorem strs_at {W : World} {B : Nat} {cs : Array Value} (F : List (List Int)) (h : BoxC W B cs 9) (he : cs.toList = F.map fun s => .string (strOfNums s)) : StrR W (some ⟨B, 0, none⟩) F := fun k s hs => by
  refine ⟨B, 0, rfl, ?_⟩
  have := h.cell k
  rw [Nat.zero_add, this, ← Array.getElem?_toList, he, List.getElem?_map, hs]; rfl
theorem strs_no (W : World) (a : Option Addr) : StrR W a [] := fun k s hs => by simp at hs
/-- The cells of a call. -/
def ocl (o : CallV) : List Value := [.int .i64 o.k, .int .i64 o.t, .int .i64 o.i, .slice o.ka o.kn o.kc, .slice o.ta o.tn o.tc, .int .i64 o.m, .slice o.ra o.rn o.rc]
theorem ops_new {S : Nat → Prop} {W : World} {cs : Array Value} (L : List CallV) (hc : cs = (cellsOf ocl L).toArray) (hS : ∀ k, S k → k < W.heap.size) (hst : ∀ o ∈ L, Stay S W fun W' => CallAt W' o) : Stay S (W.alloc (.cells cs 74)) fun W' => OpsR W' (some ⟨W.heap.size, 0, none⟩) L := fun W' o k x hx => by
  have hb : BoxC W' W.heap.size (cellsOf ocl L).toArray 74 := boxc_off (by rw [hc]; exact BoxC.new W _ _) o (fun e => by have := hS _ e; omega)
  have hcell : ∀ i, i < 7 → W'.cell? ⟨W.heap.size, 0 + k * 7 + i, none⟩ = (ocl x)[i]? := fun i hi => by
    rw [Nat.zero_add, hb.cell (k * 7 + i)]
    rw [List.getElem?_toArray]
    exact cellsOf_at (f := ocl) (sz := 7) (fun _ => rfl) L k i x hx hi
  refine ⟨W.heap.size, 0, rfl, ⟨?_, ?_, ?_, ?_, ?_, ?_, ?_⟩, (hst x (List.mem_of_getElem? hx)) W' ((Off.of (bl1 _ _)).trans o)⟩
  · exact (hcell 0 (by omega))
  · exact (hcell 1 (by omega))
  · exact (hcell 2 (by omega))
  · exact (hcell 3 (by omega))
  · exact (hcell 4 (by omega))
  · exact (hcell 5 (by omega))
  · exact (hcell 6 (by omega))
/-- Do, of what may be. -/
def DoY (S : Nat → Prop) (w : World) (m : Md) (x : TxnV) (r : Ending) (w' : World) : Prop :=
  ∃ m' a c rs, r = .returned (.tuple #[.slice a rs.length c, .int .i64 0]) ∧ MdR S w' m' ∧ MdSame m m' ∧ m'.P = applyT m.P (wsI (wrtP m.j m.P x)) ∧ Off (Maps' m) w w' ∧ (∀ N : Nat, (∀ x ∈ m.tabs, x.2.length ≤ N) → ∀ x ∈ m'.tabs, x.2.length ≤ N + 16) ∧ rs.map resC = ansP m.j m.P x ∧ (∀ y ∈ rs, ResOk y) ∧ Stay S w' fun W => ResR W a rs
theorem do_yes {S : Nat → Prop} {m : Md} {w : World} (h : MdR S w m) (hS : ∀ k, S k → k < w.heap.size) (x : TxnV) (hx : Stay S w fun W => TxnAt W x) (hon : x.on ≤ 1000000) (hrn : ∀ o ∈ x.ops, o.rn ≤ 1000000) (hf : ∀ z ∈ m.tabs, z.2.length ≤ 300000) (hm : mayT m.j x = true) :
    Calls Tryz.prog 24 #[.pointer (some ⟨m.p, 0, none⟩), .agg #[.slice x.oa x.on x.oc, .bool x.sn, .bool x.ab]] w (DoY S w m x) := (do_law h hS x hx hon hrn hf).mono fun r w' h => by
  unfold DoR at h
  rw [if_pos hm] at h
  exact h
def opV (k : Int) (s : List Int) (ka : Option Addr) (kc : Nat) (ra : Option Addr) (rc : Nat) (R : List P1) : CallV := ⟨k, 0, 0, ka, s.length, kc, s, none, 0, 0, [], 0, ra, R.length, rc, R⟩
def jobK (a : Option Addr) (c : Nat) : Job := ⟨1, 1, 3, 1024, 1024, 1, a, 1, c, [1]⟩
def b1 (a : Option Addr) (c : Nat) (x : Int) : P1 := ⟨a, c, [x]⟩
theorem may1 (a : Option Addr) (c : Nat) (oa : Option Addr) (oc : Nat) (k1 k2 k3 k4 r1 r2 r3 r4 : Option Addr) (d1 d2 d3 d4 e1 e2 e3 e4 : Nat) (p1 p2 p3 : Option Addr) (q1 q2 q3 : Nat) :
    mayT (jobK a c) ⟨oa, 4, oc, [opV 3 [97] k1 d1 r1 e1 [b1 p1 q1 120, b1 p2 q2 121], opV 3 [97] k2 d2 r2 e2 [b1 p3 q3 122], opV 1 [97] k3 d3 r3 e3 [], opV 4 [98] k4 d4 r4 e4 []], false, false⟩ = true := by rfl
theorem ans1 (a : Option Addr) (c : Nat) (oa : Option Addr) (oc : Nat) (k1 k2 k3 k4 r1 r2 r3 r4 : Option Addr) (d1 d2 d3 d4 e1 e2 e3 e4 : Nat) (p1 p2 p3 : Option Addr) (q1 q2 q3 : Nat) :
    ansP (jobK a c) [[]] ⟨oa, 4, oc, [opV 3 [97] k1 d1 r1 e1 [b1 p1 q1 120, b1 p2 q2 121], opV 3 [97] k2 d2 r2 e2 [b1 p3 q3 122], opV 1 [97] k3 d3 r3 e3 [], opV 4 [98] k4 d4 r4 e4 []], false, false⟩ = [(0, []), (7, []), (0, [([97], [[120], [121]])]), (6, [])] := by rfl
theorem wrt1 (a : Option Addr) (c : Nat) (oa : Option Addr) (oc : Nat) (k1 k2 k3 k4 r1 r2 r3 r4 : Option Addr) (d1 d2 d3 d4 e1 e2 e3 e4 : Nat) (p1 p2 p3 : Option Addr) (q1 q2 q3 : Nat) :
    applyT [[]] (wsI (wrtP (jobK a c) [[]] ⟨oa, 4, oc, [opV 3 [97] k1 d1 r1 e1 [b1 p1 q1 120, b1 p2 q2 121], opV 3 [97] k2 d2 r2 e2 [b1 p3 q3 122], opV 1 [97] k3 d3 r3 e3 [], opV 4 [98] k4 d4 r4 e4 []], false, false⟩)) = [[([97], [[120], [121]])]] := by rfl

def opL (ka : Option Addr) (kc : Nat) : CallV := ⟨6, 0, 0, ka, 1, kc, [119], none, 0, 0, [], 9, none, 0, 0, []⟩
def opS : CallV := ⟨5, 0, 0, none, 0, 0, [], none, 0, 0, [], 1, none, 0, 0, []⟩
theorem may2 (a : Option Addr) (c : Nat) (oa : Option Addr) (oc : Nat) (k1 k2 r1 : Option Addr) (d1 d2 e1 : Nat) (p1 p2 : Option Addr) (q1 q2 : Nat) :
    mayT (jobK a c) ⟨oa, 3, oc, [opV 2 [98] k1 d1 r1 e1 [b1 p1 q1 120, b1 p2 q2 119], opL k2 d2, opS], false, false⟩ = true := by rfl
theorem wrt2 (a : Option Addr) (c : Nat) (oa : Option Addr) (oc : Nat) (k1 k2 r1 : Option Addr) (d1 d2 e1 : Nat) (p1 p2 : Option Addr) (q1 q2 : Nat) :
    applyT [[([97], [[120], [121]])]] (wsI (wrtP (jobK a c) [[([97], [[120], [121]])]] ⟨oa, 3, oc, [opV 2 [98] k1 d1 r1 e1 [b1 p1 q1 120, b1 p2 q2 119], opL k2 d2, opS], false, false⟩)) = [[([97], [[120], [121]]), ([98], [[120], [119]])]] := by rfl
theorem srt2 (a : Option Addr) (c : Nat) : lookE (jobK a c) 0 (trV (jobK a c) 0 0).1 [([97], [[120], [121]]), ([98], [[120], [119]])] = [([119, 0, 1, 98], ([98], [[120], [119]])), ([121, 0, 1, 97], ([97], [[120], [121]]))] := by
  have h : lookU (jobK a c) 0 (trV (jobK a c) 0 0).1 [([97], [[120], [121]]), ([98], [[120], [119]])] = [([121, 0, 1, 97], ([97], [[120], [121]])), ([119, 0, 1, 98], ([98], [[120], [119]]))] := by rfl
  unfold lookE
  rw [h]
  simp [List.mergeSort, List.MergeSort.Internal.splitInTwo, leL, ltL]
theorem ans2 (a : Option Addr) (c : Nat) (oa : Option Addr) (oc : Nat) (k1 k2 r1 : Option Addr) (d1 d2 e1 : Nat) (p1 p2 : Option Addr) (q1 q2 : Nat) :
    ansP (jobK a c) [[([97], [[120], [121]])]] ⟨oa, 3, oc, [opV 2 [98] k1 d1 r1 e1 [b1 p1 q1 120, b1 p2 q2 119], opL k2 d2, opS], false, false⟩ = [(0, []), (0, [([98], [[120], [119]]), ([97], [[120], [121]])]), (0, [([97], [[120], [121]])])] := by
  have h := srt2 a c
  have e : ansP (jobK a c) [[([97], [[120], [121]])]] ⟨oa, 3, oc, [opV 2 [98] k1 d1 r1 e1 [b1 p1 q1 120, b1 p2 q2 119], opL k2 d2, opS], false, false⟩ = [(0, []), (0, (winG Prod.fst (frontL [119]) (frontL []) false 9 (lookE (jobK a c) 0 (trV (jobK a c) 0 0).1 [([97], [[120], [121]]), ([98], [[120], [119]])]) []).map Prod.snd), (0, [([97], [[120], [121]])])] := by rfl
  rw [e, h]; rfl
theorem may3 (a : Option Addr) (c : Nat) (oa : Option Addr) (oc : Nat) (k1 k2 r1 r2 : Option Addr) (d1 d2 e1 e2 : Nat) :
    mayT (jobK a c) ⟨oa, 2, oc, [opV 4 [97] k1 d1 r1 e1 [], opV 1 [97] k2 d2 r2 e2 []], false, true⟩ = true := by rfl
theorem ans3 (a : Option Addr) (c : Nat) (oa : Option Addr) (oc : Nat) (k1 k2 r1 r2 : Option Addr) (d1 d2 e1 e2 : Nat) :
    ansP (jobK a c) [[([97], [[120], [121]]), ([98], [[120], [119]])]] ⟨oa, 2, oc, [opV 4 [97] k1 d1 r1 e1 [], opV 1 [97] k2 d2 r2 e2 []], false, true⟩ = [(0, []), (6, [])] := by rfl
theorem wrt3 (a : Option Addr) (c : Nat) (oa : Option Addr) (oc : Nat) (k1 k2 r1 r2 : Option Addr) (d1 d2 e1 e2 : Nat) :
    applyT [[([97], [[120], [121]]), ([98], [[120], [119]])]] (wsI (wrtP (jobK a c) [[([97], [[120], [121]]), ([98], [[120], [119]])]] ⟨oa, 2, oc, [opV 4 [97] k1 d1 r1 e1 [], opV 1 [97] k2 d2 r2 e2 []], false, true⟩)) = [[([97], [[120], [121]]), ([98], [[120], [119]])]] := by rfl
theorem may4 (a : Option Addr) (c : Nat) (oa : Option Addr) (oc : Nat) (k1 k2 k3 r1 r2 r3 : Option Addr) (d1 d2 d3 e1 e2 e3 : Nat) (p1 p2 : Option Addr) (q1 q2 : Nat) :
    mayT (jobK a c) ⟨oa, 3, oc, [opV 2 [99] k1 d1 r1 e1 [b1 p1 q1 122], opV 4 [99] k2 d2 r2 e2 [], opV 3 [97] k3 d3 r3 e3 [b1 p2 q2 113]], false, false⟩ = true := by rfl
theorem wrt4 (a : Option Addr) (c : Nat) (oa : Option Addr) (oc : Nat) (k1 k2 k3 r1 r2 r3 : Option Addr) (d1 d2 d3 e1 e2 e3 : Nat) (p1 p2 : Option Addr) (q1 q2 : Nat) :
    wrtP (jobK a c) [[([97], [[120], [121]]), ([98], [[120], [119]])]] ⟨oa, 3, oc, [opV 2 [99] k1 d1 r1 e1 [b1 p1 q1 122], opV 4 [99] k2 d2 r2 e2 [], opV 3 [97] k3 d3 r3 e3 [b1 p2 q2 113]], false, false⟩ = [(0, [99], [])] := by rfl
end Go.Proofs.YthmofoldmdafoaaGreat
