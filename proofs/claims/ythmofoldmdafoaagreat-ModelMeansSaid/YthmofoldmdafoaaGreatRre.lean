/- ModelReads: a transaction that reads alone writes nothing, and is answered the same again and again; for every input. Part 5. -/
import Derived.Test.YthmofoldmdafoaaGreatRrd
import Derived.RangeFuncNested
import Derived.RangeFuncBound
import Derived.RangeFuncCalls
import Derived.RangeFuncLeaves
import Derived.Shelf.Abstract
import Derived.Shelf.RegionOpen
import Derived.OwnWalkIn
import Derived.TacticsInMore
import Derived.LoopNIn
import Derived.LoopIn
import Derived.Maps.OwnIn
import Derived.Sort.MapsRangeIn
import Derived.Test.YthmofoldmdafoaaGreatRra
namespace Go.Proofs.YthmofoldmdafoaaGreat
open Go.ChangeShapes Go.WideShapes Go.ChangeAt Go.RowKit Go.Maps
set_option linter.unusedVariables false
set_option linter.unusedSimpArgs false
set_option maxRecDepth 100000 in
set_option maxHeartbeats 4000000 in
/-- remove (126). -/
theorem tremove_law {S : Nat → Prop} {base : Nat} {w : World} {m : Md} {x : Tl} (h : TlR S base w m x) (hbs : base ≤ w.heap.size) (o : CallV) (t : Nat) (ho : OpG S w m o t) (hf : x.ws.length < 1000) :
    Calls Tryz.prog 126 #[.pointer (some ⟨x.px, 0, none⟩), .agg #[.int .i64 o.k, .int .i64 o.t, .int .i64 o.i, .slice o.ka o.kn o.kc, .slice o.ta o.tn o.tc, .int .i64 o.m, .slice o.ra o.rn o.rc]] w (CallR S base w m x (if (getWP m.P (x.ws.map WtV.P) t o.K).isSome then ((0, []) : Int × List Pr) else (6, [])) (if (getWP m.P (x.ws.map WtV.P) t o.K).isSome then setW (x.ws.map WtV.P) t o.K [] else x.ws.map WtV.P)) := by
  obtain ⟨hb, hbx⟩ := boxes2 w #[.int .i64 o.k, .int .i64 o.t, .int .i64 o.i, .slice o.ka o.kn o.kc, .slice o.ta o.tn o.tc, .int .i64 o.m, .slice o.ra o.rn o.rc] #[.int .i64 0, .slice none 0 0] 74 81
  have hst := ho.at'.now
  obtain ⟨w2, hw2⟩ : ∃ W, W = ((w.alloc (.cells #[.int .i64 o.k, .int .i64 o.t, .int .i64 o.i, .slice o.ka o.kn o.kc, .slice o.ta o.tn o.tc, .int .i64 o.m, .slice o.ra o.rn o.rc] 74)).alloc (.cells #[.int .i64 0, .slice none 0 0] 81)) := ⟨_, rfl⟩
  rw [← hw2] at hb hbx
  have h2 := h.below hb
  have hat2 := ho.at'.below hb
  obtain ⟨c0, c1, c2, c3, c4⟩ := h2.c
  have hbx2 := hbx w2 (Below.refl _ _)
  have HX := Lib.hid (fun X (b : Below w2.heap.size w2 X) => (⟨(b.cell (World.block_lt_of_cell? w2 _ c4)).trans c4, by rw [(hbx X b).1.cell]; simp only [List.getElem?_toArray, List.getElem?_cons_zero, List.getElem?_cons_succ]; rw [ho.te], by rw [(hbx X b).1.cell]; simp only [List.getElem?_toArray, List.getElem?_cons_zero, List.getElem?_cons_succ], conv_ls X o.ka o.kn o.kc o.K hst.kl (hat2.below b).now.ks.rd⟩ : X.cell? ⟨x.px, 4, none⟩ = some (.func (.func 107) #[] #[.pointer (some ⟨x.bx, 0, none⟩), .pointer (some ⟨x.bm, 0, none⟩)]) ∧ X.cell? ⟨w.heap.size, 1, none⟩ = some (.int .i64 (t : Int)) ∧ X.cell? ⟨w.heap.size, 3, none⟩ = some (.slice o.ka o.kn o.kc) ∧ (convert 42 9 (.slice o.ka o.kn o.kc)).run Tryz.prog X = .ok (.string (strOfNums o.K)) X))
  have HG := Lib.hid (fun X (b : Below w2.heap.size w2 X) => tget_law (h2.below b) t ho.tl o.K ho.ko.1 (by have := ho.ko.2; omega))
  have HH := Lib.hid (And.intro h (And.intro hbs (And.intro hb hbx)))
  have HO := Lib.hid ho
  have HP := Lib.hid (getX_P m x ho.tl o.K)
  have HW2 := Lib.hid hw2
  have HF := Lib.hid hf
  obtain ⟨g, hg⟩ : ∃ g, getX m x t o.K = g := ⟨_, rfl⟩
  rw [hg] at HG HP
  have HGX := Lib.hid hg
  clear h hbs ho hf h2 hat2 hst hb hbx hbx2 c0 c1 c2 c3 c4 hg
  rw [← HP.out]
  clear HP
  cases g with
  | none =>
    rw [if_neg (show ¬ (Option.map RV.P (none : Option RV)).isSome = true from fun e => by cases e), if_neg (show ¬ (Option.map RV.P (none : Option RV)).isSome = true from fun e => by cases e)]
    go_enter Tryz.func126, Tryz.ntmps126
    go_upto_region 1 with (fail)
    rw [← hw2]
    clear hw2
    refine wp_region_held_drew (S := (fun X => Below w2.heap.size w2 X)) (by kernel_rfl) ((Below.refl _ _).drew) (fun hHeld => ?_)
    refine tp 0 ?_ rfl (.inl ⟨by rfl, ?_⟩) ?_
    rotate_left
    · intro W hSw; go_simp; try with_reducible rfl
    refine tp 1 ?_ rfl (.inl ⟨by rfl, ?_⟩) ?_
    rotate_left
    · intro W hSw; go_simp; try with_reducible rfl
    refine tp 2 ?_ rfl (.inl ⟨by rfl, ?_⟩) ?_
    rotate_left
    · intro W hSw; go_simp; try with_reducible rfl
    refine tp 3 ?_ rfl (.inl ⟨by rfl, ?_⟩) ?_
    rotate_left
    · intro W hSw; have m := (HX.out W hSw).1; go_simp; try with_reducible rfl
    refine tp 4 ?_ rfl (.inl ⟨by rfl, ?_⟩) ?_
    rotate_left
    · intro W hSw; go_simp; try with_reducible rfl
    refine tp 5 ?_ rfl (.inl ⟨by rfl, ?_⟩) ?_
    rotate_left
    · intro W hSw; have m := (HX.out W hSw).2.1; go_simp; try with_reducible rfl
    refine tp 6 ?_ rfl (.inl ⟨by rfl, ?_⟩) ?_
    rotate_left
    · intro W hSw; go_simp; try with_reducible rfl
    refine tp 7 ?_ rfl (.inl ⟨by rfl, ?_⟩) ?_
    rotate_left
    · intro W hSw; have m := (HX.out W hSw).2.2.1; go_simp; try with_reducible rfl
    refine tp 8 ?_ rfl (.inl ⟨by rfl, ?_⟩) ?_
    rotate_left
    · intro W hSw; have m := (HX.out W hSw).2.2.2; go_simp; try with_reducible rfl
    refine wpAnyH_ready (rs := [9]) (by kernel_rfl) (by simp) ?_
    refine AllReadyH.cons (o := { dst := some 17, op := Op.call { callee := Callee.value (Operand.tmp 11), args := #[Operand.tmp 13, Operand.tmp 16], argTypes := #[3, 9] }, type := 51, pos := "trial.go:82", after := #[{ on := 3, ground := Ground.data }, { on := 5, ground := Ground.data }, { on := 8, ground := Ground.data }], guard := none }) rfl (fun K hK => ?_) AllReadyH.nil
    go_simp
    refine (HG.out _ hHeld).mono ?_; rintro r w5 ⟨⟨v5, rfl, hv5⟩, rfl⟩
    have HV5 := Lib.hid hv5
    go_wp2_with fail
    try simp only [Option.isSome_some, Option.isSome_none]
    refine hK.out _ _ hHeld (fun hHeldn => ?_)
    clear hK K hHeld hv5; have hHeld := hHeldn; clear hHeldn
    try simp only [Act.put, List.setIfInBounds_toArray, List.set_cons_zero, List.set_cons_succ]
    refine tp 10 ?_ rfl (.inl ⟨by rfl, ?_⟩) ?_
    rotate_left
    · intro W hSw; go_simp; try with_reducible rfl
    refine tp 11 ?_ rfl (.inl ⟨by rfl, ?_⟩) ?_
    rotate_left
    · intro W hSw; go_simp; try with_reducible rfl
    refine tp 12 ?_ rfl (.inl ⟨by rfl, ?_⟩) ?_
    rotate_left
    · intro W hSw; go_simp; try with_reducible rfl
    refine tp 13 ?_ rfl (.inl ⟨by rfl, ?_⟩) ?_
    rotate_left
    · intro W hSw; go_simp; try with_reducible rfl
    refine tp 14 ?_ rfl (.inl ⟨by rfl, ?_⟩) ?_
    rotate_left
    · intro W hSw; go_simp; try with_reducible rfl
    refine wpAnyH_done (by kernel_rfl) ?_ _
    skip

    obtain ⟨w3, hw3⟩ : ∃ W, W = w2.drew := ⟨_, rfl⟩
    rw [← hw3] at hHeld ⊢
    have HB3 := Lib.hid ((HH.out.2.2.2 w3 hHeld).2)
    have HBW := Lib.hid (HH.out.2.2.1.trans (hHeld.mono HH.out.2.2.1.size))
    clear hHeld hw3
    have g0 := HB3.out.cell 0
    have g1 := HB3.out.cell 1
    have i0 := HB3.out.frozen 0
    have i1 := HB3.out.frozen 1
    simp only [List.getElem?_toArray, List.getElem?_cons_zero, List.getElem?_cons_succ] at g0 g1
    go_wp2_with fail
    clear g0 g1 i0 i1
    have hb4 := BoxC.set2 (x := .int .i64 6) (y := .slice none 0 0) HB3.out
    have ho4 : Off (fun k => k = w.heap.size + 1) w3 ((w3.setCell ⟨w.heap.size + 1, 0, none⟩ (.int .i64 6)).setCell ⟨w.heap.size + 1, 1, none⟩ (.slice none 0 0)) :=
      Off.set (S := fun k => k = w.heap.size + 1) (Off.set (S := fun k => k = w.heap.size + 1) (Off.refl _ w3) ⟨w.heap.size + 1, 0, none⟩ rfl _) ⟨w.heap.size + 1, 1, none⟩ rfl _
    revert hb4 ho4
    generalize (w3.setCell ⟨w.heap.size + 1, 0, none⟩ (.int .i64 6)).setCell ⟨w.heap.size + 1, 1, none⟩ (.slice none 0 0) = w4
    intro hb4 ho4
    have q0 := hb4.cell 0
    have q1 := hb4.cell 1
    have HO4 := Lib.hid ho4
    clear hb4 ho4
    refine bodyPost_end (v := .agg #[.int .i64 6, .slice none 0 0]) (by simp [results, Tryz.results126, go_sem, q0, q1]) rfl ?_
    refine ⟨S, x, ⟨6, none, 0, []⟩, rfl, TSt.same HH.out.1 (by
      refine Off.below HBW.out HO4.out HBW.out.size (fun k hk => by cases hk; omega)), rfl, res_zero' _, fun W' o => PairsR.nil _ _, rfl⟩
  | some y =>
    rw [if_pos (show (Option.map RV.P (some y)).isSome = true from rfl), if_pos (show (Option.map RV.P (some y)).isSome = true from rfl)]
    go_enter Tryz.func126, Tryz.ntmps126
    go_upto_region 1 with (fail)
    rw [← hw2]
    clear hw2
    refine wp_region_held_drew (S := (fun X => Below w2.heap.size w2 X)) (by kernel_rfl) ((Below.refl _ _).drew) (fun hHeld => ?_)
    refine tp 0 ?_ rfl (.inl ⟨by rfl, ?_⟩) ?_
    rotate_left
    · intro W hSw; go_simp; try with_reducible rfl
    refine tp 1 ?_ rfl (.inl ⟨by rfl, ?_⟩) ?_
    rotate_left
    · intro W hSw; go_simp; try with_reducible rfl
    refine tp 2 ?_ rfl (.inl ⟨by rfl, ?_⟩) ?_
    rotate_left
    · intro W hSw; go_simp; try with_reducible rfl
    refine tp 3 ?_ rfl (.inl ⟨by rfl, ?_⟩) ?_
    rotate_left
    · intro W hSw; have m := (HX.out W hSw).1; go_simp; try with_reducible rfl
    refine tp 4 ?_ rfl (.inl ⟨by rfl, ?_⟩) ?_
    rotate_left
    · intro W hSw; go_simp; try with_reducible rfl
    refine tp 5 ?_ rfl (.inl ⟨by rfl, ?_⟩) ?_
    rotate_left
    · intro W hSw; have m := (HX.out W hSw).2.1; go_simp; try with_reducible rfl
    refine tp 6 ?_ rfl (.inl ⟨by rfl, ?_⟩) ?_
    rotate_left
    · intro W hSw; go_simp; try with_reducible rfl
    refine tp 7 ?_ rfl (.inl ⟨by rfl, ?_⟩) ?_
    rotate_left
    · intro W hSw; have m := (HX.out W hSw).2.2.1; go_simp; try with_reducible rfl
    refine tp 8 ?_ rfl (.inl ⟨by rfl, ?_⟩) ?_
    rotate_left
    · intro W hSw; have m := (HX.out W hSw).2.2.2; go_simp; try with_reducible rfl
    refine wpAnyH_ready (rs := [9]) (by kernel_rfl) (by simp) ?_
    refine AllReadyH.cons (o := { dst := some 17, op := Op.call { callee := Callee.value (Operand.tmp 11), args := #[Operand.tmp 13, Operand.tmp 16], argTypes := #[3, 9] }, type := 51, pos := "trial.go:82", after := #[{ on := 3, ground := Ground.data }, { on := 5, ground := Ground.data }, { on := 8, ground := Ground.data }], guard := none }) rfl (fun K hK => ?_) AllReadyH.nil
    go_simp
    refine (HG.out _ hHeld).mono ?_; rintro r w5 ⟨⟨v5, rfl, hv5⟩, rfl⟩
    have HV5 := Lib.hid hv5
    go_wp2_with fail
    try simp only [Option.isSome_some, Option.isSome_none]
    refine hK.out _ _ hHeld (fun hHeldn => ?_)
    clear hK K hHeld hv5; have hHeld := hHeldn; clear hHeldn
    try simp only [Act.put, List.setIfInBounds_toArray, List.set_cons_zero, List.set_cons_succ]
    refine tp 10 ?_ rfl (.inl ⟨by rfl, ?_⟩) ?_
    rotate_left
    · intro W hSw; go_simp; try with_reducible rfl
    refine tp 11 ?_ rfl (.inl ⟨by rfl, ?_⟩) ?_
    rotate_left
    · intro W hSw; go_simp; try with_reducible rfl
    refine tp 12 ?_ rfl (.inl ⟨by rfl, ?_⟩) ?_
    rotate_left
    · intro W hSw; go_simp; try with_reducible rfl
    refine tp 13 ?_ rfl (.inl ⟨by rfl, ?_⟩) ?_
    rotate_left
    · intro W hSw; go_simp; try with_reducible rfl
    refine tp 14 ?_ rfl (.inl ⟨by rfl, ?_⟩) ?_
    rotate_left
    · intro W hSw; go_simp; try with_reducible rfl
    refine wpAnyH_done (by kernel_rfl) ?_ _
    skip
    obtain ⟨w6, hw6⟩ : ∃ W, W = w2.drew := ⟨_, rfl⟩
    rw [← hw6] at hHeld ⊢
    have HB6 := Lib.hid (HH.out.2.2.1.trans (hHeld.mono HH.out.2.2.1.size))
    have HX6 := Lib.hid (HH.out.2.2.2 w6 hHeld)
    have HC6 := Lib.hid ((HX.out w6 hHeld).2.2.2)
    have hst := HO.out.at'.now
    have HSET := Lib.hid (tset_law (HH.out.1.grow HB6.out) (Nat.le_trans HH.out.2.1 HB6.out.size) t HO.out.tl o.K HO.out.ko o.ka o.kn o.kc hst.kl ((HO.out.grow HB6.out).at'.mono fun W hW => hW.ks) none 0 0 [] rfl (fun e => absurd rfl e) (fun W' _ => RdR.nil W' none) HF.out)
    rw [← HO.out.te] at HSET
    clear hst
    have c1 := HX6.out.1.cell 1
    have c3 := HX6.out.1.cell 3
    simp only [List.getElem?_toArray, List.getElem?_cons_zero, List.getElem?_cons_succ] at c1 c3
    clear hHeld hw6
    go_wp2_with fail
    refine HSET.out.mono ?_; rintro r w3 ⟨rfl, S3, x', hst, hws⟩
    have HST := Lib.hid (And.intro hst hws)
    have HB3 := Lib.hid (hst.off.box HX6.out.2 (fun hk => by have := HH.out.1.bd _ (HH.out.1.mut _ hk).1; omega))
    have HL6 := Lib.hid (show w.heap.size + 1 < w6.heap.size from HX6.out.2.lt)
    clear hst hws c1 c3
    have g0 := HB3.out.cell 0
    have g1 := HB3.out.cell 1
    have i0 := HB3.out.frozen 0
    have i1 := HB3.out.frozen 1
    simp only [List.getElem?_toArray, List.getElem?_cons_zero, List.getElem?_cons_succ] at g0 g1
    go_wp2_with fail
    clear g0 g1 i0 i1
    have hb4 := BoxC.set2 (x := .int .i64 0) (y := .slice none 0 0) HB3.out
    have ho4 : Off (fun k => k = w.heap.size + 1) w3 ((w3.setCell ⟨w.heap.size + 1, 0, none⟩ (.int .i64 0)).setCell ⟨w.heap.size + 1, 1, none⟩ (.slice none 0 0)) :=
      Off.set (S := fun k => k = w.heap.size + 1) (Off.set (S := fun k => k = w.heap.size + 1) (Off.refl _ w3) ⟨w.heap.size + 1, 0, none⟩ rfl _) ⟨w.heap.size + 1, 1, none⟩ rfl _
    revert hb4 ho4
    generalize (w3.setCell ⟨w.heap.size + 1, 0, none⟩ (.int .i64 0)).setCell ⟨w.heap.size + 1, 1, none⟩ (.slice none 0 0) = w4
    intro hb4 ho4
    have q0 := hb4.cell 0
    have q1 := hb4.cell 1
    have HO4 := Lib.hid ho4
    clear hb4 ho4
    refine bodyPost_end (v := .agg #[.int .i64 0, .slice none 0 0]) (by simp [results, Tryz.results126, go_sem, q0, q1]) rfl ?_
    refine ⟨S3, x', ⟨0, none, 0, []⟩, rfl, HST.out.1.box HH.out.1 HH.out.2.1 HB6.out (Nat.le_succ _) HL6.out HO4.out, rfl, res_zero, fun W' o => PairsR.nil _ _, HST.out.2⟩
theorem prs_stay {S : Nat → Prop} {W : World} {y : PrV} (hs : ∀ k, S k → k < W.heap.size) (h : Stay S W fun W' => Ls .u8 W' y.ka y.kc y.K ∧ RdR W' y.ra y.R) : Stay S (W.alloc (.cells #[.slice y.ka y.K.length y.kc, .slice y.ra y.R.length y.rc] 78)) fun W' => PairsR W' (some ⟨W.heap.size, 0, none⟩) [y] := fun W' o => by
  have hb := o.box (BoxC.new W #[.slice y.ka y.K.length y.kc, .slice y.ra y.R.length y.rc] 78) (fun e => by have := hs _ e; omega)
  have h2 := (h.below (bl1 W (.cells #[.slice y.ka y.K.length y.kc, .slice y.ra y.R.length y.rc] 78))) W' o
  exact pr_box y (by rw [hb.cell]; rfl) (by rw [hb.cell]; rfl) h2.1 h2.2
theorem rOk_byt {R : List P1} (h : rOk (R.map P1.bs)) : ∀ p ∈ R, Byt p.bs := fun p hp => (h.2.2 p.bs (List.mem_map.2 ⟨p, hp, rfl⟩)).1
theorem TlR.getok {S : Nat → Prop} {base : Nat} {w : World} {m : Md} {x : Tl} (h : TlR S base w m x) {t : Nat} {K : List Int} {y : RV} (hg : getX m x t K = some y) : rOk y.P ∧ Stay S w fun W => RdR W y.ra y.R := by
  unfold getX at hg
  cases hf : x.ws.find? (fun w : WtV => decide (w.t = t ∧ w.K = K)) with
  | some v =>
    rw [hf] at hg
    have hm := List.mem_of_find?_eq_some hf
    simp only at hg
    by_cases e : v.r.R = []
    · rw [if_pos e] at hg; cases hg
    · rw [if_neg e] at hg; cases hg
      exact ⟨(h.wok v hm).2.2 e, (h.wst v hm).mono fun W hW => hW.2⟩
  | none =>
    rw [hf] at hg
    simp only at hg
    cases hz : m.tabs[t]? with
    | none => rw [hz] at hg; cases hg
    | some z =>
      rw [hz] at hg
      simp only at hg
      have hzm := List.mem_of_getElem? hz
      have hm := (getM_some (h.md.maps z hzm).ris).1 hg
      exact ⟨(h.md.row hz hm).2, h.md.rows z hzm _ hm⟩
set_option maxRecDepth 100000 in
set_option maxHeartbeats 4000000 in
/-- read (123). -/
theorem tread_law {S : Nat → Prop} {base : Nat} {w : World} {m : Md} {x : Tl} (h : TlR S base w m x) (hbs : base ≤ w.heap.size) (o : CallV) (t : Nat) (ho : OpG S w m o t) (hf : x.ws.length < 1000) :
    Calls Tryz.prog 123 #[.pointer (some ⟨x.px, 0, none⟩), .agg #[.int .i64 o.k, .int .i64 o.t, .int .i64 o.i, .slice o.ka o.kn o.kc, .slice o.ta o.tn o.tc, .int .i64 o.m, .slice o.ra o.rn o.rc]] w (CallR S base w m x (match (getWP m.P (x.ws.map WtV.P) t o.K) with | some R => ((0, [(o.K, R)]) : Int × List Pr) | none => (6, [])) (x.ws.map WtV.P)) := by
  obtain ⟨hb, hbx⟩ := boxes2 w #[.int .i64 o.k, .int .i64 o.t, .int .i64 o.i, .slice o.ka o.kn o.kc, .slice o.ta o.tn o.tc, .int .i64 o.m, .slice o.ra o.rn o.rc] #[.int .i64 0, .slice none 0 0] 74 81
  have hst := ho.at'.now
  obtain ⟨w2, hw2⟩ : ∃ W, W = ((w.alloc (.cells #[.int .i64 o.k, .int .i64 o.t, .int .i64 o.i, .slice o.ka o.kn o.kc, .slice o.ta o.tn o.tc, .int .i64 o.m, .slice o.ra o.rn o.rc] 74)).alloc (.cells #[.int .i64 0, .slice none 0 0] 81)) := ⟨_, rfl⟩
  rw [← hw2] at hb hbx
  have h2 := h.below hb
  have hat2 := ho.at'.below hb
  obtain ⟨c0, c1, c2, c3, c4⟩ := h2.c
  have hbx2 := hbx w2 (Below.refl _ _)
  have HX := Lib.hid (fun X (b : Below w2.heap.size w2 X) => (⟨(b.cell (World.block_lt_of_cell? w2 _ c4)).trans c4, by rw [(hbx X b).1.cell]; simp only [List.getElem?_toArray, List.getElem?_cons_zero, List.getElem?_cons_succ]; rw [ho.te], by rw [(hbx X b).1.cell]; simp only [List.getElem?_toArray, List.getElem?_cons_zero, List.getElem?_cons_succ], conv_ls X o.ka o.kn o.kc o.K hst.kl (hat2.below b).now.ks.rd⟩ : X.cell? ⟨x.px, 4, none⟩ = some (.func (.func 107) #[] #[.pointer (some ⟨x.bx, 0, none⟩), .pointer (some ⟨x.bm, 0, none⟩)]) ∧ X.cell? ⟨w.heap.size, 1, none⟩ = some (.int .i64 (t : Int)) ∧ X.cell? ⟨w.heap.size, 3, none⟩ = some (.slice o.ka o.kn o.kc) ∧ (convert 42 9 (.slice o.ka o.kn o.kc)).run Tryz.prog X = .ok (.string (strOfNums o.K)) X))
  have HG := Lib.hid (fun X (b : Below w2.heap.size w2 X) => tget_law (h2.below b) t ho.tl o.K ho.ko.1 (by have := ho.ko.2; omega))
  have HH := Lib.hid (And.intro h (And.intro hbs (And.intro hb hbx)))
  have HO := Lib.hid ho
  have HP := Lib.hid (getX_P m x ho.tl o.K)
  have HW2 := Lib.hid hw2
  have HF := Lib.hid hf
  obtain ⟨g, hg⟩ : ∃ g, getX m x t o.K = g := ⟨_, rfl⟩
  rw [hg] at HG HP
  have HGX := Lib.hid hg
  clear h hbs ho hf h2 hat2 hst hb hbx hbx2 c0 c1 c2 c3 c4 hg
  rw [← HP.out]
  clear HP
  cases g with
  | none =>
    show Calls _ _ _ _ (CallR S base w m x ((6, []) : Int × List Pr) (x.ws.map WtV.P))
    go_enter Tryz.func123, Tryz.ntmps123
    go_upto_region 1 with (fail)
    rw [← hw2]
    clear hw2
    refine wp_region_held_drew (S := (fun X => Below w2.heap.size w2 X)) (by kernel_rfl) ((Below.refl _ _).drew) (fun hHeld => ?_)
    refine tp 0 ?_ rfl (.inl ⟨by rfl, ?_⟩) ?_
    rotate_left
    · intro W hSw; go_simp; try with_reducible rfl
    refine tp 1 ?_ rfl (.inl ⟨by rfl, ?_⟩) ?_
    rotate_left
    · intro W hSw; go_simp; try with_reducible rfl
    refine tp 2 ?_ rfl (.inl ⟨by rfl, ?_⟩) ?_
    rotate_left
    · intro W hSw; go_simp; try with_reducible rfl
    refine tp 3 ?_ rfl (.inl ⟨by rfl, ?_⟩) ?_
    rotate_left
    · intro W hSw; have m := (HX.out W hSw).1; go_simp; try with_reducible rfl
    refine tp 4 ?_ rfl (.inl ⟨by rfl, ?_⟩) ?_
    rotate_left
    · intro W hSw; go_simp; try with_reducible rfl
    refine tp 5 ?_ rfl (.inl ⟨by rfl, ?_⟩) ?_
    rotate_left
    · intro W hSw; have m := (HX.out W hSw).2.1; go_simp; try with_reducible rfl
    refine tp 6 ?_ rfl (.inl ⟨by rfl, ?_⟩) ?_
    rotate_left
    · intro W hSw; go_simp; try with_reducible rfl
    refine tp 7 ?_ rfl (.inl ⟨by rfl, ?_⟩) ?_
    rotate_left
    · intro W hSw; have m := (HX.out W hSw).2.2.1; go_simp; try with_reducible rfl
    refine tp 8 ?_ rfl (.inl ⟨by rfl, ?_⟩) ?_
    rotate_left
    · intro W hSw; have m := (HX.out W hSw).2.2.2; go_simp; try with_reducible rfl
    refine wpAnyH_ready (rs := [9]) (by kernel_rfl) (by simp) ?_
    refine AllReadyH.cons (o := { dst := some 17, op := Op.call { callee := Callee.value (Operand.tmp 11), args := #[Operand.tmp 13, Operand.tmp 16], argTypes := #[3, 9] }, type := 51, pos := "trial.go:62", after := #[{ on := 3, ground := Ground.data }, { on := 5, ground := Ground.data }, { on := 8, ground := Ground.data }], guard := none }) rfl (fun K hK => ?_) AllReadyH.nil
    go_simp
    refine (HG.out _ hHeld).mono ?_; rintro r w5 ⟨⟨v5, rfl, hv5⟩, rfl⟩
    have HV5 := Lib.hid hv5
    go_wp2_with fail
    try simp only [Option.isSome_some, Option.isSome_none]
    refine hK.out _ _ hHeld (fun hHeldn => ?_)
    clear hK K hHeld hv5; have hHeld := hHeldn; clear hHeldn
    try simp only [Act.put, List.setIfInBounds_toArray, List.set_cons_zero, List.set_cons_succ]
    refine tp 10 ?_ rfl (.inl ⟨by rfl, ?_⟩) ?_
    rotate_left
    · intro W hSw; go_simp; try with_reducible rfl
    refine tp 11 ?_ rfl (.inl ⟨by rfl, ?_⟩) ?_
    rotate_left
    · intro W hSw; go_simp; try with_reducible rfl
    refine tp 12 ?_ rfl (.inl ⟨by rfl, ?_⟩) ?_
    rotate_left
    · intro W hSw; go_simp; try with_reducible rfl
    refine tp 13 ?_ rfl (.inl ⟨by rfl, ?_⟩) ?_
    rotate_left
    · intro W hSw; go_simp; try with_reducible rfl
    refine tp 14 ?_ rfl (.inl ⟨by rfl, ?_⟩) ?_
    rotate_left
    · intro W hSw; go_simp; try with_reducible rfl
    refine wpAnyH_done (by kernel_rfl) ?_ _
    skip

    obtain ⟨w3, hw3⟩ : ∃ W, W = w2.drew := ⟨_, rfl⟩
    rw [← hw3] at hHeld ⊢
    have HB3 := Lib.hid ((HH.out.2.2.2 w3 hHeld).2)
    have HBW := Lib.hid (HH.out.2.2.1.trans (hHeld.mono HH.out.2.2.1.size))
    clear hHeld hw3
    have g0 := HB3.out.cell 0
    have g1 := HB3.out.cell 1
    have i0 := HB3.out.frozen 0
    have i1 := HB3.out.frozen 1
    simp only [List.getElem?_toArray, List.getElem?_cons_zero, List.getElem?_cons_succ] at g0 g1
    go_wp2_with fail
    clear g0 g1 i0 i1
    have hb4 := BoxC.set2 (x := .int .i64 6) (y := .slice none 0 0) HB3.out
    have ho4 : Off (fun k => k = w.heap.size + 1) w3 ((w3.setCell ⟨w.heap.size + 1, 0, none⟩ (.int .i64 6)).setCell ⟨w.heap.size + 1, 1, none⟩ (.slice none 0 0)) :=
      Off.set (S := fun k => k = w.heap.size + 1) (Off.set (S := fun k => k = w.heap.size + 1) (Off.refl _ w3) ⟨w.heap.size + 1, 0, none⟩ rfl _) ⟨w.heap.size + 1, 1, none⟩ rfl _
    revert hb4 ho4
    generalize (w3.setCell ⟨w.heap.size + 1, 0, none⟩ (.int .i64 6)).setCell ⟨w.heap.size + 1, 1, none⟩ (.slice none 0 0) = w4
    intro hb4 ho4
    have q0 := hb4.cell 0
    have q1 := hb4.cell 1
    have HO4 := Lib.hid ho4
    clear hb4 ho4
    refine bodyPost_end (v := .agg #[.int .i64 6, .slice none 0 0]) (by simp [results, Tryz.results123, go_sem, q0, q1]) rfl ?_
    refine ⟨S, x, ⟨6, none, 0, []⟩, rfl, TSt.same HH.out.1 (by
      refine Off.below HBW.out HO4.out HBW.out.size (fun k hk => by cases hk; omega)), rfl, res_zero' _, fun W' o => PairsR.nil _ _, rfl⟩
  | some y =>
    show Calls _ _ _ _ (CallR S base w m x ((0, [(o.K, y.P)]) : Int × List Pr) (x.ws.map WtV.P))
    go_enter Tryz.func123, Tryz.ntmps123
    go_upto_region 1 with (fail)
    rw [← hw2]
    clear hw2
    refine wp_region_held_drew (S := (fun X => Below w2.heap.size w2 X)) (by kernel_rfl) ((Below.refl _ _).drew) (fun hHeld => ?_)
    refine tp 0 ?_ rfl (.inl ⟨by rfl, ?_⟩) ?_
    rotate_left
    · intro W hSw; go_simp; try with_reducible rfl
    refine tp 1 ?_ rfl (.inl ⟨by rfl, ?_⟩) ?_
    rotate_left
    · intro W hSw; go_simp; try with_reducible rfl
    refine tp 2 ?_ rfl (.inl ⟨by rfl, ?_⟩) ?_
    rotate_left
    · intro W hSw; go_simp; try with_reducible rfl
    refine tp 3 ?_ rfl (.inl ⟨by rfl, ?_⟩) ?_
    rotate_left
    · intro W hSw; have m := (HX.out W hSw).1; go_simp; try with_reducible rfl
    refine tp 4 ?_ rfl (.inl ⟨by rfl, ?_⟩) ?_
    rotate_left
    · intro W hSw; go_simp; try with_reducible rfl
    refine tp 5 ?_ rfl (.inl ⟨by rfl, ?_⟩) ?_
    rotate_left
    · intro W hSw; have m := (HX.out W hSw).2.1; go_simp; try with_reducible rfl
    refine tp 6 ?_ rfl (.inl ⟨by rfl, ?_⟩) ?_
    rotate_left
    · intro W hSw; go_simp; try with_reducible rfl
    refine tp 7 ?_ rfl (.inl ⟨by rfl, ?_⟩) ?_
    rotate_left
    · intro W hSw; have m := (HX.out W hSw).2.2.1; go_simp; try with_reducible rfl
    refine tp 8 ?_ rfl (.inl ⟨by rfl, ?_⟩) ?_
    rotate_left
    · intro W hSw; have m := (HX.out W hSw).2.2.2; go_simp; try with_reducible rfl
    refine wpAnyH_ready (rs := [9]) (by kernel_rfl) (by simp) ?_
    refine AllReadyH.cons (o := { dst := some 17, op := Op.call { callee := Callee.value (Operand.tmp 11), args := #[Operand.tmp 13, Operand.tmp 16], argTypes := #[3, 9] }, type := 51, pos := "trial.go:62", after := #[{ on := 3, ground := Ground.data }, { on := 5, ground := Ground.data }, { on := 8, ground := Ground.data }], guard := none }) rfl (fun K hK => ?_) AllReadyH.nil
    go_simp
    refine (HG.out _ hHeld).mono ?_; rintro r w5 ⟨⟨v5, rfl, hv5⟩, rfl⟩
    have HV5 := Lib.hid hv5
    go_wp2_with fail
    try simp only [Option.isSome_some, Option.isSome_none]
    refine hK.out _ _ hHeld (fun hHeldn => ?_)
    clear hK K hHeld hv5; have hHeld := hHeldn; clear hHeldn
    try simp only [Act.put, List.setIfInBounds_toArray, List.set_cons_zero, List.set_cons_succ]
    refine tp 10 ?_ rfl (.inl ⟨by rfl, ?_⟩) ?_
    rotate_left
    · intro W hSw; go_simp; try with_reducible rfl
    refine tp 11 ?_ rfl (.inl ⟨by rfl, ?_⟩) ?_
    rotate_left
    · intro W hSw; go_simp; try with_reducible rfl
    refine tp 12 ?_ rfl (.inl ⟨by rfl, ?_⟩) ?_
    rotate_left
    · intro W hSw; go_simp; try with_reducible rfl
    refine tp 13 ?_ rfl (.inl ⟨by rfl, ?_⟩) ?_
    rotate_left
    · intro W hSw; go_simp; try with_reducible rfl
    refine tp 14 ?_ rfl (.inl ⟨by rfl, ?_⟩) ?_
    rotate_left
    · intro W hSw; go_simp; try with_reducible rfl
    refine wpAnyH_done (by kernel_rfl) ?_ _
    skip
    obtain ⟨w6, hw6⟩ : ∃ W, W = w2.drew := ⟨_, rfl⟩
    rw [← hw6] at hHeld ⊢
    have HB6 := Lib.hid (HH.out.2.2.1.trans (hHeld.mono HH.out.2.2.1.size))
    have HX6 := Lib.hid (HH.out.2.2.2 w6 hHeld)
    have HC6 := Lib.hid ((HX.out w6 hHeld).2.2.2)
    have hv := HV5.out y rfl
    subst hv
    obtain ⟨hok, hst⟩ := HH.out.1.getok HGX.out
    have hbd := RV.bound hok
    have HOK := Lib.hid hok
    have HPR := Lib.hid (pair_law o.K HO.out.ko.1 (by have := HO.out.ko.2; omega) y.ra y.R.length y.rc y.R rfl hbd.1 hbd.2 w6 (hst.below HB6.out).now)
    clear hok hst hbd
    have c3 := HX6.out.1.cell 3
    simp only [List.getElem?_toArray, List.getElem?_cons_zero, List.getElem?_cons_succ] at c3
    have hc6 := HC6.out
    clear hHeld hw6
    unfold RV.v
    go_wp2_with fail
    refine HPR.out.mono ?_; rintro r w7 ⟨z, rfl, hzk, hzr, hb7, hst7⟩
    have HZ := Lib.hid (And.intro hzk hzr)
    have hbd9 : ∀ k, (fun k => S k ∨ k = w.heap.size + 1) k → k < w6.heap.size := fun k hk => by
      rcases hk with hk | rfl
      · exact Nat.lt_of_lt_of_le (HH.out.1.bd k hk) HB6.out.size
      · exact HX6.out.2.lt
    have hs9 := prs_stay (fun k hk => Nat.lt_of_lt_of_le (hbd9 k hk) hb7.size) (hst7 _ hbd9)
    have HS9 := Lib.hid hs9
    have HB3 := Lib.hid (HX6.out.2.below (step_below hb7 (bl1 w7 (.cells #[.slice z.ka z.K.length z.kc, .slice z.ra z.R.length z.rc] 78))))
    have HBW := Lib.hid (HB6.out.trans ((step_below hb7 (bl1 w7 (.cells #[.slice z.ka z.K.length z.kc, .slice z.ra z.R.length z.rc] 78))).mono HB6.out.size))
    clear hb7 hst7 hbd9 hs9 hzk hzr c3 hc6
    have g0 := HB3.out.cell 0
    have g1 := HB3.out.cell 1
    have i0 := HB3.out.frozen 0
    have i1 := HB3.out.frozen 1
    simp only [List.getElem?_toArray, List.getElem?_cons_zero, List.getElem?_cons_succ] at g0 g1
    go_wp2_with fail
    clear g0 g1 i0 i1
    have hb4 := BoxC.set2 (x := .int .i64 0) (y := .slice (some ⟨w7.heap.size, 0, none⟩) 1 1) HB3.out
    have ho4 : Off (fun k => k = w.heap.size + 1) (w7.alloc (.cells #[.slice z.ka z.K.length z.kc, .slice z.ra z.R.length z.rc] 78)) (((w7.alloc (.cells #[.slice z.ka z.K.length z.kc, .slice z.ra z.R.length z.rc] 78)).setCell ⟨w.heap.size + 1, 0, none⟩ (.int .i64 0)).setCell ⟨w.heap.size + 1, 1, none⟩ (.slice (some ⟨w7.heap.size, 0, none⟩) 1 1)) :=
      Off.set (S := fun k => k = w.heap.size + 1) (Off.set (S := fun k => k = w.heap.size + 1) (Off.refl _ (w7.alloc (.cells #[.slice z.ka z.K.length z.kc, .slice z.ra z.R.length z.rc] 78))) ⟨w.heap.size + 1, 0, none⟩ rfl _) ⟨w.heap.size + 1, 1, none⟩ rfl _
    revert hb4 ho4
    generalize ((w7.alloc (.cells #[.slice z.ka z.K.length z.kc, .slice z.ra z.R.length z.rc] 78)).setCell ⟨w.heap.size + 1, 0, none⟩ (.int .i64 0)).setCell ⟨w.heap.size + 1, 1, none⟩ (.slice (some ⟨w7.heap.size, 0, none⟩) 1 1) = w4
    intro hb4 ho4
    have q0 := hb4.cell 0
    have q1 := hb4.cell 1
    have HO4 := Lib.hid ho4
    clear hb4 ho4
    refine bodyPost_end (v := .agg #[.int .i64 0, .slice (some ⟨w7.heap.size, 0, none⟩) 1 1]) (by simp [results, Tryz.results123, go_sem, q0, q1]) rfl ?_
    have hokz : PrOk z := ⟨by rw [HZ.out.1]; exact HO.out.ko.1, fun p hp => by
        have : p.bs ∈ y.R.map P1.bs := by rw [← HZ.out.2]; exact List.mem_map.2 ⟨p, hp, rfl⟩
        exact (HOK.out.2.2 _ this).1, by
        have h1 := congrArg List.length HZ.out.2
        have h2 := HOK.out.2.1
        unfold RV.P at h2
        rw [List.length_map, List.length_map] at h1
        rw [List.length_map] at h2
        omega⟩
    refine ⟨S, x, ⟨0, some ⟨w7.heap.size, 0, none⟩, 1, [z]⟩, rfl, TSt.same HH.out.1 (by
      refine Off.below HBW.out HO4.out HBW.out.size (fun k hk => by cases hk; omega)), ?_, ⟨by simp, fun p hp => by rw [List.mem_singleton] at hp; subst hp; exact hokz⟩, (HS9.out.off (HO4.out.mono fun k hk => .inr hk)).less (fun k hk => .inl hk), rfl⟩
    show ((0 : Int), [(z.K, z.R.map P1.bs)]) = _
    rw [HZ.out.1, HZ.out.2]
    rfl
end Go.Proofs.YthmofoldmdafoaaGreat
namespace Go.Proofs.YthmofoldmdafoaaGreat
open Go.ChangeShapes Go.WideShapes Go.ChangeAt Go.RowKit Go.Maps
set_option linter.unusedVariables false
set_option linter.unusedSimpArgs false

/-- A write, as it lies. -/
structure WrV where
  t : Int
  ka : Option Addr
  kc : Nat
  K : List Int
  r : RV
def WrV.P (y : WrV) : Int × List Int × List (List Int) := (y.t, y.K, y.r.P)
def WrR (W : World) (a : Option Addr) (L : List WrV) : Prop := ∀ (k : Nat) (x : WrV), L[k]? = some x → ∃ b off, a = some ⟨b, off, none⟩ ∧ W.cell? ⟨b, off + k * 3, none⟩ = some (.int .i64 x.t) ∧ W.cell? ⟨b, off + k * 3 + 1, none⟩ = some (.slice x.ka x.K.length x.kc) ∧ W.cell? ⟨b, off + k * 3 + 2, none⟩ = some (.slice x.r.ra x.r.R.length x.r.rc) ∧ Ls .u8 W x.ka x.kc x.K ∧ RdR W x.r.ra x.r.R
theorem WrR.below {W W' : World} {a : Option Addr} {L : List WrV} (h : WrR W a L) (hb : Below W.heap.size W W') : WrR W' a L := fun k x hx => by
  obtain ⟨b, off, e, c0, c1, c2, l, r⟩ := h k x hx
  have f : ∀ {p v}, W.cell? p = some v → W'.cell? p = some v := fun h => (hb.cell (World.block_lt_of_cell? W _ h)).trans h
  exact ⟨b, off, e, f c0, f c1, f c2, l.below hb, r.below hb⟩
/-- May it be a write, in so many tables? -/
def wrB (n : Nat) (x : WrV) : Bool := decide (0 ≤ x.t ∧ x.t < (n : Int)) && mayK x.K.length && (decide (x.r.R.length = 0) || mayR x.r.R)
/-- Writes that are done on tables. -/
def applyT (T : List (List Pr)) (l : List (Int × List Int × List (List Int))) : List (List Pr) := l.foldl (fun T w => T.modify w.1.toNat fun t => setT t w.2.1 w.2.2) T
theorem modify_map {α β : Type} (f : α → β) (g : α → α) (g' : β → β) : ∀ (L : List α) (n : Nat) (x : α), L[n]? = some x → f (g x) = g' (f x) → (L.set n (g x)).map f = (L.map f).modify n g'
  | [], n, x, h, _ => by simp at h
  | y :: L, 0, x, h, e => by
    simp only [List.getElem?_cons_zero, Option.some.injEq] at h
    subst h
    simp [e]
  | y :: L, n + 1, x, h, e => by
    have ih := modify_map f g g' L n x (by simpa using h) e
    simp only [List.set_cons_succ, List.map_cons, List.modify_succ_cons]
    rw [ih]
/-- A model, one of whose maps was changed. -/
theorem MdR.up {S : Nat → Prop} {w w' : World} {m : Md} (h : MdR S w m) {t : Nat} {x : Nat × List (List Int × RV)} (hx : m.tabs[t]? = some x) {L' : List (List Int × RV)} (o : Off (fun k => k = x.1) w w') (hm : Mp w' x.1 RV.v L') (hr : ∀ e ∈ L', Stay S w' (fun W' => RdR W' e.2.ra e.2.R)) (hl : tOk (tabP L')) :
    MdR S w' { m with tabs := m.tabs.set t (x.1, L') } := by
  have hxm := List.mem_of_getElem? hx
  have oS : Off S w w' := o.mono fun k hk => by cases hk; exact h.hS x hxm
  have hfst : (m.tabs.set t (x.1, L')).map Prod.fst = m.tabs.map Prod.fst := map_set_fst hx
  have hmem : ∀ z ∈ m.tabs.set t (x.1, L'), z = (x.1, L') ∨ (z ∈ m.tabs ∧ z.1 ≠ x.1) := fun z hz => by
    obtain ⟨k, hk⟩ := List.mem_iff_getElem?.1 hz
    by_cases e : t = k
    · subst e
      rw [List.getElem?_set_self (List.getElem?_eq_some_iff.1 hx).1] at hk
      cases hk; exact .inl rfl
    · rw [List.getElem?_set_ne e] at hk
      refine .inr ⟨List.mem_of_getElem? hk, fun e2 => e ?_⟩
      have h1 : (m.tabs.map Prod.fst)[k]? = some x.1 := by rw [List.getElem?_map, hk, ← e2]; rfl
      have h2 : (m.tabs.map Prod.fst)[t]? = some x.1 := by rw [List.getElem?_map, hx]; rfl
      exact (List.getElem?_inj (by rw [List.length_map]; exact (List.getElem?_eq_some_iff.1 hx).1) h.nod).1 (h2.trans h1.symm)
  refine ⟨(h.st.off oS).mono fun W hW => ⟨?_, ?_, hW.job⟩, ?_, ?_, h.ok, ?_, ?_, ?_, ?_, ?_⟩
  · have := hW.box
    unfold Md.cs at this ⊢
    rw [List.length_set]; exact this
  · intro k z hz
    have hz : (m.tabs.set t (x.1, L'))[k]? = some z := hz
    by_cases e : t = k
    · subst e
      rw [List.getElem?_set_self (List.getElem?_eq_some_iff.1 hx).1] at hz
      cases hz; exact hW.tab t x hx
    · rw [List.getElem?_set_ne e] at hz
      exact hW.tab k z hz
  · intro z hz
    rcases hmem z hz with rfl | ⟨hz, hne⟩
    · exact hm
    · exact (h.maps z hz).off o hne
  · intro z hz
    rcases hmem z hz with rfl | ⟨hz, hne⟩
    · exact hr
    · exact fun e he => (h.rows z hz e he).off oS
  · show (m.tabs.set t _).length = _
    rw [List.length_set]; exact h.len
  · show (m.tabs.set t _).length ≤ _
    rw [List.length_set]; exact h.cap
  · show ((m.tabs.set t _).map Prod.fst).Nodup
    rw [hfst]; exact h.nod
  · intro z hz
    rcases hmem z hz with rfl | ⟨hz, hne⟩
    · exact h.hS x hxm
    · exact h.hS z hz
  · intro z hz
    rcases hmem z hz with rfl | ⟨hz, hne⟩
    · exact hl
    · exact h.lim z hz
theorem Md.P_set {m : Md} {t : Nat} {x : Nat × List (List Int × RV)} (hx : m.tabs[t]? = some x) (L' : List (List Int × RV)) (K : List Int) (R : List (List Int)) (e : tabP L' = setT (tabP x.2) K R) : ({ m with tabs := m.tabs.set t (x.1, L') } : Md).P = m.P.modify t fun u => setT u K R := by
  unfold Md.P
  exact modify_map (fun x : Nat × List (List Int × RV) => tabP x.2) (fun _ => (x.1, L')) (fun u => setT u K R) m.tabs t x hx e
theorem mayR_rOk {R : List P1} (h : mayR R = true) (hb : ∀ p ∈ R, Byt p.bs) : rOk (R.map P1.bs) := by
  unfold mayR at h
  rw [Bool.and_eq_true, decide_eq_true_eq] at h
  refine ⟨by rw [List.length_map]; exact h.2.1, by rw [List.length_map]; exact h.2.2, fun f hf => ?_⟩
  obtain ⟨p, hp, rfl⟩ := List.mem_map.1 hf
  refine ⟨hb p hp, ?_⟩
  have := h.1
  unfold allB at this
  simp only [List.all_eq_true] at this
  have := this p hp
  simpa using this
theorem mayK_ok {K : List Int} (h : mayK K.length = true) (hb : Byt K) : keyOk K := by
  unfold mayK at h
  rw [decide_eq_true_eq] at h
  exact ⟨hb, h.1, h.2⟩
/-- What a deletion does. -/
theorem Mp.drop {α : Type} {val : α → Value} {W : World} {b t e : Nat} {L : List (List Int × α)} (h : Mp W b val L) (ht : Tryz.prog.underlying t = some (.map 9 e)) {K : List Int} (hK : Byt K) (hn : K.length ≤ 1000000) (ty : TypeId) :
    ∃ w', (Builtin.delete_ #[t, 9] ty #[.map (some b), .string (strOfNums K)]).run Tryz.prog W = .ok (.tuple #[]) w' ∧ Mp w' b val (setM L K none) ∧ W.grownBy w' (some b) := by
  obtain ⟨w', hrun, hm, ht⟩ := h.own.drop law9 ht (keyK (key_max hn)) ty
  exact ⟨w', hrun, h.del hK hm, ht.grown⟩
end Go.Proofs.YthmofoldmdafoaaGreat
namespace Go.Proofs.YthmofoldmdafoaaGreat
open Go.ChangeShapes Go.WideShapes Go.ChangeAt Go.RowKit Go.Maps
set_option linter.unusedVariables false
set_option linter.unusedSimpArgs false

/-- A model whose maps alone may have changed. -/
structure MdSame (m m' : Md) : Prop where
  p : m'.p = m.p
  j : m'.j = m.j
  f : m'.tabs.map Prod.fst = m.tabs.map Prod.fst
theorem MdSame.rfl' (m : Md) : MdSame m m := ⟨rfl, rfl, rfl⟩
theorem MdSame.len {m m' : Md} (h : MdSame m m') : m'.tabs.length = m.tabs.length := by have := congrArg List.length h.f; simpa using this
theorem MdSame.set {m m' : Md} (h : MdSame m m') {t : Nat} {x : Nat × List (List Int × RV)} (hx : m'.tabs[t]? = some x) (L' : List (List Int × RV)) : MdSame m { m' with tabs := m'.tabs.set t (x.1, L') } := ⟨h.p, h.j, (map_set_fst hx).trans h.f⟩
/-- The blocks of a model's maps. -/
def Maps' (m : Md) (k : Nat) : Prop := ∃ x ∈ m.tabs, k = x.1
theorem MdSame.mem {m m' : Md} (h : MdSame m m') {x : Nat × List (List Int × RV)} (hx : x ∈ m'.tabs) : Maps' m x.1 := by
  have : x.1 ∈ m.tabs.map Prod.fst := by rw [← h.f]; exact List.mem_map.2 ⟨x, hx, rfl⟩
  obtain ⟨y, hy, e⟩ := List.mem_map.1 this
  exact ⟨y, hy, e.symm⟩
theorem applyT_take (T : List (List Pr)) (L : List WrV) {k : Nat} {x : WrV} (h : L[k]? = some x) : applyT T ((L.take (k + 1)).map WrV.P) = (applyT T ((L.take k).map WrV.P)).modify x.t.toNat fun t => setT t x.K x.r.P := by
  unfold applyT
  rw [List.take_add_one, h, List.map_append, List.foldl_append]
  rfl
theorem all_take1 {L : List WrV} {n k : Nat} {x : WrV} (h : L[k]? = some x) (hk : (L.take k).all (wrB n) = true) : (L.take (k + 1)).all (wrB n) = wrB n x := by
  rw [List.take_add_one, h, List.all_append, hk]; simp
theorem all_false {L : List WrV} {n k : Nat} {x : WrV} (h : L[k]? = some x) (hx : wrB n x = false) : L.all (wrB n) = false := by
  rw [List.all_eq_false]
  exact ⟨x, List.mem_of_getElem? h, by rw [hx]; simp⟩
/-- How Apply ends. -/
def ApR (S : Nat → Prop) (w : World) (m : Md) (L : List WrV) (r : Ending) (w' : World) : Prop :=
  ∃ m', r = .returned (.int .i64 (if L.all (wrB m.tabs.length) then 0 else 2)) ∧ MdR S w' m' ∧ MdSame m m' ∧ m'.P = (if L.all (wrB m.tabs.length) then applyT m.P (L.map WrV.P) else m.P) ∧ Off (Maps' m) w w' ∧ ∀ N : Nat, (∀ x ∈ m.tabs, x.2.length ≤ N) → ∀ x ∈ m'.tabs, x.2.length ≤ N + L.length
set_option maxRecDepth 100000 in
set_option maxHeartbeats 4000000 in
/-- Apply (16). -/
theorem mapply_law {S : Nat → Prop} {m : Md} {w : World} (h : MdR S w m) (hS : ∀ k, S k → k < w.heap.size) (a : Option Addr) (n c : Nat) (L : List WrV) (hn : L.length = n) (hn2 : n ≤ 90000) (hL : Stay S w fun W => WrR W a L) (hb : ∀ x ∈ L, Byt x.K ∧ x.K.length ≤ 1000000 ∧ x.r.R.length ≤ 1000000 ∧ ∀ p ∈ x.r.R, Byt p.bs) (hf : ∀ x ∈ m.tabs, x.2.length ≤ 900000) :
    Calls Tryz.prog 16 #[.pointer (some ⟨m.p, 0, none⟩), .slice a n c] w (ApR S w m L) := by
  have HH := Lib.hid h
  have HL := Lib.hid hL
  have HN := Lib.hid hn
  have HS := Lib.hid hS
  have HB := Lib.hid hb
  have HF := Lib.hid hf
  have hni : (n : Int) ≤ 1000000 := by omega
  clear h hS hn hL hb hf
  go_enter Tryz.func16, Tryz.ntmps16
  go_wp2_with (go_at_call 51; refine (mnone_law HH.out).mono ?_; rintro e w' ⟨rfl, rfl⟩)
  go_loopw [13] (fun i wr => ∃ k : Nat, k ≤ n ∧ i = .int .i64 (k : Int) ∧ (L.take k).all (wrB m.tabs.length) = true ∧ Hid (Below w.heap.size w wr)) (fun i _ => n - (intOf i).toNat)
  case atStart => exact ⟨0, by omega, rfl, rfl, Lib.hid (Below.refl _ _)⟩
  case round =>
    obtain ⟨k, hk, rfl, hall, HBW⟩ := hrel
    by_cases hlt : k < n
    · have d1 : (k : Int) < (n : Int) := by omega
      obtain ⟨x, hx⟩ : ∃ x, L[k]? = some x := ⟨_, List.getElem?_eq_getElem (by rw [HN.out]; exact hlt)⟩
      obtain ⟨b1, o1, ea, c0, c1, c2, l, rr⟩ := (HL.out.below HBW.out).now k x hx
      subst ea
      have HX := Lib.hid hx
      have HA := Lib.hid hall
      have HRR := Lib.hid rr
      have hxb := HB.out x (List.mem_of_getElem? hx)
      have HXB := Lib.hid hxb
      have hrl : (x.r.R.length : Int) ≤ 1000000 := by omega
      clear hx hall l rr
      go_wp2_with fail
      have HB5 := Lib.hid (step_below HBW.out (bl1 wr (.cells #[.int .i64 x.t, .slice x.ka x.K.length x.kc, .slice x.r.ra x.r.R.length x.r.rc] 84)))
      have hbx := BoxC.new wr #[.int .i64 x.t, .slice x.ka x.K.length x.kc, .slice x.r.ra x.r.R.length x.r.rc] 84
      have HR5 := Lib.hid (HRR.out.below (bl1 wr (.cells #[.int .i64 x.t, .slice x.ka x.K.length x.kc, .slice x.r.ra x.r.R.length x.r.rc] 84)))
      generalize wr.alloc (.cells #[.int .i64 x.t, .slice x.ka x.K.length x.kc, .slice x.r.ra x.r.R.length x.r.rc] 84) = w5 at HB5 hbx HR5 ⊢
      have e1 := hbx.cell 1
      have e2 := hbx.cell 2
      simp only [List.getElem?_toArray, List.getElem?_cons_zero, List.getElem?_cons_succ] at e1 e2
      refine (mhas_law (HH.out.below HB5.out) x.t).mono ?_; rintro r w6 ⟨rfl, rfl⟩
      have hwr : wrB m.tabs.length x = (decide (0 ≤ x.t ∧ x.t < (m.tabs.length : Int)) && mayK x.K.length && (decide (x.r.R.length = 0) || mayR x.r.R)) := rfl
      obtain ⟨bh, hbh⟩ : ∃ b, decide (0 ≤ x.t ∧ x.t < (m.tabs.length : Int)) = b := ⟨_, rfl⟩
      obtain ⟨bk, hbk⟩ : ∃ b, mayK x.K.length = b := ⟨_, rfl⟩
      obtain ⟨br, hbr⟩ : ∃ b, mayR x.r.R = b := ⟨_, rfl⟩
      rw [hbh, hbk, hbr] at hwr
      rw [hbh]
      have HK := Lib.hid (fun w => maykey_law x.ka x.K.length x.kc w)
      have HM := Lib.hid (mayr_law x.r.ra x.r.R x.r.R.length x.r.rc rfl (by omega) w5 HR5.out)
      rw [hbk] at HK
      rw [hbr] at HM
      clear hbh hbk hbr hbx
      cases bh
      · have HV := Lib.hid (all_false HX.out (by rw [hwr]; rfl))
        clear hwr
        go_wp2_with fail
        go_ret
        exact ⟨m, by rw [HV.out]; rfl, HH.out.below HB5.out, MdSame.rfl' m, by rw [HV.out]; rfl, Off.of HB5.out, fun N h z hz => by have := h z hz; omega⟩
      cases bk
      · have HV := Lib.hid (all_false HX.out (by rw [hwr]; rfl))
        clear hwr
        go_wp2_with (go_at_call 53; refine (HK.out _).mono ?_; rintro e w' ⟨rfl, rfl⟩)
        go_ret
        exact ⟨m, by rw [HV.out]; rfl, HH.out.below HB5.out, MdSame.rfl' m, by rw [HV.out]; rfl, Off.of HB5.out, fun N h z hz => by have := h z hz; omega⟩
      by_cases h0 : x.r.R.length = 0
      · have HV := Lib.hid (show (L.take (k + 1)).all (wrB m.tabs.length) = true from (all_take1 HX.out HA.out).trans (by rw [hwr, decide_eq_true h0]; rfl))
        rw [h0] at e2
        clear hwr h0
        go_wp2_with (go_at_call 53; refine (HK.out _).mono ?_; rintro e w' ⟨rfl, rfl⟩)
        go_roundw
        case rel => exact ⟨k + 1, by omega, by go_num, HV.out, HB5⟩
        case measure => simp [intOf]; omega
      have h1 : (0 : Int) < (x.r.R.length : Int) := by omega
      have h2 : 0 < x.r.R.length := by omega
      cases br
      · have HV := Lib.hid (all_false HX.out (by rw [hwr, decide_eq_false h0]; rfl))
        clear hwr h0
        go_wp2_with (first | (go_at_call 53; refine (HK.out _).mono ?_; rintro e w' ⟨rfl, rfl⟩) | (go_at_call 54; refine HM.out.mono ?_; rintro e w7 ⟨rfl, hb7⟩; have HB7 := Lib.hid (HB5.out.trans (hb7.mono HB5.out.size)); clear hb7))
        go_ret
        exact ⟨m, by rw [HV.out]; rfl, HH.out.below HB7.out, MdSame.rfl' m, by rw [HV.out]; rfl, Off.of HB7.out, fun N h z hz => by have := h z hz; omega⟩
      · have HV := Lib.hid (show (L.take (k + 1)).all (wrB m.tabs.length) = true from (all_take1 HX.out HA.out).trans (by rw [hwr, decide_eq_false h0]; rfl))
        clear hwr h0
        go_wp2_with (first | (go_at_call 53; refine (HK.out _).mono ?_; rintro e w' ⟨rfl, rfl⟩) | (go_at_call 54; refine HM.out.mono ?_; rintro e w7 ⟨rfl, hb7⟩; have HB7 := Lib.hid (HB5.out.trans (hb7.mono HB5.out.size)); clear hb7))
        go_roundw
        case rel => exact ⟨k + 1, by omega, by go_num, HV.out, HB7⟩
        case measure => simp [intOf]; omega
    · have d1 : ¬ (k : Int) < (n : Int) := by omega
      have HA := Lib.hid (show L.all (wrB m.tabs.length) = true by rw [List.take_of_length_le (by rw [HN.out]; omega)] at hall; exact hall)
      have HBW1 := HBW
      clear hall hlt hk HBW
      go_wp2_with fail
      go_loopw [43] (fun i wr => ∃ (k : Nat) (m' : Md), k ≤ n ∧ i = .int .i64 (k : Int) ∧ Hid (MdR S wr m') ∧ Hid (MdSame m m') ∧ Hid (m'.P = applyT m.P ((L.take k).map WrV.P)) ∧ Hid (Off (Maps' m) w wr) ∧ Hid (∀ N : Nat, (∀ x ∈ m.tabs, x.2.length ≤ N) → ∀ x ∈ m'.tabs, x.2.length ≤ N + k)) (fun i _ => n - (intOf i).toNat)
      case atStart => exact ⟨0, m, by omega, rfl, Lib.hid (HH.out.below HBW1.out), Lib.hid (MdSame.rfl' m), Lib.hid rfl, Lib.hid (Off.of HBW1.out), Lib.hid (fun N h z hz => by have := h z hz; omega)⟩
      case round =>
        obtain ⟨k, m', hk, rfl, HM, HSM, HP, HOF, HFW⟩ := hrel
        by_cases hlt : k < n
        · have d1 : (k : Int) < (n : Int) := by omega
          obtain ⟨x, hx⟩ : ∃ x, L[k]? = some x := ⟨_, List.getElem?_eq_getElem (by rw [HN.out]; exact hlt)⟩
          have hoS : Off S w wr := HOF.out.mono fun k hk => by obtain ⟨z, hz, rfl⟩ := hk; exact HH.out.hS z hz
          obtain ⟨b1, o1, ea, c0, c1, c2, l, rr⟩ := (HL.out wr hoS) k x hx
          subst ea
          have hwb : wrB m.tabs.length x = true := (List.all_eq_true.1 HA.out) x (List.mem_of_getElem? hx)
          unfold wrB at hwb
          rw [Bool.and_eq_true, Bool.and_eq_true, decide_eq_true_eq] at hwb
          obtain ⟨⟨⟨ht0, ht1⟩, hmk⟩, hmr⟩ := hwb
          have hxb := HB.out x (List.mem_of_getElem? hx)
          have hko : keyOk x.K := mayK_ok hmk hxb.1
          have hro : x.r.R ≠ [] → rOk x.r.P := fun hne => by
            rw [Bool.or_eq_true, decide_eq_true_eq] at hmr
            rcases hmr with e | e
            · exact absurd (List.length_eq_zero_iff.1 e) hne
            · exact mayR_rOk e hxb.2.2.2
          obtain ⟨t, ht⟩ : ∃ t : Nat, x.t = (t : Int) := ⟨x.t.toNat, by omega⟩
          rw [ht] at c0 ht1
          have HT := Lib.hid ht
          have htn : t < m'.tabs.length := by rw [HSM.out.len]; omega
          obtain ⟨z, hz⟩ : ∃ z, m'.tabs[t]? = some z := ⟨_, List.getElem?_eq_getElem htn⟩
          have HZ := Lib.hid hz
          have HX9 := Lib.hid hx
          have HKO := Lib.hid hko
          have HRO := Lib.hid hro
          have HRR := Lib.hid (And.intro l rr)
          have hrl : (x.r.R.length : Int) ≤ 1000000 := by omega
          have hfewz := HFW.out 900000 HF.out z (List.mem_of_getElem? hz)
          have hm4 := HM.out.few
          have htt : (t : Int) < (m'.tabs.length : Int) := by omega
          have ht3 : ¬ (t : Int) < 0 := by omega
          have htl : (m'.tabs.length : Int) ≤ 1000000 := by omega
          clear hx l rr hz hko hro hmr hmk hxb ht ht1 ht0 hoS htn hm4
          go_upto_region 12 with (fail)
          have HB5 := Lib.hid (bl1 wr (.cells #[.int .i64 (t : Int), .slice x.ka x.K.length x.kc, .slice x.r.ra x.r.R.length x.r.rc] 84))
          have hbx := BoxC.new wr #[.int .i64 (t : Int), .slice x.ka x.K.length x.kc, .slice x.r.ra x.r.R.length x.r.rc] 84
          obtain ⟨bx, hbxe⟩ : ∃ b, wr.heap.size = b := ⟨_, rfl⟩
          have HR5 := Lib.hid (HRR.out.2.below HB5.out)
          have HL5 := Lib.hid (HRR.out.1.below HB5.out)
          have HM5 := Lib.hid (HM.out.below HB5.out)
          have HO5 := Lib.hid (HOF.out.then HB5.out)
          rw [hbxe] at hbx
          obtain ⟨w5, hw5⟩ : ∃ W, W = wr.alloc (.cells #[.int .i64 (t : Int), .slice x.ka x.K.length x.kc, .slice x.r.ra x.r.R.length x.r.rc] 84) := ⟨_, rfl⟩
          rw [← hw5] at HB5 hbx HR5 HL5 HM5 HO5 ⊢
          rw [hbxe]
          have HBX := Lib.hid hbx
          have e2 := hbx.cell 2
          simp only [List.getElem?_toArray, List.getElem?_cons_zero, List.getElem?_cons_succ] at e2
          have hpp : m'.p = m.p := HSM.out.p
          have HX := Lib.hid (fun X (b : Below w5.heap.size w5 X) => (⟨by have := (HM5.out.below b).c; rw [hpp] at this; exact this, by rw [(HBX.out.below b).cell]; rfl, (HM5.out.below b).st.now.tab t z HZ.out, by rw [(HBX.out.below b).cell]; rfl, conv_ls X x.ka x.K.length x.kc x.K rfl (HL5.out.below b).rd, by rw [(HBX.out.below b).cell]; rfl⟩ : X.cell? ⟨m.p, 7, none⟩ = some (.slice (some ⟨m'.bt, 0, none⟩) m'.tabs.length m'.tc) ∧ X.cell? ⟨bx, 0, none⟩ = some (.int .i64 (t : Int)) ∧ X.cell? ⟨m'.bt, t, none⟩ = some (.map (some z.1)) ∧ X.cell? ⟨bx, 1, none⟩ = some (.slice x.ka x.K.length x.kc) ∧ (convert 42 9 (.slice x.ka x.K.length x.kc)).run Tryz.prog X = .ok (.string (strOfNums x.K)) X ∧ X.cell? ⟨bx, 2, none⟩ = some (.slice x.r.ra x.r.R.length x.r.rc)))
          have hzm := List.mem_of_getElem? HZ.out
          have HDEL := Lib.hid (fun X (b : Below w5.heap.size w5 X) => ((HM5.out.below b).maps z hzm).drop (t := 90) (e := 50) Tryz.underlying90 HKO.out.1 (by have := HKO.out.2; omega) 0)
          have HPUT := Lib.hid (fun X (b : Below w5.heap.size w5 X) => ((HM5.out.below b).maps z hzm).store (t := 90) (e := 50) Tryz.underlying90 HKO.out.1 (by have := HKO.out.2; omega) (by omega))
          have HS5 := Lib.hid (fun k hk => Nat.lt_of_lt_of_le (HS.out k hk) HO5.out.size)
          have HZM := Lib.hid hzm
          have HFZ := Lib.hid hfewz
          clear hbx hw5 hbxe hzm hfewz c0 c1 c2
          by_cases h0 : x.r.R.length = 0
          · rw [h0] at e2
            have HZ0 := Lib.hid h0
            clear h0
            have HXO := Lib.hid (fun X (o : Off (fun k => k = z.1) w5 X) => (by
              have oS : Off S w5 X := o.mono fun k hk => by cases hk; exact HM5.out.hS z HZM.out
              have hst := HM5.out.st X oS
              have hb := o.box HBX.out (fun e => (HM5.out.maps z HZM.out).ne_box HBX.out e.symm)
              have hl := (HL.out X ((HO5.out.mono fun k hk => by obtain ⟨q, hq, rfl⟩ := hk; exact HH.out.hS q hq).trans oS)) k x HX9.out
              refine ⟨?_, by rw [hb.cell]; rfl, hst.tab t z HZ.out, by rw [hb.cell]; rfl, conv_ls X x.ka x.K.length x.kc x.K rfl ?_, by rw [hb.cell]; rfl⟩
              · have := hst.box.cell 7
                rw [hpp] at this
                exact this
              · obtain ⟨_, _, _, _, _, _, hl, _⟩ := hl
                exact hl.rd : X.cell? ⟨m.p, 7, none⟩ = some (.slice (some ⟨m'.bt, 0, none⟩) m'.tabs.length m'.tc) ∧ X.cell? ⟨bx, 0, none⟩ = some (.int .i64 (t : Int)) ∧ X.cell? ⟨m'.bt, t, none⟩ = some (.map (some z.1)) ∧ X.cell? ⟨bx, 1, none⟩ = some (.slice x.ka x.K.length x.kc) ∧ (convert 42 9 (.slice x.ka x.K.length x.kc)).run Tryz.prog X = .ok (.string (strOfNums x.K)) X ∧ X.cell? ⟨bx, 2, none⟩ = some (.slice x.r.ra x.r.R.length x.r.rc)))
            go_upto_region 13 with (fail)
            refine wp_region_held_drew (S := (fun X => Off (fun k => k = z.1) w5 X)) (by kernel_rfl) ((Off.refl _ _).drew) (fun hHeld => ?_)
            refine tp 0 ?_ rfl (.inl ⟨by rfl, ?_⟩) ?_
            rotate_left
            · intro W hSw; go_simp; try with_reducible rfl
            refine tp 1 ?_ rfl (.inl ⟨by rfl, ?_⟩) ?_
            rotate_left
            · intro W hSw; go_simp; try with_reducible rfl
            refine tp 2 ?_ rfl (.inl ⟨by rfl, ?_⟩) ?_
            rotate_left
            · intro W hSw; go_simp; try with_reducible rfl
            refine tp 3 ?_ rfl (.inl ⟨by rfl, ?_⟩) ?_
            rotate_left
            · intro W hSw; have m := (HXO.out W hSw).1; go_simp; try with_reducible rfl
            refine tp 4 ?_ rfl (.inl ⟨by rfl, ?_⟩) ?_
            rotate_left
            · intro W hSw; go_simp; try with_reducible rfl
            refine tp 5 ?_ rfl (.inl ⟨by rfl, ?_⟩) ?_
            rotate_left
            · intro W hSw; have m := (HXO.out W hSw).2.1; go_simp; try with_reducible rfl
            refine tp 6 ?_ rfl (.inl ⟨by rfl, ?_⟩) ?_
            rotate_left
            · intro W hSw; go_simp; try with_reducible rfl
            refine tp 7 ?_ rfl (.inl ⟨by rfl, ?_⟩) ?_
            rotate_left
            · intro W hSw; have m := (HXO.out W hSw).2.2.1; go_simp; try with_reducible rfl
            refine tp 8 ?_ rfl (.inl ⟨by rfl, ?_⟩) ?_
            rotate_left
            · intro W hSw; go_simp; try with_reducible rfl
            refine tp 9 ?_ rfl (.inl ⟨by rfl, ?_⟩) ?_
            rotate_left
            · intro W hSw; have m := (HXO.out W hSw).2.2.2.1; go_simp; try with_reducible rfl
            refine tp 10 ?_ rfl (.inl ⟨by rfl, ?_⟩) ?_
            rotate_left
            · intro W hSw; have m := (HXO.out W hSw).2.2.2.2.1; go_simp; try with_reducible rfl
            refine wpAnyH_ready (rs := [11]) (by kernel_rfl) (by simp) ?_
            refine AllReadyH.cons (o := { dst := none, op := Op.call { callee := Callee.builtin Builtin.delete, args := #[Operand.tmp 58, Operand.tmp 61], argTypes := #[90, 9] }, type := 0, pos := "model.go:104", after := #[{ on := 7, ground := Ground.data }, { on := 10, ground := Ground.data }], guard := none }) rfl (fun K hK => ?_) AllReadyH.nil
            obtain ⟨w7, hrun, hmp7, hg7⟩ := HDEL.out _ ((Below.refl w5.heap.size w5).drew)
            have o7 : Off (fun k => k = z.1) w5 w7 := (Off.of ((Below.refl w5.heap.size w5).drew)).trans (Off.of_map hg7 rfl)
            go_simp
            refine hK.out _ _ o7 (fun hHeldn => ?_)
            clear hK K hHeld; have hHeld := hHeldn; clear hHeldn
            try simp only [Act.put, List.setIfInBounds_toArray, List.set_cons_zero, List.set_cons_succ]
            refine wpAnyH_done (by kernel_rfl) ?_ _
            skip
            have hup := HM5.out.up HZ.out o7 hmp7 (fun e he => by
              rcases mem_setM.1 he with he | he
              · exact (HM5.out.rows z HZM.out e he.1).off (o7.mono fun k hk => by cases hk; exact HM5.out.hS z HZM.out)
              · cases he.2) (by rw [tabP_del]; exact (HM5.out.lim z HZM.out).set HKO.out fun e => absurd rfl e)
            have HUP := Lib.hid hup
            have HO7 := Lib.hid (HO5.out.trans (o7.mono fun k hk => by cases hk; exact HSM.out.mem HZM.out))
            have HLN := Lib.hid (setM_len (HM5.out.maps z HZM.out).ris x.K none)
            clear o7 hmp7 hg7 hup hrun hHeld e2
            go_wp2_with fail
            go_roundw
            case rel =>
              refine ⟨k + 1, _, by omega, by go_num, HUP, Lib.hid (HSM.out.set HZ.out _), Lib.hid ?_, HO7, Lib.hid (fun N hN q hq => ?_)⟩
              · rw [applyT_take m.P L HX9.out, ← HP.out, HT.out]
                have hre : x.r.P = [] := by unfold RV.P; rw [List.length_eq_zero_iff.1 HZ0.out]; rfl
                rw [hre]
                exact Md.P_set HZ.out _ x.K [] (tabP_del _ _)
              · rcases List.mem_or_eq_of_mem_set hq with hq | rfl
                · have := HFW.out N hN q hq; omega
                · have := HFW.out N hN z HZM.out; have := HLN.out; show (setM z.2 x.K none).length ≤ _; omega
            case measure => simp [intOf]; omega
          · have hne : ((x.r.R.length : Int) == 0) = false := by simp; intro e; rw [e] at h0; simp at h0
            have HNE := Lib.hid (show x.r.R ≠ [] from fun e => h0 (by rw [e]; rfl))
            have HBD := Lib.hid (RV.bound (HRO.out HNE.out))
            clear h0
            go_upto_region 14 with (fail)
            refine wp_region_last (z := 14) (S := (fun X => Below w5.heap.size w5 X)) (by kernel_rfl) ((Below.refl _ _).drew) (fun hHeld => ?_)
            refine wpAnyL_take (i := 0) (oi := { dst := some 62, op := Op.move (Operand.tmp 0), type := 28, pos := "model.go:106", after := #[], guard := none }) (v := ?_) (by kernel_rfl) rfl (by kernel_rfl) rfl (by kernel_rfl) (by kernel_rfl) (by kernel_rfl) (fun _ _ _ h => h) (Or.inl ⟨by rfl, ?_⟩) (by assumption) ?_
            rotate_left
            · intro W hSw; go_simp; try with_reducible rfl
            try simp only [Act.put, List.setIfInBounds_toArray, List.set_cons_zero, List.set_cons_succ]
            refine wpAnyL_take (i := 1) (oi := { dst := some 63, op := Op.nilCheck (Operand.tmp 62), type := 0, pos := "model.go:106", after := #[{ on := 0, ground := Ground.data }], guard := none }) (v := ?_) (by kernel_rfl) rfl (by kernel_rfl) rfl (by kernel_rfl) (by kernel_rfl) (by kernel_rfl) (fun _ _ _ h => h) (Or.inl ⟨by rfl, ?_⟩) (by assumption) ?_
            rotate_left
            · intro W hSw; go_simp; try with_reducible rfl
            try simp only [Act.put, List.setIfInBounds_toArray, List.set_cons_zero, List.set_cons_succ]
            refine wpAnyL_take (i := 2) (oi := { dst := some 64, op := Op.fieldAddr 89 (Operand.tmp 63) 1, type := 0, pos := "model.go:106", after := #[{ on := 1, ground := Ground.data }], guard := none }) (v := ?_) (by kernel_rfl) rfl (by kernel_rfl) rfl (by kernel_rfl) (by kernel_rfl) (by kernel_rfl) (fun _ _ _ h => h) (Or.inl ⟨by rfl, ?_⟩) (by assumption) ?_
            rotate_left
            · intro W hSw; go_simp; try with_reducible rfl
            try simp only [Act.put, List.setIfInBounds_toArray, List.set_cons_zero, List.set_cons_succ]
            refine wpAnyL_take (i := 3) (oi := { dst := some 65, op := Op.load 87 (Operand.tmp 64), type := 87, pos := "model.go:106", after := #[{ on := 2, ground := Ground.data }], guard := none }) (v := ?_) (by kernel_rfl) rfl (by kernel_rfl) rfl (by kernel_rfl) (by kernel_rfl) (by kernel_rfl) (fun _ _ _ h => h) (Or.inl ⟨by rfl, ?_⟩) (by assumption) ?_
            rotate_left
            · intro W hSw; have m := (HX.out W hSw).1; go_simp; try with_reducible rfl
            try simp only [Act.put, List.setIfInBounds_toArray, List.set_cons_zero, List.set_cons_succ]
            refine wpAnyL_take (i := 4) (oi := { dst := some 66, op := Op.fieldAddr 84 (Operand.tmp 8) 0, type := 0, pos := "model.go:106", after := #[], guard := none }) (v := ?_) (by kernel_rfl) rfl (by kernel_rfl) rfl (by kernel_rfl) (by kernel_rfl) (by kernel_rfl) (fun _ _ _ h => h) (Or.inl ⟨by rfl, ?_⟩) (by assumption) ?_
            rotate_left
            · intro W hSw; go_simp; try with_reducible rfl
            try simp only [Act.put, List.setIfInBounds_toArray, List.set_cons_zero, List.set_cons_succ]
            refine wpAnyL_take (i := 5) (oi := { dst := some 67, op := Op.load 3 (Operand.tmp 66), type := 3, pos := "model.go:106", after := #[{ on := 4, ground := Ground.data }], guard := none }) (v := ?_) (by kernel_rfl) rfl (by kernel_rfl) rfl (by kernel_rfl) (by kernel_rfl) (by kernel_rfl) (fun _ _ _ h => h) (Or.inl ⟨by rfl, ?_⟩) (by assumption) ?_
            rotate_left
            · intro W hSw; have m := (HX.out W hSw).2.1; go_simp; try with_reducible rfl
            try simp only [Act.put, List.setIfInBounds_toArray, List.set_cons_zero, List.set_cons_succ]
            refine wpAnyL_take (i := 6) (oi := { dst := some 68, op := Op.indexAddr 87 (Operand.tmp 65) (Operand.tmp 67), type := 0, pos := "model.go:106", after := #[{ on := 3, ground := Ground.data }, { on := 5, ground := Ground.data }], guard := none }) (v := ?_) (by kernel_rfl) rfl (by kernel_rfl) rfl (by kernel_rfl) (by kernel_rfl) (by kernel_rfl) (fun _ _ _ h => h) (Or.inl ⟨by rfl, ?_⟩) (by assumption) ?_
            rotate_left
            · intro W hSw; go_simp; try with_reducible rfl
            try simp only [Act.put, List.setIfInBounds_toArray, List.set_cons_zero, List.set_cons_succ]
            refine wpAnyL_take (i := 7) (oi := { dst := some 69, op := Op.load 90 (Operand.tmp 68), type := 90, pos := "model.go:106", after := #[{ on := 6, ground := Ground.data }], guard := none }) (v := ?_) (by kernel_rfl) rfl (by kernel_rfl) rfl (by kernel_rfl) (by kernel_rfl) (by kernel_rfl) (fun _ _ _ h => h) (Or.inl ⟨by rfl, ?_⟩) (by assumption) ?_
            rotate_left
            · intro W hSw; have m := (HX.out W hSw).2.2.1; go_simp; try with_reducible rfl
            try simp only [Act.put, List.setIfInBounds_toArray, List.set_cons_zero, List.set_cons_succ]
            refine wpAnyL_take (i := 8) (oi := { dst := some 70, op := Op.fieldAddr 84 (Operand.tmp 8) 1, type := 0, pos := "model.go:106", after := #[], guard := none }) (v := ?_) (by kernel_rfl) rfl (by kernel_rfl) rfl (by kernel_rfl) (by kernel_rfl) (by kernel_rfl) (fun _ _ _ h => h) (Or.inl ⟨by rfl, ?_⟩) (by assumption) ?_
            rotate_left
            · intro W hSw; go_simp; try with_reducible rfl
            try simp only [Act.put, List.setIfInBounds_toArray, List.set_cons_zero, List.set_cons_succ]
            refine wpAnyL_take (i := 9) (oi := { dst := some 71, op := Op.load 42 (Operand.tmp 70), type := 42, pos := "model.go:106", after := #[{ on := 8, ground := Ground.data }], guard := none }) (v := ?_) (by kernel_rfl) rfl (by kernel_rfl) rfl (by kernel_rfl) (by kernel_rfl) (by kernel_rfl) (fun _ _ _ h => h) (Or.inl ⟨by rfl, ?_⟩) (by assumption) ?_
            rotate_left
            · intro W hSw; have m := (HX.out W hSw).2.2.2.1; go_simp; try with_reducible rfl
            try simp only [Act.put, List.setIfInBounds_toArray, List.set_cons_zero, List.set_cons_succ]
            refine wpAnyL_take (i := 10) (oi := { dst := some 72, op := Op.convert 42 9 (Operand.tmp 71), type := 9, pos := "model.go:106", after := #[{ on := 9, ground := Ground.data }], guard := none }) (v := ?_) (by kernel_rfl) rfl (by kernel_rfl) rfl (by kernel_rfl) (by kernel_rfl) (by kernel_rfl) (fun _ _ _ h => h) (Or.inl ⟨by rfl, ?_⟩) (by assumption) ?_
            rotate_left
            · intro W hSw; have m := (HX.out W hSw).2.2.2.2.1; go_simp; try with_reducible rfl
            try simp only [Act.put, List.setIfInBounds_toArray, List.set_cons_zero, List.set_cons_succ]
            refine wpAnyL_take (i := 11) (oi := { dst := some 73, op := Op.fieldAddr 84 (Operand.tmp 8) 2, type := 0, pos := "model.go:106", after := #[], guard := none }) (v := ?_) (by kernel_rfl) rfl (by kernel_rfl) rfl (by kernel_rfl) (by kernel_rfl) (by kernel_rfl) (fun _ _ _ h => h) (Or.inl ⟨by rfl, ?_⟩) (by assumption) ?_
            rotate_left
            · intro W hSw; go_simp; try with_reducible rfl
            try simp only [Act.put, List.setIfInBounds_toArray, List.set_cons_zero, List.set_cons_succ]
            refine wpAnyL_take (i := 12) (oi := { dst := some 74, op := Op.load 50 (Operand.tmp 73), type := 50, pos := "model.go:106", after := #[{ on := 11, ground := Ground.data }], guard := none }) (v := ?_) (by kernel_rfl) rfl (by kernel_rfl) rfl (by kernel_rfl) (by kernel_rfl) (by kernel_rfl) (fun _ _ _ h => h) (Or.inl ⟨by rfl, ?_⟩) (by assumption) ?_
            rotate_left
            · intro W hSw; have m := (HX.out W hSw).2.2.2.2.2; go_simp; try with_reducible rfl
            try simp only [Act.put, List.setIfInBounds_toArray, List.set_cons_zero, List.set_cons_succ]
            refine wpAnyL_ready (rs := [13]) (by kernel_rfl) (by simp) ?_
            refine AllL.cons (o := { dst := some 75, op := Op.call { callee := Callee.value (Operand.func 55), args := #[Operand.tmp 74], argTypes := #[50] }, type := 50, pos := "model.go:106", after := #[{ on := 12, ground := Ground.data }], guard := none }) rfl (fun K hK => ?_) AllL.nil
            go_simp
            refine (rowcopy_law _ x.r.R _ _ rfl HBD.out.1 HBD.out.2 _ ((HR5.out).below hHeld)).mono ?_; rintro r w6 ⟨⟨v6, rfl, hc6⟩, hb6⟩
            obtain ⟨a6, c6, R6, hv6, hl6, hm6, hst6⟩ := cpR_stay (S := S) hc6 rfl (fun k hk => Nat.lt_of_lt_of_le (HS5.out k hk) hHeld.size)
            subst hv6
            go_wp2_with fail
            have HC6 := Lib.hid (And.intro hl6 (And.intro hm6 hst6))
            have HB6 := Lib.hid (step_below hHeld hb6)
            refine hK.out _ _ HB6.out (fun hHeldn => ?_)
            clear hK K hHeld hc6 hb6 hl6 hm6 hst6; have hHeld := hHeldn; clear hHeldn
            try simp only [Act.put, List.setIfInBounds_toArray, List.set_cons_zero, List.set_cons_succ]
            refine wpAnyL_ready (rs := [14]) (by kernel_rfl) (by simp) ?_
            refine AllL.last (o := { dst := none, op := Op.mapUpdate 90 (Operand.tmp 69) (Operand.tmp 72) (Operand.tmp 75), type := 0, pos := "model.go:106", after := #[{ on := 7, ground := Ground.data }, { on := 10, ground := Ground.data }, { on := 13, ground := Ground.data }, { on := 13, ground := Ground.chain }, { on := 0, ground := Ground.phase }, { on := 1, ground := Ground.phase }, { on := 2, ground := Ground.phase }, { on := 3, ground := Ground.phase }, { on := 4, ground := Ground.phase }, { on := 5, ground := Ground.phase }, { on := 6, ground := Ground.phase }, { on := 7, ground := Ground.phase }, { on := 8, ground := Ground.phase }, { on := 9, ground := Ground.phase }, { on := 10, ground := Ground.phase }, { on := 11, ground := Ground.phase }, { on := 12, ground := Ground.phase }, { on := 13, ground := Ground.phase }], guard := none }) rfl (fun K hK => ?_)
            obtain ⟨w7, hrun, hmp7, hg7⟩ := HPUT.out _ hHeld ⟨a6, c6, R6⟩
            simp only [RV.v, HC6.out.1] at hrun
            go_simp
            refine hK.out _ _ ?_
            clear hK K
            try simp only [Act.put, List.setIfInBounds_toArray, List.set_cons_zero, List.set_cons_succ]
            refine wpAnyL_done (by kernel_rfl) ?_ _
            skip
            have o67 : Off (fun k => k = z.1) w6 w7 := Off.of_map hg7 rfl
            have o7 : Off (fun k => k = z.1) w5 w7 := (Off.of HB6.out).trans o67
            have hP6 : (⟨a6, c6, R6⟩ : RV).P = x.r.P := HC6.out.2.1
            have hPne : (⟨a6, c6, R6⟩ : RV).P ≠ [] := by rw [hP6]; unfold RV.P; simpa using HNE.out
            have hup := HM5.out.up HZ.out o7 hmp7 (fun e he => by
              rcases mem_setM.1 he with he | he
              · exact (HM5.out.rows z HZM.out e he.1).off (o7.mono fun k hk => by cases hk; exact HM5.out.hS z HZM.out)
              · have e2 := he.2
                injection e2 with e2
                rw [← e2]
                exact HC6.out.2.2.off (o67.mono fun k hk => by cases hk; exact HM5.out.hS z HZM.out)) (by rw [tabP_set _ _ _ hPne]; exact (HM5.out.lim z HZM.out).set HKO.out fun e => by rw [hP6]; exact HRO.out HNE.out)
            have HUP := Lib.hid hup
            have HO7 := Lib.hid (HO5.out.trans (o7.mono fun k hk => by cases hk; exact HSM.out.mem HZM.out))
            have HLN := Lib.hid (setM_len (HM5.out.maps z HZM.out).ris x.K (some (⟨a6, c6, R6⟩ : RV)))
            have HP6 := Lib.hid (And.intro hP6 hPne)
            clear o7 o67 hmp7 hg7 hup hrun e2 hP6 hPne
            go_wp2_with fail
            go_roundw
            case rel =>
              refine ⟨k + 1, _, by omega, by go_num, HUP, Lib.hid (HSM.out.set HZ.out _), Lib.hid ?_, HO7, Lib.hid (fun N hN q hq => ?_)⟩
              · rw [applyT_take m.P L HX9.out, ← HP.out, HT.out]
                refine Md.P_set HZ.out _ x.K x.r.P ?_
                rw [tabP_set _ _ _ HP6.out.2, HP6.out.1]
              · rcases List.mem_or_eq_of_mem_set hq with hq | rfl
                · have := HFW.out N hN q hq; omega
                · have := HFW.out N hN z HZM.out; have := HLN.out; show (setM z.2 x.K _).length ≤ _; omega
            case measure => simp [intOf]; omega
        · have d1 : ¬ (k : Int) < (n : Int) := by omega
          have HV := Lib.hid (show L.take k = L from List.take_of_length_le (by rw [HN.out]; omega))
          go_wp2_with fail
          go_ret
          refine ⟨m', by rw [HA.out]; rfl, HM.out, HSM.out, by rw [HA.out]; rw [HP.out, HV.out]; rfl, HOF.out, fun N hN q hq => ?_⟩
          have := HFW.out N hN q hq
          have := HN.out
          omega
end Go.Proofs.YthmofoldmdafoaaGreat
namespace Go.Proofs.YthmofoldmdafoaaGreat
open Go.ChangeShapes Go.WideShapes Go.ChangeAt Go.RowKit Go.Maps
set_option linter.unusedVariables false
set_option linter.unusedSimpArgs false

def bcl (b : Nat) : List Value := [.map (some b)]
theorem store_func (w : World) (a : Addr) (f : Fn) (cs : Array Value) (o : Value) (hc : w.cell? a = some o) (hf : w.frozen? a = false) : (store a (.func f #[] cs)).run Tryz.prog w = .ok () (w.setCell a (.func f #[] cs)) := by
  rw [run_store Tryz.prog w a _ _ rfl, hc, hf]; rfl
theorem bcl_len (b : Nat) : (bcl b).length = 1 := rfl
set_option maxRecDepth 100000 in
set_option maxHeartbeats 4000000 in
/-- newTrial (81). -/
theorem newtrial_law {S : Nat → Prop} {m : Md} {w : World} (h : MdR S w m) (hS : ∀ k, S k → k < w.heap.size) :
    Calls Tryz.prog 81 #[.pointer (some ⟨m.p, 0, none⟩)] w fun r w' => ∃ S' x, r = .returned (.pointer (some ⟨x.px, 0, none⟩)) ∧ Below w.heap.size w w' ∧ TlR S' w.heap.size w' m x ∧ x.ws = [] ∧ x.rs = [] ∧ (∀ k, S k → S' k) ∧ (∀ k, S' k → S k ∨ w.heap.size ≤ k) := by
  have HH := Lib.hid h
  have HS := Lib.hid hS
  have hc := h.c
  have hfew := h.few
  have htl : (m.tabs.length : Int) ≤ 1000000 := by omega
  have hmm := @run_makeMap Tryz.prog
  have HMM := Lib.hid hmm
  clear h hS
  go_enter Tryz.func81, Tryz.ntmps81
  go_upto_region 2 with (fail)
  have hb0 := ((BoxC.new w #[.pointer (some ⟨m.p, 0, none⟩)] 28).alloc (.cells #[.pointer (some ⟨m.p, 0, none⟩), .slice none 0 0, .slice none 0 0, .slice none 0 0, .nilFunc] 123)).alloc (.cells #[.pointer (some ⟨w.heap.size + 1, 0, none⟩)] 117)
  have hb1 := (BoxC.new (w.alloc (.cells #[.pointer (some ⟨m.p, 0, none⟩)] 28)) #[.pointer (some ⟨m.p, 0, none⟩), .slice none 0 0, .slice none 0 0, .slice none 0 0, .nilFunc] 123).alloc (.cells #[.pointer (some ⟨w.heap.size + 1, 0, none⟩)] 117)
  have hb2 := BoxC.new ((w.alloc (.cells #[.pointer (some ⟨m.p, 0, none⟩)] 28)).alloc (.cells #[.pointer (some ⟨m.p, 0, none⟩), .slice none 0 0, .slice none 0 0, .slice none 0 0, .nilFunc] 123)) #[.pointer (some ⟨w.heap.size + 1, 0, none⟩)] 117
  have hbl : Below w.heap.size w (((w.alloc (.cells #[.pointer (some ⟨m.p, 0, none⟩)] 28)).alloc (.cells #[.pointer (some ⟨m.p, 0, none⟩), .slice none 0 0, .slice none 0 0, .slice none 0 0, .nilFunc] 123)).alloc (.cells #[.pointer (some ⟨w.heap.size + 1, 0, none⟩)] 117)) := step_below (step_below (bl1 _ _) (bl1 _ _)) (bl1 _ _)
  rw [World.size_alloc] at hb1
  rw [World.size_alloc, World.size_alloc] at hb2
  generalize ((w.alloc (.cells #[.pointer (some ⟨m.p, 0, none⟩)] 28)).alloc (.cells #[.pointer (some ⟨m.p, 0, none⟩), .slice none 0 0, .slice none 0 0, .slice none 0 0, .nilFunc] 123)).alloc (.cells #[.pointer (some ⟨w.heap.size + 1, 0, none⟩)] 117) = w0 at hb0 hb1 hb2 hbl ⊢
  have HB0 := Lib.hid hb0
  have HB1 := Lib.hid hb1
  have HB2 := Lib.hid hb2
  have HBL := Lib.hid hbl
  have hc0 := (hbl.cell (World.block_lt_of_cell? w _ hc)).trans hc
  have hv0 := hb0.cell 0
  simp only [List.getElem?_toArray, List.getElem?_cons_zero] at hv0
  clear hb0 hb1 hb2 hbl hc
  go_wp2_with fail
  clear hc0 hv0 hmm
  go_loopw [12] (fun i wr => ∃ (k : Nat) (B : List Nat) (wv : Value), k ≤ m.tabs.length ∧ i = .int .i64 (k : Int) ∧ Hid (BoxC wr w.heap.size #[.pointer (some ⟨m.p, 0, none⟩)] 28) ∧ Hid (BoxC wr (w.heap.size + 1) #[.pointer (some ⟨m.p, 0, none⟩), wv, .slice none 0 0, .slice none 0 0, .nilFunc] 123) ∧ Hid (BoxC wr (w.heap.size + 1 + 1) #[.pointer (some ⟨w.heap.size + 1, 0, none⟩)] 117) ∧ Hid (B.length = k) ∧ Hid (wr.ownsRow w.heap.size 173 1 wv k (cellsOf bcl B)) ∧ Hid (∀ b ∈ B, Mp wr b iV [] ∧ w.heap.size ≤ b) ∧ Hid B.Nodup ∧ Hid (Below w.heap.size w wr)) (fun i _ => m.tabs.length - (intOf i).toNat)
  case atStart => exact ⟨0, [], .slice none 0 0, by omega, rfl, HB0, HB1, HB2, Lib.hid rfl, Lib.hid (World.ownsRow_nil _ _ _ _), Lib.hid (fun b hb => by simp at hb), Lib.hid List.nodup_nil, HBL⟩
  case round =>
    obtain ⟨k, B, wv, hk, rfl, HX0, HXP, HXV, HN, HOW, HMP, HND, HB⟩ := hrel
    by_cases hlt : k < m.tabs.length
    · have d1 : (k : Int) < (m.tabs.length : Int) := by omega
      have hmm := HMM.out
      have hnb : ∀ g cs t, t ≠ 173 → BoxC wr g cs t → ¬ wv.ownBlock = some g := fun g cs t ht hb e => by
        obtain ⟨_, _, cur, hb2⟩ := own_blk HOW.out e
        exact box_ne hb2 hb (Ne.symm ht) rfl
      have HBP := Lib.hid (fun X (o : Off (fun k => wv.ownBlock = some k) wr X) => o.box HXP.out (hnb _ _ _ (by decide) HXP.out))
      have HBV := Lib.hid (fun X (o : Off (fun k => wv.ownBlock = some k) wr X) => o.box HXV.out (hnb _ _ _ (by decide) HXV.out))
      have HB0' := Lib.hid (fun X (o : Off (fun k => wv.ownBlock = some k) wr X) => o.box HX0.out (hnb _ _ _ (by decide) HX0.out))
      have HPX := Lib.hid (fun X (o : Off (fun k => wv.ownBlock = some k) wr X) => (by rw [(HBP.out X o).cell]; rfl : X.cell? ⟨w.heap.size + 1, 1, none⟩ = some wv))
      have HVX := Lib.hid (fun X (o : Off (fun k => wv.ownBlock = some k) wr X) => (by rw [(HBV.out X o).cell]; rfl : X.cell? ⟨w.heap.size + 1 + 1, 0, none⟩ = some (.pointer (some ⟨w.heap.size + 1, 0, none⟩))))
      clear hnb
      go_upto_region 4 with (fail)
      refine wp_region_last (z := 10) (S := (fun X => Off (fun k => wv.ownBlock = some k) wr X)) (by kernel_rfl) ((Off.refl _ _).drew) (fun hHeld => ?_)
      refine wpAnyL_take (i := 0) (oi := { dst := some 14, op := Op.load 117 (Operand.tmp 3), type := 117, pos := "trial.go:25", after := #[], guard := none }) (v := ?_) (by kernel_rfl) rfl (by kernel_rfl) rfl (by kernel_rfl) (by kernel_rfl) (by kernel_rfl) (fun _ _ _ h => h) (Or.inl ⟨by rfl, ?_⟩) (by assumption) ?_
      rotate_left
      · intro W hSw; have m := HVX.out W hSw; go_simp; try with_reducible rfl
      try simp only [Act.put, List.setIfInBounds_toArray, List.set_cons_zero, List.set_cons_succ]
      refine wpAnyL_take (i := 1) (oi := { dst := some 15, op := Op.load 117 (Operand.tmp 3), type := 117, pos := "trial.go:25", after := #[], guard := none }) (v := ?_) (by kernel_rfl) rfl (by kernel_rfl) rfl (by kernel_rfl) (by kernel_rfl) (by kernel_rfl) (fun _ _ _ h => h) (Or.inl ⟨by rfl, ?_⟩) (by assumption) ?_
      rotate_left
      · intro W hSw; have m := HVX.out W hSw; go_simp; try with_reducible rfl
      try simp only [Act.put, List.setIfInBounds_toArray, List.set_cons_zero, List.set_cons_succ]
      refine wpAnyL_take (i := 2) (oi := { dst := some 16, op := Op.nilCheck (Operand.tmp 15), type := 0, pos := "trial.go:25", after := #[{ on := 1, ground := Ground.data }], guard := none }) (v := ?_) (by kernel_rfl) rfl (by kernel_rfl) rfl (by kernel_rfl) (by kernel_rfl) (by kernel_rfl) (fun _ _ _ h => h) (Or.inl ⟨by rfl, ?_⟩) (by assumption) ?_
      rotate_left
      · intro W hSw; go_simp; try with_reducible rfl
      try simp only [Act.put, List.setIfInBounds_toArray, List.set_cons_zero, List.set_cons_succ]
      refine wpAnyL_take (i := 3) (oi := { dst := some 17, op := Op.fieldAddr 123 (Operand.tmp 16) 1, type := 0, pos := "trial.go:25", after := #[{ on := 2, ground := Ground.data }], guard := none }) (v := ?_) (by kernel_rfl) rfl (by kernel_rfl) rfl (by kernel_rfl) (by kernel_rfl) (by kernel_rfl) (fun _ _ _ h => h) (Or.inl ⟨by rfl, ?_⟩) (by assumption) ?_
      rotate_left
      · intro W hSw; go_simp; try with_reducible rfl
      try simp only [Act.put, List.setIfInBounds_toArray, List.set_cons_zero, List.set_cons_succ]
      refine wpAnyL_take (i := 4) (oi := { dst := some 18, op := Op.load 120 (Operand.tmp 17), type := 120, pos := "trial.go:25", after := #[{ on := 3, ground := Ground.data }], guard := none }) (v := ?_) (by kernel_rfl) rfl (by kernel_rfl) rfl (by kernel_rfl) (by kernel_rfl) (by kernel_rfl) (fun _ _ _ h => h) (Or.inl ⟨by rfl, ?_⟩) (by assumption) ?_
      rotate_left
      · intro W hSw; have m := HPX.out W hSw; go_simp; try with_reducible rfl
      try simp only [Act.put, List.setIfInBounds_toArray, List.set_cons_zero, List.set_cons_succ]
      refine wpAnyL_ready (rs := [5]) (by kernel_rfl) (by simp) ?_
      refine AllL.cons (o := { dst := some 19, op := Op.makeMap 173 none, type := 173, pos := "trial.go:25", after := #[], guard := none }) rfl (fun K hK => ?_) AllL.nil
      go_simp
      have HB5 := Lib.hid (((Below.refl wr.heap.size wr).drew).trans (bl1 wr.drew (.map #[] 0)))
      have HF5 := Lib.hid (hHeld.then (bl1 wr.drew (.map #[] 0)))
      refine hK.out _ _ HF5.out (fun hHeldn => ?_)
      clear hK K hHeld; have hHeld := hHeldn; clear hHeldn
      try simp only [Act.put, List.setIfInBounds_toArray, List.set_cons_zero, List.set_cons_succ]
      refine wpAnyL_ready (rs := [6]) (by kernel_rfl) (by simp) ?_
      refine AllL.cons (o := { dst := some 20, op := Op.buildSlice 120 1 #[(0, Operand.tmp 19)], type := 120, pos := "trial.go:25", after := #[{ on := 5, ground := Ground.data }], guard := none }) rfl (fun K hK => ?_) AllL.nil
      go_simp
      have HB6 := Lib.hid (step_below HB5.out (bl1 (wr.drew.alloc (.map #[] 0)) (.cells #[.map (some wr.heap.size)] 173)))
      have HF6 := Lib.hid (hHeld.then (bl1 (wr.drew.alloc (.map #[] 0)) (.cells #[.map (some wr.heap.size)] 173)))
      refine hK.out _ _ HF6.out (fun hHeldn => ?_)
      clear hK K hHeld; have hHeld := hHeldn; clear hHeldn
      try simp only [Act.put, List.setIfInBounds_toArray, List.set_cons_zero, List.set_cons_succ]
      refine wpAnyL_ready (rs := [7]) (by kernel_rfl) (by simp) ?_
      refine AllL.cons (o := { dst := some 21, op := Op.call { callee := Callee.builtin Builtin.append, args := #[Operand.tmp 18, Operand.tmp 20], argTypes := #[120, 120] }, type := 120, pos := "trial.go:25", after := #[{ on := 4, ground := Ground.data }, { on := 6, ground := Ground.data }], guard := none }) rfl (fun K hK => ?_) AllL.nil
      have hown := own_kept HOW.out HB6.out
      refine step_append_cells ae_imap rfl _ _ rfl w.heap.size wv k (cellsOf bcl B) rfl hown ⟨(wr.drew.alloc (.map #[] 0)).heap.size, 0, none⟩ 1 1 [.map (some wr.heap.size)] (by simp [go_sem]) rfl (cells_new (wr.drew.alloc (.map #[] 0)) _ _ _ rfl) (fun u hu => by simp at hu; subst hu; rfl) (by omega) (Nat.le_trans HB.out.size HB6.out.size) ?_
      intro v9 w9 hown9 hgrow9 hat9
      obtain ⟨a9, c9, hv9⟩ := own_form22 hown9
      subst hv9
      have HO9 := Lib.hid hown9
      have HG9 := Lib.hid hgrow9
      have HAT := Lib.hid hat9
      have HF9 := Lib.hid (hHeld.trans (Off.of_row hgrow9))
      refine hK.out _ _ HF9.out (fun hHeldn => ?_)
      clear hown hown9 hgrow9 hat9
      clear hK K hHeld; have hHeld := hHeldn; clear hHeldn
      try simp only [Act.put, List.setIfInBounds_toArray, List.set_cons_zero, List.set_cons_succ]
      refine wpAnyL_free (i := 8) (oi := { dst := some 22, op := Op.nilCheck (Operand.tmp 14), type := 0, pos := "trial.go:25", after := #[{ on := 0, ground := Ground.data }, { on := 0, ground := Ground.phase }, { on := 1, ground := Ground.phase }, { on := 2, ground := Ground.phase }, { on := 3, ground := Ground.phase }, { on := 4, ground := Ground.phase }, { on := 5, ground := Ground.phase }, { on := 6, ground := Ground.phase }, { on := 7, ground := Ground.phase }], guard := none }) (v := ?_) (by kernel_rfl) rfl rfl (by kernel_rfl) (by kernel_rfl) (by kernel_rfl) (fun _ _ _ h => h) (Or.inl ⟨by rfl, ?_⟩) (by assumption) ?_
      rotate_left
      · intro W hSw; go_simp; try with_reducible rfl
      try simp only [Act.put, List.setIfInBounds_toArray, List.set_cons_zero, List.set_cons_succ]
      refine wpAnyL_take (i := 9) (oi := { dst := some 23, op := Op.fieldAddr 123 (Operand.tmp 22) 1, type := 0, pos := "trial.go:25", after := #[{ on := 8, ground := Ground.data }, { on := 0, ground := Ground.phase }, { on := 1, ground := Ground.phase }, { on := 2, ground := Ground.phase }, { on := 3, ground := Ground.phase }, { on := 4, ground := Ground.phase }, { on := 5, ground := Ground.phase }, { on := 6, ground := Ground.phase }, { on := 7, ground := Ground.phase }], guard := none }) (v := ?_) (by kernel_rfl) rfl (by kernel_rfl) rfl (by kernel_rfl) (by kernel_rfl) (by kernel_rfl) (fun _ _ _ h => h) (Or.inl ⟨by rfl, ?_⟩) (by assumption) ?_
      rotate_left
      · intro W hSw; go_simp; try with_reducible rfl
      try simp only [Act.put, List.setIfInBounds_toArray, List.set_cons_zero, List.set_cons_succ]
      refine wpAnyL_ready (rs := [10]) (by kernel_rfl) (by simp) ?_
      refine AllL.last (o := { dst := none, op := Op.store 120 (Operand.tmp 23) (Operand.tmp 21), type := 0, pos := "trial.go:25", after := #[{ on := 9, ground := Ground.data }, { on := 7, ground := Ground.data }, { on := 7, ground := Ground.chain }, { on := 0, ground := Ground.phase }, { on := 1, ground := Ground.phase }, { on := 2, ground := Ground.phase }, { on := 3, ground := Ground.phase }, { on := 4, ground := Ground.phase }, { on := 5, ground := Ground.phase }, { on := 6, ground := Ground.phase }, { on := 7, ground := Ground.phase }], guard := none }) rfl (fun K hK => ?_)
      have x4 := HPX.out w9 HF9.out
      have f4 := (HBP.out w9 HF9.out).frozen 1
      go_simp
      refine hK.out _ _ ?_
      clear hK K x4 f4
      try simp only [Act.put, List.setIfInBounds_toArray, List.set_cons_zero, List.set_cons_succ]
      refine wpAnyL_done (by kernel_rfl) ?_ _
      skip
      have hP9 := HBP.out w9 HF9.out
      have hV9 := HBV.out w9 HF9.out
      have h09 := HB0'.out w9 HF9.out
      have hne9 : ∀ g, Value.ownBlock (.slice a9 (k + 1) c9) = some g → g ≠ w.heap.size + 1 := fun g hg => by
        obtain ⟨_, _, cur, hb⟩ := own_blk HO9.out hg
        exact box_ne hb hP9 (by decide)
      have oP : Off (fun k => k = w.heap.size + 1) w9 (w9.setCell ⟨w.heap.size + 1, 1, none⟩ (.slice a9 (k + 1) c9)) := Off.set (S := fun k => k = w.heap.size + 1) (Off.refl _ w9) ⟨w.heap.size + 1, 1, none⟩ rfl _
      have q1 := oP.box h09 (by omega)
      have q2 : BoxC (w9.setCell ⟨w.heap.size + 1, 1, none⟩ (.slice a9 (k + 1) c9)) (w.heap.size + 1) #[.pointer (some ⟨m.p, 0, none⟩), .slice a9 (k + 1) c9, .slice none 0 0, .slice none 0 0, .nilFunc] 123 := heap_setCell_same w9 (w.heap.size + 1) 1 _ 123 _ hP9
      have q3 := oP.box hV9 (by omega)
      have q4 := own_offb HO9.out oP (fun g hg e => hne9 g hg e)
      have hbwv : ∀ b, wv.ownBlock = some b → b < wr.heap.size := fun b hb => (own_blk HOW.out hb).2.1
      have q5 : ∀ b ∈ B ++ [wr.heap.size], Mp (w9.setCell ⟨w.heap.size + 1, 1, none⟩ (.slice a9 (k + 1) c9)) b iV [] ∧ w.heap.size ≤ b := fun b hb => by
        rcases List.mem_append.1 hb with hb | hb
        · obtain ⟨h1, h2⟩ := HMP.out b hb
          refine ⟨((h1.off HF9.out fun e => ?_).off oP fun e => ?_), h2⟩
          · obtain ⟨_, _, cur, hb⟩ := own_blk HOW.out e
            exact h1.ne_box hb rfl
          · exact h1.ne_box HXP.out e
        · rw [List.mem_singleton] at hb
          subst hb
          have h1 := (Mp.new wr.drew iV).below (bl1 (wr.drew.alloc (.map #[] 0)) (.cells #[.map (some wr.heap.size)] 173))
          have h2 := h1.off (Off.of_row HG9.out) (fun e => Nat.lt_irrefl _ (hbwv _ e))
          exact ⟨h2.off oP (fun e => h2.ne_box hP9 e), HB.out.size⟩
      have q6 : (B ++ [wr.heap.size]).Nodup := List.nodup_append.2 ⟨HND.out, by simp, fun a ha b hb e => by
        rw [List.mem_singleton] at hb
        subst hb
        subst e
        exact Nat.lt_irrefl _ (HMP.out _ ha).1.lt⟩
      have q7 : Below w.heap.size w (w9.setCell ⟨w.heap.size + 1, 1, none⟩ (.slice a9 (k + 1) c9)) := (Off.below HB.out HF9.out HB.out.size (fun g hg => (own_blk HOW.out hg).1)).setCell (Nat.le_succ _) _
      have Q1 := Lib.hid q1
      have Q2 := Lib.hid q2
      have Q3 := Lib.hid q3
      have Q4 := Lib.hid q4
      have Q5 := Lib.hid q5
      have Q6 := Lib.hid q6
      have Q7 := Lib.hid q7
      clear q1 q2 q3 q4 q5 q6 q7 hP9 hV9 h09 hne9 oP hbwv hHeld hmm
      go_wp2_with fail
      go_roundw
      case rel => exact ⟨k + 1, B ++ [wr.heap.size], .slice a9 (k + 1) c9, by omega, by go_num, Q1, Q2, Q3, Lib.hid (by rw [List.length_append, HN.out]; rfl), Lib.hid (by rw [cellsOf_append]; exact Q4.out), Q5, Q6, Q7⟩
      case measure => simp [intOf]; omega
    · have d1 : ¬ (k : Int) < (m.tabs.length : Int) := by omega
      have hke : k = m.tabs.length := by omega
      have v0 := HXV.out.cell 0
      have p4 := HXP.out.cell 4
      have f4 := HXP.out.frozen 4
      simp only [List.getElem?_toArray, List.getElem?_cons_zero, List.getElem?_cons_succ] at v0 p4
      have hsf := store_func wr ⟨w.heap.size + 1, 4, none⟩ (.func 107) #[.pointer (some ⟨w.heap.size + 1 + 1, 0, none⟩), .pointer (some ⟨w.heap.size, 0, none⟩)] _ p4 f4
      go_upto_region 7 with (fail)
      have oP : Off (fun k => k = w.heap.size + 1) wr (wr.setCell ⟨w.heap.size + 1, 4, none⟩ (.func (.func 107) #[] #[.pointer (some ⟨w.heap.size + 1 + 1, 0, none⟩), .pointer (some ⟨w.heap.size, 0, none⟩)])) := Off.set (S := fun k => k = w.heap.size + 1) (Off.refl _ wr) ⟨w.heap.size + 1, 4, none⟩ rfl _
      have hbl : Below w.heap.size w (wr.setCell ⟨w.heap.size + 1, 4, none⟩ (.func (.func 107) #[] #[.pointer (some ⟨w.heap.size + 1 + 1, 0, none⟩), .pointer (some ⟨w.heap.size, 0, none⟩)])) := HB.out.setCell (Nat.le_succ _) _
      have q2 : BoxC (wr.setCell ⟨w.heap.size + 1, 4, none⟩ (.func (.func 107) #[] #[.pointer (some ⟨w.heap.size + 1 + 1, 0, none⟩), .pointer (some ⟨w.heap.size, 0, none⟩)])) (w.heap.size + 1) #[.pointer (some ⟨m.p, 0, none⟩), wv, .slice none 0 0, .slice none 0 0, .func (.func 107) #[] #[.pointer (some ⟨w.heap.size + 1 + 1, 0, none⟩), .pointer (some ⟨w.heap.size, 0, none⟩)]] 123 := heap_setCell_same wr (w.heap.size + 1) 4 _ 123 _ HXP.out
      generalize wr.setCell ⟨w.heap.size + 1, 4, none⟩ (.func (.func 107) #[] #[.pointer (some ⟨w.heap.size + 1 + 1, 0, none⟩), .pointer (some ⟨w.heap.size, 0, none⟩)]) = w8 at oP hbl q2 ⊢
      have q1 := oP.box HX0.out (by omega)
      have q3 := oP.box HXV.out (by omega)
      have z0 := q3.cell 0
      simp only [List.getElem?_toArray, List.getElem?_cons_zero] at z0
      have HOP := Lib.hid oP
      have HBL8 := Lib.hid hbl
      have HQ := Lib.hid (And.intro q1 (And.intro q2 q3))
      clear v0 p4 f4 hsf oP hbl q1 q2 q3
      go_wp2_with fail
      go_ret
      obtain ⟨wa, wc, hwv⟩ := own_form22 HOW.out
      have how := HOW.out
      rw [hwv] at how
      have hbn : 0 < B.length := by rw [HN.out]; omega
      obtain ⟨b0, hb0⟩ : ∃ b, B[0]? = some b := ⟨_, List.getElem?_eq_getElem hbn⟩
      obtain ⟨g, hg, hgb, _⟩ := own_cell22 bcl_len (by omega) how HN.out 0 b0 hb0
      rw [hg] at how hwv
      obtain ⟨_, hgl, cur, hgx⟩ := own_blk how rfl
      have hgp : g ≠ w.heap.size + 1 := box_ne hgx HXP.out (by decide)
      have how8 := own_offb how HOP.out (fun q hq e => by simp [Value.ownBlock] at hq; omega)
      have hmp8 : ∀ b ∈ B, Mp w8 b iV [] := fun b hb => (HMP.out b hb).1.off HOP.out fun e => (HMP.out b hb).1.ne_box HXP.out e
      obtain ⟨q1, q2, q3⟩ := HQ.out
      have hS' : ∀ k, (fun k => S k ∨ k = w.heap.size + 1 ∨ k ∈ B) k → S k ∨ w.heap.size ≤ k := fun k hk => by
        rcases hk with hk | hk | hk
        · exact .inl hk
        · exact .inr (by omega)
        · exact .inr (HMP.out k hk).2
      refine ⟨fun k => S k ∨ k = w.heap.size + 1 ∨ k ∈ B, ⟨w.heap.size + 1, w.heap.size + 1 + 1, w.heap.size, g, wc, B.map fun b => (b, []), .slice none 0 0, .slice none 0 0, [], []⟩, rfl, HBL8.out, ⟨?_, ?_, ?_, ?_, ?_, ?_, World.ownsRow_nil _ _ _ _, (fun y hy => by simp at hy), (fun y hy => by simp at hy), World.ownsRow_nil _ _ _ _, (fun y hy => by simp at hy), ?_, .inr (.inl rfl), ?_, (fun g hg => by cases hg), (fun g hg => by cases hg), ?_, ?_, Nat.le_succ _, ?_, ?_, by simp, by simp⟩, rfl, rfl, fun k hk => .inl hk, hS'⟩
      · exact HH.out.off (T := fun _ => False) (Off.of HBL8.out) (fun _ h => h.elim) (fun _ _ h => h) hS' fun x hx => .inl (HH.out.hS x hx)
      · intro k hk
        rcases hk with hk | rfl | hk
        · exact Nat.lt_of_lt_of_le (HS.out k hk) HBL8.out.size
        · exact q2.lt
        · exact (hmp8 k hk).lt
      · unfold Tl.cs
        rw [List.length_map, HN.out, ← hwv]
        exact q2
      · intro W' o
        refine ⟨o.box q3 ?_, o.box q1 ?_, ?_⟩
        · rintro (hk | hk | hk)
          · exact absurd (show w.heap.size + 1 + 1 < w.heap.size from HS.out _ hk) (by omega)
          · exact absurd (show w.heap.size + 1 + 1 = w.heap.size + 1 from hk) (by omega)
          · exact (hmp8 _ hk).ne_box q3 rfl
        · rintro (hk | hk | hk)
          · exact absurd (show w.heap.size < w.heap.size from HS.out _ hk) (by omega)
          · exact absurd (show w.heap.size = w.heap.size + 1 from hk) (by omega)
          · exact (hmp8 _ hk).ne_box q1 rfl
        · intro i y hy
          rw [List.getElem?_map] at hy
          cases hbi : B[i]? with
          | none => rw [hbi] at hy; cases hy
          | some b =>
            rw [hbi] at hy
            cases hy
            have hog := own_offb how8 o (fun q hq => by
              simp [Value.ownBlock] at hq
              subst hq
              rintro (hk | hk | hk)
              · have := HS.out _ hk; omega
              · omega
              · obtain ⟨_, _, cur8, hg8⟩ := own_blk how8 rfl
                exact (hmp8 _ hk).ne_box hg8 rfl)
            obtain ⟨g', e, _, hcc⟩ := own_cell22 bcl_len (by omega) hog HN.out i b hbi
            cases e
            have := hcc 0 (by omega)
            rw [Nat.mul_one, Nat.add_zero] at this
            exact this
      · intro y hy
        obtain ⟨b, hb, rfl⟩ := List.mem_map.1 hy
        exact hmp8 b hb
      · rw [List.length_map, HN.out]; omega
      · intro t y hy K i
        rw [List.getElem?_map] at hy
        cases hbi : B[t]? with
        | none => rw [hbi] at hy; cases hy
        | some b =>
          rw [hbi] at hy
          cases hy
          simp [getM]
      · intro y hy
        obtain ⟨b, hb, rfl⟩ := List.mem_map.1 hy
        exact .inr (.inr hb)
      · rw [List.map_map]
        have : (Prod.fst ∘ fun b : Nat => (b, ([] : List (List Int × Nat)))) = id := rfl
        rw [this, List.map_id]; exact HND.out
      · intro y hy
        exact HS.out _ (HH.out.hS y hy)
      · intro y hy
        obtain ⟨b, hb, rfl⟩ := List.mem_map.1 hy
        exact (HMP.out b hb).2
      · intro y hy
        obtain ⟨b, hb, rfl⟩ := List.mem_map.1 hy
        exact Nat.le_refl _
end Go.Proofs.YthmofoldmdafoaaGreat
namespace Go.Proofs.YthmofoldmdafoaaGreat
open Go.ChangeShapes Go.WideShapes Go.ChangeAt Go.RowKit Go.Maps
set_option linter.unusedVariables false
set_option linter.unusedSimpArgs false

theorem law72 : Keyed Tryz.prog 72 := int_keyed Tryz.underlying72
theorem key72 (k : Int) (hk : 0 ≤ k ∧ k ≤ 6) : keyOf Tryz.prog 72 (.int .i64 k) = some (.int .i64 k) := by
  have e : IntKind.i64.min = -9223372036854775808 := rfl
  simp [keyOf, Tryz.underlying72, mapKey, Lit.wf]
  rw [e]
  omega
/-- What each kind of call does. -/
def callsD : DataW Value := .map [(.int .i64 1, .held (.func (.func 123) #[] #[])), (.int .i64 2, .held (.func (.func 124) #[] #[])), (.int .i64 3, .held (.func (.func 125) #[] #[])), (.int .i64 4, .held (.func (.func 126) #[] #[])), (.int .i64 5, .held (.func (.func 127) #[] #[])), (.int .i64 6, .held (.func (.func 128) #[] #[]))]
theorem calls_at1 : callsD.atKey (.int .i64 1) (.held .nilFunc) = .held (.func (.func 123) #[] #[]) := by kernel_rfl
theorem calls_at2 : callsD.atKey (.int .i64 2) (.held .nilFunc) = .held (.func (.func 124) #[] #[]) := by kernel_rfl
theorem calls_at3 : callsD.atKey (.int .i64 3) (.held .nilFunc) = .held (.func (.func 125) #[] #[]) := by kernel_rfl
theorem calls_at4 : callsD.atKey (.int .i64 4) (.held .nilFunc) = .held (.func (.func 126) #[] #[]) := by kernel_rfl
theorem calls_at5 : callsD.atKey (.int .i64 5) (.held .nilFunc) = .held (.func (.func 127) #[] #[]) := by kernel_rfl
theorem calls_at6 : callsD.atKey (.int .i64 6) (.held .nilFunc) = .held (.func (.func 128) #[] #[]) := by kernel_rfl
theorem calls_put : (((((((DataW.map [] : DataW Value).put (.int .i64 1) (.held (.func (.func 123) #[] #[]))).put (.int .i64 2) (.held (.func (.func 124) #[] #[]))).put (.int .i64 3) (.held (.func (.func 125) #[] #[]))).put (.int .i64 4) (.held (.func (.func 126) #[] #[]))).put (.int .i64 5) (.held (.func (.func 127) #[] #[]))).put (.int .i64 6) (.held (.func (.func 128) #[] #[]))) = callsD := by kernel_rfl
theorem zero159 (w : World) : (zeroValue 159).run Tryz.prog w = .ok .nilFunc w := by kernel_rfl
theorem calls_look {W : World} {b n : Nat} (h : W.ownsMap Tryz.prog 72 RF b n callsD) (k : Nat) (h1 : 1 ≤ k) (h2 : k ≤ 6) : (Instr.lookup 157 (.map (some b)) (.int .i64 (k : Int)) false).run Tryz.prog W = .ok (.func (.func (122 + k)) #[] #[]) W := by
  obtain ⟨v, ps, hr, hv⟩ := h.lookup law72 Tryz.underlying157 (zero159 W) (zd := .held .nilFunc) (zp := []) rfl (key72 k (by omega))
  have e := RF_inv hv
  have e1 := (Prod.mk.inj e).1
  have : DataW.held (.func (.func (122 + k)) #[] #[]) = DataW.held v := by
    rw [← e1]
    clear hr hv e e1
    match k, h1, h2 with
    | 1, _, _ => exact calls_at1.symm
    | 2, _, _ => exact calls_at2.symm
    | 3, _, _ => exact calls_at3.symm
    | 4, _, _ => exact calls_at4.symm
    | 5, _, _ => exact calls_at5.symm
    | 6, _, _ => exact calls_at6.symm
  rw [DataW.held.inj this]; exact hr
set_option maxRecDepth 100000 in
set_option maxHeartbeats 4000000 in
/-- calls (96). -/
theorem calls_law (w : World) : Calls Tryz.prog 96 #[] w fun r w' => r = .returned (.map (some w.heap.size)) ∧ Below w.heap.size w w' ∧ w'.ownsMap Tryz.prog 72 RF w.heap.size 6 callsD := by
  have hmm := @run_makeMap Tryz.prog
  have h0 := World.ownsMap_made w Tryz.prog 72 RF
  obtain ⟨w1, r1, h1, g1⟩ := h0.update law72 Tryz.underlying157 (by unfold maxLen; omega) (key72 1 (by omega)) (show RF (.func (.func 123) #[] #[]) = some (.held (.func (.func 123) #[] #[]), []) from rfl)
  obtain ⟨w2, r2, h2, g2⟩ := h1.update law72 Tryz.underlying157 (by unfold maxLen; omega) (key72 2 (by omega)) (show RF (.func (.func 124) #[] #[]) = some (.held (.func (.func 124) #[] #[]), []) from rfl)
  obtain ⟨w3, r3, h3, g3⟩ := h2.update law72 Tryz.underlying157 (by unfold maxLen; omega) (key72 3 (by omega)) (show RF (.func (.func 125) #[] #[]) = some (.held (.func (.func 125) #[] #[]), []) from rfl)
  obtain ⟨w4, r4, h4, g4⟩ := h3.update law72 Tryz.underlying157 (by unfold maxLen; omega) (key72 4 (by omega)) (show RF (.func (.func 126) #[] #[]) = some (.held (.func (.func 126) #[] #[]), []) from rfl)
  obtain ⟨w5, r5, h5, g5⟩ := h4.update law72 Tryz.underlying157 (by unfold maxLen; omega) (key72 5 (by omega)) (show RF (.func (.func 127) #[] #[]) = some (.held (.func (.func 127) #[] #[]), []) from rfl)
  obtain ⟨w6, r6, h6, g6⟩ := h5.update law72 Tryz.underlying157 (by unfold maxLen; omega) (key72 6 (by omega)) (show RF (.func (.func 128) #[] #[]) = some (.held (.func (.func 128) #[] #[]), []) from rfl)
  have hgr : ∀ {X Y : World}, Below w.heap.size w X → w.heap.size < X.heap.size → X.grownBy Y (some w.heap.size) → Below w.heap.size w Y ∧ w.heap.size < Y.heap.size := fun {X Y} b hl g => ⟨b.grown g (Nat.le_of_lt hl) (fun j hj => by cases hj; exact Nat.le_refl _), Nat.lt_of_lt_of_le hl g.size⟩
  have b0 : Below w.heap.size w (w.alloc (.map #[] 0)) ∧ w.heap.size < (w.alloc (.map #[] 0)).heap.size := ⟨bl1 _ _, by simp⟩
  have b1 := hgr b0.1 b0.2 g1
  have b2 := hgr b1.1 b1.2 g2
  have b3 := hgr b2.1 b2.2 g3
  have b4 := hgr b3.1 b3.2 g4
  have b5 := hgr b4.1 b4.2 g5
  have b6 := hgr b5.1 b5.2 g6
  have HB := Lib.hid b6.1
  have HM := Lib.hid (show w6.ownsMap Tryz.prog 72 RF w.heap.size 6 callsD from calls_put ▸ h6)
  clear b0 b1 b2 b3 b4 b5 b6 hgr g1 g2 g3 g4 g5 g6 h0 h1 h2 h3 h4 h5 h6
  go_enter Tryz.func96, Tryz.ntmps96
  go_wp2_with fail
  go_ret
  exact ⟨rfl, HB.out, HM.out⟩
end Go.Proofs.YthmofoldmdafoaaGreat
namespace Go.Proofs.YthmofoldmdafoaaGreat
open Go.ChangeShapes Go.WideShapes Go.ChangeAt Go.RowKit Go.Maps Go.Shelf
set_option linter.unusedVariables false
set_option linter.unusedSimpArgs false

attribute [local go_sem] Oper.semAt_some
theorem own_own22 {w w' : World} {base n size : Nat} {e : TypeId} {v : Value} {xs : List Value} {row : Option Nat} (h : w.ownsRow base e size v n xs) (hg : w.grownBy w' row) (hr : ∀ r, row = some r → ∃ o : Obj, w.heap[r]? = some o ∧ o.isCells = false) : w'.ownsRow base e size v n xs := by
  refine h.kept hg ?_
  rcases h.2 with ⟨rfl, _⟩ | ⟨g, cap, cur, rfl, _, hgg, _⟩
  · exact .inl rfl
  · refine .inr fun e => ?_
    obtain ⟨o, ho, hc⟩ := hr g (by rw [← e]; rfl)
    rw [hgg] at ho; cases ho; cases hc
theorem keeps_row22 {w w' : World} {base n size : Nat} {e : TypeId} {v : Value} {xs : List Value} (h : w.ownsRow base e size v n xs) (hg : w.grownBy w' v.ownBlock) : KeepsOthers w w' :=
  ⟨hg.size, fun k o hk ho => (hg.block k (Array.getElem?_eq_some_iff.1 hk).1 (fun e => by
    rcases h.2 with ⟨rfl, _⟩ | ⟨g, cap, cur, rfl, _, hgg, _⟩
    · cases e
    · cases e; rw [hgg] at hk; cases hk; cases ho)).trans hk⟩
def encK (K : List Int) : Array Value := #[.string (strOfNums K)]
def skv (K : List Int) : List Value := [.string (strOfNums K)]
theorem skv_len (K : List Int) : (skv K).length = 1 := rfl
section
variable {α : Type} {val : α → Value}
/-- The keys that have come. -/
def KeysS (L : List (List Int × α)) (left : Lit → Bool) (ss : List (List Int)) : Prop := ss.Nodup ∧ ∀ K, K ∈ ss ↔ (K ∈ L.map Prod.fst ∧ left (kL K) = false)
/-- All keys, in some order. -/
def AllS (L : List (List Int × α)) (ss : List (List Int)) : Prop := ss.Nodup ∧ ∀ K, K ∈ ss ↔ K ∈ L.map Prod.fst
theorem mem_keys {L : List (List Int × α)} {K : List Int} : K ∈ L.map Prod.fst ↔ (getM L K).isSome = true := by
  rw [List.mem_map]
  constructor
  · rintro ⟨p, hp, rfl⟩
    cases h : getM L p.1 with
    | some v => rfl
    | none => exact absurd rfl (getM_none.1 h p hp)
  · intro h
    unfold getM at h
    rw [Option.isSome_map] at h
    rw [List.find?_isSome] at h
    obtain ⟨p, hp, e⟩ := h
    exact ⟨p, hp, by simpa using e⟩
theorem KeysS.start {L : List (List Int × α)} (hb : KByt L) : KeysS L (Maps.has (mOf val L)) [] := ⟨List.nodup_nil, fun K => by
  constructor
  · intro h; cases h
  · rintro ⟨h1, h2⟩
    obtain ⟨p, hp, rfl⟩ := List.mem_map.1 h1
    rw [has_mOf hb (hb p hp)] at h2
    rw [mem_keys.1 h1] at h2
    cases h2⟩
theorem key_in {L : List (List Int × α)} {s : ByteArray} {kl : Lit} (hk : keyOf Tryz.prog 9 (.string s) = some kl) {d : DataW Value} (hat : ∀ zd, (mOf val L).atKey kl zd = d) : ∃ K, K ∈ L.map Prod.fst ∧ s = strOfNums K ∧ kl = kL K := by
  have hkl : kl = .string s.data.toList := by
    simp only [keyOf, Tryz.underlying9] at hk
    simp [mapKey, Tryz.underlying9] at hk
    exact hk.2.symm
  cases hf : (L.map (entM val)).find? (fun p => p.1.sameKey kl) with
  | none =>
    have h1 := hat .nil
    have h2 := hat (.map [])
    unfold mOf DataW.atKey at h1 h2
    simp only [hf] at h1 h2
    rw [← h1] at h2; cases h2
  | some p =>
    have hm := List.mem_of_find?_eq_some hf
    have hp := List.find?_some hf
    obtain ⟨x, hx, rfl⟩ := List.mem_map.1 hm
    have e : (strOfNums x.1).data.toList = s.data.toList := by
      have : (kL x.1).sameKey kl = true := hp
      rw [hkl] at this
      simpa [kL, Lit.sameKey] using this
    have e2 : s = strOfNums x.1 := ByteArray.ext (by simpa using e.symm)
    exact ⟨x.1, List.mem_map.2 ⟨x, hx, rfl⟩, e2, by rw [hkl, e2]; rfl⟩
theorem KeysS.step {L : List (List Int × α)} (hb : KByt L) {left : Lit → Bool} {ss : List (List Int)} (h : KeysS L left ss) {K : List Int} (hK : K ∈ L.map Prod.fst) (hl : left (kL K) = true) : KeysS L (fun z => left z && !z.sameKey (kL K)) (ss ++ [K]) := by
  have hbk : ∀ J ∈ L.map Prod.fst, Byt J := fun J hJ => by obtain ⟨p, hp, rfl⟩ := List.mem_map.1 hJ; exact hb p hp
  have hx : K ∉ ss := fun hm => by have := ((h.2 K).1 hm).2; rw [hl] at this; cases this
  refine ⟨?_, fun J => ?_⟩
  · rw [List.nodup_append]
    exact ⟨h.1, by simp, fun a ha b hb e => by simp at hb; subst hb; subst e; exact hx ha⟩
  · rw [List.mem_append, h.2 J, List.mem_singleton]
    show (J ∈ L.map Prod.fst ∧ left (kL J) = false ∨ J = K) ↔ (J ∈ L.map Prod.fst ∧ (left (kL J) && !(kL J).sameKey (kL K)) = false)
    by_cases e : J = K
    · subst e
      rw [kL_same (hbk J hK) (hbk J hK)]
      simp [hK]
    · constructor
      · rintro (⟨h1, h2⟩ | h1)
        · exact ⟨h1, by rw [h2]; rfl⟩
        · exact absurd h1 e
      · rintro ⟨h1, h2⟩
        rw [kL_same (hbk J h1) (hbk K hK)] at h2
        simp [e] at h2
        exact .inl ⟨h1, h2⟩
theorem KeysS.all {L : List (List Int × α)} {left : Lit → Bool} {ss : List (List Int)} (h : KeysS L left ss) (hl : ∀ kl, left kl = false) : AllS L ss := ⟨h.1, fun K => by rw [h.2 K, hl]; simp⟩
end
theorem makeFunc_run (fn : Fn) (first cap : Array Value) (w : World) : (Instr.makeFunc fn first cap).run Tryz.prog w = .ok (.func fn first cap) w := rfl
set_option maxRecDepth 100000 in
set_option maxHeartbeats 4000000 in
theorem rkeys_law (w : World) (b : Nat) : Calls Tryz.prog 110 #[.map (some b)] w fun e w' => e = .returned (.func (.func 133) #[] #[.pointer (some ⟨w.heap.size, 0, none⟩)]) ∧ w' = w.alloc (.cells #[.map (some b)] 90) := by
  have hmf := makeFunc_run
  go_enter Tryz.func110, Tryz.ntmps110
  go_wp2
  go_ret
  exact ⟨rfl, rfl⟩
set_option maxRecDepth 100000 in
set_option maxHeartbeats 4000000 in
theorem rkeys_stops (mm : Nat) (hm : 1 ≤ mm) (Bm b : Nat) (L : List (List Int × RV)) (w : World) (hB : Boxed w Bm 90 (.map (some b))) (hM : Mp w b RV.v L) :
    SeqStopsK Fence.wide mm Tryz.prog 133 #[.pointer (some ⟨Bm, 0, none⟩)] encK KeepsWalks (fun ss => AllS L ss) (fun pre => True) (Maps.size (mOf RV.v L)) w := fun lp J Jx W hW hJ _ hY h0 => by
  have hb : Boxed W Bm 90 (.map (some b)) := (hW.block Bm hB.lt).trans hB
  have hMW : Mp W b RV.v L := hM.below hW
  have hownW := hMW.own
  have HBY := Lib.hid hMW.byt
  clear hB hM hW hMW
  show CallsIn Fence.wide mm Tryz.prog 133 #[.func (.yield lp) #[] #[], .pointer (some ⟨Bm, 0, none⟩)] W _
  refine callsIn_of_wp Tryz.func133 rfl trivial ?_ rfl
  simp only [Tryz.ntmps133, List.size_toArray, List.length_cons, List.length_nil, Nat.reduceAdd, Nat.reduceSub, Array.replicate_succ, Array.replicate_zero, List.push_toArray, List.append_toArray, List.nil_append, List.cons_append]
  have cb := hb.cell
  gi_wp2_with (first
    | (gi_at_range; refine wpListIn_range_own _ rfl _ 90 rfl 9 50 law9 Tryz.underlying90 _ b _ _ rfl hownW ?_; intro w0 hrg0 hg0 hs0)
    | gi_in)
  go_frame
  gi_loopw [3] (fun _ wr => ∃ (left : Lit → Bool) (cnt : Nat) (ss : List (List Int)), wr.ranges Tryz.prog 9 RF b W.heap.size L.length (mOf RV.v L) left cnt ∧ ss.length + cnt ≤ Maps.size (mOf RV.v L) ∧ KeysS L left ss ∧ J ss wr)
    (fun _ wr => wr.rangeLeft b W.heap.size)
  case atStart =>
    exact ⟨_, _, [], hrg0, by simp, KeysS.start HBY.out, hJ [] W w0 none h0 hg0 (fun r e => by cases e)⟩
  case round =>
    obtain ⟨left, cnt, ss, hrg, hcs, hC, hJs⟩ := hrel
    gi_wp2_with (first
      | (gi_at_next; refine wpListIn_next_ranges _ rfl _ rfl 9 law9 RF Value.string (fun v : Value => v) (fun key kl hk => by simp only [keyOf, Tryz.underlying9] at hk; cases key <;> simp [mapKey, Tryz.underlying9] at hk; exact ⟨_, rfl⟩) (fun v y _ => ⟨v, rfl⟩) b W.heap.size L.length _ _ _ rfl hrg ?_ ?_)
      | gi_in)
    · intro hc0 hl0
      gi_wp2
      go_end0
      exact ⟨⟨_, rfl⟩, .inl ⟨ss, hC.all hl0, hJs⟩⟩
    · intro s c kl yd yp w2 cnt2 hkey hlk hv hat hrg2 hlt hg2 hs2 hen
      obtain ⟨K, hKm, es, ek⟩ := key_in hkey hat
      subst es
      subst ek
      have hJ2 : J ss w2 := hJ ss wr w2 (some W.heap.size) hJs hg2 (fun r e => by cases e; exact ⟨Nat.le_refl _, hrg.iter_walk⟩)
      obtain ⟨fn, tmps, assign, body, hy, hR⟩ := hY ss K w2 hJ2 (by omega)
      dsimp only [encK] at hy
      clear hs2
      gi_wp2
      refine hR.mono ?_
      have hC2 := hC.step HBY.out hKm hlk
      rintro e W3 (⟨rfl, hJ3, hk3⟩ | ⟨rfl, hJx3⟩)
      · gi_wp2
        have hrg3 := hrg2.of_walks hk3
        go_roundw
        case rel => exact ⟨_, cnt2, ss ++ [K], hrg3, by simp; omega, hC2, hJ3⟩
        case measure => rw [hrg3.left_eq, hrg.left_eq]; exact hlt
      · gi_wp2
        refine bodyPost_ret (results_none rfl _ _ _) rfl ?_
        exact ⟨⟨_, rfl⟩, .inr ⟨ss ++ [K], trivial, hJx3⟩⟩
set_option maxRecDepth 100000 in
set_option maxHeartbeats 4000000 in
theorem ikeys_law (w : World) (b : Nat) : Calls Tryz.prog 111 #[.map (some b)] w fun e w' => e = .returned (.func (.func 134) #[] #[.pointer (some ⟨w.heap.size, 0, none⟩)]) ∧ w' = w.alloc (.cells #[.map (some b)] 173) := by
  have hmf := makeFunc_run
  go_enter Tryz.func111, Tryz.ntmps111
  go_wp2
  go_ret
  exact ⟨rfl, rfl⟩
set_option maxRecDepth 100000 in
set_option maxHeartbeats 4000000 in
theorem ikeys_stops (mm : Nat) (hm : 1 ≤ mm) (Bm b : Nat) (L : List (List Int × Nat)) (w : World) (hB : Boxed w Bm 173 (.map (some b))) (hM : Mp w b iV L) :
    SeqStopsK Fence.wide mm Tryz.prog 134 #[.pointer (some ⟨Bm, 0, none⟩)] encK KeepsWalks (fun ss => AllS L ss) (fun pre => True) (Maps.size (mOf iV L)) w := fun lp J Jx W hW hJ _ hY h0 => by
  have hb : Boxed W Bm 173 (.map (some b)) := (hW.block Bm hB.lt).trans hB
  have hMW : Mp W b iV L := hM.below hW
  have hownW := hMW.own
  have HBY := Lib.hid hMW.byt
  clear hB hM hW hMW
  show CallsIn Fence.wide mm Tryz.prog 134 #[.func (.yield lp) #[] #[], .pointer (some ⟨Bm, 0, none⟩)] W _
  refine callsIn_of_wp Tryz.func134 rfl trivial ?_ rfl
  simp only [Tryz.ntmps134, List.size_toArray, List.length_cons, List.length_nil, Nat.reduceAdd, Nat.reduceSub, Array.replicate_succ, Array.replicate_zero, List.push_toArray, List.append_toArray, List.nil_append, List.cons_append]
  have cb := hb.cell
  gi_wp2_with (first
    | (gi_at_range; refine wpListIn_range_own _ rfl _ 173 rfl 9 3 law9 Tryz.underlying173 _ b _ _ rfl hownW ?_; intro w0 hrg0 hg0 hs0)
    | gi_in)
  go_frame
  gi_loopw [3] (fun _ wr => ∃ (left : Lit → Bool) (cnt : Nat) (ss : List (List Int)), wr.ranges Tryz.prog 9 RF b W.heap.size L.length (mOf iV L) left cnt ∧ ss.length + cnt ≤ Maps.size (mOf iV L) ∧ KeysS L left ss ∧ J ss wr)
    (fun _ wr => wr.rangeLeft b W.heap.size)
  case atStart =>
    exact ⟨_, _, [], hrg0, by simp, KeysS.start HBY.out, hJ [] W w0 none h0 hg0 (fun r e => by cases e)⟩
  case round =>
    obtain ⟨left, cnt, ss, hrg, hcs, hC, hJs⟩ := hrel
    gi_wp2_with (first
      | (gi_at_next; refine wpListIn_next_ranges _ rfl _ rfl 9 law9 RF Value.string (fun v : Value => v) (fun key kl hk => by simp only [keyOf, Tryz.underlying9] at hk; cases key <;> simp [mapKey, Tryz.underlying9] at hk; exact ⟨_, rfl⟩) (fun v y _ => ⟨v, rfl⟩) b W.heap.size L.length _ _ _ rfl hrg ?_ ?_)
      | gi_in)
    · intro hc0 hl0
      gi_wp2
      go_end0
      exact ⟨⟨_, rfl⟩, .inl ⟨ss, hC.all hl0, hJs⟩⟩
    · intro s c kl yd yp w2 cnt2 hkey hlk hv hat hrg2 hlt hg2 hs2 hen
      obtain ⟨K, hKm, es, ek⟩ := key_in hkey hat
      subst es
      subst ek
      have hJ2 : J ss w2 := hJ ss wr w2 (some W.heap.size) hJs hg2 (fun r e => by cases e; exact ⟨Nat.le_refl _, hrg.iter_walk⟩)
      obtain ⟨fn, tmps, assign, body, hy, hR⟩ := hY ss K w2 hJ2 (by omega)
      dsimp only [encK] at hy
      clear hs2
      gi_wp2
      refine hR.mono ?_
      have hC2 := hC.step HBY.out hKm hlk
      rintro e W3 (⟨rfl, hJ3, hk3⟩ | ⟨rfl, hJx3⟩)
      · gi_wp2
        have hrg3 := hrg2.of_walks hk3
        go_roundw
        case rel => exact ⟨_, cnt2, ss ++ [K], hrg3, by simp; omega, hC2, hJ3⟩
        case measure => rw [hrg3.left_eq, hrg.left_eq]; exact hlt
      · gi_wp2
        refine bodyPost_ret (results_none rfl _ _ _) rfl ?_
        exact ⟨⟨_, rfl⟩, .inr ⟨ss ++ [K], trivial, hJx3⟩⟩
end Go.Proofs.YthmofoldmdafoaaGreat
