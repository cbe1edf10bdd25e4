/- ModelReads: a transaction that reads alone writes nothing, and is answered the same again and again; for every input. Part 9. -/
import Derived.Test.YthmofoldmdafoaaGreatRrh
import Derived.Test.YthmofoldmdafoaaGreatRra
import Derived.RangeFuncNested
import Derived.Maps.AppendAt
import Derived.RangeFuncBound
import Derived.RangeFuncCalls
import Derived.RangeFuncLeaves
import Derived.Shelf.Abstract
import Derived.Shelf.RegionOpen
import Derived.OwnWalkIn
import Derived.TacticsInMore
import Derived.LoopNIn
import Derived.LoopIn
import Derived.Maps.OwnIn
import Derived.Sort.MapsRangeIn
namespace Go.Proofs.YthmofoldmdafoaaGreat
open Go.ChangeShapes Go.WideShapes Go.ChangeAt Go.RowKit Go.Maps
set_option linter.unusedVariables false
set_option linter.unusedSimpArgs false

def ClI (L : List Int) (n : Nat) (w : World) (r : Ending) (w' : World) : Prop := ∃ a' c', r = .returned (.slice a' n c') ∧ w'.ownsRow w.heap.size 3 1 (.slice a' n c') n (iv .i64 L)
set_option maxRecDepth 100000 in
set_option maxHeartbeats 4000000 in
/-- slices.Clone, of whole numbers (37). -/
theorem iclone_law (a : Option Addr) (L : List Int) (n cap : Nat) (hL : L.length = n) (hn : n ≤ 1000000) (w : World) (hA : Ls .i64 w a cap L) :
    Calls Tryz.prog 37 #[.slice a n cap] w fun r w' => ClI L n w r w' ∧ Below w.heap.size w w' := by
  have HA := Lib.hid hA
  have HL := Lib.hid hL
  rcases a with _ | a
  · obtain ⟨rfl, rfl⟩ := hA.nl rfl
    simp only [List.length_nil] at hL
    subst hL
    have hsn : ∀ W, (binOp .eql 22 (.slice none 0 0) (.slice none 0 0)).run Tryz.prog W = .ok (.bool true) W := fun W => Lib.run_eql_slice_nil W 22 3 none 0 0 0 0 Tryz.underlying22
    clear hA
    go_enter Tryz.func37, Tryz.ntmps37
    go_wp2_with fail
    go_ret
    exact ⟨⟨none, 0, rfl, World.ownsRow_nil _ _ _ _⟩, Below.refl _ _⟩
  · clear hA hL
    have hsn : ∀ W, (binOp .eql 22 (.slice (some a) n cap) (.slice none 0 0)).run Tryz.prog W = .ok (.bool false) W := fun W => Lib.run_eql_slice_nil W 22 3 (some a) n cap 0 0 Tryz.underlying22
    go_enter Tryz.func37, Tryz.ntmps37
    go_wp2_with (at_builtin; refine append_ls eltI rfl (.tmp 5) (.tmp 6) rfl w.heap.size _ 0 [] rfl (World.ownsRow_lit w #[] 0 (Nat.le_refl _) (by decide) rfl) _ _ n L HL.out rfl (HA.out.below ((Below.refl _ _).alloc (Nat.le_refl _) _)) (by omega) (by simp) ?_)
    intro v2 w2 hown2 hgrow2
    have B2 := ((Below.refl w.heap.size w).alloc (Nat.le_refl _) _).grown hgrow2 (by simp) (fun j hj => by simp [Value.ownBlock] at hj; omega)
    obtain ⟨a', c', rfl, l', _⟩ := own_ls hown2 HL.out
    have H2 := Lib.hid hown2
    clear hown2 hgrow2
    go_wp2_with fail
    go_ret
    exact ⟨⟨a', c', rfl, by simpa using H2.out⟩, B2⟩
end Go.Proofs.YthmofoldmdafoaaGreat
namespace Go.Proofs.YthmofoldmdafoaaGreat
open Go.ChangeShapes Go.WideShapes Go.ChangeAt Go.RowKit Go.Maps
set_option linter.unusedVariables false
set_option linter.unusedSimpArgs false

/-- How New ends. -/
def NewR (w : World) (j : Job) (r : Ending) (w' : World) : Prop :=
  if okB j then ∃ (S : Nat → Prop) (m : Md), r = .returned (.tuple #[.pointer (some ⟨m.p, 0, none⟩), .int .i64 0]) ∧ Below w.heap.size w w' ∧ MdR S w' m ∧ (∀ k, S k → w.heap.size ≤ k ∧ k < w'.heap.size) ∧ (∃ a c, m.j = { j with a := a, cap := c }) ∧ (∀ x ∈ m.tabs, x.2 = [])
  else r = .returned (.tuple #[.pointer none, .int .i64 2]) ∧ Below w.heap.size w w'
set_option maxRecDepth 100000 in
set_option maxHeartbeats 4000000 in
/-- New (10). -/
theorem new_law (j : Job) (w : World) (hj : JobAt w j) : Calls Tryz.prog 10 #[.agg #[.int .i64 j.w, .int .i64 j.l, .int .i64 j.d, .int .i64 j.c, .int .i64 j.k, .int .i64 j.e, .slice j.a j.n j.cap]] w (NewR w j) := by
  obtain ⟨w1, hw1⟩ : ∃ W, W = w.alloc (.cells #[.int .i64 j.w, .int .i64 j.l, .int .i64 j.d, .int .i64 j.c, .int .i64 j.k, .int .i64 j.e, .slice j.a j.n j.cap] 24) := ⟨_, rfl⟩
  have hb1 : Below w.heap.size w w1 := by rw [hw1]; exact bl1 _ _
  have hx1 : BoxC w1 w.heap.size #[.int .i64 j.w, .int .i64 j.l, .int .i64 j.d, .int .i64 j.c, .int .i64 j.k, .int .i64 j.e, .slice j.a j.n j.cap] 24 := by rw [hw1]; exact BoxC.new _ _ _
  have HJ := Lib.hid hj
  have hli : (j.n : Int) ≤ 1000000 := by have := hj.le; omega
  have HCK := Lib.hid (check_law j w1 (hj.below hb1))
  have HB1 := Lib.hid hb1
  have HX1 := Lib.hid hx1
  have c0 := hx1.cell 0
  have c1 := hx1.cell 1
  have c2 := hx1.cell 2
  have c3 := hx1.cell 3
  have c4 := hx1.cell 4
  have c5 := hx1.cell 5
  have c6 := hx1.cell 6
  simp only [List.getElem?_toArray, List.getElem?_cons_zero, List.getElem?_cons_succ] at c0 c1 c2 c3 c4 c5 c6
  clear hj hb1 hx1
  go_enter Tryz.func10, Tryz.ntmps10
  go_upto_region 1 with (fail)
  rw [← hw1]
  clear hw1
  go_wp2_with fail
  clear c0 c1 c2 c3 c4 c5 c6
  refine HCK.out.mono ?_; rintro r w2 ⟨rfl, hb2⟩
  have HB2 := Lib.hid (HB1.out.trans (hb2.mono HB1.out.size))
  have hx2 := HX1.out.below hb2
  have HX2 := Lib.hid hx2
  have c6 := hx2.cell 6
  simp only [List.getElem?_toArray, List.getElem?_cons_zero, List.getElem?_cons_succ] at c6
  clear hb2 hx2
  cases hok : okB j with
  | false =>
    have hv : chkV j = 2 := by unfold chkV; rw [hok]; rfl
    have HR := Lib.hid (fun r w' (hh : r = .returned (.tuple #[.pointer none, .int .i64 2]) ∧ Below w.heap.size w w') => (by unfold NewR; rw [hok]; exact hh : NewR w j r w'))
    rw [hv]
    clear hok hv c6
    go_wp2_with fail
    go_ret2
    exact HR.out _ _ ⟨rfl, HB2.out⟩
  | true =>
    have hv : chkV j = 0 := by unfold chkV; rw [hok]; rfl
    have HOK := Lib.hid hok
    have HR := Lib.hid (fun r w' (hh : ∃ (S : Nat → Prop) (m : Md), r = .returned (.tuple #[.pointer (some ⟨m.p, 0, none⟩), .int .i64 0]) ∧ Below w.heap.size w w' ∧ MdR S w' m ∧ (∀ k, S k → w.heap.size ≤ k ∧ k < w'.heap.size) ∧ (∃ a c, m.j = { j with a := a, cap := c }) ∧ (∀ x ∈ m.tabs, x.2 = [])) => (by unfold NewR; rw [hok]; exact hh : NewR w j r w'))
    have hn4 := okB_n hok
    have HN4 := Lib.hid hn4
    rw [hv]
    clear hok hv
    have HCL := Lib.hid (iclone_law j.a j.T j.n j.cap HJ.out.len HJ.out.le w2 (HJ.out.ls.below HB2.out))
    go_wp2_with fail
    refine HCL.out.mono ?_; rintro r w3 ⟨⟨a1, c1, rfl, ho3⟩, hb3⟩
    have HO3 := Lib.hid ho3
    have HB3 := Lib.hid (HB2.out.trans (hb3.mono HB2.out.size))
    have HS23 := Lib.hid (And.intro HX2.out.lt hb3.size)
    have hx3 := HX2.out.below hb3
    have HX3 := Lib.hid hx3
    clear c6 ho3 hb3
    have c6 := hx3.cell 6
    have f6 := hx3.frozen 6
    simp only [List.getElem?_toArray, List.getElem?_cons_zero, List.getElem?_cons_succ] at c6
    clear hx3
    go_upto_region 4 with (fail)
    clear c6 f6
    have o4 : Off (fun k => k = w.heap.size) w3 (w3.setCell ⟨w.heap.size, 6, none⟩ (.slice a1 j.n c1)) := Off.set (S := fun k => k = w.heap.size) (Off.refl _ w3) ⟨w.heap.size, 6, none⟩ rfl _
    have hx4 : BoxC (w3.setCell ⟨w.heap.size, 6, none⟩ (.slice a1 j.n c1)) w.heap.size #[.int .i64 j.w, .int .i64 j.l, .int .i64 j.d, .int .i64 j.c, .int .i64 j.k, .int .i64 j.e, .slice a1 j.n c1] 24 := heap_setCell_same w3 w.heap.size 6 _ 24 _ HX3.out
    have hb4 : Below w.heap.size w (w3.setCell ⟨w.heap.size, 6, none⟩ (.slice a1 j.n c1)) := HB3.out.setCell (Nat.le_refl _) _
    generalize w3.setCell ⟨w.heap.size, 6, none⟩ (.slice a1 j.n c1) = w4 at o4 hx4 hb4 ⊢
    have ho4 := own_off22 HO3.out o4 (fun k hk => by cases hk; exact HS23.out.1)
    have HO4 := Lib.hid ho4
    have HB4 := Lib.hid hb4
    have HX4 := Lib.hid hx4
    have HS4 := Lib.hid (Nat.le_trans HS23.out.2 o4.size)
    have c0 := hx4.cell 0
    have c1' := hx4.cell 1
    have c2 := hx4.cell 2
    have c3 := hx4.cell 3
    have c4 := hx4.cell 4
    have c5 := hx4.cell 5
    have c6 := hx4.cell 6
    simp only [List.getElem?_toArray, List.getElem?_cons_zero, List.getElem?_cons_succ] at c0 c1' c2 c3 c4 c5 c6
    clear o4 hx4 hb4 ho4
    go_upto_region 5 with (fail)
    clear c0 c1' c2 c3 c4 c5 c6
    have hb5 : Below w4.heap.size w4 (w4.alloc (.cells #[.int .i64 j.w, .int .i64 j.l, .int .i64 j.d, .int .i64 j.c, .int .i64 j.k, .int .i64 j.e, .slice a1 j.n c1, .slice none 0 0] 89)) := bl1 _ _
    have hx5 : BoxC (w4.alloc (.cells #[.int .i64 j.w, .int .i64 j.l, .int .i64 j.d, .int .i64 j.c, .int .i64 j.k, .int .i64 j.e, .slice a1 j.n c1, .slice none 0 0] 89)) w4.heap.size #[.int .i64 j.w, .int .i64 j.l, .int .i64 j.d, .int .i64 j.c, .int .i64 j.k, .int .i64 j.e, .slice a1 j.n c1, .slice none 0 0] 89 := BoxC.new _ _ _
    generalize w4.alloc (.cells #[.int .i64 j.w, .int .i64 j.l, .int .i64 j.d, .int .i64 j.c, .int .i64 j.k, .int .i64 j.e, .slice a1 j.n c1, .slice none 0 0] 89) = w5 at hb5 hx5 ⊢
    obtain ⟨p, hp⟩ : ∃ p, w4.heap.size = p := ⟨_, rfl⟩
    have HPW := Lib.hid (show w.heap.size < p by rw [← hp]; exact HX4.out.lt)
    have HP4 := Lib.hid hp
    have HB5 := Lib.hid (HB4.out.trans (hb5.mono HB4.out.size))
    have HO5 := Lib.hid (own_kept HO4.out hb5)
    rw [hp] at hx5 ⊢
    have HX5 := Lib.hid hx5
    have hxx := HX4.out.below hb5
    have c6 := hxx.cell 6
    simp only [List.getElem?_toArray, List.getElem?_cons_zero, List.getElem?_cons_succ] at c6
    clear hb5 hx5 hp hxx
    go_wp2_with fail
    clear c6
    go_loopw [18] (fun i wr => ∃ (k : Nat) (B : List Nat) (wv : Value), k ≤ j.n ∧ i = .int .i64 (k : Int) ∧ Hid (BoxC wr p #[.int .i64 j.w, .int .i64 j.l, .int .i64 j.d, .int .i64 j.c, .int .i64 j.k, .int .i64 j.e, .slice a1 j.n c1, wv] 89) ∧ Hid (B.length = k) ∧ Hid (wr.ownsRow w.heap.size 90 1 wv k (cellsOf bcl B)) ∧ Hid (∀ b ∈ B, Mp wr b RV.v [] ∧ w.heap.size ≤ b) ∧ Hid B.Nodup ∧ Hid (wr.ownsRow w2.heap.size 3 1 (.slice a1 j.n c1) j.n (iv .i64 j.T)) ∧ Hid (Below w.heap.size w wr)) (fun i _ => j.n - (intOf i).toNat)
    case atStart => exact ⟨0, [], .slice none 0 0, by omega, rfl, HX5, Lib.hid rfl, Lib.hid (World.ownsRow_nil _ _ _ _), Lib.hid (fun b hb => by simp at hb), Lib.hid List.nodup_nil, HO5, HB5⟩
    case round =>
      obtain ⟨k, B, wv, hk, rfl, HXP, HN, HOW, HMP, HND, HJO, HB⟩ := hrel
      by_cases hlt : k < j.n
      · have d1 : (k : Int) < (j.n : Int) := by omega
        have hmm := @run_makeMap Tryz.prog
        have hnb : ¬ wv.ownBlock = some p := fun e => by
          obtain ⟨_, _, cur, hb2⟩ := own_blk HOW.out e
          exact box_ne hb2 HXP.out (by decide) rfl
        have HBP := Lib.hid (fun X (o : Off (fun k => wv.ownBlock = some k) wr X) => o.box HXP.out hnb)
        have HPX := Lib.hid (fun X (o : Off (fun k => wv.ownBlock = some k) wr X) => (by rw [(HBP.out X o).cell]; rfl : X.cell? ⟨p, 7, none⟩ = some wv))
        clear hnb
        have x7 := HPX.out wr (Off.refl _ _)
        have HB6 := Lib.hid (step_below (bl1 wr (.map #[] 0)) (bl1 (wr.alloc (.map #[] 0)) (.cells #[.map (some wr.heap.size)] 90)))
        have HCN := Lib.hid (cells_new (wr.alloc (.map #[] 0)) #[.map (some wr.heap.size)] 90 [.map (some wr.heap.size)] rfl)
        rw [World.size_alloc] at HCN
        go_upto_region 8 with (at_builtin; refine append_cells ae_map rfl _ _ rfl w.heap.size wv k (cellsOf bcl B) rfl (own_kept HOW.out HB6.out) ⟨wr.heap.size + 1, 0, none⟩ 1 1 [.map (some wr.heap.size)] rfl rfl HCN.out (fun u hu => by simp at hu; subst hu; rfl) (by omega) (Nat.le_trans HB.out.size HB6.out.size) ?_; intro v9 w9 hown9 hgrow9 hat9; obtain ⟨a9, c9, hv9⟩ := own_form22 hown9; subst hv9; have HO9 := Lib.hid hown9; have HG9 := Lib.hid hgrow9; have HF9 := Lib.hid (((Off.of HB6.out).trans (Off.of_row hgrow9) : Off (fun k => wv.ownBlock = some k) wr w9)); clear hown9 hgrow9 hat9; have x9 := HPX.out w9 HF9.out; have f9 := (HBP.out w9 HF9.out).frozen 7)
        clear x7 x9 f9
        have hP9 := HBP.out w9 HF9.out
        have hne9 : ∀ g, Value.ownBlock (.slice a9 (k + 1) c9) = some g → g ≠ p := fun g hg => by
          obtain ⟨_, _, cur, hb⟩ := own_blk HO9.out hg
          exact box_ne hb hP9 (by decide)
        have oP : Off (fun k => k = p) w9 (w9.setCell ⟨p, 7, none⟩ (.slice a9 (k + 1) c9)) := Off.set (S := fun k => k = p) (Off.refl _ w9) ⟨p, 7, none⟩ rfl _
        have q2 : BoxC (w9.setCell ⟨p, 7, none⟩ (.slice a9 (k + 1) c9)) p #[.int .i64 j.w, .int .i64 j.l, .int .i64 j.d, .int .i64 j.c, .int .i64 j.k, .int .i64 j.e, .slice a1 j.n c1, .slice a9 (k + 1) c9] 89 := heap_setCell_same w9 p 7 _ 89 _ hP9
        have q4 := own_offb HO9.out oP (fun g hg e => hne9 g hg e)
        have hbwv : ∀ b, wv.ownBlock = some b → b < wr.heap.size := fun b hb => (own_blk HOW.out hb).2.1
        have q5 : ∀ b ∈ B ++ [wr.heap.size], Mp (w9.setCell ⟨p, 7, none⟩ (.slice a9 (k + 1) c9)) b RV.v [] ∧ w.heap.size ≤ b := fun b hb => by
          rcases List.mem_append.1 hb with hb | hb
          · obtain ⟨h1, h2⟩ := HMP.out b hb
            refine ⟨((h1.off HF9.out fun e => ?_).off oP fun e => ?_), h2⟩
            · obtain ⟨_, _, cur, hb⟩ := own_blk HOW.out e
              exact h1.ne_box hb rfl
            · exact h1.ne_box HXP.out e
          · rw [List.mem_singleton] at hb
            subst hb
            have h1 := (Mp.new wr RV.v).below (bl1 (wr.alloc (.map #[] 0)) (.cells #[.map (some wr.heap.size)] 90))
            have h2 := h1.off (Off.of_row HG9.out) (fun e => Nat.lt_irrefl _ (hbwv _ e))
            exact ⟨h2.off oP (fun e => h2.ne_box hP9 e), HB.out.size⟩
        have q6 : (B ++ [wr.heap.size]).Nodup := List.nodup_append.2 ⟨HND.out, by simp, fun a ha b hb e => by
          rw [List.mem_singleton] at hb
          subst hb
          subst e
          exact Nat.lt_irrefl _ (HMP.out _ ha).1.lt⟩
        have q7 : Below w.heap.size w (w9.setCell ⟨p, 7, none⟩ (.slice a9 (k + 1) c9)) := (Off.below HB.out HF9.out HB.out.size (fun g hg => (own_blk HOW.out hg).1)).setCell (Nat.le_of_lt HPW.out) _
        have q8 := own_offb (own_offb HJO.out HF9.out (fun g hg e => by
          obtain ⟨_, _, cur, hb⟩ := own_blk HJO.out hg
          obtain ⟨_, _, cur', hb'⟩ := own_blk HOW.out e
          exact box_ne hb hb' (by decide) rfl)) oP (fun g hg e => by
          obtain ⟨_, _, cur, hb⟩ := own_blk HJO.out hg
          exact box_ne hb HXP.out (by decide) e)
        have Q2 := Lib.hid q2
        have Q4 := Lib.hid q4
        have Q5 := Lib.hid q5
        have Q6 := Lib.hid q6
        have Q7 := Lib.hid q7
        have Q8 := Lib.hid q8
        clear q2 q4 q5 q6 q7 q8 hP9 hne9 oP hbwv hmm
        go_wp2_with fail
        go_roundw
        case rel => exact ⟨k + 1, B ++ [wr.heap.size], .slice a9 (k + 1) c9, by omega, by go_num, Q2, Lib.hid (by rw [List.length_append, HN.out]; rfl), Lib.hid (by rw [cellsOf_append]; exact Q4.out), Q5, Q6, Q8, Q7⟩
        case measure => simp [intOf]; omega
      · have d1 : ¬ (k : Int) < (j.n : Int) := by omega
        have hke : k = j.n := by omega
        have HKE := Lib.hid hke
        clear hke
        go_wp2_with fail
        go_ret2
        obtain ⟨wa, wc, hwv⟩ := own_form22 HOW.out
        have how := HOW.out
        rw [hwv] at how
        have hbn : 0 < B.length := by rw [HN.out]; have := HKE.out; have := HN4.out; omega
        obtain ⟨b0, hb0⟩ : ∃ b, B[0]? = some b := ⟨_, List.getElem?_eq_getElem hbn⟩
        obtain ⟨g, hg, hgb, _⟩ := own_cell22 bcl_len (by omega) how HN.out 0 b0 hb0
        rw [hg] at how hwv
        have hmp := HMP.out
        obtain ⟨aj, cj, ej, hlj, _⟩ := own_ls HJO.out HJ.out.len
        cases ej
        have hpB : ¬ p ∈ B := fun hk => (hmp p hk).1.ne_box HXP.out rfl
        refine HR.out _ _ ⟨fun k => k ∈ B, ⟨p, { j with a := a1, cap := c1 }, g, wc, B.map fun b => (b, [])⟩, rfl, HB.out, ⟨?_, ?_, ?_, ?_, ?_, ?_, ?_, ?_, ?_⟩, fun k hk => ⟨(hmp k hk).2, (hmp k hk).1.lt⟩, ⟨a1, c1, rfl⟩, fun x hx => ?_⟩
        · intro W' o
          refine ⟨?_, ?_, ?_⟩
          · have := o.box HXP.out hpB
            unfold Md.cs
            rw [hwv] at this
            rw [List.length_map, HN.out]
            exact this
          · intro i y hy
            rw [List.getElem?_map] at hy
            cases hbi : B[i]? with
            | none => rw [hbi] at hy; cases hy
            | some b =>
              rw [hbi] at hy
              cases hy
              have hog := own_offb how o (fun q hq hk => by
                obtain ⟨_, _, cur8, hg8⟩ := own_blk how hq
                exact (hmp q hk).1.ne_box hg8 rfl)
              obtain ⟨g', e, _, hcc⟩ := own_cell22 bcl_len (by omega) hog HN.out i b hbi
              cases e
              have := hcc 0 (by omega)
              rw [Nat.mul_one, Nat.add_zero] at this
              exact this
          · have hoj := own_offb HJO.out o (fun q hq hk => by
              obtain ⟨_, _, cur8, hg8⟩ := own_blk HJO.out hq
              exact (hmp q hk).1.ne_box hg8 rfl)
            obtain ⟨aj, cj, ej, hlj, _⟩ := own_ls hoj HJ.out.len
            cases ej
            exact ⟨hlj, HJ.out.len, HJ.out.le⟩
        · intro x hx
          obtain ⟨b, hb, rfl⟩ := List.mem_map.1 hx
          exact (hmp b hb).1
        · intro x hx e he
          obtain ⟨b, hb, rfl⟩ := List.mem_map.1 hx
          cases he
        · exact HOK.out
        · rw [List.length_map, HN.out]; exact HKE.out
        · rw [List.length_map, HN.out]; 
          rcases how.2 with ⟨e, _⟩ | ⟨_, cap, _, e, _, _, hc, _⟩
          · cases e
          · cases e; exact hc
        · rw [List.map_map]
          have : (Prod.fst ∘ fun b : Nat => (b, ([] : List (List Int × RV)))) = id := rfl
          rw [this, List.map_id]; exact HND.out
        · intro x hx
          obtain ⟨b, hb, rfl⟩ := List.mem_map.1 hx
          exact hb
        · intro x hx
          obtain ⟨b, hb, rfl⟩ := List.mem_map.1 hx
          exact ⟨by unfold TabOk tabP; exact List.Pairwise.nil, fun q hq => by cases hq⟩
        · obtain ⟨b, hb, rfl⟩ := List.mem_map.1 hx
          rfl
end Go.Proofs.YthmofoldmdafoaaGreat
namespace Go.Proofs.YthmofoldmdafoaaGreat
open Go.ChangeShapes Go.WideShapes Go.ChangeAt Go.RowKit Go.Maps
set_option linter.unusedVariables false
set_option linter.unusedSimpArgs false

theorem set_same {α : Type} {P : List α} {k : Nat} {e : α} (h : P[k]? = some e) : P.set k e = P := by
  apply List.ext_getElem?
  intro i
  by_cases hi : k = i
  · subst hi
    rw [List.getElem?_set_self (List.getElem?_eq_some_iff.1 h).1, h]
  · rw [List.getElem?_set_ne hi]
theorem Off.grown {z : Nat} {W W' : World} (o : Off (fun k => k = z) W W') : W.grownBy W' (some z) := ⟨o.os, o.tape, o.output, o.size, fun k hk hn => o.block k hk (fun e => hn (by rw [e]))⟩
/-- A table that is copied so far: what was passed has its row, what is left has none. -/
def CpT (L L' : List (List Int × RV)) (left : Lit → Bool) : Prop := ∀ K, Byt K → (getM L' K).map RV.P = if left (kL K) = true then none else (getM L K).map RV.P
theorem CpT.start {L : List (List Int × RV)} (hb : KByt L) : CpT L [] (Maps.has (mOf RV.v L)) := fun K hK => by
  rw [has_mOf hb hK]
  cases h : getM L K with
  | none => simp [getM]
  | some r => simp [getM]
theorem CpT.step {L L' : List (List Int × RV)} {left : Lit → Bool} (h : CpT L L' left) (hr : Ris Prod.fst L') {K : List Int} (hK : Byt K) {r r' : RV} (hg : getM L K = some r) (hp : r'.P = r.P) : CpT L (setM L' K (some r')) (fun z => left z && !z.sameKey (kL K)) := fun J hJ => by
  rw [getM_set hr]
  show Option.map RV.P (if J = K then some r' else getM L' J) = if (left (kL J) && !(kL J).sameKey (kL K)) = true then none else Option.map RV.P (getM L J)
  rw [kL_same hJ hK]
  by_cases e : J = K
  · subst e
    rw [if_pos rfl, hg]
    simp [hp]
  · rw [if_neg e, h J hJ]
    simp [e]
theorem CpT.done {L L' : List (List Int × RV)} {left : Lit → Bool} (h : CpT L L' left) (hl : ∀ k, left k = false) (hb : KByt L) (hb' : KByt L') (t : TabOk (tabP L)) (t' : TabOk (tabP L')) : tabP L' = tabP L := tab_ext t' t fun K => by
  rw [tabP_get, tabP_get]
  by_cases hK : Byt K
  · rw [h K hK, hl]; rfl
  · rw [getM_none.2 (fun p hp e => hK (by rw [← e]; exact hb' p hp)), getM_none.2 (fun p hp e => hK (by rw [← e]; exact hb p hp))]
theorem take_set {α : Type} (P : List α) (e : α) (k : Nat) (hk : k < P.length) : (P.take k ++ List.replicate (P.length - k) e).set k P[k] = P.take (k + 1) ++ List.replicate (P.length - (k + 1)) e := by
  have h1 : (P.take k).length = k := by rw [List.length_take]; omega
  rw [List.set_append, if_neg (by omega), h1, Nat.sub_self]
  obtain ⟨n, hn⟩ : ∃ n, P.length - k = n + 1 := ⟨P.length - k - 1, by omega⟩
  rw [hn, show P.length - (k + 1) = n by omega, List.replicate_succ, List.set_cons_zero, List.take_add_one, List.getElem?_eq_getElem hk, List.append_assoc]
  rfl
end Go.Proofs.YthmofoldmdafoaaGreat
namespace Go.Proofs.YthmofoldmdafoaaGreat
open Go.ChangeShapes Go.WideShapes Go.ChangeAt Go.RowKit Go.Maps
set_option linter.unusedVariables false
set_option linter.unusedSimpArgs false

/-- How many rows tables have. -/
def lenP (T : List (List Pr)) : Nat := (T.map List.length).sum
theorem lenP_take {T : List (List Pr)} {k : Nat} {t : List Pr} (h : T[k]? = some t) : lenP (T.take (k + 1)) = lenP (T.take k) + t.length := by
  unfold lenP
  rw [List.take_add_one, h, List.map_append, List.sum_append]
  simp
theorem lenP_le (T : List (List Pr)) (N : Nat) (h : ∀ t ∈ T, t.length ≤ N) : lenP T ≤ T.length * N := by
  induction T with
  | nil => simp [lenP]
  | cons t T ih =>
    have h1 := h t (List.mem_cons_self ..)
    have h2 := ih fun x hx => h x (List.mem_cons_of_mem _ hx)
    unfold lenP at *
    rw [List.map_cons, List.sum_cons, List.length_cons, Nat.add_mul]
    omega
set_option maxRecDepth 100000 in
set_option maxHeartbeats 4000000 in
/-- Len (33). -/
theorem mlen_law {S : Nat → Prop} {m : Md} {w : World} (h : MdR S w m) (hf : ∀ z ∈ m.tabs, z.2.length ≤ 900000) : Calls Tryz.prog 33 #[.pointer (some ⟨m.p, 0, none⟩)] w fun r w' => r = .returned (.int .i64 (lenP m.P : Int)) ∧ w' = w := by
  have HH := Lib.hid h
  have HF := Lib.hid hf
  have HNO := Lib.hid (mnone_law h)
  have c7 := h.c
  have hm4 := h.few
  have hml : (m.tabs.length : Int) ≤ 1000000 := by omega
  clear h hf
  go_enter Tryz.func33, Tryz.ntmps33
  go_wp2_with fail
  refine HNO.out.mono ?_; rintro r w' ⟨rfl, rfl⟩
  go_wp2_with fail
  clear c7
  go_loopw [3, 14] (fun s i wr => ∃ k : Nat, k ≤ m.tabs.length ∧ i = .int .i64 (k : Int) ∧ s = .int .i64 (lenP (m.P.take k) : Int) ∧ wr = w) (fun _ i _ => m.tabs.length - (intOf i).toNat)
  case atStart => exact ⟨0, by omega, rfl, rfl, rfl⟩
  case round =>
    obtain ⟨k, hk, rfl, rfl, rfl⟩ := hrel
    by_cases hlt : k < m.tabs.length
    · have d1 : (k : Int) < (m.tabs.length : Int) := by omega
      obtain ⟨x, hx⟩ : ∃ x, m.tabs[k]? = some x := ⟨_, List.getElem?_eq_getElem hlt⟩
      have hxm := List.mem_of_getElem? hx
      have ct := HH.out.st.now.tab k x hx
      have hown := (HH.out.maps x hxm).own
      have hP : m.P[k]? = some (tabP x.2) := by unfold Md.P; rw [List.getElem?_map, hx]; rfl
      have hb1 := HF.out x hxm
      have hs1 := lenP_take hP
      have hs2 : lenP (m.P.take k) ≤ 3600000 := by
        have h1 := lenP_le (m.P.take k) 900000 (fun t ht => by
          obtain ⟨z, hz, rfl⟩ := List.mem_map.1 (List.mem_of_mem_take ht)
          unfold tabP; rw [List.length_map]; exact HF.out z hz)
        have h2 : (m.P.take k).length ≤ 4 := by rw [List.length_take, Md.P_len]; omega
        exact Nat.le_trans h1 (Nat.le_trans (Nat.mul_le_mul_right 900000 h2) (Nat.le_of_eq rfl))
      have htl : (tabP x.2).length = x.2.length := by unfold tabP; exact List.length_map _
      have HS := Lib.hid (And.intro hs1 (And.intro hs2 (And.intro htl hb1)))
      have hln : ∀ ty, (Builtin.len_ #[90] ty #[.map (some x.1)]).run Tryz.prog _ = .ok (.int .i64 (x.2.length : Int)) _ := fun ty => by
        have := hown.len Tryz.underlying90 ty
        rw [size_mOf] at this; exact this
      have hi1 : (lenP (m.P.take k) : Int) ≤ 3600000 := by omega
      have hi2 : (x.2.length : Int) ≤ 900000 := by omega
      clear hs1 hs2 htl hb1 hP hx hxm hown
      go_wp2_with fail
      go_roundw
      case rel =>
        refine ⟨k + 1, by omega, by go_num, ?_, trivial⟩
        obtain ⟨a1, a2, a3, a4⟩ := HS.out
        rw [a1, a3]
        go_num
      case measure => simp [intOf]; omega
    · have d1 : ¬ (k : Int) < (m.tabs.length : Int) := by omega
      have hte : m.P.take k = m.P := List.take_of_length_le (by rw [Md.P_len]; omega)
      rw [hte]
      clear hte
      go_wp2_with fail
      go_ret
      exact ⟨rfl, rfl⟩
end Go.Proofs.YthmofoldmdafoaaGreat
namespace Go.Proofs.YthmofoldmdafoaaGreat
open Go.ChangeShapes Go.WideShapes Go.ChangeAt Go.RowKit Go.Maps
set_option linter.unusedVariables false
set_option linter.unusedSimpArgs false

theorem sub_ris {α : Type} {lt : α → α → Prop} (hi : ∀ x, ¬ lt x x) (ht : ∀ {x y z}, lt x y → lt y z → lt x z) : ∀ {a b : List α}, a.Pairwise lt → b.Pairwise lt → (∀ x ∈ a, x ∈ b) → a.Sublist b
  | [], b, _, _, _ => List.nil_sublist b
  | x :: a, [], _, _, h => by have := h x (List.mem_cons_self ..); cases this
  | x :: a, y :: b, ha, hb, h => by
    obtain ⟨a1, a2⟩ := List.pairwise_cons.1 ha
    obtain ⟨b1, b2⟩ := List.pairwise_cons.1 hb
    rcases List.mem_cons.1 (h x (List.mem_cons_self ..)) with e | hx
    · subst e
      refine List.Sublist.cons_cons x (sub_ris hi ht a2 b2 fun z hz => ?_)
      rcases List.mem_cons.1 (h z (List.mem_cons_of_mem _ hz)) with e | hz'
      · subst e; exact absurd (a1 z hz) (hi z)
      · exact hz'
    · refine List.Sublist.cons y (sub_ris hi ht ha b2 fun z hz => ?_)
      rcases List.mem_cons.1 hz with e | hz
      · rw [e]; exact hx
      · rcases List.mem_cons.1 (h z (List.mem_cons_of_mem _ hz)) with e | hz'
        · subst e; exact absurd (ht (b1 x hx) (a1 z hz)) (hi z)
        · exact hz'
/-- A table as it lies. -/
structure TbW (W : World) (b : Nat) (L : List (List Int × RV)) : Prop where
  mp : Mp W b RV.v L
  rows : ∀ e ∈ L, RdR W e.2.ra e.2.R
  lim : tOk (tabP L)
theorem TbW.below {W W' : World} {b : Nat} {L : List (List Int × RV)} (h : TbW W b L) (hb : Below W.heap.size W W') : TbW W' b L := ⟨h.mp.below hb, fun e he => (h.rows e he).below hb, h.lim⟩
theorem MdR.tb {S : Nat → Prop} {W : World} {m : Md} (h : MdR S W m) {x : Nat × List (List Int × RV)} (hx : x ∈ m.tabs) : TbW W x.1 x.2 := ⟨h.maps x hx, fun e he => (h.rows x hx e he).now, h.lim x hx⟩
theorem TbW.row {W : World} {b : Nat} {L : List (List Int × RV)} (h : TbW W b L) {K : List Int} {r : RV} (hg : getM L K = some r) : RdR W r.ra r.R ∧ keyOk K ∧ rOk r.P := by
  have hm := (getM_some h.mp.ris).1 hg
  have := h.lim.2 _ (List.mem_map.2 ⟨_, hm, rfl⟩)
  exact ⟨h.rows _ hm, this.1, this.2⟩
theorem tab_eq {L1 L2 : List (List Int × RV)} (h1 : TabOk (tabP L1)) (h2 : TabOk (tabP L2)) (r1 : Ris Prod.fst L1) (hl : L1.length = L2.length) (h : ∀ K, K ∈ L1.map Prod.fst → (getM L1 K).map RV.P = (getM L2 K).map RV.P) : tabP L1 = tabP L2 := by
  have hs : (tabP L1).Sublist (tabP L2) := sub_ris (lt := fun a b : Pr => ltL a.1 b.1 = true) (fun x e => by rw [ltL_irr] at e; cases e) (fun a b => ltL_trans a b) h1 h2 fun p hp => by
    obtain ⟨x, hx, rfl⟩ := List.mem_map.1 hp
    have hg := (getM_some r1).2 (show (x.1, x.2) ∈ L1 from hx)
    have := h x.1 (List.mem_map.2 ⟨x, hx, rfl⟩)
    rw [hg] at this
    have h3 : getT (tabP L2) x.1 = some x.2.P := by rw [tabP_get, ← this]; rfl
    exact (getT_some h2).1 h3
  refine hs.eq_of_length ?_
  unfold tabP
  rw [List.length_map, List.length_map, hl]
theorem tab_ne {L1 L2 : List (List Int × RV)} {K : List Int} (h : (getM L1 K).map RV.P ≠ (getM L2 K).map RV.P) : decide (tabP L1 = tabP L2) = false := decide_eq_false fun e => h (by rw [← tabP_get, ← tabP_get, e])
set_option maxRecDepth 100000 in
set_option maxHeartbeats 4000000 in
/-- maps.EqualFunc (64), of tables. -/
theorem meq_law (w : World) (b1 b2 : Nat) (L1 L2 : List (List Int × RV)) (h1 : TbW w b1 L1) (h2 : TbW w b2 L2) (hf : L1.length ≤ 900000 ∧ L2.length ≤ 900000) :
    Calls Tryz.prog 64 #[.map (some b1), .map (some b2), .func (.func 65) #[] #[]] w fun r w' => r = .returned (.bool (decide (tabP L1 = tabP L2))) ∧ Below w.heap.size w w' := by
  have HT := Lib.hid (And.intro h1 h2)
  have HF := Lib.hid hf
  have hln1 : ∀ ty, (Builtin.len_ #[90] ty #[.map (some b1)]).run Tryz.prog w = .ok (.int .i64 (L1.length : Int)) w := fun ty => by
    have := h1.mp.own.len Tryz.underlying90 ty
    rw [size_mOf] at this; exact this
  have hln2 : ∀ ty, (Builtin.len_ #[90] ty #[.map (some b2)]).run Tryz.prog w = .ok (.int .i64 (L2.length : Int)) w := fun ty => by
    have := h2.mp.own.len Tryz.underlying90 ty
    rw [size_mOf] at this; exact this
  have hown := h1.mp.own
  by_cases hl : L1.length = L2.length
  · have d1 : ((L1.length : Int) == (L2.length : Int)) = true := by simp [hl]
    have d2 : ((L1.length : Int) != (L2.length : Int)) = false := by simp [hl]
    have HL := Lib.hid hl
    clear h1 h2 hf hl
    go_enter Tryz.func64, Tryz.ntmps64
    go_wp2_with (at_range; refine wpList_range_own _ rfl _ 90 rfl 9 50 law9 Tryz.underlying90 RF b1 _ _ rfl hown ?_; intro w5 hrg5 hg5 hs5)
    have HB5 := Lib.hid (show Below w.heap.size w w5 from Off.below (Below.refl _ _) ((Off.of_row hg5).mono (T := fun _ => False) (fun k hk => by cases hk)) (Nat.le_refl _) (fun _ h => h.elim))
    have HS5 := Lib.hid hs5
    obtain ⟨rr, hrr⟩ : ∃ rr, w.heap.size = rr := ⟨_, rfl⟩
    rw [hrr] at hrg5 HS5 ⊢
    have HRR := Lib.hid hrr
    clear hrr hg5 hs5 hown hln1 hln2 d1 d2
    go_frame
    go_loopw [18] (fun _ wr => ∃ (left : Lit → Bool) (cnt : Nat), wr.ranges Tryz.prog 9 RF b1 rr L1.length (mOf RV.v L1) left cnt ∧ Hid (∀ K, K ∈ L1.map Prod.fst → left (kL K) = false → (getM L1 K).map RV.P = (getM L2 K).map RV.P) ∧ Hid (Below w.heap.size w wr) ∧ Hid (rr + 1 ≤ wr.heap.size)) (fun _ wr => wr.rangeLeft b1 rr)
    case atStart =>
      refine ⟨_, _, hrg5, Lib.hid (fun K hK hl => ?_), HB5, Lib.hid (by rw [HS5.out]; exact Nat.le_refl _)⟩
      obtain ⟨p, hp, rfl⟩ := List.mem_map.1 hK
      rw [has_mOf HT.out.1.mp.byt (HT.out.1.mp.byt p hp), mem_keys.1 hK] at hl
      cases hl
    case round =>
      obtain ⟨left, cnt, hrg, HIN, HB, HW⟩ := hrel
      go_wp2_with (at_next; go_loud (refine wpList_next_ranges _ rfl _ rfl 9 law9 RF Value.string (fun v : Value => v) (fun key kl hk => by simp only [keyOf, Tryz.underlying9] at hk; cases key <;> simp [mapKey, Tryz.underlying9] at hk; exact ⟨_, rfl⟩) (fun v y _ => ⟨v, rfl⟩) b1 rr L1.length _ _ _ rfl hrg ?_ ?_))
      · intro hc0 hl0
        have HEQ := Lib.hid (show decide (tabP L1 = tabP L2) = true from decide_eq_true (tab_eq HT.out.1.lim.1 HT.out.2.lim.1 HT.out.1.mp.ris HL.out fun K hK => HIN.out K hK (hl0 _)))
        clear hc0 hl0
        go_wp2_with fail
        go_ret
        exact ⟨by rw [HEQ.out]; rfl, HB.out⟩
      · intro s c kl yd yp w6 cnt2 hkey hlk hv hat hrg6 hlt6 hg6 hs6 hen
        obtain ⟨K, hKm, es, ek⟩ := key_in hkey hat
        subst es
        subst ek
        obtain ⟨r0, hr0⟩ : ∃ r0, getM L1 K = some r0 := Option.isSome_iff_exists.1 (mem_keys.1 hKm)
        have hKB : Byt K := by obtain ⟨p, hp, rfl⟩ := List.mem_map.1 hKm; exact HT.out.1.mp.byt p hp
        have hcv : c = RV.v r0 := by
          have h1 := hat .nil
          rw [at_mOf HT.out.1.mp.byt hKB, hr0] at h1
          have e1 := (Prod.mk.inj (RF_inv hv)).1
          have h2 : DataW.held (RV.v r0) = DataW.held c := h1.trans e1
          injection h2 with h2
          exact h2.symm
        subst hcv
        unfold RV.v at hen hv
        have o6 : Off (fun q => q = rr) _ w6 := (Off.of_row hg6).mono (fun q hq => by cases hq; rfl)
        have hB6 := Off.below HB.out o6 HB.out.size (fun q hq => by cases hq; rw [HRR.out]; exact Nat.le_refl _)
        have hT1 := HT.out.1.below hB6
        have hT2 := HT.out.2.below hB6
        obtain ⟨hrow0, hk0, hrk0⟩ := hT1.row hr0
        have hlo := hT2.mp.look (t := 90) (e := 50) Tryz.underlying90 (zero50 w6) hKB (by have := hk0.2.2; unfold maxLen; omega)
        have HB6 := Lib.hid hB6
        have HRG6 := Lib.hid hrg6
        have HR0 := Lib.hid hr0
        have HKB := Lib.hid hKB
        have HLT := Lib.hid hlt6
        have HLQ := Lib.hid hrg.left_eq
        have HS6 := Lib.hid (show rr + 1 ≤ w6.heap.size by have := HW.out; omega)
        have HBD := Lib.hid (RV.bound hrk0)
        have HBY := Lib.hid (rOk_byt (R := r0.R) hrk0)
        have HRW0 := Lib.hid hrow0
        obtain ⟨o, ho⟩ : ∃ o, getM L2 K = o := ⟨_, rfl⟩
        rw [ho] at hlo
        cases o with
        | none =>
          have HNE := Lib.hid (tab_ne (L1 := L1) (L2 := L2) (K := K) (by rw [hr0, ho]; simp))
          simp only [Option.map_none, Option.getD_none, Option.isSome_none] at hlo
          clear hkey hlk hv hat hlt6 hg6 hs6 hKm hr0 hKB o6 hB6 hT1 hT2 hrow0 hk0 hrk0 hrg hrg6 ho
          go_wp2_with fail
          go_ret
          exact ⟨by rw [HNE.out]; rfl, HB6.out⟩
        | some r1 =>
          obtain ⟨hrow1, _, hrk1⟩ := hT2.row ho
          have HSA := Lib.hid (same_law r0.ra r1.ra r0.R r1.R _ _ r0.rc r1.rc rfl rfl (by have := (RV.bound hrk0).1; omega) (rOk_byt hrk0) (rOk_byt hrk1) w6 hrow0 hrow1)
          simp only [Option.map_some, Option.getD_some, Option.isSome_some, RV.v] at hlo
          have HO := Lib.hid ho
          have HLK := Lib.hid hlk
          clear hkey hlk hv hat hlt6 hg6 hs6 hKm hr0 hKB o6 hB6 hT1 hT2 hrow0 hk0 hrk0 hrg hrg6 ho hrow1 hrk1
          go_wp2_with fail
          refine HSA.out.mono ?_; rintro e w7 ⟨rfl, hb7⟩
          have HB7 := Lib.hid (step_below HB6.out hb7)
          have HRG7 := Lib.hid (HRG6.out.kept (row := none) ⟨hb7.os, hb7.tape, hb7.output, hb7.size, fun k hk _ => hb7.block k hk⟩ (by simp) (by simp))
          have HS7 := Lib.hid (Nat.le_trans HS6.out hb7.size)
          clear hb7 hlo hen
          cases hq : eqB r0.R r1.R with
          | false =>
            have HNE := Lib.hid (tab_ne (L1 := L1) (L2 := L2) (K := K) (by
              rw [HR0.out, HO.out]
              intro e
              injection e with e
              exact (of_decide_eq_false hq) e))
            clear hq
            go_wp2_with fail
            go_ret
            exact ⟨by rw [HNE.out]; rfl, HB7.out⟩
          | true =>
            have HEQ := Lib.hid (show r0.P = r1.P from of_decide_eq_true hq)
            clear hq
            go_wp2_with fail
            go_roundw
            case rel =>
              refine ⟨_, cnt2, HRG7.out, Lib.hid (fun J hJ hl => ?_), HB7, HS7⟩
              by_cases e : J = K
              · subst e
                rw [HR0.out, HO.out]
                show some r0.P = some r1.P
                rw [HEQ.out]
              · refine HIN.out J hJ ?_
                have hJB : Byt J := by obtain ⟨p, hp, rfl⟩ := List.mem_map.1 hJ; exact HT.out.1.mp.byt p hp
                rw [kL_same hJB HKB.out] at hl
                simp [e] at hl
                exact hl
            case measure => rw [HRG7.out.left_eq, HLQ.out]; exact HLT.out
  · have d1 : ((L1.length : Int) == (L2.length : Int)) = false := by simp; omega
    have d2 : ((L1.length : Int) != (L2.length : Int)) = true := by simp; omega
    have HNE := Lib.hid (show decide (tabP L1 = tabP L2) = false from decide_eq_false fun e => hl (by have := congrArg List.length e; unfold tabP at this; simpa using this))
    clear h1 h2 hf hl hown
    go_enter Tryz.func64, Tryz.ntmps64
    go_wp2_with fail
    go_ret
    exact ⟨by rw [HNE.out]; rfl, Below.refl _ _⟩
end Go.Proofs.YthmofoldmdafoaaGreat
namespace Go.Proofs.YthmofoldmdafoaaGreat
open Go.ChangeShapes Go.WideShapes Go.ChangeAt Go.RowKit Go.Maps
set_option linter.unusedVariables false
set_option linter.unusedSimpArgs false

set_option maxRecDepth 100000 in
set_option maxHeartbeats 4000000 in
/-- slices.Equal, of whole numbers (61). -/
theorem iequal_law (a b : Option Addr) (A B : List Int) (n m ca cb : Nat) (hn : A.length = n) (hm : B.length = m) (hn3 : n ≤ 1000000) (w : World) (hA : Ls .i64 w a ca A) (hB : Ls .i64 w b cb B) :
    Calls Tryz.prog 61 #[.slice a n ca, .slice b m cb] w fun r w' => r = .returned (.bool (decide (A = B))) ∧ Below w.heap.size w w' := by
  by_cases h : n = m
  · subst h
    have HA := Lib.hid hA
    have HB := Lib.hid hB
    have HN := Lib.hid hn
    have HM := Lib.hid hm
    clear hA hB hn hm
    go_enter Tryz.func61, Tryz.ntmps61
    go_wp2_with fail
    go_loopw [13] (fun i wr => ∃ k : Nat, k ≤ n ∧ i = .int .i64 k ∧ Hid (A.take k = B.take k) ∧ Hid (Below w.heap.size w wr)) (fun i _ => n - (intOf i).toNat)
    case atStart => exact ⟨0, by omega, rfl, Lib.hid rfl, Lib.hid (Below.refl _ _)⟩
    case round =>
      obtain ⟨k, hk, rfl, HP, BB⟩ := hrel
      by_cases hlt : k < n
      · have hkl : (k : Int) < (n : Int) := by omega
        have hk9 : (k : Int) ≤ 1000000 := by omega
        obtain ⟨b1, o1, e1, d1⟩ := (HA.out.below BB.out).get k (by rw [HN.out]; exact hlt)
        obtain ⟨b2, o2, e2, d2⟩ := (HB.out.below BB.out).get k (by rw [HM.out]; exact hlt)
        subst e1 e2
        obtain ⟨p, hp⟩ : ∃ p, A[k]? = some p := ⟨_, List.getElem?_eq_getElem (by rw [HN.out]; exact hlt)⟩
        obtain ⟨q, hq⟩ : ∃ q, B[k]? = some q := ⟨_, List.getElem?_eq_getElem (by rw [HM.out]; exact hlt)⟩
        have gp : A.getD k 0 = p := by rw [List.getD_eq_getElem?_getD, hp]; rfl
        have gq : B.getD k 0 = q := by rw [List.getD_eq_getElem?_getD, hq]; rfl
        rw [gp] at d1
        rw [gq] at d2
        have HPQ := Lib.hid (And.intro hp hq)
        clear hp hq gp gq
        by_cases hle : p = q
        · have HTK := Lib.hid (show A.take (k + 1) = B.take (k + 1) by rw [List.take_add_one, List.take_add_one, HP.out, HPQ.out.1, HPQ.out.2, hle])
          have c1 : (p == q) = true := by simp [hle]
          have c2 : (p != q) = false := by simp [hle]
          clear hle
          go_wp2_with fail
          go_quiet (fail)
          go_wp2_with fail
          go_roundw
          case rel => exact ⟨k + 1, by omega, by go_num, HTK, Lib.hid (below_drewN BB.out _)⟩
          case measure => simp [intOf]; omega
        · have HNE := Lib.hid (show decide (A = B) = false from decide_eq_false fun e => by
            have h1 := HPQ.out.1
            rw [e, HPQ.out.2] at h1
            injection h1 with h1
            exact hle h1.symm)
          have c1 : (p == q) = false := by simpa using hle
          have c2 : (p != q) = true := by simpa using hle
          clear hle
          go_wp2_with fail
          go_quiet (fail)
          go_wp2_with fail
          go_ret
          exact ⟨by rw [HNE.out]; rfl, below_drewN BB.out _⟩
      · have hkl : ¬ (k : Int) < (n : Int) := by omega
        have HEQ := Lib.hid (show decide (A = B) = true from decide_eq_true (by
          have := HP.out
          rw [List.take_of_length_le (by rw [HN.out]; omega), List.take_of_length_le (by rw [HM.out]; omega)] at this
          exact this))
        go_wp2_with fail
        go_ret
        exact ⟨by rw [HEQ.out]; rfl, BB.out⟩
  · have HNE := Lib.hid (show decide (A = B) = false from decide_eq_false fun e => h (by rw [← hn, ← hm, e]))
    have d1 : ((n : Int) == (m : Int)) = false := by simp; omega
    have d2 : ((n : Int) != (m : Int)) = true := by simp; omega
    clear hA hB hn hm h
    go_enter Tryz.func61, Tryz.ntmps61
    go_wp2_with fail
    go_ret
    exact ⟨by rw [HNE.out]; rfl, Below.refl _ _⟩
set_option maxRecDepth 100000 in
set_option maxHeartbeats 4000000 in
/-- Same$1 (63). -/
theorem meq1_law (w : World) (b1 b2 : Nat) (L1 L2 : List (List Int × RV)) (h1 : TbW w b1 L1) (h2 : TbW w b2 L2) (hf : L1.length ≤ 900000 ∧ L2.length ≤ 900000) :
    Calls Tryz.prog 63 #[.map (some b1), .map (some b2)] w fun r w' => r = .returned (.bool (decide (tabP L1 = tabP L2))) ∧ Below w.heap.size w w' := by
  have HA := Lib.hid (meq_law w b1 b2 L1 L2 h1 h2 hf)
  clear h1 h2 hf
  go_enter Tryz.func63, Tryz.ntmps63
  go_wp2_with fail
  refine HA.out.mono ?_; rintro e w' ⟨rfl, hb⟩
  go_wp2_with fail
  go_ret
  exact ⟨rfl, hb⟩
/-- Tables as they lie, in a slice. -/
def TbsW (W : World) (a : Option Addr) (T : List (Nat × List (List Int × RV))) : Prop := ∀ (k : Nat) (x : Nat × List (List Int × RV)), T[k]? = some x → ∃ b off, a = some ⟨b, off, none⟩ ∧ W.cell? ⟨b, off + k, none⟩ = some (.map (some x.1)) ∧ TbW W x.1 x.2
theorem TbsW.below {W W' : World} {a : Option Addr} {T : List (Nat × List (List Int × RV))} (h : TbsW W a T) (hb : Below W.heap.size W W') : TbsW W' a T := fun k x hx => by
  obtain ⟨b, off, e, c, t⟩ := h k x hx
  exact ⟨b, off, e, (hb.cell (World.block_lt_of_cell? W _ c)).trans c, t.below hb⟩
def tbsP (T : List (Nat × List (List Int × RV))) : List (List Pr) := T.map fun x => tabP x.2
set_option maxRecDepth 100000 in
set_option maxHeartbeats 4000000 in
/-- slices.EqualFunc (62), of tables. -/
theorem meqs_law (a b : Option Addr) (A B : List (Nat × List (List Int × RV))) (n m ca cb : Nat) (hn : A.length = n) (hm : B.length = m) (hn3 : n ≤ 1000000) (hfA : ∀ x ∈ A, x.2.length ≤ 900000) (hfB : ∀ x ∈ B, x.2.length ≤ 900000) (w : World) (hA : TbsW w a A) (hB : TbsW w b B) :
    Calls Tryz.prog 62 #[.slice a n ca, .slice b m cb, .func (.func 63) #[] #[]] w fun r w' => r = .returned (.bool (decide (tbsP A = tbsP B))) ∧ Below w.heap.size w w' := by
  by_cases h : n = m
  · subst h
    have HA := Lib.hid hA
    have HB := Lib.hid hB
    have HN := Lib.hid hn
    have HM := Lib.hid hm
    have HF := Lib.hid (And.intro hfA hfB)
    clear hA hB hn hm hfA hfB
    go_enter Tryz.func62, Tryz.ntmps62
    go_wp2_with fail
    go_loopw [17] (fun i wr => ∃ k : Nat, k ≤ n ∧ i = .int .i64 k ∧ Hid (tbsP (A.take k) = tbsP (B.take k)) ∧ Hid (Below w.heap.size w wr)) (fun i _ => n - (intOf i).toNat)
    case atStart => exact ⟨0, by omega, rfl, Lib.hid rfl, Lib.hid (Below.refl _ _)⟩
    case round =>
      obtain ⟨k, hk, rfl, HP, BB⟩ := hrel
      by_cases hlt : k < n
      · have hkl : (k : Int) < (n : Int) := by omega
        have hk9 : (k : Int) ≤ 1000000 := by omega
        obtain ⟨p, hp⟩ : ∃ p, A[k]? = some p := ⟨_, List.getElem?_eq_getElem (by rw [HN.out]; exact hlt)⟩
        obtain ⟨q, hq⟩ : ∃ q, B[k]? = some q := ⟨_, List.getElem?_eq_getElem (by rw [HM.out]; exact hlt)⟩
        obtain ⟨b1, o1, e1, d1, t1⟩ := (HA.out.below BB.out) k p hp
        obtain ⟨b2, o2, e2, d2, t2⟩ := (HB.out.below BB.out) k q hq
        subst e1 e2
        have HMQ := Lib.hid (meq1_law wr p.1 q.1 p.2 q.2 t1 t2 ⟨HF.out.1 p (List.mem_of_getElem? hp), HF.out.2 q (List.mem_of_getElem? hq)⟩)
        have HPQ := Lib.hid (And.intro hp hq)
        clear hp hq t1 t2
        go_wp2_with fail
        refine HMQ.out.mono ?_; rintro e w7 ⟨rfl, hb7⟩
        have HB7 := Lib.hid (step_below BB.out hb7)
        clear hb7 d1 d2
        cases hle : decide (tabP p.2 = tabP q.2) with
        | true =>
          have HTK := Lib.hid (show tbsP (A.take (k + 1)) = tbsP (B.take (k + 1)) by
            have h1 := HP.out
            unfold tbsP at h1 ⊢
            rw [List.take_add_one, List.take_add_one, List.map_append, List.map_append, h1, HPQ.out.1, HPQ.out.2]
            show _ ++ [tabP p.2] = _ ++ [tabP q.2]
            rw [of_decide_eq_true hle])
          clear hle
          go_wp2_with fail
          go_roundw
          case rel => exact ⟨k + 1, by omega, by go_num, HTK, HB7⟩
          case measure => simp [intOf]; omega
        | false =>
          have HNE := Lib.hid (show decide (tbsP A = tbsP B) = false from decide_eq_false fun e => by
            have h1 := congrArg (fun l : List (List Pr) => l[k]?) e
            unfold tbsP at h1
            simp only [List.getElem?_map, HPQ.out.1, HPQ.out.2, Option.map_some] at h1
            injection h1 with h1
            exact (of_decide_eq_false hle) h1)
          clear hle
          go_wp2_with fail
          go_ret
          exact ⟨by rw [HNE.out]; rfl, HB7.out⟩
      · have hkl : ¬ (k : Int) < (n : Int) := by omega
        have HEQ := Lib.hid (show decide (tbsP A = tbsP B) = true from decide_eq_true (by
          have := HP.out
          rw [List.take_of_length_le (by rw [HN.out]; omega), List.take_of_length_le (by rw [HM.out]; omega)] at this
          exact this))
        go_wp2_with fail
        go_ret
        exact ⟨by rw [HEQ.out]; rfl, BB.out⟩
  · have HNE := Lib.hid (show decide (tbsP A = tbsP B) = false from decide_eq_false fun e => h (by have := congrArg List.length e; unfold tbsP at this; rw [List.length_map, List.length_map] at this; omega))
    have d1 : ((n : Int) == (m : Int)) = false := by simp; omega
    have d2 : ((n : Int) != (m : Int)) = true := by simp; omega
    clear hA hB hn hm h
    go_enter Tryz.func62, Tryz.ntmps62
    go_wp2_with fail
    go_ret
    exact ⟨by rw [HNE.out]; rfl, Below.refl _ _⟩
end Go.Proofs.YthmofoldmdafoaaGreat
namespace Go.Proofs.YthmofoldmdafoaaGreat
open Go.ChangeShapes Go.WideShapes Go.ChangeAt Go.RowKit Go.Maps
set_option linter.unusedVariables false
set_option linter.unusedSimpArgs false

theorem MdR.tbs {S : Nat → Prop} {W : World} {m : Md} (h : MdR S W m) : TbsW W (some ⟨m.bt, 0, none⟩) m.tabs := fun k x hx => ⟨m.bt, 0, rfl, by rw [Nat.zero_add]; exact h.st.now.tab k x hx, h.tb (List.mem_of_getElem? hx)⟩
set_option maxRecDepth 100000 in
set_option maxHeartbeats 4000000 in
/-- Same (21). -/
theorem msame_law {S1 S2 : Nat → Prop} {m1 m2 : Md} {w : World} (h1 : MdR S1 w m1) (h2 : MdR S2 w m2) (hf1 : ∀ z ∈ m1.tabs, z.2.length ≤ 900000) (hf2 : ∀ z ∈ m2.tabs, z.2.length ≤ 900000) :
    Calls Tryz.prog 21 #[.pointer (some ⟨m1.p, 0, none⟩), .pointer (some ⟨m2.p, 0, none⟩)] w fun r w' => r = .returned (.bool (decide (m1.j.T = m2.j.T) && decide (m1.P = m2.P))) ∧ Below w.heap.size w w' := by
  have HN1 := Lib.hid (mnone_law h1)
  have HN2 := Lib.hid (mnone_law h2)
  have hx := fun X (b : Below w.heap.size w X) => (by
    have q1 := ((h1.below b).st.now.box).cell 6
    have q2 := ((h2.below b).st.now.box).cell 6
    exact ⟨q1, q2, (h1.below b).c, (h2.below b).c⟩ : X.cell? ⟨m1.p, 6, none⟩ = some (.slice m1.j.a m1.j.n m1.j.cap) ∧ X.cell? ⟨m2.p, 6, none⟩ = some (.slice m2.j.a m2.j.n m2.j.cap) ∧ X.cell? ⟨m1.p, 7, none⟩ = some (.slice (some ⟨m1.bt, 0, none⟩) m1.tabs.length m1.tc) ∧ X.cell? ⟨m2.p, 7, none⟩ = some (.slice (some ⟨m2.bt, 0, none⟩) m2.tabs.length m2.tc))
  have HX := Lib.hid hx
  have HQI := Lib.hid (fun X (b : Below w.heap.size w X) => iequal_law m1.j.a m2.j.a m1.j.T m2.j.T m1.j.n m2.j.n m1.j.cap m2.j.cap (h1.st.now.job).len (h2.st.now.job).len (h1.st.now.job).le X ((h1.below b).st.now.job.ls) ((h2.below b).st.now.job.ls))
  have HQM := Lib.hid (fun X (b : Below w.heap.size w X) => meqs_law (some ⟨m1.bt, 0, none⟩) (some ⟨m2.bt, 0, none⟩) m1.tabs m2.tabs m1.tabs.length m2.tabs.length m1.tc m2.tc rfl rfl (by have := h1.few; omega) hf1 hf2 X (h1.below b).tbs (h2.below b).tbs)
  clear h1 h2 hf1 hf2 hx
  cases hd : decide (m1.j.T = m2.j.T) with
  | true =>
    have HD := Lib.hid hd
    clear hd
    go_enter Tryz.func21, Tryz.ntmps21
    go_wp2_with fail
    refine HN1.out.mono ?_; rintro r w' ⟨rfl, rfl⟩
    go_wp2_with fail
    refine HN2.out.mono ?_; rintro r w' ⟨rfl, rfl⟩
    go_upto_region 3 with (fail)
    refine wp_region_held_drew (S := (fun X => Below w.heap.size w X)) (by kernel_rfl) ((Below.refl _ _).drew) (fun hHeld => ?_)
    refine tp 0 ?_ rfl (.inl ⟨by rfl, ?_⟩) ?_
    rotate_left
    · intro W hSw; go_simp; try with_reducible rfl
    refine tp 1 ?_ rfl (.inl ⟨by rfl, ?_⟩) ?_
    rotate_left
    · intro W hSw; go_simp; try with_reducible rfl
    refine tp 2 ?_ rfl (.inl ⟨by rfl, ?_⟩) ?_
    rotate_left
    · intro W hSw; go_simp; try with_reducible rfl
    refine tp 3 ?_ rfl (.inl ⟨by rfl, ?_⟩) ?_
    rotate_left
    · intro W hSw; go_simp; try with_reducible rfl
    refine tp 4 ?_ rfl (.inl ⟨by rfl, ?_⟩) ?_
    rotate_left
    · intro W hSw; have m0 := (HX.out W hSw).1; go_simp; try with_reducible rfl
    refine tp 5 ?_ rfl (.inl ⟨by rfl, ?_⟩) ?_
    rotate_left
    · intro W hSw; go_simp; try with_reducible rfl
    refine tp 6 ?_ rfl (.inl ⟨by rfl, ?_⟩) ?_
    rotate_left
    · intro W hSw; go_simp; try with_reducible rfl
    refine tp 7 ?_ rfl (.inl ⟨by rfl, ?_⟩) ?_
    rotate_left
    · intro W hSw; go_simp; try with_reducible rfl
    refine tp 8 ?_ rfl (.inl ⟨by rfl, ?_⟩) ?_
    rotate_left
    · intro W hSw; go_simp; try with_reducible rfl
    refine tp 9 ?_ rfl (.inl ⟨by rfl, ?_⟩) ?_
    rotate_left
    · intro W hSw; have m0 := (HX.out W hSw).2.1; go_simp; try with_reducible rfl
    refine wpAnyH_ready (rs := [10]) (by kernel_rfl) (by simp) ?_
    refine AllReadyH.cons (o := { dst := some 27, op := Op.call { callee := Callee.value (Operand.func 61), args := #[Operand.tmp 21, Operand.tmp 26], argTypes := #[22, 22] }, type := 4, pos := "model.go:204", after := #[{ on := 4, ground := Ground.data }, { on := 9, ground := Ground.data }], guard := none }) rfl (fun K hK => ?_) AllReadyH.nil
    go_simp
    refine (HQI.out _ hHeld).mono ?_; rintro r w4 ⟨rfl, hb4⟩
    have HB4 := Lib.hid (step_below hHeld hb4)
    clear hb4
    rw [HD.out]
    go_wp2_with fail
    refine hK.out _ _ HB4.out (fun hHeldn => ?_)
    clear hK K hHeld; have hHeld := hHeldn; clear hHeldn
    try simp only [Act.put, List.setIfInBounds_toArray, List.set_cons_zero, List.set_cons_succ]
    refine tp 11 ?_ rfl (.inl ⟨by rfl, ?_⟩) ?_
    rotate_left
    · intro W hSw; go_simp; try with_reducible rfl
    refine tp 12 ?_ rfl (.inl ⟨by rfl, ?_⟩) ?_
    rotate_left
    · intro W hSw; go_simp; try with_reducible rfl
    refine tp 13 ?_ rfl (.inl ⟨by rfl, ?_⟩) ?_
    rotate_left
    · intro W hSw; go_simp; try with_reducible rfl
    refine tp 14 ?_ rfl (.inl ⟨by rfl, ?_⟩) ?_
    rotate_left
    · intro W hSw; go_simp; try with_reducible rfl
    refine tp 15 ?_ rfl (.inl ⟨by rfl, ?_⟩) ?_
    rotate_left
    · intro W hSw; have m0 := (HX.out W hSw).2.2.1; go_simp; try with_reducible rfl
    refine tp 16 ?_ rfl (.inl ⟨by rfl, ?_⟩) ?_
    rotate_left
    · intro W hSw; go_simp; try with_reducible rfl
    refine tp 17 ?_ rfl (.inl ⟨by rfl, ?_⟩) ?_
    rotate_left
    · intro W hSw; go_simp; try with_reducible rfl
    refine tp 18 ?_ rfl (.inl ⟨by rfl, ?_⟩) ?_
    rotate_left
    · intro W hSw; go_simp; try with_reducible rfl
    refine tp 19 ?_ rfl (.inl ⟨by rfl, ?_⟩) ?_
    rotate_left
    · intro W hSw; have m0 := (HX.out W hSw).2.2.2; go_simp; try with_reducible rfl
    refine wpAnyH_ready (rs := [20]) (by kernel_rfl) (by simp) ?_
    refine AllReadyH.cons (o := { dst := some 37, op := Op.call { callee := Callee.value (Operand.func 62), args := #[Operand.tmp 32, Operand.tmp 36, Operand.func 63], argTypes := #[87, 87, 116] }, type := 4, pos := "model.go:204", after := #[{ on := 15, ground := Ground.data }, { on := 19, ground := Ground.data }, { on := 11, ground := Ground.chain }, { on := 11, ground := Ground.guard }], guard := some (11, true) }) rfl (fun K hK => ?_) AllReadyH.nil
    go_simp
    refine (HQM.out _ hHeld).mono ?_; rintro r w5 ⟨rfl, hb5⟩
    have HB5 := Lib.hid (step_below hHeld hb5)
    clear hb5
    go_wp2_with fail
    refine hK.out _ _ HB5.out (fun hHeldn => ?_)
    clear hK K hHeld; have hHeld := hHeldn; clear hHeldn
    try simp only [Act.put, List.setIfInBounds_toArray, List.set_cons_zero, List.set_cons_succ]
    refine tp 21 ?_ rfl (.inl ⟨by rfl, ?_⟩) ?_
    rotate_left
    · intro W hSw; go_simp; try with_reducible rfl
    refine tp 22 ?_ rfl (.inl ⟨by rfl, ?_⟩) ?_
    rotate_left
    · intro W hSw; go_simp; try with_reducible rfl
    refine wpAnyH_done (by kernel_rfl) ?_ _
    skip
    go_wp2_with fail
    go_ret
    exact ⟨rfl, HB5.out⟩
  | false =>
    have HD := Lib.hid hd
    clear hd
    go_enter Tryz.func21, Tryz.ntmps21
    go_wp2_with fail
    refine HN1.out.mono ?_; rintro r w' ⟨rfl, rfl⟩
    go_wp2_with fail
    refine HN2.out.mono ?_; rintro r w' ⟨rfl, rfl⟩
    go_upto_region 3 with (fail)
    refine wp_region_held_drew (S := (fun X => Below w.heap.size w X)) (by kernel_rfl) ((Below.refl _ _).drew) (fun hHeld => ?_)
    refine tp 0 ?_ rfl (.inl ⟨by rfl, ?_⟩) ?_
    rotate_left
    · intro W hSw; go_simp; try with_reducible rfl
    refine tp 1 ?_ rfl (.inl ⟨by rfl, ?_⟩) ?_
    rotate_left
    · intro W hSw; go_simp; try with_reducible rfl
    refine tp 2 ?_ rfl (.inl ⟨by rfl, ?_⟩) ?_
    rotate_left
    · intro W hSw; go_simp; try with_reducible rfl
    refine tp 3 ?_ rfl (.inl ⟨by rfl, ?_⟩) ?_
    rotate_left
    · intro W hSw; go_simp; try with_reducible rfl
    refine tp 4 ?_ rfl (.inl ⟨by rfl, ?_⟩) ?_
    rotate_left
    · intro W hSw; have m0 := (HX.out W hSw).1; go_simp; try with_reducible rfl
    refine tp 5 ?_ rfl (.inl ⟨by rfl, ?_⟩) ?_
    rotate_left
    · intro W hSw; go_simp; try with_reducible rfl
    refine tp 6 ?_ rfl (.inl ⟨by rfl, ?_⟩) ?_
    rotate_left
    · intro W hSw; go_simp; try with_reducible rfl
    refine tp 7 ?_ rfl (.inl ⟨by rfl, ?_⟩) ?_
    rotate_left
    · intro W hSw; go_simp; try with_reducible rfl
    refine tp 8 ?_ rfl (.inl ⟨by rfl, ?_⟩) ?_
    rotate_left
    · intro W hSw; go_simp; try with_reducible rfl
    refine tp 9 ?_ rfl (.inl ⟨by rfl, ?_⟩) ?_
    rotate_left
    · intro W hSw; have m0 := (HX.out W hSw).2.1; go_simp; try with_reducible rfl
    refine wpAnyH_ready (rs := [10]) (by kernel_rfl) (by simp) ?_
    refine AllReadyH.cons (o := { dst := some 27, op := Op.call { callee := Callee.value (Operand.func 61), args := #[Operand.tmp 21, Operand.tmp 26], argTypes := #[22, 22] }, type := 4, pos := "model.go:204", after := #[{ on := 4, ground := Ground.data }, { on := 9, ground := Ground.data }], guard := none }) rfl (fun K hK => ?_) AllReadyH.nil
    go_simp
    refine (HQI.out _ hHeld).mono ?_; rintro r w4 ⟨rfl, hb4⟩
    have HB4 := Lib.hid (step_below hHeld hb4)
    clear hb4
    rw [HD.out]
    go_wp2_with fail
    refine hK.out _ _ HB4.out (fun hHeldn => ?_)
    clear hK K hHeld; have hHeld := hHeldn; clear hHeldn
    try simp only [Act.put, List.setIfInBounds_toArray, List.set_cons_zero, List.set_cons_succ]
    refine tp 11 ?_ rfl (.inl ⟨by rfl, ?_⟩) ?_
    rotate_left
    · intro W hSw; go_simp; try with_reducible rfl
    refine tp 12 (undef) rfl (.inr ⟨by rfl, rfl⟩) ?_
    refine tp 13 (undef) rfl (.inr ⟨by rfl, rfl⟩) ?_
    refine tp 14 (undef) rfl (.inr ⟨by rfl, rfl⟩) ?_
    refine tp 15 (undef) rfl (.inr ⟨by rfl, rfl⟩) ?_
    refine tp 16 (undef) rfl (.inr ⟨by rfl, rfl⟩) ?_
    refine tp 17 (undef) rfl (.inr ⟨by rfl, rfl⟩) ?_
    refine tp 18 (undef) rfl (.inr ⟨by rfl, rfl⟩) ?_
    refine tp 19 (undef) rfl (.inr ⟨by rfl, rfl⟩) ?_
    refine tp 20 (undef) rfl (.inr ⟨by rfl, rfl⟩) ?_
    refine tp 21 ?_ rfl (.inl ⟨by rfl, ?_⟩) ?_
    rotate_left
    · intro W hSw; go_simp; try with_reducible rfl
    refine tp 22 ?_ rfl (.inl ⟨by rfl, ?_⟩) ?_
    rotate_left
    · intro W hSw; go_simp; try with_reducible rfl
    refine wpAnyH_done (by kernel_rfl) ?_ _
    skip
    go_wp2_with fail
    go_ret
    exact ⟨rfl, HB4.out⟩
end Go.Proofs.YthmofoldmdafoaaGreat
namespace Go.Proofs.YthmofoldmdafoaaGreat
open Go.ChangeShapes Go.WideShapes Go.ChangeAt Go.RowKit Go.Maps
set_option linter.unusedVariables false
set_option linter.unusedSimpArgs false

/-- The job of known. -/
def jobV (a : Option Addr) (c : Nat) : Job := ⟨1, 1, 3, 1024, 1024, 1, a, 1, c, [1]⟩
set_option maxRecDepth 100000 in
set_option maxHeartbeats 4000000 in
/-- job (31). -/
theorem job_law (w : World) : Calls Tryz.prog 31 #[] w fun r w' => ∃ a c, r = .returned (.agg #[.int .i64 1, .int .i64 1, .int .i64 3, .int .i64 1024, .int .i64 1024, .int .i64 1, .slice a 1 c]) ∧ Below w.heap.size w w' ∧ JobAt w' (jobV a c) := by
  go_enter Tryz.func31, Tryz.ntmps31
  go_wp2_with fail
  have hb1 : BoxC ((w.alloc (.cells #[.int .i64 1, .int .i64 1, .int .i64 3, .int .i64 1024, .int .i64 1024, .int .i64 1, .slice (some ⟨w.heap.size + 1, 0, none⟩) 1 1] 24)).alloc (.cells #[.int .i64 1] 3)) w.heap.size #[.int .i64 1, .int .i64 1, .int .i64 3, .int .i64 1024, .int .i64 1024, .int .i64 1, .slice (some ⟨w.heap.size + 1, 0, none⟩) 1 1] 24 := (BoxC.new w #[.int .i64 1, .int .i64 1, .int .i64 3, .int .i64 1024, .int .i64 1024, .int .i64 1, .slice (some ⟨w.heap.size + 1, 0, none⟩) 1 1] 24).alloc _
  have hb2 : BoxC ((w.alloc (.cells #[.int .i64 1, .int .i64 1, .int .i64 3, .int .i64 1024, .int .i64 1024, .int .i64 1, .slice (some ⟨w.heap.size + 1, 0, none⟩) 1 1] 24)).alloc (.cells #[.int .i64 1] 3)) (w.heap.size + 1) #[.int .i64 1] 3 := by
    have := BoxC.new (w.alloc (.cells #[.int .i64 1, .int .i64 1, .int .i64 3, .int .i64 1024, .int .i64 1024, .int .i64 1, .slice (some ⟨w.heap.size + 1, 0, none⟩) 1 1] 24)) #[.int .i64 1] 3
    rwa [World.size_alloc] at this
  have hbl : Below w.heap.size w ((w.alloc (.cells #[.int .i64 1, .int .i64 1, .int .i64 3, .int .i64 1024, .int .i64 1024, .int .i64 1, .slice (some ⟨w.heap.size + 1, 0, none⟩) 1 1] 24)).alloc (.cells #[.int .i64 1] 3)) := step_below (bl1 _ _) (bl1 _ _)
  generalize (w.alloc (.cells #[.int .i64 1, .int .i64 1, .int .i64 3, .int .i64 1024, .int .i64 1024, .int .i64 1, .slice (some ⟨w.heap.size + 1, 0, none⟩) 1 1] 24)).alloc (.cells #[.int .i64 1] 3) = w2 at hb1 hb2 hbl ⊢
  have q0 := hb1.cell 0
  have q1 := hb1.cell 1
  have q2 := hb1.cell 2
  have q3 := hb1.cell 3
  have q4 := hb1.cell 4
  have q5 := hb1.cell 5
  have q6 := hb1.cell 6
  simp only [List.getElem?_toArray, List.getElem?_cons_zero, List.getElem?_cons_succ] at q0 q1 q2 q3 q4 q5 q6
  refine bodyPost_ret (v := .agg #[.int .i64 1, .int .i64 1, .int .i64 3, .int .i64 1024, .int .i64 1024, .int .i64 1, .slice (some ⟨w.heap.size + 1, 0, none⟩) 1 1]) (by simp [results, Tryz.results31, go_sem, q0, q1, q2, q3, q4, q5, q6]) rfl ?_
  refine ⟨_, _, rfl, hbl, ⟨⟨fun k hk => ?_, (fun e => by cases e), by simp [jobV]⟩, rfl, by simp [jobV]⟩⟩
  have hk0 : k = 0 := by simp [jobV] at hk; exact hk
  subst hk0
  exact ⟨w.heap.size + 1, 0, rfl, by rw [hb2.cell]; rfl⟩
end Go.Proofs.YthmofoldmdafoaaGreat
namespace Go.Proofs.YthmofoldmdafoaaGreat
open Go.ChangeShapes Go.WideShapes Go.ChangeAt Go.RowKit Go.Maps
set_option linter.unusedVariables false
set_option linter.unusedSimpArgs false

end Go.Proofs.YthmofoldmdafoaaGreat
namespace Go.Proofs.YthmofoldmdafoaaGreat
open Go.ChangeShapes Go.WideShapes Go.ChangeAt Go.RowKit Go.Maps
set_option linter.unusedVariables false
set_option linter.unusedSimpArgs false

end Go.Proofs.YthmofoldmdafoaaGreat
namespace Go.Proofs.YthmofoldmdafoaaGreat
open Go.ChangeShapes Go.WideShapes Go.ChangeAt Go.RowKit Go.Maps
set_option linter.unusedVariables false
set_option linter.unusedSimpArgs false

/-- Texts that lie in a slice. -/
def StrR (W : World) (a : Option Addr) (F : List (List Int)) : Prop := ∀ (k : Nat) (s : List Int), F[k]? = some s → ∃ b off, a = some ⟨b, off, none⟩ ∧ W.cell? ⟨b, off + k, none⟩ = some (.string (strOfNums s))
theorem StrR.below {W W' : World} {a : Option Addr} {F : List (List Int)} (h : StrR W a F) (hb : Below W.heap.size W W') : StrR W' a F := fun k s hs => by
  obtain ⟨b, off, e, c⟩ := h k s hs
  exact ⟨b, off, e, (hb.cell (World.block_lt_of_cell? W _ c)).trans c⟩
theorem ae_row : AE 50 42 (.slice none 0 0) 1 24 := ⟨Tryz.underlying50, by kernel_rfl, by decide, by decide, by decide⟩
theorem cells_one (R : List P1) : cellsOf (fun p : P1 => [p.v]) R = R.map P1.v := by
  unfold cellsOf
  induction R with
  | nil => rfl
  | cons p r ih => rw [List.map_cons, List.flatten_cons, ih]; rfl
/-- How op ends. -/
def OpR (w : World) (k0 : Int) (s : List Int) (F : List (List Int)) (r : Ending) (w' : World) : Prop :=
  ∃ (ka : Option Addr) (kc : Nat) (ra : Option Addr) (rc : Nat) (R : List P1), r = .returned (.agg #[.int .i64 k0, .int .i64 0, .int .i64 0, .slice ka s.length kc, .slice none 0 0, .int .i64 0, .slice ra R.length rc]) ∧ Below w.heap.size w w' ∧ R.map P1.bs = F ∧ ∀ S : Nat → Prop, (∀ q, S q → q < w.heap.size) → Stay S w' fun W => CallAt W ⟨k0, 0, 0, ka, s.length, kc, s, none, 0, 0, [], 0, ra, R.length, rc, R⟩
set_option maxRecDepth 100000 in
set_option maxHeartbeats 4000000 in
/-- op (32). -/
theorem op_law (k0 : Int) (s : List Int) (bS : Byt s) (hs : s.length ≤ 1000) (fa : Option Addr) (n c : Nat) (F : List (List Int)) (hF : F.length = n) (hn : n ≤ 1000) (bF : ∀ f ∈ F, Byt f ∧ f.length ≤ 1000) (w : World) (hS : StrR w fa F) :
    Calls Tryz.prog 32 #[.int .i64 k0, .string (strOfNums s), .slice fa n c] w (OpR w k0 s F) := by
  have HF := Lib.hid hF
  have HBF := Lib.hid bF
  have HS := Lib.hid hS
  have HBS := Lib.hid (And.intro bS hs)
  have hcs := fun W => conv_str W (strOfNums s)
  have hni : (n : Int) ≤ 1000 := by omega
  clear hF bF hS bS hs
  go_enter Tryz.func32, Tryz.ntmps32
  go_upto_region 2 with (fail)
  have hba : Below w.heap.size w (w.alloc (.cells #[.int .i64 0, .int .i64 0, .int .i64 0, .slice none 0 0, .slice none 0 0, .int .i64 0, .slice none 0 0] 74)) := bl1 _ _
  have hxa : BoxC (w.alloc (.cells #[.int .i64 0, .int .i64 0, .int .i64 0, .slice none 0 0, .slice none 0 0, .int .i64 0, .slice none 0 0] 74)) w.heap.size #[.int .i64 0, .int .i64 0, .int .i64 0, .slice none 0 0, .slice none 0 0, .int .i64 0, .slice none 0 0] 74 := BoxC.new _ _ _
  have hsa : (w.alloc (.cells #[.int .i64 0, .int .i64 0, .int .i64 0, .slice none 0 0, .slice none 0 0, .int .i64 0, .slice none 0 0] 74)).heap.size = w.heap.size + 1 := by simp
  generalize w.alloc (.cells #[.int .i64 0, .int .i64 0, .int .i64 0, .slice none 0 0, .slice none 0 0, .int .i64 0, .slice none 0 0] 74) = wa at hba hxa hsa ⊢
  obtain ⟨kc, hkc⟩ : ∃ kc, grownCap wa (strOfNums s).size 0 5 = kc := ⟨_, rfl⟩
  rw [hkc]
  have hkey := bw_stay (S := fun q => q ≤ w.heap.size) wa HBS.out.1 (by have := HBS.out.2; unfold maxLen; omega) (fun q hq => by have : q ≤ w.heap.size := hq; omega)
  rw [hkc, hsa] at hkey
  have hbb : Below wa.heap.size wa (Lib.bytesWorld wa 5 (strOfNums s)) := bw_below _ _
  have hsb : (Lib.bytesWorld wa 5 (strOfNums s)).heap.size = w.heap.size + 2 := by rw [Lib.bytesWorld_size, hsa]
  generalize Lib.bytesWorld wa 5 (strOfNums s) = wb at hkey hbb hsb ⊢
  have HXB := Lib.hid (hxa.below hbb)
  have HBB := Lib.hid (hba.trans (hbb.mono hba.size))
  have HKEY := Lib.hid hkey
  have hbc : Below wb.heap.size wb (wb.alloc (.cells #[.int .i64 k0, .int .i64 0, .int .i64 0, .slice (some ⟨w.heap.size + 1, 0, none⟩) (strOfNums s).size kc, .slice none 0 0, .int .i64 0, .slice none 0 0] 74)) := bl1 _ _
  have hxc : BoxC (wb.alloc (.cells #[.int .i64 k0, .int .i64 0, .int .i64 0, .slice (some ⟨w.heap.size + 1, 0, none⟩) (strOfNums s).size kc, .slice none 0 0, .int .i64 0, .slice none 0 0] 74)) wb.heap.size #[.int .i64 k0, .int .i64 0, .int .i64 0, .slice (some ⟨w.heap.size + 1, 0, none⟩) (strOfNums s).size kc, .slice none 0 0, .int .i64 0, .slice none 0 0] 74 := BoxC.new _ _ _
  generalize wb.alloc (.cells #[.int .i64 k0, .int .i64 0, .int .i64 0, .slice (some ⟨w.heap.size + 1, 0, none⟩) (strOfNums s).size kc, .slice none 0 0, .int .i64 0, .slice none 0 0] 74) = wc at hbc hxc ⊢
  obtain ⟨base, hbase⟩ : ∃ b, wb.heap.size = b := ⟨_, rfl⟩
  rw [hbase] at hbc hxc ⊢
  have HBC := Lib.hid hbc
  have HXC := Lib.hid hxc
  have HBE := Lib.hid (And.intro hbase hsb)
  clear hba hxa hsa hkc hkey hbb hsb hbc hxc hbase
  go_wp2_with fail
  go_loopw [8] (fun i wr => ∃ (k : Nat) (v : Value) (R' : List P1), k ≤ n ∧ i = .int .i64 (k : Int) ∧ Hid (BoxC wr base #[.int .i64 k0, .int .i64 0, .int .i64 0, .slice (some ⟨w.heap.size + 1, 0, none⟩) (strOfNums s).size kc, .slice none 0 0, .int .i64 0, v] 74) ∧ Hid (R'.map P1.bs = F.take k) ∧ Hid (wr.ownsRow base 42 1 v k (R'.map P1.v)) ∧ Hid (∀ p ∈ R', Stay (fun q => q ≤ w.heap.size ∨ q = base ∨ v.ownBlock = some q) wr (fun W => Ls .u8 W p.ad p.cap p.bs)) ∧ Hid (Below base wb wr)) (fun i _ => n - (intOf i).toNat)
  case atStart => exact ⟨0, .slice none 0 0, [], by omega, rfl, HXC, Lib.hid rfl, Lib.hid (World.ownsRow_nil _ _ _ _), Lib.hid (fun p hp => by cases hp), HBC⟩
  case round =>
    obtain ⟨k, v, R', hk, rfl, HXP, HRB, HOW, HST, HB⟩ := hrel
    by_cases hlt : k < n
    · have d1 : (k : Int) < (n : Int) := by omega
      obtain ⟨f, hf⟩ : ∃ f, F[k]? = some f := ⟨_, List.getElem?_eq_getElem (by rw [HF.out]; exact hlt)⟩
      have hbf := HBF.out f (List.mem_of_getElem? hf)
      have hbw : Below w.heap.size w wr := HBB.out.trans (HB.out.mono (by have := HBE.out; have := HBB.out.size; omega))
      obtain ⟨b1, o1, ea, p0⟩ := (HS.out.below hbw) k f hf
      subst ea
      have hnv : ∀ q, v.ownBlock = some q → base ≤ q := fun q hq => (own_blk HOW.out hq).1
      have hnb : ¬ v.ownBlock = some base := fun e => by
        obtain ⟨_, _, cur, hb2⟩ := own_blk HOW.out e
        exact box_ne hb2 HXP.out (by decide) rfl
      have HBP := Lib.hid (fun X (o : Off (fun q => v.ownBlock = some q) wr X) => o.box HXP.out hnb)
      have HPX := Lib.hid (fun X (o : Off (fun q => v.ownBlock = some q) wr X) => (by rw [(HBP.out X o).cell]; rfl : X.cell? ⟨base, 6, none⟩ = some v))
      obtain ⟨b2, o2, eb, p1⟩ := HS.out k f hf
      cases eb
      have hlb := World.block_lt_of_cell? w _ p1
      have HSX := Lib.hid (fun X (o : Off (fun q => v.ownBlock = some q) wr X) => (o.cell p0 (fun e => by have := hnv _ e; have := HBE.out; have : b1 < w.heap.size := hlb; omega) : X.cell? ⟨b1, o1 + k, none⟩ = some (.string (strOfNums f))))
      have hce := fun W => conv_str W (strOfNums f)
      have HBS2 := Lib.hid (show base ≤ wr.heap.size by have := HB.out.size; have := HBE.out; omega)
      have HFF := Lib.hid (And.intro hf hbf)
      have HWN := Lib.hid hbw
      clear hf hbf hbw p0 p1 hnv hnb hlb hcs
      go_upto_region 5 with (fail)
      refine wp_region_last (z := 10) (S := (fun X => Off (fun q => v.ownBlock = some q) wr X)) (by kernel_rfl) ((Off.refl _ _).drew) (fun hHeld => ?_)
      refine wpAnyL_take (i := 0) (oi := { dst := some 19, op := Op.fieldAddr 74 (Operand.tmp 7) 6, type := 0, pos := "law.go:27", after := #[], guard := none }) (v := ?_) (by kernel_rfl) rfl (by kernel_rfl) rfl (by kernel_rfl) (by kernel_rfl) (by kernel_rfl) (fun _ _ _ h => h) (Or.inl ⟨by rfl, ?_⟩) (by assumption) ?_
      rotate_left
      · intro W hSw; go_simp; try with_reducible rfl
      try simp only [Act.put, List.setIfInBounds_toArray, List.set_cons_zero, List.set_cons_succ]
      refine wpAnyL_take (i := 1) (oi := { dst := some 20, op := Op.load 50 (Operand.tmp 19), type := 50, pos := "law.go:27", after := #[{ on := 0, ground := Ground.data }], guard := none }) (v := ?_) (by kernel_rfl) rfl (by kernel_rfl) rfl (by kernel_rfl) (by kernel_rfl) (by kernel_rfl) (fun _ _ _ h => h) (Or.inl ⟨by rfl, ?_⟩) (by assumption) ?_
      rotate_left
      · intro W hSw; have m := HPX.out W hSw; go_simp; try with_reducible rfl
      try simp only [Act.put, List.setIfInBounds_toArray, List.set_cons_zero, List.set_cons_succ]
      refine wpAnyL_take (i := 2) (oi := { dst := some 21, op := Op.move (Operand.tmp 2), type := 134, pos := "law.go:27", after := #[], guard := none }) (v := ?_) (by kernel_rfl) rfl (by kernel_rfl) rfl (by kernel_rfl) (by kernel_rfl) (by kernel_rfl) (fun _ _ _ h => h) (Or.inl ⟨by rfl, ?_⟩) (by assumption) ?_
      rotate_left
      · intro W hSw; go_simp; try with_reducible rfl
      try simp only [Act.put, List.setIfInBounds_toArray, List.set_cons_zero, List.set_cons_succ]
      refine wpAnyL_take (i := 3) (oi := { dst := some 22, op := Op.move (Operand.tmp 8), type := 3, pos := "law.go:27", after := #[], guard := none }) (v := ?_) (by kernel_rfl) rfl (by kernel_rfl) rfl (by kernel_rfl) (by kernel_rfl) (by kernel_rfl) (fun _ _ _ h => h) (Or.inl ⟨by rfl, ?_⟩) (by assumption) ?_
      rotate_left
      · intro W hSw; go_simp; try with_reducible rfl
      try simp only [Act.put, List.setIfInBounds_toArray, List.set_cons_zero, List.set_cons_succ]
      refine wpAnyL_take (i := 4) (oi := { dst := some 23, op := Op.indexAddr 134 (Operand.tmp 21) (Operand.tmp 22), type := 0, pos := "law.go:27", after := #[{ on := 2, ground := Ground.data }, { on := 3, ground := Ground.data }], guard := none }) (v := ?_) (by kernel_rfl) rfl (by kernel_rfl) rfl (by kernel_rfl) (by kernel_rfl) (by kernel_rfl) (fun _ _ _ h => h) (Or.inl ⟨by rfl, ?_⟩) (by assumption) ?_
      rotate_left
      · intro W hSw; go_simp; try with_reducible rfl
      try simp only [Act.put, List.setIfInBounds_toArray, List.set_cons_zero, List.set_cons_succ]
      refine wpAnyL_take (i := 5) (oi := { dst := some 24, op := Op.load 9 (Operand.tmp 23), type := 9, pos := "law.go:27", after := #[{ on := 4, ground := Ground.data }], guard := none }) (v := ?_) (by kernel_rfl) rfl (by kernel_rfl) rfl (by kernel_rfl) (by kernel_rfl) (by kernel_rfl) (fun _ _ _ h => h) (Or.inl ⟨by rfl, ?_⟩) (by assumption) ?_
      rotate_left
      · intro W hSw; have m := HSX.out W hSw; go_simp; try with_reducible rfl
      try simp only [Act.put, List.setIfInBounds_toArray, List.set_cons_zero, List.set_cons_succ]
      refine wpAnyL_ready (rs := [6]) (by kernel_rfl) (by simp) ?_
      refine AllL.cons (o := { dst := some 25, op := Op.convert 9 42 (Operand.tmp 24), type := 42, pos := "law.go:27", after := #[{ on := 5, ground := Ground.data }], guard := none }) rfl (fun K hK => ?_) AllL.nil
      go_simp
      have HB5 := Lib.hid (((Below.refl wr.heap.size wr).drew).trans (bw_below wr.drew (strOfNums f)))
      have HF5 := Lib.hid (hHeld.then (bw_below wr.drew (strOfNums f)))
      refine hK.out _ _ HF5.out (fun hHeldn => ?_)
      clear hK K hHeld; have hHeld := hHeldn; clear hHeldn
      try simp only [Act.put, List.setIfInBounds_toArray, List.set_cons_zero, List.set_cons_succ]
      refine wpAnyL_ready (rs := [7]) (by kernel_rfl) (by simp) ?_
      refine AllL.cons (o := { dst := some 26, op := Op.buildSlice 50 1 #[(0, Operand.tmp 25)], type := 50, pos := "law.go:27", after := #[{ on := 6, ground := Ground.data }], guard := none }) rfl (fun K hK => ?_) AllL.nil
      go_simp
      have HB6 := Lib.hid (step_below HB5.out (bl1 (Lib.bytesWorld wr.drew 5 (strOfNums f)) (.cells #[.slice (some ⟨wr.heap.size, 0, none⟩) (strOfNums f).size (grownCap wr.drew (strOfNums f).size 0 5)] 42)))
      have HF6 := Lib.hid (hHeld.then (bl1 (Lib.bytesWorld wr.drew 5 (strOfNums f)) (.cells #[.slice (some ⟨wr.heap.size, 0, none⟩) (strOfNums f).size (grownCap wr.drew (strOfNums f).size 0 5)] 42)))
      refine hK.out _ _ HF6.out (fun hHeldn => ?_)
      clear hK K hHeld; have hHeld := hHeldn; clear hHeldn
      try simp only [Act.put, List.setIfInBounds_toArray, List.set_cons_zero, List.set_cons_succ]
      refine wpAnyL_ready (rs := [8]) (by kernel_rfl) (by simp) ?_
      refine AllL.cons (o := { dst := some 27, op := Op.call { callee := Callee.builtin Builtin.append, args := #[Operand.tmp 20, Operand.tmp 26], argTypes := #[50, 50] }, type := 50, pos := "law.go:27", after := #[{ on := 1, ground := Ground.data }, { on := 7, ground := Ground.data }], guard := none }) rfl (fun K hK => ?_) AllL.nil
      have hown := own_kept HOW.out HB6.out
      refine step_append_cells ae_row rfl _ _ rfl base v k (R'.map P1.v) rfl hown ⟨(Lib.bytesWorld wr.drew 5 (strOfNums f)).heap.size, 0, none⟩ 1 1 [.slice (some ⟨wr.heap.size, 0, none⟩) (strOfNums f).size (grownCap wr.drew (strOfNums f).size 0 5)] (by simp [go_sem]) rfl (cells_new (Lib.bytesWorld wr.drew 5 (strOfNums f)) _ _ _ rfl) (fun u hu => by simp at hu; subst hu; rfl) (by omega) (Nat.le_trans HBS2.out HB6.out.size) ?_
      intro v9 w9 hown9 hgrow9 hat9
      obtain ⟨a9, c9, hv9⟩ := own_form22 hown9
      subst hv9
      have HO9 := Lib.hid hown9
      have HG9 := Lib.hid hgrow9
      have HAT := Lib.hid hat9
      have HF9 := Lib.hid (hHeld.trans (Off.of_row hgrow9))
      refine hK.out _ _ HF9.out (fun hHeldn => ?_)
      clear hown hown9 hgrow9 hat9
      clear hK K hHeld; have hHeld := hHeldn; clear hHeldn
      try simp only [Act.put, List.setIfInBounds_toArray, List.set_cons_zero, List.set_cons_succ]
      refine wpAnyL_take (i := 9) (oi := { dst := some 28, op := Op.fieldAddr 74 (Operand.tmp 7) 6, type := 0, pos := "law.go:27", after := #[{ on := 0, ground := Ground.phase }, { on := 1, ground := Ground.phase }, { on := 2, ground := Ground.phase }, { on := 3, ground := Ground.phase }, { on := 4, ground := Ground.phase }, { on := 5, ground := Ground.phase }, { on := 6, ground := Ground.phase }, { on := 7, ground := Ground.phase }, { on := 8, ground := Ground.phase }], guard := none }) (v := ?_) (by kernel_rfl) rfl (by kernel_rfl) rfl (by kernel_rfl) (by kernel_rfl) (by kernel_rfl) (fun _ _ _ h => h) (Or.inl ⟨by rfl, ?_⟩) (by assumption) ?_
      rotate_left
      · intro W hSw; go_simp; try with_reducible rfl
      try simp only [Act.put, List.setIfInBounds_toArray, List.set_cons_zero, List.set_cons_succ]
      refine wpAnyL_ready (rs := [10]) (by kernel_rfl) (by simp) ?_
      refine AllL.last (o := { dst := none, op := Op.store 50 (Operand.tmp 28) (Operand.tmp 27), type := 0, pos := "law.go:27", after := #[{ on := 9, ground := Ground.data }, { on := 8, ground := Ground.data }, { on := 8, ground := Ground.chain }, { on := 0, ground := Ground.phase }, { on := 1, ground := Ground.phase }, { on := 2, ground := Ground.phase }, { on := 3, ground := Ground.phase }, { on := 4, ground := Ground.phase }, { on := 5, ground := Ground.phase }, { on := 6, ground := Ground.phase }, { on := 7, ground := Ground.phase }, { on := 8, ground := Ground.phase }], guard := none }) rfl (fun K hK => ?_)
      have x4 := HPX.out w9 HF9.out
      have f4 := (HBP.out w9 HF9.out).frozen 6
      go_simp
      refine hK.out _ _ ?_
      clear hK K x4 f4
      try simp only [Act.put, List.setIfInBounds_toArray, List.set_cons_zero, List.set_cons_succ]
      refine wpAnyL_done (by kernel_rfl) ?_ _
      skip
      have hfl : (strOfNums f).size = f.length := str_size f
      have hP9 := HBP.out w9 HF9.out
      have hne9 : ∀ g, Value.ownBlock (.slice a9 (k + 1) c9) = some g → g ≠ base := fun g hg => by
        obtain ⟨_, _, cur, hb⟩ := own_blk HO9.out hg
        exact box_ne hb hP9 (by decide)
      have oP : Off (fun q => q = base) w9 (w9.setCell ⟨base, 6, none⟩ (.slice a9 (k + 1) c9)) := Off.set (S := fun q => q = base) (Off.refl _ w9) ⟨base, 6, none⟩ rfl _
      have q2 : BoxC (w9.setCell ⟨base, 6, none⟩ (.slice a9 (k + 1) c9)) base #[.int .i64 k0, .int .i64 0, .int .i64 0, .slice (some ⟨w.heap.size + 1, 0, none⟩) (strOfNums s).size kc, .slice none 0 0, .int .i64 0, .slice a9 (k + 1) c9] 74 := heap_setCell_same w9 base 6 _ 74 _ hP9
      have q4 := own_offb HO9.out oP (fun g hg e => hne9 g hg e)
      have oA : Off (fun q => q ≤ w.heap.size ∨ q = base ∨ v.ownBlock = some q) wr (w9.setCell ⟨base, 6, none⟩ (.slice a9 (k + 1) c9)) := (HF9.out.mono fun q hq => .inr (.inr hq)).trans (oP.mono fun q hq => .inr (.inl hq))
      have oB : Off (fun q => q ≤ w.heap.size ∨ q = base ∨ v.ownBlock = some q) (Lib.bytesWorld wr.drew 5 (strOfNums f)) (w9.setCell ⟨base, 6, none⟩ (.slice a9 (k + 1) c9)) := (((Off.of (bl1 _ _)).trans (Off.of_row HG9.out)).mono (S := fun q => v.ownBlock = some q) fun q hq => .inr (.inr hq)).trans (oP.mono fun q hq => .inr (.inl hq))
      have hszb : (Lib.bytesWorld wr.drew 5 (strOfNums f)).heap.size = wr.heap.size + 1 := Lib.bytesWorld_size _ _ _
      have hnew : ∀ q, Value.ownBlock (.slice a9 (k + 1) c9) = some q → v.ownBlock = some q ∨ wr.heap.size + 1 ≤ q := fun q hq => by
        rcases HAT.out with e | e
        · exact .inl (e ▸ hq)
        · rw [hq, World.size_alloc, hszb] at e
          injection e with e
          exact .inr (by omega)
      have hxlt := HXP.out.lt
      have hwlt := HWN.out.size
      have hbw6 : w.heap.size < wr.heap.size := by have := HBE.out; have := HBS2.out; omega
      have q8 : ∀ p ∈ R' ++ [⟨some ⟨wr.heap.size, 0, none⟩, grownCap wr.drew (strOfNums f).size 0 5, f⟩], Stay (fun q => q ≤ w.heap.size ∨ q = base ∨ Value.ownBlock (.slice a9 (k + 1) c9) = some q) (w9.setCell ⟨base, 6, none⟩ (.slice a9 (k + 1) c9)) (fun W => Ls .u8 W p.ad p.cap p.bs) := fun p hp => by
        rcases List.mem_append.1 hp with hp | hp
        · refine (HST.out p hp).step oA fun q hq => ?_
          rcases hq with hq | hq | hq
          · exact .inl (.inl hq)
          · exact .inl (.inr (.inl hq))
          · rcases hnew q hq with e | e
            · exact .inl (.inr (.inr e))
            · exact .inr (by omega)
        · rw [List.mem_singleton] at hp
          subst hp
          refine (bw_stay (S := fun q => q ≤ w.heap.size ∨ q = base ∨ v.ownBlock = some q) wr.drew HFF.out.2.1 (by have := HFF.out.2.2; unfold maxLen; omega) (fun q hq => ?_)).step oB fun q hq => ?_
          · show q < wr.heap.size
            rcases hq with hq | hq | hq
            · omega
            · omega
            · exact (own_blk HOW.out hq).2.1
          · rcases hq with hq | hq | hq
            · exact .inl (.inl hq)
            · exact .inl (.inr (.inl hq))
            · rcases hnew q hq with e | e
              · exact .inl (.inr (.inr e))
              · exact .inr (by omega)
      have q7 : Below base wb (w9.setCell ⟨base, 6, none⟩ (.slice a9 (k + 1) c9)) := (Off.below HB.out HF9.out (by have := HBE.out; omega) (fun g hg => (own_blk HOW.out hg).1)).setCell (Nat.le_refl _) _
      have HFL := Lib.hid hfl
      have Q2 := Lib.hid q2
      have Q4 := Lib.hid q4
      have Q7 := Lib.hid q7
      have Q8 := Lib.hid q8
      clear hfl hP9 hne9 oP q2 q4 oA oB hszb hnew hxlt hwlt hbw6 q8 q7 hce
      go_wp2_with fail
      go_roundw
      case rel =>
        refine ⟨k + 1, .slice a9 (k + 1) c9, _, by omega, by go_num, Q2, Lib.hid ?_, Lib.hid ?_, Q8, Q7⟩
        · rw [List.map_append, HRB.out, List.take_add_one, HFF.out.1]; rfl
        · rw [List.map_append]
          have := Q4.out
          rw [HFL.out] at this
          have e : List.map P1.v [(⟨some ⟨wr.heap.size, 0, none⟩, grownCap wr.drew (strOfNums f).size 0 5, f⟩ : P1)] = [.slice (some ⟨wr.heap.size, 0, none⟩) f.length (grownCap wr.drew f.length 0 5)] := by rw [HFL.out]; rfl
          rw [e]
          exact this
      case measure => simp [intOf]; omega
    · have d1 : ¬ (k : Int) < (n : Int) := by omega
      have hke : k = n := by omega
      have HKE := Lib.hid hke
      obtain ⟨va, vc, hv⟩ := own_form22 HOW.out
      subst hv
      rw [hke] at HXP HOW HST
      have hx6 := HXB.out.below (HBE.out.1 ▸ HB.out)
      have x0 := hx6.cell 0
      have x1 := hx6.cell 1
      have x2 := hx6.cell 2
      have x3 := hx6.cell 3
      have x4 := hx6.cell 4
      have x5 := hx6.cell 5
      have x6 := hx6.cell 6
      have f0 := hx6.frozen 0
      have f1 := hx6.frozen 1
      have f2 := hx6.frozen 2
      have f3 := hx6.frozen 3
      have f4 := hx6.frozen 4
      have f5 := hx6.frozen 5
      have f6 := hx6.frozen 6
      have y0 := HXP.out.cell 0
      have y1 := HXP.out.cell 1
      have y2 := HXP.out.cell 2
      have y3 := HXP.out.cell 3
      have y4 := HXP.out.cell 4
      have y5 := HXP.out.cell 5
      have y6 := HXP.out.cell 6
      simp only [List.getElem?_toArray, List.getElem?_cons_zero, List.getElem?_cons_succ] at x0 x1 x2 x3 x4 x5 x6 y0 y1 y2 y3 y4 y5 y6
      clear hke hcs
      go_wp2_with fail
      clear x0 x1 x2 x3 x4 x5 x6 y0 y1 y2 y3 y4 y5 y6 f0 f1 f2 f3 f4 f5 f6
      have o7 : Off (fun q => q = w.heap.size) wr (((((((wr.setCell ⟨w.heap.size, 0, none⟩ (.int .i64 k0)).setCell ⟨w.heap.size, 1, none⟩ (.int .i64 0)).setCell ⟨w.heap.size, 2, none⟩ (.int .i64 0)).setCell ⟨w.heap.size, 3, none⟩ (.slice (some ⟨w.heap.size + 1, 0, none⟩) (strOfNums s).size kc)).setCell ⟨w.heap.size, 4, none⟩ (.slice none 0 0)).setCell ⟨w.heap.size, 5, none⟩ (.int .i64 0)).setCell ⟨w.heap.size, 6, none⟩ (.slice va n vc)) := (Off.set (S := fun q => q = w.heap.size) (Off.set (S := fun q => q = w.heap.size) (Off.set (S := fun q => q = w.heap.size) (Off.set (S := fun q => q = w.heap.size) (Off.set (S := fun q => q = w.heap.size) (Off.set (S := fun q => q = w.heap.size) (Off.set (S := fun q => q = w.heap.size) (Off.refl _ wr) ⟨w.heap.size, 0, none⟩ rfl _) ⟨w.heap.size, 1, none⟩ rfl _) ⟨w.heap.size, 2, none⟩ rfl _) ⟨w.heap.size, 3, none⟩ rfl _) ⟨w.heap.size, 4, none⟩ rfl _) ⟨w.heap.size, 5, none⟩ rfl _) ⟨w.heap.size, 6, none⟩ rfl _)
      have hx7 : BoxC (((((((wr.setCell ⟨w.heap.size, 0, none⟩ (.int .i64 k0)).setCell ⟨w.heap.size, 1, none⟩ (.int .i64 0)).setCell ⟨w.heap.size, 2, none⟩ (.int .i64 0)).setCell ⟨w.heap.size, 3, none⟩ (.slice (some ⟨w.heap.size + 1, 0, none⟩) (strOfNums s).size kc)).setCell ⟨w.heap.size, 4, none⟩ (.slice none 0 0)).setCell ⟨w.heap.size, 5, none⟩ (.int .i64 0)).setCell ⟨w.heap.size, 6, none⟩ (.slice va n vc)) w.heap.size #[.int .i64 k0, .int .i64 0, .int .i64 0, .slice (some ⟨w.heap.size + 1, 0, none⟩) (strOfNums s).size kc, .slice none 0 0, .int .i64 0, .slice va n vc] 74 := (heap_setCell_same ((((((wr.setCell ⟨w.heap.size, 0, none⟩ (.int .i64 k0)).setCell ⟨w.heap.size, 1, none⟩ (.int .i64 0)).setCell ⟨w.heap.size, 2, none⟩ (.int .i64 0)).setCell ⟨w.heap.size, 3, none⟩ (.slice (some ⟨w.heap.size + 1, 0, none⟩) (strOfNums s).size kc)).setCell ⟨w.heap.size, 4, none⟩ (.slice none 0 0)).setCell ⟨w.heap.size, 5, none⟩ (.int .i64 0)) w.heap.size 6 _ 74 _ (heap_setCell_same (((((wr.setCell ⟨w.heap.size, 0, none⟩ (.int .i64 k0)).setCell ⟨w.heap.size, 1, none⟩ (.int .i64 0)).setCell ⟨w.heap.size, 2, none⟩ (.int .i64 0)).setCell ⟨w.heap.size, 3, none⟩ (.slice (some ⟨w.heap.size + 1, 0, none⟩) (strOfNums s).size kc)).setCell ⟨w.heap.size, 4, none⟩ (.slice none 0 0)) w.heap.size 5 _ 74 _ (heap_setCell_same ((((wr.setCell ⟨w.heap.size, 0, none⟩ (.int .i64 k0)).setCell ⟨w.heap.size, 1, none⟩ (.int .i64 0)).setCell ⟨w.heap.size, 2, none⟩ (.int .i64 0)).setCell ⟨w.heap.size, 3, none⟩ (.slice (some ⟨w.heap.size + 1, 0, none⟩) (strOfNums s).size kc)) w.heap.size 4 _ 74 _ (heap_setCell_same (((wr.setCell ⟨w.heap.size, 0, none⟩ (.int .i64 k0)).setCell ⟨w.heap.size, 1, none⟩ (.int .i64 0)).setCell ⟨w.heap.size, 2, none⟩ (.int .i64 0)) w.heap.size 3 _ 74 _ (heap_setCell_same ((wr.setCell ⟨w.heap.size, 0, none⟩ (.int .i64 k0)).setCell ⟨w.heap.size, 1, none⟩ (.int .i64 0)) w.heap.size 2 _ 74 _ (heap_setCell_same (wr.setCell ⟨w.heap.size, 0, none⟩ (.int .i64 k0)) w.heap.size 1 _ 74 _ (heap_setCell_same wr w.heap.size 0 _ 74 _ hx6)))))))
      generalize (((((((wr.setCell ⟨w.heap.size, 0, none⟩ (.int .i64 k0)).setCell ⟨w.heap.size, 1, none⟩ (.int .i64 0)).setCell ⟨w.heap.size, 2, none⟩ (.int .i64 0)).setCell ⟨w.heap.size, 3, none⟩ (.slice (some ⟨w.heap.size + 1, 0, none⟩) (strOfNums s).size kc)).setCell ⟨w.heap.size, 4, none⟩ (.slice none 0 0)).setCell ⟨w.heap.size, 5, none⟩ (.int .i64 0)).setCell ⟨w.heap.size, 6, none⟩ (.slice va n vc)) = w7 at o7 hx7 ⊢
      have q0 := hx7.cell 0
      have q1 := hx7.cell 1
      have q2 := hx7.cell 2
      have q3 := hx7.cell 3
      have q4 := hx7.cell 4
      have q5 := hx7.cell 5
      have q6 := hx7.cell 6
      simp only [List.getElem?_toArray, List.getElem?_cons_zero, List.getElem?_cons_succ] at q0 q1 q2 q3 q4 q5 q6
      refine bodyPost_ret (v := .agg #[.int .i64 k0, .int .i64 0, .int .i64 0, .slice (some ⟨w.heap.size + 1, 0, none⟩) (strOfNums s).size kc, .slice none 0 0, .int .i64 0, .slice va n vc]) (by simp [results, Tryz.results32, go_sem, q0, q1, q2, q3, q4, q5, q6]) rfl ?_
      have hrl : R'.length = n := by have := congrArg List.length HRB.out; rw [List.length_map, List.length_take, HF.out] at this; have := HKE.out; omega
      have hsl : (strOfNums s).size = s.length := str_size s
      have hrb : R'.map P1.bs = F := by rw [HRB.out, List.take_of_length_le (by rw [HF.out, HKE.out]; exact Nat.le_refl _)]
      have hbs := HBE.out
      have hbl : Below w.heap.size w w7 := Off.below (HBB.out.trans (HB.out.mono (by omega))) o7 (Nat.le_trans HBB.out.size (by have := HB.out.size; exact this)) (fun q hq => by cases hq; exact Nat.le_refl _)
      have hown := own_offb HOW.out o7 (fun q hq e => by have := (own_blk HOW.out hq).1; omega)
      refine ⟨some ⟨w.heap.size + 1, 0, none⟩, kc, va, vc, R', by rw [hrl, hsl], hbl, hrb, fun S' hS' W' o => ⟨?_, rfl, HBS.out.1, Ls.nul _ _, rfl, (fun x hx => by cases hx), ?_, rfl, fun p hp => ?_⟩⟩
      · exact HKEY.out W' (((Off.of (hbs.1 ▸ HB.out)).trans (o7.mono fun q hq => by have : q = w.heap.size := hq; show q ≤ _; omega)).trans (o.mono fun q hq => Nat.le_of_lt (hS' q hq)))
      · intro i p hp
        have hown2 := own_offb hown o (fun q hq e => by have h1 := hS' q e; have h2 := (own_blk hown hq).1; omega)
        have hoc : W'.ownsRow base 42 1 (.slice va n vc) n (cellsOf (fun p : P1 => [p.v]) R') := by rw [cells_one]; exact hown2
        obtain ⟨g, e, _, hc⟩ := own_cell22 (f := fun p : P1 => [p.v]) (sz := 1) (fun _ => rfl) (by omega) hoc hrl i p hp
        cases e
        refine ⟨g, 0, rfl, ?_, (HST.out p (List.mem_of_getElem? hp)) W' ((o7.mono fun q hq => .inl (by have : q = w.heap.size := hq; omega)).trans (o.mono fun q hq => .inl (Nat.le_of_lt (hS' q hq))))⟩
        have := hc 0 (by omega)
        rw [Nat.mul_one, Nat.add_zero] at this
        rw [Nat.zero_add]
        exact this
      · exact (HBF.out p.bs (by rw [← hrb]; exact List.mem_map.2 ⟨p, hp, rfl⟩)).1
end Go.Proofs.YthmofoldmdafoaaGreat
namespace Go.Proofs.YthmofoldmdafoaaGreat
open Go.ChangeShapes Go.WideShapes Go.ChangeAt Go.RowKit Go.Maps
set_option linter.unusedVariables false
set_option linter.unusedSimpArgs false

end Go.Proofs.YthmofoldmdafoaaGreat
namespace Go.Proofs.YthmofoldmdafoaaGreat
open Go.ChangeShapes Go.WideShapes Go.ChangeAt Go.RowKit
set_option linter.unusedVariables false
set_option linter.unusedSimpArgs false
section
variable {F : Fence} {n : Nat} {P : Program}
/-- An iterator hands over N elements, one behind the other; where the k-th is handed over, Px k x holds of the world; between two rounds Kp is wanted. -/
def SeqX {α : Type} (F : Fence) (n : Nat) (P : Program) (g : Nat) (lb : Array Value) (encs : α → Array Value) (Kp : World → World → Prop) (Px : Nat → α → World → Prop) (N : Nat) (w : World) : Prop :=
  ∀ (l : Nat) (J Jx : Nat → World → Prop) (W : World), Below w.heap.size w W → w.heap.size + 2 ≤ W.heap.size → (∀ k A B, J k A → Below A.heap.size A B → J k B) → (∀ k A B, Jx k A → Below A.heap.size A B → Jx k B) →
    (∀ k x W1, k < N → J k W1 → Px k x W1 → YieldAt F (n - 1) P l (encs x) W1 fun e W' => (e = .returned (.bool true) ∧ J (k + 1) W' ∧ Kp W1 W') ∨ (e = .returned (.bool false) ∧ Jx k W')) →
    J 0 W → CallsIn F n P g (#[.func (.yield l) #[] #[]] ++ lb) W fun e W' => (∃ v, e = .returned v) ∧ (J N W' ∨ ∃ k, k < N ∧ Jx k W')
/-- What is left alone by the record of the loop that begins at base. -/
def Own2 {ι : Type} (base : Nat) (I : ι → World → Prop) : Prop := ∀ k A B, I k A → Off (fun j => j = base ∨ j = base + 1) A B → I k B
theorem Own2.below {ι : Type} {base : Nat} {I : ι → World → Prop} (h : Own2 base I) {k : ι} {A B : World} (hi : I k A) (b : Below A.heap.size A B) : I k B := h k A B hi (Off.of b)
theorem Own2.put {ι : Type} {base : Nat} {I : ι → World → Prop} (h : Own2 base I) {k : ι} {A : World} (hi : I k A) (o : Obj) : I k (A.putObj (base + 1) o) :=
  h k A _ hi ⟨rfl, rfl, rfl, by simp, fun j _ hj => World.putObj_heap_other fun e => hj (.inr e)⟩
/-- How a round is left: it goes on, or the caller returns. -/
def postX (B : Nat) (Kp : World → World → Prop) (I Ix : Nat → World → Prop) (k : Nat) (W : World) : Exit → Act → World → Prop
  | .normal, _, W' => KeepsFrom B W W' ∧ Kp W W' ∧ I (k + 1) W'
  | .ret, _, W' => KeepsFrom B W W' ∧ Ix k W'
  | _, _, _ => False
/-- The loop's record, at l, while it is so; the block of what was laid by, at d. -/
def RecAt (l d : Nat) (r : Loop) (W : World) : Prop := W.heap[l]? = some (.loop r) ∧ W.heap[d]? = some (.deferred (some []))
theorem RecAt.keeps {l d : Nat} {r : Loop} {B : Nat} {W W' : World} (h : RecAt l d r W) (k : KeepsFrom B W W') (hl : B ≤ l) (hd : B ≤ d) : RecAt l d r W' := ⟨k.same _ _ hl h.1 rfl, k.same _ _ hd h.2 rfl⟩
theorem RecAt.put {l d : Nat} {r : Loop} {W : World} (h : RecAt l d r W) (hne : d ≠ l) (r' : Loop) : RecAt l d r' (W.putObj l (.loop r')) := ⟨World.putObj_heap_same (Array.getElem?_eq_some_iff.1 h.1).1, (World.putObj_heap_other hne).trans h.2⟩
theorem RecAt.below {l d : Nat} {r : Loop} {A B : World} (h : RecAt l d r A) (b : Below A.heap.size A B) : RecAt l d r B :=
  ⟨(b.block l (Array.getElem?_eq_some_iff.1 h.1).1).trans h.1, (b.block d (Array.getElem?_eq_some_iff.1 h.2).1).trans h.2⟩
/-- The statement 'range over a function'. -/
theorem wp_range_x {α : Type} {g : Operand} {ps : Array Tmp} {assign body : Code} {Q : Exit → Act → World → Prop} {a : Act} {w : World}
    (hro : F.round = none) (h1 : 1 ≤ n) {gf : Nat} {lb : Array Value} (hg : a.eval g = .func (.func gf) #[] lb) (hFg : F.fn gf) (eg : ∀ args w, (callFunc gf args).run P w = .ok (.enter gf args) w)
    {encs : α → Array Value} {Kp : World → World → Prop} {Px : Nat → α → World → Prop} {N : Nat} (hseq : SeqX F (n - 1) P gf lb encs Kp Px N w)
    (hKt : ∀ {A B C : World}, Kp A B → Kp B C → Kp A C) (hKb : ∀ (W : World) (o' : Obj), Kp W (W.putObj (w.heap.size + 1) o'))
    (hPb : ∀ (k : Nat) (x : α) (W : World) (o' : Obj), Px k x W → Px k x (W.putObj (w.heap.size + 1) o')) (hps : ∀ x, (encs x).size = ps.size)
    (I Ix : Nat → World → Prop) (hI : Own2 w.heap.size I) (hIx : Own2 w.heap.size Ix) (h0 : I 0 w) (Ax : α → Act → World → Prop) (hAx : ∀ x a', Own2 w.heap.size (fun (_ : Unit) W => Ax x a' W))
    (hassign : ∀ (l k : Nat) (x : α) (W : World) (K : Act → World → Prop), k < N → I k W → Px k x W → (∀ a' W', KeepsFrom w.heap.size W W' → Kp W W' → I k W' → Px k x W' → Ax x a' W' → K a' W') →
      assign.wpIn (F.inRound l) (n - 1 - 1) P (Exit.then K (fun _ _ _ => False)) { tmps := (ps.zip (encs x)).foldl (fun t (p, v) => t.setIfInBounds p v) a.tmps, defers := [] } W)
    (hbody : ∀ (l k : Nat) (x : α) (a' : Act) (W : World), k < N → I k W → Px k x W → Ax x a' W → body.wpIn (F.inRound l) (n - 1 - 1) P (postX w.heap.size Kp I Ix k W) a' W)
    (hdone : ∀ (W : World), I N W → W.heap[w.heap.size]? = some (.deferred (some [])) → Q .normal { a with defers := { target := .collected w.heap.size, args := #[] } :: a.defers } W)
    (hstop : ∀ (k : Nat) (W : World), k < N → Ix k W → W.heap[w.heap.size]? = some (.deferred (some [])) → Code.ret.wpIn F n P Q { a with defers := { target := .collected w.heap.size, args := #[] } :: a.defers } W) :
    (Code.rangeFunc g ps assign body).wpIn F n P Q a w := by
  refine wpIn_rangeFunc fun fn hfn => ?_
  rw [hro]
  obtain ⟨d, hd⟩ : ∃ d, w.heap.size = d := ⟨_, rfl⟩
  obtain ⟨mk, hmk⟩ : ∃ mk : LoopState → Option Code → Loop, mk = fun st pe => { state := st, pending := pe, fn, tmps := a.tmps, params := ps, assign, body, defers := d } := ⟨_, rfl⟩
  obtain ⟨V, hV⟩ : ∃ V, (w.alloc (.deferred (some []))).alloc (.loop (mk .ready none)) = V := ⟨_, rfl⟩
  have hsz : V.heap.size = d + 2 := by rw [← hV, ← hd]; simp
  have hrec : RecAt (d + 1) d (mk .ready none) V := by
    rw [← hV, ← hd]
    refine ⟨?_, (Below.heap_alloc _ _ _ (by simp)).trans (World.alloc_heap_new w _)⟩
    have := World.alloc_heap_new (w.alloc (.deferred (some []))) (.loop (mk .ready none))
    rwa [World.size_alloc] at this
  have hIV : I 0 V := by rw [← hV]; exact hI.below (hI.below h0 (Below.alloc (Below.refl _ _) (Nat.le_refl _) _)) (Below.alloc (Below.refl _ _) (Nat.le_refl _) _)
  have hbV : Below w.heap.size w V := by rw [← hV]; exact (((Below.refl _ w).alloc (Nat.le_refl _) _).alloc (by simp) _)
  have hent : (Instr.enterLoop fn a.tmps ps assign body none).run P w = .ok (d + 1, [{ target := .collected d, args := #[] }]) V := by
    rw [← hV, hmk, ← hd]; exact run_enterLoop_outer _ _ _ _ _
  rw [hd] at hI hIx hAx hKb hPb hassign hbody hdone hstop
  clear hV
  refine ⟨d + 1, [{ target := .collected d, args := #[] }], V, { target := .fn (.func gf) lb, args := #[.func (.yield (d + 1)) #[] #[]] }, V, gf, #[.func (.yield (d + 1)) #[] #[]] ++ lb, V, hent, ?_, ?_, ?_, fun _ => h1, ?_⟩
  · simp only [resolve, hg]
    simp [go_sem]
  · intro f' hf'
    simp [Target.leads] at hf'
    subst hf'
    exact hFg
  · simp [invoke, go_sem, eg]
  refine (hseq (d + 1) (fun k W => I k W ∧ RecAt (d + 1) d (mk .ready none) W) (fun k W => Ix k W ∧ RecAt (d + 1) d (mk .done (some .ret)) W) V hbV (by omega)
    (fun s A B hs b => ⟨hI.below hs.1 b, hs.2.below b⟩) (fun s A B hs b => ⟨hIx.below hs.1 b, hs.2.below b⟩) ?_ ⟨hIV, hrec⟩).mono ?_
  · rintro k x W hk ⟨hi, hr⟩ hpx
    have hy := run_yield (P := P) (args := encs x) hr.1 (by rw [hmk]; exact hps x)
    rw [hmk] at hy
    refine ⟨fn, _, assign, body, hy, roundIn_of_wpIn hfn (hassign _ k x W _ hk hi hpx ?_)⟩
    intro a' W2 hkf hkp hi2 hpx2 hax
    have hr2 := hr.keeps hkf (by omega) (Nat.le_refl _)
    refine ⟨_, run_beginRound hr2.1 (by rw [hmk]), ?_⟩
    have hr3 := hr2.put (by omega) { mk .ready none with state := .busy }
    have hkp3 := hKb W2 (.loop { mk .ready none with state := .busy })
    refine wpIn_mono (hbody (d + 1) k x a' _ hk (hI.put hi2 _) (hPb k x W2 _ hpx2) ((hAx x a').put (k := ()) hax _)) ?_
    have ending : ∀ (jump : Option Code) (W3 : World), RecAt (d + 1) d { mk .ready none with state := .busy } W3 → (Instr.endRound (d + 1) jump).run P W3 = .ok (.bool jump.isNone) (W3.putObj (d + 1) (.loop (mk (if jump.isNone then .ready else .done) jump))) := fun jump W3 h3 => by
      have hl3 := h3.1
      have := run_endRound (P := P) jump hl3
      rw [hmk] at this ⊢
      exact this
    rintro e a3 W3 hp
    cases e with
    | normal =>
      obtain ⟨k3, kp3, i3⟩ := hp
      have h3 := hr3.keeps k3 (by omega) (Nat.le_refl _)
      exact ⟨_, _, ending none W3 h3, Or.inl ⟨rfl, ⟨hI.put i3 _, h3.put (by omega) _⟩, hKt hkp (hKt hkp3 (hKt kp3 (hKb W3 _)))⟩⟩
    | ret =>
      obtain ⟨k3, i3⟩ := hp
      have h3 := hr3.keeps k3 (by omega) (Nat.le_refl _)
      exact ⟨_, _, ending (some .ret) W3 h3, Or.inr ⟨rfl, hIx.put i3 _, h3.put (by omega) _⟩⟩
    | exit id => exact hp.elim
    | goto t => exact hp.elim
    | panic ch => exact hp.elim
    | outgrown => exact hp.elim
  · rintro e W2 ⟨⟨v, rfl⟩, (⟨hi, hr⟩ | ⟨k, hk, hi, hr⟩)⟩
    · refine ⟨none, _, by have := run_endLoop (P := P) hr.1 (by rw [hmk]; simp); rw [hmk] at this; exact this, ?_⟩
      exact hdone _ (hI.put hi _) ((World.putObj_heap_other (by omega)).trans hr.2)
    · refine ⟨some .ret, _, by have := run_endLoop (P := P) hr.1 (by rw [hmk]; simp); rw [hmk] at this; exact this, ?_⟩
      exact hstop k _ hk (hIx.put hi _) ((World.putObj_heap_other (by omega)).trans hr.2)
end

/-- What lies from b on, but for the row that ro tells, is as it was; that row is the same, or a new one. -/
structure KpO (b : Nat) (ro : World → Option Nat) (A B : World) : Prop where
  os : B.os = A.os
  tape : B.tape = A.tape
  output : B.output = A.output
  size : A.heap.size ≤ B.heap.size
  same : ∀ k, k < A.heap.size → b ≤ k → ro A ≠ some k → B.heap[k]? = A.heap[k]?
  row : ∀ k, ro B = some k → ro A = some k ∨ A.heap.size ≤ k
theorem KpO.trans {b : Nat} {ro : World → Option Nat} {A B C : World} (h : KpO b ro A B) (k : KpO b ro B C) : KpO b ro A C :=
  ⟨k.os.trans h.os, k.tape.trans h.tape, k.output.trans h.output, Nat.le_trans h.size k.size,
    fun i hi hb hn => (k.same i (Nat.lt_of_lt_of_le hi h.size) hb (fun e => (h.row i e).elim hn (fun h => by omega))).trans (h.same i hi hb hn),
    fun i hi => (k.row i hi).elim (h.row i) fun hh => .inr (Nat.le_trans h.size hh)⟩
theorem KpO.below {b : Nat} {ro : World → Option Nat} {A B : World} (h : Below A.heap.size A B) (hr : ro B = ro A) : KpO b ro A B := ⟨h.os, h.tape, h.output, h.size, fun k hk _ _ => h.block k hk, fun k hk => .inl (by rw [← hr]; exact hk)⟩
theorem KpO.put {b : Nat} {ro : World → Option Nat} {A : World} {l : Nat} (o : Obj) (hl : l < b) (hr : ro (A.putObj l o) = ro A) : KpO b ro A (A.putObj l o) := ⟨rfl, rfl, rfl, by simp, fun k _ hb _ => World.putObj_heap_other (by omega), fun k hk => .inl (by rw [← hr]; exact hk)⟩
/-- What lies in a part of the memory that nobody changes any more. -/
def Hg (b : Nat) (ro : World → Option Nat) (W : World) (Q : World → Prop) : Prop := ∃ lo hi, b ≤ lo ∧ lo ≤ hi ∧ hi ≤ W.heap.size ∧ (∀ k, ro W = some k → k < lo ∨ hi ≤ k) ∧ Stay (fun k => k < lo ∨ hi ≤ k) W Q
theorem Hg.now {b : Nat} {ro : World → Option Nat} {W : World} {Q : World → Prop} (h : Hg b ro W Q) : Q W := by
  obtain ⟨_, _, _, _, _, _, h⟩ := h
  exact h.now
theorem Hg.kp {b : Nat} {ro : World → Option Nat} {W W' : World} {Q : World → Prop} (h : Hg b ro W Q) (k : KpO b ro W W') : Hg b ro W' Q := by
  obtain ⟨lo, hi, h1, h0, h2, h3, h4⟩ := h
  refine ⟨lo, hi, h1, h0, Nat.le_trans h2 k.size, fun i e => (k.row i e).elim (h3 i) (fun h => .inr (Nat.le_trans h2 h)), h4.off ⟨k.os, k.tape, k.output, k.size, fun i hi' hn => k.same i hi' ?_ ?_⟩⟩
  · exact Nat.le_trans h1 (Nat.le_of_not_lt fun h => hn (.inl h))
  · exact fun e => hn (h3 i e)
theorem Hg.mono {b : Nat} {ro : World → Option Nat} {W : World} {Q R : World → Prop} (h : Hg b ro W Q) (hq : ∀ W, Q W → R W) : Hg b ro W R := by
  obtain ⟨lo, hi, h1, h0, h2, h3, h4⟩ := h
  exact ⟨lo, hi, h1, h0, h2, h3, h4.mono hq⟩
theorem Hg.size {b : Nat} {ro : World → Option Nat} {W : World} {Q : World → Prop} (h : Hg b ro W Q) : b ≤ W.heap.size := by
  obtain ⟨lo, hi, h1, h0, h2, h3, h4⟩ := h
  omega
/-- .., whatever is changed below b. -/
theorem Hg.stay {b : Nat} {ro : World → Option Nat} {W : World} {Q : World → Prop} {S : Nat → Prop} (h : Hg b ro W Q) (hS : ∀ k, S k → k < b) : Stay S W Q := by
  obtain ⟨lo, hi, h1, h0, h2, h3, h4⟩ := h
  exact h4.less fun k hk => .inl (Nat.lt_of_lt_of_le (hS k hk) h1)
end Go.Proofs.YthmofoldmdafoaaGreat
namespace Go.Proofs.YthmofoldmdafoaaGreat
open Go.ChangeShapes Go.WideShapes Go.ChangeAt Go.RowKit Go.Maps Go.Shelf
set_option linter.unusedVariables false
set_option linter.unusedSimpArgs false

attribute [local go_sem] Oper.semAt_some
def encP (y : PrV) : Array Value := #[.agg (pcl y).toArray]
/-- What hangs on a pair lies. -/
def QP (x : PrV) (W : World) : Prop := Ls .u8 W x.ka x.kc x.K ∧ RdR W x.ra x.R
/-- How a function that makes pairs ends. -/
def PsG (okp : PrV → Prop) (w : World) (T : List Pr) (r : Ending) (w' : World) : Prop := ∃ a c P, r = .returned (.slice a P.length c) ∧ Below w.heap.size w w' ∧ P.map prC = T ∧ (∀ p ∈ P, okp p) ∧ P.length ≤ c ∧ (a = none → c = 0) ∧ P.length ≤ 2000000 ∧ ∀ S : Nat → Prop, (∀ k, S k → k < w.heap.size) → Stay S w' fun W' => PairsR W' a P
def okK (p : PrV) : Prop := keyOk p.K ∧ rOk (p.R.map P1.bs)
/-- What is known of the k-th pair that is handed over. -/
structure PxP (okp : PrV → Prop) (b : Nat) (ro : World → Option Nat) (T : List Pr) (k : Nat) (x : PrV) (W : World) : Prop where
  at_ : T[k]? = some (prC x)
  ok : okp x
  lies : Hg b ro W (QP x)
theorem PxP.kp {okp : PrV → Prop} {b : Nat} {ro : World → Option Nat} {T : List Pr} {k : Nat} {x : PrV} {A B : World} (h : PxP okp b ro T k x A) (q : KpO b ro A B) : PxP okp b ro T k x B := ⟨h.at_, h.ok, h.lies.kp q⟩
set_option maxRecDepth 100000 in
set_option maxHeartbeats 4000000 in
/-- What over's iterator (106) hands over, if what it calls is 80. -/
theorem over80_x (okp : PrV → Prop) (mm : Nat) (hm : 1 ≤ mm) (Bs B1 B2 : Nat) (T : List Pr) (w : World) (ro : World → Option Nat) (hB : Boxed w Bs 142 (.func (.func 80) #[] #[.pointer (some ⟨B1, 0, none⟩), .pointer (some ⟨B2, 0, none⟩)]))
    (hN : ∀ W, Below w.heap.size w W → Calls Tryz.prog 80 #[.pointer (some ⟨B1, 0, none⟩), .pointer (some ⟨B2, 0, none⟩)] W (PsG okp W T)) (hro : ∀ W, Below w.heap.size w W → ro W = none) (hrb : ∀ A B, w.heap.size ≤ A.heap.size → Below A.heap.size A B → ro B = ro A) :
    SeqX Fence.wide mm Tryz.prog 106 #[.pointer (some ⟨Bs, 0, none⟩)] encP (KpO (w.heap.size + 2) ro) (PxP okp (w.heap.size + 2) ro T) T.length w := fun lp J Jx W hW hW2 hJ hJx hY h0 => by
  have hb : Boxed W Bs 142 (.func (.func 80) #[] #[.pointer (some ⟨B1, 0, none⟩), .pointer (some ⟨B2, 0, none⟩)]) := (hW.block Bs hB.lt).trans hB
  have HN := Lib.hid (hN W hW)
  have HW := Lib.hid (And.intro hW hW2)
  have HRO := Lib.hid (And.intro hro hrb)
  have HJ := Lib.hid hJ
  have H0 := Lib.hid h0
  clear hB hN hW hW2 hro hrb hJx h0 hJ
  show CallsIn Fence.wide mm Tryz.prog 106 #[.func (.yield lp) #[] #[], .pointer (some ⟨Bs, 0, none⟩)] W _
  refine callsIn_of_wp Tryz.func106 rfl trivial ?_ rfl
  simp only [Tryz.ntmps106, List.size_toArray, List.length_cons, List.length_nil, Nat.reduceAdd, Nat.reduceSub, Array.replicate_succ, Array.replicate_zero, List.push_toArray, List.append_toArray, List.nil_append, List.cons_append]
  have cb := hb.cell
  gi_wp2_with fail
  clear cb hb
  refine ⟨trivial, ?_⟩
  refine (callsIn_wide.2 HN.out).mono ?_
  rintro e W2 ⟨pa, pc, P, rfl, hb2, hPT, hok, hlc, hnone, hlen, hst⟩
  obtain ⟨n, hn⟩ : ∃ n, P.length = n := ⟨_, rfl⟩
  rw [hn] at hlen ⊢
  have HPT := Lib.hid hPT
  have HOK := Lib.hid hok
  have HPL := Lib.hid hn
  have HTL := Lib.hid (show T.length = n by rw [← hPT, List.length_map, hn])
  have HG := Lib.hid (show Hg (w.heap.size + 2) ro W2 (fun W' => PairsR W' pa P) from ⟨W.heap.size, W2.heap.size, HW.out.2, hb2.size, Nat.le_refl _, fun k hk => (by rw [HRO.out.1 W2 (step_below HW.out.1 hb2)] at hk; cases hk), fun W' o => hst (fun k => k < W.heap.size) (fun k hk => hk) W' ⟨o.os, o.tape, o.output, o.size, fun k hk hn => o.block k hk (fun e => e.elim hn (fun h => by omega))⟩⟩)
  have HJ2 := Lib.hid (HJ.out 0 W W2 H0.out hb2)
  have HS2 := Lib.hid (Nat.le_trans HW.out.1.size hb2.size)
  have hni : (n : Int) ≤ 2000000 := by omega
  clear hPT hok hn hb2 hst hlc hnone HN H0
  gi_wp2_with fail
  gi_loopw [8] (fun i wr => ∃ k : Nat, k ≤ n ∧ i = .int .i64 (k : Int) ∧ Hid (Hg (w.heap.size + 2) ro wr (fun W' => PairsR W' pa P)) ∧ Hid (J k wr) ∧ Hid (w.heap.size ≤ wr.heap.size))
    (fun i _ => n - (intOf i).toNat)
  case atStart =>
    exact ⟨0, by omega, rfl, HG, HJ2, HS2⟩
  case round =>
    clear HG HJ2 HS2
    obtain ⟨k, hk, rfl, HG, HJK, HSZ⟩ := hrel
    by_cases hlt : k < n
    · have d1 : (k : Int) < (n : Int) := by omega
      obtain ⟨y, hy⟩ : ∃ y, P[k]? = some y := ⟨_, List.getElem?_eq_getElem (by rw [HPL.out]; exact hlt)⟩
      obtain ⟨b1, o1, ea, p0, p1, _, _⟩ := HG.out.now k y hy
      have HPY := Lib.hid (show T[k]? = some (prC y) ∧ okp y from ⟨by rw [← HPT.out, List.getElem?_map, hy]; rfl, HOK.out y (List.mem_of_getElem? hy)⟩)
      have HGY := Lib.hid (HG.out.mono (R := QP y) (fun W' h => by obtain ⟨_, _, _, _, _, l, r⟩ := h k y hy; exact ⟨l, r⟩))
      have HKL := Lib.hid (show k < T.length by rw [HTL.out]; omega)
      clear hy
      obtain ⟨w2, hw2⟩ : ∃ w2, w2 = wr.alloc (.cells #[.slice y.ka y.K.length y.kc, .slice y.ra y.R.length y.rc] 78) := ⟨_, rfl⟩
      have hbl : Below wr.heap.size wr w2 := by rw [hw2]; exact bl1 wr _
      have HK2 := Lib.hid (KpO.below (b := w.heap.size + 2) hbl (HRO.out.2 wr w2 HSZ.out hbl))
      have hJ2 : J k w2 := HJ.out k wr w2 HJK.out hbl
      have HS3 := Lib.hid (Nat.le_trans HSZ.out hbl.size)
      obtain ⟨fn, tmps, assign, body, hy, hR⟩ := hY k y w2 HKL.out hJ2 ⟨HPY.out.1, HPY.out.2, HGY.out.kp HK2.out⟩
      rw [hw2] at hy
      dsimp only [encP, pcl] at hy
      have hww := hw2
      clear hw2 hbl
      subst ea
      gi_wp2
      rw [← hww]
      refine hR.mono ?_
      rintro e W3 (⟨rfl, hJ3, hk3⟩ | ⟨rfl, hJx3⟩)
      · have HK3 := Lib.hid (HK2.out.trans hk3)
        have HJ3 := Lib.hid hJ3
        have HS4 := Lib.hid (show w.heap.size ≤ W3.heap.size from Nat.le_trans HS3.out hk3.size)
        clear hk3 hJ3
        gi_wp2_with fail
        go_roundw
        case rel => exact ⟨k + 1, by omega, by go_num, Lib.hid (HG.out.kp HK3.out), HJ3, HS4⟩
        case measure => simp [intOf]; omega
      · have HJX := Lib.hid hJx3
        clear hJx3
        gi_wp2
        refine bodyPost_ret (results_none rfl _ _ _) rfl ?_
        exact ⟨⟨_, rfl⟩, .inr ⟨k, HKL.out, HJX.out⟩⟩
    · have d1 : ¬ (k : Int) < (n : Int) := by omega
      have HJE := Lib.hid (show J T.length wr by rw [HTL.out, show n = k by omega]; exact HJK.out)
      gi_wp2_with fail
      go_end0
      exact ⟨⟨_, rfl⟩, .inl HJE.out⟩
end Go.Proofs.YthmofoldmdafoaaGreat
