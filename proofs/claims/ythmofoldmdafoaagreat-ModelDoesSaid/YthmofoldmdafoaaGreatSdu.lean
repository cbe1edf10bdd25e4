/- Part of the proof that ModelDoes holds for every input: tables, under any transactions, answer, write and stand as the document says. Part 21. -/
import Derived.Test.YthmofoldmdafoaaGreatSdt
set_option linter.unusedVariables false
set_option linter.unusedSimpArgs false
set_option maxRecDepth 100000
set_option maxHeartbeats 4000000
namespace Go.Proofs.YthmofoldmdafoaaGreat
open Go.ChangeShapes Go.WideShapes Go.ChangeAt Go.RowKit
open Go.Lib (hid)
open Go.Proofs.Tryz
section
open Go.Maps
def NewR (w : World) (j : Job) (r : Ending) (w' : World) : Prop :=
 if okB j then ∃ (S : Nat -> Prop) (m : Md), r = .returned (.tuple #[.pointer (some ⟨m.p, 0, none⟩), .int .i64 0]) /\ Below w.heap.size w w' /\ MdR S w' m /\ (∀ k, S k -> w.heap.size <= k /\ k < w'.heap.size) /\ (∃ a c, m.j = { j with a := a, cap := c }) /\ (∀ x ∈ m.tabs, x.2 = [])
 else r = .returned (.tuple #[.pointer none, .int .i64 2]) /\ Below w.heap.size w w'
def NewRT (T : Nat -> Prop) (w : World) (j : Job) (r : Ending) (w' : World) : Prop :=
 if okB j then ∃ (S : Nat -> Prop) (m : Md), r = .returned (.tuple #[.pointer (some ⟨m.p, 0, none⟩), .int .i64 0]) /\ Below w.heap.size w w' /\ MdR S w' m /\ (∀ k, T k -> S k) /\ (∀ k, S k -> T k ∨ w.heap.size <= k) /\ (∀ k, S k -> k < w'.heap.size) /\ (∀ x ∈ m.tabs, w.heap.size <= x.1) /\ (∃ a c, m.j = { j with a := a, cap := c }) /\ (∀ x ∈ m.tabs, x.2 = [])
 else r = .returned (.tuple #[.pointer none, .int .i64 2]) /\ Below w.heap.size w w'
theorem new_lawT (T : Nat -> Prop) (j : Job) (w : World) (hT : ∀ k, T k -> k < w.heap.size) (hj : yb_ w j) : Calls prog 10 #[.agg #[.int .i64 j.w, .int .i64 j.l, .int .i64 j.d, .int .i64 j.c, .int .i64 j.k, .int .i64 j.e, .slice j.a j.n j.cap]] w (NewRT T w j) := by
 obtain ⟨w1, hw1⟩ := gty (w.alloc (.cells #[.int .i64 j.w, .int .i64 j.l, .int .i64 j.d, .int .i64 j.c, .int .i64 j.k, .int .i64 j.e, .slice j.a j.n j.cap] 24))
 have hb1 : Below w.heap.size w w1 := by rw [hw1]; exact bl1 _ _
 have hx1 : zg_ w1 w.heap.size #[.int .i64 j.w, .int .i64 j.l, .int .i64 j.d, .int .i64 j.c, .int .i64 j.k, .int .i64 j.e, .slice j.a j.n j.cap] 24 := by rw [hw1]; exact zg_.new _ _ _
 have HJ := hid hj
 have hli : (j.n : Int) <= 1000000 := by have := hj.le; omega
 have HCK := hid (x5_ j w1 (hj.below hb1))
 have HB1 := hid hb1
 have HX1 := hid hx1
 have c0 := hx1.cell 0
 have c1 := hx1.cell 1
 have c2 := hx1.cell 2
 have c3 := hx1.cell 3
 have c4 := hx1.cell 4
 have c5 := hx1.cell 5
 have c6 := hx1.cell 6
 simp only [gtA, gtB, gtC] at c0 c1 c2 c3 c4 c5 c6
 clear hj hb1 hx1
 go_enter func10, ntmps10
 go_upto_region 1 with (fail)
 rw [← hw1]
 clear hw1
 go_wp2_with fail
 clear c0 c1 c2 c3 c4 c5 c6
 refine HCK.out.mono ?_; rintro r w2 ⟨rfl, hb2⟩
 have HB2 := hid (HB1.out.trans (hb2.mono HB1.out.size))
 have hx2 := HX1.out.below hb2
 have HX2 := hid hx2
 have c6 := hx2.cell 6
 simp only [gtA, gtB, gtC] at c6
 clear hb2 hx2
 cases hok : okB j with
 | false =>
  have hv : qb_ j = 2 := by unfold qb_; rw [hok]; rfl
  have HR := hid (fun r w' (hh : r = .returned (.tuple #[.pointer none, .int .i64 2]) /\ Below w.heap.size w w') => (by unfold NewRT; rw [hok]; exact hh : NewRT T w j r w'))
  rw [hv]
  clear hok hv c6
  exact Xb62
 | true =>
  have hv : qb_ j = 0 := by unfold qb_; rw [hok]; rfl
  have HOK := hid hok
  have HR := hid (fun r w' (hh : ∃ (S : Nat -> Prop) (m : Md), r = .returned (.tuple #[.pointer (some ⟨m.p, 0, none⟩), .int .i64 0]) /\ Below w.heap.size w w' /\ MdR S w' m /\ (∀ k, T k -> S k) /\ (∀ k, S k -> T k ∨ w.heap.size <= k) /\ (∀ k, S k -> k < w'.heap.size) /\ (∀ x ∈ m.tabs, w.heap.size <= x.1) /\ (∃ a c, m.j = { j with a := a, cap := c }) /\ (∀ x ∈ m.tabs, x.2 = [])) => (by unfold NewRT; rw [hok]; exact hh : NewRT T w j r w'))
  have hn4 := okB_n hok
  have HN4 := hid hn4
  rw [hv]
  clear hok hv
  have HCL := hid (iclone_law j.a j.T j.n j.cap HJ.out.len HJ.out.le w2 (HJ.out.ls.below HB2.out))
  go_wp2_with fail
  refine HCL.out.mono ?_; rintro r w3 ⟨⟨a1, c1, rfl, ho3⟩, hb3⟩
  have HO3 := hid ho3
  have HB3 := hid (HB2.out.trans (hb3.mono HB2.out.size))
  have HS23 := hid (And.intro HX2.out.lt hb3.size)
  have hx3 := HX2.out.below hb3
  have HX3 := hid hx3
  clear c6 ho3 hb3
  have c6 := hx3.cell 6
  have f6 := hx3.frozen 6
  simp only [gtA, gtB, gtC] at c6
  clear hx3
  go_upto_region 4 with (fail)
  clear c6 f6
  have o4 : Off (fun k => k = w.heap.size) w3 (w3.setCell ⟨w.heap.size, 6, none⟩ (.slice a1 j.n c1)) := Off.set (S := fun k => k = w.heap.size) (Off.refl _ w3) ⟨w.heap.size, 6, none⟩ rfl _
  have hx4 : zg_ (w3.setCell ⟨w.heap.size, 6, none⟩ (.slice a1 j.n c1)) w.heap.size #[.int .i64 j.w, .int .i64 j.l, .int .i64 j.d, .int .i64 j.c, .int .i64 j.k, .int .i64 j.e, .slice a1 j.n c1] 24 := heap_setCell_same w3 w.heap.size 6 _ 24 _ HX3.out
  have hb4 : Below w.heap.size w (w3.setCell ⟨w.heap.size, 6, none⟩ (.slice a1 j.n c1)) := HB3.out.setCell (Nat.le_refl _) _
  generalize w3.setCell ⟨w.heap.size, 6, none⟩ (.slice a1 j.n c1) = w4 at o4 hx4 hb4 ⊢
  have ho4 := zl_ HO3.out o4 (fun k hk => by cases hk; exact HS23.out.1)
  have HO4 := hid ho4
  have HB4 := hid hb4
  have HX4 := hid hx4
  have HS4 := hid (Nat.le_trans HS23.out.2 o4.size)
  have c0 := hx4.cell 0
  have c1' := hx4.cell 1
  have c2 := hx4.cell 2
  have c3 := hx4.cell 3
  have c4 := hx4.cell 4
  have c5 := hx4.cell 5
  have c6 := hx4.cell 6
  simp only [gtA, gtB, gtC] at c0 c1' c2 c3 c4 c5 c6
  clear o4 hx4 hb4 ho4
  go_upto_region 5 with (fail)
  clear c0 c1' c2 c3 c4 c5 c6
  have hb5 : Below w4.heap.size w4 (w4.alloc (.cells #[.int .i64 j.w, .int .i64 j.l, .int .i64 j.d, .int .i64 j.c, .int .i64 j.k, .int .i64 j.e, .slice a1 j.n c1, .slice none 0 0] 89)) := bl1 _ _
  have hx5 : zg_ (w4.alloc (.cells #[.int .i64 j.w, .int .i64 j.l, .int .i64 j.d, .int .i64 j.c, .int .i64 j.k, .int .i64 j.e, .slice a1 j.n c1, .slice none 0 0] 89)) w4.heap.size #[.int .i64 j.w, .int .i64 j.l, .int .i64 j.d, .int .i64 j.c, .int .i64 j.k, .int .i64 j.e, .slice a1 j.n c1, .slice none 0 0] 89 := zg_.new _ _ _
  generalize w4.alloc (.cells #[.int .i64 j.w, .int .i64 j.l, .int .i64 j.d, .int .i64 j.c, .int .i64 j.k, .int .i64 j.e, .slice a1 j.n c1, .slice none 0 0] 89) = w5 at hb5 hx5 ⊢
  obtain ⟨p, hp⟩ := gtx (w4.heap.size)
  have HPW := hid (show w.heap.size < p by rw [← hp]; exact HX4.out.lt)
  have HP4 := hid hp
  have HB5 := hid (HB4.out.trans (hb5.mono HB4.out.size))
  have HO5 := hid (ze_ HO4.out hb5)
  rw [hp] at hx5 ⊢
  have HX5 := hid hx5
  have hxx := HX4.out.below hb5
  have c6 := hxx.cell 6
  simp only [gtA, gtB, gtC] at c6
  clear hb5 hx5 hp hxx
  go_wp2_with fail
  clear c6
  go_loopw [18] (fun i wr => ∃ (k : Nat) (B : List Nat) (wv : Value), k <= j.n /\ i = .int .i64 (k : Int) /\ Hid (zg_ wr p #[.int .i64 j.w, .int .i64 j.l, .int .i64 j.d, .int .i64 j.c, .int .i64 j.k, .int .i64 j.e, .slice a1 j.n c1, wv] 89) /\ Hid (B.length = k) /\ Hid (wr.ownsRow w.heap.size 90 1 wv k (cellsOf bcl B)) /\ Hid (∀ b ∈ B, Mp wr b RV.v [] /\ w.heap.size <= b) /\ Hid B.Nodup /\ Hid (wr.ownsRow w2.heap.size 3 1 (.slice a1 j.n c1) j.n (iv .i64 j.T)) /\ Hid (Below w.heap.size w wr)) (fun i _ => j.n - (intOf i).toNat)
  case atStart => exact ⟨0, [], .slice none 0 0, by omega, rfl, HX5, hid rfl, hid (World.ownsRow_nil _ _ _ _), hid (fun b hb => by simp at hb), hid List.nodup_nil, HO5, HB5⟩
  case round =>
   obtain ⟨k, B, wv, hk, rfl, HXP, HN, HOW, HMP, HND, HJO, HB⟩ := hrel
   by_cases hlt : k < j.n
   ·have d1 : (k : Int) < (j.n : Int) := by omega
    have hmm := @run_makeMap prog
    have hnb : ¬ wv.ownBlock = some p := fun e => by
     obtain ⟨_, _, cur, hb2⟩ := zb_ HOW.out e
     exact zo_ hb2 HXP.out Xt4 rfl
    have HBP := hid (fun X (o : Off (fun k => wv.ownBlock = some k) wr X) => o.box HXP.out hnb)
    have HPX := hid (fun X (o : Off (fun k => wv.ownBlock = some k) wr X) => (by rw [(HBP.out X o).cell]; rfl : X.cell? ⟨p, 7, none⟩ = some wv))
    clear hnb
    have x7 := HPX.out wr (Off.refl _ _)
    have HB6 := hid (za_ (bl1 wr (.map #[] 0)) (bl1 (wr.alloc (.map #[] 0)) (.cells #[.map (some wr.heap.size)] 90)))
    have HCN := hid (zx_ (wr.alloc (.map #[] 0)) #[.map (some wr.heap.size)] 90 [.map (some wr.heap.size)] rfl)
    rw [World.size_alloc] at HCN
    go_upto_region 8 with (at_builtin; refine zv_ ae_map rfl _ _ rfl w.heap.size wv k (cellsOf bcl B) rfl (ze_ HOW.out HB6.out) ⟨wr.heap.size + 1, 0, none⟩ 1 1 [.map (some wr.heap.size)] rfl rfl HCN.out Xt31 Xt0 (Nat.le_trans HB.out.size HB6.out.size) ?_; intro v9 w9 hown9 hgrow9 hat9; obtain ⟨a9, c9, hv9⟩ := zd_ hown9; subst hv9; have HO9 := hid hown9; have HG9 := hid hgrow9; have HF9 := hid (((Off.of HB6.out).trans (Off.of_row hgrow9) : Off (fun k => wv.ownBlock = some k) wr w9)); clear hown9 hgrow9 hat9; have x9 := HPX.out w9 HF9.out; have f9 := (HBP.out w9 HF9.out).frozen 7)
    clear x7 x9 f9
    have hP9 := HBP.out w9 HF9.out
    have hne9 : ∀ g, Value.ownBlock (.slice a9 (k + 1) c9) = some g -> g ≠ p := fun g hg => by
     exact Xb83
    have oP : Off (fun k => k = p) w9 (w9.setCell ⟨p, 7, none⟩ (.slice a9 (k + 1) c9)) := Off.set (S := fun k => k = p) (Off.refl _ w9) ⟨p, 7, none⟩ rfl _
    have q2 : zg_ (w9.setCell ⟨p, 7, none⟩ (.slice a9 (k + 1) c9)) p #[.int .i64 j.w, .int .i64 j.l, .int .i64 j.d, .int .i64 j.c, .int .i64 j.k, .int .i64 j.e, .slice a1 j.n c1, .slice a9 (k + 1) c9] 89 := heap_setCell_same w9 p 7 _ 89 _ hP9
    have q4 := zm_ HO9.out oP (fun g hg e => hne9 g hg e)
    have hbwv : ∀ b, wv.ownBlock = some b -> b < wr.heap.size := fun b hb => (zb_ HOW.out hb).2.1
    have q5 : ∀ b ∈ B ++ [wr.heap.size], Mp (w9.setCell ⟨p, 7, none⟩ (.slice a9 (k + 1) c9)) b RV.v [] /\ w.heap.size <= b := fun b hb => by
     rcases List.mem_append.1 hb with hb | hb
     ·exact Xb61
     ·rw [List.mem_singleton] at hb
      subst hb
      have h1 := (Mp.new wr RV.v).below (bl1 (wr.alloc (.map #[] 0)) (.cells #[.map (some wr.heap.size)] 90))
      exact Xb84
    have q6 : (B ++ [wr.heap.size]).Nodup := List.nodup_append.2 ⟨HND.out, by simp, fun a ha b hb e => by
     rw [List.mem_singleton] at hb
     subst hb
     subst e
     exact Nat.lt_irrefl _ (HMP.out _ ha).1.lt⟩
    have q7 : Below w.heap.size w (w9.setCell ⟨p, 7, none⟩ (.slice a9 (k + 1) c9)) := (Off.below HB.out HF9.out HB.out.size (fun g hg => (zb_ HOW.out hg).1)).setCell (Nat.le_of_lt HPW.out) _
    have q8 := zm_ (zm_ HJO.out HF9.out (fun g hg e => by
     obtain ⟨_, _, cur, hb⟩ := zb_ HJO.out hg
     obtain ⟨_, _, cur', hb'⟩ := zb_ HOW.out e
     exact zo_ hb hb' Xt4 rfl)) oP (fun g hg e => by
     obtain ⟨_, _, cur, hb⟩ := zb_ HJO.out hg
     exact zo_ hb HXP.out Xt4 e)
    have Q2 := hid q2
    have Q4 := hid q4
    have Q5 := hid q5
    have Q6 := hid q6
    have Q7 := hid q7
    have Q8 := hid q8
    clear q2 q4 q5 q6 q7 q8 hP9 hne9 oP hbwv hmm
    go_wp2_with fail
    go_roundw
    case rel => exact ⟨k + 1, B ++ [wr.heap.size], .slice a9 (k + 1) c9, by omega, by go_num, Q2, hid (by rw [List.length_append, HN.out]; rfl), hid (by rw [zq_]; exact Q4.out), Q5, Q6, Q8, Q7⟩
    case measure => simp [intOf]; omega
   ·have d1 : ¬ (k : Int) < (j.n : Int) := by omega
    have hke : k = j.n := by omega
    have HKE := hid hke
    clear hke
    go_wp2_with fail
    go_ret2
    obtain ⟨wa, wc, hwv⟩ := zd_ HOW.out
    have how := HOW.out
    rw [hwv] at how
    have hbn : 0 < B.length := by rw [HN.out]; have := HKE.out; have := HN4.out; omega
    obtain ⟨b0, hb0⟩ : ∃ b, B[0]? = some b := ⟨_, List.getElem?_eq_getElem hbn⟩
    obtain ⟨g, hg, hgb, _⟩ := zt_ j9_ Xt0 how HN.out 0 b0 hb0
    rw [hg] at how hwv
    have hmp := HMP.out
    obtain ⟨aj, cj, ej, hlj, _⟩ := ys_ HJO.out HJ.out.len
    cases ej
    have hpB : ¬ (p ∈ B ∨ T p) := fun hk => hk.elim (fun hk => (hmp p hk).1.ne_box HXP.out rfl) (fun hk => by have h1 := hT p hk; have h2 := HPW.out; omega)
    refine HR.out _ _ ⟨fun k => k ∈ B ∨ T k, ⟨p, { j with a := a1, cap := c1 }, g, wc, B.map fun b => (b, [])⟩, rfl, HB.out, ⟨?_, ?_, ?_, ?_, ?_, ?_, ?_, ?_, ?_⟩, fun k hk => .inr hk, fun k hk => hk.elim (fun h => .inr (hmp k h).2) .inl, fun k hk => hk.elim (fun h => (hmp k h).1.lt) (fun h => Nat.lt_of_lt_of_le (hT k h) HB.out.size), fun x hx => (by obtain ⟨b, hb, rfl⟩ := List.mem_map.1 hx; exact (hmp b hb).2), ⟨a1, c1, rfl⟩, fun x hx => ?_⟩
    ·intro W' o
     refine ⟨?_, ?_, ?_⟩
     ·have := o.box HXP.out hpB
      unfold Md.cs
      rw [hwv] at this
      rw [List.length_map, HN.out]
      exact this
     ·intro i y hy
      rw [List.getElem?_map] at hy
      cases hbi : B[i]? with
      | none => rw [hbi] at hy; cases hy
      | some b =>
       rw [hbi] at hy
       cases hy
       have hog := zm_ how o (fun q hq hk => by
        obtain ⟨hlo, _, cur8, hg8⟩ := zb_ how hq
        rcases hk with hk | hk
        ·exact (hmp q hk).1.ne_box hg8 rfl
        ·have := hT q hk; have := HB2.out.size; omega)
       obtain ⟨g', e, _, hcc⟩ := zt_ j9_ Xt0 hog HN.out i b hbi
       cases e
       have := hcc 0 Xt0
       exact Xb59
     ·have hoj := zm_ HJO.out o (fun q hq hk => by
       obtain ⟨hlo, _, cur8, hg8⟩ := zb_ HJO.out hq
       rcases hk with hk | hk
       ·exact (hmp q hk).1.ne_box hg8 rfl
       ·have := hT q hk; have := HB2.out.size; omega)
      obtain ⟨aj, cj, ej, hlj, _⟩ := ys_ hoj HJ.out.len
      cases ej
      exact ⟨hlj, HJ.out.len, HJ.out.le⟩
    ·intro x hx
     obtain ⟨b, hb, rfl⟩ := List.mem_map.1 hx
     exact (hmp b hb).1
    ·intro x hx e he
     obtain ⟨b, hb, rfl⟩ := List.mem_map.1 hx
     cases he
    ·exact HOK.out
    ·rw [List.length_map, HN.out]; exact HKE.out
    ·rw [List.length_map, HN.out]; 
     rcases how.2 with ⟨e, _⟩ | ⟨_, cap, _, e, _, _, hc, _⟩
     ·cases e
     ·cases e; exact hc
    ·rw [List.map_map]
     have : (Prod.fst ∘ fun b : Nat => (b, ([] : List (List Int × RV)))) = id := rfl
     rw [this, List.map_id]; exact HND.out
    ·intro x hx
     obtain ⟨b, hb, rfl⟩ := List.mem_map.1 hx
     exact .inl hb
    ·intro x hx
     obtain ⟨b, hb, rfl⟩ := List.mem_map.1 hx
     exact ⟨by unfold yf_ x6_; exact List.Pairwise.nil, fun q hq => by cases hq⟩
    ·obtain ⟨b, hb, rfl⟩ := List.mem_map.1 hx
     rfl
theorem new_law (j : Job) (w : World) (hj : yb_ w j) : Calls prog 10 #[.agg #[.int .i64 j.w, .int .i64 j.l, .int .i64 j.d, .int .i64 j.c, .int .i64 j.k, .int .i64 j.e, .slice j.a j.n j.cap]] w (NewR w j) := (new_lawT (fun _ => False) j w (fun _ h => h.elim) hj).mono fun r w' h => by
 unfold NewRT at h
 unfold NewR
 split
 ·rename_i hok
  rw [if_pos hok] at h
  obtain ⟨S, m, e, hb, hm, _, h1, h2, _, h3, h4⟩ := h
  exact ⟨S, m, e, hb, hm, fun k hk => ⟨(h1 k hk).resolve_left (fun h => h), h2 k hk⟩, h3, h4⟩
 ·rename_i hok
  rw [if_neg hok] at h
  exact h
theorem set_same {α : Type} {P : List α} {k : Nat} {e : α} (h : P[k]? = some e) : P.set k e = P := by
 apply List.ext_getElem?
 intro i
 by_cases hi : k = i
 ·subst hi
  rw [List.getElem?_set_self (List.getElem?_eq_some_iff.1 h).1, h]
 ·rw [List.getElem?_set_ne hi]
theorem Off.grown {z : Nat} {W W' : World} (o : Off (fun k => k = z) W W') : W.grownBy W' (some z) := ⟨o.os, o.tape, o.output, o.size, fun k hk hn => o.block k hk (fun e => hn (by rw [e]))⟩
theorem take_set {α : Type} (P : List α) (e : α) (k : Nat) (hk : k < P.length) : (P.take k ++ List.replicate (P.length - k) e).set k P[k] = P.take (k + 1) ++ List.replicate (P.length - (k + 1)) e := by
 have h1 : (P.take k).length = k := by rw [List.length_take]; omega
 rw [List.set_append, if_neg Xt0, h1, Nat.sub_self]
 obtain ⟨n, hn⟩ : ∃ n, P.length - k = n + 1 := ⟨P.length - k - 1, by omega⟩
 rw [hn, show P.length - (k + 1) = n by omega, List.replicate_succ, List.set_cons_zero, List.take_add_one, List.getElem?_eq_getElem hk, List.append_assoc]
 rfl
def lenP (T : List (List Pr)) : Nat := (T.map List.length).sum
theorem lenP_take {T : List (List Pr)} {k : Nat} {t : List Pr} (h : T[k]? = some t) : lenP (T.take (k + 1)) = lenP (T.take k) + t.length := by
 unfold lenP
 rw [List.take_add_one, h, List.map_append, List.sum_append]
 simp
theorem lenP_le (T : List (List Pr)) (N : Nat) (h : ∀ t ∈ T, t.length <= N) : lenP T <= T.length * N := by
 induction T with
 | nil => simp [lenP]
 | cons t T ih =>
  have h1 := h t (List.mem_cons_self ..)
  have h2 := ih fun x hx => h x (List.mem_cons_of_mem _ hx)
  unfold lenP at *
  rw [List.map_cons, List.sum_cons, List.length_cons, Nat.add_mul]
  omega
theorem mlen_law {S : Nat -> Prop} {m : Md} {w : World} (h : MdR S w m) (hf : ∀ z ∈ m.tabs, z.2.length <= 900000) : Calls prog 33 #[.pointer (some ⟨m.p, 0, none⟩)] w fun r w' => r = .returned (.int .i64 (lenP m.P : Int)) /\ w' = w := by
 have HH := hid h
 have HF := hid hf
 have HNO := hid (yE_ h)
 have c7 := h.c
 have hm4 := h.few
 have hml : (m.tabs.length : Int) <= 1000000 := by omega
 clear h hf
 go_enter func33, ntmps33
 go_wp2_with fail
 refine HNO.out.mono ?_; rintro r w' ⟨rfl, rfl⟩
 go_wp2_with fail
 clear c7
 go_loopw [3, 14] (fun s i wr => ∃ k : Nat, k <= m.tabs.length /\ i = .int .i64 (k : Int) /\ s = .int .i64 (lenP (m.P.take k) : Int) /\ wr = w) (fun _ i _ => m.tabs.length - (intOf i).toNat)
 case atStart => exact ⟨0, by omega, rfl, rfl, rfl⟩
 case round =>
  obtain ⟨k, hk, rfl, rfl, rfl⟩ := hrel
  by_cases hlt : k < m.tabs.length
  ·have d1 : (k : Int) < (m.tabs.length : Int) := by omega
   obtain ⟨x, hx⟩ : ∃ x, m.tabs[k]? = some x := ⟨_, List.getElem?_eq_getElem hlt⟩
   have hxm := List.mem_of_getElem? hx
   have ct := HH.out.st.now.tab k x hx
   have hown := (HH.out.maps x hxm).own
   have hP : m.P[k]? = some (x6_ x.2) := by unfold Md.P; rw [List.getElem?_map, hx]; rfl
   have hb1 := HF.out x hxm
   have hs1 := lenP_take hP
   have hs2 : lenP (m.P.take k) <= 3600000 := by
    have h1 := lenP_le (m.P.take k) 900000 (fun t ht => by
     obtain ⟨z, hz, rfl⟩ := List.mem_map.1 (List.mem_of_mem_take ht)
     unfold x6_; rw [List.length_map]; exact HF.out z hz)
    have h2 : (m.P.take k).length <= 4 := by rw [List.length_take, Md.P_len]; omega
    exact Nat.le_trans h1 (Nat.le_trans (Nat.mul_le_mul_right 900000 h2) (Nat.le_of_eq rfl))
   have htl : (x6_ x.2).length = x.2.length := by unfold x6_; exact List.length_map _
   have HS := hid (And.intro hs1 (And.intro hs2 (And.intro htl hb1)))
   have hln : ∀ ty, (Builtin.len_ #[90] ty #[.map (some x.1)]).run prog _ = .ok (.int .i64 (x.2.length : Int)) _ := fun ty => by
    have := hown.len underlying90 ty
    rw [xj_] at this; exact this
   have hi1 : (lenP (m.P.take k) : Int) <= 3600000 := by omega
   have hi2 : (x.2.length : Int) <= 900000 := by omega
   clear hs1 hs2 htl hb1 hP hx hxm hown
   go_wp2_with fail
   go_roundw
   case rel =>
    refine ⟨k + 1, by omega, by go_num, ?_, trivial⟩
    obtain ⟨a1, a2, a3, a4⟩ := HS.out
    rw [a1, a3]
    go_num
   case measure => simp [intOf]; omega
  ·have d1 : ¬ (k : Int) < (m.tabs.length : Int) := by omega
   have hte : m.P.take k = m.P := List.take_of_length_le (by rw [Md.P_len]; omega)
   rw [hte]
   clear hte
   go_wp2_with fail
   go_ret
   exact ⟨rfl, rfl⟩
structure TbW (W : World) (b : Nat) (L : List (List Int × RV)) : Prop where
 mp : Mp W b RV.v L
 rows : ∀ e ∈ L, RdR W e.2.ra e.2.R
 lim : tOk (x6_ L)
def jobV (a : Option Addr) (c : Nat) : Job := ⟨1, 1, 3, 1024, 1024, 1, a, 1, c, [1]⟩
theorem job_law (w : World) : Calls prog 31 #[] w fun r w' => ∃ a c, r = .returned (.agg #[.int .i64 1, .int .i64 1, .int .i64 3, .int .i64 1024, .int .i64 1024, .int .i64 1, .slice a 1 c]) /\ Below w.heap.size w w' /\ yb_ w' (jobV a c) := by
 go_enter func31, ntmps31
 go_wp2_with fail
 have hb1 : zg_ ((w.alloc (.cells #[.int .i64 1, .int .i64 1, .int .i64 3, .int .i64 1024, .int .i64 1024, .int .i64 1, .slice (some ⟨w.heap.size + 1, 0, none⟩) 1 1] 24)).alloc (.cells #[.int .i64 1] 3)) w.heap.size #[.int .i64 1, .int .i64 1, .int .i64 3, .int .i64 1024, .int .i64 1024, .int .i64 1, .slice (some ⟨w.heap.size + 1, 0, none⟩) 1 1] 24 := (zg_.new w #[.int .i64 1, .int .i64 1, .int .i64 3, .int .i64 1024, .int .i64 1024, .int .i64 1, .slice (some ⟨w.heap.size + 1, 0, none⟩) 1 1] 24).alloc _
 have hb2 : zg_ ((w.alloc (.cells #[.int .i64 1, .int .i64 1, .int .i64 3, .int .i64 1024, .int .i64 1024, .int .i64 1, .slice (some ⟨w.heap.size + 1, 0, none⟩) 1 1] 24)).alloc (.cells #[.int .i64 1] 3)) (w.heap.size + 1) #[.int .i64 1] 3 := by
  have := zg_.new (w.alloc (.cells #[.int .i64 1, .int .i64 1, .int .i64 3, .int .i64 1024, .int .i64 1024, .int .i64 1, .slice (some ⟨w.heap.size + 1, 0, none⟩) 1 1] 24)) #[.int .i64 1] 3
  rwa [World.size_alloc] at this
 have hbl : Below w.heap.size w ((w.alloc (.cells #[.int .i64 1, .int .i64 1, .int .i64 3, .int .i64 1024, .int .i64 1024, .int .i64 1, .slice (some ⟨w.heap.size + 1, 0, none⟩) 1 1] 24)).alloc (.cells #[.int .i64 1] 3)) := za_ (bl1 _ _) (bl1 _ _)
 generalize (w.alloc (.cells #[.int .i64 1, .int .i64 1, .int .i64 3, .int .i64 1024, .int .i64 1024, .int .i64 1, .slice (some ⟨w.heap.size + 1, 0, none⟩) 1 1] 24)).alloc (.cells #[.int .i64 1] 3) = w2 at hb1 hb2 hbl ⊢
 have q0 := hb1.cell 0
 have q1 := hb1.cell 1
 have q2 := hb1.cell 2
 have q3 := hb1.cell 3
 have q4 := hb1.cell 4
 have q5 := hb1.cell 5
 have q6 := hb1.cell 6
 simp only [gtA, gtB, gtC] at q0 q1 q2 q3 q4 q5 q6
 refine bodyPost_ret (v := .agg #[.int .i64 1, .int .i64 1, .int .i64 3, .int .i64 1024, .int .i64 1024, .int .i64 1, .slice (some ⟨w.heap.size + 1, 0, none⟩) 1 1]) (by simp [results, results31, go_sem, q0, q1, q2, q3, q4, q5, q6]) rfl ?_
 refine ⟨_, _, rfl, hbl, ⟨⟨fun k hk => ?_, (fun e => by cases e), by simp [jobV]⟩, rfl, by simp [jobV]⟩⟩
 have hk0 : k = 0 := by simp [jobV] at hk; exact hk
 subst hk0
 exact ⟨w.heap.size + 1, 0, rfl, by rw [hb2.cell]; rfl⟩
def xg_ (a b : Nat × List Int × List (List Int)) : Prop := ¬ (a.1 = b.1 /\ a.2.1 = b.2.1)
theorem yB_ {l : Ws} (h : l.Pairwise xg_) (t : Nat) (K : List Int) (R : List (List Int)) : (xP_ l t K R).Pairwise xg_ := by
 unfold xP_
 split
 ·rename_i ha
  rw [List.pairwise_map]
  refine h.imp fun {a b} hd => ?_
  have e : ∀ w : Nat × List Int × List (List Int), (if w.1 = t /\ w.2.1 = K then (t, K, R) else w).1 = w.1 /\ (if w.1 = t /\ w.2.1 = K then (t, K, R) else w).2.1 = w.2.1 := fun w => by
   by_cases hw : w.1 = t /\ w.2.1 = K
   ·rw [if_pos hw]; exact ⟨hw.1.symm, hw.2.symm⟩
   ·rw [if_neg hw]; exact ⟨rfl, rfl⟩
  intro hc
  rw [(e a).1, (e a).2, (e b).1, (e b).2] at hc
  exact hd hc
 ·rename_i ha
  rw [List.pairwise_append]
  refine ⟨h, List.pairwise_singleton _ _, fun a hm b hb hc => ha ?_⟩
  rw [List.mem_singleton] at hb
  subst hb
  rw [List.any_eq_true]
  exact ⟨a, hm, decide_eq_true hc⟩
theorem callP_apart (j : Job) (T : List (List Pr)) {ws : Ws} (h : ws.Pairwise xg_) (o : zj_) : (z9_ j T ws o).2.Pairwise xg_ := by
 unfold z9_
 split
 ·exact h
 ·split
  ·exact yB_ h _ _ _
  ·split
   ·split
    ·exact h
    ·exact yB_ h _ _ _
   ·split
    ·split
     ·exact yB_ h _ _ _
     ·exact h
    ·split
     ·exact h
     ·exact h
theorem jj_ (j : Job) (T : List (List Pr)) (ops : List zj_) : (z1_ j T ops).2.Pairwise xg_ := by
 induction ops using zS_ with
 | nil => exact List.Pairwise.nil
 | append_singleton l o ih =>
  have e : z1_ j T (l ++ [o]) = y1_ j T (z1_ j T l) o := by unfold z1_; rw [List.foldl_append]; rfl
  rw [e]
  exact callP_apart j T ih o
end
end Go.Proofs.YthmofoldmdafoaaGreat
