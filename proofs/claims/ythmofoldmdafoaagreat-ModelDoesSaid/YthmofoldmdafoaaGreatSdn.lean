/- Part of the proof that ModelDoes holds for every input: tables, under any transactions, answer, write and stand as the document says. Part 14. -/
import Derived.Test.YthmofoldmdafoaaGreatSdm
set_option linter.unusedVariables false
set_option linter.unusedSimpArgs false
set_option maxRecDepth 100000
set_option maxHeartbeats 4000000
namespace Go.Proofs.YthmofoldmdafoaaGreat
open Go.ChangeShapes Go.WideShapes Go.ChangeAt Go.RowKit
open Go.Lib (hid)
open Go.Proofs.Tryz
section
open Go.Maps
def bcl (b : Nat) : List Value := [.map (some b)]
theorem store_func (w : World) (a : Addr) (f : Fn) (cs : Array Value) (o : Value) (hc : w.cell? a = some o) (hf : w.frozen? a = false) : (store a (.func f #[] cs)).run prog w = .ok () (w.setCell a (.func f #[] cs)) := by
 rw [run_store prog w a _ _ rfl, hc, hf]; rfl
theorem j9_ (b : Nat) : (bcl b).length = 1 := rfl
theorem y7_ {S : Nat -> Prop} {m : Md} {w : World} (h : MdR S w m) (hS : ∀ k, S k -> k < w.heap.size) :
  Calls prog 81 #[.pointer (some ⟨m.p, 0, none⟩)] w fun r w' => ∃ S' x, r = .returned (.pointer (some ⟨x.px, 0, none⟩)) /\ Below w.heap.size w w' /\ TlR S' w.heap.size w' m x /\ x.ws = [] /\ x.rs = [] /\ (∀ k, S k -> S' k) /\ (∀ k, S' k -> S k ∨ w.heap.size <= k) := by
 have HH := hid h
 have HS := hid hS
 have hc := h.c
 have hfew := h.few
 have htl : (m.tabs.length : Int) <= 1000000 := by omega
 have hmm := @run_makeMap prog
 have HMM := hid hmm
 clear h hS
 go_enter func81, ntmps81
 go_upto_region 2 with (fail)
 have hb0 := ((zg_.new w #[.pointer (some ⟨m.p, 0, none⟩)] 28).alloc (.cells #[.pointer (some ⟨m.p, 0, none⟩), .slice none 0 0, .slice none 0 0, .slice none 0 0, .nilFunc] 123)).alloc (.cells #[.pointer (some ⟨w.heap.size + 1, 0, none⟩)] 117)
 have hb1 := (zg_.new (w.alloc (.cells #[.pointer (some ⟨m.p, 0, none⟩)] 28)) #[.pointer (some ⟨m.p, 0, none⟩), .slice none 0 0, .slice none 0 0, .slice none 0 0, .nilFunc] 123).alloc (.cells #[.pointer (some ⟨w.heap.size + 1, 0, none⟩)] 117)
 have hb2 := zg_.new ((w.alloc (.cells #[.pointer (some ⟨m.p, 0, none⟩)] 28)).alloc (.cells #[.pointer (some ⟨m.p, 0, none⟩), .slice none 0 0, .slice none 0 0, .slice none 0 0, .nilFunc] 123)) #[.pointer (some ⟨w.heap.size + 1, 0, none⟩)] 117
 have hbl : Below w.heap.size w (((w.alloc (.cells #[.pointer (some ⟨m.p, 0, none⟩)] 28)).alloc (.cells #[.pointer (some ⟨m.p, 0, none⟩), .slice none 0 0, .slice none 0 0, .slice none 0 0, .nilFunc] 123)).alloc (.cells #[.pointer (some ⟨w.heap.size + 1, 0, none⟩)] 117)) := za_ (za_ (bl1 _ _) (bl1 _ _)) (bl1 _ _)
 rw [World.size_alloc] at hb1
 rw [World.size_alloc, World.size_alloc] at hb2
 generalize ((w.alloc (.cells #[.pointer (some ⟨m.p, 0, none⟩)] 28)).alloc (.cells #[.pointer (some ⟨m.p, 0, none⟩), .slice none 0 0, .slice none 0 0, .slice none 0 0, .nilFunc] 123)).alloc (.cells #[.pointer (some ⟨w.heap.size + 1, 0, none⟩)] 117) = w0 at hb0 hb1 hb2 hbl ⊢
 have HB0 := hid hb0
 have HB1 := hid hb1
 have HB2 := hid hb2
 have HBL := hid hbl
 have hc0 := tcb hbl hc
 have hv0 := hb0.cell 0
 simp only [gtA, gtB] at hv0
 clear hb0 hb1 hb2 hbl hc
 go_wp2_with fail
 clear hc0 hv0 hmm
 go_loopw [12] (fun i wr => ∃ (k : Nat) (B : List Nat) (wv : Value), k <= m.tabs.length /\ i = .int .i64 (k : Int) /\ Hid (zg_ wr w.heap.size #[.pointer (some ⟨m.p, 0, none⟩)] 28) /\ Hid (zg_ wr (w.heap.size + 1) #[.pointer (some ⟨m.p, 0, none⟩), wv, .slice none 0 0, .slice none 0 0, .nilFunc] 123) /\ Hid (zg_ wr (w.heap.size + 1 + 1) #[.pointer (some ⟨w.heap.size + 1, 0, none⟩)] 117) /\ Hid (B.length = k) /\ Hid (wr.ownsRow w.heap.size 173 1 wv k (cellsOf bcl B)) /\ Hid (∀ b ∈ B, Mp wr b iV [] /\ w.heap.size <= b) /\ Hid B.Nodup /\ Hid (Below w.heap.size w wr)) (fun i _ => m.tabs.length - (intOf i).toNat)
 case atStart => exact ⟨0, [], .slice none 0 0, by omega, rfl, HB0, HB1, HB2, hid rfl, hid (World.ownsRow_nil _ _ _ _), hid (fun b hb => by simp at hb), hid List.nodup_nil, HBL⟩
 case round =>
  obtain ⟨k, B, wv, hk, rfl, HX0, HXP, HXV, HN, HOW, HMP, HND, HB⟩ := hrel
  by_cases hlt : k < m.tabs.length
  ·have d1 : (k : Int) < (m.tabs.length : Int) := by omega
   have hmm := HMM.out
   have hnb : ∀ g cs t, t ≠ 173 -> zg_ wr g cs t -> ¬ wv.ownBlock = some g := fun g cs t ht hb e => by
    obtain ⟨_, _, cur, hb2⟩ := zb_ HOW.out e
    exact zo_ hb2 hb (Ne.symm ht) rfl
   have HBP := hid (fun X (o : Off (fun k => wv.ownBlock = some k) wr X) => o.box HXP.out (hnb _ _ _ Xt4 HXP.out))
   have HBV := hid (fun X (o : Off (fun k => wv.ownBlock = some k) wr X) => o.box HXV.out (hnb _ _ _ Xt4 HXV.out))
   have HB0' := hid (fun X (o : Off (fun k => wv.ownBlock = some k) wr X) => o.box HX0.out (hnb _ _ _ Xt4 HX0.out))
   have HPX := hid (fun X (o : Off (fun k => wv.ownBlock = some k) wr X) => (by rw [(HBP.out X o).cell]; rfl : X.cell? ⟨w.heap.size + 1, 1, none⟩ = some wv))
   have HVX := hid (fun X (o : Off (fun k => wv.ownBlock = some k) wr X) => (by rw [(HBV.out X o).cell]; rfl : X.cell? ⟨w.heap.size + 1 + 1, 0, none⟩ = some (.pointer (some ⟨w.heap.size + 1, 0, none⟩))))
   clear hnb
   go_upto_region 4 with (fail)
   refine zr_ (z := 10) (S := (fun X => Off (fun k => wv.ownBlock = some k) wr X)) Xt3 ((Off.refl _ _).drew) fun hH => ?_
   refine tlk 0 rfl (fun W hSw => by have m := HVX.out W hSw; exact tks) ?_
   refine tlk 1 rfl (fun W hSw => by have m := HVX.out W hSw; exact tks) ?_
   refine tlk 2 rfl Xt2 ?_
   refine tlk 3 rfl Xt2 ?_
   refine tlk 4 rfl (fun W hSw => by have m := HPX.out W hSw; exact tks) ?_
   refine tl1 5 rfl fun K hK => ?_
   go_simp
   have HB5 := hid (((Below.refl wr.heap.size wr).drew).trans (bl1 wr.drew (.map #[] 0)))
   have HF5 := hid (hH.then (bl1 wr.drew (.map #[] 0)))
   refine hK.out _ _ HF5.out fun hH => ?_
   refine stP ?_
   refine tl1 6 rfl fun K hK => ?_
   go_simp
   have HB6 := hid (za_ HB5.out (bl1 (wr.drew.alloc (.map #[] 0)) (.cells #[.map (some wr.heap.size)] 173)))
   have HF6 := hid (hH.then (bl1 (wr.drew.alloc (.map #[] 0)) (.cells #[.map (some wr.heap.size)] 173)))
   refine hK.out _ _ HF6.out fun hH => ?_
   refine stP ?_
   refine tl1 7 rfl fun K hK => ?_
   have hown := ze_ HOW.out HB6.out
   refine zC_ ae_imap rfl _ _ rfl w.heap.size wv k (cellsOf bcl B) rfl hown ⟨(wr.drew.alloc (.map #[] 0)).heap.size, 0, none⟩ 1 1 [.map (some wr.heap.size)] (by simp [go_sem]) rfl (zx_ (wr.drew.alloc (.map #[] 0)) _ _ _ rfl) Xt31 Xt0 (Nat.le_trans HB.out.size HB6.out.size) ?_
   intro v9 w9 hown9 hgrow9 hat9
   obtain ⟨a9, c9, hv9⟩ := zd_ hown9
   subst hv9
   have HO9 := hid hown9
   have HG9 := hid hgrow9
   have HAT := hid hat9
   have HF9 := hid (hH.trans (Off.of_row hgrow9))
   refine hK.out _ _ HF9.out (fun hHeldn => ?_)
   clear hown hown9 hgrow9 hat9
   clear hK K hH; have hH := hHeldn; clear hHeldn
   refine stP ?_
   refine tlf 8 rfl Xt2 ?_
   refine tlk 9 rfl Xt2 ?_
   refine tlz rfl fun K hK => ?_
   have x4 := HPX.out w9 HF9.out
   have f4 := (HBP.out w9 HF9.out).frozen 1
   go_simp
   refine hK.out _ _ ?_
   clear hK K x4 f4
   refine stP ?_
   refine zz_ Xt3 ?_ _
   skip
   have hP9 := HBP.out w9 HF9.out
   have hV9 := HBV.out w9 HF9.out
   have h09 := HB0'.out w9 HF9.out
   have hne9 : ∀ g, Value.ownBlock (.slice a9 (k + 1) c9) = some g -> g ≠ w.heap.size + 1 := fun g hg => by
    exact Xb83
   have oP : Off (fun k => k = w.heap.size + 1) w9 (w9.setCell ⟨w.heap.size + 1, 1, none⟩ (.slice a9 (k + 1) c9)) := Off.set (S := fun k => k = w.heap.size + 1) (Off.refl _ w9) ⟨w.heap.size + 1, 1, none⟩ rfl _
   have q1 := oP.box h09 Xt0
   have q2 : zg_ (w9.setCell ⟨w.heap.size + 1, 1, none⟩ (.slice a9 (k + 1) c9)) (w.heap.size + 1) #[.pointer (some ⟨m.p, 0, none⟩), .slice a9 (k + 1) c9, .slice none 0 0, .slice none 0 0, .nilFunc] 123 := heap_setCell_same w9 (w.heap.size + 1) 1 _ 123 _ hP9
   have q3 := oP.box hV9 Xt0
   have q4 := zm_ HO9.out oP (fun g hg e => hne9 g hg e)
   have hbwv : ∀ b, wv.ownBlock = some b -> b < wr.heap.size := fun b hb => (zb_ HOW.out hb).2.1
   have q5 : ∀ b ∈ B ++ [wr.heap.size], Mp (w9.setCell ⟨w.heap.size + 1, 1, none⟩ (.slice a9 (k + 1) c9)) b iV [] /\ w.heap.size <= b := fun b hb => by
    rcases List.mem_append.1 hb with hb | hb
    ·exact Xb61
    ·rw [List.mem_singleton] at hb
     subst hb
     have h1 := (Mp.new wr.drew iV).below (bl1 (wr.drew.alloc (.map #[] 0)) (.cells #[.map (some wr.heap.size)] 173))
     exact Xb84
   have q6 : (B ++ [wr.heap.size]).Nodup := List.nodup_append.2 ⟨HND.out, by simp, fun a ha b hb e => by
    rw [List.mem_singleton] at hb
    subst hb
    subst e
    exact Nat.lt_irrefl _ (HMP.out _ ha).1.lt⟩
   have q7 : Below w.heap.size w (w9.setCell ⟨w.heap.size + 1, 1, none⟩ (.slice a9 (k + 1) c9)) := (Off.below HB.out HF9.out HB.out.size (fun g hg => (zb_ HOW.out hg).1)).setCell (Nat.le_succ _) _
   have Q1 := hid q1
   have Q2 := hid q2
   have Q3 := hid q3
   have Q4 := hid q4
   have Q5 := hid q5
   have Q6 := hid q6
   have Q7 := hid q7
   clear q1 q2 q3 q4 q5 q6 q7 hP9 hV9 h09 hne9 oP hbwv hH hmm
   go_wp2_with fail
   go_roundw
   case rel => exact ⟨k + 1, B ++ [wr.heap.size], .slice a9 (k + 1) c9, by omega, by go_num, Q1, Q2, Q3, hid (by rw [List.length_append, HN.out]; rfl), hid (by rw [zq_]; exact Q4.out), Q5, Q6, Q7⟩
   case measure => simp [intOf]; omega
  ·have d1 : ¬ (k : Int) < (m.tabs.length : Int) := by omega
   have hke : k = m.tabs.length := by omega
   have v0 := HXV.out.cell 0
   have p4 := HXP.out.cell 4
   have f4 := HXP.out.frozen 4
   simp only [gtA, gtB, gtC] at v0 p4
   have hsf := store_func wr ⟨w.heap.size + 1, 4, none⟩ (.func 107) #[.pointer (some ⟨w.heap.size + 1 + 1, 0, none⟩), .pointer (some ⟨w.heap.size, 0, none⟩)] _ p4 f4
   go_upto_region 7 with (fail)
   have oP : Off (fun k => k = w.heap.size + 1) wr (wr.setCell ⟨w.heap.size + 1, 4, none⟩ (.func (.func 107) #[] #[.pointer (some ⟨w.heap.size + 1 + 1, 0, none⟩), .pointer (some ⟨w.heap.size, 0, none⟩)])) := Off.set (S := fun k => k = w.heap.size + 1) (Off.refl _ wr) ⟨w.heap.size + 1, 4, none⟩ rfl _
   have hbl : Below w.heap.size w (wr.setCell ⟨w.heap.size + 1, 4, none⟩ (.func (.func 107) #[] #[.pointer (some ⟨w.heap.size + 1 + 1, 0, none⟩), .pointer (some ⟨w.heap.size, 0, none⟩)])) := HB.out.setCell (Nat.le_succ _) _
   have q2 : zg_ (wr.setCell ⟨w.heap.size + 1, 4, none⟩ (.func (.func 107) #[] #[.pointer (some ⟨w.heap.size + 1 + 1, 0, none⟩), .pointer (some ⟨w.heap.size, 0, none⟩)])) (w.heap.size + 1) #[.pointer (some ⟨m.p, 0, none⟩), wv, .slice none 0 0, .slice none 0 0, .func (.func 107) #[] #[.pointer (some ⟨w.heap.size + 1 + 1, 0, none⟩), .pointer (some ⟨w.heap.size, 0, none⟩)]] 123 := heap_setCell_same wr (w.heap.size + 1) 4 _ 123 _ HXP.out
   generalize wr.setCell ⟨w.heap.size + 1, 4, none⟩ (.func (.func 107) #[] #[.pointer (some ⟨w.heap.size + 1 + 1, 0, none⟩), .pointer (some ⟨w.heap.size, 0, none⟩)]) = w8 at oP hbl q2 ⊢
   have q1 := oP.box HX0.out Xt0
   have q3 := oP.box HXV.out Xt0
   have z0 := q3.cell 0
   simp only [gtA, gtB] at z0
   have HOP := hid oP
   have HBL8 := hid hbl
   have HQ := hid (And.intro q1 (And.intro q2 q3))
   clear v0 p4 f4 hsf oP hbl q1 q2 q3
   go_wp2_with fail
   go_ret
   obtain ⟨wa, wc, hwv⟩ := zd_ HOW.out
   have how := HOW.out
   rw [hwv] at how
   have hbn : 0 < B.length := by rw [HN.out]; omega
   obtain ⟨b0, hb0⟩ : ∃ b, B[0]? = some b := ⟨_, List.getElem?_eq_getElem hbn⟩
   obtain ⟨g, hg, hgb, _⟩ := zt_ j9_ Xt0 how HN.out 0 b0 hb0
   rw [hg] at how hwv
   obtain ⟨_, hgl, cur, hgx⟩ := zb_ how rfl
   have hgp : g ≠ w.heap.size + 1 := zo_ hgx HXP.out Xt4
   have how8 := zm_ how HOP.out (fun q hq e => by simp [Value.ownBlock] at hq; omega)
   have hmp8 : ∀ b ∈ B, Mp w8 b iV [] := fun b hb => (HMP.out b hb).1.off HOP.out fun e => (HMP.out b hb).1.ne_box HXP.out e
   obtain ⟨q1, q2, q3⟩ := HQ.out
   have hS' : ∀ k, (fun k => S k ∨ k = w.heap.size + 1 ∨ k ∈ B) k -> S k ∨ w.heap.size <= k := fun k hk => by
    rcases hk with hk | hk | hk
    ·exact .inl hk
    ·exact .inr Xt0
    ·exact .inr (HMP.out k hk).2
   refine ⟨fun k => S k ∨ k = w.heap.size + 1 ∨ k ∈ B, ⟨w.heap.size + 1, w.heap.size + 1 + 1, w.heap.size, g, wc, B.map fun b => (b, []), .slice none 0 0, .slice none 0 0, [], []⟩, rfl, HBL8.out, ⟨?_, ?_, ?_, ?_, ?_, ?_, World.ownsRow_nil _ _ _ _, Xt77, Xt77, World.ownsRow_nil _ _ _ _, Xt77, ?_, .inr (.inl rfl), ?_, Xt54, Xt54, ?_, ?_, Nat.le_succ _, ?_, ?_, by simp, by simp⟩, rfl, rfl, fun k hk => .inl hk, hS'⟩
   ·exact HH.out.off (T := fun _ => False) (Off.of HBL8.out) (fun _ h => h.elim) (fun _ _ h => h) hS' fun x hx => .inl (HH.out.hS x hx)
   ·intro k hk
    rcases hk with hk | rfl | hk
    ·exact Nat.lt_of_lt_of_le (HS.out k hk) HBL8.out.size
    ·exact q2.lt
    ·exact (hmp8 k hk).lt
   ·unfold Tl.cs
    rw [List.length_map, HN.out, ← hwv]
    exact q2
   ·intro W' o
    refine ⟨o.box q3 ?_, o.box q1 ?_, ?_⟩
    ·rintro (hk | hk | hk)
     ·exact absurd (show w.heap.size + 1 + 1 < w.heap.size from HS.out _ hk) Xt0
     ·exact absurd (show w.heap.size + 1 + 1 = w.heap.size + 1 from hk) Xt0
     ·exact (hmp8 _ hk).ne_box q3 rfl
    ·rintro (hk | hk | hk)
     ·exact absurd (show w.heap.size < w.heap.size from HS.out _ hk) Xt0
     ·exact absurd (show w.heap.size = w.heap.size + 1 from hk) Xt0
     ·exact (hmp8 _ hk).ne_box q1 rfl
    ·intro i y hy
     rw [List.getElem?_map] at hy
     cases hbi : B[i]? with
     | none => rw [hbi] at hy; cases hy
     | some b =>
      rw [hbi] at hy
      cases hy
      have hog := zm_ how8 o (fun q hq => by
       simp [Value.ownBlock] at hq
       subst hq
       rintro (hk | hk | hk)
       ·have := HS.out _ hk; omega
       ·omega
       ·obtain ⟨_, _, cur8, hg8⟩ := zb_ how8 rfl
        exact (hmp8 _ hk).ne_box hg8 rfl)
      obtain ⟨g', e, _, hcc⟩ := zt_ j9_ Xt0 hog HN.out i b hbi
      cases e
      have := hcc 0 Xt0
      exact Xb59
   ·intro y hy
    obtain ⟨b, hb, rfl⟩ := List.mem_map.1 hy
    exact hmp8 b hb
   ·rw [List.length_map, HN.out]; omega
   ·intro t y hy K i
    rw [List.getElem?_map] at hy
    cases hbi : B[t]? with
    | none => rw [hbi] at hy; cases hy
    | some b =>
     rw [hbi] at hy
     cases hy
     simp [yc_]
   ·intro y hy
    obtain ⟨b, hb, rfl⟩ := List.mem_map.1 hy
    exact .inr (.inr hb)
   ·rw [List.map_map]
    have : (Prod.fst ∘ fun b : Nat => (b, ([] : List (List Int × Nat)))) = id := rfl
    rw [this, List.map_id]; exact HND.out
   ·intro y hy
    exact HS.out _ (HH.out.hS y hy)
   ·intro y hy
    obtain ⟨b, hb, rfl⟩ := List.mem_map.1 hy
    exact (HMP.out b hb).2
   ·intro y hy
    obtain ⟨b, hb, rfl⟩ := List.mem_map.1 hy
    exact Nat.le_refl _
theorem law72 : Keyed prog 72 := int_keyed underlying72
theorem key72 (k : Int) (hk : 0 <= k /\ k <= 6) : keyOf prog 72 (.int .i64 k) = some (.int .i64 k) := by
 have e : IntKind.i64.min = -9223372036854775808 := rfl
 simp [keyOf, underlying72, mapKey, Lit.wf]
 rw [e]
 omega
def y0_ : DataW Value := .map [(.int .i64 1, .held (.func (.func 123) #[] #[])), (.int .i64 2, .held (.func (.func 124) #[] #[])), (.int .i64 3, .held (.func (.func 125) #[] #[])), (.int .i64 4, .held (.func (.func 126) #[] #[])), (.int .i64 5, .held (.func (.func 127) #[] #[])), (.int .i64 6, .held (.func (.func 128) #[] #[]))]
theorem calls_at1 : y0_.atKey (.int .i64 1) (.held .nilFunc) = .held (.func (.func 123) #[] #[]) := by kernel_rfl
theorem calls_at2 : y0_.atKey (.int .i64 2) (.held .nilFunc) = .held (.func (.func 124) #[] #[]) := by kernel_rfl
theorem calls_at3 : y0_.atKey (.int .i64 3) (.held .nilFunc) = .held (.func (.func 125) #[] #[]) := by kernel_rfl
theorem calls_at4 : y0_.atKey (.int .i64 4) (.held .nilFunc) = .held (.func (.func 126) #[] #[]) := by kernel_rfl
theorem calls_at5 : y0_.atKey (.int .i64 5) (.held .nilFunc) = .held (.func (.func 127) #[] #[]) := by kernel_rfl
theorem calls_at6 : y0_.atKey (.int .i64 6) (.held .nilFunc) = .held (.func (.func 128) #[] #[]) := by kernel_rfl
theorem calls_put : (((((((DataW.map [] : DataW Value).put (.int .i64 1) (.held (.func (.func 123) #[] #[]))).put (.int .i64 2) (.held (.func (.func 124) #[] #[]))).put (.int .i64 3) (.held (.func (.func 125) #[] #[]))).put (.int .i64 4) (.held (.func (.func 126) #[] #[]))).put (.int .i64 5) (.held (.func (.func 127) #[] #[]))).put (.int .i64 6) (.held (.func (.func 128) #[] #[]))) = y0_ := by kernel_rfl
theorem zero159 (w : World) : (zeroValue 159).run prog w = .ok .nilFunc w := by kernel_rfl
theorem calls_look {W : World} {b n : Nat} (h : W.ownsMap prog 72 RF b n y0_) (k : Nat) (h1 : 1 <= k) (h2 : k <= 6) : (Instr.lookup 157 (.map (some b)) (.int .i64 (k : Int)) false).run prog W = .ok (.func (.func (122 + k)) #[] #[]) W := by
 obtain ⟨v, ps, hr, hv⟩ := h.lookup law72 underlying157 (zero159 W) (zd := .held .nilFunc) (zp := []) rfl (key72 k Xt0)
 have e := RF_inv hv
 have e1 := (Prod.mk.inj e).1
 have : DataW.held (.func (.func (122 + k)) #[] #[]) = DataW.held v := by
  rw [← e1]
  clear hr hv e e1
  match k, h1, h2 with
  | 1, _, _ => exact calls_at1.symm
  | 2, _, _ => exact calls_at2.symm
  | 3, _, _ => exact calls_at3.symm
  | 4, _, _ => exact calls_at4.symm
  | 5, _, _ => exact calls_at5.symm
  | 6, _, _ => exact calls_at6.symm
 rw [DataW.held.inj this]; exact hr
theorem calls_law (w : World) : Calls prog 96 #[] w fun r w' => r = .returned (.map (some w.heap.size)) /\ Below w.heap.size w w' /\ w'.ownsMap prog 72 RF w.heap.size 6 y0_ := by
 have hmm := @run_makeMap prog
 have h0 := World.ownsMap_made w prog 72 RF
 obtain ⟨w1, r1, h1, g1⟩ := h0.update law72 underlying157 Xt15 (key72 1 Xt0) (show RF (.func (.func 123) #[] #[]) = some (.held (.func (.func 123) #[] #[]), []) from rfl)
 obtain ⟨w2, r2, h2, g2⟩ := h1.update law72 underlying157 Xt15 (key72 2 Xt0) (show RF (.func (.func 124) #[] #[]) = some (.held (.func (.func 124) #[] #[]), []) from rfl)
 obtain ⟨w3, r3, h3, g3⟩ := h2.update law72 underlying157 Xt15 (key72 3 Xt0) (show RF (.func (.func 125) #[] #[]) = some (.held (.func (.func 125) #[] #[]), []) from rfl)
 obtain ⟨w4, r4, h4, g4⟩ := h3.update law72 underlying157 Xt15 (key72 4 Xt0) (show RF (.func (.func 126) #[] #[]) = some (.held (.func (.func 126) #[] #[]), []) from rfl)
 obtain ⟨w5, r5, h5, g5⟩ := h4.update law72 underlying157 Xt15 (key72 5 Xt0) (show RF (.func (.func 127) #[] #[]) = some (.held (.func (.func 127) #[] #[]), []) from rfl)
 obtain ⟨w6, r6, h6, g6⟩ := h5.update law72 underlying157 Xt15 (key72 6 Xt0) (show RF (.func (.func 128) #[] #[]) = some (.held (.func (.func 128) #[] #[]), []) from rfl)
 have hgr : ∀ {X Y : World}, Below w.heap.size w X -> w.heap.size < X.heap.size -> X.grownBy Y (some w.heap.size) -> Below w.heap.size w Y /\ w.heap.size < Y.heap.size := fun {X Y} b hl g => ⟨b.grown g (Nat.le_of_lt hl) (fun j hj => by cases hj; exact Nat.le_refl _), Nat.lt_of_lt_of_le hl g.size⟩
 have b0 : Below w.heap.size w (w.alloc (.map #[] 0)) /\ w.heap.size < (w.alloc (.map #[] 0)).heap.size := ⟨bl1 _ _, by simp⟩
 have b1 := hgr b0.1 b0.2 g1
 have b2 := hgr b1.1 b1.2 g2
 have b3 := hgr b2.1 b2.2 g3
 have b4 := hgr b3.1 b3.2 g4
 have b5 := hgr b4.1 b4.2 g5
 have b6 := hgr b5.1 b5.2 g6
 have HB := hid b6.1
 have HM := hid (show w6.ownsMap prog 72 RF w.heap.size 6 y0_ from calls_put ▸ h6)
 clear b0 b1 b2 b3 b4 b5 b6 hgr g1 g2 g3 g4 g5 g6 h0 h1 h2 h3 h4 h5 h6
 go_enter func96, ntmps96
 go_wp2_with fail
 go_ret
 exact ⟨rfl, HB.out, HM.out⟩
end
section
open Go.Maps Go.Shelf
attribute [local go_sem] Oper.semAt_some
theorem yC_ {w w' : World} {base n size : Nat} {e : TypeId} {v : Value} {xs : List Value} {row : Option Nat} (h : w.ownsRow base e size v n xs) (hg : w.grownBy w' row) (hr : ∀ r, row = some r -> ∃ o : Obj, w.heap[r]? = some o /\ o.isCells = false) : w'.ownsRow base e size v n xs := by
 refine h.kept hg ?_
 rcases h.2 with ⟨rfl, _⟩ | ⟨g, cap, cur, rfl, _, hgg, _⟩
 ·exact .inl rfl
 ·refine .inr fun e => ?_
  obtain ⟨o, ho, hc⟩ := hr g (by rw [← e]; rfl)
  rw [hgg] at ho; cases ho; cases hc
theorem yU_ {w w' : World} {base n size : Nat} {e : TypeId} {v : Value} {xs : List Value} (h : w.ownsRow base e size v n xs) (hg : w.grownBy w' v.ownBlock) : KeepsOthers w w' :=
 ⟨hg.size, fun k o hk ho => (hg.block k (Array.getElem?_eq_some_iff.1 hk).1 (fun e => by
  rcases h.2 with ⟨rfl, _⟩ | ⟨g, cap, cur, rfl, _, hgg, _⟩
  ·cases e
  ·cases e; rw [hgg] at hk; cases hk; cases ho)).trans hk⟩
def encK (K : List Int) : Array Value := #[.string (strOfNums K)]
def skv (K : List Int) : List Value := [.string (strOfNums K)]
theorem jL_ (K : List Int) : (skv K).length = 1 := rfl
section
variable {α : Type} {val : α -> Value}
def q6_ (L : List (List Int × α)) (left : Lit -> Bool) (ss : List (List Int)) : Prop := ss.Nodup /\ ∀ K, K ∈ ss ↔ (K ∈ L.map Prod.fst /\ left (kL K) = false)
def AllS (L : List (List Int × α)) (ss : List (List Int)) : Prop := ss.Nodup /\ ∀ K, K ∈ ss ↔ K ∈ L.map Prod.fst
theorem xY_ {L : List (List Int × α)} {K : List Int} : K ∈ L.map Prod.fst ↔ (yc_ L K).isSome = true := by
 rw [List.mem_map]
 constructor
 ·rintro ⟨p, hp, rfl⟩
  cases h : yc_ L p.1 with
  | some v => rfl
  | none => exact absurd rfl (qY_.1 h p hp)
 ·intro h
  unfold yc_ at h
  rw [Option.isSome_map] at h
  rw [List.find?_isSome] at h
  obtain ⟨p, hp, e⟩ := h
  exact ⟨p, hp, by simpa using e⟩
theorem q6_.start {L : List (List Int × α)} (hb : KByt L) : q6_ L (Maps.has (mOf val L)) [] := ⟨List.nodup_nil, fun K => by
 constructor
 ·intro h; cases h
 ·rintro ⟨h1, h2⟩
  obtain ⟨p, hp, rfl⟩ := List.mem_map.1 h1
  rw [has_mOf hb (hb p hp)] at h2
  rw [xY_.1 h1] at h2
  cases h2⟩
theorem key_in {L : List (List Int × α)} {s : ByteArray} {kl : Lit} (hk : keyOf prog 9 (.string s) = some kl) {d : DataW Value} (hat : ∀ zd, (mOf val L).atKey kl zd = d) : ∃ K, K ∈ L.map Prod.fst /\ s = strOfNums K /\ kl = kL K := by
 have hkl : kl = .string s.data.toList := by
  simp only [keyOf, underlying9] at hk
  simp [mapKey, underlying9] at hk
  exact hk.2.symm
 cases hf : (L.map (entM val)).find? (fun p => p.1.sameKey kl) with
 | none =>
  have h1 := hat .nil
  have h2 := hat (.map [])
  unfold mOf DataW.atKey at h1 h2
  simp only [hf] at h1 h2
  rw [← h1] at h2; cases h2
 | some p =>
  have hm := List.mem_of_find?_eq_some hf
  have hp := List.find?_some hf
  obtain ⟨x, hx, rfl⟩ := List.mem_map.1 hm
  have e : (strOfNums x.1).data.toList = s.data.toList := by
   have : (kL x.1).sameKey kl = true := hp
   rw [hkl] at this
   simpa [kL, Lit.sameKey] using this
  have e2 : s = strOfNums x.1 := ByteArray.ext (by simpa using e.symm)
  exact ⟨x.1, List.mem_map.2 ⟨x, hx, rfl⟩, e2, by rw [hkl, e2]; rfl⟩
theorem q6_.step {L : List (List Int × α)} (hb : KByt L) {left : Lit -> Bool} {ss : List (List Int)} (h : q6_ L left ss) {K : List Int} (hK : K ∈ L.map Prod.fst) (hl : left (kL K) = true) : q6_ L (fun z => left z && !z.sameKey (kL K)) (ss ++ [K]) := by
 have hbk : ∀ J ∈ L.map Prod.fst, Byt J := fun J hJ => by obtain ⟨p, hp, rfl⟩ := List.mem_map.1 hJ; exact hb p hp
 have hx : K ∉ ss := fun hm => by have := ((h.2 K).1 hm).2; rw [hl] at this; cases this
 refine ⟨?_, fun J => ?_⟩
 ·rw [List.nodup_append]
  exact ⟨h.1, by simp, fun a ha b hb e => by simp at hb; subst hb; subst e; exact hx ha⟩
 ·rw [List.mem_append, h.2 J, List.mem_singleton]
  show (J ∈ L.map Prod.fst /\ left (kL J) = false ∨ J = K) ↔ (J ∈ L.map Prod.fst /\ (left (kL J) && !(kL J).sameKey (kL K)) = false)
  by_cases e : J = K
  ·subst e
   rw [qj_ (hbk J hK) (hbk J hK)]
   simp [hK]
  ·constructor
   ·rintro (⟨h1, h2⟩ | h1)
    ·exact ⟨h1, by rw [h2]; rfl⟩
    ·exact absurd h1 e
   ·rintro ⟨h1, h2⟩
    rw [qj_ (hbk J h1) (hbk K hK)] at h2
    simp [e] at h2
    exact .inl ⟨h1, h2⟩
theorem q6_.all {L : List (List Int × α)} {left : Lit -> Bool} {ss : List (List Int)} (h : q6_ L left ss) (hl : ∀ kl, left kl = false) : AllS L ss := ⟨h.1, fun K => by rw [h.2 K, hl]; simp⟩
end
theorem zX_ (fn : Fn) (first cap : Array Value) (w : World) : (Instr.makeFunc fn first cap).run prog w = .ok (.func fn first cap) w := rfl
theorem rkeys_law (w : World) (b : Nat) : Calls prog 110 #[.map (some b)] w fun e w' => e = .returned (.func (.func 133) #[] #[.pointer (some ⟨w.heap.size, 0, none⟩)]) /\ w' = w.alloc (.cells #[.map (some b)] 90) := by
 have hmf := zX_
 go_enter func110, ntmps110
 exact Xb27
theorem rkeys_stops (mm : Nat) (hm : 1 <= mm) (Bm b : Nat) (L : List (List Int × RV)) (w : World) (hB : Boxed w Bm 90 (.map (some b))) (hM : Mp w b RV.v L) :
  SeqStopsK Fence.wide mm prog 133 #[.pointer (some ⟨Bm, 0, none⟩)] encK KeepsWalks (fun ss => AllS L ss) (fun pre => True) (Maps.size (mOf RV.v L)) w := fun lp J Jx W hW hJ _ hY h0 => by
 have hb : Boxed W Bm 90 (.map (some b)) := (hW.block Bm hB.lt).trans hB
 have hMW : Mp W b RV.v L := hM.below hW
 have hownW := hMW.own
 have HBY := hid hMW.byt
 clear hB hM hW hMW
 show CallsIn Fence.wide mm prog 133 #[.func (.yield lp) #[] #[], .pointer (some ⟨Bm, 0, none⟩)] W _
 refine callsIn_of_wp func133 rfl trivial ?_ rfl
 simp only [ntmps133, List.size_toArray, List.length_cons, List.length_nil, Nat.reduceAdd, Nat.reduceSub, Array.replicate_succ, Array.replicate_zero, List.push_toArray, List.append_toArray, List.nil_append, List.cons_append]
 have cb := hb.cell
 gi_wp2_with (first
  | (gi_at_range; refine wpListIn_range_own _ rfl _ 90 rfl 9 50 law9 underlying90 _ b _ _ rfl hownW ?_; intro w0 hrg0 hg0 hs0)
  | gi_in)
 go_frame
 gi_loopw [3] (fun _ wr => ∃ (left : Lit -> Bool) (cnt : Nat) (ss : List (List Int)), wr.ranges prog 9 RF b W.heap.size L.length (mOf RV.v L) left cnt /\ ss.length + cnt <= Maps.size (mOf RV.v L) /\ q6_ L left ss /\ J ss wr)
  (fun _ wr => wr.rangeLeft b W.heap.size)
 case atStart =>
  exact Xb111
 case round =>
  exact Xb13
theorem ikeys_law (w : World) (b : Nat) : Calls prog 111 #[.map (some b)] w fun e w' => e = .returned (.func (.func 134) #[] #[.pointer (some ⟨w.heap.size, 0, none⟩)]) /\ w' = w.alloc (.cells #[.map (some b)] 173) := by
 have hmf := zX_
 go_enter func111, ntmps111
 exact Xb27
theorem ikeys_stops (mm : Nat) (hm : 1 <= mm) (Bm b : Nat) (L : List (List Int × Nat)) (w : World) (hB : Boxed w Bm 173 (.map (some b))) (hM : Mp w b iV L) :
  SeqStopsK Fence.wide mm prog 134 #[.pointer (some ⟨Bm, 0, none⟩)] encK KeepsWalks (fun ss => AllS L ss) (fun pre => True) (Maps.size (mOf iV L)) w := fun lp J Jx W hW hJ _ hY h0 => by
 have hb : Boxed W Bm 173 (.map (some b)) := (hW.block Bm hB.lt).trans hB
 have hMW : Mp W b iV L := hM.below hW
 have hownW := hMW.own
 have HBY := hid hMW.byt
 clear hB hM hW hMW
 show CallsIn Fence.wide mm prog 134 #[.func (.yield lp) #[] #[], .pointer (some ⟨Bm, 0, none⟩)] W _
 refine callsIn_of_wp func134 rfl trivial ?_ rfl
 simp only [ntmps134, List.size_toArray, List.length_cons, List.length_nil, Nat.reduceAdd, Nat.reduceSub, Array.replicate_succ, Array.replicate_zero, List.push_toArray, List.append_toArray, List.nil_append, List.cons_append]
 have cb := hb.cell
 gi_wp2_with (first
  | (gi_at_range; refine wpListIn_range_own _ rfl _ 173 rfl 9 3 law9 underlying173 _ b _ _ rfl hownW ?_; intro w0 hrg0 hg0 hs0)
  | gi_in)
 go_frame
 gi_loopw [3] (fun _ wr => ∃ (left : Lit -> Bool) (cnt : Nat) (ss : List (List Int)), wr.ranges prog 9 RF b W.heap.size L.length (mOf iV L) left cnt /\ ss.length + cnt <= Maps.size (mOf iV L) /\ q6_ L left ss /\ J ss wr)
  (fun _ wr => wr.rangeLeft b W.heap.size)
 case atStart =>
  exact Xb111
 case round =>
  exact Xb13
end
section
open Go.Maps Go.Shelf
attribute [local go_sem] Oper.semAt_some
theorem info9 : (prog.info? 9).map (fun i => (i.zero, i.size, i.bytes)) = some (some (.string ⟨#[]⟩), 1, 16) := by kernel_rfl
theorem xK_ (W : World) (B : Nat) (t : TypeId) (v u : Value) (h : Boxed W B t v) : Boxed (W.setCell ⟨B, 0, none⟩ u) B t u := h.set _
def AppS {α : Type} (L : List (List Int × α)) (base : Nat) (ss0 : List (List Int)) (w : World) (e : Ending) (w' : World) : Prop := ∃ ss v, e = .returned v /\ AllS L ss /\ w'.ownsRow base 9 1 v (ss0 ++ ss).length (cellsOf skv (ss0 ++ ss)) /\ Below base w w'
theorem rapp_law (w : World) (Bm b base : Nat) (L : List (List Int × RV)) (hBm : Boxed w Bm 90 (.map (some b))) (hM : Mp w b RV.v L) (hN : L.length <= 1000000) (v0 : Value) (ss0 : List (List Int)) (hss : ss0.length <= 1000000) (hbase : base <= w.heap.size) (how : w.ownsRow base 9 1 v0 ss0.length (cellsOf skv ss0)) :
  Calls prog 108 #[v0, .func (.func 133) #[] #[.pointer (some ⟨Bm, 0, none⟩)]] w (AppS L base ss0 w) := by
 have HN := hid (show Maps.size (mOf RV.v L) <= 1000000 by rw [xj_]; exact hN)
 have HSS := hid hss
 have HBA := hid hbase
 clear hN hss
 obtain ⟨i0, hi, hz0, hz1, hz2⟩ := info_parts info9
 obtain ⟨a0, c0, hv0⟩ := zd_ how
 subst hv0
 refine (callsIn_wide (n := 6)).1 ?_
 refine callsIn_of_wp_marks func108 rfl trivial ?_ rfl
 simp only [ntmps108, List.size_toArray, List.length_cons, List.length_nil, Nat.reduceAdd, Nat.reduceSub, Array.replicate_succ, Array.replicate_zero, List.push_toArray, List.append_toArray, List.nil_append, List.cons_append]
 gi_wp2_with fail
 have hbw : Below w.heap.size w (w.alloc (.cells #[.slice a0 ss0.length c0] 134)) := bl1 _ _
 have bL := Boxed.new w 134 (.slice a0 ss0.length c0)
 have hsz : (w.alloc (.cells #[.slice a0 ss0.length c0] 134)).heap.size = w.heap.size + 1 := by simp
 have bM : Boxed (w.alloc (.cells #[.slice a0 ss0.length c0] 134)) Bm 90 (.map (some b)) := (hbw.block Bm hBm.lt).trans hBm
 have bO : Mp (w.alloc (.cells #[.slice a0 ss0.length c0] 134)) b RV.v L := hM.below hbw
 have how0 := ze_ how hbw
 obtain ⟨W0, hW0⟩ := gtx (w.alloc (.cells #[.slice a0 ss0.length c0] 134))
 rw [hW0] at bL hbw hsz bM bO how0 ⊢
 clear hW0 hBm hM how
 have HC := rkeys_stops 5 Xt0 Bm b L W0 bM bO
 clear bM bO
 refine wpIn_rangeFunc_ownH rfl Xt0 (gf := 133) (lb := #[.pointer (some ⟨Bm, 0, none⟩)]) rfl trivial (enters_of func133 Xt3 rfl)
  HC walksK_t (walksK_b (w := W0)) (Below.refl _ _) (fun _ => rfl)
  (fun pre W => (∃ v, Boxed W w.heap.size 134 v /\ W.ownsRow base 9 1 v (ss0 ++ pre).length (cellsOf skv (ss0 ++ pre))) /\ Below base w W)
  (fun c pre W => False)
  (OwnFrom.and (Own.from Xt24 _) (ownFrom_below hbase Xt0))
  (fun c s X Y row hs hg hr => hs)
  ⟨⟨_, bL, by rw [List.append_nil]; exact how0⟩, hbw.mono hbase⟩
  (fun x a' W => a' = { tmps := #[.slice a0 ss0.length c0, .func (.func 133) #[] #[.pointer (some ⟨Bm, 0, none⟩)], .pointer (some ⟨w.heap.size, 0, none⟩), undef, .slice none 0 0, .string (strOfNums x), .func (.func 133) #[] #[.pointer (some ⟨Bm, 0, none⟩)], .string (strOfNums x), undef, undef, undef, undef, undef], defers := [] })
  (fun x a' _ X Y row hs hg hr => hs)
  ?assign ?body ?done ?stop
 case assign =>
  exact Xb92
 case body =>
  exact Xb9
 case done =>
  exact Xb39
 case stop =>
  rintro Dd c pre W hD _ hf hK
  exact hf.elim
theorem iapp_law (w : World) (Bm b base : Nat) (L : List (List Int × Nat)) (hBm : Boxed w Bm 173 (.map (some b))) (hM : Mp w b iV L) (hN : L.length <= 1000000) (v0 : Value) (ss0 : List (List Int)) (hss : ss0.length <= 1000000) (hbase : base <= w.heap.size) (how : w.ownsRow base 9 1 v0 ss0.length (cellsOf skv ss0)) :
  Calls prog 108 #[v0, .func (.func 134) #[] #[.pointer (some ⟨Bm, 0, none⟩)]] w (AppS L base ss0 w) := by
 have HN := hid (show Maps.size (mOf iV L) <= 1000000 by rw [xj_]; exact hN)
 have HSS := hid hss
 have HBA := hid hbase
 clear hN hss
 obtain ⟨i0, hi, hz0, hz1, hz2⟩ := info_parts info9
 obtain ⟨a0, c0, hv0⟩ := zd_ how
 subst hv0
 refine (callsIn_wide (n := 6)).1 ?_
 refine callsIn_of_wp_marks func108 rfl trivial ?_ rfl
 simp only [ntmps108, List.size_toArray, List.length_cons, List.length_nil, Nat.reduceAdd, Nat.reduceSub, Array.replicate_succ, Array.replicate_zero, List.push_toArray, List.append_toArray, List.nil_append, List.cons_append]
 gi_wp2_with fail
 have hbw : Below w.heap.size w (w.alloc (.cells #[.slice a0 ss0.length c0] 134)) := bl1 _ _
 have bL := Boxed.new w 134 (.slice a0 ss0.length c0)
 have hsz : (w.alloc (.cells #[.slice a0 ss0.length c0] 134)).heap.size = w.heap.size + 1 := by simp
 have bM : Boxed (w.alloc (.cells #[.slice a0 ss0.length c0] 134)) Bm 173 (.map (some b)) := (hbw.block Bm hBm.lt).trans hBm
 have bO : Mp (w.alloc (.cells #[.slice a0 ss0.length c0] 134)) b iV L := hM.below hbw
 have how0 := ze_ how hbw
 obtain ⟨W0, hW0⟩ := gtx (w.alloc (.cells #[.slice a0 ss0.length c0] 134))
 rw [hW0] at bL hbw hsz bM bO how0 ⊢
 clear hW0 hBm hM how
 have HC := ikeys_stops 5 Xt0 Bm b L W0 bM bO
 clear bM bO
 refine wpIn_rangeFunc_ownH rfl Xt0 (gf := 134) (lb := #[.pointer (some ⟨Bm, 0, none⟩)]) rfl trivial (enters_of func134 Xt3 rfl)
  HC walksK_t (walksK_b (w := W0)) (Below.refl _ _) (fun _ => rfl)
  (fun pre W => (∃ v, Boxed W w.heap.size 134 v /\ W.ownsRow base 9 1 v (ss0 ++ pre).length (cellsOf skv (ss0 ++ pre))) /\ Below base w W)
  (fun c pre W => False)
  (OwnFrom.and (Own.from Xt24 _) (ownFrom_below hbase Xt0))
  (fun c s X Y row hs hg hr => hs)
  ⟨⟨_, bL, by rw [List.append_nil]; exact how0⟩, hbw.mono hbase⟩
  (fun x a' W => a' = { tmps := #[.slice a0 ss0.length c0, .func (.func 134) #[] #[.pointer (some ⟨Bm, 0, none⟩)], .pointer (some ⟨w.heap.size, 0, none⟩), undef, .slice none 0 0, .string (strOfNums x), .func (.func 134) #[] #[.pointer (some ⟨Bm, 0, none⟩)], .string (strOfNums x), undef, undef, undef, undef, undef], defers := [] })
  (fun x a' _ X Y row hs hg hr => hs)
  ?assign ?body ?done ?stop
 case assign =>
  exact Xb92
 case body =>
  exact Xb9
 case done =>
  exact Xb39
 case stop =>
  rintro Dd c pre W hD _ hf hK
  exact hf.elim
theorem Qu_ (w : World) (Bm b : Nat) (L : List (List Int × RV)) (hBm : Boxed w Bm 90 (.map (some b))) (hM : Mp w b RV.v L) (hN : L.length <= 1000000) :
  Calls prog 109 #[.func (.func 133) #[] #[.pointer (some ⟨Bm, 0, none⟩)]] w (AppS L w.heap.size [] w) := by
 have HA := hid (rapp_law w Bm b w.heap.size L hBm hM hN (.slice none 0 0) [] Xt5 (Nat.le_refl _) (World.ownsRow_nil _ _ _ _))
 clear hBm hM hN
 go_enter func109, ntmps109
 go_wp2_with (go_at_call 108; refine HA.out.mono ?_; rintro e w' ⟨ss, v, rfl, h1, h2, h3⟩; replace h1 := hid h1; replace h2 := hid h2; replace h3 := hid h3)
 go_ret
 exact ⟨ss, v, rfl, h1.out, h2.out, h3.out⟩
end
end Go.Proofs.YthmofoldmdafoaaGreat
