/- Part of the proof that ModelDoes holds for every input: tables, under any transactions, answer, write and stand as the document says. Part 26. -/
import Derived.Test.YthmofoldmdafoaaGreatSdy
set_option linter.unusedVariables false
set_option linter.unusedSimpArgs false
set_option maxRecDepth 100000
set_option maxHeartbeats 4000000
namespace Go.Proofs.YthmofoldmdafoaaGreat
open Go.ChangeShapes Go.WideShapes Go.ChangeAt Go.RowKit
open Go.Lib (hid)
open Go.Proofs.Tryz
section
open Go.Maps Go.Shelf
def tbcl (x : TbV) : List Value := [.slice x.pa x.P.length x.pc]
theorem tbcl_len (x : TbV) : (tbcl x).length = 1 := rfl
def TbG (x : TbV) : Prop := (∀ p ∈ x.P, okK p) /\ x.P.length <= x.pc /\ (x.pa = none -> x.pc = 0)
def TabsR (w : World) (T : List (List Pr)) (r : Ending) (w' : World) : Prop := ∃ a c Ts, r = .returned (.slice a Ts.length c) /\ Below w.heap.size w w' /\ Ts.map tbC = T /\ (∀ x ∈ Ts, TbG x) /\ ∀ S : Nat -> Prop, (∀ k, S k -> k < w.heap.size) -> zs_ S w' fun W' => TbR W' a Ts
theorem own_tb {W : World} {base n c : Nat} {a : Option Addr} {L : List TbV} (h : W.ownsRow base 69 1 (.slice a n c) n (cellsOf tbcl L)) (hn : L.length = n) (ok : ∀ x ∈ L, zn_ W x.pa x.P) : TbR W a L := fun k y hy => by
 obtain ⟨g, rfl, _, hc⟩ := zt_ tbcl_len Xt0 h hn k y hy
 refine ⟨g, 0, rfl, ?_, ok y (List.mem_of_getElem? hy)⟩
 have := hc 0 Xt0; rw [Nat.add_zero, Nat.mul_one] at this; rw [Nat.zero_add]; exact this
theorem mtabs_law {S : Nat -> Prop} {m : Md} {w : World} (h : MdR S w m) (hS : ∀ k, S k -> k < w.heap.size) (hf : ∀ z ∈ m.tabs, z.2.length <= 900000) :
  Calls prog 28 #[.pointer (some ⟨m.p, 0, none⟩)] w (TabsR w m.P) := by
 have HM := hid (yE_ h)
 have HH := hid h
 have HSS := hid hS
 have HF := hid hf
 have hfew := h.few
 have hfi : (m.tabs.length : Int) <= 4 := by omega
 have hc := h.c
 clear h hS hf
 go_enter func28, ntmps28
 go_wp2_with (go_at_call 51; refine HM.out.mono ?_; rintro e w' ⟨rfl, rfl⟩)
 clear hc
 go_loopw [3, 12] (fun v i wr => ∃ (k : Nat) (Ts : List TbV), k <= m.tabs.length /\ i = .int .i64 (k : Int) /\ Hid (wr.ownsRow w.heap.size 69 1 v k (cellsOf tbcl Ts)) /\ Hid (Ts.length = k) /\ Hid (Ts.map tbC = m.P.take k) /\ Hid (∀ x ∈ Ts, TbG x) /\ Hid (∀ x ∈ Ts, ∀ S' : Nat -> Prop, (∀ j, S' j -> j < w.heap.size ∨ v.ownBlock = some j) -> zs_ S' wr fun W' => zn_ W' x.pa x.P) /\ Hid (Below w.heap.size w wr)) (fun _ i _ => m.tabs.length - (intOf i).toNat)
 case atStart => exact ⟨0, [], by omega, rfl, hid (World.ownsRow_nil _ _ _ _), hid rfl, hid Xt5, hid (fun x hx => nomatch hx), hid (fun x hx => nomatch hx), hid (Below.refl _ _)⟩
 case round =>
  obtain ⟨k, Ts, hk, rfl, HOV, HL, HT, HOK, HPS, HBR⟩ := hrel
  by_cases hlt : k < m.tabs.length
  ·have d1 : (k : Int) < (m.tabs.length : Int) := by omega
   obtain ⟨va, vc, hv⟩ := zd_ HOV.out
   subst hv
   go_wp2_with fail
   refine (ju_ wr _ _ rfl (k : Int)).mono ?_; rintro r w5 ⟨rfl, x1, x2, x3, b5⟩
   have HB5 := hid b5
   have HX := hid (And.intro x1 (And.intro x2 x3))
   have HLT := hid hlt
   clear x1 x2 x3 b5
   go_wp2_with fail
   have HB05 := hid (za_ HBR.out HB5.out)
   have hpl : (m.P.getD k []).length <= 2000000 := by
    obtain ⟨z, hz⟩ : ∃ z, m.tabs[k]? = some z := ⟨_, List.getElem?_eq_getElem hlt⟩
    have h1 := HF.out z (List.mem_of_getElem? hz)
    have h2 : m.P.getD k [] = x6_ z.2 := by rw [List.getD_eq_getElem?_getD]; unfold Md.P; rw [List.getElem?_map, hz]; rfl
    rw [h2]; unfold x6_; rw [List.length_map]; omega
   refine (tabcol_law (HH.out.below HB05.out) (fun j hj => Nat.lt_of_lt_of_le (HSS.out j hj) HB05.out.size) _ _ _ k HX.out.1 HX.out.2.1 HX.out.2.2 HLT.out HF.out hpl).mono ?_; rintro r w9 ⟨pa, pc, P, rfl, hb9, q1, q2, q3, q4, q5, q6⟩
   have HQ := hid (show P.map prC = m.P.getD k [] /\ TbG ⟨pa, pc, P⟩ from ⟨q1, q2, q3, q4⟩)
   have HB9 := hid (za_ HB5.out hb9)
   have HS9 := hid (fun (S' : Nat -> Prop) (hS' : ∀ j, S' j -> j < wr.heap.size) => q6 S' (fun j hj => Nat.lt_of_lt_of_le (hS' j hj) HB5.out.size))
   clear hpl hb9 q1 q2 q3 q4 q5 q6 HX HB05
   have HP3 := hid (show k + 1 <= 2097152 by omega)
   go_wp2_with (at_builtin; refine zv_ ae_tab rfl _ _ rfl w.heap.size (.slice va k vc) k (cellsOf tbcl Ts) rfl ((ze_ HOV.out HB9.out).alloc _) ⟨w9.heap.size, 0, none⟩ 1 1 [.slice pa P.length pc] rfl rfl (zx_ w9 _ _ _ rfl) Xt31 HP3.out (Nat.le_trans HBR.out.size (Nat.le_trans HB9.out.size Xt5)) ?_; intro v8 w8 hown8 hgrow8 hat8; have HO8 := hid hown8; have HG8 := hid hgrow8; have HAT8 := hid hat8; clear hown8 hgrow8 hat8)
   have HB91 := hid (za_ HB9.out (bl1 w9 (.cells #[.slice pa P.length pc] 69)))
   go_roundw
   case rel =>
    have hob : Off (fun j => Value.ownBlock (.slice va k vc) = some j) wr w8 := (Off.of HB91.out).trans (Off.of_row HG8.out)
    have hvlt : ∀ b, Value.ownBlock (.slice va k vc) = some b -> b < wr.heap.size /\ w.heap.size <= b := fun b hb => ⟨(zb_ HOV.out hb).2.1, (zb_ HOV.out hb).1⟩
    have hnew : ∀ b, v8.ownBlock = some b -> Value.ownBlock (.slice va k vc) = some b ∨ w9.heap.size + 1 = b := fun b hb => by
     exact Xb85
    refine ⟨k + 1, Ts ++ [⟨pa, pc, P⟩], by omega, by go_num, hid ?_, hid ?_, hid ?_, hid ?_, hid ?_, hid ?_⟩
    ·rw [zq_]; exact HO8.out
    ·rw [List.length_append, HL.out]; rfl
    ·rw [List.map_append, HT.out, List.take_add_one]
     have h2 : m.P[k]? = some (m.P.getD k []) := by
      have : k < m.P.length := by rw [Md.P_len]; exact HLT.out
      rw [List.getD_eq_getElem?_getD, List.getElem?_eq_getElem this]; rfl
     rw [h2]
     show _ ++ [P.map prC] = _
     rw [HQ.out.1]; rfl
    ·intro x hx
     rcases List.mem_append.1 hx with hx | hx
     ·exact HOK.out x hx
     ·rw [List.mem_singleton] at hx; subst hx; exact HQ.out.2
    ·intro x hx S' hS'
     rcases List.mem_append.1 hx with hx | hx
     ·refine (HPS.out x hx (fun j => j < w.heap.size ∨ Value.ownBlock (.slice va k vc) = some j) (fun j hj => hj)).step (hob.mono fun j hj => .inr hj) (fun j hj => ?_)
      rcases hS' j hj with hj | hj
      ·exact .inl (.inl hj)
      ·rcases hnew j hj with hj | hj
       ·exact .inl (.inr hj)
       ·have := HB9.out.size; exact .inr Xt0
     ·rw [List.mem_singleton] at hx
      subst hx
      have h1 := HS9.out (fun j => j < wr.heap.size) (fun j hj => hj)
      have o98 : Off (fun j => j < wr.heap.size) w9 w8 := (Off.of (bl1 w9 (.cells #[.slice pa P.length pc] 69))).trans ((Off.of_row HG8.out).mono fun j hj => (hvlt j hj).1)
      refine h1.step o98 (fun j hj => ?_)
      rcases hS' j hj with hj | hj
      ·have := HBR.out.size; exact .inl (by show j < wr.heap.size; omega)
      ·rcases hnew j hj with hj | hj
       ·exact .inl (hvlt j hj).1
       ·exact .inr Xt0
    ·exact Off.below HBR.out hob HBR.out.size (fun j hj => (hvlt j hj).2)
   case measure => simp [intOf]; omega
  ·have d1 : ¬ (k : Int) < (m.tabs.length : Int) := by omega
   obtain ⟨va, vc, hv⟩ := zd_ HOV.out
   subst hv
   have HKE := hid (show k = m.tabs.length by omega)
   go_wp2_with fail
   go_ret
   have hTl := HL.out
   refine ⟨va, vc, Ts, by show Ending.returned (.slice va k vc) = _; rw [hTl], HBR.out, ?_, HOK.out, fun S' hS' W' o => ?_⟩
   ·rw [HT.out, HKE.out, ← Md.P_len, List.take_of_length_le (Nat.le_refl _)]
   ·exact own_tb (zl_ HOV.out o hS') hTl fun x hx => HPS.out x hx S' (fun j hj => .inl (hS' j hj)) W' o
theorem mid69 (a : Option Addr) (P : List PrV) (n c i : Nat) (hn : P.length = n) (hi : i < n) (hnc : n <= c) (W : World) (hP : zn_ W a P) :
  ∃ a', (∀ W', (Instr.slice 69 (.slice a n c) (some (.int .i64 (i : Int))) (some (.int .i64 ((i : Int) + 1))) .none).run prog W' = .ok (.slice a' 1 (c - i)) W') /\ (∀ W', zn_ W' a P -> zn_ W' a' ((P.drop i).take 1)) /\ (if c = i then a else a.map fun x => x.add (i * 2)) = a' := by
 obtain ⟨x, hx⟩ : ∃ x, P[i]? = some x := ⟨_, List.getElem?_eq_getElem Xt0⟩
 obtain ⟨b, off, rfl, _⟩ := hP i x hx
 obtain ⟨i0, hi0, hz0, hz1, hz2⟩ := info_parts QJ_
 have hel : prog.elem 69 = 78 := by simp [Program.elem, underlying69]
 have hs : ∀ W', ((sizeOf (prog.elem 69)).run prog W') = .ok 2 W' := fun W' => by rw [hel]; simp [sizeOf, typeInfo, hi0, hz1]
 refine ⟨some ⟨b, off + i * 2, none⟩, fun W' => ?_, fun W' h => (h.drop i).take 1, by rw [if_neg Xt0]; simp [zF_]⟩
 rw [run_slice_lh (P := prog) (w := W') 69 (some ⟨b, off, none⟩) n c Xt47 .i64 .i64 (i : Int) ((i : Int) + 1) Xt0 Xt0 Xt0, hs]
 have h2 : ¬ (c - i = 0) := by omega
 have h3 : ((i : Int) + 1).toNat - (i : Int).toNat = 1 := by omega
 have h4 : ¬ c = i := by omega
 simp [sliced, Result.andThen, h2, h3, h4, zF_]
theorem ops_own {W : World} {base n c : Nat} {a : Option Addr} {L : List zj_} (h : W.ownsRow base 74 7 (.slice a n c) n (cellsOf ocl L)) (hn : L.length = n) (ok : ∀ o ∈ L, zy_ W o) : OpsR W a L := fun k x hx => by
 obtain ⟨g, rfl, _, hc⟩ := zt_ (f := ocl) (sz := 7) (fun _ => rfl) Xt0 h hn k x hx
 refine ⟨g, 0, rfl, ⟨?_, ?_, ?_, ?_, ?_, ?_, ?_⟩, ok x (List.mem_of_getElem? hx)⟩
 ·exact Xb43
 ·exact Xb64
 ·exact Xb79
 ·have := hc 3 Xt0; rw [Nat.zero_add]; exact this
 ·have := hc 4 Xt0; rw [Nat.zero_add]; exact this
 ·have := hc 5 Xt0; rw [Nat.zero_add]; exact this
 ·have := hc 6 Xt0; rw [Nat.zero_add]; exact this
theorem okK_pr {p : PrV} (h : okK p) : Qd_ p := ⟨h.1.1, fun q hq => (h.2.2.2 q.bs (List.mem_map.2 ⟨q, hq, rfl⟩)).1, by have := h.2.2.1; rw [List.length_map] at this; omega⟩
theorem q9_ (a b : Option Addr) (L M : List PrV) (n m ca cb : Nat) (hn : L.length = n) (hm : M.length = m) (hn2 : n <= 1000000) (hm2 : m <= 1000000) (okL : ∀ x ∈ L, Qd_ x) (okM : ∀ x ∈ M, Qd_ x) (hs : L.map prC = M.map prC) (w : World) (hA : zn_ w a L) (hB : zn_ w b M) :
  Calls prog 73 #[.slice a n ca, .slice b m cb] w fun r w' => r = .returned (.bool true) /\ Bel w w' := by
 have h := yz_ a b L M n m ca cb hn hm hn2 hm2 okL okM w hA hB
 rw [decide_eq_true hs] at h
 exact h
theorem zG_.trans {a b c : Md} (h : zG_ a b) (k : zG_ b c) : zG_ a c := ⟨k.p.trans h.p, k.j.trans h.j, k.f.trans h.f⟩
end
section
open Go.Maps Go.Shelf
attribute [local go_sem] Oper.semAt_some
theorem boxes4p (w : World) (v0 v1 v2 v3 : Value) (t0 t1 t2 t3 : TypeId) : let W := (((w.alloc (.cells #[v0] t0)).alloc (.cells #[v1] t1)).alloc (.cells #[v2] t2)).alloc (.cells #[v3] t3)
  Boxed W w.heap.size t0 v0 /\ Boxed W (w.heap.size + 1) t1 v1 /\ Boxed W (w.heap.size + 1 + 1) t2 v2 /\ Boxed W (w.heap.size + 1 + 1 + 1) t3 v3 /\ Below w.heap.size w W /\ W.heap.size = w.heap.size + 4 := by
 intro W
 have b0 := Boxed.new w t0 v0
 have b1 := Boxed.new (w.alloc (.cells #[v0] t0)) t1 v1
 have b2 := Boxed.new ((w.alloc (.cells #[v0] t0)).alloc (.cells #[v1] t1)) t2 v2
 have b3 := Boxed.new (((w.alloc (.cells #[v0] t0)).alloc (.cells #[v1] t1)).alloc (.cells #[v2] t2)) t3 v3
 simp only [World.size_alloc] at b1 b2 b3
 refine ⟨((b0.alloc _).alloc _).alloc _, (b1.alloc _).alloc _, b2.alloc _, b3, ?_, by simp [W]⟩
 exact ((((Below.refl _ w).alloc (Nat.le_refl _) _).alloc Xt5 _).alloc Xt7 _).alloc Xt7 _
theorem Qd_.same {p q : PrV} (h : Qd_ p) (e : prC p = prC q) : Qd_ q := by
 have e1 : p.K = q.K := congrArg Prod.fst e
 have e2 : p.R.map P1.bs = q.R.map P1.bs := congrArg Prod.snd e
 refine ⟨e1 ▸ h.kb, fun z hz => ?_, ?_⟩
 ·have h1 : z.bs ∈ p.R.map P1.bs := by rw [e2]; exact List.mem_map.2 ⟨z, hz, rfl⟩
  obtain ⟨y, hy, e3⟩ := List.mem_map.1 h1
  rw [← e3]; exact h.rb y hy
 ·have h1 := congrArg List.length e2
  rw [List.length_map, List.length_map] at h1
  rw [← h1]; exact h.rn
structure PaI (w : World) (a : Option Addr) (n c : Nat) (most : Int) (k : Nat) (W : World) : Prop where
 b4 : Boxed W w.heap.size 69 (.slice a n c)
 b5 : Boxed W (w.heap.size + 1) 3 (.int .i64 most)
 b6 : Boxed W (w.heap.size + 1 + 1) 4 (.bool false)
 b7 : Boxed W (w.heap.size + 1 + 1 + 1) 3 (.int .i64 (k : Int))
 bel : Below w.heap.size w W
structure PaX (w : World) (W : World) : Prop where
 b6 : Boxed W (w.heap.size + 1 + 1) 4 (.bool true)
 bel : Below w.heap.size w W
theorem PaI.off {w : World} {a : Option Addr} {n c k : Nat} {most : Int} {A B : World} {S : Nat -> Prop} (h : PaI w a n c most k A) (o : Off S A B) (hS : ∀ j, S j -> w.heap.size + 4 <= j) : PaI w a n c most k B := by
 have f : ∀ {b t v}, Boxed A b t v -> b < w.heap.size + 4 -> Boxed B b t v := fun h hb => (o.block _ h.lt Xt79).trans h
 exact ⟨f h.b4 Xt0, f h.b5 Xt0, f h.b6 Xt0, f h.b7 Xt0, Off.below h.bel o h.bel.size (fun j hj => by have := hS j hj; omega)⟩
theorem PaX.off {w : World} {A B : World} {S : Nat -> Prop} (h : PaX w A) (o : Off S A B) (hS : ∀ j, S j -> w.heap.size + 4 <= j) : PaX w B :=
 ⟨(o.block _ h.b6.lt Xt79).trans h.b6, Off.below h.bel o h.bel.size (fun j hj => by have := hS j hj; omega)⟩
theorem qQ_ (okp : PrV -> Prop) (hokp : ∀ p, okp p -> Qd_ p) (w : World) (Bs : Nat) (T : List Pr) (a : Option Addr) (P : List PrV) (n c : Nat) (hn : P.length = n) (hn2 : n <= 1000000) (hnc : n <= c) (hPT : P.map prC = T) (hP : zn_ w a P) (most : Int)
  (hseq : ∀ W0, Below w.heap.size w W0 -> SeqX Fence.wide 5 prog 106 #[.pointer (some ⟨Bs, 0, none⟩)] encP (KpO (W0.heap.size + 2) (fun _ => none)) (PxP okp (W0.heap.size + 2) (fun _ => none) T) T.length W0) :
  Calls prog 46 #[.func (.func 106) #[] #[.pointer (some ⟨Bs, 0, none⟩)], .slice a n c, .int .i64 most] w fun r w' => r = .returned (.bool true) /\ Below w.heap.size w w' := by
 have HSQ := hid hseq
 have HN := hid (show T.length = n by rw [← hPT, List.length_map]; exact hn)
 have HP := hid (And.intro hP (And.intro hn hPT))
 have HOK := hid hokp
 have hni : (n : Int) <= 1000000 := by omega
 clear hseq hP hn hPT hokp
 refine (callsIn_wide (n := 6)).1 ?_
 refine callsIn_of_wp_marks func46 rfl trivial ?_ rfl
 simp only [ntmps46, List.size_toArray, List.length_cons, List.length_nil, Nat.reduceAdd, Nat.reduceSub, Array.replicate_succ, Array.replicate_zero, List.push_toArray, List.append_toArray, List.nil_append, List.cons_append]
 have hnf : ∀ W : World, (binOp .eql 101 (.func (.func 106) #[] #[.pointer (some ⟨Bs, 0, none⟩)]) .nilFunc).run prog W = .ok (.bool false) W := fun W => rfl
 refine wpIn_wide.2 ?_
 go_wp2_with fail
 refine (wpIn_wide (n := 6)).1 ?_
 obtain ⟨W0, hW0⟩ := gtx (((((w.alloc (.cells #[.slice a n c] 69)).alloc (.cells #[.int .i64 most] 3)).alloc (.cells #[.bool false] 4)).alloc (.cells #[.int .i64 0] 3)))
 have h0 := boxes4p w (.slice a n c) (.int .i64 most) (.bool false) (.int .i64 0) 69 3 4 3
 rw [hW0] at h0 ⊢
 clear hW0
 obtain ⟨c4, c5, c6, c7, hb0, hsz⟩ := h0
 have hI0 : PaI w a n c most 0 W0 := ⟨c4, c5, c6, c7, hb0⟩
 have hsq := HSQ.out W0 hb0
 rw [hsz] at hsq
 clear c4 c5 c6 c7 hb0 HSQ
 rw [HN.out] at hsq
 refine jf_ rfl Xt0 (gf := 106) (lb := #[.pointer (some ⟨Bs, 0, none⟩)]) rfl trivial (enters_of func106 Xt3 rfl) hsq (fun h k => h.trans k)
  (fun W o' => KpO.put o' Xt0 rfl) (fun k x W o' h => h.kp (KpO.put o' Xt0 rfl)) (fun _ => rfl)
  (fun k W => PaI w a n c most k W) (fun _ W => PaX w W)
  (fun k A B h o => h.off o (fun j hj => by rw [hsz] at hj; omega)) (fun k A B h o => h.off o (fun j hj => by rw [hsz] at hj; omega)) hI0
  (fun p a' W => ∃ B, a' = { tmps := #[.func (.func 106) #[] #[.pointer (some ⟨Bs, 0, none⟩)], .slice a n c, .int .i64 most, undef, .pointer (some ⟨w.heap.size, 0, none⟩), .pointer (some ⟨w.heap.size + 1, 0, none⟩), .pointer (some ⟨w.heap.size + 1 + 1, 0, none⟩), .pointer (some ⟨w.heap.size + 1 + 1 + 1, 0, none⟩), .pointer (some ⟨B, 0, none⟩), .func (.func 106) #[] #[.pointer (some ⟨Bs, 0, none⟩)], .bool false, .func (.func 106) #[] #[.pointer (some ⟨Bs, 0, none⟩)], .agg (pcl p).toArray, undef, undef, undef, undef, undef, undef, undef, undef, undef, undef, undef, undef, undef, undef, undef, undef, undef, undef, undef, undef, undef, undef, undef, undef], defers := [] } /\ zg_ W B (pcl p).toArray 78 /\ w.heap.size + 6 <= B)
  (fun x a' _ A A' h o => by obtain ⟨B, h1, h2, h3⟩ := h; exact ⟨B, h1, j8_ h2 o Xt0, h3⟩)
  ?assign ?body ?done ?stop
 case assign =>
  rintro lp k p W K hk hI hPx hK
  dsimp only [encP]
  have hbW := hPx.lies.size
  unfold pcl
  gi_wp2
  have hbl := bl1 W (.cells (pcl p).toArray 78)
  exact hK _ _ ((KeepsOthers.alloc W _).from _) (KpO.below hbl rfl) (hI.off (S := fun _ => False) (Off.of hbl) (fun _ h => h.elim)) (hPx.kp (KpO.below hbl rfl)) ⟨W.heap.size, rfl, zg_.new W _ _, hbW⟩
 case body =>
  rintro lp k p a' W hk hI hPx ⟨B, rfl, hbx, hBB⟩
  have hws : w.heap.size + 6 <= W.heap.size := by have := hbx.lt; omega
  obtain ⟨q, hq⟩ : ∃ q, P[k]? = some q := ⟨_, List.getElem?_eq_getElem (by rw [HP.out.2.1]; exact hk)⟩
  have hpq : prC p = prC q := by
   have h1 := hPx.at_
   rw [← HP.out.2.2, List.getElem?_map, hq] at h1
   simpa using h1.symm
  obtain ⟨am, hm1, hm2, hm3⟩ := mid69 a P n c k HP.out.2.1 hk hnc w HP.out.1
  have hrP : Qd_ p := HOK.out p hPx.ok
  have hdk : (P.drop k).take 1 = [q] := by
   obtain ⟨hl, e⟩ := List.getElem?_eq_some_iff.1 hq
   rw [List.drop_eq_getElem_cons hl, e]; rfl
  have hrQ : ∀ z ∈ (P.drop k).take 1, Qd_ z := fun z hz => by
   rw [hdk, List.mem_singleton] at hz
   subst hz
   exact hrP.same hpq
  have hlie := hPx.lies.now
  unfold QP at hlie
  have x0 := hbx.cell 0
  have x1 := hbx.cell 1
  unfold pcl at x0 x1
  simp only [gtA, gtB, gtC] at x0 x1
  have HC73 := hid (fun Y (b : Below W.heap.size W Y) (hx : zg_ Y W.heap.size #[.slice p.ka p.K.length p.kc, .slice p.ra p.R.length p.rc] 78) => q9_ (some ⟨W.heap.size, 0, none⟩) am [p] ((P.drop k).take 1) 1 1 1 (c - k) rfl (by rw [List.length_take, List.length_drop, HP.out.2.1]; omega) Xt0 Xt0 (fun z hz => by rw [List.mem_singleton] at hz; subst hz; exact hrP) (fun z hz => hrQ z hz) (by
   obtain ⟨hl, e⟩ := List.getElem?_eq_some_iff.1 hq
   rw [List.drop_eq_getElem_cons hl, e]
   show [prC p] = [prC q]
   rw [hpq]) Y (Qx_ p (by have m := hx.cell 0; simpa using m) (by have m := hx.cell 1; simpa using m) (hlie.1.below b) (hlie.2.below b)) (hm2 Y (HP.out.1.below (za_ hI.bel b))))
  obtain ⟨pl, hpl⟩ := gtx (p.K.length)
  obtain ⟨rl, hrl⟩ := gtx (p.R.length)
  rw [hpl, hrl] at HC73
  rw [hpl] at x0
  rw [hrl] at x1
  have c4 := hI.b4.cell
  have c7 := hI.b7.cell
  have FQ := hid (fun V (h : Below W.heap.size W V) => (⟨tcb h c7, tcb h c4, tcb h x0, tcb h x1⟩ : V.cell? ⟨w.heap.size + 1 + 1 + 1, 0, none⟩ = some (.int .i64 (k : Int)) /\ V.cell? ⟨w.heap.size, 0, none⟩ = some (.slice a n c) /\ V.cell? ⟨B, 0, none⟩ = some (.slice p.ka pl p.kc) /\ V.cell? ⟨B, 1, none⟩ = some (.slice p.ra rl p.rc)))
  have HI := hid hI
  have hkn : (k : Int) < (n : Int) := by omega
  have hkn' : ¬ (n : Int) <= (k : Int) := by omega
  have e1 : IntKind.i64.wrap ((k : Int) + 1) = (k : Int) + 1 := by rw [IntKind.wrap_i64] <;> omega
  have hkc : k + 1 <= c := by omega
  have hkk : k <= k + 1 := by omega
  have hk1k : k + 1 - k = 1 := by omega
  have HW6 := hid hws
  have HHK := hid hk
  clear hI hPx hbx hq hpq hm2 hrP hrQ hdk hlie x0 x1 c4 c7 hpl hrl hsq hI0 hws hk hBB
  gi_upto_region 6 with (fail)
  rename_i KC hKC
  refine wpIn_mono (Q := Exit.then KC (fun _ _ _ => False)) ?_ (fun e a' w' h => by cases e <;> first | exact h | exact h.elim)
  refine qE_ (S := (fun X => Below W.heap.size W X)) Xt3 (fun ⟨_, _, h⟩ => h) Xt3 ((Below.refl _ _).drew) fun hH => ?_
  refine tkr 0 rfl Xf14 ?_
  refine tkr 1 rfl Xf14 ?_
  refine tkq 2 ?_
  refine tkp 3 (.bool false) rfl (.inl ⟨by rfl, ?_⟩) ?_
  ·exact Xb17
  refine tkp 4 (.bool false) rfl (.inl ⟨by rfl, ?_⟩) ?_
  ·exact Xb17
  refine tkr 5 rfl Xf14 ?_
  refine tkr 7 rfl Xf14 ?_
  refine tkr 8 rfl Xf14 ?_
  refine tkr 9 rfl Xf14 ?_
  refine tkp 10 (.int .i64 ((k : Int) + 1)) rfl (.inl ⟨by rfl, ?_⟩) ?_
  ·intro W hSw; go_simp; try (first | with_reducible rfl | (rw [e1]; done) | (simp [e1]; done))
  refine tkp 11 (.slice am 1 (c - k)) rfl (.inl ⟨by rfl, ?_⟩) ?_
  ·intro W hSw; go_simp; try (first | with_reducible rfl | (rw [if_pos hkc, hm3, hk1k]; done) | (rw [if_pos ⟨hkk, hkc⟩, hm3, hk1k]; done) | (intro hh; omega))
  refine tk1 6 rfl fun K hK => ?_
  go_simp
  obtain ⟨wA, hwA⟩ := gty ((W.alloc (.cells #[.slice p.ka pl p.kc, .slice p.ra rl p.rc] 78)).drew)
  have HWA := hid (show zg_ wA W.heap.size #[.slice p.ka pl p.kc, .slice p.ra rl p.rc] 78 from by rw [hwA]; exact zg_.new W _ _)
  have HBA := hid (show Below W.heap.size W wA from by rw [hwA]; exact (bl1 W _).drew)
  rw [← hwA]
  clear hwA
  refine hK.out _ _ HBA.out fun hH => ?_
  refine stP ?_
  refine tk1 12 rfl fun K hK => ?_
  go_simp
  refine (HC73.out _ hH HWA.out).mono ?_; rintro r w0 ⟨rfl, hb0⟩
  have HBc := za_ hH hb0
  clear hb0
  go_wp2_with fail
  refine hK.out _ _ HBc fun hH => ?_
  clear HBc
  refine stP ?_
  refine tkp 13 (.bool false) rfl (.inl ⟨by rfl, ?_⟩) ?_
  ·exact Xb17
  refine tkp 14 (.bool false) rfl (.inl ⟨by rfl, ?_⟩) ?_
  ·exact Xb17
  refine adn ?_
  skip
  refine hKC _ _ ?_
  have HBD := hid hH
  obtain ⟨W3, hW3⟩ := gty (w0)
  rw [← hW3] at HBD ⊢
  clear hKC hH hW3 HC73 FQ HBA HWA e1
  have HI3 := hid (HI.out.off (S := fun _ => False) (Off.of HBD.out) (fun _ h => h.elim))
  have c4 := HI3.out.b4.cell
  have c5 := HI3.out.b5.cell
  have c6 := HI3.out.b6.cell
  have c7 := HI3.out.b7.cell
  have f6 := HI3.out.b6.frozen
  have f7 := HI3.out.b7.frozen
  obtain ⟨k1, hk1⟩ : ∃ i : Nat, k + 1 = i := ⟨_, rfl⟩
  have e1 : IntKind.i64.wrap ((k : Int) + 1) = (k1 : Int) := by rw [IntKind.wrap_i64] <;> omega
  have HK1 := hid hk1
  clear hk1
  have kf : KeepsFrom W0.heap.size W W3 := KeepsFrom.of_grownBy (yA_ HBD.out) (fun j e => by cases e)
  have HKF := hid kf
  have r7 := xK_ _ _ _ _ (.int .i64 (k1 : Int)) HI3.out.b7
  have o1 : ∀ {b t v}, Boxed W3 b t v -> b ≠ w.heap.size + 1 + 1 + 1 -> Boxed (W3.setCell ⟨w.heap.size + 1 + 1 + 1, 0, none⟩ (.int .i64 (k1 : Int))) b t v := fun h h1 => h.other h1 _
  have HR7 := hid (And.intro r7 (And.intro (o1 HI3.out.b4 Xt0) (And.intro (o1 HI3.out.b5 Xt0) (o1 HI3.out.b6 Xt0))))
  have HBS := hid (HI3.out.bel.setCell (p := ⟨w.heap.size + 1 + 1 + 1, 0, none⟩) (by show w.heap.size <= _ + 1 + 1 + 1; omega) (.int .i64 (k1 : Int)))
  have HKO := hid ((KpO.below HBD.out rfl).trans (KpO.set (b := w.heap.size + 4 + 2) W3 ⟨w.heap.size + 1 + 1 + 1, 0, none⟩ (.int .i64 (k1 : Int)) (by show w.heap.size + 1 + 1 + 1 < _; omega)))
  clear kf r7 o1
  by_cases q : (k1 : Int) = most
  ·have q1 : ((k1 : Int) == most) = true := by simpa using q
   have QQ := hid q
   clear q
   gi_wp2_with fail
   refine ⟨(HKF.out.trans ((KeepsOthers.setCell _ _ _).from _)).trans ((KeepsOthers.setCell _ _ _).from _), xK_ _ _ _ _ _ HR7.out.2.2.2, ?_⟩
   exact HBS.out.setCell (p := ⟨w.heap.size + 1 + 1, 0, none⟩) (by show w.heap.size <= _ + 1 + 1; omega) _
  ·have q1 : ((k1 : Int) == most) = false := by simpa using q
   have QQ := hid q
   clear q
   gi_wp2_with fail
   refine ⟨HKF.out.trans ((KeepsOthers.setCell _ _ _).from _), ?_, ⟨HR7.out.2.1, HR7.out.2.2.1, HR7.out.2.2.2, ?_, HBS.out⟩⟩
   ·exact HKO.out
   ·rw [HK1.out]; exact HR7.out.1
 case done =>
  rintro W hI hK
  have c4 := hI.b4.cell
  have c6 := hI.b6.cell
  have c7 := hI.b7.cell
  have f6 := hI.b6.frozen
  have f7 := hI.b7.frozen
  have e9 : ((n : Int) == (n : Int)) = true := by simp
  rw [hsz] at hK ⊢
  gi_wp2_with fail
  go_wp2_with fail
  have hset : Boxed (W.setCell ⟨w.heap.size + 1 + 1, 0, none⟩ (.bool true)) (w.heap.size + 1 + 1) 4 (.bool true) := xK_ _ _ _ _ _ hI.b6
  have hK2 : (W.setCell ⟨w.heap.size + 1 + 1, 0, none⟩ (.bool true)).heap[w.heap.size + 4]? = some (.deferred (some [])) := (Below.heap_setCell W ⟨w.heap.size + 1 + 1, 0, none⟩ (.bool true) (w.heap.size + 4) (by show w.heap.size + 4 ≠ w.heap.size + 1 + 1; omega)).trans hK
  have hbl : Below w.heap.size w (W.setCell ⟨w.heap.size + 1 + 1, 0, none⟩ (.bool true)) := hI.bel.setCell (p := ⟨w.heap.size + 1 + 1, 0, none⟩) (by show w.heap.size <= _ + 1 + 1; omega) _
  obtain ⟨W9, hW9⟩ := gtx (W.setCell ⟨w.heap.size + 1 + 1, 0, none⟩ (.bool true))
  rw [hW9] at hset hK2 hbl ⊢
  have op : Off (fun j => j = w.heap.size + 4) W9 (W9.putObj (w.heap.size + 4) (.deferred none)) := ⟨rfl, rfl, rfl, by simp, fun j _ hj => World.putObj_heap_other hj⟩
  have hfin : (W9.putObj (w.heap.size + 4) (.deferred none)).cell? ⟨w.heap.size + 1 + 1, 0, none⟩ = some (.bool true) := (show Boxed (W9.putObj (w.heap.size + 4) (.deferred none)) (w.heap.size + 1 + 1) 4 (.bool true) from (op.block _ hset.lt Xt0).trans hset).cell
  refine ⟨by simp, .inl ⟨_, _, rfl, run_takeDeferred hK2, ?_⟩⟩
  exact Xb97
 case stop =>
  rintro k W hk hX hK
  rw [hsz] at hK ⊢
  have hset := hX.b6
  have hbl := hX.bel
  refine wpIn_wide.2 ?_
  go_wp2_with fail
  have op : Off (fun j => j = w.heap.size + 4) W (W.putObj (w.heap.size + 4) (.deferred none)) := ⟨rfl, rfl, rfl, by simp, fun j _ hj => World.putObj_heap_other hj⟩
  have hfin : (W.putObj (w.heap.size + 4) (.deferred none)).cell? ⟨w.heap.size + 1 + 1, 0, none⟩ = some (.bool true) := (show Boxed (W.putObj (w.heap.size + 4) (.deferred none)) (w.heap.size + 1 + 1) 4 (.bool true) from (op.block _ hset.lt Xt0).trans hset).cell
  refine ⟨by simp, .inl ⟨_, _, rfl, run_takeDeferred hK, ?_⟩⟩
  exact Xb97
end
section
open Go.Maps Go.Shelf
theorem index1_not {S : Nat -> Prop} {m : Md} {w : World} (h : MdR S w m) (C1 C2 C3 : Nat) (t x : Int) (b1 : Boxed w C1 28 (.pointer (some ⟨m.p, 0, none⟩))) (b2 : Boxed w C2 3 (.int .i64 t)) (b3 : Boxed w C3 3 (.int .i64 x)) (ht : ¬ (0 <= t /\ t < m.tabs.length)) :
  Calls prog 84 #[.pointer (some ⟨C1, 0, none⟩), .pointer (some ⟨C2, 0, none⟩), .pointer (some ⟨C3, 0, none⟩)] w (PsG okI w []) := by
 have HM := hid (fun X (b : Below w.heap.size w X) => (show Calls prog 52 #[.pointer (some ⟨m.p, 0, none⟩), .int .i64 t] X fun e w' => e = .returned (.bool false) /\ X = w' from (yQ_ (h.below b) t).mono (by
  rintro e w' ⟨h1, h2⟩
  refine ⟨?_, h2⟩
  rw [h1, decide_eq_false ht])))
 have HX := hid (And.intro b1 (And.intro b2 b3))
 clear h b1 b2 b3 ht
 go_enter func84, ntmps84
 go_upto_region 1 with (fail)
 refine rgw w (Below.refl _ _).drew fun hH => ?_
 refine tkr 0 rfl Xf7 ?_
 refine tkr 1 rfl Xf9 ?_
 refine tk1 2 rfl fun K hK => ?_
 go_simp
 refine (HM.out _ hH).mono ?_; rintro r w1 ⟨rfl, rfl⟩
 go_wp2_with fail
 refine hK.out _ _ hH fun hH => ?_
 refine stP ?_
 refine tkq2 3 4 ?_
 refine tkn 5 ?_
 refine tkn 6 ?_
 refine tkq2 7 8 ?_
 exact Xb35
theorem index1_no {S : Nat -> Prop} {m : Md} {w : World} (h : MdR S w m) (C1 C2 C3 : Nat) (t : Nat) (x : Int) (b1 : Boxed w C1 28 (.pointer (some ⟨m.p, 0, none⟩))) (b2 : Boxed w C2 3 (.int .i64 (t : Int))) (b3 : Boxed w C3 3 (.int .i64 x)) (ht : t < m.tabs.length) (tx : Int) (htx : m.j.T[t]? = some tx) (hxt : ¬ (0 <= x /\ x < tx)) :
  Calls prog 84 #[.pointer (some ⟨C1, 0, none⟩), .pointer (some ⟨C2, 0, none⟩), .pointer (some ⟨C3, 0, none⟩)] w (PsG okI w []) := by
 have HM := hid (fun X (b : Below w.heap.size w X) => (show Calls prog 52 #[.pointer (some ⟨m.p, 0, none⟩), .int .i64 (t : Int)] X fun e w' => e = .returned (.bool true) /\ X = w' from (yQ_ (h.below b) t).mono (by
  rintro e w' ⟨h1, h2⟩
  refine ⟨?_, h2⟩
  rw [h1, decide_eq_true Xt0])))
 have hjl := h.st.now.job
 have htl : t < m.j.T.length := (List.getElem?_eq_some_iff.1 htx).1
 obtain ⟨jb, jo, hja, hjc⟩ := hjl.ls.rd t htl
 rw [List.getD_eq_getElem?_getD, htx] at hjc
 simp only [Option.getD_some] at hjc
 have hbx := h.st.now.box
 have hjn : (t : Int) < (m.j.n : Int) := by have := hjl.len; omega
 have hjn2 : (m.j.n : Int) <= 1000000 := by have := hjl.le; omega
 have HJ := hid (fun X (b : Below w.heap.size w X) => (by
  have hb := hbx.below b
  unfold Md.cs at hb
  rw [hja] at hb
  exact ⟨hb.cell 6, tcb b hjc⟩ :
  X.cell? ⟨m.p, 6, none⟩ = some (.slice (some ⟨jb, jo, none⟩) m.j.n m.j.cap) /\ X.cell? ⟨jb, jo + t, none⟩ = some (.int .i64 tx)))
 have HX := hid (And.intro b1 (And.intro b2 b3))
 by_cases hx0 : x < 0
 ·clear h b1 b2 b3 ht htx hxt hjl htl hja hjc hbx
  go_enter func84, ntmps84
  go_upto_region 1 with (fail)
  refine rgw w (Below.refl _ _).drew fun hH => ?_
  refine tkr 0 rfl Xf7 ?_
  refine tkr 1 rfl Xf9 ?_
  refine tk1 2 rfl fun K hK => ?_
  go_simp
  refine (HM.out _ hH).mono ?_; rintro r w1 ⟨rfl, rfl⟩
  go_wp2_with fail
  refine hK.out _ _ hH fun hH => ?_
  refine stP ?_
  refine tkq2 3 4 ?_
  refine tkr 5 rfl Xf15 ?_
  refine tkp 6 (.bool true) rfl (.inl ⟨by rfl, ?_⟩) ?_
  ·exact Xb19
  refine tkp 7 (.bool true) rfl (.inl ⟨by rfl, ?_⟩) ?_
  ·exact Xb19
  refine tkp 8 (.bool true) rfl (.inl ⟨by rfl, ?_⟩) ?_
  ·exact Xb19
  exact Xb35
 ·have hx1 : tx <= x := by omega
  clear h b1 b2 b3 ht htx hxt hjl htl hja hjc hbx
  go_enter func84, ntmps84
  go_upto_region 1 with (fail)
  refine rgw w (Below.refl _ _).drew fun hH => ?_
  refine tkr 0 rfl Xf7 ?_
  refine tkr 1 rfl Xf9 ?_
  refine tk1 2 rfl fun K hK => ?_
  go_simp
  refine (HM.out _ hH).mono ?_; rintro r w1 ⟨rfl, rfl⟩
  go_wp2_with fail
  refine hK.out _ _ hH fun hH => ?_
  refine stP ?_
  refine tkq2 3 4 ?_
  refine tkr 5 rfl Xf15 ?_
  refine tkp 6 (.bool false) rfl (.inl ⟨by rfl, ?_⟩) ?_
  ·exact Xb19
  refine tkq 7 ?_
  refine tkp 8 (.bool false) rfl (.inl ⟨by rfl, ?_⟩) ?_
  ·exact Xb19
  refine tkr 9 rfl Xf15 ?_
  refine tkr 10 rfl Xf7 ?_
  refine tkq3 11 12 13 ?_
  refine tkr 14 rfl (fun W hSw => by have m := (HJ.out W hSw).1; exact tks) ?_
  refine tkr 15 rfl Xf9 ?_
  refine tkq 16 ?_
  refine tkr 17 rfl (fun W hSw => by have m := (HJ.out W hSw).2; exact tks) ?_
  refine tkp 18 (.bool true) rfl (.inl ⟨by rfl, ?_⟩) ?_
  ·exact Xb19
  refine tkp 19 (.bool true) rfl (.inl ⟨by rfl, ?_⟩) ?_
  ·exact Xb19
  refine adn ?_
  skip
  go_wp2_with fail
  go_ret
  exact ⟨none, 0, [], rfl, hH, rfl, fun p hp => (nomatch hp), Nat.le_refl _, fun _ => rfl, Nat.zero_le _, fun S' _ W' _ k x hx => by simp at hx⟩
end
structure Sh (K : TypeId -> Prop) (T : Nat -> Prop) (W X : World) : Prop where
 off : Off T W X
 keep : ∀ (b : Nat) (cs : Array Value) (t : TypeId) (lo hi : Nat), W.heap[b]? = some (.cells cs t (lo, hi)) -> ∃ cs' : Array Value, cs'.size = cs.size /\ X.heap[b]? = some (.cells cs' t (lo, hi))
 kind : ∀ (b : Nat) (cs : Array Value) (t : TypeId) (lo hi : Nat), W.heap[b]? = some (.cells cs t (lo, hi)) -> ¬ K t -> X.heap[b]? = W.heap[b]?
theorem Sh.refl (K : TypeId -> Prop) (T : Nat -> Prop) (W : World) : Sh K T W W := ⟨Off.refl _ _, fun b cs t lo hi h => ⟨cs, rfl, h⟩, fun _ _ _ _ _ _ _ => rfl⟩
theorem Sh.trans {K : TypeId -> Prop} {T : Nat -> Prop} {W X Y : World} (h : Sh K T W X) (k : Sh K T X Y) : Sh K T W Y := ⟨h.off.trans k.off, fun b cs t lo hi e => by
 obtain ⟨c1, s1, e1⟩ := h.keep b cs t lo hi e
 obtain ⟨c2, s2, e2⟩ := k.keep b c1 t lo hi e1
 exact ⟨c2, s2.trans s1, e2⟩, fun b cs t lo hi e n => by
 have e1 := h.kind b cs t lo hi e n
 exact (k.kind b cs t lo hi (e1.trans e) n).trans e1⟩
theorem Sh.below {K : TypeId -> Prop} {T : Nat -> Prop} {W X : World} (b : Below W.heap.size W X) : Sh K T W X := ⟨Off.of b, fun i cs t lo hi e => ⟨cs, rfl, (b.block i (Array.getElem?_eq_some_iff.1 e).1).trans e⟩, fun i cs t lo hi e _ => b.block i (Array.getElem?_eq_some_iff.1 e).1⟩
theorem Sh.set {K : TypeId -> Prop} {T : Nat -> Prop} {W : World} {B : Nat} {cs : Array Value} {t : TypeId} {lo hi : Nat} (h : W.heap[B]? = some (.cells cs t (lo, hi))) (hK : K t) (hT : T B) (i : Nat) (v : Value) : Sh K T W (W.setCell ⟨B, i, none⟩ v) := by
 have hs : ∀ b, b ≠ B -> (W.setCell ⟨B, i, none⟩ v).heap[b]? = W.heap[b]? := fun b hb => Below.heap_setCell _ _ _ b hb
 have hB : (W.setCell ⟨B, i, none⟩ v).heap[B]? = some (.cells (cs.setIfInBounds i v) t (lo, hi)) := by
  obtain ⟨hlt, hk⟩ := Array.getElem?_eq_some_iff.1 h
  show (W.heap.modify B _)[B]? = _
  rw [Array.getElem?_modify, if_pos rfl, h]
  rfl
 refine ⟨(Off.refl T W).set ⟨B, i, none⟩ hT v, fun b c u l r e => ?_, fun b c u l r e n => ?_⟩
 ·by_cases hb : b = B
  ·subst hb
   rw [h] at e
   cases e
   exact ⟨_, Array.size_setIfInBounds .., hB⟩
  ·exact ⟨c, rfl, (hs b hb).trans e⟩
 ·by_cases hb : b = B
  ·subst hb
   rw [h] at e
   cases e
   exact absurd hK n
  ·exact hs b hb
theorem Sh.cell {K : TypeId -> Prop} {T : Nat -> Prop} {W X : World} (h : Sh K T W X) {b i : Nat} {cs : Array Value} {t : TypeId} {lo hi : Nat} (e : W.heap[b]? = some (.cells cs t (lo, hi))) (n : ¬ K t) : X.cell? ⟨b, i, none⟩ = W.cell? ⟨b, i, none⟩ := by
 have := h.kind b cs t lo hi e n
 simp only [World.cell?, this]
theorem Sh.open' {K : TypeId -> Prop} {T : Nat -> Prop} {W X : World} (h : Sh K T W X) {b i : Nat} {cs : Array Value} {t : TypeId} {lo hi : Nat} (e : W.heap[b]? = some (.cells cs t (lo, hi))) (hi2 : i < cs.size) (hf : ¬ (lo <= i /\ i < hi)) : ∃ cs' v, X.heap[b]? = some (.cells cs' t (lo, hi)) /\ X.cell? ⟨b, i, none⟩ = some v /\ X.frozen? ⟨b, i, none⟩ = false := by
 obtain ⟨cs', hs, e'⟩ := h.keep b cs t lo hi e
 refine ⟨cs', cs'[i]'(by rw [hs]; exact hi2), e', ?_, ?_⟩
 ·simp only [World.cell?, e']
  rw [Array.getElem?_eq_getElem (by rw [hs]; exact hi2)]
  rfl
 ·simp only [World.frozen?, e']
  simp only [Bool.and_eq_false_iff, decide_eq_false_iff_not]
  by_cases h1 : lo <= i
  ·exact .inr fun h2 => hf ⟨h1, h2⟩
  ·exact .inl h1
end Go.Proofs.YthmofoldmdafoaaGreat
