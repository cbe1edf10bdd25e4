/- Part of the proof that ModelDoes holds for every input: tables, under any transactions, answer, write and stand as the document says. Part 17. -/
import Derived.Test.YthmofoldmdafoaaGreatSdp
set_option linter.unusedVariables false
set_option linter.unusedSimpArgs false
set_option maxRecDepth 100000
set_option maxHeartbeats 4000000
namespace Go.Proofs.YthmofoldmdafoaaGreat
open Go.ChangeShapes Go.WideShapes Go.ChangeAt Go.RowKit
open Go.Lib (hid)
open Go.Proofs.Tryz
section
open Go.Maps
theorem set4l {W : World} {B : Nat} (hb : zg_ W B #[.int .i64 0, .slice none 0 0, .slice none 0 0, .bool false] 169) (tr : Int) (fa : Option Addr) (f : List Int) (fc : Nat) (ta : Option Addr) (u : List Int) (tc : Nat) (en : Bool) {a : Option Addr} {c : Nat} {L : List Int} (l : Ls .u8 W a c L) :
  Ls .u8 ((((W.setCell ⟨B, 0, none⟩ (.int .i64 tr)).setCell ⟨B, 1, none⟩ (.slice fa f.length fc)).setCell ⟨B, 2, none⟩ (.slice ta u.length tc)).setCell ⟨B, 3, none⟩ (.bool en)) a c L := by
 have b1 : zg_ (W.setCell ⟨B, 0, none⟩ (.int .i64 tr)) B #[.int .i64 tr, .slice none 0 0, .slice none 0 0, .bool false] 169 := heap_setCell_same _ B 0 _ 169 _ hb
 have b2 : zg_ ((W.setCell ⟨B, 0, none⟩ (.int .i64 tr)).setCell ⟨B, 1, none⟩ (.slice fa f.length fc)) B #[.int .i64 tr, .slice fa f.length fc, .slice none 0 0, .bool false] 169 := heap_setCell_same _ B 1 _ 169 _ b1
 have b3 : zg_ (((W.setCell ⟨B, 0, none⟩ (.int .i64 tr)).setCell ⟨B, 1, none⟩ (.slice fa f.length fc)).setCell ⟨B, 2, none⟩ (.slice ta u.length tc)) B #[.int .i64 tr, .slice fa f.length fc, .slice ta u.length tc, .bool false] 169 := heap_setCell_same _ B 2 _ 169 _ b2
 exact qs_ (qs_ (qs_ (qs_ l (hb.cell 0) (fun x h => by cases h) _) (b1.cell 1) (fun x h => by cases h) _) (b2.cell 2) (fun x h => by cases h) _) (b3.cell 3) (fun x h => by cases h) _
theorem set4b {b : Nat} {w W : World} {B : Nat} (h : Below b w W) (hb : zg_ W B #[.int .i64 0, .slice none 0 0, .slice none 0 0, .bool false] 169) (hB : b <= B) (tr : Int) (fa : Option Addr) (f : List Int) (fc : Nat) (ta : Option Addr) (u : List Int) (tc : Nat) (en : Bool) (lf : Ls .u8 W fa fc f) (lu : Ls .u8 W ta tc u) :
  Below b w ((((W.setCell ⟨B, 0, none⟩ (.int .i64 tr)).setCell ⟨B, 1, none⟩ (.slice fa f.length fc)).setCell ⟨B, 2, none⟩ (.slice ta u.length tc)).setCell ⟨B, 3, none⟩ (.bool en)) /\
  zg_ ((((W.setCell ⟨B, 0, none⟩ (.int .i64 tr)).setCell ⟨B, 1, none⟩ (.slice fa f.length fc)).setCell ⟨B, 2, none⟩ (.slice ta u.length tc)).setCell ⟨B, 3, none⟩ (.bool en)) B #[.int .i64 tr, .slice fa f.length fc, .slice ta u.length tc, .bool en] 169 /\
  Ls .u8 ((((W.setCell ⟨B, 0, none⟩ (.int .i64 tr)).setCell ⟨B, 1, none⟩ (.slice fa f.length fc)).setCell ⟨B, 2, none⟩ (.slice ta u.length tc)).setCell ⟨B, 3, none⟩ (.bool en)) fa fc f /\
  Ls .u8 ((((W.setCell ⟨B, 0, none⟩ (.int .i64 tr)).setCell ⟨B, 1, none⟩ (.slice fa f.length fc)).setCell ⟨B, 2, none⟩ (.slice ta u.length tc)).setCell ⟨B, 3, none⟩ (.bool en)) ta tc u := by
 refine ⟨(((h.setCell (p := ⟨B, 0, none⟩) hB _).setCell (p := ⟨B, 1, none⟩) hB _).setCell (p := ⟨B, 2, none⟩) hB _).setCell (p := ⟨B, 3, none⟩) hB _, ?_, ?_, ?_⟩
 ·exact heap_setCell_same _ B 3 _ 169 _ (heap_setCell_same _ B 2 _ 169 _ (heap_setCell_same _ B 1 _ 169 _ (heap_setCell_same _ B 0 _ 169 _ hb)))
 ·exact set4l hb tr fa f fc ta u tc en lf
 ·exact set4l hb tr fa f fc ta u tc en lu
theorem set4a {b : Nat} {w W : World} (h : Below b w W) (hb : b <= w.heap.size) (tr : Int) (fa : Option Addr) (f : List Int) (fc : Nat) (ta : Option Addr) (u : List Int) (tc : Nat) (en : Bool) (lf : Ls .u8 W fa fc f) (lu : Ls .u8 W ta tc u) :
  Below b w (W.alloc (.cells #[.int .i64 tr, .slice fa f.length fc, .slice ta u.length tc, .bool en] 169)) /\
  zg_ (W.alloc (.cells #[.int .i64 tr, .slice fa f.length fc, .slice ta u.length tc, .bool en] 169)) W.heap.size #[.int .i64 tr, .slice fa f.length fc, .slice ta u.length tc, .bool en] 169 /\
  Ls .u8 (W.alloc (.cells #[.int .i64 tr, .slice fa f.length fc, .slice ta u.length tc, .bool en] 169)) fa fc f /\
  Ls .u8 (W.alloc (.cells #[.int .i64 tr, .slice fa f.length fc, .slice ta u.length tc, .bool en] 169)) ta tc u :=
 ⟨h.trans ((bl1 W _).mono (Nat.le_trans hb h.size)), zg_.new W _ _, lf.below (bl1 W _), lu.below (bl1 W _)⟩
def enP (p : PrV) : EnV := ⟨p.ka, p.kc, p.K, p⟩
theorem ecl_one (e : EnV) : ∀ u ∈ ecl e, u.oneCell' = true := fun u hu => by
 simp only [ecl, List.mem_cons, List.not_mem_nil, or_false] at hu
 rcases hu with rfl | rfl | rfl <;> rfl
theorem own_ens {W : World} {base n c : Nat} {a : Option Addr} {L : List EnV} (h : W.ownsRow base 149 3 (.slice a n c) n (cellsOf ecl L)) (hn : L.length = n) (ok : ∀ e ∈ L, EnL W e) : EnsR W a L := fun k e he => by
 obtain ⟨g, rfl, _, hc⟩ := zt_ ecl_len Xt0 h hn k e he
 refine ⟨g, 0, rfl, ?_, ?_, ?_, ok e (List.mem_of_getElem? he)⟩
 ·exact Xb43
 ·exact Xb64
 ·exact Xb79
theorem jH_ {α β : Type} (g : α -> β) (k1 : α -> List Int) (k2 : β -> List Int) (f u : List Int) (en : Bool) (m : Int) : ∀ (l acc : List α), (∀ e ∈ l, k2 (g e) = k1 e) -> (yL_ k1 f u en m l acc).map g = yL_ k2 f u en m (l.map g) (acc.map g)
 | [], acc, _ => rfl
 | e :: r, acc, h => by
  have h1 := h e (List.mem_cons_self ..)
  have ih := fun acc => jH_ g k1 k2 f u en m r acc fun x hx => h x (List.mem_cons_of_mem _ hx)
  rw [List.map_cons]
  unfold yL_
  rw [h1, List.length_map]
  split
  ·exact ih acc
  ·split
   ·rfl
   ·rw [ih (acc ++ [e]), List.map_append]; rfl
theorem jI_ {α : Type} (key : α -> List Int) (f u : List Int) (en : Bool) (m : Int) : ∀ (l acc : List α), (yL_ key f u en m l acc).length <= l.length + acc.length
 | [], acc => by show acc.length <= _; simp
 | e :: r, acc => by
  unfold yL_
  split
  ·have := jI_ key f u en m r acc; rw [List.length_cons]; omega
  ·split
   ·rw [List.length_cons]; omega
   ·have := jI_ key f u en m r (acc ++ [e]); rw [List.length_append, List.length_singleton] at this; rw [List.length_cons]; omega
theorem jQ_ {j : Job} {o : zj_} (h : pO j o = true) (h3 : kf o.k 3 = true) : 1 <= o.m /\ o.m <= 64 := by
 unfold pO endB at h
 rw [if_pos h3] at h
 simp only [Bool.and_eq_true] at h
 have := h.2.2
 unfold inB at this
 simpa using this
structure OpS (S : Nat -> Prop) (base : Nat) (w : World) (m : Md) (o : zj_) (t : Nat) : Prop where
 at' : zs_ (Ab S base) w fun W => zy_ W o
 te : o.t = (t : Int)
 tl : t < m.tabs.length
 po : pO m.j o = true
 rn : o.rn <= 1000000
theorem tscan_law {S : Nat -> Prop} {base : Nat} {w : World} {m : Md} {x : Tl} (h : TlR S base w m x) (hbs : base <= w.heap.size) (o : zj_) (t : Nat) (ho : OpS S base w m o t) (hk : o.k = 5) (hf : ∀ z ∈ m.tabs, z.2.length <= 900000) :
  Calls prog 127 #[.pointer (some ⟨x.px, 0, none⟩), .agg #[.int .i64 o.k, .int .i64 o.t, .int .i64 o.i, .slice o.ka o.kn o.kc, .slice o.ta o.tn o.tc, .int .i64 o.m, .slice o.ra o.rn o.rc]] w (Qf_ S base w m x ((0, yL_ Prod.fst o.K o.T (decide (0 < o.tn)) o.m (x.T m t) []) : Int × List Pr) (x.ws.map WtV.P)) := by
 obtain ⟨hb, hbx⟩ := yl_ w #[.int .i64 o.k, .int .i64 o.t, .int .i64 o.i, .slice o.ka o.kn o.kc, .slice o.ta o.tn o.tc, .int .i64 o.m, .slice o.ra o.rn o.rc] #[.int .i64 0, .slice none 0 0] 74 81
 obtain ⟨w2, hw2⟩ := gty ((w.alloc (.cells #[.int .i64 o.k, .int .i64 o.t, .int .i64 o.i, .slice o.ka o.kn o.kc, .slice o.ta o.tn o.tc, .int .i64 o.m, .slice o.ra o.rn o.rc] 74)).alloc (.cells #[.int .i64 0, .slice none 0 0] 81))
 rw [← hw2] at hb hbx
 have h2 := h.below hb
 have HMD := hid h2.md
 have HOP := hid (ho.at'.below hb).now
 have HRN := hid ho.rn
 obtain ⟨c0, _⟩ := h2.c
 have HX := hid (fun X (b : Below w2.heap.size w2 X) => (by
  have hm := (h2.md.below b).st.now.box
  have hp := (hbx X b).1
  refine ⟨tcb b c0, ?_, ?_, ?_, ?_, ?_, ?_, ?_, ?_, ?_, ?_, ?_, ?_, ?_, ?_⟩
  all_goals first | (rw [hm.cell]; rfl) | (rw [hp.cell]; rfl) : X.cell? ⟨x.px, 0, none⟩ = some (.pointer (some ⟨m.p, 0, none⟩)) /\ X.cell? ⟨m.p, 0, none⟩ = some (.int .i64 m.j.w) /\ X.cell? ⟨m.p, 1, none⟩ = some (.int .i64 m.j.l) /\ X.cell? ⟨m.p, 2, none⟩ = some (.int .i64 m.j.d) /\ X.cell? ⟨m.p, 3, none⟩ = some (.int .i64 m.j.c) /\ X.cell? ⟨m.p, 4, none⟩ = some (.int .i64 m.j.k) /\ X.cell? ⟨m.p, 5, none⟩ = some (.int .i64 m.j.e) /\ X.cell? ⟨m.p, 6, none⟩ = some (.slice m.j.a m.j.n m.j.cap) /\ X.cell? ⟨w.heap.size, 0, none⟩ = some (.int .i64 o.k) /\ X.cell? ⟨w.heap.size, 1, none⟩ = some (.int .i64 o.t) /\ X.cell? ⟨w.heap.size, 2, none⟩ = some (.int .i64 o.i) /\ X.cell? ⟨w.heap.size, 3, none⟩ = some (.slice o.ka o.kn o.kc) /\ X.cell? ⟨w.heap.size, 4, none⟩ = some (.slice o.ta o.tn o.tc) /\ X.cell? ⟨w.heap.size, 5, none⟩ = some (.int .i64 o.m) /\ X.cell? ⟨w.heap.size, 6, none⟩ = some (.slice o.ra o.rn o.rc)))
 have HH := hid (And.intro h (And.intro hbs (And.intro hb hbx)))
 have HO := hid ho
 have HF := hid hf
 have HK5 := hid hk
 have HW2 := hid hw2
 clear h hbs ho hf hk h2 hb hbx c0
 go_enter func127, ntmps127
 go_upto_region 1 with (fail)
 rw [← hw2]
 clear hw2
 go_cut [5] (fun v wx => ∃ (bx : Nat) (fa : Option Addr) (fc : Nat) (ta : Option Addr) (tc : Nat), v = .pointer (some ⟨bx, 0, none⟩) /\ Hid (Below w2.heap.size w2 wx) /\ Hid (zg_ wx bx #[.int .i64 (zD_ m.j o).1, .slice fa (zD_ m.j o).2.1.length fc, .slice ta (zD_ m.j o).2.2.1.length tc, .bool (zD_ m.j o).2.2.2.1] 169) /\ Hid (Ls .u8 wx fa fc (zD_ m.j o).2.1) /\ Hid (Ls .u8 wx ta tc (zD_ m.j o).2.2.1))
 case first =>
  exact Xb5
 case rest =>
 obtain ⟨bx, fa, fc, ta, tc, rfl, HB3, HSP, HLF, HLU⟩ := hcut
 have HBW := hid (HH.out.2.2.1.trans (HB3.out.mono HH.out.2.2.1.size))
 have HB23 := hid HB3.out.size
 have hop := (HH.out.2.2.2 wc HB3.out).1
 have c1 := hop.cell 1
 simp only [gtA, gtB, gtC] at c1
 rw [HO.out.te] at c1
 clear hop
 go_wp2_with fail
 refine (qc_ (HH.out.1.below HBW.out) t HO.out.tl HF.out).mono ?_; rintro r w6 ⟨a6, c6, P, rfl, hb6, hP, hok, hPc, hPn, hPl, hst⟩
 have HB6 := hid (HBW.out.trans (hb6.mono HBW.out.size))
 have HB36 := hid (HB3.out.trans (hb6.mono HB3.out.size))
 have HSP6 := hid (HSP.out.below hb6)
 have HLF6 := hid (HLF.out.below hb6)
 have HLU6 := hid (HLU.out.below hb6)
 have HPM := hid hP
 have HPO := hid hok
 have HST := hid hst
 have HPR := hid (hst (fun _ => False) (fun _ h => h.elim)).now
 obtain ⟨n, hn⟩ := gtx (P.length)
 rw [hn] at hPl ⊢
 have HN := hid hn
 have HLN := hid (show ∀ k, ((P.take k).map enP).length = min k n from fun k => by rw [List.length_map, List.length_take, HN.out])
 have hni : (n : Int) <= 1000000 := by omega
 clear hb6 hP hok hPc hPn hst hn c1
 go_wp2_with fail
 go_loopw [7, 27] (fun v i wr => ∃ k : Nat, k <= n /\ i = .int .i64 (k : Int) /\ Hid (wr.ownsRow w6.heap.size 149 3 v k (cellsOf ecl ((P.take k).map enP))) /\ Hid (Below w6.heap.size w6 wr)) (fun _ i _ => n - (intOf i).toNat)
 case atStart => exact ⟨0, by omega, rfl, hid (World.ownsRow_nil _ _ _ _), hid (Below.refl _ _)⟩
 case round =>
  obtain ⟨k, hk, rfl, HOV, HBR⟩ := hrel
  obtain ⟨va, vc, hv⟩ := zd_ HOV.out
  subst hv
  by_cases hlt : k < n
  ·have d1 : (k : Int) < (n : Int) := by omega
   obtain ⟨p, hp⟩ : ∃ p, P[k]? = some p := ⟨_, List.getElem?_eq_getElem Xt9⟩
   obtain ⟨b1, o1, ea, p0, p1, _, _⟩ := (HPR.out.below HBR.out).1 k p hp
   subst ea
   have HTK := hid (show (P.take (k + 1)).map enP = (P.take k).map enP ++ [enP p] by rw [List.take_add_one, hp, List.map_append]; rfl)
   have hap : k + 1 <= 2097152 := by omega
   have hsz : w6.heap.size <= wr.heap.size := HBR.out.size
   clear hp
   have HBE := hid (za_ HBR.out (za_ (bl1 wr (.cells #[.slice p.ka p.K.length p.kc, .slice p.ra p.R.length p.rc] 78)) (bl1 (wr.alloc (.cells #[.slice p.ka p.K.length p.kc, .slice p.ra p.R.length p.rc] 78)) (.cells #[.slice p.ka p.K.length p.kc, .slice p.ka p.K.length p.kc, .slice p.ra p.R.length p.rc] 149))))
   have HOE := hid (((HOV.out.alloc (.cells #[.slice p.ka p.K.length p.kc, .slice p.ra p.R.length p.rc] 78)).alloc (.cells #[.slice p.ka p.K.length p.kc, .slice p.ka p.K.length p.kc, .slice p.ra p.R.length p.rc] 149)))
   have HCE := hid (zx_ (wr.alloc (.cells #[.slice p.ka p.K.length p.kc, .slice p.ra p.R.length p.rc] 78)) #[.slice p.ka p.K.length p.kc, .slice p.ka p.K.length p.kc, .slice p.ra p.R.length p.rc] 149 (ecl (enP p)) rfl)
   rw [World.size_alloc] at HCE
   go_wp2_with (at_builtin; refine zv_ ae_entry rfl _ _ rfl w6.heap.size (.slice va k vc) k (cellsOf ecl ((P.take k).map enP)) rfl HOE.out ⟨wr.heap.size + 1, 0, none⟩ 1 1 (ecl (enP p)) rfl rfl HCE.out (ecl_one (enP p)) hap HBE.out.size ?_; intro v8 w8 hown8 hgrow8 _; have HO8 := hid hown8; have HG8 := hid hgrow8; have HB8 := hid (Off.below HBE.out (Off.of_row hgrow8) HBE.out.size (fun k hk => (zb_ HOV.out hk).1)); clear hown8 hgrow8)
   go_roundw
   case rel =>
    exact ⟨k + 1, by omega, by go_num, hid (by rw [HTK.out, zq_]; exact HO8.out), HB8⟩
   case measure => simp [intOf]; omega
  ·have d1 : ¬ (k : Int) < (n : Int) := by omega
   have hke : k = n := by omega
   have HTK := hid (show (P.take k).map enP = P.map enP by rw [List.take_of_length_le Xt23])
   have HLE := hid (show (P.map enP).length = k by rw [List.length_map, HN.out, hke])
   have ho := HOV.out
   rw [HTK.out] at ho
   have HEN := hid (own_ens ho HLE.out (fun e he => by
    obtain ⟨q, hq, rfl⟩ := List.mem_map.1 he
    obtain ⟨i, hi⟩ := List.mem_iff_getElem?.1 hq
    obtain ⟨_, _, _, _, _, l, r⟩ := (HPR.out.below HBR.out).1 i q hi
    exact ⟨l, l, r, (HPR.out.below HBR.out).2.2 q hq⟩))
   have HB3R := hid (HB36.out.trans (HBR.out.mono HB36.out.size))
   have hop := (HH.out.2.2.2 wr HB3R.out).1
   have c5 := hop.cell 5
   have hsp := HSP6.out.below HBR.out
   have s0 := hsp.cell 0
   have s1 := hsp.cell 1
   have s2 := hsp.cell 2
   have s3 := hsp.cell 3
   simp only [gtA, gtB, gtC] at c5 s0 s1 s2 s3
   have h3 : kf o.k 3 = true := by rw [xb_, HK5.out]; rfl
   have h4 : kf o.k 4 = false := by rw [jx_, HK5.out]; rfl
   have hrg : zD_ m.j o = ((trV m.j o.t (-1)).1, o.K, o.T, decide (0 < o.tn), 0) := by
    exact Xb88
   have HRG := hid hrg
   have hmo := jQ_ HO.out.po h3
   have hca := HO.out.at'.now
   have HWI := hid (qo_ (zD_ m.j o).1 fa ta _ fc _ tc (zD_ m.j o).2.1 (zD_ m.j o).2.2.1 (zD_ m.j o).2.2.2.1 o.m Xt0 rfl rfl (by rw [hrg]; exact hca.kb) (by rw [hrg]; exact hca.tb) va k vc (P.map enP) HLE.out Xt0 (fun e he => by
    obtain ⟨q, hq, rfl⟩ := List.mem_map.1 he
    exact (HPO.out q hq).1.1) wr (HLF6.out.below HBR.out) (HLU6.out.below HBR.out) HEN.out)
   clear ho hop hsp h3 h4 hrg hmo hca hke
   go_wp2_with fail
   refine HWI.out.mono ?_; rintro r w3 ⟨a9, c9, rfl, hb9, hc9, hn9, ho9⟩
   have HZM := hid (xh_ EnV.K (zD_ m.j o).2.1 (zD_ m.j o).2.2.1 (zD_ m.j o).2.2.2.1 o.m (P.map enP) [])
   have HZP := hid (show (yL_ EnV.K (zD_ m.j o).2.1 (zD_ m.j o).2.2.1 (zD_ m.j o).2.2.2.1 o.m (P.map enP) []).map (fun e => prC e.p) = yL_ Prod.fst o.K o.T (decide (0 < o.tn)) o.m (x.T m t) [] by
    rw [jH_ (fun e : EnV => prC e.p) EnV.K Prod.fst _ _ _ _ _ _ (fun e he => by obtain ⟨q, hq, rfl⟩ := List.mem_map.1 he; rfl), List.map_map, HRG.out]
    rw [show ((fun e : EnV => prC e.p) ∘ enP) = prC from rfl, HPM.out]
    rfl)
   obtain ⟨Z, hZ⟩ := gtx (yL_ EnV.K (zD_ m.j o).2.1 (zD_ m.j o).2.2.1 (zD_ m.j o).2.2.2.1 o.m (P.map enP) [])
   have HZL := hid (show Z.length <= 1000000 by have := jI_ EnV.K (zD_ m.j o).2.1 (zD_ m.j o).2.2.1 (zD_ m.j o).2.2.2.1 o.m (P.map enP) []; rw [hZ, HLE.out] at this; simp at this; omega)
   rw [hZ] at HZM HZP hc9 ho9 ⊢
   have HB1R := hid ((HH.out.2.2.2 wr HB3R.out).2.lt)
   have HO9 := hid ho9
   have HB9 := hid hb9
   have HBT := hid (HB6.out.trans ((za_ HBR.out hb9).mono HB6.out.size))
   have HB3 := hid ((HH.out.2.2.2 wr HB3R.out).2.below hb9)
   have HB2 := hid ((HH.out.2.2.2 w2 (Below.refl _ _)).2.lt)
   have HWC := hid (show w2.heap.size <= wc.heap.size from HB23.out)
   clear hZ hb9 hc9 hn9 ho9 c5 s0 s1 s2 s3
   have g0 := HB3.out.cell 0
   have g1 := HB3.out.cell 1
   have i0 := HB3.out.frozen 0
   have i1 := HB3.out.frozen 1
   simp only [gtA, gtB, gtC] at g0 g1
   go_wp2_with fail
   clear g0 g1 i0 i1
   have hb4 := zg_.set2 (x := .int .i64 0) (y := .slice a9 Z.length c9) HB3.out
   have ho4 : Off (fun k => k = w.heap.size + 1) w3 ((w3.setCell ⟨w.heap.size + 1, 0, none⟩ (.int .i64 0)).setCell ⟨w.heap.size + 1, 1, none⟩ (.slice a9 Z.length c9)) :=
    Off.set (S := fun k => k = w.heap.size + 1) (Off.set (S := fun k => k = w.heap.size + 1) (Off.refl _ w3) ⟨w.heap.size + 1, 0, none⟩ rfl _) ⟨w.heap.size + 1, 1, none⟩ rfl _
   revert hb4 ho4
   generalize (w3.setCell ⟨w.heap.size + 1, 0, none⟩ (.int .i64 0)).setCell ⟨w.heap.size + 1, 1, none⟩ (.slice a9 Z.length c9) = w4
   intro hb4 ho4
   have q0 := hb4.cell 0
   have q1 := hb4.cell 1
   have HO4 := hid ho4
   clear hb4 ho4
   refine bodyPost_end (v := .agg #[.int .i64 0, .slice a9 Z.length c9]) (by simp [results, results127, go_sem, q0, q1]) rfl ?_
   have hzp : ∀ e ∈ Z, ∃ q ∈ P, enP q = e := fun e he => by
    rcases HZM.out e he with h | h
    ·exact List.mem_map.1 h
    ·cases h
   have hl9 : (Z.map EnV.p).length = Z.length := List.length_map _
   have hzl : Z.length <= 1000000 := HZL.out
   refine ⟨S, x, ⟨0, a9, c9, Z.map EnV.p⟩, by rw [hl9], TSt.same HH.out.1 (Off.below HBT.out HO4.out HBT.out.size Xt35), ?_, ⟨by rw [hl9]; exact hzl, fun p hp => ?_⟩, ?_, rfl⟩
   ·show ((0 : Int), (Z.map EnV.p).map prC) = _
    rw [List.map_map]
    rw [show (prC ∘ EnV.p) = fun e : EnV => prC e.p from rfl, HZP.out]
   ·obtain ⟨e, he, rfl⟩ := List.mem_map.1 hp
    obtain ⟨q, hq, rfl⟩ := hzp e he
    have := HPO.out q hq
    exact ⟨this.1.1, xB_ this.2, by have h2 := this.2.2.1; rw [List.length_map] at h2; show q.R.length <= 1000000; omega⟩
   ·have hbd9 : ∀ k, (fun k => Rb S base k ∨ k = w.heap.size + 1) k -> k < wc.heap.size := fun k hk => by
     rcases hk with hk | rfl
     ·exact Nat.lt_of_lt_of_le (HH.out.1.rb HH.out.2.1 k hk) HBW.out.size
     ·exact Nat.lt_of_lt_of_le HB2.out HWC.out
    have h9 := ((HST.out _ hbd9).below (za_ HBR.out HB9.out)).off (HO4.out.mono fun k hk => .inr hk)
    intro W' o'
    have hrow := zl_ (zl_ HO9.out HO4.out (fun k hk => by cases hk; exact HB1R.out)) o' (fun k hk => Nat.lt_of_lt_of_le (HH.out.1.rb HH.out.2.1 k hk) (Nat.le_trans HB6.out.size HBR.out.size))
    have hrow : W'.ownsRow wr.heap.size 78 2 (.slice a9 (Z.map EnV.p).length c9) (Z.map EnV.p).length (zi_ (Z.map EnV.p)) := by rw [hl9]; exact hrow
    refine ⟨yd_ hrow rfl (fun p hp => ?_), WrB.of hrow, fun p hp => ?_⟩
    rotate_left
    ·obtain ⟨e, he, rfl⟩ := List.mem_map.1 hp
     obtain ⟨q, hq, rfl⟩ := hzp e he
     exact ((h9.less (fun k hk => .inl hk)) W' o').2.2 q hq
    obtain ⟨e, he, rfl⟩ := List.mem_map.1 hp
    obtain ⟨q, hq, rfl⟩ := hzp e he
    obtain ⟨i, hi⟩ := List.mem_iff_getElem?.1 hq
    obtain ⟨_, _, _, _, _, l, r⟩ := ((h9.less (fun k hk => .inl hk)) W' o').1 i q hi
    exact ⟨l, r⟩
end
section
open Go.Shelf
def EnQ (base : Nat) (V : List (Int × List Int) × Int) (r : Ending) (w' : World) : Prop := ∃ (a : Option Addr) (c : Nat) (L : List E1), r = .returned (.tuple #[.slice a V.1.length c, .int .i64 V.2]) /\ enS L = V.1 /\ w'.ownsRow base 192 2 (.slice a V.1.length c) V.1.length (ev L) /\ ∀ p ∈ L, w'.ownsRow base 5 1 p.2.v p.2.bs.length (iv .u8 p.2.bs)
theorem j4_ (base : Nat) (w' : World) {V : List (Int × List Int) × Int} (h : V = ([], 2)) : EnQ base V (.returned (.tuple #[.slice none 0 0, .int .i64 2])) w' := by
 subst h
 exact ⟨none, 0, [], rfl, rfl, World.ownsRow_nil _ _ _ _, fun p hp => by simp at hp⟩
theorem QO_ (j : Job) (t : Int) (ka : Option Addr) (K : List Int) (kn kc : Nat) (ra : Option Addr) (R : List P1) (rn rc : Nat) (hK : K.length = kn) (hR : R.length = rn) (hrn : rn <= 1000000) (w : World) (hj : yb_ w j) (hk : Ls .u8 w ka kc K) (hr : RdR w ra R) :
  Calls prog 118 #[.agg #[.int .i64 j.w, .int .i64 j.l, .int .i64 j.d, .int .i64 j.c, .int .i64 j.k, .int .i64 j.e, .slice j.a j.n j.cap], .int .i64 t, .slice ka kn kc, .slice ra rn rc] w fun r w' => EnQ w.heap.size (Qh_ j t R K) r w' /\ Below w.heap.size w w' := by
 obtain ⟨i0, hi, hz0, hz1, hz2⟩ := info_parts info91
 have HJ := hid hj
 have HKK := hid hk
 have HRR := hid hr
 have HK := hid hK
 have HR := hid hR
 have HTR := hid (fun W (h : yb_ W j) => qu_ j t (-1) W h)
 have HF := hid (fun (h : (trV j t (-1)).2.2.2 = true) => trV_facts hj.len h)
 have HV := hid (show Qh_ j t R K = if (trV j t (-1)).2.2.2 && yw_ K.length && ja_ R then (Qi_ (trV j t (-1)).1.toNat (min (j.T.getD t.toNat 0).toNat (R.length - 1)) R K, 0) else ([], 2) from rfl)
 have hri : (rn : Int) <= 1000000 := by omega
 have hB1 : Below w.heap.size w (w.alloc (.cells #[.int .i64 j.w, .int .i64 j.l, .int .i64 j.d, .int .i64 j.c, .int .i64 j.k, .int .i64 j.e, .slice j.a j.n j.cap] 24)) := (Below.refl _ _).alloc (Nat.le_refl _) _
 have HB1 := hid hB1
 have hbj := zg_.new w #[.int .i64 j.w, .int .i64 j.l, .int .i64 j.d, .int .i64 j.c, .int .i64 j.k, .int .i64 j.e, .slice j.a j.n j.cap] 24
 clear hj hk hr hK hR hB1
 generalize trV j t (-1) = V at HTR HF HV
 obtain ⟨f, t0, ix, ok⟩ := V
 simp only at HTR HF HV
 cases ok
 ·have HN := hid (show Qh_ j t R K = ([], 2) from HV.out)
  try simp only [Bool.false_eq_true, ↓reduceIte] at HTR
  clear HF HV hbj
  go_enter func118, ntmps118
  go_wp2_with fail
  refine (HTR.out _ (HJ.out.below HB1.out)).mono ?_; rintro r w2 ⟨rfl, B2⟩
  have HB2 := hid (za_ HB1.out B2)
  clear B2
  go_wp2_with fail
  go_ret2
  exact ⟨j4_ _ _ HN.out, HB2.out⟩
 ·obtain ⟨k, f, rfl, hkT, hok, hf12, hfe⟩ := HF.out rfl
  try simp only at hfe
  subst hfe
  try simp only [↓reduceIte] at HTR
  have hT := hid (jb_ hok)
  have hxx := jb_ hok k hkT
  obtain ⟨x, hx⟩ : ∃ x : Nat, j.T.getD k 0 = (x : Int) := ⟨(j.T.getD k 0).toNat, by omega⟩
  have hx2 : x <= 2 := by omega
  have hx2i : (x : Int) <= 2 := by omega
  have hkn : (k : Int) < (j.n : Int) := by rw [← HJ.out.len]; omega
  obtain ⟨b1, o1, ea, d1⟩ := (HJ.out.ls).get k hkT
  rw [hx] at d1
  have D1 := hid d1
  have HVV := hid (show yw_ kn = true -> ja_ R = true -> Qh_ j (k : Int) R K = (Qi_ f (min x (rn - 1)) R K, 0) from fun h1 h2 => by
   rw [HV.out, HK.out, h1, h2, HR.out, Int.toNat_natCast, Int.toNat_natCast, hx, Int.toNat_natCast]
   rfl)
  have HVN := hid (show yw_ kn = false ∨ ja_ R = false -> Qh_ j (k : Int) R K = ([], 2) from fun h => by
   rw [HV.out, HK.out]
   rcases h with h | h
   ·rw [h]; simp
   ·rw [h]; simp)
  have hfi : (f : Int) <= 12 := by omega
  clear HF hxx hx hok HV
  have c6 := hbj.cell 6
  simp only [gtA, gtB, gtC] at c6
  have HEA := hid ea
  have C6 := hid c6
  clear hbj c6 hkT ea d1
  cases hmk : yw_ kn
  ·have HN := hid (HVN.out (.inl hmk))
   have HMK := hid hmk
   clear HVV HVN hmk
   go_enter func118, ntmps118
   go_wp2_with fail
   refine (HTR.out _ (HJ.out.below HB1.out)).mono ?_; rintro r w2 ⟨rfl, B2⟩
   have HB2 := hid (za_ HB1.out B2)
   clear B2
   go_wp2_with fail
   refine (zN_ _ _ _ _).mono ?_; rintro r w3 ⟨rfl, rfl⟩
   rw [HMK.out]
   go_wp2_with fail
   go_ret2
   exact ⟨j4_ _ _ HN.out, HB2.out⟩
  cases hro : ja_ R
  ·have HN := hid (HVN.out (.inr hro))
   have HMK := hid hmk
   have hro2 : 0 < rn /\ yZ_ R = false := by
    unfold ja_ at hro
    simp at hro
    exact ⟨by rw [← HR.out]; exact List.length_pos_iff.2 hro.1, hro.2⟩
   have hrn0 : (0 : Int) < (rn : Int) := by omega
   have HMR := hid (fun W (b : RdR W ra R) => by have := xZ_ ra R rn rc HR.out hrn W b; rwa [hro2.2] at this)
   clear HVV HVN hmk hro hro2
   go_enter func118, ntmps118
   go_wp2_with fail
   refine (HTR.out _ (HJ.out.below HB1.out)).mono ?_; rintro r w2 ⟨rfl, B2⟩
   have HB2 := hid (za_ HB1.out B2)
   clear B2
   go_wp2_with fail
   refine (zN_ _ _ _ _).mono ?_; rintro r w3 ⟨rfl, rfl⟩
   rw [HMK.out]
   go_wp2_with fail
   refine (HMR.out _ (HRR.out.below HB2.out)).mono ?_; rintro r w3 ⟨rfl, B3⟩
   have HB3 := hid (za_ HB2.out B3)
   clear B3
   go_wp2_with fail
   go_ret2
   exact ⟨j4_ _ _ HN.out, HB3.out⟩
  ·have HN := hid (HVV.out hmk hro)
   have HMK := hid hmk
   clear HVV HVN hmk
   rcases (show rn = 0 ∨ (0 < rn /\ yZ_ R = true) by
    unfold ja_ at hro
    simp at hro
    rcases hro with h | h
    ·left; rw [← HR.out, h]; rfl
    ·right; exact ⟨by rw [← HR.out]; exact ((xq_ R).1 h).2.1, h⟩) with hr0 | ⟨hr0, hmr⟩
   ·subst hr0
    have HN2 := hid (show Qh_ j (k : Int) R K = ([], 0) by rw [HN.out]; simp [Qi_])
    clear hro HN
    go_enter func118, ntmps118
    go_wp2_with fail
    refine (HTR.out _ (HJ.out.below HB1.out)).mono ?_; rintro r w2 ⟨rfl, B2⟩
    have c6 := (B2.cell (p := ⟨w.heap.size, 6, none⟩) Xt5).trans C6.out
    rw [HEA.out] at c6
    have d2 := ((za_ HB1.out B2).cell (p := ⟨b1, o1 + k, none⟩) (World.block_lt_of_cell? w _ D1.out)).trans D1.out
    have HB2 := hid (za_ HB1.out B2)
    clear B2
    go_wp2_with fail
    refine (zN_ _ _ _ _).mono ?_; rintro r w3 ⟨rfl, rfl⟩
    rw [HMK.out]
    go_wp2_with fail
    go_loopw [12, 44] (fun v i wr => ∃ m : Nat, m <= x /\ i = .int .i64 (m : Int) /\ v = .slice none 0 0 /\ wr = w2) (fun _ i _ => x - (intOf i).toNat)
    case atStart => exact ⟨0, by omega, rfl, rfl, rfl⟩
    case round =>
     obtain ⟨m, hm, rfl, rfl, rfl⟩ := hrel
     by_cases hlt : m < x
     ·have hml : (m : Int) < (x : Int) := by omega
      have hm1 : ¬ (m : Int) + 1 < 0 := by omega
      go_wp2_with fail
      go_roundw
      case rel => exact ⟨m + 1, by omega, by go_num, rfl, trivial⟩
      case measure => simp [intOf]; omega
     ·have hml : ¬ (m : Int) < (x : Int) := by omega
      go_wp2_with fail
      go_ret2
      exact ⟨by rw [HN2.out]; exact ⟨none, 0, [], rfl, rfl, World.ownsRow_nil _ _ _ _, fun p hp => by simp at hp⟩, HB2.out⟩
   ·have hrn0 : (0 : Int) < (rn : Int) := by omega
    have HMR := hid (fun W (b : RdR W ra R) => by have := xZ_ ra R rn rc HR.out hrn W b; rwa [hmr] at this)
    have HM := hid ((xq_ R).1 hmr)
    have hrn3 : rn <= 3 := by have := HM.out.2.2; rw [HR.out] at this; exact this
    clear hro hmr
    go_enter func118, ntmps118
    go_wp2_with fail
    refine (HTR.out _ (HJ.out.below HB1.out)).mono ?_; rintro r w2 ⟨rfl, B2⟩
    have c6' := (B2.cell (p := ⟨w.heap.size, 6, none⟩) Xt5).trans C6.out
    rw [HEA.out] at c6'
    have HB2 := hid (za_ HB1.out B2)
    have hlw : w.heap.size < w2.heap.size := by have := B2.size; simp at this; omega
    clear B2
    go_wp2_with fail
    refine (zN_ _ _ _ _).mono ?_; rintro r w3 ⟨rfl, rfl⟩
    rw [HMK.out]
    go_wp2_with fail
    refine (HMR.out _ (HRR.out.below HB2.out)).mono ?_; rintro r w3 ⟨rfl, B3⟩
    have c6 := (B3.cell (p := ⟨w.heap.size, 6, none⟩) hlw).trans c6'
    have d2 := ((za_ HB2.out B3).cell (p := ⟨b1, o1 + k, none⟩) (World.block_lt_of_cell? w _ D1.out)).trans D1.out
    have HB3 := hid (za_ HB2.out B3)
    clear B3 c6'
    go_wp2_with fail
    go_loopw [12, 44] (fun v i wr => ∃ m : Nat, m <= x /\ i = .int .i64 (m : Int) /\ EnI w.heap.size f (min m (rn - 1)) R K v wr /\ Below w.heap.size w wr) (fun _ i _ => x - (intOf i).toNat)
    case atStart => exact ⟨0, by omega, rfl, ⟨[], by simp [enS, Qi_], by rw [Nat.zero_min]; exact World.ownsRow_nil _ _ _ _, fun p hp => by simp at hp⟩, HB3.out⟩
    case round =>
     clear c6 d2
     obtain ⟨m, hm, rfl, hI, B⟩ := hrel
     by_cases hlt : m < x
     ·have hml : (m : Int) < (x : Int) := by omega
      have hmi : (m : Int) <= 2 := by omega
      have BB := hid B
      have HI := hid hI
      clear hI B
      by_cases hmr : m + 1 < rn
      ·have hmrl : (m : Int) + 1 < (rn : Int) := by omega
       have hm0 : (0 : Int) <= (m : Int) + 1 := by omega
       have hmt : ((m : Int) + 1).toNat = m + 1 := by omega
       obtain ⟨p, hp⟩ : ∃ p, R[m + 1]? = some p := ⟨_, List.getElem?_eq_getElem (by rw [HR.out]; exact hmr)⟩
       obtain ⟨b2, o2, e2, c2, l2⟩ := HRR.out.below BB.out (m + 1) p hp
       subst e2
       have c3 : wr.cell? ⟨b2, o2 + (m + 1), none⟩ = some (.slice p.ad p.bs.length p.cap) := c2
       obtain ⟨q, hq⟩ := gtx (p.bs.length)
       rw [hq] at c3
       have hq24 : q <= 24 := by rw [← hq]; exact HM.out.1 p (List.mem_of_getElem? hp)
       have HE := hid (entry_own p.ad ka p.bs K q kn p.cap kc hq HK.out hq24 HMK.out wr l2 (HKK.out.below BB.out))
       have HG := hid (show ((R.map P1.bs).getD (m + 1) []) = p.bs by simp [List.getD, hp])
       obtain ⟨EL, hEL⟩ := gtx (zu_ p.bs K)
       rw [hEL] at HE
       have hs1 := BB.out.size
       obtain ⟨el, hel⟩ := gtx (EL.length)
       rw [hel] at HE
       have HEL := hid (And.intro hEL hel)
       have hmin : min m (rn - 1) = m := by omega
       rw [hmin] at HI
       clear hp c2 l2 hq hEL hel hmin
       go_wp2_with fail
       refine HE.out.mono ?_; rintro r w4 ⟨a4, c4, rfl, o4, B4⟩
       obtain ⟨L, i1, i2, i3⟩ := (HI.out.below B4).ex
       have O4 := hid (xW_ hs1 o4)
       have I1 := hid i1
       have I2 := hid i2
       have I3 := hid i3
       have hs4 : w.heap.size <= w4.heap.size := Nat.le_trans hs1 B4.size
       have HB4 := hid (za_ BB.out B4)
       have hsum : ((f + 1 + m : Nat) : Int) = (f : Int) + 1 + (m : Int) := by omega
       have HS := hid hsum
       clear o4 i1 i2 i3 B4 c3 hsum
       go_wp2_with (at_builtin; refine wpList_append_own _ rfl (.tmp 62) (.tmp 69) 188 rfl w.heap.size 192 i0 (.agg #[.int .i64 0, .slice none 0 0]) 2 32 underlying188 hi hz0 hz1 hz2 rfl Xt4 _ m (ev L) rfl (I2.out.alloc _) ⟨w4.heap.size, 0, none⟩ 1 1 [.int .i64 ((f : Int) + 1 + (m : Int)), .slice a4 el c4] rfl rfl (cell_two_new _ _ _ _) (by intro u hu; simp at hu; rcases hu with rfl | rfl <;> rfl) Xt15 Xt0 Xt7 ?_)
       intro v5 w5 hown5 hgrow5 _
       have keep : ∀ (y : Value) (n : Nat) (xs : List Value), w4.ownsRow w.heap.size 5 1 y n xs -> w5.ownsRow w.heap.size 5 1 y n xs := fun y n xs hy => (hy.alloc _).kept hgrow5 (QA_ hy I2.out Xt4)
       have b5 : Below w.heap.size w4 w5 := ((Below.refl _ w4).alloc hs4 _).grown hgrow5 Xt7 (fun j hj => (I2.out.lt j hj).1)
       have HI5 := hid (show EnI w.heap.size f (min (m + 1) (rn - 1)) R K v5 w5 by
        rw [show min (m + 1) (rn - 1) = m + 1 by omega]
        refine ⟨L ++ [(((f + 1 + m : Nat) : Int), ⟨a4, c4, EL⟩)], ?_, ?_, fun p hp => ?_⟩
        ·rw [entL_succ, HG.out, HEL.out.1, ← I1.out]; simp [enS]
        ·rw [ev_append, HS.out]
         have e : ev [((f : Int) + 1 + (m : Int), (⟨a4, c4, EL⟩ : P1))] = [.int .i64 ((f : Int) + 1 + (m : Int)), .slice a4 el c4] := by simp [ev, P1.v, HEL.out.2]
         rw [e]; exact hown5
        ·rcases List.mem_append.1 hp with hp | hp
         ·exact keep _ _ _ (I3.out p hp)
         ·simp at hp
          subst hp
          have := keep _ _ _ O4.out
          simpa [P1.v, HEL.out.2] using this)
       have HB5 := hid (HB4.out.trans b5)
       clear keep b5 hown5 hgrow5
       go_wp2_with fail
       go_roundw
       case rel => exact ⟨m + 1, by omega, by go_num, HI5.out, HB5.out⟩
       case measure => simp [intOf]; omega
      ·have hmrl : ¬ (m : Int) + 1 < (rn : Int) := by omega
       have HI5 := hid (show EnI w.heap.size f (min (m + 1) (rn - 1)) R K _ wr by
        rw [show min (m + 1) (rn - 1) = min m (rn - 1) by omega]; exact HI.out)
       go_wp2_with fail
       go_roundw
       case rel => exact ⟨m + 1, by omega, by go_num, HI5.out, BB.out⟩
       case measure => simp [intOf]; omega
     ·have hml : ¬ (m : Int) < (x : Int) := by omega
      obtain rfl : m = x := by omega
      obtain ⟨L, i1, i2, i3⟩ := hI.ex
      have hL : L.length = min m (rn - 1) := by have := congrArg List.length i1; simpa [enS, yV_] using this
      obtain ⟨la, lc, hv⟩ := zd_ i2
      subst hv
      have HE := hid (And.intro i2 i3)
      have I1 := hid i1
      have BB := hid B
      clear hI i1 i2 i3 B
      go_wp2_with fail
      go_ret2
      exact ⟨by rw [HN.out]; exact ⟨la, lc, L, by rw [yV_]; rfl, I1.out, by rw [yV_]; exact HE.out.1, HE.out.2⟩, BB.out⟩
end
section
open Go.Maps
theorem xz_ : ∀ (f p k : List Int), (p ++ f).length <= 24 -> yw_ k.length = true -> 1 <= k.length -> z5_ p (zu_ f k) = some (p ++ f, k)
 | [], p, k, hl, hk, h1 => by
  simp only [zu_, zk_, List.nil_append, List.cons_append, z5_, if_true, List.append_nil] at hl ⊢
  rw [if_pos ⟨hl, hk⟩]
 | x :: f, p, k, hl, hk, h1 => by
  have ih := xz_ f (p ++ [x]) k (by simpa using hl) hk h1
  have e : zu_ (x :: f) k = esc x ++ zu_ f k := by simp [zu_, zk_]
  rw [e]
  unfold esc
  split
  ·rename_i h0
   subst h0
   simp only [List.cons_append, List.nil_append, z5_, if_true, show ¬ (255 : Int) = 1 by decide, if_false]
   rw [ih]; simp
  ·rename_i h0
   obtain ⟨y, s, hy⟩ : ∃ y s, zu_ f k = y :: s := by
    cases h : zu_ f k with
    | nil => have := congrArg List.length h; simp [zu_] at this
    | cons y s => exact ⟨y, s, rfl⟩
   rw [hy, List.cons_append, List.nil_append, z5_, if_neg h0, ← hy, ih]; simp
theorem qq_ (f k : List Int) (hf : f.length <= 24) (hk : yw_ k.length = true) : yX_ (zu_ f k) = (f, k, 0) := by
 have h1 : 1 <= k.length := by unfold yw_ at hk; simp at hk; exact hk.1
 rw [yX_, xz_ f [] k (by simpa using hf) hk h1]; rfl
theorem entryL_inj {f g k l : List Int} (hf : f.length <= 24) (hg : g.length <= 24) (hk : yw_ k.length = true) (hl : yw_ l.length = true) (h : zu_ f k = zu_ g l) : f = g /\ k = l := by
 have h1 := qq_ f k hf hk
 rw [h, qq_ g l hg hl] at h1
 simp only [Prod.mk.injEq, and_true] at h1
 exact ⟨h1.1.symm, h1.2.symm⟩
def ofP (R : List (List Int)) : List P1 := R.map fun b => ⟨none, 0, b⟩
theorem ofP_bs (R : List (List Int)) : (ofP R).map P1.bs = R := by
 unfold ofP
 rw [List.map_map]
 have : (P1.bs ∘ fun b : List Int => (⟨none, 0, b⟩ : P1)) = id := rfl
 rw [this, List.map_id]
theorem allB_ext {R R' : List P1} (h : R.map P1.bs = R'.map P1.bs) : QX_ R = QX_ R' := by
 have e : ∀ R : List P1, QX_ R = (R.map P1.bs).all fun b => decide (b.length <= 24) := fun R => by unfold QX_; rw [List.all_map]; rfl
 rw [e, e, h]
theorem entV_ext (j : Job) (t : Int) {R R' : List P1} (h : R.map P1.bs = R'.map P1.bs) (K : List Int) : Qh_ j t R K = Qh_ j t R' K := by
 have hl : R.length = R'.length := by have := congrArg List.length h; simpa using this
 have e2 : ∀ f m, Qi_ f m R K = Qi_ f m R' K := fun f m => by unfold Qi_; rw [h]
 unfold Qh_ ja_ yZ_
 rw [hl, allB_ext h, e2]
theorem jy_ {K : List Int} (h : zH_ K) : yw_ K.length = true := by unfold yw_; rw [decide_eq_true_eq]; exact h.2
def entP (j : Job) (t tr : Int) (p : Pr) : List (List Int × Pr) := ((Qh_ j t (ofP p.2) p.1).1.filter fun e => decide (e.1 = tr)).map fun e => (e.2, p)
def qi_ (j : Job) (t tr : Int) (T : List Pr) : List (List Int × Pr) := T.flatMap (entP j t tr)
def yG_ (j : Job) (t tr : Int) (T : List Pr) : List (List Int × Pr) := (qi_ j t tr T).mergeSort fun a b => leL a.1 b.1
theorem qA_ {j : Job} {t tr : Int} {p : Pr} (hk : zH_ p.1) (hr : rOk p.2) {e : List Int × Pr} (he : e ∈ entP j t tr p) : e.2 = p /\ ∃ f : List Int, f.length <= 24 /\ Byt f /\ f ∈ p.2 /\ e.1 = zu_ f p.1 := by
 unfold entP at he
 obtain ⟨x, hx, rfl⟩ := List.mem_map.1 he
 have hx := (List.mem_filter.1 hx).1
 refine ⟨rfl, ?_⟩
 unfold Qh_ at hx
 split at hx
 ·unfold Qi_ at hx
  obtain ⟨i, hi, rfl⟩ := List.mem_map.1 hx
  rw [List.mem_range] at hi
  rw [ofP_bs]
  have hl : (ofP p.2).length = p.2.length := List.length_map _
  rw [hl] at hi
  have hi2 : i + 1 < p.2.length := by omega
  have hm : p.2.getD (i + 1) [] ∈ p.2 := by
   rw [List.getD_eq_getElem?_getD, List.getElem?_eq_getElem hi2]; exact List.getElem_mem hi2
  exact ⟨_, (hr.2.2 _ hm).2, (hr.2.2 _ hm).1, hm, rfl⟩
 ·cases hx
theorem entP_one {j : Job} {t tr : Int} {p : Pr} : (entP j t tr p).length <= 1 := by
 unfold entP
 rw [List.length_map]
 unfold Qh_
 split
 ·unfold Qi_
  rw [List.filter_map, List.length_map]
  have hn : ∀ m, ((List.range m).filter ((fun e : Int × List Int => decide (e.1 = tr)) ∘ fun (i : Nat) => ((((trV j t (-1)).1.toNat + 1 + i : Nat) : Int), zu_ (((ofP p.2).map P1.bs).getD (i + 1) []) p.1))).length <= 1 := fun m => by
   have hd : ((List.range m).filter ((fun e : Int × List Int => decide (e.1 = tr)) ∘ fun (i : Nat) => ((((trV j t (-1)).1.toNat + 1 + i : Nat) : Int), zu_ (((ofP p.2).map P1.bs).getD (i + 1) []) p.1))).Nodup := List.Pairwise.filter _ List.nodup_range
   match hq : (List.range m).filter ((fun e : Int × List Int => decide (e.1 = tr)) ∘ fun (i : Nat) => ((((trV j t (-1)).1.toNat + 1 + i : Nat) : Int), zu_ (((ofP p.2).map P1.bs).getD (i + 1) []) p.1)), hd with
   | [], _ => simp
   | [_], _ => simp
   | a :: b :: r, hd =>
    exfalso
    have ha : a ∈ (List.range m).filter ((fun e : Int × List Int => decide (e.1 = tr)) ∘ fun (i : Nat) => ((((trV j t (-1)).1.toNat + 1 + i : Nat) : Int), zu_ (((ofP p.2).map P1.bs).getD (i + 1) []) p.1)) := by rw [hq]; simp
    have hb : b ∈ (List.range m).filter ((fun e : Int × List Int => decide (e.1 = tr)) ∘ fun (i : Nat) => ((((trV j t (-1)).1.toNat + 1 + i : Nat) : Int), zu_ (((ofP p.2).map P1.bs).getD (i + 1) []) p.1)) := by rw [hq]; simp
    have ha := (List.mem_filter.1 ha).2
    have hb := (List.mem_filter.1 hb).2
    simp only [Function.comp, decide_eq_true_eq] at ha hb
    have : a = b := by omega
    subst this
    simp at hd
  exact hn _
 ·simp
theorem qS_ {j : Job} {t tr : Int} {T : List Pr} (hT : tOk T) : (qi_ j t tr T).Pairwise fun a b => a.1 ≠ b.1 := by
 unfold qi_
 rw [List.pairwise_flatMap]
 refine ⟨fun p hp => ?_, ?_⟩
 ·have := entP_one (j := j) (t := t) (tr := tr) (p := p)
  match hq : entP j t tr p, this with
  | [], _ => exact List.Pairwise.nil
  | [_], _ => simp
  | _ :: _ :: _, h => simp at h
 ·refine List.Pairwise.imp_of_mem (fun {p q} hp hq hpq => ?_) hT.1
  intro a ha b hb e
  obtain ⟨_, f, hf, _, _, e1⟩ := qA_ (hT.2 p hp).1 (hT.2 p hp).2 ha
  obtain ⟨_, g, hg, _, _, e2⟩ := qA_ (hT.2 q hq).1 (hT.2 q hq).2 hb
  rw [e1, e2] at e
  have := (entryL_inj hf hg (jy_ (hT.2 p hp).1) (jy_ (hT.2 q hq).1) e).2
  rw [this, zT_] at hpq
  cases hpq
theorem qT_ {j : Job} {t tr : Int} {T : List Pr} (hT : tOk T) : Ris Prod.fst (yG_ j t tr T) := by
 refine xT_ ((List.pairwise_mergeSort (fun a b c => x1_ a.1 b.1 c.1) (fun a b => QI_ a.1 b.1) _).imp fun {a b} h => by unfold leL at h; simpa using h) ?_
 exact qm_ (List.mergeSort_perm _ _).symm (qS_ hT)
theorem lookE_eq {j : Job} {t tr : Int} {T : List Pr} (hT : tOk T) {E : List (List Int × Pr)} (hp : E.Perm (qi_ j t tr T)) (hs : E.Pairwise fun a b => ltL b.1 a.1 = false) : E = yG_ j t tr T :=
 ris_perm (xT_ hs (qm_ hp.symm (qS_ hT))) (qT_ hT) (hp.trans (List.mergeSort_perm _ _).symm)
end
end Go.Proofs.YthmofoldmdafoaaGreat
