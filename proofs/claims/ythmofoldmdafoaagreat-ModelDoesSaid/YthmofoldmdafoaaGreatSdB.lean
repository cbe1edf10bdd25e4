/- Part of the proof that ModelDoes holds for every input: tables, under any transactions, answer, write and stand as the document says. Part 28. -/
import Derived.Test.YthmofoldmdafoaaGreatSdA
set_option linter.unusedVariables false
set_option linter.unusedSimpArgs false
set_option maxRecDepth 100000
set_option maxHeartbeats 4000000
namespace Go.Proofs.YthmofoldmdafoaaGreat
open Go.ChangeShapes Go.WideShapes Go.ChangeAt Go.RowKit
open Go.Lib (hid)
open Go.Proofs.Tryz
structure Rf where
 p : Nat
 j : Job
 b1 : Nat
 tc : Nat
 Ts : List TbV
def Rf.cs (f : Rf) : Array Value := #[.int .i64 f.j.w, .int .i64 f.j.l, .int .i64 f.j.d, .int .i64 f.j.c, .int .i64 f.j.k, .int .i64 f.j.e, .slice f.j.a f.j.n f.j.cap, .slice (some ⟨f.b1, 0, none⟩) f.Ts.length f.tc]
def Rf.P (f : Rf) : List (List Pr) := f.Ts.map tbC
structure RfR (S : Nat -> Prop) (W : World) (f : Rf) : Prop where
 box : zg_ W f.p f.cs 48
 job : zs_ S W fun W' => yb_ W' f.j
 tb : ∃ cs, zg_ W f.b1 cs 69
 tbs : TbS S W (some ⟨f.b1, 0, none⟩) f.Ts
 ok : okB f.j = true
 len : f.Ts.length = f.j.n
 cap : f.Ts.length <= f.tc
 hp : S f.p
 hb : S f.b1
 sl : ∀ x ∈ f.Ts, x.P.length <= x.pc /\ (x.pa = none -> x.pc = 0)
 lim : ∀ x ∈ f.Ts, tOk (tbC x)
theorem RfR.off {S S' T : Nat -> Prop} {W W' : World} {f : Rf} (h : RfR S W f) (o : Off T W W') (hT : ∀ k, T k -> S k) (h1 : ¬ T f.p) (h2 : ¬ T f.b1) (hs : ∀ k, S' k -> S k ∨ W.heap.size <= k) (hp : S' f.p) (hb : S' f.b1) : RfR S' W' f := by
 obtain ⟨cs, hcs⟩ := h.tb
 exact ⟨o.box h.box h1, h.job.step (o.mono hT) hs, ⟨cs, o.box hcs h2⟩, h.tbs.step (o.mono hT) (o.block f.b1 hcs.lt h2) hs, h.ok, h.len, h.cap, hp, hb, h.sl, h.lim⟩
theorem RfR.below {S : Nat -> Prop} {W W' : World} {f : Rf} (h : RfR S W f) (b : Below W.heap.size W W') : RfR S W' f := h.off (T := fun _ => False) (Off.of b) (fun _ h => h.elim) (fun h => h) (fun h => h) (fun _ h => .inl h) h.hp h.hb
theorem RfR.ne {S : Nat -> Prop} {W : World} {f : Rf} (h : RfR S W f) : f.p ≠ f.b1 := by
 obtain ⟨cs, hcs⟩ := h.tb
 exact zo_ h.box hcs Xt4
theorem Rf.P_len (f : Rf) : f.P.length = f.Ts.length := by simp [Rf.P]
theorem RfR.c {S : Nat -> Prop} {W : World} {f : Rf} (h : RfR S W f) : W.cell? ⟨f.p, 7, none⟩ = some (.slice (some ⟨f.b1, 0, none⟩) f.Ts.length f.tc) := by
 rw [h.box.cell]; rfl
theorem RfR.few {S : Nat -> Prop} {W : World} {f : Rf} (h : RfR S W f) : 1 <= f.Ts.length /\ f.Ts.length <= 4 := by
 rw [h.len]; exact okB_n h.ok
theorem RfR.pair {S : Nat -> Prop} {W : World} {f : Rf} (h : RfR S W f) {x : TbV} (hx : x ∈ f.Ts) {q : PrV} (hq : q ∈ x.P) : zH_ q.K /\ rOk (q.R.map P1.bs) := (h.lim x hx).2 (prC q) (List.mem_map.2 ⟨q, hq, rfl⟩)
theorem pr_ok {q : PrV} (h : zH_ q.K /\ rOk (q.R.map P1.bs)) : Qd_ q := ⟨h.1.1, xB_ h.2, by have := h.2.2.1; rw [List.length_map] at this; omega⟩
theorem RfR.tok {S : Nat -> Prop} {W : World} {f : Rf} (h : RfR S W f) {x : TbV} (hx : x ∈ f.Ts) (hn : x.P.length <= 1000000) : TbOk x := ⟨hn, fun q hq => pr_ok (h.pair hx hq)⟩
theorem pr_bound {q : PrV} (h : zH_ q.K /\ rOk (q.R.map P1.bs)) : q.R.length <= 9000 /\ ∀ p ∈ q.R, p.bs.length <= 9000 := by
 refine ⟨by have := h.2.2.1; rw [List.length_map] at this; omega, fun p hp => ?_⟩
 have := (h.2.2.2 p.bs (List.mem_map.2 ⟨p, hp, rfl⟩)).2
 omega
theorem RfR.getD {S : Nat -> Prop} {W : World} {f : Rf} (h : RfR S W f) {t : Nat} {x : TbV} (hx : f.Ts[t]? = some x) : f.P.getD t [] = tbC x := by
 rw [List.getD_eq_getElem?_getD]
 unfold Rf.P
 rw [List.getElem?_map, hx]; rfl
theorem RfR.tabok {S : Nat -> Prop} {W : World} {f : Rf} (h : RfR S W f) (t : Nat) : yf_ (f.P.getD t []) := by
 cases hx : f.Ts[t]? with
 | none =>
  have : f.P.getD t [] = [] := by
   rw [List.getD_eq_getElem?_getD]
   unfold Rf.P
   rw [List.getElem?_map, hx]; rfl
  rw [this]; exact List.Pairwise.nil
 | some x => rw [h.getD hx]; exact (h.lim x (List.mem_of_getElem? hx)).1
def RNewR (w : World) (j : Job) (r : Ending) (w' : World) : Prop :=
 if okB j then ∃ f : Rf, r = .returned (.pointer (some ⟨f.p, 0, none⟩)) /\ Below w.heap.size w w' /\ w.heap.size <= f.p /\ w.heap.size <= f.b1 /\ (∃ a c, f.j = { j with a := a, cap := c }) /\ f.Ts = List.replicate j.n ⟨none, 0, []⟩ /\ ∀ S : Nat -> Prop, (∀ k, S k -> k < w.heap.size ∨ k = f.p ∨ k = f.b1) -> S f.p -> S f.b1 -> RfR S w' f
 else r = .returned (.pointer none) /\ Below w.heap.size w w'
theorem info69 : (prog.info? 69).map (fun i => (i.zero, i.size, i.bytes)) = some (some (.slice none 0 0), 1, 24) := by kernel_rfl
theorem mk69 (n : Nat) (hn : n <= 1000000) (w : World) : (Instr.makeSlice 46 (.int .i64 (n : Int)) (.int .i64 (n : Int))).run prog w = .ok (.slice (some ⟨w.heap.size, 0, none⟩) n n) (w.alloc (.cells (madeCells #[.slice none 0 0] n) 69 (0, 0))) := by
 obtain ⟨i0, hi, hz0, hz1, hz2⟩ := info_parts info69
 have hr := run_make (P := prog) w 46 69 i0 (.slice none 0 0) underlying46 hi hz0 .i64 .i64 n n Xt0 (Int.le_refl _) (by rw [hz2]; omega) Xt0
 simp only [Int.toNat_natCast] at hr
 rw [hr, hz1]
 simp [Value.cells]
theorem made_at (n k : Nat) (h : k < n) : (madeCells #[.slice none 0 0] n)[k]? = some (.slice none 0 0) := by
 have h1 : (madeCells #[Value.slice none 0 0] n).toList = List.replicate n (.slice none 0 0) := toList_madeCells_one _ _
 have h2 : (madeCells #[Value.slice none 0 0] n)[k]? = (madeCells #[Value.slice none 0 0] n).toList[k]? := by simp
 rw [h2, h1, List.getElem?_replicate, if_pos h]
theorem rnew_law (j : Job) (w : World) (hj : yb_ w j) : Calls prog 11 #[.agg #[.int .i64 j.w, .int .i64 j.l, .int .i64 j.d, .int .i64 j.c, .int .i64 j.k, .int .i64 j.e, .slice j.a j.n j.cap]] w (RNewR w j) := by
 obtain ⟨w1, hw1⟩ := gty (w.alloc (.cells #[.int .i64 j.w, .int .i64 j.l, .int .i64 j.d, .int .i64 j.c, .int .i64 j.k, .int .i64 j.e, .slice j.a j.n j.cap] 24))
 have hb1 : Below w.heap.size w w1 := by rw [hw1]; exact bl1 _ _
 have hx1 : zg_ w1 w.heap.size #[.int .i64 j.w, .int .i64 j.l, .int .i64 j.d, .int .i64 j.c, .int .i64 j.k, .int .i64 j.e, .slice j.a j.n j.cap] 24 := by rw [hw1]; exact zg_.new _ _ _
 have HJ := hid hj
 have hli : (j.n : Int) <= 1000000 := by have := hj.le; omega
 have HCK := hid (xl_ j w1 (hj.below hb1))
 have HB1 := hid hb1
 have HX1 := hid hx1
 have c0 := hx1.cell 0
 have c1 := hx1.cell 1
 have c2 := hx1.cell 2
 have c3 := hx1.cell 3
 have c4 := hx1.cell 4
 have c5 := hx1.cell 5
 have c6 := hx1.cell 6
 simp only [gtA, gtB, gtC] at c0 c1 c2 c3 c4 c5 c6
 clear hj hb1 hx1
 go_enter func11, ntmps11
 go_upto_region 1 with (fail)
 rw [← hw1]
 clear hw1
 go_wp2_with fail
 clear c0 c1 c2 c3 c4 c5 c6
 refine HCK.out.mono ?_; rintro r w2 ⟨rfl, hb2⟩
 have HB2 := hid (HB1.out.trans (hb2.mono HB1.out.size))
 have hx2 := HX1.out.below hb2
 have HX2 := hid hx2
 have c6 := hx2.cell 6
 simp only [gtA, gtB, gtC] at c6
 clear hb2 hx2
 cases hok : okB j with
 | false =>
  have hv : qb_ j = 2 := by unfold qb_; rw [hok]; rfl
  have HR := hid (fun r w' (hh : r = .returned (.pointer none) /\ Below w.heap.size w w') => (by unfold RNewR; rw [hok]; exact hh : RNewR w j r w'))
  rw [hv]
  clear hok hv c6
  go_wp2_with fail
  go_ret
  exact HR.out _ _ ⟨rfl, HB2.out⟩
 | true =>
  have hv : qb_ j = 0 := by unfold qb_; rw [hok]; rfl
  have HOK := hid hok
  have HR := hid (fun r w' (hh : ∃ f : Rf, r = .returned (.pointer (some ⟨f.p, 0, none⟩)) /\ Below w.heap.size w w' /\ w.heap.size <= f.p /\ w.heap.size <= f.b1 /\ (∃ a c, f.j = { j with a := a, cap := c }) /\ f.Ts = List.replicate j.n ⟨none, 0, []⟩ /\ ∀ S : Nat -> Prop, (∀ k, S k -> k < w.heap.size ∨ k = f.p ∨ k = f.b1) -> S f.p -> S f.b1 -> RfR S w' f) => (by unfold RNewR; rw [hok]; exact hh : RNewR w j r w'))
  have hn4 := okB_n hok
  have HN4 := hid hn4
  rw [hv]
  clear hok hv
  go_wp2_with (at_builtin; refine zB_ eltI rfl (.const (.slice none 0 0)) (.tmp 7) rfl w2.heap.size _ 0 [] rfl (World.ownsRow_nil _ _ _ _) _ _ j.n j.T HJ.out.len rfl (HJ.out.ls.below HB2.out) Xt0 (Nat.le_refl _) ?_; intro v3 w3 hown3 hgrow3; rw [Nat.zero_add, List.nil_append] at hown3; obtain ⟨a2, cc2, hv3⟩ := zd_ hown3; subst hv3; have b3 := (Below.refl w2.heap.size w2).grown hgrow3 (Nat.le_refl _) Xt22; have HO3 := hid hown3; have HB3 := hid b3; have hx3 := HX2.out.below b3; have HX3 := hid hx3; have i6 := hx3.frozen 6; have g6 := hx3.cell 6; simp only [gtA, gtB, gtC] at g6; clear hown3 hgrow3 b3 hx3)
  have f6 := HX3.out.frozen 6
  have k6 := HX3.out.cell 6
  simp only [gtA, gtB, gtC] at k6
  obtain ⟨w4, hw4⟩ := gty (w3.setCell ⟨w.heap.size, 6, none⟩ (.slice a2 j.n cc2))
  have hx4 : zg_ w4 w.heap.size #[.int .i64 j.w, .int .i64 j.l, .int .i64 j.d, .int .i64 j.c, .int .i64 j.k, .int .i64 j.e, .slice a2 j.n cc2] 24 := by rw [hw4]; exact heap_setCell_same w3 w.heap.size 6 _ 24 _ HX3.out
  have ho4 : Off (fun k => k = w.heap.size) w3 w4 := by rw [hw4]; exact Off.set (S := fun k => k = w.heap.size) (Off.refl _ w3) ⟨w.heap.size, 6, none⟩ rfl _
  have HX4 := hid hx4
  have HO4 := hid ho4
  have HMK := hid (fun W => mk69 j.n (by have := HN4.out.2; omega) W)
  rw [← hw4]
  clear c6 f6 k6 hx4 ho4 hw4 hn4
  have hmk := HMK.out
  go_upto_region 4 with (fail)
  refine rgw w4 (Below.refl _ _).drew fun hH => ?_
  refine tkr 0 rfl (fun W hSw => by have m0 := (HX4.out.below hSw).cell 0; have m1 := (HX4.out.below hSw).cell 1; have m2 := (HX4.out.below hSw).cell 2; have m3 := (HX4.out.below hSw).cell 3; have m4 := (HX4.out.below hSw).cell 4; have m5 := (HX4.out.below hSw).cell 5; have m6 := (HX4.out.below hSw).cell 6; simp only [gtA, gtB, gtC] at m0 m1 m2 m3 m4 m5 m6; exact tks) ?_
  refine tkq 1 ?_
  refine tkr 2 rfl (fun W hSw => by have m6 := (HX4.out.below hSw).cell 6; simp only [gtA, gtB, gtC] at m6; exact tks) ?_
  refine tkq 3 ?_
  refine tk1 4 rfl fun K hK => ?_
  go_simp
  refine hK.out _ _ (hH.trans ((bl1 w4.drew (.cells (madeCells #[.slice none 0 0] j.n) 69 (0, 0))).mono hH.size)) fun hH => ?_
  refine stP ?_
  refine tkq 5 ?_
  refine tk1 6 rfl fun K hK => ?_
  go_simp
  refine hK.out _ _ (hH.trans ((bl1 (w4.drew.alloc (.cells (madeCells #[.slice none 0 0] j.n) 69 (0, 0))) (.cells #[.int .i64 j.w, .int .i64 j.l, .int .i64 j.d, .int .i64 j.c, .int .i64 j.k, .int .i64 j.e, .slice a2 j.n cc2, .slice (some ⟨w4.heap.size, 0, none⟩) j.n j.n] 48)).mono hH.size)) fun hH => ?_
  refine stP ?_
  refine tkq 7 ?_
  refine adn ?_
  skip
  go_wp2_with fail
  go_ret
  have hw34 : w3.heap.size <= w4.heap.size := HO4.out.size
  have hw03 : w.heap.size <= w3.heap.size := Nat.le_trans HB2.out.size HB3.out.size
  have hbl4 : Below w.heap.size w w4 := Off.below (HB2.out.trans (HB3.out.mono HB2.out.size)) HO4.out hw03 (fun k hk => by cases hk; exact Nat.le_refl _)
  obtain ⟨wz, hwz⟩ := gty (((w4.alloc (.cells (madeCells #[.slice none 0 0] j.n) 69)).alloc (.cells #[.int .i64 j.w, .int .i64 j.l, .int .i64 j.d, .int .i64 j.c, .int .i64 j.k, .int .i64 j.e, .slice a2 j.n cc2, .slice (some ⟨w4.heap.size, 0, none⟩) j.n j.n] 48)).drew)
  have hb1' := zg_.new w4 (madeCells #[.slice none 0 0] j.n) 69
  have hbz := bl1 (w4.alloc (.cells (madeCells #[.slice none 0 0] j.n) 69)) (.cells #[.int .i64 j.w, .int .i64 j.l, .int .i64 j.d, .int .i64 j.c, .int .i64 j.k, .int .i64 j.e, .slice a2 j.n cc2, .slice (some ⟨w4.heap.size, 0, none⟩) j.n j.n] 48)
  have hb2' := (hb1'.below hbz).below (Below.refl _ _).drew
  have hp' := zg_.new (w4.alloc (.cells (madeCells #[.slice none 0 0] j.n) 69)) #[.int .i64 j.w, .int .i64 j.l, .int .i64 j.d, .int .i64 j.c, .int .i64 j.k, .int .i64 j.e, .slice a2 j.n cc2, .slice (some ⟨w4.heap.size, 0, none⟩) j.n j.n] 48 |>.below (Below.refl _ _).drew
  have hbw : Below w4.heap.size w4 wz := by rw [hwz]; exact ((bl1 w4 _).trans (hbz.mono Xt5)).drew
  rw [← hwz] at hb2' hp'
  rw [World.size_alloc] at hp'
  have hjt : ∀ S : Nat -> Prop, (∀ k, S k -> k < w.heap.size ∨ k = w4.heap.size + 1 ∨ k = w4.heap.size) -> zs_ S wz fun W' => yb_ W' { j with a := a2, cap := cc2 } := fun S hS W' o => by
   have h3 : w4.ownsRow w2.heap.size 3 1 (.slice a2 j.n cc2) j.n (iv .i64 j.T) := zm_ HO3.out HO4.out (fun g hg e => by
    cases e
    have := (zb_ HO3.out hg).1
    have := HB2.out.size
    have := HX2.out.lt
    omega)
   have h4 := zm_ (ze_ h3 hbw) o (fun g hg hs => by
    have h5 := zb_ h3 hg
    have h6 := HB2.out.size
    rcases hS g hs with h | h | h <;> omega)
   obtain ⟨a', c', e, l, _⟩ := ys_ h4 HJ.out.len
   cases e
   exact ⟨l, HJ.out.len, HJ.out.le⟩
  refine HR.out _ _ ⟨⟨w4.heap.size + 1, { j with a := a2, cap := cc2 }, w4.heap.size, j.n, List.replicate j.n ⟨none, 0, []⟩⟩, ?_, hwz ▸ hbl4.trans (hbw.mono hbl4.size), ?_, ?_, ⟨a2, cc2, rfl⟩, rfl, fun S hS hp hb => ?_⟩
  ·rfl
  ·show w.heap.size <= w4.heap.size + 1; omega
  ·show w.heap.size <= w4.heap.size; omega
  ·rw [← hwz]
   refine ⟨?_, hjt S hS, ⟨_, hb2'⟩, ?_, HOK.out, by simp, by simp, hp, hb, ?_, ?_⟩
   ·unfold Rf.cs
    rw [List.length_replicate]
    exact hp'
   ·intro k x hx
    rw [List.getElem?_replicate] at hx
    split at hx
    ·rename_i hk
     cases hx
     refine ⟨w4.heap.size, 0, rfl, ?_, fun W' _ => zn_.nil _ _⟩
     rw [hb2'.cell, Nat.zero_add]
     exact made_at j.n k hk
    ·cases hx
   ·intro x hx
    rw [List.eq_of_mem_replicate hx]
    exact ⟨Nat.le_refl _, fun _ => rfl⟩
   ·intro x hx
    rw [List.eq_of_mem_replicate hx]
    exact ⟨List.Pairwise.nil, fun p hp => by cases hp⟩
def tcl (x : TbV) : List Value := [.slice x.pa x.P.length x.pc]
theorem tcl_len (x : TbV) : (tcl x).length = 1 := rfl
theorem js_ {S : Nat -> Prop} {W W' : World} (o : Off S W W') {p : Addr} {v : Value} (h : W.cell? p = some v) (hn : ¬ S p.block) : W'.cell? p = some v := by
 exact Xb101
structure SRc (po p b1 k : Nat) (xv : Value) (ocs fcs : Array Value) (X : World) : Prop where
 o : zg_ X po ocs 48
 m : zg_ X p fcs 48
 t : X.cell? ⟨b1, k, none⟩ = some xv
theorem SRc.off {S3 : Nat -> Prop} {po p b1 k : Nat} {xv : Value} {ocs fcs : Array Value} {X X' : World} (h : SRc po p b1 k xv ocs fcs X) (o : Off S3 X X') (h1 : ¬ S3 po) (h2 : ¬ S3 p) (h3 : ¬ S3 b1) : SRc po p b1 k xv ocs fcs X' :=
 ⟨o.box h.o h1, o.box h.m h2, js_ o h.t h3⟩
def RCopyR (S : Nat -> Prop) (w : World) (f : Rf) (r : Ending) (w' : World) : Prop :=
 ∃ g : Rf, r = .returned (.pointer (some ⟨g.p, 0, none⟩)) /\ Below w.heap.size w w' /\ w.heap.size <= g.p /\ w.heap.size <= g.b1 /\ g.j = f.j /\ g.Ts.map TbV.P = f.Ts.map TbV.P /\ ∀ S' : Nat -> Prop, (∀ k, S' k -> S k ∨ k = g.p ∨ k = g.b1) -> S' g.p -> S' g.b1 -> RfR S' w' g
theorem Qt_ {S : Nat -> Prop} {f : Rf} {w : World} (h : RfR S w f) (hS : ∀ k, S k -> k < w.heap.size) (hl : ∀ x ∈ f.Ts, x.P.length <= 1000000) :
  Calls prog 77 #[.pointer (some ⟨f.p, 0, none⟩)] w (RCopyR S w f) := by
 have HH := hid h
 have HSS := hid hS
 have HL := hid hl
 obtain ⟨n, hn⟩ := gtx (f.Ts.length)
 have HN := hid hn
 have hfw := h.few
 rw [hn] at hfw
 have hbx := h.box
 unfold Rf.cs at hbx
 rw [hn] at hbx
 have HBX := hid hbx
 have c0 := hbx.cell 0
 have c1 := hbx.cell 1
 have c2 := hbx.cell 2
 have c3 := hbx.cell 3
 have c4 := hbx.cell 4
 have c5 := hbx.cell 5
 have c6 := hbx.cell 6
 have c7 := hbx.cell 7
 simp only [gtA, gtB, gtC] at c0 c1 c2 c3 c4 c5 c6 c7
 obtain ⟨w1, hw1⟩ := gty (w.alloc (.cells #[.int .i64 f.j.w, .int .i64 f.j.l, .int .i64 f.j.d, .int .i64 f.j.c, .int .i64 f.j.k, .int .i64 f.j.e, .slice f.j.a f.j.n f.j.cap, .slice none 0 0] 48))
 have hb1 : Below w.heap.size w w1 := by rw [hw1]; exact bl1 _ _
 have hx1 : zg_ w1 w.heap.size #[.int .i64 f.j.w, .int .i64 f.j.l, .int .i64 f.j.d, .int .i64 f.j.c, .int .i64 f.j.k, .int .i64 f.j.e, .slice f.j.a f.j.n f.j.cap, .slice none 0 0] 48 := by rw [hw1]; exact zg_.new _ _ _
 have HB1 := hid hb1
 have HX1 := hid hx1
 clear h hS hl hn hbx hb1 hx1
 go_enter func77, ntmps77
 go_upto_region 4 with (fail)
 clear c0 c1 c2 c3 c4 c5 c6 c7
 rw [← hw1]
 clear hw1
 go_wp2_with fail
 go_loopw [4] (fun i wr => ∃ (k : Nat) (Gs : List TbV) (v : Value), k <= n /\ i = .int .i64 (k : Int) /\ Hid (Gs.length = k) /\ Hid (Gs.map TbV.P = (f.Ts.take k).map TbV.P) /\ Hid (zg_ wr w.heap.size #[.int .i64 f.j.w, .int .i64 f.j.l, .int .i64 f.j.d, .int .i64 f.j.c, .int .i64 f.j.k, .int .i64 f.j.e, .slice f.j.a f.j.n f.j.cap, v] 48) /\ Hid (wr.ownsRow w.heap.size 69 1 v k (cellsOf tcl Gs)) /\ Hid (∀ y ∈ Gs, wr.ownsRow w.heap.size 78 2 (.slice y.pa y.P.length y.pc) y.P.length (zi_ y.P)) /\ Hid (Below w.heap.size w wr)) (fun i _ => n - (intOf i).toNat)
 case atStart => exact ⟨0, [], .slice none 0 0, by omega, rfl, hid rfl, hid rfl, HX1, hid (World.ownsRow_nil _ _ _ _), hid Xt39, HB1⟩
 case round =>
  obtain ⟨k, Gs, v, hk, rfl, HGL, HGP, HOX, HOV, HRW, HBW⟩ := hrel
  have hmx := HBX.out.below HBW.out
  have m7 := hmx.cell 7
  simp only [gtA, gtB, gtC] at m7
  clear hmx
  by_cases hlt : k < n
  ·have d1 : (k : Int) < (n : Int) := by omega
   obtain ⟨x, hx⟩ : ∃ x, f.Ts[k]? = some x := ⟨_, List.getElem?_eq_getElem Xt9⟩
   have hxm : x ∈ f.Ts := List.mem_of_getElem? hx
   obtain ⟨_, _, e0, hxc, hxs⟩ := (HH.out.below HBW.out).tbs k x hx
   cases e0
   rw [Nat.zero_add] at hxc
   have HXS := hid (And.intro hx hxs)
   obtain ⟨xP, hxP⟩ := gtx (x.P)
   obtain ⟨xn, hxn⟩ := gtx (xP.length)
   obtain ⟨xa, hxa⟩ := gtx (x.pa)
   obtain ⟨xc, hxcc⟩ := gtx (x.pc)
   have hx1 := HL.out x hxm
   have hx2 := HH.out.sl x hxm
   have hp1 := hxs.now
   rw [hxP, hxn] at hx1
   rw [hxP, hxn, hxa, hxcc] at hx2
   rw [hxP, hxa] at hp1
   rw [hxP, hxn, hxa, hxcc] at hxc
   have HXN := hid hxn
   have HXP := hid hp1
   have HXL := hid (And.intro hx1 hx2.2)
   have HXE := hid hxP
   have HSX := hid (⟨HOX.out, HBX.out.below HBW.out, hxc⟩ : SRc w.heap.size f.p f.b1 k (.slice xa xn xc) #[.int .i64 f.j.w, .int .i64 f.j.l, .int .i64 f.j.d, .int .i64 f.j.c, .int .i64 f.j.k, .int .i64 f.j.e, .slice f.j.a f.j.n f.j.cap, v] #[.int .i64 f.j.w, .int .i64 f.j.l, .int .i64 f.j.d, .int .i64 f.j.c, .int .i64 f.j.k, .int .i64 f.j.e, .slice f.j.a f.j.n f.j.cap, (.slice (some ⟨f.b1, 0, none⟩) n f.tc)] wr)
   have hlt2 : f.p < w.heap.size /\ f.b1 < w.heap.size := ⟨HSS.out _ HH.out.hp, HSS.out _ HH.out.hb⟩
   have HNV := hid (⟨fun e => by obtain ⟨_, _, cur, hb⟩ := zb_ HOV.out e; exact zo_ hb HOX.out Xt4 rfl, fun e => by have := (zb_ HOV.out e).1; omega, fun e => by have := (zb_ HOV.out e).1; omega⟩ : ¬ v.ownBlock = some w.heap.size /\ ¬ v.ownBlock = some f.p /\ ¬ v.ownBlock = some f.b1)
   clear hx hxm hxs hxP hxn hxa hxcc hx1 hx2 hp1 hxc hlt2
   have hk4 : k + 1 <= 4 := by omega
   go_upto_region 7 with (fail)
   clear m7
   refine zr_ (z := 17) (S := (SRc w.heap.size f.p f.b1 k (.slice xa xn xc) #[.int .i64 f.j.w, .int .i64 f.j.l, .int .i64 f.j.d, .int .i64 f.j.c, .int .i64 f.j.k, .int .i64 f.j.e, .slice f.j.a f.j.n f.j.cap, v] #[.int .i64 f.j.w, .int .i64 f.j.l, .int .i64 f.j.d, .int .i64 f.j.c, .int .i64 f.j.k, .int .i64 f.j.e, .slice f.j.a f.j.n f.j.cap, (.slice (some ⟨f.b1, 0, none⟩) n f.tc)])) Xt3 (HSX.out.off (S3 := fun _ => False) (Off.of (Below.refl _ _).drew) (fun h => h) (fun h => h) (fun h => h)) fun hH => ?_
   refine tlk 0 rfl Xt2 ?_
   refine tlk 1 rfl Xt2 ?_
   refine tlk 2 rfl Xt2 ?_
   refine tlk 3 rfl Xt2 ?_
   refine tlk 4 rfl (fun W hSw => by have m := hSw.o.cell 7; simp only [gtA, gtB, gtC] at m; exact tks) ?_
   refine tlk 5 rfl Xt2 ?_
   refine tlk 6 rfl Xt2 ?_
   refine tlk 7 rfl Xt2 ?_
   refine tlk 8 rfl (fun W hSw => by have m := hSw.m.cell 7; simp only [gtA, gtB, gtC] at m; exact tks) ?_
   refine tlk 9 rfl Xt2 ?_
   refine tlk 10 rfl Xt2 ?_
   refine tlk 11 rfl (fun W hSw => by have m := hSw.t; exact tks) ?_
   refine tl1 12 rfl fun K hK => ?_
   refine z3_ rfl _ _ rfl wr.heap.size (.slice none 0 0) 0 [] rfl (World.ownsRow_nil _ _ _ _) xa xc xn xP HXN.out rfl ((HXP.out).below (Below.refl wr.heap.size wr).drew) HXL.out.2 (by have := HXL.out.1; omega) (Nat.le_refl _) ?_
   intro v6 w6 hown6 hgrow6
   rw [Nat.zero_add, List.nil_append] at hown6
   obtain ⟨a6, c6, hv6⟩ := zd_ hown6
   subst hv6
   have b6 : Below wr.heap.size wr w6 := ((Below.refl wr.heap.size wr).drew).grown hgrow6 (Nat.le_refl _) Xt22
   have HO6 := hid hown6
   have HB6 := hid b6
   have HS6 := hid (HSX.out.off (S3 := fun _ => False) (Off.of b6) (fun h => h) (fun h => h) (fun h => h))
   clear hown6 hgrow6 b6
   refine hK.out _ _ (HS6.out) fun hH => ?_
   refine stP ?_
   refine tl1 13 rfl fun K hK => ?_
   go_simp
   refine hK.out _ _ (hH.off (S3 := fun _ => False) (Off.of (bl1 w6 (.cells #[.slice a6 xn c6] 69))) (fun h => h) (fun h => h) (fun h => h)) fun hH => ?_
   refine stP ?_
   refine tl1 14 rfl fun K hK => ?_
   have hown := ze_ HOV.out (HB6.out.trans ((bl1 w6 (.cells #[.slice a6 xn c6] 69)).mono HB6.out.size))
   refine zC_ ae_tab rfl _ _ rfl w.heap.size v k (cellsOf tcl Gs) rfl hown ⟨w6.heap.size, 0, none⟩ 1 1 [.slice a6 xn c6] rfl rfl (zx_ w6 _ _ _ rfl) Xt31 Xt0 (Nat.le_trans HBW.out.size (Nat.le_trans HB6.out.size (bl1 w6 (.cells #[.slice a6 xn c6] 69)).size)) ?_
   intro v9 w9 hown9 hgrow9 hat9
   obtain ⟨a9, c9, hv9⟩ := zd_ hown9
   subst hv9
   have HO9 := hid hown9
   have HG9 := hid hgrow9
   have HS9 := hid (hH.off (Off.of_row hgrow9) HNV.out.1 HNV.out.2.1 HNV.out.2.2)
   clear hown hown9 hgrow9 hat9
   refine hK.out _ _ (HS9.out) fun hH => ?_
   refine stP ?_
   refine tlf 15 rfl Xt2 ?_
   refine tlk 16 rfl Xt2 ?_
   refine tlz rfl fun K hK => ?_
   have x7 := HS9.out.o.cell 7
   have f7 := HS9.out.o.frozen 7
   simp only [gtA, gtB, gtC] at x7
   go_simp
   refine hK.out _ _ ?_
   clear hK K x7 f7
   refine stP ?_
   refine zz_ Xt3 ?_ _
   skip
   obtain ⟨w10, hw10⟩ := gty (w9.setCell ⟨w.heap.size, 7, none⟩ (.slice a9 (k + 1) c9))
   rw [← hw10]
   have ho10 : Off (fun k => k = w.heap.size) w9 w10 := by rw [hw10]; exact Off.set (S := fun k => k = w.heap.size) (Off.refl _ w9) ⟨w.heap.size, 7, none⟩ rfl _
   have hx10 : zg_ w10 w.heap.size #[.int .i64 f.j.w, .int .i64 f.j.l, .int .i64 f.j.d, .int .i64 f.j.c, .int .i64 f.j.k, .int .i64 f.j.e, .slice f.j.a f.j.n f.j.cap, (.slice a9 (k + 1) c9)] 48 := by rw [hw10]; exact heap_setCell_same w9 w.heap.size 7 _ 48 _ HS9.out.o
   have hb7 : Below wr.heap.size wr (w6.alloc (.cells #[.slice a6 xn c6] 69)) := HB6.out.trans ((bl1 w6 _).mono HB6.out.size)
   have ho79 : Off (fun k => v.ownBlock = some k) (w6.alloc (.cells #[.slice a6 xn c6] 69)) w9 := Off.of_row HG9.out
   have HOF := hid ((Off.of (S := fun g => g = w.heap.size ∨ v.ownBlock = some g) hb7).trans ((ho79.mono fun g hg => .inr hg).trans (ho10.mono fun g hg => .inl hg)))
   have HO6A := hid ((Off.of (S := fun g => g = w.heap.size ∨ v.ownBlock = some g) (bl1 w6 (.cells #[.slice a6 xn c6] 69))).trans ((ho79.mono fun g hg => .inr hg).trans (ho10.mono fun g hg => .inl hg)))
   have HX10 := hid hx10
   have HO10 := hid ho10
   clear hw10 ho10 hx10 hb7 ho79 d1 hH
   go_wp2_with fail
   go_roundw
   case rel =>
    have hnb : ∀ {W : World} {y : Value} {ys : List Value} {n b : Nat}, W.ownsRow b 78 2 y n ys -> zg_ W w.heap.size #[.int .i64 f.j.w, .int .i64 f.j.l, .int .i64 f.j.d, .int .i64 f.j.c, .int .i64 f.j.k, .int .i64 f.j.e, .slice f.j.a f.j.n f.j.cap, v] 48 -> (∀ g, v.ownBlock = some g -> ∃ cur, zg_ W g cur 69) -> ∀ g, y.ownBlock = some g -> ¬ (g = w.heap.size ∨ v.ownBlock = some g) := fun hy hb hv g hg e => by
     obtain ⟨_, _, cur, hc⟩ := zb_ hy hg
     rcases e with e | e
     ·exact zo_ hc hb Xt4 e
     ·obtain ⟨cur', hc'⟩ := hv g e
      exact zo_ hc hc' Xt4 rfl
    refine ⟨k + 1, Gs ++ [⟨a6, c6, xP⟩], .slice a9 (k + 1) c9, by omega, by go_num, hid (by rw [List.length_append, HGL.out]; rfl), hid ?_, HX10, hid ?_, hid ?_, hid ?_⟩
    ·rw [List.map_append, HGP.out, List.take_add_one, HXS.out.1, List.map_append]
     show _ ++ [xP] = _ ++ [x.P]
     rw [HXE.out]
    ·have h1 := zm_ HO9.out HO10.out (fun g hg e => by
      obtain ⟨_, _, cur, hc⟩ := zb_ HO9.out hg
      exact zo_ hc HS9.out.o Xt4 e)
     have h2 : cellsOf tcl (Gs ++ [⟨a6, c6, xP⟩]) = cellsOf tcl Gs ++ [.slice a6 xn c6] := by
      rw [zq_]
      show _ ++ [Value.slice a6 xP.length c6] = _
      rw [HXN.out]
     rw [h2]; exact h1
    ·intro y hy
     rcases List.mem_append.1 hy with hy | hy
     ·exact zm_ (HRW.out y hy) HOF.out (hnb (HRW.out y hy) HOX.out (fun g hg => (zb_ HOV.out hg).2.2))
     ·rw [List.mem_singleton] at hy
      subst hy
      have h1 : w6.ownsRow w.heap.size 78 2 (.slice a6 xP.length c6) xP.length (zi_ xP) := by rw [HXN.out]; exact yD_ HO6.out HBW.out.size
      exact zm_ h1 HO6A.out (hnb h1 HS6.out.o (fun g hg => (zb_ (ze_ HOV.out HB6.out) hg).2.2))
    ·exact Off.below HBW.out HOF.out HBW.out.size (fun g hg => by
      rcases hg with hg | hg
      ·omega
      ·exact (zb_ HOV.out hg).1)
   case measure => simp [intOf]; omega
  ·have d1 : ¬ (k : Int) < (n : Int) := by omega
   have hke : k = n := by omega
   have HKE := hid hke
   go_wp2_with fail
   go_ret
   obtain ⟨va, vc, hv⟩ := zd_ HOV.out
   subst hv
   have hon := HOV.out
   have hkn := HKE.out
   have hgl := HGL.out
   have hgp := HGP.out
   rw [hkn] at hon hgl hgp
   rw [List.take_of_length_le Xt76] at hgp
   obtain ⟨hnc, hna⟩ := zJ_ hon
   obtain ⟨bv, hbv⟩ : ∃ bv, va = some ⟨bv, 0, none⟩ /\ w.heap.size <= bv /\ ∃ cur, zg_ wr bv cur 69 := by
    rcases hon.2 with ⟨e0, h0⟩ | ⟨g, cap, cur, e0, hb, hg, _⟩
    ·omega
    ·injection e0 with e0
     exact ⟨g, e0, hb, cur, hg⟩
   obtain ⟨hva, hbv1, hbv2⟩ := hbv
   subst hva
   have hat : ∀ (i : Nat) (y : TbV), Gs[i]? = some y -> ∃ x : TbV, f.Ts[i]? = some x /\ x.P = y.P := fun i y hy => by
    have h1 : (Gs.map TbV.P)[i]? = some y.P := by rw [List.getElem?_map, hy]; rfl
    rw [hgp, List.getElem?_map] at h1
    cases hx : f.Ts[i]? with
    | none => rw [hx] at h1; cases h1
    | some x => rw [hx] at h1; exact ⟨x, rfl, by simpa using h1⟩
   have hox := HOX.out
   refine ⟨⟨w.heap.size, f.j, bv, vc, Gs⟩, rfl, HBW.out, Nat.le_refl _, hbv1, rfl, hgp, fun S' hS' hp hb => ⟨?_, ?_, hbv2, ?_, HH.out.ok, ?_, by rw [hgl]; exact hnc, hp, hb, ?_, ?_⟩⟩
   ·unfold Rf.cs
    rw [hgl]
    rw [hkn] at hox
    exact hox
   ·exact HH.out.job.step (Off.of HBW.out) (fun g hg => by
     rcases hS' g hg with h | h | h
     ·exact .inl h
     ·exact .inr (Nat.le_of_eq h.symm)
     ·exact .inr (h ▸ hbv1))
   ·intro i y hy
    obtain ⟨x, hx, hxy⟩ := hat i y hy
    obtain ⟨g, eg, _, hc⟩ := zt_ tcl_len Xt4 hon hgl i y hy
    cases eg
    refine ⟨bv, 0, rfl, ?_, ?_⟩
    ·have := hc 0 Xt4
     rw [Nat.zero_add]
     exact Xb59
    ·have hr := HRW.out y (List.mem_of_getElem? hy)
     have hnr : ∀ g, Value.ownBlock (.slice y.pa y.P.length y.pc) = some g -> ¬ S' g := fun g hg hs => by
      obtain ⟨h1, _, cur, hc⟩ := zb_ hr hg
      rcases hS' g hs with h | h | h
      ·have := HSS.out g h; omega
      ·exact zo_ hc HOX.out Xt4 h
      ·obtain ⟨cur', hc'⟩ := hbv2
       exact zo_ hc hc' Xt4 h
     obtain ⟨_, _, _, _, hst⟩ := HH.out.tbs i x hx
     have hst := hst.step (S' := S') (Off.of HBW.out) (fun g hg => by
      rcases hS' g hg with h | h | h
      ·exact .inl h
      ·exact .inr (Nat.le_of_eq h.symm)
      ·exact .inr (h ▸ hbv1))
     intro W' o
     refine yd_ (zm_ hr o hnr) rfl (fun q hq => ?_)
     obtain ⟨m, hm⟩ := List.mem_iff_getElem?.1 (hxy ▸ hq)
     obtain ⟨_, _, _, _, _, l, r⟩ := hst W' o m q hm
     exact ⟨l, r⟩
   ·show Gs.length = f.j.n
    rw [hgl, ← HH.out.len, HN.out]
   ·intro y hy
    exact zJ_ (HRW.out y hy)
   ·intro y hy
    obtain ⟨i, hi⟩ := List.mem_iff_getElem?.1 hy
    obtain ⟨x, hx, hxy⟩ := hat i y hi
    have := HH.out.lim x (List.mem_of_getElem? hx)
    unfold tbC at this ⊢
    rw [← hxy]; exact this
def qa_ {α : Type} (key : α -> List Int) (f u : List Int) (en : Bool) (m : Int) : List α -> List α -> List α
 | [], acc => acc
 | e :: r, acc => if (acc.length : Int) < m then (if (ltL (key e) f || (en && !ltL (key e) u)) then qa_ key f u en m r acc else qa_ key f u en m r (acc ++ [e])) else acc
theorem docG_out {α : Type} {key : α -> List Int} {f u : List Int} {en : Bool} {m : Int} : ∀ {l acc : List α}, (∀ e ∈ l, (en && !ltL (key e) u) = true) -> qa_ key f u en m l acc = acc
 | [], acc, _ => rfl
 | e :: r, acc, h => by
  have ih := docG_out (f := f) (m := m) (acc := acc) fun x hx => h x (List.mem_cons_of_mem _ hx)
  unfold qa_
  split
  ·rw [if_pos (by rw [h e (List.mem_cons_self ..), Bool.or_true])]; exact ih
  ·rfl
theorem Qm_ {α : Type} {key : α -> List Int} {f u : List Int} {en : Bool} {m : Int} : ∀ {l acc : List α}, (acc.length : Int) = m -> yL_ key f u en m l acc = acc
 | [], acc, _ => rfl
 | e :: r, acc, h => by
  unfold yL_
  split
  ·exact Qm_ h
  ·rw [if_pos (by rw [decide_eq_true h, Bool.or_true])]
theorem ltL_ge {a b c : List Int} (h : ltL a c = false) (k : ltL a b = true) : ltL b c = false := by
 cases e : ltL b c
 ·rfl
 ·rw [zE_ k e] at h; cases h
theorem qB_ {α : Type} {key : α -> List Int} {f u : List Int} {en : Bool} {m : Int} : ∀ {l acc : List α}, Ris key l -> (acc.length : Int) <= m -> qa_ key f u en m l acc = yL_ key f u en m l acc
 | [], acc, _, _ => rfl
 | e :: r, acc, h, hm => by
  obtain ⟨h1, h2⟩ := List.pairwise_cons.1 h
  unfold qa_ yL_
  by_cases hl : (acc.length : Int) < m
  ·rw [if_pos hl]
   cases hf : ltL (key e) f
   ·simp only [Bool.false_or, Bool.false_eq_true, if_false]
    cases hu : (en && !ltL (key e) u)
    ·rw [if_neg Xt5, if_neg Xt7]
     exact qB_ h2 (by rw [List.length_append, List.length_singleton]; omega)
    ·rw [if_pos rfl, if_pos Xt5]
     refine docG_out fun x hx => ?_
     simp only [Bool.and_eq_true, Bool.not_eq_true'] at hu ⊢
     exact ⟨hu.1, ltL_ge hu.2 (h1 x hx)⟩
   ·simp only [Bool.true_or, if_true]
    exact qB_ h2 hm
  ·rw [if_neg hl]
   have he : (acc.length : Int) = m := by omega
   split
   ·exact (Qm_ he).symm
   ·rw [if_pos (by rw [decide_eq_true he, Bool.or_true])]
theorem x4_ {α β : Type} (g : α -> β) {k1 : α -> List Int} {k2 : β -> List Int} (f u : List Int) (en : Bool) (m : Int) : ∀ (l acc : List α), (∀ e ∈ l, k2 (g e) = k1 e) -> (qa_ k1 f u en m l acc).map g = qa_ k2 f u en m (l.map g) (acc.map g)
 | [], acc, _ => rfl
 | e :: r, acc, h => by
  have h1 := h e (List.mem_cons_self ..)
  have h2 := fun x hx => h x (List.mem_cons_of_mem e hx)
  rw [List.map_cons]
  unfold qa_
  rw [h1, List.length_map]
  split
  ·split
   ·exact x4_ g f u en m r acc h2
   ·rw [x4_ g f u en m r (acc ++ [e]) h2, List.map_append]; rfl
  ·rfl
theorem j6_ {α : Type} (key : α -> List Int) (f u : List Int) (en : Bool) (m : Int) : ∀ (l acc : List α), ∀ e ∈ qa_ key f u en m l acc, e ∈ l ∨ e ∈ acc
 | [], acc, e, h => .inr h
 | x :: r, acc, e, h => by
  unfold qa_ at h
  split at h
  ·split at h
   ·exact (j6_ key f u en m r acc e h).imp (List.mem_cons_of_mem _) id
   ·rcases j6_ key f u en m r (acc ++ [x]) e h with h | h
    ·exact .inl (List.mem_cons_of_mem _ h)
    ·exact Xb87
  ·exact .inr h
theorem getP_T {K : List Int} : ∀ {P : List PrV}, yf_ (P.map prC) -> (getP K P).map (fun R => R.map P1.bs) = xd_ (P.map prC) K
 | [], _ => rfl
 | x :: P, h => by
  obtain ⟨h1, h2⟩ := List.pairwise_cons.1 h
  have ih := getP_T (K := K) h2
  have e0 : xd_ ((x :: P).map prC) K = if x.K = K then some (x.R.map P1.bs) else xd_ (P.map prC) K := by
   unfold xd_
   rw [List.map_cons, List.find?_cons]
   by_cases e : x.K = K
   ·rw [if_pos e]
    have : decide ((prC x).1 = K) = true := decide_eq_true e
    rw [this]; rfl
   ·rw [if_neg e]
    have : decide ((prC x).1 = K) = false := decide_eq_false e
    rw [this]
  rw [e0]
  cases hl : ltL x.K K
  ·have hc : xe_ K (x :: P) = 0 := by unfold xe_; rw [List.takeWhile_cons, hl]; rfl
   by_cases e : x.K = K
   ·rw [if_pos e]
    unfold getP x9_
    rw [hc]
    simp [e]
   ·rw [if_neg e]
    have hno : xd_ (P.map prC) K = none := qX_.2 fun p hp he => by
     have h3 := h1 p hp
     have h4 : ltL x.K K = true := by rw [← he]; exact h3
     rw [hl] at h4; cases h4
    rw [hno]
    unfold getP x9_
    rw [hc]
    simp [e]
  ·have hc : xe_ K (x :: P) = xe_ K P + 1 := by unfold xe_; rw [List.takeWhile_cons, hl]; rfl
   have e : x.K ≠ K := qR_ hl
   rw [if_neg e, ← ih]
   unfold getP x9_
   rw [hc, List.getElem?_cons_succ]
theorem filt_split (T : List Pr) (K : List Int) : (T.filter (fun p => ltL p.1 K)).length + (T.filter (fun p => ltL K p.1)).length <= T.length := by
 induction T with
 | nil => simp
 | cons x T ih =>
  rw [List.filter_cons, List.filter_cons]
  cases h : ltL x.1 K
  ·rw [if_neg Xt5]
   cases h2 : ltL K x.1
   ·rw [if_neg Xt5]; simp only [List.length_cons]; omega
   ·rw [if_pos rfl]; simp only [List.length_cons]; omega
  ·rw [yy_ h, if_pos rfl, if_neg Xt5]
   simp only [List.length_cons]; omega
theorem setT_len (T : List Pr) (K : List Int) (R : List (List Int)) : (xL_ T K R).length <= T.length + 1 := by
 have h1 := filt_split T K
 unfold xL_
 rw [List.length_append, List.length_append]
 split <;> simp <;> omega
structure RfS (f g : Rf) : Prop where
 p : g.p = f.p
 j : g.j = f.j
 b : g.b1 = f.b1
 c : g.tc = f.tc
 n : g.Ts.length = f.Ts.length
theorem RfS.rfl' (f : Rf) : RfS f f := ⟨rfl, rfl, rfl, rfl, rfl⟩
theorem RfS.trans {f g h : Rf} (a : RfS f g) (b : RfS g h) : RfS f h := ⟨b.p.trans a.p, b.j.trans a.j, b.b.trans a.b, b.c.trans a.c, b.n.trans a.n⟩
def RSetR (S : Nat -> Prop) (w : World) (f : Rf) (t : Nat) (K : List Int) (R : List (List Int)) (r : Ending) (w' : World) : Prop :=
 ∃ v g, r = .returned v /\ RfS f g /\ RfR S w' g /\ Off (fun k => k = f.b1) w w' /\ g.P = f.P.modify t (fun z => xL_ z K R) /\ ∀ N : Nat, (∀ x ∈ f.Ts, x.P.length <= N) -> ∀ x ∈ g.Ts, x.P.length <= N + 1
theorem rset_m {S : Nat -> Prop} {f : Rf} {w : World} (h : RfR S w f) (hS : ∀ k, S k -> k < w.heap.size) (t : Nat) (ht : t < f.Ts.length) (K : List Int) (hK : zH_ K) (ka : Option Addr) (kn kc : Nat) (hkn : K.length = kn) (R : List P1) (hR : R ≠ [] -> rOk (R.map P1.bs)) (ra : Option Addr) (rn rc : Nat) (hrn : R.length = rn) (hl : ∀ x ∈ f.Ts, x.P.length <= 1000000) (hk : Ls .u8 w ka kc K) (hr : RdR w ra R) :
  Calls prog 58 #[.pointer (some ⟨f.p, 0, none⟩), .int .i64 (t : Int), .slice ka kn kc, .slice ra rn rc] w (RSetR S w f t K (R.map P1.bs)) := by
 obtain ⟨x, hx⟩ : ∃ x, f.Ts[t]? = some x := ⟨_, List.getElem?_eq_getElem ht⟩
 have hxm := List.mem_of_getElem? hx
 obtain ⟨cs, hcs⟩ := h.tb
 have hfw := h.few
 have hrk : rn <= 9000 /\ ∀ q ∈ R, q.bs.length <= 9000 := by
  by_cases e : R = []
  ·subst e; subst hrn; exact ⟨by simp, fun q hq => by cases hq⟩
  ·have h1 := hR e
   refine ⟨by have := h1.2.1; rw [List.length_map, hrn] at this; omega, fun q hq => ?_⟩
   have := (h1.2.2 q.bs (List.mem_map.2 ⟨q, hq, rfl⟩)).2
   omega
 refine (rset_T f.p f.b1 0 ka ra f.Ts.length f.tc kn kc rn rc t f.Ts x K R cs hx rfl Xt0 hkn (by have := hK.2.2; omega) hK.1 hrn hrk.1 hrk.2 (h.tok hxm (hl x hxm)) (h.lim x hxm).1 (h.sl x hxm).1 (h.sl x hxm).2 w S hS h.hb hcs h.c h.tbs hk hr).mono ?_
 rintro r w' ⟨v, y, rfl, hT, ho, hb, hc1, hc2, hy, hm⟩
 have hyl : y.P.length = (tbC y).length := by unfold tbC; rw [List.length_map]
 have hxl : x.P.length = (tbC x).length := by unfold tbC; rw [List.length_map]
 refine ⟨v, { f with Ts := f.Ts.set t y }, rfl, ⟨rfl, rfl, rfl, rfl, List.length_set⟩, ⟨?_, ?_, ⟨_, hb⟩, hT, h.ok, by rw [List.length_set]; exact h.len, by rw [List.length_set]; exact h.cap, h.hp, h.hb, ?_, ?_⟩, ho, hm, ?_⟩
 ·unfold Rf.cs
  rw [List.length_set]
  exact ho.box h.box h.ne
 ·exact h.job.off (ho.mono fun k hk => by rw [hk]; exact h.hb)
 ·intro z hz
  rcases List.mem_or_eq_of_mem_set hz with hz | rfl
  ·exact h.sl z hz
  ·exact ⟨hc1, hc2⟩
 ·intro z hz
  rcases List.mem_or_eq_of_mem_set hz with hz | rfl
  ·exact h.lim z hz
  ·rw [hy]
   exact (h.lim x hxm).set hK fun hne => hR fun e => hne (by rw [e]; rfl)
 ·intro N hN z hz
  rcases List.mem_or_eq_of_mem_set hz with hz | rfl
  ·have := hN z hz; omega
  ·have h1 := hN x hxm
   have h2 := setT_len (tbC x) K (R.map P1.bs)
   rw [hyl, hy]
   omega
section
open Go.Maps Go.Shelf
def isW (o : zj_) : Bool := decide (o.k = 2 ∨ o.k = 3 ∨ o.k = 4)
theorem QK_ (T : List (List Pr)) (ws : Ws) (t : Nat) (K : List Int) (R : List (List Int)) (s : Nat) (J : List Int) :
  y2_ T (xP_ ws t K R) s J = if s = t /\ J = K then (if R = [] then none else some R) else y2_ T ws s J := by
 unfold xP_
 by_cases ha : ws.any (fun w => decide (w.1 = t /\ w.2.1 = K)) = true
 ·rw [if_pos ha]
  unfold y2_
  rw [List.find?_map]
  have e : ((fun w : Nat × List Int × List (List Int) => decide (w.1 = s /\ w.2.1 = J)) ∘ fun w => if w.1 = t /\ w.2.1 = K then (t, K, R) else w) = fun w => decide (w.1 = s /\ w.2.1 = J) := by
   funext w
   simp only [Function.comp, decide_eq_decide]
   by_cases hw : w.1 = t /\ w.2.1 = K
   ·rw [if_pos hw, hw.1, hw.2]
   ·rw [if_neg hw]
  rw [e]
  by_cases hs : s = t /\ J = K
  ·obtain ⟨rfl, rfl⟩ := hs
   rw [if_pos ⟨rfl, rfl⟩]
   cases hf : ws.find? (fun w => decide (w.1 = s /\ w.2.1 = J)) with
   | none =>
    exfalso
    obtain ⟨w, hw, hd⟩ := List.any_eq_true.1 ha
    exact absurd hd (by simpa using List.find?_eq_none.1 hf w hw)
   | some w =>
    have hd : w.1 = s /\ w.2.1 = J := by simpa using List.find?_some hf
    rw [Option.map_some, if_pos hd]
  ·rw [if_neg hs]
   cases hf : ws.find? (fun w => decide (w.1 = s /\ w.2.1 = J)) with
   | none => rfl
   | some w =>
    have hd : w.1 = s /\ w.2.1 = J := by simpa using List.find?_some hf
    rw [Option.map_some, if_neg (fun h => hs ⟨hd.1.symm.trans h.1, hd.2.symm.trans h.2⟩)]
 ·rw [if_neg ha]
  have hno : ∀ w ∈ ws, ¬ (w.1 = t /\ w.2.1 = K) := fun w hw h => ha (List.any_eq_true.2 ⟨w, hw, decide_eq_true h⟩)
  unfold y2_
  rw [List.find?_append]
  by_cases hs : s = t /\ J = K
  ·obtain ⟨rfl, rfl⟩ := hs
   have hf : ws.find? (fun w => decide (w.1 = s /\ w.2.1 = J)) = none := List.find?_eq_none.2 fun w hw => by simpa using hno w hw
   rw [hf, if_pos ⟨rfl, rfl⟩]
   simp
  ·rw [if_neg hs]
   have hd : ¬ (t = s /\ K = J) := fun h => hs ⟨h.1.symm, h.2.symm⟩
   cases hf : ws.find? (fun w => decide (w.1 = s /\ w.2.1 = J)) with
   | none => simp [hd]
   | some w => simp
end
theorem setW_tab {n : Nat} {ws : Ws} (hw : ∀ w ∈ ws, w.1 < n) {t : Nat} (ht : t < n) (K : List Int) (R : List (List Int)) : ∀ w ∈ xP_ ws t K R, w.1 < n := fun w h => by
 unfold xP_ at h
 split at h
 ·obtain ⟨v, hv, rfl⟩ := List.mem_map.1 h
  split
  ·exact ht
  ·exact hw v hv
 ·rcases List.mem_append.1 h with h | h
  ·exact hw w h
  ·rw [List.mem_singleton] at h; subst h; exact ht
theorem overT_set {T : List (List Pr)} (h : ∀ t, yf_ (T.getD t [])) (ws : Ws) (hw : ∀ w ∈ ws, w.1 < T.length) (hd : ws.Pairwise xg_) (t : Nat) (ht : t < T.length) (K : List Int) (R : List (List Int)) : yk_ T (xP_ ws t K R) = (yk_ T ws).modify t fun z => xL_ z K R := by
 have hw2 := setW_tab hw ht K R
 apply List.ext_getElem
 ·rw [y6_, List.length_modify, y6_]
 ·intro s h1 h2
  have e1 : (yk_ T (xP_ ws t K R)).getD s [] = (yk_ T (xP_ ws t K R))[s] := by rw [List.getD_eq_getElem?_getD, List.getElem?_eq_getElem h1]; rfl
  have e2 : ((yk_ T ws).modify t fun z => xL_ z K R).getD s [] = ((yk_ T ws).modify t fun z => xL_ z K R)[s] := by rw [List.getD_eq_getElem?_getD, List.getElem?_eq_getElem h2]; rfl
  rw [← e1, ← e2, xH_ _ _ _ _ (by rw [y6_]; exact ht)]
  have o1 := xX_ h (xP_ ws t K R) hw2 s
  have o2 := xX_ h ws hw s
  by_cases e : t = s
  ·subst e
   rw [if_pos rfl]
   refine tab_ext o1 (qJ_ o2 _ _) fun J => ?_
   rw [yt_ h _ hw2 (yB_ hd t K R), QK_, j1_ o2, yt_ h ws hw hd]
   by_cases eJ : J = K
   ·simp [eJ]
   ·simp [eJ]
  ·rw [if_neg e]
   refine tab_ext o1 o2 fun J => ?_
   rw [yt_ h _ hw2 (yB_ hd t K R), QK_, yt_ h ws hw hd, if_neg (fun q => e q.1.symm)]
def yq_ (j : Job) (T : List (List Pr)) (o : zj_) : (Int × List Pr) × List (List Pr) :=
 if o.k = 1 then ((match xd_ (T.getD o.t.toNat []) o.K with | some R => (0, [(o.K, R)]) | none => (6, [])), T)
 else if o.k = 2 then ((0, []), T.modify o.t.toNat fun z => xL_ z o.K (o.R.map P1.bs))
 else if o.k = 3 then (if (xd_ (T.getD o.t.toNat []) o.K).isSome then ((7, []), T) else ((0, []), T.modify o.t.toNat fun z => xL_ z o.K (o.R.map P1.bs)))
 else if o.k = 4 then (if (xd_ (T.getD o.t.toNat []) o.K).isSome then ((0, []), T.modify o.t.toNat fun z => xL_ z o.K []) else ((6, []), T))
 else if o.k = 5 then ((0, yL_ Prod.fst o.K o.T (decide (0 < o.tn)) o.m (T.getD o.t.toNat []) []), T)
 else ((0, (yL_ Prod.fst (zk_ o.K) (zk_ o.T) (decide (0 < o.tn)) o.m (yG_ j o.t (trV j o.t o.i).1 (T.getD o.t.toNat [])) []).map Prod.snd), T)
theorem callD_eq {j : Job} {T : List (List Pr)} (h : ∀ t, yf_ (T.getD t [])) (ws : Ws) (hw : ∀ w ∈ ws, w.1 < T.length) (hd : ws.Pairwise xg_) (o : zj_) (ht : o.t.toNat < T.length) : yq_ j (yk_ T ws) o = ((z9_ j T ws o).1, yk_ T (z9_ j T ws o).2) := by
 have g := yt_ h ws hw hd o.t.toNat o.K
 have m := fun R => overT_set h ws hw hd o.t.toNat ht o.K R
 unfold yq_ z9_
 rw [g]
 split
 ·rfl
 ·split
  ·rw [m]
  ·split
   ·split
    ·rfl
    ·rw [m]
   ·split
    ·split
     ·rw [m]
     ·rfl
    ·split <;> rfl
theorem callP_tab (j : Job) {T : List (List Pr)} {ws : Ws} (hw : ∀ w ∈ ws, w.1 < T.length) (o : zj_) (ht : o.t.toNat < T.length) : ∀ w ∈ (z9_ j T ws o).2, w.1 < T.length := by
 have s := fun R => setW_tab hw ht o.K R
 unfold z9_
 split
 ·exact hw
 ·split
  ·exact s _
  ·split
   ·split
    ·exact hw
    ·exact s _
   ·split
    ·split
     ·exact s _
     ·exact hw
    ·split <;> exact hw
theorem runP_tab (j : Job) {T : List (List Pr)} (ops : List zj_) (ht : ∀ o ∈ ops, o.t.toNat < T.length) : ∀ w ∈ (z1_ j T ops).2, w.1 < T.length := by
 induction ops using zS_ with
 | nil => intro w hw; cases hw
 | append_singleton l o ih =>
  have e : z1_ j T (l ++ [o]) = y1_ j T (z1_ j T l) o := by unfold z1_; rw [List.foldl_append]; rfl
  rw [e]
  exact callP_tab j (ih fun v hv => ht v (List.mem_append_left _ hv)) o (ht o Xt5)
def stepD (j : Job) (st : List (Int × List Pr) × List (List Pr)) (o : zj_) : List (Int × List Pr) × List (List Pr) := (st.1 ++ [(yq_ j st.2 o).1], (yq_ j st.2 o).2)
def x8_ (j : Job) (T : List (List Pr)) (ops : List zj_) : List (Int × List Pr) × List (List Pr) := ops.foldl (stepD j) ([], T)
theorem runD_take (j : Job) (T : List (List Pr)) {ops : List zj_} {k : Nat} {o : zj_} (h : ops[k]? = some o) : x8_ j T (ops.take (k + 1)) = stepD j (x8_ j T (ops.take k)) o := by
 unfold x8_
 rw [List.take_add_one, h, List.foldl_append]
 rfl
theorem runD_eq {j : Job} {T : List (List Pr)} (h : ∀ t, yf_ (T.getD t [])) (ops : List zj_) (ht : ∀ o ∈ ops, o.t.toNat < T.length) : x8_ j T ops = ((z1_ j T ops).1, yk_ T (z1_ j T ops).2) := by
 induction ops using zS_ with
 | nil => rfl
 | append_singleton l o ih =>
  have hl := fun v hv => ht v (List.mem_append_left [o] hv)
  have e : z1_ j T (l ++ [o]) = y1_ j T (z1_ j T l) o := by unfold z1_; rw [List.foldl_append]; rfl
  have e2 : x8_ j T (l ++ [o]) = stepD j (x8_ j T l) o := by unfold x8_; rw [List.foldl_append]; rfl
  rw [e, e2, ih hl]
  unfold stepD y1_
  rw [callD_eq h (z1_ j T l).2 (runP_tab j l hl) (jj_ j T l) o (ht o Xt5)]
end Go.Proofs.YthmofoldmdafoaaGreat
