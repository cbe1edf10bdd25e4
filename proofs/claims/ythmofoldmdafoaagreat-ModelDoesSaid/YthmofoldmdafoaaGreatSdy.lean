/- Part of the proof that ModelDoes holds for every input: tables, under any transactions, answer, write and stand as the document says. Part 25. -/
import Derived.Test.YthmofoldmdafoaaGreatSdx
set_option linter.unusedVariables false
set_option linter.unusedSimpArgs false
set_option maxRecDepth 100000
set_option maxHeartbeats 4000000
namespace Go.Proofs.YthmofoldmdafoaaGreat
open Go.ChangeShapes Go.WideShapes Go.ChangeAt Go.RowKit
open Go.Lib (hid)
open Go.Proofs.Tryz
section
open Go.Maps Go.Shelf
theorem okJ (a : Option Addr) (c : Nat) : okB (jobV a c) = true := by rfl
theorem je_ {L : List Int} (h : (L.all fun x => decide (0 <= x /\ x <= 255)) = true) : Byt L := fun x hx => by simpa using List.all_eq_true.1 h x hx
theorem rowd {F : List (List Int)} (h : (F.all fun f => (f.all fun x => decide (0 <= x /\ x <= 255)) && decide (f.length <= 1000)) = true) : ∀ f ∈ F, Byt f /\ f.length <= 1000 := fun f hf => by
 have := List.all_eq_true.1 h f hf
 rw [Bool.and_eq_true] at this
 exact ⟨je_ this.1, by simpa using this.2⟩
theorem z4_ {S : Nat -> Prop} {W W' : World} {L : List zj_} {o : zj_} (h : ∀ o ∈ L, zs_ S W fun X => zy_ X o) (b : Below W.heap.size W W') (hn : zs_ S W' fun X => zy_ X o) : ∀ x ∈ L ++ [o], zs_ S W' fun X => zy_ X x := fun x hx => by
 rcases List.mem_append.1 hx with hx | hx
 ·exact (h x hx).below b
 ·rw [List.mem_singleton] at hx; subst hx; exact hn
theorem QG_ {W : World} {B : Nat} {cs : Array Value} {mk : Nat × Nat} (L : List Int) (h : W.heap[B]? = some (.cells cs 5 mk)) (he : cs.toList = L.map (Value.int .u8)) : Ls .u8 W (some ⟨B, 0, none⟩) L.length L := ⟨fun k hk => by
 refine ⟨B, 0, rfl, ?_⟩
 have e : cs[k]? = some (.int .u8 (L.getD k 0)) := by rw [← Array.getElem?_toList, he, List.getElem?_map, List.getElem?_eq_getElem hk, List.getD_eq_getElem?_getD, List.getElem?_eq_getElem hk]; rfl
 simp [World.cell?, h, e], fun e => (nomatch e), Nat.le_refl _⟩
theorem conv42 (w : World) (C : Array Value) (n c : Nat) : (convert 42 42 (.slice (some ⟨w.heap.size, 0, none⟩) n c)).run prog (w.alloc (.cells C 5)) = .ok (.slice (some ⟨w.heap.size, 0, none⟩) n c) (w.alloc (.cells C 5 (C.size, C.size + 1))) := Lib.run_convert_bytes_const w 42 5 C n c underlying42 underlying5
def WrtsY (S : Nat -> Prop) (w : World) (m : Md) (L : Ws) (r : Ending) (w' : World) : Prop :=
 ∃ (a : Option Addr) (c : Nat) (E : List WtV), r = .returned (.tuple #[.slice a E.length c, .int .i64 0]) /\ Below w.heap.size w w' /\ (E.map WtV.P).Perm L /\ (E.Pairwise fun x y => ltW y x = false) /\ (∀ y ∈ E, y.t < m.tabs.length /\ zH_ y.K /\ (y.r.R ≠ [] -> rOk y.r.P)) /\ zs_ S w' fun W => WrR W a (E.map WtV.W)
theorem writes_yes {S : Nat -> Prop} {m : Md} {w : World} (h : MdR S w m) (hS : ∀ k, S k -> k < w.heap.size) (x : z0_) (hx : zs_ S w fun W => zR_ W x) (hon : x.on <= 1000000) (hrn : ∀ o ∈ x.ops, o.rn <= 1000000) (hf : ∀ z ∈ m.tabs, z.2.length <= 300000) (hm : yM_ m.j x = true) :
  Calls prog 25 #[.pointer (some ⟨m.p, 0, none⟩), .agg #[.slice x.oa x.on x.oc, .bool x.sn, .bool x.ab]] w (WrtsY S w m (jG_ m.j m.P x)) := (writes_law h hS x hx hon hrn hf).mono fun r w' h => by
 unfold Qc_ at h
 rw [if_pos hm] at h
 exact h
theorem fields74 : (match prog.underlying 74 with | some (.struct fs) => (fs[6]?).map (fun f => (f.type, f.offset)) | _ => none) = some (50, 6) := by kernel_rfl
theorem agg50 (W : World) : (isAgg 50).run prog W = .ok false W := by kernel_rfl
theorem field74 (W : World) (a0 a1 a2 a3 a4 a5 a6 : Value) : (Instr.field 74 (.agg #[a0, a1, a2, a3, a4, a5, a6]) 6).run prog W = .ok a6 W := by
 have h := fields74
 cases hu : prog.underlying 74 with
 | none => rw [hu] at h; cases h
 | some t =>
  rw [hu] at h
  cases t with
  | struct fs =>
   simp only at h
   cases hf : fs[6]? with
   | none => rw [hf] at h; cases h
   | some f =>
    rw [hf] at h
    simp only [Option.map_some, Option.some.injEq, Prod.mk.injEq] at h
    unfold Instr.field
    simp [run_underlying hu, hf, h.1, h.2, part, agg50, Result.andThen]
    rfl
  | _ => cases h
theorem two_below (w : World) (o p : Obj) : Below w.heap.size w ((w.alloc o).alloc p) := za_ (bl1 w o) (bl1 _ p)
theorem jP_ {W : World} {B : Nat} {cs : Array Value} (L : List PrV) (h : zg_ W B cs 78) (he : cs = (zi_ L).toArray) (ok : ∀ x ∈ L, Ls .u8 W x.ka x.kc x.K /\ RdR W x.ra x.R) : zn_ W (some ⟨B, 0, none⟩) L := fun k x hx => by
 have hc : ∀ i, i < 2 -> W.cell? ⟨B, 0 + k * 2 + i, none⟩ = (pcl x)[i]? := fun i hi => by
  rw [Nat.zero_add, h.cell (k * 2 + i), he, List.getElem?_toArray]
  exact zY_ (f := pcl) (sz := 2) (fun _ => rfl) L k i x hx hi
 exact ⟨B, 0, rfl, hc 0 Xt0, hc 1 Xt0, ok x (List.mem_of_getElem? hx)⟩
theorem res_at {W : World} {B : Nat} {cs : Array Value} (L : List xu_) (h : zg_ W B cs 81) (he : cs = (cellsOf rcl L).toArray) (ok : ∀ x ∈ L, zn_ W x.pa x.P) : jE_ W (some ⟨B, 0, none⟩) L := fun k x hx => by
 have hc : ∀ i, i < 2 -> W.cell? ⟨B, 0 + k * 2 + i, none⟩ = (rcl x)[i]? := fun i hi => by
  rw [Nat.zero_add, h.cell (k * 2 + i), he, List.getElem?_toArray]
  exact zY_ (f := rcl) (sz := 2) (fun _ => rfl) L k i x hx hi
 exact ⟨B, 0, rfl, hc 0 Xt0, hc 1 Xt0, ok x (List.mem_of_getElem? hx)⟩
def Bel (X Y : World) : Prop := Below X.heap.size X Y
theorem y5_ (a b : Option Addr) (L M : List xu_) (n ca cb : Nat) (hn : L.length = n) (hm : M.length = n) (hn2 : n <= 1000000) (okL : ∀ x ∈ L, ym_ x) (okM : ∀ x ∈ M, ym_ x) (hs : L.map yx_ = M.map yx_) (w : World) (hA : jE_ w a L) (hB : jE_ w b M) :
  Calls prog 34 #[.slice a n ca, .slice b n cb] w fun r w' => r = .returned (.bool true) /\ Bel w w' := by
 have h := zU_ a b L M n n ca cb hn hm hn2 hn2 okL okM w hA hB
 rw [decide_eq_true hs] at h
 exact h
theorem yj_ (W : World) (a : Option Addr) : zn_ W a [] := fun k x hx => by simp at hx
theorem cpr_out {base n : Nat} {R : List P1} {v : Value} {W : World} {F : List (List Int)} (h : CpR base R n v W) (hF : R.map P1.bs = F) (hn : R.length = n) : ∃ a c R', v = .slice a n c /\ R'.map P1.bs = F /\ RdR W a R' := by
 obtain ⟨a, c, R', h1, h2, _, h4, _⟩ := h.lies hn
 exact ⟨a, c, R', h1, h4.trans hF, h2⟩
theorem yT_ (w : World) : Calls prog 9 #[] w fun r w' => r = .returned (.bool true) /\ Below w.heap.size w w' := by
 have hc42 := conv42
 have hf74 := field74
 go_enter func9, ntmps9
 go_wp2_with fail
 refine (job_law w).mono ?_; rintro r w1 ⟨ja, jc, rfl, hb1, hj⟩
 have HB1 := hid hb1
 have HJ0 := hid hj
 clear hb1 hj
 go_wp2_with fail
 refine (new_law (jobV ja jc) w1 HJ0.out).mono ?_; rintro r w2 hnew
 unfold NewR at hnew
 rw [if_pos (okJ ja jc)] at hnew
 obtain ⟨S, m, rfl, hb2, hmd, hSm, ⟨mja, mjc, hmj⟩, hem⟩ := hnew
 have HB := hid (za_ HB1.out hb2)
 have HM := hid hmd
 have HZ := hid (fun k (hk : S k) => (hSm k hk).2)
 have HLO := hid (fun k (hk : S k) => Nat.le_trans HB1.out.size (hSm k hk).1)
 have HD := hid (Below.refl w2.heap.size w2)
 have HJ := hid (show m.j = jZ_ mja mjc from hmj)
 have HP := hid (show m.P = [[]] /\ ∀ z ∈ m.tabs, z.2.length <= 0 by
  have hl : m.tabs.length = 1 := by rw [hmd.len, hmj]; rfl
  obtain ⟨z, hz⟩ := List.length_eq_one_iff.1 hl
  have h1 := hem z (by rw [hz]; simp)
  refine ⟨by unfold Md.P; rw [hz, List.map_cons, h1]; rfl, fun z' hz' => by rw [hem z' hz']; exact Nat.le_refl _⟩)
 clear hb2 hmd hSm hmj hem HJ0 HB1
 go_wp2_with fail
 replace HST := hid (show ∀ o ∈ ([] : List zj_), zs_ S w2 fun W => zy_ W o from fun o ho => nomatch ho)
 have hq := yn_ 3 [97] _ rfl (je_ rfl) Xt4 (some ⟨(w2).heap.size, 0, none⟩) 2 2 [[120], [121]] rfl Xt4 (rowd rfl) ((w2).alloc (.cells #[.string { data := #[120] }, .string { data := #[121] }] 9)) (xy_ _ (zg_.new _ #[.string { data := #[120] }, .string { data := #[121] }] 9) rfl)
 have hm0 : Below (w2).heap.size (w2) ((w2).alloc (.cells #[.string { data := #[120] }, .string { data := #[121] }] 9)) := bl1 _ _
 refine hq.mono ?_; clear hq; rintro r w3 ⟨k1, d1, r1, e1, R1, rfl, hb, hR, hc⟩
 obtain ⟨p1, q1, s1, t1, rfl⟩ := qt_ hR
 have hb := za_ hm0 hb
 have hzz := HD.out.size
 have hzy := hm0.size
 have hc' : zs_ S w3 fun W => zy_ W (opV 3 [97] k1 d1 r1 e1 [b1 p1 q1 120, b1 s1 t1 121]) := hc S (fun q hq => Nat.lt_of_lt_of_le (HZ.out q hq) (Nat.le_trans hzz hzy))
 replace HST := hid (z4_ HST.out hb hc')
 clear hc hc' hR hm0 hzz hzy
 replace HB := hid (za_ HB.out (hb : Below (w2).heap.size (w2) w3))
 replace HD := hid (za_ HD.out (hb : Below (w2).heap.size (w2) w3))
 clear hb
 go_wp2_with fail
 have hq := yn_ 3 [97] _ rfl (je_ rfl) Xt4 (some ⟨(w3).heap.size, 0, none⟩) 1 1 [[122]] rfl Xt4 (rowd rfl) ((w3).alloc (.cells #[.string { data := #[122] }] 9)) (xy_ _ (zg_.new _ #[.string { data := #[122] }] 9) rfl)
 have hm0 : Below (w3).heap.size (w3) ((w3).alloc (.cells #[.string { data := #[122] }] 9)) := bl1 _ _
 refine hq.mono ?_; clear hq; rintro r w4 ⟨k2, d2, r2, e2, R2, rfl, hb, hR, hc⟩
 obtain ⟨p2, q2, rfl⟩ := one_row hR
 have hb := za_ hm0 hb
 have hzz := HD.out.size
 have hzy := hm0.size
 have hc' : zs_ S w4 fun W => zy_ W (opV 3 [97] k2 d2 r2 e2 [b1 p2 q2 122]) := hc S (fun q hq => Nat.lt_of_lt_of_le (HZ.out q hq) (Nat.le_trans hzz hzy))
 replace HST := hid (z4_ HST.out hb hc')
 clear hc hc' hR hm0 hzz hzy
 replace HB := hid (za_ HB.out (hb : Below (w3).heap.size (w3) w4))
 replace HD := hid (za_ HD.out (hb : Below (w3).heap.size (w3) w4))
 clear hb
 go_wp2_with fail
 have hq := yn_ 1 [97] _ rfl (je_ rfl) Xt4 none 0 0 [] rfl Xt4 (rowd rfl) (w4) (qI_ _ _)
 have hm0 : Below (w4).heap.size (w4) (w4) := Below.refl _ _
 refine hq.mono ?_; clear hq; rintro r w5 ⟨k3, d3, r3, e3, R3, rfl, hb, hR, hc⟩
 obtain rfl := jt_ hR
 have hb := za_ hm0 hb
 have hzz := HD.out.size
 have hzy := hm0.size
 have hc' : zs_ S w5 fun W => zy_ W (opV 1 [97] k3 d3 r3 e3 []) := hc S (fun q hq => Nat.lt_of_lt_of_le (HZ.out q hq) (Nat.le_trans hzz hzy))
 replace HST := hid (z4_ HST.out hb hc')
 clear hc hc' hR hm0 hzz hzy
 replace HB := hid (za_ HB.out (hb : Below (w4).heap.size (w4) w5))
 replace HD := hid (za_ HD.out (hb : Below (w4).heap.size (w4) w5))
 clear hb
 go_wp2_with fail
 have hq := yn_ 4 [98] _ rfl (je_ rfl) Xt4 none 0 0 [] rfl Xt4 (rowd rfl) (w5) (qI_ _ _)
 have hm0 : Below (w5).heap.size (w5) (w5) := Below.refl _ _
 refine hq.mono ?_; clear hq; rintro r w6 ⟨k4, d4, r4, e4, R4, rfl, hb, hR, hc⟩
 obtain rfl := jt_ hR
 have hb := za_ hm0 hb
 have hzz := HD.out.size
 have hzy := hm0.size
 have hc' : zs_ S w6 fun W => zy_ W (opV 4 [98] k4 d4 r4 e4 []) := hc S (fun q hq => Nat.lt_of_lt_of_le (HZ.out q hq) (Nat.le_trans hzz hzy))
 replace HST := hid (z4_ HST.out hb hc')
 clear hc hc' hR hm0 hzz hzy
 replace HB := hid (za_ HB.out (hb : Below (w5).heap.size (w5) w6))
 replace HD := hid (za_ HD.out (hb : Below (w5).heap.size (w5) w6))
 clear hb
 go_wp2_with fail
 have hzz := HD.out.size
 have hx : zs_ S ((w6).alloc (.cells (cellsOf ocl [(opV 3 [97] k1 d1 r1 e1 [b1 p1 q1 120, b1 s1 t1 121]), (opV 3 [97] k2 d2 r2 e2 [b1 p2 q2 122]), (opV 1 [97] k3 d3 r3 e3 []), (opV 4 [98] k4 d4 r4 e4 [])]).toArray 74)) fun W => zR_ W ⟨some ⟨(w6).heap.size, 0, none⟩, 4, 4, [(opV 3 [97] k1 d1 r1 e1 [b1 p1 q1 120, b1 s1 t1 121]), (opV 3 [97] k2 d2 r2 e2 [b1 p2 q2 122]), (opV 1 [97] k3 d3 r3 e3 []), (opV 4 [98] k4 d4 r4 e4 [])], false, false⟩ := fun W' o => ⟨jT_ [(opV 3 [97] k1 d1 r1 e1 [b1 p1 q1 120, b1 s1 t1 121]), (opV 3 [97] k2 d2 r2 e2 [b1 p2 q2 122]), (opV 1 [97] k3 d3 r3 e3 []), (opV 4 [98] k4 d4 r4 e4 [])] rfl (fun k hk => Nat.lt_of_lt_of_le (HZ.out k hk) hzz) HST.out W' o, rfl⟩
 have hbA := bl1 (w6) (.cells (cellsOf ocl [(opV 3 [97] k1 d1 r1 e1 [b1 p1 q1 120, b1 s1 t1 121]), (opV 3 [97] k2 d2 r2 e2 [b1 p2 q2 122]), (opV 1 [97] k3 d3 r3 e3 []), (opV 4 [98] k4 d4 r4 e4 [])]).toArray 74)
 have key := do_yes (HM.out.below (za_ HD.out hbA)) (fun k hk => Nat.lt_of_lt_of_le (HZ.out k hk) (Nat.le_trans hzz hbA.size)) ⟨some ⟨(w6).heap.size, 0, none⟩, 4, 4, [(opV 3 [97] k1 d1 r1 e1 [b1 p1 q1 120, b1 s1 t1 121]), (opV 3 [97] k2 d2 r2 e2 [b1 p2 q2 122]), (opV 1 [97] k3 d3 r3 e3 []), (opV 4 [98] k4 d4 r4 e4 [])], false, false⟩ hx (Nat.le_of_ble_eq_true rfl) (by intro o ho; simp at ho; rcases ho with rfl | rfl | rfl | rfl <;> exact Nat.le_of_ble_eq_true rfl) Xt27 (by rw [HJ.out]; exact (may1 ..))
 try simp only [World.size_alloc] at key
 refine key.mono ?_; clear key; rintro r D1 ⟨m1, a1, c1, rs1, rfl, hmd, hsame, hPn, hoff, hlen, hans, hrok, hrst⟩
 have hSM : ∀ k, yK_ m k -> S k := fun k ⟨x, hx, e⟩ => e ▸ HM.out.hS x hx
 rw [HJ.out, HP.out.1] at hPn hans
 have hPn := hPn.trans (wrt1 ..)
 have hans := hans.trans (ans1 ..)
 have hl1 : rs1.length = 4 := by have := congrArg List.length hans; simpa using this
 rw [hl1]
 have HL1 := hid hl1
 have HR1 := hid (And.intro hans (And.intro hrok hrst))
 replace HB := hid (Off.below (za_ HB.out hbA) hoff (Nat.le_trans HB.out.size hbA.size) (fun k hk => HLO.out k (hSM k hk)))
 replace HZ := hid (fun k (hk : S k) => Nat.lt_of_lt_of_le (HZ.out k hk) (Nat.le_trans hzz (Nat.le_trans hbA.size hoff.size)))
 replace HP := hid (And.intro hPn (hlen 0 (fun x hx => HP.out.2 x hx)))
 replace HJ := hid (hsame.j.trans HJ.out)
 replace HMP := hid hsame.p
 replace HM := hid hmd
 replace HD := hid (Below.refl D1.heap.size D1)
 clear hmd hsame hPn hoff hlen hans hrok hrst hx hbA hzz hSM hl1 HST
 go_wp2_with fail
 replace HST := hid (show ∀ o ∈ ([] : List zj_), zs_ S D1 fun W => zy_ W o from fun o ho => nomatch ho)
 have hq := yn_ 2 [98] _ rfl (je_ rfl) Xt4 (some ⟨(D1).heap.size, 0, none⟩) 2 2 [[120], [119]] rfl Xt4 (rowd rfl) ((D1).alloc (.cells #[.string { data := #[120] }, .string { data := #[119] }] 9)) (xy_ _ (zg_.new _ #[.string { data := #[120] }, .string { data := #[119] }] 9) rfl)
 have hm0 : Below (D1).heap.size (D1) ((D1).alloc (.cells #[.string { data := #[120] }, .string { data := #[119] }] 9)) := bl1 _ _
 refine hq.mono ?_; clear hq; rintro r w7 ⟨k5, d5, r5, e5, R5, rfl, hb, hR, hc⟩
 obtain ⟨p5, q5, s5, t5, rfl⟩ := qt_ hR
 have hb := za_ hm0 hb
 have hzz := HD.out.size
 have hzy := hm0.size
 have hc' : zs_ S w7 fun W => zy_ W (opV 2 [98] k5 d5 r5 e5 [b1 p5 q5 120, b1 s5 t5 119]) := hc S (fun q hq => Nat.lt_of_lt_of_le (HZ.out q hq) (Nat.le_trans hzz hzy))
 replace HST := hid (z4_ HST.out hb hc')
 clear hc hc' hR hm0 hzz hzy
 replace HB := hid (za_ HB.out (hb : Below (D1).heap.size (D1) w7))
 replace HD := hid (za_ HD.out (hb : Below (D1).heap.size (D1) w7))
 clear hb
 go_wp2_with fail
 have hbw := bl1 (w7) (.cells #[.int .u8 119] 5 (1, 2))
 have hkw : zs_ S ((w7).alloc (.cells #[.int .u8 119] 5 (1, 2))) fun W => zy_ W (opL (some ⟨(w7).heap.size, 0, none⟩) 1) := fun W' o => ⟨QG_ [119] ((o.block (w7).heap.size Xt5 (fun e => by have h1 := HZ.out _ e; have h2 := HD.out.size; omega)).trans (World.alloc_heap_new (w7) (.cells #[.int .u8 119] 5 (1, 2)))) rfl, rfl, je_ rfl, Ls.nul _ _, rfl, (fun x hx => nomatch hx), (fun k p hp => by have hp : ([] : List P1)[k]? = some p := hp; simp at hp), rfl, fun p hp => nomatch hp⟩
 replace HST := hid (z4_ HST.out hbw hkw)
 replace HB := hid (za_ HB.out (hbw : Below (w7).heap.size (w7) ((w7).alloc (.cells #[.int .u8 119] 5 (1, 2)))))
 replace HD := hid (za_ HD.out (hbw : Below (w7).heap.size (w7) ((w7).alloc (.cells #[.int .u8 119] 5 (1, 2)))))
 clear hbw hkw
 replace HST := hid (z4_ HST.out (Below.refl _ _) (show zs_ S ((w7).alloc (.cells #[.int .u8 119] 5 (1, 2))) fun W => zy_ W opS from fun W' o => ⟨Ls.nul _ _, rfl, (fun x hx => nomatch hx), Ls.nul _ _, rfl, (fun x hx => nomatch hx), (fun k p hp => by have hp : ([] : List P1)[k]? = some p := hp; simp at hp), rfl, fun p hp => nomatch hp⟩))
 have hzz := HD.out.size
 have hx : zs_ S ((((w7).alloc (.cells #[.int .u8 119] 5 (1, 2)))).alloc (.cells (cellsOf ocl [(opV 2 [98] k5 d5 r5 e5 [b1 p5 q5 120, b1 s5 t5 119]), (opL (some ⟨(w7).heap.size, 0, none⟩) 1), opS]).toArray 74)) fun W => zR_ W ⟨some ⟨(((w7).alloc (.cells #[.int .u8 119] 5 (1, 2)))).heap.size, 0, none⟩, 3, 3, [(opV 2 [98] k5 d5 r5 e5 [b1 p5 q5 120, b1 s5 t5 119]), (opL (some ⟨(w7).heap.size, 0, none⟩) 1), opS], false, false⟩ := fun W' o => ⟨jT_ [(opV 2 [98] k5 d5 r5 e5 [b1 p5 q5 120, b1 s5 t5 119]), (opL (some ⟨(w7).heap.size, 0, none⟩) 1), opS] rfl (fun k hk => Nat.lt_of_lt_of_le (HZ.out k hk) hzz) HST.out W' o, rfl⟩
 have hbA := bl1 (((w7).alloc (.cells #[.int .u8 119] 5 (1, 2)))) (.cells (cellsOf ocl [(opV 2 [98] k5 d5 r5 e5 [b1 p5 q5 120, b1 s5 t5 119]), (opL (some ⟨(w7).heap.size, 0, none⟩) 1), opS]).toArray 74)
 have key := do_yes (HM.out.below (za_ HD.out hbA)) (fun k hk => Nat.lt_of_lt_of_le (HZ.out k hk) (Nat.le_trans hzz hbA.size)) ⟨some ⟨(((w7).alloc (.cells #[.int .u8 119] 5 (1, 2)))).heap.size, 0, none⟩, 3, 3, [(opV 2 [98] k5 d5 r5 e5 [b1 p5 q5 120, b1 s5 t5 119]), (opL (some ⟨(w7).heap.size, 0, none⟩) 1), opS], false, false⟩ hx (Nat.le_of_ble_eq_true rfl) Xt36 Xt27 (by rw [HJ.out]; exact (may2 ..))
 rw [HMP.out] at key
 try simp only [World.size_alloc] at key
 refine key.mono ?_; clear key; rintro r D2 ⟨m2, a2, c2, rs2, rfl, hmd, hsame, hPn, hoff, hlen, hans, hrok, hrst⟩
 have hSM : ∀ k, yK_ m1 k -> S k := fun k ⟨x, hx, e⟩ => e ▸ HM.out.hS x hx
 rw [HJ.out, HP.out.1] at hPn hans
 have hPn := hPn.trans (wrt2 ..)
 have hans := hans.trans (ans2 ..)
 have hl2 : rs2.length = 3 := by have := congrArg List.length hans; simpa using this
 rw [hl2]
 have HL2 := hid hl2
 have HR2 := hid (And.intro hans (And.intro hrok hrst))
 replace HR1 := hid (And.intro HR1.out.1 (And.intro HR1.out.2.1 ((HR1.out.2.2.below (za_ HD.out hbA)).off (hoff.mono hSM))))
 replace HB := hid (Off.below (za_ HB.out hbA) hoff (Nat.le_trans HB.out.size hbA.size) (fun k hk => HLO.out k (hSM k hk)))
 replace HZ := hid (fun k (hk : S k) => Nat.lt_of_lt_of_le (HZ.out k hk) (Nat.le_trans hzz (Nat.le_trans hbA.size hoff.size)))
 replace HP := hid (And.intro hPn (hlen 16 (fun x hx => HP.out.2 x hx)))
 replace HJ := hid (hsame.j.trans HJ.out)
 replace HMP := hid (hsame.p.trans HMP.out)
 replace HM := hid hmd
 replace HD := hid (Below.refl D2.heap.size D2)
 clear hmd hsame hPn hoff hlen hans hrok hrst hx hbA hzz hSM hl2 HST
 go_wp2_with fail
 have key := mlen_law (HM.out.below HD.out) Xt27
 rw [HMP.out, HP.out.1] at key
 refine key.mono ?_; clear key; rintro r w0 ⟨rfl, hw0⟩; have hw0' := hw0.symm; clear hw0; subst hw0'
 rw [show lenP [[([97], [[120], [121]]), ([98], [[120], [119]])]] = 2 from rfl]
 go_wp2_with fail
 replace HST := hid (show ∀ o ∈ ([] : List zj_), zs_ S D2 fun W => zy_ W o from fun o ho => nomatch ho)
 have hq := yn_ 4 [97] _ rfl (je_ rfl) Xt4 none 0 0 [] rfl Xt4 (rowd rfl) (D2) (qI_ _ _)
 have hm0 : Below (D2).heap.size (D2) (D2) := Below.refl _ _
 refine hq.mono ?_; clear hq; rintro r w8 ⟨k6, d6, r6, e6, R6, rfl, hb, hR, hc⟩
 obtain rfl := jt_ hR
 have hb := za_ hm0 hb
 have hzz := HD.out.size
 have hzy := hm0.size
 have hc' : zs_ S w8 fun W => zy_ W (opV 4 [97] k6 d6 r6 e6 []) := hc S (fun q hq => Nat.lt_of_lt_of_le (HZ.out q hq) (Nat.le_trans hzz hzy))
 replace HST := hid (z4_ HST.out hb hc')
 clear hc hc' hR hm0 hzz hzy
 replace HB := hid (za_ HB.out (hb : Below (D2).heap.size (D2) w8))
 replace HD := hid (za_ HD.out (hb : Below (D2).heap.size (D2) w8))
 clear hb
 go_wp2_with fail
 have hq := yn_ 1 [97] _ rfl (je_ rfl) Xt4 none 0 0 [] rfl Xt4 (rowd rfl) (w8) (qI_ _ _)
 have hm0 : Below (w8).heap.size (w8) (w8) := Below.refl _ _
 refine hq.mono ?_; clear hq; rintro r w9 ⟨k7, d7, r7, e7, R7, rfl, hb, hR, hc⟩
 obtain rfl := jt_ hR
 have hb := za_ hm0 hb
 have hzz := HD.out.size
 have hzy := hm0.size
 have hc' : zs_ S w9 fun W => zy_ W (opV 1 [97] k7 d7 r7 e7 []) := hc S (fun q hq => Nat.lt_of_lt_of_le (HZ.out q hq) (Nat.le_trans hzz hzy))
 replace HST := hid (z4_ HST.out hb hc')
 clear hc hc' hR hm0 hzz hzy
 replace HB := hid (za_ HB.out (hb : Below (w8).heap.size (w8) w9))
 replace HD := hid (za_ HD.out (hb : Below (w8).heap.size (w8) w9))
 clear hb
 go_wp2_with fail
 have hzz := HD.out.size
 have hx : zs_ S ((w9).alloc (.cells (cellsOf ocl [(opV 4 [97] k6 d6 r6 e6 []), (opV 1 [97] k7 d7 r7 e7 [])]).toArray 74)) fun W => zR_ W ⟨some ⟨(w9).heap.size, 0, none⟩, 2, 2, [(opV 4 [97] k6 d6 r6 e6 []), (opV 1 [97] k7 d7 r7 e7 [])], false, true⟩ := fun W' o => ⟨jT_ [(opV 4 [97] k6 d6 r6 e6 []), (opV 1 [97] k7 d7 r7 e7 [])] rfl (fun k hk => Nat.lt_of_lt_of_le (HZ.out k hk) hzz) HST.out W' o, rfl⟩
 have hbA := bl1 (w9) (.cells (cellsOf ocl [(opV 4 [97] k6 d6 r6 e6 []), (opV 1 [97] k7 d7 r7 e7 [])]).toArray 74)
 have key := do_yes (HM.out.below (za_ HD.out hbA)) (fun k hk => Nat.lt_of_lt_of_le (HZ.out k hk) (Nat.le_trans hzz hbA.size)) ⟨some ⟨(w9).heap.size, 0, none⟩, 2, 2, [(opV 4 [97] k6 d6 r6 e6 []), (opV 1 [97] k7 d7 r7 e7 [])], false, true⟩ hx (Nat.le_of_ble_eq_true rfl) (by intro o ho; simp at ho; rcases ho with rfl | rfl <;> exact Nat.le_of_ble_eq_true rfl) Xt27 (by rw [HJ.out]; exact (may3 ..))
 rw [HMP.out] at key
 try simp only [World.size_alloc] at key
 refine key.mono ?_; clear key; rintro r D3 ⟨m3, a3, c3, rs3, rfl, hmd, hsame, hPn, hoff, hlen, hans, hrok, hrst⟩
 have hSM : ∀ k, yK_ m2 k -> S k := fun k ⟨x, hx, e⟩ => e ▸ HM.out.hS x hx
 rw [HJ.out, HP.out.1] at hPn hans
 have hPn := hPn.trans (wrt3 ..)
 have hans := hans.trans (ans3 ..)
 have hl3 : rs3.length = 2 := by have := congrArg List.length hans; simpa using this
 rw [hl3]
 have HL3 := hid hl3
 have HR3 := hid (And.intro hans (And.intro hrok hrst))
 replace HR1 := hid (And.intro HR1.out.1 (And.intro HR1.out.2.1 ((HR1.out.2.2.below (za_ HD.out hbA)).off (hoff.mono hSM))))
 replace HR2 := hid (And.intro HR2.out.1 (And.intro HR2.out.2.1 ((HR2.out.2.2.below (za_ HD.out hbA)).off (hoff.mono hSM))))
 replace HB := hid (Off.below (za_ HB.out hbA) hoff (Nat.le_trans HB.out.size hbA.size) (fun k hk => HLO.out k (hSM k hk)))
 replace HZ := hid (fun k (hk : S k) => Nat.lt_of_lt_of_le (HZ.out k hk) (Nat.le_trans hzz (Nat.le_trans hbA.size hoff.size)))
 replace HP := hid (And.intro hPn (hlen 32 (fun x hx => HP.out.2 x hx)))
 replace HJ := hid (hsame.j.trans HJ.out)
 replace HMP := hid (hsame.p.trans HMP.out)
 replace HM := hid hmd
 replace HD := hid (Below.refl D3.heap.size D3)
 clear hmd hsame hPn hoff hlen hans hrok hrst hx hbA hzz hSM hl3 HST
 go_wp2_with fail
 obtain ⟨z, hz⟩ : ∃ z, m3.tabs = [z] := List.length_eq_one_iff.1 (by rw [HM.out.len, HJ.out]; rfl)
 have hz0 : m3.tabs[0]? = some z := by rw [hz]; rfl
 have hzP : x6_ z.2 = [([97], [[120], [121]]), ([98], [[120], [119]])] := by have h := HP.out.1; unfold Md.P at h; rw [hz] at h; simpa using h
 have hbw := bl1 (D3) (.cells #[.int .u8 97] 5 (1, 2))
 have key := mget_law (HM.out.below (za_ HD.out hbw)) 0 z hz0 (some ⟨(D3).heap.size, 0, none⟩) 1 1 [97] rfl Xt4 (je_ rfl) (QG_ [97] (World.alloc_heap_new (D3) (.cells #[.int .u8 97] 5 (1, 2))) rfl)
 have hg : (yc_ z.2 [97]).map RV.P = some [[120], [121]] := by rw [← tabP_get, hzP]; rfl
 obtain ⟨u, hu, hup⟩ : ∃ u, yc_ z.2 [97] = some u /\ u.P = [[120], [121]] := by
  cases hg2 : yc_ z.2 [97] with
  | none => rw [hg2] at hg; cases hg
  | some u => rw [hg2] at hg; exact ⟨u, rfl, by simpa using hg⟩
 rw [hu, HMP.out] at key
 refine key.mono ?_; clear key; rintro r wg ⟨⟨gv, rfl, hgv⟩, hbg⟩
 simp only [Option.map_some, Option.isSome_some, Option.getD_some] at hgv ⊢
 obtain ⟨ga, gc, R9, rfl, hgR, hgl⟩ := cpr_out hgv (show u.R.map P1.bs = [[120], [121]] from hup) rfl
 have HGV := hid (And.intro hgR hgl)
 have hul : u.R.length = 2 := by have h := congrArg List.length hup; unfold RV.P at h; rw [List.length_map] at h; exact h
 rw [hul]
 have HU := hid hbg
 replace HB := hid (za_ HB.out (za_ hbw hbg : Below (D3).heap.size (D3) wg))
 replace HD := hid (za_ HD.out (za_ hbw hbg : Below (D3).heap.size (D3) wg))
 clear hul hgv hbg hbw hg hu hup hz hz0 hzP hgR hgl HU
 go_wp2_with fail
 have HG := hid (Below.refl wg.heap.size wg)
 replace HST := hid (show ∀ o ∈ ([] : List zj_), zs_ S wg fun W => zy_ W o from fun o ho => nomatch ho)
 have hq := yn_ 2 [99] _ rfl (je_ rfl) Xt4 (some ⟨(wg).heap.size, 0, none⟩) 1 1 [[122]] rfl Xt4 (rowd rfl) ((wg).alloc (.cells #[.string { data := #[122] }] 9)) (xy_ _ (zg_.new _ #[.string { data := #[122] }] 9) rfl)
 have hm0 : Below (wg).heap.size (wg) ((wg).alloc (.cells #[.string { data := #[122] }] 9)) := bl1 _ _
 refine hq.mono ?_; clear hq; rintro r w10 ⟨k8, d8, r8, e8, R8, rfl, hb, hR, hc⟩
 obtain ⟨p8, q8, rfl⟩ := one_row hR
 have hb := za_ hm0 hb
 have hzz := HD.out.size
 have hzy := hm0.size
 have hc' : zs_ S w10 fun W => zy_ W (opV 2 [99] k8 d8 r8 e8 [b1 p8 q8 122]) := hc S (fun q hq => Nat.lt_of_lt_of_le (HZ.out q hq) (Nat.le_trans hzz hzy))
 replace HST := hid (z4_ HST.out hb hc')
 clear hc hc' hR hm0 hzz hzy
 replace HB := hid (za_ HB.out (hb : Below (wg).heap.size (wg) w10))
 replace HD := hid (za_ HD.out (hb : Below (wg).heap.size (wg) w10))
 replace HG := hid (za_ HG.out (hb : Below (wg).heap.size (wg) w10))
 clear hb
 go_wp2_with fail
 have hq := yn_ 4 [99] _ rfl (je_ rfl) Xt4 none 0 0 [] rfl Xt4 (rowd rfl) (w10) (qI_ _ _)
 have hm0 : Below (w10).heap.size (w10) (w10) := Below.refl _ _
 refine hq.mono ?_; clear hq; rintro r w11 ⟨k9, d9, r9, e9, R9, rfl, hb, hR, hc⟩
 obtain rfl := jt_ hR
 have hb := za_ hm0 hb
 have hzz := HD.out.size
 have hzy := hm0.size
 have hc' : zs_ S w11 fun W => zy_ W (opV 4 [99] k9 d9 r9 e9 []) := hc S (fun q hq => Nat.lt_of_lt_of_le (HZ.out q hq) (Nat.le_trans hzz hzy))
 replace HST := hid (z4_ HST.out hb hc')
 clear hc hc' hR hm0 hzz hzy
 replace HB := hid (za_ HB.out (hb : Below (w10).heap.size (w10) w11))
 replace HD := hid (za_ HD.out (hb : Below (w10).heap.size (w10) w11))
 replace HG := hid (za_ HG.out (hb : Below (w10).heap.size (w10) w11))
 clear hb
 go_wp2_with fail
 have hq := yn_ 3 [97] _ rfl (je_ rfl) Xt4 (some ⟨(w11).heap.size, 0, none⟩) 1 1 [[113]] rfl Xt4 (rowd rfl) ((w11).alloc (.cells #[.string { data := #[113] }] 9)) (xy_ _ (zg_.new _ #[.string { data := #[113] }] 9) rfl)
 have hm0 : Below (w11).heap.size (w11) ((w11).alloc (.cells #[.string { data := #[113] }] 9)) := bl1 _ _
 refine hq.mono ?_; clear hq; rintro r w12 ⟨k10, d10, r10, e10, R10, rfl, hb, hR, hc⟩
 obtain ⟨p10, q10, rfl⟩ := one_row hR
 have hb := za_ hm0 hb
 have hzz := HD.out.size
 have hzy := hm0.size
 have hc' : zs_ S w12 fun W => zy_ W (opV 3 [97] k10 d10 r10 e10 [b1 p10 q10 113]) := hc S (fun q hq => Nat.lt_of_lt_of_le (HZ.out q hq) (Nat.le_trans hzz hzy))
 replace HST := hid (z4_ HST.out hb hc')
 clear hc hc' hR hm0 hzz hzy
 replace HB := hid (za_ HB.out (hb : Below (w11).heap.size (w11) w12))
 replace HD := hid (za_ HD.out (hb : Below (w11).heap.size (w11) w12))
 replace HG := hid (za_ HG.out (hb : Below (w11).heap.size (w11) w12))
 clear hb
 go_wp2_with fail
 have hzz := HD.out.size
 have hx : zs_ S ((w12).alloc (.cells (cellsOf ocl [(opV 2 [99] k8 d8 r8 e8 [b1 p8 q8 122]), (opV 4 [99] k9 d9 r9 e9 []), (opV 3 [97] k10 d10 r10 e10 [b1 p10 q10 113])]).toArray 74)) fun W => zR_ W ⟨some ⟨(w12).heap.size, 0, none⟩, 3, 3, [(opV 2 [99] k8 d8 r8 e8 [b1 p8 q8 122]), (opV 4 [99] k9 d9 r9 e9 []), (opV 3 [97] k10 d10 r10 e10 [b1 p10 q10 113])], false, false⟩ := fun W' o => ⟨jT_ [(opV 2 [99] k8 d8 r8 e8 [b1 p8 q8 122]), (opV 4 [99] k9 d9 r9 e9 []), (opV 3 [97] k10 d10 r10 e10 [b1 p10 q10 113])] rfl (fun k hk => Nat.lt_of_lt_of_le (HZ.out k hk) hzz) HST.out W' o, rfl⟩
 have hbA := bl1 (w12) (.cells (cellsOf ocl [(opV 2 [99] k8 d8 r8 e8 [b1 p8 q8 122]), (opV 4 [99] k9 d9 r9 e9 []), (opV 3 [97] k10 d10 r10 e10 [b1 p10 q10 113])]).toArray 74)
 have key := writes_yes (HM.out.below (za_ HD.out hbA)) (fun k hk => Nat.lt_of_lt_of_le (HZ.out k hk) (Nat.le_trans hzz hbA.size)) ⟨some ⟨(w12).heap.size, 0, none⟩, 3, 3, [(opV 2 [99] k8 d8 r8 e8 [b1 p8 q8 122]), (opV 4 [99] k9 d9 r9 e9 []), (opV 3 [97] k10 d10 r10 e10 [b1 p10 q10 113])], false, false⟩ hx (Nat.le_of_ble_eq_true rfl) Xt36 Xt27 (by rw [HJ.out]; exact (may4 ..))
 rw [HMP.out, HJ.out, HP.out.1, wrt4] at key
 try simp only [World.size_alloc] at key
 refine key.mono ?_; clear key; rintro r ww ⟨wa, wc, E9, rfl, hbw, hwp, _, hwo, hws⟩
 obtain ⟨y, rfl⟩ : ∃ y, E9 = [y] := List.length_eq_one_iff.1 (by have := hwp.length_eq; simpa using this)
 simp only [List.length_cons, List.length_nil, Nat.zero_add] at hws ⊢
 have hyP : y.P = (0, [99], []) := by have := hwp.mem_iff.1 (List.mem_singleton.2 rfl : y.P ∈ [y.P]); simpa using this
 have HW := hid (And.intro hyP (And.intro hwo hws))
 replace HB := hid (za_ HB.out (za_ hbA hbw : Below (w12).heap.size (w12) ww))
 replace HD := hid (za_ HD.out (za_ hbA hbw : Below (w12).heap.size (w12) ww))
 replace HG := hid (za_ HG.out (za_ hbA hbw : Below (w12).heap.size (w12) ww))
 clear hbw hwp hwo hws hbA hx hzz HST hyP
 go_wp2_with fail
 have HQ := hid (Below.refl ww.heap.size ww)
 replace HST := hid (show ∀ o ∈ ([] : List zj_), zs_ S ww fun W => zy_ W o from fun o ho => nomatch ho)
 have hbw := bl1 ww (.cells #[.int .u8 97] 5 (1, 2))
 replace HST := hid (show ∀ o ∈ ([] : List zj_), zs_ S ((ww).alloc (.cells #[.int .u8 97] 5 (1, 2))) fun W => zy_ W o from fun o ho => nomatch ho)
 replace HB := hid (za_ HB.out (hbw : Below (ww).heap.size (ww) ((ww).alloc (.cells #[.int .u8 97] 5 (1, 2)))))
 replace HD := hid (za_ HD.out (hbw : Below (ww).heap.size (ww) ((ww).alloc (.cells #[.int .u8 97] 5 (1, 2)))))
 replace HG := hid (za_ HG.out (hbw : Below (ww).heap.size (ww) ((ww).alloc (.cells #[.int .u8 97] 5 (1, 2)))))
 replace HQ := hid (za_ HQ.out (hbw : Below (ww).heap.size (ww) ((ww).alloc (.cells #[.int .u8 97] 5 (1, 2)))))
 have HK1 := hid (Below.refl (((ww).alloc (.cells #[.int .u8 97] 5 (1, 2)))).heap.size (((ww).alloc (.cells #[.int .u8 97] 5 (1, 2)))))
 clear hbw
 have hq := yn_ 0 [] _ rfl (je_ rfl) Xt4 (some ⟨(((ww).alloc (.cells #[.int .u8 97] 5 (1, 2)))).heap.size, 0, none⟩) 2 2 [[120], [121]] rfl Xt4 (rowd rfl) ((((ww).alloc (.cells #[.int .u8 97] 5 (1, 2)))).alloc (.cells #[.string { data := #[120] }, .string { data := #[121] }] 9)) (xy_ _ (zg_.new _ #[.string { data := #[120] }, .string { data := #[121] }] 9) rfl)
 have hm0 : Below (((ww).alloc (.cells #[.int .u8 97] 5 (1, 2)))).heap.size (((ww).alloc (.cells #[.int .u8 97] 5 (1, 2)))) ((((ww).alloc (.cells #[.int .u8 97] 5 (1, 2)))).alloc (.cells #[.string { data := #[120] }, .string { data := #[121] }] 9)) := bl1 _ _
 simp only [World.size_alloc] at hq
 refine hq.mono ?_; clear hq; rintro r w13 ⟨k11, d11, r11, e11, R11, rfl, hb, hR, hc⟩
 obtain ⟨p11, q11, s11, t11, rfl⟩ := qt_ hR
 have hb := za_ hm0 hb
 have hzz := HD.out.size
 have hzy := hm0.size
 have hc' : zs_ S w13 fun W => zy_ W (opV 0 [] k11 d11 r11 e11 [b1 p11 q11 120, b1 s11 t11 121]) := hc S (fun q hq => Nat.lt_of_lt_of_le (HZ.out q hq) (Nat.le_trans hzz hzy))
 replace HST := hid (z4_ HST.out hb hc')
 clear hc hc' hR hm0 hzz hzy
 replace HB := hid (za_ HB.out (hb : Below (((ww).alloc (.cells #[.int .u8 97] 5 (1, 2)))).heap.size (((ww).alloc (.cells #[.int .u8 97] 5 (1, 2)))) w13))
 replace HD := hid (za_ HD.out (hb : Below (((ww).alloc (.cells #[.int .u8 97] 5 (1, 2)))).heap.size (((ww).alloc (.cells #[.int .u8 97] 5 (1, 2)))) w13))
 replace HG := hid (za_ HG.out (hb : Below (((ww).alloc (.cells #[.int .u8 97] 5 (1, 2)))).heap.size (((ww).alloc (.cells #[.int .u8 97] 5 (1, 2)))) w13))
 replace HQ := hid (za_ HQ.out (hb : Below (((ww).alloc (.cells #[.int .u8 97] 5 (1, 2)))).heap.size (((ww).alloc (.cells #[.int .u8 97] 5 (1, 2)))) w13))
 replace HK1 := hid (za_ HK1.out (hb : Below (((ww).alloc (.cells #[.int .u8 97] 5 (1, 2)))).heap.size (((ww).alloc (.cells #[.int .u8 97] 5 (1, 2)))) w13))
 clear hb
 go_wp2_with fail
 have hbw := bl1 w13 (.cells #[.int .u8 98] 5 (1, 2))
 replace HST := hid (fun o (ho : o ∈ [(opV 0 [] k11 d11 r11 e11 [b1 p11 q11 120, b1 s11 t11 121])]) => (HST.out o ho).below hbw)
 replace HB := hid (za_ HB.out (hbw : Below (w13).heap.size (w13) ((w13).alloc (.cells #[.int .u8 98] 5 (1, 2)))))
 replace HD := hid (za_ HD.out (hbw : Below (w13).heap.size (w13) ((w13).alloc (.cells #[.int .u8 98] 5 (1, 2)))))
 replace HG := hid (za_ HG.out (hbw : Below (w13).heap.size (w13) ((w13).alloc (.cells #[.int .u8 98] 5 (1, 2)))))
 replace HQ := hid (za_ HQ.out (hbw : Below (w13).heap.size (w13) ((w13).alloc (.cells #[.int .u8 98] 5 (1, 2)))))
 replace HK1 := hid (za_ HK1.out (hbw : Below (w13).heap.size (w13) ((w13).alloc (.cells #[.int .u8 98] 5 (1, 2)))))
 have HK2 := hid (Below.refl (((w13).alloc (.cells #[.int .u8 98] 5 (1, 2)))).heap.size (((w13).alloc (.cells #[.int .u8 98] 5 (1, 2)))))
 clear hbw
 try simp only [World.size_alloc] at HST
 have hq := yn_ 0 [] _ rfl (je_ rfl) Xt4 (some ⟨(((w13).alloc (.cells #[.int .u8 98] 5 (1, 2)))).heap.size, 0, none⟩) 2 2 [[120], [119]] rfl Xt4 (rowd rfl) ((((w13).alloc (.cells #[.int .u8 98] 5 (1, 2)))).alloc (.cells #[.string { data := #[120] }, .string { data := #[119] }] 9)) (xy_ _ (zg_.new _ #[.string { data := #[120] }, .string { data := #[119] }] 9) rfl)
 have hm0 : Below (((w13).alloc (.cells #[.int .u8 98] 5 (1, 2)))).heap.size (((w13).alloc (.cells #[.int .u8 98] 5 (1, 2)))) ((((w13).alloc (.cells #[.int .u8 98] 5 (1, 2)))).alloc (.cells #[.string { data := #[120] }, .string { data := #[119] }] 9)) := bl1 _ _
 simp only [World.size_alloc] at hq
 refine hq.mono ?_; clear hq; rintro r w14 ⟨k12, d12, r12, e12, R12, rfl, hb, hR, hc⟩
 obtain ⟨p12, q12, s12, t12, rfl⟩ := qt_ hR
 have hb := za_ hm0 hb
 have hzz := HD.out.size
 have hzy := hm0.size
 have hc' : zs_ S w14 fun W => zy_ W (opV 0 [] k12 d12 r12 e12 [b1 p12 q12 120, b1 s12 t12 119]) := hc S (fun q hq => Nat.lt_of_lt_of_le (HZ.out q hq) (Nat.le_trans hzz hzy))
 replace HST := hid (z4_ HST.out hb hc')
 clear hc hc' hR hm0 hzz hzy
 replace HB := hid (za_ HB.out (hb : Below (((w13).alloc (.cells #[.int .u8 98] 5 (1, 2)))).heap.size (((w13).alloc (.cells #[.int .u8 98] 5 (1, 2)))) w14))
 replace HD := hid (za_ HD.out (hb : Below (((w13).alloc (.cells #[.int .u8 98] 5 (1, 2)))).heap.size (((w13).alloc (.cells #[.int .u8 98] 5 (1, 2)))) w14))
 replace HG := hid (za_ HG.out (hb : Below (((w13).alloc (.cells #[.int .u8 98] 5 (1, 2)))).heap.size (((w13).alloc (.cells #[.int .u8 98] 5 (1, 2)))) w14))
 replace HQ := hid (za_ HQ.out (hb : Below (((w13).alloc (.cells #[.int .u8 98] 5 (1, 2)))).heap.size (((w13).alloc (.cells #[.int .u8 98] 5 (1, 2)))) w14))
 replace HK1 := hid (za_ HK1.out (hb : Below (((w13).alloc (.cells #[.int .u8 98] 5 (1, 2)))).heap.size (((w13).alloc (.cells #[.int .u8 98] 5 (1, 2)))) w14))
 replace HK2 := hid (za_ HK2.out (hb : Below (((w13).alloc (.cells #[.int .u8 98] 5 (1, 2)))).heap.size (((w13).alloc (.cells #[.int .u8 98] 5 (1, 2)))) w14))
 clear hb
 go_wp2_with fail
 have hA := two_below w14 (.cells #[.slice (some ⟨ww.heap.size, 0, none⟩) 1 1, .slice r11 2 e11] 78) (.cells #[.slice (some ⟨w13.heap.size, 0, none⟩) 1 1, .slice r12 2 e12] 78)
 have hbx : zg_ ((w14.alloc (.cells #[.slice (some ⟨ww.heap.size, 0, none⟩) 1 1, .slice r11 2 e11] 78)).alloc (.cells #[.slice (some ⟨w13.heap.size, 0, none⟩) 1 1, .slice r12 2 e12] 78)) w14.heap.size #[.slice (some ⟨ww.heap.size, 0, none⟩) 1 1, .slice r11 2 e11] 78 := (zg_.new w14 #[.slice (some ⟨ww.heap.size, 0, none⟩) 1 1, .slice r11 2 e11] 78).below (bl1 _ _)
 have hby : zg_ ((w14.alloc (.cells #[.slice (some ⟨ww.heap.size, 0, none⟩) 1 1, .slice r11 2 e11] 78)).alloc (.cells #[.slice (some ⟨w13.heap.size, 0, none⟩) 1 1, .slice r12 2 e12] 78)) (w14.heap.size + 1) #[.slice (some ⟨w13.heap.size, 0, none⟩) 1 1, .slice r12 2 e12] 78 := by have h := zg_.new (w14.alloc (.cells #[.slice (some ⟨ww.heap.size, 0, none⟩) 1 1, .slice r11 2 e11] 78)) #[.slice (some ⟨w13.heap.size, 0, none⟩) 1 1, .slice r12 2 e12] 78; rwa [World.size_alloc] at h
 have hk1 : Ls .u8 (ww.alloc (.cells #[.int .u8 97] 5 (1, 2))) (some ⟨ww.heap.size, 0, none⟩) 1 [97] := QG_ [97] (World.alloc_heap_new ww (.cells #[.int .u8 97] 5 (1, 2))) rfl
 have hk2 : Ls .u8 (w13.alloc (.cells #[.int .u8 98] 5 (1, 2))) (some ⟨w13.heap.size, 0, none⟩) 1 [98] := QG_ [98] (World.alloc_heap_new w13 (.cells #[.int .u8 98] 5 (1, 2))) rfl
 have h11 : RdR w14 r11 [b1 p11 q11 120, b1 s11 t11 121] := ((HST.out _ (by simp : (opV 0 [] k11 d11 r11 e11 [b1 p11 q11 120, b1 s11 t11 121]) ∈ [(opV 0 [] k11 d11 r11 e11 [b1 p11 q11 120, b1 s11 t11 121])] ++ [(opV 0 [] k12 d12 r12 e12 [b1 p12 q12 120, b1 s12 t12 119])])).now).rs
 have h12 : RdR w14 r12 [b1 p12 q12 120, b1 s12 t12 119] := ((HST.out _ (by simp : (opV 0 [] k12 d12 r12 e12 [b1 p12 q12 120, b1 s12 t12 119]) ∈ [(opV 0 [] k11 d11 r11 e11 [b1 p11 q11 120, b1 s11 t11 121])] ++ [(opV 0 [] k12 d12 r12 e12 [b1 p12 q12 120, b1 s12 t12 119])])).now).rs
 have HF := hid (And.intro ((HR1.out.2.2.below HD.out).now.below hA) (And.intro ((HR2.out.2.2.below HD.out).now.below hA) (And.intro ((HR3.out.2.2.below HD.out).now.below hA) (And.intro ((HW.out.2.2.below HQ.out).now.below hA) (And.intro ((HGV.out.2.below HG.out).below hA) (And.intro ((hk1.below HK1.out).below hA) (And.intro (h11.below hA) (And.intro ((hk2.below HK2.out).below hA) (h12.below hA)))))))))
 have HBX := hid (za_ HB.out hA)
 obtain ⟨WX, hWX⟩ := gtx ((w14.alloc (.cells #[.slice (some ⟨ww.heap.size, 0, none⟩) 1 1, .slice r11 2 e11] 78)).alloc (.cells #[.slice (some ⟨w13.heap.size, 0, none⟩) 1 1, .slice r12 2 e12] 78))
 rw [hWX] at hbx hby HF HBX ⊢
 clear hWX hA hk1 hk2 h11 h12 HST HB HD HG HQ HK1 HK2
 have HBB := hid (And.intro hbx hby)
 obtain ⟨bx, hbxe⟩ := gtx (w14.heap.size)
 obtain ⟨kx, hkx⟩ := gtx (ww.heap.size)
 obtain ⟨ky, hky⟩ := gtx (w13.heap.size)
 rw [hbxe, hkx] at hbx; rw [hbxe, hky] at hby; rw [hbxe, hkx, hky] at HBB ⊢
 rw [hkx, hky] at HF
 clear hbxe hkx hky
 have cx0 := hbx.cell 0; have cx1 := hbx.cell 1; have cy0 := hby.cell 0; have cy1 := hby.cell 1
 simp only [gtA, gtB, gtC] at cx0 cx1 cy0 cy1
 clear hbx hby
 refine (zI_ 0 _).mono ?_; rintro r w0 ⟨rfl, hw0⟩; subst hw0
 go_wp2_with fail
 refine (zI_ 0 _).mono ?_; rintro r w0 ⟨rfl, hw0⟩; subst hw0
 go_wp2_with fail
 refine (zI_ 0 _).mono ?_; rintro r w0 ⟨rfl, hw0⟩; subst hw0
 go_wp2_with fail
 refine (zI_ 0 _).mono ?_; rintro r w0 ⟨rfl, hw0⟩; subst hw0
 go_wp2_with fail
 refine (zI_ 0 _).mono ?_; rintro r w0 ⟨rfl, hw0⟩; subst hw0
 go_wp2_with fail
 have HX := hid (Below.refl WX.heap.size WX)
 have ox : Qd_ (⟨some ⟨kx, 0, none⟩, 1, [97], r11, e11, [b1 p11 q11 120, b1 s11 t11 121]⟩ : PrV) := ⟨je_ rfl, Xt29, Nat.le_of_ble_eq_true rfl⟩
 have oy : Qd_ (⟨some ⟨ky, 0, none⟩, 1, [98], r12, e12, [b1 p12 q12 120, b1 s12 t12 119]⟩ : PrV) := ⟨je_ rfl, Xt29, Nat.le_of_ble_eq_true rfl⟩
 have HO := hid (And.intro ox oy)
 clear ox oy
 have hz0 := bl1 (WX) (.cells #[.slice (some ⟨kx, 0, none⟩) 1 1, .slice r11 2 e11] 78)
 have hzl := bl1 ((WX).alloc (.cells #[.slice (some ⟨kx, 0, none⟩) 1 1, .slice r11 2 e11] 78)) (.cells #[.int .i64 0, .slice none 0 0, .int .i64 7, .slice none 0 0, .int .i64 0, .slice (some ⟨WX.heap.size, 0, none⟩) 1 1, .int .i64 6, .slice none 0 0] 81)
 have hcw := (za_ hz0 hzl)
 have hXX := za_ HX.out hcw
 have hp0 : zn_ (((WX).alloc (.cells #[.slice (some ⟨kx, 0, none⟩) 1 1, .slice r11 2 e11] 78)).alloc (.cells #[.int .i64 0, .slice none 0 0, .int .i64 7, .slice none 0 0, .int .i64 0, .slice (some ⟨WX.heap.size, 0, none⟩) 1 1, .int .i64 6, .slice none 0 0] 81)) (some ⟨WX.heap.size, 0, none⟩) [(⟨some ⟨kx, 0, none⟩, 1, [97], r11, e11, [b1 p11 q11 120, b1 s11 t11 121]⟩ : PrV)] := by have h := jP_ (W := ((WX).alloc (.cells #[.slice (some ⟨kx, 0, none⟩) 1 1, .slice r11 2 e11] 78)).alloc (.cells #[.int .i64 0, .slice none 0 0, .int .i64 7, .slice none 0 0, .int .i64 0, .slice (some ⟨WX.heap.size, 0, none⟩) 1 1, .int .i64 6, .slice none 0 0] 81)) (B := (WX).heap.size) [(⟨some ⟨kx, 0, none⟩, 1, [97], r11, e11, [b1 p11 q11 120, b1 s11 t11 121]⟩ : PrV)] ((zg_.new (WX) #[.slice (some ⟨kx, 0, none⟩) 1 1, .slice r11 2 e11] 78).below hzl) rfl Xt18; (try simp only [World.size_alloc] at h); exact h
 have hm : jE_ (((WX).alloc (.cells #[.slice (some ⟨kx, 0, none⟩) 1 1, .slice r11 2 e11] 78)).alloc (.cells #[.int .i64 0, .slice none 0 0, .int .i64 7, .slice none 0 0, .int .i64 0, .slice (some ⟨WX.heap.size, 0, none⟩) 1 1, .int .i64 6, .slice none 0 0] 81)) (some ⟨((WX).alloc (.cells #[.slice (some ⟨kx, 0, none⟩) 1 1, .slice r11 2 e11] 78)).heap.size, 0, none⟩) ([⟨0, none, 0, []⟩, ⟨7, none, 0, []⟩, ⟨0, some ⟨WX.heap.size, 0, none⟩, 1, [(⟨some ⟨kx, 0, none⟩, 1, [97], r11, e11, [b1 p11 q11 120, b1 s11 t11 121]⟩ : PrV)]⟩, ⟨6, none, 0, []⟩] : List xu_) := res_at _ (zg_.new ((WX).alloc (.cells #[.slice (some ⟨kx, 0, none⟩) 1 1, .slice r11 2 e11] 78)) #[.int .i64 0, .slice none 0 0, .int .i64 7, .slice none 0 0, .int .i64 0, .slice (some ⟨WX.heap.size, 0, none⟩) 1 1, .int .i64 6, .slice none 0 0] 81) rfl (by intro q hq; simp only [List.mem_cons, List.not_mem_nil, or_false] at hq; rcases hq with rfl | rfl | rfl | rfl; exact yj_ _ _; exact yj_ _ _; exact hp0; exact yj_ _ _)
 have hok : ∀ q ∈ ([⟨0, none, 0, []⟩, ⟨7, none, 0, []⟩, ⟨0, some ⟨WX.heap.size, 0, none⟩, 1, [(⟨some ⟨kx, 0, none⟩, 1, [97], r11, e11, [b1 p11 q11 120, b1 s11 t11 121]⟩ : PrV)]⟩, ⟨6, none, 0, []⟩] : List xu_), ym_ q := by intro q hq; simp only [List.mem_cons, List.not_mem_nil, or_false] at hq; rcases hq with rfl | rfl | rfl | rfl; exact ⟨Nat.zero_le _, fun p hp => nomatch hp⟩; exact ⟨Nat.zero_le _, fun p hp => nomatch hp⟩; exact ⟨Nat.le_of_ble_eq_true rfl, by intro p hp; simp at hp; rcases hp with rfl; exact HO.out.1⟩; exact ⟨Nat.zero_le _, fun p hp => nomatch hp⟩
 have key := y5_ a1 _ rs1 ([⟨0, none, 0, []⟩, ⟨7, none, 0, []⟩, ⟨0, some ⟨WX.heap.size, 0, none⟩, 1, [(⟨some ⟨kx, 0, none⟩, 1, [97], r11, e11, [b1 p11 q11 120, b1 s11 t11 121]⟩ : PrV)]⟩, ⟨6, none, 0, []⟩] : List xu_) 4 c1 4 HL1.out rfl Xt4 HR1.out.2.1 hok (HR1.out.1.trans rfl) (((WX).alloc (.cells #[.slice (some ⟨kx, 0, none⟩) 1 1, .slice r11 2 e11] 78)).alloc (.cells #[.int .i64 0, .slice none 0 0, .int .i64 7, .slice none 0 0, .int .i64 0, .slice (some ⟨WX.heap.size, 0, none⟩) 1 1, .int .i64 6, .slice none 0 0] 81)) (HF.out.1.below hXX) hm
 try simp only [World.size_alloc] at key
 refine key.mono ?_; clear key; rintro r v1 ⟨rfl, hb⟩
 have hb : Below (((WX).alloc (.cells #[.slice (some ⟨kx, 0, none⟩) 1 1, .slice r11 2 e11] 78)).alloc (.cells #[.int .i64 0, .slice none 0 0, .int .i64 7, .slice none 0 0, .int .i64 0, .slice (some ⟨WX.heap.size, 0, none⟩) 1 1, .int .i64 6, .slice none 0 0] 81)).heap.size (((WX).alloc (.cells #[.slice (some ⟨kx, 0, none⟩) 1 1, .slice r11 2 e11] 78)).alloc (.cells #[.int .i64 0, .slice none 0 0, .int .i64 7, .slice none 0 0, .int .i64 0, .slice (some ⟨WX.heap.size, 0, none⟩) 1 1, .int .i64 6, .slice none 0 0] 81)) v1 := hb
 replace HX := hid (za_ hXX hb)
 have HNv1 := hid (za_ hcw hb)
 replace cx0 := tcb (za_ hcw hb) cx0; replace cx1 := tcb (za_ hcw hb) cx1; replace cy0 := tcb (za_ hcw hb) cy0; replace cy1 := tcb (za_ hcw hb) cy1
 have dx0 := ((bl1 v1 (.cells #[.slice (some ⟨ky, 0, none⟩) 1 1, .slice r12 2 e12, .slice (some ⟨kx, 0, none⟩) 1 1, .slice r11 2 e11] 78)).cell (World.block_lt_of_cell? _ _ cx0)).trans cx0; have dx1 := ((bl1 v1 (.cells #[.slice (some ⟨ky, 0, none⟩) 1 1, .slice r12 2 e12, .slice (some ⟨kx, 0, none⟩) 1 1, .slice r11 2 e11] 78)).cell (World.block_lt_of_cell? _ _ cx1)).trans cx1
 clear hb hcw hXX hm hok hzl hz0 hp0
 go_wp2_with fail
 have hz0 := bl1 (v1) (.cells #[.slice (some ⟨ky, 0, none⟩) 1 1, .slice r12 2 e12, .slice (some ⟨kx, 0, none⟩) 1 1, .slice r11 2 e11] 78)
 have hz1 := bl1 ((v1).alloc (.cells #[.slice (some ⟨ky, 0, none⟩) 1 1, .slice r12 2 e12, .slice (some ⟨kx, 0, none⟩) 1 1, .slice r11 2 e11] 78)) (.cells #[.slice (some ⟨kx, 0, none⟩) 1 1, .slice r11 2 e11] 78)
 have hzl := bl1 (((v1).alloc (.cells #[.slice (some ⟨ky, 0, none⟩) 1 1, .slice r12 2 e12, .slice (some ⟨kx, 0, none⟩) 1 1, .slice r11 2 e11] 78)).alloc (.cells #[.slice (some ⟨kx, 0, none⟩) 1 1, .slice r11 2 e11] 78)) (.cells #[.int .i64 0, .slice none 0 0, .int .i64 0, .slice (some ⟨v1.heap.size, 0, none⟩) 2 2, .int .i64 0, .slice (some ⟨v1.heap.size + 1, 0, none⟩) 1 1] 81)
 have hcw := (za_ (za_ hz0 hz1) hzl)
 have hXX := za_ HX.out hcw
 have hp0 : zn_ ((((v1).alloc (.cells #[.slice (some ⟨ky, 0, none⟩) 1 1, .slice r12 2 e12, .slice (some ⟨kx, 0, none⟩) 1 1, .slice r11 2 e11] 78)).alloc (.cells #[.slice (some ⟨kx, 0, none⟩) 1 1, .slice r11 2 e11] 78)).alloc (.cells #[.int .i64 0, .slice none 0 0, .int .i64 0, .slice (some ⟨v1.heap.size, 0, none⟩) 2 2, .int .i64 0, .slice (some ⟨v1.heap.size + 1, 0, none⟩) 1 1] 81)) (some ⟨v1.heap.size, 0, none⟩) [(⟨some ⟨ky, 0, none⟩, 1, [98], r12, e12, [b1 p12 q12 120, b1 s12 t12 119]⟩ : PrV), (⟨some ⟨kx, 0, none⟩, 1, [97], r11, e11, [b1 p11 q11 120, b1 s11 t11 121]⟩ : PrV)] := by have h := jP_ (W := (((v1).alloc (.cells #[.slice (some ⟨ky, 0, none⟩) 1 1, .slice r12 2 e12, .slice (some ⟨kx, 0, none⟩) 1 1, .slice r11 2 e11] 78)).alloc (.cells #[.slice (some ⟨kx, 0, none⟩) 1 1, .slice r11 2 e11] 78)).alloc (.cells #[.int .i64 0, .slice none 0 0, .int .i64 0, .slice (some ⟨v1.heap.size, 0, none⟩) 2 2, .int .i64 0, .slice (some ⟨v1.heap.size + 1, 0, none⟩) 1 1] 81)) (B := (v1).heap.size) [(⟨some ⟨ky, 0, none⟩, 1, [98], r12, e12, [b1 p12 q12 120, b1 s12 t12 119]⟩ : PrV), (⟨some ⟨kx, 0, none⟩, 1, [97], r11, e11, [b1 p11 q11 120, b1 s11 t11 121]⟩ : PrV)] ((zg_.new (v1) #[.slice (some ⟨ky, 0, none⟩) 1 1, .slice r12 2 e12, .slice (some ⟨kx, 0, none⟩) 1 1, .slice r11 2 e11] 78).below (za_ hz1 hzl)) rfl (by intro q hq; simp only [List.mem_cons, List.not_mem_nil, or_false] at hq; rcases hq with rfl | rfl; exact ⟨HF.out.2.2.2.2.2.2.2.1.below hXX, HF.out.2.2.2.2.2.2.2.2.below hXX⟩; exact ⟨HF.out.2.2.2.2.2.1.below hXX, HF.out.2.2.2.2.2.2.1.below hXX⟩); (try simp only [World.size_alloc] at h); exact h
 have hp1 : zn_ ((((v1).alloc (.cells #[.slice (some ⟨ky, 0, none⟩) 1 1, .slice r12 2 e12, .slice (some ⟨kx, 0, none⟩) 1 1, .slice r11 2 e11] 78)).alloc (.cells #[.slice (some ⟨kx, 0, none⟩) 1 1, .slice r11 2 e11] 78)).alloc (.cells #[.int .i64 0, .slice none 0 0, .int .i64 0, .slice (some ⟨v1.heap.size, 0, none⟩) 2 2, .int .i64 0, .slice (some ⟨v1.heap.size + 1, 0, none⟩) 1 1] 81)) (some ⟨v1.heap.size + 1, 0, none⟩) [(⟨some ⟨kx, 0, none⟩, 1, [97], r11, e11, [b1 p11 q11 120, b1 s11 t11 121]⟩ : PrV)] := by have h := jP_ (W := (((v1).alloc (.cells #[.slice (some ⟨ky, 0, none⟩) 1 1, .slice r12 2 e12, .slice (some ⟨kx, 0, none⟩) 1 1, .slice r11 2 e11] 78)).alloc (.cells #[.slice (some ⟨kx, 0, none⟩) 1 1, .slice r11 2 e11] 78)).alloc (.cells #[.int .i64 0, .slice none 0 0, .int .i64 0, .slice (some ⟨v1.heap.size, 0, none⟩) 2 2, .int .i64 0, .slice (some ⟨v1.heap.size + 1, 0, none⟩) 1 1] 81)) (B := ((v1).alloc (.cells #[.slice (some ⟨ky, 0, none⟩) 1 1, .slice r12 2 e12, .slice (some ⟨kx, 0, none⟩) 1 1, .slice r11 2 e11] 78)).heap.size) [(⟨some ⟨kx, 0, none⟩, 1, [97], r11, e11, [b1 p11 q11 120, b1 s11 t11 121]⟩ : PrV)] ((zg_.new ((v1).alloc (.cells #[.slice (some ⟨ky, 0, none⟩) 1 1, .slice r12 2 e12, .slice (some ⟨kx, 0, none⟩) 1 1, .slice r11 2 e11] 78)) #[.slice (some ⟨kx, 0, none⟩) 1 1, .slice r11 2 e11] 78).below hzl) rfl Xt18; (try simp only [World.size_alloc] at h); exact h
 have hm : jE_ ((((v1).alloc (.cells #[.slice (some ⟨ky, 0, none⟩) 1 1, .slice r12 2 e12, .slice (some ⟨kx, 0, none⟩) 1 1, .slice r11 2 e11] 78)).alloc (.cells #[.slice (some ⟨kx, 0, none⟩) 1 1, .slice r11 2 e11] 78)).alloc (.cells #[.int .i64 0, .slice none 0 0, .int .i64 0, .slice (some ⟨v1.heap.size, 0, none⟩) 2 2, .int .i64 0, .slice (some ⟨v1.heap.size + 1, 0, none⟩) 1 1] 81)) (some ⟨(((v1).alloc (.cells #[.slice (some ⟨ky, 0, none⟩) 1 1, .slice r12 2 e12, .slice (some ⟨kx, 0, none⟩) 1 1, .slice r11 2 e11] 78)).alloc (.cells #[.slice (some ⟨kx, 0, none⟩) 1 1, .slice r11 2 e11] 78)).heap.size, 0, none⟩) ([⟨0, none, 0, []⟩, ⟨0, some ⟨v1.heap.size, 0, none⟩, 2, [(⟨some ⟨ky, 0, none⟩, 1, [98], r12, e12, [b1 p12 q12 120, b1 s12 t12 119]⟩ : PrV), (⟨some ⟨kx, 0, none⟩, 1, [97], r11, e11, [b1 p11 q11 120, b1 s11 t11 121]⟩ : PrV)]⟩, ⟨0, some ⟨v1.heap.size + 1, 0, none⟩, 1, [(⟨some ⟨kx, 0, none⟩, 1, [97], r11, e11, [b1 p11 q11 120, b1 s11 t11 121]⟩ : PrV)]⟩] : List xu_) := res_at _ (zg_.new (((v1).alloc (.cells #[.slice (some ⟨ky, 0, none⟩) 1 1, .slice r12 2 e12, .slice (some ⟨kx, 0, none⟩) 1 1, .slice r11 2 e11] 78)).alloc (.cells #[.slice (some ⟨kx, 0, none⟩) 1 1, .slice r11 2 e11] 78)) #[.int .i64 0, .slice none 0 0, .int .i64 0, .slice (some ⟨v1.heap.size, 0, none⟩) 2 2, .int .i64 0, .slice (some ⟨v1.heap.size + 1, 0, none⟩) 1 1] 81) rfl (by intro q hq; simp only [List.mem_cons, List.not_mem_nil, or_false] at hq; rcases hq with rfl | rfl | rfl; exact yj_ _ _; exact hp0; exact hp1)
 have hok : ∀ q ∈ ([⟨0, none, 0, []⟩, ⟨0, some ⟨v1.heap.size, 0, none⟩, 2, [(⟨some ⟨ky, 0, none⟩, 1, [98], r12, e12, [b1 p12 q12 120, b1 s12 t12 119]⟩ : PrV), (⟨some ⟨kx, 0, none⟩, 1, [97], r11, e11, [b1 p11 q11 120, b1 s11 t11 121]⟩ : PrV)]⟩, ⟨0, some ⟨v1.heap.size + 1, 0, none⟩, 1, [(⟨some ⟨kx, 0, none⟩, 1, [97], r11, e11, [b1 p11 q11 120, b1 s11 t11 121]⟩ : PrV)]⟩] : List xu_), ym_ q := by intro q hq; simp only [List.mem_cons, List.not_mem_nil, or_false] at hq; rcases hq with rfl | rfl | rfl; exact ⟨Nat.zero_le _, fun p hp => nomatch hp⟩; exact ⟨Nat.le_of_ble_eq_true rfl, by intro p hp; simp at hp; rcases hp with rfl | rfl; exact HO.out.2; exact HO.out.1⟩; exact ⟨Nat.le_of_ble_eq_true rfl, by intro p hp; simp at hp; rcases hp with rfl; exact HO.out.1⟩
 have key := y5_ a2 _ rs2 ([⟨0, none, 0, []⟩, ⟨0, some ⟨v1.heap.size, 0, none⟩, 2, [(⟨some ⟨ky, 0, none⟩, 1, [98], r12, e12, [b1 p12 q12 120, b1 s12 t12 119]⟩ : PrV), (⟨some ⟨kx, 0, none⟩, 1, [97], r11, e11, [b1 p11 q11 120, b1 s11 t11 121]⟩ : PrV)]⟩, ⟨0, some ⟨v1.heap.size + 1, 0, none⟩, 1, [(⟨some ⟨kx, 0, none⟩, 1, [97], r11, e11, [b1 p11 q11 120, b1 s11 t11 121]⟩ : PrV)]⟩] : List xu_) 3 c2 3 HL2.out rfl Xt4 HR2.out.2.1 hok (HR2.out.1.trans rfl) ((((v1).alloc (.cells #[.slice (some ⟨ky, 0, none⟩) 1 1, .slice r12 2 e12, .slice (some ⟨kx, 0, none⟩) 1 1, .slice r11 2 e11] 78)).alloc (.cells #[.slice (some ⟨kx, 0, none⟩) 1 1, .slice r11 2 e11] 78)).alloc (.cells #[.int .i64 0, .slice none 0 0, .int .i64 0, .slice (some ⟨v1.heap.size, 0, none⟩) 2 2, .int .i64 0, .slice (some ⟨v1.heap.size + 1, 0, none⟩) 1 1] 81)) (HF.out.2.1.below hXX) hm
 try simp only [World.size_alloc] at key
 refine key.mono ?_; clear key; rintro r v2 ⟨rfl, hb⟩
 have hb : Below ((((v1).alloc (.cells #[.slice (some ⟨ky, 0, none⟩) 1 1, .slice r12 2 e12, .slice (some ⟨kx, 0, none⟩) 1 1, .slice r11 2 e11] 78)).alloc (.cells #[.slice (some ⟨kx, 0, none⟩) 1 1, .slice r11 2 e11] 78)).alloc (.cells #[.int .i64 0, .slice none 0 0, .int .i64 0, .slice (some ⟨v1.heap.size, 0, none⟩) 2 2, .int .i64 0, .slice (some ⟨v1.heap.size + 1, 0, none⟩) 1 1] 81)).heap.size ((((v1).alloc (.cells #[.slice (some ⟨ky, 0, none⟩) 1 1, .slice r12 2 e12, .slice (some ⟨kx, 0, none⟩) 1 1, .slice r11 2 e11] 78)).alloc (.cells #[.slice (some ⟨kx, 0, none⟩) 1 1, .slice r11 2 e11] 78)).alloc (.cells #[.int .i64 0, .slice none 0 0, .int .i64 0, .slice (some ⟨v1.heap.size, 0, none⟩) 2 2, .int .i64 0, .slice (some ⟨v1.heap.size + 1, 0, none⟩) 1 1] 81)) v2 := hb
 replace HX := hid (za_ hXX hb)
 have HNv2 := hid (za_ hcw hb)
 replace cx0 := tcb (za_ hcw hb) cx0; replace cx1 := tcb (za_ hcw hb) cx1; replace cy0 := tcb (za_ hcw hb) cy0; replace cy1 := tcb (za_ hcw hb) cy1
 clear hb hcw hXX hm hok hzl hz0 hp0 hz1 hp1
 go_wp2_with fail
 have hzl := bl1 (v2) (.cells #[.int .i64 0, .slice none 0 0, .int .i64 6, .slice none 0 0] 81)
 have hcw := hzl
 have hXX := za_ HX.out hcw
 have hm : jE_ ((v2).alloc (.cells #[.int .i64 0, .slice none 0 0, .int .i64 6, .slice none 0 0] 81)) (some ⟨(v2).heap.size, 0, none⟩) ([⟨0, none, 0, []⟩, ⟨6, none, 0, []⟩] : List xu_) := res_at _ (zg_.new (v2) #[.int .i64 0, .slice none 0 0, .int .i64 6, .slice none 0 0] 81) rfl (by intro q hq; simp only [List.mem_cons, List.not_mem_nil, or_false] at hq; rcases hq with rfl | rfl; exact yj_ _ _; exact yj_ _ _)
 have hok : ∀ q ∈ ([⟨0, none, 0, []⟩, ⟨6, none, 0, []⟩] : List xu_), ym_ q := by intro q hq; simp only [List.mem_cons, List.not_mem_nil, or_false] at hq; rcases hq with rfl | rfl; exact ⟨Nat.zero_le _, fun p hp => nomatch hp⟩; exact ⟨Nat.zero_le _, fun p hp => nomatch hp⟩
 have key := y5_ a3 _ rs3 ([⟨0, none, 0, []⟩, ⟨6, none, 0, []⟩] : List xu_) 2 c3 2 HL3.out rfl Xt4 HR3.out.2.1 hok (HR3.out.1.trans rfl) ((v2).alloc (.cells #[.int .i64 0, .slice none 0 0, .int .i64 6, .slice none 0 0] 81)) (HF.out.2.2.1.below hXX) hm
 try simp only [World.size_alloc] at key
 refine key.mono ?_; clear key; rintro r v3 ⟨rfl, hb⟩
 have hb : Below ((v2).alloc (.cells #[.int .i64 0, .slice none 0 0, .int .i64 6, .slice none 0 0] 81)).heap.size ((v2).alloc (.cells #[.int .i64 0, .slice none 0 0, .int .i64 6, .slice none 0 0] 81)) v3 := hb
 replace HX := hid (za_ hXX hb)
 have HNv3 := hid (za_ hcw hb)
 replace cx0 := tcb (za_ hcw hb) cx0; replace cx1 := tcb (za_ hcw hb) cx1; replace cy0 := tcb (za_ hcw hb) cy0; replace cy1 := tcb (za_ hcw hb) cy1
 clear hb hcw hXX hm hok hzl 
 go_wp2_with fail
 have hl9 : R9.length = 2 := by have h := congrArg List.length HGV.out.1; rw [List.length_map] at h; exact h
 have key := qN_ ga r11 R9 [b1 p11 q11 120, b1 s11 t11 121] 2 2 gc e11 hl9 rfl Xt4 (fun p hp => by have h : p.bs ∈ R9.map P1.bs := List.mem_map.2 ⟨p, hp, rfl⟩; rw [HGV.out.1] at h; simp at h; rcases h with h | h <;> rw [h] <;> exact je_ rfl) Xt29 v3 (HF.out.2.2.2.2.1.below HX.out) (HF.out.2.2.2.2.2.2.1.below HX.out)
 rw [show eqB R9 [b1 p11 q11 120, b1 s11 t11 121] = true from decide_eq_true (HGV.out.1.trans rfl)] at key
 refine key.mono ?_; clear key hl9; rintro r v4 ⟨rfl, hb⟩
 replace HX := hid (za_ HX.out hb)
 clear hb cx0 cx1 cy0 cy1 dx0 dx1
 go_wp2_with fail
 have hz0 := bl1 v4 (.cells #[.int .u8 99] 5 (1, 2))
 have hz1 := bl1 (v4.alloc (.cells #[.int .u8 99] 5 (1, 2))) (.cells #[.int .i64 0, .slice (some ⟨v4.heap.size, 0, none⟩) 1 1, .slice none 0 0] 84)
 have hk : Ls .u8 ((v4.alloc (.cells #[.int .u8 99] 5 (1, 2))).alloc (.cells #[.int .i64 0, .slice (some ⟨v4.heap.size, 0, none⟩) 1 1, .slice none 0 0] 84)) (some ⟨v4.heap.size, 0, none⟩) 1 [99] := (QG_ [99] (World.alloc_heap_new v4 (.cells #[.int .u8 99] 5 (1, 2))) rfl).below hz1
 have hwr : WrR ((v4.alloc (.cells #[.int .u8 99] 5 (1, 2))).alloc (.cells #[.int .i64 0, .slice (some ⟨v4.heap.size, 0, none⟩) 1 1, .slice none 0 0] 84)) (some ⟨(v4.alloc (.cells #[.int .u8 99] 5 (1, 2))).heap.size, 0, none⟩) [(⟨0, some ⟨v4.heap.size, 0, none⟩, 1, [99], ⟨none, 0, []⟩⟩ : WrV)] := fun k q hq => by
  have hb := zg_.new (v4.alloc (.cells #[.int .u8 99] 5 (1, 2))) #[.int .i64 0, .slice (some ⟨v4.heap.size, 0, none⟩) 1 1, .slice none 0 0] 84
  match k, hq with
  | 0, hq =>
   cases hq
   exact ⟨_, 0, rfl, hb.cell 0, hb.cell 1, hb.cell 2, hk, fun k p hp => by have hp : ([] : List P1)[k]? = some p := hp; simp at hp⟩
  | k + 1, hq => simp at hq
 have hyR : y.r.R = [] := by have h : y.r.R.map P1.bs = [] := congrArg (fun z => z.2.2) HW.out.1; exact jt_ h
 have key := xx_ wa (some ⟨(v4.alloc (.cells #[.int .u8 99] 5 (1, 2))).heap.size, 0, none⟩) [y.W] [(⟨0, some ⟨v4.heap.size, 0, none⟩, 1, [99], ⟨none, 0, []⟩⟩ : WrV)] 1 wc 1 rfl Xt4 (by show [((y.t : Int), y.K, y.r.P)] = [(0, [99], [])]; have h1 : y.t = 0 := congrArg (fun z => z.1) HW.out.1; have h2 : y.K = [99] := congrArg (fun z => z.2.1) HW.out.1; have h3 : y.r.P = [] := congrArg (fun z => z.2.2) HW.out.1; rw [h1, h2, h3]; rfl) (fun p hp => by rw [List.mem_singleton] at hp; subst hp; show y.r.R.length <= 1000000 /\ ∀ q ∈ y.r.R, Byt q.bs; rw [hyR]; exact ⟨Nat.zero_le _, fun q hq => nomatch hq⟩) (fun p hp => by rw [List.mem_singleton] at hp; subst hp; exact fun q hq => nomatch hq) ((v4.alloc (.cells #[.int .u8 99] 5 (1, 2))).alloc (.cells #[.int .i64 0, .slice (some ⟨v4.heap.size, 0, none⟩) 1 1, .slice none 0 0] 84)) (HF.out.2.2.2.1.below (za_ HX.out (za_ hz0 hz1))) hwr
 replace key := key.mono (fun r w' h => (⟨h.1, h.2⟩ : r = .returned (.bool true) /\ Bel ((v4.alloc (.cells #[.int .u8 99] 5 (1, 2))).alloc (.cells #[.int .i64 0, .slice (some ⟨v4.heap.size, 0, none⟩) 1 1, .slice none 0 0] 84)) w'))
 simp only [World.size_alloc] at key
 refine key.mono ?_; clear key; rintro r v5 ⟨rfl, hb⟩
 have hb : Below ((v4.alloc (.cells #[.int .u8 99] 5 (1, 2))).alloc (.cells #[.int .i64 0, .slice (some ⟨v4.heap.size, 0, none⟩) 1 1, .slice none 0 0] 84)).heap.size ((v4.alloc (.cells #[.int .u8 99] 5 (1, 2))).alloc (.cells #[.int .i64 0, .slice (some ⟨v4.heap.size, 0, none⟩) 1 1, .slice none 0 0] 84)) v5 := hb
 have HE := hid (za_ HBX.out (za_ HX.out (za_ (za_ hz0 hz1) hb)))
 clear hb hz0 hz1 hk hwr hyR
 go_wp2_with fail
 go_ret
 exact ⟨rfl, HE.out⟩
end
end Go.Proofs.YthmofoldmdafoaaGreat
