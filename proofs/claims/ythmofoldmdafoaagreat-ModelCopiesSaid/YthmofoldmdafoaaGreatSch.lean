/- Part of the proof that ModelCopies holds for every input: a copy goes on apart; two models are the same just if tables and rows are. Part 8. -/
import Derived.Test.YthmofoldmdafoaaGreatScg
set_option linter.unusedVariables false
set_option linter.unusedSimpArgs false
set_option maxRecDepth 100000
set_option maxHeartbeats 4000000
namespace Go.Proofs.YthmofoldmdafoaaGreat
open Go.ChangeShapes Go.WideShapes Go.ChangeAt Go.RowKit
open Go.Lib (hid)
open Go.Proofs.Tryz
section
open Go.Maps Go.Shelf
theorem okJ (a : Option Addr) (c : Nat) : okB (jobV a c) = true := by rfl
theorem jk_ {L : List Int} (h : (L.all fun x => decide (0 <= x /\ x <= 255)) = true) : Byt L := fun x hx => by simpa using List.all_eq_true.1 h x hx
theorem rowd {F : List (List Int)} (h : (F.all fun f => (f.all fun x => decide (0 <= x /\ x <= 255)) && decide (f.length <= 1000)) = true) : ∀ f ∈ F, Byt f /\ f.length <= 1000 := fun f hf => by
 have := List.all_eq_true.1 h f hf
 rw [Bool.and_eq_true] at this
 exact ⟨jk_ this.1, by simpa using this.2⟩
theorem z9_ {S : Nat -> Prop} {W W' : World} {L : List zj_} {o : zj_} (h : ∀ o ∈ L, zs_ S W fun X => zy_ X o) (b : Below W.heap.size W W') (hn : zs_ S W' fun X => zy_ X o) : ∀ x ∈ L ++ [o], zs_ S W' fun X => zy_ X x := fun x hx => by
 rcases List.mem_append.1 hx with hx | hx
 ·exact (h x hx).below b
 ·rw [List.mem_singleton] at hx; subst hx; exact hn
theorem QS_ {W : World} {B : Nat} {cs : Array Value} {mk : Nat × Nat} (L : List Int) (h : W.heap[B]? = some (.cells cs 5 mk)) (he : cs.toList = L.map (Value.int .u8)) : Ls .u8 W (some ⟨B, 0, none⟩) L.length L := ⟨fun k hk => by
 refine ⟨B, 0, rfl, ?_⟩
 have e : cs[k]? = some (.int .u8 (L.getD k 0)) := by rw [← Array.getElem?_toList, he, List.getElem?_map, List.getElem?_eq_getElem hk, List.getD_eq_getElem?_getD, List.getElem?_eq_getElem hk]; rfl
 simp [World.cell?, h, e], fun e => (nomatch e), Nat.le_refl _⟩
theorem conv42 (w : World) (C : Array Value) (n c : Nat) : (convert 42 42 (.slice (some ⟨w.heap.size, 0, none⟩) n c)).run prog (w.alloc (.cells C 5)) = .ok (.slice (some ⟨w.heap.size, 0, none⟩) n c) (w.alloc (.cells C 5 (C.size, C.size + 1))) := Lib.run_convert_bytes_const w 42 5 C n c underlying42 underlying5
def WrtsY (S : Nat -> Prop) (w : World) (m : Md) (L : Ws) (r : Ending) (w' : World) : Prop :=
 ∃ (a : Option Addr) (c : Nat) (E : List WtV), r = .returned (.tuple #[.slice a E.length c, .int .i64 0]) /\ Below w.heap.size w w' /\ (E.map WtV.P).Perm L /\ (E.Pairwise fun x y => ltW y x = false) /\ (∀ y ∈ E, y.t < m.tabs.length /\ zH_ y.K /\ (y.r.R ≠ [] -> rOk y.r.P)) /\ zs_ S w' fun W => WrR W a (E.map WtV.W)
theorem writes_yes {S : Nat -> Prop} {m : Md} {w : World} (h : MdR S w m) (hS : ∀ k, S k -> k < w.heap.size) (x : zW_) (hx : zs_ S w fun W => zM_ W x) (hon : x.on <= 1000000) (hrn : ∀ o ∈ x.ops, o.rn <= 1000000) (hf : ∀ z ∈ m.tabs, z.2.length <= 300000) (hm : yQ_ m.j x = true) :
  Calls prog 25 #[.pointer (some ⟨m.p, 0, none⟩), .agg #[.slice x.oa x.on x.oc, .bool x.sn, .bool x.ab]] w (WrtsY S w m (jN_ m.j m.P x)) := (writes_law h hS x hx hon hrn hf).mono fun r w' h => by
 unfold Qo_ at h
 rw [if_pos hm] at h
 exact h
theorem fields74 : (match prog.underlying 74 with | some (.struct fs) => (fs[6]?).map (fun f => (f.type, f.offset)) | _ => none) = some (50, 6) := by kernel_rfl
theorem agg50 (W : World) : (isAgg 50).run prog W = .ok false W := by kernel_rfl
theorem field74 (W : World) (a0 a1 a2 a3 a4 a5 a6 : Value) : (Instr.field 74 (.agg #[a0, a1, a2, a3, a4, a5, a6]) 6).run prog W = .ok a6 W := by
 have h := fields74
 cases hu : prog.underlying 74 with
 | none => rw [hu] at h; cases h
 | some t =>
  rw [hu] at h
  cases t with
  | struct fs =>
   simp only at h
   cases hf : fs[6]? with
   | none => rw [hf] at h; cases h
   | some f =>
    rw [hf] at h
    simp only [Option.map_some, Option.some.injEq, Prod.mk.injEq] at h
    unfold Instr.field
    simp [run_underlying hu, hf, h.1, h.2, part, agg50, Result.andThen]
    rfl
  | _ => cases h
theorem two_below (w : World) (o p : Obj) : Below w.heap.size w ((w.alloc o).alloc p) := za_ (bl1 w o) (bl1 _ p)
theorem jY_ {W : World} {B : Nat} {cs : Array Value} (L : List PrV) (h : zg_ W B cs 78) (he : cs = (zi_ L).toArray) (ok : ∀ x ∈ L, Ls .u8 W x.ka x.kc x.K /\ RdR W x.ra x.R) : zp_ W (some ⟨B, 0, none⟩) L := fun k x hx => by
 have hc : ∀ i, i < 2 -> W.cell? ⟨B, 0 + k * 2 + i, none⟩ = (pcl x)[i]? := fun i hi => by
  rw [Nat.zero_add, h.cell (k * 2 + i), he, List.getElem?_toArray]
  exact z4_ (f := pcl) (sz := 2) (fun _ => rfl) L k i x hx hi
 exact ⟨B, 0, rfl, hc 0 Xt0, hc 1 Xt0, ok x (List.mem_of_getElem? hx)⟩
theorem res_at {W : World} {B : Nat} {cs : Array Value} (L : List xB_) (h : zg_ W B cs 81) (he : cs = (cellsOf rcl L).toArray) (ok : ∀ x ∈ L, zp_ W x.pa x.P) : jL_ W (some ⟨B, 0, none⟩) L := fun k x hx => by
 have hc : ∀ i, i < 2 -> W.cell? ⟨B, 0 + k * 2 + i, none⟩ = (rcl x)[i]? := fun i hi => by
  rw [Nat.zero_add, h.cell (k * 2 + i), he, List.getElem?_toArray]
  exact z4_ (f := rcl) (sz := 2) (fun _ => rfl) L k i x hx hi
 exact ⟨B, 0, rfl, hc 0 Xt0, hc 1 Xt0, ok x (List.mem_of_getElem? hx)⟩
def Bel (X Y : World) : Prop := Below X.heap.size X Y
theorem xd_ (a b : Option Addr) (L M : List xB_) (n ca cb : Nat) (hn : L.length = n) (hm : M.length = n) (hn2 : n <= 1000000) (okL : ∀ x ∈ L, ys_ x) (okM : ∀ x ∈ M, ys_ x) (hs : L.map yC_ = M.map yC_) (w : World) (hA : jL_ w a L) (hB : jL_ w b M) :
  Calls prog 34 #[.slice a n ca, .slice b n cb] w fun r w' => r = .returned (.bool true) /\ Bel w w' := by
 have h := zY_ a b L M n n ca cb hn hm hn2 hn2 okL okM w hA hB
 rw [decide_eq_true hs] at h
 exact h
theorem yn_ (W : World) (a : Option Addr) : zp_ W a [] := fun k x hx => by simp at hx
theorem cpr_out {base n : Nat} {R : List P1} {v : Value} {W : World} {F : List (List Int)} (h : CpR base R n v W) (hF : R.map P1.bs = F) (hn : R.length = n) : ∃ a c R', v = .slice a n c /\ R'.map P1.bs = F /\ RdR W a R' := by
 obtain ⟨a, c, R', h1, h2, _, h4, _⟩ := h.lies hn
 exact ⟨a, c, R', h1, h4.trans hF, h2⟩
theorem xM_ (w : World) : Calls prog 9 #[] w fun r w' => r = .returned (.bool true) /\ Below w.heap.size w w' := by
 have hc42 := conv42
 have hf74 := field74
 go_enter func9, ntmps9
 go_wp2_with fail
 refine (job_law w).mono ?_; rintro r w1 ⟨ja, jc, rfl, hb1, hj⟩
 have HB1 := hid hb1
 have HJ0 := hid hj
 clear hb1 hj
 go_wp2_with fail
 refine (new_law (jobV ja jc) w1 HJ0.out).mono ?_; rintro r w2 hnew
 unfold NewR at hnew
 rw [if_pos (okJ ja jc)] at hnew
 obtain ⟨S, m, rfl, hb2, hmd, hSm, ⟨mja, mjc, hmj⟩, hem⟩ := hnew
 have HB := hid (za_ HB1.out hb2)
 have HM := hid hmd
 have HZ := hid (fun k (hk : S k) => (hSm k hk).2)
 have HLO := hid (fun k (hk : S k) => Nat.le_trans HB1.out.size (hSm k hk).1)
 have HD := hid (Below.refl w2.heap.size w2)
 have HJ := hid (show m.j = j9_ mja mjc from hmj)
 have HP := hid (show m.P = [[]] /\ ∀ z ∈ m.tabs, z.2.length <= 0 by
  have hl : m.tabs.length = 1 := by rw [hmd.len, hmj]; rfl
  obtain ⟨z, hz⟩ := List.length_eq_one_iff.1 hl
  have h1 := hem z (by rw [hz]; simp)
  refine ⟨by unfold Md.P; rw [hz, List.map_cons, h1]; rfl, fun z' hz' => by rw [hem z' hz']; exact Nat.le_refl _⟩)
 clear hb2 hmd hSm hmj hem HJ0 HB1
 go_wp2_with fail
 replace HST := hid (show ∀ o ∈ ([] : List zj_), zs_ S w2 fun W => zy_ W o from fun o ho => nomatch ho)
 have hq := yt_ 3 [97] _ rfl (jk_ rfl) Xt4 (some ⟨(w2).heap.size, 0, none⟩) 2 2 [[120], [121]] rfl Xt4 (rowd rfl) ((w2).alloc (.cells #[.string { data := #[120] }, .string { data := #[121] }] 9)) (xF_ _ (zg_.new _ #[.string { data := #[120] }, .string { data := #[121] }] 9) rfl)
 have hm0 : Below (w2).heap.size (w2) ((w2).alloc (.cells #[.string { data := #[120] }, .string { data := #[121] }] 9)) := bl1 _ _
 refine hq.mono ?_; clear hq; rintro r w3 ⟨k1, d1, r1, e1, R1, rfl, hb, hR, hc⟩
 obtain ⟨p1, q1, s1, t1, rfl⟩ := qz_ hR
 have hb := za_ hm0 hb
 have hzz := HD.out.size
 have hzy := hm0.size
 have hc' : zs_ S w3 fun W => zy_ W (opV 3 [97] k1 d1 r1 e1 [b1 p1 q1 120, b1 s1 t1 121]) := hc S (fun q hq => Nat.lt_of_lt_of_le (HZ.out q hq) (Nat.le_trans hzz hzy))
 replace HST := hid (z9_ HST.out hb hc')
 clear hc hc' hR hm0 hzz hzy
 replace HB := hid (za_ HB.out (hb : Below (w2).heap.size (w2) w3))
 replace HD := hid (za_ HD.out (hb : Below (w2).heap.size (w2) w3))
 clear hb
 go_wp2_with fail
 have hq := yt_ 3 [97] _ rfl (jk_ rfl) Xt4 (some ⟨(w3).heap.size, 0, none⟩) 1 1 [[122]] rfl Xt4 (rowd rfl) ((w3).alloc (.cells #[.string { data := #[122] }] 9)) (xF_ _ (zg_.new _ #[.string { data := #[122] }] 9) rfl)
 have hm0 : Below (w3).heap.size (w3) ((w3).alloc (.cells #[.string { data := #[122] }] 9)) := bl1 _ _
 refine hq.mono ?_; clear hq; rintro r w4 ⟨k2, d2, r2, e2, R2, rfl, hb, hR, hc⟩
 obtain ⟨p2, q2, rfl⟩ := one_row hR
 have hb := za_ hm0 hb
 have hzz := HD.out.size
 have hzy := hm0.size
 have hc' : zs_ S w4 fun W => zy_ W (opV 3 [97] k2 d2 r2 e2 [b1 p2 q2 122]) := hc S (fun q hq => Nat.lt_of_lt_of_le (HZ.out q hq) (Nat.le_trans hzz hzy))
 replace HST := hid (z9_ HST.out hb hc')
 clear hc hc' hR hm0 hzz hzy
 replace HB := hid (za_ HB.out (hb : Below (w3).heap.size (w3) w4))
 replace HD := hid (za_ HD.out (hb : Below (w3).heap.size (w3) w4))
 clear hb
 go_wp2_with fail
 have hq := yt_ 1 [97] _ rfl (jk_ rfl) Xt4 none 0 0 [] rfl Xt4 (rowd rfl) (w4) (qO_ _ _)
 have hm0 : Below (w4).heap.size (w4) (w4) := Below.refl _ _
 refine hq.mono ?_; clear hq; rintro r w5 ⟨k3, d3, r3, e3, R3, rfl, hb, hR, hc⟩
 obtain rfl := jz_ hR
 have hb := za_ hm0 hb
 have hzz := HD.out.size
 have hzy := hm0.size
 have hc' : zs_ S w5 fun W => zy_ W (opV 1 [97] k3 d3 r3 e3 []) := hc S (fun q hq => Nat.lt_of_lt_of_le (HZ.out q hq) (Nat.le_trans hzz hzy))
 replace HST := hid (z9_ HST.out hb hc')
 clear hc hc' hR hm0 hzz hzy
 replace HB := hid (za_ HB.out (hb : Below (w4).heap.size (w4) w5))
 replace HD := hid (za_ HD.out (hb : Below (w4).heap.size (w4) w5))
 clear hb
 go_wp2_with fail
 have hq := yt_ 4 [98] _ rfl (jk_ rfl) Xt4 none 0 0 [] rfl Xt4 (rowd rfl) (w5) (qO_ _ _)
 have hm0 : Below (w5).heap.size (w5) (w5) := Below.refl _ _
 refine hq.mono ?_; clear hq; rintro r w6 ⟨k4, d4, r4, e4, R4, rfl, hb, hR, hc⟩
 obtain rfl := jz_ hR
 have hb := za_ hm0 hb
 have hzz := HD.out.size
 have hzy := hm0.size
 have hc' : zs_ S w6 fun W => zy_ W (opV 4 [98] k4 d4 r4 e4 []) := hc S (fun q hq => Nat.lt_of_lt_of_le (HZ.out q hq) (Nat.le_trans hzz hzy))
 replace HST := hid (z9_ HST.out hb hc')
 clear hc hc' hR hm0 hzz hzy
 replace HB := hid (za_ HB.out (hb : Below (w5).heap.size (w5) w6))
 replace HD := hid (za_ HD.out (hb : Below (w5).heap.size (w5) w6))
 clear hb
 go_wp2_with fail
 have hzz := HD.out.size
 have hx : zs_ S ((w6).alloc (.cells (cellsOf ocl [(opV 3 [97] k1 d1 r1 e1 [b1 p1 q1 120, b1 s1 t1 121]), (opV 3 [97] k2 d2 r2 e2 [b1 p2 q2 122]), (opV 1 [97] k3 d3 r3 e3 []), (opV 4 [98] k4 d4 r4 e4 [])]).toArray 74)) fun W => zM_ W ⟨some ⟨(w6).heap.size, 0, none⟩, 4, 4, [(opV 3 [97] k1 d1 r1 e1 [b1 p1 q1 120, b1 s1 t1 121]), (opV 3 [97] k2 d2 r2 e2 [b1 p2 q2 122]), (opV 1 [97] k3 d3 r3 e3 []), (opV 4 [98] k4 d4 r4 e4 [])], false, false⟩ := fun W' o => ⟨j2_ [(opV 3 [97] k1 d1 r1 e1 [b1 p1 q1 120, b1 s1 t1 121]), (opV 3 [97] k2 d2 r2 e2 [b1 p2 q2 122]), (opV 1 [97] k3 d3 r3 e3 []), (opV 4 [98] k4 d4 r4 e4 [])] rfl (fun k hk => Nat.lt_of_lt_of_le (HZ.out k hk) hzz) HST.out W' o, rfl⟩
 have hbA := bl1 (w6) (.cells (cellsOf ocl [(opV 3 [97] k1 d1 r1 e1 [b1 p1 q1 120, b1 s1 t1 121]), (opV 3 [97] k2 d2 r2 e2 [b1 p2 q2 122]), (opV 1 [97] k3 d3 r3 e3 []), (opV 4 [98] k4 d4 r4 e4 [])]).toArray 74)
 have key := do_yes (HM.out.below (za_ HD.out hbA)) (fun k hk => Nat.lt_of_lt_of_le (HZ.out k hk) (Nat.le_trans hzz hbA.size)) ⟨some ⟨(w6).heap.size, 0, none⟩, 4, 4, [(opV 3 [97] k1 d1 r1 e1 [b1 p1 q1 120, b1 s1 t1 121]), (opV 3 [97] k2 d2 r2 e2 [b1 p2 q2 122]), (opV 1 [97] k3 d3 r3 e3 []), (opV 4 [98] k4 d4 r4 e4 [])], false, false⟩ hx (Nat.le_of_ble_eq_true rfl) (by intro o ho; simp at ho; rcases ho with rfl | rfl | rfl | rfl <;> exact Nat.le_of_ble_eq_true rfl) Xt28 (by rw [HJ.out]; exact (may1 ..))
 try simp only [World.size_alloc] at key
 refine key.mono ?_; clear key; rintro r D1 ⟨m1, a1, c1, rs1, rfl, hmd, hsame, hPn, hoff, hlen, hans, hrok, hrst⟩
 have hSM : ∀ k, zS_ m k -> S k := fun k ⟨x, hx, e⟩ => e ▸ HM.out.hS x hx
 rw [HJ.out, HP.out.1] at hPn hans
 have hPn := hPn.trans (wrt1 ..)
 have hans := hans.trans (ans1 ..)
 have hl1 : rs1.length = 4 := by have := congrArg List.length hans; simpa using this
 rw [hl1]
 have HL1 := hid hl1
 have HR1 := hid (And.intro hans (And.intro hrok hrst))
 replace HB := hid (Off.below (za_ HB.out hbA) hoff (Nat.le_trans HB.out.size hbA.size) (fun k hk => HLO.out k (hSM k hk)))
 replace HZ := hid (fun k (hk : S k) => Nat.lt_of_lt_of_le (HZ.out k hk) (Nat.le_trans hzz (Nat.le_trans hbA.size hoff.size)))
 replace HP := hid (And.intro hPn (hlen 0 (fun x hx => HP.out.2 x hx)))
 replace HJ := hid (hsame.j.trans HJ.out)
 replace HMP := hid hsame.p
 replace HM := hid hmd
 replace HD := hid (Below.refl D1.heap.size D1)
 clear hmd hsame hPn hoff hlen hans hrok hrst hx hbA hzz hSM hl1 HST
 go_wp2_with fail
 replace HST := hid (show ∀ o ∈ ([] : List zj_), zs_ S D1 fun W => zy_ W o from fun o ho => nomatch ho)
 have hq := yt_ 2 [98] _ rfl (jk_ rfl) Xt4 (some ⟨(D1).heap.size, 0, none⟩) 2 2 [[120], [119]] rfl Xt4 (rowd rfl) ((D1).alloc (.cells #[.string { data := #[120] }, .string { data := #[119] }] 9)) (xF_ _ (zg_.new _ #[.string { data := #[120] }, .string { data := #[119] }] 9) rfl)
 have hm0 : Below (D1).heap.size (D1) ((D1).alloc (.cells #[.string { data := #[120] }, .string { data := #[119] }] 9)) := bl1 _ _
 refine hq.mono ?_; clear hq; rintro r w7 ⟨k5, d5, r5, e5, R5, rfl, hb, hR, hc⟩
 obtain ⟨p5, q5, s5, t5, rfl⟩ := qz_ hR
 have hb := za_ hm0 hb
 have hzz := HD.out.size
 have hzy := hm0.size
 have hc' : zs_ S w7 fun W => zy_ W (opV 2 [98] k5 d5 r5 e5 [b1 p5 q5 120, b1 s5 t5 119]) := hc S (fun q hq => Nat.lt_of_lt_of_le (HZ.out q hq) (Nat.le_trans hzz hzy))
 replace HST := hid (z9_ HST.out hb hc')
 clear hc hc' hR hm0 hzz hzy
 replace HB := hid (za_ HB.out (hb : Below (D1).heap.size (D1) w7))
 replace HD := hid (za_ HD.out (hb : Below (D1).heap.size (D1) w7))
 clear hb
 go_wp2_with fail
 have hbw := bl1 (w7) (.cells #[.int .u8 119] 5 (1, 2))
 have hkw : zs_ S ((w7).alloc (.cells #[.int .u8 119] 5 (1, 2))) fun W => zy_ W (opL (some ⟨(w7).heap.size, 0, none⟩) 1) := fun W' o => ⟨QS_ [119] ((o.block (w7).heap.size Xt5 (fun e => by have h1 := HZ.out _ e; have h2 := HD.out.size; omega)).trans (World.alloc_heap_new (w7) (.cells #[.int .u8 119] 5 (1, 2)))) rfl, rfl, jk_ rfl, Ls.nul _ _, rfl, (fun x hx => nomatch hx), (fun k p hp => by have hp : ([] : List P1)[k]? = some p := hp; simp at hp), rfl, fun p hp => nomatch hp⟩
 replace HST := hid (z9_ HST.out hbw hkw)
 replace HB := hid (za_ HB.out (hbw : Below (w7).heap.size (w7) ((w7).alloc (.cells #[.int .u8 119] 5 (1, 2)))))
 replace HD := hid (za_ HD.out (hbw : Below (w7).heap.size (w7) ((w7).alloc (.cells #[.int .u8 119] 5 (1, 2)))))
 clear hbw hkw
 replace HST := hid (z9_ HST.out (Below.refl _ _) (show zs_ S ((w7).alloc (.cells #[.int .u8 119] 5 (1, 2))) fun W => zy_ W opS from fun W' o => ⟨Ls.nul _ _, rfl, (fun x hx => nomatch hx), Ls.nul _ _, rfl, (fun x hx => nomatch hx), (fun k p hp => by have hp : ([] : List P1)[k]? = some p := hp; simp at hp), rfl, fun p hp => nomatch hp⟩))
 have hzz := HD.out.size
 have hx : zs_ S ((((w7).alloc (.cells #[.int .u8 119] 5 (1, 2)))).alloc (.cells (cellsOf ocl [(opV 2 [98] k5 d5 r5 e5 [b1 p5 q5 120, b1 s5 t5 119]), (opL (some ⟨(w7).heap.size, 0, none⟩) 1), opS]).toArray 74)) fun W => zM_ W ⟨some ⟨(((w7).alloc (.cells #[.int .u8 119] 5 (1, 2)))).heap.size, 0, none⟩, 3, 3, [(opV 2 [98] k5 d5 r5 e5 [b1 p5 q5 120, b1 s5 t5 119]), (opL (some ⟨(w7).heap.size, 0, none⟩) 1), opS], false, false⟩ := fun W' o => ⟨j2_ [(opV 2 [98] k5 d5 r5 e5 [b1 p5 q5 120, b1 s5 t5 119]), (opL (some ⟨(w7).heap.size, 0, none⟩) 1), opS] rfl (fun k hk => Nat.lt_of_lt_of_le (HZ.out k hk) hzz) HST.out W' o, rfl⟩
 have hbA := bl1 (((w7).alloc (.cells #[.int .u8 119] 5 (1, 2)))) (.cells (cellsOf ocl [(opV 2 [98] k5 d5 r5 e5 [b1 p5 q5 120, b1 s5 t5 119]), (opL (some ⟨(w7).heap.size, 0, none⟩) 1), opS]).toArray 74)
 have key := do_yes (HM.out.below (za_ HD.out hbA)) (fun k hk => Nat.lt_of_lt_of_le (HZ.out k hk) (Nat.le_trans hzz hbA.size)) ⟨some ⟨(((w7).alloc (.cells #[.int .u8 119] 5 (1, 2)))).heap.size, 0, none⟩, 3, 3, [(opV 2 [98] k5 d5 r5 e5 [b1 p5 q5 120, b1 s5 t5 119]), (opL (some ⟨(w7).heap.size, 0, none⟩) 1), opS], false, false⟩ hx (Nat.le_of_ble_eq_true rfl) Xt38 Xt28 (by rw [HJ.out]; exact (may2 ..))
 rw [HMP.out] at key
 try simp only [World.size_alloc] at key
 refine key.mono ?_; clear key; rintro r D2 ⟨m2, a2, c2, rs2, rfl, hmd, hsame, hPn, hoff, hlen, hans, hrok, hrst⟩
 have hSM : ∀ k, zS_ m1 k -> S k := fun k ⟨x, hx, e⟩ => e ▸ HM.out.hS x hx
 rw [HJ.out, HP.out.1] at hPn hans
 have hPn := hPn.trans (wrt2 ..)
 have hans := hans.trans (ans2 ..)
 have hl2 : rs2.length = 3 := by have := congrArg List.length hans; simpa using this
 rw [hl2]
 have HL2 := hid hl2
 have HR2 := hid (And.intro hans (And.intro hrok hrst))
 replace HR1 := hid (And.intro HR1.out.1 (And.intro HR1.out.2.1 ((HR1.out.2.2.below (za_ HD.out hbA)).off (hoff.mono hSM))))
 replace HB := hid (Off.below (za_ HB.out hbA) hoff (Nat.le_trans HB.out.size hbA.size) (fun k hk => HLO.out k (hSM k hk)))
 replace HZ := hid (fun k (hk : S k) => Nat.lt_of_lt_of_le (HZ.out k hk) (Nat.le_trans hzz (Nat.le_trans hbA.size hoff.size)))
 replace HP := hid (And.intro hPn (hlen 16 (fun x hx => HP.out.2 x hx)))
 replace HJ := hid (hsame.j.trans HJ.out)
 replace HMP := hid (hsame.p.trans HMP.out)
 replace HM := hid hmd
 replace HD := hid (Below.refl D2.heap.size D2)
 clear hmd hsame hPn hoff hlen hans hrok hrst hx hbA hzz hSM hl2 HST
 go_wp2_with fail
 have key := mlen_law (HM.out.below HD.out) Xt28
 rw [HMP.out, HP.out.1] at key
 refine key.mono ?_; clear key; rintro r w0 ⟨rfl, hw0⟩; have hw0' := hw0.symm; clear hw0; subst hw0'
 rw [show lenP [[([97], [[120], [121]]), ([98], [[120], [119]])]] = 2 from rfl]
 go_wp2_with fail
 replace HST := hid (show ∀ o ∈ ([] : List zj_), zs_ S D2 fun W => zy_ W o from fun o ho => nomatch ho)
 have hq := yt_ 4 [97] _ rfl (jk_ rfl) Xt4 none 0 0 [] rfl Xt4 (rowd rfl) (D2) (qO_ _ _)
 have hm0 : Below (D2).heap.size (D2) (D2) := Below.refl _ _
 refine hq.mono ?_; clear hq; rintro r w8 ⟨k6, d6, r6, e6, R6, rfl, hb, hR, hc⟩
 obtain rfl := jz_ hR
 have hb := za_ hm0 hb
 have hzz := HD.out.size
 have hzy := hm0.size
 have hc' : zs_ S w8 fun W => zy_ W (opV 4 [97] k6 d6 r6 e6 []) := hc S (fun q hq => Nat.lt_of_lt_of_le (HZ.out q hq) (Nat.le_trans hzz hzy))
 replace HST := hid (z9_ HST.out hb hc')
 clear hc hc' hR hm0 hzz hzy
 replace HB := hid (za_ HB.out (hb : Below (D2).heap.size (D2) w8))
 replace HD := hid (za_ HD.out (hb : Below (D2).heap.size (D2) w8))
 clear hb
 go_wp2_with fail
 have hq := yt_ 1 [97] _ rfl (jk_ rfl) Xt4 none 0 0 [] rfl Xt4 (rowd rfl) (w8) (qO_ _ _)
 have hm0 : Below (w8).heap.size (w8) (w8) := Below.refl _ _
 refine hq.mono ?_; clear hq; rintro r w9 ⟨k7, d7, r7, e7, R7, rfl, hb, hR, hc⟩
 obtain rfl := jz_ hR
 have hb := za_ hm0 hb
 have hzz := HD.out.size
 have hzy := hm0.size
 have hc' : zs_ S w9 fun W => zy_ W (opV 1 [97] k7 d7 r7 e7 []) := hc S (fun q hq => Nat.lt_of_lt_of_le (HZ.out q hq) (Nat.le_trans hzz hzy))
 replace HST := hid (z9_ HST.out hb hc')
 clear hc hc' hR hm0 hzz hzy
 replace HB := hid (za_ HB.out (hb : Below (w8).heap.size (w8) w9))
 replace HD := hid (za_ HD.out (hb : Below (w8).heap.size (w8) w9))
 clear hb
 go_wp2_with fail
 have hzz := HD.out.size
 have hx : zs_ S ((w9).alloc (.cells (cellsOf ocl [(opV 4 [97] k6 d6 r6 e6 []), (opV 1 [97] k7 d7 r7 e7 [])]).toArray 74)) fun W => zM_ W ⟨some ⟨(w9).heap.size, 0, none⟩, 2, 2, [(opV 4 [97] k6 d6 r6 e6 []), (opV 1 [97] k7 d7 r7 e7 [])], false, true⟩ := fun W' o => ⟨j2_ [(opV 4 [97] k6 d6 r6 e6 []), (opV 1 [97] k7 d7 r7 e7 [])] rfl (fun k hk => Nat.lt_of_lt_of_le (HZ.out k hk) hzz) HST.out W' o, rfl⟩
 have hbA := bl1 (w9) (.cells (cellsOf ocl [(opV 4 [97] k6 d6 r6 e6 []), (opV 1 [97] k7 d7 r7 e7 [])]).toArray 74)
 have key := do_yes (HM.out.below (za_ HD.out hbA)) (fun k hk => Nat.lt_of_lt_of_le (HZ.out k hk) (Nat.le_trans hzz hbA.size)) ⟨some ⟨(w9).heap.size, 0, none⟩, 2, 2, [(opV 4 [97] k6 d6 r6 e6 []), (opV 1 [97] k7 d7 r7 e7 [])], false, true⟩ hx (Nat.le_of_ble_eq_true rfl) (by intro o ho; simp at ho; rcases ho with rfl | rfl <;> exact Nat.le_of_ble_eq_true rfl) Xt28 (by rw [HJ.out]; exact (may3 ..))
 rw [HMP.out] at key
 try simp only [World.size_alloc] at key
 refine key.mono ?_; clear key; rintro r D3 ⟨m3, a3, c3, rs3, rfl, hmd, hsame, hPn, hoff, hlen, hans, hrok, hrst⟩
 have hSM : ∀ k, zS_ m2 k -> S k := fun k ⟨x, hx, e⟩ => e ▸ HM.out.hS x hx
 rw [HJ.out, HP.out.1] at hPn hans
 have hPn := hPn.trans (wrt3 ..)
 have hans := hans.trans (ans3 ..)
 have hl3 : rs3.length = 2 := by have := congrArg List.length hans; simpa using this
 rw [hl3]
 have HL3 := hid hl3
 have HR3 := hid (And.intro hans (And.intro hrok hrst))
 replace HR1 := hid (And.intro HR1.out.1 (And.intro HR1.out.2.1 ((HR1.out.2.2.below (za_ HD.out hbA)).off (hoff.mono hSM))))
 replace HR2 := hid (And.intro HR2.out.1 (And.intro HR2.out.2.1 ((HR2.out.2.2.below (za_ HD.out hbA)).off (hoff.mono hSM))))
 replace HB := hid (Off.below (za_ HB.out hbA) hoff (Nat.le_trans HB.out.size hbA.size) (fun k hk => HLO.out k (hSM k hk)))
 replace HZ := hid (fun k (hk : S k) => Nat.lt_of_lt_of_le (HZ.out k hk) (Nat.le_trans hzz (Nat.le_trans hbA.size hoff.size)))
 replace HP := hid (And.intro hPn (hlen 32 (fun x hx => HP.out.2 x hx)))
 replace HJ := hid (hsame.j.trans HJ.out)
 replace HMP := hid (hsame.p.trans HMP.out)
 replace HM := hid hmd
 replace HD := hid (Below.refl D3.heap.size D3)
 clear hmd hsame hPn hoff hlen hans hrok hrst hx hbA hzz hSM hl3 HST
 go_wp2_with fail
 obtain ⟨z, hz⟩ : ∃ z, m3.tabs = [z] := List.length_eq_one_iff.1 (by rw [HM.out.len, HJ.out]; rfl)
 have hz0 : m3.tabs[0]? = some z := by rw [hz]; rfl
 have hzP : yh_ z.2 = [([97], [[120], [121]]), ([98], [[120], [119]])] := by have h := HP.out.1; unfold Md.P at h; rw [hz] at h; simpa using h
 have hbw := bl1 (D3) (.cells #[.int .u8 97] 5 (1, 2))
 have key := mget_law (HM.out.below (za_ HD.out hbw)) 0 z hz0 (some ⟨(D3).heap.size, 0, none⟩) 1 1 [97] rfl Xt4 (jk_ rfl) (QS_ [97] (World.alloc_heap_new (D3) (.cells #[.int .u8 97] 5 (1, 2))) rfl)
 have hg : (zU_ z.2 [97]).map RV.P = some [[120], [121]] := by rw [← yR_, hzP]; rfl
 obtain ⟨u, hu, hup⟩ : ∃ u, zU_ z.2 [97] = some u /\ u.P = [[120], [121]] := by
  cases hg2 : zU_ z.2 [97] with
  | none => rw [hg2] at hg; cases hg
  | some u => rw [hg2] at hg; exact ⟨u, rfl, by simpa using hg⟩
 rw [hu, HMP.out] at key
 refine key.mono ?_; clear key; rintro r wg ⟨⟨gv, rfl, hgv⟩, hbg⟩
 simp only [Option.map_some, Option.isSome_some, Option.getD_some] at hgv ⊢
 obtain ⟨ga, gc, R9, rfl, hgR, hgl⟩ := cpr_out hgv (show u.R.map P1.bs = [[120], [121]] from hup) rfl
 have HGV := hid (And.intro hgR hgl)
 have hul : u.R.length = 2 := by have h := congrArg List.length hup; unfold RV.P at h; rw [List.length_map] at h; exact h
 rw [hul]
 have HU := hid hbg
 replace HB := hid (za_ HB.out (za_ hbw hbg : Below (D3).heap.size (D3) wg))
 replace HD := hid (za_ HD.out (za_ hbw hbg : Below (D3).heap.size (D3) wg))
 clear hul hgv hbg hbw hg hu hup hz hz0 hzP hgR hgl HU
 go_wp2_with fail
 have HG := hid (Below.refl wg.heap.size wg)
 replace HST := hid (show ∀ o ∈ ([] : List zj_), zs_ S wg fun W => zy_ W o from fun o ho => nomatch ho)
 have hq := yt_ 2 [99] _ rfl (jk_ rfl) Xt4 (some ⟨(wg).heap.size, 0, none⟩) 1 1 [[122]] rfl Xt4 (rowd rfl) ((wg).alloc (.cells #[.string { data := #[122] }] 9)) (xF_ _ (zg_.new _ #[.string { data := #[122] }] 9) rfl)
 have hm0 : Below (wg).heap.size (wg) ((wg).alloc (.cells #[.string { data := #[122] }] 9)) := bl1 _ _
 refine hq.mono ?_; clear hq; rintro r w10 ⟨k8, d8, r8, e8, R8, rfl, hb, hR, hc⟩
 obtain ⟨p8, q8, rfl⟩ := one_row hR
 have hb := za_ hm0 hb
 have hzz := HD.out.size
 have hzy := hm0.size
 have hc' : zs_ S w10 fun W => zy_ W (opV 2 [99] k8 d8 r8 e8 [b1 p8 q8 122]) := hc S (fun q hq => Nat.lt_of_lt_of_le (HZ.out q hq) (Nat.le_trans hzz hzy))
 replace HST := hid (z9_ HST.out hb hc')
 clear hc hc' hR hm0 hzz hzy
 replace HB := hid (za_ HB.out (hb : Below (wg).heap.size (wg) w10))
 replace HD := hid (za_ HD.out (hb : Below (wg).heap.size (wg) w10))
 replace HG := hid (za_ HG.out (hb : Below (wg).heap.size (wg) w10))
 clear hb
 go_wp2_with fail
 have hq := yt_ 4 [99] _ rfl (jk_ rfl) Xt4 none 0 0 [] rfl Xt4 (rowd rfl) (w10) (qO_ _ _)
 have hm0 : Below (w10).heap.size (w10) (w10) := Below.refl _ _
 refine hq.mono ?_; clear hq; rintro r w11 ⟨k9, d9, r9, e9, R9, rfl, hb, hR, hc⟩
 obtain rfl := jz_ hR
 have hb := za_ hm0 hb
 have hzz := HD.out.size
 have hzy := hm0.size
 have hc' : zs_ S w11 fun W => zy_ W (opV 4 [99] k9 d9 r9 e9 []) := hc S (fun q hq => Nat.lt_of_lt_of_le (HZ.out q hq) (Nat.le_trans hzz hzy))
 replace HST := hid (z9_ HST.out hb hc')
 clear hc hc' hR hm0 hzz hzy
 replace HB := hid (za_ HB.out (hb : Below (w10).heap.size (w10) w11))
 replace HD := hid (za_ HD.out (hb : Below (w10).heap.size (w10) w11))
 replace HG := hid (za_ HG.out (hb : Below (w10).heap.size (w10) w11))
 clear hb
 go_wp2_with fail
 have hq := yt_ 3 [97] _ rfl (jk_ rfl) Xt4 (some ⟨(w11).heap.size, 0, none⟩) 1 1 [[113]] rfl Xt4 (rowd rfl) ((w11).alloc (.cells #[.string { data := #[113] }] 9)) (xF_ _ (zg_.new _ #[.string { data := #[113] }] 9) rfl)
 have hm0 : Below (w11).heap.size (w11) ((w11).alloc (.cells #[.string { data := #[113] }] 9)) := bl1 _ _
 refine hq.mono ?_; clear hq; rintro r w12 ⟨k10, d10, r10, e10, R10, rfl, hb, hR, hc⟩
 obtain ⟨p10, q10, rfl⟩ := one_row hR
 have hb := za_ hm0 hb
 have hzz := HD.out.size
 have hzy := hm0.size
 have hc' : zs_ S w12 fun W => zy_ W (opV 3 [97] k10 d10 r10 e10 [b1 p10 q10 113]) := hc S (fun q hq => Nat.lt_of_lt_of_le (HZ.out q hq) (Nat.le_trans hzz hzy))
 replace HST := hid (z9_ HST.out hb hc')
 clear hc hc' hR hm0 hzz hzy
 replace HB := hid (za_ HB.out (hb : Below (w11).heap.size (w11) w12))
 replace HD := hid (za_ HD.out (hb : Below (w11).heap.size (w11) w12))
 replace HG := hid (za_ HG.out (hb : Below (w11).heap.size (w11) w12))
 clear hb
 go_wp2_with fail
 have hzz := HD.out.size
 have hx : zs_ S ((w12).alloc (.cells (cellsOf ocl [(opV 2 [99] k8 d8 r8 e8 [b1 p8 q8 122]), (opV 4 [99] k9 d9 r9 e9 []), (opV 3 [97] k10 d10 r10 e10 [b1 p10 q10 113])]).toArray 74)) fun W => zM_ W ⟨some ⟨(w12).heap.size, 0, none⟩, 3, 3, [(opV 2 [99] k8 d8 r8 e8 [b1 p8 q8 122]), (opV 4 [99] k9 d9 r9 e9 []), (opV 3 [97] k10 d10 r10 e10 [b1 p10 q10 113])], false, false⟩ := fun W' o => ⟨j2_ [(opV 2 [99] k8 d8 r8 e8 [b1 p8 q8 122]), (opV 4 [99] k9 d9 r9 e9 []), (opV 3 [97] k10 d10 r10 e10 [b1 p10 q10 113])] rfl (fun k hk => Nat.lt_of_lt_of_le (HZ.out k hk) hzz) HST.out W' o, rfl⟩
 have hbA := bl1 (w12) (.cells (cellsOf ocl [(opV 2 [99] k8 d8 r8 e8 [b1 p8 q8 122]), (opV 4 [99] k9 d9 r9 e9 []), (opV 3 [97] k10 d10 r10 e10 [b1 p10 q10 113])]).toArray 74)
 have key := writes_yes (HM.out.below (za_ HD.out hbA)) (fun k hk => Nat.lt_of_lt_of_le (HZ.out k hk) (Nat.le_trans hzz hbA.size)) ⟨some ⟨(w12).heap.size, 0, none⟩, 3, 3, [(opV 2 [99] k8 d8 r8 e8 [b1 p8 q8 122]), (opV 4 [99] k9 d9 r9 e9 []), (opV 3 [97] k10 d10 r10 e10 [b1 p10 q10 113])], false, false⟩ hx (Nat.le_of_ble_eq_true rfl) Xt38 Xt28 (by rw [HJ.out]; exact (may4 ..))
 rw [HMP.out, HJ.out, HP.out.1, wrt4] at key
 try simp only [World.size_alloc] at key
 refine key.mono ?_; clear key; rintro r ww ⟨wa, wc, E9, rfl, hbw, hwp, _, hwo, hws⟩
 obtain ⟨y, rfl⟩ : ∃ y, E9 = [y] := List.length_eq_one_iff.1 (by have := hwp.length_eq; simpa using this)
 simp only [List.length_cons, List.length_nil, Nat.zero_add] at hws ⊢
 have hyP : y.P = (0, [99], []) := by have := hwp.mem_iff.1 (List.mem_singleton.2 rfl : y.P ∈ [y.P]); simpa using this
 have HW := hid (And.intro hyP (And.intro hwo hws))
 replace HB := hid (za_ HB.out (za_ hbA hbw : Below (w12).heap.size (w12) ww))
 replace HD := hid (za_ HD.out (za_ hbA hbw : Below (w12).heap.size (w12) ww))
 replace HG := hid (za_ HG.out (za_ hbA hbw : Below (w12).heap.size (w12) ww))
 clear hbw hwp hwo hws hbA hx hzz HST hyP
 go_wp2_with fail
 have HQ := hid (Below.refl ww.heap.size ww)
 replace HST := hid (show ∀ o ∈ ([] : List zj_), zs_ S ww fun W => zy_ W o from fun o ho => nomatch ho)
 have hbw := bl1 ww (.cells #[.int .u8 97] 5 (1, 2))
 replace HST := hid (show ∀ o ∈ ([] : List zj_), zs_ S ((ww).alloc (.cells #[.int .u8 97] 5 (1, 2))) fun W => zy_ W o from fun o ho => nomatch ho)
 replace HB := hid (za_ HB.out (hbw : Below (ww).heap.size (ww) ((ww).alloc (.cells #[.int .u8 97] 5 (1, 2)))))
 replace HD := hid (za_ HD.out (hbw : Below (ww).heap.size (ww) ((ww).alloc (.cells #[.int .u8 97] 5 (1, 2)))))
 replace HG := hid (za_ HG.out (hbw : Below (ww).heap.size (ww) ((ww).alloc (.cells #[.int .u8 97] 5 (1, 2)))))
 replace HQ := hid (za_ HQ.out (hbw : Below (ww).heap.size (ww) ((ww).alloc (.cells #[.int .u8 97] 5 (1, 2)))))
 have HK1 := hid (Below.refl (((ww).alloc (.cells #[.int .u8 97] 5 (1, 2)))).heap.size (((ww).alloc (.cells #[.int .u8 97] 5 (1, 2)))))
 clear hbw
 have hq := yt_ 0 [] _ rfl (jk_ rfl) Xt4 (some ⟨(((ww).alloc (.cells #[.int .u8 97] 5 (1, 2)))).heap.size, 0, none⟩) 2 2 [[120], [121]] rfl Xt4 (rowd rfl) ((((ww).alloc (.cells #[.int .u8 97] 5 (1, 2)))).alloc (.cells #[.string { data := #[120] }, .string { data := #[121] }] 9)) (xF_ _ (zg_.new _ #[.string { data := #[120] }, .string { data := #[121] }] 9) rfl)
 have hm0 : Below (((ww).alloc (.cells #[.int .u8 97] 5 (1, 2)))).heap.size (((ww).alloc (.cells #[.int .u8 97] 5 (1, 2)))) ((((ww).alloc (.cells #[.int .u8 97] 5 (1, 2)))).alloc (.cells #[.string { data := #[120] }, .string { data := #[121] }] 9)) := bl1 _ _
 simp only [World.size_alloc] at hq
 refine hq.mono ?_; clear hq; rintro r w13 ⟨k11, d11, r11, e11, R11, rfl, hb, hR, hc⟩
 obtain ⟨p11, q11, s11, t11, rfl⟩ := qz_ hR
 have hb := za_ hm0 hb
 have hzz := HD.out.size
 have hzy := hm0.size
 have hc' : zs_ S w13 fun W => zy_ W (opV 0 [] k11 d11 r11 e11 [b1 p11 q11 120, b1 s11 t11 121]) := hc S (fun q hq => Nat.lt_of_lt_of_le (HZ.out q hq) (Nat.le_trans hzz hzy))
 replace HST := hid (z9_ HST.out hb hc')
 clear hc hc' hR hm0 hzz hzy
 replace HB := hid (za_ HB.out (hb : Below (((ww).alloc (.cells #[.int .u8 97] 5 (1, 2)))).heap.size (((ww).alloc (.cells #[.int .u8 97] 5 (1, 2)))) w13))
 replace HD := hid (za_ HD.out (hb : Below (((ww).alloc (.cells #[.int .u8 97] 5 (1, 2)))).heap.size (((ww).alloc (.cells #[.int .u8 97] 5 (1, 2)))) w13))
 replace HG := hid (za_ HG.out (hb : Below (((ww).alloc (.cells #[.int .u8 97] 5 (1, 2)))).heap.size (((ww).alloc (.cells #[.int .u8 97] 5 (1, 2)))) w13))
 replace HQ := hid (za_ HQ.out (hb : Below (((ww).alloc (.cells #[.int .u8 97] 5 (1, 2)))).heap.size (((ww).alloc (.cells #[.int .u8 97] 5 (1, 2)))) w13))
 replace HK1 := hid (za_ HK1.out (hb : Below (((ww).alloc (.cells #[.int .u8 97] 5 (1, 2)))).heap.size (((ww).alloc (.cells #[.int .u8 97] 5 (1, 2)))) w13))
 clear hb
 go_wp2_with fail
 have hbw := bl1 w13 (.cells #[.int .u8 98] 5 (1, 2))
 replace HST := hid (fun o (ho : o ∈ [(opV 0 [] k11 d11 r11 e11 [b1 p11 q11 120, b1 s11 t11 121])]) => (HST.out o ho).below hbw)
 replace HB := hid (za_ HB.out (hbw : Below (w13).heap.size (w13) ((w13).alloc (.cells #[.int .u8 98] 5 (1, 2)))))
 replace HD := hid (za_ HD.out (hbw : Below (w13).heap.size (w13) ((w13).alloc (.cells #[.int .u8 98] 5 (1, 2)))))
 replace HG := hid (za_ HG.out (hbw : Below (w13).heap.size (w13) ((w13).alloc (.cells #[.int .u8 98] 5 (1, 2)))))
 replace HQ := hid (za_ HQ.out (hbw : Below (w13).heap.size (w13) ((w13).alloc (.cells #[.int .u8 98] 5 (1, 2)))))
 replace HK1 := hid (za_ HK1.out (hbw : Below (w13).heap.size (w13) ((w13).alloc (.cells #[.int .u8 98] 5 (1, 2)))))
 have HK2 := hid (Below.refl (((w13).alloc (.cells #[.int .u8 98] 5 (1, 2)))).heap.size (((w13).alloc (.cells #[.int .u8 98] 5 (1, 2)))))
 clear hbw
 try simp only [World.size_alloc] at HST
 have hq := yt_ 0 [] _ rfl (jk_ rfl) Xt4 (some ⟨(((w13).alloc (.cells #[.int .u8 98] 5 (1, 2)))).heap.size, 0, none⟩) 2 2 [[120], [119]] rfl Xt4 (rowd rfl) ((((w13).alloc (.cells #[.int .u8 98] 5 (1, 2)))).alloc (.cells #[.string { data := #[120] }, .string { data := #[119] }] 9)) (xF_ _ (zg_.new _ #[.string { data := #[120] }, .string { data := #[119] }] 9) rfl)
 have hm0 : Below (((w13).alloc (.cells #[.int .u8 98] 5 (1, 2)))).heap.size (((w13).alloc (.cells #[.int .u8 98] 5 (1, 2)))) ((((w13).alloc (.cells #[.int .u8 98] 5 (1, 2)))).alloc (.cells #[.string { data := #[120] }, .string { data := #[119] }] 9)) := bl1 _ _
 simp only [World.size_alloc] at hq
 refine hq.mono ?_; clear hq; rintro r w14 ⟨k12, d12, r12, e12, R12, rfl, hb, hR, hc⟩
 obtain ⟨p12, q12, s12, t12, rfl⟩ := qz_ hR
 have hb := za_ hm0 hb
 have hzz := HD.out.size
 have hzy := hm0.size
 have hc' : zs_ S w14 fun W => zy_ W (opV 0 [] k12 d12 r12 e12 [b1 p12 q12 120, b1 s12 t12 119]) := hc S (fun q hq => Nat.lt_of_lt_of_le (HZ.out q hq) (Nat.le_trans hzz hzy))
 replace HST := hid (z9_ HST.out hb hc')
 clear hc hc' hR hm0 hzz hzy
 replace HB := hid (za_ HB.out (hb : Below (((w13).alloc (.cells #[.int .u8 98] 5 (1, 2)))).heap.size (((w13).alloc (.cells #[.int .u8 98] 5 (1, 2)))) w14))
 replace HD := hid (za_ HD.out (hb : Below (((w13).alloc (.cells #[.int .u8 98] 5 (1, 2)))).heap.size (((w13).alloc (.cells #[.int .u8 98] 5 (1, 2)))) w14))
 replace HG := hid (za_ HG.out (hb : Below (((w13).alloc (.cells #[.int .u8 98] 5 (1, 2)))).heap.size (((w13).alloc (.cells #[.int .u8 98] 5 (1, 2)))) w14))
 replace HQ := hid (za_ HQ.out (hb : Below (((w13).alloc (.cells #[.int .u8 98] 5 (1, 2)))).heap.size (((w13).alloc (.cells #[.int .u8 98] 5 (1, 2)))) w14))
 replace HK1 := hid (za_ HK1.out (hb : Below (((w13).alloc (.cells #[.int .u8 98] 5 (1, 2)))).heap.size (((w13).alloc (.cells #[.int .u8 98] 5 (1, 2)))) w14))
 replace HK2 := hid (za_ HK2.out (hb : Below (((w13).alloc (.cells #[.int .u8 98] 5 (1, 2)))).heap.size (((w13).alloc (.cells #[.int .u8 98] 5 (1, 2)))) w14))
 clear hb
 go_wp2_with fail
 have hA := two_below w14 (.cells #[.slice (some ⟨ww.heap.size, 0, none⟩) 1 1, .slice r11 2 e11] 78) (.cells #[.slice (some ⟨w13.heap.size, 0, none⟩) 1 1, .slice r12 2 e12] 78)
 have hbx : zg_ ((w14.alloc (.cells #[.slice (some ⟨ww.heap.size, 0, none⟩) 1 1, .slice r11 2 e11] 78)).alloc (.cells #[.slice (some ⟨w13.heap.size, 0, none⟩) 1 1, .slice r12 2 e12] 78)) w14.heap.size #[.slice (some ⟨ww.heap.size, 0, none⟩) 1 1, .slice r11 2 e11] 78 := (zg_.new w14 #[.slice (some ⟨ww.heap.size, 0, none⟩) 1 1, .slice r11 2 e11] 78).below (bl1 _ _)
 have hby : zg_ ((w14.alloc (.cells #[.slice (some ⟨ww.heap.size, 0, none⟩) 1 1, .slice r11 2 e11] 78)).alloc (.cells #[.slice (some ⟨w13.heap.size, 0, none⟩) 1 1, .slice r12 2 e12] 78)) (w14.heap.size + 1) #[.slice (some ⟨w13.heap.size, 0, none⟩) 1 1, .slice r12 2 e12] 78 := by have h := zg_.new (w14.alloc (.cells #[.slice (some ⟨ww.heap.size, 0, none⟩) 1 1, .slice r11 2 e11] 78)) #[.slice (some ⟨w13.heap.size, 0, none⟩) 1 1, .slice r12 2 e12] 78; rwa [World.size_alloc] at h
 have hk1 : Ls .u8 (ww.alloc (.cells #[.int .u8 97] 5 (1, 2))) (some ⟨ww.heap.size, 0, none⟩) 1 [97] := QS_ [97] (World.alloc_heap_new ww (.cells #[.int .u8 97] 5 (1, 2))) rfl
 have hk2 : Ls .u8 (w13.alloc (.cells #[.int .u8 98] 5 (1, 2))) (some ⟨w13.heap.size, 0, none⟩) 1 [98] := QS_ [98] (World.alloc_heap_new w13 (.cells #[.int .u8 98] 5 (1, 2))) rfl
 have h11 : RdR w14 r11 [b1 p11 q11 120, b1 s11 t11 121] := ((HST.out _ (by simp : (opV 0 [] k11 d11 r11 e11 [b1 p11 q11 120, b1 s11 t11 121]) ∈ [(opV 0 [] k11 d11 r11 e11 [b1 p11 q11 120, b1 s11 t11 121])] ++ [(opV 0 [] k12 d12 r12 e12 [b1 p12 q12 120, b1 s12 t12 119])])).now).rs
 have h12 : RdR w14 r12 [b1 p12 q12 120, b1 s12 t12 119] := ((HST.out _ (by simp : (opV 0 [] k12 d12 r12 e12 [b1 p12 q12 120, b1 s12 t12 119]) ∈ [(opV 0 [] k11 d11 r11 e11 [b1 p11 q11 120, b1 s11 t11 121])] ++ [(opV 0 [] k12 d12 r12 e12 [b1 p12 q12 120, b1 s12 t12 119])])).now).rs
 have HF := hid (And.intro ((HR1.out.2.2.below HD.out).now.below hA) (And.intro ((HR2.out.2.2.below HD.out).now.below hA) (And.intro ((HR3.out.2.2.below HD.out).now.below hA) (And.intro ((HW.out.2.2.below HQ.out).now.below hA) (And.intro ((HGV.out.2.below HG.out).below hA) (And.intro ((hk1.below HK1.out).below hA) (And.intro (h11.below hA) (And.intro ((hk2.below HK2.out).below hA) (h12.below hA)))))))))
 have HBX := hid (za_ HB.out hA)
 obtain ⟨WX, hWX⟩ := gtx ((w14.alloc (.cells #[.slice (some ⟨ww.heap.size, 0, none⟩) 1 1, .slice r11 2 e11] 78)).alloc (.cells #[.slice (some ⟨w13.heap.size, 0, none⟩) 1 1, .slice r12 2 e12] 78))
 rw [hWX] at hbx hby HF HBX ⊢
 clear hWX hA hk1 hk2 h11 h12 HST HB HD HG HQ HK1 HK2
 have HBB := hid (And.intro hbx hby)
 obtain ⟨bx, hbxe⟩ := gtx (w14.heap.size)
 obtain ⟨kx, hkx⟩ := gtx (ww.heap.size)
 obtain ⟨ky, hky⟩ := gtx (w13.heap.size)
 rw [hbxe, hkx] at hbx; rw [hbxe, hky] at hby; rw [hbxe, hkx, hky] at HBB ⊢
 rw [hkx, hky] at HF
 clear hbxe hkx hky
 have cx0 := hbx.cell 0; have cx1 := hbx.cell 1; have cy0 := hby.cell 0; have cy1 := hby.cell 1
 simp only [gtA, gtB, gtC] at cx0 cx1 cy0 cy1
 clear hbx hby
 refine (zQ_ 0 _).mono ?_; rintro r w0 ⟨rfl, hw0⟩; subst hw0
 go_wp2_with fail
 refine (zQ_ 0 _).mono ?_; rintro r w0 ⟨rfl, hw0⟩; subst hw0
 go_wp2_with fail
 refine (zQ_ 0 _).mono ?_; rintro r w0 ⟨rfl, hw0⟩; subst hw0
 go_wp2_with fail
 refine (zQ_ 0 _).mono ?_; rintro r w0 ⟨rfl, hw0⟩; subst hw0
 go_wp2_with fail
 refine (zQ_ 0 _).mono ?_; rintro r w0 ⟨rfl, hw0⟩; subst hw0
 go_wp2_with fail
 have HX := hid (Below.refl WX.heap.size WX)
 have ox : Qp_ (⟨some ⟨kx, 0, none⟩, 1, [97], r11, e11, [b1 p11 q11 120, b1 s11 t11 121]⟩ : PrV) := ⟨jk_ rfl, Xt30, Nat.le_of_ble_eq_true rfl⟩
 have oy : Qp_ (⟨some ⟨ky, 0, none⟩, 1, [98], r12, e12, [b1 p12 q12 120, b1 s12 t12 119]⟩ : PrV) := ⟨jk_ rfl, Xt30, Nat.le_of_ble_eq_true rfl⟩
 have HO := hid (And.intro ox oy)
 clear ox oy
 have hz0 := bl1 (WX) (.cells #[.slice (some ⟨kx, 0, none⟩) 1 1, .slice r11 2 e11] 78)
 have hzl := bl1 ((WX).alloc (.cells #[.slice (some ⟨kx, 0, none⟩) 1 1, .slice r11 2 e11] 78)) (.cells #[.int .i64 0, .slice none 0 0, .int .i64 7, .slice none 0 0, .int .i64 0, .slice (some ⟨WX.heap.size, 0, none⟩) 1 1, .int .i64 6, .slice none 0 0] 81)
 have hcw := (za_ hz0 hzl)
 have hXX := za_ HX.out hcw
 have hp0 : zp_ (((WX).alloc (.cells #[.slice (some ⟨kx, 0, none⟩) 1 1, .slice r11 2 e11] 78)).alloc (.cells #[.int .i64 0, .slice none 0 0, .int .i64 7, .slice none 0 0, .int .i64 0, .slice (some ⟨WX.heap.size, 0, none⟩) 1 1, .int .i64 6, .slice none 0 0] 81)) (some ⟨WX.heap.size, 0, none⟩) [(⟨some ⟨kx, 0, none⟩, 1, [97], r11, e11, [b1 p11 q11 120, b1 s11 t11 121]⟩ : PrV)] := by have h := jY_ (W := ((WX).alloc (.cells #[.slice (some ⟨kx, 0, none⟩) 1 1, .slice r11 2 e11] 78)).alloc (.cells #[.int .i64 0, .slice none 0 0, .int .i64 7, .slice none 0 0, .int .i64 0, .slice (some ⟨WX.heap.size, 0, none⟩) 1 1, .int .i64 6, .slice none 0 0] 81)) (B := (WX).heap.size) [(⟨some ⟨kx, 0, none⟩, 1, [97], r11, e11, [b1 p11 q11 120, b1 s11 t11 121]⟩ : PrV)] ((zg_.new (WX) #[.slice (some ⟨kx, 0, none⟩) 1 1, .slice r11 2 e11] 78).below hzl) rfl Xt19; (try simp only [World.size_alloc] at h); exact h
 have hm : jL_ (((WX).alloc (.cells #[.slice (some ⟨kx, 0, none⟩) 1 1, .slice r11 2 e11] 78)).alloc (.cells #[.int .i64 0, .slice none 0 0, .int .i64 7, .slice none 0 0, .int .i64 0, .slice (some ⟨WX.heap.size, 0, none⟩) 1 1, .int .i64 6, .slice none 0 0] 81)) (some ⟨((WX).alloc (.cells #[.slice (some ⟨kx, 0, none⟩) 1 1, .slice r11 2 e11] 78)).heap.size, 0, none⟩) ([⟨0, none, 0, []⟩, ⟨7, none, 0, []⟩, ⟨0, some ⟨WX.heap.size, 0, none⟩, 1, [(⟨some ⟨kx, 0, none⟩, 1, [97], r11, e11, [b1 p11 q11 120, b1 s11 t11 121]⟩ : PrV)]⟩, ⟨6, none, 0, []⟩] : List xB_) := res_at _ (zg_.new ((WX).alloc (.cells #[.slice (some ⟨kx, 0, none⟩) 1 1, .slice r11 2 e11] 78)) #[.int .i64 0, .slice none 0 0, .int .i64 7, .slice none 0 0, .int .i64 0, .slice (some ⟨WX.heap.size, 0, none⟩) 1 1, .int .i64 6, .slice none 0 0] 81) rfl (by intro q hq; simp only [List.mem_cons, List.not_mem_nil, or_false] at hq; rcases hq with rfl | rfl | rfl | rfl; exact yn_ _ _; exact yn_ _ _; exact hp0; exact yn_ _ _)
 have hok : ∀ q ∈ ([⟨0, none, 0, []⟩, ⟨7, none, 0, []⟩, ⟨0, some ⟨WX.heap.size, 0, none⟩, 1, [(⟨some ⟨kx, 0, none⟩, 1, [97], r11, e11, [b1 p11 q11 120, b1 s11 t11 121]⟩ : PrV)]⟩, ⟨6, none, 0, []⟩] : List xB_), ys_ q := by intro q hq; simp only [List.mem_cons, List.not_mem_nil, or_false] at hq; rcases hq with rfl | rfl | rfl | rfl; exact ⟨Nat.zero_le _, fun p hp => nomatch hp⟩; exact ⟨Nat.zero_le _, fun p hp => nomatch hp⟩; exact ⟨Nat.le_of_ble_eq_true rfl, by intro p hp; simp at hp; rcases hp with rfl; exact HO.out.1⟩; exact ⟨Nat.zero_le _, fun p hp => nomatch hp⟩
 have key := xd_ a1 _ rs1 ([⟨0, none, 0, []⟩, ⟨7, none, 0, []⟩, ⟨0, some ⟨WX.heap.size, 0, none⟩, 1, [(⟨some ⟨kx, 0, none⟩, 1, [97], r11, e11, [b1 p11 q11 120, b1 s11 t11 121]⟩ : PrV)]⟩, ⟨6, none, 0, []⟩] : List xB_) 4 c1 4 HL1.out rfl Xt4 HR1.out.2.1 hok (HR1.out.1.trans rfl) (((WX).alloc (.cells #[.slice (some ⟨kx, 0, none⟩) 1 1, .slice r11 2 e11] 78)).alloc (.cells #[.int .i64 0, .slice none 0 0, .int .i64 7, .slice none 0 0, .int .i64 0, .slice (some ⟨WX.heap.size, 0, none⟩) 1 1, .int .i64 6, .slice none 0 0] 81)) (HF.out.1.below hXX) hm
 try simp only [World.size_alloc] at key
 refine key.mono ?_; clear key; rintro r v1 ⟨rfl, hb⟩
 have hb : Below (((WX).alloc (.cells #[.slice (some ⟨kx, 0, none⟩) 1 1, .slice r11 2 e11] 78)).alloc (.cells #[.int .i64 0, .slice none 0 0, .int .i64 7, .slice none 0 0, .int .i64 0, .slice (some ⟨WX.heap.size, 0, none⟩) 1 1, .int .i64 6, .slice none 0 0] 81)).heap.size (((WX).alloc (.cells #[.slice (some ⟨kx, 0, none⟩) 1 1, .slice r11 2 e11] 78)).alloc (.cells #[.int .i64 0, .slice none 0 0, .int .i64 7, .slice none 0 0, .int .i64 0, .slice (some ⟨WX.heap.size, 0, none⟩) 1 1, .int .i64 6, .slice none 0 0] 81)) v1 := hb
 replace HX := hid (za_ hXX hb)
 have HNv1 := hid (za_ hcw hb)
 replace cx0 := tcb (za_ hcw hb) cx0; replace cx1 := tcb (za_ hcw hb) cx1; replace cy0 := tcb (za_ hcw hb) cy0; replace cy1 := tcb (za_ hcw hb) cy1
 have dx0 := ((bl1 v1 (.cells #[.slice (some ⟨ky, 0, none⟩) 1 1, .slice r12 2 e12, .slice (some ⟨kx, 0, none⟩) 1 1, .slice r11 2 e11] 78)).cell (World.block_lt_of_cell? _ _ cx0)).trans cx0; have dx1 := ((bl1 v1 (.cells #[.slice (some ⟨ky, 0, none⟩) 1 1, .slice r12 2 e12, .slice (some ⟨kx, 0, none⟩) 1 1, .slice r11 2 e11] 78)).cell (World.block_lt_of_cell? _ _ cx1)).trans cx1
 clear hb hcw hXX hm hok hzl hz0 hp0
 go_wp2_with fail
 have hz0 := bl1 (v1) (.cells #[.slice (some ⟨ky, 0, none⟩) 1 1, .slice r12 2 e12, .slice (some ⟨kx, 0, none⟩) 1 1, .slice r11 2 e11] 78)
 have hz1 := bl1 ((v1).alloc (.cells #[.slice (some ⟨ky, 0, none⟩) 1 1, .slice r12 2 e12, .slice (some ⟨kx, 0, none⟩) 1 1, .slice r11 2 e11] 78)) (.cells #[.slice (some ⟨kx, 0, none⟩) 1 1, .slice r11 2 e11] 78)
 have hzl := bl1 (((v1).alloc (.cells #[.slice (some ⟨ky, 0, none⟩) 1 1, .slice r12 2 e12, .slice (some ⟨kx, 0, none⟩) 1 1, .slice r11 2 e11] 78)).alloc (.cells #[.slice (some ⟨kx, 0, none⟩) 1 1, .slice r11 2 e11] 78)) (.cells #[.int .i64 0, .slice none 0 0, .int .i64 0, .slice (some ⟨v1.heap.size, 0, none⟩) 2 2, .int .i64 0, .slice (some ⟨v1.heap.size + 1, 0, none⟩) 1 1] 81)
 have hcw := (za_ (za_ hz0 hz1) hzl)
 have hXX := za_ HX.out hcw
 have hp0 : zp_ ((((v1).alloc (.cells #[.slice (some ⟨ky, 0, none⟩) 1 1, .slice r12 2 e12, .slice (some ⟨kx, 0, none⟩) 1 1, .slice r11 2 e11] 78)).alloc (.cells #[.slice (some ⟨kx, 0, none⟩) 1 1, .slice r11 2 e11] 78)).alloc (.cells #[.int .i64 0, .slice none 0 0, .int .i64 0, .slice (some ⟨v1.heap.size, 0, none⟩) 2 2, .int .i64 0, .slice (some ⟨v1.heap.size + 1, 0, none⟩) 1 1] 81)) (some ⟨v1.heap.size, 0, none⟩) [(⟨some ⟨ky, 0, none⟩, 1, [98], r12, e12, [b1 p12 q12 120, b1 s12 t12 119]⟩ : PrV), (⟨some ⟨kx, 0, none⟩, 1, [97], r11, e11, [b1 p11 q11 120, b1 s11 t11 121]⟩ : PrV)] := by have h := jY_ (W := (((v1).alloc (.cells #[.slice (some ⟨ky, 0, none⟩) 1 1, .slice r12 2 e12, .slice (some ⟨kx, 0, none⟩) 1 1, .slice r11 2 e11] 78)).alloc (.cells #[.slice (some ⟨kx, 0, none⟩) 1 1, .slice r11 2 e11] 78)).alloc (.cells #[.int .i64 0, .slice none 0 0, .int .i64 0, .slice (some ⟨v1.heap.size, 0, none⟩) 2 2, .int .i64 0, .slice (some ⟨v1.heap.size + 1, 0, none⟩) 1 1] 81)) (B := (v1).heap.size) [(⟨some ⟨ky, 0, none⟩, 1, [98], r12, e12, [b1 p12 q12 120, b1 s12 t12 119]⟩ : PrV), (⟨some ⟨kx, 0, none⟩, 1, [97], r11, e11, [b1 p11 q11 120, b1 s11 t11 121]⟩ : PrV)] ((zg_.new (v1) #[.slice (some ⟨ky, 0, none⟩) 1 1, .slice r12 2 e12, .slice (some ⟨kx, 0, none⟩) 1 1, .slice r11 2 e11] 78).below (za_ hz1 hzl)) rfl (by intro q hq; simp only [List.mem_cons, List.not_mem_nil, or_false] at hq; rcases hq with rfl | rfl; exact ⟨HF.out.2.2.2.2.2.2.2.1.below hXX, HF.out.2.2.2.2.2.2.2.2.below hXX⟩; exact ⟨HF.out.2.2.2.2.2.1.below hXX, HF.out.2.2.2.2.2.2.1.below hXX⟩); (try simp only [World.size_alloc] at h); exact h
 have hp1 : zp_ ((((v1).alloc (.cells #[.slice (some ⟨ky, 0, none⟩) 1 1, .slice r12 2 e12, .slice (some ⟨kx, 0, none⟩) 1 1, .slice r11 2 e11] 78)).alloc (.cells #[.slice (some ⟨kx, 0, none⟩) 1 1, .slice r11 2 e11] 78)).alloc (.cells #[.int .i64 0, .slice none 0 0, .int .i64 0, .slice (some ⟨v1.heap.size, 0, none⟩) 2 2, .int .i64 0, .slice (some ⟨v1.heap.size + 1, 0, none⟩) 1 1] 81)) (some ⟨v1.heap.size + 1, 0, none⟩) [(⟨some ⟨kx, 0, none⟩, 1, [97], r11, e11, [b1 p11 q11 120, b1 s11 t11 121]⟩ : PrV)] := by have h := jY_ (W := (((v1).alloc (.cells #[.slice (some ⟨ky, 0, none⟩) 1 1, .slice r12 2 e12, .slice (some ⟨kx, 0, none⟩) 1 1, .slice r11 2 e11] 78)).alloc (.cells #[.slice (some ⟨kx, 0, none⟩) 1 1, .slice r11 2 e11] 78)).alloc (.cells #[.int .i64 0, .slice none 0 0, .int .i64 0, .slice (some ⟨v1.heap.size, 0, none⟩) 2 2, .int .i64 0, .slice (some ⟨v1.heap.size + 1, 0, none⟩) 1 1] 81)) (B := ((v1).alloc (.cells #[.slice (some ⟨ky, 0, none⟩) 1 1, .slice r12 2 e12, .slice (some ⟨kx, 0, none⟩) 1 1, .slice r11 2 e11] 78)).heap.size) [(⟨some ⟨kx, 0, none⟩, 1, [97], r11, e11, [b1 p11 q11 120, b1 s11 t11 121]⟩ : PrV)] ((zg_.new ((v1).alloc (.cells #[.slice (some ⟨ky, 0, none⟩) 1 1, .slice r12 2 e12, .slice (some ⟨kx, 0, none⟩) 1 1, .slice r11 2 e11] 78)) #[.slice (some ⟨kx, 0, none⟩) 1 1, .slice r11 2 e11] 78).below hzl) rfl Xt19; (try simp only [World.size_alloc] at h); exact h
 have hm : jL_ ((((v1).alloc (.cells #[.slice (some ⟨ky, 0, none⟩) 1 1, .slice r12 2 e12, .slice (some ⟨kx, 0, none⟩) 1 1, .slice r11 2 e11] 78)).alloc (.cells #[.slice (some ⟨kx, 0, none⟩) 1 1, .slice r11 2 e11] 78)).alloc (.cells #[.int .i64 0, .slice none 0 0, .int .i64 0, .slice (some ⟨v1.heap.size, 0, none⟩) 2 2, .int .i64 0, .slice (some ⟨v1.heap.size + 1, 0, none⟩) 1 1] 81)) (some ⟨(((v1).alloc (.cells #[.slice (some ⟨ky, 0, none⟩) 1 1, .slice r12 2 e12, .slice (some ⟨kx, 0, none⟩) 1 1, .slice r11 2 e11] 78)).alloc (.cells #[.slice (some ⟨kx, 0, none⟩) 1 1, .slice r11 2 e11] 78)).heap.size, 0, none⟩) ([⟨0, none, 0, []⟩, ⟨0, some ⟨v1.heap.size, 0, none⟩, 2, [(⟨some ⟨ky, 0, none⟩, 1, [98], r12, e12, [b1 p12 q12 120, b1 s12 t12 119]⟩ : PrV), (⟨some ⟨kx, 0, none⟩, 1, [97], r11, e11, [b1 p11 q11 120, b1 s11 t11 121]⟩ : PrV)]⟩, ⟨0, some ⟨v1.heap.size + 1, 0, none⟩, 1, [(⟨some ⟨kx, 0, none⟩, 1, [97], r11, e11, [b1 p11 q11 120, b1 s11 t11 121]⟩ : PrV)]⟩] : List xB_) := res_at _ (zg_.new (((v1).alloc (.cells #[.slice (some ⟨ky, 0, none⟩) 1 1, .slice r12 2 e12, .slice (some ⟨kx, 0, none⟩) 1 1, .slice r11 2 e11] 78)).alloc (.cells #[.slice (some ⟨kx, 0, none⟩) 1 1, .slice r11 2 e11] 78)) #[.int .i64 0, .slice none 0 0, .int .i64 0, .slice (some ⟨v1.heap.size, 0, none⟩) 2 2, .int .i64 0, .slice (some ⟨v1.heap.size + 1, 0, none⟩) 1 1] 81) rfl (by intro q hq; simp only [List.mem_cons, List.not_mem_nil, or_false] at hq; rcases hq with rfl | rfl | rfl; exact yn_ _ _; exact hp0; exact hp1)
 have hok : ∀ q ∈ ([⟨0, none, 0, []⟩, ⟨0, some ⟨v1.heap.size, 0, none⟩, 2, [(⟨some ⟨ky, 0, none⟩, 1, [98], r12, e12, [b1 p12 q12 120, b1 s12 t12 119]⟩ : PrV), (⟨some ⟨kx, 0, none⟩, 1, [97], r11, e11, [b1 p11 q11 120, b1 s11 t11 121]⟩ : PrV)]⟩, ⟨0, some ⟨v1.heap.size + 1, 0, none⟩, 1, [(⟨some ⟨kx, 0, none⟩, 1, [97], r11, e11, [b1 p11 q11 120, b1 s11 t11 121]⟩ : PrV)]⟩] : List xB_), ys_ q := by intro q hq; simp only [List.mem_cons, List.not_mem_nil, or_false] at hq; rcases hq with rfl | rfl | rfl; exact ⟨Nat.zero_le _, fun p hp => nomatch hp⟩; exact ⟨Nat.le_of_ble_eq_true rfl, by intro p hp; simp at hp; rcases hp with rfl | rfl; exact HO.out.2; exact HO.out.1⟩; exact ⟨Nat.le_of_ble_eq_true rfl, by intro p hp; simp at hp; rcases hp with rfl; exact HO.out.1⟩
 have key := xd_ a2 _ rs2 ([⟨0, none, 0, []⟩, ⟨0, some ⟨v1.heap.size, 0, none⟩, 2, [(⟨some ⟨ky, 0, none⟩, 1, [98], r12, e12, [b1 p12 q12 120, b1 s12 t12 119]⟩ : PrV), (⟨some ⟨kx, 0, none⟩, 1, [97], r11, e11, [b1 p11 q11 120, b1 s11 t11 121]⟩ : PrV)]⟩, ⟨0, some ⟨v1.heap.size + 1, 0, none⟩, 1, [(⟨some ⟨kx, 0, none⟩, 1, [97], r11, e11, [b1 p11 q11 120, b1 s11 t11 121]⟩ : PrV)]⟩] : List xB_) 3 c2 3 HL2.out rfl Xt4 HR2.out.2.1 hok (HR2.out.1.trans rfl) ((((v1).alloc (.cells #[.slice (some ⟨ky, 0, none⟩) 1 1, .slice r12 2 e12, .slice (some ⟨kx, 0, none⟩) 1 1, .slice r11 2 e11] 78)).alloc (.cells #[.slice (some ⟨kx, 0, none⟩) 1 1, .slice r11 2 e11] 78)).alloc (.cells #[.int .i64 0, .slice none 0 0, .int .i64 0, .slice (some ⟨v1.heap.size, 0, none⟩) 2 2, .int .i64 0, .slice (some ⟨v1.heap.size + 1, 0, none⟩) 1 1] 81)) (HF.out.2.1.below hXX) hm
 try simp only [World.size_alloc] at key
 refine key.mono ?_; clear key; rintro r v2 ⟨rfl, hb⟩
 have hb : Below ((((v1).alloc (.cells #[.slice (some ⟨ky, 0, none⟩) 1 1, .slice r12 2 e12, .slice (some ⟨kx, 0, none⟩) 1 1, .slice r11 2 e11] 78)).alloc (.cells #[.slice (some ⟨kx, 0, none⟩) 1 1, .slice r11 2 e11] 78)).alloc (.cells #[.int .i64 0, .slice none 0 0, .int .i64 0, .slice (some ⟨v1.heap.size, 0, none⟩) 2 2, .int .i64 0, .slice (some ⟨v1.heap.size + 1, 0, none⟩) 1 1] 81)).heap.size ((((v1).alloc (.cells #[.slice (some ⟨ky, 0, none⟩) 1 1, .slice r12 2 e12, .slice (some ⟨kx, 0, none⟩) 1 1, .slice r11 2 e11] 78)).alloc (.cells #[.slice (some ⟨kx, 0, none⟩) 1 1, .slice r11 2 e11] 78)).alloc (.cells #[.int .i64 0, .slice none 0 0, .int .i64 0, .slice (some ⟨v1.heap.size, 0, none⟩) 2 2, .int .i64 0, .slice (some ⟨v1.heap.size + 1, 0, none⟩) 1 1] 81)) v2 := hb
 replace HX := hid (za_ hXX hb)
 have HNv2 := hid (za_ hcw hb)
 replace cx0 := tcb (za_ hcw hb) cx0; replace cx1 := tcb (za_ hcw hb) cx1; replace cy0 := tcb (za_ hcw hb) cy0; replace cy1 := tcb (za_ hcw hb) cy1
 clear hb hcw hXX hm hok hzl hz0 hp0 hz1 hp1
 go_wp2_with fail
 have hzl := bl1 (v2) (.cells #[.int .i64 0, .slice none 0 0, .int .i64 6, .slice none 0 0] 81)
 have hcw := hzl
 have hXX := za_ HX.out hcw
 have hm : jL_ ((v2).alloc (.cells #[.int .i64 0, .slice none 0 0, .int .i64 6, .slice none 0 0] 81)) (some ⟨(v2).heap.size, 0, none⟩) ([⟨0, none, 0, []⟩, ⟨6, none, 0, []⟩] : List xB_) := res_at _ (zg_.new (v2) #[.int .i64 0, .slice none 0 0, .int .i64 6, .slice none 0 0] 81) rfl (by intro q hq; simp only [List.mem_cons, List.not_mem_nil, or_false] at hq; rcases hq with rfl | rfl; exact yn_ _ _; exact yn_ _ _)
 have hok : ∀ q ∈ ([⟨0, none, 0, []⟩, ⟨6, none, 0, []⟩] : List xB_), ys_ q := by intro q hq; simp only [List.mem_cons, List.not_mem_nil, or_false] at hq; rcases hq with rfl | rfl; exact ⟨Nat.zero_le _, fun p hp => nomatch hp⟩; exact ⟨Nat.zero_le _, fun p hp => nomatch hp⟩
 have key := xd_ a3 _ rs3 ([⟨0, none, 0, []⟩, ⟨6, none, 0, []⟩] : List xB_) 2 c3 2 HL3.out rfl Xt4 HR3.out.2.1 hok (HR3.out.1.trans rfl) ((v2).alloc (.cells #[.int .i64 0, .slice none 0 0, .int .i64 6, .slice none 0 0] 81)) (HF.out.2.2.1.below hXX) hm
 try simp only [World.size_alloc] at key
 refine key.mono ?_; clear key; rintro r v3 ⟨rfl, hb⟩
 have hb : Below ((v2).alloc (.cells #[.int .i64 0, .slice none 0 0, .int .i64 6, .slice none 0 0] 81)).heap.size ((v2).alloc (.cells #[.int .i64 0, .slice none 0 0, .int .i64 6, .slice none 0 0] 81)) v3 := hb
 replace HX := hid (za_ hXX hb)
 have HNv3 := hid (za_ hcw hb)
 replace cx0 := tcb (za_ hcw hb) cx0; replace cx1 := tcb (za_ hcw hb) cx1; replace cy0 := tcb (za_ hcw hb) cy0; replace cy1 := tcb (za_ hcw hb) cy1
 clear hb hcw hXX hm hok hzl 
 go_wp2_with fail
 have hl9 : R9.length = 2 := by have h := congrArg List.length HGV.out.1; rw [List.length_map] at h; exact h
 have key := qS_ ga r11 R9 [b1 p11 q11 120, b1 s11 t11 121] 2 2 gc e11 hl9 rfl Xt4 (fun p hp => by have h : p.bs ∈ R9.map P1.bs := List.mem_map.2 ⟨p, hp, rfl⟩; rw [HGV.out.1] at h; simp at h; rcases h with h | h <;> rw [h] <;> exact jk_ rfl) Xt30 v3 (HF.out.2.2.2.2.1.below HX.out) (HF.out.2.2.2.2.2.2.1.below HX.out)
 rw [show eqB R9 [b1 p11 q11 120, b1 s11 t11 121] = true from decide_eq_true (HGV.out.1.trans rfl)] at key
 refine key.mono ?_; clear key hl9; rintro r v4 ⟨rfl, hb⟩
 replace HX := hid (za_ HX.out hb)
 clear hb cx0 cx1 cy0 cy1 dx0 dx1
 go_wp2_with fail
 have hz0 := bl1 v4 (.cells #[.int .u8 99] 5 (1, 2))
 have hz1 := bl1 (v4.alloc (.cells #[.int .u8 99] 5 (1, 2))) (.cells #[.int .i64 0, .slice (some ⟨v4.heap.size, 0, none⟩) 1 1, .slice none 0 0] 84)
 have hk : Ls .u8 ((v4.alloc (.cells #[.int .u8 99] 5 (1, 2))).alloc (.cells #[.int .i64 0, .slice (some ⟨v4.heap.size, 0, none⟩) 1 1, .slice none 0 0] 84)) (some ⟨v4.heap.size, 0, none⟩) 1 [99] := (QS_ [99] (World.alloc_heap_new v4 (.cells #[.int .u8 99] 5 (1, 2))) rfl).below hz1
 have hwr : WrR ((v4.alloc (.cells #[.int .u8 99] 5 (1, 2))).alloc (.cells #[.int .i64 0, .slice (some ⟨v4.heap.size, 0, none⟩) 1 1, .slice none 0 0] 84)) (some ⟨(v4.alloc (.cells #[.int .u8 99] 5 (1, 2))).heap.size, 0, none⟩) [(⟨0, some ⟨v4.heap.size, 0, none⟩, 1, [99], ⟨none, 0, []⟩⟩ : WrV)] := fun k q hq => by
  have hb := zg_.new (v4.alloc (.cells #[.int .u8 99] 5 (1, 2))) #[.int .i64 0, .slice (some ⟨v4.heap.size, 0, none⟩) 1 1, .slice none 0 0] 84
  match k, hq with
  | 0, hq =>
   cases hq
   exact ⟨_, 0, rfl, hb.cell 0, hb.cell 1, hb.cell 2, hk, fun k p hp => by have hp : ([] : List P1)[k]? = some p := hp; simp at hp⟩
  | k + 1, hq => simp at hq
 have hyR : y.r.R = [] := by have h : y.r.R.map P1.bs = [] := congrArg (fun z => z.2.2) HW.out.1; exact jz_ h
 have key := xE_ wa (some ⟨(v4.alloc (.cells #[.int .u8 99] 5 (1, 2))).heap.size, 0, none⟩) [y.W] [(⟨0, some ⟨v4.heap.size, 0, none⟩, 1, [99], ⟨none, 0, []⟩⟩ : WrV)] 1 wc 1 rfl Xt4 (by show [((y.t : Int), y.K, y.r.P)] = [(0, [99], [])]; have h1 : y.t = 0 := congrArg (fun z => z.1) HW.out.1; have h2 : y.K = [99] := congrArg (fun z => z.2.1) HW.out.1; have h3 : y.r.P = [] := congrArg (fun z => z.2.2) HW.out.1; rw [h1, h2, h3]; rfl) (fun p hp => by rw [List.mem_singleton] at hp; subst hp; show y.r.R.length <= 1000000 /\ ∀ q ∈ y.r.R, Byt q.bs; rw [hyR]; exact ⟨Nat.zero_le _, fun q hq => nomatch hq⟩) (fun p hp => by rw [List.mem_singleton] at hp; subst hp; exact fun q hq => nomatch hq) ((v4.alloc (.cells #[.int .u8 99] 5 (1, 2))).alloc (.cells #[.int .i64 0, .slice (some ⟨v4.heap.size, 0, none⟩) 1 1, .slice none 0 0] 84)) (HF.out.2.2.2.1.below (za_ HX.out (za_ hz0 hz1))) hwr
 replace key := key.mono (fun r w' h => (⟨h.1, h.2⟩ : r = .returned (.bool true) /\ Bel ((v4.alloc (.cells #[.int .u8 99] 5 (1, 2))).alloc (.cells #[.int .i64 0, .slice (some ⟨v4.heap.size, 0, none⟩) 1 1, .slice none 0 0] 84)) w'))
 simp only [World.size_alloc] at key
 refine key.mono ?_; clear key; rintro r v5 ⟨rfl, hb⟩
 have hb : Below ((v4.alloc (.cells #[.int .u8 99] 5 (1, 2))).alloc (.cells #[.int .i64 0, .slice (some ⟨v4.heap.size, 0, none⟩) 1 1, .slice none 0 0] 84)).heap.size ((v4.alloc (.cells #[.int .u8 99] 5 (1, 2))).alloc (.cells #[.int .i64 0, .slice (some ⟨v4.heap.size, 0, none⟩) 1 1, .slice none 0 0] 84)) v5 := hb
 have HE := hid (za_ HBX.out (za_ HX.out (za_ (za_ hz0 hz1) hb)))
 clear hb hz0 hz1 hk hwr hyR
 go_wp2_with fail
 go_ret
 exact ⟨rfl, HE.out⟩
def tbcl (x : TbV) : List Value := [.slice x.pa x.P.length x.pc]
theorem tbcl_len (x : TbV) : (tbcl x).length = 1 := rfl
def TbG (x : TbV) : Prop := (∀ p ∈ x.P, okK p) /\ x.P.length <= x.pc /\ (x.pa = none -> x.pc = 0)
def TabsR (w : World) (T : List (List Pr)) (r : Ending) (w' : World) : Prop := ∃ a c Ts, r = .returned (.slice a Ts.length c) /\ Below w.heap.size w w' /\ Ts.map tbC = T /\ (∀ x ∈ Ts, TbG x) /\ ∀ S : Nat -> Prop, (∀ k, S k -> k < w.heap.size) -> zs_ S w' fun W' => TbR W' a Ts
theorem own_tb {W : World} {base n c : Nat} {a : Option Addr} {L : List TbV} (h : W.ownsRow base 69 1 (.slice a n c) n (cellsOf tbcl L)) (hn : L.length = n) (ok : ∀ x ∈ L, zp_ W x.pa x.P) : TbR W a L := fun k y hy => by
 obtain ⟨g, rfl, _, hc⟩ := zt_ tbcl_len Xt0 h hn k y hy
 refine ⟨g, 0, rfl, ?_, ok y (List.mem_of_getElem? hy)⟩
 have := hc 0 Xt0; rw [Nat.add_zero, Nat.mul_one] at this; rw [Nat.zero_add]; exact this
theorem mtabs_law {S : Nat -> Prop} {m : Md} {w : World} (h : MdR S w m) (hS : ∀ k, S k -> k < w.heap.size) (hf : ∀ z ∈ m.tabs, z.2.length <= 900000) :
  Calls prog 28 #[.pointer (some ⟨m.p, 0, none⟩)] w (TabsR w m.P) := by
 have HM := hid (zX_ h)
 have HH := hid h
 have HSS := hid hS
 have HF := hid hf
 have hfew := h.few
 have hfi : (m.tabs.length : Int) <= 4 := by omega
 have hc := h.c
 clear h hS hf
 go_enter func28, ntmps28
 go_wp2_with (go_at_call 51; refine HM.out.mono ?_; rintro e w' ⟨rfl, rfl⟩)
 clear hc
 go_loopw [3, 12] (fun v i wr => ∃ (k : Nat) (Ts : List TbV), k <= m.tabs.length /\ i = .int .i64 (k : Int) /\ Hid (wr.ownsRow w.heap.size 69 1 v k (cellsOf tbcl Ts)) /\ Hid (Ts.length = k) /\ Hid (Ts.map tbC = m.P.take k) /\ Hid (∀ x ∈ Ts, TbG x) /\ Hid (∀ x ∈ Ts, ∀ S' : Nat -> Prop, (∀ j, S' j -> j < w.heap.size ∨ v.ownBlock = some j) -> zs_ S' wr fun W' => zp_ W' x.pa x.P) /\ Hid (Below w.heap.size w wr)) (fun _ i _ => m.tabs.length - (intOf i).toNat)
 case atStart => exact ⟨0, [], by omega, rfl, hid (World.ownsRow_nil _ _ _ _), hid rfl, hid Xt5, hid (fun x hx => nomatch hx), hid (fun x hx => nomatch hx), hid (Below.refl _ _)⟩
 case round =>
  obtain ⟨k, Ts, hk, rfl, HOV, HL, HT, HOK, HPS, HBR⟩ := hrel
  by_cases hlt : k < m.tabs.length
  ·have d1 : (k : Int) < (m.tabs.length : Int) := by omega
   obtain ⟨va, vc, hv⟩ := zd_ HOV.out
   subst hv
   go_wp2_with fail
   refine (jB_ wr _ _ rfl (k : Int)).mono ?_; rintro r w5 ⟨rfl, x1, x2, x3, b5⟩
   have HB5 := hid b5
   have HX := hid (And.intro x1 (And.intro x2 x3))
   have HLT := hid hlt
   clear x1 x2 x3 b5
   go_wp2_with fail
   have HB05 := hid (za_ HBR.out HB5.out)
   have hpl : (m.P.getD k []).length <= 2000000 := by
    obtain ⟨z, hz⟩ : ∃ z, m.tabs[k]? = some z := ⟨_, List.getElem?_eq_getElem hlt⟩
    have h1 := HF.out z (List.mem_of_getElem? hz)
    have h2 : m.P.getD k [] = yh_ z.2 := by rw [List.getD_eq_getElem?_getD]; unfold Md.P; rw [List.getElem?_map, hz]; rfl
    rw [h2]; unfold yh_; rw [List.length_map]; omega
   refine (tabcol_law (HH.out.below HB05.out) (fun j hj => Nat.lt_of_lt_of_le (HSS.out j hj) HB05.out.size) _ _ _ k HX.out.1 HX.out.2.1 HX.out.2.2 HLT.out HF.out hpl).mono ?_; rintro r w9 ⟨pa, pc, P, rfl, hb9, q1, q2, q3, q4, q5, q6⟩
   have HQ := hid (show P.map prC = m.P.getD k [] /\ TbG ⟨pa, pc, P⟩ from ⟨q1, q2, q3, q4⟩)
   have HB9 := hid (za_ HB5.out hb9)
   have HS9 := hid (fun (S' : Nat -> Prop) (hS' : ∀ j, S' j -> j < wr.heap.size) => q6 S' (fun j hj => Nat.lt_of_lt_of_le (hS' j hj) HB5.out.size))
   clear hpl hb9 q1 q2 q3 q4 q5 q6 HX HB05
   have HP3 := hid (show k + 1 <= 2097152 by omega)
   go_wp2_with (at_builtin; refine zv_ ae_tab rfl _ _ rfl w.heap.size (.slice va k vc) k (cellsOf tbcl Ts) rfl ((ze_ HOV.out HB9.out).alloc _) ⟨w9.heap.size, 0, none⟩ 1 1 [.slice pa P.length pc] rfl rfl (zx_ w9 _ _ _ rfl) Xt32 HP3.out (Nat.le_trans HBR.out.size (Nat.le_trans HB9.out.size Xt5)) ?_; intro v8 w8 hown8 hgrow8 hat8; have HO8 := hid hown8; have HG8 := hid hgrow8; have HAT8 := hid hat8; clear hown8 hgrow8 hat8)
   have HB91 := hid (za_ HB9.out (bl1 w9 (.cells #[.slice pa P.length pc] 69)))
   go_roundw
   case rel =>
    have hob : Off (fun j => Value.ownBlock (.slice va k vc) = some j) wr w8 := (Off.of HB91.out).trans (Off.of_row HG8.out)
    have hvlt : ∀ b, Value.ownBlock (.slice va k vc) = some b -> b < wr.heap.size /\ w.heap.size <= b := fun b hb => ⟨(zb_ HOV.out hb).2.1, (zb_ HOV.out hb).1⟩
    have hnew : ∀ b, v8.ownBlock = some b -> Value.ownBlock (.slice va k vc) = some b ∨ w9.heap.size + 1 = b := fun b hb => by
     exact Xb91
    refine ⟨k + 1, Ts ++ [⟨pa, pc, P⟩], by omega, by go_num, hid ?_, hid ?_, hid ?_, hid ?_, hid ?_, hid ?_⟩
    ·rw [zq_]; exact HO8.out
    ·rw [List.length_append, HL.out]; rfl
    ·rw [List.map_append, HT.out, List.take_add_one]
     have h2 : m.P[k]? = some (m.P.getD k []) := by
      have : k < m.P.length := by rw [Md.P_len]; exact HLT.out
      rw [List.getD_eq_getElem?_getD, List.getElem?_eq_getElem this]; rfl
     rw [h2]
     show _ ++ [P.map prC] = _
     rw [HQ.out.1]; rfl
    ·intro x hx
     rcases List.mem_append.1 hx with hx | hx
     ·exact HOK.out x hx
     ·rw [List.mem_singleton] at hx; subst hx; exact HQ.out.2
    ·intro x hx S' hS'
     rcases List.mem_append.1 hx with hx | hx
     ·refine (HPS.out x hx (fun j => j < w.heap.size ∨ Value.ownBlock (.slice va k vc) = some j) (fun j hj => hj)).step (hob.mono fun j hj => .inr hj) (fun j hj => ?_)
      rcases hS' j hj with hj | hj
      ·exact .inl (.inl hj)
      ·rcases hnew j hj with hj | hj
       ·exact .inl (.inr hj)
       ·have := HB9.out.size; exact .inr Xt0
     ·rw [List.mem_singleton] at hx
      subst hx
      have h1 := HS9.out (fun j => j < wr.heap.size) (fun j hj => hj)
      have o98 : Off (fun j => j < wr.heap.size) w9 w8 := (Off.of (bl1 w9 (.cells #[.slice pa P.length pc] 69))).trans ((Off.of_row HG8.out).mono fun j hj => (hvlt j hj).1)
      refine h1.step o98 (fun j hj => ?_)
      rcases hS' j hj with hj | hj
      ·have := HBR.out.size; exact .inl (by show j < wr.heap.size; omega)
      ·rcases hnew j hj with hj | hj
       ·exact .inl (hvlt j hj).1
       ·exact .inr Xt0
    ·exact Off.below HBR.out hob HBR.out.size (fun j hj => (hvlt j hj).2)
   case measure => simp [intOf]; omega
  ·have d1 : ¬ (k : Int) < (m.tabs.length : Int) := by omega
   obtain ⟨va, vc, hv⟩ := zd_ HOV.out
   subst hv
   have HKE := hid (show k = m.tabs.length by omega)
   go_wp2_with fail
   go_ret
   have hTl := HL.out
   refine ⟨va, vc, Ts, by show Ending.returned (.slice va k vc) = _; rw [hTl], HBR.out, ?_, HOK.out, fun S' hS' W' o => ?_⟩
   ·rw [HT.out, HKE.out, ← Md.P_len, List.take_of_length_le (Nat.le_refl _)]
   ·exact own_tb (zm_ HOV.out o hS') hTl fun x hx => HPS.out x hx S' (fun j hj => .inl (hS' j hj)) W' o
theorem mid69 (a : Option Addr) (P : List PrV) (n c i : Nat) (hn : P.length = n) (hi : i < n) (hnc : n <= c) (W : World) (hP : zp_ W a P) :
  ∃ a', (∀ W', (Instr.slice 69 (.slice a n c) (some (.int .i64 (i : Int))) (some (.int .i64 ((i : Int) + 1))) .none).run prog W' = .ok (.slice a' 1 (c - i)) W') /\ (∀ W', zp_ W' a P -> zp_ W' a' ((P.drop i).take 1)) /\ (if c = i then a else a.map fun x => x.add (i * 2)) = a' := by
 obtain ⟨x, hx⟩ : ∃ x, P[i]? = some x := ⟨_, List.getElem?_eq_getElem Xt0⟩
 obtain ⟨b, off, rfl, _⟩ := hP i x hx
 obtain ⟨i0, hi0, hz0, hz1, hz2⟩ := info_parts QV_
 have hel : prog.elem 69 = 78 := by simp [Program.elem, underlying69]
 have hs : ∀ W', ((sizeOf (prog.elem 69)).run prog W') = .ok 2 W' := fun W' => by rw [hel]; simp [sizeOf, typeInfo, hi0, hz1]
 refine ⟨some ⟨b, off + i * 2, none⟩, fun W' => ?_, fun W' h => (h.drop i).take 1, by rw [if_neg Xt0]; simp [zG_]⟩
 rw [run_slice_lh (P := prog) (w := W') 69 (some ⟨b, off, none⟩) n c Xt50 .i64 .i64 (i : Int) ((i : Int) + 1) Xt0 Xt0 Xt0, hs]
 have h2 : ¬ (c - i = 0) := by omega
 have h3 : ((i : Int) + 1).toNat - (i : Int).toNat = 1 := by omega
 have h4 : ¬ c = i := by omega
 simp [sliced, Result.andThen, h2, h3, h4, zG_]
theorem ops_own {W : World} {base n c : Nat} {a : Option Addr} {L : List zj_} (h : W.ownsRow base 74 7 (.slice a n c) n (cellsOf ocl L)) (hn : L.length = n) (ok : ∀ o ∈ L, zy_ W o) : OpsR W a L := fun k x hx => by
 obtain ⟨g, rfl, _, hc⟩ := zt_ (f := ocl) (sz := 7) (fun _ => rfl) Xt0 h hn k x hx
 refine ⟨g, 0, rfl, ⟨?_, ?_, ?_, ?_, ?_, ?_, ?_⟩, ok x (List.mem_of_getElem? hx)⟩
 ·exact Xb45
 ·exact Xb66
 ·exact Xb83
 ·have := hc 3 Xt0; rw [Nat.zero_add]; exact this
 ·have := hc 4 Xt0; rw [Nat.zero_add]; exact this
 ·have := hc 5 Xt0; rw [Nat.zero_add]; exact this
 ·have := hc 6 Xt0; rw [Nat.zero_add]; exact this
theorem okK_pr {p : PrV} (h : okK p) : Qp_ p := ⟨h.1.1, fun q hq => (h.2.2.2 q.bs (List.mem_map.2 ⟨q, hq, rfl⟩)).1, by have := h.2.2.1; rw [List.length_map] at this; omega⟩
theorem jf_ (a b : Option Addr) (L M : List PrV) (n m ca cb : Nat) (hn : L.length = n) (hm : M.length = m) (hn2 : n <= 1000000) (hm2 : m <= 1000000) (okL : ∀ x ∈ L, Qp_ x) (okM : ∀ x ∈ M, Qp_ x) (hs : L.map prC = M.map prC) (w : World) (hA : zp_ w a L) (hB : zp_ w b M) :
  Calls prog 73 #[.slice a n ca, .slice b m cb] w fun r w' => r = .returned (.bool true) /\ Bel w w' := by
 have h := yE_ a b L M n m ca cb hn hm hn2 hm2 okL okM w hA hB
 rw [decide_eq_true hs] at h
 exact h
theorem zC_.trans {a b c : Md} (h : zC_ a b) (k : zC_ b c) : zC_ a c := ⟨k.p.trans h.p, k.j.trans h.j, k.f.trans h.f⟩
end
section
open Go.Maps Go.Shelf
attribute [local go_sem] Oper.semAt_some
theorem boxes4p (w : World) (v0 v1 v2 v3 : Value) (t0 t1 t2 t3 : TypeId) : let W := (((w.alloc (.cells #[v0] t0)).alloc (.cells #[v1] t1)).alloc (.cells #[v2] t2)).alloc (.cells #[v3] t3)
  Boxed W w.heap.size t0 v0 /\ Boxed W (w.heap.size + 1) t1 v1 /\ Boxed W (w.heap.size + 1 + 1) t2 v2 /\ Boxed W (w.heap.size + 1 + 1 + 1) t3 v3 /\ Below w.heap.size w W /\ W.heap.size = w.heap.size + 4 := by
 intro W
 have b0 := Boxed.new w t0 v0
 have b1 := Boxed.new (w.alloc (.cells #[v0] t0)) t1 v1
 have b2 := Boxed.new ((w.alloc (.cells #[v0] t0)).alloc (.cells #[v1] t1)) t2 v2
 have b3 := Boxed.new (((w.alloc (.cells #[v0] t0)).alloc (.cells #[v1] t1)).alloc (.cells #[v2] t2)) t3 v3
 simp only [World.size_alloc] at b1 b2 b3
 refine ⟨((b0.alloc _).alloc _).alloc _, (b1.alloc _).alloc _, b2.alloc _, b3, ?_, by simp [W]⟩
 exact ((((Below.refl _ w).alloc (Nat.le_refl _) _).alloc Xt5 _).alloc Xt7 _).alloc Xt7 _
theorem Qp_.same {p q : PrV} (h : Qp_ p) (e : prC p = prC q) : Qp_ q := by
 have e1 : p.K = q.K := congrArg Prod.fst e
 have e2 : p.R.map P1.bs = q.R.map P1.bs := congrArg Prod.snd e
 refine ⟨e1 ▸ h.kb, fun z hz => ?_, ?_⟩
 ·have h1 : z.bs ∈ p.R.map P1.bs := by rw [e2]; exact List.mem_map.2 ⟨z, hz, rfl⟩
  obtain ⟨y, hy, e3⟩ := List.mem_map.1 h1
  rw [← e3]; exact h.rb y hy
 ·have h1 := congrArg List.length e2
  rw [List.length_map, List.length_map] at h1
  rw [← h1]; exact h.rn
structure PaI (w : World) (a : Option Addr) (n c : Nat) (most : Int) (k : Nat) (W : World) : Prop where
 b4 : Boxed W w.heap.size 69 (.slice a n c)
 b5 : Boxed W (w.heap.size + 1) 3 (.int .i64 most)
 b6 : Boxed W (w.heap.size + 1 + 1) 4 (.bool false)
 b7 : Boxed W (w.heap.size + 1 + 1 + 1) 3 (.int .i64 (k : Int))
 bel : Below w.heap.size w W
structure PaX (w : World) (W : World) : Prop where
 b6 : Boxed W (w.heap.size + 1 + 1) 4 (.bool true)
 bel : Below w.heap.size w W
theorem PaI.off {w : World} {a : Option Addr} {n c k : Nat} {most : Int} {A B : World} {S : Nat -> Prop} (h : PaI w a n c most k A) (o : Off S A B) (hS : ∀ j, S j -> w.heap.size + 4 <= j) : PaI w a n c most k B := by
 have f : ∀ {b t v}, Boxed A b t v -> b < w.heap.size + 4 -> Boxed B b t v := fun h hb => (o.block _ h.lt Xt83).trans h
 exact ⟨f h.b4 Xt0, f h.b5 Xt0, f h.b6 Xt0, f h.b7 Xt0, Off.below h.bel o h.bel.size (fun j hj => by have := hS j hj; omega)⟩
theorem PaX.off {w : World} {A B : World} {S : Nat -> Prop} (h : PaX w A) (o : Off S A B) (hS : ∀ j, S j -> w.heap.size + 4 <= j) : PaX w B :=
 ⟨(o.block _ h.b6.lt Xt83).trans h.b6, Off.below h.bel o h.bel.size (fun j hj => by have := hS j hj; omega)⟩
theorem qV_ (okp : PrV -> Prop) (hokp : ∀ p, okp p -> Qp_ p) (w : World) (Bs : Nat) (T : List Pr) (a : Option Addr) (P : List PrV) (n c : Nat) (hn : P.length = n) (hn2 : n <= 1000000) (hnc : n <= c) (hPT : P.map prC = T) (hP : zp_ w a P) (most : Int)
  (hseq : ∀ W0, Below w.heap.size w W0 -> SeqX Fence.wide 5 prog 106 #[.pointer (some ⟨Bs, 0, none⟩)] encP (KpO (W0.heap.size + 2) (fun _ => none)) (PxP okp (W0.heap.size + 2) (fun _ => none) T) T.length W0) :
  Calls prog 46 #[.func (.func 106) #[] #[.pointer (some ⟨Bs, 0, none⟩)], .slice a n c, .int .i64 most] w fun r w' => r = .returned (.bool true) /\ Below w.heap.size w w' := by
 have HSQ := hid hseq
 have HN := hid (show T.length = n by rw [← hPT, List.length_map]; exact hn)
 have HP := hid (And.intro hP (And.intro hn hPT))
 have HOK := hid hokp
 have hni : (n : Int) <= 1000000 := by omega
 clear hseq hP hn hPT hokp
 refine (callsIn_wide (n := 6)).1 ?_
 refine callsIn_of_wp_marks func46 rfl trivial ?_ rfl
 simp only [ntmps46, List.size_toArray, List.length_cons, List.length_nil, Nat.reduceAdd, Nat.reduceSub, Array.replicate_succ, Array.replicate_zero, List.push_toArray, List.append_toArray, List.nil_append, List.cons_append]
 have hnf : ∀ W : World, (binOp .eql 101 (.func (.func 106) #[] #[.pointer (some ⟨Bs, 0, none⟩)]) .nilFunc).run prog W = .ok (.bool false) W := fun W => rfl
 refine wpIn_wide.2 ?_
 go_wp2_with fail
 refine (wpIn_wide (n := 6)).1 ?_
 obtain ⟨W0, hW0⟩ := gtx (((((w.alloc (.cells #[.slice a n c] 69)).alloc (.cells #[.int .i64 most] 3)).alloc (.cells #[.bool false] 4)).alloc (.cells #[.int .i64 0] 3)))
 have h0 := boxes4p w (.slice a n c) (.int .i64 most) (.bool false) (.int .i64 0) 69 3 4 3
 rw [hW0] at h0 ⊢
 clear hW0
 obtain ⟨c4, c5, c6, c7, hb0, hsz⟩ := h0
 have hI0 : PaI w a n c most 0 W0 := ⟨c4, c5, c6, c7, hb0⟩
 have hsq := HSQ.out W0 hb0
 rw [hsz] at hsq
 clear c4 c5 c6 c7 hb0 HSQ
 rw [HN.out] at hsq
 refine jl_ rfl Xt0 (gf := 106) (lb := #[.pointer (some ⟨Bs, 0, none⟩)]) rfl trivial (enters_of func106 Xt3 rfl) hsq (fun h k => h.trans k)
  (fun W o' => KpO.put o' Xt0 rfl) (fun k x W o' h => h.kp (KpO.put o' Xt0 rfl)) (fun _ => rfl)
  (fun k W => PaI w a n c most k W) (fun _ W => PaX w W)
  (fun k A B h o => h.off o (fun j hj => by rw [hsz] at hj; omega)) (fun k A B h o => h.off o (fun j hj => by rw [hsz] at hj; omega)) hI0
  (fun p a' W => ∃ B, a' = { tmps := #[.func (.func 106) #[] #[.pointer (some ⟨Bs, 0, none⟩)], .slice a n c, .int .i64 most, undef, .pointer (some ⟨w.heap.size, 0, none⟩), .pointer (some ⟨w.heap.size + 1, 0, none⟩), .pointer (some ⟨w.heap.size + 1 + 1, 0, none⟩), .pointer (some ⟨w.heap.size + 1 + 1 + 1, 0, none⟩), .pointer (some ⟨B, 0, none⟩), .func (.func 106) #[] #[.pointer (some ⟨Bs, 0, none⟩)], .bool false, .func (.func 106) #[] #[.pointer (some ⟨Bs, 0, none⟩)], .agg (pcl p).toArray, undef, undef, undef, undef, undef, undef, undef, undef, undef, undef, undef, undef, undef, undef, undef, undef, undef, undef, undef, undef, undef, undef, undef, undef], defers := [] } /\ zg_ W B (pcl p).toArray 78 /\ w.heap.size + 6 <= B)
  (fun x a' _ A A' h o => by obtain ⟨B, h1, h2, h3⟩ := h; exact ⟨B, h1, Qk_ h2 o Xt0, h3⟩)
  ?assign ?body ?done ?stop
 case assign =>
  rintro lp k p W K hk hI hPx hK
  dsimp only [encP]
  have hbW := hPx.lies.size
  unfold pcl
  gi_wp2
  have hbl := bl1 W (.cells (pcl p).toArray 78)
  exact hK _ _ ((KeepsOthers.alloc W _).from _) (KpO.below hbl rfl) (hI.off (S := fun _ => False) (Off.of hbl) (fun _ h => h.elim)) (hPx.kp (KpO.below hbl rfl)) ⟨W.heap.size, rfl, zg_.new W _ _, hbW⟩
 case body =>
  rintro lp k p a' W hk hI hPx ⟨B, rfl, hbx, hBB⟩
  have hws : w.heap.size + 6 <= W.heap.size := by have := hbx.lt; omega
  obtain ⟨q, hq⟩ : ∃ q, P[k]? = some q := ⟨_, List.getElem?_eq_getElem (by rw [HP.out.2.1]; exact hk)⟩
  have hpq : prC p = prC q := by
   have h1 := hPx.at_
   rw [← HP.out.2.2, List.getElem?_map, hq] at h1
   simpa using h1.symm
  obtain ⟨am, hm1, hm2, hm3⟩ := mid69 a P n c k HP.out.2.1 hk hnc w HP.out.1
  have hrP : Qp_ p := HOK.out p hPx.ok
  have hdk : (P.drop k).take 1 = [q] := by
   obtain ⟨hl, e⟩ := List.getElem?_eq_some_iff.1 hq
   rw [List.drop_eq_getElem_cons hl, e]; rfl
  have hrQ : ∀ z ∈ (P.drop k).take 1, Qp_ z := fun z hz => by
   rw [hdk, List.mem_singleton] at hz
   subst hz
   exact hrP.same hpq
  have hlie := hPx.lies.now
  unfold QP at hlie
  have x0 := hbx.cell 0
  have x1 := hbx.cell 1
  unfold pcl at x0 x1
  simp only [gtA, gtB, gtC] at x0 x1
  have HC73 := hid (fun Y (b : Below W.heap.size W Y) (hx : zg_ Y W.heap.size #[.slice p.ka p.K.length p.kc, .slice p.ra p.R.length p.rc] 78) => jf_ (some ⟨W.heap.size, 0, none⟩) am [p] ((P.drop k).take 1) 1 1 1 (c - k) rfl (by rw [List.length_take, List.length_drop, HP.out.2.1]; omega) Xt0 Xt0 (fun z hz => by rw [List.mem_singleton] at hz; subst hz; exact hrP) (fun z hz => hrQ z hz) (by
   obtain ⟨hl, e⟩ := List.getElem?_eq_some_iff.1 hq
   rw [List.drop_eq_getElem_cons hl, e]
   show [prC p] = [prC q]
   rw [hpq]) Y (QJ_ p (by have m := hx.cell 0; simpa using m) (by have m := hx.cell 1; simpa using m) (hlie.1.below b) (hlie.2.below b)) (hm2 Y (HP.out.1.below (za_ hI.bel b))))
  obtain ⟨pl, hpl⟩ := gtx (p.K.length)
  obtain ⟨rl, hrl⟩ := gtx (p.R.length)
  rw [hpl, hrl] at HC73
  rw [hpl] at x0
  rw [hrl] at x1
  have c4 := hI.b4.cell
  have c7 := hI.b7.cell
  have FQ := hid (fun V (h : Below W.heap.size W V) => (⟨tcb h c7, tcb h c4, tcb h x0, tcb h x1⟩ : V.cell? ⟨w.heap.size + 1 + 1 + 1, 0, none⟩ = some (.int .i64 (k : Int)) /\ V.cell? ⟨w.heap.size, 0, none⟩ = some (.slice a n c) /\ V.cell? ⟨B, 0, none⟩ = some (.slice p.ka pl p.kc) /\ V.cell? ⟨B, 1, none⟩ = some (.slice p.ra rl p.rc)))
  have HI := hid hI
  have hkn : (k : Int) < (n : Int) := by omega
  have hkn' : ¬ (n : Int) <= (k : Int) := by omega
  have e1 : IntKind.i64.wrap ((k : Int) + 1) = (k : Int) + 1 := by rw [IntKind.wrap_i64] <;> omega
  have hkc : k + 1 <= c := by omega
  have hkk : k <= k + 1 := by omega
  have hk1k : k + 1 - k = 1 := by omega
  have HW6 := hid hws
  have HHK := hid hk
  clear hI hPx hbx hq hpq hm2 hrP hrQ hdk hlie x0 x1 c4 c7 hpl hrl hsq hI0 hws hk hBB
  gi_upto_region 6 with (fail)
  rename_i KC hKC
  refine wpIn_mono (Q := Exit.then KC (fun _ _ _ => False)) ?_ (fun e a' w' h => by cases e <;> first | exact h | exact h.elim)
  refine qK_ (S := (fun X => Below W.heap.size W X)) Xt3 (fun ⟨_, _, h⟩ => h) Xt3 ((Below.refl _ _).drew) fun hH => ?_
  refine tkr 0 rfl Xf15 ?_
  refine tkr 1 rfl Xf15 ?_
  refine tkq 2 ?_
  refine tkp 3 (.bool false) rfl (.inl ⟨by rfl, ?_⟩) ?_
  ·exact Xb17
  refine tkp 4 (.bool false) rfl (.inl ⟨by rfl, ?_⟩) ?_
  ·exact Xb17
  refine tkr 5 rfl Xf15 ?_
  refine tkr 7 rfl Xf15 ?_
  refine tkr 8 rfl Xf15 ?_
  refine tkr 9 rfl Xf15 ?_
  refine tkp 10 (.int .i64 ((k : Int) + 1)) rfl (.inl ⟨by rfl, ?_⟩) ?_
  ·intro W hSw; go_simp; try (first | with_reducible rfl | (rw [e1]; done) | (simp [e1]; done))
  refine tkp 11 (.slice am 1 (c - k)) rfl (.inl ⟨by rfl, ?_⟩) ?_
  ·intro W hSw; go_simp; try (first | with_reducible rfl | (rw [if_pos hkc, hm3, hk1k]; done) | (rw [if_pos ⟨hkk, hkc⟩, hm3, hk1k]; done) | (intro hh; omega))
  refine tk1 6 rfl fun K hK => ?_
  go_simp
  obtain ⟨wA, hwA⟩ := gty ((W.alloc (.cells #[.slice p.ka pl p.kc, .slice p.ra rl p.rc] 78)).drew)
  have HWA := hid (show zg_ wA W.heap.size #[.slice p.ka pl p.kc, .slice p.ra rl p.rc] 78 from by rw [hwA]; exact zg_.new W _ _)
  have HBA := hid (show Below W.heap.size W wA from by rw [hwA]; exact (bl1 W _).drew)
  rw [← hwA]
  clear hwA
  refine hK.out _ _ HBA.out fun hH => ?_
  refine stP ?_
  refine tk1 12 rfl fun K hK => ?_
  go_simp
  refine (HC73.out _ hH HWA.out).mono ?_; rintro r w0 ⟨rfl, hb0⟩
  have HBc := za_ hH hb0
  clear hb0
  go_wp2_with fail
  refine hK.out _ _ HBc fun hH => ?_
  clear HBc
  refine stP ?_
  refine tkp 13 (.bool false) rfl (.inl ⟨by rfl, ?_⟩) ?_
  ·exact Xb17
  refine tkp 14 (.bool false) rfl (.inl ⟨by rfl, ?_⟩) ?_
  ·exact Xb17
  refine adn ?_
  skip
  refine hKC _ _ ?_
  have HBD := hid hH
  obtain ⟨W3, hW3⟩ := gty (w0)
  rw [← hW3] at HBD ⊢
  clear hKC hH hW3 HC73 FQ HBA HWA e1
  have HI3 := hid (HI.out.off (S := fun _ => False) (Off.of HBD.out) (fun _ h => h.elim))
  have c4 := HI3.out.b4.cell
  have c5 := HI3.out.b5.cell
  have c6 := HI3.out.b6.cell
  have c7 := HI3.out.b7.cell
  have f6 := HI3.out.b6.frozen
  have f7 := HI3.out.b7.frozen
  obtain ⟨k1, hk1⟩ : ∃ i : Nat, k + 1 = i := ⟨_, rfl⟩
  have e1 : IntKind.i64.wrap ((k : Int) + 1) = (k1 : Int) := by rw [IntKind.wrap_i64] <;> omega
  have HK1 := hid hk1
  clear hk1
  have kf : KeepsFrom W0.heap.size W W3 := KeepsFrom.of_grownBy (yG_ HBD.out) (fun j e => by cases e)
  have HKF := hid kf
  have r7 := xS_ _ _ _ _ (.int .i64 (k1 : Int)) HI3.out.b7
  have o1 : ∀ {b t v}, Boxed W3 b t v -> b ≠ w.heap.size + 1 + 1 + 1 -> Boxed (W3.setCell ⟨w.heap.size + 1 + 1 + 1, 0, none⟩ (.int .i64 (k1 : Int))) b t v := fun h h1 => h.other h1 _
  have HR7 := hid (And.intro r7 (And.intro (o1 HI3.out.b4 Xt0) (And.intro (o1 HI3.out.b5 Xt0) (o1 HI3.out.b6 Xt0))))
  have HBS := hid (HI3.out.bel.setCell (p := ⟨w.heap.size + 1 + 1 + 1, 0, none⟩) (by show w.heap.size <= _ + 1 + 1 + 1; omega) (.int .i64 (k1 : Int)))
  have HKO := hid ((KpO.below HBD.out rfl).trans (KpO.set (b := w.heap.size + 4 + 2) W3 ⟨w.heap.size + 1 + 1 + 1, 0, none⟩ (.int .i64 (k1 : Int)) (by show w.heap.size + 1 + 1 + 1 < _; omega)))
  clear kf r7 o1
  by_cases q : (k1 : Int) = most
  ·have q1 : ((k1 : Int) == most) = true := by simpa using q
   have QQ := hid q
   clear q
   gi_wp2_with fail
   refine ⟨(HKF.out.trans ((KeepsOthers.setCell _ _ _).from _)).trans ((KeepsOthers.setCell _ _ _).from _), xS_ _ _ _ _ _ HR7.out.2.2.2, ?_⟩
   exact HBS.out.setCell (p := ⟨w.heap.size + 1 + 1, 0, none⟩) (by show w.heap.size <= _ + 1 + 1; omega) _
  ·have q1 : ((k1 : Int) == most) = false := by simpa using q
   have QQ := hid q
   clear q
   gi_wp2_with fail
   refine ⟨HKF.out.trans ((KeepsOthers.setCell _ _ _).from _), ?_, ⟨HR7.out.2.1, HR7.out.2.2.1, HR7.out.2.2.2, ?_, HBS.out⟩⟩
   ·exact HKO.out
   ·rw [HK1.out]; exact HR7.out.1
 case done =>
  rintro W hI hK
  have c4 := hI.b4.cell
  have c6 := hI.b6.cell
  have c7 := hI.b7.cell
  have f6 := hI.b6.frozen
  have f7 := hI.b7.frozen
  have e9 : ((n : Int) == (n : Int)) = true := by simp
  rw [hsz] at hK ⊢
  gi_wp2_with fail
  go_wp2_with fail
  have hset : Boxed (W.setCell ⟨w.heap.size + 1 + 1, 0, none⟩ (.bool true)) (w.heap.size + 1 + 1) 4 (.bool true) := xS_ _ _ _ _ _ hI.b6
  have hK2 : (W.setCell ⟨w.heap.size + 1 + 1, 0, none⟩ (.bool true)).heap[w.heap.size + 4]? = some (.deferred (some [])) := (Below.heap_setCell W ⟨w.heap.size + 1 + 1, 0, none⟩ (.bool true) (w.heap.size + 4) (by show w.heap.size + 4 ≠ w.heap.size + 1 + 1; omega)).trans hK
  have hbl : Below w.heap.size w (W.setCell ⟨w.heap.size + 1 + 1, 0, none⟩ (.bool true)) := hI.bel.setCell (p := ⟨w.heap.size + 1 + 1, 0, none⟩) (by show w.heap.size <= _ + 1 + 1; omega) _
  obtain ⟨W9, hW9⟩ := gtx (W.setCell ⟨w.heap.size + 1 + 1, 0, none⟩ (.bool true))
  rw [hW9] at hset hK2 hbl ⊢
  have op : Off (fun j => j = w.heap.size + 4) W9 (W9.putObj (w.heap.size + 4) (.deferred none)) := ⟨rfl, rfl, rfl, by simp, fun j _ hj => World.putObj_heap_other hj⟩
  have hfin : (W9.putObj (w.heap.size + 4) (.deferred none)).cell? ⟨w.heap.size + 1 + 1, 0, none⟩ = some (.bool true) := (show Boxed (W9.putObj (w.heap.size + 4) (.deferred none)) (w.heap.size + 1 + 1) 4 (.bool true) from (op.block _ hset.lt Xt0).trans hset).cell
  refine ⟨by simp, .inl ⟨_, _, rfl, run_takeDeferred hK2, ?_⟩⟩
  exact Xb102
 case stop =>
  rintro k W hk hX hK
  rw [hsz] at hK ⊢
  have hset := hX.b6
  have hbl := hX.bel
  refine wpIn_wide.2 ?_
  go_wp2_with fail
  have op : Off (fun j => j = w.heap.size + 4) W (W.putObj (w.heap.size + 4) (.deferred none)) := ⟨rfl, rfl, rfl, by simp, fun j _ hj => World.putObj_heap_other hj⟩
  have hfin : (W.putObj (w.heap.size + 4) (.deferred none)).cell? ⟨w.heap.size + 1 + 1, 0, none⟩ = some (.bool true) := (show Boxed (W.putObj (w.heap.size + 4) (.deferred none)) (w.heap.size + 1 + 1) 4 (.bool true) from (op.block _ hset.lt Xt0).trans hset).cell
  refine ⟨by simp, .inl ⟨_, _, rfl, run_takeDeferred hK, ?_⟩⟩
  exact Xb102
end
section
open Go.Maps Go.Shelf
theorem index1_not {S : Nat -> Prop} {m : Md} {w : World} (h : MdR S w m) (C1 C2 C3 : Nat) (t x : Int) (b1 : Boxed w C1 28 (.pointer (some ⟨m.p, 0, none⟩))) (b2 : Boxed w C2 3 (.int .i64 t)) (b3 : Boxed w C3 3 (.int .i64 x)) (ht : ¬ (0 <= t /\ t < m.tabs.length)) :
  Calls prog 84 #[.pointer (some ⟨C1, 0, none⟩), .pointer (some ⟨C2, 0, none⟩), .pointer (some ⟨C3, 0, none⟩)] w (PsG okI w []) := by
 have HM := hid (fun X (b : Below w.heap.size w X) => (show Calls prog 52 #[.pointer (some ⟨m.p, 0, none⟩), .int .i64 t] X fun e w' => e = .returned (.bool false) /\ X = w' from (yV_ (h.below b) t).mono (by
  rintro e w' ⟨h1, h2⟩
  refine ⟨?_, h2⟩
  rw [h1, decide_eq_false ht])))
 have HX := hid (And.intro b1 (And.intro b2 b3))
 clear h b1 b2 b3 ht
 go_enter func84, ntmps84
 go_upto_region 1 with (fail)
 refine rgw w (Below.refl _ _).drew fun hH => ?_
 refine tkr 0 rfl Xf7 ?_
 refine tkr 1 rfl Xf9 ?_
 refine tk1 2 rfl fun K hK => ?_
 go_simp
 refine (HM.out _ hH).mono ?_; rintro r w1 ⟨rfl, rfl⟩
 go_wp2_with fail
 refine hK.out _ _ hH fun hH => ?_
 refine stP ?_
 refine tkq2 3 4 ?_
 refine tkn 5 ?_
 refine tkn 6 ?_
 refine tkq2 7 8 ?_
 exact Xb36
theorem index1_no {S : Nat -> Prop} {m : Md} {w : World} (h : MdR S w m) (C1 C2 C3 : Nat) (t : Nat) (x : Int) (b1 : Boxed w C1 28 (.pointer (some ⟨m.p, 0, none⟩))) (b2 : Boxed w C2 3 (.int .i64 (t : Int))) (b3 : Boxed w C3 3 (.int .i64 x)) (ht : t < m.tabs.length) (tx : Int) (htx : m.j.T[t]? = some tx) (hxt : ¬ (0 <= x /\ x < tx)) :
  Calls prog 84 #[.pointer (some ⟨C1, 0, none⟩), .pointer (some ⟨C2, 0, none⟩), .pointer (some ⟨C3, 0, none⟩)] w (PsG okI w []) := by
 have HM := hid (fun X (b : Below w.heap.size w X) => (show Calls prog 52 #[.pointer (some ⟨m.p, 0, none⟩), .int .i64 (t : Int)] X fun e w' => e = .returned (.bool true) /\ X = w' from (yV_ (h.below b) t).mono (by
  rintro e w' ⟨h1, h2⟩
  refine ⟨?_, h2⟩
  rw [h1, decide_eq_true Xt0])))
 have hjl := h.st.now.job
 have htl : t < m.j.T.length := (List.getElem?_eq_some_iff.1 htx).1
 obtain ⟨jb, jo, hja, hjc⟩ := hjl.ls.rd t htl
 rw [List.getD_eq_getElem?_getD, htx] at hjc
 simp only [Option.getD_some] at hjc
 have hbx := h.st.now.box
 have hjn : (t : Int) < (m.j.n : Int) := by have := hjl.len; omega
 have hjn2 : (m.j.n : Int) <= 1000000 := by have := hjl.le; omega
 have HJ := hid (fun X (b : Below w.heap.size w X) => (by
  have hb := hbx.below b
  unfold Md.cs at hb
  rw [hja] at hb
  exact ⟨hb.cell 6, tcb b hjc⟩ :
  X.cell? ⟨m.p, 6, none⟩ = some (.slice (some ⟨jb, jo, none⟩) m.j.n m.j.cap) /\ X.cell? ⟨jb, jo + t, none⟩ = some (.int .i64 tx)))
 have HX := hid (And.intro b1 (And.intro b2 b3))
 by_cases hx0 : x < 0
 ·clear h b1 b2 b3 ht htx hxt hjl htl hja hjc hbx
  go_enter func84, ntmps84
  go_upto_region 1 with (fail)
  refine rgw w (Below.refl _ _).drew fun hH => ?_
  refine tkr 0 rfl Xf7 ?_
  refine tkr 1 rfl Xf9 ?_
  refine tk1 2 rfl fun K hK => ?_
  go_simp
  refine (HM.out _ hH).mono ?_; rintro r w1 ⟨rfl, rfl⟩
  go_wp2_with fail
  refine hK.out _ _ hH fun hH => ?_
  refine stP ?_
  refine tkq2 3 4 ?_
  refine tkr 5 rfl Xf16 ?_
  refine tkp 6 (.bool true) rfl (.inl ⟨by rfl, ?_⟩) ?_
  ·exact Xb20
  refine tkp 7 (.bool true) rfl (.inl ⟨by rfl, ?_⟩) ?_
  ·exact Xb20
  refine tkp 8 (.bool true) rfl (.inl ⟨by rfl, ?_⟩) ?_
  ·exact Xb20
  exact Xb36
 ·have hx1 : tx <= x := by omega
  clear h b1 b2 b3 ht htx hxt hjl htl hja hjc hbx
  go_enter func84, ntmps84
  go_upto_region 1 with (fail)
  refine rgw w (Below.refl _ _).drew fun hH => ?_
  refine tkr 0 rfl Xf7 ?_
  refine tkr 1 rfl Xf9 ?_
  refine tk1 2 rfl fun K hK => ?_
  go_simp
  refine (HM.out _ hH).mono ?_; rintro r w1 ⟨rfl, rfl⟩
  go_wp2_with fail
  refine hK.out _ _ hH fun hH => ?_
  refine stP ?_
  refine tkq2 3 4 ?_
  refine tkr 5 rfl Xf16 ?_
  refine tkp 6 (.bool false) rfl (.inl ⟨by rfl, ?_⟩) ?_
  ·exact Xb20
  refine tkq 7 ?_
  refine tkp 8 (.bool false) rfl (.inl ⟨by rfl, ?_⟩) ?_
  ·exact Xb20
  refine tkr 9 rfl Xf16 ?_
  refine tkr 10 rfl Xf7 ?_
  refine tkq3 11 12 13 ?_
  refine tkr 14 rfl (fun W hSw => by have m := (HJ.out W hSw).1; exact tks) ?_
  refine tkr 15 rfl Xf9 ?_
  refine tkq 16 ?_
  refine tkr 17 rfl (fun W hSw => by have m := (HJ.out W hSw).2; exact tks) ?_
  refine tkp 18 (.bool true) rfl (.inl ⟨by rfl, ?_⟩) ?_
  ·exact Xb20
  refine tkp 19 (.bool true) rfl (.inl ⟨by rfl, ?_⟩) ?_
  ·exact Xb20
  refine adn ?_
  skip
  go_wp2_with fail
  go_ret
  exact ⟨none, 0, [], rfl, hH, rfl, fun p hp => (nomatch hp), Nat.le_refl _, fun _ => rfl, Nat.zero_le _, fun S' _ W' _ k x hx => by simp at hx⟩
end
structure Sh (K : TypeId -> Prop) (T : Nat -> Prop) (W X : World) : Prop where
 off : Off T W X
 keep : ∀ (b : Nat) (cs : Array Value) (t : TypeId) (lo hi : Nat), W.heap[b]? = some (.cells cs t (lo, hi)) -> ∃ cs' : Array Value, cs'.size = cs.size /\ X.heap[b]? = some (.cells cs' t (lo, hi))
 kind : ∀ (b : Nat) (cs : Array Value) (t : TypeId) (lo hi : Nat), W.heap[b]? = some (.cells cs t (lo, hi)) -> ¬ K t -> X.heap[b]? = W.heap[b]?
theorem Sh.refl (K : TypeId -> Prop) (T : Nat -> Prop) (W : World) : Sh K T W W := ⟨Off.refl _ _, fun b cs t lo hi h => ⟨cs, rfl, h⟩, fun _ _ _ _ _ _ _ => rfl⟩
theorem Sh.trans {K : TypeId -> Prop} {T : Nat -> Prop} {W X Y : World} (h : Sh K T W X) (k : Sh K T X Y) : Sh K T W Y := ⟨h.off.trans k.off, fun b cs t lo hi e => by
 obtain ⟨c1, s1, e1⟩ := h.keep b cs t lo hi e
 obtain ⟨c2, s2, e2⟩ := k.keep b c1 t lo hi e1
 exact ⟨c2, s2.trans s1, e2⟩, fun b cs t lo hi e n => by
 have e1 := h.kind b cs t lo hi e n
 exact (k.kind b cs t lo hi (e1.trans e) n).trans e1⟩
theorem Sh.below {K : TypeId -> Prop} {T : Nat -> Prop} {W X : World} (b : Below W.heap.size W X) : Sh K T W X := ⟨Off.of b, fun i cs t lo hi e => ⟨cs, rfl, (b.block i (Array.getElem?_eq_some_iff.1 e).1).trans e⟩, fun i cs t lo hi e _ => b.block i (Array.getElem?_eq_some_iff.1 e).1⟩
theorem Sh.set {K : TypeId -> Prop} {T : Nat -> Prop} {W : World} {B : Nat} {cs : Array Value} {t : TypeId} {lo hi : Nat} (h : W.heap[B]? = some (.cells cs t (lo, hi))) (hK : K t) (hT : T B) (i : Nat) (v : Value) : Sh K T W (W.setCell ⟨B, i, none⟩ v) := by
 have hs : ∀ b, b ≠ B -> (W.setCell ⟨B, i, none⟩ v).heap[b]? = W.heap[b]? := fun b hb => Below.heap_setCell _ _ _ b hb
 have hB : (W.setCell ⟨B, i, none⟩ v).heap[B]? = some (.cells (cs.setIfInBounds i v) t (lo, hi)) := by
  obtain ⟨hlt, hk⟩ := Array.getElem?_eq_some_iff.1 h
  show (W.heap.modify B _)[B]? = _
  rw [Array.getElem?_modify, if_pos rfl, h]
  rfl
 refine ⟨(Off.refl T W).set ⟨B, i, none⟩ hT v, fun b c u l r e => ?_, fun b c u l r e n => ?_⟩
 ·by_cases hb : b = B
  ·subst hb
   rw [h] at e
   cases e
   exact ⟨_, Array.size_setIfInBounds .., hB⟩
  ·exact ⟨c, rfl, (hs b hb).trans e⟩
 ·by_cases hb : b = B
  ·subst hb
   rw [h] at e
   cases e
   exact absurd hK n
  ·exact hs b hb
theorem Sh.cell {K : TypeId -> Prop} {T : Nat -> Prop} {W X : World} (h : Sh K T W X) {b i : Nat} {cs : Array Value} {t : TypeId} {lo hi : Nat} (e : W.heap[b]? = some (.cells cs t (lo, hi))) (n : ¬ K t) : X.cell? ⟨b, i, none⟩ = W.cell? ⟨b, i, none⟩ := by
 have := h.kind b cs t lo hi e n
 simp only [World.cell?, this]
theorem Sh.open' {K : TypeId -> Prop} {T : Nat -> Prop} {W X : World} (h : Sh K T W X) {b i : Nat} {cs : Array Value} {t : TypeId} {lo hi : Nat} (e : W.heap[b]? = some (.cells cs t (lo, hi))) (hi2 : i < cs.size) (hf : ¬ (lo <= i /\ i < hi)) : ∃ cs' v, X.heap[b]? = some (.cells cs' t (lo, hi)) /\ X.cell? ⟨b, i, none⟩ = some v /\ X.frozen? ⟨b, i, none⟩ = false := by
 obtain ⟨cs', hs, e'⟩ := h.keep b cs t lo hi e
 refine ⟨cs', cs'[i]'(by rw [hs]; exact hi2), e', ?_, ?_⟩
 ·simp only [World.cell?, e']
  rw [Array.getElem?_eq_getElem (by rw [hs]; exact hi2)]
  rfl
 ·simp only [World.frozen?, e']
  simp only [Bool.and_eq_false_iff, decide_eq_false_iff_not]
  by_cases h1 : lo <= i
  ·exact .inr fun h2 => hf ⟨h1, h2⟩
  ·exact .inl h1
theorem Sh.mono {K K' : TypeId -> Prop} {T T' : Nat -> Prop} {W X : World} (h : Sh K T W X) (hK : ∀ t, K t -> K' t) (hT : ∀ b, T b -> T' b) : Sh K' T' W X := ⟨h.off.mono hT, h.keep, fun b cs t lo hi e n => h.kind b cs t lo hi e (fun k => n (hK t k))⟩
theorem Sh.st {K : TypeId -> Prop} {T : Nat -> Prop} {W X : World} (h : Sh K T W X) {b o k n : Nat} {t : TypeId} {v : Value} (hw : WrB W t (some ⟨b, o, none⟩) n) (hk : k < n) (hc : W.cell? ⟨b, o + k, none⟩ = some v) : ∃ cs' lo hi v', X.heap[b]? = some (.cells cs' t (lo, hi)) /\ X.cell? ⟨b, o + k, none⟩ = some v' /\ X.frozen? ⟨b, o + k, none⟩ = false := by
 obtain ⟨cs, lo, hi, e, hf⟩ := hw b o rfl Xt0
 have hs : o + k < cs.size := by
  simp only [World.cell?, e] at hc
  cases hi2 : cs[o + k]? with
  | none => rw [hi2] at hc; simp at hc
  | some u => exact (Array.getElem?_eq_some_iff.1 hi2).1
 obtain ⟨cs', v', h1, h2, h3⟩ := h.open' e hs (hf k hk)
 exact ⟨cs', lo, hi, v', h1, h2, h3⟩
theorem Sh.rd {K : TypeId -> Prop} {T : Nat -> Prop} {W X : World} (h : Sh K T W X) {b o n : Nat} {t : TypeId} (hw : WrB W t (some ⟨b, o, none⟩) n) (hn : 0 < n) (nk : ¬ K t) (i : Nat) : X.cell? ⟨b, i, none⟩ = W.cell? ⟨b, i, none⟩ := by
 obtain ⟨cs, lo, hi, e, _⟩ := hw b o rfl hn
 exact h.cell e nk
theorem Sh.set5 {T : Nat -> Prop} {W : World} {B : Nat} {cs : Array Value} {l h : Nat} (e : W.heap[B]? = some (.cells cs 5 (l, h))) (hT : T B) (i : Nat) (v : Value) : Sh (fun t => t = 5) T W (W.setCell ⟨B, i, none⟩ v) := Sh.set (K := fun t => t = 5) (T := T) e rfl hT i v
def InB (T : Nat -> Prop) (a : Option Addr) (n : Nat) : Prop := ∀ b off, a = some ⟨b, off, none⟩ -> 0 < n -> T b
theorem xW_ (x : zW_) (a : Option Addr) (c : Nat) (T : Nat -> Prop) (rs : List xB_) (w : World) (hx : zM_ w x) (hxw : WrB w 74 x.oa x.on) (hon : x.on <= 9000)
  (hk : ∀ o ∈ x.ops, o.kn <= 9000 /\ o.rn <= 9000 /\ (∀ p ∈ o.R, p.bs.length <= 9000) /\ WrB w 5 o.ka o.kn /\ InB T o.ka o.kn /\ WrB w 42 o.ra o.rn /\ ∀ p ∈ o.R, WrB w 5 p.ad p.bs.length /\ InB T p.ad p.bs.length)
  (hr : ResW w a rs) (hrn : rs.length <= 9000) (hrp : ∀ y ∈ rs, y.P.length <= 1000000 /\ ∀ p ∈ y.P, p.K.length <= 1000000 /\ p.R.length <= 1000000 /\ InB T p.ka p.K.length /\ InB T p.ra p.R.length) :
  Calls prog 43 #[.agg #[.slice x.oa x.on x.oc, .bool x.sn, .bool x.ab], .slice a rs.length c] w fun r w' => r = .returned (.tuple #[]) /\ Sh (fun t => t = 5 ∨ t = 42) T w w' := by
 obtain ⟨w1, hw1⟩ := gty (w.alloc (.cells #[.slice x.oa x.on x.oc, .bool x.sn, .bool x.ab] 38))
 have hb1 : Below w.heap.size w w1 := by rw [hw1]; exact bl1 _ _
 have hbx : zg_ w1 w.heap.size #[.slice x.oa x.on x.oc, .bool x.sn, .bool x.ab] 38 := by rw [hw1]; exact zg_.new _ _ _
 have HB1 := hid hb1
 have HXT := hid (hx.below hb1)
 have HXW := hid (hxw.below hb1)
 have HXB := hid hbx
 have HK := hid hk
 have HR := hid hr
 have HRP := hid hrp
 obtain ⟨n, hn⟩ := gtx (rs.length)
 rw [hn] at hrn
 have HN := hid hn
 rw [hn]
 clear hx hxw hk hr hrp hb1 hbx hn
 go_enter func43, ntmps43
 go_upto_region 1 with (fail)
 rw [← hw1]
 clear hw1
 go_wp2_with fail
 go_loopw [4] (fun i wr => ∃ k : Nat, k <= x.on /\ i = .int .i64 (k : Int) /\ Hid (Sh (fun t => t = 5) T w1 wr)) (fun i _ => x.on - (intOf i).toNat)
 case atStart => exact ⟨0, by omega, rfl, hid (Sh.refl _ _ _)⟩
 case round =>
  obtain ⟨k, hk, rfl, HS⟩ := hrel
  have x0 := (HS.out.cell HXB.out Xt4 (i := 0)).trans (HXB.out.cell 0)
  simp only [gtA, gtB, gtC] at x0
  by_cases hlt : k < x.on
  ·have d1 : (k : Int) < (x.on : Int) := by omega
   obtain ⟨o, ho⟩ : ∃ o, x.ops[k]? = some o := ⟨_, List.getElem?_eq_getElem (by rw [HXT.out.ol]; exact hlt)⟩
   obtain ⟨b1, o1, ea, ⟨p0, p1, p2, p3, p4, p5, p6⟩, hca⟩ := HXT.out.os k o ho
   have hxw := HXW.out
   rw [ea] at hxw x0
   have HM := hid (show ∀ W, Sh (fun t => t = 5) T w1 W -> W.cell? ⟨w.heap.size, 0, none⟩ = some (.slice (some ⟨b1, o1, none⟩) x.on x.oc) /\ W.cell? ⟨b1, o1 + k * 7 + 3, none⟩ = some (.slice o.ka o.kn o.kc) /\ W.cell? ⟨b1, o1 + k * 7 + 6, none⟩ = some (.slice o.ra o.rn o.rc) from fun W h => by
    refine ⟨?_, (h.rd hxw Xt0 Xt4 _).trans p3, (h.rd hxw Xt0 Xt4 _).trans p6⟩
    have := (h.cell HXB.out Xt4 (i := 0)).trans (HXB.out.cell 0)
    rw [ea] at this
    exact this)
   have hok := HK.out o (List.mem_of_getElem? ho)
   have HOK := hid hok
   have HCA := hid hca
   have hkn : o.kn <= 9000 := hok.1
   have hrn2 : o.rn <= 9000 := hok.2.1
   clear hxw p0 p1 p2 p3 p4 p5 p6 hca hok ho
   go_wp2_with fail
   clear x0
   go_loopw [5] (fun j wq => ∃ d : Nat, d <= o.kn /\ j = .int .i64 (d : Int) /\ Hid (Sh (fun t => t = 5) T w1 wq)) (fun j _ => o.kn - (intOf j).toNat)
   case atStart => exact ⟨0, by omega, rfl, HS⟩
   case round =>
    obtain ⟨d, hd, rfl, HSQ⟩ := hrel
    obtain ⟨m0, m1, m2⟩ := HM.out wr HSQ.out
    by_cases hl2 : d < o.kn
    ·have d2 : (d : Int) < (o.kn : Int) := by omega
     obtain ⟨bk, ok, ek, hkc⟩ := HCA.out.ks.rd d (by rw [HCA.out.kl]; exact hl2)
     have hwk := (HOK.out.2.2.2.1).below HB1.out
     have hib := HOK.out.2.2.2.2.1
     rw [ek] at hwk m1
     obtain ⟨cs', l', h', v', e', y0, yf⟩ := HSQ.out.st hwk hl2 hkc
     have HE := hid (And.intro e' (hib bk ok ek Xt0))
     clear e' hwk hib ek hkc m2
     go_wp2_with fail
     go_roundw
     case rel => exact ⟨d + 1, by omega, by go_num, hid (HSQ.out.trans (Sh.set5 HE.out.1 HE.out.2 _ _))⟩
     case measure => simp [intOf]; omega
    ·have d2 : ¬ (d : Int) < (o.kn : Int) := by omega
     clear m2
     go_wp2_with fail
     clear m0 m1
     go_loopw [6] (fun j wv => ∃ f : Nat, f <= o.rn /\ j = .int .i64 (f : Int) /\ Hid (Sh (fun t => t = 5) T w1 wv)) (fun j _ => o.rn - (intOf j).toNat)
     case atStart => exact ⟨0, by omega, rfl, HSQ⟩
     case round =>
      obtain ⟨f, hf, rfl, HSV⟩ := hrel
      obtain ⟨m0, m1, m2⟩ := HM.out wr HSV.out
      by_cases hl3 : f < o.rn
      ·have d3 : (f : Int) < (o.rn : Int) := by omega
       obtain ⟨p, hp⟩ : ∃ p, o.R[f]? = some p := ⟨_, List.getElem?_eq_getElem (by rw [HCA.out.rl]; exact hl3)⟩
       obtain ⟨br, or, er, hrc, hrl⟩ := HCA.out.rs f p hp
       have hwr := (HOK.out.2.2.2.2.2.1).below HB1.out
       rw [er] at hwr
       have HM3 := hid (show ∀ W, Sh (fun t => t = 5) T w1 W -> W.cell? ⟨b1, o1 + k * 7 + 6, none⟩ = some (.slice (some ⟨br, or, none⟩) o.rn o.rc) /\ W.cell? ⟨br, or + f, none⟩ = some (.slice p.ad p.bs.length p.cap) from fun W h => ⟨by have := (HM.out W h).2.2; rw [er] at this; exact this, (h.rd hwr Xt0 Xt4 _).trans hrc⟩)
       obtain ⟨m3, m4⟩ := HM3.out wr HSV.out
       have hpb := HOK.out.2.2.1 p (List.mem_of_getElem? hp)
       have HPW := hid (HOK.out.2.2.2.2.2.2 p (List.mem_of_getElem? hp))
       have HPL := hid hrl
       clear hwr hrc hrl hp er m2 m1
       go_wp2_with fail
       clear m0 m3 m4
       go_loopw [7] (fun j wu => ∃ e : Nat, e <= p.bs.length /\ j = .int .i64 (e : Int) /\ Hid (Sh (fun t => t = 5) T w1 wu)) (fun j _ => p.bs.length - (intOf j).toNat)
       case atStart => exact ⟨0, by omega, rfl, HSV⟩
       case round =>
        obtain ⟨e, he, rfl, HSU⟩ := hrel
        have m0 := (HM.out wr HSU.out).1
        obtain ⟨m3, m4⟩ := HM3.out wr HSU.out
        by_cases hl4 : e < p.bs.length
        ·have d4 : (e : Int) < (p.bs.length : Int) := by omega
         obtain ⟨bk, ok, ek, hkc⟩ := HPL.out.rd e hl4
         have hwk := (HPW.out.1).below HB1.out
         have hib := HPW.out.2
         rw [ek] at hwk m4
         obtain ⟨cs', l', h', v', e', y0, yf⟩ := HSU.out.st hwk hl4 hkc
         have HE := hid (And.intro e' (hib bk ok ek Xt0))
         clear e' hwk hib ek hkc
         go_wp2_with fail
         go_roundw
         case rel => exact ⟨e + 1, by omega, by go_num, hid (HSU.out.trans (Sh.set5 HE.out.1 HE.out.2 _ _))⟩
         case measure => simp [intOf]; omega
        ·have d4 : ¬ (e : Int) < (p.bs.length : Int) := by omega
         go_wp2_with fail
         go_roundw
         case rel => exact ⟨f + 1, by omega, by go_num, HSU⟩
         case measure => simp [intOf]; omega
      ·have d3 : ¬ (f : Int) < (o.rn : Int) := by omega
       clear m1
       go_wp2_with fail
       go_roundw
       case rel => exact ⟨k + 1, by omega, by go_num⟩
       case measure => simp [intOf]; omega
  ·have d1 : ¬ (k : Int) < (x.on : Int) := by omega
   have HS2 := hid (HS.out.mono (K' := fun t => t = 5 ∨ t = 42) (T' := T) (fun t h => .inl h) (fun b h => h))
   clear HS
   clear hlt hk
   go_wp2_with fail
   clear x0 d1
   go_loopw [8] (fun i wr => ∃ k : Nat, k <= n /\ i = .int .i64 (k : Int) /\ Hid (Sh (fun t => t = 5 ∨ t = 42) T w1 wr)) (fun i _ => n - (intOf i).toNat)
   case atStart => exact ⟨0, by omega, rfl, HS2⟩
   case round =>
    obtain ⟨k2, hk2, rfl, HT⟩ := hrel
    by_cases h8 : k2 < n
    ·have d8 : (k2 : Int) < (n : Int) := by omega
     obtain ⟨y, hy⟩ : ∃ y, rs[k2]? = some y := ⟨_, List.getElem?_eq_getElem (by rw [HN.out]; exact h8)⟩
     have hrw := HR.out.2.1
     obtain ⟨ba, oa, ea, _, hc1, hpr⟩ := HR.out.1 k2 y hy
     have hyw := HR.out.2.2 y (List.mem_of_getElem? hy)
     have hyb := HRP.out y (List.mem_of_getElem? hy)
     rw [ea, HN.out] at hrw
     have hrw := hrw.below HB1.out
     have hc1 := tcb HB1.out hc1
     have HM4 := hid (show ∀ W, Sh (fun t => t = 5 ∨ t = 42) T w1 W -> W.cell? ⟨ba, oa + k2 * 2 + 1, none⟩ = some (.slice y.pa y.P.length y.pc) from fun W h => (h.rd hrw Xt0 Xt4 _).trans hc1)
     have HPR := hid (hpr.below HB1.out)
     have HYW := hid hyw
     have HYB := hid hyb
     have hm6 : y.P.length <= 1000000 := hyb.1
     obtain ⟨m, hm⟩ := gtx (y.P.length)
     rw [hm] at hm6 HM4
     have HML := hid hm
     have m4 := HM4.out wr HT.out
     clear hrw hc1 hpr hyw hyb hy hm
     go_wp2_with fail
     clear m4
     go_loopw [9] (fun i wr => ∃ k : Nat, k <= m /\ i = .int .i64 (k : Int) /\ Hid (Sh (fun t => t = 5 ∨ t = 42) T w1 wr)) (fun i _ => m - (intOf i).toNat)
     case atStart => exact ⟨0, by omega, rfl, HT⟩
     case round =>
      obtain ⟨k9, hk9, rfl, HQ⟩ := hrel
      obtain ⟨w9, hw9⟩ := gty (wr)
      subst hw9
      have m4 := HM4.out w9 HQ.out
      by_cases h9 : k9 < m
      ·have d9 : (k9 : Int) < (m : Int) := by omega
       obtain ⟨q, hq⟩ : ∃ q, y.P[k9]? = some q := ⟨_, List.getElem?_eq_getElem (by rw [HML.out]; exact h9)⟩
       obtain ⟨bp, op, ep, q0, q1, hls, hrd⟩ := HPR.out k9 q hq
       have hyw := (HYW.out.1).below HB1.out
       rw [ep, HML.out] at hyw
       rw [ep] at m4
       have q0 := (HQ.out.rd hyw Xt0 Xt4 _).trans q0
       have q1 := (HQ.out.rd hyw Xt0 Xt4 _).trans q1
       have HLS := hid hls
       have HRD := hid hrd
       have hqw := HYW.out.2 q (List.mem_of_getElem? hq)
       have HQW := hid (And.intro (hqw.1.below HB1.out) (hqw.2.below HB1.out))
       have hqb := HYB.out.2 q (List.mem_of_getElem? hq)
       have HQB := hid hqb
       have hqk := hqb.1
       have hqr := hqb.2.1
       obtain ⟨w2, hw2⟩ := gty (w9.alloc (.cells #[.slice q.ka q.K.length q.kc, .slice q.ra q.R.length q.rc] 78))
       have hbx2 : zg_ w2 w9.heap.size #[.slice q.ka q.K.length q.kc, .slice q.ra q.R.length q.rc] 78 := by rw [hw2]; exact zg_.new _ _ _
       have HB92 := hid (show Below w9.heap.size w9 w2 by rw [hw2]; exact bl1 _ _)
       have HBX := hid hbx2
       obtain ⟨K, hK⟩ := gtx (q.K.length)
       obtain ⟨R, hR⟩ := gtx (q.R.length)
       rw [hK] at q0 hqk HBX hw2
       rw [hR] at q1 hqr HBX hw2
       have HKL := hid (And.intro hK hR)
       clear hyw hls hrd hqw hqb hbx2 hq hK hR
       go_upto_region 22 with (fail)
       rw [← hw2]
       clear hw2 q0 q1 m4
       go_wp2_with fail
       go_loopw [11] (fun i wr => ∃ k : Nat, k <= K /\ i = .int .i64 (k : Int) /\ Hid (Sh (fun t => t = 5 ∨ t = 42) T w2 wr)) (fun i _ => K - (intOf i).toNat)
       case atStart => exact ⟨0, by omega, rfl, hid (Sh.refl _ _ _)⟩
       case round =>
        obtain ⟨d, hd, rfl, HU⟩ := hrel
        have z0 := (HU.out.cell HBX.out Xt4 (i := 0)).trans (HBX.out.cell 0)
        simp only [gtA, gtB, gtC] at z0
        by_cases h11 : d < K
        ·have d11 : (d : Int) < (K : Int) := by omega
         obtain ⟨bk, ok, ek, hkc⟩ := HLS.out.rd d (by rw [HKL.out.1]; exact h11)
         have hwk := HQW.out.1
         have hib := HQB.out.2.2.1
         rw [ek, HKL.out.1] at hwk
         rw [HKL.out.1] at hib
         rw [ek] at z0
         obtain ⟨cs', l', h', v', e', y0, yf⟩ := ((HQ.out.trans (Sh.below HB92.out)).trans HU.out).st hwk h11 hkc
         have HE := hid (And.intro e' (hib bk ok ek Xt0))
         clear e' hwk hib ek hkc
         go_wp2_with fail
         go_roundw
         case rel => exact ⟨d + 1, by omega, by go_num, hid (HU.out.trans (Sh.set (K := fun t => t = 5 ∨ t = 42) (T := T) HE.out.1 (.inl rfl) HE.out.2 _ _))⟩
         case measure => simp [intOf]; omega
        ·have d11 : ¬ (d : Int) < (K : Int) := by omega
         go_wp2_with fail
         clear z0
         go_loopw [12] (fun i wr => ∃ k : Nat, k <= R /\ i = .int .i64 (k : Int) /\ Hid (Sh (fun t => t = 5 ∨ t = 42) T w2 wr)) (fun i _ => R - (intOf i).toNat)
         case atStart => exact ⟨0, by omega, rfl, HU⟩
         case round =>
          obtain ⟨f, hf, rfl, HV⟩ := hrel
          have z1 := (HV.out.cell HBX.out Xt4 (i := 1)).trans (HBX.out.cell 1)
          simp only [gtA, gtB, gtC] at z1
          by_cases h12 : f < R
          ·have d12 : (f : Int) < (R : Int) := by omega
           obtain ⟨p, hp⟩ : ∃ p, q.R[f]? = some p := ⟨_, List.getElem?_eq_getElem (by rw [HKL.out.2]; exact h12)⟩
           obtain ⟨bk, ok, ek, hkc, _⟩ := HRD.out f p hp
           have hwk := HQW.out.2
           have hib := HQB.out.2.2.2
           rw [ek, HKL.out.2] at hwk
           rw [HKL.out.2] at hib
           rw [ek] at z1
           obtain ⟨cs', l', h', v', e', y0, yf⟩ := ((HQ.out.trans (Sh.below HB92.out)).trans HV.out).st hwk h12 hkc
           have HE := hid (And.intro e' (hib bk ok ek Xt0))
           clear e' hwk hib ek hkc hp
           go_wp2_with fail
           go_roundw
           case rel => exact ⟨f + 1, by omega, by go_num, hid (HV.out.trans (Sh.set (K := fun t => t = 5 ∨ t = 42) (T := T) HE.out.1 (.inr rfl) HE.out.2 _ _))⟩
           case measure => simp [intOf]; omega
          ·have d12 : ¬ (f : Int) < (R : Int) := by omega
           have HTOT := hid ((HQ.out.trans (Sh.below HB92.out)).trans HV.out)
           go_wp2_with fail
           go_roundw
           case rel => exact ⟨k9 + 1, by omega, by go_num⟩
           case measure => simp [intOf]; omega
      ·have d9 : ¬ (k9 : Int) < (m : Int) := by omega
       go_wp2_with fail
       go_roundw
       case rel => exact ⟨k2 + 1, by omega, by go_num⟩
       case measure => simp [intOf]; omega
    ·have d8 : ¬ (k2 : Int) < (n : Int) := by omega
     go_wp2_with fail
     first | refine bodyPost_end (v := .tuple #[]) (by simp [results, results43, go_sem]) rfl ?_ | refine bodyPost_end (v := .tuple #[]) (by simp [results, f43]) rfl ?_ | refine bodyPost_end (v := .tuple #[]) rfl rfl ?_
     exact ⟨rfl, (Sh.below HB1.out).trans HT.out⟩
theorem qm_ {S : Nat -> Prop} {W W' : World} {B b b' n n' s s' : Nat} {e e' : TypeId} {v v' : Value} {xs xs' : List Value} (h : W.ownsRow b e s v n xs) (g : W.ownsRow b' e' s' v' n' xs') (hne : e ≠ e') (hS : ∀ k, S k -> k < B) (hB : B <= b) (o : Off (fun k => S k ∨ v'.ownBlock = some k) W W') : W'.ownsRow b e s v n xs :=
 zn_ h o (fun k hk hh => hh.elim (fun hs => by have := (zb_ h hk).1; have := hS k hs; omega) (fun hv => (yU_ h g hne).elim (fun h0 => by rw [h0] at hk; cases hk) (fun h1 => h1 (hk.trans hv.symm))))
theorem rset_stay (p b1 o1 : Nat) (ka ra : Option Addr) (tn tc kn kc rn rc t : Nat) (Ts : List TbV) (x : TbV) (K : List Int) (R : List P1) (cs : Array Value) (hx : Ts[t]? = some x) (hn : Ts.length = tn) (hn2 : tn <= 1000000) (hK : K.length = kn) (hkn : kn <= 1000000) (bK : Byt K) (hR : R.length = rn) (hrn : rn <= 9000) (hl : ∀ q ∈ R, q.bs.length <= 9000) (ok : TbOk x) (hxc : x.P.length <= x.pc) (hxn : x.pa = none -> x.pc = 0) (w : World) (S : Nat -> Prop) (hS : ∀ k, S k -> k < w.heap.size) (hSt : zs_ S w fun X => zp_ X x.pa x.P) (hbx : zg_ w b1 cs 69) (hc : w.cell? ⟨p, 7, none⟩ = some (.slice (some ⟨b1, o1, none⟩) tn tc)) (hT : TbR w (some ⟨b1, o1, none⟩) Ts) (hk : Ls .u8 w ka kc K) (hr : RdR w ra R) :
  Calls prog 58 #[.pointer (some ⟨p, 0, none⟩), .int .i64 (t : Int), .slice ka kn kc, .slice ra rn rc] w fun r w' => ∃ v W' a' c' P', r = .returned v /\ w' = W'.setCell ⟨b1, o1 + t, none⟩ (.slice a' P'.length c') /\ Below w.heap.size w W' /\ zp_ W' a' P' /\ zs_ S W' (fun X => zp_ X a' P') /\ P'.length <= c' /\ (a' = none -> c' = 0) /\ P'.map prC = (x.P.take (xm_ K x.P)).map prC ++ ((if R.map P1.bs = [] then [] else [(K, R.map P1.bs)]) ++ (x.P.drop (xm_ K x.P + (if qg_ K x.P then 1 else 0))).map prC) := by
 have htn : t < tn := by have := (List.getElem?_eq_some_iff.1 hx).1; omega
 have HF := hid (QE_ p (some ⟨b1, o1, none⟩) ka tn tc kn kc t Ts x K hx hn hn2 hK bK ok w hc hT hk)
 obtain ⟨b1', o1', ea, c0, rx⟩ := hT t x hx
 cases ea
 have HM := hid (fun X (b' : Below w.heap.size w X) => (⟨(b'.cell (World.block_lt_of_cell? w _ hc)).trans hc, (b'.cell (World.block_lt_of_cell? w _ c0)).trans c0⟩ : X.cell? ⟨p, 7, none⟩ = some (.slice (some ⟨b1, o1, none⟩) tn tc) /\ X.cell? ⟨b1, o1 + t, none⟩ = some (.slice x.pa x.P.length x.pc)))
 have HP := hid rx
 have HBX := hid hbx
 have HKK := hid (And.intro hK hk)
 have HRR := hid (And.intro hR (And.intro hr hl))
 have HXN := hid hxn
 have hti : (t : Int) < (tn : Int) := by omega
 have ht0 : ¬ (t : Int) < 0 := by omega
 have htl : (tn : Int) <= 1000000 := by omega
 have hpn : x.P.length <= 1000000 := ok.pn
 obtain ⟨P, hP⟩ := gtx (x.P)
 obtain ⟨n, hn9⟩ := gtx (P.length)
 obtain ⟨pa, hpa⟩ := gtx (x.pa)
 obtain ⟨pc, hpc⟩ := gtx (x.pc)
 rw [hP, hn9] at hpn
 rw [hP, hn9, hpc] at hxc
 rw [hpa, hpc] at HXN
 rw [hpa, hP] at HP
 rw [hpa, hP] at hSt
 have HST := hid hSt
 have HS := hid hS
 rw [hpa, hP, hn9, hpc] at HM
 rw [hP] at HF ⊢
 have HN := hid hn9
 have hcn : xm_ K P <= n := by unfold xm_; rw [← hn9]; exact (List.takeWhile_sublist _).length_le
 have hhn : qg_ K P = true -> xm_ K P + 1 <= n := fun h => by
  unfold qg_ at h
  cases hy : P[xm_ K P]? with
  | none => rw [hy] at h; cases h
  | some y => have := (List.getElem?_eq_some_iff.1 hy).1; omega
 obtain ⟨i, hi⟩ := gtx (xm_ K P)
 obtain ⟨h, hh⟩ := gtx (qg_ K P)
 rw [hi] at hcn hhn HF
 rw [hh] at hhn HF
 rw [hi, hh]
 have HHN := hid hhn
 have H69 := hid (fun W => hi69 W pa n pc i hcn hxc)
 obtain ⟨m0, m1⟩ := HM.out w (Below.refl _ _)
 clear hS hSt hx hn hn2 hK bK hR ok hxn hbx hc hT hk hr hl c0 rx hP hn9 hpa hpc hi hh hhn
 go_enter func58, ntmps58
 go_wp2_with fail
 refine HF.out.mono ?_; rintro r w1 ⟨rfl, hb1⟩
 have HB1 := hid hb1
 clear m0 m1
 obtain ⟨m0, m1⟩ := HM.out w1 hb1
 clear hb1
 have s69 := H69.out w1
 have hii : (i : Int) <= (n : Int) := by omega
 have hni : (n : Int) <= 1000000 := by omega
 go_upto_region 2 with (at_builtin; refine jK_ rfl (.const (.slice none 0 0)) (.tmp 26) rfl w.heap.size _ 0 [] rfl (World.ownsRow_nil _ _ _ _) pa pc i (P.take i) Xt72 rfl ((HP.out.below HB1.out).take i) HXN.out Xt0 HB1.out.size ?_; intro v2 w2 hown2 hgrow2; rw [Nat.zero_add, List.nil_append] at hown2; have HO2 := hid hown2; have HB2 := hid (HB1.out.grown hgrow2 HB1.out.size Xt23); clear hown2 hgrow2)
 clear m0 m1 s69
 go_upto_if 30 with (fail)
 go_cut [10] (fun v wx => ∃ L2 : List PrV, Hid (wx.ownsRow w.heap.size 78 2 v L2.length (zi_ L2)) /\ Hid (∀ y ∈ L2, ∀ W', Off (fun k => S k ∨ v.ownBlock = some k) wx W' -> Ls .u8 W' y.ka y.kc y.K /\ RdR W' y.ra y.R) /\ Hid (L2.map prC = (P.take i).map prC ++ (if R.map P1.bs = [] then [] else [(K, R.map P1.bs)])) /\ Hid (L2.length <= n + 1) /\ Hid (Below w.heap.size w wx))
 case first =>
  have HTK := hid (fun W (pr : zp_ W pa P) => (fun y hy => by
   obtain ⟨k, hk⟩ := List.mem_iff_getElem?.1 (List.mem_of_mem_take hy)
   obtain ⟨_, _, _, _, _, l, r⟩ := pr k y hk
   exact ⟨l, r⟩ : ∀ y ∈ P.take i, Ls .u8 W y.ka y.kc y.K /\ RdR W y.ra y.R))
  have HTL := hid (show (P.take i).length = i by rw [List.length_take, HN.out]; omega)
  by_cases h0 : rn = 0
  ·have d0 : ¬ (0 : Int) < (rn : Int) := by omega
   have HE := hid (show R.map P1.bs = [] by rw [List.map_eq_nil_iff]; exact List.length_eq_zero_iff.1 (HRR.out.1.trans h0))
   clear h0
   go_wp2_with fail
   go_meet
   exact ⟨P.take i, hid (by rw [HTL.out]; exact HO2.out), hid (fun y hy W' g => HTK.out _ ((HST.out.step (Off.of HB2.out) (fun k (hk : S k ∨ v2.ownBlock = some k) => hk.imp id (fun e => (HO2.out.lt k e).1))) W' g) y hy), hid (by rw [if_pos HE.out, List.append_nil]), hid (by rw [HTL.out]; omega), HB2⟩
  ·have d0 : (0 : Int) < (rn : Int) := by omega
   have HE := hid (show R.map P1.bs ≠ [] from fun e => h0 (by rw [← HRR.out.1]; rw [List.map_eq_nil_iff] at e; rw [e]; rfl))
   have hkb : (kn : Int) <= 1000000 := by omega
   clear h0
   go_wp2_with (at_builtin; refine zB_ Qg_ rfl (.const (.slice none 0 0)) (.tmp 32) rfl w2.heap.size _ 0 [] rfl (World.ownsRow_nil _ _ _ _) _ _ kn K HKK.out.1 rfl (HKK.out.2.below HB2.out) Xt0 (Nat.le_refl _) ?_; intro v3 w3 hown3 hgrow3; rw [Nat.zero_add, List.nil_append] at hown3; obtain ⟨a3, c3, hv3⟩ := zd_ hown3; subst hv3; have b3 := (Below.refl w2.heap.size w2).grown hgrow3 (Nat.le_refl _) Xt23; have HO3 := hid hown3; have HB3 := hid b3; clear hown3 hgrow3 b3)
   refine (xI_ ra R rn rc HRR.out.1 hrn HRR.out.2.2 w3 (HRR.out.2.1.below (HB2.out.trans (HB3.out.mono HB2.out.size)))).mono ?_
   rintro r w5 ⟨⟨v5, rfl, hcp⟩, hb5⟩
   obtain ⟨a5, c5, R5, hv5, hr5, hl5, hm5, hc5, hn5, ho5, ho5b⟩ := hcp.lies HRR.out.1
   subst hv5
   have HB5 := hid (HB3.out.trans (hb5.mono HB3.out.size))
   have HBW := hid (HB2.out.trans (HB5.out.mono HB2.out.size))
   have HO25 := hid (ze_ HO2.out HB5.out)
   have HO35 := hid (ze_ HO3.out hb5)
   have HR5 := hid (And.intro hl5 (And.intro hm5 (And.intro ho5 ho5b)))
   have HSZ := hid (show w2.heap.size <= w3.heap.size from HB3.out.size)
   have HLK := hid (yv_ HO35.out HKK.out.1)
   have HRD := hid hr5
   clear hcp hb5 hr5 hc5 hn5 ho5 ho5b hl5 hm5
   go_wp2_with (at_builtin; refine jK_ rfl (.tmp 31) (.tmp 37) rfl w.heap.size v2 i (P.take i) rfl ((HO25.out).alloc _) (some ⟨w5.heap.size, 0, none⟩) 1 1 [⟨a3, c3, K, a5, c5, R5⟩] rfl rfl (QJ_ _ (by simp [go_sem, HKK.out.1]) (by simp [go_sem, HR5.out.1]) (HLK.out.below ((Below.refl _ _).alloc (Nat.le_refl _) _)) (HRD.out.below ((Below.refl _ _).alloc (Nat.le_refl _) _))) (fun h => by cases h) Xt0 (by have := HBW.out.size; simp; omega) ?_; intro v8 w8 hown8 hgrow8; have hak : w8.ownsRow w2.heap.size 5 1 (.slice a3 kn c3) kn (iv .u8 K) := ((HO35.out).alloc _).kept hgrow8 (yU_ HO35.out HO25.out Xt4); have har : w8.ownsRow w3.heap.size 42 1 (.slice a5 rn c5) rn (R5.map P1.v) := ((HR5.out.2.2.1).alloc _).kept hgrow8 (yU_ HR5.out.2.2.1 HO25.out Xt4); have haq : ∀ q ∈ R5, w8.ownsRow w3.heap.size 5 1 q.v q.bs.length (iv .u8 q.bs) := fun q hq => ((HR5.out.2.2.2 q hq).alloc _).kept hgrow8 (yU_ (HR5.out.2.2.2 q hq) HO25.out Xt4); have HA8 := hid (And.intro hak (And.intro har haq)); have HO8 := hid hown8; have HB8 := hid ((HBW.out.alloc HBW.out.size _).grown hgrow8 (by have := HBW.out.size; simp; omega) (fun j hj => (HO2.out.lt j hj).1)); clear hak har haq hown8 hgrow8)
   go_meet
   refine ⟨P.take i ++ [⟨a3, c3, K, a5, c5, R5⟩], hid ?_, hid ?_, hid ?_, hid ?_, HB8⟩
   ·rw [List.length_append, HTL.out]; exact HO8.out
   ·intro y hy W' g
    rcases List.mem_append.1 hy with hy | hy
    ·exact HTK.out _ ((HST.out.step (Off.of HB8.out) (fun k (hk : S k ∨ v8.ownBlock = some k) => hk.imp id (fun e => (HO8.out.lt k e).1))) W' g) y hy
    ·rw [List.mem_singleton] at hy
     subst hy
     exact ⟨yv_ (qm_ HA8.out.1 HO8.out Xt4 HS.out HB2.out.size g) HKK.out.1, qD_ (qm_ HA8.out.2.1 HO8.out Xt4 HS.out (Nat.le_trans HB2.out.size HSZ.out) g) HR5.out.1 (fun q hq => qm_ (HA8.out.2.2 q hq) HO8.out Xt4 HS.out (Nat.le_trans HB2.out.size HSZ.out) g)⟩
   ·rw [if_neg HE.out, List.map_append]
    show _ ++ [(K, R5.map P1.bs)] = _
    rw [HR5.out.2.1]
   ·rw [List.length_append, HTL.out, List.length_singleton]; omega
 case rest =>
 obtain ⟨L2, HO4, HE4, HM4, HL4, HB4⟩ := hcut
 obtain ⟨v4a, v4c, hv4⟩ := zd_ HO4.out
 subst hv4
 obtain ⟨wS, rfl⟩ := gty (wc)
 cases h
 ·obtain ⟨a', hrun, hpr, hna⟩ := lo69 w pa P n pc (i) HN.out Xt0 hxc HXN.out HP.out
  have HLO := hid (fun W' => (by have := hrun W'; first | exact this | (rw [show (((i : Nat) : Int)) = (i : Int) by omega] at this; exact this) : (Instr.slice 69 (.slice pa n pc) (some (.int .i64 ((i : Int)))) .none .none).run prog W' = .ok (.slice a' (n - (i)) (pc - (i))) W'))
  have HPD := hid hpr
  have HNA := hid hna
  clear hrun hpr hna
  go_upto_region 6 with (fail)
  refine zr_ (z := 17) (S := (fun X => Below w.heap.size w X)) Xt3 (HB4.out.drew) fun hH => ?_
  refine tlk 0 rfl Xt2 ?_
  refine tlk 1 rfl Xt2 ?_
  refine tlk 2 rfl Xt2 ?_
  refine tlk 3 rfl Xf30 ?_
  refine tlk 4 rfl Xt2 ?_
  refine tlk 5 rfl Xt2 ?_
  refine tlk 6 rfl Xt2 ?_
  refine tlk 7 rfl Xt2 ?_
  refine tlk 8 rfl Xt2 ?_
  refine tlk 9 rfl Xf30 ?_
  refine tlk 10 rfl Xt2 ?_
  refine tlk 11 rfl Xt2 ?_
  refine tlk 12 rfl (fun W hSw => by have m := (HM.out W hSw).2; exact tks) ?_
  refine tlk 13 rfl Xt2 ?_
  refine tlk 14 rfl Xf41 ?_
  refine tl1 15 rfl fun K hK => ?_
  have hown := ze_ HO4.out ((Below.refl wS.heap.size wS).drew)
  refine z8_ rfl _ _ rfl w.heap.size (.slice v4a L2.length v4c) L2.length L2 rfl hown a' (pc - (i)) (n - (i)) (P.drop (i)) Xt64 rfl (HPD.out.below hH) HNA.out (by have := HL4.out; omega) hH.size ?_
  intro v9 w9 hown9 hgrow9
  obtain ⟨a9, c9, hv9⟩ := zd_ hown9
  subst hv9
  have b9 : Below w.heap.size w w9 := hH.grown hgrow9 hH.size (fun j hj => (hown.lt j hj).1)
  have HO9 := hid hown9
  have HB9 := hid b9
  have HE9 := hid (fun (X : World) (o : Off S w9 X) y hy => HE4.out y hy X (((Off.of_row (W := wS) (W' := w9) ⟨hgrow9.os, hgrow9.tape, hgrow9.output, hgrow9.size, hgrow9.block⟩).mono (fun k hk => .inr hk)).trans (o.mono (fun k hk => .inl hk))))
  refine hK.out _ _ b9 (fun hHeldn => ?_)
  clear hK K hH hown hown9 hgrow9 b9; have hH := hHeldn; clear hHeldn
  refine stP ?_
  refine tlk 16 rfl Xt2 ?_
  refine tlz rfl fun K hK => ?_
  have bx9 := HBX.out.below HB9.out
  have x4 := (HM.out _ HB9.out).2
  have f4 := bx9.frozen (o1 + t)
  go_simp
  refine hK.out _ _ ?_
  clear hK K x4 f4 bx9
  refine stP ?_
  refine zz_ Xt3 ?_ _
  skip
  have hle : (L2 ++ P.drop (i)).length = L2.length + (n - (i)) := by rw [List.length_append, List.length_drop, HN.out]
  have HLE := hid hle
  obtain ⟨hcc, hcn⟩ := zJ_ HO9.out
  have HCC := hid (And.intro hcc hcn)
  have HPR := hid (fun (X : World) (o : Off S w9 X) => yi_ (zm_ HO9.out o HS.out) hle (fun y hy => by
   rcases List.mem_append.1 hy with hy | hy
   ·exact HE9.out X o y hy
   ·obtain ⟨k, hk⟩ := List.mem_iff_getElem?.1 (List.mem_of_mem_drop hy)
    obtain ⟨_, _, _, _, _, l, r⟩ := (HST.out X ((Off.of HB9.out).trans o)) k y hk
    exact ⟨l, r⟩))
  clear hle hcc hcn hH
  refine bodyPost_end (v := .tuple #[]) (by simp [results, results58, go_sem]) rfl ?_
  refine ⟨_, w9, a9, c9, L2 ++ P.drop (i), rfl, by rw [HLE.out], HB9.out, HPR.out _ (Off.refl _ _), fun X o => HPR.out X o, by rw [HLE.out]; exact HCC.out.1, HCC.out.2, ?_⟩
  rw [List.map_append, HM4.out, List.append_assoc]
  first | rfl | simp
 ·have hhn := HHN.out rfl
  obtain ⟨a', hrun, hpr, hna⟩ := lo69 w pa P n pc (i + 1) HN.out Xt0 hxc HXN.out HP.out
  have HLO := hid (fun W' => (by have := hrun W'; first | exact this | (rw [show (((i + 1 : Nat) : Int)) = (i : Int) + 1 by omega] at this; exact this) : (Instr.slice 69 (.slice pa n pc) (some (.int .i64 ((i : Int) + 1))) .none .none).run prog W' = .ok (.slice a' (n - (i + 1)) (pc - (i + 1))) W'))
  have HPD := hid hpr
  have HNA := hid hna
  clear hrun hpr hna
  go_upto_region 6 with (fail)
  refine zr_ (z := 17) (S := (fun X => Below w.heap.size w X)) Xt3 (HB4.out.drew) fun hH => ?_
  refine tlk 0 rfl Xt2 ?_
  refine tlk 1 rfl Xt2 ?_
  refine tlk 2 rfl Xt2 ?_
  refine tlk 3 rfl Xf30 ?_
  refine tlk 4 rfl Xt2 ?_
  refine tlk 5 rfl Xt2 ?_
  refine tlk 6 rfl Xt2 ?_
  refine tlk 7 rfl Xt2 ?_
  refine tlk 8 rfl Xt2 ?_
  refine tlk 9 rfl Xf30 ?_
  refine tlk 10 rfl Xt2 ?_
  refine tlk 11 rfl Xt2 ?_
  refine tlk 12 rfl (fun W hSw => by have m := (HM.out W hSw).2; exact tks) ?_
  refine tlk 13 rfl Xt2 ?_
  refine tlk 14 rfl Xf41 ?_
  refine tl1 15 rfl fun K hK => ?_
  have hown := ze_ HO4.out ((Below.refl wS.heap.size wS).drew)
  refine z8_ rfl _ _ rfl w.heap.size (.slice v4a L2.length v4c) L2.length L2 rfl hown a' (pc - (i + 1)) (n - (i + 1)) (P.drop (i + 1)) Xt64 rfl (HPD.out.below hH) HNA.out (by have := HL4.out; omega) hH.size ?_
  intro v9 w9 hown9 hgrow9
  obtain ⟨a9, c9, hv9⟩ := zd_ hown9
  subst hv9
  have b9 : Below w.heap.size w w9 := hH.grown hgrow9 hH.size (fun j hj => (hown.lt j hj).1)
  have HO9 := hid hown9
  have HB9 := hid b9
  have HE9 := hid (fun (X : World) (o : Off S w9 X) y hy => HE4.out y hy X (((Off.of_row (W := wS) (W' := w9) ⟨hgrow9.os, hgrow9.tape, hgrow9.output, hgrow9.size, hgrow9.block⟩).mono (fun k hk => .inr hk)).trans (o.mono (fun k hk => .inl hk))))
  refine hK.out _ _ b9 (fun hHeldn => ?_)
  clear hK K hH hown hown9 hgrow9 b9; have hH := hHeldn; clear hHeldn
  refine stP ?_
  refine tlk 16 rfl Xt2 ?_
  refine tlz rfl fun K hK => ?_
  have bx9 := HBX.out.below HB9.out
  have x4 := (HM.out _ HB9.out).2
  have f4 := bx9.frozen (o1 + t)
  go_simp
  refine hK.out _ _ ?_
  clear hK K x4 f4 bx9
  refine stP ?_
  refine zz_ Xt3 ?_ _
  skip
  have hle : (L2 ++ P.drop (i + 1)).length = L2.length + (n - (i + 1)) := by rw [List.length_append, List.length_drop, HN.out]
  have HLE := hid hle
  obtain ⟨hcc, hcn⟩ := zJ_ HO9.out
  have HCC := hid (And.intro hcc hcn)
  have HPR := hid (fun (X : World) (o : Off S w9 X) => yi_ (zm_ HO9.out o HS.out) hle (fun y hy => by
   rcases List.mem_append.1 hy with hy | hy
   ·exact HE9.out X o y hy
   ·obtain ⟨k, hk⟩ := List.mem_iff_getElem?.1 (List.mem_of_mem_drop hy)
    obtain ⟨_, _, _, _, _, l, r⟩ := (HST.out X ((Off.of HB9.out).trans o)) k y hk
    exact ⟨l, r⟩))
  clear hle hcc hcn hH
  refine bodyPost_end (v := .tuple #[]) (by simp [results, results58, go_sem]) rfl ?_
  refine ⟨_, w9, a9, c9, L2 ++ P.drop (i + 1), rfl, by rw [HLE.out], HB9.out, HPR.out _ (Off.refl _ _), fun X o => HPR.out X o, by rw [HLE.out]; exact HCC.out.1, HCC.out.2, ?_⟩
  rw [List.map_append, HM4.out, List.append_assoc]
  first | rfl | simp
def TbS (S : Nat -> Prop) (W : World) (a : Option Addr) (L : List TbV) : Prop := ∀ (k : Nat) (x : TbV), L[k]? = some x -> ∃ b off, a = some ⟨b, off, none⟩ /\ W.cell? ⟨b, off + k, none⟩ = some (.slice x.pa x.P.length x.pc) /\ zs_ S W (fun X => zp_ X x.pa x.P)
theorem TbS.now {S : Nat -> Prop} {W : World} {a : Option Addr} {L : List TbV} (h : TbS S W a L) : TbR W a L := fun k x hx => by
 obtain ⟨b, off, e, c0, s⟩ := h k x hx
 exact ⟨b, off, e, c0, s.now⟩
theorem TbS.step {S T : Nat -> Prop} {W W' : World} {b off : Nat} {L : List TbV} (h : TbS S W (some ⟨b, off, none⟩) L) (o : Off S W W') (hn : W'.heap[b]? = W.heap[b]?) (hs : ∀ k, T k -> S k ∨ W.heap.size <= k) : TbS T W' (some ⟨b, off, none⟩) L := fun k x hx => by
 obtain ⟨b', off', e, c0, s⟩ := h k x hx
 cases e
 exact ⟨b, off, rfl, by rw [← c0]; unfold World.cell?; rw [hn], s.step o hs⟩
theorem TbS.set {S : Nat -> Prop} {w W' : World} {b1 o1 t : Nat} {Ts : List TbV} {x y : TbV} (h : TbS S w (some ⟨b1, o1, none⟩) Ts) (hx : Ts[t]? = some x) (hb : Below w.heap.size w W') (hS : S b1) (hy : zs_ S W' (fun X => zp_ X y.pa y.P)) : TbS S (W'.setCell ⟨b1, o1 + t, none⟩ (.slice y.pa y.P.length y.pc)) (some ⟨b1, o1, none⟩) (Ts.set t y) := fun k z hz => by
 have ho : Off S W' (W'.setCell ⟨b1, o1 + t, none⟩ (.slice y.pa y.P.length y.pc)) := (Off.refl S W').set ⟨b1, o1 + t, none⟩ hS _
 by_cases hk : t = k
 ·subst hk
  have hl := (List.getElem?_eq_some_iff.1 hx).1
  rw [List.getElem?_set_self hl] at hz
  cases hz
  obtain ⟨_, _, e, c0, _⟩ := h t x hx
  cases e
  exact ⟨b1, o1, rfl, World.cell?_setCell_same _ _ _ (tcb hb c0), hy.off ho⟩
 ·rw [List.getElem?_set_ne hk] at hz
  obtain ⟨_, _, e, c0, s⟩ := h k z hz
  cases e
  exact ⟨b1, o1, rfl, (World.cell?_setCell_other _ _ _ _ (by intro e; injection e with _ e _; omega)).trans (tcb hb c0), (s.below hb).off ho⟩
theorem rset_tb (p b1 o1 : Nat) (ka ra : Option Addr) (tn tc kn kc rn rc t : Nat) (Ts : List TbV) (x : TbV) (K : List Int) (R : List P1) (cs : Array Value) (hx : Ts[t]? = some x) (hn : Ts.length = tn) (hn2 : tn <= 1000000) (hK : K.length = kn) (hkn : kn <= 1000000) (bK : Byt K) (hR : R.length = rn) (hrn : rn <= 9000) (hl : ∀ q ∈ R, q.bs.length <= 9000) (ok : TbOk x) (hxc : x.P.length <= x.pc) (hxn : x.pa = none -> x.pc = 0) (w : World) (S : Nat -> Prop) (hS : ∀ k, S k -> k < w.heap.size) (hb1 : S b1) (hbx : zg_ w b1 cs 69) (hc : w.cell? ⟨p, 7, none⟩ = some (.slice (some ⟨b1, o1, none⟩) tn tc)) (hT : TbS S w (some ⟨b1, o1, none⟩) Ts) (hk : Ls .u8 w ka kc K) (hr : RdR w ra R) :
  Calls prog 58 #[.pointer (some ⟨p, 0, none⟩), .int .i64 (t : Int), .slice ka kn kc, .slice ra rn rc] w fun r w' => ∃ v y, r = .returned v /\ TbS S w' (some ⟨b1, o1, none⟩) (Ts.set t y) /\ Off (fun k => k = b1) w w' /\ zg_ w' b1 (cs.setIfInBounds (o1 + t) (.slice y.pa y.P.length y.pc)) 69 /\ y.P.length <= y.pc /\ (y.pa = none -> y.pc = 0) /\ tbC y = (x.P.take (xm_ K x.P)).map prC ++ ((if R.map P1.bs = [] then [] else [(K, R.map P1.bs)]) ++ (x.P.drop (xm_ K x.P + (if qg_ K x.P then 1 else 0))).map prC) := by
 obtain ⟨_, _, e, c0, st⟩ := hT t x hx
 cases e
 refine (rset_stay p b1 o1 ka ra tn tc kn kc rn rc t Ts x K R cs hx hn hn2 hK hkn bK hR hrn hl ok hxc hxn w S hS st hbx hc hT.now hk hr).mono ?_
 rintro r w' ⟨v, W', a', c', P', rfl, rfl, hb, hp, hs, h1, h2, h3⟩
 refine ⟨v, ⟨a', c', P'⟩, rfl, hT.set (y := ⟨a', c', P'⟩) hx hb hb1 hs, (Off.of hb).set (S := fun k => k = b1) _ rfl _, heap_setCell_same W' b1 (o1 + t) cs 69 _ (hbx.below hb), h1, h2, h3⟩
theorem rset_T (p b1 o1 : Nat) (ka ra : Option Addr) (tn tc kn kc rn rc t : Nat) (Ts : List TbV) (x : TbV) (K : List Int) (R : List P1) (cs : Array Value) (hx : Ts[t]? = some x) (hn : Ts.length = tn) (hn2 : tn <= 1000000) (hK : K.length = kn) (hkn : kn <= 1000000) (bK : Byt K) (hR : R.length = rn) (hrn : rn <= 9000) (hl : ∀ q ∈ R, q.bs.length <= 9000) (ok : TbOk x) (hto : z1_ (tbC x)) (hxc : x.P.length <= x.pc) (hxn : x.pa = none -> x.pc = 0) (w : World) (S : Nat -> Prop) (hS : ∀ k, S k -> k < w.heap.size) (hb1 : S b1) (hbx : zg_ w b1 cs 69) (hc : w.cell? ⟨p, 7, none⟩ = some (.slice (some ⟨b1, o1, none⟩) tn tc)) (hT : TbS S w (some ⟨b1, o1, none⟩) Ts) (hk : Ls .u8 w ka kc K) (hr : RdR w ra R) :
  Calls prog 58 #[.pointer (some ⟨p, 0, none⟩), .int .i64 (t : Int), .slice ka kn kc, .slice ra rn rc] w fun r w' => ∃ v y, r = .returned v /\ TbS S w' (some ⟨b1, o1, none⟩) (Ts.set t y) /\ Off (fun k => k = b1) w w' /\ zg_ w' b1 (cs.setIfInBounds (o1 + t) (.slice y.pa y.P.length y.pc)) 69 /\ y.P.length <= y.pc /\ (y.pa = none -> y.pc = 0) /\ tbC y = xT_ (tbC x) K (R.map P1.bs) /\ (Ts.set t y).map tbC = (Ts.map tbC).modify t fun z => xT_ z K (R.map P1.bs) := by
 refine (rset_tb p b1 o1 ka ra tn tc kn kc rn rc t Ts x K R cs hx hn hn2 hK hkn bK hR hrn hl ok hxc hxn w S hS hb1 hbx hc hT hk hr).mono ?_
 rintro r w' ⟨v, y, rfl, h1, h2, h3, h4, h5, h6⟩
 have h7 : tbC y = xT_ (tbC x) K (R.map P1.bs) := h6.trans (set_place hto)
 refine ⟨v, y, rfl, h1, h2, h3, h4, h5, h7, ?_⟩
 apply List.ext_getElem?
 intro k
 rw [List.getElem?_map, List.getElem?_modify, List.getElem?_map]
 by_cases hk : t = k
 ·subst hk
  rw [List.getElem?_set_self (List.getElem?_eq_some_iff.1 hx).1, hx]
  simp [h7]
 ·rw [List.getElem?_set_ne hk]
  simp [hk]
structure Rf where
 p : Nat
 j : Job
 b1 : Nat
 tc : Nat
 Ts : List TbV
def Rf.cs (f : Rf) : Array Value := #[.int .i64 f.j.w, .int .i64 f.j.l, .int .i64 f.j.d, .int .i64 f.j.c, .int .i64 f.j.k, .int .i64 f.j.e, .slice f.j.a f.j.n f.j.cap, .slice (some ⟨f.b1, 0, none⟩) f.Ts.length f.tc]
def Rf.P (f : Rf) : List (List Pr) := f.Ts.map tbC
structure RfR (S : Nat -> Prop) (W : World) (f : Rf) : Prop where
 box : zg_ W f.p f.cs 48
 job : zs_ S W fun W' => z2_ W' f.j
 tb : ∃ cs, zg_ W f.b1 cs 69
 tbs : TbS S W (some ⟨f.b1, 0, none⟩) f.Ts
 ok : okB f.j = true
 len : f.Ts.length = f.j.n
 cap : f.Ts.length <= f.tc
 hp : S f.p
 hb : S f.b1
 sl : ∀ x ∈ f.Ts, x.P.length <= x.pc /\ (x.pa = none -> x.pc = 0)
 lim : ∀ x ∈ f.Ts, tOk (tbC x)
theorem RfR.off {S S' T : Nat -> Prop} {W W' : World} {f : Rf} (h : RfR S W f) (o : Off T W W') (hT : ∀ k, T k -> S k) (h1 : ¬ T f.p) (h2 : ¬ T f.b1) (hs : ∀ k, S' k -> S k ∨ W.heap.size <= k) (hp : S' f.p) (hb : S' f.b1) : RfR S' W' f := by
 obtain ⟨cs, hcs⟩ := h.tb
 exact ⟨o.box h.box h1, h.job.step (o.mono hT) hs, ⟨cs, o.box hcs h2⟩, h.tbs.step (o.mono hT) (o.block f.b1 hcs.lt h2) hs, h.ok, h.len, h.cap, hp, hb, h.sl, h.lim⟩
theorem RfR.below {S : Nat -> Prop} {W W' : World} {f : Rf} (h : RfR S W f) (b : Below W.heap.size W W') : RfR S W' f := h.off (T := fun _ => False) (Off.of b) (fun _ h => h.elim) (fun h => h) (fun h => h) (fun _ h => .inl h) h.hp h.hb
theorem RfR.ne {S : Nat -> Prop} {W : World} {f : Rf} (h : RfR S W f) : f.p ≠ f.b1 := by
 obtain ⟨cs, hcs⟩ := h.tb
 exact zo_ h.box hcs Xt4
theorem Rf.P_len (f : Rf) : f.P.length = f.Ts.length := by simp [Rf.P]
theorem RfR.c {S : Nat -> Prop} {W : World} {f : Rf} (h : RfR S W f) : W.cell? ⟨f.p, 7, none⟩ = some (.slice (some ⟨f.b1, 0, none⟩) f.Ts.length f.tc) := by
 rw [h.box.cell]; rfl
theorem RfR.few {S : Nat -> Prop} {W : World} {f : Rf} (h : RfR S W f) : 1 <= f.Ts.length /\ f.Ts.length <= 4 := by
 rw [h.len]; exact okB_n h.ok
theorem RfR.pair {S : Nat -> Prop} {W : World} {f : Rf} (h : RfR S W f) {x : TbV} (hx : x ∈ f.Ts) {q : PrV} (hq : q ∈ x.P) : zH_ q.K /\ rOk (q.R.map P1.bs) := (h.lim x hx).2 (prC q) (List.mem_map.2 ⟨q, hq, rfl⟩)
theorem pr_ok {q : PrV} (h : zH_ q.K /\ rOk (q.R.map P1.bs)) : Qp_ q := ⟨h.1.1, yF_ h.2, by have := h.2.2.1; rw [List.length_map] at this; omega⟩
theorem RfR.tok {S : Nat -> Prop} {W : World} {f : Rf} (h : RfR S W f) {x : TbV} (hx : x ∈ f.Ts) (hn : x.P.length <= 1000000) : TbOk x := ⟨hn, fun q hq => pr_ok (h.pair hx hq)⟩
theorem pr_bound {q : PrV} (h : zH_ q.K /\ rOk (q.R.map P1.bs)) : q.R.length <= 9000 /\ ∀ p ∈ q.R, p.bs.length <= 9000 := by
 refine ⟨by have := h.2.2.1; rw [List.length_map] at this; omega, fun p hp => ?_⟩
 have := (h.2.2.2 p.bs (List.mem_map.2 ⟨p, hp, rfl⟩)).2
 omega
theorem RfR.getD {S : Nat -> Prop} {W : World} {f : Rf} (h : RfR S W f) {t : Nat} {x : TbV} (hx : f.Ts[t]? = some x) : f.P.getD t [] = tbC x := by
 rw [List.getD_eq_getElem?_getD]
 unfold Rf.P
 rw [List.getElem?_map, hx]; rfl
theorem RfR.tabok {S : Nat -> Prop} {W : World} {f : Rf} (h : RfR S W f) (t : Nat) : z1_ (f.P.getD t []) := by
 cases hx : f.Ts[t]? with
 | none =>
  have : f.P.getD t [] = [] := by
   rw [List.getD_eq_getElem?_getD]
   unfold Rf.P
   rw [List.getElem?_map, hx]; rfl
  rw [this]; exact List.Pairwise.nil
 | some x => rw [h.getD hx]; exact (h.lim x (List.mem_of_getElem? hx)).1
def RNewR (w : World) (j : Job) (r : Ending) (w' : World) : Prop :=
 if okB j then ∃ f : Rf, r = .returned (.pointer (some ⟨f.p, 0, none⟩)) /\ Below w.heap.size w w' /\ w.heap.size <= f.p /\ w.heap.size <= f.b1 /\ (∃ a c, f.j = { j with a := a, cap := c }) /\ f.Ts = List.replicate j.n ⟨none, 0, []⟩ /\ ∀ S : Nat -> Prop, (∀ k, S k -> k < w.heap.size ∨ k = f.p ∨ k = f.b1) -> S f.p -> S f.b1 -> RfR S w' f
 else r = .returned (.pointer none) /\ Below w.heap.size w w'
theorem info69 : (prog.info? 69).map (fun i => (i.zero, i.size, i.bytes)) = some (some (.slice none 0 0), 1, 24) := by kernel_rfl
theorem mk69 (n : Nat) (hn : n <= 1000000) (w : World) : (Instr.makeSlice 46 (.int .i64 (n : Int)) (.int .i64 (n : Int))).run prog w = .ok (.slice (some ⟨w.heap.size, 0, none⟩) n n) (w.alloc (.cells (madeCells #[.slice none 0 0] n) 69 (0, 0))) := by
 obtain ⟨i0, hi, hz0, hz1, hz2⟩ := info_parts info69
 have hr := run_make (P := prog) w 46 69 i0 (.slice none 0 0) underlying46 hi hz0 .i64 .i64 n n Xt0 (Int.le_refl _) (by rw [hz2]; omega) Xt0
 simp only [Int.toNat_natCast] at hr
 rw [hr, hz1]
 simp [Value.cells]
theorem made_at (n k : Nat) (h : k < n) : (madeCells #[.slice none 0 0] n)[k]? = some (.slice none 0 0) := by
 have h1 : (madeCells #[Value.slice none 0 0] n).toList = List.replicate n (.slice none 0 0) := toList_madeCells_one _ _
 have h2 : (madeCells #[Value.slice none 0 0] n)[k]? = (madeCells #[Value.slice none 0 0] n).toList[k]? := by simp
 rw [h2, h1, List.getElem?_replicate, if_pos h]
theorem rnew_law (j : Job) (w : World) (hj : z2_ w j) : Calls prog 11 #[.agg #[.int .i64 j.w, .int .i64 j.l, .int .i64 j.d, .int .i64 j.c, .int .i64 j.k, .int .i64 j.e, .slice j.a j.n j.cap]] w (RNewR w j) := by
 obtain ⟨w1, hw1⟩ := gty (w.alloc (.cells #[.int .i64 j.w, .int .i64 j.l, .int .i64 j.d, .int .i64 j.c, .int .i64 j.k, .int .i64 j.e, .slice j.a j.n j.cap] 24))
 have hb1 : Below w.heap.size w w1 := by rw [hw1]; exact bl1 _ _
 have hx1 : zg_ w1 w.heap.size #[.int .i64 j.w, .int .i64 j.l, .int .i64 j.d, .int .i64 j.c, .int .i64 j.k, .int .i64 j.e, .slice j.a j.n j.cap] 24 := by rw [hw1]; exact zg_.new _ _ _
 have HJ := hid hj
 have hli : (j.n : Int) <= 1000000 := by have := hj.le; omega
 have HCK := hid (xs_ j w1 (hj.below hb1))
 have HB1 := hid hb1
 have HX1 := hid hx1
 have c0 := hx1.cell 0
 have c1 := hx1.cell 1
 have c2 := hx1.cell 2
 have c3 := hx1.cell 3
 have c4 := hx1.cell 4
 have c5 := hx1.cell 5
 have c6 := hx1.cell 6
 simp only [gtA, gtB, gtC] at c0 c1 c2 c3 c4 c5 c6
 clear hj hb1 hx1
 go_enter func11, ntmps11
 go_upto_region 1 with (fail)
 rw [← hw1]
 clear hw1
 go_wp2_with fail
 clear c0 c1 c2 c3 c4 c5 c6
 refine HCK.out.mono ?_; rintro r w2 ⟨rfl, hb2⟩
 have HB2 := hid (HB1.out.trans (hb2.mono HB1.out.size))
 have hx2 := HX1.out.below hb2
 have HX2 := hid hx2
 have c6 := hx2.cell 6
 simp only [gtA, gtB, gtC] at c6
 clear hb2 hx2
 cases hok : okB j with
 | false =>
  have hv : qi_ j = 2 := by unfold qi_; rw [hok]; rfl
  have HR := hid (fun r w' (hh : r = .returned (.pointer none) /\ Below w.heap.size w w') => (by unfold RNewR; rw [hok]; exact hh : RNewR w j r w'))
  rw [hv]
  clear hok hv c6
  go_wp2_with fail
  go_ret
  exact HR.out _ _ ⟨rfl, HB2.out⟩
 | true =>
  have hv : qi_ j = 0 := by unfold qi_; rw [hok]; rfl
  have HOK := hid hok
  have HR := hid (fun r w' (hh : ∃ f : Rf, r = .returned (.pointer (some ⟨f.p, 0, none⟩)) /\ Below w.heap.size w w' /\ w.heap.size <= f.p /\ w.heap.size <= f.b1 /\ (∃ a c, f.j = { j with a := a, cap := c }) /\ f.Ts = List.replicate j.n ⟨none, 0, []⟩ /\ ∀ S : Nat -> Prop, (∀ k, S k -> k < w.heap.size ∨ k = f.p ∨ k = f.b1) -> S f.p -> S f.b1 -> RfR S w' f) => (by unfold RNewR; rw [hok]; exact hh : RNewR w j r w'))
  have hn4 := okB_n hok
  have HN4 := hid hn4
  rw [hv]
  clear hok hv
  go_wp2_with (at_builtin; refine zB_ eltI rfl (.const (.slice none 0 0)) (.tmp 7) rfl w2.heap.size _ 0 [] rfl (World.ownsRow_nil _ _ _ _) _ _ j.n j.T HJ.out.len rfl (HJ.out.ls.below HB2.out) Xt0 (Nat.le_refl _) ?_; intro v3 w3 hown3 hgrow3; rw [Nat.zero_add, List.nil_append] at hown3; obtain ⟨a2, cc2, hv3⟩ := zd_ hown3; subst hv3; have b3 := (Below.refl w2.heap.size w2).grown hgrow3 (Nat.le_refl _) Xt23; have HO3 := hid hown3; have HB3 := hid b3; have hx3 := HX2.out.below b3; have HX3 := hid hx3; have i6 := hx3.frozen 6; have g6 := hx3.cell 6; simp only [gtA, gtB, gtC] at g6; clear hown3 hgrow3 b3 hx3)
  have f6 := HX3.out.frozen 6
  have k6 := HX3.out.cell 6
  simp only [gtA, gtB, gtC] at k6
  obtain ⟨w4, hw4⟩ := gty (w3.setCell ⟨w.heap.size, 6, none⟩ (.slice a2 j.n cc2))
  have hx4 : zg_ w4 w.heap.size #[.int .i64 j.w, .int .i64 j.l, .int .i64 j.d, .int .i64 j.c, .int .i64 j.k, .int .i64 j.e, .slice a2 j.n cc2] 24 := by rw [hw4]; exact heap_setCell_same w3 w.heap.size 6 _ 24 _ HX3.out
  have ho4 : Off (fun k => k = w.heap.size) w3 w4 := by rw [hw4]; exact Off.set (S := fun k => k = w.heap.size) (Off.refl _ w3) ⟨w.heap.size, 6, none⟩ rfl _
  have HX4 := hid hx4
  have HO4 := hid ho4
  have HMK := hid (fun W => mk69 j.n (by have := HN4.out.2; omega) W)
  rw [← hw4]
  clear c6 f6 k6 hx4 ho4 hw4 hn4
  have hmk := HMK.out
  go_upto_region 4 with (fail)
  refine rgw w4 (Below.refl _ _).drew fun hH => ?_
  refine tkr 0 rfl (fun W hSw => by have m0 := (HX4.out.below hSw).cell 0; have m1 := (HX4.out.below hSw).cell 1; have m2 := (HX4.out.below hSw).cell 2; have m3 := (HX4.out.below hSw).cell 3; have m4 := (HX4.out.below hSw).cell 4; have m5 := (HX4.out.below hSw).cell 5; have m6 := (HX4.out.below hSw).cell 6; simp only [gtA, gtB, gtC] at m0 m1 m2 m3 m4 m5 m6; exact tks) ?_
  refine tkq 1 ?_
  refine tkr 2 rfl (fun W hSw => by have m6 := (HX4.out.below hSw).cell 6; simp only [gtA, gtB, gtC] at m6; exact tks) ?_
  refine tkq 3 ?_
  refine tk1 4 rfl fun K hK => ?_
  go_simp
  refine hK.out _ _ (hH.trans ((bl1 w4.drew (.cells (madeCells #[.slice none 0 0] j.n) 69 (0, 0))).mono hH.size)) fun hH => ?_
  refine stP ?_
  refine tkq 5 ?_
  refine tk1 6 rfl fun K hK => ?_
  go_simp
  refine hK.out _ _ (hH.trans ((bl1 (w4.drew.alloc (.cells (madeCells #[.slice none 0 0] j.n) 69 (0, 0))) (.cells #[.int .i64 j.w, .int .i64 j.l, .int .i64 j.d, .int .i64 j.c, .int .i64 j.k, .int .i64 j.e, .slice a2 j.n cc2, .slice (some ⟨w4.heap.size, 0, none⟩) j.n j.n] 48)).mono hH.size)) fun hH => ?_
  refine stP ?_
  refine tkq 7 ?_
  refine adn ?_
  skip
  go_wp2_with fail
  go_ret
  have hw34 : w3.heap.size <= w4.heap.size := HO4.out.size
  have hw03 : w.heap.size <= w3.heap.size := Nat.le_trans HB2.out.size HB3.out.size
  have hbl4 : Below w.heap.size w w4 := Off.below (HB2.out.trans (HB3.out.mono HB2.out.size)) HO4.out hw03 (fun k hk => by cases hk; exact Nat.le_refl _)
  obtain ⟨wz, hwz⟩ := gty (((w4.alloc (.cells (madeCells #[.slice none 0 0] j.n) 69)).alloc (.cells #[.int .i64 j.w, .int .i64 j.l, .int .i64 j.d, .int .i64 j.c, .int .i64 j.k, .int .i64 j.e, .slice a2 j.n cc2, .slice (some ⟨w4.heap.size, 0, none⟩) j.n j.n] 48)).drew)
  have hb1' := zg_.new w4 (madeCells #[.slice none 0 0] j.n) 69
  have hbz := bl1 (w4.alloc (.cells (madeCells #[.slice none 0 0] j.n) 69)) (.cells #[.int .i64 j.w, .int .i64 j.l, .int .i64 j.d, .int .i64 j.c, .int .i64 j.k, .int .i64 j.e, .slice a2 j.n cc2, .slice (some ⟨w4.heap.size, 0, none⟩) j.n j.n] 48)
  have hb2' := (hb1'.below hbz).below (Below.refl _ _).drew
  have hp' := zg_.new (w4.alloc (.cells (madeCells #[.slice none 0 0] j.n) 69)) #[.int .i64 j.w, .int .i64 j.l, .int .i64 j.d, .int .i64 j.c, .int .i64 j.k, .int .i64 j.e, .slice a2 j.n cc2, .slice (some ⟨w4.heap.size, 0, none⟩) j.n j.n] 48 |>.below (Below.refl _ _).drew
  have hbw : Below w4.heap.size w4 wz := by rw [hwz]; exact ((bl1 w4 _).trans (hbz.mono Xt5)).drew
  rw [← hwz] at hb2' hp'
  rw [World.size_alloc] at hp'
  have hjt : ∀ S : Nat -> Prop, (∀ k, S k -> k < w.heap.size ∨ k = w4.heap.size + 1 ∨ k = w4.heap.size) -> zs_ S wz fun W' => z2_ W' { j with a := a2, cap := cc2 } := fun S hS W' o => by
   have h3 : w4.ownsRow w2.heap.size 3 1 (.slice a2 j.n cc2) j.n (iv .i64 j.T) := zn_ HO3.out HO4.out (fun g hg e => by
    cases e
    have := (zb_ HO3.out hg).1
    have := HB2.out.size
    have := HX2.out.lt
    omega)
   have h4 := zn_ (ze_ h3 hbw) o (fun g hg hs => by
    have h5 := zb_ h3 hg
    have h6 := HB2.out.size
    rcases hS g hs with h | h | h <;> omega)
   obtain ⟨a', c', e, l, _⟩ := yy_ h4 HJ.out.len
   cases e
   exact ⟨l, HJ.out.len, HJ.out.le⟩
  refine HR.out _ _ ⟨⟨w4.heap.size + 1, { j with a := a2, cap := cc2 }, w4.heap.size, j.n, List.replicate j.n ⟨none, 0, []⟩⟩, ?_, hwz ▸ hbl4.trans (hbw.mono hbl4.size), ?_, ?_, ⟨a2, cc2, rfl⟩, rfl, fun S hS hp hb => ?_⟩
  ·rfl
  ·show w.heap.size <= w4.heap.size + 1; omega
  ·show w.heap.size <= w4.heap.size; omega
  ·rw [← hwz]
   refine ⟨?_, hjt S hS, ⟨_, hb2'⟩, ?_, HOK.out, by simp, by simp, hp, hb, ?_, ?_⟩
   ·unfold Rf.cs
    rw [List.length_replicate]
    exact hp'
   ·intro k x hx
    rw [List.getElem?_replicate] at hx
    split at hx
    ·rename_i hk
     cases hx
     refine ⟨w4.heap.size, 0, rfl, ?_, fun W' _ => zp_.nil _ _⟩
     rw [hb2'.cell, Nat.zero_add]
     exact made_at j.n k hk
    ·cases hx
   ·intro x hx
    rw [List.eq_of_mem_replicate hx]
    exact ⟨Nat.le_refl _, fun _ => rfl⟩
   ·intro x hx
    rw [List.eq_of_mem_replicate hx]
    exact ⟨List.Pairwise.nil, fun p hp => by cases hp⟩
end Go.Proofs.YthmofoldmdafoaaGreat
