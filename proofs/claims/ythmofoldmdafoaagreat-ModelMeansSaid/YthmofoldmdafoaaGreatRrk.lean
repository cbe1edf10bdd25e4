/- ModelReads: a transaction that reads alone writes nothing, and is answered the same again and again; for every input. Part 11. -/
import Derived.Test.YthmofoldmdafoaaGreatRrj
import Derived.Lib.SlBytesConst
namespace Go.Proofs.YthmofoldmdafoaaGreat
open Go.ChangeShapes Go.WideShapes Go.ChangeAt Go.RowKit Go.Maps Go.Shelf
set_option linter.unusedVariables false
set_option linter.unusedSimpArgs false

theorem okJ (a : Option Addr) (c : Nat) : okB (jobV a c) = true := by rfl
theorem bytd {L : List Int} (h : (L.all fun x => decide (0 ≤ x ∧ x ≤ 255)) = true) : Byt L := fun x hx => by simpa using List.all_eq_true.1 h x hx
theorem rowd {F : List (List Int)} (h : (F.all fun f => (f.all fun x => decide (0 ≤ x ∧ x ≤ 255)) && decide (f.length ≤ 1000)) = true) : ∀ f ∈ F, Byt f ∧ f.length ≤ 1000 := fun f hf => by
  have := List.all_eq_true.1 h f hf
  rw [Bool.and_eq_true] at this
  exact ⟨bytd this.1, by simpa using this.2⟩
theorem st_snoc {S : Nat → Prop} {W W' : World} {L : List CallV} {o : CallV} (h : ∀ o ∈ L, Stay S W fun X => CallAt X o) (b : Below W.heap.size W W') (hn : Stay S W' fun X => CallAt X o) : ∀ x ∈ L ++ [o], Stay S W' fun X => CallAt X x := fun x hx => by
  rcases List.mem_append.1 hx with hx | hx
  · exact (h x hx).below b
  · rw [List.mem_singleton] at hx; subst hx; exact hn
theorem ls_box {W : World} {B : Nat} {cs : Array Value} {mk : Nat × Nat} (L : List Int) (h : W.heap[B]? = some (.cells cs 5 mk)) (he : cs.toList = L.map (Value.int .u8)) : Ls .u8 W (some ⟨B, 0, none⟩) L.length L := ⟨fun k hk => by
  refine ⟨B, 0, rfl, ?_⟩
  have e : cs[k]? = some (.int .u8 (L.getD k 0)) := by rw [← Array.getElem?_toList, he, List.getElem?_map, List.getElem?_eq_getElem hk, List.getD_eq_getElem?_getD, List.getElem?_eq_getElem hk]; rfl
  simp [World.cell?, h, e], fun e => (nomatch e), Nat.le_refl _⟩
theorem conv42 (w : World) (C : Array Value) (n c : Nat) : (convert 42 42 (.slice (some ⟨w.heap.size, 0, none⟩) n c)).run Tryz.prog (w.alloc (.cells C 5)) = .ok (.slice (some ⟨w.heap.size, 0, none⟩) n c) (w.alloc (.cells C 5 (C.size, C.size + 1))) := Lib.run_convert_bytes_const w 42 5 C n c Tryz.underlying42 Tryz.underlying5
/-- Writes, of what may be. -/
def WrtsY (S : Nat → Prop) (w : World) (m : Md) (L : Ws) (r : Ending) (w' : World) : Prop :=
  ∃ (a : Option Addr) (c : Nat) (E : List WtV), r = .returned (.tuple #[.slice a E.length c, .int .i64 0]) ∧ Below w.heap.size w w' ∧ (E.map WtV.P).Perm L ∧ (E.Pairwise fun x y => ltW y x = false) ∧ (∀ y ∈ E, y.t < m.tabs.length ∧ keyOk y.K ∧ (y.r.R ≠ [] → rOk y.r.P)) ∧ Stay S w' fun W => WrR W a (E.map WtV.W)
theorem writes_yes {S : Nat → Prop} {m : Md} {w : World} (h : MdR S w m) (hS : ∀ k, S k → k < w.heap.size) (x : TxnV) (hx : Stay S w fun W => TxnAt W x) (hon : x.on ≤ 1000000) (hrn : ∀ o ∈ x.ops, o.rn ≤ 1000000) (hf : ∀ z ∈ m.tabs, z.2.length ≤ 300000) (hm : mayT m.j x = true) :
    Calls Tryz.prog 25 #[.pointer (some ⟨m.p, 0, none⟩), .agg #[.slice x.oa x.on x.oc, .bool x.sn, .bool x.ab]] w (WrtsY S w m (wrtP m.j m.P x)) := (writes_law h hS x hx hon hrn hf).mono fun r w' h => by
  unfold WrtsR at h
  rw [if_pos hm] at h
  exact h
theorem fields74 : (match Tryz.prog.underlying 74 with | some (.struct fs) => (fs[6]?).map (fun f => (f.type, f.offset)) | _ => none) = some (50, 6) := by kernel_rfl
theorem agg50 (W : World) : (isAgg 50).run Tryz.prog W = .ok false W := by kernel_rfl
theorem field74 (W : World) (a0 a1 a2 a3 a4 a5 a6 : Value) : (Instr.field 74 (.agg #[a0, a1, a2, a3, a4, a5, a6]) 6).run Tryz.prog W = .ok a6 W := by
  have h := fields74
  cases hu : Tryz.prog.underlying 74 with
  | none => rw [hu] at h; cases h
  | some t =>
    rw [hu] at h
    cases t with
    | struct fs =>
      simp only at h
      cases hf : fs[6]? with
      | none => rw [hf] at h; cases h
      | some f =>
        rw [hf] at h
        simp only [Option.map_some, Option.some.injEq, Prod.mk.injEq] at h
        unfold Instr.field
        simp [run_underlying hu, hf, h.1, h.2, part, agg50, Result.andThen]
        rfl
    | _ => cases h
theorem two_below (w : World) (o p : Obj) : Below w.heap.size w ((w.alloc o).alloc p) := step_below (bl1 w o) (bl1 _ p)
theorem pairs_at {W : World} {B : Nat} {cs : Array Value} (L : List PrV) (h : BoxC W B cs 78) (he : cs = (prcells L).toArray) (ok : ∀ x ∈ L, Ls .u8 W x.ka x.kc x.K ∧ RdR W x.ra x.R) : PairsR W (some ⟨B, 0, none⟩) L := fun k x hx => by
  have hc : ∀ i, i < 2 → W.cell? ⟨B, 0 + k * 2 + i, none⟩ = (pcl x)[i]? := fun i hi => by
    rw [Nat.zero_add, h.cell (k * 2 + i), he, List.getElem?_toArray]
    exact cellsOf_at (f := pcl) (sz := 2) (fun _ => rfl) L k i x hx hi
  exact ⟨B, 0, rfl, hc 0 (by omega), hc 1 (by omega), ok x (List.mem_of_getElem? hx)⟩
theorem res_at {W : World} {B : Nat} {cs : Array Value} (L : List ResV) (h : BoxC W B cs 81) (he : cs = (cellsOf rcl L).toArray) (ok : ∀ x ∈ L, PairsR W x.pa x.P) : ResR W (some ⟨B, 0, none⟩) L := fun k x hx => by
  have hc : ∀ i, i < 2 → W.cell? ⟨B, 0 + k * 2 + i, none⟩ = (rcl x)[i]? := fun i hi => by
    rw [Nat.zero_add, h.cell (k * 2 + i), he, List.getElem?_toArray]
    exact cellsOf_at (f := rcl) (sz := 2) (fun _ => rfl) L k i x hx hi
  exact ⟨B, 0, rfl, hc 0 (by omega), hc 1 (by omega), ok x (List.mem_of_getElem? hx)⟩
/-- Nothing that was there is changed. -/
def Bel (X Y : World) : Prop := Below X.heap.size X Y
theorem rsameres_yes (a b : Option Addr) (L M : List ResV) (n ca cb : Nat) (hn : L.length = n) (hm : M.length = n) (hn2 : n ≤ 1000000) (okL : ∀ x ∈ L, ResOk x) (okM : ∀ x ∈ M, ResOk x) (hs : L.map resC = M.map resC) (w : World) (hA : ResR w a L) (hB : ResR w b M) :
    Calls Tryz.prog 34 #[.slice a n ca, .slice b n cb] w fun r w' => r = .returned (.bool true) ∧ Bel w w' := by
  have h := rsameresults_law a b L M n n ca cb hn hm hn2 hn2 okL okM w hA hB
  rw [decide_eq_true hs] at h
  exact h
theorem pairs_nil (W : World) (a : Option Addr) : PairsR W a [] := fun k x hx => by simp at hx
theorem cpr_out {base n : Nat} {R : List P1} {v : Value} {W : World} {F : List (List Int)} (h : CpR base R n v W) (hF : R.map P1.bs = F) (hn : R.length = n) : ∃ a c R', v = .slice a n c ∧ R'.map P1.bs = F ∧ RdR W a R' := by
  obtain ⟨a, c, R', h1, h2, _, h4, _⟩ := h.lies hn
  exact ⟨a, c, R', h1, h4.trans hF, h2⟩
set_option maxRecDepth 100000 in
set_option maxHeartbeats 4000000 in
/-- known (9). -/
theorem known_law22 (w : World) : Calls Tryz.prog 9 #[] w fun r w' => r = .returned (.bool true) ∧ Below w.heap.size w w' := by
  have hc42 := conv42
  have hf74 := field74
  go_enter Tryz.func9, Tryz.ntmps9
  go_wp2_with fail
  refine (job_law w).mono ?_; rintro r w1 ⟨ja, jc, rfl, hb1, hj⟩
  have HB1 := Lib.hid hb1
  have HJ0 := Lib.hid hj
  clear hb1 hj
  go_wp2_with fail
  refine (new_law (jobV ja jc) w1 HJ0.out).mono ?_; rintro r w2 hnew
  unfold NewR at hnew
  rw [if_pos (okJ ja jc)] at hnew
  obtain ⟨S, m, rfl, hb2, hmd, hSm, ⟨mja, mjc, hmj⟩, hem⟩ := hnew
  have HB := Lib.hid (step_below HB1.out hb2)
  have HM := Lib.hid hmd
  have HZ := Lib.hid (fun k (hk : S k) => (hSm k hk).2)
  have HLO := Lib.hid (fun k (hk : S k) => Nat.le_trans HB1.out.size (hSm k hk).1)
  have HD := Lib.hid (Below.refl w2.heap.size w2)
  have HJ := Lib.hid (show m.j = jobK mja mjc from hmj)
  have HP := Lib.hid (show m.P = [[]] ∧ ∀ z ∈ m.tabs, z.2.length ≤ 0 by
    have hl : m.tabs.length = 1 := by rw [hmd.len, hmj]; rfl
    obtain ⟨z, hz⟩ := List.length_eq_one_iff.1 hl
    have h1 := hem z (by rw [hz]; simp)
    refine ⟨by unfold Md.P; rw [hz, List.map_cons, h1]; rfl, fun z' hz' => by rw [hem z' hz']; exact Nat.le_refl _⟩)
  clear hb2 hmd hSm hmj hem HJ0 HB1
  go_wp2_with fail
  replace HST := Lib.hid (show ∀ o ∈ ([] : List CallV), Stay S w2 fun W => CallAt W o from fun o ho => nomatch ho)
  have hq := opc_law 3 [97] _ rfl (bytd rfl) (by decide) (some ⟨(w2).heap.size, 0, none⟩) 2 2 [[120], [121]] rfl (by decide) (rowd rfl) ((w2).alloc (.cells #[.string { data := #[120] }, .string { data := #[121] }] 9)) (strs_at _ (BoxC.new _ #[.string { data := #[120] }, .string { data := #[121] }] 9) rfl)
  have hm0 : Below (w2).heap.size (w2) ((w2).alloc (.cells #[.string { data := #[120] }, .string { data := #[121] }] 9)) := bl1 _ _
  refine hq.mono ?_; clear hq; rintro r w3 ⟨k1, d1, r1, e1, R1, rfl, hb, hR, hc⟩
  obtain ⟨p1, q1, s1, t1, rfl⟩ := two_rows hR
  have hb := step_below hm0 hb
  have hzz := HD.out.size
  have hzy := hm0.size
  have hc' : Stay S w3 fun W => CallAt W (opV 3 [97] k1 d1 r1 e1 [b1 p1 q1 120, b1 s1 t1 121]) := hc S (fun q hq => Nat.lt_of_lt_of_le (HZ.out q hq) (Nat.le_trans hzz hzy))
  replace HST := Lib.hid (st_snoc HST.out hb hc')
  clear hc hc' hR hm0 hzz hzy
  replace HB := Lib.hid (step_below HB.out (hb : Below (w2).heap.size (w2) w3))
  replace HD := Lib.hid (step_below HD.out (hb : Below (w2).heap.size (w2) w3))
  clear hb
  go_wp2_with fail
  have hq := opc_law 3 [97] _ rfl (bytd rfl) (by decide) (some ⟨(w3).heap.size, 0, none⟩) 1 1 [[122]] rfl (by decide) (rowd rfl) ((w3).alloc (.cells #[.string { data := #[122] }] 9)) (strs_at _ (BoxC.new _ #[.string { data := #[122] }] 9) rfl)
  have hm0 : Below (w3).heap.size (w3) ((w3).alloc (.cells #[.string { data := #[122] }] 9)) := bl1 _ _
  refine hq.mono ?_; clear hq; rintro r w4 ⟨k2, d2, r2, e2, R2, rfl, hb, hR, hc⟩
  obtain ⟨p2, q2, rfl⟩ := one_row hR
  have hb := step_below hm0 hb
  have hzz := HD.out.size
  have hzy := hm0.size
  have hc' : Stay S w4 fun W => CallAt W (opV 3 [97] k2 d2 r2 e2 [b1 p2 q2 122]) := hc S (fun q hq => Nat.lt_of_lt_of_le (HZ.out q hq) (Nat.le_trans hzz hzy))
  replace HST := Lib.hid (st_snoc HST.out hb hc')
  clear hc hc' hR hm0 hzz hzy
  replace HB := Lib.hid (step_below HB.out (hb : Below (w3).heap.size (w3) w4))
  replace HD := Lib.hid (step_below HD.out (hb : Below (w3).heap.size (w3) w4))
  clear hb
  go_wp2_with fail
  have hq := opc_law 1 [97] _ rfl (bytd rfl) (by decide) none 0 0 [] rfl (by decide) (rowd rfl) (w4) (strs_no _ _)
  have hm0 : Below (w4).heap.size (w4) (w4) := Below.refl _ _
  refine hq.mono ?_; clear hq; rintro r w5 ⟨k3, d3, r3, e3, R3, rfl, hb, hR, hc⟩
  obtain rfl := no_row hR
  have hb := step_below hm0 hb
  have hzz := HD.out.size
  have hzy := hm0.size
  have hc' : Stay S w5 fun W => CallAt W (opV 1 [97] k3 d3 r3 e3 []) := hc S (fun q hq => Nat.lt_of_lt_of_le (HZ.out q hq) (Nat.le_trans hzz hzy))
  replace HST := Lib.hid (st_snoc HST.out hb hc')
  clear hc hc' hR hm0 hzz hzy
  replace HB := Lib.hid (step_below HB.out (hb : Below (w4).heap.size (w4) w5))
  replace HD := Lib.hid (step_below HD.out (hb : Below (w4).heap.size (w4) w5))
  clear hb
  go_wp2_with fail
  have hq := opc_law 4 [98] _ rfl (bytd rfl) (by decide) none 0 0 [] rfl (by decide) (rowd rfl) (w5) (strs_no _ _)
  have hm0 : Below (w5).heap.size (w5) (w5) := Below.refl _ _
  refine hq.mono ?_; clear hq; rintro r w6 ⟨k4, d4, r4, e4, R4, rfl, hb, hR, hc⟩
  obtain rfl := no_row hR
  have hb := step_below hm0 hb
  have hzz := HD.out.size
  have hzy := hm0.size
  have hc' : Stay S w6 fun W => CallAt W (opV 4 [98] k4 d4 r4 e4 []) := hc S (fun q hq => Nat.lt_of_lt_of_le (HZ.out q hq) (Nat.le_trans hzz hzy))
  replace HST := Lib.hid (st_snoc HST.out hb hc')
  clear hc hc' hR hm0 hzz hzy
  replace HB := Lib.hid (step_below HB.out (hb : Below (w5).heap.size (w5) w6))
  replace HD := Lib.hid (step_below HD.out (hb : Below (w5).heap.size (w5) w6))
  clear hb
  go_wp2_with fail
  have hzz := HD.out.size
  have hx : Stay S ((w6).alloc (.cells (cellsOf ocl [(opV 3 [97] k1 d1 r1 e1 [b1 p1 q1 120, b1 s1 t1 121]), (opV 3 [97] k2 d2 r2 e2 [b1 p2 q2 122]), (opV 1 [97] k3 d3 r3 e3 []), (opV 4 [98] k4 d4 r4 e4 [])]).toArray 74)) fun W => TxnAt W ⟨some ⟨(w6).heap.size, 0, none⟩, 4, 4, [(opV 3 [97] k1 d1 r1 e1 [b1 p1 q1 120, b1 s1 t1 121]), (opV 3 [97] k2 d2 r2 e2 [b1 p2 q2 122]), (opV 1 [97] k3 d3 r3 e3 []), (opV 4 [98] k4 d4 r4 e4 [])], false, false⟩ := fun W' o => ⟨ops_new [(opV 3 [97] k1 d1 r1 e1 [b1 p1 q1 120, b1 s1 t1 121]), (opV 3 [97] k2 d2 r2 e2 [b1 p2 q2 122]), (opV 1 [97] k3 d3 r3 e3 []), (opV 4 [98] k4 d4 r4 e4 [])] rfl (fun k hk => Nat.lt_of_lt_of_le (HZ.out k hk) hzz) HST.out W' o, rfl⟩
  have hbA := bl1 (w6) (.cells (cellsOf ocl [(opV 3 [97] k1 d1 r1 e1 [b1 p1 q1 120, b1 s1 t1 121]), (opV 3 [97] k2 d2 r2 e2 [b1 p2 q2 122]), (opV 1 [97] k3 d3 r3 e3 []), (opV 4 [98] k4 d4 r4 e4 [])]).toArray 74)
  have key := do_yes (HM.out.below (step_below HD.out hbA)) (fun k hk => Nat.lt_of_lt_of_le (HZ.out k hk) (Nat.le_trans hzz hbA.size)) ⟨some ⟨(w6).heap.size, 0, none⟩, 4, 4, [(opV 3 [97] k1 d1 r1 e1 [b1 p1 q1 120, b1 s1 t1 121]), (opV 3 [97] k2 d2 r2 e2 [b1 p2 q2 122]), (opV 1 [97] k3 d3 r3 e3 []), (opV 4 [98] k4 d4 r4 e4 [])], false, false⟩ hx (Nat.le_of_ble_eq_true rfl) (by intro o ho; simp at ho; rcases ho with rfl | rfl | rfl | rfl <;> exact Nat.le_of_ble_eq_true rfl) (fun z hz => by have := HP.out.2 z hz; omega) (by rw [HJ.out]; exact (may1 ..))
  try simp only [World.size_alloc] at key
  refine key.mono ?_; clear key; rintro r D1 ⟨m1, a1, c1, rs1, rfl, hmd, hsame, hPn, hoff, hlen, hans, hrok, hrst⟩
  have hSM : ∀ k, Maps' m k → S k := fun k ⟨x, hx, e⟩ => e ▸ HM.out.hS x hx
  rw [HJ.out, HP.out.1] at hPn hans
  have hPn := hPn.trans (wrt1 ..)
  have hans := hans.trans (ans1 ..)
  have hl1 : rs1.length = 4 := by have := congrArg List.length hans; simpa using this
  rw [hl1]
  have HL1 := Lib.hid hl1
  have HR1 := Lib.hid (And.intro hans (And.intro hrok hrst))
  replace HB := Lib.hid (Off.below (step_below HB.out hbA) hoff (Nat.le_trans HB.out.size hbA.size) (fun k hk => HLO.out k (hSM k hk)))
  replace HZ := Lib.hid (fun k (hk : S k) => Nat.lt_of_lt_of_le (HZ.out k hk) (Nat.le_trans hzz (Nat.le_trans hbA.size hoff.size)))
  replace HP := Lib.hid (And.intro hPn (hlen 0 (fun x hx => HP.out.2 x hx)))
  replace HJ := Lib.hid (hsame.j.trans HJ.out)
  replace HMP := Lib.hid hsame.p
  replace HM := Lib.hid hmd
  replace HD := Lib.hid (Below.refl D1.heap.size D1)
  clear hmd hsame hPn hoff hlen hans hrok hrst hx hbA hzz hSM hl1 HST
  go_wp2_with fail
  replace HST := Lib.hid (show ∀ o ∈ ([] : List CallV), Stay S D1 fun W => CallAt W o from fun o ho => nomatch ho)
  have hq := opc_law 2 [98] _ rfl (bytd rfl) (by decide) (some ⟨(D1).heap.size, 0, none⟩) 2 2 [[120], [119]] rfl (by decide) (rowd rfl) ((D1).alloc (.cells #[.string { data := #[120] }, .string { data := #[119] }] 9)) (strs_at _ (BoxC.new _ #[.string { data := #[120] }, .string { data := #[119] }] 9) rfl)
  have hm0 : Below (D1).heap.size (D1) ((D1).alloc (.cells #[.string { data := #[120] }, .string { data := #[119] }] 9)) := bl1 _ _
  refine hq.mono ?_; clear hq; rintro r w7 ⟨k5, d5, r5, e5, R5, rfl, hb, hR, hc⟩
  obtain ⟨p5, q5, s5, t5, rfl⟩ := two_rows hR
  have hb := step_below hm0 hb
  have hzz := HD.out.size
  have hzy := hm0.size
  have hc' : Stay S w7 fun W => CallAt W (opV 2 [98] k5 d5 r5 e5 [b1 p5 q5 120, b1 s5 t5 119]) := hc S (fun q hq => Nat.lt_of_lt_of_le (HZ.out q hq) (Nat.le_trans hzz hzy))
  replace HST := Lib.hid (st_snoc HST.out hb hc')
  clear hc hc' hR hm0 hzz hzy
  replace HB := Lib.hid (step_below HB.out (hb : Below (D1).heap.size (D1) w7))
  replace HD := Lib.hid (step_below HD.out (hb : Below (D1).heap.size (D1) w7))
  clear hb
  go_wp2_with fail
  have hbw := bl1 (w7) (.cells #[.int .u8 119] 5 (1, 2))
  have hkw : Stay S ((w7).alloc (.cells #[.int .u8 119] 5 (1, 2))) fun W => CallAt W (opL (some ⟨(w7).heap.size, 0, none⟩) 1) := fun W' o => ⟨ls_box [119] ((o.block (w7).heap.size (by simp) (fun e => by have h1 := HZ.out _ e; have h2 := HD.out.size; omega)).trans (World.alloc_heap_new (w7) (.cells #[.int .u8 119] 5 (1, 2)))) rfl, rfl, bytd rfl, Ls.nul _ _, rfl, (fun x hx => nomatch hx), (fun k p hp => by have hp : ([] : List P1)[k]? = some p := hp; simp at hp), rfl, fun p hp => nomatch hp⟩
  replace HST := Lib.hid (st_snoc HST.out hbw hkw)
  replace HB := Lib.hid (step_below HB.out (hbw : Below (w7).heap.size (w7) ((w7).alloc (.cells #[.int .u8 119] 5 (1, 2)))))
  replace HD := Lib.hid (step_below HD.out (hbw : Below (w7).heap.size (w7) ((w7).alloc (.cells #[.int .u8 119] 5 (1, 2)))))
  clear hbw hkw
  replace HST := Lib.hid (st_snoc HST.out (Below.refl _ _) (show Stay S ((w7).alloc (.cells #[.int .u8 119] 5 (1, 2))) fun W => CallAt W opS from fun W' o => ⟨Ls.nul _ _, rfl, (fun x hx => nomatch hx), Ls.nul _ _, rfl, (fun x hx => nomatch hx), (fun k p hp => by have hp : ([] : List P1)[k]? = some p := hp; simp at hp), rfl, fun p hp => nomatch hp⟩))
  have hzz := HD.out.size
  have hx : Stay S ((((w7).alloc (.cells #[.int .u8 119] 5 (1, 2)))).alloc (.cells (cellsOf ocl [(opV 2 [98] k5 d5 r5 e5 [b1 p5 q5 120, b1 s5 t5 119]), (opL (some ⟨(w7).heap.size, 0, none⟩) 1), opS]).toArray 74)) fun W => TxnAt W ⟨some ⟨(((w7).alloc (.cells #[.int .u8 119] 5 (1, 2)))).heap.size, 0, none⟩, 3, 3, [(opV 2 [98] k5 d5 r5 e5 [b1 p5 q5 120, b1 s5 t5 119]), (opL (some ⟨(w7).heap.size, 0, none⟩) 1), opS], false, false⟩ := fun W' o => ⟨ops_new [(opV 2 [98] k5 d5 r5 e5 [b1 p5 q5 120, b1 s5 t5 119]), (opL (some ⟨(w7).heap.size, 0, none⟩) 1), opS] rfl (fun k hk => Nat.lt_of_lt_of_le (HZ.out k hk) hzz) HST.out W' o, rfl⟩
  have hbA := bl1 (((w7).alloc (.cells #[.int .u8 119] 5 (1, 2)))) (.cells (cellsOf ocl [(opV 2 [98] k5 d5 r5 e5 [b1 p5 q5 120, b1 s5 t5 119]), (opL (some ⟨(w7).heap.size, 0, none⟩) 1), opS]).toArray 74)
  have key := do_yes (HM.out.below (step_below HD.out hbA)) (fun k hk => Nat.lt_of_lt_of_le (HZ.out k hk) (Nat.le_trans hzz hbA.size)) ⟨some ⟨(((w7).alloc (.cells #[.int .u8 119] 5 (1, 2)))).heap.size, 0, none⟩, 3, 3, [(opV 2 [98] k5 d5 r5 e5 [b1 p5 q5 120, b1 s5 t5 119]), (opL (some ⟨(w7).heap.size, 0, none⟩) 1), opS], false, false⟩ hx (Nat.le_of_ble_eq_true rfl) (by intro o ho; simp at ho; rcases ho with rfl | rfl | rfl <;> exact Nat.le_of_ble_eq_true rfl) (fun z hz => by have := HP.out.2 z hz; omega) (by rw [HJ.out]; exact (may2 ..))
  rw [HMP.out] at key
  try simp only [World.size_alloc] at key
  refine key.mono ?_; clear key; rintro r D2 ⟨m2, a2, c2, rs2, rfl, hmd, hsame, hPn, hoff, hlen, hans, hrok, hrst⟩
  have hSM : ∀ k, Maps' m1 k → S k := fun k ⟨x, hx, e⟩ => e ▸ HM.out.hS x hx
  rw [HJ.out, HP.out.1] at hPn hans
  have hPn := hPn.trans (wrt2 ..)
  have hans := hans.trans (ans2 ..)
  have hl2 : rs2.length = 3 := by have := congrArg List.length hans; simpa using this
  rw [hl2]
  have HL2 := Lib.hid hl2
  have HR2 := Lib.hid (And.intro hans (And.intro hrok hrst))
  replace HR1 := Lib.hid (And.intro HR1.out.1 (And.intro HR1.out.2.1 ((HR1.out.2.2.below (step_below HD.out hbA)).off (hoff.mono hSM))))
  replace HB := Lib.hid (Off.below (step_below HB.out hbA) hoff (Nat.le_trans HB.out.size hbA.size) (fun k hk => HLO.out k (hSM k hk)))
  replace HZ := Lib.hid (fun k (hk : S k) => Nat.lt_of_lt_of_le (HZ.out k hk) (Nat.le_trans hzz (Nat.le_trans hbA.size hoff.size)))
  replace HP := Lib.hid (And.intro hPn (hlen 16 (fun x hx => HP.out.2 x hx)))
  replace HJ := Lib.hid (hsame.j.trans HJ.out)
  replace HMP := Lib.hid (hsame.p.trans HMP.out)
  replace HM := Lib.hid hmd
  replace HD := Lib.hid (Below.refl D2.heap.size D2)
  clear hmd hsame hPn hoff hlen hans hrok hrst hx hbA hzz hSM hl2 HST
  go_wp2_with fail
  have key := mlen_law (HM.out.below HD.out) (fun z hz => by have := HP.out.2 z hz; omega)
  rw [HMP.out, HP.out.1] at key
  refine key.mono ?_; clear key; rintro r w0 ⟨rfl, hw0⟩; have hw0' := hw0.symm; clear hw0; subst hw0'
  rw [show lenP [[([97], [[120], [121]]), ([98], [[120], [119]])]] = 2 from rfl]
  go_wp2_with fail
  replace HST := Lib.hid (show ∀ o ∈ ([] : List CallV), Stay S D2 fun W => CallAt W o from fun o ho => nomatch ho)
  have hq := opc_law 4 [97] _ rfl (bytd rfl) (by decide) none 0 0 [] rfl (by decide) (rowd rfl) (D2) (strs_no _ _)
  have hm0 : Below (D2).heap.size (D2) (D2) := Below.refl _ _
  refine hq.mono ?_; clear hq; rintro r w8 ⟨k6, d6, r6, e6, R6, rfl, hb, hR, hc⟩
  obtain rfl := no_row hR
  have hb := step_below hm0 hb
  have hzz := HD.out.size
  have hzy := hm0.size
  have hc' : Stay S w8 fun W => CallAt W (opV 4 [97] k6 d6 r6 e6 []) := hc S (fun q hq => Nat.lt_of_lt_of_le (HZ.out q hq) (Nat.le_trans hzz hzy))
  replace HST := Lib.hid (st_snoc HST.out hb hc')
  clear hc hc' hR hm0 hzz hzy
  replace HB := Lib.hid (step_below HB.out (hb : Below (D2).heap.size (D2) w8))
  replace HD := Lib.hid (step_below HD.out (hb : Below (D2).heap.size (D2) w8))
  clear hb
  go_wp2_with fail
  have hq := opc_law 1 [97] _ rfl (bytd rfl) (by decide) none 0 0 [] rfl (by decide) (rowd rfl) (w8) (strs_no _ _)
  have hm0 : Below (w8).heap.size (w8) (w8) := Below.refl _ _
  refine hq.mono ?_; clear hq; rintro r w9 ⟨k7, d7, r7, e7, R7, rfl, hb, hR, hc⟩
  obtain rfl := no_row hR
  have hb := step_below hm0 hb
  have hzz := HD.out.size
  have hzy := hm0.size
  have hc' : Stay S w9 fun W => CallAt W (opV 1 [97] k7 d7 r7 e7 []) := hc S (fun q hq => Nat.lt_of_lt_of_le (HZ.out q hq) (Nat.le_trans hzz hzy))
  replace HST := Lib.hid (st_snoc HST.out hb hc')
  clear hc hc' hR hm0 hzz hzy
  replace HB := Lib.hid (step_below HB.out (hb : Below (w8).heap.size (w8) w9))
  replace HD := Lib.hid (step_below HD.out (hb : Below (w8).heap.size (w8) w9))
  clear hb
  go_wp2_with fail
  have hzz := HD.out.size
  have hx : Stay S ((w9).alloc (.cells (cellsOf ocl [(opV 4 [97] k6 d6 r6 e6 []), (opV 1 [97] k7 d7 r7 e7 [])]).toArray 74)) fun W => TxnAt W ⟨some ⟨(w9).heap.size, 0, none⟩, 2, 2, [(opV 4 [97] k6 d6 r6 e6 []), (opV 1 [97] k7 d7 r7 e7 [])], false, true⟩ := fun W' o => ⟨ops_new [(opV 4 [97] k6 d6 r6 e6 []), (opV 1 [97] k7 d7 r7 e7 [])] rfl (fun k hk => Nat.lt_of_lt_of_le (HZ.out k hk) hzz) HST.out W' o, rfl⟩
  have hbA := bl1 (w9) (.cells (cellsOf ocl [(opV 4 [97] k6 d6 r6 e6 []), (opV 1 [97] k7 d7 r7 e7 [])]).toArray 74)
  have key := do_yes (HM.out.below (step_below HD.out hbA)) (fun k hk => Nat.lt_of_lt_of_le (HZ.out k hk) (Nat.le_trans hzz hbA.size)) ⟨some ⟨(w9).heap.size, 0, none⟩, 2, 2, [(opV 4 [97] k6 d6 r6 e6 []), (opV 1 [97] k7 d7 r7 e7 [])], false, true⟩ hx (Nat.le_of_ble_eq_true rfl) (by intro o ho; simp at ho; rcases ho with rfl | rfl <;> exact Nat.le_of_ble_eq_true rfl) (fun z hz => by have := HP.out.2 z hz; omega) (by rw [HJ.out]; exact (may3 ..))
  rw [HMP.out] at key
  try simp only [World.size_alloc] at key
  refine key.mono ?_; clear key; rintro r D3 ⟨m3, a3, c3, rs3, rfl, hmd, hsame, hPn, hoff, hlen, hans, hrok, hrst⟩
  have hSM : ∀ k, Maps' m2 k → S k := fun k ⟨x, hx, e⟩ => e ▸ HM.out.hS x hx
  rw [HJ.out, HP.out.1] at hPn hans
  have hPn := hPn.trans (wrt3 ..)
  have hans := hans.trans (ans3 ..)
  have hl3 : rs3.length = 2 := by have := congrArg List.length hans; simpa using this
  rw [hl3]
  have HL3 := Lib.hid hl3
  have HR3 := Lib.hid (And.intro hans (And.intro hrok hrst))
  replace HR1 := Lib.hid (And.intro HR1.out.1 (And.intro HR1.out.2.1 ((HR1.out.2.2.below (step_below HD.out hbA)).off (hoff.mono hSM))))
  replace HR2 := Lib.hid (And.intro HR2.out.1 (And.intro HR2.out.2.1 ((HR2.out.2.2.below (step_below HD.out hbA)).off (hoff.mono hSM))))
  replace HB := Lib.hid (Off.below (step_below HB.out hbA) hoff (Nat.le_trans HB.out.size hbA.size) (fun k hk => HLO.out k (hSM k hk)))
  replace HZ := Lib.hid (fun k (hk : S k) => Nat.lt_of_lt_of_le (HZ.out k hk) (Nat.le_trans hzz (Nat.le_trans hbA.size hoff.size)))
  replace HP := Lib.hid (And.intro hPn (hlen 32 (fun x hx => HP.out.2 x hx)))
  replace HJ := Lib.hid (hsame.j.trans HJ.out)
  replace HMP := Lib.hid (hsame.p.trans HMP.out)
  replace HM := Lib.hid hmd
  replace HD := Lib.hid (Below.refl D3.heap.size D3)
  clear hmd hsame hPn hoff hlen hans hrok hrst hx hbA hzz hSM hl3 HST
  go_wp2_with fail
  obtain ⟨z, hz⟩ : ∃ z, m3.tabs = [z] := List.length_eq_one_iff.1 (by rw [HM.out.len, HJ.out]; rfl)
  have hz0 : m3.tabs[0]? = some z := by rw [hz]; rfl
  have hzP : tabP z.2 = [([97], [[120], [121]]), ([98], [[120], [119]])] := by have h := HP.out.1; unfold Md.P at h; rw [hz] at h; simpa using h
  have hbw := bl1 (D3) (.cells #[.int .u8 97] 5 (1, 2))
  have key := mget_law (HM.out.below (step_below HD.out hbw)) 0 z hz0 (some ⟨(D3).heap.size, 0, none⟩) 1 1 [97] rfl (by decide) (bytd rfl) (ls_box [97] (World.alloc_heap_new (D3) (.cells #[.int .u8 97] 5 (1, 2))) rfl)
  have hg : (getM z.2 [97]).map RV.P = some [[120], [121]] := by rw [← tabP_get, hzP]; rfl
  obtain ⟨u, hu, hup⟩ : ∃ u, getM z.2 [97] = some u ∧ u.P = [[120], [121]] := by
    cases hg2 : getM z.2 [97] with
    | none => rw [hg2] at hg; cases hg
    | some u => rw [hg2] at hg; exact ⟨u, rfl, by simpa using hg⟩
  rw [hu, HMP.out] at key
  refine key.mono ?_; clear key; rintro r wg ⟨⟨gv, rfl, hgv⟩, hbg⟩
  simp only [Option.map_some, Option.isSome_some, Option.getD_some] at hgv ⊢
  obtain ⟨ga, gc, R9, rfl, hgR, hgl⟩ := cpr_out hgv (show u.R.map P1.bs = [[120], [121]] from hup) rfl
  have HGV := Lib.hid (And.intro hgR hgl)
  have hul : u.R.length = 2 := by have h := congrArg List.length hup; unfold RV.P at h; rw [List.length_map] at h; exact h
  rw [hul]
  have HU := Lib.hid hbg
  replace HB := Lib.hid (step_below HB.out (step_below hbw hbg : Below (D3).heap.size (D3) wg))
  replace HD := Lib.hid (step_below HD.out (step_below hbw hbg : Below (D3).heap.size (D3) wg))
  clear hul hgv hbg hbw hg hu hup hz hz0 hzP hgR hgl HU
  go_wp2_with fail
  have HG := Lib.hid (Below.refl wg.heap.size wg)
  replace HST := Lib.hid (show ∀ o ∈ ([] : List CallV), Stay S wg fun W => CallAt W o from fun o ho => nomatch ho)
  have hq := opc_law 2 [99] _ rfl (bytd rfl) (by decide) (some ⟨(wg).heap.size, 0, none⟩) 1 1 [[122]] rfl (by decide) (rowd rfl) ((wg).alloc (.cells #[.string { data := #[122] }] 9)) (strs_at _ (BoxC.new _ #[.string { data := #[122] }] 9) rfl)
  have hm0 : Below (wg).heap.size (wg) ((wg).alloc (.cells #[.string { data := #[122] }] 9)) := bl1 _ _
  refine hq.mono ?_; clear hq; rintro r w10 ⟨k8, d8, r8, e8, R8, rfl, hb, hR, hc⟩
  obtain ⟨p8, q8, rfl⟩ := one_row hR
  have hb := step_below hm0 hb
  have hzz := HD.out.size
  have hzy := hm0.size
  have hc' : Stay S w10 fun W => CallAt W (opV 2 [99] k8 d8 r8 e8 [b1 p8 q8 122]) := hc S (fun q hq => Nat.lt_of_lt_of_le (HZ.out q hq) (Nat.le_trans hzz hzy))
  replace HST := Lib.hid (st_snoc HST.out hb hc')
  clear hc hc' hR hm0 hzz hzy
  replace HB := Lib.hid (step_below HB.out (hb : Below (wg).heap.size (wg) w10))
  replace HD := Lib.hid (step_below HD.out (hb : Below (wg).heap.size (wg) w10))
  replace HG := Lib.hid (step_below HG.out (hb : Below (wg).heap.size (wg) w10))
  clear hb
  go_wp2_with fail
  have hq := opc_law 4 [99] _ rfl (bytd rfl) (by decide) none 0 0 [] rfl (by decide) (rowd rfl) (w10) (strs_no _ _)
  have hm0 : Below (w10).heap.size (w10) (w10) := Below.refl _ _
  refine hq.mono ?_; clear hq; rintro r w11 ⟨k9, d9, r9, e9, R9, rfl, hb, hR, hc⟩
  obtain rfl := no_row hR
  have hb := step_below hm0 hb
  have hzz := HD.out.size
  have hzy := hm0.size
  have hc' : Stay S w11 fun W => CallAt W (opV 4 [99] k9 d9 r9 e9 []) := hc S (fun q hq => Nat.lt_of_lt_of_le (HZ.out q hq) (Nat.le_trans hzz hzy))
  replace HST := Lib.hid (st_snoc HST.out hb hc')
  clear hc hc' hR hm0 hzz hzy
  replace HB := Lib.hid (step_below HB.out (hb : Below (w10).heap.size (w10) w11))
  replace HD := Lib.hid (step_below HD.out (hb : Below (w10).heap.size (w10) w11))
  replace HG := Lib.hid (step_below HG.out (hb : Below (w10).heap.size (w10) w11))
  clear hb
  go_wp2_with fail
  have hq := opc_law 3 [97] _ rfl (bytd rfl) (by decide) (some ⟨(w11).heap.size, 0, none⟩) 1 1 [[113]] rfl (by decide) (rowd rfl) ((w11).alloc (.cells #[.string { data := #[113] }] 9)) (strs_at _ (BoxC.new _ #[.string { data := #[113] }] 9) rfl)
  have hm0 : Below (w11).heap.size (w11) ((w11).alloc (.cells #[.string { data := #[113] }] 9)) := bl1 _ _
  refine hq.mono ?_; clear hq; rintro r w12 ⟨k10, d10, r10, e10, R10, rfl, hb, hR, hc⟩
  obtain ⟨p10, q10, rfl⟩ := one_row hR
  have hb := step_below hm0 hb
  have hzz := HD.out.size
  have hzy := hm0.size
  have hc' : Stay S w12 fun W => CallAt W (opV 3 [97] k10 d10 r10 e10 [b1 p10 q10 113]) := hc S (fun q hq => Nat.lt_of_lt_of_le (HZ.out q hq) (Nat.le_trans hzz hzy))
  replace HST := Lib.hid (st_snoc HST.out hb hc')
  clear hc hc' hR hm0 hzz hzy
  replace HB := Lib.hid (step_below HB.out (hb : Below (w11).heap.size (w11) w12))
  replace HD := Lib.hid (step_below HD.out (hb : Below (w11).heap.size (w11) w12))
  replace HG := Lib.hid (step_below HG.out (hb : Below (w11).heap.size (w11) w12))
  clear hb
  go_wp2_with fail
  have hzz := HD.out.size
  have hx : Stay S ((w12).alloc (.cells (cellsOf ocl [(opV 2 [99] k8 d8 r8 e8 [b1 p8 q8 122]), (opV 4 [99] k9 d9 r9 e9 []), (opV 3 [97] k10 d10 r10 e10 [b1 p10 q10 113])]).toArray 74)) fun W => TxnAt W ⟨some ⟨(w12).heap.size, 0, none⟩, 3, 3, [(opV 2 [99] k8 d8 r8 e8 [b1 p8 q8 122]), (opV 4 [99] k9 d9 r9 e9 []), (opV 3 [97] k10 d10 r10 e10 [b1 p10 q10 113])], false, false⟩ := fun W' o => ⟨ops_new [(opV 2 [99] k8 d8 r8 e8 [b1 p8 q8 122]), (opV 4 [99] k9 d9 r9 e9 []), (opV 3 [97] k10 d10 r10 e10 [b1 p10 q10 113])] rfl (fun k hk => Nat.lt_of_lt_of_le (HZ.out k hk) hzz) HST.out W' o, rfl⟩
  have hbA := bl1 (w12) (.cells (cellsOf ocl [(opV 2 [99] k8 d8 r8 e8 [b1 p8 q8 122]), (opV 4 [99] k9 d9 r9 e9 []), (opV 3 [97] k10 d10 r10 e10 [b1 p10 q10 113])]).toArray 74)
  have key := writes_yes (HM.out.below (step_below HD.out hbA)) (fun k hk => Nat.lt_of_lt_of_le (HZ.out k hk) (Nat.le_trans hzz hbA.size)) ⟨some ⟨(w12).heap.size, 0, none⟩, 3, 3, [(opV 2 [99] k8 d8 r8 e8 [b1 p8 q8 122]), (opV 4 [99] k9 d9 r9 e9 []), (opV 3 [97] k10 d10 r10 e10 [b1 p10 q10 113])], false, false⟩ hx (Nat.le_of_ble_eq_true rfl) (by intro o ho; simp at ho; rcases ho with rfl | rfl | rfl <;> exact Nat.le_of_ble_eq_true rfl) (fun z hz => by have := HP.out.2 z hz; omega) (by rw [HJ.out]; exact (may4 ..))
  rw [HMP.out, HJ.out, HP.out.1, wrt4] at key
  try simp only [World.size_alloc] at key
  refine key.mono ?_; clear key; rintro r ww ⟨wa, wc, E9, rfl, hbw, hwp, _, hwo, hws⟩
  obtain ⟨y, rfl⟩ : ∃ y, E9 = [y] := List.length_eq_one_iff.1 (by have := hwp.length_eq; simpa using this)
  simp only [List.length_cons, List.length_nil, Nat.zero_add] at hws ⊢
  have hyP : y.P = (0, [99], []) := by have := hwp.mem_iff.1 (List.mem_singleton.2 rfl : y.P ∈ [y.P]); simpa using this
  have HW := Lib.hid (And.intro hyP (And.intro hwo hws))
  replace HB := Lib.hid (step_below HB.out (step_below hbA hbw : Below (w12).heap.size (w12) ww))
  replace HD := Lib.hid (step_below HD.out (step_below hbA hbw : Below (w12).heap.size (w12) ww))
  replace HG := Lib.hid (step_below HG.out (step_below hbA hbw : Below (w12).heap.size (w12) ww))
  clear hbw hwp hwo hws hbA hx hzz HST hyP
  go_wp2_with fail
  have HQ := Lib.hid (Below.refl ww.heap.size ww)
  replace HST := Lib.hid (show ∀ o ∈ ([] : List CallV), Stay S ww fun W => CallAt W o from fun o ho => nomatch ho)
  have hbw := bl1 ww (.cells #[.int .u8 97] 5 (1, 2))
  replace HST := Lib.hid (show ∀ o ∈ ([] : List CallV), Stay S ((ww).alloc (.cells #[.int .u8 97] 5 (1, 2))) fun W => CallAt W o from fun o ho => nomatch ho)
  replace HB := Lib.hid (step_below HB.out (hbw : Below (ww).heap.size (ww) ((ww).alloc (.cells #[.int .u8 97] 5 (1, 2)))))
  replace HD := Lib.hid (step_below HD.out (hbw : Below (ww).heap.size (ww) ((ww).alloc (.cells #[.int .u8 97] 5 (1, 2)))))
  replace HG := Lib.hid (step_below HG.out (hbw : Below (ww).heap.size (ww) ((ww).alloc (.cells #[.int .u8 97] 5 (1, 2)))))
  replace HQ := Lib.hid (step_below HQ.out (hbw : Below (ww).heap.size (ww) ((ww).alloc (.cells #[.int .u8 97] 5 (1, 2)))))
  have HK1 := Lib.hid (Below.refl (((ww).alloc (.cells #[.int .u8 97] 5 (1, 2)))).heap.size (((ww).alloc (.cells #[.int .u8 97] 5 (1, 2)))))
  clear hbw
  have hq := opc_law 0 [] _ rfl (bytd rfl) (by decide) (some ⟨(((ww).alloc (.cells #[.int .u8 97] 5 (1, 2)))).heap.size, 0, none⟩) 2 2 [[120], [121]] rfl (by decide) (rowd rfl) ((((ww).alloc (.cells #[.int .u8 97] 5 (1, 2)))).alloc (.cells #[.string { data := #[120] }, .string { data := #[121] }] 9)) (strs_at _ (BoxC.new _ #[.string { data := #[120] }, .string { data := #[121] }] 9) rfl)
  have hm0 : Below (((ww).alloc (.cells #[.int .u8 97] 5 (1, 2)))).heap.size (((ww).alloc (.cells #[.int .u8 97] 5 (1, 2)))) ((((ww).alloc (.cells #[.int .u8 97] 5 (1, 2)))).alloc (.cells #[.string { data := #[120] }, .string { data := #[121] }] 9)) := bl1 _ _
  simp only [World.size_alloc] at hq
  refine hq.mono ?_; clear hq; rintro r w13 ⟨k11, d11, r11, e11, R11, rfl, hb, hR, hc⟩
  obtain ⟨p11, q11, s11, t11, rfl⟩ := two_rows hR
  have hb := step_below hm0 hb
  have hzz := HD.out.size
  have hzy := hm0.size
  have hc' : Stay S w13 fun W => CallAt W (opV 0 [] k11 d11 r11 e11 [b1 p11 q11 120, b1 s11 t11 121]) := hc S (fun q hq => Nat.lt_of_lt_of_le (HZ.out q hq) (Nat.le_trans hzz hzy))
  replace HST := Lib.hid (st_snoc HST.out hb hc')
  clear hc hc' hR hm0 hzz hzy
  replace HB := Lib.hid (step_below HB.out (hb : Below (((ww).alloc (.cells #[.int .u8 97] 5 (1, 2)))).heap.size (((ww).alloc (.cells #[.int .u8 97] 5 (1, 2)))) w13))
  replace HD := Lib.hid (step_below HD.out (hb : Below (((ww).alloc (.cells #[.int .u8 97] 5 (1, 2)))).heap.size (((ww).alloc (.cells #[.int .u8 97] 5 (1, 2)))) w13))
  replace HG := Lib.hid (step_below HG.out (hb : Below (((ww).alloc (.cells #[.int .u8 97] 5 (1, 2)))).heap.size (((ww).alloc (.cells #[.int .u8 97] 5 (1, 2)))) w13))
  replace HQ := Lib.hid (step_below HQ.out (hb : Below (((ww).alloc (.cells #[.int .u8 97] 5 (1, 2)))).heap.size (((ww).alloc (.cells #[.int .u8 97] 5 (1, 2)))) w13))
  replace HK1 := Lib.hid (step_below HK1.out (hb : Below (((ww).alloc (.cells #[.int .u8 97] 5 (1, 2)))).heap.size (((ww).alloc (.cells #[.int .u8 97] 5 (1, 2)))) w13))
  clear hb
  go_wp2_with fail
  have hbw := bl1 w13 (.cells #[.int .u8 98] 5 (1, 2))
  replace HST := Lib.hid (fun o (ho : o ∈ [(opV 0 [] k11 d11 r11 e11 [b1 p11 q11 120, b1 s11 t11 121])]) => (HST.out o ho).below hbw)
  replace HB := Lib.hid (step_below HB.out (hbw : Below (w13).heap.size (w13) ((w13).alloc (.cells #[.int .u8 98] 5 (1, 2)))))
  replace HD := Lib.hid (step_below HD.out (hbw : Below (w13).heap.size (w13) ((w13).alloc (.cells #[.int .u8 98] 5 (1, 2)))))
  replace HG := Lib.hid (step_below HG.out (hbw : Below (w13).heap.size (w13) ((w13).alloc (.cells #[.int .u8 98] 5 (1, 2)))))
  replace HQ := Lib.hid (step_below HQ.out (hbw : Below (w13).heap.size (w13) ((w13).alloc (.cells #[.int .u8 98] 5 (1, 2)))))
  replace HK1 := Lib.hid (step_below HK1.out (hbw : Below (w13).heap.size (w13) ((w13).alloc (.cells #[.int .u8 98] 5 (1, 2)))))
  have HK2 := Lib.hid (Below.refl (((w13).alloc (.cells #[.int .u8 98] 5 (1, 2)))).heap.size (((w13).alloc (.cells #[.int .u8 98] 5 (1, 2)))))
  clear hbw
  try simp only [World.size_alloc] at HST
  have hq := opc_law 0 [] _ rfl (bytd rfl) (by decide) (some ⟨(((w13).alloc (.cells #[.int .u8 98] 5 (1, 2)))).heap.size, 0, none⟩) 2 2 [[120], [119]] rfl (by decide) (rowd rfl) ((((w13).alloc (.cells #[.int .u8 98] 5 (1, 2)))).alloc (.cells #[.string { data := #[120] }, .string { data := #[119] }] 9)) (strs_at _ (BoxC.new _ #[.string { data := #[120] }, .string { data := #[119] }] 9) rfl)
  have hm0 : Below (((w13).alloc (.cells #[.int .u8 98] 5 (1, 2)))).heap.size (((w13).alloc (.cells #[.int .u8 98] 5 (1, 2)))) ((((w13).alloc (.cells #[.int .u8 98] 5 (1, 2)))).alloc (.cells #[.string { data := #[120] }, .string { data := #[119] }] 9)) := bl1 _ _
  simp only [World.size_alloc] at hq
  refine hq.mono ?_; clear hq; rintro r w14 ⟨k12, d12, r12, e12, R12, rfl, hb, hR, hc⟩
  obtain ⟨p12, q12, s12, t12, rfl⟩ := two_rows hR
  have hb := step_below hm0 hb
  have hzz := HD.out.size
  have hzy := hm0.size
  have hc' : Stay S w14 fun W => CallAt W (opV 0 [] k12 d12 r12 e12 [b1 p12 q12 120, b1 s12 t12 119]) := hc S (fun q hq => Nat.lt_of_lt_of_le (HZ.out q hq) (Nat.le_trans hzz hzy))
  replace HST := Lib.hid (st_snoc HST.out hb hc')
  clear hc hc' hR hm0 hzz hzy
  replace HB := Lib.hid (step_below HB.out (hb : Below (((w13).alloc (.cells #[.int .u8 98] 5 (1, 2)))).heap.size (((w13).alloc (.cells #[.int .u8 98] 5 (1, 2)))) w14))
  replace HD := Lib.hid (step_below HD.out (hb : Below (((w13).alloc (.cells #[.int .u8 98] 5 (1, 2)))).heap.size (((w13).alloc (.cells #[.int .u8 98] 5 (1, 2)))) w14))
  replace HG := Lib.hid (step_below HG.out (hb : Below (((w13).alloc (.cells #[.int .u8 98] 5 (1, 2)))).heap.size (((w13).alloc (.cells #[.int .u8 98] 5 (1, 2)))) w14))
  replace HQ := Lib.hid (step_below HQ.out (hb : Below (((w13).alloc (.cells #[.int .u8 98] 5 (1, 2)))).heap.size (((w13).alloc (.cells #[.int .u8 98] 5 (1, 2)))) w14))
  replace HK1 := Lib.hid (step_below HK1.out (hb : Below (((w13).alloc (.cells #[.int .u8 98] 5 (1, 2)))).heap.size (((w13).alloc (.cells #[.int .u8 98] 5 (1, 2)))) w14))
  replace HK2 := Lib.hid (step_below HK2.out (hb : Below (((w13).alloc (.cells #[.int .u8 98] 5 (1, 2)))).heap.size (((w13).alloc (.cells #[.int .u8 98] 5 (1, 2)))) w14))
  clear hb
  go_wp2_with fail
  have hA := two_below w14 (.cells #[.slice (some ⟨ww.heap.size, 0, none⟩) 1 1, .slice r11 2 e11] 78) (.cells #[.slice (some ⟨w13.heap.size, 0, none⟩) 1 1, .slice r12 2 e12] 78)
  have hbx : BoxC ((w14.alloc (.cells #[.slice (some ⟨ww.heap.size, 0, none⟩) 1 1, .slice r11 2 e11] 78)).alloc (.cells #[.slice (some ⟨w13.heap.size, 0, none⟩) 1 1, .slice r12 2 e12] 78)) w14.heap.size #[.slice (some ⟨ww.heap.size, 0, none⟩) 1 1, .slice r11 2 e11] 78 := (BoxC.new w14 #[.slice (some ⟨ww.heap.size, 0, none⟩) 1 1, .slice r11 2 e11] 78).below (bl1 _ _)
  have hby : BoxC ((w14.alloc (.cells #[.slice (some ⟨ww.heap.size, 0, none⟩) 1 1, .slice r11 2 e11] 78)).alloc (.cells #[.slice (some ⟨w13.heap.size, 0, none⟩) 1 1, .slice r12 2 e12] 78)) (w14.heap.size + 1) #[.slice (some ⟨w13.heap.size, 0, none⟩) 1 1, .slice r12 2 e12] 78 := by have h := BoxC.new (w14.alloc (.cells #[.slice (some ⟨ww.heap.size, 0, none⟩) 1 1, .slice r11 2 e11] 78)) #[.slice (some ⟨w13.heap.size, 0, none⟩) 1 1, .slice r12 2 e12] 78; rwa [World.size_alloc] at h
  have hk1 : Ls .u8 (ww.alloc (.cells #[.int .u8 97] 5 (1, 2))) (some ⟨ww.heap.size, 0, none⟩) 1 [97] := ls_box [97] (World.alloc_heap_new ww (.cells #[.int .u8 97] 5 (1, 2))) rfl
  have hk2 : Ls .u8 (w13.alloc (.cells #[.int .u8 98] 5 (1, 2))) (some ⟨w13.heap.size, 0, none⟩) 1 [98] := ls_box [98] (World.alloc_heap_new w13 (.cells #[.int .u8 98] 5 (1, 2))) rfl
  have h11 : RdR w14 r11 [b1 p11 q11 120, b1 s11 t11 121] := ((HST.out _ (by simp : (opV 0 [] k11 d11 r11 e11 [b1 p11 q11 120, b1 s11 t11 121]) ∈ [(opV 0 [] k11 d11 r11 e11 [b1 p11 q11 120, b1 s11 t11 121])] ++ [(opV 0 [] k12 d12 r12 e12 [b1 p12 q12 120, b1 s12 t12 119])])).now).rs
  have h12 : RdR w14 r12 [b1 p12 q12 120, b1 s12 t12 119] := ((HST.out _ (by simp : (opV 0 [] k12 d12 r12 e12 [b1 p12 q12 120, b1 s12 t12 119]) ∈ [(opV 0 [] k11 d11 r11 e11 [b1 p11 q11 120, b1 s11 t11 121])] ++ [(opV 0 [] k12 d12 r12 e12 [b1 p12 q12 120, b1 s12 t12 119])])).now).rs
  have HF := Lib.hid (And.intro ((HR1.out.2.2.below HD.out).now.below hA) (And.intro ((HR2.out.2.2.below HD.out).now.below hA) (And.intro ((HR3.out.2.2.below HD.out).now.below hA) (And.intro ((HW.out.2.2.below HQ.out).now.below hA) (And.intro ((HGV.out.2.below HG.out).below hA) (And.intro ((hk1.below HK1.out).below hA) (And.intro (h11.below hA) (And.intro ((hk2.below HK2.out).below hA) (h12.below hA)))))))))
  have HBX := Lib.hid (step_below HB.out hA)
  obtain ⟨WX, hWX⟩ : ∃ X, (w14.alloc (.cells #[.slice (some ⟨ww.heap.size, 0, none⟩) 1 1, .slice r11 2 e11] 78)).alloc (.cells #[.slice (some ⟨w13.heap.size, 0, none⟩) 1 1, .slice r12 2 e12] 78) = X := ⟨_, rfl⟩
  rw [hWX] at hbx hby HF HBX ⊢
  clear hWX hA hk1 hk2 h11 h12 HST HB HD HG HQ HK1 HK2
  have HBB := Lib.hid (And.intro hbx hby)
  obtain ⟨bx, hbxe⟩ : ∃ b, w14.heap.size = b := ⟨_, rfl⟩
  obtain ⟨kx, hkx⟩ : ∃ b, ww.heap.size = b := ⟨_, rfl⟩
  obtain ⟨ky, hky⟩ : ∃ b, w13.heap.size = b := ⟨_, rfl⟩
  rw [hbxe, hkx] at hbx; rw [hbxe, hky] at hby; rw [hbxe, hkx, hky] at HBB ⊢
  rw [hkx, hky] at HF
  clear hbxe hkx hky
  have cx0 := hbx.cell 0; have cx1 := hbx.cell 1; have cy0 := hby.cell 0; have cy1 := hby.cell 1
  simp only [List.getElem?_toArray, List.getElem?_cons_zero, List.getElem?_cons_succ] at cx0 cx1 cy0 cy1
  clear hbx hby
  refine (num22_law 0 _).mono ?_; rintro r w0 ⟨rfl, hw0⟩; subst hw0
  go_wp2_with fail
  refine (num22_law 0 _).mono ?_; rintro r w0 ⟨rfl, hw0⟩; subst hw0
  go_wp2_with fail
  refine (num22_law 0 _).mono ?_; rintro r w0 ⟨rfl, hw0⟩; subst hw0
  go_wp2_with fail
  refine (num22_law 0 _).mono ?_; rintro r w0 ⟨rfl, hw0⟩; subst hw0
  go_wp2_with fail
  refine (num22_law 0 _).mono ?_; rintro r w0 ⟨rfl, hw0⟩; subst hw0
  go_wp2_with fail
  have HX := Lib.hid (Below.refl WX.heap.size WX)
  have ox : PrOk (⟨some ⟨kx, 0, none⟩, 1, [97], r11, e11, [b1 p11 q11 120, b1 s11 t11 121]⟩ : PrV) := ⟨bytd rfl, (fun p hp => by simp at hp; rcases hp with rfl | rfl <;> exact bytd rfl), Nat.le_of_ble_eq_true rfl⟩
  have oy : PrOk (⟨some ⟨ky, 0, none⟩, 1, [98], r12, e12, [b1 p12 q12 120, b1 s12 t12 119]⟩ : PrV) := ⟨bytd rfl, (fun p hp => by simp at hp; rcases hp with rfl | rfl <;> exact bytd rfl), Nat.le_of_ble_eq_true rfl⟩
  have HO := Lib.hid (And.intro ox oy)
  clear ox oy
  have hz0 := bl1 (WX) (.cells #[.slice (some ⟨kx, 0, none⟩) 1 1, .slice r11 2 e11] 78)
  have hzl := bl1 ((WX).alloc (.cells #[.slice (some ⟨kx, 0, none⟩) 1 1, .slice r11 2 e11] 78)) (.cells #[.int .i64 0, .slice none 0 0, .int .i64 7, .slice none 0 0, .int .i64 0, .slice (some ⟨WX.heap.size, 0, none⟩) 1 1, .int .i64 6, .slice none 0 0] 81)
  have hcw := (step_below hz0 hzl)
  have hXX := step_below HX.out hcw
  have hp0 : PairsR (((WX).alloc (.cells #[.slice (some ⟨kx, 0, none⟩) 1 1, .slice r11 2 e11] 78)).alloc (.cells #[.int .i64 0, .slice none 0 0, .int .i64 7, .slice none 0 0, .int .i64 0, .slice (some ⟨WX.heap.size, 0, none⟩) 1 1, .int .i64 6, .slice none 0 0] 81)) (some ⟨WX.heap.size, 0, none⟩) [(⟨some ⟨kx, 0, none⟩, 1, [97], r11, e11, [b1 p11 q11 120, b1 s11 t11 121]⟩ : PrV)] := by have h := pairs_at (W := ((WX).alloc (.cells #[.slice (some ⟨kx, 0, none⟩) 1 1, .slice r11 2 e11] 78)).alloc (.cells #[.int .i64 0, .slice none 0 0, .int .i64 7, .slice none 0 0, .int .i64 0, .slice (some ⟨WX.heap.size, 0, none⟩) 1 1, .int .i64 6, .slice none 0 0] 81)) (B := (WX).heap.size) [(⟨some ⟨kx, 0, none⟩, 1, [97], r11, e11, [b1 p11 q11 120, b1 s11 t11 121]⟩ : PrV)] ((BoxC.new (WX) #[.slice (some ⟨kx, 0, none⟩) 1 1, .slice r11 2 e11] 78).below hzl) rfl (by intro q hq; simp only [List.mem_cons, List.not_mem_nil, or_false] at hq; rcases hq with rfl; exact ⟨HF.out.2.2.2.2.2.1.below hXX, HF.out.2.2.2.2.2.2.1.below hXX⟩); (try simp only [World.size_alloc] at h); exact h
  have hm : ResR (((WX).alloc (.cells #[.slice (some ⟨kx, 0, none⟩) 1 1, .slice r11 2 e11] 78)).alloc (.cells #[.int .i64 0, .slice none 0 0, .int .i64 7, .slice none 0 0, .int .i64 0, .slice (some ⟨WX.heap.size, 0, none⟩) 1 1, .int .i64 6, .slice none 0 0] 81)) (some ⟨((WX).alloc (.cells #[.slice (some ⟨kx, 0, none⟩) 1 1, .slice r11 2 e11] 78)).heap.size, 0, none⟩) ([⟨0, none, 0, []⟩, ⟨7, none, 0, []⟩, ⟨0, some ⟨WX.heap.size, 0, none⟩, 1, [(⟨some ⟨kx, 0, none⟩, 1, [97], r11, e11, [b1 p11 q11 120, b1 s11 t11 121]⟩ : PrV)]⟩, ⟨6, none, 0, []⟩] : List ResV) := res_at _ (BoxC.new ((WX).alloc (.cells #[.slice (some ⟨kx, 0, none⟩) 1 1, .slice r11 2 e11] 78)) #[.int .i64 0, .slice none 0 0, .int .i64 7, .slice none 0 0, .int .i64 0, .slice (some ⟨WX.heap.size, 0, none⟩) 1 1, .int .i64 6, .slice none 0 0] 81) rfl (by intro q hq; simp only [List.mem_cons, List.not_mem_nil, or_false] at hq; rcases hq with rfl | rfl | rfl | rfl; exact pairs_nil _ _; exact pairs_nil _ _; exact hp0; exact pairs_nil _ _)
  have hok : ∀ q ∈ ([⟨0, none, 0, []⟩, ⟨7, none, 0, []⟩, ⟨0, some ⟨WX.heap.size, 0, none⟩, 1, [(⟨some ⟨kx, 0, none⟩, 1, [97], r11, e11, [b1 p11 q11 120, b1 s11 t11 121]⟩ : PrV)]⟩, ⟨6, none, 0, []⟩] : List ResV), ResOk q := by intro q hq; simp only [List.mem_cons, List.not_mem_nil, or_false] at hq; rcases hq with rfl | rfl | rfl | rfl; exact ⟨Nat.zero_le _, fun p hp => nomatch hp⟩; exact ⟨Nat.zero_le _, fun p hp => nomatch hp⟩; exact ⟨Nat.le_of_ble_eq_true rfl, by intro p hp; simp at hp; rcases hp with rfl; exact HO.out.1⟩; exact ⟨Nat.zero_le _, fun p hp => nomatch hp⟩
  have key := rsameres_yes a1 _ rs1 ([⟨0, none, 0, []⟩, ⟨7, none, 0, []⟩, ⟨0, some ⟨WX.heap.size, 0, none⟩, 1, [(⟨some ⟨kx, 0, none⟩, 1, [97], r11, e11, [b1 p11 q11 120, b1 s11 t11 121]⟩ : PrV)]⟩, ⟨6, none, 0, []⟩] : List ResV) 4 c1 4 HL1.out rfl (by decide) HR1.out.2.1 hok (HR1.out.1.trans rfl) (((WX).alloc (.cells #[.slice (some ⟨kx, 0, none⟩) 1 1, .slice r11 2 e11] 78)).alloc (.cells #[.int .i64 0, .slice none 0 0, .int .i64 7, .slice none 0 0, .int .i64 0, .slice (some ⟨WX.heap.size, 0, none⟩) 1 1, .int .i64 6, .slice none 0 0] 81)) (HF.out.1.below hXX) hm
  try simp only [World.size_alloc] at key
  refine key.mono ?_; clear key; rintro r v1 ⟨rfl, hb⟩
  have hb : Below (((WX).alloc (.cells #[.slice (some ⟨kx, 0, none⟩) 1 1, .slice r11 2 e11] 78)).alloc (.cells #[.int .i64 0, .slice none 0 0, .int .i64 7, .slice none 0 0, .int .i64 0, .slice (some ⟨WX.heap.size, 0, none⟩) 1 1, .int .i64 6, .slice none 0 0] 81)).heap.size (((WX).alloc (.cells #[.slice (some ⟨kx, 0, none⟩) 1 1, .slice r11 2 e11] 78)).alloc (.cells #[.int .i64 0, .slice none 0 0, .int .i64 7, .slice none 0 0, .int .i64 0, .slice (some ⟨WX.heap.size, 0, none⟩) 1 1, .int .i64 6, .slice none 0 0] 81)) v1 := hb
  replace HX := Lib.hid (step_below hXX hb)
  have HNv1 := Lib.hid (step_below hcw hb)
  replace cx0 := ((step_below hcw hb).cell (World.block_lt_of_cell? _ _ cx0)).trans cx0; replace cx1 := ((step_below hcw hb).cell (World.block_lt_of_cell? _ _ cx1)).trans cx1; replace cy0 := ((step_below hcw hb).cell (World.block_lt_of_cell? _ _ cy0)).trans cy0; replace cy1 := ((step_below hcw hb).cell (World.block_lt_of_cell? _ _ cy1)).trans cy1
  have dx0 := ((bl1 v1 (.cells #[.slice (some ⟨ky, 0, none⟩) 1 1, .slice r12 2 e12, .slice (some ⟨kx, 0, none⟩) 1 1, .slice r11 2 e11] 78)).cell (World.block_lt_of_cell? _ _ cx0)).trans cx0; have dx1 := ((bl1 v1 (.cells #[.slice (some ⟨ky, 0, none⟩) 1 1, .slice r12 2 e12, .slice (some ⟨kx, 0, none⟩) 1 1, .slice r11 2 e11] 78)).cell (World.block_lt_of_cell? _ _ cx1)).trans cx1
  clear hb hcw hXX hm hok hzl hz0 hp0
  go_wp2_with fail
  have hz0 := bl1 (v1) (.cells #[.slice (some ⟨ky, 0, none⟩) 1 1, .slice r12 2 e12, .slice (some ⟨kx, 0, none⟩) 1 1, .slice r11 2 e11] 78)
  have hz1 := bl1 ((v1).alloc (.cells #[.slice (some ⟨ky, 0, none⟩) 1 1, .slice r12 2 e12, .slice (some ⟨kx, 0, none⟩) 1 1, .slice r11 2 e11] 78)) (.cells #[.slice (some ⟨kx, 0, none⟩) 1 1, .slice r11 2 e11] 78)
  have hzl := bl1 (((v1).alloc (.cells #[.slice (some ⟨ky, 0, none⟩) 1 1, .slice r12 2 e12, .slice (some ⟨kx, 0, none⟩) 1 1, .slice r11 2 e11] 78)).alloc (.cells #[.slice (some ⟨kx, 0, none⟩) 1 1, .slice r11 2 e11] 78)) (.cells #[.int .i64 0, .slice none 0 0, .int .i64 0, .slice (some ⟨v1.heap.size, 0, none⟩) 2 2, .int .i64 0, .slice (some ⟨v1.heap.size + 1, 0, none⟩) 1 1] 81)
  have hcw := (step_below (step_below hz0 hz1) hzl)
  have hXX := step_below HX.out hcw
  have hp0 : PairsR ((((v1).alloc (.cells #[.slice (some ⟨ky, 0, none⟩) 1 1, .slice r12 2 e12, .slice (some ⟨kx, 0, none⟩) 1 1, .slice r11 2 e11] 78)).alloc (.cells #[.slice (some ⟨kx, 0, none⟩) 1 1, .slice r11 2 e11] 78)).alloc (.cells #[.int .i64 0, .slice none 0 0, .int .i64 0, .slice (some ⟨v1.heap.size, 0, none⟩) 2 2, .int .i64 0, .slice (some ⟨v1.heap.size + 1, 0, none⟩) 1 1] 81)) (some ⟨v1.heap.size, 0, none⟩) [(⟨some ⟨ky, 0, none⟩, 1, [98], r12, e12, [b1 p12 q12 120, b1 s12 t12 119]⟩ : PrV), (⟨some ⟨kx, 0, none⟩, 1, [97], r11, e11, [b1 p11 q11 120, b1 s11 t11 121]⟩ : PrV)] := by have h := pairs_at (W := (((v1).alloc (.cells #[.slice (some ⟨ky, 0, none⟩) 1 1, .slice r12 2 e12, .slice (some ⟨kx, 0, none⟩) 1 1, .slice r11 2 e11] 78)).alloc (.cells #[.slice (some ⟨kx, 0, none⟩) 1 1, .slice r11 2 e11] 78)).alloc (.cells #[.int .i64 0, .slice none 0 0, .int .i64 0, .slice (some ⟨v1.heap.size, 0, none⟩) 2 2, .int .i64 0, .slice (some ⟨v1.heap.size + 1, 0, none⟩) 1 1] 81)) (B := (v1).heap.size) [(⟨some ⟨ky, 0, none⟩, 1, [98], r12, e12, [b1 p12 q12 120, b1 s12 t12 119]⟩ : PrV), (⟨some ⟨kx, 0, none⟩, 1, [97], r11, e11, [b1 p11 q11 120, b1 s11 t11 121]⟩ : PrV)] ((BoxC.new (v1) #[.slice (some ⟨ky, 0, none⟩) 1 1, .slice r12 2 e12, .slice (some ⟨kx, 0, none⟩) 1 1, .slice r11 2 e11] 78).below (step_below hz1 hzl)) rfl (by intro q hq; simp only [List.mem_cons, List.not_mem_nil, or_false] at hq; rcases hq with rfl | rfl; exact ⟨HF.out.2.2.2.2.2.2.2.1.below hXX, HF.out.2.2.2.2.2.2.2.2.below hXX⟩; exact ⟨HF.out.2.2.2.2.2.1.below hXX, HF.out.2.2.2.2.2.2.1.below hXX⟩); (try simp only [World.size_alloc] at h); exact h
  have hp1 : PairsR ((((v1).alloc (.cells #[.slice (some ⟨ky, 0, none⟩) 1 1, .slice r12 2 e12, .slice (some ⟨kx, 0, none⟩) 1 1, .slice r11 2 e11] 78)).alloc (.cells #[.slice (some ⟨kx, 0, none⟩) 1 1, .slice r11 2 e11] 78)).alloc (.cells #[.int .i64 0, .slice none 0 0, .int .i64 0, .slice (some ⟨v1.heap.size, 0, none⟩) 2 2, .int .i64 0, .slice (some ⟨v1.heap.size + 1, 0, none⟩) 1 1] 81)) (some ⟨v1.heap.size + 1, 0, none⟩) [(⟨some ⟨kx, 0, none⟩, 1, [97], r11, e11, [b1 p11 q11 120, b1 s11 t11 121]⟩ : PrV)] := by have h := pairs_at (W := (((v1).alloc (.cells #[.slice (some ⟨ky, 0, none⟩) 1 1, .slice r12 2 e12, .slice (some ⟨kx, 0, none⟩) 1 1, .slice r11 2 e11] 78)).alloc (.cells #[.slice (some ⟨kx, 0, none⟩) 1 1, .slice r11 2 e11] 78)).alloc (.cells #[.int .i64 0, .slice none 0 0, .int .i64 0, .slice (some ⟨v1.heap.size, 0, none⟩) 2 2, .int .i64 0, .slice (some ⟨v1.heap.size + 1, 0, none⟩) 1 1] 81)) (B := ((v1).alloc (.cells #[.slice (some ⟨ky, 0, none⟩) 1 1, .slice r12 2 e12, .slice (some ⟨kx, 0, none⟩) 1 1, .slice r11 2 e11] 78)).heap.size) [(⟨some ⟨kx, 0, none⟩, 1, [97], r11, e11, [b1 p11 q11 120, b1 s11 t11 121]⟩ : PrV)] ((BoxC.new ((v1).alloc (.cells #[.slice (some ⟨ky, 0, none⟩) 1 1, .slice r12 2 e12, .slice (some ⟨kx, 0, none⟩) 1 1, .slice r11 2 e11] 78)) #[.slice (some ⟨kx, 0, none⟩) 1 1, .slice r11 2 e11] 78).below hzl) rfl (by intro q hq; simp only [List.mem_cons, List.not_mem_nil, or_false] at hq; rcases hq with rfl; exact ⟨HF.out.2.2.2.2.2.1.below hXX, HF.out.2.2.2.2.2.2.1.below hXX⟩); (try simp only [World.size_alloc] at h); exact h
  have hm : ResR ((((v1).alloc (.cells #[.slice (some ⟨ky, 0, none⟩) 1 1, .slice r12 2 e12, .slice (some ⟨kx, 0, none⟩) 1 1, .slice r11 2 e11] 78)).alloc (.cells #[.slice (some ⟨kx, 0, none⟩) 1 1, .slice r11 2 e11] 78)).alloc (.cells #[.int .i64 0, .slice none 0 0, .int .i64 0, .slice (some ⟨v1.heap.size, 0, none⟩) 2 2, .int .i64 0, .slice (some ⟨v1.heap.size + 1, 0, none⟩) 1 1] 81)) (some ⟨(((v1).alloc (.cells #[.slice (some ⟨ky, 0, none⟩) 1 1, .slice r12 2 e12, .slice (some ⟨kx, 0, none⟩) 1 1, .slice r11 2 e11] 78)).alloc (.cells #[.slice (some ⟨kx, 0, none⟩) 1 1, .slice r11 2 e11] 78)).heap.size, 0, none⟩) ([⟨0, none, 0, []⟩, ⟨0, some ⟨v1.heap.size, 0, none⟩, 2, [(⟨some ⟨ky, 0, none⟩, 1, [98], r12, e12, [b1 p12 q12 120, b1 s12 t12 119]⟩ : PrV), (⟨some ⟨kx, 0, none⟩, 1, [97], r11, e11, [b1 p11 q11 120, b1 s11 t11 121]⟩ : PrV)]⟩, ⟨0, some ⟨v1.heap.size + 1, 0, none⟩, 1, [(⟨some ⟨kx, 0, none⟩, 1, [97], r11, e11, [b1 p11 q11 120, b1 s11 t11 121]⟩ : PrV)]⟩] : List ResV) := res_at _ (BoxC.new (((v1).alloc (.cells #[.slice (some ⟨ky, 0, none⟩) 1 1, .slice r12 2 e12, .slice (some ⟨kx, 0, none⟩) 1 1, .slice r11 2 e11] 78)).alloc (.cells #[.slice (some ⟨kx, 0, none⟩) 1 1, .slice r11 2 e11] 78)) #[.int .i64 0, .slice none 0 0, .int .i64 0, .slice (some ⟨v1.heap.size, 0, none⟩) 2 2, .int .i64 0, .slice (some ⟨v1.heap.size + 1, 0, none⟩) 1 1] 81) rfl (by intro q hq; simp only [List.mem_cons, List.not_mem_nil, or_false] at hq; rcases hq with rfl | rfl | rfl; exact pairs_nil _ _; exact hp0; exact hp1)
  have hok : ∀ q ∈ ([⟨0, none, 0, []⟩, ⟨0, some ⟨v1.heap.size, 0, none⟩, 2, [(⟨some ⟨ky, 0, none⟩, 1, [98], r12, e12, [b1 p12 q12 120, b1 s12 t12 119]⟩ : PrV), (⟨some ⟨kx, 0, none⟩, 1, [97], r11, e11, [b1 p11 q11 120, b1 s11 t11 121]⟩ : PrV)]⟩, ⟨0, some ⟨v1.heap.size + 1, 0, none⟩, 1, [(⟨some ⟨kx, 0, none⟩, 1, [97], r11, e11, [b1 p11 q11 120, b1 s11 t11 121]⟩ : PrV)]⟩] : List ResV), ResOk q := by intro q hq; simp only [List.mem_cons, List.not_mem_nil, or_false] at hq; rcases hq with rfl | rfl | rfl; exact ⟨Nat.zero_le _, fun p hp => nomatch hp⟩; exact ⟨Nat.le_of_ble_eq_true rfl, by intro p hp; simp at hp; rcases hp with rfl | rfl; exact HO.out.2; exact HO.out.1⟩; exact ⟨Nat.le_of_ble_eq_true rfl, by intro p hp; simp at hp; rcases hp with rfl; exact HO.out.1⟩
  have key := rsameres_yes a2 _ rs2 ([⟨0, none, 0, []⟩, ⟨0, some ⟨v1.heap.size, 0, none⟩, 2, [(⟨some ⟨ky, 0, none⟩, 1, [98], r12, e12, [b1 p12 q12 120, b1 s12 t12 119]⟩ : PrV), (⟨some ⟨kx, 0, none⟩, 1, [97], r11, e11, [b1 p11 q11 120, b1 s11 t11 121]⟩ : PrV)]⟩, ⟨0, some ⟨v1.heap.size + 1, 0, none⟩, 1, [(⟨some ⟨kx, 0, none⟩, 1, [97], r11, e11, [b1 p11 q11 120, b1 s11 t11 121]⟩ : PrV)]⟩] : List ResV) 3 c2 3 HL2.out rfl (by decide) HR2.out.2.1 hok (HR2.out.1.trans rfl) ((((v1).alloc (.cells #[.slice (some ⟨ky, 0, none⟩) 1 1, .slice r12 2 e12, .slice (some ⟨kx, 0, none⟩) 1 1, .slice r11 2 e11] 78)).alloc (.cells #[.slice (some ⟨kx, 0, none⟩) 1 1, .slice r11 2 e11] 78)).alloc (.cells #[.int .i64 0, .slice none 0 0, .int .i64 0, .slice (some ⟨v1.heap.size, 0, none⟩) 2 2, .int .i64 0, .slice (some ⟨v1.heap.size + 1, 0, none⟩) 1 1] 81)) (HF.out.2.1.below hXX) hm
  try simp only [World.size_alloc] at key
  refine key.mono ?_; clear key; rintro r v2 ⟨rfl, hb⟩
  have hb : Below ((((v1).alloc (.cells #[.slice (some ⟨ky, 0, none⟩) 1 1, .slice r12 2 e12, .slice (some ⟨kx, 0, none⟩) 1 1, .slice r11 2 e11] 78)).alloc (.cells #[.slice (some ⟨kx, 0, none⟩) 1 1, .slice r11 2 e11] 78)).alloc (.cells #[.int .i64 0, .slice none 0 0, .int .i64 0, .slice (some ⟨v1.heap.size, 0, none⟩) 2 2, .int .i64 0, .slice (some ⟨v1.heap.size + 1, 0, none⟩) 1 1] 81)).heap.size ((((v1).alloc (.cells #[.slice (some ⟨ky, 0, none⟩) 1 1, .slice r12 2 e12, .slice (some ⟨kx, 0, none⟩) 1 1, .slice r11 2 e11] 78)).alloc (.cells #[.slice (some ⟨kx, 0, none⟩) 1 1, .slice r11 2 e11] 78)).alloc (.cells #[.int .i64 0, .slice none 0 0, .int .i64 0, .slice (some ⟨v1.heap.size, 0, none⟩) 2 2, .int .i64 0, .slice (some ⟨v1.heap.size + 1, 0, none⟩) 1 1] 81)) v2 := hb
  replace HX := Lib.hid (step_below hXX hb)
  have HNv2 := Lib.hid (step_below hcw hb)
  replace cx0 := ((step_below hcw hb).cell (World.block_lt_of_cell? _ _ cx0)).trans cx0; replace cx1 := ((step_below hcw hb).cell (World.block_lt_of_cell? _ _ cx1)).trans cx1; replace cy0 := ((step_below hcw hb).cell (World.block_lt_of_cell? _ _ cy0)).trans cy0; replace cy1 := ((step_below hcw hb).cell (World.block_lt_of_cell? _ _ cy1)).trans cy1
  clear hb hcw hXX hm hok hzl hz0 hp0 hz1 hp1
  go_wp2_with fail
  have hzl := bl1 (v2) (.cells #[.int .i64 0, .slice none 0 0, .int .i64 6, .slice none 0 0] 81)
  have hcw := hzl
  have hXX := step_below HX.out hcw
  have hm : ResR ((v2).alloc (.cells #[.int .i64 0, .slice none 0 0, .int .i64 6, .slice none 0 0] 81)) (some ⟨(v2).heap.size, 0, none⟩) ([⟨0, none, 0, []⟩, ⟨6, none, 0, []⟩] : List ResV) := res_at _ (BoxC.new (v2) #[.int .i64 0, .slice none 0 0, .int .i64 6, .slice none 0 0] 81) rfl (by intro q hq; simp only [List.mem_cons, List.not_mem_nil, or_false] at hq; rcases hq with rfl | rfl; exact pairs_nil _ _; exact pairs_nil _ _)
  have hok : ∀ q ∈ ([⟨0, none, 0, []⟩, ⟨6, none, 0, []⟩] : List ResV), ResOk q := by intro q hq; simp only [List.mem_cons, List.not_mem_nil, or_false] at hq; rcases hq with rfl | rfl; exact ⟨Nat.zero_le _, fun p hp => nomatch hp⟩; exact ⟨Nat.zero_le _, fun p hp => nomatch hp⟩
  have key := rsameres_yes a3 _ rs3 ([⟨0, none, 0, []⟩, ⟨6, none, 0, []⟩] : List ResV) 2 c3 2 HL3.out rfl (by decide) HR3.out.2.1 hok (HR3.out.1.trans rfl) ((v2).alloc (.cells #[.int .i64 0, .slice none 0 0, .int .i64 6, .slice none 0 0] 81)) (HF.out.2.2.1.below hXX) hm
  try simp only [World.size_alloc] at key
  refine key.mono ?_; clear key; rintro r v3 ⟨rfl, hb⟩
  have hb : Below ((v2).alloc (.cells #[.int .i64 0, .slice none 0 0, .int .i64 6, .slice none 0 0] 81)).heap.size ((v2).alloc (.cells #[.int .i64 0, .slice none 0 0, .int .i64 6, .slice none 0 0] 81)) v3 := hb
  replace HX := Lib.hid (step_below hXX hb)
  have HNv3 := Lib.hid (step_below hcw hb)
  replace cx0 := ((step_below hcw hb).cell (World.block_lt_of_cell? _ _ cx0)).trans cx0; replace cx1 := ((step_below hcw hb).cell (World.block_lt_of_cell? _ _ cx1)).trans cx1; replace cy0 := ((step_below hcw hb).cell (World.block_lt_of_cell? _ _ cy0)).trans cy0; replace cy1 := ((step_below hcw hb).cell (World.block_lt_of_cell? _ _ cy1)).trans cy1
  clear hb hcw hXX hm hok hzl 
  go_wp2_with fail
  have hl9 : R9.length = 2 := by have h := congrArg List.length HGV.out.1; rw [List.length_map] at h; exact h
  have key := rsame_law ga r11 R9 [b1 p11 q11 120, b1 s11 t11 121] 2 2 gc e11 hl9 rfl (by decide) (fun p hp => by have h : p.bs ∈ R9.map P1.bs := List.mem_map.2 ⟨p, hp, rfl⟩; rw [HGV.out.1] at h; simp at h; rcases h with h | h <;> rw [h] <;> exact bytd rfl) (fun p hp => by simp at hp; rcases hp with rfl | rfl <;> exact bytd rfl) v3 (HF.out.2.2.2.2.1.below HX.out) (HF.out.2.2.2.2.2.2.1.below HX.out)
  rw [show eqB R9 [b1 p11 q11 120, b1 s11 t11 121] = true from decide_eq_true (HGV.out.1.trans rfl)] at key
  refine key.mono ?_; clear key hl9; rintro r v4 ⟨rfl, hb⟩
  replace HX := Lib.hid (step_below HX.out hb)
  clear hb cx0 cx1 cy0 cy1 dx0 dx1
  go_wp2_with fail
  have hz0 := bl1 v4 (.cells #[.int .u8 99] 5 (1, 2))
  have hz1 := bl1 (v4.alloc (.cells #[.int .u8 99] 5 (1, 2))) (.cells #[.int .i64 0, .slice (some ⟨v4.heap.size, 0, none⟩) 1 1, .slice none 0 0] 84)
  have hk : Ls .u8 ((v4.alloc (.cells #[.int .u8 99] 5 (1, 2))).alloc (.cells #[.int .i64 0, .slice (some ⟨v4.heap.size, 0, none⟩) 1 1, .slice none 0 0] 84)) (some ⟨v4.heap.size, 0, none⟩) 1 [99] := (ls_box [99] (World.alloc_heap_new v4 (.cells #[.int .u8 99] 5 (1, 2))) rfl).below hz1
  have hwr : WrR ((v4.alloc (.cells #[.int .u8 99] 5 (1, 2))).alloc (.cells #[.int .i64 0, .slice (some ⟨v4.heap.size, 0, none⟩) 1 1, .slice none 0 0] 84)) (some ⟨(v4.alloc (.cells #[.int .u8 99] 5 (1, 2))).heap.size, 0, none⟩) [(⟨0, some ⟨v4.heap.size, 0, none⟩, 1, [99], ⟨none, 0, []⟩⟩ : WrV)] := fun k q hq => by
    have hb := BoxC.new (v4.alloc (.cells #[.int .u8 99] 5 (1, 2))) #[.int .i64 0, .slice (some ⟨v4.heap.size, 0, none⟩) 1 1, .slice none 0 0] 84
    match k, hq with
    | 0, hq =>
      cases hq
      exact ⟨_, 0, rfl, hb.cell 0, hb.cell 1, hb.cell 2, hk, fun k p hp => by have hp : ([] : List P1)[k]? = some p := hp; simp at hp⟩
    | k + 1, hq => simp at hq
  have hyR : y.r.R = [] := by have h : y.r.R.map P1.bs = [] := congrArg (fun z => z.2.2) HW.out.1; exact no_row h
  have key := swrites_yes wa (some ⟨(v4.alloc (.cells #[.int .u8 99] 5 (1, 2))).heap.size, 0, none⟩) [y.W] [(⟨0, some ⟨v4.heap.size, 0, none⟩, 1, [99], ⟨none, 0, []⟩⟩ : WrV)] 1 wc 1 rfl (by decide) (by show [((y.t : Int), y.K, y.r.P)] = [(0, [99], [])]; have h1 : y.t = 0 := congrArg (fun z => z.1) HW.out.1; have h2 : y.K = [99] := congrArg (fun z => z.2.1) HW.out.1; have h3 : y.r.P = [] := congrArg (fun z => z.2.2) HW.out.1; rw [h1, h2, h3]; rfl) (fun p hp => by rw [List.mem_singleton] at hp; subst hp; show y.r.R.length ≤ 1000000 ∧ ∀ q ∈ y.r.R, Byt q.bs; rw [hyR]; exact ⟨Nat.zero_le _, fun q hq => nomatch hq⟩) (fun p hp => by rw [List.mem_singleton] at hp; subst hp; exact fun q hq => nomatch hq) ((v4.alloc (.cells #[.int .u8 99] 5 (1, 2))).alloc (.cells #[.int .i64 0, .slice (some ⟨v4.heap.size, 0, none⟩) 1 1, .slice none 0 0] 84)) (HF.out.2.2.2.1.below (step_below HX.out (step_below hz0 hz1))) hwr
  replace key := key.mono (fun r w' h => (⟨h.1, h.2⟩ : r = .returned (.bool true) ∧ Bel ((v4.alloc (.cells #[.int .u8 99] 5 (1, 2))).alloc (.cells #[.int .i64 0, .slice (some ⟨v4.heap.size, 0, none⟩) 1 1, .slice none 0 0] 84)) w'))
  simp only [World.size_alloc] at key
  refine key.mono ?_; clear key; rintro r v5 ⟨rfl, hb⟩
  have hb : Below ((v4.alloc (.cells #[.int .u8 99] 5 (1, 2))).alloc (.cells #[.int .i64 0, .slice (some ⟨v4.heap.size, 0, none⟩) 1 1, .slice none 0 0] 84)).heap.size ((v4.alloc (.cells #[.int .u8 99] 5 (1, 2))).alloc (.cells #[.int .i64 0, .slice (some ⟨v4.heap.size, 0, none⟩) 1 1, .slice none 0 0] 84)) v5 := hb
  have HE := Lib.hid (step_below HBX.out (step_below HX.out (step_below (step_below hz0 hz1) hb)))
  clear hb hz0 hz1 hk hwr hyR
  go_wp2_with fail
  go_ret
  exact ⟨rfl, HE.out⟩
end Go.Proofs.YthmofoldmdafoaaGreat
namespace Go.Proofs.YthmofoldmdafoaaGreat
open Go.ChangeShapes Go.WideShapes Go.ChangeAt Go.RowKit Go.Maps Go.Shelf
set_option linter.unusedVariables false
set_option linter.unusedSimpArgs false

def tbcl (x : TbV) : List Value := [.slice x.pa x.P.length x.pc]
theorem tbcl_len (x : TbV) : (tbcl x).length = 1 := rfl
/-- A table's pairs, as Tables gives them. -/
def TbG (x : TbV) : Prop := (∀ p ∈ x.P, okK p) ∧ x.P.length ≤ x.pc ∧ (x.pa = none → x.pc = 0)
/-- How Tables ends. -/
def TabsR (w : World) (T : List (List Pr)) (r : Ending) (w' : World) : Prop := ∃ a c Ts, r = .returned (.slice a Ts.length c) ∧ Below w.heap.size w w' ∧ Ts.map tbC = T ∧ (∀ x ∈ Ts, TbG x) ∧ ∀ S : Nat → Prop, (∀ k, S k → k < w.heap.size) → Stay S w' fun W' => TbR W' a Ts
theorem own_tb {W : World} {base n c : Nat} {a : Option Addr} {L : List TbV} (h : W.ownsRow base 69 1 (.slice a n c) n (cellsOf tbcl L)) (hn : L.length = n) (ok : ∀ x ∈ L, PairsR W x.pa x.P) : TbR W a L := fun k y hy => by
  obtain ⟨g, rfl, _, hc⟩ := own_cell22 tbcl_len (by omega) h hn k y hy
  refine ⟨g, 0, rfl, ?_, ok y (List.mem_of_getElem? hy)⟩
  have := hc 0 (by omega); rw [Nat.add_zero, Nat.mul_one] at this; rw [Nat.zero_add]; exact this
set_option maxRecDepth 100000 in
set_option maxHeartbeats 4000000 in
/-- Tables (28). -/
theorem mtabs_law {S : Nat → Prop} {m : Md} {w : World} (h : MdR S w m) (hS : ∀ k, S k → k < w.heap.size) (hf : ∀ z ∈ m.tabs, z.2.length ≤ 900000) :
    Calls Tryz.prog 28 #[.pointer (some ⟨m.p, 0, none⟩)] w (TabsR w m.P) := by
  have HM := Lib.hid (mnone_law h)
  have HH := Lib.hid h
  have HSS := Lib.hid hS
  have HF := Lib.hid hf
  have hfew := h.few
  have hfi : (m.tabs.length : Int) ≤ 4 := by omega
  have hc := h.c
  clear h hS hf
  go_enter Tryz.func28, Tryz.ntmps28
  go_wp2_with (go_at_call 51; refine HM.out.mono ?_; rintro e w' ⟨rfl, rfl⟩)
  clear hc
  go_loopw [3, 12] (fun v i wr => ∃ (k : Nat) (Ts : List TbV), k ≤ m.tabs.length ∧ i = .int .i64 (k : Int) ∧ Hid (wr.ownsRow w.heap.size 69 1 v k (cellsOf tbcl Ts)) ∧ Hid (Ts.length = k) ∧ Hid (Ts.map tbC = m.P.take k) ∧ Hid (∀ x ∈ Ts, TbG x) ∧ Hid (∀ x ∈ Ts, ∀ S' : Nat → Prop, (∀ j, S' j → j < w.heap.size ∨ v.ownBlock = some j) → Stay S' wr fun W' => PairsR W' x.pa x.P) ∧ Hid (Below w.heap.size w wr)) (fun _ i _ => m.tabs.length - (intOf i).toNat)
  case atStart => exact ⟨0, [], by omega, rfl, Lib.hid (World.ownsRow_nil _ _ _ _), Lib.hid rfl, Lib.hid (by simp), Lib.hid (fun x hx => nomatch hx), Lib.hid (fun x hx => nomatch hx), Lib.hid (Below.refl _ _)⟩
  case round =>
    obtain ⟨k, Ts, hk, rfl, HOV, HL, HT, HOK, HPS, HBR⟩ := hrel
    by_cases hlt : k < m.tabs.length
    · have d1 : (k : Int) < (m.tabs.length : Int) := by omega
      obtain ⟨va, vc, hv⟩ := own_form22 HOV.out
      subst hv
      go_wp2_with fail
      refine (mtable_law wr _ _ rfl (k : Int)).mono ?_; rintro r w5 ⟨rfl, x1, x2, x3, b5⟩
      have HB5 := Lib.hid b5
      have HX := Lib.hid (And.intro x1 (And.intro x2 x3))
      have HLT := Lib.hid hlt
      clear x1 x2 x3 b5
      go_wp2_with fail
      have HB05 := Lib.hid (step_below HBR.out HB5.out)
      have hpl : (m.P.getD k []).length ≤ 2000000 := by
        obtain ⟨z, hz⟩ : ∃ z, m.tabs[k]? = some z := ⟨_, List.getElem?_eq_getElem hlt⟩
        have h1 := HF.out z (List.mem_of_getElem? hz)
        have h2 : m.P.getD k [] = tabP z.2 := by rw [List.getD_eq_getElem?_getD]; unfold Md.P; rw [List.getElem?_map, hz]; rfl
        rw [h2]; unfold tabP; rw [List.length_map]; omega
      refine (tabcol_law (HH.out.below HB05.out) (fun j hj => Nat.lt_of_lt_of_le (HSS.out j hj) HB05.out.size) _ _ _ k HX.out.1 HX.out.2.1 HX.out.2.2 HLT.out HF.out hpl).mono ?_; rintro r w9 ⟨pa, pc, P, rfl, hb9, q1, q2, q3, q4, q5, q6⟩
      have HQ := Lib.hid (show P.map prC = m.P.getD k [] ∧ TbG ⟨pa, pc, P⟩ from ⟨q1, q2, q3, q4⟩)
      have HB9 := Lib.hid (step_below HB5.out hb9)
      have HS9 := Lib.hid (fun (S' : Nat → Prop) (hS' : ∀ j, S' j → j < wr.heap.size) => q6 S' (fun j hj => Nat.lt_of_lt_of_le (hS' j hj) HB5.out.size))
      clear hpl hb9 q1 q2 q3 q4 q5 q6 HX HB05
      have HP3 := Lib.hid (show k + 1 ≤ 2097152 by omega)
      go_wp2_with (at_builtin; refine append_cells ae_tab rfl _ _ rfl w.heap.size (.slice va k vc) k (cellsOf tbcl Ts) rfl ((own_kept HOV.out HB9.out).alloc _) ⟨w9.heap.size, 0, none⟩ 1 1 [.slice pa P.length pc] rfl rfl (cells_new w9 _ _ _ rfl) (fun u hu => by simp at hu; subst hu; rfl) HP3.out (Nat.le_trans HBR.out.size (Nat.le_trans HB9.out.size (by simp))) ?_; intro v8 w8 hown8 hgrow8 hat8; have HO8 := Lib.hid hown8; have HG8 := Lib.hid hgrow8; have HAT8 := Lib.hid hat8; clear hown8 hgrow8 hat8)
      have HB91 := Lib.hid (step_below HB9.out (bl1 w9 (.cells #[.slice pa P.length pc] 69)))
      go_roundw
      case rel =>
        have hob : Off (fun j => Value.ownBlock (.slice va k vc) = some j) wr w8 := (Off.of HB91.out).trans (Off.of_row HG8.out)
        have hvlt : ∀ b, Value.ownBlock (.slice va k vc) = some b → b < wr.heap.size ∧ w.heap.size ≤ b := fun b hb => ⟨(own_blk HOV.out hb).2.1, (own_blk HOV.out hb).1⟩
        have hnew : ∀ b, v8.ownBlock = some b → Value.ownBlock (.slice va k vc) = some b ∨ w9.heap.size + 1 = b := fun b hb => by
          rcases HAT8.out with e | e
          · exact .inl (e ▸ hb)
          · rw [World.size_alloc] at e
            rw [hb] at e
            exact .inr (by cases e; rfl)
        refine ⟨k + 1, Ts ++ [⟨pa, pc, P⟩], by omega, by go_num, Lib.hid ?_, Lib.hid ?_, Lib.hid ?_, Lib.hid ?_, Lib.hid ?_, Lib.hid ?_⟩
        · rw [cellsOf_append]; exact HO8.out
        · rw [List.length_append, HL.out]; rfl
        · rw [List.map_append, HT.out, List.take_add_one]
          have h2 : m.P[k]? = some (m.P.getD k []) := by
            have : k < m.P.length := by rw [Md.P_len]; exact HLT.out
            rw [List.getD_eq_getElem?_getD, List.getElem?_eq_getElem this]; rfl
          rw [h2]
          show _ ++ [P.map prC] = _
          rw [HQ.out.1]; rfl
        · intro x hx
          rcases List.mem_append.1 hx with hx | hx
          · exact HOK.out x hx
          · rw [List.mem_singleton] at hx; subst hx; exact HQ.out.2
        · intro x hx S' hS'
          rcases List.mem_append.1 hx with hx | hx
          · refine (HPS.out x hx (fun j => j < w.heap.size ∨ Value.ownBlock (.slice va k vc) = some j) (fun j hj => hj)).step (hob.mono fun j hj => .inr hj) (fun j hj => ?_)
            rcases hS' j hj with hj | hj
            · exact .inl (.inl hj)
            · rcases hnew j hj with hj | hj
              · exact .inl (.inr hj)
              · have := HB9.out.size; exact .inr (by omega)
          · rw [List.mem_singleton] at hx
            subst hx
            have h1 := HS9.out (fun j => j < wr.heap.size) (fun j hj => hj)
            have o98 : Off (fun j => j < wr.heap.size) w9 w8 := (Off.of (bl1 w9 (.cells #[.slice pa P.length pc] 69))).trans ((Off.of_row HG8.out).mono fun j hj => (hvlt j hj).1)
            refine h1.step o98 (fun j hj => ?_)
            rcases hS' j hj with hj | hj
            · have := HBR.out.size; exact .inl (by show j < wr.heap.size; omega)
            · rcases hnew j hj with hj | hj
              · exact .inl (hvlt j hj).1
              · exact .inr (by omega)
        · exact Off.below HBR.out hob HBR.out.size (fun j hj => (hvlt j hj).2)
      case measure => simp [intOf]; omega
    · have d1 : ¬ (k : Int) < (m.tabs.length : Int) := by omega
      obtain ⟨va, vc, hv⟩ := own_form22 HOV.out
      subst hv
      have HKE := Lib.hid (show k = m.tabs.length by omega)
      go_wp2_with fail
      go_ret
      have hTl := HL.out
      refine ⟨va, vc, Ts, by show Ending.returned (.slice va k vc) = _; rw [hTl], HBR.out, ?_, HOK.out, fun S' hS' W' o => ?_⟩
      · rw [HT.out, HKE.out, ← Md.P_len, List.take_of_length_le (Nat.le_refl _)]
      · exact own_tb (own_off22 HOV.out o hS') hTl fun x hx => HPS.out x hx S' (fun j hj => .inl (hS' j hj)) W' o
end Go.Proofs.YthmofoldmdafoaaGreat
namespace Go.Proofs.YthmofoldmdafoaaGreat
open Go.ChangeShapes Go.WideShapes Go.ChangeAt Go.RowKit Go.Maps Go.Shelf
set_option linter.unusedVariables false
set_option linter.unusedSimpArgs false

def scanV (t : Nat) : CallV := ⟨5, t, 0, none, 0, 0, [], none, 0, 0, [], 64, none, 0, 0, []⟩
def getV (t : Nat) (p : PrV) : CallV := ⟨1, t, 0, p.ka, p.K.length, p.kc, p.K, none, 0, 0, [], 0, none, 0, 0, []⟩
def scT (t : Nat) (P : List PrV) : List CallV := scanV t :: P.map (getV t)
theorem may_sc {j : Job} (hj : okB j = true) {t : Nat} (ht : t < j.n) {P : List PrV} (hP : ∀ p ∈ P, okK p) (hl : P.length ≤ 15) (oa : Option Addr) (oc : Nat) : mayT j ⟨oa, P.length + 1, oc, scT t P, true, false⟩ = true := by
  have h5 : ∀ i, kf 5 i = kB.getD (5 * 6 + i) false := fun i => rfl
  have hin : inB (t : Int) 0 ((j.n : Int) - 1) = true := decide_eq_true (by omega)
  have hp0 : ∀ o : CallV, (o.k = 1 ∨ o.k = 5) → o.t = t → o.i = 0 → o.rn = 0 → endB o = true → opB j true o = true := fun o hk ho hi hr he => by
    unfold opB pO idxV
    rw [hj, ho, hin, hi, hr, he]
    rcases hk with hk | hk <;> rw [hk] <;> rfl
  unfold mayT
  rw [hj]
  simp only [Bool.true_and, Bool.and_false, Bool.not_false, Bool.and_true, Bool.and_eq_true, decide_eq_true_eq, List.all_eq_true]
  refine ⟨by show P.length + 1 ≤ 16; omega, fun o ho => ?_⟩
  rcases List.mem_cons.1 ho with rfl | ho
  · exact hp0 _ (.inr rfl) rfl rfl rfl rfl
  · obtain ⟨p, hp, rfl⟩ := List.mem_map.1 ho
    refine hp0 _ (.inl rfl) rfl rfl rfl ?_
    have hk := (hP p hp).1
    have : mayK p.K.length = true := by unfold mayK; rw [decide_eq_true_eq]; exact hk.2
    unfold endB getV
    rw [show kf 1 3 = false from rfl]
    simp [this]
theorem winG_all (u : List Int) : ∀ (l acc : List Pr), acc.length ≤ 64 → winG Prod.fst [] u false 64 l acc = acc ++ l.take (64 - acc.length)
  | [], acc, _ => by simp [winG]
  | e :: r, acc, h => by
    unfold winG
    have hl : ltL e.1 [] = false := by cases e.1 <;> rfl
    rw [hl]
    simp only [Bool.false_eq_true, if_false, Bool.false_and, Bool.false_or]
    by_cases h64 : acc.length = 64
    · rw [if_pos (by rw [decide_eq_true_eq]; omega), h64]; simp
    · rw [if_neg (by rw [decide_eq_true_eq]; omega), winG_all u r (acc ++ [e]) (by simp; omega)]
      have e1 : 64 - acc.length = (64 - (acc ++ [e]).length) + 1 := by simp; omega
      rw [e1, List.take_succ_cons, List.append_assoc]; rfl
theorem run_gets (j : Job) (T : List (List Pr)) (t : Nat) (hT : TabOk (T.getD t [])) : ∀ (P : List PrV) (acc : List (Int × List Pr)), (∀ p ∈ P, prC p ∈ T.getD t []) → (P.map (getV t)).foldl (stepP j T) (acc, []) = (acc ++ P.map (fun p => (0, [prC p])), [])
  | [], acc, _ => by simp
  | p :: r, acc, h => by
    rw [List.map_cons, List.foldl_cons]
    have hg : getT (T.getD t []) p.K = some (p.R.map P1.bs) := (getT_some hT).2 (h p (List.mem_cons_self ..))
    have e : stepP j T (acc, []) (getV t p) = (acc ++ [(0, [prC p])], []) := by
      unfold stepP callP
      rw [if_pos (show (getV t p).k = 1 from rfl)]
      have : getWP T [] (getV t p).t.toNat (getV t p).K = some (p.R.map P1.bs) := by
        show getT (T.getD ((t : Int)).toNat []) p.K = _
        rw [Int.toNat_natCast]; exact hg
      rw [this]; rfl
    rw [e, run_gets j T t hT r _ (fun q hq => h q (List.mem_cons_of_mem _ hq)), List.map_cons, List.append_assoc]; rfl
theorem run_sc (j : Job) (T : List (List Pr)) (t : Nat) (hT : TabOk (T.getD t [])) (P : List PrV) (h : ∀ p ∈ P, prC p ∈ T.getD t []) : runP j T (scT t P) = ((0, (T.getD t []).take 64) :: P.map (fun p => (0, [prC p])), []) := by
  unfold runP scT
  rw [List.foldl_cons]
  have e : stepP j T ([], []) (scanV t) = ([(0, (T.getD t []).take 64)], []) := by
    have e0 : stepP j T ([], []) (scanV t) = ([] ++ [((0 : Int), winG Prod.fst [] [] false 64 ((overT T []).getD ((t : Int)).toNat []) [])], []) := rfl
    rw [e0]
    rw [Int.toNat_natCast, overT_nil, winG_all [] _ [] (by simp)]; rfl
  rw [e, run_gets j T t hT P _ h]; rfl
/-- Try, of what may be. -/
def TryY (S : Nat → Prop) (w : World) (L : List (Int × List Pr)) (r : Ending) (w' : World) : Prop :=
  ∃ a c rs, r = .returned (.tuple #[.slice a rs.length c, .int .i64 0]) ∧ Below w.heap.size w w' ∧ rs.map resC = L ∧ (∀ y ∈ rs, ResOk y) ∧ Stay S w' fun W => ResR W a rs
theorem try_yes {S : Nat → Prop} {m : Md} {w : World} (h : MdR S w m) (hS : ∀ k, S k → k < w.heap.size) (x : TxnV) (hx : Stay S w fun W => TxnAt W x) (hon : x.on ≤ 1000000) (hrn : ∀ o ∈ x.ops, o.rn ≤ 1000000) (hf : ∀ z ∈ m.tabs, z.2.length ≤ 300000) (hm : mayT m.j x = true) :
    Calls Tryz.prog 40 #[.pointer (some ⟨m.p, 0, none⟩), .agg #[.slice x.oa x.on x.oc, .bool x.sn, .bool x.ab]] w (TryY S w (ansP m.j m.P x)) := (try_law h hS x hx hon hrn hf).mono fun r w' h => by
  unfold TryR at h
  rw [if_pos hm] at h
  exact h
/-- One pair out of a row. -/
theorem mid69 (a : Option Addr) (P : List PrV) (n c i : Nat) (hn : P.length = n) (hi : i < n) (hnc : n ≤ c) (W : World) (hP : PairsR W a P) :
    ∃ a', (∀ W', (Instr.slice 69 (.slice a n c) (some (.int .i64 (i : Int))) (some (.int .i64 ((i : Int) + 1))) .none).run Tryz.prog W' = .ok (.slice a' 1 (c - i)) W') ∧ (∀ W', PairsR W' a P → PairsR W' a' ((P.drop i).take 1)) ∧ (if c = i then a else a.map fun x => x.add (i * 2)) = a' := by
  obtain ⟨x, hx⟩ : ∃ x, P[i]? = some x := ⟨_, List.getElem?_eq_getElem (by omega)⟩
  obtain ⟨b, off, rfl, _⟩ := hP i x hx
  obtain ⟨i0, hi0, hz0, hz1, hz2⟩ := info_parts info78
  have hel : Tryz.prog.elem 69 = 78 := by simp [Program.elem, Tryz.underlying69]
  have hs : ∀ W', ((sizeOf (Tryz.prog.elem 69)).run Tryz.prog W') = .ok 2 W' := fun W' => by rw [hel]; simp [sizeOf, typeInfo, hi0, hz1]
  refine ⟨some ⟨b, off + i * 2, none⟩, fun W' => ?_, fun W' h => (h.drop i).take 1, by rw [if_neg (by omega)]; simp [addr_add]⟩
  rw [run_slice_lh (P := Tryz.prog) (w := W') 69 (some ⟨b, off, none⟩) n c (by rw [hel]; exact Tryz.underlying69) .i64 .i64 (i : Int) ((i : Int) + 1) (by omega) (by omega) (by omega), hs]
  have h2 : ¬ (c - i = 0) := by omega
  have h3 : ((i : Int) + 1).toNat - (i : Int).toNat = 1 := by omega
  have h4 : ¬ c = i := by omega
  simp [sliced, Result.andThen, h2, h3, h4, addr_add]
end Go.Proofs.YthmofoldmdafoaaGreat
