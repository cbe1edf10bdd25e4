/- ModelReads: a transaction that reads alone writes nothing, and is answered the same again and again; for every input. Part 12. -/
import Derived.Test.YthmofoldmdafoaaGreatRrk
import Derived.Test.YthmofoldmdafoaaGreatRra
namespace Go.Proofs.YthmofoldmdafoaaGreat
open Go.ChangeShapes Go.WideShapes Go.ChangeAt Go.RowKit Go.Maps Go.Shelf
set_option linter.unusedVariables false
set_option linter.unusedSimpArgs false

theorem ops_own {W : World} {base n c : Nat} {a : Option Addr} {L : List CallV} (h : W.ownsRow base 74 7 (.slice a n c) n (cellsOf ocl L)) (hn : L.length = n) (ok : ∀ o ∈ L, CallAt W o) : OpsR W a L := fun k x hx => by
  obtain ⟨g, rfl, _, hc⟩ := own_cell22 (f := ocl) (sz := 7) (fun _ => rfl) (by omega) h hn k x hx
  refine ⟨g, 0, rfl, ⟨?_, ?_, ?_, ?_, ?_, ?_, ?_⟩, ok x (List.mem_of_getElem? hx)⟩
  · have := hc 0 (by omega); rw [Nat.add_zero] at this; rw [Nat.zero_add]; exact this
  · have := hc 1 (by omega); rw [Nat.zero_add]; exact this
  · have := hc 2 (by omega); rw [Nat.zero_add]; exact this
  · have := hc 3 (by omega); rw [Nat.zero_add]; exact this
  · have := hc 4 (by omega); rw [Nat.zero_add]; exact this
  · have := hc 5 (by omega); rw [Nat.zero_add]; exact this
  · have := hc 6 (by omega); rw [Nat.zero_add]; exact this
theorem sc_len (t : Nat) (P : List PrV) : (scT t P).length = P.length + 1 := by simp [scT]
theorem rdr_no (W : World) (a : Option Addr) : RdR W a [] := fun k p hp => by simp at hp
theorem callat_sc {W : World} {a : Option Addr} {P : List PrV} (t : Nat) (h : PairsR W a P) (ok : ∀ p ∈ P, okK p) : ∀ o ∈ scT t P, CallAt W o := fun o ho => by
  rcases List.mem_cons.1 ho with rfl | ho
  · exact ⟨Ls.nul _ _, rfl, (fun x hx => nomatch hx), Ls.nul _ _, rfl, (fun x hx => nomatch hx), rdr_no _ _, rfl, fun p hp => nomatch hp⟩
  · obtain ⟨p, hp, rfl⟩ := List.mem_map.1 ho
    obtain ⟨i, hi⟩ := List.mem_iff_getElem?.1 hp
    obtain ⟨_, _, _, _, _, l, _⟩ := h i p hi
    exact ⟨l, rfl, (ok p hp).1.1, Ls.nul _ _, rfl, (fun x hx => nomatch hx), rdr_no _ _, rfl, fun p hp => nomatch hp⟩
theorem rn_sc (t : Nat) (P : List PrV) : ∀ o ∈ scT t P, o.rn ≤ 1000000 := fun o ho => by
  rcases List.mem_cons.1 ho with rfl | ho
  · exact Nat.zero_le _
  · obtain ⟨p, hp, rfl⟩ := List.mem_map.1 ho
    exact Nat.zero_le _
theorem okK_pr {p : PrV} (h : okK p) : PrOk p := ⟨h.1.1, fun q hq => (h.2.2.2 q.bs (List.mem_map.2 ⟨q, hq, rfl⟩)).1, by have := h.2.2.1; rw [List.length_map] at this; omega⟩
theorem rsamepairs_yes (a b : Option Addr) (L M : List PrV) (n m ca cb : Nat) (hn : L.length = n) (hm : M.length = m) (hn2 : n ≤ 1000000) (hm2 : m ≤ 1000000) (okL : ∀ x ∈ L, PrOk x) (okM : ∀ x ∈ M, PrOk x) (hs : L.map prC = M.map prC) (w : World) (hA : PairsR w a L) (hB : PairsR w b M) :
    Calls Tryz.prog 73 #[.slice a n ca, .slice b m cb] w fun r w' => r = .returned (.bool true) ∧ Bel w w' := by
  have h := rsamepairs_law a b L M n m ca cb hn hm hn2 hm2 okL okM w hA hB
  rw [decide_eq_true hs] at h
  exact h
theorem sc_snoc (t : Nat) {P : List PrV} {k : Nat} {p : PrV} (h : P[k]? = some p) : scT t (P.take (k + 1)) = scT t (P.take k) ++ [getV t p] := by
  unfold scT
  rw [List.take_add_one, h, List.map_append]; rfl
theorem own_new7 (w : World) (cs : Array Value) (xs : List Value) (h : cs = xs.toArray) (hl : xs.length = 7) : (w.alloc (.cells cs 74)).ownsRow w.heap.size 74 7 (.slice (some ⟨w.heap.size, 0, none⟩) 1 1) 1 xs :=
  ⟨by rw [hl], .inr ⟨w.heap.size, 1, cs, rfl, Nat.le_refl _, World.alloc_heap_new w _, Nat.le_refl _, by decide, by rw [h]; simpa using hl, by rw [h]; exact List.take_of_length_le (by simp [hl])⟩⟩
/-- How scanned ends. -/
def ScR (S : Nat → Prop) (w : World) (m : Md) (r : Ending) (w' : World) : Prop := r = .returned (.bool true) ∧ ∃ m', MdR S w' m' ∧ MdSame m m' ∧ m'.P = m.P ∧ Off S w w' ∧ (∀ N : Nat, (∀ x ∈ m.tabs, x.2.length ≤ N) → ∀ x ∈ m'.tabs, x.2.length ≤ N + 16)
set_option maxRecDepth 100000 in
set_option maxHeartbeats 4000000 in
/-- scanned (29). -/
theorem scanned_law {S : Nat → Prop} {m : Md} {w : World} (h : MdR S w m) (hS : ∀ k, S k → k < w.heap.size) (t : Nat) (ht : t < m.tabs.length) (x : TbV) (n : Nat) (hn : x.P.length = n) (hx : TbG x) (hP : x.P.map prC = m.P.getD t []) (hst : Stay S w fun W => PairsR W x.pa x.P) (hf : ∀ z ∈ m.tabs, z.2.length ≤ 200000) (hl : n ≤ 1000000) :
    Calls Tryz.prog 29 #[.pointer (some ⟨m.p, 0, none⟩), .int .i64 (t : Int), .slice x.pa n x.pc] w (ScR S w m) := by
  have HH := Lib.hid h
  have HSS := Lib.hid hS
  have HT := Lib.hid ht
  have HN := Lib.hid hn
  have HXG := Lib.hid hx
  have HP := Lib.hid hP
  have HST := Lib.hid hst
  have HF := Lib.hid hf
  have hni : (n : Int) ≤ 1000000 := by omega
  clear h hS ht hn hx hP hst hf
  go_enter Tryz.func29, Tryz.ntmps29
  go_wp2_with fail
  go_loopw [7, 8] (fun v i wr => ∃ k : Nat, k ≤ 15 ∧ k ≤ n ∧ i = .int .i64 (k : Int) ∧ Hid (wr.ownsRow w.heap.size 74 7 v (k + 1) (cellsOf ocl (scT t (x.P.take k)))) ∧ Hid (Below w.heap.size w wr)) (fun _ i _ => n - (intOf i).toNat)
  case atStart => exact ⟨0, by omega, by omega, rfl, Lib.hid (own_new7 w _ _ rfl rfl), Lib.hid (bl1 _ _)⟩
  case round =>
    obtain ⟨k, hk1, hk2, rfl, HOV, HBR⟩ := hrel
    obtain ⟨va, vc, hv⟩ := own_form22 HOV.out
    subst hv
    by_cases hlt : k < n
    · have d1 : (k : Int) < (n : Int) := by omega
      by_cases h15 : k < 15
      · have d2 : (k : Int) < 15 := by omega
        obtain ⟨p, hp⟩ : ∃ p, x.P[k]? = some p := ⟨_, List.getElem?_eq_getElem (by rw [HN.out]; exact hlt)⟩
        obtain ⟨b1, o1, ea, p0, p1, _, _⟩ := (HST.out wr (Off.of HBR.out)) k p hp
        have HTK := Lib.hid (sc_snoc t hp)
        have HP3 := Lib.hid (show k + 1 + 1 ≤ 2097152 by omega)
        clear hp
        rw [ea]
        go_wp2_with (at_builtin; refine append_cells ae_op rfl _ _ rfl w.heap.size (.slice va (k + 1) vc) (k + 1) (cellsOf ocl (scT t (x.P.take k))) rfl (HOV.out.alloc _) ⟨wr.heap.size, 0, none⟩ 1 1 (ocl (getV t p)) rfl rfl (cells_new wr _ _ _ rfl) (fun u hu => by simp [ocl] at hu; rcases hu with rfl | rfl | rfl | rfl | rfl | rfl | rfl <;> rfl) HP3.out (Nat.le_trans HBR.out.size (by simp)) ?_; intro v8 w8 hown8 hgrow8 hat8; have HO8 := Lib.hid hown8; have HG8 := Lib.hid hgrow8; clear hown8 hgrow8 hat8)
        go_roundw
        case rel =>
          refine ⟨k + 1, by omega, by omega, by go_num, Lib.hid ?_, Lib.hid ?_⟩
          · rw [HTK.out, cellsOf_append]; exact HO8.out
          · exact Off.below HBR.out ((Off.of (S := fun k' => Value.ownBlock (.slice va (k + 1) vc) = some k') (bl1 wr (.cells (ocl (getV t p)).toArray 74))).trans (Off.of_row HG8.out)) HBR.out.size (fun j hj => (own_blk HOV.out hj).1)
        case measure => simp [intOf]; omega
      · have d2 : ¬ (k : Int) < 15 := by omega
        have HK15 : x.P.take k = x.P.take 15 := by rw [show k = 15 by omega]
        have hkn : (x.P.take k) = x.P.take 15 := HK15
        have hkl : (x.P.take k).length = k := by rw [List.length_take, HN.out]; omega
        obtain ⟨P', hP'⟩ : ∃ P', x.P.take k = P' := ⟨_, rfl⟩
        rw [hP'] at HOV hkl hkn
        have HP' := Lib.hid (And.intro hP' (And.intro hkl hkn))
        have hk15 : k ≤ 15 := hk1
        clear hkn hP'
        go_wp2_with fail
        obtain ⟨w6, hw6⟩ : ∃ X, wr.alloc (.cells #[.slice va (k + 1) vc, .bool true, .bool false] 38) = X := ⟨_, rfl⟩
        have hb6 : Below wr.heap.size wr w6 := by rw [← hw6]; exact bl1 _ _
        have hx6 : BoxC w6 wr.heap.size #[.slice va (k + 1) vc, .bool true, .bool false] 38 := by rw [← hw6]; exact BoxC.new _ _ _
        rw [hw6]
        clear hw6
        obtain ⟨bx, hbx⟩ : ∃ b, wr.heap.size = b := ⟨_, rfl⟩
        have HBXW := Lib.hid (show w.heap.size ≤ bx by rw [← hbx]; exact HBR.out.size)
        have HO6 := Lib.hid (own_kept HOV.out hb6)
        have HB6 := Lib.hid (step_below HBR.out hb6)
        rw [hbx] at hx6 ⊢
        clear hbx hb6 HOV HBR
        have HX6 := Lib.hid hx6
        obtain ⟨X, hX⟩ : ∃ X : TxnV, X = ⟨va, k + 1, vc, scT t P', true, false⟩ := ⟨_, rfl⟩
        have hTx : ∀ W', Off S w6 W' → TxnAt W' X := fun W' o => by
          rw [hX]
          refine ⟨ops_own (own_off22 HO6.out o (fun k hk => HSS.out k hk)) (by rw [sc_len, HP'.out.2.1]) ?_, by show (scT t P').length = k + 1; rw [sc_len, HP'.out.2.1]⟩
          have hpr := (HST.out W' ((Off.of HB6.out).trans o))
          rw [← HP'.out.1]
          exact callat_sc t (hpr.take k) (fun p hp => HXG.out.1 p (List.mem_of_mem_take hp))
        have hon : X.on ≤ 1000000 := by rw [hX]; show k + 1 ≤ _; omega
        have hrn : ∀ o ∈ X.ops, o.rn ≤ 1000000 := by rw [hX]; exact rn_sc t P'
        have hmay : mayT m.j X = true := by
          rw [hX]
          have h := may_sc HH.out.ok (show t < m.j.n by rw [← HH.out.len]; exact HT.out) (P := P') (fun p hp => HXG.out.1 p (List.mem_of_mem_take (by rw [HP'.out.1]; exact hp))) (by rw [HP'.out.2.1]; exact hk15) va vc
          rw [HP'.out.2.1] at h
          exact h
        have hrun : runP m.j m.P X.ops = ((0, (m.P.getD t []).take 64) :: P'.map (fun p => (0, [prC p])), []) := by
          rw [hX]
          exact run_sc m.j m.P t (HH.out.tok t).1 P' (fun p hp => by rw [← HP.out]; exact List.mem_map.2 ⟨p, List.mem_of_mem_take (by rw [HP'.out.1]; exact hp), rfl⟩)
        have hans : ansP m.j m.P X = (0, (m.P.getD t []).take 64) :: P'.map (fun p => (0, [prC p])) := congrArg Prod.fst hrun
        have hwrt : wrtP m.j m.P X = [] := by unfold wrtP; rw [hX] at hrun ⊢; show (if false = true then _ else _) = _; rw [if_neg (by decide)]; exact congrArg Prod.snd hrun
        have key := do_yes (HH.out.below HB6.out) (fun k hk => Nat.lt_of_lt_of_le (HSS.out k hk) HB6.out.size) X hTx hon hrn (fun z hz => by have := HF.out z hz; omega) hmay
        have HTX := Lib.hid (And.intro hTx (And.intro hon (And.intro hrn (And.intro hmay (And.intro hans hwrt)))))
        have HXD := Lib.hid hX
        rw [hX] at key
        clear hTx hon hrn hmay hrun hans hwrt hX
        refine key.mono ?_; clear key; rintro r w7 ⟨m1, a1, c1, rs1, rfl, hm1, hsame, hP1, hoff, hlen, hans1, hok1, hst1⟩
        rw [← HXD.out] at hP1 hans1
        rw [HTX.out.2.2.2.2.1] at hans1
        rw [HTX.out.2.2.2.2.2] at hP1
        have hP1 : m1.P = m.P := hP1
        have hSM : ∀ k, Maps' m k → S k := fun k ⟨x, hx, e⟩ => e ▸ HH.out.hS x hx
        have hl1 : rs1.length = k + 1 := by have h := congrArg List.length hans1; rw [List.length_map, List.length_cons, List.length_map, HP'.out.2.1] at h; exact h
        rw [hl1]
        have hx7 := boxc_off HX6.out hoff (fun e => by have h1 := HSS.out _ (hSM _ e); have h2 := HBXW.out; omega)
        have HX7 := Lib.hid hx7
        have HM1 := Lib.hid (And.intro hm1 (And.intro hsame (And.intro hP1 hlen)))
        have HR1 := Lib.hid (And.intro hans1 (And.intro hok1 (And.intro hst1 hl1)))
        have HO7 := Lib.hid (And.intro (hoff.mono hSM) (show Off S w w7 from (Off.of HB6.out).trans (hoff.mono hSM)))
        have HS7 := Lib.hid (fun k (hk : S k) => Nat.lt_of_lt_of_le (HSS.out k hk) HO7.out.2.size)
        have hf1 := hlen 200000 HF.out
        clear hm1 hP1 hoff hans1 hok1 hst1 hl1 hlen hSM
        have x0 := hx7.cell 0
        have x1 := hx7.cell 1
        have x2 := hx7.cell 2
        simp only [List.getElem?_toArray, List.getElem?_cons_zero, List.getElem?_cons_succ] at x0 x1 x2
        clear hx6 hx7
        go_wp2_with fail
        have hTx7 : ∀ W', Off S w7 W' → TxnAt W' X := fun W' o => HTX.out.1 W' (HO7.out.1.trans o)
        have key := try_yes HM1.out.1 HS7.out X hTx7 HTX.out.2.1 HTX.out.2.2.1 (fun z hz => by have := hf1 z hz; omega) (by rw [hsame.j]; exact HTX.out.2.2.2.1)
        rw [hsame.j, HM1.out.2.2.1, HTX.out.2.2.2.2.1, hsame.p, HXD.out] at key
        refine key.mono ?_; clear key; rintro r w8 ⟨a2, c2, rs2, rfl, hb8, hans2, hok2, hst2⟩
        have hl2 : rs2.length = k + 1 := by have h := congrArg List.length hans2; rw [List.length_map, List.length_cons, List.length_map, HP'.out.2.1] at h; exact h
        rw [hl2]
        have HR2 := Lib.hid (And.intro hans2 (And.intro hok2 (And.intro hst2 hl2)))
        have HB8 := Lib.hid hb8
        have x0 := (HX7.out.below hb8).cell 0
        have x1 := (HX7.out.below hb8).cell 1
        have x2 := (HX7.out.below hb8).cell 2
        simp only [List.getElem?_toArray, List.getElem?_cons_zero, List.getElem?_cons_succ] at x0 x1 x2
        clear hans2 hok2 hst2 hl2 hb8 hTx7
        go_wp2_with fail
        have hTx8 : ∀ W', Off S w8 W' → TxnAt W' X := fun W' o => HTX.out.1 W' (HO7.out.1.trans ((Off.of HB8.out).trans o))
        have key := writes_yes (HM1.out.1.below HB8.out) (fun k hk => Nat.lt_of_lt_of_le (HS7.out k hk) HB8.out.size) X hTx8 HTX.out.2.1 HTX.out.2.2.1 (fun z hz => by have := hf1 z hz; omega) (by rw [hsame.j]; exact HTX.out.2.2.2.1)
        rw [hsame.j, HM1.out.2.2.1, HTX.out.2.2.2.2.2, hsame.p, HXD.out] at key
        refine key.mono ?_; clear key; rintro r w9 ⟨a3, c3, E9, rfl, hb9, hperm, _, _, _⟩
        obtain rfl : E9 = [] := List.map_eq_nil_iff.1 (List.Perm.eq_nil hperm)
        have hN9 : ([] : List WtV).length = 0 := rfl
        rw [hN9]
        have HB9 := Lib.hid (step_below HB8.out hb9)
        have HD9 := Lib.hid hb9
        clear hperm hb9 hTx8 hf1 x0 x1 x2 hN9
        -- what is read
        obtain ⟨y0, hy0⟩ : ∃ y, rs1[0]? = some y := ⟨_, List.getElem?_eq_getElem (by rw [HR1.out.2.2.2]; omega)⟩
        obtain ⟨ab, ao, ha1, _, q1, q2⟩ := (HR1.out.2.2.1.below HB9.out).now 0 y0 hy0
        subst ha1
        have hr0 : resC y0 = (0, (m.P.getD t []).take 64) := by
          have h := congrArg (fun l => l[0]?) HR1.out.1
          simp only [List.getElem?_map, hy0, List.getElem?_cons_zero, Option.map_some] at h
          exact Option.some.inj h
        obtain ⟨q, hq⟩ : ∃ q, q = min n 64 := ⟨_, rfl⟩
        have hmn : min (n : Int) 64 = (q : Int) := by omega
        have hqn : q ≤ n := by omega
        have hqc : q ≤ x.pc := Nat.le_trans hqn (by have := HXG.out.2.1; rw [HN.out] at this; exact this)
        have hqci : (q : Int) ≤ (x.pc : Int) := by omega
        have HQQ := Lib.hid hq
        clear hq
        have HC34 := Lib.hid (fun Y (b : Below w9.heap.size w9 Y) => rsameres_yes (some ⟨ab, ao, none⟩) a2 rs1 rs2 (k + 1) c1 c2 HR1.out.2.2.2 HR2.out.2.2.2 (by omega) HR1.out.2.1 HR2.out.2.1 (HR1.out.1.trans HR2.out.1.symm) Y ((HR1.out.2.2.1.below (step_below HB9.out b)).now) ((HR2.out.2.2.1.below (step_below HD9.out b)).now))
        have HPX := Lib.hid (fun Y (b : Below w9.heap.size w9 Y) => (HST.out Y (HO7.out.2.trans (Off.of (step_below HB9.out b)))))
        have HC73 := Lib.hid (fun Y (b : Below w9.heap.size w9 Y) => rsamepairs_yes y0.pa x.pa y0.P (x.P.take q) y0.P.length q y0.pc x.pc rfl (by rw [List.length_take, HN.out]; omega) (HR1.out.2.1 y0 (List.mem_of_getElem? hy0)).pn (by omega) (HR1.out.2.1 y0 (List.mem_of_getElem? hy0)).ps (fun p hp => okK_pr (HXG.out.1 p (List.mem_of_mem_take hp))) (by
          have h := congrArg Prod.snd hr0
          show y0.P.map prC = _
          rw [show y0.P.map prC = (m.P.getD t []).take 64 from h, ← HP.out, List.map_take, List.take_eq_take_iff, List.length_map, HN.out]; have hq := HQQ.out; omega) Y (q2.below b) ((HPX.out Y b).take q))
        have HC0 := Lib.hid (fun Y (b : Below w9.heap.size w9 Y) => (b.cell (World.block_lt_of_cell? w9 _ q1)).trans q1)
        have HS36 := Lib.hid (fun Y => hi69 Y x.pa n x.pc q hqn (by have := HXG.out.2.1; rw [HN.out] at this; exact this))
        clear q1 q2 hr0 hy0
        go_upto_region 10 with (fail)
        refine wp_region_held_drew (S := (fun X => Below w9.heap.size w9 X)) (by kernel_rfl) ((Below.refl _ _).drew) (fun hHeld => ?_)
        refine tp 0 ?_ rfl (.inl ⟨by rfl, ?_⟩) ?_
        rotate_left
        · intro W hSw; go_simp; try with_reducible rfl
        refine tp 2 ?_ rfl (.inl ⟨by rfl, ?_⟩) ?_
        rotate_left
        · intro W hSw; go_simp; try with_reducible rfl
        refine tp 5 ?_ rfl (.inl ⟨by rfl, ?_⟩) ?_
        rotate_left
        · intro W hSw; go_simp; try with_reducible rfl
        refine wpAnyH_ready (rs := [1]) (by kernel_rfl) (by simp) ?_
        refine AllReadyH.cons (o := { dst := some 61, op := Op.call { callee := Callee.value (Operand.func 12), args := #[Operand.tmp 60], argTypes := #[29] }, type := 3, pos := "law.go:357", after := #[{ on := 0, ground := Ground.data }], guard := none }) rfl (fun K hK => ?_) AllReadyH.nil
        go_simp
        refine (num22_law 0 _).mono ?_; rintro r w0 ⟨rfl, hw0⟩; subst hw0
        go_wp2_with fail
        refine hK.out _ _ hHeld (fun hHeldn => ?_)
        clear hK K hHeld; have hHeld := hHeldn; clear hHeldn
        try simp only [Act.put, List.setIfInBounds_toArray, List.set_cons_zero, List.set_cons_succ]
        refine wpAnyH_ready (rs := [3]) (by kernel_rfl) (by simp) ?_
        refine AllReadyH.cons (o := { dst := some 63, op := Op.call { callee := Callee.value (Operand.func 12), args := #[Operand.tmp 62], argTypes := #[29] }, type := 3, pos := "law.go:357", after := #[{ on := 2, ground := Ground.data }, { on := 1, ground := Ground.chain }], guard := none }) rfl (fun K hK => ?_) AllReadyH.nil
        go_simp
        refine (num22_law 0 _).mono ?_; rintro r w0 ⟨rfl, hw0⟩; subst hw0
        go_wp2_with fail
        refine hK.out _ _ hHeld (fun hHeldn => ?_)
        clear hK K hHeld; have hHeld := hHeldn; clear hHeldn
        try simp only [Act.put, List.setIfInBounds_toArray, List.set_cons_zero, List.set_cons_succ]
        refine tp 4 ?_ rfl (.inl ⟨by rfl, ?_⟩) ?_
        rotate_left
        · intro W hSw; go_simp; try with_reducible rfl
        refine wpAnyH_ready (rs := [6]) (by kernel_rfl) (by simp) ?_
        refine AllReadyH.cons (o := { dst := some 66, op := Op.call { callee := Callee.value (Operand.func 12), args := #[Operand.tmp 65], argTypes := #[29] }, type := 3, pos := "law.go:357", after := #[{ on := 5, ground := Ground.data }, { on := 3, ground := Ground.chain }], guard := none }) rfl (fun K hK => ?_) AllReadyH.nil
        go_simp
        refine (num22_law 0 _).mono ?_; rintro r w0 ⟨rfl, hw0⟩; subst hw0
        go_wp2_with fail
        refine hK.out _ _ hHeld (fun hHeldn => ?_)
        clear hK K hHeld; have hHeld := hHeldn; clear hHeldn
        try simp only [Act.put, List.setIfInBounds_toArray, List.set_cons_zero, List.set_cons_succ]
        refine tp 7 ?_ rfl (.inl ⟨by rfl, ?_⟩) ?_
        rotate_left
        · intro W hSw; go_simp; try with_reducible rfl
        refine tp 8 (.bool false) rfl (.inl ⟨by rfl, ?_⟩) ?_
        · intro W hSw; go_simp; try (first | rfl | (simp; done) | (simp [hmn]; done) | (simp; omega))
        refine tp 9 (.bool false) rfl (.inl ⟨by rfl, ?_⟩) ?_
        · intro W hSw; go_simp; try (first | rfl | (simp; done) | (simp [hmn]; done) | (simp; omega))
        refine tp 10 ?_ rfl (.inl ⟨by rfl, ?_⟩) ?_
        rotate_left
        · intro W hSw; go_simp; try with_reducible rfl
        refine tp 11 ?_ rfl (.inl ⟨by rfl, ?_⟩) ?_
        rotate_left
        · intro W hSw; go_simp; try with_reducible rfl
        refine tp 12 ?_ rfl (.inl ⟨by rfl, ?_⟩) ?_
        rotate_left
        · intro W hSw; go_simp; try with_reducible rfl
        refine tp 13 ?_ rfl (.inl ⟨by rfl, ?_⟩) ?_
        rotate_left
        · intro W hSw; go_simp; try with_reducible rfl
        refine tp 14 (.bool false) rfl (.inl ⟨by rfl, ?_⟩) ?_
        · intro W hSw; go_simp; try (first | rfl | (simp; done) | (simp [hmn]; done) | (simp; omega))
        refine tp 15 ?_ rfl (.inl ⟨by rfl, ?_⟩) ?_
        rotate_left
        · intro W hSw; go_simp; try with_reducible rfl
        refine tp 16 ?_ rfl (.inl ⟨by rfl, ?_⟩) ?_
        rotate_left
        · intro W hSw; go_simp; try with_reducible rfl
        refine wpAnyH_ready (rs := [17]) (by kernel_rfl) (by simp) ?_
        refine AllReadyH.cons (o := { dst := some 77, op := Op.call { callee := Callee.value (Operand.func 34), args := #[Operand.tmp 75, Operand.tmp 76], argTypes := #[59, 59] }, type := 4, pos := "law.go:357", after := #[{ on := 15, ground := Ground.data }, { on := 16, ground := Ground.data }, { on := 14, ground := Ground.chain }, { on := 14, ground := Ground.guard }], guard := some (14, false) }) rfl (fun K hK => ?_) AllReadyH.nil
        go_simp
        refine (HC34.out _ hHeld).mono ?_; rintro r w0 ⟨rfl, hb0⟩
        have HBc := step_below hHeld hb0
        clear hb0
        go_wp2_with fail
        refine hK.out _ _ HBc (fun hHeldn => ?_)
        clear hK K hHeld; have hHeld := hHeldn; clear hHeldn
        clear HBc
        try simp only [Act.put, List.setIfInBounds_toArray, List.set_cons_zero, List.set_cons_succ]
        refine tp 18 ?_ rfl (.inl ⟨by rfl, ?_⟩) ?_
        rotate_left
        · intro W hSw; go_simp; try with_reducible rfl
        refine tp 19 ?_ rfl (.inl ⟨by rfl, ?_⟩) ?_
        rotate_left
        · intro W hSw; go_simp; try with_reducible rfl
        refine tp 20 (.bool false) rfl (.inl ⟨by rfl, ?_⟩) ?_
        · intro W hSw; go_simp; try (first | rfl | (simp; done) | (simp [hmn]; done) | (simp; omega))
        refine tp 21 ?_ rfl (.inl ⟨by rfl, ?_⟩) ?_
        rotate_left
        · intro W hSw; go_simp; try with_reducible rfl
        refine tp 22 ?_ rfl (.inl ⟨by rfl, ?_⟩) ?_
        rotate_left
        · intro W hSw; go_simp; try with_reducible rfl
        refine tp 23 ?_ rfl (.inl ⟨by rfl, ?_⟩) ?_
        rotate_left
        · intro W hSw; go_simp; try with_reducible rfl
        refine tp 24 ?_ rfl (.inl ⟨by rfl, ?_⟩) ?_
        rotate_left
        · intro W hSw; go_simp; try with_reducible rfl
        refine tp 25 (.bool false) rfl (.inl ⟨by rfl, ?_⟩) ?_
        · intro W hSw; go_simp; try (first | rfl | (simp; done) | (simp [hmn]; done) | (simp; omega))
        refine tp 26 ?_ rfl (.inl ⟨by rfl, ?_⟩) ?_
        rotate_left
        · intro W hSw; go_simp; try with_reducible rfl
        refine tp 27 (.bool false) rfl (.inl ⟨by rfl, ?_⟩) ?_
        · intro W hSw; go_simp; try (first | rfl | (simp; done) | (simp [hmn]; done) | (simp; omega))
        refine tp 28 ?_ rfl (.inl ⟨by rfl, ?_⟩) ?_
        rotate_left
        · intro W hSw; go_simp; try with_reducible rfl
        refine tp 29 ?_ rfl (.inl ⟨by rfl, ?_⟩) ?_
        rotate_left
        · intro W hSw; go_simp; try with_reducible rfl
        refine tp 30 ?_ rfl (.inl ⟨by rfl, ?_⟩) ?_
        rotate_left
        · intro W hSw; go_simp; try with_reducible rfl
        refine tp 31 ?_ rfl (.inl ⟨by rfl, ?_⟩) ?_
        rotate_left
        · intro W hSw; have m := HC0.out W hSw; go_simp; try with_reducible rfl
        refine tp 32 ?_ rfl (.inl ⟨by rfl, ?_⟩) ?_
        rotate_left
        · intro W hSw; go_simp; try with_reducible rfl
        refine tp 33 ?_ rfl (.inl ⟨by rfl, ?_⟩) ?_
        rotate_left
        · intro W hSw; go_simp; try with_reducible rfl
        refine tp 34 ?_ rfl (.inl ⟨by rfl, ?_⟩) ?_
        rotate_left
        · intro W hSw; go_simp; try with_reducible rfl
        refine tp 35 (.int .i64 (q : Int)) rfl (.inl ⟨by rfl, ?_⟩) ?_
        · intro W hSw; go_simp; try (first | (rw [hmn]; done) | (simp [hmn]; done) | (rw [← hmn]; rfl))
        refine tp 36 (.slice x.pa q x.pc) rfl (.inl ⟨by rfl, ?_⟩) ?_
        · intro W hSw; have m := HS36.out W; go_simp; try (first | with_reducible rfl | (simp [hqc]; done) | (rw [if_pos hqc]; cases x.pa <;> simp [Addr.add]) | (cases x.pa <;> simp [hqc, Addr.add]))
        refine wpAnyH_ready (rs := [37]) (by kernel_rfl) (by simp) ?_
        refine AllReadyH.cons (o := { dst := some 97, op := Op.call { callee := Callee.value (Operand.func 73), args := #[Operand.tmp 91, Operand.tmp 96], argTypes := #[69, 69] }, type := 4, pos := "law.go:357", after := #[{ on := 31, ground := Ground.data }, { on := 36, ground := Ground.data }, { on := 27, ground := Ground.chain }, { on := 27, ground := Ground.guard }], guard := some (27, false) }) rfl (fun K hK => ?_) AllReadyH.nil
        go_simp
        refine (HC73.out _ hHeld).mono ?_; rintro r w0 ⟨rfl, hb0⟩
        have HBc := step_below hHeld hb0
        clear hb0
        go_wp2_with fail
        refine hK.out _ _ HBc (fun hHeldn => ?_)
        clear hK K hHeld; have hHeld := hHeldn; clear hHeldn
        clear HBc
        try simp only [Act.put, List.setIfInBounds_toArray, List.set_cons_zero, List.set_cons_succ]
        refine tp 38 ?_ rfl (.inl ⟨by rfl, ?_⟩) ?_
        rotate_left
        · intro W hSw; go_simp; try with_reducible rfl
        refine tp 39 ?_ rfl (.inl ⟨by rfl, ?_⟩) ?_
        rotate_left
        · intro W hSw; go_simp; try with_reducible rfl
        refine wpAnyH_done (by kernel_rfl) ?_ _
        skip
        have HBF := Lib.hid hHeld
        clear HC34 HC73 HC0 HS36 hmn
        go_wp2_with fail
        go_loopw [16] (fun i wr => ∃ j : Nat, 1 ≤ j ∧ j ≤ k + 1 ∧ i = .int .i64 (j : Int) ∧ Hid (Below w9.heap.size w9 wr)) (fun i _ => k + 1 - (intOf i).toNat)
        case atStart => exact ⟨1, by omega, by omega, rfl, HBF⟩
        case round =>
          obtain ⟨j, hj1, hj2, rfl, HBW⟩ := hrel
          by_cases hlt2 : j < k + 1
          · have d1 : (j : Int) < ((k + 1 : Nat) : Int) := by omega
            have d1' : (j : Int) < (k : Int) + 1 := by omega
            obtain ⟨j0, hj0⟩ : ∃ j0, j0 = j - 1 := ⟨_, rfl⟩
            have w3 : IntKind.i64.wrap ((j : Int) - 1) = (j0 : Int) := by rw [IntKind.wrap_i64] <;> omega
            obtain ⟨y, hy⟩ : ∃ y, rs1[j]? = some y := ⟨_, List.getElem?_eq_getElem (by rw [HR1.out.2.2.2]; exact hlt2)⟩
            obtain ⟨b9, o9, e9, q0, q1, q2⟩ := (HR1.out.2.2.1.below (step_below HB9.out HBW.out)).now j y hy
            cases e9
            obtain ⟨p, hp⟩ : ∃ p, P'[j0]? = some p := ⟨_, List.getElem?_eq_getElem (by rw [HP'.out.2.1]; omega)⟩
            have hry : resC y = (0, [prC p]) := by
              have h := congrArg (fun l => l[j0 + 1]?) HR1.out.1
              simp only [List.getElem?_map, show j0 + 1 = j by omega, hy, Option.map_some] at h
              rw [show j = j0 + 1 by omega, List.getElem?_cons_succ, List.getElem?_map, hp] at h
              exact Option.some.inj h
            have hxp : x.P[j0]? = some p := by
              have h := hp
              rw [← HP'.out.1, List.getElem?_take] at h
              split at h
              · exact h
              · cases h
            have hye : y.e = 0 := congrArg Prod.fst hry
            rw [hye] at q0
            obtain ⟨am, hm1, hm2, hm3⟩ := mid69 x.pa x.P n x.pc j0 HN.out (by have := (List.getElem?_eq_some_iff.1 hxp).1; rw [HN.out] at this; exact this) (by have := HXG.out.2.1; rw [HN.out] at this; exact this) wr (HPX.out wr HBW.out)
            have hjc : j ≤ x.pc := by have h1 := HXG.out.2.1; have h2 := (List.getElem?_eq_some_iff.1 hxp).1; omega
            have hj1x : j - j0 = 1 := by omega
            have hj0l : j0 ≤ j := by omega
            have HJ0 := Lib.hid hj0
            have HC73 := Lib.hid (fun Y (b : Below wr.heap.size wr Y) => rsamepairs_yes y.pa am y.P ((x.P.drop j0).take 1) y.P.length 1 y.pc (x.pc - j0) rfl (by rw [List.length_take, List.length_drop]; have := (List.getElem?_eq_some_iff.1 hxp).1; omega) (HR1.out.2.1 y (List.mem_of_getElem? hy)).pn (by omega) (HR1.out.2.1 y (List.mem_of_getElem? hy)).ps (fun p hp => okK_pr (HXG.out.1 p (List.mem_of_mem_drop (List.mem_of_mem_take hp)))) (by
              have h := congrArg Prod.snd hry
              rw [show y.P.map prC = [prC p] from h]
              obtain ⟨hl, e⟩ := List.getElem?_eq_some_iff.1 hxp
              rw [List.drop_eq_getElem_cons hl, e]; rfl) Y (q2.below b) (hm2 Y (HPX.out Y (step_below HBW.out b))))
            have HCI := Lib.hid (fun Y (b : Below wr.heap.size wr Y) => (⟨(b.cell (World.block_lt_of_cell? wr _ q0)).trans q0, (b.cell (World.block_lt_of_cell? wr _ q1)).trans q1⟩ : Y.cell? ⟨ab, ao + j * 2, none⟩ = some (.int .i64 0) ∧ Y.cell? ⟨ab, ao + j * 2 + 1, none⟩ = some (.slice y.pa y.P.length y.pc)))
            clear q0 q1 q2 hm1 hm2 hry hxp hye hp hy hj0
            go_upto_region 15 with (fail)
            refine wp_region_held_drew (S := (fun X => Below wr.heap.size wr X)) (by kernel_rfl) ((Below.refl _ _).drew) (fun hHeld => ?_)
            refine tp 0 ?_ rfl (.inl ⟨by rfl, ?_⟩) ?_
            rotate_left
            · intro W hSw; go_simp; try with_reducible rfl
            refine tp 1 ?_ rfl (.inl ⟨by rfl, ?_⟩) ?_
            rotate_left
            · intro W hSw; go_simp; try with_reducible rfl
            refine tp 2 ?_ rfl (.inl ⟨by rfl, ?_⟩) ?_
            rotate_left
            · intro W hSw; go_simp; try with_reducible rfl
            refine tp 3 ?_ rfl (.inl ⟨by rfl, ?_⟩) ?_
            rotate_left
            · intro W hSw; go_simp; try with_reducible rfl
            refine tp 4 ?_ rfl (.inl ⟨by rfl, ?_⟩) ?_
            rotate_left
            · intro W hSw; have m := (HCI.out W hSw).2; go_simp; try with_reducible rfl
            refine tp 5 ?_ rfl (.inl ⟨by rfl, ?_⟩) ?_
            rotate_left
            · intro W hSw; go_simp; try with_reducible rfl
            refine tp 6 ?_ rfl (.inl ⟨by rfl, ?_⟩) ?_
            rotate_left
            · intro W hSw; go_simp; try with_reducible rfl
            refine tp 7 (.int .i64 (j0 : Int)) rfl (.inl ⟨by rfl, ?_⟩) ?_
            · intro W hSw; go_simp; try (first | with_reducible rfl | (rw [w3]; done) | (simp [w3]; done))
            refine tp 8 ?_ rfl (.inl ⟨by rfl, ?_⟩) ?_
            rotate_left
            · intro W hSw; go_simp; try with_reducible rfl
            refine tp 9 (.slice am 1 (x.pc - j0)) rfl (.inl ⟨by rfl, ?_⟩) ?_
            · intro W hSw; go_simp; try (first | with_reducible rfl | (rw [if_pos hjc, hm3, hj1x]; done) | (intro hh; omega))
            refine wpAnyH_ready (rs := [10]) (by kernel_rfl) (by simp) ?_
            refine AllReadyH.cons (o := { dst := some 116, op := Op.call { callee := Callee.value (Operand.func 73), args := #[Operand.tmp 110, Operand.tmp 115], argTypes := #[69, 69] }, type := 4, pos := "law.go:361", after := #[{ on := 4, ground := Ground.data }, { on := 9, ground := Ground.data }], guard := none }) rfl (fun K hK => ?_) AllReadyH.nil
            go_simp
            refine (HC73.out _ hHeld).mono ?_; rintro r w0 ⟨rfl, hb0⟩
            have HBc := step_below hHeld hb0
            clear hb0
            go_wp2_with fail
            refine hK.out _ _ HBc (fun hHeldn => ?_)
            clear hK K hHeld; have hHeld := hHeldn; clear hHeldn
            clear HBc
            try simp only [Act.put, List.setIfInBounds_toArray, List.set_cons_zero, List.set_cons_succ]
            refine tp 11 ?_ rfl (.inl ⟨by rfl, ?_⟩) ?_
            rotate_left
            · intro W hSw; go_simp; try with_reducible rfl
            refine tp 12 (.bool false) rfl (.inl ⟨by rfl, ?_⟩) ?_
            · intro W hSw; go_simp; try (first | rfl | (simp; done) | (simp [hmn]; done) | (simp; omega))
            refine tp 13 ?_ rfl (.inl ⟨by rfl, ?_⟩) ?_
            rotate_left
            · intro W hSw; go_simp; try with_reducible rfl
            refine tp 14 ?_ rfl (.inl ⟨by rfl, ?_⟩) ?_
            rotate_left
            · intro W hSw; go_simp; try with_reducible rfl
            refine tp 15 ?_ rfl (.inl ⟨by rfl, ?_⟩) ?_
            rotate_left
            · intro W hSw; go_simp; try with_reducible rfl
            refine tp 16 ?_ rfl (.inl ⟨by rfl, ?_⟩) ?_
            rotate_left
            · intro W hSw; go_simp; try with_reducible rfl
            refine tp 17 ?_ rfl (.inl ⟨by rfl, ?_⟩) ?_
            rotate_left
            · intro W hSw; have m := (HCI.out W hSw).1; go_simp; try with_reducible rfl
            refine tp 18 (.bool false) rfl (.inl ⟨by rfl, ?_⟩) ?_
            · intro W hSw; go_simp; try (first | rfl | (simp; done) | (simp [hmn]; done) | (simp; omega))
            refine tp 19 ?_ rfl (.inl ⟨by rfl, ?_⟩) ?_
            rotate_left
            · intro W hSw; go_simp; try with_reducible rfl
            refine wpAnyH_done (by kernel_rfl) ?_ _
            skip
            have HBN := Lib.hid (step_below HBW.out hHeld)
            have w4 : IntKind.i64.wrap ((j : Int) + 1) = ((j + 1 : Nat) : Int) := by rw [IntKind.wrap_i64] <;> omega
            clear HC73 HCI
            go_wp2_with fail
            go_roundw
            case rel => exact ⟨j + 1, by omega, by omega, rfl, HBN⟩
            case measure => simp [intOf]; omega
          · have d1 : ¬ (j : Int) < ((k + 1 : Nat) : Int) := by omega
            have d1' : ¬ (j : Int) < (k : Int) + 1 := by omega
            go_wp2_with fail
            go_ret
            refine ⟨rfl, m1, HM1.out.1.below (step_below HB9.out HBW.out), HM1.out.2.1, HM1.out.2.2.1, HO7.out.2.trans (Off.of (step_below HB9.out HBW.out)), HM1.out.2.2.2⟩
    · have d1 : ¬ (k : Int) < (n : Int) := by omega
      have HK15 : x.P.take k = x.P.take 15 := by rw [List.take_of_length_le (by rw [HN.out]; omega), List.take_of_length_le (by rw [HN.out]; omega)]
      have hkn : (x.P.take k) = x.P.take 15 := HK15
      have hkl : (x.P.take k).length = k := by rw [List.length_take, HN.out]; omega
      obtain ⟨P', hP'⟩ : ∃ P', x.P.take k = P' := ⟨_, rfl⟩
      rw [hP'] at HOV hkl hkn
      have HP' := Lib.hid (And.intro hP' (And.intro hkl hkn))
      have hk15 : k ≤ 15 := hk1
      clear hkn hP'
      go_wp2_with fail
      obtain ⟨w6, hw6⟩ : ∃ X, wr.alloc (.cells #[.slice va (k + 1) vc, .bool true, .bool false] 38) = X := ⟨_, rfl⟩
      have hb6 : Below wr.heap.size wr w6 := by rw [← hw6]; exact bl1 _ _
      have hx6 : BoxC w6 wr.heap.size #[.slice va (k + 1) vc, .bool true, .bool false] 38 := by rw [← hw6]; exact BoxC.new _ _ _
      rw [hw6]
      clear hw6
      obtain ⟨bx, hbx⟩ : ∃ b, wr.heap.size = b := ⟨_, rfl⟩
      have HBXW := Lib.hid (show w.heap.size ≤ bx by rw [← hbx]; exact HBR.out.size)
      have HO6 := Lib.hid (own_kept HOV.out hb6)
      have HB6 := Lib.hid (step_below HBR.out hb6)
      rw [hbx] at hx6 ⊢
      clear hbx hb6 HOV HBR
      have HX6 := Lib.hid hx6
      obtain ⟨X, hX⟩ : ∃ X : TxnV, X = ⟨va, k + 1, vc, scT t P', true, false⟩ := ⟨_, rfl⟩
      have hTx : ∀ W', Off S w6 W' → TxnAt W' X := fun W' o => by
        rw [hX]
        refine ⟨ops_own (own_off22 HO6.out o (fun k hk => HSS.out k hk)) (by rw [sc_len, HP'.out.2.1]) ?_, by show (scT t P').length = k + 1; rw [sc_len, HP'.out.2.1]⟩
        have hpr := (HST.out W' ((Off.of HB6.out).trans o))
        rw [← HP'.out.1]
        exact callat_sc t (hpr.take k) (fun p hp => HXG.out.1 p (List.mem_of_mem_take hp))
      have hon : X.on ≤ 1000000 := by rw [hX]; show k + 1 ≤ _; omega
      have hrn : ∀ o ∈ X.ops, o.rn ≤ 1000000 := by rw [hX]; exact rn_sc t P'
      have hmay : mayT m.j X = true := by
        rw [hX]
        have h := may_sc HH.out.ok (show t < m.j.n by rw [← HH.out.len]; exact HT.out) (P := P') (fun p hp => HXG.out.1 p (List.mem_of_mem_take (by rw [HP'.out.1]; exact hp))) (by rw [HP'.out.2.1]; exact hk15) va vc
        rw [HP'.out.2.1] at h
        exact h
      have hrun : runP m.j m.P X.ops = ((0, (m.P.getD t []).take 64) :: P'.map (fun p => (0, [prC p])), []) := by
        rw [hX]
        exact run_sc m.j m.P t (HH.out.tok t).1 P' (fun p hp => by rw [← HP.out]; exact List.mem_map.2 ⟨p, List.mem_of_mem_take (by rw [HP'.out.1]; exact hp), rfl⟩)
      have hans : ansP m.j m.P X = (0, (m.P.getD t []).take 64) :: P'.map (fun p => (0, [prC p])) := congrArg Prod.fst hrun
      have hwrt : wrtP m.j m.P X = [] := by unfold wrtP; rw [hX] at hrun ⊢; show (if false = true then _ else _) = _; rw [if_neg (by decide)]; exact congrArg Prod.snd hrun
      have key := do_yes (HH.out.below HB6.out) (fun k hk => Nat.lt_of_lt_of_le (HSS.out k hk) HB6.out.size) X hTx hon hrn (fun z hz => by have := HF.out z hz; omega) hmay
      have HTX := Lib.hid (And.intro hTx (And.intro hon (And.intro hrn (And.intro hmay (And.intro hans hwrt)))))
      have HXD := Lib.hid hX
      rw [hX] at key
      clear hTx hon hrn hmay hrun hans hwrt hX
      refine key.mono ?_; clear key; rintro r w7 ⟨m1, a1, c1, rs1, rfl, hm1, hsame, hP1, hoff, hlen, hans1, hok1, hst1⟩
      rw [← HXD.out] at hP1 hans1
      rw [HTX.out.2.2.2.2.1] at hans1
      rw [HTX.out.2.2.2.2.2] at hP1
      have hP1 : m1.P = m.P := hP1
      have hSM : ∀ k, Maps' m k → S k := fun k ⟨x, hx, e⟩ => e ▸ HH.out.hS x hx
      have hl1 : rs1.length = k + 1 := by have h := congrArg List.length hans1; rw [List.length_map, List.length_cons, List.length_map, HP'.out.2.1] at h; exact h
      rw [hl1]
      have hx7 := boxc_off HX6.out hoff (fun e => by have h1 := HSS.out _ (hSM _ e); have h2 := HBXW.out; omega)
      have HX7 := Lib.hid hx7
      have HM1 := Lib.hid (And.intro hm1 (And.intro hsame (And.intro hP1 hlen)))
      have HR1 := Lib.hid (And.intro hans1 (And.intro hok1 (And.intro hst1 hl1)))
      have HO7 := Lib.hid (And.intro (hoff.mono hSM) (show Off S w w7 from (Off.of HB6.out).trans (hoff.mono hSM)))
      have HS7 := Lib.hid (fun k (hk : S k) => Nat.lt_of_lt_of_le (HSS.out k hk) HO7.out.2.size)
      have hf1 := hlen 200000 HF.out
      clear hm1 hP1 hoff hans1 hok1 hst1 hl1 hlen hSM
      have x0 := hx7.cell 0
      have x1 := hx7.cell 1
      have x2 := hx7.cell 2
      simp only [List.getElem?_toArray, List.getElem?_cons_zero, List.getElem?_cons_succ] at x0 x1 x2
      clear hx6 hx7
      go_wp2_with fail
      have hTx7 : ∀ W', Off S w7 W' → TxnAt W' X := fun W' o => HTX.out.1 W' (HO7.out.1.trans o)
      have key := try_yes HM1.out.1 HS7.out X hTx7 HTX.out.2.1 HTX.out.2.2.1 (fun z hz => by have := hf1 z hz; omega) (by rw [hsame.j]; exact HTX.out.2.2.2.1)
      rw [hsame.j, HM1.out.2.2.1, HTX.out.2.2.2.2.1, hsame.p, HXD.out] at key
      refine key.mono ?_; clear key; rintro r w8 ⟨a2, c2, rs2, rfl, hb8, hans2, hok2, hst2⟩
      have hl2 : rs2.length = k + 1 := by have h := congrArg List.length hans2; rw [List.length_map, List.length_cons, List.length_map, HP'.out.2.1] at h; exact h
      rw [hl2]
      have HR2 := Lib.hid (And.intro hans2 (And.intro hok2 (And.intro hst2 hl2)))
      have HB8 := Lib.hid hb8
      have x0 := (HX7.out.below hb8).cell 0
      have x1 := (HX7.out.below hb8).cell 1
      have x2 := (HX7.out.below hb8).cell 2
      simp only [List.getElem?_toArray, List.getElem?_cons_zero, List.getElem?_cons_succ] at x0 x1 x2
      clear hans2 hok2 hst2 hl2 hb8 hTx7
      go_wp2_with fail
      have hTx8 : ∀ W', Off S w8 W' → TxnAt W' X := fun W' o => HTX.out.1 W' (HO7.out.1.trans ((Off.of HB8.out).trans o))
      have key := writes_yes (HM1.out.1.below HB8.out) (fun k hk => Nat.lt_of_lt_of_le (HS7.out k hk) HB8.out.size) X hTx8 HTX.out.2.1 HTX.out.2.2.1 (fun z hz => by have := hf1 z hz; omega) (by rw [hsame.j]; exact HTX.out.2.2.2.1)
      rw [hsame.j, HM1.out.2.2.1, HTX.out.2.2.2.2.2, hsame.p, HXD.out] at key
      refine key.mono ?_; clear key; rintro r w9 ⟨a3, c3, E9, rfl, hb9, hperm, _, _, _⟩
      obtain rfl : E9 = [] := List.map_eq_nil_iff.1 (List.Perm.eq_nil hperm)
      have hN9 : ([] : List WtV).length = 0 := rfl
      rw [hN9]
      have HB9 := Lib.hid (step_below HB8.out hb9)
      have HD9 := Lib.hid hb9
      clear hperm hb9 hTx8 hf1 x0 x1 x2 hN9
      -- what is read
      obtain ⟨y0, hy0⟩ : ∃ y, rs1[0]? = some y := ⟨_, List.getElem?_eq_getElem (by rw [HR1.out.2.2.2]; omega)⟩
      obtain ⟨ab, ao, ha1, _, q1, q2⟩ := (HR1.out.2.2.1.below HB9.out).now 0 y0 hy0
      subst ha1
      have hr0 : resC y0 = (0, (m.P.getD t []).take 64) := by
        have h := congrArg (fun l => l[0]?) HR1.out.1
        simp only [List.getElem?_map, hy0, List.getElem?_cons_zero, Option.map_some] at h
        exact Option.some.inj h
      obtain ⟨q, hq⟩ : ∃ q, q = min n 64 := ⟨_, rfl⟩
      have hmn : min (n : Int) 64 = (q : Int) := by omega
      have hqn : q ≤ n := by omega
      have hqc : q ≤ x.pc := Nat.le_trans hqn (by have := HXG.out.2.1; rw [HN.out] at this; exact this)
      have hqci : (q : Int) ≤ (x.pc : Int) := by omega
      have HQQ := Lib.hid hq
      clear hq
      have HC34 := Lib.hid (fun Y (b : Below w9.heap.size w9 Y) => rsameres_yes (some ⟨ab, ao, none⟩) a2 rs1 rs2 (k + 1) c1 c2 HR1.out.2.2.2 HR2.out.2.2.2 (by omega) HR1.out.2.1 HR2.out.2.1 (HR1.out.1.trans HR2.out.1.symm) Y ((HR1.out.2.2.1.below (step_below HB9.out b)).now) ((HR2.out.2.2.1.below (step_below HD9.out b)).now))
      have HPX := Lib.hid (fun Y (b : Below w9.heap.size w9 Y) => (HST.out Y (HO7.out.2.trans (Off.of (step_below HB9.out b)))))
      have HC73 := Lib.hid (fun Y (b : Below w9.heap.size w9 Y) => rsamepairs_yes y0.pa x.pa y0.P (x.P.take q) y0.P.length q y0.pc x.pc rfl (by rw [List.length_take, HN.out]; omega) (HR1.out.2.1 y0 (List.mem_of_getElem? hy0)).pn (by omega) (HR1.out.2.1 y0 (List.mem_of_getElem? hy0)).ps (fun p hp => okK_pr (HXG.out.1 p (List.mem_of_mem_take hp))) (by
        have h := congrArg Prod.snd hr0
        show y0.P.map prC = _
        rw [show y0.P.map prC = (m.P.getD t []).take 64 from h, ← HP.out, List.map_take, List.take_eq_take_iff, List.length_map, HN.out]; have hq := HQQ.out; omega) Y (q2.below b) ((HPX.out Y b).take q))
      have HC0 := Lib.hid (fun Y (b : Below w9.heap.size w9 Y) => (b.cell (World.block_lt_of_cell? w9 _ q1)).trans q1)
      have HS36 := Lib.hid (fun Y => hi69 Y x.pa n x.pc q hqn (by have := HXG.out.2.1; rw [HN.out] at this; exact this))
      clear q1 q2 hr0 hy0
      go_upto_region 10 with (fail)
      refine wp_region_held_drew (S := (fun X => Below w9.heap.size w9 X)) (by kernel_rfl) ((Below.refl _ _).drew) (fun hHeld => ?_)
      refine tp 0 ?_ rfl (.inl ⟨by rfl, ?_⟩) ?_
      rotate_left
      · intro W hSw; go_simp; try with_reducible rfl
      refine tp 2 ?_ rfl (.inl ⟨by rfl, ?_⟩) ?_
      rotate_left
      · intro W hSw; go_simp; try with_reducible rfl
      refine tp 5 ?_ rfl (.inl ⟨by rfl, ?_⟩) ?_
      rotate_left
      · intro W hSw; go_simp; try with_reducible rfl
      refine wpAnyH_ready (rs := [1]) (by kernel_rfl) (by simp) ?_
      refine AllReadyH.cons (o := { dst := some 61, op := Op.call { callee := Callee.value (Operand.func 12), args := #[Operand.tmp 60], argTypes := #[29] }, type := 3, pos := "law.go:357", after := #[{ on := 0, ground := Ground.data }], guard := none }) rfl (fun K hK => ?_) AllReadyH.nil
      go_simp
      refine (num22_law 0 _).mono ?_; rintro r w0 ⟨rfl, hw0⟩; subst hw0
      go_wp2_with fail
      refine hK.out _ _ hHeld (fun hHeldn => ?_)
      clear hK K hHeld; have hHeld := hHeldn; clear hHeldn
      try simp only [Act.put, List.setIfInBounds_toArray, List.set_cons_zero, List.set_cons_succ]
      refine wpAnyH_ready (rs := [3]) (by kernel_rfl) (by simp) ?_
      refine AllReadyH.cons (o := { dst := some 63, op := Op.call { callee := Callee.value (Operand.func 12), args := #[Operand.tmp 62], argTypes := #[29] }, type := 3, pos := "law.go:357", after := #[{ on := 2, ground := Ground.data }, { on := 1, ground := Ground.chain }], guard := none }) rfl (fun K hK => ?_) AllReadyH.nil
      go_simp
      refine (num22_law 0 _).mono ?_; rintro r w0 ⟨rfl, hw0⟩; subst hw0
      go_wp2_with fail
      refine hK.out _ _ hHeld (fun hHeldn => ?_)
      clear hK K hHeld; have hHeld := hHeldn; clear hHeldn
      try simp only [Act.put, List.setIfInBounds_toArray, List.set_cons_zero, List.set_cons_succ]
      refine tp 4 ?_ rfl (.inl ⟨by rfl, ?_⟩) ?_
      rotate_left
      · intro W hSw; go_simp; try with_reducible rfl
      refine wpAnyH_ready (rs := [6]) (by kernel_rfl) (by simp) ?_
      refine AllReadyH.cons (o := { dst := some 66, op := Op.call { callee := Callee.value (Operand.func 12), args := #[Operand.tmp 65], argTypes := #[29] }, type := 3, pos := "law.go:357", after := #[{ on := 5, ground := Ground.data }, { on := 3, ground := Ground.chain }], guard := none }) rfl (fun K hK => ?_) AllReadyH.nil
      go_simp
      refine (num22_law 0 _).mono ?_; rintro r w0 ⟨rfl, hw0⟩; subst hw0
      go_wp2_with fail
      refine hK.out _ _ hHeld (fun hHeldn => ?_)
      clear hK K hHeld; have hHeld := hHeldn; clear hHeldn
      try simp only [Act.put, List.setIfInBounds_toArray, List.set_cons_zero, List.set_cons_succ]
      refine tp 7 ?_ rfl (.inl ⟨by rfl, ?_⟩) ?_
      rotate_left
      · intro W hSw; go_simp; try with_reducible rfl
      refine tp 8 (.bool false) rfl (.inl ⟨by rfl, ?_⟩) ?_
      · intro W hSw; go_simp; try (first | rfl | (simp; done) | (simp [hmn]; done) | (simp; omega))
      refine tp 9 (.bool false) rfl (.inl ⟨by rfl, ?_⟩) ?_
      · intro W hSw; go_simp; try (first | rfl | (simp; done) | (simp [hmn]; done) | (simp; omega))
      refine tp 10 ?_ rfl (.inl ⟨by rfl, ?_⟩) ?_
      rotate_left
      · intro W hSw; go_simp; try with_reducible rfl
      refine tp 11 ?_ rfl (.inl ⟨by rfl, ?_⟩) ?_
      rotate_left
      · intro W hSw; go_simp; try with_reducible rfl
      refine tp 12 ?_ rfl (.inl ⟨by rfl, ?_⟩) ?_
      rotate_left
      · intro W hSw; go_simp; try with_reducible rfl
      refine tp 13 ?_ rfl (.inl ⟨by rfl, ?_⟩) ?_
      rotate_left
      · intro W hSw; go_simp; try with_reducible rfl
      refine tp 14 (.bool false) rfl (.inl ⟨by rfl, ?_⟩) ?_
      · intro W hSw; go_simp; try (first | rfl | (simp; done) | (simp [hmn]; done) | (simp; omega))
      refine tp 15 ?_ rfl (.inl ⟨by rfl, ?_⟩) ?_
      rotate_left
      · intro W hSw; go_simp; try with_reducible rfl
      refine tp 16 ?_ rfl (.inl ⟨by rfl, ?_⟩) ?_
      rotate_left
      · intro W hSw; go_simp; try with_reducible rfl
      refine wpAnyH_ready (rs := [17]) (by kernel_rfl) (by simp) ?_
      refine AllReadyH.cons (o := { dst := some 77, op := Op.call { callee := Callee.value (Operand.func 34), args := #[Operand.tmp 75, Operand.tmp 76], argTypes := #[59, 59] }, type := 4, pos := "law.go:357", after := #[{ on := 15, ground := Ground.data }, { on := 16, ground := Ground.data }, { on := 14, ground := Ground.chain }, { on := 14, ground := Ground.guard }], guard := some (14, false) }) rfl (fun K hK => ?_) AllReadyH.nil
      go_simp
      refine (HC34.out _ hHeld).mono ?_; rintro r w0 ⟨rfl, hb0⟩
      have HBc := step_below hHeld hb0
      clear hb0
      go_wp2_with fail
      refine hK.out _ _ HBc (fun hHeldn => ?_)
      clear hK K hHeld; have hHeld := hHeldn; clear hHeldn
      clear HBc
      try simp only [Act.put, List.setIfInBounds_toArray, List.set_cons_zero, List.set_cons_succ]
      refine tp 18 ?_ rfl (.inl ⟨by rfl, ?_⟩) ?_
      rotate_left
      · intro W hSw; go_simp; try with_reducible rfl
      refine tp 19 ?_ rfl (.inl ⟨by rfl, ?_⟩) ?_
      rotate_left
      · intro W hSw; go_simp; try with_reducible rfl
      refine tp 20 (.bool false) rfl (.inl ⟨by rfl, ?_⟩) ?_
      · intro W hSw; go_simp; try (first | rfl | (simp; done) | (simp [hmn]; done) | (simp; omega))
      refine tp 21 ?_ rfl (.inl ⟨by rfl, ?_⟩) ?_
      rotate_left
      · intro W hSw; go_simp; try with_reducible rfl
      refine tp 22 ?_ rfl (.inl ⟨by rfl, ?_⟩) ?_
      rotate_left
      · intro W hSw; go_simp; try with_reducible rfl
      refine tp 23 ?_ rfl (.inl ⟨by rfl, ?_⟩) ?_
      rotate_left
      · intro W hSw; go_simp; try with_reducible rfl
      refine tp 24 ?_ rfl (.inl ⟨by rfl, ?_⟩) ?_
      rotate_left
      · intro W hSw; go_simp; try with_reducible rfl
      refine tp 25 (.bool false) rfl (.inl ⟨by rfl, ?_⟩) ?_
      · intro W hSw; go_simp; try (first | rfl | (simp; done) | (simp [hmn]; done) | (simp; omega))
      refine tp 26 ?_ rfl (.inl ⟨by rfl, ?_⟩) ?_
      rotate_left
      · intro W hSw; go_simp; try with_reducible rfl
      refine tp 27 (.bool false) rfl (.inl ⟨by rfl, ?_⟩) ?_
      · intro W hSw; go_simp; try (first | rfl | (simp; done) | (simp [hmn]; done) | (simp; omega))
      refine tp 28 ?_ rfl (.inl ⟨by rfl, ?_⟩) ?_
      rotate_left
      · intro W hSw; go_simp; try with_reducible rfl
      refine tp 29 ?_ rfl (.inl ⟨by rfl, ?_⟩) ?_
      rotate_left
      · intro W hSw; go_simp; try with_reducible rfl
      refine tp 30 ?_ rfl (.inl ⟨by rfl, ?_⟩) ?_
      rotate_left
      · intro W hSw; go_simp; try with_reducible rfl
      refine tp 31 ?_ rfl (.inl ⟨by rfl, ?_⟩) ?_
      rotate_left
      · intro W hSw; have m := HC0.out W hSw; go_simp; try with_reducible rfl
      refine tp 32 ?_ rfl (.inl ⟨by rfl, ?_⟩) ?_
      rotate_left
      · intro W hSw; go_simp; try with_reducible rfl
      refine tp 33 ?_ rfl (.inl ⟨by rfl, ?_⟩) ?_
      rotate_left
      · intro W hSw; go_simp; try with_reducible rfl
      refine tp 34 ?_ rfl (.inl ⟨by rfl, ?_⟩) ?_
      rotate_left
      · intro W hSw; go_simp; try with_reducible rfl
      refine tp 35 (.int .i64 (q : Int)) rfl (.inl ⟨by rfl, ?_⟩) ?_
      · intro W hSw; go_simp; try (first | (rw [hmn]; done) | (simp [hmn]; done) | (rw [← hmn]; rfl))
      refine tp 36 (.slice x.pa q x.pc) rfl (.inl ⟨by rfl, ?_⟩) ?_
      · intro W hSw; have m := HS36.out W; go_simp; try (first | with_reducible rfl | (simp [hqc]; done) | (rw [if_pos hqc]; cases x.pa <;> simp [Addr.add]) | (cases x.pa <;> simp [hqc, Addr.add]))
      refine wpAnyH_ready (rs := [37]) (by kernel_rfl) (by simp) ?_
      refine AllReadyH.cons (o := { dst := some 97, op := Op.call { callee := Callee.value (Operand.func 73), args := #[Operand.tmp 91, Operand.tmp 96], argTypes := #[69, 69] }, type := 4, pos := "law.go:357", after := #[{ on := 31, ground := Ground.data }, { on := 36, ground := Ground.data }, { on := 27, ground := Ground.chain }, { on := 27, ground := Ground.guard }], guard := some (27, false) }) rfl (fun K hK => ?_) AllReadyH.nil
      go_simp
      refine (HC73.out _ hHeld).mono ?_; rintro r w0 ⟨rfl, hb0⟩
      have HBc := step_below hHeld hb0
      clear hb0
      go_wp2_with fail
      refine hK.out _ _ HBc (fun hHeldn => ?_)
      clear hK K hHeld; have hHeld := hHeldn; clear hHeldn
      clear HBc
      try simp only [Act.put, List.setIfInBounds_toArray, List.set_cons_zero, List.set_cons_succ]
      refine tp 38 ?_ rfl (.inl ⟨by rfl, ?_⟩) ?_
      rotate_left
      · intro W hSw; go_simp; try with_reducible rfl
      refine tp 39 ?_ rfl (.inl ⟨by rfl, ?_⟩) ?_
      rotate_left
      · intro W hSw; go_simp; try with_reducible rfl
      refine wpAnyH_done (by kernel_rfl) ?_ _
      skip
      have HBF := Lib.hid hHeld
      clear HC34 HC73 HC0 HS36 hmn
      go_wp2_with fail
      go_loopw [16] (fun i wr => ∃ j : Nat, 1 ≤ j ∧ j ≤ k + 1 ∧ i = .int .i64 (j : Int) ∧ Hid (Below w9.heap.size w9 wr)) (fun i _ => k + 1 - (intOf i).toNat)
      case atStart => exact ⟨1, by omega, by omega, rfl, HBF⟩
      case round =>
        obtain ⟨j, hj1, hj2, rfl, HBW⟩ := hrel
        by_cases hlt2 : j < k + 1
        · have d1 : (j : Int) < ((k + 1 : Nat) : Int) := by omega
          have d1' : (j : Int) < (k : Int) + 1 := by omega
          obtain ⟨j0, hj0⟩ : ∃ j0, j0 = j - 1 := ⟨_, rfl⟩
          have w3 : IntKind.i64.wrap ((j : Int) - 1) = (j0 : Int) := by rw [IntKind.wrap_i64] <;> omega
          obtain ⟨y, hy⟩ : ∃ y, rs1[j]? = some y := ⟨_, List.getElem?_eq_getElem (by rw [HR1.out.2.2.2]; exact hlt2)⟩
          obtain ⟨b9, o9, e9, q0, q1, q2⟩ := (HR1.out.2.2.1.below (step_below HB9.out HBW.out)).now j y hy
          cases e9
          obtain ⟨p, hp⟩ : ∃ p, P'[j0]? = some p := ⟨_, List.getElem?_eq_getElem (by rw [HP'.out.2.1]; omega)⟩
          have hry : resC y = (0, [prC p]) := by
            have h := congrArg (fun l => l[j0 + 1]?) HR1.out.1
            simp only [List.getElem?_map, show j0 + 1 = j by omega, hy, Option.map_some] at h
            rw [show j = j0 + 1 by omega, List.getElem?_cons_succ, List.getElem?_map, hp] at h
            exact Option.some.inj h
          have hxp : x.P[j0]? = some p := by
            have h := hp
            rw [← HP'.out.1, List.getElem?_take] at h
            split at h
            · exact h
            · cases h
          have hye : y.e = 0 := congrArg Prod.fst hry
          rw [hye] at q0
          obtain ⟨am, hm1, hm2, hm3⟩ := mid69 x.pa x.P n x.pc j0 HN.out (by have := (List.getElem?_eq_some_iff.1 hxp).1; rw [HN.out] at this; exact this) (by have := HXG.out.2.1; rw [HN.out] at this; exact this) wr (HPX.out wr HBW.out)
          have hjc : j ≤ x.pc := by have h1 := HXG.out.2.1; have h2 := (List.getElem?_eq_some_iff.1 hxp).1; omega
          have hj1x : j - j0 = 1 := by omega
          have hj0l : j0 ≤ j := by omega
          have HJ0 := Lib.hid hj0
          have HC73 := Lib.hid (fun Y (b : Below wr.heap.size wr Y) => rsamepairs_yes y.pa am y.P ((x.P.drop j0).take 1) y.P.length 1 y.pc (x.pc - j0) rfl (by rw [List.length_take, List.length_drop]; have := (List.getElem?_eq_some_iff.1 hxp).1; omega) (HR1.out.2.1 y (List.mem_of_getElem? hy)).pn (by omega) (HR1.out.2.1 y (List.mem_of_getElem? hy)).ps (fun p hp => okK_pr (HXG.out.1 p (List.mem_of_mem_drop (List.mem_of_mem_take hp)))) (by
            have h := congrArg Prod.snd hry
            rw [show y.P.map prC = [prC p] from h]
            obtain ⟨hl, e⟩ := List.getElem?_eq_some_iff.1 hxp
            rw [List.drop_eq_getElem_cons hl, e]; rfl) Y (q2.below b) (hm2 Y (HPX.out Y (step_below HBW.out b))))
          have HCI := Lib.hid (fun Y (b : Below wr.heap.size wr Y) => (⟨(b.cell (World.block_lt_of_cell? wr _ q0)).trans q0, (b.cell (World.block_lt_of_cell? wr _ q1)).trans q1⟩ : Y.cell? ⟨ab, ao + j * 2, none⟩ = some (.int .i64 0) ∧ Y.cell? ⟨ab, ao + j * 2 + 1, none⟩ = some (.slice y.pa y.P.length y.pc)))
          clear q0 q1 q2 hm1 hm2 hry hxp hye hp hy hj0
          go_upto_region 15 with (fail)
          refine wp_region_held_drew (S := (fun X => Below wr.heap.size wr X)) (by kernel_rfl) ((Below.refl _ _).drew) (fun hHeld => ?_)
          refine tp 0 ?_ rfl (.inl ⟨by rfl, ?_⟩) ?_
          rotate_left
          · intro W hSw; go_simp; try with_reducible rfl
          refine tp 1 ?_ rfl (.inl ⟨by rfl, ?_⟩) ?_
          rotate_left
          · intro W hSw; go_simp; try with_reducible rfl
          refine tp 2 ?_ rfl (.inl ⟨by rfl, ?_⟩) ?_
          rotate_left
          · intro W hSw; go_simp; try with_reducible rfl
          refine tp 3 ?_ rfl (.inl ⟨by rfl, ?_⟩) ?_
          rotate_left
          · intro W hSw; go_simp; try with_reducible rfl
          refine tp 4 ?_ rfl (.inl ⟨by rfl, ?_⟩) ?_
          rotate_left
          · intro W hSw; have m := (HCI.out W hSw).2; go_simp; try with_reducible rfl
          refine tp 5 ?_ rfl (.inl ⟨by rfl, ?_⟩) ?_
          rotate_left
          · intro W hSw; go_simp; try with_reducible rfl
          refine tp 6 ?_ rfl (.inl ⟨by rfl, ?_⟩) ?_
          rotate_left
          · intro W hSw; go_simp; try with_reducible rfl
          refine tp 7 (.int .i64 (j0 : Int)) rfl (.inl ⟨by rfl, ?_⟩) ?_
          · intro W hSw; go_simp; try (first | with_reducible rfl | (rw [w3]; done) | (simp [w3]; done))
          refine tp 8 ?_ rfl (.inl ⟨by rfl, ?_⟩) ?_
          rotate_left
          · intro W hSw; go_simp; try with_reducible rfl
          refine tp 9 (.slice am 1 (x.pc - j0)) rfl (.inl ⟨by rfl, ?_⟩) ?_
          · intro W hSw; go_simp; try (first | with_reducible rfl | (rw [if_pos hjc, hm3, hj1x]; done) | (intro hh; omega))
          refine wpAnyH_ready (rs := [10]) (by kernel_rfl) (by simp) ?_
          refine AllReadyH.cons (o := { dst := some 116, op := Op.call { callee := Callee.value (Operand.func 73), args := #[Operand.tmp 110, Operand.tmp 115], argTypes := #[69, 69] }, type := 4, pos := "law.go:361", after := #[{ on := 4, ground := Ground.data }, { on := 9, ground := Ground.data }], guard := none }) rfl (fun K hK => ?_) AllReadyH.nil
          go_simp
          refine (HC73.out _ hHeld).mono ?_; rintro r w0 ⟨rfl, hb0⟩
          have HBc := step_below hHeld hb0
          clear hb0
          go_wp2_with fail
          refine hK.out _ _ HBc (fun hHeldn => ?_)
          clear hK K hHeld; have hHeld := hHeldn; clear hHeldn
          clear HBc
          try simp only [Act.put, List.setIfInBounds_toArray, List.set_cons_zero, List.set_cons_succ]
          refine tp 11 ?_ rfl (.inl ⟨by rfl, ?_⟩) ?_
          rotate_left
          · intro W hSw; go_simp; try with_reducible rfl
          refine tp 12 (.bool false) rfl (.inl ⟨by rfl, ?_⟩) ?_
          · intro W hSw; go_simp; try (first | rfl | (simp; done) | (simp [hmn]; done) | (simp; omega))
          refine tp 13 ?_ rfl (.inl ⟨by rfl, ?_⟩) ?_
          rotate_left
          · intro W hSw; go_simp; try with_reducible rfl
          refine tp 14 ?_ rfl (.inl ⟨by rfl, ?_⟩) ?_
          rotate_left
          · intro W hSw; go_simp; try with_reducible rfl
          refine tp 15 ?_ rfl (.inl ⟨by rfl, ?_⟩) ?_
          rotate_left
          · intro W hSw; go_simp; try with_reducible rfl
          refine tp 16 ?_ rfl (.inl ⟨by rfl, ?_⟩) ?_
          rotate_left
          · intro W hSw; go_simp; try with_reducible rfl
          refine tp 17 ?_ rfl (.inl ⟨by rfl, ?_⟩) ?_
          rotate_left
          · intro W hSw; have m := (HCI.out W hSw).1; go_simp; try with_reducible rfl
          refine tp 18 (.bool false) rfl (.inl ⟨by rfl, ?_⟩) ?_
          · intro W hSw; go_simp; try (first | rfl | (simp; done) | (simp [hmn]; done) | (simp; omega))
          refine tp 19 ?_ rfl (.inl ⟨by rfl, ?_⟩) ?_
          rotate_left
          · intro W hSw; go_simp; try with_reducible rfl
          refine wpAnyH_done (by kernel_rfl) ?_ _
          skip
          have HBN := Lib.hid (step_below HBW.out hHeld)
          have w4 : IntKind.i64.wrap ((j : Int) + 1) = ((j + 1 : Nat) : Int) := by rw [IntKind.wrap_i64] <;> omega
          clear HC73 HCI
          go_wp2_with fail
          go_roundw
          case rel => exact ⟨j + 1, by omega, by omega, rfl, HBN⟩
          case measure => simp [intOf]; omega
        · have d1 : ¬ (j : Int) < ((k + 1 : Nat) : Int) := by omega
          have d1' : ¬ (j : Int) < (k : Int) + 1 := by omega
          go_wp2_with fail
          go_ret
          refine ⟨rfl, m1, HM1.out.1.below (step_below HB9.out HBW.out), HM1.out.2.1, HM1.out.2.2.1, HO7.out.2.trans (Off.of (step_below HB9.out HBW.out)), HM1.out.2.2.2⟩
end Go.Proofs.YthmofoldmdafoaaGreat
namespace Go.Proofs.YthmofoldmdafoaaGreat
open Go.ChangeShapes Go.WideShapes Go.ChangeAt Go.RowKit Go.Maps Go.Shelf
set_option linter.unusedVariables false
set_option linter.unusedSimpArgs false

/-- How New ends, whatever is changed elsewhere. -/
def NewRT (T : Nat → Prop) (w : World) (j : Job) (r : Ending) (w' : World) : Prop :=
  if okB j then ∃ (S : Nat → Prop) (m : Md), r = .returned (.tuple #[.pointer (some ⟨m.p, 0, none⟩), .int .i64 0]) ∧ Below w.heap.size w w' ∧ MdR S w' m ∧ (∀ k, T k → S k) ∧ (∀ k, S k → T k ∨ w.heap.size ≤ k) ∧ (∀ k, S k → k < w'.heap.size) ∧ (∀ x ∈ m.tabs, w.heap.size ≤ x.1) ∧ (∃ a c, m.j = { j with a := a, cap := c }) ∧ (∀ x ∈ m.tabs, x.2 = [])
  else r = .returned (.tuple #[.pointer none, .int .i64 2]) ∧ Below w.heap.size w w'
set_option maxRecDepth 100000 in
set_option maxHeartbeats 4000000 in
/-- New (10), whatever is changed elsewhere. -/
theorem new_lawT (T : Nat → Prop) (j : Job) (w : World) (hT : ∀ k, T k → k < w.heap.size) (hj : JobAt w j) : Calls Tryz.prog 10 #[.agg #[.int .i64 j.w, .int .i64 j.l, .int .i64 j.d, .int .i64 j.c, .int .i64 j.k, .int .i64 j.e, .slice j.a j.n j.cap]] w (NewRT T w j) := by
  obtain ⟨w1, hw1⟩ : ∃ W, W = w.alloc (.cells #[.int .i64 j.w, .int .i64 j.l, .int .i64 j.d, .int .i64 j.c, .int .i64 j.k, .int .i64 j.e, .slice j.a j.n j.cap] 24) := ⟨_, rfl⟩
  have hb1 : Below w.heap.size w w1 := by rw [hw1]; exact bl1 _ _
  have hx1 : BoxC w1 w.heap.size #[.int .i64 j.w, .int .i64 j.l, .int .i64 j.d, .int .i64 j.c, .int .i64 j.k, .int .i64 j.e, .slice j.a j.n j.cap] 24 := by rw [hw1]; exact BoxC.new _ _ _
  have HJ := Lib.hid hj
  have hli : (j.n : Int) ≤ 1000000 := by have := hj.le; omega
  have HCK := Lib.hid (check_law j w1 (hj.below hb1))
  have HB1 := Lib.hid hb1
  have HX1 := Lib.hid hx1
  have c0 := hx1.cell 0
  have c1 := hx1.cell 1
  have c2 := hx1.cell 2
  have c3 := hx1.cell 3
  have c4 := hx1.cell 4
  have c5 := hx1.cell 5
  have c6 := hx1.cell 6
  simp only [List.getElem?_toArray, List.getElem?_cons_zero, List.getElem?_cons_succ] at c0 c1 c2 c3 c4 c5 c6
  clear hj hb1 hx1
  go_enter Tryz.func10, Tryz.ntmps10
  go_upto_region 1 with (fail)
  rw [← hw1]
  clear hw1
  go_wp2_with fail
  clear c0 c1 c2 c3 c4 c5 c6
  refine HCK.out.mono ?_; rintro r w2 ⟨rfl, hb2⟩
  have HB2 := Lib.hid (HB1.out.trans (hb2.mono HB1.out.size))
  have hx2 := HX1.out.below hb2
  have HX2 := Lib.hid hx2
  have c6 := hx2.cell 6
  simp only [List.getElem?_toArray, List.getElem?_cons_zero, List.getElem?_cons_succ] at c6
  clear hb2 hx2
  cases hok : okB j with
  | false =>
    have hv : chkV j = 2 := by unfold chkV; rw [hok]; rfl
    have HR := Lib.hid (fun r w' (hh : r = .returned (.tuple #[.pointer none, .int .i64 2]) ∧ Below w.heap.size w w') => (by unfold NewRT; rw [hok]; exact hh : NewRT T w j r w'))
    rw [hv]
    clear hok hv c6
    go_wp2_with fail
    go_ret2
    exact HR.out _ _ ⟨rfl, HB2.out⟩
  | true =>
    have hv : chkV j = 0 := by unfold chkV; rw [hok]; rfl
    have HOK := Lib.hid hok
    have HR := Lib.hid (fun r w' (hh : ∃ (S : Nat → Prop) (m : Md), r = .returned (.tuple #[.pointer (some ⟨m.p, 0, none⟩), .int .i64 0]) ∧ Below w.heap.size w w' ∧ MdR S w' m ∧ (∀ k, T k → S k) ∧ (∀ k, S k → T k ∨ w.heap.size ≤ k) ∧ (∀ k, S k → k < w'.heap.size) ∧ (∀ x ∈ m.tabs, w.heap.size ≤ x.1) ∧ (∃ a c, m.j = { j with a := a, cap := c }) ∧ (∀ x ∈ m.tabs, x.2 = [])) => (by unfold NewRT; rw [hok]; exact hh : NewRT T w j r w'))
    have hn4 := okB_n hok
    have HN4 := Lib.hid hn4
    rw [hv]
    clear hok hv
    have HCL := Lib.hid (iclone_law j.a j.T j.n j.cap HJ.out.len HJ.out.le w2 (HJ.out.ls.below HB2.out))
    go_wp2_with fail
    refine HCL.out.mono ?_; rintro r w3 ⟨⟨a1, c1, rfl, ho3⟩, hb3⟩
    have HO3 := Lib.hid ho3
    have HB3 := Lib.hid (HB2.out.trans (hb3.mono HB2.out.size))
    have HS23 := Lib.hid (And.intro HX2.out.lt hb3.size)
    have hx3 := HX2.out.below hb3
    have HX3 := Lib.hid hx3
    clear c6 ho3 hb3
    have c6 := hx3.cell 6
    have f6 := hx3.frozen 6
    simp only [List.getElem?_toArray, List.getElem?_cons_zero, List.getElem?_cons_succ] at c6
    clear hx3
    go_upto_region 4 with (fail)
    clear c6 f6
    have o4 : Off (fun k => k = w.heap.size) w3 (w3.setCell ⟨w.heap.size, 6, none⟩ (.slice a1 j.n c1)) := Off.set (S := fun k => k = w.heap.size) (Off.refl _ w3) ⟨w.heap.size, 6, none⟩ rfl _
    have hx4 : BoxC (w3.setCell ⟨w.heap.size, 6, none⟩ (.slice a1 j.n c1)) w.heap.size #[.int .i64 j.w, .int .i64 j.l, .int .i64 j.d, .int .i64 j.c, .int .i64 j.k, .int .i64 j.e, .slice a1 j.n c1] 24 := heap_setCell_same w3 w.heap.size 6 _ 24 _ HX3.out
    have hb4 : Below w.heap.size w (w3.setCell ⟨w.heap.size, 6, none⟩ (.slice a1 j.n c1)) := HB3.out.setCell (Nat.le_refl _) _
    generalize w3.setCell ⟨w.heap.size, 6, none⟩ (.slice a1 j.n c1) = w4 at o4 hx4 hb4 ⊢
    have ho4 := own_off22 HO3.out o4 (fun k hk => by cases hk; exact HS23.out.1)
    have HO4 := Lib.hid ho4
    have HB4 := Lib.hid hb4
    have HX4 := Lib.hid hx4
    have HS4 := Lib.hid (Nat.le_trans HS23.out.2 o4.size)
    have c0 := hx4.cell 0
    have c1' := hx4.cell 1
    have c2 := hx4.cell 2
    have c3 := hx4.cell 3
    have c4 := hx4.cell 4
    have c5 := hx4.cell 5
    have c6 := hx4.cell 6
    simp only [List.getElem?_toArray, List.getElem?_cons_zero, List.getElem?_cons_succ] at c0 c1' c2 c3 c4 c5 c6
    clear o4 hx4 hb4 ho4
    go_upto_region 5 with (fail)
    clear c0 c1' c2 c3 c4 c5 c6
    have hb5 : Below w4.heap.size w4 (w4.alloc (.cells #[.int .i64 j.w, .int .i64 j.l, .int .i64 j.d, .int .i64 j.c, .int .i64 j.k, .int .i64 j.e, .slice a1 j.n c1, .slice none 0 0] 89)) := bl1 _ _
    have hx5 : BoxC (w4.alloc (.cells #[.int .i64 j.w, .int .i64 j.l, .int .i64 j.d, .int .i64 j.c, .int .i64 j.k, .int .i64 j.e, .slice a1 j.n c1, .slice none 0 0] 89)) w4.heap.size #[.int .i64 j.w, .int .i64 j.l, .int .i64 j.d, .int .i64 j.c, .int .i64 j.k, .int .i64 j.e, .slice a1 j.n c1, .slice none 0 0] 89 := BoxC.new _ _ _
    generalize w4.alloc (.cells #[.int .i64 j.w, .int .i64 j.l, .int .i64 j.d, .int .i64 j.c, .int .i64 j.k, .int .i64 j.e, .slice a1 j.n c1, .slice none 0 0] 89) = w5 at hb5 hx5 ⊢
    obtain ⟨p, hp⟩ : ∃ p, w4.heap.size = p := ⟨_, rfl⟩
    have HPW := Lib.hid (show w.heap.size < p by rw [← hp]; exact HX4.out.lt)
    have HP4 := Lib.hid hp
    have HB5 := Lib.hid (HB4.out.trans (hb5.mono HB4.out.size))
    have HO5 := Lib.hid (own_kept HO4.out hb5)
    rw [hp] at hx5 ⊢
    have HX5 := Lib.hid hx5
    have hxx := HX4.out.below hb5
    have c6 := hxx.cell 6
    simp only [List.getElem?_toArray, List.getElem?_cons_zero, List.getElem?_cons_succ] at c6
    clear hb5 hx5 hp hxx
    go_wp2_with fail
    clear c6
    go_loopw [18] (fun i wr => ∃ (k : Nat) (B : List Nat) (wv : Value), k ≤ j.n ∧ i = .int .i64 (k : Int) ∧ Hid (BoxC wr p #[.int .i64 j.w, .int .i64 j.l, .int .i64 j.d, .int .i64 j.c, .int .i64 j.k, .int .i64 j.e, .slice a1 j.n c1, wv] 89) ∧ Hid (B.length = k) ∧ Hid (wr.ownsRow w.heap.size 90 1 wv k (cellsOf bcl B)) ∧ Hid (∀ b ∈ B, Mp wr b RV.v [] ∧ w.heap.size ≤ b) ∧ Hid B.Nodup ∧ Hid (wr.ownsRow w2.heap.size 3 1 (.slice a1 j.n c1) j.n (iv .i64 j.T)) ∧ Hid (Below w.heap.size w wr)) (fun i _ => j.n - (intOf i).toNat)
    case atStart => exact ⟨0, [], .slice none 0 0, by omega, rfl, HX5, Lib.hid rfl, Lib.hid (World.ownsRow_nil _ _ _ _), Lib.hid (fun b hb => by simp at hb), Lib.hid List.nodup_nil, HO5, HB5⟩
    case round =>
      obtain ⟨k, B, wv, hk, rfl, HXP, HN, HOW, HMP, HND, HJO, HB⟩ := hrel
      by_cases hlt : k < j.n
      · have d1 : (k : Int) < (j.n : Int) := by omega
        have hmm := @run_makeMap Tryz.prog
        have hnb : ¬ wv.ownBlock = some p := fun e => by
          obtain ⟨_, _, cur, hb2⟩ := own_blk HOW.out e
          exact box_ne hb2 HXP.out (by decide) rfl
        have HBP := Lib.hid (fun X (o : Off (fun k => wv.ownBlock = some k) wr X) => o.box HXP.out hnb)
        have HPX := Lib.hid (fun X (o : Off (fun k => wv.ownBlock = some k) wr X) => (by rw [(HBP.out X o).cell]; rfl : X.cell? ⟨p, 7, none⟩ = some wv))
        clear hnb
        have x7 := HPX.out wr (Off.refl _ _)
        have HB6 := Lib.hid (step_below (bl1 wr (.map #[] 0)) (bl1 (wr.alloc (.map #[] 0)) (.cells #[.map (some wr.heap.size)] 90)))
        have HCN := Lib.hid (cells_new (wr.alloc (.map #[] 0)) #[.map (some wr.heap.size)] 90 [.map (some wr.heap.size)] rfl)
        rw [World.size_alloc] at HCN
        go_upto_region 8 with (at_builtin; refine append_cells ae_map rfl _ _ rfl w.heap.size wv k (cellsOf bcl B) rfl (own_kept HOW.out HB6.out) ⟨wr.heap.size + 1, 0, none⟩ 1 1 [.map (some wr.heap.size)] rfl rfl HCN.out (fun u hu => by simp at hu; subst hu; rfl) (by omega) (Nat.le_trans HB.out.size HB6.out.size) ?_; intro v9 w9 hown9 hgrow9 hat9; obtain ⟨a9, c9, hv9⟩ := own_form22 hown9; subst hv9; have HO9 := Lib.hid hown9; have HG9 := Lib.hid hgrow9; have HF9 := Lib.hid (((Off.of HB6.out).trans (Off.of_row hgrow9) : Off (fun k => wv.ownBlock = some k) wr w9)); clear hown9 hgrow9 hat9; have x9 := HPX.out w9 HF9.out; have f9 := (HBP.out w9 HF9.out).frozen 7)
        clear x7 x9 f9
        have hP9 := HBP.out w9 HF9.out
        have hne9 : ∀ g, Value.ownBlock (.slice a9 (k + 1) c9) = some g → g ≠ p := fun g hg => by
          obtain ⟨_, _, cur, hb⟩ := own_blk HO9.out hg
          exact box_ne hb hP9 (by decide)
        have oP : Off (fun k => k = p) w9 (w9.setCell ⟨p, 7, none⟩ (.slice a9 (k + 1) c9)) := Off.set (S := fun k => k = p) (Off.refl _ w9) ⟨p, 7, none⟩ rfl _
        have q2 : BoxC (w9.setCell ⟨p, 7, none⟩ (.slice a9 (k + 1) c9)) p #[.int .i64 j.w, .int .i64 j.l, .int .i64 j.d, .int .i64 j.c, .int .i64 j.k, .int .i64 j.e, .slice a1 j.n c1, .slice a9 (k + 1) c9] 89 := heap_setCell_same w9 p 7 _ 89 _ hP9
        have q4 := own_offb HO9.out oP (fun g hg e => hne9 g hg e)
        have hbwv : ∀ b, wv.ownBlock = some b → b < wr.heap.size := fun b hb => (own_blk HOW.out hb).2.1
        have q5 : ∀ b ∈ B ++ [wr.heap.size], Mp (w9.setCell ⟨p, 7, none⟩ (.slice a9 (k + 1) c9)) b RV.v [] ∧ w.heap.size ≤ b := fun b hb => by
          rcases List.mem_append.1 hb with hb | hb
          · obtain ⟨h1, h2⟩ := HMP.out b hb
            refine ⟨((h1.off HF9.out fun e => ?_).off oP fun e => ?_), h2⟩
            · obtain ⟨_, _, cur, hb⟩ := own_blk HOW.out e
              exact h1.ne_box hb rfl
            · exact h1.ne_box HXP.out e
          · rw [List.mem_singleton] at hb
            subst hb
            have h1 := (Mp.new wr RV.v).below (bl1 (wr.alloc (.map #[] 0)) (.cells #[.map (some wr.heap.size)] 90))
            have h2 := h1.off (Off.of_row HG9.out) (fun e => Nat.lt_irrefl _ (hbwv _ e))
            exact ⟨h2.off oP (fun e => h2.ne_box hP9 e), HB.out.size⟩
        have q6 : (B ++ [wr.heap.size]).Nodup := List.nodup_append.2 ⟨HND.out, by simp, fun a ha b hb e => by
          rw [List.mem_singleton] at hb
          subst hb
          subst e
          exact Nat.lt_irrefl _ (HMP.out _ ha).1.lt⟩
        have q7 : Below w.heap.size w (w9.setCell ⟨p, 7, none⟩ (.slice a9 (k + 1) c9)) := (Off.below HB.out HF9.out HB.out.size (fun g hg => (own_blk HOW.out hg).1)).setCell (Nat.le_of_lt HPW.out) _
        have q8 := own_offb (own_offb HJO.out HF9.out (fun g hg e => by
          obtain ⟨_, _, cur, hb⟩ := own_blk HJO.out hg
          obtain ⟨_, _, cur', hb'⟩ := own_blk HOW.out e
          exact box_ne hb hb' (by decide) rfl)) oP (fun g hg e => by
          obtain ⟨_, _, cur, hb⟩ := own_blk HJO.out hg
          exact box_ne hb HXP.out (by decide) e)
        have Q2 := Lib.hid q2
        have Q4 := Lib.hid q4
        have Q5 := Lib.hid q5
        have Q6 := Lib.hid q6
        have Q7 := Lib.hid q7
        have Q8 := Lib.hid q8
        clear q2 q4 q5 q6 q7 q8 hP9 hne9 oP hbwv hmm
        go_wp2_with fail
        go_roundw
        case rel => exact ⟨k + 1, B ++ [wr.heap.size], .slice a9 (k + 1) c9, by omega, by go_num, Q2, Lib.hid (by rw [List.length_append, HN.out]; rfl), Lib.hid (by rw [cellsOf_append]; exact Q4.out), Q5, Q6, Q8, Q7⟩
        case measure => simp [intOf]; omega
      · have d1 : ¬ (k : Int) < (j.n : Int) := by omega
        have hke : k = j.n := by omega
        have HKE := Lib.hid hke
        clear hke
        go_wp2_with fail
        go_ret2
        obtain ⟨wa, wc, hwv⟩ := own_form22 HOW.out
        have how := HOW.out
        rw [hwv] at how
        have hbn : 0 < B.length := by rw [HN.out]; have := HKE.out; have := HN4.out; omega
        obtain ⟨b0, hb0⟩ : ∃ b, B[0]? = some b := ⟨_, List.getElem?_eq_getElem hbn⟩
        obtain ⟨g, hg, hgb, _⟩ := own_cell22 bcl_len (by omega) how HN.out 0 b0 hb0
        rw [hg] at how hwv
        have hmp := HMP.out
        obtain ⟨aj, cj, ej, hlj, _⟩ := own_ls HJO.out HJ.out.len
        cases ej
        have hpB : ¬ (p ∈ B ∨ T p) := fun hk => hk.elim (fun hk => (hmp p hk).1.ne_box HXP.out rfl) (fun hk => by have h1 := hT p hk; have h2 := HPW.out; omega)
        refine HR.out _ _ ⟨fun k => k ∈ B ∨ T k, ⟨p, { j with a := a1, cap := c1 }, g, wc, B.map fun b => (b, [])⟩, rfl, HB.out, ⟨?_, ?_, ?_, ?_, ?_, ?_, ?_, ?_, ?_⟩, fun k hk => .inr hk, fun k hk => hk.elim (fun h => .inr (hmp k h).2) .inl, fun k hk => hk.elim (fun h => (hmp k h).1.lt) (fun h => Nat.lt_of_lt_of_le (hT k h) HB.out.size), fun x hx => (by obtain ⟨b, hb, rfl⟩ := List.mem_map.1 hx; exact (hmp b hb).2), ⟨a1, c1, rfl⟩, fun x hx => ?_⟩
        · intro W' o
          refine ⟨?_, ?_, ?_⟩
          · have := o.box HXP.out hpB
            unfold Md.cs
            rw [hwv] at this
            rw [List.length_map, HN.out]
            exact this
          · intro i y hy
            rw [List.getElem?_map] at hy
            cases hbi : B[i]? with
            | none => rw [hbi] at hy; cases hy
            | some b =>
              rw [hbi] at hy
              cases hy
              have hog := own_offb how o (fun q hq hk => by
                obtain ⟨hlo, _, cur8, hg8⟩ := own_blk how hq
                rcases hk with hk | hk
                · exact (hmp q hk).1.ne_box hg8 rfl
                · have := hT q hk; have := HB2.out.size; omega)
              obtain ⟨g', e, _, hcc⟩ := own_cell22 bcl_len (by omega) hog HN.out i b hbi
              cases e
              have := hcc 0 (by omega)
              rw [Nat.mul_one, Nat.add_zero] at this
              exact this
          · have hoj := own_offb HJO.out o (fun q hq hk => by
              obtain ⟨hlo, _, cur8, hg8⟩ := own_blk HJO.out hq
              rcases hk with hk | hk
              · exact (hmp q hk).1.ne_box hg8 rfl
              · have := hT q hk; have := HB2.out.size; omega)
            obtain ⟨aj, cj, ej, hlj, _⟩ := own_ls hoj HJ.out.len
            cases ej
            exact ⟨hlj, HJ.out.len, HJ.out.le⟩
        · intro x hx
          obtain ⟨b, hb, rfl⟩ := List.mem_map.1 hx
          exact (hmp b hb).1
        · intro x hx e he
          obtain ⟨b, hb, rfl⟩ := List.mem_map.1 hx
          cases he
        · exact HOK.out
        · rw [List.length_map, HN.out]; exact HKE.out
        · rw [List.length_map, HN.out]; 
          rcases how.2 with ⟨e, _⟩ | ⟨_, cap, _, e, _, _, hc, _⟩
          · cases e
          · cases e; exact hc
        · rw [List.map_map]
          have : (Prod.fst ∘ fun b : Nat => (b, ([] : List (List Int × RV)))) = id := rfl
          rw [this, List.map_id]; exact HND.out
        · intro x hx
          obtain ⟨b, hb, rfl⟩ := List.mem_map.1 hx
          exact .inl hb
        · intro x hx
          obtain ⟨b, hb, rfl⟩ := List.mem_map.1 hx
          exact ⟨by unfold TabOk tabP; exact List.Pairwise.nil, fun q hq => by cases hq⟩
        · obtain ⟨b, hb, rfl⟩ := List.mem_map.1 hx
          rfl

/-- How Copy ends, whatever is changed elsewhere. -/
def CopyRT (T : Nat → Prop) (w : World) (m : Md) (r : Ending) (w' : World) : Prop :=
  ∃ (S : Nat → Prop) (m' : Md), r = .returned (.pointer (some ⟨m'.p, 0, none⟩)) ∧ Below w.heap.size w w' ∧ MdR S w' m' ∧ (∀ k, T k → S k) ∧ (∀ k, S k → T k ∨ w.heap.size ≤ k) ∧ (∀ k, S k → k < w'.heap.size) ∧ (∀ x ∈ m'.tabs, w.heap.size ≤ x.1) ∧ (∃ a c, m'.j = { m.j with a := a, cap := c }) ∧ m'.P = m.P
set_option maxRecDepth 100000 in
set_option maxHeartbeats 4000000 in
/-- Copy (23), whatever is changed elsewhere. -/
theorem copy_lawT (T : Nat → Prop) {S : Nat → Prop} {m : Md} {w : World} (hTT : ∀ k, T k → k < w.heap.size) (h : MdR S w m) (hf : ∀ z ∈ m.tabs, z.2.length ≤ 900000) : Calls Tryz.prog 23 #[.pointer (some ⟨m.p, 0, none⟩)] w (CopyRT T w m) := by
  have HH := Lib.hid h
  have HF := Lib.hid hf
  have hbx := h.st.now.box
  have c0 := hbx.cell 0
  have c1 := hbx.cell 1
  have c2 := hbx.cell 2
  have c3 := hbx.cell 3
  have c4 := hbx.cell 4
  have c5 := hbx.cell 5
  have c6 := hbx.cell 6
  unfold Md.cs at c0 c1 c2 c3 c4 c5 c6
  simp only [List.getElem?_toArray, List.getElem?_cons_zero, List.getElem?_cons_succ] at c0 c1 c2 c3 c4 c5 c6
  have HNO := Lib.hid (mnone_law h)
  have HNW := Lib.hid (new_lawT T m.j w hTT h.st.now.job)
  have HBX := Lib.hid hbx
  clear h hf hbx
  go_enter Tryz.func23, Tryz.ntmps23
  go_wp2_with fail
  refine HNO.out.mono ?_; rintro r w' ⟨rfl, rfl⟩
  go_wp2_with fail
  refine HNW.out.mono ?_; intro r w3 hr
  unfold NewRT at hr
  rw [HH.out.ok] at hr
  obtain ⟨S2, m2, rfl, hb3, hm2, hsT, hsN, hs2, hsl, hj2, ht2⟩ := hr
  have HST := Lib.hid (And.intro hsT hsN)
  have HSL := Lib.hid hsl
  have HB3 := Lib.hid hb3
  have HM2 := Lib.hid hm2
  have HS2 := Lib.hid hs2
  have HJ2 := Lib.hid hj2
  have HT2 := Lib.hid ht2
  have hlen : m2.tabs.length = m.tabs.length := by
    obtain ⟨a, c, e⟩ := hj2
    rw [hm2.len, HH.out.len, e]
  have HLE := Lib.hid hlen
  clear c0 c1 c2 c3 c4 c5 c6
  have c7 := (HH.out.below hb3).c
  have hm4 := HH.out.few
  have hml : (m.tabs.length : Int) ≤ 1000000 := by omega
  clear hb3 hm2 hsT hsN hs2 hsl hj2 ht2 hlen
  go_wp2_with fail
  clear c7
  go_loopw [24] (fun i wr => ∃ (k : Nat) (m3 : Md), k ≤ m.tabs.length ∧ i = .int .i64 (k : Int) ∧ Hid (MdR S2 wr m3) ∧ Hid (MdSame m2 m3) ∧ Hid (m3.P = m.P.take k ++ List.replicate (m.P.length - k) []) ∧ Hid (∀ i z, k ≤ i → m3.tabs[i]? = some z → z.2 = []) ∧ Hid (Below w.heap.size w wr) ∧ Hid (w3.heap.size ≤ wr.heap.size)) (fun i _ => m.tabs.length - (intOf i).toNat)
  case atStart =>
    refine ⟨0, m2, by omega, rfl, HM2, Lib.hid (MdSame.rfl' m2), Lib.hid ?_, Lib.hid (fun i z _ hz => HT2.out z (List.mem_of_getElem? hz)), HB3, Lib.hid (Nat.le_refl _)⟩
    rw [List.take_zero, List.nil_append, Nat.sub_zero, Md.P_len, ← HLE.out]
    unfold Md.P
    rw [List.eq_replicate_iff]
    refine ⟨by rw [List.length_map], fun b hb => ?_⟩
    obtain ⟨z, hz, rfl⟩ := List.mem_map.1 hb
    rw [HT2.out z hz]; rfl
  case round =>
    obtain ⟨k, m3, hk, rfl, HM3, HSM, HP3, HZE, HBW, H3W⟩ := hrel
    by_cases hlt : k < m.tabs.length
    · have d1 : (k : Int) < (m.tabs.length : Int) := by omega
      obtain ⟨x, hx⟩ : ∃ x, m.tabs[k]? = some x := ⟨_, List.getElem?_eq_getElem hlt⟩
      have hxm := List.mem_of_getElem? hx
      have hk3 : k < m3.tabs.length := by rw [HSM.out.len, HLE.out]; exact hlt
      obtain ⟨z, hz⟩ : ∃ z, m3.tabs[k]? = some z := ⟨_, List.getElem?_eq_getElem hk3⟩
      have ct := (HH.out.below HBW.out).st.now.tab k x hx
      have hown := ((HH.out.below HBW.out).maps x hxm).own
      have HXM := Lib.hid hxm
      have HZ := Lib.hid hz
      have HX := Lib.hid hx
      have HK3 := Lib.hid hk3
      clear hx hz hxm hk3
      go_wp2_with (at_range; go_loud (refine wpList_range_own _ rfl _ 90 rfl 9 50 law9 Tryz.underlying90 RF x.1 _ _ rfl hown ?_); intro w5 hrg5 hg5 hs5)
      have HS5 := Lib.hid hs5
      have hz0 : z.2 = [] := HZE.out k z (Nat.le_refl _) HZ.out
      have o5 : Off (fun _ => False) wr w5 := (Off.of_row hg5).mono (fun k hk => by cases hk)
      have HMS := Lib.hid (fun q (hq : q ∈ m2.tabs) => Nat.lt_of_lt_of_le (HS2.out _ (HM2.out.hS q hq)) H3W.out)
      have HM5 := Lib.hid (HM3.out.off (S' := fun k => S2 k ∨ k = wr.heap.size) o5 (fun _ h => h.elim) (fun _ _ h => h) (fun k hk => hk.imp id fun e => by rw [e]; exact Nat.le_refl _) (fun q hq => .inl (HM3.out.hS q hq)))
      have HB5 := Lib.hid (Off.below HBW.out o5 HBW.out.size (fun _ h => h.elim))
      have HPK := Lib.hid (show m3.P[k]? = some [] by unfold Md.P; rw [List.getElem?_map, HZ.out]; show some (tabP z.2) = _; rw [hz0]; rfl)
      have HZ0 := Lib.hid (show m3.tabs[k]? = some (z.1, []) by rw [HZ.out, ← hz0])
      have HKB := Lib.hid ((HH.out.maps x HXM.out).byt)
      clear hg5 hs5 hz0 o5 hown ct
      obtain ⟨rr, hrr⟩ : ∃ rr, wr.heap.size = rr := ⟨_, rfl⟩
      rw [hrr] at hrg5 HM5 HS5 HMS ⊢
      have HRR := Lib.hid hrr
      clear hrr
      go_frame
      go_loopw [31] (fun _ wi => ∃ (left : Lit → Bool) (cnt : Nat) (L' : List (List Int × RV)) (m4 : Md), wi.ranges Tryz.prog 9 RF x.1 rr x.2.length (mOf RV.v x.2) left cnt ∧ Hid (CpT x.2 L' left) ∧ Hid (L'.length + cnt ≤ x.2.length) ∧ Hid (MdR (fun k => S2 k ∨ k = rr) wi m4) ∧ Hid (MdSame m2 m4) ∧ Hid (m4.tabs[k]? = some (z.1, L')) ∧ Hid (m4.P = m3.P.set k (tabP L')) ∧ Hid (∀ i q, k + 1 ≤ i → m4.tabs[i]? = some q → q.2 = []) ∧ Hid (Below w.heap.size w wi) ∧ Hid (rr + 1 ≤ wi.heap.size)) (fun _ wi => wi.rangeLeft x.1 rr)
      case atStart =>
        exact ⟨_, _, [], m3, hrg5, Lib.hid (CpT.start HKB.out), Lib.hid (by rw [size_mOf]; simp), HM5, HSM, HZ0, Lib.hid (set_same HPK.out).symm, Lib.hid (fun i q hi hq => HZE.out i q (by omega) hq), HB5, Lib.hid (by rw [HS5.out]; exact Nat.le_refl _)⟩
      case round =>
        obtain ⟨left, cnt, L', m4, hrg, HCP, HLC, HM4, HSM4, HT4, HP4, HZ4, HB4, HW4⟩ := hrel
        go_wp2_with (at_next; go_loud (refine wpList_next_ranges _ rfl _ rfl 9 law9 RF Value.string (fun v : Value => v) (fun key kl hk => by simp only [keyOf, Tryz.underlying9] at hk; cases key <;> simp [mapKey, Tryz.underlying9] at hk; exact ⟨_, rfl⟩) (fun v y _ => ⟨v, rfl⟩) x.1 rr x.2.length _ _ _ rfl hrg ?_ ?_))
        · intro hc0 hl0
          have HL0 := Lib.hid hl0
          clear hc0 hl0
          go_wp2_with fail
          go_roundw
          case rel =>
            have hm4 := HM4.out
            have hdone := HCP.out.done HL0.out HKB.out ((hm4.maps _ (List.mem_of_getElem? HT4.out)).byt) ((HH.out.lim x HXM.out).1) ((hm4.lim _ (List.mem_of_getElem? HT4.out)).1)
            refine ⟨k + 1, m4, by omega, by go_num, Lib.hid (hm4.less (fun q hq => .inl hq) (fun q hq => ?_)), HSM4, Lib.hid ?_, HZ4, HB4, Lib.hid (by have := H3W.out; have := HW4.out; have := HRR.out; omega)⟩
            · obtain ⟨q', hq', e⟩ := HSM4.out.mem hq
              rw [e]; exact HM2.out.hS q' hq'
            · have hkP : k < m.P.length := by rw [Md.P_len]; exact hlt
              rw [HP4.out, HP3.out, hdone, ← take_set m.P [] k hkP]
              congr 1
              have : m.P[k]? = some (tabP x.2) := by unfold Md.P; rw [List.getElem?_map, HX.out]; rfl
              rw [List.getElem?_eq_getElem hkP] at this
              injection this with this
              exact this.symm
          case measure => simp [intOf]; omega
        · intro s c kl yd yp w6 cnt2 hkey hlk hv hat hrg6 hlt6 hg6 hs6 hen
          obtain ⟨K, hKm, es, ek⟩ := key_in hkey hat
          subst es
          subst ek
          obtain ⟨r0, hr0⟩ : ∃ r0, getM x.2 K = some r0 := Option.isSome_iff_exists.1 (mem_keys.1 hKm)
          have hKB : Byt K := by obtain ⟨p, hp, rfl⟩ := List.mem_map.1 hKm; exact HKB.out p hp
          have hcv : c = RV.v r0 := by
            have h1 := hat .nil
            rw [at_mOf HKB.out hKB, hr0] at h1
            have e1 := (Prod.mk.inj (RF_inv hv)).1
            have h2 : DataW.held (RV.v r0) = DataW.held c := h1.trans e1
            injection h2 with h2
            exact h2.symm
          subst hcv
          unfold RV.v at hen hv
          have o6 : Off (fun q => q = rr) _ w6 := (Off.of_row hg6).mono (fun q hq => by cases hq; rfl)
          have hB6 := Off.below HB4.out o6 HB4.out.size (fun q hq => by cases hq; have := HBW.out.size; have := HRR.out; omega)
          have hmem : (K, r0) ∈ x.2 := (getM_some (HH.out.maps x HXM.out).ris).1 hr0
          have hrowS := (HH.out.below hB6).rows x HXM.out _ hmem
          have hrok := (HH.out.lim x HXM.out).2 _ (List.mem_map.2 ⟨_, hmem, rfl⟩)
          have HM6 := Lib.hid (HM4.out.off (S' := fun k => S2 k ∨ k = rr) o6 (fun q hq => .inr hq) (fun q hq e => by
            obtain ⟨q', hq', e'⟩ := HSM4.out.mem hq
            have := HMS.out q' hq'
            omega) (fun q hq => .inl hq) (fun q hq => HM4.out.hS q hq))
          have HRG6 := Lib.hid hrg6
          have HB6 := Lib.hid hB6
          have HR6 := Lib.hid hrowS.now
          have HKR := Lib.hid (show Byt K ∧ K.length ≤ 32 from ⟨hKB, hrok.1.2.2⟩)
          have HKO := Lib.hid hrok
          have HBD := Lib.hid (RV.bound hrok.2)
          have HR0 := Lib.hid hr0
          have HLT := Lib.hid hlt6
          have HLQ := Lib.hid hrg.left_eq
          have HLK := Lib.hid hlk
          have HW6 := Lib.hid (show rr + 1 ≤ w6.heap.size by have := HW4.out; omega)
          have HMT := Lib.hid (List.mem_of_getElem? HT4.out)
          have hcnt : cnt ≤ x.2.length ∧ L'.length ≤ x.2.length := by have := HLC.out; omega
          have hxl := HF.out x HXM.out
          have HPUT := Lib.hid (fun X (b : Below w6.heap.size w6 X) => ((HM6.out.below b).maps _ HMT.out).store (t := 90) (e := 50) Tryz.underlying90 HKR.out.1 (by have := HKR.out.2; omega) (by show L'.length ≤ 1000000; omega))
          have hpp : m4.p = m2.p := HSM4.out.p
          have HXX := Lib.hid (fun X (b : Below w6.heap.size w6 X) => (⟨by have := (HM6.out.below b).c; rw [hpp] at this; exact this, (HM6.out.below b).st.now.tab k (z.1, L') HT4.out⟩ : X.cell? ⟨m2.p, 7, none⟩ = some (.slice (some ⟨m4.bt, 0, none⟩) m4.tabs.length m4.tc) ∧ X.cell? ⟨m4.bt, k, none⟩ = some (.map (some z.1))))
          have htl : m4.tabs.length = m.tabs.length := by rw [HSM4.out.len]; exact HLE.out
          have htt : (k : Int) < (m4.tabs.length : Int) := by omega
          have ht3 : ¬ (k : Int) < 0 := by omega
          have htm : (m4.tabs.length : Int) ≤ 1000000 := by omega
          have HS6 := Lib.hid (fun q (hq : (fun k => S2 k ∨ k = rr) q) => (by
            rcases hq with hq | hq
            · have := HS2.out q hq; have := H3W.out; have := HRR.out; have := HW6.out; omega
            · have := HW6.out; omega : q < w6.heap.size))
          clear hkey hlk hv hat hlt6 hg6 hs6 hKm hr0 hKB o6 hB6 hmem hrowS hrok hrg hrg6 hcnt hxl hpp htl
          go_upto_region 10 with (fail)
          clear hen
          refine wp_region_last (z := 10) (S := (fun X => Below w6.heap.size w6 X)) (by kernel_rfl) ((Below.refl _ _).drew) (fun hHeld => ?_)
          refine wpAnyL_take (i := 0) (oi := { dst := some 36, op := Op.move (Operand.tmp 3), type := 28, pos := "model.go:193", after := #[], guard := none }) (v := ?_) (by kernel_rfl) rfl (by kernel_rfl) rfl (by kernel_rfl) (by kernel_rfl) (by kernel_rfl) (fun _ _ _ h => h) (Or.inl ⟨by rfl, ?_⟩) (by assumption) ?_
          rotate_left
          · intro W hSw; go_simp; try with_reducible rfl
          try simp only [Act.put, List.setIfInBounds_toArray, List.set_cons_zero, List.set_cons_succ]
          refine wpAnyL_take (i := 1) (oi := { dst := some 37, op := Op.nilCheck (Operand.tmp 36), type := 0, pos := "model.go:193", after := #[{ on := 0, ground := Ground.data }], guard := none }) (v := ?_) (by kernel_rfl) rfl (by kernel_rfl) rfl (by kernel_rfl) (by kernel_rfl) (by kernel_rfl) (fun _ _ _ h => h) (Or.inl ⟨by rfl, ?_⟩) (by assumption) ?_
          rotate_left
          · intro W hSw; go_simp; try with_reducible rfl
          try simp only [Act.put, List.setIfInBounds_toArray, List.set_cons_zero, List.set_cons_succ]
          refine wpAnyL_take (i := 2) (oi := { dst := some 38, op := Op.fieldAddr 89 (Operand.tmp 37) 1, type := 0, pos := "model.go:193", after := #[{ on := 1, ground := Ground.data }], guard := none }) (v := ?_) (by kernel_rfl) rfl (by kernel_rfl) rfl (by kernel_rfl) (by kernel_rfl) (by kernel_rfl) (fun _ _ _ h => h) (Or.inl ⟨by rfl, ?_⟩) (by assumption) ?_
          rotate_left
          · intro W hSw; go_simp; try with_reducible rfl
          try simp only [Act.put, List.setIfInBounds_toArray, List.set_cons_zero, List.set_cons_succ]
          refine wpAnyL_take (i := 3) (oi := { dst := some 39, op := Op.load 87 (Operand.tmp 38), type := 87, pos := "model.go:193", after := #[{ on := 2, ground := Ground.data }], guard := none }) (v := ?_) (by kernel_rfl) rfl (by kernel_rfl) rfl (by kernel_rfl) (by kernel_rfl) (by kernel_rfl) (fun _ _ _ h => h) (Or.inl ⟨by rfl, ?_⟩) (by assumption) ?_
          rotate_left
          · intro W hSw; have m0 := (HXX.out W hSw).1; go_simp; try with_reducible rfl
          try simp only [Act.put, List.setIfInBounds_toArray, List.set_cons_zero, List.set_cons_succ]
          refine wpAnyL_take (i := 4) (oi := { dst := some 40, op := Op.move (Operand.tmp 5), type := 3, pos := "model.go:193", after := #[], guard := none }) (v := ?_) (by kernel_rfl) rfl (by kernel_rfl) rfl (by kernel_rfl) (by kernel_rfl) (by kernel_rfl) (fun _ _ _ h => h) (Or.inl ⟨by rfl, ?_⟩) (by assumption) ?_
          rotate_left
          · intro W hSw; go_simp; try with_reducible rfl
          try simp only [Act.put, List.setIfInBounds_toArray, List.set_cons_zero, List.set_cons_succ]
          refine wpAnyL_take (i := 5) (oi := { dst := some 41, op := Op.indexAddr 87 (Operand.tmp 39) (Operand.tmp 40), type := 0, pos := "model.go:193", after := #[{ on := 3, ground := Ground.data }, { on := 4, ground := Ground.data }], guard := none }) (v := ?_) (by kernel_rfl) rfl (by kernel_rfl) rfl (by kernel_rfl) (by kernel_rfl) (by kernel_rfl) (fun _ _ _ h => h) (Or.inl ⟨by rfl, ?_⟩) (by assumption) ?_
          rotate_left
          · intro W hSw; go_simp; try with_reducible rfl
          try simp only [Act.put, List.setIfInBounds_toArray, List.set_cons_zero, List.set_cons_succ]
          refine wpAnyL_take (i := 6) (oi := { dst := some 42, op := Op.load 90 (Operand.tmp 41), type := 90, pos := "model.go:193", after := #[{ on := 5, ground := Ground.data }], guard := none }) (v := ?_) (by kernel_rfl) rfl (by kernel_rfl) rfl (by kernel_rfl) (by kernel_rfl) (by kernel_rfl) (fun _ _ _ h => h) (Or.inl ⟨by rfl, ?_⟩) (by assumption) ?_
          rotate_left
          · intro W hSw; have m0 := (HXX.out W hSw).2; go_simp; try with_reducible rfl
          try simp only [Act.put, List.setIfInBounds_toArray, List.set_cons_zero, List.set_cons_succ]
          refine wpAnyL_take (i := 7) (oi := { dst := some 43, op := Op.move (Operand.tmp 7), type := 9, pos := "model.go:193", after := #[], guard := none }) (v := ?_) (by kernel_rfl) rfl (by kernel_rfl) rfl (by kernel_rfl) (by kernel_rfl) (by kernel_rfl) (fun _ _ _ h => h) (Or.inl ⟨by rfl, ?_⟩) (by assumption) ?_
          rotate_left
          · intro W hSw; go_simp; try with_reducible rfl
          try simp only [Act.put, List.setIfInBounds_toArray, List.set_cons_zero, List.set_cons_succ]
          refine wpAnyL_take (i := 8) (oi := { dst := some 44, op := Op.move (Operand.tmp 8), type := 50, pos := "model.go:193", after := #[], guard := none }) (v := ?_) (by kernel_rfl) rfl (by kernel_rfl) rfl (by kernel_rfl) (by kernel_rfl) (by kernel_rfl) (fun _ _ _ h => h) (Or.inl ⟨by rfl, ?_⟩) (by assumption) ?_
          rotate_left
          · intro W hSw; go_simp; try with_reducible rfl
          try simp only [Act.put, List.setIfInBounds_toArray, List.set_cons_zero, List.set_cons_succ]
          refine wpAnyL_ready (rs := [9]) (by kernel_rfl) (by simp) ?_
          refine AllL.cons (o := { dst := some 45, op := Op.call { callee := Callee.value (Operand.func 55), args := #[Operand.tmp 44], argTypes := #[50] }, type := 50, pos := "model.go:193", after := #[{ on := 8, ground := Ground.data }], guard := none }) rfl (fun K hK => ?_) AllL.nil
          go_simp
          refine (rowcopy_law _ r0.R _ _ rfl HBD.out.1 HBD.out.2 _ ((HR6.out).below hHeld)).mono ?_; rintro r w8 ⟨⟨v8, rfl, hc8⟩, hb8⟩
          obtain ⟨a8, c8, R8, hv8, hl8, hm8, hst8⟩ := cpR_stay (S := fun k => S2 k ∨ k = rr) hc8 rfl (fun k hk => Nat.lt_of_lt_of_le (HS6.out k hk) hHeld.size)
          subst hv8
          go_wp2_with fail
          have HC8 := Lib.hid (And.intro hl8 (And.intro hm8 hst8))
          have HB8 := Lib.hid (step_below hHeld hb8)
          refine hK.out _ _ HB8.out (fun hHeldn => ?_)
          clear hK K hHeld hc8 hb8 hl8 hm8 hst8; have hHeld := hHeldn; clear hHeldn
          try simp only [Act.put, List.setIfInBounds_toArray, List.set_cons_zero, List.set_cons_succ]
          refine wpAnyL_ready (rs := [10]) (by kernel_rfl) (by simp) ?_
          refine AllL.last (o := { dst := none, op := Op.mapUpdate 90 (Operand.tmp 42) (Operand.tmp 43) (Operand.tmp 45), type := 0, pos := "model.go:193", after := #[{ on := 6, ground := Ground.data }, { on := 7, ground := Ground.data }, { on := 9, ground := Ground.data }, { on := 9, ground := Ground.chain }, { on := 0, ground := Ground.phase }, { on := 1, ground := Ground.phase }, { on := 2, ground := Ground.phase }, { on := 3, ground := Ground.phase }, { on := 4, ground := Ground.phase }, { on := 5, ground := Ground.phase }, { on := 6, ground := Ground.phase }, { on := 7, ground := Ground.phase }, { on := 8, ground := Ground.phase }, { on := 9, ground := Ground.phase }], guard := none }) rfl (fun K hK => ?_)
          obtain ⟨w7, hrun, hmp7, hg7⟩ := HPUT.out _ hHeld ⟨a8, c8, R8⟩
          simp only [RV.v, HC8.out.1] at hrun
          go_simp
          refine hK.out _ _ ?_
          clear hK K
          try simp only [Act.put, List.setIfInBounds_toArray, List.set_cons_zero, List.set_cons_succ]
          refine wpAnyL_done (by kernel_rfl) ?_ _
          skip
          have o67 : Off (fun q => q = z.1) _ w7 := Off.of_map hg7 rfl
          have o7 : Off (fun q => q = z.1) w6 w7 := (Off.of HB8.out).trans o67
          have hP8 : (⟨a8, c8, R8⟩ : RV).P = r0.P := HC8.out.2.1
          have hPne : (⟨a8, c8, R8⟩ : RV).P ≠ [] := by rw [hP8]; intro e; have h1 : 1 ≤ r0.P.length := HKO.out.2.1; rw [e] at h1; simp at h1
          have hup := HM6.out.up HT4.out o7 hmp7 (fun e he => by
            rcases mem_setM.1 he with he | he
            · exact (HM6.out.rows _ HMT.out e he.1).off (o7.mono fun q hq => by cases hq; exact HM6.out.hS (z.1, L') HMT.out)
            · have e2 := he.2
              injection e2 with e2
              rw [← e2]
              exact HC8.out.2.2.off (o67.mono fun q hq => by cases hq; exact HM6.out.hS (z.1, L') HMT.out)) (by rw [tabP_set _ _ _ hPne]; exact (HM6.out.lim _ HMT.out).set HKO.out.1 fun e => by rw [hP8]; exact HKO.out.2)
          have hz1 : Maps' m2 z.1 := HSM4.out.mem (x := (z.1, L')) HMT.out
          have hzS : S2 z.1 := by obtain ⟨q, hq, e⟩ := hz1; rw [e]; exact HM2.out.hS q hq
          have hrg7 := HRG6.out.kept (Off.grown o7) (by
            intro e
            injection e with e
            have h1 := (HH.out.maps x HXM.out).lt
            obtain ⟨q9, hq9, e9⟩ := hz1
            have := HSL.out q9 hq9
            omega) (by
            intro e
            injection e with e
            have h1 := HS2.out _ hzS
            have := H3W.out
            have := HRR.out
            omega)
          have HRG7 := Lib.hid hrg7
          have HUP := Lib.hid hup
          have HB7 := Lib.hid (Off.below HB6.out o7 HB6.out.size (fun q hq => by cases hq; obtain ⟨q9, hq9, e9⟩ := hz1; have := HSL.out q9 hq9; omega))
          have HS7 := Lib.hid o7.size
          have HLN := Lib.hid (setM_len (HM6.out.maps _ HMT.out).ris K (some (⟨a8, c8, R8⟩ : RV)))
          have HCP7 := Lib.hid (HCP.out.step (HM6.out.maps _ HMT.out).ris HKR.out.1 HR0.out hP8)
          clear o7 o67 hmp7 hg7 hup hrun hHeld hP8 hPne hz1 hzS hrg7
          go_wp2_with fail
          go_roundw
          case rel =>
            refine ⟨_, cnt2, setM L' K (some (⟨a8, c8, R8⟩ : RV)), _, HRG7.out, HCP7, Lib.hid ?_, HUP, Lib.hid (HSM4.out.set HT4.out _), Lib.hid ?_, Lib.hid ?_, Lib.hid ?_, HB7, Lib.hid (by have := HW6.out; have := HS7.out; omega)⟩
            · have := HLC.out; have h5 : (setM L' K (some (⟨a8, c8, R8⟩ : RV))).length ≤ L'.length + 1 := HLN.out; have := HLT.out
              omega
            · show (m4.tabs.set k _)[k]? = _
              rw [List.getElem?_set_self (List.getElem?_eq_some_iff.1 HT4.out).1]
            · unfold Md.P
              show (m4.tabs.set k _).map _ = _
              rw [List.map_set]
              have h4 := HP4.out
              unfold Md.P at h4
              rw [h4, List.set_set]
            · intro i q hi hq
              have hq : (m4.tabs.set k (z.1, setM L' K (some (⟨a8, c8, R8⟩ : RV))))[i]? = some q := hq
              rw [List.getElem?_set_ne (by omega)] at hq
              exact HZ4.out i q hi hq
          case measure =>
            rw [HRG7.out.left_eq, HLQ.out]; exact HLT.out
    · have d1 : ¬ (k : Int) < (m.tabs.length : Int) := by omega
      have hke : k = m.tabs.length := by omega
      have HPE := Lib.hid (show m3.P = m.P by
        rw [HP3.out, List.take_of_length_le (by rw [Md.P_len]; omega), show m.P.length - k = 0 by rw [Md.P_len]; omega]; simp)
      clear hke
      have hpp : m3.p = m2.p := HSM.out.p
      have HPP := Lib.hid hpp
      clear hpp
      go_wp2_with fail
      go_ret
      obtain ⟨a, c, e⟩ := HJ2.out
      refine ⟨S2, m3, by rw [HPP.out]; rfl, HBW.out, HM3.out, HST.out.1, HST.out.2, fun k hk => Nat.lt_of_lt_of_le (HS2.out k hk) H3W.out, fun x hx => (by obtain ⟨q', hq', e'⟩ := HSM.out.mem hx; rw [e']; exact HSL.out q' hq'), ⟨a, c, by rw [HSM.out.j]; exact e⟩, HPE.out⟩
end Go.Proofs.YthmofoldmdafoaaGreat
