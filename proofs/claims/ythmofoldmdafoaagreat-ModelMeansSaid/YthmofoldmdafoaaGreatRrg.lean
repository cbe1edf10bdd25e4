/- ModelReads: a transaction that reads alone writes nothing, and is answered the same again and again; for every input. Part 7. -/
import Derived.Test.YthmofoldmdafoaaGreatRrf
import Derived.Test.YthmofoldmdafoaaGreatRrb
import Derived.Test.YthmofoldmdafoaaGreatRra
namespace Go.Proofs.YthmofoldmdafoaaGreat
open Go.ChangeShapes Go.WideShapes Go.ChangeAt Go.RowKit Go.Maps
set_option linter.unusedVariables false
set_option linter.unusedSimpArgs false

theorem set4l {W : World} {B : Nat} (hb : BoxC W B #[.int .i64 0, .slice none 0 0, .slice none 0 0, .bool false] 169) (tr : Int) (fa : Option Addr) (f : List Int) (fc : Nat) (ta : Option Addr) (u : List Int) (tc : Nat) (en : Bool) {a : Option Addr} {c : Nat} {L : List Int} (l : Ls .u8 W a c L) :
    Ls .u8 ((((W.setCell ⟨B, 0, none⟩ (.int .i64 tr)).setCell ⟨B, 1, none⟩ (.slice fa f.length fc)).setCell ⟨B, 2, none⟩ (.slice ta u.length tc)).setCell ⟨B, 3, none⟩ (.bool en)) a c L := by
  have b1 : BoxC (W.setCell ⟨B, 0, none⟩ (.int .i64 tr)) B #[.int .i64 tr, .slice none 0 0, .slice none 0 0, .bool false] 169 := heap_setCell_same _ B 0 _ 169 _ hb
  have b2 : BoxC ((W.setCell ⟨B, 0, none⟩ (.int .i64 tr)).setCell ⟨B, 1, none⟩ (.slice fa f.length fc)) B #[.int .i64 tr, .slice fa f.length fc, .slice none 0 0, .bool false] 169 := heap_setCell_same _ B 1 _ 169 _ b1
  have b3 : BoxC (((W.setCell ⟨B, 0, none⟩ (.int .i64 tr)).setCell ⟨B, 1, none⟩ (.slice fa f.length fc)).setCell ⟨B, 2, none⟩ (.slice ta u.length tc)) B #[.int .i64 tr, .slice fa f.length fc, .slice ta u.length tc, .bool false] 169 := heap_setCell_same _ B 2 _ 169 _ b2
  exact ls_set (ls_set (ls_set (ls_set l (hb.cell 0) (fun x h => by cases h) _) (b1.cell 1) (fun x h => by cases h) _) (b2.cell 2) (fun x h => by cases h) _) (b3.cell 3) (fun x h => by cases h) _
/-- Four cells of a block are written. -/
theorem set4b {b : Nat} {w W : World} {B : Nat} (h : Below b w W) (hb : BoxC W B #[.int .i64 0, .slice none 0 0, .slice none 0 0, .bool false] 169) (hB : b ≤ B) (tr : Int) (fa : Option Addr) (f : List Int) (fc : Nat) (ta : Option Addr) (u : List Int) (tc : Nat) (en : Bool) (lf : Ls .u8 W fa fc f) (lu : Ls .u8 W ta tc u) :
    Below b w ((((W.setCell ⟨B, 0, none⟩ (.int .i64 tr)).setCell ⟨B, 1, none⟩ (.slice fa f.length fc)).setCell ⟨B, 2, none⟩ (.slice ta u.length tc)).setCell ⟨B, 3, none⟩ (.bool en)) ∧
    BoxC ((((W.setCell ⟨B, 0, none⟩ (.int .i64 tr)).setCell ⟨B, 1, none⟩ (.slice fa f.length fc)).setCell ⟨B, 2, none⟩ (.slice ta u.length tc)).setCell ⟨B, 3, none⟩ (.bool en)) B #[.int .i64 tr, .slice fa f.length fc, .slice ta u.length tc, .bool en] 169 ∧
    Ls .u8 ((((W.setCell ⟨B, 0, none⟩ (.int .i64 tr)).setCell ⟨B, 1, none⟩ (.slice fa f.length fc)).setCell ⟨B, 2, none⟩ (.slice ta u.length tc)).setCell ⟨B, 3, none⟩ (.bool en)) fa fc f ∧
    Ls .u8 ((((W.setCell ⟨B, 0, none⟩ (.int .i64 tr)).setCell ⟨B, 1, none⟩ (.slice fa f.length fc)).setCell ⟨B, 2, none⟩ (.slice ta u.length tc)).setCell ⟨B, 3, none⟩ (.bool en)) ta tc u := by
  refine ⟨(((h.setCell (p := ⟨B, 0, none⟩) hB _).setCell (p := ⟨B, 1, none⟩) hB _).setCell (p := ⟨B, 2, none⟩) hB _).setCell (p := ⟨B, 3, none⟩) hB _, ?_, ?_, ?_⟩
  · exact heap_setCell_same _ B 3 _ 169 _ (heap_setCell_same _ B 2 _ 169 _ (heap_setCell_same _ B 1 _ 169 _ (heap_setCell_same _ B 0 _ 169 _ hb)))
  · exact set4l hb tr fa f fc ta u tc en lf
  · exact set4l hb tr fa f fc ta u tc en lu
theorem set4a {b : Nat} {w W : World} (h : Below b w W) (hb : b ≤ w.heap.size) (tr : Int) (fa : Option Addr) (f : List Int) (fc : Nat) (ta : Option Addr) (u : List Int) (tc : Nat) (en : Bool) (lf : Ls .u8 W fa fc f) (lu : Ls .u8 W ta tc u) :
    Below b w (W.alloc (.cells #[.int .i64 tr, .slice fa f.length fc, .slice ta u.length tc, .bool en] 169)) ∧
    BoxC (W.alloc (.cells #[.int .i64 tr, .slice fa f.length fc, .slice ta u.length tc, .bool en] 169)) W.heap.size #[.int .i64 tr, .slice fa f.length fc, .slice ta u.length tc, .bool en] 169 ∧
    Ls .u8 (W.alloc (.cells #[.int .i64 tr, .slice fa f.length fc, .slice ta u.length tc, .bool en] 169)) fa fc f ∧
    Ls .u8 (W.alloc (.cells #[.int .i64 tr, .slice fa f.length fc, .slice ta u.length tc, .bool en] 169)) ta tc u :=
  ⟨h.trans ((bl1 W _).mono (Nat.le_trans hb h.size)), BoxC.new W _ _, lf.below (bl1 W _), lu.below (bl1 W _)⟩
/-- A pair as an entry. -/
def enP (p : PrV) : EnV := ⟨p.ka, p.kc, p.K, p⟩
theorem ecl_one (e : EnV) : ∀ u ∈ ecl e, u.oneCell' = true := fun u hu => by
  simp only [ecl, List.mem_cons, List.not_mem_nil, or_false] at hu
  rcases hu with rfl | rfl | rfl <;> rfl
theorem own_ens {W : World} {base n c : Nat} {a : Option Addr} {L : List EnV} (h : W.ownsRow base 149 3 (.slice a n c) n (cellsOf ecl L)) (hn : L.length = n) (ok : ∀ e ∈ L, EnL W e) : EnsR W a L := fun k e he => by
  obtain ⟨g, rfl, _, hc⟩ := own_cell22 ecl_len (by omega) h hn k e he
  refine ⟨g, 0, rfl, ?_, ?_, ?_, ok e (List.mem_of_getElem? he)⟩
  · have := hc 0 (by omega); rw [Nat.add_zero] at this; rw [Nat.zero_add]; exact this
  · have := hc 1 (by omega); rw [Nat.zero_add]; exact this
  · have := hc 2 (by omega); rw [Nat.zero_add]; exact this
theorem winG_map {α β : Type} (g : α → β) (k1 : α → List Int) (k2 : β → List Int) (f u : List Int) (en : Bool) (m : Int) : ∀ (l acc : List α), (∀ e ∈ l, k2 (g e) = k1 e) → (winG k1 f u en m l acc).map g = winG k2 f u en m (l.map g) (acc.map g)
  | [], acc, _ => rfl
  | e :: r, acc, h => by
    have h1 := h e (List.mem_cons_self ..)
    have ih := fun acc => winG_map g k1 k2 f u en m r acc fun x hx => h x (List.mem_cons_of_mem _ hx)
    rw [List.map_cons]
    unfold winG
    rw [h1, List.length_map]
    split
    · exact ih acc
    · split
      · rfl
      · rw [ih (acc ++ [e]), List.map_append]; rfl
theorem winG_len {α : Type} (key : α → List Int) (f u : List Int) (en : Bool) (m : Int) : ∀ (l acc : List α), (winG key f u en m l acc).length ≤ l.length + acc.length
  | [], acc => by show acc.length ≤ _; simp
  | e :: r, acc => by
    unfold winG
    split
    · have := winG_len key f u en m r acc; rw [List.length_cons]; omega
    · split
      · rw [List.length_cons]; omega
      · have := winG_len key f u en m r (acc ++ [e]); rw [List.length_append, List.length_singleton] at this; rw [List.length_cons]; omega
theorem pO_most {j : Job} {o : CallV} (h : pO j o = true) (h3 : kf o.k 3 = true) : 1 ≤ o.m ∧ o.m ≤ 64 := by
  unfold pO endB at h
  rw [if_pos h3] at h
  simp only [Bool.and_eq_true] at h
  have := h.2.2
  unfold inB at this
  simpa using this
/-- What is asked of a call that goes over a range. -/
structure OpS (S : Nat → Prop) (w : World) (m : Md) (o : CallV) (t : Nat) : Prop where
  at' : Stay S w fun W => CallAt W o
  te : o.t = (t : Int)
  tl : t < m.tabs.length
  po : pO m.j o = true
  rn : o.rn ≤ 1000000
set_option maxRecDepth 100000 in
set_option maxHeartbeats 4000000 in
theorem tscan_law {S : Nat → Prop} {base : Nat} {w : World} {m : Md} {x : Tl} (h : TlR S base w m x) (hbs : base ≤ w.heap.size) (o : CallV) (t : Nat) (ho : OpS S w m o t) (hk : o.k = 5) (hf : ∀ z ∈ m.tabs, z.2.length ≤ 900000) :
    Calls Tryz.prog 127 #[.pointer (some ⟨x.px, 0, none⟩), .agg #[.int .i64 o.k, .int .i64 o.t, .int .i64 o.i, .slice o.ka o.kn o.kc, .slice o.ta o.tn o.tc, .int .i64 o.m, .slice o.ra o.rn o.rc]] w (CallR S base w m x ((0, winG Prod.fst o.K o.T (decide (0 < o.tn)) o.m (x.T m t) []) : Int × List Pr) (x.ws.map WtV.P)) := by
  obtain ⟨hb, hbx⟩ := boxes2 w #[.int .i64 o.k, .int .i64 o.t, .int .i64 o.i, .slice o.ka o.kn o.kc, .slice o.ta o.tn o.tc, .int .i64 o.m, .slice o.ra o.rn o.rc] #[.int .i64 0, .slice none 0 0] 74 81
  obtain ⟨w2, hw2⟩ : ∃ W, W = (w.alloc (.cells #[.int .i64 o.k, .int .i64 o.t, .int .i64 o.i, .slice o.ka o.kn o.kc, .slice o.ta o.tn o.tc, .int .i64 o.m, .slice o.ra o.rn o.rc] 74)).alloc (.cells #[.int .i64 0, .slice none 0 0] 81) := ⟨_, rfl⟩
  rw [← hw2] at hb hbx
  have h2 := h.below hb
  have HMD := Lib.hid h2.md
  have HOP := Lib.hid (ho.at'.below hb).now
  have HRN := Lib.hid ho.rn
  obtain ⟨c0, _⟩ := h2.c
  have HX := Lib.hid (fun X (b : Below w2.heap.size w2 X) => (by
    have hm := (h2.md.below b).st.now.box
    have hp := (hbx X b).1
    refine ⟨(b.cell (World.block_lt_of_cell? w2 _ c0)).trans c0, ?_, ?_, ?_, ?_, ?_, ?_, ?_, ?_, ?_, ?_, ?_, ?_, ?_, ?_⟩
    all_goals first | (rw [hm.cell]; rfl) | (rw [hp.cell]; rfl) : X.cell? ⟨x.px, 0, none⟩ = some (.pointer (some ⟨m.p, 0, none⟩)) ∧ X.cell? ⟨m.p, 0, none⟩ = some (.int .i64 m.j.w) ∧ X.cell? ⟨m.p, 1, none⟩ = some (.int .i64 m.j.l) ∧ X.cell? ⟨m.p, 2, none⟩ = some (.int .i64 m.j.d) ∧ X.cell? ⟨m.p, 3, none⟩ = some (.int .i64 m.j.c) ∧ X.cell? ⟨m.p, 4, none⟩ = some (.int .i64 m.j.k) ∧ X.cell? ⟨m.p, 5, none⟩ = some (.int .i64 m.j.e) ∧ X.cell? ⟨m.p, 6, none⟩ = some (.slice m.j.a m.j.n m.j.cap) ∧ X.cell? ⟨w.heap.size, 0, none⟩ = some (.int .i64 o.k) ∧ X.cell? ⟨w.heap.size, 1, none⟩ = some (.int .i64 o.t) ∧ X.cell? ⟨w.heap.size, 2, none⟩ = some (.int .i64 o.i) ∧ X.cell? ⟨w.heap.size, 3, none⟩ = some (.slice o.ka o.kn o.kc) ∧ X.cell? ⟨w.heap.size, 4, none⟩ = some (.slice o.ta o.tn o.tc) ∧ X.cell? ⟨w.heap.size, 5, none⟩ = some (.int .i64 o.m) ∧ X.cell? ⟨w.heap.size, 6, none⟩ = some (.slice o.ra o.rn o.rc)))
  have HH := Lib.hid (And.intro h (And.intro hbs (And.intro hb hbx)))
  have HO := Lib.hid ho
  have HF := Lib.hid hf
  have HK5 := Lib.hid hk
  have HW2 := Lib.hid hw2
  clear h hbs ho hf hk h2 hb hbx c0
  go_enter Tryz.func127, Tryz.ntmps127
  go_upto_region 1 with (fail)
  rw [← hw2]
  clear hw2
  go_cut [5] (fun v wx => ∃ (bx : Nat) (fa : Option Addr) (fc : Nat) (ta : Option Addr) (tc : Nat), v = .pointer (some ⟨bx, 0, none⟩) ∧ Hid (Below w2.heap.size w2 wx) ∧ Hid (BoxC wx bx #[.int .i64 (rngV m.j o).1, .slice fa (rngV m.j o).2.1.length fc, .slice ta (rngV m.j o).2.2.1.length tc, .bool (rngV m.j o).2.2.2.1] 169) ∧ Hid (Ls .u8 wx fa fc (rngV m.j o).2.1) ∧ Hid (Ls .u8 wx ta tc (rngV m.j o).2.2.1))
  case first =>
    refine wp_region_held_drew (S := (fun X => Below w2.heap.size w2 X)) (by kernel_rfl) ((Below.refl _ _).drew) (fun hHeld => ?_)
    refine tp 0 ?_ rfl (.inl ⟨by rfl, ?_⟩) ?_
    rotate_left
    · intro W hSw; go_simp; try with_reducible rfl
    refine tp 1 ?_ rfl (.inl ⟨by rfl, ?_⟩) ?_
    rotate_left
    · intro W hSw; go_simp; try with_reducible rfl
    refine tp 2 ?_ rfl (.inl ⟨by rfl, ?_⟩) ?_
    rotate_left
    · intro W hSw; go_simp; try with_reducible rfl
    refine tp 3 ?_ rfl (.inl ⟨by rfl, ?_⟩) ?_
    rotate_left
    · intro W hSw; have m := (HX.out W hSw).1; go_simp; try with_reducible rfl
    refine tp 4 ?_ rfl (.inl ⟨by rfl, ?_⟩) ?_
    rotate_left
    · intro W hSw; go_simp; try with_reducible rfl
    refine tp 5 ?_ rfl (.inl ⟨by rfl, ?_⟩) ?_
    rotate_left
    · intro W hSw; go_simp; try with_reducible rfl
    refine tp 6 ?_ rfl (.inl ⟨by rfl, ?_⟩) ?_
    rotate_left
    · intro W hSw; obtain ⟨_, m0, m1, m2, m3, m4, m5, m6, _⟩ := HX.out W hSw; go_simp; try with_reducible rfl
    refine tp 7 ?_ rfl (.inl ⟨by rfl, ?_⟩) ?_
    rotate_left
    · intro W hSw; obtain ⟨_, _, _, _, _, _, _, _, o0, o1, o2, o3, o4, o5, o6⟩ := HX.out W hSw; go_simp; try with_reducible rfl
    refine wpAnyH_ready (rs := [8, 12]) (by kernel_rfl) (by simp) ?_
    refine AllReadyH.cons (o := { dst := some 19, op := Op.call { callee := Callee.value (Operand.func 141), args := #[Operand.tmp 17, Operand.tmp 18], argTypes := #[24, 74] }, type := 215, pos := "trial.go:140", after := #[{ on := 6, ground := Ground.data }, { on := 7, ground := Ground.data }], guard := none }) rfl (fun K hK => ?_) ?_
    · skip
      go_simp
      refine (range_law m.j o HRN.out _ (HMD.out.below hHeld).st.now.job (HOP.out.below hHeld)).mono ?_; rintro r w5 ⟨⟨fa, fc, ta, tc, rfl, hlf, hlu⟩, hb5⟩
      have HLF := Lib.hid (And.intro hlf hlu)
      have HB5 := Lib.hid (step_below hHeld hb5)
      have HB25 := Lib.hid hb5
      clear hlf hlu hb5
      go_wp2_with fail
      refine hK.out _ _ HB5.out (fun hHeldn => ?_)
      clear hK K hHeld; have hHeld := hHeldn; clear hHeldn
      try simp only [Act.put, List.setIfInBounds_toArray, List.set_cons_zero, List.set_cons_succ]
      refine tp 9 ?_ rfl (.inl ⟨by rfl, ?_⟩) ?_
      rotate_left
      · intro W hSw; go_simp; try with_reducible rfl
      refine tp 10 ?_ rfl (.inl ⟨by rfl, ?_⟩) ?_
      rotate_left
      · intro W hSw; go_simp; try with_reducible rfl
      refine tp 11 ?_ rfl (.inl ⟨by rfl, ?_⟩) ?_
      rotate_left
      · intro W hSw; go_simp; try with_reducible rfl
      refine wpAnyH_ready (rs := [12]) (by kernel_rfl) (by simp) ?_
      refine AllReadyH.cons (o := { dst := some 5, op := Op.alloc 169, type := 0, pos := "trial.go:140", after := #[], guard := none }) rfl (fun K hK => ?_) AllReadyH.nil
      go_simp
      have HBA := Lib.hid (bl1 w5 (.cells #[.int .i64 0, .slice none 0 0, .slice none 0 0, .bool false] 169))
      have HXA := Lib.hid (BoxC.new w5 #[.int .i64 0, .slice none 0 0, .slice none 0 0, .bool false] 169)
      have HB6 := Lib.hid (step_below HB5.out HBA.out)
      refine hK.out _ _ HB6.out (fun hHeldn => ?_)
      clear hK K hHeld; have hHeld := hHeldn; clear hHeldn
      try simp only [Act.put, List.setIfInBounds_toArray, List.set_cons_zero, List.set_cons_succ]
      refine wpAnyH_ready (rs := [13]) (by kernel_rfl) (by simp) ?_
      refine AllReadyH.cons (o := { dst := none, op := Op.store 169 (Operand.tmp 5) (Operand.tmp 20), type := 0, pos := "trial.go:140", after := #[{ on := 12, ground := Ground.data }, { on := 10, ground := Ground.data }, { on := 8, ground := Ground.chain }, { on := 0, ground := Ground.phase }, { on := 1, ground := Ground.phase }, { on := 2, ground := Ground.phase }, { on := 3, ground := Ground.phase }, { on := 4, ground := Ground.phase }, { on := 5, ground := Ground.phase }, { on := 6, ground := Ground.phase }, { on := 7, ground := Ground.phase }, { on := 8, ground := Ground.phase }, { on := 9, ground := Ground.phase }, { on := 10, ground := Ground.phase }, { on := 11, ground := Ground.textOnly Departure.lateStores }, { on := 12, ground := Ground.phase }], guard := none }) rfl (fun K hK => ?_) AllReadyH.nil
      go_simp
      have h0 := set4a HB5.out (Nat.le_refl _) (rngV m.j o).1 fa (rngV m.j o).2.1 fc ta (rngV m.j o).2.2.1 tc (rngV m.j o).2.2.2.1 HLF.out.1 HLF.out.2
      have HQ := Lib.hid h0
      refine hK.out _ _ h0.1 (fun hHeldn => ?_)
      clear h0
      clear hK K hHeld; have hHeld := hHeldn; clear hHeldn
      try simp only [Act.put, List.setIfInBounds_toArray, List.set_cons_zero, List.set_cons_succ]
      refine tp 14 ?_ rfl (.inl ⟨by rfl, ?_⟩) ?_
      rotate_left
      · intro W hSw; go_simp; try with_reducible rfl
      refine wpAnyH_done (by kernel_rfl) ?_ _
      obtain ⟨q1, q2, q3, q4⟩ := HQ.out
      go_wp2_with fail
      go_meet
      exact ⟨_, fa, fc, ta, tc, rfl, Lib.hid q1, Lib.hid q2, Lib.hid q3, Lib.hid q4⟩
    refine AllReadyH.cons (o := { dst := some 5, op := Op.alloc 169, type := 0, pos := "trial.go:140", after := #[], guard := none }) rfl (fun K hK => ?_) AllReadyH.nil
    go_simp
    have HXA := Lib.hid (show BoxC (w2.drew.alloc (.cells #[.int .i64 0, .slice none 0 0, .slice none 0 0, .bool false] 169)) w2.heap.size #[.int .i64 0, .slice none 0 0, .slice none 0 0, .bool false] 169 from BoxC.new w2.drew _ _)
    have HB6 := Lib.hid (step_below hHeld (bl1 w2.drew (.cells #[.int .i64 0, .slice none 0 0, .slice none 0 0, .bool false] 169)))
    refine hK.out _ _ HB6.out (fun hHeldn => ?_)
    clear hK K hHeld; have hHeld := hHeldn; clear hHeldn
    try simp only [Act.put, List.setIfInBounds_toArray, List.set_cons_zero, List.set_cons_succ]
    refine wpAnyH_ready (rs := [8]) (by kernel_rfl) (by simp) ?_
    refine AllReadyH.cons (o := { dst := some 19, op := Op.call { callee := Callee.value (Operand.func 141), args := #[Operand.tmp 17, Operand.tmp 18], argTypes := #[24, 74] }, type := 215, pos := "trial.go:140", after := #[{ on := 6, ground := Ground.data }, { on := 7, ground := Ground.data }], guard := none }) rfl (fun K hK => ?_) AllReadyH.nil
    go_simp
    refine (range_law m.j o HRN.out _ (HMD.out.below hHeld).st.now.job (HOP.out.below hHeld)).mono ?_; rintro r w5 ⟨⟨fa, fc, ta, tc, rfl, hlf, hlu⟩, hb5⟩
    have HLF := Lib.hid (And.intro hlf hlu)
    have HB5 := Lib.hid (step_below hHeld hb5)
    have HB25 := Lib.hid hb5
    clear hlf hlu hb5
    go_wp2_with fail
    refine hK.out _ _ HB5.out (fun hHeldn => ?_)
    clear hK K hHeld; have hHeld := hHeldn; clear hHeldn
    try simp only [Act.put, List.setIfInBounds_toArray, List.set_cons_zero, List.set_cons_succ]
    refine tp 9 ?_ rfl (.inl ⟨by rfl, ?_⟩) ?_
    rotate_left
    · intro W hSw; go_simp; try with_reducible rfl
    refine tp 10 ?_ rfl (.inl ⟨by rfl, ?_⟩) ?_
    rotate_left
    · intro W hSw; go_simp; try with_reducible rfl
    refine tp 11 ?_ rfl (.inl ⟨by rfl, ?_⟩) ?_
    rotate_left
    · intro W hSw; go_simp; try with_reducible rfl
    refine wpAnyH_ready (rs := [13]) (by kernel_rfl) (by simp) ?_
    refine AllReadyH.cons (o := { dst := none, op := Op.store 169 (Operand.tmp 5) (Operand.tmp 20), type := 0, pos := "trial.go:140", after := #[{ on := 12, ground := Ground.data }, { on := 10, ground := Ground.data }, { on := 8, ground := Ground.chain }, { on := 0, ground := Ground.phase }, { on := 1, ground := Ground.phase }, { on := 2, ground := Ground.phase }, { on := 3, ground := Ground.phase }, { on := 4, ground := Ground.phase }, { on := 5, ground := Ground.phase }, { on := 6, ground := Ground.phase }, { on := 7, ground := Ground.phase }, { on := 8, ground := Ground.phase }, { on := 9, ground := Ground.phase }, { on := 10, ground := Ground.phase }, { on := 11, ground := Ground.textOnly Departure.lateStores }, { on := 12, ground := Ground.phase }], guard := none }) rfl (fun K hK => ?_) AllReadyH.nil
    have hbx := (HXA.out.below HB25.out)
    have x0 := hbx.cell 0
    have x1 := hbx.cell 1
    have x2 := hbx.cell 2
    have x3 := hbx.cell 3
    have f0 := hbx.frozen 0
    have f1 := hbx.frozen 1
    have f2 := hbx.frozen 2
    have f3 := hbx.frozen 3
    simp only [List.getElem?_toArray, List.getElem?_cons_zero, List.getElem?_cons_succ] at x0 x1 x2 x3
    go_simp
    have h0 := set4b HB5.out (HXA.out.below HB25.out) (Nat.le_refl w2.heap.size) (rngV m.j o).1 fa (rngV m.j o).2.1 fc ta (rngV m.j o).2.2.1 tc (rngV m.j o).2.2.2.1 HLF.out.1 HLF.out.2
    have HQ := Lib.hid h0
    refine hK.out _ _ h0.1 (fun hHeldn => ?_)
    clear h0 hbx x0 x1 x2 x3 f0 f1 f2 f3
    clear hK K hHeld; have hHeld := hHeldn; clear hHeldn
    try simp only [Act.put, List.setIfInBounds_toArray, List.set_cons_zero, List.set_cons_succ]
    refine tp 14 ?_ rfl (.inl ⟨by rfl, ?_⟩) ?_
    rotate_left
    · intro W hSw; go_simp; try with_reducible rfl
    refine wpAnyH_done (by kernel_rfl) ?_ _
    obtain ⟨q1, q2, q3, q4⟩ := HQ.out
    go_wp2_with fail
    go_meet
    exact ⟨_, fa, fc, ta, tc, rfl, Lib.hid q1, Lib.hid q2, Lib.hid q3, Lib.hid q4⟩
  case rest =>
  obtain ⟨bx, fa, fc, ta, tc, rfl, HB3, HSP, HLF, HLU⟩ := hcut
  have HBW := Lib.hid (HH.out.2.2.1.trans (HB3.out.mono HH.out.2.2.1.size))
  have HB23 := Lib.hid HB3.out.size
  have hop := (HH.out.2.2.2 wc HB3.out).1
  have c1 := hop.cell 1
  simp only [List.getElem?_toArray, List.getElem?_cons_zero, List.getElem?_cons_succ] at c1
  rw [HO.out.te] at c1
  clear hop
  go_wp2_with fail
  refine (tpairs_law (HH.out.1.below HBW.out) t HO.out.tl HF.out).mono ?_; rintro r w6 ⟨a6, c6, P, rfl, hb6, hP, hok, hPc, hPn, hPl, hst⟩
  have HB6 := Lib.hid (HBW.out.trans (hb6.mono HBW.out.size))
  have HB36 := Lib.hid (HB3.out.trans (hb6.mono HB3.out.size))
  have HSP6 := Lib.hid (HSP.out.below hb6)
  have HLF6 := Lib.hid (HLF.out.below hb6)
  have HLU6 := Lib.hid (HLU.out.below hb6)
  have HPM := Lib.hid hP
  have HPO := Lib.hid hok
  have HST := Lib.hid hst
  have HPR := Lib.hid (hst (fun _ => False) (fun _ h => h.elim)).now
  obtain ⟨n, hn⟩ : ∃ n, P.length = n := ⟨_, rfl⟩
  rw [hn] at hPl ⊢
  have HN := Lib.hid hn
  have HLN := Lib.hid (show ∀ k, ((P.take k).map enP).length = min k n from fun k => by rw [List.length_map, List.length_take, HN.out])
  have hni : (n : Int) ≤ 1000000 := by omega
  clear hb6 hP hok hPc hPn hst hn c1
  go_wp2_with fail
  go_loopw [7, 27] (fun v i wr => ∃ k : Nat, k ≤ n ∧ i = .int .i64 (k : Int) ∧ Hid (wr.ownsRow w6.heap.size 149 3 v k (cellsOf ecl ((P.take k).map enP))) ∧ Hid (Below w6.heap.size w6 wr)) (fun _ i _ => n - (intOf i).toNat)
  case atStart => exact ⟨0, by omega, rfl, Lib.hid (World.ownsRow_nil _ _ _ _), Lib.hid (Below.refl _ _)⟩
  case round =>
    obtain ⟨k, hk, rfl, HOV, HBR⟩ := hrel
    obtain ⟨va, vc, hv⟩ := own_form22 HOV.out
    subst hv
    by_cases hlt : k < n
    · have d1 : (k : Int) < (n : Int) := by omega
      obtain ⟨p, hp⟩ : ∃ p, P[k]? = some p := ⟨_, List.getElem?_eq_getElem (by rw [HN.out]; exact hlt)⟩
      obtain ⟨b1, o1, ea, p0, p1, _, _⟩ := (HPR.out.below HBR.out) k p hp
      subst ea
      have HTK := Lib.hid (show (P.take (k + 1)).map enP = (P.take k).map enP ++ [enP p] by rw [List.take_add_one, hp, List.map_append]; rfl)
      have hap : k + 1 ≤ 2097152 := by omega
      have hsz : w6.heap.size ≤ wr.heap.size := HBR.out.size
      clear hp
      have HBE := Lib.hid (step_below HBR.out (step_below (bl1 wr (.cells #[.slice p.ka p.K.length p.kc, .slice p.ra p.R.length p.rc] 78)) (bl1 (wr.alloc (.cells #[.slice p.ka p.K.length p.kc, .slice p.ra p.R.length p.rc] 78)) (.cells #[.slice p.ka p.K.length p.kc, .slice p.ka p.K.length p.kc, .slice p.ra p.R.length p.rc] 149))))
      have HOE := Lib.hid (((HOV.out.alloc (.cells #[.slice p.ka p.K.length p.kc, .slice p.ra p.R.length p.rc] 78)).alloc (.cells #[.slice p.ka p.K.length p.kc, .slice p.ka p.K.length p.kc, .slice p.ra p.R.length p.rc] 149)))
      have HCE := Lib.hid (cells_new (wr.alloc (.cells #[.slice p.ka p.K.length p.kc, .slice p.ra p.R.length p.rc] 78)) #[.slice p.ka p.K.length p.kc, .slice p.ka p.K.length p.kc, .slice p.ra p.R.length p.rc] 149 (ecl (enP p)) rfl)
      rw [World.size_alloc] at HCE
      go_wp2_with (at_builtin; refine append_cells ae_entry rfl _ _ rfl w6.heap.size (.slice va k vc) k (cellsOf ecl ((P.take k).map enP)) rfl HOE.out ⟨wr.heap.size + 1, 0, none⟩ 1 1 (ecl (enP p)) rfl rfl HCE.out (ecl_one (enP p)) hap HBE.out.size ?_; intro v8 w8 hown8 hgrow8 _; have HO8 := Lib.hid hown8; have HG8 := Lib.hid hgrow8; have HB8 := Lib.hid (Off.below HBE.out (Off.of_row hgrow8) HBE.out.size (fun k hk => (own_blk HOV.out hk).1)); clear hown8 hgrow8)
      go_roundw
      case rel =>
        exact ⟨k + 1, by omega, by go_num, Lib.hid (by rw [HTK.out, cellsOf_append]; exact HO8.out), HB8⟩
      case measure => simp [intOf]; omega
    · have d1 : ¬ (k : Int) < (n : Int) := by omega
      have hke : k = n := by omega
      have HTK := Lib.hid (show (P.take k).map enP = P.map enP by rw [List.take_of_length_le (by rw [HN.out]; omega)])
      have HLE := Lib.hid (show (P.map enP).length = k by rw [List.length_map, HN.out, hke])
      have ho := HOV.out
      rw [HTK.out] at ho
      have HEN := Lib.hid (own_ens ho HLE.out (fun e he => by
        obtain ⟨q, hq, rfl⟩ := List.mem_map.1 he
        obtain ⟨i, hi⟩ := List.mem_iff_getElem?.1 hq
        obtain ⟨_, _, _, _, _, l, r⟩ := (HPR.out.below HBR.out) i q hi
        exact ⟨l, l, r⟩))
      have HB3R := Lib.hid (HB36.out.trans (HBR.out.mono HB36.out.size))
      have hop := (HH.out.2.2.2 wr HB3R.out).1
      have c5 := hop.cell 5
      have hsp := HSP6.out.below HBR.out
      have s0 := hsp.cell 0
      have s1 := hsp.cell 1
      have s2 := hsp.cell 2
      have s3 := hsp.cell 3
      simp only [List.getElem?_toArray, List.getElem?_cons_zero, List.getElem?_cons_succ] at c5 s0 s1 s2 s3
      have h3 : kf o.k 3 = true := by rw [kf3_eq, HK5.out]; rfl
      have h4 : kf o.k 4 = false := by rw [kf4_eq, HK5.out]; rfl
      have hrg : rngV m.j o = ((trV m.j o.t (-1)).1, o.K, o.T, decide (0 < o.tn), 0) := by
        unfold rngV
        rw [HO.out.po, h3, h4]; rfl
      have HRG := Lib.hid hrg
      have hmo := pO_most HO.out.po h3
      have hca := HO.out.at'.now
      have HWI := Lib.hid (within22_law (rngV m.j o).1 fa ta _ fc _ tc (rngV m.j o).2.1 (rngV m.j o).2.2.1 (rngV m.j o).2.2.2.1 o.m (by omega) rfl rfl (by rw [hrg]; exact hca.kb) (by rw [hrg]; exact hca.tb) va k vc (P.map enP) HLE.out (by omega) (fun e he => by
        obtain ⟨q, hq, rfl⟩ := List.mem_map.1 he
        exact (HPO.out q hq).1.1) wr (HLF6.out.below HBR.out) (HLU6.out.below HBR.out) HEN.out)
      clear ho hop hsp h3 h4 hrg hmo hca hke
      go_wp2_with fail
      refine HWI.out.mono ?_; rintro r w3 ⟨a9, c9, rfl, hb9, hc9, hn9, ho9⟩
      have HZM := Lib.hid (winG_mem EnV.K (rngV m.j o).2.1 (rngV m.j o).2.2.1 (rngV m.j o).2.2.2.1 o.m (P.map enP) [])
      have HZP := Lib.hid (show (winG EnV.K (rngV m.j o).2.1 (rngV m.j o).2.2.1 (rngV m.j o).2.2.2.1 o.m (P.map enP) []).map (fun e => prC e.p) = winG Prod.fst o.K o.T (decide (0 < o.tn)) o.m (x.T m t) [] by
        rw [winG_map (fun e : EnV => prC e.p) EnV.K Prod.fst _ _ _ _ _ _ (fun e he => by obtain ⟨q, hq, rfl⟩ := List.mem_map.1 he; rfl), List.map_map, HRG.out]
        rw [show ((fun e : EnV => prC e.p) ∘ enP) = prC from rfl, HPM.out]
        rfl)
      obtain ⟨Z, hZ⟩ : ∃ Z, winG EnV.K (rngV m.j o).2.1 (rngV m.j o).2.2.1 (rngV m.j o).2.2.2.1 o.m (P.map enP) [] = Z := ⟨_, rfl⟩
      have HZL := Lib.hid (show Z.length ≤ 1000000 by have := winG_len EnV.K (rngV m.j o).2.1 (rngV m.j o).2.2.1 (rngV m.j o).2.2.2.1 o.m (P.map enP) []; rw [hZ, HLE.out] at this; simp at this; omega)
      rw [hZ] at HZM HZP hc9 ho9 ⊢
      have HB1R := Lib.hid ((HH.out.2.2.2 wr HB3R.out).2.lt)
      have HO9 := Lib.hid ho9
      have HB9 := Lib.hid hb9
      have HBT := Lib.hid (HB6.out.trans ((step_below HBR.out hb9).mono HB6.out.size))
      have HB3 := Lib.hid ((HH.out.2.2.2 wr HB3R.out).2.below hb9)
      have HB2 := Lib.hid ((HH.out.2.2.2 w2 (Below.refl _ _)).2.lt)
      have HWC := Lib.hid (show w2.heap.size ≤ wc.heap.size from HB23.out)
      clear hZ hb9 hc9 hn9 ho9 c5 s0 s1 s2 s3
      have g0 := HB3.out.cell 0
      have g1 := HB3.out.cell 1
      have i0 := HB3.out.frozen 0
      have i1 := HB3.out.frozen 1
      simp only [List.getElem?_toArray, List.getElem?_cons_zero, List.getElem?_cons_succ] at g0 g1
      go_wp2_with fail
      clear g0 g1 i0 i1
      have hb4 := BoxC.set2 (x := .int .i64 0) (y := .slice a9 Z.length c9) HB3.out
      have ho4 : Off (fun k => k = w.heap.size + 1) w3 ((w3.setCell ⟨w.heap.size + 1, 0, none⟩ (.int .i64 0)).setCell ⟨w.heap.size + 1, 1, none⟩ (.slice a9 Z.length c9)) :=
        Off.set (S := fun k => k = w.heap.size + 1) (Off.set (S := fun k => k = w.heap.size + 1) (Off.refl _ w3) ⟨w.heap.size + 1, 0, none⟩ rfl _) ⟨w.heap.size + 1, 1, none⟩ rfl _
      revert hb4 ho4
      generalize (w3.setCell ⟨w.heap.size + 1, 0, none⟩ (.int .i64 0)).setCell ⟨w.heap.size + 1, 1, none⟩ (.slice a9 Z.length c9) = w4
      intro hb4 ho4
      have q0 := hb4.cell 0
      have q1 := hb4.cell 1
      have HO4 := Lib.hid ho4
      clear hb4 ho4
      refine bodyPost_end (v := .agg #[.int .i64 0, .slice a9 Z.length c9]) (by simp [results, Tryz.results127, go_sem, q0, q1]) rfl ?_
      have hzp : ∀ e ∈ Z, ∃ q ∈ P, enP q = e := fun e he => by
        rcases HZM.out e he with h | h
        · exact List.mem_map.1 h
        · cases h
      have hl9 : (Z.map EnV.p).length = Z.length := List.length_map _
      have hzl : Z.length ≤ 1000000 := HZL.out
      refine ⟨S, x, ⟨0, a9, c9, Z.map EnV.p⟩, by rw [hl9], TSt.same HH.out.1 (Off.below HBT.out HO4.out HBT.out.size (fun k hk => by cases hk; omega)), ?_, ⟨by rw [hl9]; exact hzl, fun p hp => ?_⟩, ?_, rfl⟩
      · show ((0 : Int), (Z.map EnV.p).map prC) = _
        rw [List.map_map]
        rw [show (prC ∘ EnV.p) = fun e : EnV => prC e.p from rfl, HZP.out]
      · obtain ⟨e, he, rfl⟩ := List.mem_map.1 hp
        obtain ⟨q, hq, rfl⟩ := hzp e he
        have := HPO.out q hq
        exact ⟨this.1.1, rOk_byt this.2, by have h2 := this.2.2.1; rw [List.length_map] at h2; show q.R.length ≤ 1000000; omega⟩
      · have hbd9 : ∀ k, (fun k => S k ∨ k = w.heap.size + 1) k → k < wc.heap.size := fun k hk => by
          rcases hk with hk | rfl
          · exact Nat.lt_of_lt_of_le (HH.out.1.bd k hk) HBW.out.size
          · exact Nat.lt_of_lt_of_le HB2.out HWC.out
        have h9 := ((HST.out _ hbd9).below (step_below HBR.out HB9.out)).off (HO4.out.mono fun k hk => .inr hk)
        intro W' o'
        have hrow := own_off22 (own_off22 HO9.out HO4.out (fun k hk => by cases hk; exact HB1R.out)) o' (fun k hk => Nat.lt_of_lt_of_le (HH.out.1.bd k hk) (Nat.le_trans HB6.out.size HBR.out.size))
        have hrow : W'.ownsRow wr.heap.size 78 2 (.slice a9 (Z.map EnV.p).length c9) (Z.map EnV.p).length (prcells (Z.map EnV.p)) := by rw [hl9]; exact hrow
        refine prs_own hrow rfl (fun p hp => ?_)
        obtain ⟨e, he, rfl⟩ := List.mem_map.1 hp
        obtain ⟨q, hq, rfl⟩ := hzp e he
        obtain ⟨i, hi⟩ := List.mem_iff_getElem?.1 hq
        obtain ⟨_, _, _, _, _, l, r⟩ := (h9.less (fun k hk => .inl hk)) W' o' i q hi
        exact ⟨l, r⟩
end Go.Proofs.YthmofoldmdafoaaGreat
namespace Go.Proofs.YthmofoldmdafoaaGreat
open Go.ChangeShapes Go.WideShapes Go.ChangeAt Go.RowKit Go.Shelf
set_option linter.unusedVariables false
set_option linter.unusedSimpArgs false

/-- What a row's entries are, owned. -/
def EnQ (base : Nat) (V : List (Int × List Int) × Int) (r : Ending) (w' : World) : Prop := ∃ (a : Option Addr) (c : Nat) (L : List E1), r = .returned (.tuple #[.slice a V.1.length c, .int .i64 V.2]) ∧ enS L = V.1 ∧ w'.ownsRow base 192 2 (.slice a V.1.length c) V.1.length (ev L) ∧ ∀ p ∈ L, w'.ownsRow base 5 1 p.2.v p.2.bs.length (iv .u8 p.2.bs)
theorem enQ_none (base : Nat) (w' : World) {V : List (Int × List Int) × Int} (h : V = ([], 2)) : EnQ base V (.returned (.tuple #[.slice none 0 0, .int .i64 2])) w' := by
  subst h
  exact ⟨none, 0, [], rfl, rfl, World.ownsRow_nil _ _ _ _, fun p hp => by simp at hp⟩
set_option maxRecDepth 100000 in
set_option maxHeartbeats 4000000 in
theorem entriesq_law (j : Job) (t : Int) (ka : Option Addr) (K : List Int) (kn kc : Nat) (ra : Option Addr) (R : List P1) (rn rc : Nat) (hK : K.length = kn) (hR : R.length = rn) (hrn : rn ≤ 1000000) (w : World) (hj : JobAt w j) (hk : Ls .u8 w ka kc K) (hr : RdR w ra R) :
    Calls Tryz.prog 118 #[.agg #[.int .i64 j.w, .int .i64 j.l, .int .i64 j.d, .int .i64 j.c, .int .i64 j.k, .int .i64 j.e, .slice j.a j.n j.cap], .int .i64 t, .slice ka kn kc, .slice ra rn rc] w fun r w' => EnQ w.heap.size (entV j t R K) r w' ∧ Below w.heap.size w w' := by
  obtain ⟨i0, hi, hz0, hz1, hz2⟩ := info_parts info91
  have HJ := Lib.hid hj
  have HKK := Lib.hid hk
  have HRR := Lib.hid hr
  have HK := Lib.hid hK
  have HR := Lib.hid hR
  have HTR := Lib.hid (fun W (h : JobAt W j) => tree_law j t (-1) W h)
  have HF := Lib.hid (fun (h : (trV j t (-1)).2.2.2 = true) => trV_facts hj.len h)
  have HV := Lib.hid (show entV j t R K = if (trV j t (-1)).2.2.2 && mayK K.length && rowOk R then (entL (trV j t (-1)).1.toNat (min (j.T.getD t.toNat 0).toNat (R.length - 1)) R K, 0) else ([], 2) from rfl)
  have hri : (rn : Int) ≤ 1000000 := by omega
  have hB1 : Below w.heap.size w (w.alloc (.cells #[.int .i64 j.w, .int .i64 j.l, .int .i64 j.d, .int .i64 j.c, .int .i64 j.k, .int .i64 j.e, .slice j.a j.n j.cap] 24)) := (Below.refl _ _).alloc (Nat.le_refl _) _
  have HB1 := Lib.hid hB1
  have hbj := BoxC.new w #[.int .i64 j.w, .int .i64 j.l, .int .i64 j.d, .int .i64 j.c, .int .i64 j.k, .int .i64 j.e, .slice j.a j.n j.cap] 24
  clear hj hk hr hK hR hB1
  generalize trV j t (-1) = V at HTR HF HV
  obtain ⟨f, t0, ix, ok⟩ := V
  simp only at HTR HF HV
  cases ok
  · have HN := Lib.hid (show entV j t R K = ([], 2) from HV.out)
    try simp only [Bool.false_eq_true, ↓reduceIte] at HTR
    clear HF HV hbj
    go_enter Tryz.func118, Tryz.ntmps118
    go_wp2_with fail
    refine (HTR.out _ (HJ.out.below HB1.out)).mono ?_; rintro r w2 ⟨rfl, B2⟩
    have HB2 := Lib.hid (step_below HB1.out B2)
    clear B2
    go_wp2_with fail
    go_ret2
    exact ⟨enQ_none _ _ HN.out, HB2.out⟩
  · obtain ⟨k, f, rfl, hkT, hok, hf12, hfe⟩ := HF.out rfl
    try simp only at hfe
    subst hfe
    try simp only [↓reduceIte] at HTR
    have hT := Lib.hid (okB_T hok)
    have hxx := okB_T hok k hkT
    obtain ⟨x, hx⟩ : ∃ x : Nat, j.T.getD k 0 = (x : Int) := ⟨(j.T.getD k 0).toNat, by omega⟩
    have hx2 : x ≤ 2 := by omega
    have hx2i : (x : Int) ≤ 2 := by omega
    have hkn : (k : Int) < (j.n : Int) := by rw [← HJ.out.len]; omega
    obtain ⟨b1, o1, ea, d1⟩ := (HJ.out.ls).get k hkT
    rw [hx] at d1
    have D1 := Lib.hid d1
    have HVV := Lib.hid (show mayK kn = true → rowOk R = true → entV j (k : Int) R K = (entL f (min x (rn - 1)) R K, 0) from fun h1 h2 => by
      rw [HV.out, HK.out, h1, h2, HR.out, Int.toNat_natCast, Int.toNat_natCast, hx, Int.toNat_natCast]
      rfl)
    have HVN := Lib.hid (show mayK kn = false ∨ rowOk R = false → entV j (k : Int) R K = ([], 2) from fun h => by
      rw [HV.out, HK.out]
      rcases h with h | h
      · rw [h]; simp
      · rw [h]; simp)
    have hfi : (f : Int) ≤ 12 := by omega
    clear HF hxx hx hok HV
    have c6 := hbj.cell 6
    simp only [List.getElem?_toArray, List.getElem?_cons_zero, List.getElem?_cons_succ] at c6
    have HEA := Lib.hid ea
    have C6 := Lib.hid c6
    clear hbj c6 hkT ea d1
    cases hmk : mayK kn
    · have HN := Lib.hid (HVN.out (.inl hmk))
      have HMK := Lib.hid hmk
      clear HVV HVN hmk
      go_enter Tryz.func118, Tryz.ntmps118
      go_wp2_with fail
      refine (HTR.out _ (HJ.out.below HB1.out)).mono ?_; rintro r w2 ⟨rfl, B2⟩
      have HB2 := Lib.hid (step_below HB1.out B2)
      clear B2
      go_wp2_with fail
      refine (maykey_law _ _ _ _).mono ?_; rintro r w3 ⟨rfl, rfl⟩
      rw [HMK.out]
      go_wp2_with fail
      go_ret2
      exact ⟨enQ_none _ _ HN.out, HB2.out⟩
    cases hro : rowOk R
    · have HN := Lib.hid (HVN.out (.inr hro))
      have HMK := Lib.hid hmk
      have hro2 : 0 < rn ∧ mayR R = false := by
        unfold rowOk at hro
        simp at hro
        exact ⟨by rw [← HR.out]; exact List.length_pos_iff.2 hro.1, hro.2⟩
      have hrn0 : (0 : Int) < (rn : Int) := by omega
      have HMR := Lib.hid (fun W (b : RdR W ra R) => by have := mayr_law ra R rn rc HR.out hrn W b; rwa [hro2.2] at this)
      clear HVV HVN hmk hro hro2
      go_enter Tryz.func118, Tryz.ntmps118
      go_wp2_with fail
      refine (HTR.out _ (HJ.out.below HB1.out)).mono ?_; rintro r w2 ⟨rfl, B2⟩
      have HB2 := Lib.hid (step_below HB1.out B2)
      clear B2
      go_wp2_with fail
      refine (maykey_law _ _ _ _).mono ?_; rintro r w3 ⟨rfl, rfl⟩
      rw [HMK.out]
      go_wp2_with fail
      refine (HMR.out _ (HRR.out.below HB2.out)).mono ?_; rintro r w3 ⟨rfl, B3⟩
      have HB3 := Lib.hid (step_below HB2.out B3)
      clear B3
      go_wp2_with fail
      go_ret2
      exact ⟨enQ_none _ _ HN.out, HB3.out⟩
    · have HN := Lib.hid (HVV.out hmk hro)
      have HMK := Lib.hid hmk
      clear HVV HVN hmk
      rcases (show rn = 0 ∨ (0 < rn ∧ mayR R = true) by
        unfold rowOk at hro
        simp at hro
        rcases hro with h | h
        · left; rw [← HR.out, h]; rfl
        · right; exact ⟨by rw [← HR.out]; exact ((mayR_iff R).1 h).2.1, h⟩) with hr0 | ⟨hr0, hmr⟩
      · subst hr0
        have HN2 := Lib.hid (show entV j (k : Int) R K = ([], 0) by rw [HN.out]; simp [entL])
        clear hro HN
        go_enter Tryz.func118, Tryz.ntmps118
        go_wp2_with fail
        refine (HTR.out _ (HJ.out.below HB1.out)).mono ?_; rintro r w2 ⟨rfl, B2⟩
        have c6 := (B2.cell (p := ⟨w.heap.size, 6, none⟩) (by simp)).trans C6.out
        rw [HEA.out] at c6
        have d2 := ((step_below HB1.out B2).cell (p := ⟨b1, o1 + k, none⟩) (World.block_lt_of_cell? w _ D1.out)).trans D1.out
        have HB2 := Lib.hid (step_below HB1.out B2)
        clear B2
        go_wp2_with fail
        refine (maykey_law _ _ _ _).mono ?_; rintro r w3 ⟨rfl, rfl⟩
        rw [HMK.out]
        go_wp2_with fail
        go_loopw [12, 44] (fun v i wr => ∃ m : Nat, m ≤ x ∧ i = .int .i64 (m : Int) ∧ v = .slice none 0 0 ∧ wr = w2) (fun _ i _ => x - (intOf i).toNat)
        case atStart => exact ⟨0, by omega, rfl, rfl, rfl⟩
        case round =>
          obtain ⟨m, hm, rfl, rfl, rfl⟩ := hrel
          by_cases hlt : m < x
          · have hml : (m : Int) < (x : Int) := by omega
            have hm1 : ¬ (m : Int) + 1 < 0 := by omega
            go_wp2_with fail
            go_roundw
            case rel => exact ⟨m + 1, by omega, by go_num, rfl, trivial⟩
            case measure => simp [intOf]; omega
          · have hml : ¬ (m : Int) < (x : Int) := by omega
            go_wp2_with fail
            go_ret2
            exact ⟨by rw [HN2.out]; exact ⟨none, 0, [], rfl, rfl, World.ownsRow_nil _ _ _ _, fun p hp => by simp at hp⟩, HB2.out⟩
      · have hrn0 : (0 : Int) < (rn : Int) := by omega
        have HMR := Lib.hid (fun W (b : RdR W ra R) => by have := mayr_law ra R rn rc HR.out hrn W b; rwa [hmr] at this)
        have HM := Lib.hid ((mayR_iff R).1 hmr)
        have hrn3 : rn ≤ 3 := by have := HM.out.2.2; rw [HR.out] at this; exact this
        clear hro hmr
        go_enter Tryz.func118, Tryz.ntmps118
        go_wp2_with fail
        refine (HTR.out _ (HJ.out.below HB1.out)).mono ?_; rintro r w2 ⟨rfl, B2⟩
        have c6' := (B2.cell (p := ⟨w.heap.size, 6, none⟩) (by simp)).trans C6.out
        rw [HEA.out] at c6'
        have HB2 := Lib.hid (step_below HB1.out B2)
        have hlw : w.heap.size < w2.heap.size := by have := B2.size; simp at this; omega
        clear B2
        go_wp2_with fail
        refine (maykey_law _ _ _ _).mono ?_; rintro r w3 ⟨rfl, rfl⟩
        rw [HMK.out]
        go_wp2_with fail
        refine (HMR.out _ (HRR.out.below HB2.out)).mono ?_; rintro r w3 ⟨rfl, B3⟩
        have c6 := (B3.cell (p := ⟨w.heap.size, 6, none⟩) hlw).trans c6'
        have d2 := ((step_below HB2.out B3).cell (p := ⟨b1, o1 + k, none⟩) (World.block_lt_of_cell? w _ D1.out)).trans D1.out
        have HB3 := Lib.hid (step_below HB2.out B3)
        clear B3 c6'
        go_wp2_with fail
        go_loopw [12, 44] (fun v i wr => ∃ m : Nat, m ≤ x ∧ i = .int .i64 (m : Int) ∧ EnI w.heap.size f (min m (rn - 1)) R K v wr ∧ Below w.heap.size w wr) (fun _ i _ => x - (intOf i).toNat)
        case atStart => exact ⟨0, by omega, rfl, ⟨[], by simp [enS, entL], by rw [Nat.zero_min]; exact World.ownsRow_nil _ _ _ _, fun p hp => by simp at hp⟩, HB3.out⟩
        case round =>
          clear c6 d2
          obtain ⟨m, hm, rfl, hI, B⟩ := hrel
          by_cases hlt : m < x
          · have hml : (m : Int) < (x : Int) := by omega
            have hmi : (m : Int) ≤ 2 := by omega
            have BB := Lib.hid B
            have HI := Lib.hid hI
            clear hI B
            by_cases hmr : m + 1 < rn
            · have hmrl : (m : Int) + 1 < (rn : Int) := by omega
              have hm0 : (0 : Int) ≤ (m : Int) + 1 := by omega
              have hmt : ((m : Int) + 1).toNat = m + 1 := by omega
              obtain ⟨p, hp⟩ : ∃ p, R[m + 1]? = some p := ⟨_, List.getElem?_eq_getElem (by rw [HR.out]; exact hmr)⟩
              obtain ⟨b2, o2, e2, c2, l2⟩ := HRR.out.below BB.out (m + 1) p hp
              subst e2
              have c3 : wr.cell? ⟨b2, o2 + (m + 1), none⟩ = some (.slice p.ad p.bs.length p.cap) := c2
              obtain ⟨q, hq⟩ : ∃ q, p.bs.length = q := ⟨_, rfl⟩
              rw [hq] at c3
              have hq24 : q ≤ 24 := by rw [← hq]; exact HM.out.1 p (List.mem_of_getElem? hp)
              have HE := Lib.hid (entry_own p.ad ka p.bs K q kn p.cap kc hq HK.out hq24 HMK.out wr l2 (HKK.out.below BB.out))
              have HG := Lib.hid (show ((R.map P1.bs).getD (m + 1) []) = p.bs by simp [List.getD, hp])
              obtain ⟨EL, hEL⟩ : ∃ E, entryL p.bs K = E := ⟨_, rfl⟩
              rw [hEL] at HE
              have hs1 := BB.out.size
              obtain ⟨el, hel⟩ : ∃ n, EL.length = n := ⟨_, rfl⟩
              rw [hel] at HE
              have HEL := Lib.hid (And.intro hEL hel)
              have hmin : min m (rn - 1) = m := by omega
              rw [hmin] at HI
              clear hp c2 l2 hq hEL hel hmin
              go_wp2_with fail
              refine HE.out.mono ?_; rintro r w4 ⟨a4, c4, rfl, o4, B4⟩
              obtain ⟨L, i1, i2, i3⟩ := (HI.out.below B4).ex
              have O4 := Lib.hid (own_base hs1 o4)
              have I1 := Lib.hid i1
              have I2 := Lib.hid i2
              have I3 := Lib.hid i3
              have hs4 : w.heap.size ≤ w4.heap.size := Nat.le_trans hs1 B4.size
              have HB4 := Lib.hid (step_below BB.out B4)
              have hsum : ((f + 1 + m : Nat) : Int) = (f : Int) + 1 + (m : Int) := by omega
              have HS := Lib.hid hsum
              clear o4 i1 i2 i3 B4 c3 hsum
              go_wp2_with (at_builtin; refine wpList_append_own _ rfl (.tmp 62) (.tmp 69) 188 rfl w.heap.size 192 i0 (.agg #[.int .i64 0, .slice none 0 0]) 2 32 Tryz.underlying188 hi hz0 hz1 hz2 rfl (by decide) _ m (ev L) rfl (I2.out.alloc _) ⟨w4.heap.size, 0, none⟩ 1 1 [.int .i64 ((f : Int) + 1 + (m : Int)), .slice a4 el c4] rfl rfl (cell_two_new _ _ _ _) (by intro u hu; simp at hu; rcases hu with rfl | rfl <;> rfl) (by unfold maxLen; omega) (by omega) (by simp; omega) ?_)
              intro v5 w5 hown5 hgrow5 _
              have keep : ∀ (y : Value) (n : Nat) (xs : List Value), w4.ownsRow w.heap.size 5 1 y n xs → w5.ownsRow w.heap.size 5 1 y n xs := fun y n xs hy => (hy.alloc _).kept hgrow5 (own_apart hy I2.out (by decide))
              have b5 : Below w.heap.size w4 w5 := ((Below.refl _ w4).alloc hs4 _).grown hgrow5 (by simp; omega) (fun j hj => (I2.out.lt j hj).1)
              have HI5 := Lib.hid (show EnI w.heap.size f (min (m + 1) (rn - 1)) R K v5 w5 by
                rw [show min (m + 1) (rn - 1) = m + 1 by omega]
                refine ⟨L ++ [(((f + 1 + m : Nat) : Int), ⟨a4, c4, EL⟩)], ?_, ?_, fun p hp => ?_⟩
                · rw [entL_succ, HG.out, HEL.out.1, ← I1.out]; simp [enS]
                · rw [ev_append, HS.out]
                  have e : ev [((f : Int) + 1 + (m : Int), (⟨a4, c4, EL⟩ : P1))] = [.int .i64 ((f : Int) + 1 + (m : Int)), .slice a4 el c4] := by simp [ev, P1.v, HEL.out.2]
                  rw [e]; exact hown5
                · rcases List.mem_append.1 hp with hp | hp
                  · exact keep _ _ _ (I3.out p hp)
                  · simp at hp
                    subst hp
                    have := keep _ _ _ O4.out
                    simpa [P1.v, HEL.out.2] using this)
              have HB5 := Lib.hid (HB4.out.trans b5)
              clear keep b5 hown5 hgrow5
              go_wp2_with fail
              go_roundw
              case rel => exact ⟨m + 1, by omega, by go_num, HI5.out, HB5.out⟩
              case measure => simp [intOf]; omega
            · have hmrl : ¬ (m : Int) + 1 < (rn : Int) := by omega
              have HI5 := Lib.hid (show EnI w.heap.size f (min (m + 1) (rn - 1)) R K _ wr by
                rw [show min (m + 1) (rn - 1) = min m (rn - 1) by omega]; exact HI.out)
              go_wp2_with fail
              go_roundw
              case rel => exact ⟨m + 1, by omega, by go_num, HI5.out, BB.out⟩
              case measure => simp [intOf]; omega
          · have hml : ¬ (m : Int) < (x : Int) := by omega
            obtain rfl : m = x := by omega
            obtain ⟨L, i1, i2, i3⟩ := hI.ex
            have hL : L.length = min m (rn - 1) := by have := congrArg List.length i1; simpa [enS, entL_length] using this
            obtain ⟨la, lc, hv⟩ := own_form22 i2
            subst hv
            have HE := Lib.hid (And.intro i2 i3)
            have I1 := Lib.hid i1
            have BB := Lib.hid B
            clear hI i1 i2 i3 B
            go_wp2_with fail
            go_ret2
            exact ⟨by rw [HN.out]; exact ⟨la, lc, L, by rw [entL_length]; rfl, I1.out, by rw [entL_length]; exact HE.out.1, HE.out.2⟩, BB.out⟩
end Go.Proofs.YthmofoldmdafoaaGreat
namespace Go.Proofs.YthmofoldmdafoaaGreat
open Go.ChangeShapes Go.WideShapes Go.ChangeAt Go.RowKit Go.Maps
set_option linter.unusedVariables false
set_option linter.unusedSimpArgs false
theorem split_entry : ∀ (f p k : List Int), (p ++ f).length ≤ 24 → mayK k.length = true → 1 ≤ k.length → splitL p (entryL f k) = some (p ++ f, k)
  | [], p, k, hl, hk, h1 => by
    simp only [entryL, frontL, List.nil_append, List.cons_append, splitL, if_true, List.append_nil] at hl ⊢
    rw [if_pos ⟨hl, hk⟩]
  | x :: f, p, k, hl, hk, h1 => by
    have ih := split_entry f (p ++ [x]) k (by simpa using hl) hk h1
    have e : entryL (x :: f) k = esc x ++ entryL f k := by simp [entryL, frontL]
    rw [e]
    unfold esc
    split
    · rename_i h0
      subst h0
      simp only [List.cons_append, List.nil_append, splitL, if_true, show ¬ (255 : Int) = 1 by decide, if_false]
      rw [ih]; simp
    · rename_i h0
      obtain ⟨y, s, hy⟩ : ∃ y s, entryL f k = y :: s := by
        cases h : entryL f k with
        | nil => have := congrArg List.length h; simp [entryL] at this
        | cons y s => exact ⟨y, s, rfl⟩
      rw [hy, List.cons_append, List.nil_append, splitL, if_neg h0, ← hy, ih]; simp
theorem splitV_entry (f k : List Int) (hf : f.length ≤ 24) (hk : mayK k.length = true) : splitV (entryL f k) = (f, k, 0) := by
  have h1 : 1 ≤ k.length := by unfold mayK at hk; simp at hk; exact hk.1
  rw [splitV, split_entry f [] k (by simpa using hf) hk h1]; rfl
theorem entryL_inj {f g k l : List Int} (hf : f.length ≤ 24) (hg : g.length ≤ 24) (hk : mayK k.length = true) (hl : mayK l.length = true) (h : entryL f k = entryL g l) : f = g ∧ k = l := by
  have h1 := splitV_entry f k hf hk
  rw [h, splitV_entry g l hg hl] at h1
  simp only [Prod.mk.injEq, and_true] at h1
  exact ⟨h1.1.symm, h1.2.symm⟩

/-- A row in plain words, as one that lies. -/
def ofP (R : List (List Int)) : List P1 := R.map fun b => ⟨none, 0, b⟩
theorem ofP_bs (R : List (List Int)) : (ofP R).map P1.bs = R := by
  unfold ofP
  rw [List.map_map]
  have : (P1.bs ∘ fun b : List Int => (⟨none, 0, b⟩ : P1)) = id := rfl
  rw [this, List.map_id]
theorem allB_ext {R R' : List P1} (h : R.map P1.bs = R'.map P1.bs) : allB R = allB R' := by
  have e : ∀ R : List P1, allB R = (R.map P1.bs).all fun b => decide (b.length ≤ 24) := fun R => by unfold allB; rw [List.all_map]; rfl
  rw [e, e, h]
theorem entV_ext (j : Job) (t : Int) {R R' : List P1} (h : R.map P1.bs = R'.map P1.bs) (K : List Int) : entV j t R K = entV j t R' K := by
  have hl : R.length = R'.length := by have := congrArg List.length h; simpa using this
  have e2 : ∀ f m, entL f m R K = entL f m R' K := fun f m => by unfold entL; rw [h]
  unfold entV rowOk mayR
  rw [hl, allB_ext h, e2]
theorem keyOk_mayK {K : List Int} (h : keyOk K) : mayK K.length = true := by unfold mayK; rw [decide_eq_true_eq]; exact h.2
/-- A pair's entries of one index. -/
def entP (j : Job) (t tr : Int) (p : Pr) : List (List Int × Pr) := ((entV j t (ofP p.2) p.1).1.filter fun e => decide (e.1 = tr)).map fun e => (e.2, p)
/-- A table's. -/
def lookU (j : Job) (t tr : Int) (T : List Pr) : List (List Int × Pr) := T.flatMap (entP j t tr)
/-- .. rising. -/
def lookE (j : Job) (t tr : Int) (T : List Pr) : List (List Int × Pr) := (lookU j t tr T).mergeSort fun a b => leL a.1 b.1
theorem entP_mem {j : Job} {t tr : Int} {p : Pr} (hk : keyOk p.1) (hr : rOk p.2) {e : List Int × Pr} (he : e ∈ entP j t tr p) : e.2 = p ∧ ∃ f : List Int, f.length ≤ 24 ∧ Byt f ∧ f ∈ p.2 ∧ e.1 = entryL f p.1 := by
  unfold entP at he
  obtain ⟨x, hx, rfl⟩ := List.mem_map.1 he
  have hx := (List.mem_filter.1 hx).1
  refine ⟨rfl, ?_⟩
  unfold entV at hx
  split at hx
  · unfold entL at hx
    obtain ⟨i, hi, rfl⟩ := List.mem_map.1 hx
    rw [List.mem_range] at hi
    rw [ofP_bs]
    have hl : (ofP p.2).length = p.2.length := List.length_map _
    rw [hl] at hi
    have hi2 : i + 1 < p.2.length := by omega
    have hm : p.2.getD (i + 1) [] ∈ p.2 := by
      rw [List.getD_eq_getElem?_getD, List.getElem?_eq_getElem hi2]; exact List.getElem_mem hi2
    exact ⟨_, (hr.2.2 _ hm).2, (hr.2.2 _ hm).1, hm, rfl⟩
  · cases hx
theorem entP_one {j : Job} {t tr : Int} {p : Pr} : (entP j t tr p).length ≤ 1 := by
  unfold entP
  rw [List.length_map]
  unfold entV
  split
  · unfold entL
    rw [List.filter_map, List.length_map]
    have hn : ∀ m, ((List.range m).filter ((fun e : Int × List Int => decide (e.1 = tr)) ∘ fun (i : Nat) => ((((trV j t (-1)).1.toNat + 1 + i : Nat) : Int), entryL (((ofP p.2).map P1.bs).getD (i + 1) []) p.1))).length ≤ 1 := fun m => by
      have hd : ((List.range m).filter ((fun e : Int × List Int => decide (e.1 = tr)) ∘ fun (i : Nat) => ((((trV j t (-1)).1.toNat + 1 + i : Nat) : Int), entryL (((ofP p.2).map P1.bs).getD (i + 1) []) p.1))).Nodup := List.Pairwise.filter _ List.nodup_range
      match hq : (List.range m).filter ((fun e : Int × List Int => decide (e.1 = tr)) ∘ fun (i : Nat) => ((((trV j t (-1)).1.toNat + 1 + i : Nat) : Int), entryL (((ofP p.2).map P1.bs).getD (i + 1) []) p.1)), hd with
      | [], _ => simp
      | [_], _ => simp
      | a :: b :: r, hd =>
        exfalso
        have ha : a ∈ (List.range m).filter ((fun e : Int × List Int => decide (e.1 = tr)) ∘ fun (i : Nat) => ((((trV j t (-1)).1.toNat + 1 + i : Nat) : Int), entryL (((ofP p.2).map P1.bs).getD (i + 1) []) p.1)) := by rw [hq]; simp
        have hb : b ∈ (List.range m).filter ((fun e : Int × List Int => decide (e.1 = tr)) ∘ fun (i : Nat) => ((((trV j t (-1)).1.toNat + 1 + i : Nat) : Int), entryL (((ofP p.2).map P1.bs).getD (i + 1) []) p.1)) := by rw [hq]; simp
        have ha := (List.mem_filter.1 ha).2
        have hb := (List.mem_filter.1 hb).2
        simp only [Function.comp, decide_eq_true_eq] at ha hb
        have : a = b := by omega
        subst this
        simp at hd
    exact hn _
  · simp
/-- No two entries of one index have one key. -/
theorem lookU_apart {j : Job} {t tr : Int} {T : List Pr} (hT : tOk T) : (lookU j t tr T).Pairwise fun a b => a.1 ≠ b.1 := by
  unfold lookU
  rw [List.pairwise_flatMap]
  refine ⟨fun p hp => ?_, ?_⟩
  · have := entP_one (j := j) (t := t) (tr := tr) (p := p)
    match hq : entP j t tr p, this with
    | [], _ => exact List.Pairwise.nil
    | [_], _ => simp
    | _ :: _ :: _, h => simp at h
  · refine List.Pairwise.imp_of_mem (fun {p q} hp hq hpq => ?_) hT.1
    intro a ha b hb e
    obtain ⟨_, f, hf, _, _, e1⟩ := entP_mem (hT.2 p hp).1 (hT.2 p hp).2 ha
    obtain ⟨_, g, hg, _, _, e2⟩ := entP_mem (hT.2 q hq).1 (hT.2 q hq).2 hb
    rw [e1, e2] at e
    have := (entryL_inj hf hg (keyOk_mayK (hT.2 p hp).1) (keyOk_mayK (hT.2 q hq).1) e).2
    rw [this, ltL_irr] at hpq
    cases hpq
theorem lookE_ris {j : Job} {t tr : Int} {T : List Pr} (hT : tOk T) : Ris Prod.fst (lookE j t tr T) := by
  refine ris_of_le ((List.pairwise_mergeSort (fun a b c => leL_trans a.1 b.1 c.1) (fun a b => leL_total a.1 b.1) _).imp fun {a b} h => by unfold leL at h; simpa using h) ?_
  exact apart_perm (List.mergeSort_perm _ _).symm (lookU_apart hT)
/-- Any rising order of a table's entries is the same. -/
theorem lookE_eq {j : Job} {t tr : Int} {T : List Pr} (hT : tOk T) {E : List (List Int × Pr)} (hp : E.Perm (lookU j t tr T)) (hs : E.Pairwise fun a b => ltL b.1 a.1 = false) : E = lookE j t tr T :=
  ris_perm (ris_of_le hs (apart_perm hp.symm (lookU_apart hT))) (lookE_ris hT) (hp.trans (List.mergeSort_perm _ _).symm)
end Go.Proofs.YthmofoldmdafoaaGreat
namespace Go.Proofs.YthmofoldmdafoaaGreat
open Go.ChangeShapes Go.WideShapes Go.ChangeAt Go.RowKit Go.Maps
set_option linter.unusedVariables false
set_option linter.unusedSimpArgs false

theorem Off.trans2 {T R : Nat → Prop} {W W' W'' : World} (h : Off T W W') (k : Off R W' W'') (hr : ∀ b, R b → T b ∨ W.heap.size ≤ b) : Off T W W'' :=
  ⟨k.os.trans h.os, k.tape.trans h.tape, k.output.trans h.output, Nat.le_trans h.size k.size, fun i hi hs => (k.block i (Nat.lt_of_lt_of_le hi h.size) (fun e => (hr i e).elim hs (fun hh => by omega))).trans (h.block i hi hs)⟩
theorem front_byt : ∀ {f : List Int}, Byt f → Byt (frontL f)
  | [], _ => fun x hx => by simp [frontL] at hx
  | a :: f, h => by
    have ih := front_byt (f := f) fun x hx => h x (List.mem_cons_of_mem _ hx)
    have ha := h a (List.mem_cons_self ..)
    have e : frontL (a :: f) = esc a ++ frontL f := by rw [show a :: f = [a] ++ f from rfl, frontL_append, frontL_one]
    rw [e]
    refine Byt.append ?_ ih
    unfold esc
    intro x hx
    split at hx
    · simp at hx; rcases hx with rfl | rfl <;> omega
    · simp at hx; subst hx; exact ha
theorem entryL_byt {f K : List Int} (hf : Byt f) (hK : Byt K) : Byt (entryL f K) := by
  unfold entryL
  refine (front_byt hf).append (Byt.append (fun x hx => ?_) hK)
  simp at hx
  rcases hx with rfl | rfl <;> omega
theorem entV_byt22 {j : Job} {t : Int} {R : List P1} {K : List Int} (hR : ∀ p ∈ R, Byt p.bs) (hK : Byt K) : ∀ e ∈ (entV j t R K).1, Byt e.2 := fun e he => by
  unfold entV at he
  split at he
  · unfold entL at he
    obtain ⟨i, _, rfl⟩ := List.mem_map.1 he
    refine entryL_byt ?_ hK
    rw [List.getD_eq_getElem?_getD]
    cases hg : (R.map P1.bs)[i + 1]? with
    | none => exact fun x hx => by simp at hx
    | some b =>
      obtain ⟨p, hp, rfl⟩ := List.mem_map.1 (List.mem_of_getElem? hg)
      exact hR p hp
  · cases he
def enC (e : EnV) : List Int × Pr := (e.K, prC e.p)
/-- What sorting entries does. -/
def ESort : Prop := ∀ (W : World) (base : Nat) (a : Option Addr) (n c : Nat) (E : List EnV), E.length = n → n ≤ 2000000 → W.ownsRow base 149 3 (.slice a n c) n (cellsOf ecl E) → (∀ e ∈ E, Byt e.K ∧ Stay (fun k => Value.ownBlock (.slice a n c) = some k) W (fun W' => EnL W' e)) →
  Calls Tryz.prog 119 #[.slice a n c, .func (.func 120) #[] #[]] W fun r W' => r = .returned (.tuple #[]) ∧ ∃ E' : List EnV, E'.Perm E ∧ (E'.Pairwise fun a b => ltL b.K a.K = false) ∧ W'.ownsRow base 149 3 (.slice a n c) n (cellsOf ecl E') ∧ Off (fun k => Value.ownBlock (.slice a n c) = some k) W W'
/-- How entries ends. -/
def EtR (w : World) (T : List (List Int × Pr)) (r : Ending) (w' : World) : Prop := ∃ a c L, r = .returned (.slice a L.length c) ∧ Below w.heap.size w w' ∧ L.map enC = T ∧ L.length ≤ 2000000 ∧ (∀ e ∈ L, Byt e.K ∧ keyOk e.p.K ∧ rOk (e.p.R.map P1.bs)) ∧ ∀ S : Nat → Prop, (∀ k, S k → k < w.heap.size) → Stay S w' fun W' => EnsR W' a L
theorem lookU_take (j : Job) (t tr : Int) {T : List Pr} {k : Nat} {p : Pr} (h : T[k]? = some p) : lookU j t tr (T.take (k + 1)) = lookU j t tr (T.take k) ++ entP j t tr p := by
  unfold lookU
  rw [List.take_add_one, h, List.flatMap_append]
  simp
/-- Part of a pair's entries. -/
def entK (V : List (Int × List Int)) (tr : Int) (i : Nat) (p : Pr) : List (List Int × Pr) := ((V.take i).filter fun e => decide (e.1 = tr)).map fun e => (e.2, p)
theorem entK_yes {V : List (Int × List Int)} {tr : Int} {i : Nat} {p : Pr} {e : Int × List Int} (h : V[i]? = some e) (he : e.1 = tr) : entK V tr (i + 1) p = entK V tr i p ++ [(e.2, p)] := by
  unfold entK
  rw [List.take_add_one, h]
  simp [he]
theorem entK_no {V : List (Int × List Int)} {tr : Int} {i : Nat} {p : Pr} {e : Int × List Int} (h : V[i]? = some e) (he : ¬ e.1 = tr) : entK V tr (i + 1) p = entK V tr i p := by
  unfold entK
  rw [List.take_add_one, h]
  simp [he]
theorem entV_len {j : Job} (hj : okB j = true) (hjl : j.T.length = j.n) (t : Int) (R : List P1) (K : List Int) : (entV j t R K).1.length ≤ 2 := by
  unfold entV
  split
  · rw [entL_length]
    by_cases h : t.toNat < j.T.length
    · have := okB_T hj t.toNat h; omega
    · rw [List.getD_eq_getElem?_getD, List.getElem?_eq_none (by omega)]; simp
  · simp
set_option maxRecDepth 100000 in
set_option maxHeartbeats 4000000 in
/-- entries (86). -/
theorem tentries_law (hsort : ESort) {S : Nat → Prop} {base : Nat} {w : World} {m : Md} {x : Tl} (h : TlR S base w m x) (t : Nat) (ht : t < m.tabs.length) (tr : Int) (hf : ∀ z ∈ m.tabs, z.2.length ≤ 300000) :
    Calls Tryz.prog 86 #[.pointer (some ⟨x.px, 0, none⟩), .int .i64 (t : Int), .int .i64 tr] w (EtR w (lookE m.j t tr (x.T m t))) := by
  have HH := Lib.hid h
  have HT := Lib.hid ht
  have HP := Lib.hid (tpairs_law h t ht (fun z hz => by have := hf z hz; omega))
  have HSO := Lib.hid hsort
  obtain ⟨c0, _⟩ := h.c
  have HC0 := Lib.hid c0
  clear h ht hf hsort c0
  go_enter Tryz.func86, Tryz.ntmps86
  go_wp2_with fail
  refine HP.out.mono ?_; rintro r w6 ⟨a6, c6, P, rfl, hb6, hP, hok, hPc, hPn, hPl, hst⟩
  have HB6 := Lib.hid hb6
  have HPM := Lib.hid hP
  have HPO := Lib.hid hok
  have HST := Lib.hid hst
  have HPR := Lib.hid (hst (fun _ => False) (fun _ h => h.elim)).now
  obtain ⟨n, hn⟩ : ∃ n, P.length = n := ⟨_, rfl⟩
  rw [hn] at hPl ⊢
  have HN := Lib.hid hn
  have hni : (n : Int) ≤ 1000000 := by omega
  clear hb6 hP hok hPc hPn hst hn
  go_wp2_with fail
  go_loopw [7, 18] (fun v i wr => ∃ (k : Nat) (E : List EnV), k ≤ n ∧ i = .int .i64 (k : Int) ∧ E.length ≤ 2 * k ∧ Hid (wr.ownsRow w6.heap.size 149 3 v E.length (cellsOf ecl E)) ∧ Hid (E.map enC = lookU m.j t tr ((P.map prC).take k)) ∧ Hid (∀ e ∈ E, Byt e.K ∧ e.p ∈ P) ∧ Hid (∀ e ∈ E, ∀ S' : Nat → Prop, (∀ k, S' k → k < w.heap.size ∨ v.ownBlock = some k) → Stay S' wr fun W' => EnL W' e) ∧ Hid (Below w6.heap.size w6 wr)) (fun _ i _ => n - (intOf i).toNat)
  case atStart => exact ⟨0, [], by omega, rfl, Nat.zero_le _, Lib.hid (World.ownsRow_nil _ _ _ _), Lib.hid rfl, Lib.hid (fun e he => by simp at he), Lib.hid (fun e he => by simp at he), Lib.hid (Below.refl _ _)⟩
  case round =>
    obtain ⟨k, E, hk, rfl, hEl, HOV, HEM, HEB, HES, HBR⟩ := hrel
    obtain ⟨va, vc, hv⟩ := own_form22 HOV.out
    subst hv
    by_cases hlt : k < n
    · have d1 : (k : Int) < (n : Int) := by omega
      obtain ⟨p, hp⟩ : ∃ p, P[k]? = some p := ⟨_, List.getElem?_eq_getElem (by rw [HN.out]; exact hlt)⟩
      obtain ⟨b1, o1, ea, p0, p1, hpl, hpr⟩ := (HPR.out.below HBR.out) k p hp
      subst ea
      have HPM1 := Lib.hid (List.mem_of_getElem? hp)
      have hpo := HPO.out p HPM1.out
      have HOK := Lib.hid (And.intro (show p.R.length ≤ 1000000 by have := hpo.2.2.1; rw [List.length_map] at this; omega) hpo)
      have HLU := Lib.hid (lookU_take m.j t tr (T := P.map prC) (k := k) (p := prC p) (by rw [List.getElem?_map, hp]; rfl))
      go_upto_region 5 with (fail)
      have HB5a := Lib.hid (bl1 wr (.cells #[.slice p.ka p.K.length p.kc, .slice p.ra p.R.length p.rc] 78))
      have hbx := BoxC.new wr #[.slice p.ka p.K.length p.kc, .slice p.ra p.R.length p.rc] 78
      obtain ⟨bx, hbxe⟩ : ∃ b, wr.heap.size = b := ⟨_, rfl⟩
      have HSX := Lib.hid hbxe
      rw [hbxe] at hbx
      obtain ⟨w5, hw5⟩ : ∃ W, W = wr.alloc (.cells #[.slice p.ka p.K.length p.kc, .slice p.ra p.R.length p.rc] 78) := ⟨_, rfl⟩
      rw [← hw5] at HB5a hbx ⊢
      rw [hbxe]
      have HPL := Lib.hid (And.intro (hpl.below HB5a.out) (hpr.below HB5a.out))
      have HBX := Lib.hid hbx
      have HBW5 := Lib.hid (HB6.out.trans ((step_below HBR.out HB5a.out).mono HB6.out.size))
      have HMD5 := Lib.hid (HH.out.below HBW5.out).md
      have HX := Lib.hid (fun X (b : Below w5.heap.size w5 X) => (by
        have hm := (HMD5.out.below b).st.now.box
        have hq := HBX.out.below b
        have b2 := HBW5.out.trans (b.mono HBW5.out.size)
        refine ⟨(b2.cell (World.block_lt_of_cell? w _ HC0.out)).trans HC0.out, ?_, ?_, ?_, ?_, ?_, ?_, ?_, ?_, ?_⟩
        all_goals first | (rw [hm.cell]; rfl) | (rw [hq.cell]; rfl) : X.cell? ⟨x.px, 0, none⟩ = some (.pointer (some ⟨m.p, 0, none⟩)) ∧ X.cell? ⟨m.p, 0, none⟩ = some (.int .i64 m.j.w) ∧ X.cell? ⟨m.p, 1, none⟩ = some (.int .i64 m.j.l) ∧ X.cell? ⟨m.p, 2, none⟩ = some (.int .i64 m.j.d) ∧ X.cell? ⟨m.p, 3, none⟩ = some (.int .i64 m.j.c) ∧ X.cell? ⟨m.p, 4, none⟩ = some (.int .i64 m.j.k) ∧ X.cell? ⟨m.p, 5, none⟩ = some (.int .i64 m.j.e) ∧ X.cell? ⟨m.p, 6, none⟩ = some (.slice m.j.a m.j.n m.j.cap) ∧ X.cell? ⟨bx, 0, none⟩ = some (.slice p.ka p.K.length p.kc) ∧ X.cell? ⟨bx, 1, none⟩ = some (.slice p.ra p.R.length p.rc)))
      have HP9 := Lib.hid hp
      clear hbx hw5 hbxe hp p0 p1 hpl hpr hpo
      refine wp_region_held_drew (S := (fun X => Below w5.heap.size w5 X)) (by kernel_rfl) ((Below.refl _ _).drew) (fun hHeld => ?_)
      refine tp 0 ?_ rfl (.inl ⟨by rfl, ?_⟩) ?_
      rotate_left
      · intro W hSw; go_simp; try with_reducible rfl
      refine tp 1 ?_ rfl (.inl ⟨by rfl, ?_⟩) ?_
      rotate_left
      · intro W hSw; go_simp; try with_reducible rfl
      refine tp 2 ?_ rfl (.inl ⟨by rfl, ?_⟩) ?_
      rotate_left
      · intro W hSw; go_simp; try with_reducible rfl
      refine tp 3 ?_ rfl (.inl ⟨by rfl, ?_⟩) ?_
      rotate_left
      · intro W hSw; have q := (HX.out W hSw).1; go_simp; try with_reducible rfl
      refine tp 4 ?_ rfl (.inl ⟨by rfl, ?_⟩) ?_
      rotate_left
      · intro W hSw; go_simp; try with_reducible rfl
      refine tp 5 ?_ rfl (.inl ⟨by rfl, ?_⟩) ?_
      rotate_left
      · intro W hSw; go_simp; try with_reducible rfl
      refine tp 6 ?_ rfl (.inl ⟨by rfl, ?_⟩) ?_
      rotate_left
      · intro W hSw; obtain ⟨_, m0, m1, m2, m3, m4, m5, m6, _⟩ := HX.out W hSw; go_simp; try with_reducible rfl
      refine tp 7 ?_ rfl (.inl ⟨by rfl, ?_⟩) ?_
      rotate_left
      · intro W hSw; go_simp; try with_reducible rfl
      refine tp 8 ?_ rfl (.inl ⟨by rfl, ?_⟩) ?_
      rotate_left
      · intro W hSw; go_simp; try with_reducible rfl
      refine tp 9 ?_ rfl (.inl ⟨by rfl, ?_⟩) ?_
      rotate_left
      · intro W hSw; have q := (HX.out W hSw).2.2.2.2.2.2.2.2.1; go_simp; try with_reducible rfl
      refine tp 10 ?_ rfl (.inl ⟨by rfl, ?_⟩) ?_
      rotate_left
      · intro W hSw; go_simp; try with_reducible rfl
      refine tp 11 ?_ rfl (.inl ⟨by rfl, ?_⟩) ?_
      rotate_left
      · intro W hSw; have q := (HX.out W hSw).2.2.2.2.2.2.2.2.2; go_simp; try with_reducible rfl
      refine wpAnyH_ready (rs := [12]) (by kernel_rfl) (by simp) ?_
      refine AllReadyH.cons (o := { dst := some 35, op := Op.call { callee := Callee.value (Operand.func 118), args := #[Operand.tmp 29, Operand.tmp 30, Operand.tmp 32, Operand.tmp 34], argTypes := #[24, 3, 42, 50] }, type := 189, pos := "trial.go:112", after := #[{ on := 6, ground := Ground.data }, { on := 7, ground := Ground.data }, { on := 9, ground := Ground.data }, { on := 11, ground := Ground.data }], guard := none }) rfl (fun K hK => ?_) AllReadyH.nil
      go_simp
      refine (entriesq_law m.j (t : Int) p.ka p.K _ p.kc p.ra p.R _ p.rc rfl rfl HOK.out.1 _ (HMD5.out.below hHeld).st.now.job (HPL.out.1.below hHeld) (HPL.out.2.below hHeld)).mono ?_; rintro r w7 ⟨⟨a7, c7, L7, rfl, hen7, how7, hkeys7⟩, hb7⟩
      have HE7 := Lib.hid (And.intro hen7 (And.intro (own_lo how7 hHeld.size) (fun q hq => own_lo (hkeys7 q hq) hHeld.size)))
      have HB7 := Lib.hid (step_below hHeld hb7)
      clear hen7 how7 hkeys7 hb7
      go_wp2_with fail
      refine hK.out _ _ HB7.out (fun hHeldn => ?_)
      clear hK K hHeld; have hHeld := hHeldn; clear hHeldn
      try simp only [Act.put, List.setIfInBounds_toArray, List.set_cons_zero, List.set_cons_succ]
      refine tp 13 ?_ rfl (.inl ⟨by rfl, ?_⟩) ?_
      rotate_left
      · intro W hSw; go_simp; try with_reducible rfl
      refine tp 14 ?_ rfl (.inl ⟨by rfl, ?_⟩) ?_
      rotate_left
      · intro W hSw; go_simp; try with_reducible rfl
      refine tp 15 ?_ rfl (.inl ⟨by rfl, ?_⟩) ?_
      rotate_left
      · intro W hSw; go_simp; try with_reducible rfl
      refine tp 16 ?_ rfl (.inl ⟨by rfl, ?_⟩) ?_
      rotate_left
      · intro W hSw; go_simp; try with_reducible rfl
      refine tp 17 ?_ rfl (.inl ⟨by rfl, ?_⟩) ?_
      rotate_left
      · intro W hSw; go_simp; try with_reducible rfl
      refine wpAnyH_done (by kernel_rfl) ?_ _
      skip
      clear hHeld
      obtain ⟨V, hV⟩ : ∃ V, (entV m.j (t : Int) p.R p.K).1 = V := ⟨_, rfl⟩
      rw [hV] at HE7 ⊢
      have HVP := Lib.hid (show entK V tr V.length (prC p) = entP m.j (t : Int) tr (prC p) by
        unfold entK entP
        rw [List.take_length, ← hV, entV_ext m.j (t : Int) (show p.R.map P1.bs = (ofP (prC p).2).map P1.bs by rw [ofP_bs]; rfl) p.K]
        rfl)
      have hvl : V.length ≤ 2 := by rw [← hV]; exact entV_len HMD5.out.ok HMD5.out.st.now.job.len _ _ _
      obtain ⟨nv, hnv⟩ : ∃ nv, V.length = nv := ⟨_, rfl⟩
      rw [hnv] at hvl HE7 HVP ⊢
      have HNV := Lib.hid hnv
      have hvi : (nv : Int) ≤ 2 := by omega
      have HL7 := Lib.hid (show L7.length = nv by have := congrArg List.length HE7.out.1; rw [hnv] at this; simpa [enS] using this)
      have HBX7 := Lib.hid (HBX.out.below HB7.out)
      have HTB := Lib.hid (show ¬ Value.ownBlock (.slice va E.length vc) = some bx from fun e => by
        have := (own_blk HOV.out e).2.1
        have := HSX.out
        omega)
      have HW57 := Lib.hid (show wr.heap.size < w5.heap.size by have := HBX.out.lt; have := HSX.out; omega)
      have HOV7 := Lib.hid (own_kept HOV.out (step_below HB5a.out HB7.out))
      have HES7 := Lib.hid (fun e he S' hS' => (HES.out e he S' hS').below (step_below HB5a.out HB7.out))
      have HB67 := Lib.hid (HBR.out.trans ((step_below HB5a.out HB7.out).mono HBR.out.size))
      have HWS := Lib.hid HB6.out.size
      have HVB := Lib.hid (show ∀ e ∈ V, Byt e.2 by rw [← hV]; exact entV_byt22 (rOk_byt HOK.out.2.2) HOK.out.2.1.1)
      clear hV hnv
      go_wp2_with fail
      go_loopw [7, 40] (fun v i wr2 => ∃ (i2 : Nat) (E2 : List EnV), i2 ≤ nv ∧ i = .int .i64 (i2 : Int) ∧ E2.length ≤ 2 * k + i2 ∧ Hid (wr2.ownsRow w6.heap.size 149 3 v E2.length (cellsOf ecl E2)) ∧ Hid (E2.map enC = lookU m.j t tr ((P.map prC).take k) ++ entK V tr i2 (prC p)) ∧ Hid (∀ e ∈ E2, Byt e.K ∧ e.p ∈ P) ∧ Hid (∀ e ∈ E2, ∀ S' : Nat → Prop, (∀ k, S' k → k < w.heap.size ∨ v.ownBlock = some k) → Stay S' wr2 fun W' => EnL W' e) ∧ Hid (Off (fun k => Value.ownBlock (.slice va E.length vc) = some k) w7 wr2) ∧ Hid (∀ b, v.ownBlock = some b → Value.ownBlock (.slice va E.length vc) = some b ∨ w7.heap.size ≤ b) ∧ Hid (Below w6.heap.size w6 wr2)) (fun _ i _ => nv - (intOf i).toNat)
      case atStart => exact ⟨0, E, by omega, rfl, by omega, HOV7, Lib.hid (by rw [HEM.out]; simp [entK]), HEB, HES7, Lib.hid (Off.refl _ _), Lib.hid (fun b hb => .inl hb), HB67⟩
      case round =>
        obtain ⟨i2, E2, hi2, rfl, hE2l, HOV2, HEM2, HEB2, HES2, HOF2, HVB2, HBR2⟩ := hrel
        obtain ⟨va2, vc2, hv2⟩ := own_form22 HOV2.out
        subst hv2
        by_cases hlt2 : i2 < nv
        · have e1 : (i2 : Int) < (nv : Int) := by omega
          obtain ⟨q, hq⟩ : ∃ q, L7[i2]? = some q := ⟨_, List.getElem?_eq_getElem (by rw [HL7.out]; exact hlt2)⟩
          have hlow : ∀ k, (fun k => Value.ownBlock (.slice va E.length vc) = some k) k → k < w5.heap.size := fun k hk => by
            have := (own_blk HOV.out hk).2.1; have := HW57.out; omega
          have HLOW := Lib.hid hlow
          have hrow := own_off22 HE7.out.2.1 HOF2.out hlow
          have hqm := List.mem_of_getElem? hq
          have hqk := HE7.out.2.2 q hqm
          obtain ⟨a8, c8, e8, henr⟩ := own_enr hrow HL7.out (fun y hy => by
            have := own_off22 (HE7.out.2.2 y hy) HOF2.out hlow
            exact ls_own22 this rfl)
          cases e8
          obtain ⟨b8, o8, ea8, q0, q1, _⟩ := henr i2 q hq
          subst ea8
          have hbx2 := HOF2.out.box HBX7.out HTB.out
          have hbx3 := hbx2.alloc (.cells #[.int .i64 q.1, .slice q.2.ad q.2.bs.length q.2.cap] 192)
          have y0 := hbx3.cell 0
          have y1 := hbx3.cell 1
          simp only [List.getElem?_toArray, List.getElem?_cons_zero, List.getElem?_cons_succ] at y0 y1
          have HVQ := Lib.hid (show V[i2]? = some (q.1, q.2.bs) by
            have := HE7.out.1
            rw [← this]; unfold enS; rw [List.getElem?_map, hq]; rfl)
          have HQK := Lib.hid hqk
          have HQB := Lib.hid (show Byt q.2.bs from HVB.out _ (List.mem_of_getElem? HVQ.out))
          unfold P1.v at q1
          clear hq hrow hqk henr hqm hbx2 hbx3 hlow
          by_cases htr : q.1 = tr
          · have hte : (q.1 == tr) = true := by simpa using htr
            have HEK := Lib.hid (entK_yes (p := prC p) HVQ.out htr)
            clear htr
            have hap : E2.length + 1 ≤ 2097152 := by omega
            have HBE := Lib.hid (step_below (bl1 wr (.cells #[.int .i64 q.1, .slice q.2.ad q.2.bs.length q.2.cap] 192)) (bl1 (wr.alloc (.cells #[.int .i64 q.1, .slice q.2.ad q.2.bs.length q.2.cap] 192)) (.cells #[.slice q.2.ad q.2.bs.length q.2.cap, .slice p.ka p.K.length p.kc, .slice p.ra p.R.length p.rc] 149)))
            have HOE := Lib.hid (((HOV2.out.alloc (.cells #[.int .i64 q.1, .slice q.2.ad q.2.bs.length q.2.cap] 192)).alloc (.cells #[.slice q.2.ad q.2.bs.length q.2.cap, .slice p.ka p.K.length p.kc, .slice p.ra p.R.length p.rc] 149)))
            have HCE := Lib.hid (cells_new (wr.alloc (.cells #[.int .i64 q.1, .slice q.2.ad q.2.bs.length q.2.cap] 192)) #[.slice q.2.ad q.2.bs.length q.2.cap, .slice p.ka p.K.length p.kc, .slice p.ra p.R.length p.rc] 149 (ecl ⟨q.2.ad, q.2.cap, q.2.bs, p⟩) rfl)
            rw [World.size_alloc] at HCE
            have HBSZ := Lib.hid (show w6.heap.size ≤ ((wr.alloc (.cells #[.int .i64 q.1, .slice q.2.ad q.2.bs.length q.2.cap] 192)).alloc (.cells #[.slice q.2.ad q.2.bs.length q.2.cap, .slice p.ka p.K.length p.kc, .slice p.ra p.R.length p.rc] 149)).heap.size from Nat.le_trans HBR2.out.size HBE.out.size)
            go_wp2_with (at_builtin; refine append_cells ae_entry rfl _ _ rfl w6.heap.size (.slice va2 E2.length vc2) E2.length (cellsOf ecl E2) rfl HOE.out ⟨wr.heap.size + 1, 0, none⟩ 1 1 (ecl ⟨q.2.ad, q.2.cap, q.2.bs, p⟩) rfl rfl HCE.out (ecl_one _) hap HBSZ.out ?_; intro v8 w8 hown8 hgrow8 hat8; have HO8 := Lib.hid hown8; have HG8 := Lib.hid hgrow8; have HAT8 := Lib.hid hat8; clear hown8 hgrow8 hat8)
            go_roundw
            case rel =>
              have o98 : Off (fun k => Value.ownBlock (.slice va2 E2.length vc2) = some k) wr w8 := (Off.of HBE.out).trans (Off.of_row HG8.out)
              have hnew : ∀ b, v8.ownBlock = some b → Value.ownBlock (.slice va2 E2.length vc2) = some b ∨ wr.heap.size ≤ b := fun b hb => by
                rcases HAT8.out with e | e
                · exact .inl (e ▸ hb)
                · rw [hb] at e
                  refine .inr ?_
                  have := HBE.out.size
                  cases e
                  exact this
              have hlw : ∀ b, v8.ownBlock = some b → w6.heap.size ≤ b := fun b hb => (own_blk HO8.out hb).1
              have o78 := HOF2.out.trans2 o98 (fun b hb => HVB2.out b hb)
              have hvb8 : ∀ b, v8.ownBlock = some b → Value.ownBlock (.slice va E.length vc) = some b ∨ w7.heap.size ≤ b := fun b hb => by
                rcases hnew b hb with e | e
                · exact HVB2.out b e
                · exact .inr (Nat.le_trans HOF2.out.size e)
              have hb68 : Below w6.heap.size w6 w8 := Off.below HBR2.out o98 HBR2.out.size (fun b hb => (own_blk HOV2.out hb).1)
              refine ⟨i2 + 1, E2 ++ [⟨q.2.ad, q.2.cap, q.2.bs, p⟩], by omega, by go_num, by rw [List.length_append, List.length_singleton]; omega, Lib.hid ?_, Lib.hid ?_, Lib.hid ?_, Lib.hid ?_, Lib.hid o78, Lib.hid hvb8, Lib.hid hb68⟩
              · rw [List.length_append, cellsOf_append]
                have := HO8.out
                simpa [cellsOf] using this
              · rw [List.map_append, HEM2.out, HEK.out, List.append_assoc]
                rfl
              · intro e he
                rcases List.mem_append.1 he with he | he
                · exact HEB2.out e he
                · rw [List.mem_singleton] at he; subst he; exact ⟨HQB.out, HPM1.out⟩
              · intro e he S' hS'
                rcases List.mem_append.1 he with he | he
                · refine (HES2.out e he (fun k => k < w.heap.size ∨ Value.ownBlock (.slice va2 E2.length vc2) = some k) (fun k hk => hk)).step (o98.mono fun k hk => .inr hk) (fun k hk => ?_)
                  rcases hS' k hk with hk | hk
                  · exact .inl (.inl hk)
                  · exact (hnew k hk).imp .inr id
                · rw [List.mem_singleton] at he
                  subst he
                  have st1 : Stay S' w8 fun W' => Ls .u8 W' q.2.ad q.2.cap q.2.bs := by
                    refine (own_stay (S := fun k => k < w5.heap.size) HQK.out rfl (fun k hk => hk)).step (o78.mono HLOW.out) (fun k hk => ?_)
                    rcases hS' k hk with hk | hk
                    · have := HW57.out; have := HBR.out.size; have := HWS.out; have := HBW5.out.size; exact .inl (by show k < w5.heap.size; omega)
                    · exact (hvb8 k hk).imp (HLOW.out k) id
                  have st2 : Stay S' w8 fun W' => PairsR W' (some ⟨b1, o1, none⟩) P := by
                    have := HST.out (fun k => k < w.heap.size) (fun k hk => hk)
                    refine this.step (Off.of hb68) (fun k hk => ?_)
                    rcases hS' k hk with hk | hk
                    · exact .inl hk
                    · exact .inr (hlw k hk)
                  intro W' o
                  obtain ⟨_, _, _, _, _, l, r⟩ := st2 W' o k p HP9.out
                  exact ⟨st1 W' o, l, r⟩
            case measure => simp [intOf]; omega
          · have hte : (q.1 == tr) = false := by simpa using htr
            have HEK := Lib.hid (entK_no (p := prC p) HVQ.out htr)
            clear htr
            have HBE := Lib.hid (bl1 wr (.cells #[.int .i64 q.1, .slice q.2.ad q.2.bs.length q.2.cap] 192))
            go_wp2_with fail
            go_roundw
            case rel => exact ⟨i2 + 1, E2, by omega, by go_num, by omega, Lib.hid (own_kept HOV2.out HBE.out), Lib.hid (by rw [HEM2.out, HEK.out]), HEB2, Lib.hid (fun e he S' hS' => (HES2.out e he S' hS').below HBE.out), Lib.hid (HOF2.out.then HBE.out), HVB2, Lib.hid (HBR2.out.trans (HBE.out.mono HBR2.out.size))⟩
            case measure => simp [intOf]; omega
        · have e1 : ¬ (i2 : Int) < (nv : Int) := by omega
          have hie : i2 = nv := by omega
          have HIE := Lib.hid hie
          have hl3 : E2.length ≤ 2 * (k + 1) := by omega
          clear hie
          go_wp2_with fail
          go_roundw
          case rel => exact ⟨k + 1, E2, by omega, by go_num, hl3, HOV2, Lib.hid (by rw [HEM2.out, HLU.out, HIE.out, HVP.out]), HEB2, HES2, HBR2⟩
          case measure => simp [intOf]; omega
    · have d1 : ¬ (k : Int) < (n : Int) := by omega
      have hke : k = n := by omega
      have HKE := Lib.hid hke
      have HEL := Lib.hid (show E.length ≤ 2000000 by omega)
      have HS1 := Lib.hid (HSO.out wr w6.heap.size va E.length vc E rfl (by omega) HOV.out (fun e he => ⟨(HEB.out e he).1, HES.out e he _ (fun k hk => .inr hk)⟩))
      clear hke
      go_wp2_with fail
      refine HS1.out.mono ?_; rintro r w8 ⟨rfl, E', hpm, hst8, how8, o8⟩
      have HFIN := Lib.hid (And.intro hpm (And.intro hst8 (And.intro how8 o8)))
      clear hpm hst8 how8 o8
      go_wp2_with fail
      go_ret
      obtain ⟨hpm, hst8, how8, o8⟩ := HFIN.out
      have hlen := hpm.length_eq
      have hTeq : (P.map prC).take k = x.T m t := by rw [List.take_of_length_le (by rw [List.length_map, HN.out, HKE.out]; exact Nat.le_refl _), HPM.out]
      have htok : tOk (x.T m t) := ⟨HH.out.tabok t, fun p hp => by
        rw [← HPM.out] at hp
        obtain ⟨q, hq, rfl⟩ := List.mem_map.1 hp
        exact HPO.out q hq⟩
      refine ⟨va, vc, E', by rw [hlen]; rfl, Off.below (HB6.out.trans (HBR.out.mono HB6.out.size)) o8 (Nat.le_trans HB6.out.size HBR.out.size) (fun b hb => Nat.le_trans HB6.out.size (own_blk HOV.out hb).1), ?_, by rw [hlen]; exact HEL.out, fun e he => ?_, fun S' hS' W' o => ?_⟩
      · refine lookE_eq htok ?_ ?_
        · have := hpm.map enC
          rw [HEM.out, hTeq] at this
          exact this
        · rw [List.pairwise_map]; exact hst8
      · have h1 := HEB.out e (hpm.mem_iff.1 he)
        exact ⟨h1.1, HPO.out _ h1.2⟩
      · have how9 : w8.ownsRow w6.heap.size 149 3 (.slice va E'.length vc) E'.length (cellsOf ecl E') := by rw [hlen]; exact how8
        refine own_ens (own_off22 how9 o (fun k hk => Nat.lt_of_lt_of_le (hS' k hk) HB6.out.size)) rfl (fun e he => ?_)
        have := HES.out e (hpm.mem_iff.1 he) (fun k => S' k ∨ Value.ownBlock (.slice va E.length vc) = some k) (fun k hk => hk.imp (hS' k) id)
        exact ((this.off (o8.mono fun k hk => .inr hk)).less (fun k hk => .inl hk)) W' o
end Go.Proofs.YthmofoldmdafoaaGreat
namespace Go.Proofs.YthmofoldmdafoaaGreat
open Go.ChangeShapes Go.WideShapes Go.ChangeAt Go.RowKit Go.Maps
set_option linter.unusedVariables false
set_option linter.unusedSimpArgs false

theorem winG_most {α : Type} (key : α → List Int) (f u : List Int) (en : Bool) (m : Int) : ∀ (l acc : List α), (acc.length : Int) ≤ m → ((winG key f u en m l acc).length : Int) ≤ m
  | [], acc, h => h
  | e :: r, acc, h => by
    unfold winG
    split
    · exact winG_most key f u en m r acc h
    · split
      · exact h
      · rename_i h2
        refine winG_most key f u en m r _ ?_
        rw [List.length_append, List.length_singleton]
        simp only [Bool.or_eq_true, decide_eq_true_eq, not_or] at h2
        have := h2.2
        omega
set_option maxRecDepth 100000 in
set_option maxHeartbeats 4000000 in
theorem tlook_law (hsort : ESort) {S : Nat → Prop} {base : Nat} {w : World} {m : Md} {x : Tl} (h : TlR S base w m x) (hbs : base ≤ w.heap.size) (o : CallV) (t : Nat) (ho : OpS S w m o t) (hk : o.k = 6) (hf : ∀ z ∈ m.tabs, z.2.length ≤ 300000) :
    Calls Tryz.prog 128 #[.pointer (some ⟨x.px, 0, none⟩), .agg #[.int .i64 o.k, .int .i64 o.t, .int .i64 o.i, .slice o.ka o.kn o.kc, .slice o.ta o.tn o.tc, .int .i64 o.m, .slice o.ra o.rn o.rc]] w (CallR S base w m x ((0, (winG Prod.fst (frontL o.K) (frontL o.T) (decide (0 < o.tn)) o.m (lookE m.j t (trV m.j o.t o.i).1 (x.T m t)) []).map Prod.snd) : Int × List Pr) (x.ws.map WtV.P)) := by
  obtain ⟨hb, hbx⟩ := boxes2 w #[.int .i64 o.k, .int .i64 o.t, .int .i64 o.i, .slice o.ka o.kn o.kc, .slice o.ta o.tn o.tc, .int .i64 o.m, .slice o.ra o.rn o.rc] #[.int .i64 0, .slice none 0 0] 74 81
  obtain ⟨w2, hw2⟩ : ∃ W, W = (w.alloc (.cells #[.int .i64 o.k, .int .i64 o.t, .int .i64 o.i, .slice o.ka o.kn o.kc, .slice o.ta o.tn o.tc, .int .i64 o.m, .slice o.ra o.rn o.rc] 74)).alloc (.cells #[.int .i64 0, .slice none 0 0] 81) := ⟨_, rfl⟩
  rw [← hw2] at hb hbx
  have h2 := h.below hb
  have HMD := Lib.hid h2.md
  have HOP := Lib.hid (ho.at'.below hb).now
  have HRN := Lib.hid ho.rn
  obtain ⟨c0, _⟩ := h2.c
  have HX := Lib.hid (fun X (b : Below w2.heap.size w2 X) => (by
    have hm := (h2.md.below b).st.now.box
    have hp := (hbx X b).1
    refine ⟨(b.cell (World.block_lt_of_cell? w2 _ c0)).trans c0, ?_, ?_, ?_, ?_, ?_, ?_, ?_, ?_, ?_, ?_, ?_, ?_, ?_, ?_⟩
    all_goals first | (rw [hm.cell]; rfl) | (rw [hp.cell]; rfl) : X.cell? ⟨x.px, 0, none⟩ = some (.pointer (some ⟨m.p, 0, none⟩)) ∧ X.cell? ⟨m.p, 0, none⟩ = some (.int .i64 m.j.w) ∧ X.cell? ⟨m.p, 1, none⟩ = some (.int .i64 m.j.l) ∧ X.cell? ⟨m.p, 2, none⟩ = some (.int .i64 m.j.d) ∧ X.cell? ⟨m.p, 3, none⟩ = some (.int .i64 m.j.c) ∧ X.cell? ⟨m.p, 4, none⟩ = some (.int .i64 m.j.k) ∧ X.cell? ⟨m.p, 5, none⟩ = some (.int .i64 m.j.e) ∧ X.cell? ⟨m.p, 6, none⟩ = some (.slice m.j.a m.j.n m.j.cap) ∧ X.cell? ⟨w.heap.size, 0, none⟩ = some (.int .i64 o.k) ∧ X.cell? ⟨w.heap.size, 1, none⟩ = some (.int .i64 o.t) ∧ X.cell? ⟨w.heap.size, 2, none⟩ = some (.int .i64 o.i) ∧ X.cell? ⟨w.heap.size, 3, none⟩ = some (.slice o.ka o.kn o.kc) ∧ X.cell? ⟨w.heap.size, 4, none⟩ = some (.slice o.ta o.tn o.tc) ∧ X.cell? ⟨w.heap.size, 5, none⟩ = some (.int .i64 o.m) ∧ X.cell? ⟨w.heap.size, 6, none⟩ = some (.slice o.ra o.rn o.rc)))
  have HH := Lib.hid (And.intro h (And.intro hbs (And.intro hb hbx)))
  have HO := Lib.hid ho
  have HF := Lib.hid hf
  have HSO := Lib.hid hsort
  have HK5 := Lib.hid hk
  have HW2 := Lib.hid hw2
  clear hsort h hbs ho hf hk h2 hb hbx c0
  go_enter Tryz.func128, Tryz.ntmps128
  go_upto_region 1 with (fail)
  rw [← hw2]
  clear hw2
  go_cut [5] (fun v wx => ∃ (bx : Nat) (fa : Option Addr) (fc : Nat) (ta : Option Addr) (tc : Nat), v = .pointer (some ⟨bx, 0, none⟩) ∧ Hid (Below w2.heap.size w2 wx) ∧ Hid (BoxC wx bx #[.int .i64 (rngV m.j o).1, .slice fa (rngV m.j o).2.1.length fc, .slice ta (rngV m.j o).2.2.1.length tc, .bool (rngV m.j o).2.2.2.1] 169) ∧ Hid (Ls .u8 wx fa fc (rngV m.j o).2.1) ∧ Hid (Ls .u8 wx ta tc (rngV m.j o).2.2.1))
  case first =>
    refine wp_region_held_drew (S := (fun X => Below w2.heap.size w2 X)) (by kernel_rfl) ((Below.refl _ _).drew) (fun hHeld => ?_)
    refine tp 0 ?_ rfl (.inl ⟨by rfl, ?_⟩) ?_
    rotate_left
    · intro W hSw; go_simp; try with_reducible rfl
    refine tp 1 ?_ rfl (.inl ⟨by rfl, ?_⟩) ?_
    rotate_left
    · intro W hSw; go_simp; try with_reducible rfl
    refine tp 2 ?_ rfl (.inl ⟨by rfl, ?_⟩) ?_
    rotate_left
    · intro W hSw; go_simp; try with_reducible rfl
    refine tp 3 ?_ rfl (.inl ⟨by rfl, ?_⟩) ?_
    rotate_left
    · intro W hSw; have m := (HX.out W hSw).1; go_simp; try with_reducible rfl
    refine tp 4 ?_ rfl (.inl ⟨by rfl, ?_⟩) ?_
    rotate_left
    · intro W hSw; go_simp; try with_reducible rfl
    refine tp 5 ?_ rfl (.inl ⟨by rfl, ?_⟩) ?_
    rotate_left
    · intro W hSw; go_simp; try with_reducible rfl
    refine tp 6 ?_ rfl (.inl ⟨by rfl, ?_⟩) ?_
    rotate_left
    · intro W hSw; obtain ⟨_, m0, m1, m2, m3, m4, m5, m6, _⟩ := HX.out W hSw; go_simp; try with_reducible rfl
    refine tp 7 ?_ rfl (.inl ⟨by rfl, ?_⟩) ?_
    rotate_left
    · intro W hSw; obtain ⟨_, _, _, _, _, _, _, _, o0, o1, o2, o3, o4, o5, o6⟩ := HX.out W hSw; go_simp; try with_reducible rfl
    refine wpAnyH_ready (rs := [8, 12]) (by kernel_rfl) (by simp) ?_
    refine AllReadyH.cons (o := { dst := some 16, op := Op.call { callee := Callee.value (Operand.func 141), args := #[Operand.tmp 14, Operand.tmp 15], argTypes := #[24, 74] }, type := 215, pos := "trial.go:149", after := #[{ on := 6, ground := Ground.data }, { on := 7, ground := Ground.data }], guard := none }) rfl (fun K hK => ?_) ?_
    · skip
      go_simp
      refine (range_law m.j o HRN.out _ (HMD.out.below hHeld).st.now.job (HOP.out.below hHeld)).mono ?_; rintro r w5 ⟨⟨fa, fc, ta, tc, rfl, hlf, hlu⟩, hb5⟩
      have HLF := Lib.hid (And.intro hlf hlu)
      have HB5 := Lib.hid (step_below hHeld hb5)
      have HB25 := Lib.hid hb5
      clear hlf hlu hb5
      go_wp2_with fail
      refine hK.out _ _ HB5.out (fun hHeldn => ?_)
      clear hK K hHeld; have hHeld := hHeldn; clear hHeldn
      try simp only [Act.put, List.setIfInBounds_toArray, List.set_cons_zero, List.set_cons_succ]
      refine tp 9 ?_ rfl (.inl ⟨by rfl, ?_⟩) ?_
      rotate_left
      · intro W hSw; go_simp; try with_reducible rfl
      refine tp 10 ?_ rfl (.inl ⟨by rfl, ?_⟩) ?_
      rotate_left
      · intro W hSw; go_simp; try with_reducible rfl
      refine tp 11 ?_ rfl (.inl ⟨by rfl, ?_⟩) ?_
      rotate_left
      · intro W hSw; go_simp; try with_reducible rfl
      refine wpAnyH_ready (rs := [12]) (by kernel_rfl) (by simp) ?_
      refine AllReadyH.cons (o := { dst := some 5, op := Op.alloc 169, type := 0, pos := "trial.go:149", after := #[], guard := none }) rfl (fun K hK => ?_) AllReadyH.nil
      go_simp
      have HBA := Lib.hid (bl1 w5 (.cells #[.int .i64 0, .slice none 0 0, .slice none 0 0, .bool false] 169))
      have HXA := Lib.hid (BoxC.new w5 #[.int .i64 0, .slice none 0 0, .slice none 0 0, .bool false] 169)
      have HB6 := Lib.hid (step_below HB5.out HBA.out)
      refine hK.out _ _ HB6.out (fun hHeldn => ?_)
      clear hK K hHeld; have hHeld := hHeldn; clear hHeldn
      try simp only [Act.put, List.setIfInBounds_toArray, List.set_cons_zero, List.set_cons_succ]
      refine wpAnyH_ready (rs := [13]) (by kernel_rfl) (by simp) ?_
      refine AllReadyH.cons (o := { dst := none, op := Op.store 169 (Operand.tmp 5) (Operand.tmp 17), type := 0, pos := "trial.go:149", after := #[{ on := 12, ground := Ground.data }, { on := 10, ground := Ground.data }, { on := 8, ground := Ground.chain }, { on := 0, ground := Ground.phase }, { on := 1, ground := Ground.phase }, { on := 2, ground := Ground.phase }, { on := 3, ground := Ground.phase }, { on := 4, ground := Ground.phase }, { on := 5, ground := Ground.phase }, { on := 6, ground := Ground.phase }, { on := 7, ground := Ground.phase }, { on := 8, ground := Ground.phase }, { on := 9, ground := Ground.phase }, { on := 10, ground := Ground.phase }, { on := 11, ground := Ground.textOnly Departure.lateStores }, { on := 12, ground := Ground.phase }], guard := none }) rfl (fun K hK => ?_) AllReadyH.nil
      go_simp
      have h0 := set4a HB5.out (Nat.le_refl _) (rngV m.j o).1 fa (rngV m.j o).2.1 fc ta (rngV m.j o).2.2.1 tc (rngV m.j o).2.2.2.1 HLF.out.1 HLF.out.2
      have HQ := Lib.hid h0
      refine hK.out _ _ h0.1 (fun hHeldn => ?_)
      clear h0
      clear hK K hHeld; have hHeld := hHeldn; clear hHeldn
      try simp only [Act.put, List.setIfInBounds_toArray, List.set_cons_zero, List.set_cons_succ]
      refine tp 14 ?_ rfl (.inl ⟨by rfl, ?_⟩) ?_
      rotate_left
      · intro W hSw; go_simp; try with_reducible rfl
      refine wpAnyH_done (by kernel_rfl) ?_ _
      obtain ⟨q1, q2, q3, q4⟩ := HQ.out
      go_wp2_with fail
      go_meet
      exact ⟨_, fa, fc, ta, tc, rfl, Lib.hid q1, Lib.hid q2, Lib.hid q3, Lib.hid q4⟩
    refine AllReadyH.cons (o := { dst := some 5, op := Op.alloc 169, type := 0, pos := "trial.go:149", after := #[], guard := none }) rfl (fun K hK => ?_) AllReadyH.nil
    go_simp
    have HXA := Lib.hid (show BoxC (w2.drew.alloc (.cells #[.int .i64 0, .slice none 0 0, .slice none 0 0, .bool false] 169)) w2.heap.size #[.int .i64 0, .slice none 0 0, .slice none 0 0, .bool false] 169 from BoxC.new w2.drew _ _)
    have HB6 := Lib.hid (step_below hHeld (bl1 w2.drew (.cells #[.int .i64 0, .slice none 0 0, .slice none 0 0, .bool false] 169)))
    refine hK.out _ _ HB6.out (fun hHeldn => ?_)
    clear hK K hHeld; have hHeld := hHeldn; clear hHeldn
    try simp only [Act.put, List.setIfInBounds_toArray, List.set_cons_zero, List.set_cons_succ]
    refine wpAnyH_ready (rs := [8]) (by kernel_rfl) (by simp) ?_
    refine AllReadyH.cons (o := { dst := some 16, op := Op.call { callee := Callee.value (Operand.func 141), args := #[Operand.tmp 14, Operand.tmp 15], argTypes := #[24, 74] }, type := 215, pos := "trial.go:149", after := #[{ on := 6, ground := Ground.data }, { on := 7, ground := Ground.data }], guard := none }) rfl (fun K hK => ?_) AllReadyH.nil
    go_simp
    refine (range_law m.j o HRN.out _ (HMD.out.below hHeld).st.now.job (HOP.out.below hHeld)).mono ?_; rintro r w5 ⟨⟨fa, fc, ta, tc, rfl, hlf, hlu⟩, hb5⟩
    have HLF := Lib.hid (And.intro hlf hlu)
    have HB5 := Lib.hid (step_below hHeld hb5)
    have HB25 := Lib.hid hb5
    clear hlf hlu hb5
    go_wp2_with fail
    refine hK.out _ _ HB5.out (fun hHeldn => ?_)
    clear hK K hHeld; have hHeld := hHeldn; clear hHeldn
    try simp only [Act.put, List.setIfInBounds_toArray, List.set_cons_zero, List.set_cons_succ]
    refine tp 9 ?_ rfl (.inl ⟨by rfl, ?_⟩) ?_
    rotate_left
    · intro W hSw; go_simp; try with_reducible rfl
    refine tp 10 ?_ rfl (.inl ⟨by rfl, ?_⟩) ?_
    rotate_left
    · intro W hSw; go_simp; try with_reducible rfl
    refine tp 11 ?_ rfl (.inl ⟨by rfl, ?_⟩) ?_
    rotate_left
    · intro W hSw; go_simp; try with_reducible rfl
    refine wpAnyH_ready (rs := [13]) (by kernel_rfl) (by simp) ?_
    refine AllReadyH.cons (o := { dst := none, op := Op.store 169 (Operand.tmp 5) (Operand.tmp 17), type := 0, pos := "trial.go:149", after := #[{ on := 12, ground := Ground.data }, { on := 10, ground := Ground.data }, { on := 8, ground := Ground.chain }, { on := 0, ground := Ground.phase }, { on := 1, ground := Ground.phase }, { on := 2, ground := Ground.phase }, { on := 3, ground := Ground.phase }, { on := 4, ground := Ground.phase }, { on := 5, ground := Ground.phase }, { on := 6, ground := Ground.phase }, { on := 7, ground := Ground.phase }, { on := 8, ground := Ground.phase }, { on := 9, ground := Ground.phase }, { on := 10, ground := Ground.phase }, { on := 11, ground := Ground.textOnly Departure.lateStores }, { on := 12, ground := Ground.phase }], guard := none }) rfl (fun K hK => ?_) AllReadyH.nil
    have hbx := (HXA.out.below HB25.out)
    have x0 := hbx.cell 0
    have x1 := hbx.cell 1
    have x2 := hbx.cell 2
    have x3 := hbx.cell 3
    have f0 := hbx.frozen 0
    have f1 := hbx.frozen 1
    have f2 := hbx.frozen 2
    have f3 := hbx.frozen 3
    simp only [List.getElem?_toArray, List.getElem?_cons_zero, List.getElem?_cons_succ] at x0 x1 x2 x3
    go_simp
    have h0 := set4b HB5.out (HXA.out.below HB25.out) (Nat.le_refl w2.heap.size) (rngV m.j o).1 fa (rngV m.j o).2.1 fc ta (rngV m.j o).2.2.1 tc (rngV m.j o).2.2.2.1 HLF.out.1 HLF.out.2
    have HQ := Lib.hid h0
    refine hK.out _ _ h0.1 (fun hHeldn => ?_)
    clear h0 hbx x0 x1 x2 x3 f0 f1 f2 f3
    clear hK K hHeld; have hHeld := hHeldn; clear hHeldn
    try simp only [Act.put, List.setIfInBounds_toArray, List.set_cons_zero, List.set_cons_succ]
    refine tp 14 ?_ rfl (.inl ⟨by rfl, ?_⟩) ?_
    rotate_left
    · intro W hSw; go_simp; try with_reducible rfl
    refine wpAnyH_done (by kernel_rfl) ?_ _
    obtain ⟨q1, q2, q3, q4⟩ := HQ.out
    go_wp2_with fail
    go_meet
    exact ⟨_, fa, fc, ta, tc, rfl, Lib.hid q1, Lib.hid q2, Lib.hid q3, Lib.hid q4⟩
  case rest =>
  obtain ⟨bx, fa, fc, ta, tc, rfl, HB3, HSP, HLF, HLU⟩ := hcut
  have HBW := Lib.hid (HH.out.2.2.1.trans (HB3.out.mono HH.out.2.2.1.size))
  have HB23 := Lib.hid HB3.out.size
  have h3 : kf o.k 3 = true := by rw [kf3_eq, HK5.out]; rfl
  have h4 : kf o.k 4 = true := by rw [kf4_eq, HK5.out]; rfl
  have hrg : rngV m.j o = ((trV m.j o.t o.i).1, frontL o.K, frontL o.T, decide (0 < o.tn), 0) := by
    unfold rngV
    rw [HO.out.po, h3, h4]; rfl
  have HRG := Lib.hid hrg
  have hmo := pO_most HO.out.po h3
  have HMO := Lib.hid (show 0 ≤ o.m ∧ o.m ≤ 1000000 by omega)
  have hca := HO.out.at'.now
  have HBF := Lib.hid (show Byt (rngV m.j o).2.1 ∧ Byt (rngV m.j o).2.2.1 by rw [hrg]; exact ⟨front_byt hca.kb, front_byt hca.tb⟩)
  have HSX := Lib.hid (fun X (b : Below wc.heap.size wc X) => (by
    have hop := (HH.out.2.2.2 X (HB3.out.trans (b.mono HB3.out.size))).1
    have hsp := HSP.out.below b
    refine ⟨by rw [hsp.cell]; rfl, by rw [hsp.cell]; rfl, by rw [hsp.cell]; rfl, by rw [hsp.cell]; rfl, by rw [hop.cell]; rfl, ?_⟩
    rw [hop.cell, ← HO.out.te]; rfl : X.cell? ⟨bx, 0, none⟩ = some (.int .i64 (rngV m.j o).1) ∧ X.cell? ⟨bx, 1, none⟩ = some (.slice fa (rngV m.j o).2.1.length fc) ∧ X.cell? ⟨bx, 2, none⟩ = some (.slice ta (rngV m.j o).2.2.1.length tc) ∧ X.cell? ⟨bx, 3, none⟩ = some (.bool (rngV m.j o).2.2.2.1) ∧ X.cell? ⟨w.heap.size, 5, none⟩ = some (.int .i64 o.m) ∧ X.cell? ⟨w.heap.size, 1, none⟩ = some (.int .i64 (t : Int))))
  clear h3 h4 hrg hmo hca
  go_upto_region 2 with (fail)
  refine wp_region_last (z := 11) (S := (fun X => Below wc.heap.size wc X)) (by kernel_rfl) ((Below.refl _ _).drew) (fun hHeld => ?_)
  refine wpAnyL_take (i := 0) (oi := { dst := some 19, op := Op.load 169 (Operand.tmp 5), type := 169, pos := "trial.go:150", after := #[], guard := none }) (v := ?_) (by kernel_rfl) rfl (by kernel_rfl) rfl (by kernel_rfl) (by kernel_rfl) (by kernel_rfl) (fun _ _ _ h => h) (Or.inl ⟨by rfl, ?_⟩) (by assumption) ?_
  rotate_left
  · intro W hSw; obtain ⟨s0, s1, s2, s3, _⟩ := HSX.out W hSw; go_simp; try with_reducible rfl
  try simp only [Act.put, List.setIfInBounds_toArray, List.set_cons_zero, List.set_cons_succ]
  refine wpAnyL_take (i := 1) (oi := { dst := some 20, op := Op.fieldAddr 74 (Operand.tmp 3) 5, type := 0, pos := "trial.go:150", after := #[], guard := none }) (v := ?_) (by kernel_rfl) rfl (by kernel_rfl) rfl (by kernel_rfl) (by kernel_rfl) (by kernel_rfl) (fun _ _ _ h => h) (Or.inl ⟨by rfl, ?_⟩) (by assumption) ?_
  rotate_left
  · intro W hSw; go_simp; try with_reducible rfl
  try simp only [Act.put, List.setIfInBounds_toArray, List.set_cons_zero, List.set_cons_succ]
  refine wpAnyL_take (i := 2) (oi := { dst := some 21, op := Op.load 3 (Operand.tmp 20), type := 3, pos := "trial.go:150", after := #[{ on := 1, ground := Ground.data }], guard := none }) (v := ?_) (by kernel_rfl) rfl (by kernel_rfl) rfl (by kernel_rfl) (by kernel_rfl) (by kernel_rfl) (fun _ _ _ h => h) (Or.inl ⟨by rfl, ?_⟩) (by assumption) ?_
  rotate_left
  · intro W hSw; obtain ⟨_, _, _, _, o5, _⟩ := HSX.out W hSw; go_simp; try with_reducible rfl
  try simp only [Act.put, List.setIfInBounds_toArray, List.set_cons_zero, List.set_cons_succ]
  refine wpAnyL_take (i := 3) (oi := { dst := some 22, op := Op.move (Operand.tmp 0), type := 117, pos := "trial.go:150", after := #[], guard := none }) (v := ?_) (by kernel_rfl) rfl (by kernel_rfl) rfl (by kernel_rfl) (by kernel_rfl) (by kernel_rfl) (fun _ _ _ h => h) (Or.inl ⟨by rfl, ?_⟩) (by assumption) ?_
  rotate_left
  · intro W hSw; go_simp; try with_reducible rfl
  try simp only [Act.put, List.setIfInBounds_toArray, List.set_cons_zero, List.set_cons_succ]
  refine wpAnyL_take (i := 4) (oi := { dst := some 23, op := Op.fieldAddr 74 (Operand.tmp 3) 1, type := 0, pos := "trial.go:150", after := #[], guard := none }) (v := ?_) (by kernel_rfl) rfl (by kernel_rfl) rfl (by kernel_rfl) (by kernel_rfl) (by kernel_rfl) (fun _ _ _ h => h) (Or.inl ⟨by rfl, ?_⟩) (by assumption) ?_
  rotate_left
  · intro W hSw; go_simp; try with_reducible rfl
  try simp only [Act.put, List.setIfInBounds_toArray, List.set_cons_zero, List.set_cons_succ]
  refine wpAnyL_take (i := 5) (oi := { dst := some 24, op := Op.load 3 (Operand.tmp 23), type := 3, pos := "trial.go:150", after := #[{ on := 4, ground := Ground.data }], guard := none }) (v := ?_) (by kernel_rfl) rfl (by kernel_rfl) rfl (by kernel_rfl) (by kernel_rfl) (by kernel_rfl) (fun _ _ _ h => h) (Or.inl ⟨by rfl, ?_⟩) (by assumption) ?_
  rotate_left
  · intro W hSw; obtain ⟨_, _, _, _, _, o1⟩ := HSX.out W hSw; go_simp; try with_reducible rfl
  try simp only [Act.put, List.setIfInBounds_toArray, List.set_cons_zero, List.set_cons_succ]
  refine wpAnyL_take (i := 6) (oi := { dst := some 25, op := Op.fieldAddr 169 (Operand.tmp 5) 0, type := 0, pos := "trial.go:150", after := #[], guard := none }) (v := ?_) (by kernel_rfl) rfl (by kernel_rfl) rfl (by kernel_rfl) (by kernel_rfl) (by kernel_rfl) (fun _ _ _ h => h) (Or.inl ⟨by rfl, ?_⟩) (by assumption) ?_
  rotate_left
  · intro W hSw; go_simp; try with_reducible rfl
  try simp only [Act.put, List.setIfInBounds_toArray, List.set_cons_zero, List.set_cons_succ]
  refine wpAnyL_take (i := 7) (oi := { dst := some 26, op := Op.load 3 (Operand.tmp 25), type := 3, pos := "trial.go:150", after := #[{ on := 6, ground := Ground.data }], guard := none }) (v := ?_) (by kernel_rfl) rfl (by kernel_rfl) rfl (by kernel_rfl) (by kernel_rfl) (by kernel_rfl) (fun _ _ _ h => h) (Or.inl ⟨by rfl, ?_⟩) (by assumption) ?_
  rotate_left
  · intro W hSw; obtain ⟨s0, _⟩ := HSX.out W hSw; go_simp; try with_reducible rfl
  try simp only [Act.put, List.setIfInBounds_toArray, List.set_cons_zero, List.set_cons_succ]
  refine wpAnyL_ready (rs := [8]) (by kernel_rfl) (by simp) ?_
  refine AllL.cons (o := { dst := some 27, op := Op.call { callee := Callee.value (Operand.func 86), args := #[Operand.tmp 22, Operand.tmp 24, Operand.tmp 26], argTypes := #[117, 3, 3] }, type := 146, pos := "trial.go:150", after := #[{ on := 3, ground := Ground.data }, { on := 5, ground := Ground.data }, { on := 7, ground := Ground.data }], guard := none }) rfl (fun K hK => ?_) AllL.nil
  go_simp
  refine (tentries_law HSO.out (HH.out.1.below (HBW.out.trans (hHeld.mono HBW.out.size))) t HO.out.tl (rngV m.j o).1 HF.out).mono ?_; rintro r w6 ⟨a6, c6, L6, rfl, hb6, hm6, hl6, hx6, hst6⟩
  have HB6 := Lib.hid (step_below hHeld hb6)
  have HM6 := Lib.hid hm6
  have HL6 := Lib.hid hl6
  have HX6 := Lib.hid hx6
  have HST6 := Lib.hid (show ∀ S : Nat → Prop, (∀ k, S k → k < wc.heap.size) → Stay S w6 fun W' => EnsR W' a6 L6 from hst6)
  clear hb6 hm6 hl6 hx6 hst6
  go_wp2_with fail
  refine hK.out _ _ HB6.out (fun hHeldn => ?_)
  clear hK K hHeld; have hHeld := hHeldn; clear hHeldn
  try simp only [Act.put, List.setIfInBounds_toArray, List.set_cons_zero, List.set_cons_succ]
  refine wpAnyL_ready (rs := [9]) (by kernel_rfl) (by simp) ?_
  refine AllL.cons (o := { dst := some 28, op := Op.call { callee := Callee.value (Operand.func 142), args := #[Operand.tmp 19, Operand.tmp 21, Operand.tmp 27], argTypes := #[169, 3, 146] }, type := 69, pos := "trial.go:150", after := #[{ on := 0, ground := Ground.data }, { on := 2, ground := Ground.data }, { on := 8, ground := Ground.data }, { on := 8, ground := Ground.chain }], guard := none }) rfl (fun K hK => ?_) AllL.nil
  go_simp
  refine (within22_law (rngV m.j o).1 fa ta _ fc _ tc (rngV m.j o).2.1 (rngV m.j o).2.2.1 (rngV m.j o).2.2.2.1 o.m HMO.out rfl rfl HBF.out.1 HBF.out.2 a6 L6.length c6 L6 rfl HL6.out (fun e he => (HX6.out e he).1) w6 (HLF.out.below HB6.out) (HLU.out.below HB6.out) (HST6.out (fun _ => False) (fun _ h => h.elim)).now).mono ?_; rintro r w3 ⟨a9, c9, rfl, hb9, hc9, hn9, ho9⟩
  have HO9 := Lib.hid ho9
  have HB9 := Lib.hid hb9
  have HB69 := Lib.hid (step_below HB6.out hb9)
  clear hb9 hc9 hn9 ho9
  go_wp2_with fail
  refine hK.out _ _ HB69.out (fun hHeldn => ?_)
  clear hK K hHeld; have hHeld := hHeldn; clear hHeldn
  try simp only [Act.put, List.setIfInBounds_toArray, List.set_cons_zero, List.set_cons_succ]
  refine wpAnyL_take (i := 10) (oi := { dst := some 29, op := Op.build 81 #[(1, Operand.tmp 28)], type := 81, pos := "trial.go:150", after := #[{ on := 9, ground := Ground.data }], guard := none }) (v := ?_) (by kernel_rfl) rfl (by kernel_rfl) rfl (by kernel_rfl) (by kernel_rfl) (by kernel_rfl) (fun _ _ _ h => h) (Or.inl ⟨by rfl, ?_⟩) (by assumption) ?_
  rotate_left
  · intro W hSw; go_simp; try with_reducible rfl
  try simp only [Act.put, List.setIfInBounds_toArray, List.set_cons_zero, List.set_cons_succ]
  refine wpAnyL_ready (rs := [11]) (by kernel_rfl) (by simp) ?_
  refine AllL.last (o := { dst := none, op := Op.store 81 (Operand.tmp 4) (Operand.tmp 29), type := 0, pos := "trial.go:150", after := #[{ on := 10, ground := Ground.data }, { on := 9, ground := Ground.chain }, { on := 0, ground := Ground.phase }, { on := 1, ground := Ground.phase }, { on := 2, ground := Ground.phase }, { on := 3, ground := Ground.phase }, { on := 4, ground := Ground.phase }, { on := 5, ground := Ground.phase }, { on := 6, ground := Ground.phase }, { on := 7, ground := Ground.phase }, { on := 8, ground := Ground.phase }, { on := 9, ground := Ground.phase }, { on := 10, ground := Ground.phase }], guard := none }) rfl (fun K hK => ?_)
  have hbx1 := (HH.out.2.2.2 w3 (HB3.out.trans (HB69.out.mono HB3.out.size))).2
  have g0 := hbx1.cell 0
  have g1 := hbx1.cell 1
  have i0 := hbx1.frozen 0
  have i1 := hbx1.frozen 1
  simp only [List.getElem?_toArray, List.getElem?_cons_zero, List.getElem?_cons_succ] at g0 g1
  go_simp
  refine hK.out _ _ ?_
  clear hK K hbx1 g0 g1 i0 i1
  try simp only [Act.put, List.setIfInBounds_toArray, List.set_cons_zero, List.set_cons_succ]
  refine wpAnyL_done (by kernel_rfl) ?_ _
  skip
  have HZM := Lib.hid (winG_mem EnV.K (rngV m.j o).2.1 (rngV m.j o).2.2.1 (rngV m.j o).2.2.2.1 o.m L6 [])
  have HZ1 := Lib.hid (winG_most EnV.K (rngV m.j o).2.1 (rngV m.j o).2.2.1 (rngV m.j o).2.2.2.1 o.m L6 [] (by simpa using HMO.out.1))
  have HZP := Lib.hid (show (winG EnV.K (rngV m.j o).2.1 (rngV m.j o).2.2.1 (rngV m.j o).2.2.2.1 o.m L6 []).map enC = winG Prod.fst (frontL o.K) (frontL o.T) (decide (0 < o.tn)) o.m (lookE m.j t (trV m.j o.t o.i).1 (x.T m t)) [] by
    rw [winG_map enC EnV.K Prod.fst _ _ _ _ _ _ (fun e he => rfl), HM6.out, HRG.out]
    rfl)
  have hbx1 := (HH.out.2.2.2 w3 (HB3.out.trans (HB69.out.mono HB3.out.size))).2
  have HB1R := Lib.hid (show w.heap.size + 1 < w6.heap.size from (HH.out.2.2.2 w6 (HB3.out.trans (HB6.out.mono HB3.out.size))).2.lt)
  have HBT := Lib.hid (HBW.out.trans (HB69.out.mono HBW.out.size))
  have HB2 := Lib.hid ((HH.out.2.2.2 w2 (Below.refl _ _)).2.lt)
  obtain ⟨Z, hZ⟩ : ∃ Z, winG EnV.K (rngV m.j o).2.1 (rngV m.j o).2.2.1 (rngV m.j o).2.2.2.1 o.m L6 [] = Z := ⟨_, rfl⟩
  have ho9 := HO9.out
  rw [hZ] at HZM HZ1 HZP ho9 ⊢
  have HO9 := Lib.hid ho9
  have hb4 := BoxC.set2 (x := .int .i64 0) (y := .slice a9 Z.length c9) hbx1
  have ho4 : Off (fun k => k = w.heap.size + 1) w3 ((w3.setCell ⟨w.heap.size + 1, 0, none⟩ (.int .i64 0)).setCell ⟨w.heap.size + 1, 1, none⟩ (.slice a9 Z.length c9)) :=
    Off.set (S := fun k => k = w.heap.size + 1) (Off.set (S := fun k => k = w.heap.size + 1) (Off.refl _ w3) ⟨w.heap.size + 1, 0, none⟩ rfl _) ⟨w.heap.size + 1, 1, none⟩ rfl _
  revert hb4 ho4
  generalize (w3.setCell ⟨w.heap.size + 1, 0, none⟩ (.int .i64 0)).setCell ⟨w.heap.size + 1, 1, none⟩ (.slice a9 Z.length c9) = w4
  intro hb4 ho4
  have q0 := hb4.cell 0
  have q1 := hb4.cell 1
  have HO4 := Lib.hid ho4
  clear hb4 ho4 hbx1 ho9 hZ
  go_wp2_with fail
  refine bodyPost_end (v := .agg #[.int .i64 0, .slice a9 Z.length c9]) (by simp [results, Tryz.results128, go_sem, q0, q1]) rfl ?_
  have hl9 : (Z.map EnV.p).length = Z.length := List.length_map _
  have hzm : ∀ e ∈ Z, e ∈ L6 := fun e he => (HZM.out e he).elim id (fun h => by cases h)
  refine ⟨S, x, ⟨0, a9, c9, Z.map EnV.p⟩, by rw [hl9], TSt.same HH.out.1 (Off.below HBT.out HO4.out HBT.out.size (fun k hk => by cases hk; omega)), ?_, ⟨by rw [hl9]; have := HZ1.out; have := HMO.out; omega, fun p hp => ?_⟩, ?_, rfl⟩
  · show ((0 : Int), (Z.map EnV.p).map prC) = _
    rw [← HZP.out, List.map_map, List.map_map]
    rfl
  · obtain ⟨e, he, rfl⟩ := List.mem_map.1 hp
    have := HX6.out e (hzm e he)
    exact ⟨this.2.1.1, rOk_byt this.2.2, by have h2 := this.2.2.2.1; rw [List.length_map] at h2; omega⟩
  · have hbd9 : ∀ k, (fun k => S k ∨ k = w.heap.size + 1) k → k < wc.heap.size := fun k hk => by
      rcases hk with hk | rfl
      · exact Nat.lt_of_lt_of_le (HH.out.1.bd k hk) HBW.out.size
      · exact Nat.lt_of_lt_of_le HB2.out HB23.out
    have h9 := ((HST6.out _ hbd9).below HB9.out).off (HO4.out.mono fun k hk => .inr hk)
    intro W' o'
    have hrow := own_off22 (own_off22 HO9.out HO4.out (fun k hk => by cases hk; exact HB1R.out)) o' (fun k hk => Nat.lt_of_lt_of_le (HH.out.1.bd k hk) (Nat.le_trans HBW.out.size HB6.out.size))
    have hrow : W'.ownsRow w6.heap.size 78 2 (.slice a9 (Z.map EnV.p).length c9) (Z.map EnV.p).length (prcells (Z.map EnV.p)) := by rw [hl9]; exact hrow
    refine prs_own hrow rfl (fun p hp => ?_)
    obtain ⟨e, he, rfl⟩ := List.mem_map.1 hp
    obtain ⟨i, hi⟩ := List.mem_iff_getElem?.1 (hzm e he)
    obtain ⟨_, _, _, _, _, _, l⟩ := (h9.less (fun k hk => .inl hk)) W' o' i e hi
    exact ⟨l.pk, l.pr⟩
end Go.Proofs.YthmofoldmdafoaaGreat
