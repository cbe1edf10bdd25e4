/- Disks: one goes over the files of both (once). -/
import Derived.Test.YtbjhcbiihekceaaDfb
namespace Go.Proofs.Ytbjhcbiihekceaa
open Go.ChangeShapes Go.WideShapes Go.ChangeAt Go.RowKit Go.Maps Go.Shelf
set_option linter.unusedVariables false
set_option linter.unusedSimpArgs false
attribute [local go_sem] Oper.semAt_some
/-- once's own boxes. -/
structure BX (W : World) (s q : Nat) (most : Int) (t : Bool) (k : Nat) : Prop where
  b4 : BoxC W s #[.pointer (some ⟨q, 0, none⟩)] 27
  b5 : BoxC W (s + 1) #[.int .i64 most] 3
  b6 : BoxC W (s + 1 + 1) #[.bool t] 4
  b7 : BoxC W (s + 1 + 1 + 1) #[.int .i64 (k : Int)] 3
theorem BX.below {W W' : World} {s q : Nat} {most : Int} {t : Bool} {k : Nat} (h : BX W s q most t k) (b : Below W.heap.size W W') : BX W' s q most t k := ⟨h.b4.below b, h.b5.below b, h.b6.below b, h.b7.below b⟩
theorem BX.own {W W' : World} {row : Option Nat} {s q : Nat} {most : Int} {t : Bool} {k : Nat} (h : BX W s q most t k) (hg : W.grownBy W' row) (hr : ∀ r, row = some r → ∃ o : Obj, W.heap[r]? = some o ∧ o.isCells = false) : BX W' s q most t k :=
  ⟨h.b4.own hg hr, h.b5.own hg hr, h.b6.own hg hr, h.b7.own hg hr⟩
theorem bx_own (B s q : Nat) (most : Int) (t : Bool) (j : Nat) : OwnFrom B (fun k W => BX W s q most t (k + j)) := Own.from (fun (k : Nat) X Y row (hs : BX X s q most t (k + j)) hg hr => BX.own hs hg hr) _
theorem BoxC.other {W : World} {B : Nat} {cs : Array Value} {t : TypeId} (h : BoxC W B cs t) (p : Addr) (v : Value) (hne : B ≠ p.block) : BoxC (W.setCell p v) B cs t :=
  (Below.heap_setCell W p v B hne).trans h
theorem BX.step {W : World} {s q : Nat} {most : Int} {t : Bool} {k : Nat} (h : BX W s q most t k) : BX (W.setCell ⟨s + 1 + 1 + 1, 0, none⟩ (.int .i64 ((k + 1 : Nat) : Int))) s q most t (k + 1) :=
  ⟨h.b4.other _ _ (by simp; omega), h.b5.other _ _ (by simp), h.b6.other _ _ (by simp), h.b7.put 0 _⟩
theorem BX.tell {W : World} {s q : Nat} {most : Int} {t : Bool} {k : Nat} (h : BX W s q most t k) (t' : Bool) : BX (W.setCell ⟨s + 1 + 1, 0, none⟩ (.bool t')) s q most t' k :=
  ⟨h.b4.other _ _ (by simp; omega), h.b5.other _ _ (by simp), h.b6.put 0 _, h.b7.other _ _ (by simp)⟩
set_option maxRecDepth 100000 in
set_option maxHeartbeats 4000000 in
/-- once (54), of two disks that have the same files: true. -/
theorem c_once {w : World} {p bm room q rm : Nat} {C : List CF} {O O' : Nat → Prop} (h : DC w p bm room C O) (h2 : RDC w q rm C O') (most : Int) :
    Calls Try.prog 54 #[.pointer (some ⟨p, 0, none⟩), .pointer (some ⟨q, 0, none⟩), .int .i64 most] w fun e w' => e = .returned (.bool true) ∧ Below w.heap.size w w' := by
  obtain ⟨R, ra, rcap, hr, hrC, _⟩ := h2
  have H := Lib.hid h
  have HR := Lib.hid hr
  have HRC := Lib.hid hrC
  obtain ⟨n, hn⟩ : ∃ n, C.length = n := ⟨_, rfl⟩
  have hn64 : n ≤ 64 := by rw [← hn]; exact h.few
  have HN := Lib.hid hn
  have HRN := Lib.hid (show R.length = n by rw [← hn, ← hrC, List.length_map])
  clear h hr hn hrC
  refine (callsIn_wide (n := 6)).1 ?_
  refine callsIn_of_wp_marks Try.func54 rfl trivial ?_ rfl
  simp only [Try.ntmps54, List.size_toArray, List.length_cons, List.length_nil, Nat.reduceAdd, Nat.reduceSub, Array.replicate_succ, Array.replicate_zero, List.push_toArray, List.append_toArray, List.nil_append, List.cons_append]
  gi_wp2_with fail
  obtain ⟨W0, hW0⟩ : ∃ W0, (((w.alloc (.cells #[.pointer (some ⟨q, 0, none⟩)] 27)).alloc (.cells #[.int .i64 most] 3)).alloc (.cells #[.bool false] 4)).alloc (.cells #[.int .i64 0] 3) = W0 := ⟨_, rfl⟩
  have hb0 : Below w.heap.size w W0 := by rw [← hW0]; exact ((((Below.refl _ w).alloc (Nat.le_refl _) _).alloc (by simp) _).alloc (by simp; omega) _).alloc (by simp; omega) _
  have bx : BX W0 w.heap.size q most false 0 := by
    rw [← hW0]
    refine ⟨(((BoxC.new w _ 27).alloc _).alloc _).alloc _, ?_, ?_, ?_⟩
    · have := ((BoxC.new (w.alloc (.cells #[.pointer (some ⟨q, 0, none⟩)] 27)) #[.int .i64 most] 3).alloc (.cells #[.bool false] 4)).alloc (.cells #[.int .i64 0] 3)
      simpa using this
    · have := (BoxC.new ((w.alloc (.cells #[.pointer (some ⟨q, 0, none⟩)] 27)).alloc (.cells #[.int .i64 most] 3)) #[.bool false] 4).alloc (.cells #[.int .i64 0] 3)
      simpa using this
    · have := BoxC.new (((w.alloc (.cells #[.pointer (some ⟨q, 0, none⟩)] 27)).alloc (.cells #[.int .i64 most] 3)).alloc (.cells #[.bool false] 4)) #[.int .i64 0] 3
      simpa using this
  have hsz : W0.heap.size = w.heap.size + 4 := by rw [← hW0]; simp
  rw [hW0]
  clear hW0
  have HD := Lib.hid (H.out.below hb0)
  have HR0 := Lib.hid (HR.out.below hb0)
  have HB := Lib.hid hb0
  have BX0 := Lib.hid bx
  clear bx hb0
  refine ⟨trivial, ?_⟩
  refine (callsIn_wide.2 (c_all (some ⟨p, 0, none⟩) _)).mono ?_
  rintro e w' ⟨rfl, rfl⟩
  have hnf := fun W => hnf115 (.func 102) #[] #[.pointer (some ⟨w.heap.size + 4, 0, none⟩)] W
  gi_wp2_with fail
  clear hnf
  obtain ⟨W5, hW5⟩ : ∃ W5, W0.alloc (.cells #[.pointer (some ⟨p, 0, none⟩)] 23) = W5 := ⟨_, rfl⟩
  have bA : BoxC W5 (w.heap.size + 4) #[.pointer (some ⟨p, 0, none⟩)] 23 := by rw [← hW5, ← hsz]; exact BoxC.new W0 _ 23
  have hb5 : Below W0.heap.size W0 W5 := by rw [← hW5]; exact (Below.refl _ _).alloc (Nat.le_refl _) _
  have hs5 : W5.heap.size = w.heap.size + 5 := by rw [← hW5, World.size_alloc, hsz]
  rw [hW5]
  clear hW5
  have HD5 := Lib.hid (HD.out.below hb5)
  have hb05 := HB.out.trans (hb5.mono HB.out.size)
  have HB05 := Lib.hid hb05
  have HX5 := Lib.hid (BX0.out.below hb5)
  have HNC := Lib.hid (show C.length = n from HN.out)
  clear hb5 hb05 BX0
  have hsq : SeqX Fence.wide 5 Try.prog 102 #[.pointer (some ⟨w.heap.size + 4, 0, none⟩)] encA (KpA W5.heap.size) (PxA W5.heap.size C) n W5 := by
    rw [← HN.out]
    exact all_x 5 (by omega) HD5.out (w.heap.size + 4) bA
  refine wp_range_x1 rfl (by omega) (gf := 102) (lb := #[.pointer (some ⟨w.heap.size + 4, 0, none⟩)]) rfl trivial (enters_of Try.func102 (by kernel_rfl) rfl)
    hsq KpA.trans (fun A => KpA.refl _ A) (fun W l o o' h1 h2 h3 h4 => KpA.put W l o o' h1 h2 h3 h4)
    (fun k x W l o o' h1 h2 h3 h4 hp => hp.kp (KpA.put W l o o' h1 h2 h3 h4)) (fun _ => rfl)
    (fun k W => Below w.heap.size w W ∧ BX W w.heap.size q most false k)
    (fun k W => Below w.heap.size w W ∧ BX W w.heap.size q most true (k + 1))
    (OwnFrom.and (ownFrom_below (Nat.le_refl _) (by omega)) (bx_own _ _ _ _ _ 0))
    (OwnFrom.and (ownFrom_below (Nat.le_refl _) (by omega)) (bx_own _ _ _ _ _ 1))
    ⟨HB05.out, HX5.out⟩
    ?a1 ?assign ?body ?done ?stop
  case assign =>
    rintro l x W K hK
    dsimp only [encA]
    gi_wp2
    exact hK
  case body =>
    rintro l k x W hk ⟨hbW, hbx⟩ hpx
    obtain ⟨f, hf⟩ : ∃ f, R[k]? = some f := ⟨_, List.getElem?_eq_getElem (by rw [HRN.out]; exact hk)⟩
    have hcx : core f = core x := by
      have := hpx.at_
      rw [← HRC.out, List.getElem?_map, hf] at this
      exact Option.some.inj this
    have hrk := HR.out.below hbW
    obtain ⟨g, rfl, hg, x1, x2, x3⟩ := hrk.file hf
    have hnm : f.nm = x.nm := congrArg (·.1) hcx
    have hbs : f.bs = x.bs := congrArg (·.2.1) hcx
    have hlf := (hrk.rows f (List.mem_of_getElem? hf)).1
    rw [hnm] at x1
    rw [hbs] at x2 hlf
    have y1 := hrk.c1
    rw [HRN.out] at y1
    have z4 := hbx.b4.cell 0
    have z5 := hbx.b5.cell 0
    have z6 := hbx.b6.cell 0
    have z7 := hbx.b7.cell 0
    have f6 := hbx.b6.frozen 0
    have f7 := hbx.b7.frozen 0
    simp only [List.getElem?_toArray, List.getElem?_cons_zero] at z4 z5 z6 z7
    have q1 := fun m => conv_ls (W.drewN m) x.ad x.bs.length x.cap x.bs rfl (hpx.row.ls.below (below_drewN (Below.refl _ _) m)).rd
    have q2 := fun m => conv_ls (W.drewN m) f.ad x.bs.length f.cap x.bs rfl (hlf.below (below_drewN (Below.refl _ _) m)).rd
    have d1 : decide (n ≤ k) = false := by simp; omega
    have hkn : (k : Int) < (n : Int) := by omega
    have HBW := Lib.hid hbW
    have HBX := Lib.hid hbx
    generalize strOfNums x.bs = str at q1 q2
    clear hbW hbx hpx hf hcx hrk hg hnm hbs hlf
    gi_wp2_with fail
    refine quiet_round rfl (by kernel_rfl) (by kernel_rfl) (by kernel_rfl) ?_
    repeat (gi_big_quiet_step (fail))
    refine wpQuietIn_nil ?_
    intro _ hw'
    obtain ⟨nq, hw''⟩ := hw'
    subst hw''
    have hst := HBX.out.below (below_drewN (Below.refl _ _) nq)
    have HST := Lib.hid hst.step
    have hkw : IntKind.i64.wrap ((k : Int) + 1) = ((k + 1 : Nat) : Int) := by
      rw [IntKind.wrap_i64] <;> omega
    have HK5 := Lib.hid (KeepsFrom.trans (keeps_below (B := W5.heap.size) (drew_below (Below.refl _ W) nq)) ((KeepsOthers.setCell (W.drewN nq) ⟨w.heap.size + 1 + 1 + 1, 0, none⟩ (.int .i64 ((k + 1 : Nat) : Int))).from W5.heap.size))
    have HKP := Lib.hid ((KpA.below (base := W5.heap.size) (drew_below (Below.refl _ W) nq)).trans (KpA.set (W.drewN nq) ⟨w.heap.size + 1 + 1 + 1, 0, none⟩ (.int .i64 ((k + 1 : Nat) : Int)) (by simp; omega)))
    have HBB := Lib.hid ((step_below HBW.out (below_drewN (Below.refl _ _) nq)).setCell (p := ⟨w.heap.size + 1 + 1 + 1, 0, none⟩) (by simp; omega) (.int .i64 ((k + 1 : Nat) : Int)))
    clear hst
    by_cases hm : ((k + 1 : Nat) : Int) = most
    · subst hm
      have d2 : (((k + 1 : Nat) : Int) == ((k + 1 : Nat) : Int)) = true := by simp
      gi_wp2
      exact ⟨HK5.out.trans ((KeepsOthers.setCell _ _ _).from _), HBB.out.setCell (p := ⟨w.heap.size + 1 + 1, 0, none⟩) (by simp; omega) _, HST.out.tell true⟩
    · have d2 : (((k + 1 : Nat) : Int) == most) = false := by simpa using hm
      gi_wp2
      exact ⟨HK5.out, HKP.out, HBB.out, HST.out⟩
  case done =>
    rintro D W hD ⟨hbW, hbx⟩ hK
    have hrk := HR.out.below hbW
    have y1 := hrk.c1
    rw [HRN.out] at y1
    have z4 := hbx.b4.cell 0
    have z6 := hbx.b6.cell 0
    have z7 := hbx.b7.cell 0
    have f6 := hbx.b6.frozen 0
    simp only [List.getElem?_toArray, List.getElem?_cons_zero] at z4 z6 z7
    have FQ := Lib.hid (fun X (b : Below W.heap.size W X) => (⟨(b.cell (cell_lt z4)).trans z4, (b.cell (cell_lt z7)).trans z7, (b.cell (cell_lt y1)).trans y1, ⟨(b.cell (cell_lt z6)).trans z6, (b.frozen (cell_lt z6)).trans f6⟩⟩ : X.cell? ⟨w.heap.size, 0, none⟩ = some (.pointer (some ⟨q, 0, none⟩)) ∧ X.cell? ⟨w.heap.size + 1 + 1 + 1, 0, none⟩ = some (.int .i64 (n : Int)) ∧ X.cell? ⟨q, 1, none⟩ = some (.slice ra n rcap) ∧ (X.cell? ⟨w.heap.size + 1 + 1, 0, none⟩ = some (.bool false) ∧ X.frozen? ⟨w.heap.size + 1 + 1, 0, none⟩ = false)))
    have HBX := Lib.hid hbx
    have HBW := Lib.hid hbW
    have HK := Lib.hid hK
    clear hbW hbx hrk y1 z4 z6 z7 f6 hK
    gi_wp2_with fail
    rename_i KK hKK
    refine wpIn_wide.2 (Code.wp_mono (Q := Exit.then KK (fun _ _ _ => False)) (fun e a' w' h => by cases e <;> first | exact h | exact h.elim) ?_)
    refine wp_region_last (z := 7) (S := (fun X => Below W.heap.size W X)) (by kernel_rfl) ((Below.refl _ _).drew) (fun hHeld => ?_)
    refine wpAnyL_take (i := 0) (oi := { dst := some 56, op := Op.load 3 (Operand.tmp 7), type := 3, pos := "law.go:58", after := #[], guard := none }) (v := ?_) (by kernel_rfl) rfl (by kernel_rfl) rfl (by kernel_rfl) (by kernel_rfl) (by kernel_rfl) (fun _ _ _ h => h) (Or.inl ⟨by rfl, ?_⟩) (by assumption) ?_
    rotate_left
    · intro W hSw; obtain ⟨a0, a1, a2, a3⟩ := FQ.out W hSw; go_simp; try with_reducible rfl
    try simp only [Act.put, List.setIfInBounds_toArray, List.set_cons_zero, List.set_cons_succ]
    refine wpAnyL_take (i := 1) (oi := { dst := some 57, op := Op.load 27 (Operand.tmp 4), type := 27, pos := "law.go:58", after := #[], guard := none }) (v := ?_) (by kernel_rfl) rfl (by kernel_rfl) rfl (by kernel_rfl) (by kernel_rfl) (by kernel_rfl) (fun _ _ _ h => h) (Or.inl ⟨by rfl, ?_⟩) (by assumption) ?_
    rotate_left
    · intro W hSw; obtain ⟨a0, a1, a2, a3⟩ := FQ.out W hSw; go_simp; try with_reducible rfl
    try simp only [Act.put, List.setIfInBounds_toArray, List.set_cons_zero, List.set_cons_succ]
    refine wpAnyL_take (i := 2) (oi := { dst := some 58, op := Op.nilCheck (Operand.tmp 57), type := 0, pos := "law.go:58", after := #[{ on := 1, ground := Ground.data }], guard := none }) (v := ?_) (by kernel_rfl) rfl (by kernel_rfl) rfl (by kernel_rfl) (by kernel_rfl) (by kernel_rfl) (fun _ _ _ h => h) (Or.inl ⟨by rfl, ?_⟩) (by assumption) ?_
    rotate_left
    · intro W hSw; go_simp; try with_reducible rfl
    try simp only [Act.put, List.setIfInBounds_toArray, List.set_cons_zero, List.set_cons_succ]
    refine wpAnyL_take (i := 3) (oi := { dst := some 59, op := Op.fieldAddr 97 (Operand.tmp 58) 1, type := 0, pos := "law.go:58", after := #[{ on := 2, ground := Ground.data }], guard := none }) (v := ?_) (by kernel_rfl) rfl (by kernel_rfl) rfl (by kernel_rfl) (by kernel_rfl) (by kernel_rfl) (fun _ _ _ h => h) (Or.inl ⟨by rfl, ?_⟩) (by assumption) ?_
    rotate_left
    · intro W hSw; go_simp; try with_reducible rfl
    try simp only [Act.put, List.setIfInBounds_toArray, List.set_cons_zero, List.set_cons_succ]
    refine wpAnyL_take (i := 4) (oi := { dst := some 60, op := Op.load 95 (Operand.tmp 59), type := 95, pos := "law.go:58", after := #[{ on := 3, ground := Ground.data }], guard := none }) (v := ?_) (by kernel_rfl) rfl (by kernel_rfl) rfl (by kernel_rfl) (by kernel_rfl) (by kernel_rfl) (fun _ _ _ h => h) (Or.inl ⟨by rfl, ?_⟩) (by assumption) ?_
    rotate_left
    · intro W hSw; obtain ⟨a0, a1, a2, a3⟩ := FQ.out W hSw; go_simp; try with_reducible rfl
    try simp only [Act.put, List.setIfInBounds_toArray, List.set_cons_zero, List.set_cons_succ]
    refine wpAnyL_take (i := 5) (oi := { dst := some 61, op := Op.call { callee := Callee.builtin Builtin.len, args := #[Operand.tmp 60], argTypes := #[95] }, type := 3, pos := "law.go:58", after := #[{ on := 4, ground := Ground.data }], guard := none }) (v := ?_) (by kernel_rfl) rfl (by kernel_rfl) rfl (by kernel_rfl) (by kernel_rfl) (by kernel_rfl) (fun _ _ _ h => h) (Or.inl ⟨by rfl, ?_⟩) (by assumption) ?_
    rotate_left
    · intro W hSw; go_simp; try with_reducible rfl
    try simp only [Act.put, List.setIfInBounds_toArray, List.set_cons_zero, List.set_cons_succ]
    refine wpAnyL_take (i := 6) (oi := { dst := some 62, op := Op.binOp BinOp.eql 3 (Operand.tmp 56) (Operand.tmp 61) 3, type := 4, pos := "law.go:58", after := #[{ on := 0, ground := Ground.data }, { on := 5, ground := Ground.data }], guard := none }) (v := ?_) (by kernel_rfl) rfl (by kernel_rfl) rfl (by kernel_rfl) (by kernel_rfl) (by kernel_rfl) (fun _ _ _ h => h) (Or.inl ⟨by rfl, ?_⟩) (by assumption) ?_
    rotate_left
    · intro W hSw; go_simp; try with_reducible rfl
    try simp only [Act.put, List.setIfInBounds_toArray, List.set_cons_zero, List.set_cons_succ]
    refine wpAnyL_ready (rs := [7]) (by kernel_rfl) (by simp) ?_
    refine AllL.last (o := { dst := none, op := Op.store 4 (Operand.tmp 6) (Operand.tmp 62), type := 0, pos := "law.go:58", after := #[{ on := 6, ground := Ground.data }, { on := 0, ground := Ground.phase }, { on := 1, ground := Ground.phase }, { on := 2, ground := Ground.phase }, { on := 3, ground := Ground.phase }, { on := 4, ground := Ground.phase }, { on := 5, ground := Ground.phase }, { on := 6, ground := Ground.phase }], guard := none }) rfl (fun K hK => ?_)
    obtain ⟨a0, a1, a2, a3⟩ := FQ.out _ hHeld
    go_simp
    refine hK.out _ _ ?_
    clear hK K
    try simp only [Act.put, List.setIfInBounds_toArray, List.set_cons_zero, List.set_cons_succ]
    refine wpAnyL_done (by kernel_rfl) ?_ _
    skip
    refine hKK _ _ ?_
    have bR2 : BoxC (W.setCell ⟨w.heap.size + 1 + 1, 0, none⟩ (.bool true)).drew (w.heap.size + 1 + 1) #[.bool true] 4 := (HBX.out.tell true).b6.below (Below.refl _ _).drew
    have b2 : Below w.heap.size w (W.setCell ⟨w.heap.size + 1 + 1, 0, none⟩ (.bool true)).drew := (HBW.out.setCell (p := ⟨w.heap.size + 1 + 1, 0, none⟩) (by simp; omega) _).drew
    have hK3 : (W.setCell ⟨w.heap.size + 1 + 1, 0, none⟩ (.bool true)).drew.heap[D]? = some (.deferred (some [])) := (KeepsOthers.setCell W ⟨w.heap.size + 1 + 1, 0, none⟩ (.bool true)).same D _ HK.out rfl
    clear a0 a1 a2 a3 hKK FQ hHeld
    generalize (W.setCell ⟨w.heap.size + 1 + 1, 0, none⟩ (.bool true)).drew = W2 at bR2 b2 hK3 ⊢
    gi_wp2
    refine ⟨by simp, .inl ⟨_, _, rfl, run_takeDeferred hK3, ?_⟩⟩
    have bR3 := bR2.kept (grownBy_putObj' W2 D (.deferred none)) (fun e => by cases e; omega)
    have h0 : (W2.putObj D (.deferred none)).cell? ⟨w.heap.size + 1 + 1, 0, none⟩ = some (.bool true) := bR3.cell 0
    refine ⟨.bool true, ?_, rfl, b2.trans (belowK_b (w := w) (Nat.le_refl _) _ D _ _ (by omega) hK3 rfl rfl)⟩
    simp [results, Try.f54, go_sem, h0]
  case stop =>
    rintro D k W hD hk ⟨hbW, hbx⟩ hK
    have bR := hbx.b6
    clear hbx
    gi_wp2
    refine ⟨by simp, .inl ⟨_, _, rfl, run_takeDeferred hK, ?_⟩⟩
    have bR3 := bR.kept (grownBy_putObj' W D (.deferred none)) (fun e => by cases e; omega)
    have h0 : (W.putObj D (.deferred none)).cell? ⟨w.heap.size + 1 + 1, 0, none⟩ = some (.bool true) := bR3.cell 0
    refine ⟨.bool true, ?_, rfl, hbW.trans (belowK_b (w := w) (Nat.le_refl _) _ D _ _ (by omega) hK rfl rfl)⟩
    simp [results, Try.f54, go_sem, h0]
end Go.Proofs.Ytbjhcbiihekceaa
