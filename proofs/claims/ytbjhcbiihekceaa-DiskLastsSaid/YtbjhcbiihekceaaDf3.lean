/- Disks of the document: out, put. -/
import Derived.Test.YtbjhcbiihekceaaDl0
namespace Go.Proofs.Ytbjhcbiihekceaa
open Go.ChangeShapes Go.WideShapes Go.ChangeAt Go.RowKit Go.Maps
set_option linter.unusedVariables false
set_option linter.unusedSimpArgs false
theorem fcs_take (L : List Fil) (n : Nat) : fcs (L.take n) = (fcs L).take (n * 3) := by
  induction L generalizing n with
  | nil => simp [fcs]
  | cons f r ih =>
    cases n with
    | zero => simp [fcs]
    | succ n =>
      rw [List.take_succ_cons, fcs_cons, fcs_cons, ih]
      have e : (n + 1) * 3 = (fc f).length + n * 3 := by show _ = 3 + _; omega
      rw [e, List.take_length_add_append]
theorem fcs_drop (L : List Fil) (n : Nat) : fcs (L.drop n) = (fcs L).drop (n * 3) := by
  induction L generalizing n with
  | nil => simp [fcs]
  | cons f r ih =>
    cases n with
    | zero => simp
    | succ n =>
      rw [List.drop_succ_cons, fcs_cons, ih]
      have e : (n + 1) * 3 = (fc f).length + n * 3 := by show _ = 3 + _; omega
      rw [e, List.drop_length_add_append]
theorem RDk.cells {W : World} {q room : Nat} {L : List Fil} {a : Option Addr} {cap : Nat} (h : RDk W q room L a cap) : CellsL W a (fcs L) ∧ L.length ≤ cap ∧ (a = none → L.length = 0 ∧ cap = 0) := by
  obtain ⟨a', cap', e, hc, h1, h2, _⟩ := own_cells h.own
  injection e with e1 _ e3
  subst e1 e3
  exact ⟨hc, h1, h2⟩
theorem step_append_fl {ops : Array Oper} {o : Oper} {a : Act} {w : World} {Kt : Act → World → Prop} {Q : Exit → Act → World → Prop} {Z : Prop} (hgd : o.guard = none) (s x : Operand)
    (ho : o.op = .call { callee := .builtin .append, args := #[s, x], argTypes := #[95, 95] })
    (base : Nat) (w0 : World) (hB0 : Below base w0 w) (v : Value) (n : Nat) (L : List Fil) (hs : a.eval s = v) (hown : w.ownsRow base 111 3 v n (fcs L))
    (ad : Option Addr) (c len : Nat) (M : List Fil) (hlen : M.length = len) (hx : a.eval x = .slice ad len c) (hM : CellsL w ad (fcs M)) (hn : ad = none → c = 0)
    (hb : n + len ≤ 1000) (hbase : base ≤ w.heap.size)
    (h : ∀ v' w', w'.ownsRow base 111 3 v' (n + len) (fcs (L ++ M)) → Below base w0 w' → w.grownBy w' v.ownBlock → Kt (a.put o.dst v') w') :
    if Region.wanted o (yielded ops a.tmps) = true then Oper.wp Try.prog o a w Kt Q else Z := by
  have hw : Region.wanted o (yielded ops a.tmps) = true := by simp [Region.wanted, hgd]
  rw [if_pos hw]
  obtain ⟨v', w', h1, h2, h3⟩ := run_append_fl w o.type base v n L hown ad c len M hlen hM hn hb hbase
  unfold Oper.wp execOp
  simp only [ho, resolve, invoke, builtin, Sem.run_bind, Sem.run_pure, Result.andThen_ok, List.map_toArray, List.map_cons, List.map_nil, hs, hx, h1]
  exact h v' w' h2 (hB0.grown h3 hbase (fun j hj => (hown.lt j hj).1)) h3
/-- What is written of new blocks is not seen. -/
theorem Off.unseen {S T : Nat → Prop} {w W' W'' : World} (h : Off S w W') (k : Off T W' W'') (hT : ∀ i, i < w.heap.size → ¬ T i) : Off S w W'' :=
  ⟨k.os.trans h.os, k.tape.trans h.tape, k.output.trans h.output, Nat.le_trans h.size k.size, fun i hi hs => (k.block i (Nat.lt_of_lt_of_le hi h.size) (hT i hi)).trans (h.block i hi hs)⟩
theorem own_mono {W : World} {base base' n sz : Nat} {t : TypeId} {v : Value} {xs : List Value} (h : W.ownsRow base t sz v n xs) (hb : base' ≤ base) : W.ownsRow base' t sz v n xs := by
  refine ⟨h.1, ?_⟩
  rcases h.2 with h2 | ⟨g, cap, cur, hv, hg, r⟩
  · exact Or.inl h2
  · exact Or.inr ⟨g, cap, cur, hv, Nat.le_trans hb hg, r⟩
/-- The disk's row written anew. -/
theorem rdk_set {W X : World} {q room : Nat} {L M : List Fil} {a a2 : Option Addr} {cap cap2 n base : Nat} (h : RDk W q room L a cap) (ho : W.ownsRow base 111 3 (.slice a2 n cap2) n (fcs M)) (hb : q < base) (hM : ∀ x ∈ M, x ∈ L) (hX : W.setCell ⟨q, 1, none⟩ (.slice a2 n cap2) = X) : RDk X q room M a2 cap2 ∧ ∀ g, a2 = some g → base ≤ g.block := by
  subst hX
  have hn : M.length = n := by have := ho.1; rw [fcs_length] at this; omega
  subst hn
  have o : Off (fun k => k = q) W (W.setCell ⟨q, 1, none⟩ (.slice a2 M.length cap2)) := Off.set (S := fun k => k = q) (Off.refl _ W) ⟨q, 1, none⟩ rfl _
  have hge : ∀ g, a2 = some g → base ≤ g.block := fun g e => by
    obtain ⟨a', cap', e2, _, _, _, h5⟩ := own_cells ho
    injection e2 with e3
    exact (h5 g (e3 ▸ e)).1
  refine ⟨⟨h.box.put 1 _, own_mono (own_off ho o fun g k c e hk => ?_) (by omega), fun f hf => ⟨(h.rows f (hM f hf)).1.any o fun b e hk => ?_, fun b e => ⟨((h.rows f (hM f hf)).2 b e).1, Nat.lt_of_lt_of_le ((h.rows f (hM f hf)).2 b e).2 o.size⟩⟩⟩, hge⟩
  · injection e with e1
    have := hge g e1
    omega
  · have := ((h.rows f (hM f hf)).2 b e).1
    omega
theorem own_ge {W : World} {base n sz : Nat} {t : TypeId} {v : Value} {xs : List Value} (h : W.ownsRow base t sz v n xs) {k : Nat} (hk : v.ownBlock = some k) : base ≤ k := (h.lt k hk).1
set_option maxRecDepth 8192 in
set_option maxHeartbeats 4000000 in
/-- out (97). -/
theorem rout_law {w : World} {q room : Nat} {L : List Fil} {a : Option Addr} {cap : Nat} (h : RDk w q room L a cap) (hl : L.length ≤ 64) (i : Nat) (f : Fil) (hf : L[i]? = some f) :
    Calls Try.prog 97 #[.pointer (some ⟨q, 0, none⟩), .int .i64 (i : Int)] w fun e w' => e = .returned (.agg #[.string f.nm, .slice f.ad f.bs.length f.cap, .int .i64 f.last]) ∧ (∃ a' cap', RDk w' q room (L.take i ++ L.drop (i + 1)) a' cap' ∧ ∀ g, a' = some g → w.heap.size ≤ g.block) ∧ Off (fun k => k = q) w w' := by
  obtain ⟨W0, hW0⟩ : ∃ W0, w.alloc (.cells #[.string ⟨#[]⟩, .slice none 0 0, .int .i64 0] 111) = W0 := ⟨_, rfl⟩
  have hb0 : Below w.heap.size w W0 := by rw [← hW0]; exact bl1 _ _
  have hs0 : W0.heap.size = w.heap.size + 1 := by rw [← hW0]; simp
  have bx0 : BoxC W0 w.heap.size #[.string ⟨#[]⟩, .slice none 0 0, .int .i64 0] 111 := by rw [← hW0]; exact BoxC.new _ _ _
  have H0 := Lib.hid (h.below hb0)
  obtain ⟨g, rfl, hqg, x1, x2, x3⟩ := H0.out.file hf
  have c1 := H0.out.c1
  have hi : i < L.length := (List.getElem?_eq_some_iff.1 hf).1
  obtain ⟨n, hn⟩ : ∃ n, L.length = n := ⟨_, rfl⟩
  have hcap : L.length ≤ cap := h.cells.2.1
  rw [hn] at c1 hl hi hcap
  have HN := Lib.hid hn
  have hin : (i : Int) < (n : Int) := by omega
  have HRW := Lib.hid (fun x hx b e => ((h.rows x hx).2 b e).2)
  have HQW := Lib.hid (show q < w.heap.size from h.box.lt)
  clear h hn hf
  have HS0 := Lib.hid hs0
  clear hs0
  go_enter Try.func97, Try.ntmps97
  go_wp2
  clear hW0
  obtain ⟨W1, hW1⟩ : ∃ W1, W0.alloc (.cells #[.string f.nm, .slice f.ad f.bs.length f.cap, .int .i64 f.last] 111) = W1 := ⟨_, rfl⟩
  have hb1 : Below W0.heap.size W0 W1 := by rw [← hW1]; exact bl1 _ _
  have bx1 : BoxC W1 W0.heap.size #[.string f.nm, .slice f.ad f.bs.length f.cap, .int .i64 f.last] 111 := by rw [← hW1]; exact BoxC.new _ _ _
  rw [hW1]
  have FQ := Lib.hid (fun X (b : Below W1.heap.size W1 X) => (show X.cell? ⟨q, 1, none⟩ = some (.slice (some ⟨g, 0, none⟩) n cap) by
    have := (H0.out.below (step_below hb1 b)).c1
    rwa [HN.out] at this))
  have HCC := Lib.hid (fun X (b : Below W1.heap.size W1 X) => (H0.out.below (step_below hb1 b)).cells.1)
  have hic : i ≤ cap := by omega
  have hw1 : IntKind.i64.wrap ((i : Int) + 1) = ((i + 1 : Nat) : Int) := by rw [IntKind.wrap_i64] <;> omega
  have hi1 : (i : Int) + 1 ≤ (n : Int) := by omega
  have hi2 : 0 ≤ (i : Int) + 1 := by omega
  have HTD := Lib.hid (show (L.drop (i + 1)).length = n - (i + 1) by rw [List.length_drop, HN.out])
  have HCD := Lib.hid (fun X (b : Below W1.heap.size W1 X) => (show CellsL X (if cap = i + 1 then some ⟨g, 0, none⟩ else some ⟨g, (i + 1) * 3, none⟩) (fcs (L.drop (i + 1))) by
    split
    · rw [List.drop_eq_nil_of_le (by rw [HN.out]; omega)]; exact CellsL.nil _ _
    · rw [fcs_drop]
      have := (HCC.out X b).drop ((i + 1) * 3)
      rwa [Nat.zero_add] at this))
  have HT := Lib.hid (show (L.take i).length = i by rw [List.length_take, HN.out]; omega)
  have HCT := Lib.hid (fun X (b : Below W1.heap.size W1 X) => (show CellsL X (some ⟨g, 0, none⟩) (fcs (L.take i)) by rw [fcs_take]; exact (HCC.out X b).take _))
  clear hW1
  refine wp_region_last (z := 18) (S := (fun X => Below W1.heap.size W1 X)) (by kernel_rfl) ((Below.refl _ _).drew) (fun hHeld => ?_)
  refine wpAnyL_take (i := 0) (oi := { dst := some 13, op := Op.move (Operand.tmp 0), type := 27, pos := "ref.go:99", after := #[], guard := none }) (v := ?_) (by kernel_rfl) rfl (by kernel_rfl) rfl (by kernel_rfl) (by kernel_rfl) (by kernel_rfl) (fun _ _ _ h => h) (Or.inl ⟨by rfl, ?_⟩) (by assumption) ?_
  rotate_left
  · intro W hSw; go_simp; try with_reducible rfl
  try simp only [Act.put, List.setIfInBounds_toArray, List.set_cons_zero, List.set_cons_succ]
  refine wpAnyL_take (i := 1) (oi := { dst := some 14, op := Op.move (Operand.tmp 0), type := 27, pos := "ref.go:99", after := #[], guard := none }) (v := ?_) (by kernel_rfl) rfl (by kernel_rfl) rfl (by kernel_rfl) (by kernel_rfl) (by kernel_rfl) (fun _ _ _ h => h) (Or.inl ⟨by rfl, ?_⟩) (by assumption) ?_
  rotate_left
  · intro W hSw; go_simp; try with_reducible rfl
  try simp only [Act.put, List.setIfInBounds_toArray, List.set_cons_zero, List.set_cons_succ]
  refine wpAnyL_take (i := 2) (oi := { dst := some 15, op := Op.nilCheck (Operand.tmp 14), type := 0, pos := "ref.go:99", after := #[{ on := 1, ground := Ground.data }], guard := none }) (v := ?_) (by kernel_rfl) rfl (by kernel_rfl) rfl (by kernel_rfl) (by kernel_rfl) (by kernel_rfl) (fun _ _ _ h => h) (Or.inl ⟨by rfl, ?_⟩) (by assumption) ?_
  rotate_left
  · intro W hSw; go_simp; try with_reducible rfl
  try simp only [Act.put, List.setIfInBounds_toArray, List.set_cons_zero, List.set_cons_succ]
  refine wpAnyL_take (i := 3) (oi := { dst := some 16, op := Op.fieldAddr 97 (Operand.tmp 15) 1, type := 0, pos := "ref.go:99", after := #[{ on := 2, ground := Ground.data }], guard := none }) (v := ?_) (by kernel_rfl) rfl (by kernel_rfl) rfl (by kernel_rfl) (by kernel_rfl) (by kernel_rfl) (fun _ _ _ h => h) (Or.inl ⟨by rfl, ?_⟩) (by assumption) ?_
  rotate_left
  · intro W hSw; go_simp; try with_reducible rfl
  try simp only [Act.put, List.setIfInBounds_toArray, List.set_cons_zero, List.set_cons_succ]
  refine wpAnyL_take (i := 4) (oi := { dst := some 17, op := Op.load 95 (Operand.tmp 16), type := 95, pos := "ref.go:99", after := #[{ on := 3, ground := Ground.data }], guard := none }) (v := ?_) (by kernel_rfl) rfl (by kernel_rfl) rfl (by kernel_rfl) (by kernel_rfl) (by kernel_rfl) (fun _ _ _ h => h) (Or.inl ⟨by rfl, ?_⟩) (by assumption) ?_
  rotate_left
  · intro W hSw; have a0 := FQ.out W hSw; go_simp; try with_reducible rfl
  try simp only [Act.put, List.setIfInBounds_toArray, List.set_cons_zero, List.set_cons_succ]
  refine wpAnyL_take (i := 5) (oi := { dst := some 18, op := Op.move (Operand.tmp 1), type := 3, pos := "ref.go:99", after := #[], guard := none }) (v := ?_) (by kernel_rfl) rfl (by kernel_rfl) rfl (by kernel_rfl) (by kernel_rfl) (by kernel_rfl) (fun _ _ _ h => h) (Or.inl ⟨by rfl, ?_⟩) (by assumption) ?_
  rotate_left
  · intro W hSw; go_simp; try with_reducible rfl
  try simp only [Act.put, List.setIfInBounds_toArray, List.set_cons_zero, List.set_cons_succ]
  refine wpAnyL_take (i := 6) (oi := { dst := some 19, op := Op.slice 95 (Operand.tmp 17) none (some (Operand.tmp 18)) none, type := 95, pos := "ref.go:99", after := #[{ on := 4, ground := Ground.data }, { on := 5, ground := Ground.data }], guard := none }) (v := ?_) (by kernel_rfl) rfl (by kernel_rfl) rfl (by kernel_rfl) (by kernel_rfl) (by kernel_rfl) (fun _ _ _ h => h) (Or.inl ⟨by rfl, ?_⟩) (by assumption) ?_
  rotate_left
  · intro W hSw; go_simp; try with_reducible rfl
  try simp only [Act.put, List.setIfInBounds_toArray, List.set_cons_zero, List.set_cons_succ]
  refine wpAnyL_take (i := 8) (oi := { dst := some 21, op := Op.move (Operand.tmp 0), type := 27, pos := "ref.go:99", after := #[], guard := none }) (v := ?_) (by kernel_rfl) rfl (by kernel_rfl) rfl (by kernel_rfl) (by kernel_rfl) (by kernel_rfl) (fun _ _ _ h => h) (Or.inl ⟨by rfl, ?_⟩) (by assumption) ?_
  rotate_left
  · intro W hSw; go_simp; try with_reducible rfl
  try simp only [Act.put, List.setIfInBounds_toArray, List.set_cons_zero, List.set_cons_succ]
  refine wpAnyL_take (i := 9) (oi := { dst := some 22, op := Op.nilCheck (Operand.tmp 21), type := 0, pos := "ref.go:99", after := #[{ on := 8, ground := Ground.data }], guard := none }) (v := ?_) (by kernel_rfl) rfl (by kernel_rfl) rfl (by kernel_rfl) (by kernel_rfl) (by kernel_rfl) (fun _ _ _ h => h) (Or.inl ⟨by rfl, ?_⟩) (by assumption) ?_
  rotate_left
  · intro W hSw; go_simp; try with_reducible rfl
  try simp only [Act.put, List.setIfInBounds_toArray, List.set_cons_zero, List.set_cons_succ]
  refine wpAnyL_take (i := 10) (oi := { dst := some 23, op := Op.fieldAddr 97 (Operand.tmp 22) 1, type := 0, pos := "ref.go:99", after := #[{ on := 9, ground := Ground.data }], guard := none }) (v := ?_) (by kernel_rfl) rfl (by kernel_rfl) rfl (by kernel_rfl) (by kernel_rfl) (by kernel_rfl) (fun _ _ _ h => h) (Or.inl ⟨by rfl, ?_⟩) (by assumption) ?_
  rotate_left
  · intro W hSw; go_simp; try with_reducible rfl
  try simp only [Act.put, List.setIfInBounds_toArray, List.set_cons_zero, List.set_cons_succ]
  refine wpAnyL_take (i := 11) (oi := { dst := some 24, op := Op.load 95 (Operand.tmp 23), type := 95, pos := "ref.go:99", after := #[{ on := 10, ground := Ground.data }], guard := none }) (v := ?_) (by kernel_rfl) rfl (by kernel_rfl) rfl (by kernel_rfl) (by kernel_rfl) (by kernel_rfl) (fun _ _ _ h => h) (Or.inl ⟨by rfl, ?_⟩) (by assumption) ?_
  rotate_left
  · intro W hSw; have a0 := FQ.out W hSw; go_simp; try with_reducible rfl
  try simp only [Act.put, List.setIfInBounds_toArray, List.set_cons_zero, List.set_cons_succ]
  refine wpAnyL_take (i := 12) (oi := { dst := some 25, op := Op.move (Operand.tmp 1), type := 3, pos := "ref.go:99", after := #[], guard := none }) (v := ?_) (by kernel_rfl) rfl (by kernel_rfl) rfl (by kernel_rfl) (by kernel_rfl) (by kernel_rfl) (fun _ _ _ h => h) (Or.inl ⟨by rfl, ?_⟩) (by assumption) ?_
  rotate_left
  · intro W hSw; go_simp; try with_reducible rfl
  try simp only [Act.put, List.setIfInBounds_toArray, List.set_cons_zero, List.set_cons_succ]
  refine wpAnyL_take (i := 13) (oi := { dst := some 26, op := Op.binOp BinOp.add 3 (Operand.tmp 25) (Operand.const (Value.int IntKind.i64 1)) 3, type := 3, pos := "ref.go:99", after := #[{ on := 12, ground := Ground.data }], guard := none }) (v := ?_) (by kernel_rfl) rfl (by kernel_rfl) rfl (by kernel_rfl) (by kernel_rfl) (by kernel_rfl) (fun _ _ _ h => h) (Or.inl ⟨by rfl, ?_⟩) (by assumption) ?_
  rotate_left
  · intro W hSw; go_simp; try with_reducible rfl
  try simp only [Act.put, List.setIfInBounds_toArray, List.set_cons_zero, List.set_cons_succ]
  refine wpAnyL_take (i := 14) (oi := { dst := some 27, op := Op.slice 95 (Operand.tmp 24) (some (Operand.tmp 26)) none none, type := 95, pos := "ref.go:99", after := #[{ on := 11, ground := Ground.data }, { on := 13, ground := Ground.data }], guard := none }) (v := ?_) (by kernel_rfl) rfl (by kernel_rfl) rfl (by kernel_rfl) (by kernel_rfl) (by kernel_rfl) (fun _ _ _ h => h) (Or.inl ⟨by rfl, ?_⟩) (by assumption) ?_
  rotate_left
  · intro W hSw; go_simp; try with_reducible rfl
  try simp only [Act.put, List.setIfInBounds_toArray, List.set_cons_zero, List.set_cons_succ]
  refine wpAnyL_ready (rs := [7]) (by kernel_rfl) (by simp) ?_
  refine AllL.cons (o := { dst := some 20, op := Op.call { callee := Callee.builtin Builtin.append, args := #[Operand.const (Value.slice none 0 0), Operand.tmp 19], argTypes := #[95, 95] }, type := 95, pos := "ref.go:99", after := #[{ on := 6, ground := Ground.data }], guard := none }) rfl (fun K hK => ?_) AllL.nil
  refine step_append_fl rfl _ _ rfl W1.heap.size W1 hHeld (.slice none 0 0) 0 [] rfl ⟨rfl, Or.inl ⟨rfl, rfl⟩⟩ (some ⟨g, 0, none⟩) cap i (L.take i) HT.out rfl (HCT.out _ hHeld) (fun e => by cases e) (by omega) hHeld.size ?_
  intro v1 X1 ho1 hb2 hg1
  have HO1 := Lib.hid (show X1.ownsRow W1.heap.size 111 3 v1 i (fcs (L.take i)) by simpa using ho1)
  clear ho1 hg1
  refine hK.out _ _ (hb2) (fun hHeldn => ?_)
  clear hK K hHeld; have hHeld := hHeldn; clear hHeldn
  clear hb2
  try simp only [Act.put, List.setIfInBounds_toArray, List.set_cons_zero, List.set_cons_succ]
  refine wpAnyL_ready (rs := [15]) (by kernel_rfl) (by simp) ?_
  refine AllL.cons (o := { dst := some 28, op := Op.call { callee := Callee.builtin Builtin.append, args := #[Operand.tmp 20, Operand.tmp 27], argTypes := #[95, 95] }, type := 95, pos := "ref.go:99", after := #[{ on := 7, ground := Ground.data }, { on := 14, ground := Ground.data }, { on := 7, ground := Ground.chain }], guard := none }) rfl (fun K hK => ?_) AllL.nil
  refine step_append_fl rfl _ _ rfl W1.heap.size W1 hHeld v1 i (L.take i) rfl HO1.out (if cap = i + 1 then some ⟨g, 0, none⟩ else some ⟨g, (i + 1) * 3, none⟩) (cap - (i + 1)) (n - (i + 1)) (L.drop (i + 1)) HTD.out rfl (HCD.out _ hHeld) (fun e => by split at e <;> cases e) (by omega) hHeld.size ?_
  intro v2 X2 ho2 hb3 hg2
  have HO2 := Lib.hid ho2
  clear ho2 hg2
  refine hK.out _ _ (hb3) (fun hHeldn => ?_)
  clear hK K hHeld; have hHeld := hHeldn; clear hHeldn
  clear hb3
  try simp only [Act.put, List.setIfInBounds_toArray, List.set_cons_zero, List.set_cons_succ]
  refine wpAnyL_free (i := 16) (oi := { dst := some 29, op := Op.nilCheck (Operand.tmp 13), type := 0, pos := "ref.go:99", after := #[{ on := 0, ground := Ground.data }, { on := 0, ground := Ground.phase }, { on := 1, ground := Ground.phase }, { on := 2, ground := Ground.phase }, { on := 3, ground := Ground.phase }, { on := 4, ground := Ground.phase }, { on := 5, ground := Ground.phase }, { on := 6, ground := Ground.phase }, { on := 7, ground := Ground.phase }, { on := 8, ground := Ground.phase }, { on := 9, ground := Ground.phase }, { on := 10, ground := Ground.phase }, { on := 11, ground := Ground.phase }, { on := 12, ground := Ground.phase }, { on := 13, ground := Ground.phase }, { on := 14, ground := Ground.phase }, { on := 15, ground := Ground.phase }], guard := none }) (v := ?_) (by kernel_rfl) rfl rfl (by kernel_rfl) (by kernel_rfl) (by kernel_rfl) (fun _ _ _ h => h) (Or.inl ⟨by rfl, ?_⟩) (by assumption) ?_
  rotate_left
  · intro W hSw; go_simp; try with_reducible rfl
  try simp only [Act.put, List.setIfInBounds_toArray, List.set_cons_zero, List.set_cons_succ]
  refine wpAnyL_take (i := 17) (oi := { dst := some 30, op := Op.fieldAddr 97 (Operand.tmp 29) 1, type := 0, pos := "ref.go:99", after := #[{ on := 16, ground := Ground.data }, { on := 0, ground := Ground.phase }, { on := 1, ground := Ground.phase }, { on := 2, ground := Ground.phase }, { on := 3, ground := Ground.phase }, { on := 4, ground := Ground.phase }, { on := 5, ground := Ground.phase }, { on := 6, ground := Ground.phase }, { on := 7, ground := Ground.phase }, { on := 8, ground := Ground.phase }, { on := 9, ground := Ground.phase }, { on := 10, ground := Ground.phase }, { on := 11, ground := Ground.phase }, { on := 12, ground := Ground.phase }, { on := 13, ground := Ground.phase }, { on := 14, ground := Ground.phase }, { on := 15, ground := Ground.phase }], guard := none }) (v := ?_) (by kernel_rfl) rfl (by kernel_rfl) rfl (by kernel_rfl) (by kernel_rfl) (by kernel_rfl) (fun _ _ _ h => h) (Or.inl ⟨by rfl, ?_⟩) (by assumption) ?_
  rotate_left
  · intro W hSw; go_simp; try with_reducible rfl
  try simp only [Act.put, List.setIfInBounds_toArray, List.set_cons_zero, List.set_cons_succ]
  refine wpAnyL_ready (rs := [18]) (by kernel_rfl) (by simp) ?_
  refine AllL.last (o := { dst := none, op := Op.store 95 (Operand.tmp 30) (Operand.tmp 28), type := 0, pos := "ref.go:99", after := #[{ on := 17, ground := Ground.data }, { on := 15, ground := Ground.data }, { on := 15, ground := Ground.chain }, { on := 0, ground := Ground.phase }, { on := 1, ground := Ground.phase }, { on := 2, ground := Ground.phase }, { on := 3, ground := Ground.phase }, { on := 4, ground := Ground.phase }, { on := 5, ground := Ground.phase }, { on := 6, ground := Ground.phase }, { on := 7, ground := Ground.phase }, { on := 8, ground := Ground.phase }, { on := 9, ground := Ground.phase }, { on := 10, ground := Ground.phase }, { on := 11, ground := Ground.phase }, { on := 12, ground := Ground.phase }, { on := 13, ground := Ground.phase }, { on := 14, ground := Ground.phase }, { on := 15, ground := Ground.phase }], guard := none }) rfl (fun K hK => ?_)
  obtain ⟨a2, cap2, rfl, hcl2, hle2, hno2, hge2⟩ := own_cells HO2.out
  have f1 := (H0.out.below (step_below hb1 hHeld)).f1
  have c1' := FQ.out _ hHeld
  go_simp
  refine hK.out _ _ ?_
  clear hK K
  try simp only [Act.put, List.setIfInBounds_toArray, List.set_cons_zero, List.set_cons_succ]
  refine wpAnyL_done (by kernel_rfl) ?_ _
  skip
  obtain ⟨X3, hX3⟩ : ∃ X3, X2.setCell ⟨q, 1, none⟩ (.slice a2 (i + (n - (i + 1))) cap2) = X3 := ⟨_, rfl⟩
  have hbX : Below w.heap.size w X2 := step_below hb0 (step_below hb1 hHeld)
  have hq1 : q < W0.heap.size := H0.out.box.lt
  have HR := Lib.hid (rdk_set (H0.out.below (step_below hb1 hHeld)) HO2.out (by have := hb1.size; omega) (show ∀ x ∈ L.take i ++ L.drop (i + 1), x ∈ L from fun x hx => by
    rcases List.mem_append.1 hx with hx | hx
    · exact List.mem_of_mem_take hx
    · exact List.mem_of_mem_drop hx) hX3)
  have HOF := Lib.hid (show Off (fun k => k = q) w X3 by rw [← hX3]; exact Off.set (S := fun k => k = q) (Off.of hbX) ⟨q, 1, none⟩ rfl _)
  have hq2 : q ≠ w.heap.size := by have := HQW.out; omega
  have hq3 : q ≠ W0.heap.size := by omega
  have hbB : Below W0.heap.size W0 X2 := step_below hb1 hHeld
  have y0 : BoxC X3 w.heap.size #[.string ⟨#[]⟩, .slice none 0 0, .int .i64 0] 111 := by rw [← hX3]; exact BoxC.oth hq2 (bx0.below hbB)
  have y1 : BoxC X3 W0.heap.size #[.string f.nm, .slice f.ad f.bs.length f.cap, .int .i64 f.last] 111 := by rw [← hX3]; exact BoxC.oth hq3 (bx1.below hHeld)
  have Y0 := Lib.hid y0
  have z0 : X3.cell? ⟨w.heap.size, 0, none⟩ = some (.string ⟨#[]⟩) := y0.cell 0
  have z1 : X3.cell? ⟨w.heap.size, 1, none⟩ = some (.slice none 0 0) := y0.cell 1
  have z2 : X3.cell? ⟨w.heap.size, 2, none⟩ = some (.int .i64 0) := y0.cell 2
  have g0 := y0.frozen 0
  have g1 := y0.frozen 1
  have g2 := y0.frozen 2
  have t0 : X3.cell? ⟨W0.heap.size, 0, none⟩ = some (.string f.nm) := y1.cell 0
  have t1 : X3.cell? ⟨W0.heap.size, 1, none⟩ = some (.slice f.ad f.bs.length f.cap) := y1.cell 1
  have t2 : X3.cell? ⟨W0.heap.size, 2, none⟩ = some (.int .i64 f.last) := y1.cell 2
  have HG2 := Lib.hid hge2
  rw [hX3]
  have HW01 := Lib.hid hb1.size
  clear hX3 hbX hbB y0 y1 hHeld hcl2 hle2 hno2 hge2 hb0 hb1 bx0 bx1 c1 x1 x2 x3
  have HXS := Lib.hid (show w.heap.size < W1.heap.size by have := HS0.out; have := HW01.out; omega)
  go_wp2
  all_goals
    have b4 := ((Y0.out.put 0 (.string f.nm)).put 1 (.slice f.ad f.bs.length f.cap)).put 2 (.int .i64 f.last)
    have ho4 : Off (fun k => k = w.heap.size) X3 (((X3.setCell ⟨w.heap.size, 0, none⟩ (.string f.nm)).setCell ⟨w.heap.size, 1, none⟩ (.slice f.ad f.bs.length f.cap)).setCell ⟨w.heap.size, 2, none⟩ (.int .i64 f.last)) := (((Off.refl _ X3).set (S := fun k => k = w.heap.size) ⟨w.heap.size, 0, none⟩ rfl _).set ⟨w.heap.size, 1, none⟩ rfl _).set ⟨w.heap.size, 2, none⟩ rfl _
    generalize (((X3.setCell ⟨w.heap.size, 0, none⟩ (.string f.nm)).setCell ⟨w.heap.size, 1, none⟩ (.slice f.ad f.bs.length f.cap)).setCell ⟨w.heap.size, 2, none⟩ (.int .i64 f.last)) = X4 at b4 ho4 ⊢
    have r0 : X4.cell? ⟨w.heap.size, 0, none⟩ = some (.string f.nm) := b4.cell 0
    have r1 : X4.cell? ⟨w.heap.size, 1, none⟩ = some (.slice f.ad f.bs.length f.cap) := b4.cell 1
    have r2 : X4.cell? ⟨w.heap.size, 2, none⟩ = some (.int .i64 f.last) := b4.cell 2
    refine bodyPost_ret (v := .agg #[.string f.nm, .slice f.ad f.bs.length f.cap, .int .i64 f.last]) ?_ rfl ⟨rfl, ⟨a2, ⟨cap2, HR.out.1.off ho4 fun k hk e => ?_⟩, fun g' e => by have := HR.out.2 g' e; have := HXS.out; omega⟩, HOF.out.unseen ho4 (fun k hk e => by have e : k = w.heap.size := e; omega)⟩
    · simp [results, Try.f97, go_sem, r0, r1, r2]
    · have e : k = w.heap.size := e
      rcases hk with rfl | ⟨g', e2, rfl⟩ | ⟨x, hx, b, e2, rfl⟩
      · have := HQW.out; omega
      · have := HR.out.2 g' e2; have := HXS.out; omega
      · have := HRW.out x (by
          rcases List.mem_append.1 hx with hx | hx
          · exact List.mem_of_mem_take hx
          · exact List.mem_of_mem_drop hx) b e2
        omega
end Go.Proofs.Ytbjhcbiihekceaa
