/- LogTxns: every transaction's frame, and what any bytes tell, for every argument. Part 2. -/
import Derived.Test.YtglkndoghnblcaaGreatOna
import Derived.Test.YtglkndoghnblcaaGreatOvk
import Derived.Test.YtglkndoghnblcaaGreatOvi
import Derived.Test.YtglkndoghnblcaaGreatOvb
import Derived.Deep.DeepCutAuto
import Derived.Test.YtglkndoghnblcaaGreatOvd
import Derived.Test.YtglkndoghnblcaaGreatOve
import Derived.Test.YtglkndoghnblcaaGreatOva
namespace Go.Proofs.YtglkndoghnblcaaGreat
open Go.ChangeShapes Go.WideShapes Go.ChangeAt Go.RowKit
set_option linter.unusedVariables false
set_option linter.unusedSimpArgs false
/-- A write that was copied, owned. -/
structure WtOx (w : World) (base : Nat) (p : WtP) : Prop where
  key : w.ownsRow base 5 1 (.slice p.ka p.key.length p.kc) p.key.length (iv .u8 p.key)
  row : w.ownsRow base 22 1 (.slice p.ra p.R.length p.rc) p.R.length (p.R.map P1.v)
  all : ∀ q ∈ p.R, w.ownsRow base 5 1 q.v q.bs.length (iv .u8 q.bs)
theorem WtOx.oth {w w' : World} {base B : Nat} {p : WtP} (h : WtOx w base p) (hB : B < base) (g : w.grownBy w' (some B)) : WtOx w' base p := ⟨own_oth h.key hB g, own_oth h.row hB g, fun q hq => own_oth (h.all q hq) hB g⟩
theorem WtOx.below {w w' : World} {base : Nat} {p : WtP} (h : WtOx w base p) (b : Below w.heap.size w w') : WtOx w' base p := ⟨own_below h.key b, own_below h.row b, fun q hq => own_below (h.all q hq) b⟩
theorem WtOx.kept {w w' : World} {base b2 n : Nat} {p : WtP} {v : Value} {cs : List Value} (h : WtOx w base p) (hown : w.ownsRow b2 51 3 v n cs) (g : w.grownBy w' v.ownBlock) : WtOx w' base p :=
  ⟨h.key.kept g (own_apart h.key hown (by decide)), h.row.kept g (own_apart h.row hown (by decide)), fun q hq => (h.all q hq).kept g (own_apart (h.all q hq) hown (by decide))⟩
theorem WtOx.ok {w : World} {base : Nat} {p : WtP} (h : WtOx w base p) (kb : Byt p.key) (rb : ∀ q ∈ p.R, Byt q.bs) : WtOk w p := by
  obtain ⟨_, _, e1, l1, _⟩ := own_ls h.key rfl
  cases e1
  obtain ⟨_, _, e2, l2⟩ := own_rdr h.row rfl (fun q hq => by obtain ⟨a2, c2, e, l2, _⟩ := own_ls (h.all q hq) rfl; cases e; exact l2)
  cases e2
  exact ⟨l1, l2, kb, rb⟩
theorem take_c {α β : Type} (f : α → β) {ys xs : List α} {k : Nat} {x y : α} (h : ys.map f = (xs.take k).map f) (hx : xs[k]? = some x) (e : f y = f x) : (ys ++ [y]).map f = (xs.take (k + 1)).map f := by
  rw [List.take_add_one, hx, List.map_append, List.map_append, h]
  simp [e]
set_option maxRecDepth 100000 in
set_option maxHeartbeats 4000000 in
/-- The walk's copyTxn (18). -/
theorem copytxn_law (e s : Int) (a : Option Addr) (xs : List WtP) (n cap : Nat) (hn : xs.length = n) (hn2 : n ≤ 900000) (hl : ∀ x ∈ xs, x.key.length ≤ 1000000 ∧ x.R.length ≤ 1000000 ∧ ∀ p ∈ x.R, p.bs.length ≤ 1000000) (w : World) (hR : WtsR w a xs) :
    Calls Tryz.prog 18 #[.agg #[.int .i64 e, .int .i64 s, .slice a n cap]] w fun r w' => ∃ a' c' ys, r = .returned (.agg #[.int .i64 e, .int .i64 s, .slice a' n c']) ∧ ys.map wtC = xs.map wtC ∧ WtsR w' a' ys ∧ n ≤ c' ∧ Below w.heap.size w w' := by
  have HR := Lib.hid hR
  have HN := Lib.hid hn
  have HL := Lib.hid hl
  clear hR hn hl
  go_enter Tryz.func18, Tryz.ntmps18
  go_upto_region 1 with (fail)
  obtain ⟨W1, hW1⟩ : ∃ W0, (w.alloc (.cells #[.int .i64 e, .int .i64 s, .slice a n cap] 39)).alloc (.cells #[.int .i64 0, .int .i64 0, .slice none 0 0] 39) = W0 := ⟨_, rfl⟩
  have hb1 : Below w.heap.size w W1 := by rw [← hW1]; exact (bl1 _ _).alloc (by simp) _
  have b0 : BoxC W1 w.heap.size #[.int .i64 e, .int .i64 s, .slice a n cap] 39 := by rw [← hW1]; exact (BoxC.new w _ 39).alloc _
  have b1 : BoxC W1 (w.heap.size + 1) #[.int .i64 0, .int .i64 0, .slice none 0 0] 39 := by rw [← hW1]; have h := BoxC.new (w.alloc (.cells #[.int .i64 e, .int .i64 s, .slice a n cap] 39)) #[.int .i64 0, .int .i64 0, .slice none 0 0] 39; simpa using h
  have hs1 : W1.heap.size = w.heap.size + 2 := by rw [← hW1]; simp
  try rw [hW1]
  clear hW1
  have z0 := b0.cell 0
  have z1 := b0.cell 1
  have z2 := b0.cell 2
  simp at z0 z1 z2
  have hdd : Below W1.heap.size W1 (W1.alloc (.cells #[.int .i64 e, .int .i64 s, .slice none 0 0] 39)) := bl1 _ _
  have BD0 := Lib.hid (BoxC.new W1 #[.int .i64 e, .int .i64 s, .slice none 0 0] 39)
  have HB0 := Lib.hid (step_below hb1 hdd)
  have BA0 := Lib.hid (b0.below hdd)
  have BR0 := Lib.hid (b1.below hdd)
  clear hb1 hdd b0 b1
  go_upto_region 2 with (fail)
  rw [hs1] at BD0
  obtain ⟨D, hD⟩ : ∃ D, w.heap.size + 2 = D := ⟨_, rfl⟩
  have HDD := Lib.hid (show w.heap.size + 1 < D by omega)
  have HZ0 := Lib.hid (show D + 1 ≤ (W1.alloc (.cells #[.int .i64 e, .int .i64 s, .slice none 0 0] 39)).heap.size by simp; omega)
  rw [hD] at BD0 ⊢
  clear hD z0 z1 z2 hs1
  generalize W1.alloc (.cells #[.int .i64 e, .int .i64 s, .slice none 0 0] 39) = W2 at *
  go_wp2_with fail
  go_loopw [4] (fun i wr => ∃ (k : Nat) (ys : List WtP) (va : Option Addr) (vc : Nat), k ≤ n ∧ i = .int .i64 (k : Int) ∧ Hid (ys.length = k ∧ ys.map wtC = (xs.take k).map wtC) ∧ Hid (wr.ownsRow (D + 1) 51 3 (.slice va k vc) k (wcells ys)) ∧ Hid (∀ y ∈ ys, WtOx wr (D + 1) y) ∧ Hid (∀ y ∈ ys, Byt y.key ∧ ∀ p ∈ y.R, Byt p.bs) ∧ Hid (BoxC wr D #[.int .i64 e, .int .i64 s, .slice va k vc] 39) ∧ Hid (BoxC wr w.heap.size #[.int .i64 e, .int .i64 s, .slice a n cap] 39) ∧ Hid (BoxC wr (w.heap.size + 1) #[.int .i64 0, .int .i64 0, .slice none 0 0] 39) ∧ Hid (Below w.heap.size w wr) ∧ Hid (D + 1 ≤ wr.heap.size)) (fun i _ => n - (intOf i).toNat)
  case atStart => exact ⟨0, [], none, 0, by omega, rfl, Lib.hid ⟨rfl, by simp⟩, Lib.hid (World.ownsRow_nil _ _ _ _), Lib.hid (fun y hy => by simp at hy), Lib.hid (fun y hy => by simp at hy), BD0, BA0, BR0, HB0, HZ0⟩
  case round =>
    clear BD0 BA0 BR0 HB0 HZ0
    obtain ⟨k, ys, va, vc, hk, rfl, HY, HW, HO, HBB, BD, BA, BR, HB, HZ⟩ := hrel
    have z2 : wr.cell? ⟨w.heap.size, 2, none⟩ = some (.slice a n cap) := BA.out.cell 2
    by_cases hlt : k < n
    · have d1 : (k : Int) < (n : Int) := by omega
      obtain ⟨x, hx⟩ : ∃ x, xs[k]? = some x := ⟨_, List.getElem?_eq_getElem (by rw [HN.out]; exact hlt)⟩
      obtain ⟨b1, o1, ea, c0', c1', c2', hok⟩ := HR.out k x hx
      subst ea
      have c0 := (HB.out.cell (cell_lt c0')).trans c0'
      have c1 := (HB.out.cell (cell_lt c1')).trans c1'
      have c2 := (HB.out.cell (cell_lt c2')).trans c2'
      obtain ⟨lk, lr, lp⟩ := HL.out x (List.mem_of_getElem? hx)
      have HCO := Lib.hid (fun W (b : Below wr.heap.size wr W) => rcopy_law x.ra x.R x.R.length x.rc rfl lr lp W (hok.below (step_below HB.out b)).row)
      have HXK := Lib.hid (hok.below HB.out).ls
      have HBY := Lib.hid (And.intro hok.kb hok.rb)
      have HX := Lib.hid (And.intro hx (rfl : wtC x = wtC x))
      obtain ⟨xt, hxt⟩ : ∃ t, x.tab = t := ⟨_, rfl⟩
      obtain ⟨xk, hxk⟩ : ∃ t, x.key = t := ⟨_, rfl⟩
      obtain ⟨xl, hxl⟩ : ∃ t, xk.length = t := ⟨_, rfl⟩
      obtain ⟨XR, hXR⟩ : ∃ t, x.R = t := ⟨_, rfl⟩
      obtain ⟨xrl, hxrl⟩ : ∃ t, XR.length = t := ⟨_, rfl⟩
      obtain ⟨xa, hxa⟩ : ∃ y, x.ka = y := ⟨_, rfl⟩
      obtain ⟨xc, hxc⟩ : ∃ y, x.kc = y := ⟨_, rfl⟩
      obtain ⟨xra, hxra⟩ : ∃ y, x.ra = y := ⟨_, rfl⟩
      obtain ⟨xrc, hxrc⟩ : ∃ y, x.rc = y := ⟨_, rfl⟩
      have HXC := Lib.hid (show wtC x = (xt, xk, XR.map P1.bs) by unfold wtC; rw [hxt, hxk, hXR])
      rw [hxt] at c0
      rw [hxa, hxk, hxl, hxc] at c1
      rw [hxra, hXR, hxrl, hxrc] at c2
      rw [hxra, hXR, hxrl, hxrc] at HCO
      rw [hxa, hxc, hxk] at HXK
      rw [hxk, hXR] at HBY
      rw [hxk, hxl] at lk
      have HXL := Lib.hid (And.intro hxl hxrl)
      clear hx hok lr lp hxt hxk hxl hXR hxrl hxa hxc hxra hxrc c0' c1' c2'
      go_upto_region 6 with (fail)
      rename_i KK hKK
      obtain ⟨W5, hW5⟩ : ∃ W5, wr.alloc (.cells #[.int .i64 xt, .slice xa xl xc, .slice xra xrl xrc] 51) = W5 := ⟨_, rfl⟩
      obtain ⟨N, hN⟩ : ∃ N, wr.heap.size = N := ⟨_, rfl⟩
      have hb5 : Below wr.heap.size wr W5 := by rw [← hW5]; exact bl1 _ _
      have BN5 := Lib.hid (show BoxC W5 N #[.int .i64 xt, .slice xa xl xc, .slice xra xrl xrc] 51 by rw [← hW5, ← hN]; exact BoxC.new _ _ _)
      have HNW := Lib.hid (show N + 1 = W5.heap.size by rw [← hW5, ← hN]; simp)
      try rw [hW5]
      rw [hN]
      have HXX := Lib.hid (And.intro HXL.out.1 (And.intro (HXK.out.below hb5) HXL.out.2))
      have HCO5 := Lib.hid (fun W (b : Below W5.heap.size W5 W) => HCO.out W (step_below hb5 b))
      have HW5 := Lib.hid (own_below HW.out hb5)
      have HO5 := Lib.hid (fun y hy => (HO.out y hy).below hb5)
      have BD5 := Lib.hid (BD.out.below hb5)
      have BA5 := Lib.hid (BA.out.below hb5)
      have BR5 := Lib.hid (BR.out.below hb5)
      have HB5 := Lib.hid (step_below HB.out hb5)
      have HZ5 := Lib.hid (Nat.le_trans HZ.out hb5.size)
      have HNG := Lib.hid (fun j (h : (Value.slice va k vc).ownBlock = some j) => show j < N by rw [← hN]; exact (HW.out.lt j h).2)
      have HD5 := Lib.hid (fun W (b : Below (D + 1) W5 W) => (show W.cell? ⟨D, 2, none⟩ = some (.slice va k vc) from (BD5.out.far b (Nat.lt_succ_self D)).cell 2))
      clear hb5 hN hW5 HCO HXK HXL HW HO BD BA BR HB HZ c0 c1 c2 z2
      have HCO := HCO5
      clear HCO5
      refine Code.wp_mono (Q := Exit.then KK (fun _ _ _ => False)) (fun e a' w' h => by cases e <;> first | exact h | exact h.elim) ?_
      refine wp_region_last (z := 14) (S := (fun X => Below (D + 1) W5 X ∧ BoxC X N #[.int .i64 xt, .slice xa xl xc, .slice xra xrl xrc] 51)) (by kernel_rfl) (⟨(Below.refl _ _).drew, BN5.out.below (Below.refl _ _).drew⟩) (fun hHeld => ?_)
      refine wpAnyL_take (i := 0) (oi := { dst := some 21, op := Op.fieldAddr 39 (Operand.tmp 3) 1, type := 0, pos := "law.go:94", after := #[], guard := none }) (v := ?_) (by kernel_rfl) rfl (by kernel_rfl) rfl (by kernel_rfl) (by kernel_rfl) (by kernel_rfl) (fun _ _ _ h => h) (Or.inl ⟨by rfl, ?_⟩) (by assumption) ?_
      rotate_left
      · intro W hSw; go_simp; try with_reducible rfl
      try simp only [Act.put, List.setIfInBounds_toArray, List.set_cons_zero, List.set_cons_succ]
      refine wpAnyL_take (i := 1) (oi := { dst := some 22, op := Op.load 37 (Operand.tmp 21), type := 37, pos := "law.go:94", after := #[{ on := 0, ground := Ground.data }], guard := none }) (v := ?_) (by kernel_rfl) rfl (by kernel_rfl) rfl (by kernel_rfl) (by kernel_rfl) (by kernel_rfl) (fun _ _ _ h => h) (Or.inl ⟨by rfl, ?_⟩) (by assumption) ?_
      rotate_left
      · intro W hSw; have y2 := HD5.out W hSw.1; go_simp; try with_reducible rfl
      try simp only [Act.put, List.setIfInBounds_toArray, List.set_cons_zero, List.set_cons_succ]
      refine wpAnyL_take (i := 2) (oi := { dst := some 23, op := Op.fieldAddr 51 (Operand.tmp 5) 0, type := 0, pos := "law.go:94", after := #[], guard := none }) (v := ?_) (by kernel_rfl) rfl (by kernel_rfl) rfl (by kernel_rfl) (by kernel_rfl) (by kernel_rfl) (fun _ _ _ h => h) (Or.inl ⟨by rfl, ?_⟩) (by assumption) ?_
      rotate_left
      · intro W hSw; go_simp; try with_reducible rfl
      try simp only [Act.put, List.setIfInBounds_toArray, List.set_cons_zero, List.set_cons_succ]
      refine wpAnyL_take (i := 3) (oi := { dst := some 24, op := Op.load 3 (Operand.tmp 23), type := 3, pos := "law.go:94", after := #[{ on := 2, ground := Ground.data }], guard := none }) (v := ?_) (by kernel_rfl) rfl (by kernel_rfl) rfl (by kernel_rfl) (by kernel_rfl) (by kernel_rfl) (fun _ _ _ h => h) (Or.inl ⟨by rfl, ?_⟩) (by assumption) ?_
      rotate_left
      · intro W hSw; have q0 := hSw.2.cell 0; have q1 := hSw.2.cell 1; have q2 := hSw.2.cell 2; simp at q0 q1 q2; go_simp; try with_reducible rfl
      try simp only [Act.put, List.setIfInBounds_toArray, List.set_cons_zero, List.set_cons_succ]
      refine wpAnyL_take (i := 4) (oi := { dst := some 25, op := Op.fieldAddr 51 (Operand.tmp 5) 1, type := 0, pos := "law.go:94", after := #[], guard := none }) (v := ?_) (by kernel_rfl) rfl (by kernel_rfl) rfl (by kernel_rfl) (by kernel_rfl) (by kernel_rfl) (fun _ _ _ h => h) (Or.inl ⟨by rfl, ?_⟩) (by assumption) ?_
      rotate_left
      · intro W hSw; go_simp; try with_reducible rfl
      try simp only [Act.put, List.setIfInBounds_toArray, List.set_cons_zero, List.set_cons_succ]
      refine wpAnyL_take (i := 5) (oi := { dst := some 26, op := Op.load 22 (Operand.tmp 25), type := 22, pos := "law.go:94", after := #[{ on := 4, ground := Ground.data }], guard := none }) (v := ?_) (by kernel_rfl) rfl (by kernel_rfl) rfl (by kernel_rfl) (by kernel_rfl) (by kernel_rfl) (fun _ _ _ h => h) (Or.inl ⟨by rfl, ?_⟩) (by assumption) ?_
      rotate_left
      · intro W hSw; have q0 := hSw.2.cell 0; have q1 := hSw.2.cell 1; have q2 := hSw.2.cell 2; simp at q0 q1 q2; go_simp; try with_reducible rfl
      try simp only [Act.put, List.setIfInBounds_toArray, List.set_cons_zero, List.set_cons_succ]
      refine wpAnyL_take (i := 7) (oi := { dst := some 28, op := Op.fieldAddr 51 (Operand.tmp 5) 2, type := 0, pos := "law.go:94", after := #[], guard := none }) (v := ?_) (by kernel_rfl) rfl (by kernel_rfl) rfl (by kernel_rfl) (by kernel_rfl) (by kernel_rfl) (fun _ _ _ h => h) (Or.inl ⟨by rfl, ?_⟩) (by assumption) ?_
      rotate_left
      · intro W hSw; go_simp; try with_reducible rfl
      try simp only [Act.put, List.setIfInBounds_toArray, List.set_cons_zero, List.set_cons_succ]
      refine wpAnyL_take (i := 8) (oi := { dst := some 29, op := Op.load 49 (Operand.tmp 28), type := 49, pos := "law.go:94", after := #[{ on := 7, ground := Ground.data }], guard := none }) (v := ?_) (by kernel_rfl) rfl (by kernel_rfl) rfl (by kernel_rfl) (by kernel_rfl) (by kernel_rfl) (fun _ _ _ h => h) (Or.inl ⟨by rfl, ?_⟩) (by assumption) ?_
      rotate_left
      · intro W hSw; have q0 := hSw.2.cell 0; have q1 := hSw.2.cell 1; have q2 := hSw.2.cell 2; simp at q0 q1 q2; go_simp; try with_reducible rfl
      try simp only [Act.put, List.setIfInBounds_toArray, List.set_cons_zero, List.set_cons_succ]
      refine wpAnyL_ready (rs := [6]) (by kernel_rfl) (by simp) ?_
      refine AllL.cons (o := { dst := some 27, op := Op.call { callee := Callee.builtin Builtin.append, args := #[Operand.const (Value.slice none 0 0), Operand.tmp 26], argTypes := #[22, 22] }, type := 22, pos := "law.go:94", after := #[{ on := 5, ground := Ground.data }], guard := none }) rfl (fun K hK => ?_) AllL.nil
      refine step_append_ls eltB rfl _ _ rfl W5.heap.size W5 (Below.refl _ _).drew _ 0 [] rfl (World.ownsRow_nil _ _ _ _) _ _ xl xk HXX.out.1 rfl (HXX.out.2.1.below (Below.refl _ _).drew) (by omega) (Nat.le_refl _) ?_
      intro v6 X6 ho6 hb6 hg6
      try rw [Nat.zero_add] at ho6
      try rw [List.nil_append] at ho6
      obtain ⟨a6, c6, rfl⟩ := own_form ho6
      have HK6 := Lib.hid (own_base (b := D + 1) HZ5.out ho6)
      have HB6 := Lib.hid hb6
      have hs6 : Below (D + 1) W5 X6 ∧ BoxC X6 N #[.int .i64 xt, .slice xa xl xc, .slice xra xrl xrc] 51 := ⟨hb6.mono HZ5.out, BN5.out.below hb6⟩
      refine hK.out _ _ hs6 (fun hHeldn => ?_)
      clear hK K hHeld ho6 hb6 hg6 hs6; have hHeld := hHeldn; clear hHeldn
      try simp only [Act.put, List.setIfInBounds_toArray, List.set_cons_zero, List.set_cons_succ]
      refine wpAnyL_ready (rs := [9]) (by kernel_rfl) (by simp) ?_
      refine AllL.cons (o := { dst := some 30, op := Op.call { callee := Callee.value (Operand.func 54), args := #[Operand.tmp 29], argTypes := #[49] }, type := 49, pos := "law.go:94", after := #[{ on := 8, ground := Ground.data }, { on := 6, ground := Ground.chain }], guard := none }) rfl (fun K hK => ?_) AllL.nil
      go_simp
      refine (HCO.out _ HB6.out).mono ?_; rintro e9 w7 ⟨v7, rfl, hrow, hb7⟩
      obtain ⟨RR, hr1, hr2, hr3⟩ := hrow.base (show D + 1 ≤ X6.heap.size from Nat.le_trans HZ5.out HB6.out.size)
      rw [List.length_map, HXX.out.2.2] at hr2
      obtain ⟨ra, rc, rfl⟩ := own_form hr2
      have HR7 := Lib.hid (And.intro hr1 (And.intro hr2 hr3))
      have HK7 := Lib.hid (own_below HK6.out hb7)
      have HB7 := Lib.hid (step_below HB6.out hb7)
      have hs7 : Below (D + 1) W5 w7 ∧ BoxC w7 N #[.int .i64 xt, .slice xa xl xc, .slice xra xrl xrc] 51 := ⟨HB7.out.mono HZ5.out, BN5.out.below HB7.out⟩
      go_wp2_with fail
      refine hK.out _ _ hs7 (fun hHeldn => ?_)
      clear hK K hHeld hrow hb7 hr1 hr2 hr3 hs7; have hHeld := hHeldn; clear hHeldn
      try simp only [Act.put, List.setIfInBounds_toArray, List.set_cons_zero, List.set_cons_succ]
      refine wpAnyL_take (i := 10) (oi := { dst := some 31, op := Op.build 51 #[(0, Operand.tmp 24), (1, Operand.tmp 27), (2, Operand.tmp 30)], type := 51, pos := "law.go:94", after := #[{ on := 3, ground := Ground.data }, { on := 6, ground := Ground.data }, { on := 9, ground := Ground.data }], guard := none }) (v := ?_) (by kernel_rfl) rfl (by kernel_rfl) rfl (by kernel_rfl) (by kernel_rfl) (by kernel_rfl) (fun _ _ _ h => h) (Or.inl ⟨by rfl, ?_⟩) (by assumption) ?_
      rotate_left
      · intro W hSw; go_simp; try with_reducible rfl
      try simp only [Act.put, List.setIfInBounds_toArray, List.set_cons_zero, List.set_cons_succ]
      refine wpAnyL_ready (rs := [11]) (by kernel_rfl) (by simp) ?_
      refine AllL.cons (o := { dst := some 32, op := Op.buildSlice 37 1 #[(0, Operand.tmp 31)], type := 37, pos := "law.go:94", after := #[{ on := 10, ground := Ground.data }], guard := none }) rfl (fun K hK => ?_) AllL.nil
      go_simp
      have hb8 := bl1 w7 (.cells #[.int .i64 xt, .slice a6 xl c6, .slice ra xrl rc] 51)
      have hs8 : Below (D + 1) W5 (w7.alloc (.cells #[.int .i64 xt, .slice a6 xl c6, .slice ra xrl rc] 51)) ∧ BoxC (w7.alloc (.cells #[.int .i64 xt, .slice a6 xl c6, .slice ra xrl rc] 51)) N #[.int .i64 xt, .slice xa xl xc, .slice xra xrl xrc] 51 := ⟨(step_below HB7.out hb8).mono HZ5.out, BN5.out.below (step_below HB7.out hb8)⟩
      refine hK.out _ _ hs8 (fun hHeldn => ?_)
      clear hK K hHeld hs8; have hHeld := hHeldn; clear hHeldn
      try simp only [Act.put, List.setIfInBounds_toArray, List.set_cons_zero, List.set_cons_succ]
      refine wpAnyL_ready (rs := [12]) (by kernel_rfl) (by simp) ?_
      refine AllL.cons (o := { dst := some 33, op := Op.call { callee := Callee.builtin Builtin.append, args := #[Operand.tmp 22, Operand.tmp 32], argTypes := #[37, 37] }, type := 37, pos := "law.go:94", after := #[{ on := 1, ground := Ground.data }, { on := 11, ground := Ground.data }, { on := 9, ground := Ground.chain }], guard := none }) rfl (fun K hK => ?_) AllL.nil
      have hown := own_below HW5.out (step_below HB7.out hb8)
      have hz8 := (step_below HB7.out hb8).size
      refine step_append_wt rfl _ _ rfl (D + 1) (.slice va k vc) k (wcells ys) rfl hown ⟨w7.heap.size, 0, none⟩ 1 [.int .i64 xt, .slice a6 xl c6, .slice ra xrl rc] rfl rfl (by intro j u hj; match j, hj with | 0, hj => (simp at hj; subst hj; simp [Addr.add]) | 1, hj => (simp at hj; subst hj; simp [Addr.add]) | 2, hj => (simp at hj; subst hj; simp [Addr.add]) | j + 3, hj => simp at hj) (by intro u hu; simp at hu; rcases hu with rfl | rfl | rfl <;> rfl) (by omega) (Nat.le_trans HZ5.out hz8) ?_
      intro v9 w9 hown9 hgrow9
      obtain ⟨a9, c9, rfl⟩ := own_form hown9
      have b9 : Below (D + 1) W5 w9 := hHeld.1.grown hgrow9 (Nat.le_trans HZ5.out hz8) (fun j hj => (hown.lt j hj).1)
      have bn9 : BoxC w9 N #[.int .i64 xt, .slice xa xl xc, .slice xra xrl xrc] 51 := hHeld.2.kept hgrow9 (fun e9 => by have h1 := HNG.out N e9.symm; omega)
      have HB9 := Lib.hid b9
      have HKN := Lib.hid (show (WtP.mk xt a6 c6 xk ra rc RR).cells = [.int .i64 xt, .slice a6 xl c6, .slice ra xrl rc] by simp only [WtP.cells, HXX.out.1, show RR.length = xrl by have := congrArg List.length HR7.out.1; rw [List.length_map, List.length_map, HXX.out.2.2] at this; exact this])
      have HW9 := Lib.hid (show w9.ownsRow (D + 1) 51 3 (.slice a9 (k + 1) c9) (k + 1) (wcells (ys ++ [WtP.mk xt a6 c6 xk ra rc RR])) by rw [wcells_append]; show w9.ownsRow (D + 1) 51 3 _ (k + 1) (wcells ys ++ ((WtP.mk xt a6 c6 xk ra rc RR).cells ++ [])); rw [List.append_nil, HKN.out]; exact hown9)
      have HO9 := Lib.hid (show ∀ y ∈ ys ++ [⟨xt, a6, c6, xk, ra, rc, RR⟩], WtOx w9 (D + 1) y from fun y hy => by
        rcases List.mem_append.1 hy with hy | hy
        · exact ((HO5.out y hy).below (step_below HB7.out hb8)).kept hown hgrow9
        · rw [List.mem_singleton] at hy
          subst hy
          refine WtOx.kept ⟨?_, ?_, fun q hq => own_below (HR7.out.2.2 q hq) hb8⟩ hown hgrow9
          · simp only [HXX.out.1]; exact own_below HK7.out hb8
          · simp only [show RR.length = xrl by have := congrArg List.length HR7.out.1; rw [List.length_map, List.length_map, HXX.out.2.2] at this; exact this]; exact own_below HR7.out.2.1 hb8)
      refine hK.out _ _ ⟨b9, bn9⟩ (fun hHeldn => ?_)
      clear hK K hHeld hown hgrow9 hown9 hb8 b9 bn9 hz8; have hHeld := hHeldn; clear hHeldn
      try simp only [Act.put, List.setIfInBounds_toArray, List.set_cons_zero, List.set_cons_succ]
      refine wpAnyL_take (i := 13) (oi := { dst := some 34, op := Op.fieldAddr 39 (Operand.tmp 3) 1, type := 0, pos := "law.go:94", after := #[{ on := 0, ground := Ground.phase }, { on := 1, ground := Ground.phase }, { on := 2, ground := Ground.phase }, { on := 3, ground := Ground.phase }, { on := 4, ground := Ground.phase }, { on := 5, ground := Ground.phase }, { on := 6, ground := Ground.phase }, { on := 7, ground := Ground.phase }, { on := 8, ground := Ground.phase }, { on := 9, ground := Ground.phase }, { on := 10, ground := Ground.phase }, { on := 11, ground := Ground.phase }, { on := 12, ground := Ground.phase }], guard := none }) (v := ?_) (by kernel_rfl) rfl (by kernel_rfl) rfl (by kernel_rfl) (by kernel_rfl) (by kernel_rfl) (fun _ _ _ h => h) (Or.inl ⟨by rfl, ?_⟩) (by assumption) ?_
      rotate_left
      · intro W hSw; go_simp; try with_reducible rfl
      try simp only [Act.put, List.setIfInBounds_toArray, List.set_cons_zero, List.set_cons_succ]
      refine wpAnyL_ready (rs := [14]) (by kernel_rfl) (by simp) ?_
      refine AllL.last (o := { dst := none, op := Op.store 37 (Operand.tmp 34) (Operand.tmp 33), type := 0, pos := "law.go:94", after := #[{ on := 13, ground := Ground.data }, { on := 12, ground := Ground.data }, { on := 12, ground := Ground.chain }, { on := 0, ground := Ground.phase }, { on := 1, ground := Ground.phase }, { on := 2, ground := Ground.phase }, { on := 3, ground := Ground.phase }, { on := 4, ground := Ground.phase }, { on := 5, ground := Ground.phase }, { on := 6, ground := Ground.phase }, { on := 7, ground := Ground.phase }, { on := 8, ground := Ground.phase }, { on := 9, ground := Ground.phase }, { on := 10, ground := Ground.phase }, { on := 11, ground := Ground.phase }, { on := 12, ground := Ground.phase }], guard := none }) rfl (fun K hK => ?_)
      have bd9 := BD5.out.far HB9.out (Nat.lt_succ_self D)
      have x2 := bd9.cell 2
      have f2 := bd9.frozen 2
      simp at x2
      go_simp
      refine hK.out _ _ ?_
      clear hK K x2 f2
      try simp only [Act.put, List.setIfInBounds_toArray, List.set_cons_zero, List.set_cons_succ]
      refine wpAnyL_done (by kernel_rfl) ?_ _
      skip
      refine hKK _ _ ?_
      have hdd := HDD.out
      have hg := oth_set w9 D 2 (.slice a9 (k + 1) c9)
      have bdn := bd9.put 2 (.slice a9 (k + 1) c9)
      simp at bdn
      have BDN := Lib.hid bdn
      have BAN := Lib.hid ((BA5.out.far HB9.out (by omega)).gr hg (by omega))
      have BRN := Lib.hid ((BR5.out.far HB9.out (by omega)).gr hg (by omega))
      have HWN := Lib.hid (own_oth HW9.out (Nat.lt_succ_self D) hg)
      have HON := Lib.hid (fun y hy => (HO9.out y hy).oth (Nat.lt_succ_self D) hg)
      have HBN := Lib.hid ((HB5.out.trans (HB9.out.mono (by omega))).setCell (p := ⟨D, 2, none⟩) (by simp; omega) (.slice a9 (k + 1) c9))
      have HZN := Lib.hid (show D + 1 ≤ (w9.setCell ⟨D, 2, none⟩ (.slice a9 (k + 1) c9)).heap.size by simp; exact Nat.le_trans HZ5.out HB9.out.size)
      have HYN := Lib.hid (show (ys ++ [WtP.mk xt a6 c6 xk ra rc RR]).length = k + 1 ∧ (ys ++ [WtP.mk xt a6 c6 xk ra rc RR]).map wtC = (xs.take (k + 1)).map wtC from ⟨by rw [List.length_append, HY.out.1]; rfl, take_c wtC HY.out.2 HX.out.1 (by rw [HXC.out]; unfold wtC; simp only [HR7.out.1])⟩)
      have HBBN := Lib.hid (show ∀ y ∈ ys ++ [⟨xt, a6, c6, xk, ra, rc, RR⟩], Byt y.key ∧ ∀ p ∈ y.R, Byt p.bs from fun y hy => by
        rcases List.mem_append.1 hy with hy | hy
        · exact HBB.out y hy
        · rw [List.mem_singleton] at hy
          subst hy
          refine ⟨HBY.out.1, fun p hp => ?_⟩
          have h1 : p.bs ∈ XR.map P1.bs := by rw [← HR7.out.1]; exact List.mem_map.2 ⟨p, hp, rfl⟩
          obtain ⟨q, hq, e1⟩ := List.mem_map.1 h1
          rw [← e1]
          exact HBY.out.2 q hq)
      clear bd9 bdn hg hdd
      generalize w9.setCell ⟨D, 2, none⟩ (.slice a9 (k + 1) c9) = WN at *
      go_wp2_with fail
      go_roundw
      case rel => exact ⟨k + 1, _, a9, c9, by omega, by go_num, HYN, HWN, HON, HBBN, BDN, BAN, BRN, HBN, HZN⟩
      case measure => simp [intOf]; omega
    · have d1 : ¬ (k : Int) < (n : Int) := by omega
      obtain rfl : k = n := by omega
      have hdd := HDD.out
      have HCC := Lib.hid (show ys.map wtC = xs.map wtC by rw [HY.out.2, List.take_of_length_le (by rw [HN.out]; exact Nat.le_refl _)])
      have y0 := BD.out.cell 0
      have y1 := BD.out.cell 1
      have y2 := BD.out.cell 2
      simp at y0 y1 y2
      have zb := BR.out
      have zb0 := zb.cell 0
      have fb0 := zb.frozen 0
      have zb1 := zb.cell 1
      have fb1 := zb.frozen 1
      have zb2 := zb.cell 2
      have fb2 := zb.frozen 2
      simp only [List.getElem?_toArray, List.getElem?_cons_zero, List.getElem?_cons_succ] at zb0 zb1 zb2
      have X9 := Lib.hid (((zb.put 0 (.int .i64 e)).put 1 (.int .i64 s)).put 2 (.slice va k vc))
      have HB9 := Lib.hid (((HB.out.setCell (p := ⟨w.heap.size + 1, 0, none⟩) (by simp) (.int .i64 e)).setCell (p := ⟨w.heap.size + 1, 1, none⟩) (by simp) (.int .i64 s)).setCell (p := ⟨w.heap.size + 1, 2, none⟩) (by simp) (.slice va k vc))
      have hg := oth_trans (oth_set wr (w.heap.size + 1) 0 (.int .i64 e)) (oth_trans (oth_set _ _ 1 (.int .i64 s)) (oth_set _ _ 2 (.slice va k vc)))
      have HW9 := Lib.hid (own_oth HW.out (by omega) hg)
      have HO9 := Lib.hid (fun y hy => (HO.out y hy).oth (by omega) hg)
      clear zb hg
      go_wp2_with fail
      clear zb0 fb0 zb1 fb1 zb2 fb2
      generalize (((wr.setCell ⟨w.heap.size + 1, 0, none⟩ (.int .i64 e)).setCell ⟨w.heap.size + 1, 1, none⟩ (.int .i64 s)).setCell ⟨w.heap.size + 1, 2, none⟩ (.slice va k vc)) = W9 at *
      have q0 := X9.out.cell 0
      have q1 := X9.out.cell 1
      have q2 := X9.out.cell 2
      simp at q0 q1 q2
      refine bodyPost_ret (v := .agg #[.int .i64 e, .int .i64 s, .slice va k vc]) (by simp [results, Tryz.results18, go_sem, q0, q1, q2]) rfl ?_
      exact ⟨va, vc, rfl, ys, HCC.out, wts_own HW9.out HY.out.1 (fun y hy => (HO9.out y hy).ok (HBB.out y hy).1 (HBB.out y hy).2), own_cap HW9.out, HB9.out⟩
end Go.Proofs.YtglkndoghnblcaaGreat
namespace Go.Proofs.YtglkndoghnblcaaGreat
open Go.ChangeShapes Go.WideShapes Go.ChangeAt Go.RowKit
set_option linter.unusedVariables false
set_option linter.unusedSimpArgs false
theorem u8_of {x : Int} (h : 0 ≤ x ∧ x ≤ 255) : (UInt8.ofNat x.toNat).toNat = x.toNat := by
  rw [UInt8.toNat_ofNat']
  exact Nat.mod_eq_of_lt (by omega)
theorem bytesLess_cmp : ∀ (a b : List Int), Byt a → Byt b → Op.bytesLess (a.map fun n => UInt8.ofNat n.toNat) (b.map fun n => UInt8.ofNat n.toNat) = decide (cmpI a b < 0)
  | [], [], _, _ => rfl
  | [], _ :: _, _, _ => rfl
  | _ :: _, [], _, _ => rfl
  | x :: r, y :: s, ha, hb => by
    have hx := ha x (by simp)
    have hy := hb y (by simp)
    have ih := bytesLess_cmp r s (fun z hz => ha z (by simp [hz])) (fun z hz => hb z (by simp [hz]))
    show (decide (UInt8.ofNat x.toNat < UInt8.ofNat y.toNat) || (UInt8.ofNat x.toNat == UInt8.ofNat y.toNat && Op.bytesLess (r.map fun n => UInt8.ofNat n.toNat) (s.map fun n => UInt8.ofNat n.toNat))) = decide ((if x < y then -1 else if y < x then 1 else cmpI r s) < 0)
    have h1 : (UInt8.ofNat x.toNat < UInt8.ofNat y.toNat) ↔ x < y := by
      rw [UInt8.lt_iff_toNat_lt, u8_of hx, u8_of hy]; omega
    have h2 : (UInt8.ofNat x.toNat == UInt8.ofNat y.toNat) = decide (x = y) := by
      rw [Bool.eq_iff_iff]
      simp only [beq_iff_eq, decide_eq_true_eq]
      rw [← UInt8.toNat_inj, u8_of hx, u8_of hy]; omega
    rw [h2, ih]
    by_cases hlt : x < y
    · rw [if_pos hlt, decide_eq_true (h1.2 hlt)]; simp
    · rw [if_neg hlt, decide_eq_false (fun h => hlt (h1.1 h))]
      by_cases hgt : y < x
      · rw [if_pos hgt, decide_eq_false (by omega)]; simp
      · rw [if_neg hgt, decide_eq_true (by omega)]; simp
theorem less_str {a b : List Int} (ha : Byt a) (hb : Byt b) : Op.bytesLess (strOfNums a).toList (strOfNums b).toList = decide (cmpI a b < 0) := by
  rw [ByteArray.toList_eq, ByteArray.toList_eq, strOfNums_data, strOfNums_data]
  exact bytesLess_cmp a b ha hb
/-- Does a write stand ahead of another? -/
theorem ahead_iff (lt xt : Int) (c : Int) : decide (orV (cmpN lt xt) c < 0) = !(decide (xt < lt) || (lt == xt && !decide (c < 0))) := by
  unfold orV cmpN
  by_cases h1 : lt < xt
  · rw [if_pos h1, if_neg (by decide), decide_eq_true (by decide), decide_eq_false (by omega), show (lt == xt) = false by simp; omega]; rfl
  · rw [if_neg h1]
    by_cases h2 : xt < lt
    · rw [if_pos h2, if_neg (by decide), decide_eq_false (by decide), decide_eq_true h2]; rfl
    · rw [if_neg h2, if_pos rfl, decide_eq_false h2, show (lt == xt) = true by simp; omega]; simp
set_option maxRecDepth 100000 in
set_option maxHeartbeats 4000000 in
/-- The document's MayWrite (26). -/
theorem rmaywrite_law (x : WtP) (w : World) (hok : WtOk w x) :
    Calls Tryz.prog 26 #[.agg #[.int .i64 x.tab, .slice x.ka x.key.length x.kc, .slice x.ra x.R.length x.rc]] w fun r w' => r = .returned (.bool (wtB x)) ∧ Below w.heap.size w w' := by
  have HOK := Lib.hid hok
  unfold wtB
  obtain ⟨t, ht⟩ : ∃ t, x.tab = t := ⟨_, rfl⟩
  obtain ⟨kl, hkl⟩ : ∃ kl, x.key.length = kl := ⟨_, rfl⟩
  obtain ⟨rl, hrl⟩ : ∃ rl, x.R.length = rl := ⟨_, rfl⟩
  obtain ⟨ka, hka⟩ : ∃ y, x.ka = y := ⟨_, rfl⟩
  obtain ⟨kc, hkc⟩ : ∃ y, x.kc = y := ⟨_, rfl⟩
  obtain ⟨ra, hra⟩ : ∃ y, x.ra = y := ⟨_, rfl⟩
  obtain ⟨rc, hrc⟩ : ∃ y, x.rc = y := ⟨_, rfl⟩
  have HMR := Lib.hid (fun W (b : Below w.heap.size w W) => refmay_law x.ra x.R x.R.length x.rc rfl W (HOK.out.row.below b))
  have HMK := Lib.hid (fun W => rmaykey_law ka kl kc W)
  obtain ⟨mr, hmr⟩ : ∃ b, mayR x.R = b := ⟨_, rfl⟩
  obtain ⟨mk, hmk⟩ : ∃ b, mayK kl = b := ⟨_, rfl⟩
  rw [hrl, hra, hrc, hmr] at HMR
  rw [hmk] at HMK
  rw [ht, hkl, hrl, hka, hkc, hra, hrc, hmr, hmk]
  have hb0 : Below w.heap.size w (w.alloc (.cells #[.int .i64 t, .slice ka kl kc, .slice ra rl rc] 51)) := bl1 _ _
  have HB0 := Lib.hid hb0
  clear hok HOK ht hkl hrl hka hkc hra hrc hmr hmk hb0
  by_cases h1 : t < 0
  · have HX := Lib.hid (show (inB t 0 3 && (mk && (decide (rl = 0) || mr))) = false by unfold inB; rw [decide_eq_false (by omega)]; rfl)
    have d1 : ¬ 0 ≤ t := by omega
    go_enter Tryz.func26, Tryz.ntmps26
    go_wp2_with fail
    go_ret
    exact ⟨by rw [HX.out]; rfl, HB0.out⟩
  have d1 : 0 ≤ t := by omega
  by_cases h2 : 3 < t
  · have HX := Lib.hid (show (inB t 0 3 && (mk && (decide (rl = 0) || mr))) = false by unfold inB; rw [decide_eq_false (by omega)]; rfl)
    have d2 : ¬ t < 4 := by omega
    clear h1
    go_enter Tryz.func26, Tryz.ntmps26
    go_wp2_with fail
    go_ret
    exact ⟨by rw [HX.out]; rfl, HB0.out⟩
  have d2 : t < 4 := by omega
  have hin : inB t 0 3 = true := by unfold inB; rw [decide_eq_true (by omega)]
  rw [hin]
  clear h1 h2 hin
  cases mk with
  | false =>
    go_enter Tryz.func26, Tryz.ntmps26
    go_wp2_with fail
    refine (HMK.out _).mono ?_; rintro r w1 ⟨rfl, rfl⟩
    go_wp2_with fail
    go_ret
    exact ⟨rfl, HB0.out⟩
  | true =>
    by_cases hr0 : rl = 0
    · have e0 : ((rl : Int) == 0) = true := by rw [hr0]; rfl
      have e1 : (rl == 0) = true := by rw [hr0]; rfl
      have HX := Lib.hid (show (true && (true && (decide (rl = 0) || mr))) = true by rw [decide_eq_true hr0]; rfl)
      clear hr0
      go_enter Tryz.func26, Tryz.ntmps26
      go_wp2_with fail
      refine (HMK.out _).mono ?_; rintro r w1 ⟨rfl, rfl⟩
      go_wp2_with fail
      go_ret
      exact ⟨by rw [HX.out]; rfl, HB0.out⟩
    · have e0 : ((rl : Int) == 0) = false := by simp; omega
      have e1 : (rl == 0) = false := by simp; omega
      have HX := Lib.hid (show (true && (true && (decide (rl = 0) || mr))) = mr by rw [decide_eq_false hr0]; simp)
      clear hr0
      go_enter Tryz.func26, Tryz.ntmps26
      go_wp2_with fail
      refine (HMK.out _).mono ?_; rintro r w1 ⟨rfl, rfl⟩
      go_wp2_with fail
      refine (HMR.out _ HB0.out).mono ?_; rintro r w1 ⟨rfl, rfl⟩
      go_wp2_with fail
      go_ret
      exact ⟨by rw [HX.out]; rfl, HB0.out⟩
end Go.Proofs.YtglkndoghnblcaaGreat
namespace Go.Proofs.YtglkndoghnblcaaGreat
open Go.ChangeShapes Go.WideShapes Go.ChangeAt Go.RowKit
set_option linter.unusedVariables false
set_option linter.unusedSimpArgs false
theorem okK_no {e s : Int} {xs : List WtP} {k : Nat} (h : okK e s xs k = false) : ∀ d, okK e s xs (k + d) = false
  | 0 => h
  | d + 1 => by
    have ih := okK_no h d
    show (match xs[k + d]? with | some x => (okK e s xs (k + d) && wtB x) && _ | none => okK e s xs (k + d)) = false
    cases hx : xs[k + d]? with
    | none => exact ih
    | some x => simp only [ih, Bool.false_and]
theorem txB_no {e s : Int} {xs : List WtP} {k : Nat} (hk : k ≤ xs.length) (h : okK e s xs k = false) : txB e s xs = false := by
  unfold txB
  rw [show xs.length = k + (xs.length - k) by omega]
  exact okK_no h _
theorem wt_no {e s : Int} {xs : List WtP} {k : Nat} {x : WtP} (hx : xs[k]? = some x) (h : wtB x = false) : txB e s xs = false := by
  refine txB_no (k := k + 1) (by have := (List.getElem?_eq_some_iff.1 hx).1; omega) ?_
  show (match xs[k]? with | some x => (okK e s xs k && wtB x) && _ | none => okK e s xs k) = false
  rw [hx]
  simp only [h, Bool.and_false, Bool.false_and]
set_option maxRecDepth 100000 in
set_option maxHeartbeats 4000000 in
/-- The document's MayTxn (24). -/
theorem rmaytxn_law (e s : Int) (a : Option Addr) (xs : List WtP) (n cap : Nat) (hn : xs.length = n) (hn2 : n ≤ 1000000) (w : World) (hR : WtsR w a xs) :
    Calls Tryz.prog 24 #[.agg #[.int .i64 e, .int .i64 s, .slice a n cap]] w fun r w' => r = .returned (.bool (txB e s xs)) ∧ Below w.heap.size w w' := by
  have HR := Lib.hid hR
  have HN := Lib.hid hn
  have hni : (n : Int) ≤ 1000000 := by omega
  clear hR hn
  go_enter Tryz.func24, Tryz.ntmps24
  go_upto_region 1 with (fail)
  obtain ⟨W1, hW0⟩ : ∃ W0, w.alloc (.cells #[.int .i64 e, .int .i64 s, .slice a n cap] 39) = W0 := ⟨_, rfl⟩
  have hb0 : Below w.heap.size w W1 := by rw [← hW0]; exact bl1 _ _
  have bx : BoxC W1 w.heap.size #[.int .i64 e, .int .i64 s, .slice a n cap] 39 := by rw [← hW0]; exact BoxC.new w _ 39
  try rw [hW0]
  clear hW0
  have HB0 := Lib.hid hb0
  have FQ := Lib.hid (fun X (b : Below W1.heap.size W1 X) => (⟨(bx.below b).cell 0, (bx.below b).cell 1, (bx.below b).cell 2⟩ : X.cell? ⟨w.heap.size, 0, none⟩ = some (.int .i64 e) ∧ X.cell? ⟨w.heap.size, 1, none⟩ = some (.int .i64 s) ∧ X.cell? ⟨w.heap.size, 2, none⟩ = some (.slice a n cap)))
  clear hb0 bx
  obtain ⟨z0, z1, z2⟩ := FQ.out W1 (Below.refl _ _)
  obtain ⟨tb, htb⟩ : ∃ b, tidB e s = b := ⟨_, rfl⟩
  have HTB := Lib.hid htb
  have HTL := Lib.hid (fun W => rmaytid_law e s W)
  rw [htb] at HTL
  clear htb
  cases tb with
  | false =>
    have HX := Lib.hid (txB_no (e := e) (s := s) (xs := xs) (k := 0) (Nat.zero_le _) (by show (tidB e s && _) = false; rw [HTB.out]; rfl))
    go_wp2_with fail
    refine (HTL.out _).mono ?_; rintro r w2 ⟨rfl, hb2⟩
    have HB2 := Lib.hid (step_below HB0.out hb2)
    clear hb2 z0 z1 z2
    go_wp2_with fail
    go_ret
    exact ⟨by rw [HX.out]; rfl, HB2.out⟩
  | true =>
  go_wp2_with fail
  refine (HTL.out _).mono ?_; rintro r w2 ⟨rfl, hb2⟩
  have HB2 := Lib.hid hb2
  clear z0 z1 z2 HTL
  obtain ⟨z0, z1, z2⟩ := FQ.out w2 hb2
  clear hb2
  by_cases h1 : n < 1
  · have d1 : (n : Int) < 1 := by omega
    have HX := Lib.hid (txB_no (e := e) (s := s) (xs := xs) (k := 0) (Nat.zero_le _) (by show (tidB e s && inB _ _ _) = false; unfold inB; rw [HN.out, decide_eq_false (by omega), Bool.and_false]))
    clear h1
    go_wp2_with fail
    go_ret
    exact ⟨by rw [HX.out]; rfl, step_below HB0.out HB2.out⟩
  have d1 : ¬ (n : Int) < 1 := by omega
  by_cases h2 : 16 < n
  · have d2 : (16 : Int) < (n : Int) := by omega
    have HX := Lib.hid (txB_no (e := e) (s := s) (xs := xs) (k := 0) (Nat.zero_le _) (by show (tidB e s && inB _ _ _) = false; unfold inB; rw [HN.out, decide_eq_false (by omega), Bool.and_false]))
    clear h1 h2
    go_wp2_with fail
    go_ret
    exact ⟨by rw [HX.out]; rfl, step_below HB0.out HB2.out⟩
  have d2 : ¬ (16 : Int) < (n : Int) := by omega
  have HOK0 := Lib.hid (show okK e s xs 0 = true by show (tidB e s && inB _ _ _) = true; unfold inB; rw [HTB.out, HN.out, decide_eq_true (by omega)]; rfl)
  clear h1 h2
  go_wp2_with fail
  clear z0 z1 z2
  go_loopw [3] (fun i wr => ∃ k : Nat, k ≤ n ∧ i = .int .i64 (k : Int) ∧ Hid (okK e s xs k = true) ∧ Hid (Below W1.heap.size W1 wr)) (fun i _ => n - (intOf i).toNat)
  case atStart => exact ⟨0, by omega, rfl, HOK0, HB2⟩
  case round =>
    clear HOK0 HB2
    obtain ⟨k, hk, rfl, HOK, HBW⟩ := hrel
    obtain ⟨z0, z1, z2⟩ := FQ.out wr HBW.out
    by_cases hlt : k < n
    · have d3 : (k : Int) < (n : Int) := by omega
      obtain ⟨x, hx⟩ : ∃ x, xs[k]? = some x := ⟨_, List.getElem?_eq_getElem (by rw [HN.out]; exact hlt)⟩
      have HFX := Lib.hid (fun W (b : Below W1.heap.size W1 W) => (HR.out.below (step_below HB0.out b)) k x hx)
      obtain ⟨b1, o1, rfl, c0, c1, c2, hok⟩ := HFX.out wr HBW.out
      have HXX := Lib.hid hx
      have HMW := Lib.hid (rmaywrite_law x wr hok)
      obtain ⟨wb, hwb⟩ : ∃ b, wtB x = b := ⟨_, rfl⟩
      have HWB := Lib.hid hwb
      rw [hwb] at HMW
      obtain ⟨xt, hxt⟩ : ∃ t, x.tab = t := ⟨_, rfl⟩
      obtain ⟨xl, hxl⟩ : ∃ t, x.key.length = t := ⟨_, rfl⟩
      obtain ⟨xrl, hxrl⟩ : ∃ t, x.R.length = t := ⟨_, rfl⟩
      obtain ⟨xa, hxa⟩ : ∃ y, x.ka = y := ⟨_, rfl⟩
      obtain ⟨xc, hxc⟩ : ∃ y, x.kc = y := ⟨_, rfl⟩
      obtain ⟨xra, hxra⟩ : ∃ y, x.ra = y := ⟨_, rfl⟩
      obtain ⟨xrc, hxrc⟩ : ∃ y, x.rc = y := ⟨_, rfl⟩
      have HXE := Lib.hid (And.intro hxt (And.intro hxl (And.intro hxa hxc)))
      have HFX2 := Lib.hid (fun (W : World) (b : Below W1.heap.size W1 W) => (by
        obtain ⟨q1, q2, e1, y0, y1, y2, _⟩ := HFX.out W b
        cases e1
        rw [hxt] at y0
        rw [hxa, hxl, hxc] at y1
        rw [hxra, hxrl, hxrc] at y2
        exact ⟨y0, y1, y2⟩ : W.cell? ⟨b1, o1 + k * 3, none⟩ = some (.int .i64 xt) ∧ W.cell? ⟨b1, o1 + k * 3 + 1, none⟩ = some (.slice xa xl xc) ∧ W.cell? ⟨b1, o1 + k * 3 + 2, none⟩ = some (.slice xra xrl xrc)))
      rw [hxt, hxl, hxrl, hxa, hxc, hxra, hxrc] at HMW
      rw [hxt] at c0
      rw [hxa, hxl, hxc] at c1
      rw [hxra, hxrl, hxrc] at c2
      clear hx hok hwb hxt hxl hxrl hxa hxc hxra hxrc
      go_wp2_with fail
      refine HMW.out.mono ?_; rintro r w5 ⟨rfl, hb5⟩
      have HB5 := Lib.hid (step_below HBW.out hb5)
      clear hb5 c0 c1 c2 z0 z1 z2 HMW
      cases wb with
      | false =>
        have HX := Lib.hid (wt_no (e := e) (s := s) HXX.out HWB.out)
        go_wp2_with fail
        go_ret
        exact ⟨by rw [HX.out]; rfl, step_below HB0.out HB5.out⟩
      | true =>
        by_cases hk0 : k = 0
        · have d4 : ¬ (0 : Int) < (k : Int) := by omega
          have HNX := Lib.hid (show okK e s xs (k + 1) = true by
            have h1 := HXX.out
            have h2 := HOK.out
            subst hk0
            rw [okK_first h1, h2, HWB.out]; rfl)
          clear hk0
          go_wp2_with fail
          go_roundw
          case rel => exact ⟨k + 1, by omega, by go_num, HNX, HB5⟩
          case measure => simp [intOf]; omega
        · have d4 : (0 : Int) < (k : Int) := by omega
          obtain ⟨j, hj⟩ : ∃ j, k = j + 1 := ⟨k - 1, by omega⟩
          have hkj : IntKind.i64.wrap ((k : Int) - 1) = (j : Int) := by rw [IntKind.wrap_i64]; omega
          have hjn : (j : Int) < (n : Int) := by omega
          have HJ := Lib.hid hj
          obtain ⟨l, hl⟩ : ∃ l, xs[j]? = some l := ⟨_, List.getElem?_eq_getElem (by rw [HN.out]; omega)⟩
          have HFL := Lib.hid (fun W (b : Below W1.heap.size W1 W) => (HR.out.below (step_below HB0.out b)) j l hl)
          obtain ⟨lt, hlt'⟩ : ∃ t, l.tab = t := ⟨_, rfl⟩
          obtain ⟨ll, hll⟩ : ∃ t, l.key.length = t := ⟨_, rfl⟩
          obtain ⟨lrl, hlrl⟩ : ∃ t, l.R.length = t := ⟨_, rfl⟩
          obtain ⟨la, hla⟩ : ∃ y, l.ka = y := ⟨_, rfl⟩
          obtain ⟨lc, hlc⟩ : ∃ y, l.kc = y := ⟨_, rfl⟩
          obtain ⟨lra, hlra⟩ : ∃ y, l.ra = y := ⟨_, rfl⟩
          obtain ⟨lrc, hlrc⟩ : ∃ y, l.rc = y := ⟨_, rfl⟩
          have FX := Lib.hid (fun W (b : Below W1.heap.size W1 W) => (by
            obtain ⟨q1, q2, e1, y0, y1, y2, _⟩ := HFL.out W b
            cases e1
            rw [hlt'] at y0
            rw [hla, hll, hlc] at y1
            rw [hlra, hlrl, hlrc] at y2
            obtain ⟨u0, u1, u2⟩ := HFX2.out W b
            obtain ⟨v0, v1, v2⟩ := FQ.out W b
            exact ⟨v0, v1, v2, y0, y1, y2, u0, u1, u2⟩ : W.cell? ⟨w.heap.size, 0, none⟩ = some (.int .i64 e) ∧ W.cell? ⟨w.heap.size, 1, none⟩ = some (.int .i64 s) ∧ W.cell? ⟨w.heap.size, 2, none⟩ = some (.slice (some ⟨b1, o1, none⟩) n cap) ∧ W.cell? ⟨b1, o1 + j * 3, none⟩ = some (.int .i64 lt) ∧ W.cell? ⟨b1, o1 + j * 3 + 1, none⟩ = some (.slice la ll lc) ∧ W.cell? ⟨b1, o1 + j * 3 + 2, none⟩ = some (.slice lra lrl lrc) ∧ W.cell? ⟨b1, o1 + k * 3, none⟩ = some (.int .i64 xt) ∧ W.cell? ⟨b1, o1 + k * 3 + 1, none⟩ = some (.slice xa xl xc) ∧ W.cell? ⟨b1, o1 + k * 3 + 2, none⟩ = some (.slice xra xrl xrc)))
          have HCV := Lib.hid (fun W (b : Below W1.heap.size W1 W) => (by
            obtain ⟨_, _, _, _, _, _, okl⟩ := HFL.out W b
            obtain ⟨_, _, _, _, _, _, okx⟩ := HFX.out W b
            have h1 := conv_ls W l.ka l.key.length l.kc l.key rfl okl.ls.rd
            have h2 := conv_ls W x.ka x.key.length x.kc x.key rfl okx.ls.rd
            rw [hla, hll, hlc] at h1
            rw [HXE.out.2.2.1, HXE.out.2.1, HXE.out.2.2.2] at h2
            exact ⟨h1, h2, okl.kb, okx.kb⟩ : (convert 22 9 (.slice la ll lc)).run Tryz.prog W = .ok (.string (strOfNums l.key)) W ∧ (convert 22 9 (.slice xa xl xc)).run Tryz.prog W = .ok (.string (strOfNums x.key)) W ∧ Byt l.key ∧ Byt x.key))
          have HNX := Lib.hid (show okK e s xs (k + 1) = !(decide (xt < lt) || (lt == xt && !decide (cmpI l.key x.key < 0))) by
            rw [okK_next (by omega) HXX.out (by rw [HJ.out]; exact hl), HOK.out, HWB.out, hlt', HXE.out.1, ← ahead_iff]; rfl)
          clear hk0 hj hl hlt' hll hlrl hla hlc hlra hlrc HFL HFX
          obtain ⟨WY, rfl⟩ : ∃ Y, Y = w5 := ⟨_, rfl⟩
          have HBY := Lib.hid HB5.out
          go_upto_region 9 with (fail)
          go_cut [4, 5] (fun u v wx => ∃ b4 b5 : Nat, u = .pointer (some ⟨b4, 0, none⟩) ∧ v = .pointer (some ⟨b5, 0, none⟩) ∧ Hid (BoxC wx b4 #[.int .i64 lt, .slice la ll lc, .slice lra lrl lrc] 51) ∧ Hid (BoxC wx b5 #[.int .i64 xt, .slice xa xl xc, .slice xra xrl xrc] 51) ∧ Hid (Below W1.heap.size W1 wx))
          case first =>
            rename_i JJ KK hJJ hKK
            refine Code.wp_mono (Q := Exit.then KK (fun _ _ _ => False)) (fun e a' w' h => by cases e <;> first | exact h | exact h.elim) ?_
            refine wp_region_held_drew (S := (fun X => Below W1.heap.size W1 X)) (by kernel_rfl) (HBY.out.drew) (fun hHeld => ?_)
            refine tp 0 ?_ rfl (.inl ⟨by rfl, ?_⟩) ?_
            rotate_left
            · intro W hSw; go_simp; try with_reducible rfl
            refine tp 1 ?_ rfl (.inl ⟨by rfl, ?_⟩) ?_
            rotate_left
            · intro W hSw; obtain ⟨z0, z1, z2, l0, l1, l2, x0, x1, x2⟩ := FX.out W hSw; go_simp; try with_reducible rfl
            refine tp 2 ?_ rfl (.inl ⟨by rfl, ?_⟩) ?_
            rotate_left
            · intro W hSw; go_simp; try with_reducible rfl
            refine tp 3 ?_ rfl (.inl ⟨by rfl, ?_⟩) ?_
            rotate_left
            · intro W hSw; go_simp; try with_reducible rfl
            refine tp 4 ?_ rfl (.inl ⟨by rfl, ?_⟩) ?_
            rotate_left
            · intro W hSw; go_simp; try with_reducible rfl
            refine tp 5 ?_ rfl (.inl ⟨by rfl, ?_⟩) ?_
            rotate_left
            · intro W hSw; obtain ⟨z0, z1, z2, l0, l1, l2, x0, x1, x2⟩ := FX.out W hSw; go_simp; try with_reducible rfl
            refine tp 6 ?_ rfl (.inl ⟨by rfl, ?_⟩) ?_
            rotate_left
            · intro W hSw; go_simp; try with_reducible rfl
            refine tp 7 ?_ rfl (.inl ⟨by rfl, ?_⟩) ?_
            rotate_left
            · intro W hSw; obtain ⟨z0, z1, z2, l0, l1, l2, x0, x1, x2⟩ := FX.out W hSw; go_simp; try with_reducible rfl
            refine tp 8 ?_ rfl (.inl ⟨by rfl, ?_⟩) ?_
            rotate_left
            · intro W hSw; go_simp; try with_reducible rfl
            refine tp 9 ?_ rfl (.inl ⟨by rfl, ?_⟩) ?_
            rotate_left
            · intro W hSw; go_simp; try with_reducible rfl
            refine tp 10 ?_ rfl (.inl ⟨by rfl, ?_⟩) ?_
            rotate_left
            · intro W hSw; obtain ⟨z0, z1, z2, l0, l1, l2, x0, x1, x2⟩ := FX.out W hSw; go_simp; try with_reducible rfl
            refine wpAnyH_ready (rs := [11, 12]) (by kernel_rfl) (by simp) ?_
            refine AllReadyH.cons (o := { dst := some 4, op := Op.alloc 51, type := 0, pos := "ref.go:85", after := #[], guard := none }) rfl (fun K hK => ?_) ?_
            · skip
              go_simp
              refine hK.out _ _ (hHeld.alloc hHeld.size _) (fun hHeldn => ?_)
              clear hK K hHeld; have hHeld := hHeldn; clear hHeldn
              try simp only [Act.put, List.setIfInBounds_toArray, List.set_cons_zero, List.set_cons_succ]
              refine wpAnyH_ready (rs := [12]) (by kernel_rfl) (by simp) ?_
              refine AllReadyH.cons (o := { dst := some 5, op := Op.alloc 51, type := 0, pos := "ref.go:85", after := #[], guard := none }) rfl (fun K hK => ?_) AllReadyH.nil
              go_simp
              refine hK.out _ _ (hHeld.alloc hHeld.size _) (fun hHeldn => ?_)
              clear hK K hHeld; have hHeld := hHeldn; clear hHeldn
              try simp only [Act.put, List.setIfInBounds_toArray, List.set_cons_zero, List.set_cons_succ]
              refine wpAnyH_ready (rs := [13]) (by kernel_rfl) (by simp) ?_
              refine AllReadyH.cons (o := { dst := none, op := Op.store 51 (Operand.tmp 4) (Operand.tmp 43), type := 0, pos := "ref.go:85", after := #[{ on := 11, ground := Ground.data }, { on := 5, ground := Ground.data }, { on := 0, ground := Ground.phase }, { on := 1, ground := Ground.phase }, { on := 2, ground := Ground.phase }, { on := 3, ground := Ground.phase }, { on := 4, ground := Ground.phase }, { on := 5, ground := Ground.phase }, { on := 6, ground := Ground.textOnly Departure.lateStores }, { on := 7, ground := Ground.textOnly Departure.lateStores }, { on := 8, ground := Ground.textOnly Departure.lateStores }, { on := 9, ground := Ground.textOnly Departure.lateStores }, { on := 10, ground := Ground.textOnly Departure.lateStores }, { on := 11, ground := Ground.phase }, { on := 12, ground := Ground.phase }], guard := none }) rfl (fun K hK => ?_) AllReadyH.nil
              go_simp
              refine hK.out _ _ (((HBY.out.drew).alloc (by have := HBY.out.size; simp; omega) _).alloc (by have := HBY.out.size; simp; omega) _) (fun hHeldn => ?_)
              clear hK K hHeld; have hHeld := hHeldn; clear hHeldn
              try simp only [Act.put, List.setIfInBounds_toArray, List.set_cons_zero, List.set_cons_succ]
              refine wpAnyH_ready (rs := [14]) (by kernel_rfl) (by simp) ?_
              refine AllReadyH.cons (o := { dst := none, op := Op.store 51 (Operand.tmp 5) (Operand.tmp 48), type := 0, pos := "ref.go:85", after := #[{ on := 12, ground := Ground.data }, { on := 10, ground := Ground.data }, { on := 13, ground := Ground.chain }, { on := 0, ground := Ground.phase }, { on := 1, ground := Ground.phase }, { on := 2, ground := Ground.phase }, { on := 3, ground := Ground.phase }, { on := 4, ground := Ground.phase }, { on := 5, ground := Ground.phase }, { on := 6, ground := Ground.phase }, { on := 7, ground := Ground.phase }, { on := 8, ground := Ground.phase }, { on := 9, ground := Ground.phase }, { on := 10, ground := Ground.phase }, { on := 11, ground := Ground.phase }, { on := 12, ground := Ground.phase }, { on := 13, ground := Ground.phase }], guard := none }) rfl (fun K hK => ?_) AllReadyH.nil
              go_simp
              refine hK.out _ _ (((HBY.out.drew).alloc (by have := HBY.out.size; simp; omega) _).alloc (by have := HBY.out.size; simp; omega) _) (fun hHeldn => ?_)
              clear hK K hHeld; have hHeld := hHeldn; clear hHeldn
              try simp only [Act.put, List.setIfInBounds_toArray, List.set_cons_zero, List.set_cons_succ]
              refine wpAnyH_done (by kernel_rfl) ?_ _
              refine hKK _ _ ?_
              go_meet
              exact ⟨WY.heap.size, (WY.heap.size + 1), rfl, rfl, Lib.hid ((BoxC.new WY.drew #[.int .i64 lt, .slice la ll lc, .slice lra lrl lrc] 51).alloc (.cells #[.int .i64 xt, .slice xa xl xc, .slice xra xrl xrc] 51)), Lib.hid ((by have h := BoxC.new (WY.drew.alloc (.cells #[.int .i64 lt, .slice la ll lc, .slice lra lrl lrc] 51)) #[.int .i64 xt, .slice xa xl xc, .slice xra xrl xrc] 51; have hs : (WY.drew.alloc (.cells #[.int .i64 lt, .slice la ll lc, .slice lra lrl lrc] 51)).heap.size = WY.heap.size + 1 := (by simp); exact hs ▸ h)), Lib.hid hHeld⟩
            refine AllReadyH.cons (o := { dst := some 5, op := Op.alloc 51, type := 0, pos := "ref.go:85", after := #[], guard := none }) rfl (fun K hK => ?_) AllReadyH.nil
            go_simp
            refine hK.out _ _ (hHeld.alloc hHeld.size _) (fun hHeldn => ?_)
            clear hK K hHeld; have hHeld := hHeldn; clear hHeldn
            try simp only [Act.put, List.setIfInBounds_toArray, List.set_cons_zero, List.set_cons_succ]
            refine wpAnyH_ready (rs := [11]) (by kernel_rfl) (by simp) ?_
            refine AllReadyH.cons (o := { dst := some 4, op := Op.alloc 51, type := 0, pos := "ref.go:85", after := #[], guard := none }) rfl (fun K hK => ?_) AllReadyH.nil
            go_simp
            refine hK.out _ _ (hHeld.alloc hHeld.size _) (fun hHeldn => ?_)
            clear hK K hHeld; have hHeld := hHeldn; clear hHeldn
            try simp only [Act.put, List.setIfInBounds_toArray, List.set_cons_zero, List.set_cons_succ]
            refine wpAnyH_ready (rs := [13]) (by kernel_rfl) (by simp) ?_
            refine AllReadyH.cons (o := { dst := none, op := Op.store 51 (Operand.tmp 4) (Operand.tmp 43), type := 0, pos := "ref.go:85", after := #[{ on := 11, ground := Ground.data }, { on := 5, ground := Ground.data }, { on := 0, ground := Ground.phase }, { on := 1, ground := Ground.phase }, { on := 2, ground := Ground.phase }, { on := 3, ground := Ground.phase }, { on := 4, ground := Ground.phase }, { on := 5, ground := Ground.phase }, { on := 6, ground := Ground.textOnly Departure.lateStores }, { on := 7, ground := Ground.textOnly Departure.lateStores }, { on := 8, ground := Ground.textOnly Departure.lateStores }, { on := 9, ground := Ground.textOnly Departure.lateStores }, { on := 10, ground := Ground.textOnly Departure.lateStores }, { on := 11, ground := Ground.phase }, { on := 12, ground := Ground.phase }], guard := none }) rfl (fun K hK => ?_) AllReadyH.nil
            go_simp
            refine hK.out _ _ (((HBY.out.drew).alloc (by have := HBY.out.size; simp; omega) _).alloc (by have := HBY.out.size; simp; omega) _) (fun hHeldn => ?_)
            clear hK K hHeld; have hHeld := hHeldn; clear hHeldn
            try simp only [Act.put, List.setIfInBounds_toArray, List.set_cons_zero, List.set_cons_succ]
            refine wpAnyH_ready (rs := [14]) (by kernel_rfl) (by simp) ?_
            refine AllReadyH.cons (o := { dst := none, op := Op.store 51 (Operand.tmp 5) (Operand.tmp 48), type := 0, pos := "ref.go:85", after := #[{ on := 12, ground := Ground.data }, { on := 10, ground := Ground.data }, { on := 13, ground := Ground.chain }, { on := 0, ground := Ground.phase }, { on := 1, ground := Ground.phase }, { on := 2, ground := Ground.phase }, { on := 3, ground := Ground.phase }, { on := 4, ground := Ground.phase }, { on := 5, ground := Ground.phase }, { on := 6, ground := Ground.phase }, { on := 7, ground := Ground.phase }, { on := 8, ground := Ground.phase }, { on := 9, ground := Ground.phase }, { on := 10, ground := Ground.phase }, { on := 11, ground := Ground.phase }, { on := 12, ground := Ground.phase }, { on := 13, ground := Ground.phase }], guard := none }) rfl (fun K hK => ?_) AllReadyH.nil
            go_simp
            refine hK.out _ _ (((HBY.out.drew).alloc (by have := HBY.out.size; simp; omega) _).alloc (by have := HBY.out.size; simp; omega) _) (fun hHeldn => ?_)
            clear hK K hHeld; have hHeld := hHeldn; clear hHeldn
            try simp only [Act.put, List.setIfInBounds_toArray, List.set_cons_zero, List.set_cons_succ]
            refine wpAnyH_done (by kernel_rfl) ?_ _
            refine hKK _ _ ?_
            go_meet
            exact ⟨(WY.heap.size + 1), WY.heap.size, rfl, rfl, Lib.hid ((by have h := BoxC.new (WY.drew.alloc (.cells #[.int .i64 xt, .slice xa xl xc, .slice xra xrl xrc] 51)) #[.int .i64 lt, .slice la ll lc, .slice lra lrl lrc] 51; have hs : (WY.drew.alloc (.cells #[.int .i64 xt, .slice xa xl xc, .slice xra xrl xrc] 51)).heap.size = WY.heap.size + 1 := (by simp); exact hs ▸ h)), Lib.hid ((BoxC.new WY.drew #[.int .i64 xt, .slice xa xl xc, .slice xra xrl xrc] 51).alloc (.cells #[.int .i64 lt, .slice la ll lc, .slice lra lrl lrc] 51)), Lib.hid hHeld⟩
          case rest =>
          obtain ⟨b4, b5, rfl, rfl, BX4, BX5, HB6⟩ := hcut
          have h0 : wc.cell? ⟨b4, 0, none⟩ = some (.int .i64 lt) := BX4.out.cell 0
          have h1 : wc.cell? ⟨b4, 1, none⟩ = some (.slice la ll lc) := BX4.out.cell 1
          have h2 : wc.cell? ⟨b5, 0, none⟩ = some (.int .i64 xt) := BX5.out.cell 0
          have h3 : wc.cell? ⟨b5, 1, none⟩ = some (.slice xa xl xc) := BX5.out.cell 1
          obtain ⟨c1, c2, ka, kx⟩ := HCV.out wc HB6.out
          have HLS := Lib.hid (less_str ka kx)
          obtain ⟨q, hq⟩ : ∃ q, Op.bytesLess (strOfNums l.key).toList (strOfNums x.key).toList = q := ⟨_, rfl⟩
          rw [hq] at HLS
          rw [← HLS.out] at HNX
          generalize strOfNums l.key = sl at hq c1
          generalize strOfNums x.key = sx at hq c2
          clear ka kx HLS HCV
          by_cases hl1 : xt < lt
          · have HX := Lib.hid (txB_no (e := e) (s := s) (xs := xs) (k := k + 1) (by rw [HN.out]; omega) (by rw [HNX.out, decide_eq_true hl1]; rfl))
            go_wp2_with fail
            go_ret
            exact ⟨by rw [HX.out]; rfl, step_below HB0.out HB6.out⟩
          by_cases hl2 : lt = xt
          · subst hl2
            cases q with
            | false =>
              have HX := Lib.hid (txB_no (e := e) (s := s) (xs := xs) (k := k + 1) (by rw [HN.out]; omega) (by rw [HNX.out]; simp))
              go_wp2_with fail
              go_ret
              exact ⟨by rw [HX.out]; rfl, step_below HB0.out HB6.out⟩
            | true =>
              have HY := Lib.hid (show okK e s xs (k + 1) = true by rw [HNX.out, decide_eq_false hl1]; simp)
              go_wp2_with fail
              go_roundw
              case rel => exact ⟨k + 1, by omega, by go_num, HY, HB6⟩
              case measure => simp [intOf]; omega
          · have HY := Lib.hid (show okK e s xs (k + 1) = true by rw [HNX.out, decide_eq_false hl1]; simp; exact Or.inl hl2)
            go_wp2_with fail
            go_roundw
            case rel => exact ⟨k + 1, by omega, by go_num, HY, HB6⟩
            case measure => simp [intOf]; omega
    · have d3 : ¬ (k : Int) < (n : Int) := by omega
      obtain rfl : k = n := by omega
      have HX := Lib.hid (show txB e s xs = true by unfold txB; rw [HN.out]; exact HOK.out)
      go_wp2_with fail
      go_ret
      exact ⟨by rw [HX.out]; rfl, step_below HB0.out HBW.out⟩
end Go.Proofs.YtglkndoghnblcaaGreat
namespace Go.Proofs.YtglkndoghnblcaaGreat
open Go.ChangeShapes Go.WideShapes Go.ChangeAt Go.RowKit
set_option linter.unusedVariables false
set_option linter.unusedSimpArgs false
theorem up3_some {L r : List Int} {t : Nat} (h : upP 3 L = some (t, r)) : upP 4 L = some (t, r) ∧ t ≤ 3 := by
  unfold upP at h ⊢
  cases hn : numR 0 0 L with
  | none => rw [hn] at h; cases h
  | some p =>
    obtain ⟨v, j⟩ := p
    rw [hn] at h
    simp only at h ⊢
    by_cases hv : v ≤ 3
    · rw [if_pos hv] at h
      cases h
      exact ⟨by rw [if_pos (by omega)], hv⟩
    · rw [if_neg hv] at h; cases h
theorem up3_none {L : List Int} (h : upP 3 L = none) : upP 4 L = none ∨ ∃ t r, upP 4 L = some (t, r) ∧ 3 < t := by
  unfold upP at h ⊢
  cases hn : numR 0 0 L with
  | none => exact .inl rfl
  | some p =>
    obtain ⟨v, j⟩ := p
    rw [hn] at h
    simp only at h ⊢
    by_cases hv : v ≤ 3
    · rw [if_pos hv] at h; cases h
    · by_cases h4 : v ≤ 4
      · rw [if_pos h4]; exact .inr ⟨v, _, rfl, by omega⟩
      · rw [if_neg h4]; exact .inl rfl
/-- A write that is read, as the document reads it. -/
def writ3P (L : List Int) : Option (Wr3 × List Int) := match upP 3 L with
  | some (t, r1) => (match bytesP 32 r1 with
    | some (k, r2) => (match flagP r2 with
      | some (true, r3) => (match arowP r3 with
        | some (fs, r4) => some ((t, k, fs), r4)
        | none => none)
      | some (false, r3) => some ((t, k, []), r3)
      | none => none)
    | none => none)
  | none => none
theorem writ3P_1 {L : List Int} (h : upP 3 L = none) : writ3P L = none := by unfold writ3P; rw [h]
theorem writ3P_2 {L r1 : List Int} {t : Nat} (h : upP 3 L = some (t, r1)) (h2 : bytesP 32 r1 = none) : writ3P L = none := by unfold writ3P; rw [h]; simp only; rw [h2]
theorem writ3P_3 {L r1 k r2 : List Int} {t : Nat} (h : upP 3 L = some (t, r1)) (h2 : bytesP 32 r1 = some (k, r2)) (h3 : flagP r2 = none) : writ3P L = none := by unfold writ3P; rw [h]; simp only; rw [h2]; simp only; rw [h3]
theorem writ3P_4 {L r1 k r2 r3 : List Int} {t : Nat} (h : upP 3 L = some (t, r1)) (h2 : bytesP 32 r1 = some (k, r2)) (h3 : flagP r2 = some (true, r3)) (h4 : arowP r3 = none) : writ3P L = none := by unfold writ3P; rw [h]; simp only; rw [h2]; simp only; rw [h3]; simp only; rw [h4]
theorem writ3P_5 {L r1 k r2 r3 r4 : List Int} {t : Nat} {fs : List (List Int)} (h : upP 3 L = some (t, r1)) (h2 : bytesP 32 r1 = some (k, r2)) (h3 : flagP r2 = some (true, r3)) (h4 : arowP r3 = some (fs, r4)) : writ3P L = some ((t, k, fs), r4) := by unfold writ3P; rw [h]; simp only; rw [h2]; simp only; rw [h3]; simp only; rw [h4]
theorem writ3P_6 {L r1 k r2 r3 : List Int} {t : Nat} (h : upP 3 L = some (t, r1)) (h2 : bytesP 32 r1 = some (k, r2)) (h3 : flagP r2 = some (false, r3)) : writ3P L = some ((t, k, []), r3) := by unfold writ3P; rw [h]; simp only; rw [h2]; simp only; rw [h3]
theorem writ3_some {L r : List Int} {x : Wr3} (h : writ3P L = some (x, r)) : writeP L = some (x, r) := by
  unfold writ3P at h
  cases h1 : upP 3 L with
  | none => rw [h1] at h; cases h
  | some p =>
    obtain ⟨t, r1⟩ := p
    rw [h1] at h
    unfold writeP
    rw [(up3_some h1).1]
    exact h
theorem writ3_none {L : List Int} (h : writ3P L = none) : writeP L = none ∨ ∃ x r, writeP L = some (x, r) ∧ 3 < x.1 := by
  cases h1 : upP 3 L with
  | none =>
    rcases up3_none h1 with h4 | ⟨t, r1, h4, ht⟩
    · exact .inl (writeP_1 h4)
    · cases hw : writeP L with
      | none => exact .inl rfl
      | some q =>
        obtain ⟨x, r⟩ := q
        refine .inr ⟨x, r, rfl, ?_⟩
        unfold writeP at hw
        rw [h4] at hw
        simp only at hw
        split at hw
        · split at hw
          · split at hw
            · cases hw; exact ht
            · cases hw
          · cases hw; exact ht
          · cases hw
        · cases hw
  | some p =>
    obtain ⟨t, r1⟩ := p
    refine .inl ?_
    unfold writ3P at h
    unfold writeP
    rw [h1] at h
    rw [(up3_some h1).1]
    exact h
theorem many3_some : ∀ (n : Nat) (L r : List Int) (xs : List Wr3), manyP writ3P n L = some (xs, r) → manyP writeP n L = some (xs, r)
  | 0, L, r, xs, h => h
  | n + 1, L, r, xs, h => by
    unfold manyP at h ⊢
    cases h1 : writ3P L with
    | none => rw [h1] at h; cases h
    | some p =>
      obtain ⟨x, s⟩ := p
      rw [h1] at h
      rw [writ3_some h1]
      simp only at h ⊢
      cases h2 : manyP writ3P n s with
      | none => rw [h2] at h; cases h
      | some q =>
        obtain ⟨ys, r'⟩ := q
        rw [h2] at h
        rw [many3_some n s r' ys h2]
        exact h
theorem many3_none : ∀ (n : Nat) (L r : List Int) (xs : List Wr3), manyP writ3P n L = none → manyP writeP n L = some (xs, r) → ∃ x ∈ xs, 3 < x.1
  | 0, L, r, xs, h, _ => by cases h
  | n + 1, L, r, xs, h, h' => by
    unfold manyP at h h'
    cases h1 : writ3P L with
    | none =>
      rcases writ3_none h1 with h4 | ⟨x, s, h4, hx⟩
      · rw [h4] at h'; cases h'
      · rw [h4] at h'
        simp only at h'
        cases h2 : manyP writeP n s with
        | none => rw [h2] at h'; cases h'
        | some q =>
          obtain ⟨ys, r'⟩ := q
          rw [h2] at h'
          cases h'
          exact ⟨x, by simp, hx⟩
    | some p =>
      obtain ⟨x, s⟩ := p
      rw [h1] at h
      rw [writ3_some h1] at h'
      simp only at h h'
      cases h2 : manyP writeP n s with
      | none => rw [h2] at h'; cases h'
      | some q =>
        obtain ⟨ys, r'⟩ := q
        rw [h2] at h'
        cases h'
        cases h3 : manyP writ3P n s with
        | none =>
          obtain ⟨y, hy, ht⟩ := many3_none n s _ ys h3 h2
          exact ⟨y, by simp [hy], ht⟩
        | some q =>
          obtain ⟨zs, u⟩ := q
          rw [h3] at h
          cases h
theorem list3_some {L r : List Int} {xs : List Wr3} (h : listP 16 writ3P L = some (xs, r)) : listP 16 writeP L = some (xs, r) := by
  unfold listP at h ⊢
  cases h1 : upP 16 L with
  | none => rw [h1] at h; cases h
  | some p =>
    obtain ⟨n, s⟩ := p
    rw [h1] at h
    exact many3_some _ _ _ _ h
theorem list3_none {L r : List Int} {xs : List Wr3} (h : listP 16 writ3P L = none) (h' : listP 16 writeP L = some (xs, r)) : ∃ x ∈ xs, 3 < x.1 := by
  unfold listP at h h'
  cases h1 : upP 16 L with
  | none => rw [h1] at h'; cases h'
  | some p =>
    obtain ⟨n, s⟩ := p
    rw [h1] at h h'
    exact many3_none _ _ _ _ h h'
/-- A transaction that is read, as the document reads it. -/
def tx3P (L : List Int) : Option (Tx3 × List Int) := match tidP L with
  | some (t, r) => (match listP 16 writ3P r with
    | some (xs, r') => some ((t, xs), r')
    | none => none)
  | none => none
theorem tx3P_1 {L : List Int} (h : tidP L = none) : tx3P L = none := by unfold tx3P; rw [h]
theorem tx3P_2 {L r : List Int} {t : Nat × Nat} (h : tidP L = some (t, r)) (k : listP 16 writ3P r = none) : tx3P L = none := by unfold tx3P; rw [h]; simp only; rw [k]
theorem tx3P_3 {L r r' : List Int} {t : Nat × Nat} {xs : List Wr3} (h : tidP L = some (t, r)) (k : listP 16 writ3P r = some (xs, r')) : tx3P L = some ((t, xs), r') := by unfold tx3P; rw [h]; simp only; rw [k]
theorem tx3_some {L r : List Int} {x : Tx3} (h : tx3P L = some (x, r)) : txnP L = some (x, r) := by
  cases h1 : tidP L with
  | none => rw [tx3P_1 h1] at h; cases h
  | some p =>
    obtain ⟨t, s⟩ := p
    cases h2 : listP 16 writ3P s with
    | none => rw [tx3P_2 h1 h2] at h; cases h
    | some q =>
      obtain ⟨xs, r'⟩ := q
      rw [tx3P_3 h1 h2] at h
      cases h
      exact txnP_3 h1 (list3_some h2)
theorem okTx_big {x : Tx3} {y : Wr3} (hy : y ∈ x.2) (h : 3 < y.1) : okTx x = false := by
  obtain ⟨k, hk⟩ := List.mem_iff_getElem?.1 hy
  unfold okTx
  refine wt_no (k := k) (x := mkP y) (by rw [List.getElem?_map, hk]; rfl) ?_
  unfold wtB
  show (inB ((y.1 : Nat) : Int) 0 3 && _) = false
  unfold inB
  rw [decide_eq_false (by omega)]
  rfl
theorem tx3_none {L r : List Int} {x : Tx3} (h : tx3P L = none) (h' : txnP L = some (x, r)) : okTx x = false := by
  cases h1 : tidP L with
  | none => rw [txnP_1 h1] at h'; cases h'
  | some p =>
    obtain ⟨t, s⟩ := p
    cases h2 : listP 16 writeP s with
    | none => rw [txnP_2 h1 h2] at h'; cases h'
    | some q =>
      obtain ⟨xs, r'⟩ := q
      rw [txnP_3 h1 h2] at h'
      cases h'
      cases h3 : listP 16 writ3P s with
      | none =>
        obtain ⟨y, hy, ht⟩ := list3_none h3 h2
        exact okTx_big (x := (t, xs)) hy ht
      | some q =>
        obtain ⟨ys, u⟩ := q
        rw [tx3P_3 h1 h3] at h
        cases h
theorem one3_0 {p : List Int} (h : tx3P p = none) : oneTx p = none := by
  cases h1 : txnP p with
  | none => exact oneTx_1 (readP_1 h1)
  | some q =>
    obtain ⟨x, r⟩ := q
    have := tx3_none h h1
    by_cases hr : r = []
    · subst hr; exact oneTx_2 (readP_3 h1) this
    · exact oneTx_1 (readP_2 h1 hr)
theorem one3_1 {p r : List Int} {x : Tx3} (h : tx3P p = some (x, r)) (hr : ¬ r = []) : oneTx p = none := oneTx_1 (readP_2 (tx3_some h) hr)
theorem one3_2 {p : List Int} {x : Tx3} (h : tx3P p = some (x, [])) (k : okTx x = false) : oneTx p = none := oneTx_2 (readP_3 (tx3_some h)) k
theorem one3_3 {p : List Int} {x : Tx3} (h : tx3P p = some (x, [])) (k : okTx x = true) : oneTx p = some x := oneTx_3 (readP_3 (tx3_some h)) k
end Go.Proofs.YtglkndoghnblcaaGreat
namespace Go.Proofs.YtglkndoghnblcaaGreat
open Go.ChangeShapes Go.WideShapes Go.ChangeAt Go.RowKit
set_option linter.unusedVariables false
set_option linter.unusedSimpArgs false
/-- What the document's UnTxn answers. -/
def UnT (w : World) (o : Option Tx3) (r : Ending) (w' : World) : Prop :=
  ((o = none ∧ r = .returned (.tuple #[.agg #[.int .i64 0, .int .i64 0, .slice none 0 0], .bool false])) ∨ ∃ x v, o = some x ∧ r = .returned (.tuple #[v, .bool true]) ∧ TxO w' w.heap.size x v) ∧ Below w.heap.size w w'
set_option maxRecDepth 100000 in
set_option maxHeartbeats 4000000 in
/-- The document's UnTxn (61). -/
theorem runtxn_law (a : Option Addr) (L : List Int) (n cap : Nat) (hn : L.length = n) (hn2 : n ≤ 1000000) (hB : Byt L) (w : World) (hL : Ls .u8 w a cap L) :
    Calls Tryz.prog 61 #[.slice a n cap] w (UnT w (oneTx L)) := by
  have HQ0 := Lib.hid (fun W (b : Below w.heap.size w W) => rqs_box W a cap n L hn hn2 hB (hL.below b))
  have HBY := Lib.hid hB
  clear hn hB hL
  go_enter Tryz.func61, Tryz.ntmps61
  go_upto_region 1 with (fail)
  obtain ⟨W1, hW1⟩ : ∃ W1, w.alloc (.cells #[.int .i64 0, .int .i64 0, .slice none 0 0] 39) = W1 := ⟨_, rfl⟩
  have hb1 : Below w.heap.size w W1 := by rw [← hW1]; exact bl1 _ _
  have x0 : BoxC W1 w.heap.size #[.int .i64 0, .int .i64 0, .slice none 0 0] 39 := by rw [← hW1]; exact BoxC.new _ _ _
  try rw [hW1]
  clear hW1
  have hr := HQ0.out _ hb1
  have HI2 := Lib.hid (BxI.new hb1 x0 (bl1 W1 (.cells #[.slice a n cap, .int .i64 0] 148)) (Nat.le_refl _) hr)
  clear hb1 x0 hr HQ0
  go_upto_region 4 with (fail)
  generalize (W1.alloc (.cells #[.slice a n cap, .int .i64 0] 148)).alloc (.cells #[.int .i64 0, .int .i64 0, .slice none 0 0] 39) = W3 at *
  simp at HI2 ⊢
  generalize W1.heap.size = B at *
  obtain ⟨D, hD⟩ : ∃ D, B + 1 = D := ⟨_, rfl⟩
  rw [hD] at HI2
  try rw [hD]
  clear hD
  go_wp2_with fail
  refine (smallb_law HI2.out.rd 16777215 (by decide)).mono ?_
  rintro r w4 ⟨z1, k1, R1, rfl, hr1, g1, y1, n1⟩
  have hI := HI2.out.step g1 hr1
  have HY1 := Lib.hid (And.intro y1 n1)
  have x0 := hI.bd.cell 0
  have f0 := hI.bd.frozen 0
  simp at x0
  have HI4 := Lib.hid (hI.put 0 (.int .i64 z1))
  clear hr1 g1 y1 n1 hI HI2
  go_upto_region 5 with (fail)
  clear x0 f0
  generalize w4.setCell ⟨D, 0, none⟩ (.int .i64 z1) = W4 at *
  go_wp2_with fail
  refine (smallb_law HI4.out.rd 2147483647 (by decide)).mono ?_
  rintro r w5 ⟨z2, k2, R2, rfl, hr1, g1, y1, n1⟩
  have hI := HI4.out.step g1 hr1
  have HY2 := Lib.hid (And.intro y1 n1)
  have x0 := hI.bd.cell 1
  have f0 := hI.bd.frozen 1
  simp at x0
  have HI5 := Lib.hid (hI.put 1 (.int .i64 z2))
  clear hr1 g1 y1 n1 hI HI4
  go_upto_region 6 with (fail)
  clear x0 f0
  generalize w5.setCell ⟨D, 1, none⟩ (.int .i64 z2) = W5 at *
  have HBR := Lib.hid HI5.out.rd.byt
  go_wp2_with fail
  refine (smallb_law HI5.out.rd 16 (by decide)).mono ?_
  rintro r w6 ⟨z3, k3, R3, rfl, hr1, g1, y1, n1⟩
  have hI := HI5.out.step g1 hr1
  have HY3 := Lib.hid (And.intro y1 n1)
  have HI := Lib.hid hI
  clear hr1 g1 y1 n1 hI HI5
  go_upto_region 7 with (fail)
  have HNO := Lib.hid (fun (h : tx3P L = none) => one3_0 h)
  cases k1 with
  | false =>
    have HX := Lib.hid (HNO.out (tx3P_1 (tidP_1 (HY1.out.2 rfl))))
    have HB8 := Lib.hid HI.out.bel
    have BX := Lib.hid HI.out.bx
    have zb := BX.out
    have zb0 := zb.cell 0
    have fb0 := zb.frozen 0
    have zb1 := zb.cell 1
    have fb1 := zb.frozen 1
    have zb2 := zb.cell 2
    have fb2 := zb.frozen 2
    simp only [List.getElem?_toArray, List.getElem?_cons_zero, List.getElem?_cons_succ] at zb0 zb1 zb2
    have X9 := Lib.hid (((zb.put 0 (.int .i64 0)).put 1 (.int .i64 0)).put 2 (.slice none 0 0))
    have HB9 := Lib.hid (((HB8.out.setCell (p := ⟨w.heap.size, 0, none⟩) (Nat.le_refl _) (.int .i64 0)).setCell (p := ⟨w.heap.size, 1, none⟩) (Nat.le_refl _) (.int .i64 0)).setCell (p := ⟨w.heap.size, 2, none⟩) (Nat.le_refl _) (.slice none 0 0))
    clear zb
    go_wp2_with fail
    clear zb0 fb0 zb1 fb1 zb2 fb2
    generalize (((w6.setCell ⟨w.heap.size, 0, none⟩ (.int .i64 0)).setCell ⟨w.heap.size, 1, none⟩ (.int .i64 0)).setCell ⟨w.heap.size, 2, none⟩ (.slice none 0 0)) = W9 at *
    have q0 := X9.out.cell 0
    have q1 := X9.out.cell 1
    have q2 := X9.out.cell 2
    simp at q0 q1 q2
    refine bodyPost_ret (v := .tuple #[.agg #[.int .i64 0, .int .i64 0, .slice none 0 0], .bool false]) (by simp [results, Tryz.results61, go_sem, q0, q1, q2]) rfl ?_
    exact ⟨.inl ⟨HX.out, rfl⟩, HB9.out⟩
  | true =>
  obtain ⟨e, u1, hz1, he⟩ := HY1.out.1 rfl
  have HU1 := Lib.hid u1
  clear u1
  cases k2 with
  | false =>
    have HX := Lib.hid (HNO.out (tx3P_1 (tidP_2 HU1.out (HY2.out.2 rfl))))
    have HB8 := Lib.hid HI.out.bel
    have BX := Lib.hid HI.out.bx
    have zb := BX.out
    have zb0 := zb.cell 0
    have fb0 := zb.frozen 0
    have zb1 := zb.cell 1
    have fb1 := zb.frozen 1
    have zb2 := zb.cell 2
    have fb2 := zb.frozen 2
    simp only [List.getElem?_toArray, List.getElem?_cons_zero, List.getElem?_cons_succ] at zb0 zb1 zb2
    have X9 := Lib.hid (((zb.put 0 (.int .i64 0)).put 1 (.int .i64 0)).put 2 (.slice none 0 0))
    have HB9 := Lib.hid (((HB8.out.setCell (p := ⟨w.heap.size, 0, none⟩) (Nat.le_refl _) (.int .i64 0)).setCell (p := ⟨w.heap.size, 1, none⟩) (Nat.le_refl _) (.int .i64 0)).setCell (p := ⟨w.heap.size, 2, none⟩) (Nat.le_refl _) (.slice none 0 0))
    clear zb
    go_wp2_with fail
    clear zb0 fb0 zb1 fb1 zb2 fb2
    generalize (((w6.setCell ⟨w.heap.size, 0, none⟩ (.int .i64 0)).setCell ⟨w.heap.size, 1, none⟩ (.int .i64 0)).setCell ⟨w.heap.size, 2, none⟩ (.slice none 0 0)) = W9 at *
    have q0 := X9.out.cell 0
    have q1 := X9.out.cell 1
    have q2 := X9.out.cell 2
    simp at q0 q1 q2
    refine bodyPost_ret (v := .tuple #[.agg #[.int .i64 0, .int .i64 0, .slice none 0 0], .bool false]) (by simp [results, Tryz.results61, go_sem, q0, q1, q2]) rfl ?_
    exact ⟨.inl ⟨HX.out, rfl⟩, HB9.out⟩
  | true =>
  obtain ⟨s, u2, hz2, hs⟩ := HY2.out.1 rfl
  have HTI := Lib.hid (tidP_3 HU1.out u2)
  clear u2
  cases k3 with
  | false =>
    have HX := Lib.hid (HNO.out (tx3P_2 HTI.out (listP_no (HY3.out.2 rfl))))
    have HB8 := Lib.hid HI.out.bel
    have BX := Lib.hid HI.out.bx
    have zb := BX.out
    have zb0 := zb.cell 0
    have fb0 := zb.frozen 0
    have zb1 := zb.cell 1
    have fb1 := zb.frozen 1
    have zb2 := zb.cell 2
    have fb2 := zb.frozen 2
    simp only [List.getElem?_toArray, List.getElem?_cons_zero, List.getElem?_cons_succ] at zb0 zb1 zb2
    have X9 := Lib.hid (((zb.put 0 (.int .i64 0)).put 1 (.int .i64 0)).put 2 (.slice none 0 0))
    have HB9 := Lib.hid (((HB8.out.setCell (p := ⟨w.heap.size, 0, none⟩) (Nat.le_refl _) (.int .i64 0)).setCell (p := ⟨w.heap.size, 1, none⟩) (Nat.le_refl _) (.int .i64 0)).setCell (p := ⟨w.heap.size, 2, none⟩) (Nat.le_refl _) (.slice none 0 0))
    clear zb
    go_wp2_with fail
    clear zb0 fb0 zb1 fb1 zb2 fb2
    generalize (((w6.setCell ⟨w.heap.size, 0, none⟩ (.int .i64 0)).setCell ⟨w.heap.size, 1, none⟩ (.int .i64 0)).setCell ⟨w.heap.size, 2, none⟩ (.slice none 0 0)) = W9 at *
    have q0 := X9.out.cell 0
    have q1 := X9.out.cell 1
    have q2 := X9.out.cell 2
    simp at q0 q1 q2
    refine bodyPost_ret (v := .tuple #[.agg #[.int .i64 0, .int .i64 0, .slice none 0 0], .bool false]) (by simp [results, Tryz.results61, go_sem, q0, q1, q2]) rfl ?_
    exact ⟨.inl ⟨HX.out, rfl⟩, HB9.out⟩
  | true =>
  obtain ⟨cn, u3, hz3, hcn⟩ := HY3.out.1 rfl
  have HL0 := Lib.hid (listP_go (one := writ3P) u3)
  clear u3
  subst hz1 hz2 hz3
  have hI := HI.out
  simp at hI
  have HI9 := Lib.hid hI
  have HD0 := Lib.hid (show D + 1 ≤ w6.heap.size from hI.bd.lt)
  have hcn2 : (cn : Int) ≤ 16 := by omega
  obtain ⟨i0, hi, hz0, hz1, hz2⟩ := info_parts info51
  clear hI HI HY1 HY2 HY3 HU1
  go_wp2_with fail
  go_loopw [10] (fun i wr => ∃ (k : Nat) (ws : List Wr3) (Rk : List Int) (va : Option Addr) (vc : Nat), k ≤ cn ∧ i = .int .i64 (k : Int) ∧ Hid (ws.length = k ∧ listP 16 writ3P R2 = addP ws (manyP writ3P (cn - k) Rk)) ∧ Hid (WritesO wr (D + 1) ws (.slice va k vc)) ∧ Hid (BxI w B D Rk #[.int .i64 0, .int .i64 0, .slice none 0 0] #[.int .i64 (e : Int), .int .i64 (s : Int), .slice va k vc] 39 wr) ∧ Hid (D + 1 ≤ wr.heap.size)) (fun i _ => cn - (intOf i).toNat)
  case atStart => exact ⟨0, [], _, none, 0, by omega, rfl, Lib.hid ⟨rfl, HL0.out⟩, Lib.hid (WritesO.nil _ _), HI9, HD0⟩
  case round =>
    clear HL0 HI9 HD0
    obtain ⟨k, ws, Rk, va, vc, hk, rfl, HL, HW, HI, HZ⟩ := hrel
    by_cases hlt : k < cn
    · have d1 : (k : Int) < (cn : Int) := by omega
      go_wp2_with fail
      refine (smallb_law HI.out.rd 3 (by decide)).mono ?_
      rintro r v1 ⟨zt, kt, Q1, rfl, hr1, g1, y1, n1⟩
      have HI1 := Lib.hid (HI.out.step g1 hr1)
      have HTY := Lib.hid (And.intro y1 n1)
      have HW1 := Lib.hid (HW.out.oth (by have := HI1.out.l2; omega) g1)
      have HZ1 := Lib.hid (Nat.le_trans HZ.out g1.size)
      clear hr1 g1 y1 n1 HI HW HZ
      go_wp2_with fail
      refine (bytesb_law HI1.out.rd 32 (by decide)).mono ?_
      rintro r v2 ⟨kb, kl, ka, kc, ker, Q2, rfl, hnl, hnl2, hnb, hno, hr1, g1, y1, n1, her⟩
      have HI2 := Lib.hid (HI1.out.step g1 hr1)
      have HKY := Lib.hid (And.intro y1 n1)
      have HW2 := Lib.hid (HW1.out.oth (by have := HI2.out.l2; omega) g1)
      have HOB := Lib.hid (own_base (b := D + 1) HZ1.out hno)
      have HZ2 := Lib.hid (Nat.le_trans HZ1.out g1.size)
      have HKB := Lib.hid (And.intro hnl (And.intro hnl2 hnb))
      clear hr1 g1 y1 n1 hnl hnl2 hnb hno her HI1 HW1 HZ1
      go_wp2_with fail
      refine (flagb_law HI2.out.rd).mono ?_
      rintro r v3 ⟨fg, fe, Q3, rfl, hr1, g1, y1, n1, her⟩
      have HI3 := Lib.hid (HI2.out.step g1 hr1)
      have HFY := Lib.hid (And.intro y1 n1)
      have HW3 := Lib.hid (HW2.out.oth (by have := HI3.out.l2; omega) g1)
      have HZ3 := Lib.hid (Nat.le_trans HZ2.out g1.size)
      have HOB3 := Lib.hid (own_oth HOB.out (by have := HI3.out.l2; omega) g1)
      clear hr1 g1 y1 n1 her HI2 HW2 HZ2 HOB
      have HNM := Lib.hid (fun (h : writ3P Rk = none) => HNO.out (tx3P_2 HTI.out (by rw [HL.out.2]; exact manyP_stop hlt ws h)))
      cases kt with
      | false =>
        have HX := Lib.hid (HNM.out (writ3P_1 (HTY.out.2 rfl)))
        have HB8 := Lib.hid HI3.out.bel
        have BX := Lib.hid HI3.out.bx
        have zb := BX.out
        have zb0 := zb.cell 0
        have fb0 := zb.frozen 0
        have zb1 := zb.cell 1
        have fb1 := zb.frozen 1
        have zb2 := zb.cell 2
        have fb2 := zb.frozen 2
        simp only [List.getElem?_toArray, List.getElem?_cons_zero, List.getElem?_cons_succ] at zb0 zb1 zb2
        have X9 := Lib.hid (((zb.put 0 (.int .i64 0)).put 1 (.int .i64 0)).put 2 (.slice none 0 0))
        have HB9 := Lib.hid (((HB8.out.setCell (p := ⟨w.heap.size, 0, none⟩) (Nat.le_refl _) (.int .i64 0)).setCell (p := ⟨w.heap.size, 1, none⟩) (Nat.le_refl _) (.int .i64 0)).setCell (p := ⟨w.heap.size, 2, none⟩) (Nat.le_refl _) (.slice none 0 0))
        clear zb
        go_wp2_with fail
        clear zb0 fb0 zb1 fb1 zb2 fb2
        generalize (((v3.setCell ⟨w.heap.size, 0, none⟩ (.int .i64 0)).setCell ⟨w.heap.size, 1, none⟩ (.int .i64 0)).setCell ⟨w.heap.size, 2, none⟩ (.slice none 0 0)) = W9 at *
        have q0 := X9.out.cell 0
        have q1 := X9.out.cell 1
        have q2 := X9.out.cell 2
        simp at q0 q1 q2
        refine bodyPost_ret (v := .tuple #[.agg #[.int .i64 0, .int .i64 0, .slice none 0 0], .bool false]) (by simp [results, Tryz.results61, go_sem, q0, q1, q2]) rfl ?_
        exact ⟨.inl ⟨HX.out, rfl⟩, HB9.out⟩
      | true =>
      obtain ⟨t, ut, hzt, ht⟩ := HTY.out.1 rfl
      have HU1 := Lib.hid ut
      clear ut
      subst hzt
      by_cases her : ker = 0
      rotate_left
      · have hne : (ker != 0) = true := by simp [her]
        have HX := Lib.hid (HNM.out (writ3P_2 HU1.out (HKY.out.2 her)))
        clear her
        have HB8 := Lib.hid HI3.out.bel
        have BX := Lib.hid HI3.out.bx
        have zb := BX.out
        have zb0 := zb.cell 0
        have fb0 := zb.frozen 0
        have zb1 := zb.cell 1
        have fb1 := zb.frozen 1
        have zb2 := zb.cell 2
        have fb2 := zb.frozen 2
        simp only [List.getElem?_toArray, List.getElem?_cons_zero, List.getElem?_cons_succ] at zb0 zb1 zb2
        have X9 := Lib.hid (((zb.put 0 (.int .i64 0)).put 1 (.int .i64 0)).put 2 (.slice none 0 0))
        have HB9 := Lib.hid (((HB8.out.setCell (p := ⟨w.heap.size, 0, none⟩) (Nat.le_refl _) (.int .i64 0)).setCell (p := ⟨w.heap.size, 1, none⟩) (Nat.le_refl _) (.int .i64 0)).setCell (p := ⟨w.heap.size, 2, none⟩) (Nat.le_refl _) (.slice none 0 0))
        clear zb
        go_wp2_with fail
        clear zb0 fb0 zb1 fb1 zb2 fb2
        generalize (((v3.setCell ⟨w.heap.size, 0, none⟩ (.int .i64 0)).setCell ⟨w.heap.size, 1, none⟩ (.int .i64 0)).setCell ⟨w.heap.size, 2, none⟩ (.slice none 0 0)) = W9 at *
        have q0 := X9.out.cell 0
        have q1 := X9.out.cell 1
        have q2 := X9.out.cell 2
        simp at q0 q1 q2
        refine bodyPost_ret (v := .tuple #[.agg #[.int .i64 0, .int .i64 0, .slice none 0 0], .bool false]) (by simp [results, Tryz.results61, go_sem, q0, q1, q2]) rfl ?_
        exact ⟨.inl ⟨HX.out, rfl⟩, HB9.out⟩
      have HU2 := Lib.hid (HKY.out.1 her)
      subst her
      by_cases her : fe = 0
      rotate_left
      · have hne : (fe != 0) = true := by simp [her]
        have HX := Lib.hid (HNM.out (writ3P_3 HU1.out HU2.out (HFY.out.2 her)))
        clear her
        have HB8 := Lib.hid HI3.out.bel
        have BX := Lib.hid HI3.out.bx
        have zb := BX.out
        have zb0 := zb.cell 0
        have fb0 := zb.frozen 0
        have zb1 := zb.cell 1
        have fb1 := zb.frozen 1
        have zb2 := zb.cell 2
        have fb2 := zb.frozen 2
        simp only [List.getElem?_toArray, List.getElem?_cons_zero, List.getElem?_cons_succ] at zb0 zb1 zb2
        have X9 := Lib.hid (((zb.put 0 (.int .i64 0)).put 1 (.int .i64 0)).put 2 (.slice none 0 0))
        have HB9 := Lib.hid (((HB8.out.setCell (p := ⟨w.heap.size, 0, none⟩) (Nat.le_refl _) (.int .i64 0)).setCell (p := ⟨w.heap.size, 1, none⟩) (Nat.le_refl _) (.int .i64 0)).setCell (p := ⟨w.heap.size, 2, none⟩) (Nat.le_refl _) (.slice none 0 0))
        clear zb
        go_wp2_with fail
        clear zb0 fb0 zb1 fb1 zb2 fb2
        generalize (((v3.setCell ⟨w.heap.size, 0, none⟩ (.int .i64 0)).setCell ⟨w.heap.size, 1, none⟩ (.int .i64 0)).setCell ⟨w.heap.size, 2, none⟩ (.slice none 0 0)) = W9 at *
        have q0 := X9.out.cell 0
        have q1 := X9.out.cell 1
        have q2 := X9.out.cell 2
        simp at q0 q1 q2
        refine bodyPost_ret (v := .tuple #[.agg #[.int .i64 0, .int .i64 0, .slice none 0 0], .bool false]) (by simp [results, Tryz.results61, go_sem, q0, q1, q2]) rfl ?_
        exact ⟨.inl ⟨HX.out, rfl⟩, HB9.out⟩
      have HU3 := Lib.hid (HFY.out.1 her)
      subst her
      go_upto_region 18 with (fail)
      obtain ⟨W4, hW4⟩ : ∃ W4, v3.alloc (.cells #[.int .i64 (t : Int), .slice ka kl kc, .slice none 0 0] 51) = W4 := ⟨_, rfl⟩
      have hb4 : Below v3.heap.size v3 W4 := by rw [← hW4]; exact bl1 _ _
      have BX4 := Lib.hid (show BoxC W4 v3.heap.size #[.int .i64 (t : Int), .slice ka kl kc, .slice none 0 0] 51 by rw [← hW4]; exact BoxC.new _ _ _)
      have HI4 := Lib.hid (HI3.out.below hb4)
      have HW4 := Lib.hid (HW3.out.below hb4)
      have HOB4 := Lib.hid (own_below HOB3.out hb4)
      have HZ4 := Lib.hid (Nat.le_trans HZ3.out hb4.size)
      have HB4 := Lib.hid hb4
      clear hb4 HTY HKY HFY HI3
      try rw [hW4]
      clear hW4
      obtain ⟨N, hN⟩ : ∃ N, v3.heap.size = N := ⟨_, rfl⟩
      have HDN := Lib.hid (show D + 1 ≤ N by rw [← hN]; exact HZ3.out)
      rw [hN] at BX4 ⊢
      have HNN := Lib.hid hN
      clear hN
      cases fg with
      | false =>
        obtain ⟨W5, rfl⟩ : ∃ Y, Y = W4 := ⟨_, rfl⟩
        have HNX := Lib.hid (show listP 16 writ3P R2 = addP (ws ++ [cont ⟨(t : Int), ka, kc, kb, none, 0, []⟩]) (manyP writ3P (cn - (k + 1)) Q3) by rw [HL.out.2]; exact manyP_next hlt ws (by rw [writ3P_6 HU1.out HU2.out HU3.out]; simp [cont]))
        have HOW5 := Lib.hid (show WtOw W5 (D + 1) ⟨(t : Int), ka, kc, kb, none, 0, []⟩ from ⟨by simp, by simp only [HKB.out.1]; exact HOB4.out, World.ownsRow_nil _ _ _ _, fun q hq => by simp at hq⟩)
        obtain ⟨R4, rfl⟩ : ∃ y, y = Q3 := ⟨_, rfl⟩
        have HI5 := HI4
        have HW5 := HW4
        have BX5 := BX4
        have HZ5 := HZ4
        clear HI4 HW4 BX4 HZ4 HOB4 HNM HU1 HU2 HU3 HW3 HOB3 HZ3 HNN HB4
        obtain ⟨ps, hp1, hp2, hp3⟩ := HW5.out
        rw [HL.out.1] at hp2
        have HP1 := Lib.hid hp1
        have HP2 := Lib.hid hp2
        have HP3 := Lib.hid hp3
        have y0 := BX5.out.cell 0
        have y1 := BX5.out.cell 1
        have y2 := BX5.out.cell 2
        have y4 := HI5.out.bd.cell 2
        simp at y0 y1 y2 y4
        have hp2 := HP2.out
        have HAL := Lib.hid (show Below (D + 1) W5 (W5.alloc (.cells #[.int .i64 (t : Int), .slice ka kl kc, .slice none 0 0] 51)) from (Below.refl _ W5).alloc HZ5.out _)
        have hzd := HZ5.out
        have hld := HI5.out.bd.lt
        have HKR := Lib.hid (show (WtP.mk (t : Int) ka kc kb none 0 []).cells = [.int .i64 (t : Int), .slice ka kl kc, .slice none 0 0] by simp only [WtP.cells, HKB.out.1, List.length_nil])
        clear hp1 hp2 hp3
        go_wp2_with (at_builtin; refine wpList_append_own _ rfl (.tmp 96) (.tmp 98) 37 rfl (D + 1) 51 i0 (.agg #[.int .i64 0, .slice none 0 0, .slice none 0 0]) 3 56 Tryz.underlying37 hi hz0 hz1 hz2 rfl (by decide) _ k (wcells ps) rfl (HP2.out.alloc _) ⟨W5.heap.size, 0, none⟩ 1 1 [.int .i64 (t : Int), .slice ka kl kc, .slice none 0 0] rfl rfl (by intro j u hj; match j, hj with | 0, hj => (simp at hj; subst hj; simp [Addr.add, go_sem]) | 1, hj => (simp at hj; subst hj; simp [Addr.add, go_sem]) | 2, hj => (simp at hj; subst hj; simp [Addr.add, go_sem]) | j + 3, hj => simp at hj) (by intro u hu; simp at hu; rcases hu with rfl | rfl | rfl <;> rfl) (by unfold maxLen; omega) (by omega) (by simp; omega) ?_)
        intro v6 w9 hown6 hgrow6 _
        have b6 : Below (D + 1) W5 w9 := HAL.out.grown hgrow6 (by simp; omega) (fun j hj => (HP2.out.lt j hj).1)
        have HW6 := Lib.hid (WritesO.snoc (p := ⟨(t : Int), ka, kc, kb, none, 0, []⟩) HP1.out HL.out.1 (HP2.out.alloc _) (fun q hq => (HP3.out q hq).below (bl1 _ _)) (HOW5.out.below (bl1 _ _)) (by rw [HKR.out]; exact hown6) hgrow6)
        obtain ⟨a6, c6, hv6⟩ := own_form hown6
        subst hv6
        have hI6 := HI5.out.far b6
        have y5 := hI6.bd.cell 2
        have f5 := hI6.bd.frozen 2
        simp at y5
        have hIn := hI6.put 2 (.slice a6 (k + 1) c6)
        simp at hIn
        have HIN := Lib.hid hIn
        have HWN := Lib.hid (show WritesO (w9.setCell ⟨D, 2, none⟩ (.slice a6 (k + 1) c6)) (D + 1) (ws ++ [cont ⟨(t : Int), ka, kc, kb, none, 0, []⟩]) (.slice a6 (k + 1) c6) from HW6.out.oth (by omega) (oth_set _ _ _ _))
        have HZN := Lib.hid (show D + 1 ≤ (w9.setCell ⟨D, 2, none⟩ (.slice a6 (k + 1) c6)).heap.size by simp; exact Nat.le_trans HZ5.out b6.size)
        have HLN := Lib.hid (show (ws ++ [cont ⟨(t : Int), ka, kc, kb, none, 0, []⟩]).length = k + 1 by rw [List.length_append, HL.out.1]; rfl)
        clear hown6 hgrow6 hI6 hIn b6 y0 y1 y2 y4
        go_wp2_with fail
        clear y5 f5
        generalize w9.setCell ⟨D, 2, none⟩ (.slice a6 (k + 1) c6) = WN at *
        go_roundw
        case rel => exact ⟨k + 1, _, R4, a6, c6, by omega, by go_num, Lib.hid ⟨HLN.out, HNX.out⟩, HWN, HIN, HZN⟩
        case measure => simp [intOf]; omega
      | true =>
        go_wp2_with fail
        refine (rowb_law HI4.out.rd).mono ?_
        rintro r v5 ⟨fs, fl, ra, rc, ok, R4, rfl, hfl, hro, hr1, g1, y1, n1⟩
        have hbn := HI4.out.rd.lt
        have hbd := HI4.out.l2
        have HI5x := Lib.hid (HI4.out.step g1 hr1)
        have HRY := Lib.hid (And.intro y1 n1)
        have bx5 := BX4.out.gr g1 (by have := HDN.out; omega)
        have x2 := bx5.cell 2
        have f2 := bx5.frozen 2
        simp at x2
        have hb5 : Below N v5 (v5.setCell ⟨N, 2, none⟩ (.slice ra fl rc)) := (Below.refl N v5).setCell (p := ⟨N, 2, none⟩) (Nat.le_refl _) _
        have HG3 := Lib.hid (grown_below (oth_trans (oth_below B HB4.out) g1) (by rw [HNN.out]; exact hb5))
        have HI5 := Lib.hid (HI5x.out.far (hb5.mono HDN.out))
        have bx5' := bx5.put 2 (.slice ra fl rc)
        simp at bx5'
        have BX5 := Lib.hid bx5'
        have HZ5 := Lib.hid (show D + 1 ≤ (v5.setCell ⟨N, 2, none⟩ (.slice ra fl rc)).heap.size from Nat.le_trans HZ4.out (Nat.le_trans g1.size hb5.size))
        have hn4 : N < W4.heap.size := BX4.out.lt
        have hro5 := (hro.oth (B := N) hn4 (oth_set v5 N 2 (.slice ra fl rc))).base (show D + 1 ≤ W4.heap.size from HZ4.out)
        have HRO := Lib.hid hro5
        have HW5 := Lib.hid (HW3.out.oth (by omega) HG3.out)
        have HOB5 := Lib.hid (own_oth HOB3.out (by omega) HG3.out)
        have HFL := Lib.hid hfl
        clear hbn hbd g1 hr1 hro hb5 bx5 bx5' hn4 hro5 y1 n1 hfl HI5x HI4 HW4 BX4 HZ4 HOB4 HW3 HOB3 HZ3 HNN HB4
        go_upto_region 20 with (fail)
        clear x2 f2
        generalize v5.setCell ⟨N, 2, none⟩ (.slice ra fl rc) = W5 at *
        cases ok with
        | false =>
          have HX := Lib.hid (HNM.out (writ3P_4 HU1.out HU2.out HU3.out (HRY.out.2 rfl)))
          have HB8 := Lib.hid HI5.out.bel
          have BX := Lib.hid HI5.out.bx
          have zb := BX.out
          have zb0 := zb.cell 0
          have fb0 := zb.frozen 0
          have zb1 := zb.cell 1
          have fb1 := zb.frozen 1
          have zb2 := zb.cell 2
          have fb2 := zb.frozen 2
          simp only [List.getElem?_toArray, List.getElem?_cons_zero, List.getElem?_cons_succ] at zb0 zb1 zb2
          have X9 := Lib.hid (((zb.put 0 (.int .i64 0)).put 1 (.int .i64 0)).put 2 (.slice none 0 0))
          have HB9 := Lib.hid (((HB8.out.setCell (p := ⟨w.heap.size, 0, none⟩) (Nat.le_refl _) (.int .i64 0)).setCell (p := ⟨w.heap.size, 1, none⟩) (Nat.le_refl _) (.int .i64 0)).setCell (p := ⟨w.heap.size, 2, none⟩) (Nat.le_refl _) (.slice none 0 0))
          clear zb
          go_wp2_with fail
          clear zb0 fb0 zb1 fb1 zb2 fb2
          generalize (((W5.setCell ⟨w.heap.size, 0, none⟩ (.int .i64 0)).setCell ⟨w.heap.size, 1, none⟩ (.int .i64 0)).setCell ⟨w.heap.size, 2, none⟩ (.slice none 0 0)) = W9 at *
          have q0 := X9.out.cell 0
          have q1 := X9.out.cell 1
          have q2 := X9.out.cell 2
          simp at q0 q1 q2
          refine bodyPost_ret (v := .tuple #[.agg #[.int .i64 0, .int .i64 0, .slice none 0 0], .bool false]) (by simp [results, Tryz.results61, go_sem, q0, q1, q2]) rfl ?_
          exact ⟨.inl ⟨HX.out, rfl⟩, HB9.out⟩
        | true =>
          have hrow := HRO.out
          obtain ⟨RR, hR1, hR2, hR3⟩ := hrow
          have hrl : RR.length = fl := by have := congrArg List.length hR1; rw [List.length_map] at this; rw [this, HFL.out]
          rw [HFL.out] at hR2
          have HRL := Lib.hid hrl
          have HNX := Lib.hid (show listP 16 writ3P R2 = addP (ws ++ [cont ⟨(t : Int), ka, kc, kb, ra, rc, RR⟩]) (manyP writ3P (cn - (k + 1)) R4) by rw [HL.out.2]; exact manyP_next hlt ws (by rw [writ3P_5 HU1.out HU2.out HU3.out (HRY.out.1 rfl)]; simp [cont, hR1]))
          have HOW5 := Lib.hid (show WtOw W5 (D + 1) ⟨(t : Int), ka, kc, kb, ra, rc, RR⟩ from ⟨by simp, by simp only [HKB.out.1]; exact HOB5.out, by simp only [hrl]; exact hR2, hR3⟩)
          clear hR1 hR2 hR3 hrl HNM HU1 HU2 HU3 HRO HRY HOB5
          obtain ⟨ps, hp1, hp2, hp3⟩ := HW5.out
          rw [HL.out.1] at hp2
          have HP1 := Lib.hid hp1
          have HP2 := Lib.hid hp2
          have HP3 := Lib.hid hp3
          have y0 := BX5.out.cell 0
          have y1 := BX5.out.cell 1
          have y2 := BX5.out.cell 2
          have y4 := HI5.out.bd.cell 2
          simp at y0 y1 y2 y4
          have hp2 := HP2.out
          have HAL := Lib.hid (show Below (D + 1) W5 (W5.alloc (.cells #[.int .i64 (t : Int), .slice ka kl kc, .slice ra fl rc] 51)) from (Below.refl _ W5).alloc HZ5.out _)
          have hzd := HZ5.out
          have hld := HI5.out.bd.lt
          have HKR := Lib.hid (show (WtP.mk (t : Int) ka kc kb ra rc RR).cells = [.int .i64 (t : Int), .slice ka kl kc, .slice ra fl rc] by simp only [WtP.cells, HKB.out.1, HRL.out])
          clear hp1 hp2 hp3
          go_wp2_with (at_builtin; refine wpList_append_own _ rfl (.tmp 96) (.tmp 98) 37 rfl (D + 1) 51 i0 (.agg #[.int .i64 0, .slice none 0 0, .slice none 0 0]) 3 56 Tryz.underlying37 hi hz0 hz1 hz2 rfl (by decide) _ k (wcells ps) rfl (HP2.out.alloc _) ⟨W5.heap.size, 0, none⟩ 1 1 [.int .i64 (t : Int), .slice ka kl kc, .slice ra fl rc] rfl rfl (by intro j u hj; match j, hj with | 0, hj => (simp at hj; subst hj; simp [Addr.add, go_sem]) | 1, hj => (simp at hj; subst hj; simp [Addr.add, go_sem]) | 2, hj => (simp at hj; subst hj; simp [Addr.add, go_sem]) | j + 3, hj => simp at hj) (by intro u hu; simp at hu; rcases hu with rfl | rfl | rfl <;> rfl) (by unfold maxLen; omega) (by omega) (by simp; omega) ?_)
          intro v6 w9 hown6 hgrow6 _
          have b6 : Below (D + 1) W5 w9 := HAL.out.grown hgrow6 (by simp; omega) (fun j hj => (HP2.out.lt j hj).1)
          have HW6 := Lib.hid (WritesO.snoc (p := ⟨(t : Int), ka, kc, kb, ra, rc, RR⟩) HP1.out HL.out.1 (HP2.out.alloc _) (fun q hq => (HP3.out q hq).below (bl1 _ _)) (HOW5.out.below (bl1 _ _)) (by rw [HKR.out]; exact hown6) hgrow6)
          obtain ⟨a6, c6, hv6⟩ := own_form hown6
          subst hv6
          have hI6 := HI5.out.far b6
          have y5 := hI6.bd.cell 2
          have f5 := hI6.bd.frozen 2
          simp at y5
          have hIn := hI6.put 2 (.slice a6 (k + 1) c6)
          simp at hIn
          have HIN := Lib.hid hIn
          have HWN := Lib.hid (show WritesO (w9.setCell ⟨D, 2, none⟩ (.slice a6 (k + 1) c6)) (D + 1) (ws ++ [cont ⟨(t : Int), ka, kc, kb, ra, rc, RR⟩]) (.slice a6 (k + 1) c6) from HW6.out.oth (by omega) (oth_set _ _ _ _))
          have HZN := Lib.hid (show D + 1 ≤ (w9.setCell ⟨D, 2, none⟩ (.slice a6 (k + 1) c6)).heap.size by simp; exact Nat.le_trans HZ5.out b6.size)
          have HLN := Lib.hid (show (ws ++ [cont ⟨(t : Int), ka, kc, kb, ra, rc, RR⟩]).length = k + 1 by rw [List.length_append, HL.out.1]; rfl)
          clear hown6 hgrow6 hI6 hIn b6 y0 y1 y2 y4
          go_wp2_with fail
          clear y5 f5
          generalize w9.setCell ⟨D, 2, none⟩ (.slice a6 (k + 1) c6) = WN at *
          go_roundw
          case rel => exact ⟨k + 1, _, R4, a6, c6, by omega, by go_num, Lib.hid ⟨HLN.out, HNX.out⟩, HWN, HIN, HZN⟩
          case measure => simp [intOf]; omega
    · have d1 : ¬ (k : Int) < (cn : Int) := by omega
      have hlist : listP 16 writ3P R2 = some (ws, Rk) := by rw [HL.out.2, show cn - k = 0 by omega]; simp [manyP, addP]
      have HYES := Lib.hid (tx3P_3 HTI.out hlist)
      obtain ⟨ps, hp1, hp2, hp3, hp4, _⟩ := HW.out.lies (listP_all (fun L x s hb h => writeP_all hb h) HBR.out (list3_some hlist)).1
      have HPS := Lib.hid (And.intro hp1 (And.intro hp2 (And.intro hp3 hp4)))
      clear hlist hp1 hp2 hp3 hp4
      obtain ⟨m, hm⟩ : ∃ m, Rk.length = m := ⟨_, rfl⟩
      have HLF := Lib.hid (leftq_law HI.out.rd m hm)
      have HM := Lib.hid hm
      clear hm
      by_cases hm0 : 0 < m
      · have d2 : (0 : Int) < (m : Int) := by omega
        have HX := Lib.hid (one3_1 HYES.out (fun h => by have := HM.out; rw [h] at this; simp at this; omega))
        go_upto_if 108 with (first | (go_at_call 90; refine HLF.out.mono ?_; rintro r v1 ⟨rfl, hb6⟩; have HI6 := Lib.hid (HI.out.below hb6); clear hb6))
        have HB8 := Lib.hid HI6.out.bel
        have BX := Lib.hid HI6.out.bx
        have zb := BX.out
        have zb0 := zb.cell 0
        have fb0 := zb.frozen 0
        have zb1 := zb.cell 1
        have fb1 := zb.frozen 1
        have zb2 := zb.cell 2
        have fb2 := zb.frozen 2
        simp only [List.getElem?_toArray, List.getElem?_cons_zero, List.getElem?_cons_succ] at zb0 zb1 zb2
        have X9 := Lib.hid (((zb.put 0 (.int .i64 0)).put 1 (.int .i64 0)).put 2 (.slice none 0 0))
        have HB9 := Lib.hid (((HB8.out.setCell (p := ⟨w.heap.size, 0, none⟩) (Nat.le_refl _) (.int .i64 0)).setCell (p := ⟨w.heap.size, 1, none⟩) (Nat.le_refl _) (.int .i64 0)).setCell (p := ⟨w.heap.size, 2, none⟩) (Nat.le_refl _) (.slice none 0 0))
        clear zb
        go_wp2_with fail
        clear zb0 fb0 zb1 fb1 zb2 fb2
        generalize (((v1.setCell ⟨w.heap.size, 0, none⟩ (.int .i64 0)).setCell ⟨w.heap.size, 1, none⟩ (.int .i64 0)).setCell ⟨w.heap.size, 2, none⟩ (.slice none 0 0)) = W9 at *
        have q0 := X9.out.cell 0
        have q1 := X9.out.cell 1
        have q2 := X9.out.cell 2
        simp at q0 q1 q2
        refine bodyPost_ret (v := .tuple #[.agg #[.int .i64 0, .int .i64 0, .slice none 0 0], .bool false]) (by simp [results, Tryz.results61, go_sem, q0, q1, q2]) rfl ?_
        exact ⟨.inl ⟨HX.out, rfl⟩, HB9.out⟩
      have d2 : ¬ (0 : Int) < (m : Int) := by omega
      have HRE := Lib.hid (show tx3P L = some (((e, s), ws), []) by rw [HYES.out, List.length_eq_zero_iff.1 (show Rk.length = 0 by rw [HM.out]; omega)])
      obtain ⟨mb, hmb⟩ : ∃ b, okTx ((e, s), ws) = b := ⟨_, rfl⟩
      have HMB := Lib.hid hmb
      have HMA := Lib.hid (fun W (b : Below wr.heap.size wr W) => (show Calls Tryz.prog 24 #[.agg #[.int .i64 (e : Int), .int .i64 (s : Int), .slice va k vc]] W fun r w' => r = .returned (.bool mb) ∧ Below W.heap.size W w' by
        have hl : ps.length = k := by have := congrArg List.length HPS.out.1; rw [List.length_map, HL.out.1] at this; exact this
        have := rmaytxn_law (e : Int) (s : Int) va ps k vc hl (by omega) W (HPS.out.2.2.1.below b)
        rw [okTx_lies e s HPS.out.2.2.2, HPS.out.1, HMB.out] at this
        exact this))
      clear hmb
      go_upto_if 108 with (first | (go_at_call 90; refine HLF.out.mono ?_; rintro r v1 ⟨rfl, hb6⟩; have HI6 := Lib.hid (HI.out.below hb6); have HMC := Lib.hid (HMA.out _ hb6); have HB6 := Lib.hid hb6; clear hb6; have y0 := HI6.out.bd.cell 0; have y1 := HI6.out.bd.cell 1; have y2 := HI6.out.bd.cell 2; simp at y0 y1 y2) | (go_at_call 24; refine HMC.out.mono ?_; rintro r v2 ⟨rfl, hb7⟩; have HI7 := Lib.hid (HI6.out.below hb7); have HW7 := Lib.hid (HW.out.below (step_below HB6.out hb7)); clear hb7))
      clear y0 y1 y2
      cases mb with
      | false =>
        have HX := Lib.hid (one3_2 HRE.out HMB.out)
        have HB8 := Lib.hid HI7.out.bel
        have BX := Lib.hid HI7.out.bx
        have zb := BX.out
        have zb0 := zb.cell 0
        have fb0 := zb.frozen 0
        have zb1 := zb.cell 1
        have fb1 := zb.frozen 1
        have zb2 := zb.cell 2
        have fb2 := zb.frozen 2
        simp only [List.getElem?_toArray, List.getElem?_cons_zero, List.getElem?_cons_succ] at zb0 zb1 zb2
        have X9 := Lib.hid (((zb.put 0 (.int .i64 0)).put 1 (.int .i64 0)).put 2 (.slice none 0 0))
        have HB9 := Lib.hid (((HB8.out.setCell (p := ⟨w.heap.size, 0, none⟩) (Nat.le_refl _) (.int .i64 0)).setCell (p := ⟨w.heap.size, 1, none⟩) (Nat.le_refl _) (.int .i64 0)).setCell (p := ⟨w.heap.size, 2, none⟩) (Nat.le_refl _) (.slice none 0 0))
        clear zb
        go_wp2_with fail
        clear zb0 fb0 zb1 fb1 zb2 fb2
        generalize (((v2.setCell ⟨w.heap.size, 0, none⟩ (.int .i64 0)).setCell ⟨w.heap.size, 1, none⟩ (.int .i64 0)).setCell ⟨w.heap.size, 2, none⟩ (.slice none 0 0)) = W9 at *
        have q0 := X9.out.cell 0
        have q1 := X9.out.cell 1
        have q2 := X9.out.cell 2
        simp at q0 q1 q2
        refine bodyPost_ret (v := .tuple #[.agg #[.int .i64 0, .int .i64 0, .slice none 0 0], .bool false]) (by simp [results, Tryz.results61, go_sem, q0, q1, q2]) rfl ?_
        exact ⟨.inl ⟨HX.out, rfl⟩, HB9.out⟩
      | true =>
        have HX := Lib.hid (one3_3 HRE.out HMB.out)
        have HB8 := Lib.hid HI7.out.bel
        have BX := Lib.hid HI7.out.bx
        have y0 := HI7.out.bd.cell 0
        have y1 := HI7.out.bd.cell 1
        have y2 := HI7.out.bd.cell 2
        simp at y0 y1 y2
        have HDL := Lib.hid (show w.heap.size < D + 1 by have := HI7.out.l1; have := HI7.out.l2; omega)
        have HWZ := Lib.hid (HW7.out.oth HDL.out (oth_trans (oth_set v2 w.heap.size 0 (.int .i64 (e : Int))) (oth_trans (oth_set _ _ 1 (.int .i64 (s : Int))) (oth_set _ _ 2 (.slice va k vc)))))
        have zb := BX.out
        have zb0 := zb.cell 0
        have fb0 := zb.frozen 0
        have zb1 := zb.cell 1
        have fb1 := zb.frozen 1
        have zb2 := zb.cell 2
        have fb2 := zb.frozen 2
        simp only [List.getElem?_toArray, List.getElem?_cons_zero, List.getElem?_cons_succ] at zb0 zb1 zb2
        have X9 := Lib.hid (((zb.put 0 (.int .i64 (e : Int))).put 1 (.int .i64 (s : Int))).put 2 (.slice va k vc))
        have HB9 := Lib.hid (((HB8.out.setCell (p := ⟨w.heap.size, 0, none⟩) (Nat.le_refl _) (.int .i64 (e : Int))).setCell (p := ⟨w.heap.size, 1, none⟩) (Nat.le_refl _) (.int .i64 (s : Int))).setCell (p := ⟨w.heap.size, 2, none⟩) (Nat.le_refl _) (.slice va k vc))
        clear zb
        go_wp2_with fail
        clear zb0 fb0 zb1 fb1 zb2 fb2
        generalize (((v2.setCell ⟨w.heap.size, 0, none⟩ (.int .i64 (e : Int))).setCell ⟨w.heap.size, 1, none⟩ (.int .i64 (s : Int))).setCell ⟨w.heap.size, 2, none⟩ (.slice va k vc)) = W9 at *
        have q0 := X9.out.cell 0
        have q1 := X9.out.cell 1
        have q2 := X9.out.cell 2
        simp at q0 q1 q2
        refine bodyPost_ret (v := .tuple #[.agg #[.int .i64 (e : Int), .int .i64 (s : Int), .slice va k vc], .bool true]) (by simp [results, Tryz.results61, go_sem, q0, q1, q2]) rfl ?_
        exact ⟨.inr ⟨_, _, HX.out, rfl, va, vc, by simp only [HL.out.1], by simp only; rw [HL.out.1]; exact HWZ.out.base (Nat.le_of_lt HDL.out)⟩, HB9.out⟩
end Go.Proofs.YtglkndoghnblcaaGreat
namespace Go.Proofs.YtglkndoghnblcaaGreat
open Go.ChangeShapes Go.WideShapes Go.ChangeAt Go.RowKit
set_option linter.unusedVariables false
set_option linter.unusedSimpArgs false
theorem sumF_lt (FS : List (List Int)) {k : Nat} (hk : k < FS.length) : sumF FS k < sumF FS FS.length := by
  have h1 := sumF_succ (FS := FS) (k := k) (p := FS[k]) (List.getElem?_eq_getElem hk)
  have h2 := sumF_le FS (k + 1)
  rw [← sumF_all] at h2
  omega
set_option maxRecDepth 100000 in
set_option maxHeartbeats 4000000 in
/-- The document's Txns (21). -/
theorem rtxns_law (a : Option Addr) (L : List Int) (n cap : Nat) (hn : L.length = n) (hn2 : n ≤ 1000000) (hB : Byt L) (w : World) (hL : Ls .u8 w a cap L) :
    Calls Tryz.prog 21 #[.slice a n cap] w (TxnsR w L) := by
  have HF := Lib.hid (rframes_law a L n cap hn hn2 hB w hL)
  have hwl : wholeL L ≤ 1000000 := Nat.le_trans (whole_le n L (Nat.le_of_eq hn)) (by omega)
  have HWL := Lib.hid (show wholeL L = sumF (framesL L) (framesL L).length from (sumF_all _).symm)
  have HFB := Lib.hid (frames_byt _ L (Nat.le_refl _) hB)
  have HFL := Lib.hid (fun p hp => (frames_len _ L (Nat.le_refl _) p hp))
  unfold TxnsR
  rw [HWL.out] at HF hwl ⊢
  obtain ⟨FS, hFS⟩ : ∃ FS, framesL L = FS := ⟨_, rfl⟩
  rw [hFS] at HF HFB HFL hwl ⊢
  have HLE := Lib.hid (show ∀ k, sumF FS k ≤ 1000000 from fun k => Nat.le_trans (sumF_le FS k) (by rw [← sumF_all]; exact hwl))
  have HLT := Lib.hid (fun k (hk : k < FS.length) => sumF_lt FS hk)
  obtain ⟨i0, hi, hz0, hz1, hz2⟩ := info_parts info39
  clear hn hB hL hFS HWL hwl
  go_enter Tryz.func21, Tryz.ntmps21
  go_wp2_with fail
  refine HF.out.mono ?_
  rintro r w1 ⟨v, rfl, ho, hb1⟩
  obtain ⟨a1, c1, R, rfl, hR1, hR2⟩ := ho.rdr
  obtain ⟨m, hm⟩ : ∃ m, FS.length = m := ⟨_, rfl⟩
  have HM := Lib.hid hm
  have HR := Lib.hid (And.intro hR1 hR2)
  have HB1 := Lib.hid hb1
  rw [hm] at HLT ⊢
  have hm2 : m ≤ 1000000 := by have := sumF_ge FS m (by omega); have := HLE.out m; omega
  clear hR1 hR2 hb1 ho hm HF
  go_wp2_with fail
  go_loopw [7, 8, 9] (fun o t i wr => ∃ (k : Nat) (xs : List Tx3), k ≤ m ∧ i = .int .i64 (k : Int) ∧ t = .int .i64 ((sumF FS k : Nat) : Int) ∧ Hid (xs.length = k ∧ txsL FS = xs ++ txsL (FS.drop k)) ∧ Hid (TxsO wr w1.heap.size xs o) ∧ Hid (Below w1.heap.size w1 wr)) (fun _ _ i _ => m - (intOf i).toNat)
  case atStart => exact ⟨0, [], by omega, rfl, rfl, Lib.hid ⟨rfl, by simp⟩, Lib.hid (TxsO.nil _ _), Lib.hid (Below.refl _ _)⟩
  case round =>
    obtain ⟨k, xs, hk, rfl, rfl, HX, HT, HB⟩ := hrel
    by_cases hlt : k < m
    · have d1 : (k : Int) < (m : Int) := by omega
      obtain ⟨q, hq⟩ : ∃ q, R[k]? = some q := ⟨_, List.getElem?_eq_getElem (by have h1 := congrArg List.length HR.out.1; rw [List.length_map, HM.out] at h1; omega)⟩
      have hqF : FS[k]? = some q.bs := by rw [← HR.out.1, List.getElem?_map, hq]; rfl
      obtain ⟨b1, o1, ea, cc0, hl⟩ := HR.out.2 k q hq
      cases ea
      unfold P1.v at cc0
      have HCC := Lib.hid (fun W (b : Below w1.heap.size w1 W) => (b.cell (cell_lt cc0)).trans cc0)
      have cc := HCC.out wr HB.out
      have hmem := List.mem_of_getElem? hqF
      have hlen := (HFL.out q.bs hmem).2
      have HU := Lib.hid (runtxn_law q.ad q.bs q.bs.length q.cap rfl (by omega) (HFB.out q.bs hmem) wr (hl.below HB.out))
      have HQF := Lib.hid hqF
      obtain ⟨pl, hpl⟩ : ∃ pl, q.bs.length = pl := ⟨_, rfl⟩
      obtain ⟨qa, hqa⟩ : ∃ x, q.ad = x := ⟨_, rfl⟩
      obtain ⟨qc, hqc⟩ : ∃ x, q.cap = x := ⟨_, rfl⟩
      have HPL := Lib.hid hpl
      rw [hqa, hqc, hpl] at cc HU HCC
      rw [hpl] at hlen
      clear hq hqF hl hmem hpl hqa hqc cc0
      go_wp2_with fail
      refine HU.out.mono ?_
      rintro r w2 ⟨⟨h1, rfl⟩ | ⟨x, v, h1, rfl, hx⟩, hb2⟩
      · have HN := Lib.hid (txsL_no xs HQF.out HX.out.2 h1)
        have HB2 := Lib.hid (step_below HB.out hb2)
        have HT2 := Lib.hid (HT.out.below hb2)
        have HZ := Lib.hid (show (sumF FS k == sumF FS m) = false by rw [beq_eq_false_iff_ne]; have := HLT.out k hlt; omega)
        clear h1 hb2 HT HU cc
        go_wp2_with fail
        refine bodyPost_ret (v := .tuple #[u7, .int .i64 ((sumF FS k : Nat) : Int), .bool false]) (by simp [results, Tryz.results21, go_sem]) rfl ?_
        rw [HN.out, HX.out.1, HM.out, HZ.out]
        exact ⟨_, rfl, (HT2.out.base HB1.out.size).below (bl1 _ _), (step_below HB1.out HB2.out).alloc (by have := HB1.out.size; have := HB2.out.size; omega) _⟩
      · obtain ⟨ta, tc, rfl, hw⟩ := hx
        obtain ⟨⟨e, s⟩, ys⟩ := x
        simp only at hw ⊢
        obtain ⟨yl, hyl⟩ : ∃ yl, ys.length = yl := ⟨_, rfl⟩
        have HYL := Lib.hid hyl
        have HX1 := Lib.hid h1
        rw [hyl] at hw ⊢
        have HB2 := Lib.hid hb2
        have HWS := Lib.hid hw
        clear h1 hw hyl hb2 cc HU
        go_upto_region 8 with (fail)
        obtain ⟨W3, hW3⟩ : ∃ W3, w2.alloc (.cells #[.int .i64 (e : Int), .int .i64 (s : Int), .slice ta yl tc] 39) = W3 := ⟨_, rfl⟩
        have hb3 : Below w2.heap.size w2 W3 := by rw [← hW3]; exact bl1 _ _
        have bx3 : BoxC W3 w2.heap.size #[.int .i64 (e : Int), .int .i64 (s : Int), .slice ta yl tc] 39 := by rw [← hW3]; exact BoxC.new _ _ _
        try rw [hW3]
        clear hW3
        have y0 := bx3.cell 0
        have y1 := bx3.cell 1
        have y2 := bx3.cell 2
        simp at y0 y1 y2
        have HB3 := Lib.hid (step_below HB2.out hb3)
        have HS3 := Lib.hid (show w1.heap.size ≤ W3.heap.size from Nat.le_trans HB.out.size HB3.out.size)
        have hw3 := (HWS.out.base HB.out.size).below hb3
        have HW3 := Lib.hid hw3
        obtain ⟨tps, ht1, ht2, ht3⟩ := HT.out.below HB3.out
        rw [HX.out.1] at ht2
        obtain ⟨a0, c0, rfl⟩ := own_form ht2
        have HT1 := Lib.hid ht1
        have HT2 := Lib.hid ht2
        have HT3 := Lib.hid ht3
        have HAL := Lib.hid (show Below w1.heap.size W3 (W3.alloc (.cells #[.int .i64 (e : Int), .int .i64 (s : Int), .slice ta yl tc] 39)) from (Below.refl _ W3).alloc HS3.out _)
        have hzd := HS3.out
        clear ht1 ht2 ht3 hw3 hb3 bx3 HT HWS
        go_wp2_with (at_builtin; refine wpList_append_own _ rfl (.tmp 35) (.tmp 37) 43 rfl w1.heap.size 39 i0 (.agg #[.int .i64 0, .int .i64 0, .slice none 0 0]) 3 40 Tryz.underlying43 hi hz0 hz1 hz2 rfl (by decide) _ k (tcells tps) rfl (HT2.out.alloc _) ⟨W3.heap.size, 0, none⟩ 1 1 [.int .i64 (e : Int), .int .i64 (s : Int), .slice ta yl tc] rfl rfl (by intro j u hj; match j, hj with | 0, hj => (simp at hj; subst hj; simp [Addr.add, go_sem]) | 1, hj => (simp at hj; subst hj; simp [Addr.add, go_sem]) | 2, hj => (simp at hj; subst hj; simp [Addr.add, go_sem]) | j + 3, hj => simp at hj) (by intro u hu; simp at hu; rcases hu with rfl | rfl | rfl <;> rfl) (by unfold maxLen; omega) (by omega) (by simp; omega) ?_)
        intro v6 w9 hown6 hgrow6 _
        have b6 : Below w1.heap.size W3 w9 := HAL.out.grown hgrow6 (by simp; omega) (fun j hj => (HT2.out.lt j hj).1)
        obtain ⟨a6, c6, rfl⟩ := own_form hown6
        have HT6 := Lib.hid (TxsO.snoc (p := ⟨((e, s), ys), ta, tc⟩) HT1.out HX.out.1 (HT2.out.alloc _) (fun q hq => (HT3.out q hq).below (bl1 _ _)) (by simp only [TxP.v]; rw [HYL.out]; exact HW3.out.below (bl1 _ _)) (by simp only [TxP.cells, TxP.v]; rw [HYL.out]; exact hown6) hgrow6)
        have HX6 := Lib.hid (show (xs ++ [((e, s), ys)]).length = k + 1 ∧ txsL FS = (xs ++ [((e, s), ys)]) ++ txsL (FS.drop (k + 1)) from ⟨by rw [List.length_append, HX.out.1]; rfl, txsL_go xs HQF.out HX.out.2 HX1.out⟩)
        have HB9 := Lib.hid ((step_below HB.out HB3.out).trans b6)
        have z1 := HCC.out w9 HB9.out
        have hs1 := HLE.out k
        have HSU := Lib.hid (show sumF FS (k + 1) = sumF FS k + (8 + pl) by rw [sumF_succ HQF.out, HPL.out])
        obtain ⟨sm, hsm⟩ : ∃ sm, sumF FS k = sm := ⟨_, rfl⟩
        rw [hsm] at hs1 HSU
        try rw [hsm]
        have e1 : IntKind.i64.wrap ((sm : Int) + 8) = ((sm + 8 : Nat) : Int) := by rw [IntKind.wrap_i64] <;> omega
        have e2 : IntKind.i64.wrap (((sm + 8 : Nat) : Int) + (pl : Int)) = ((sm + (8 + pl) : Nat) : Int) := by rw [IntKind.wrap_i64] <;> omega
        clear hown6 hgrow6 b6 y0 y1 y2 hsm
        go_wp2_with fail
        go_roundw
        case rel => exact ⟨k + 1, _, by omega, by go_num, by rw [HSU.out]; simp; omega, HX6, HT6, HB9⟩
        case measure => simp [intOf]; omega
    · have d1 : ¬ (k : Int) < (m : Int) := by omega
      obtain rfl : k = m := by omega
      have HN := Lib.hid (show txsL FS = xs from txsL_end xs (by rw [HM.out]; exact HX.out.2))
      go_wp2_with fail
      refine bodyPost_ret (v := .tuple #[u7, .int .i64 ((sumF FS k : Nat) : Int), .bool true]) (by simp [results, Tryz.results21, go_sem]) rfl ?_
      rw [HN.out, HX.out.1, HM.out]
      exact ⟨_, by simp, HT.out.base HB1.out.size, step_below HB1.out HB.out⟩
end Go.Proofs.YtglkndoghnblcaaGreat
