/- From where to where a call goes, by the program: a contract. -/
import Derived.Test.YtkgcbhpgkcfkhaaCo4
import Derived.Deep.RegionHeld
namespace Go.Proofs.Ytkgcbhpgkcfkhaa
open Go.ChangeShapes Go.WideShapes Go.ChangeAt Go.RowKit Go.Shelf
set_option linter.unusedVariables false
set_option linter.unusedSimpArgs false

/-- Three boxes, one behind the other. -/
theorem boxes3' (w : World) (A B C : Array Value) (a b c : TypeId) : Below w.heap.size w (((w.alloc (.cells A a)).alloc (.cells B b)).alloc (.cells C c)) ∧ ∀ W, Below (((w.alloc (.cells A a)).alloc (.cells B b)).alloc (.cells C c)).heap.size (((w.alloc (.cells A a)).alloc (.cells B b)).alloc (.cells C c)) W → BoxC W w.heap.size A a ∧ BoxC W (w.heap.size + 1) B b ∧ BoxC W (w.heap.size + 1 + 1) C c := by
  refine ⟨(((Below.refl _ _).alloc (Nat.le_refl _) _).alloc (by simp) _).alloc (by simp; omega) _, fun W h => ?_⟩
  have e1 := BoxC.new w A a
  have e2 := BoxC.new (w.alloc (.cells A a)) B b
  have e3 := BoxC.new ((w.alloc (.cells A a)).alloc (.cells B b)) C c
  have b2 : Below (w.alloc (.cells A a)).heap.size (w.alloc (.cells A a)) ((w.alloc (.cells A a)).alloc (.cells B b)) := (Below.refl _ _).alloc (Nat.le_refl _) _
  have b3 : Below ((w.alloc (.cells A a)).alloc (.cells B b)).heap.size ((w.alloc (.cells A a)).alloc (.cells B b)) (((w.alloc (.cells A a)).alloc (.cells B b)).alloc (.cells C c)) := (Below.refl _ _).alloc (Nat.le_refl _) _
  refine ⟨((e1.below b2).below b3).below h, ?_, ?_⟩
  · have := (e2.below b3).below h
    simpa using this
  · have := e3.below h
    simpa using this
abbrev RgT := Int × List Int × List Int × Bool × Int
def rngV (j : Job) (o : CallV) : RgT := if pO j o && kf o.k 3 then (if kf o.k 4 then ((trV j o.t o.i).1, frontL o.K, frontL o.T, decide (0 < o.tn), 0) else ((trV j o.t (-1)).1, o.K, o.T, decide (0 < o.tn), 0)) else (0, [], [], false, 2)
def RgP (V : RgT) (r : Ending) (w' : World) : Prop := ∃ (fa : Option Addr) (fc : Nat) (ta : Option Addr) (tc : Nat), r = .returned (.tuple #[.agg #[.int .i64 V.1, .slice fa V.2.1.length fc, .slice ta V.2.2.1.length tc, .bool V.2.2.2.1], .int .i64 V.2.2.2.2]) ∧ Ls .u8 w' fa fc V.2.1 ∧ Ls .u8 w' ta tc V.2.2.1
/-- A list of bytes stays where a cell of another kind is written. -/
theorem ls_set {W : World} {a : Option Addr} {cap : Nat} {L : List Int} (h : Ls .u8 W a cap L) {p : Addr} {v : Value} (hp : W.cell? p = some v) (hv : ∀ x, v ≠ .int .u8 x) (u : Value) : Ls .u8 (W.setCell p u) a cap L := ⟨fun k hk => by
  obtain ⟨b, off, e, c⟩ := h.rd k hk
  refine ⟨b, off, e, ?_⟩
  rw [World.cell?_setCell_other W p ⟨b, off + k, none⟩ _ (by rintro rfl; rw [c] at hp; cases hp; exact hv _ rfl)]
  exact c, h.nl, h.le⟩
/-- Four cells are written: what becomes of the world. -/
structure Set4 (b0 : Nat) (w W : World) (B : Nat) (c0 c1 c2 c3 v0 v1 v2 v3 : Value) : Prop where
  box : BoxC ((((W.setCell ⟨B, 0, none⟩ v0).setCell ⟨B, 1, none⟩ v1).setCell ⟨B, 2, none⟩ v2).setCell ⟨B, 3, none⟩ v3) B #[v0, v1, v2, v3] 101
  bel : Below b0 w ((((W.setCell ⟨B, 0, none⟩ v0).setCell ⟨B, 1, none⟩ v1).setCell ⟨B, 2, none⟩ v2).setCell ⟨B, 3, none⟩ v3)
  ls : ∀ {a cap L}, Ls .u8 W a cap L → Ls .u8 ((((W.setCell ⟨B, 0, none⟩ v0).setCell ⟨B, 1, none⟩ v1).setCell ⟨B, 2, none⟩ v2).setCell ⟨B, 3, none⟩ v3) a cap L
theorem set4 {b0 : Nat} {w W : World} {B : Nat} {c0 c1 c2 c3 : Value} (hb : BoxC W B #[c0, c1, c2, c3] 101) (h : Below b0 w W) (hB : b0 ≤ B) (n0 : ∀ x, c0 ≠ .int .u8 x) (n1 : ∀ x, c1 ≠ .int .u8 x) (n2 : ∀ x, c2 ≠ .int .u8 x) (n3 : ∀ x, c3 ≠ .int .u8 x) (v0 v1 v2 v3 : Value) : Set4 b0 w W B c0 c1 c2 c3 v0 v1 v2 v3 := by
  have h1 := hb.setC 0 v0
  have h2 := h1.setC 1 v1
  have h3 := h2.setC 2 v2
  have h4 := h3.setC 3 v3
  simp only [List.setIfInBounds_toArray, List.set_cons_zero, List.set_cons_succ] at h1 h2 h3 h4
  refine ⟨h4, (((h.setCell hB _).setCell hB _).setCell hB _).setCell hB _, fun hl => ?_⟩
  have k1 := ls_set hl (p := ⟨B, 0, none⟩) (v := c0) (hb.cell 0) n0 v0
  have k2 := ls_set k1 (p := ⟨B, 1, none⟩) (v := c1) (h1.cell 1) n1 v1
  have k3 := ls_set k2 (p := ⟨B, 2, none⟩) (v := c2) (h2.cell 2) n2 v2
  exact ls_set k3 (p := ⟨B, 3, none⟩) (v := c3) (h3.cell 3) n3 v3
/-- Key and end, cloned. -/
def Cl2 (o : CallV) (w4 : World) (x y : Value) (wx : World) : Prop := ∃ (fa : Option Addr) (fc : Nat) (ta : Option Addr) (tc : Nat), x = .slice fa o.kn fc ∧ y = .slice ta o.tn tc ∧ Ls .u8 wx fa fc o.K ∧ Ls .u8 wx ta tc o.T ∧ Below w4.heap.size w4 wx
theorem pO_len {j : Job} {o : CallV} (h : pO j o = true) (h3 : kf o.k 3 = true) : (o.kn ≤ 32 ∧ o.tn ≤ 32) ∧ (kf o.k 4 = true → o.kn ≤ 24 ∧ o.tn ≤ 24) := by
  have he : endB o = true := by
    unfold pO at h
    simp only [Bool.and_eq_true] at h
    exact h.2
  unfold endB mostV at he
  rw [if_pos h3] at he
  cases h4 : kf o.k 4
  · rw [h4] at he
    simp at he
    exact ⟨by omega, fun h => by cases h⟩
  · rw [h4] at he
    simp at he
    exact ⟨by omega, fun _ => by omega⟩
set_option maxRecDepth 100000 in
set_option maxHeartbeats 4000000 in
theorem range_law (j : Job) (o : CallV) (hrn : o.rn ≤ 1000000) (w : World) (hj : JobAt w j) (ho : CallAt w o) :
    Calls Try.prog 57 #[.agg #[.int .i64 j.w, .int .i64 j.l, .int .i64 j.d, .int .i64 j.c, .int .i64 j.k, .int .i64 j.e, .slice j.a j.n j.cap], .agg #[.int .i64 o.k, .int .i64 o.t, .int .i64 o.i, .slice o.ka o.kn o.kc, .slice o.ta o.tn o.tc, .int .i64 o.m, .slice o.ra o.rn o.rc]] w fun r w' => RgP (rngV j o) r w' ∧ Below w.heap.size w w' := by
  obtain ⟨hb0, hbx⟩ := boxes3' w #[.int .i64 j.w, .int .i64 j.l, .int .i64 j.d, .int .i64 j.c, .int .i64 j.k, .int .i64 j.e, .slice j.a j.n j.cap] #[.int .i64 o.k, .int .i64 o.t, .int .i64 o.i, .slice o.ka o.kn o.kc, .slice o.ta o.tn o.tc, .int .i64 o.m, .slice o.ra o.rn o.rc] #[.int .i64 0, .slice none 0 0, .slice none 0 0, .bool false] 53 98 101
  have hlei : (j.n : Int) ≤ 1000000 := by have := hj.le; omega
  have HV := Lib.hid (show rngV j o = if pO j o && kf o.k 3 then (if kf o.k 4 then ((trV j o.t o.i).1, frontL o.K, frontL o.T, decide (0 < o.tn), 0) else ((trV j o.t (-1)).1, o.K, o.T, decide (0 < o.tn), 0)) else (0, [], [], false, 2) from rfl)
  obtain ⟨V, hV⟩ : ∃ V, rngV j o = V := ⟨_, rfl⟩
  rw [hV] at HV ⊢
  clear hV
  go_enter Try.func57, Try.ntmps57
  go_upto_region 1 with (fail)
  generalize (((w.alloc (.cells #[.int .i64 j.w, .int .i64 j.l, .int .i64 j.d, .int .i64 j.c, .int .i64 j.k, .int .i64 j.e, .slice j.a j.n j.cap] 53)).alloc (.cells #[.int .i64 o.k, .int .i64 o.t, .int .i64 o.i, .slice o.ka o.kn o.kc, .slice o.ta o.tn o.tc, .int .i64 o.m, .slice o.ra o.rn o.rc] 98)).alloc (.cells #[.int .i64 0, .slice none 0 0, .slice none 0 0, .bool false] 101)) = W0 at *
  have FG := Lib.hid (fun W (b : Below W0.heap.size W0 W) => (by
    obtain ⟨x, y, z⟩ := hbx W b
    exact ⟨x.cell 0, x.cell 1, x.cell 2, x.cell 3, x.cell 4, x.cell 5, x.cell 6, y.cell 0, y.cell 1, y.cell 2, y.cell 3, y.cell 4, y.cell 5, y.cell 6⟩ : W.cell? ⟨w.heap.size, 0, none⟩ = some (.int .i64 j.w) ∧ W.cell? ⟨w.heap.size, 1, none⟩ = some (.int .i64 j.l) ∧ W.cell? ⟨w.heap.size, 2, none⟩ = some (.int .i64 j.d) ∧ W.cell? ⟨w.heap.size, 3, none⟩ = some (.int .i64 j.c) ∧ W.cell? ⟨w.heap.size, 4, none⟩ = some (.int .i64 j.k) ∧ W.cell? ⟨w.heap.size, 5, none⟩ = some (.int .i64 j.e) ∧ W.cell? ⟨w.heap.size, 6, none⟩ = some (.slice j.a j.n j.cap) ∧ W.cell? ⟨w.heap.size + 1, 0, none⟩ = some (.int .i64 o.k) ∧ W.cell? ⟨w.heap.size + 1, 1, none⟩ = some (.int .i64 o.t) ∧ W.cell? ⟨w.heap.size + 1, 2, none⟩ = some (.int .i64 o.i) ∧ W.cell? ⟨w.heap.size + 1, 3, none⟩ = some (.slice o.ka o.kn o.kc) ∧ W.cell? ⟨w.heap.size + 1, 4, none⟩ = some (.slice o.ta o.tn o.tc) ∧ W.cell? ⟨w.heap.size + 1, 5, none⟩ = some (.int .i64 o.m) ∧ W.cell? ⟨w.heap.size + 1, 6, none⟩ = some (.slice o.ra o.rn o.rc)))
  have FB := Lib.hid (fun W (b : Below W0.heap.size W0 W) => (hbx W b).2.2)
  have FJ := Lib.hid (fun W (b : Below W0.heap.size W0 W) => (hj.below hb0).below b)
  have FO := Lib.hid (fun W (b : Below W0.heap.size W0 W) => (ho.below hb0).below b)
  have HB0 := Lib.hid hb0
  clear hb0 hbx hj ho
  obtain ⟨pb, hpb⟩ : ∃ b, pO j o = b := ⟨_, rfl⟩
  obtain ⟨f3, hf3⟩ : ∃ b, kf o.k 3 = b := ⟨_, rfl⟩
  obtain ⟨f4, hf4⟩ : ∃ b, kf o.k 4 = b := ⟨_, rfl⟩
  have HPB := Lib.hid hpb
  have HMO := Lib.hid (by have h := mayop_law j o hrn W0 (FJ.out _ (Below.refl _ _)) (FO.out _ (Below.refl _ _)); rwa [hpb] at h : Calls Try.prog 56 #[.agg #[.int .i64 j.w, .int .i64 j.l, .int .i64 j.d, .int .i64 j.c, .int .i64 j.k, .int .i64 j.e, .slice j.a j.n j.cap], .agg #[.int .i64 o.k, .int .i64 o.t, .int .i64 o.i, .slice o.ka o.kn o.kc, .slice o.ta o.tn o.tc, .int .i64 o.m, .slice o.ra o.rn o.rc]] W0 fun r w' => r = .returned (.bool pb) ∧ Below W0.heap.size W0 w')
  have HKD := Lib.hid (fun W => (by have h := kind_law o.k o.t o.i o.m o.ka o.ta o.ra o.kn o.kc o.tn o.tc o.rn o.rc W; rwa [hf3, hf4] at h : Calls Try.prog 89 #[.agg #[.int .i64 o.k, .int .i64 o.t, .int .i64 o.i, .slice o.ka o.kn o.kc, .slice o.ta o.tn o.tc, .int .i64 o.m, .slice o.ra o.rn o.rc]] W fun r w' => r = .returned (kN (kf o.k 0) (kf o.k 1) (kf o.k 2) f3 f4 (kf o.k 5)) ∧ Below W.heap.size W w'))
  have HLEN := Lib.hid (fun (h : pO j o = true) (h3 : kf o.k 3 = true) => (pO_len h h3 : (o.kn ≤ 32 ∧ o.tn ≤ 32) ∧ (kf o.k 4 = true → o.kn ≤ 24 ∧ o.tn ≤ 24)))
  rw [hpb, hf3, hf4] at HLEN
  rw [hpb, hf3, hf4] at HV
  clear hpb hf3 hf4
  obtain ⟨g0, g1, g2, g3, g4, g5, g6, o0, o1, o2, o3, o4, o5, o6⟩ := FG.out _ (Below.refl _ _)
  go_wp2_with fail
  refine HMO.out.mono ?_; rintro r w3 ⟨rfl, B3⟩
  have HB3 := Lib.hid B3
  clear B3 g0 g1 g2 g3 g4 g5 g6 o0 o1 o2 o3 o4 o5 o6
  obtain ⟨g0, g1, g2, g3, g4, g5, g6, o0, o1, o2, o3, o4, o5, o6⟩ := FG.out _ HB3.out
  cases pb
  · simp only [Bool.false_and, Bool.false_eq_true, if_false, ↓reduceIte] at HV
    have hB := FB.out _ HB3.out
    have q0 := hB.cell 0
    have q1 := hB.cell 1
    have q2 := hB.cell 2
    have q3 := hB.cell 3
    simp only [List.getElem?_toArray, List.getElem?_cons_zero, List.getElem?_cons_succ] at q0 q1 q2 q3
    have z0 : w3.frozen? ⟨w.heap.size + 1 + 1, 0, none⟩ = false := frozen_of_row w3 _ 0 _ 101 hB
    have z1 : w3.frozen? ⟨w.heap.size + 1 + 1, 1, none⟩ = false := frozen_of_row w3 _ 1 _ 101 hB
    have z2 : w3.frozen? ⟨w.heap.size + 1 + 1, 2, none⟩ = false := frozen_of_row w3 _ 2 _ 101 hB
    have z3 : w3.frozen? ⟨w.heap.size + 1 + 1, 3, none⟩ = false := frozen_of_row w3 _ 3 _ 101 hB
    have HS4 := Lib.hid (set4 hB (step_below HB0.out HB3.out) (by omega) (by simp) (by simp) (by simp) (by simp) (.int .i64 0) (.slice none 0 0) (.slice none 0 0) (.bool false))
    clear hB
    go_wp2_with fail
    refine bodyPost_ret (v := .tuple #[.agg #[.int .i64 0, .slice none 0 0, .slice none 0 0, .bool false], .int .i64 2]) ?_ rfl ⟨⟨none, 0, none, 0, by rw [HV.out]; rfl, by rw [HV.out]; exact Ls.nul _ _, by rw [HV.out]; exact Ls.nul _ _⟩, HS4.out.bel⟩
    have x0 := HS4.out.box.cell 0
    have x1 := HS4.out.box.cell 1
    have x2 := HS4.out.box.cell 2
    have x3 := HS4.out.box.cell 3
    simp only [List.getElem?_toArray, List.getElem?_cons_zero, List.getElem?_cons_succ] at x0 x1 x2 x3
    simp [results, Try.results57, go_sem, x0, x1, x2, x3]
  go_wp2_with fail
  refine (HKD.out _).mono ?_; rintro r w4 ⟨rfl, B4⟩
  unfold kN
  have HB4 := Lib.hid (step_below HB3.out B4)
  clear B4 g0 g1 g2 g3 g4 g5 g6 o0 o1 o2 o3 o4 o5 o6
  go_wp2_with fail
  refine put_eq (v := .bool f3) rfl ?_
  cases f3
  · simp only [Bool.true_and, Bool.false_eq_true, if_false, ↓reduceIte] at HV
    have hB := FB.out _ HB4.out
    have q0 := hB.cell 0
    have q1 := hB.cell 1
    have q2 := hB.cell 2
    have q3 := hB.cell 3
    simp only [List.getElem?_toArray, List.getElem?_cons_zero, List.getElem?_cons_succ] at q0 q1 q2 q3
    have z0 : w4.frozen? ⟨w.heap.size + 1 + 1, 0, none⟩ = false := frozen_of_row w4 _ 0 _ 101 hB
    have z1 : w4.frozen? ⟨w.heap.size + 1 + 1, 1, none⟩ = false := frozen_of_row w4 _ 1 _ 101 hB
    have z2 : w4.frozen? ⟨w.heap.size + 1 + 1, 2, none⟩ = false := frozen_of_row w4 _ 2 _ 101 hB
    have z3 : w4.frozen? ⟨w.heap.size + 1 + 1, 3, none⟩ = false := frozen_of_row w4 _ 3 _ 101 hB
    have HS4 := Lib.hid (set4 hB (step_below HB0.out HB4.out) (by omega) (by simp) (by simp) (by simp) (by simp) (.int .i64 0) (.slice none 0 0) (.slice none 0 0) (.bool false))
    clear hB
    go_wp2_with fail
    refine bodyPost_ret (v := .tuple #[.agg #[.int .i64 0, .slice none 0 0, .slice none 0 0, .bool false], .int .i64 2]) ?_ rfl ⟨⟨none, 0, none, 0, by rw [HV.out]; rfl, by rw [HV.out]; exact Ls.nul _ _, by rw [HV.out]; exact Ls.nul _ _⟩, HS4.out.bel⟩
    have x0 := HS4.out.box.cell 0
    have x1 := HS4.out.box.cell 1
    have x2 := HS4.out.box.cell 2
    have x3 := HS4.out.box.cell 3
    simp only [List.getElem?_toArray, List.getElem?_cons_zero, List.getElem?_cons_succ] at x0 x1 x2 x3
    simp [results, Try.results57, go_sem, x0, x1, x2, x3]
  simp only [Bool.true_and, if_true, ↓reduceIte] at HV
  obtain ⟨⟨hk32, ht32⟩, h24⟩ := HLEN.out (by first | exact rfl | trivial) (by first | exact rfl | trivial)
  have H24 := Lib.hid h24
  have HK32 := Lib.hid hk32
  have HT32 := Lib.hid ht32
  clear h24 hk32 ht32
  go_wp2_with fail
  go_cut [7, 8] (fun x y wx => Cl2 o w4 x y wx)
  case first =>
    refine wp_region_held_drew (S := (fun W => Below w4.heap.size w4 W)) (by kernel_rfl) ((Below.refl _ _).drew) (fun hHeld => ?_)
    refine wpAnyH_take (i := 0) (oi := { dst := some 22, op := Op.fieldAddr 98 (Operand.tmp 3) 3, type := 0, pos := "catalog.go:194", after := #[], guard := none }) (v := ?_) rfl (by kernel_rfl) (by kernel_rfl) (by kernel_rfl) (fun _ _ _ h => h) (Or.inl ⟨by rfl, ?_⟩) (by assumption) ?_
    rotate_left
    · intro W hSw; go_simp; try with_reducible rfl
    try simp only [Act.put, List.setIfInBounds_toArray, List.set_cons_zero, List.set_cons_succ]
    refine wpAnyH_take (i := 1) (oi := { dst := some 23, op := Op.load 24 (Operand.tmp 22), type := 24, pos := "catalog.go:194", after := #[{ on := 0, ground := Ground.data }], guard := none }) (v := ?_) rfl (by kernel_rfl) (by kernel_rfl) (by kernel_rfl) (fun _ _ _ h => h) (Or.inl ⟨by rfl, ?_⟩) (by assumption) ?_
    rotate_left
    · intro W hSw; obtain ⟨g0, g1, g2, g3, g4, g5, g6, o0, o1, o2, o3, o4, o5, o6⟩ := FG.out W (step_below HB4.out hSw); go_simp; try with_reducible rfl
    try simp only [Act.put, List.setIfInBounds_toArray, List.set_cons_zero, List.set_cons_succ]
    refine wpAnyH_take (i := 3) (oi := { dst := some 25, op := Op.fieldAddr 98 (Operand.tmp 3) 4, type := 0, pos := "catalog.go:194", after := #[], guard := none }) (v := ?_) rfl (by kernel_rfl) (by kernel_rfl) (by kernel_rfl) (fun _ _ _ h => h) (Or.inl ⟨by rfl, ?_⟩) (by assumption) ?_
    rotate_left
    · intro W hSw; go_simp; try with_reducible rfl
    try simp only [Act.put, List.setIfInBounds_toArray, List.set_cons_zero, List.set_cons_succ]
    refine wpAnyH_take (i := 4) (oi := { dst := some 26, op := Op.load 24 (Operand.tmp 25), type := 24, pos := "catalog.go:194", after := #[{ on := 3, ground := Ground.data }], guard := none }) (v := ?_) rfl (by kernel_rfl) (by kernel_rfl) (by kernel_rfl) (fun _ _ _ h => h) (Or.inl ⟨by rfl, ?_⟩) (by assumption) ?_
    rotate_left
    · intro W hSw; obtain ⟨g0, g1, g2, g3, g4, g5, g6, o0, o1, o2, o3, o4, o5, o6⟩ := FG.out W (step_below HB4.out hSw); go_simp; try with_reducible rfl
    try simp only [Act.put, List.setIfInBounds_toArray, List.set_cons_zero, List.set_cons_succ]
    refine wpAnyH_ready (rs := [2]) (by kernel_rfl) (by simp) ?_
    refine AllReadyH.cons (o := { dst := some 24, op := Op.call { callee := Callee.value (Operand.func 65), args := #[Operand.tmp 23], argTypes := #[24] }, type := 24, pos := "catalog.go:194", after := #[{ on := 1, ground := Ground.data }], guard := none }) rfl (fun K hK => ?_) AllReadyH.nil
    go_simp
    refine (clone_law o.ka o.K o.kn o.kc (FO.out _ HB4.out).kl (by have := HK32.out; omega) _ (FO.out _ (step_below HB4.out hHeld)).ks).mono ?_; rintro r W5 ⟨a5, c5, rfl, l5, B5⟩
    go_wp2_with fail
    refine hK.out _ _ (step_below hHeld B5) (fun hHeldn => ?_)
    clear hK K hHeld; have hHeld := hHeldn; clear hHeldn
    have L5 := Lib.hid l5
    clear l5 B5
    try simp only [Act.put, List.setIfInBounds_toArray, List.set_cons_zero, List.set_cons_succ]
    refine wpAnyH_ready (rs := [5]) (by kernel_rfl) (by simp) ?_
    refine AllReadyH.cons (o := { dst := some 27, op := Op.call { callee := Callee.value (Operand.func 65), args := #[Operand.tmp 26], argTypes := #[24] }, type := 24, pos := "catalog.go:194", after := #[{ on := 4, ground := Ground.data }, { on := 2, ground := Ground.chain }], guard := none }) rfl (fun K hK => ?_) AllReadyH.nil
    go_simp
    refine (clone_law o.ta o.T o.tn o.tc (FO.out _ HB4.out).tl (by have := HT32.out; omega) _ (FO.out _ (step_below HB4.out hHeld)).ts).mono ?_; rintro r W6 ⟨a6, c6, rfl, l6, B6⟩
    go_wp2_with fail
    refine hK.out _ _ (step_below hHeld B6) (fun hHeldn => ?_)
    clear hK K hHeld; have hHeld := hHeldn; clear hHeldn
    have L6 := Lib.hid l6
    have B56 := Lib.hid B6
    clear l6 B6
    try simp only [Act.put, List.setIfInBounds_toArray, List.set_cons_zero, List.set_cons_succ]
    refine wpAnyH_take (i := 6) (oi := { dst := some 7, op := Op.assign (Operand.tmp 24), type := 24, pos := "catalog.go:194", after := #[{ on := 2, ground := Ground.data }, { on := 5, ground := Ground.chain }, { on := 0, ground := Ground.phase }, { on := 1, ground := Ground.phase }, { on := 2, ground := Ground.phase }, { on := 3, ground := Ground.textOnly Departure.lateStores }, { on := 4, ground := Ground.textOnly Departure.lateStores }, { on := 5, ground := Ground.textOnly Departure.lateStoresUnsure }], guard := none }) (v := ?_) rfl (by kernel_rfl) (by kernel_rfl) (by kernel_rfl) (fun _ _ _ h => h) (Or.inl ⟨by rfl, ?_⟩) (by assumption) ?_
    rotate_left
    · intro W hSw; go_simp; try with_reducible rfl
    try simp only [Act.put, List.setIfInBounds_toArray, List.set_cons_zero, List.set_cons_succ]
    refine wpAnyH_take (i := 7) (oi := { dst := some 8, op := Op.assign (Operand.tmp 27), type := 24, pos := "catalog.go:194", after := #[{ on := 5, ground := Ground.data }, { on := 6, ground := Ground.chain }, { on := 0, ground := Ground.phase }, { on := 1, ground := Ground.phase }, { on := 2, ground := Ground.phase }, { on := 3, ground := Ground.phase }, { on := 4, ground := Ground.phase }, { on := 5, ground := Ground.phase }, { on := 6, ground := Ground.phase }], guard := none }) (v := ?_) rfl (by kernel_rfl) (by kernel_rfl) (by kernel_rfl) (fun _ _ _ h => h) (Or.inl ⟨by rfl, ?_⟩) (by assumption) ?_
    rotate_left
    · intro W hSw; go_simp; try with_reducible rfl
    try simp only [Act.put, List.setIfInBounds_toArray, List.set_cons_zero, List.set_cons_succ]
    refine wpAnyH_done (by kernel_rfl) ?_ _
    go_wp2_with fail
    go_meet
    exact ⟨a5, c5, a6, c6, rfl, rfl, L5.out.below B56.out, L6.out, hHeld⟩
  case rest =>
    obtain ⟨fa, fc, ta, tc, rfl, rfl, lK, lT, BC⟩ := hcut
    have HBC := Lib.hid (step_below HB4.out BC)
    have LK := Lib.hid (fun W (b : Below wc.heap.size wc W) => lK.below b)
    have LT := Lib.hid (fun W (b : Below wc.heap.size wc W) => lT.below b)
    clear lK lT BC
    obtain ⟨g0, g1, g2, g3, g4, g5, g6, o0, o1, o2, o3, o4, o5, o6⟩ := FG.out _ HBC.out
    go_wp2_with fail
    refine (HKD.out _).mono ?_; rintro r w5 ⟨rfl, B5⟩
    unfold kN
    have HC5 := Lib.hid B5
    have HB5 := Lib.hid (step_below HBC.out B5)
    clear B5 g0 g1 g2 g3 g4 g5 g6 o0 o1 o2 o3 o4 o5 o6
    obtain ⟨g0, g1, g2, g3, g4, g5, g6, o0, o1, o2, o3, o4, o5, o6⟩ := FG.out _ HB5.out
    go_wp2_with fail
    refine put_eq (v := .bool f4) rfl ?_
    cases f4
    · simp only [Bool.false_eq_true, if_false, ↓reduceIte] at HV
      go_wp2_with fail
      refine (tree_law j o.t (-1) _ (FJ.out _ HB5.out)).mono ?_; rintro r w6 ⟨rfl, B6⟩
      have HC6 := Lib.hid (step_below HC5.out B6)
      have HB6 := Lib.hid (step_below HB5.out B6)
      clear B6 g0 g1 g2 g3 g4 g5 g6 o0 o1 o2 o3 o4 o5 o6
      obtain ⟨g0, g1, g2, g3, g4, g5, g6, o0, o1, o2, o3, o4, o5, o6⟩ := FG.out _ HB6.out
      obtain ⟨tr, htr⟩ : ∃ x, (trV j o.t (-1)).1 = x := ⟨_, rfl⟩
      obtain ⟨er, her⟩ : ∃ x, (if (trV j o.t (-1)).2.2.2 = true then (0 : Int) else 2) = x := ⟨_, rfl⟩
      rw [htr] at HV ⊢
      rw [her]
      clear htr her
      have hB := FB.out _ HB6.out
      have q0 := hB.cell 0
      have q1 := hB.cell 1
      have q2 := hB.cell 2
      have q3 := hB.cell 3
      simp only [List.getElem?_toArray, List.getElem?_cons_zero, List.getElem?_cons_succ] at q0 q1 q2 q3
      have z0 : w6.frozen? ⟨w.heap.size + 1 + 1, 0, none⟩ = false := frozen_of_row w6 _ 0 _ 101 hB
      have z1 : w6.frozen? ⟨w.heap.size + 1 + 1, 1, none⟩ = false := frozen_of_row w6 _ 1 _ 101 hB
      have z2 : w6.frozen? ⟨w.heap.size + 1 + 1, 2, none⟩ = false := frozen_of_row w6 _ 2 _ 101 hB
      have z3 : w6.frozen? ⟨w.heap.size + 1 + 1, 3, none⟩ = false := frozen_of_row w6 _ 3 _ 101 hB
      have HS4 := Lib.hid (set4 hB (step_below HB0.out HB6.out) (by omega) (by simp) (by simp) (by simp) (by simp) (.int .i64 tr) (.slice fa o.kn fc) (.slice ta o.tn tc) (.bool (decide (0 < o.tn))))
      clear hB
      go_wp2_with fail
      refine bodyPost_ret (v := .tuple #[.agg #[.int .i64 tr, .slice fa o.kn fc, .slice ta o.tn tc, .bool (decide (0 < o.tn))], .int .i64 0]) ?_ rfl ⟨⟨fa, fc, ta, tc, by rw [HV.out]; simp only [(FO.out _ HB6.out).kl, (FO.out _ HB6.out).tl], by rw [HV.out]; exact HS4.out.ls (LK.out _ HC6.out), by rw [HV.out]; exact HS4.out.ls (LT.out _ HC6.out)⟩, HS4.out.bel⟩
      have x0 := HS4.out.box.cell 0
      have x1 := HS4.out.box.cell 1
      have x2 := HS4.out.box.cell 2
      have x3 := HS4.out.box.cell 3
      simp only [List.getElem?_toArray, List.getElem?_cons_zero, List.getElem?_cons_succ] at x0 x1 x2 x3
      simp [results, Try.results57, go_sem, x0, x1, x2, x3]
    · simp only [if_true, ↓reduceIte] at HV
      obtain ⟨hk24, ht24⟩ := H24.out (by first | exact rfl | trivial)
      go_wp2_with fail
      refine (front_ok o.ka o.K o.kn o.kc (FO.out _ HB5.out).kl hk24 _ (FO.out _ HB5.out).ks).mono ?_; rintro r w6 ⟨pa, pc, rfl, lp, B6⟩
      have HC6 := Lib.hid (step_below HC5.out B6)
      have HB6 := Lib.hid (step_below HB5.out B6)
      have LP := Lib.hid (fun W (b : Below w6.heap.size w6 W) => lp.below b)
      clear B6 lp g0 g1 g2 g3 g4 g5 g6 o0 o1 o2 o3 o4 o5 o6
      obtain ⟨g0, g1, g2, g3, g4, g5, g6, o0, o1, o2, o3, o4, o5, o6⟩ := FG.out _ HB6.out
      go_wp2_with fail
      refine (front_ok o.ta o.T o.tn o.tc (FO.out _ HB6.out).tl ht24 _ (FO.out _ HB6.out).ts).mono ?_; rintro r w7 ⟨qa, qc, rfl, lq, B7⟩
      have HP7 := Lib.hid B7
      have HB7 := Lib.hid (step_below HB6.out B7)
      have LQ := Lib.hid (fun W (b : Below w7.heap.size w7 W) => lq.below b)
      clear B7 lq g0 g1 g2 g3 g4 g5 g6 o0 o1 o2 o3 o4 o5 o6
      obtain ⟨g0, g1, g2, g3, g4, g5, g6, o0, o1, o2, o3, o4, o5, o6⟩ := FG.out _ HB7.out
      go_wp2_with fail
      refine (tree_law j o.t o.i _ (FJ.out _ HB7.out)).mono ?_; rintro r w8 ⟨rfl, B8⟩
      have HQ8 := Lib.hid B8
      have HP8 := Lib.hid (step_below HP7.out B8)
      have HB8 := Lib.hid (step_below HB7.out B8)
      clear B8 g0 g1 g2 g3 g4 g5 g6 o0 o1 o2 o3 o4 o5 o6
      obtain ⟨g0, g1, g2, g3, g4, g5, g6, o0, o1, o2, o3, o4, o5, o6⟩ := FG.out _ HB8.out
      obtain ⟨tr, htr⟩ : ∃ x, (trV j o.t o.i).1 = x := ⟨_, rfl⟩
      obtain ⟨er, her⟩ : ∃ x, (if (trV j o.t o.i).2.2.2 = true then (0 : Int) else 2) = x := ⟨_, rfl⟩
      rw [htr] at HV ⊢
      rw [her]
      clear htr her
      have hB := FB.out _ HB8.out
      have q0 := hB.cell 0
      have q1 := hB.cell 1
      have q2 := hB.cell 2
      have q3 := hB.cell 3
      simp only [List.getElem?_toArray, List.getElem?_cons_zero, List.getElem?_cons_succ] at q0 q1 q2 q3
      have z0 : w8.frozen? ⟨w.heap.size + 1 + 1, 0, none⟩ = false := frozen_of_row w8 _ 0 _ 101 hB
      have z1 : w8.frozen? ⟨w.heap.size + 1 + 1, 1, none⟩ = false := frozen_of_row w8 _ 1 _ 101 hB
      have z2 : w8.frozen? ⟨w.heap.size + 1 + 1, 2, none⟩ = false := frozen_of_row w8 _ 2 _ 101 hB
      have z3 : w8.frozen? ⟨w.heap.size + 1 + 1, 3, none⟩ = false := frozen_of_row w8 _ 3 _ 101 hB
      have HS4 := Lib.hid (set4 hB (step_below HB0.out HB8.out) (by omega) (by simp) (by simp) (by simp) (by simp) (.int .i64 tr) (.slice pa (frontL o.K).length pc) (.slice qa (frontL o.T).length qc) (.bool (decide (0 < o.tn))))
      clear hB
      go_wp2_with fail
      refine bodyPost_ret (v := .tuple #[.agg #[.int .i64 tr, .slice pa (frontL o.K).length pc, .slice qa (frontL o.T).length qc, .bool (decide (0 < o.tn))], .int .i64 0]) ?_ rfl ⟨⟨pa, pc, qa, qc, by rw [HV.out], by rw [HV.out]; exact HS4.out.ls (LP.out _ HP8.out), by rw [HV.out]; exact HS4.out.ls (LQ.out _ HQ8.out)⟩, HS4.out.bel⟩
      have x0 := HS4.out.box.cell 0
      have x1 := HS4.out.box.cell 1
      have x2 := HS4.out.box.cell 2
      have x3 := HS4.out.box.cell 3
      simp only [List.getElem?_toArray, List.getElem?_cons_zero, List.getElem?_cons_succ] at x0 x1 x2 x3
      simp [results, Try.results57, go_sem, x0, x1, x2, x3]
end Go.Proofs.Ytkgcbhpgkcfkhaa
