/- The document's own reading of a text, by contracts. -/
import Derived.Test.YtfdboihfgpibcaaDoorTxd
import Derived.Deep.CutBlock
import Derived.Deep.DeepCutAuto
import Derived.BigGuard
namespace Go.Proofs.YtfdboihfgpibcaaDoor
open Go.ChangeShapes Go.WideShapes Go.ChangeAt Go.RowKit
open TM
set_option linter.unusedVariables false
set_option linter.unusedSimpArgs false

/-- Five cells that may be written. -/
structure C5 (W : World) (B : Nat) (v0 v1 v2 v3 v4 : Value) : Prop where
  c0 : W.cell? ⟨B, 0, none⟩ = some v0
  c1 : W.cell? ⟨B, 1, none⟩ = some v1
  c2 : W.cell? ⟨B, 2, none⟩ = some v2
  c3 : W.cell? ⟨B, 3, none⟩ = some v3
  c4 : W.cell? ⟨B, 4, none⟩ = some v4
  f : ∀ j, W.frozen? ⟨B, j, none⟩ = false
theorem C5.lt {W : World} {B : Nat} {v0 v1 v2 v3 v4 : Value} (h : C5 W B v0 v1 v2 v3 v4) : B < W.heap.size := World.block_lt_of_cell? W _ h.c0
theorem C5.below {W W' : World} {B : Nat} {v0 v1 v2 v3 v4 : Value} (h : C5 W B v0 v1 v2 v3 v4) (b : Below W.heap.size W W') : C5 W' B v0 v1 v2 v3 v4 :=
  ⟨(b.cell (p := ⟨B, 0, none⟩) h.lt).trans h.c0, (b.cell (p := ⟨B, 1, none⟩) h.lt).trans h.c1, (b.cell (p := ⟨B, 2, none⟩) h.lt).trans h.c2, (b.cell (p := ⟨B, 3, none⟩) h.lt).trans h.c3, (b.cell (p := ⟨B, 4, none⟩) h.lt).trans h.c4, fun j => (b.frozen (p := ⟨B, j, none⟩) h.lt).trans (h.f j)⟩
theorem C5.other {W : World} {B B' j : Nat} {v v0 v1 v2 v3 v4 : Value} (h : C5 W B v0 v1 v2 v3 v4) (hb : B' ≠ B) : C5 (W.setCell ⟨B', j, none⟩ v) B v0 v1 v2 v3 v4 := by
  have ne : ∀ k, (⟨B', j, none⟩ : Addr) ≠ ⟨B, k, none⟩ := fun k e => hb (by injection e)
  exact ⟨(World.cell?_setCell_other W _ _ _ (ne 0)).trans h.c0, (World.cell?_setCell_other W _ _ _ (ne 1)).trans h.c1, (World.cell?_setCell_other W _ _ _ (ne 2)).trans h.c2, (World.cell?_setCell_other W _ _ _ (ne 3)).trans h.c3, (World.cell?_setCell_other W _ _ _ (ne 4)).trans h.c4, fun k => by rw [World.frozen?_setCell]; exact h.f k⟩
theorem C5.set0 {W : World} {B : Nat} {v v0 v1 v2 v3 v4 : Value} (h : C5 W B v0 v1 v2 v3 v4) : C5 (W.setCell ⟨B, 0, none⟩ v) B v v1 v2 v3 v4 :=
  ⟨World.cell?_setCell_same W _ _ h.c0, (World.cell?_setCell_other W _ _ _ (by simp)).trans h.c1, (World.cell?_setCell_other W _ _ _ (by simp)).trans h.c2, (World.cell?_setCell_other W _ _ _ (by simp)).trans h.c3, (World.cell?_setCell_other W _ _ _ (by simp)).trans h.c4, fun k => by rw [World.frozen?_setCell]; exact h.f k⟩
theorem C5.set1 {W : World} {B : Nat} {v v0 v1 v2 v3 v4 : Value} (h : C5 W B v0 v1 v2 v3 v4) : C5 (W.setCell ⟨B, 1, none⟩ v) B v0 v v2 v3 v4 :=
  ⟨(World.cell?_setCell_other W _ _ _ (by simp)).trans h.c0, World.cell?_setCell_same W _ _ h.c1, (World.cell?_setCell_other W _ _ _ (by simp)).trans h.c2, (World.cell?_setCell_other W _ _ _ (by simp)).trans h.c3, (World.cell?_setCell_other W _ _ _ (by simp)).trans h.c4, fun k => by rw [World.frozen?_setCell]; exact h.f k⟩
theorem C5.set2 {W : World} {B : Nat} {v v0 v1 v2 v3 v4 : Value} (h : C5 W B v0 v1 v2 v3 v4) : C5 (W.setCell ⟨B, 2, none⟩ v) B v0 v1 v v3 v4 :=
  ⟨(World.cell?_setCell_other W _ _ _ (by simp)).trans h.c0, (World.cell?_setCell_other W _ _ _ (by simp)).trans h.c1, World.cell?_setCell_same W _ _ h.c2, (World.cell?_setCell_other W _ _ _ (by simp)).trans h.c3, (World.cell?_setCell_other W _ _ _ (by simp)).trans h.c4, fun k => by rw [World.frozen?_setCell]; exact h.f k⟩
theorem C5.set3 {W : World} {B : Nat} {v v0 v1 v2 v3 v4 : Value} (h : C5 W B v0 v1 v2 v3 v4) : C5 (W.setCell ⟨B, 3, none⟩ v) B v0 v1 v2 v v4 :=
  ⟨(World.cell?_setCell_other W _ _ _ (by simp)).trans h.c0, (World.cell?_setCell_other W _ _ _ (by simp)).trans h.c1, (World.cell?_setCell_other W _ _ _ (by simp)).trans h.c2, World.cell?_setCell_same W _ _ h.c3, (World.cell?_setCell_other W _ _ _ (by simp)).trans h.c4, fun k => by rw [World.frozen?_setCell]; exact h.f k⟩
theorem C5.set4 {W : World} {B : Nat} {v v0 v1 v2 v3 v4 : Value} (h : C5 W B v0 v1 v2 v3 v4) : C5 (W.setCell ⟨B, 4, none⟩ v) B v0 v1 v2 v3 v :=
  ⟨(World.cell?_setCell_other W _ _ _ (by simp)).trans h.c0, (World.cell?_setCell_other W _ _ _ (by simp)).trans h.c1, (World.cell?_setCell_other W _ _ _ (by simp)).trans h.c2, (World.cell?_setCell_other W _ _ _ (by simp)).trans h.c3, World.cell?_setCell_same W _ _ h.c4, fun k => by rw [World.frozen?_setCell]; exact h.f k⟩
theorem C5.new (w : World) (v0 v1 v2 v3 v4 : Value) : C5 (w.alloc (.cells #[v0, v1, v2, v3, v4] 28 (0, 0))) w.heap.size v0 v1 v2 v3 v4 :=
  ⟨cell_at w _ _ _ 0, cell_at w _ _ _ 1, cell_at w _ _ _ 2, cell_at w _ _ _ 3, cell_at w _ _ _ 4, fun j => by simp [go_sem]⟩
/-- The reader's two blocks: what it answers, what it has. -/
structure PW (w W : World) (B C : Nat) (e n : Int) (l d a : Bool) : Prop where
  below : Below w.heap.size w W
  le : w.heap.size ≤ B ∧ w.heap.size ≤ C ∧ B ≠ C
  r : C5 W B (.int .i64 0) (.int .i64 0) (.bool false) (.bool false) (.bool false)
  x : C5 W C (.int .i64 e) (.int .i64 n) (.bool l) (.bool d) (.bool a)
theorem PW.set0 {w W : World} {B C : Nat} {e n : Int} {l d a : Bool} (h : PW w W B C e n l d a) (e' : Int) : PW w (W.setCell ⟨C, 0, none⟩ (.int .i64 e')) B C e' n l d a :=
  ⟨h.below.setCell (p := ⟨C, 0, none⟩) h.le.2.1 _, h.le, h.r.other (Ne.symm h.le.2.2), h.x.set0⟩
theorem PW.set1 {w W : World} {B C : Nat} {e n : Int} {l d a : Bool} (h : PW w W B C e n l d a) (n' : Int) : PW w (W.setCell ⟨C, 1, none⟩ (.int .i64 n')) B C e n' l d a :=
  ⟨h.below.setCell (p := ⟨C, 1, none⟩) h.le.2.1 _, h.le, h.r.other (Ne.symm h.le.2.2), h.x.set1⟩
theorem PW.set2 {w W : World} {B C : Nat} {e n : Int} {l d a : Bool} (h : PW w W B C e n l d a) (l' : Bool) : PW w (W.setCell ⟨C, 2, none⟩ (.bool l')) B C e n l' d a :=
  ⟨h.below.setCell (p := ⟨C, 2, none⟩) h.le.2.1 _, h.le, h.r.other (Ne.symm h.le.2.2), h.x.set2⟩
theorem PW.set3 {w W : World} {B C : Nat} {e n : Int} {l d a : Bool} (h : PW w W B C e n l d a) (d' : Bool) : PW w (W.setCell ⟨C, 3, none⟩ (.bool d')) B C e n l d' a :=
  ⟨h.below.setCell (p := ⟨C, 3, none⟩) h.le.2.1 _, h.le, h.r.other (Ne.symm h.le.2.2), h.x.set3⟩
theorem PW.set4 {w W : World} {B C : Nat} {e n : Int} {l d a : Bool} (h : PW w W B C e n l d a) (a' : Bool) : PW w (W.setCell ⟨C, 4, none⟩ (.bool a')) B C e n l d a' :=
  ⟨h.below.setCell (p := ⟨C, 4, none⟩) h.le.2.1 _, h.le, h.r.other (Ne.symm h.le.2.2), h.x.set4⟩
theorem stB_at (s : ByteArray) (L : List UInt8) (hL : L = s.data.toList) (m : Nat) (h : m < s.size) (c : UInt8) (k : Int) (hk : (c.toNat : Int) = k) : TX.stB L c (m + 1) = ((s[m].toNat : Int) == k) := by
  unfold TX.stB
  have hg := getB s m h
  rw [← hL] at hg
  rw [Bool.eq_iff_iff]
  simp only [decide_eq_true_eq, beq_iff_eq, Nat.add_sub_cancel, hg, Option.some.injEq]
  rw [← hk]
  constructor
  · rintro ⟨_, e⟩; rw [e]
  · intro e; exact ⟨by omega, UInt8.toNat_inj.1 (by omega)⟩
theorem stB_zero (L : List UInt8) (c : UInt8) : TX.stB L c 0 = false := by unfold TX.stB; simp
theorem stp_of (L : List UInt8) (c : UInt8) (E : Nat) : (TX.stB L c E = true → ∃ m, E = m + 1 ∧ TX.stp L c E = m) ∧ (TX.stB L c E = false → TX.stp L c E = E) := by
  unfold TX.stB TX.stp
  refine ⟨fun h => ?_, fun h => ?_⟩
  · rw [decide_eq_true_eq] at h
    rw [if_pos h]
    exact ⟨E - 1, by omega, rfl⟩
  · rw [decide_eq_false_iff_not] at h
    rw [if_neg h]
theorem info28 (l : List Value) (h : l.length = 5) : (Tryd.prog.info? 28).map (·.size) = some l.length := by rw [h]; kernel_rfl
theorem C5.load {W : World} {B : Nat} {v0 v1 v2 v3 v4 : Value} (h : C5 W B v0 v1 v2 v3 v4) : (loadVar 28 ⟨B, 0, none⟩).run Tryd.prog W = .ok (.agg #[v0, v1, v2, v3, v4]) W :=
  run_loadVar_mid (P := Tryd.prog) W B 0 28 [v0, v1, v2, v3, v4] _ (fun j v hj => by
    rw [Nat.zero_add]
    match j, hj with
    | 0, hj => cases hj; exact h.c0
    | 1, hj => cases hj; exact h.c1
    | 2, hj => cases hj; exact h.c2
    | 3, hj => cases hj; exact h.c3
    | 4, hj => cases hj; exact h.c4) Tryd.underlying28 rfl (info28 _ rfl)
theorem results_two {tmps : Array Value} {W : World} {B : Nat} {cs : Array Value} {b : Bool} (hp : tmps.getD 2 undef = .pointer (some ⟨B, 0, none⟩)) (hb : tmps.getD 3 undef = .bool b) (hl : (loadVar 28 ⟨B, 0, none⟩).run Tryd.prog W = .ok (.agg cs) W) :
    (results Tryd.f28 tmps).run Tryd.prog W = .ok (.tuple #[.agg cs, .bool b]) W := by
  have hp' : tmps[2]?.getD undef = .pointer (some ⟨B, 0, none⟩) := by simpa using hp
  have hb' : tmps[3]?.getD undef = .bool b := by simpa using hb
  simp [results, Tryd.results28, hp', hb', asAddr, hl]
/-- The answer is stored whole. -/
theorem PW.fin {w W : World} {B C : Nat} {e n : Int} {l d a : Bool} (h : PW w W B C e n l d a) (v0 v1 v2 v3 v4 : Value) :
    C5 (((((W.setCell ⟨B, 0, none⟩ v0).setCell ⟨B, 1, none⟩ v1).setCell ⟨B, 2, none⟩ v2).setCell ⟨B, 3, none⟩ v3).setCell ⟨B, 4, none⟩ v4) B v0 v1 v2 v3 v4 ∧ Below w.heap.size w (((((W.setCell ⟨B, 0, none⟩ v0).setCell ⟨B, 1, none⟩ v1).setCell ⟨B, 2, none⟩ v2).setCell ⟨B, 3, none⟩ v3).setCell ⟨B, 4, none⟩ v4) :=
  ⟨h.r.set0.set1.set2.set3.set4, ((((h.below.setCell (p := ⟨B, 0, none⟩) h.le.1 _).setCell (p := ⟨B, 1, none⟩) h.le.1 _).setCell (p := ⟨B, 2, none⟩) h.le.1 _).setCell (p := ⟨B, 3, none⟩) h.le.1 _).setCell (p := ⟨B, 4, none⟩) h.le.1 _⟩
/-- How the document reads a text. -/
def Good (L : List UInt8) (e n : Nat) (l d a : Bool) : Prop := e ≤ 16777215 ∧ n ≤ 2147483647 ∧ L = TX.textL e n l d a
def RP (L : List UInt8) (r : Ending) : Prop :=
  (∃ (e n : Nat) (l d a : Bool), Good L e n l d a ∧ r = .returned (.tuple #[.agg #[.int .i64 (e : Int), .int .i64 (n : Int), .bool l, .bool d, .bool a], .bool true])) ∨
  ((∀ (e n : Nat) (l d a : Bool), ¬ Good L e n l d a) ∧ r = .returned (.tuple #[.agg #[.int .i64 0, .int .i64 0, .bool false, .bool false, .bool false], .bool false]))
theorem no_dot {L : List UInt8} (h : ∀ j, j < TX.eL L → L[j]? ≠ some 46) (e n : Nat) (l d a : Bool) : ¬ Good L e n l d a := by
  rintro ⟨_, _, hL⟩
  obtain ⟨h1, h2, _⟩ := TX.text_dot e n l d a L hL
  exact h _ h2 h1
theorem numI_dec (n : Nat) (h : n ≤ 2147483647) : numI (Lib.decDigits n) = n := by
  unfold numI
  rw [TX.numV_dec n (by omega)]
theorem numI_pos {L : List UInt8} (h : 0 ≤ numI L) : ∃ v : Nat, TX.numV L = some v ∧ numI L = v := by
  unfold numI at h ⊢
  cases hv : TX.numV L with
  | none => rw [hv] at h; simp at h
  | some v => exact ⟨v, rfl, rfl⟩
theorem at_dot {L : List UInt8} {k : Nat} (hk : k < TX.eL L) (h46 : L[k]? = some 46) (hno : ∀ j, j < k → L[j]? ≠ some 46) :
    ((0 ≤ numI (L.take k) ∧ numI (L.take k) ≤ 16777215 ∧ 0 ≤ numI ((L.take (TX.eL L)).drop (k + 1)) ∧ numI ((L.take (TX.eL L)).drop (k + 1)) ≤ 2147483647) →
      ∃ e n : Nat, numI (L.take k) = e ∧ numI ((L.take (TX.eL L)).drop (k + 1)) = n ∧ Good L e n (TX.bL L) (TX.bD L) (TX.bA L)) ∧
    (¬ (0 ≤ numI (L.take k) ∧ numI (L.take k) ≤ 16777215 ∧ 0 ≤ numI ((L.take (TX.eL L)).drop (k + 1)) ∧ numI ((L.take (TX.eL L)).drop (k + 1)) ≤ 2147483647) → ∀ (e n : Nat) (l d a : Bool), ¬ Good L e n l d a) := by
  refine ⟨fun ⟨h0, h1, h2, h3⟩ => ?_, fun hb e n l d a ⟨he, hn, hL⟩ => hb ?_⟩
  · obtain ⟨e, e1, e2⟩ := numI_pos h0
    obtain ⟨n, n1, n2⟩ := numI_pos h2
    exact ⟨e, n, e2, n2, by omega, by omega, TX.text_of L k e n hk h46 e1 n1⟩
  · obtain ⟨d1, d2, d3, d4, d5⟩ := TX.text_dot e n l d a L hL
    have hke : k = (Lib.decDigits e).length := by
      rcases Nat.lt_trichotomy k (Lib.decDigits e).length with h | h | h
      · exact absurd h46 (d3 k h)
      · exact h
      · exact absurd d1 (hno _ h)
    subst hke
    rw [d4, d5, numI_dec e (by omega), numI_dec n hn]
    omega
set_option maxRecDepth 100000 in
set_option maxHeartbeats 2000000 in
theorem refparse_any (s : ByteArray) (n : Nat) (hn : s.size = n) (hn9 : n ≤ 9000) (L : List UInt8) (hL : L = s.data.toList) (w : World) : Calls Tryd.prog 28 #[.string s] w fun r w' => RP L r ∧ Below w.heap.size w w' := by
  have hP : PW w ((w.alloc (.cells #[.int .i64 0, .int .i64 0, .bool false, .bool false, .bool false] 28 (0, 0))).alloc (.cells #[.int .i64 0, .int .i64 0, .bool false, .bool false, .bool false] 28 (0, 0))) w.heap.size (w.heap.size + 1) 0 0 false false false := by
    have h1 := C5.new w (.int .i64 0) (.int .i64 0) (.bool false) (.bool false) (.bool false)
    have h2 := C5.new (w.alloc (.cells #[.int .i64 0, .int .i64 0, .bool false, .bool false, .bool false] 28 (0, 0))) (.int .i64 0) (.int .i64 0) (.bool false) (.bool false) (.bool false)
    have e : (w.alloc (.cells #[.int .i64 0, .int .i64 0, .bool false, .bool false, .bool false] 28 (0, 0))).heap.size = w.heap.size + 1 := by simp
    rw [e] at h2
    have b1 := below_box w (.cells #[.int .i64 0, .int .i64 0, .bool false, .bool false, .bool false] 28 (0, 0))
    exact ⟨b1.alloc b1.size _, ⟨Nat.le_refl _, by omega, by omega⟩, h1.below (below_box _ _), h2⟩
  have hstA := fun m h => stB_at s L hL m h 65 65 rfl
  have hstD := fun m h => stB_at s L hL m h 68 68 rfl
  have hstL := fun m h => stB_at s L hL m h 76 76 rfl
  have HA := Lib.hid hstA
  have HD := Lib.hid hstD
  have HL := Lib.hid hstL
  have hln : L.length = n := by rw [hL, ← hn, Lib.size_eq]
  have HLN := Lib.hid hln
  have HLL := Lib.hid hL
  clear hstA hstD hstL hL hln
  have HP := Lib.hid hP
  clear hP
  go_enter Tryd.func28, Tryd.ntmps28
  go_upto_region 3 with (fail)
  generalize hBe : w.heap.size = B at *
  generalize hCe : B + 1 = C at *
  generalize (w.alloc (.cells #[.int .i64 0, .int .i64 0, .bool false, .bool false, .bool false] 28)).alloc (.cells #[.int .i64 0, .int .i64 0, .bool false, .bool false, .bool false] 28) = W2 at *
  have HBE := Lib.hid (And.intro hBe hCe)
  clear hBe hCe
  go_cut [17] (fun c wx => c = .bool (TX.stB L 65 n) ∧ W2 = wx)
  case first =>
    rcases (show n = 0 ∨ ∃ m, n = m + 1 from by rcases n with _ | m; exact .inl rfl; exact .inr ⟨m, rfl⟩) with h | ⟨m, h⟩
    · have h2 : ¬ (0 : Int) < (n : Int) := by omega
      have HE := Lib.hid (show TX.stB L 65 n = false by rw [h]; exact stB_zero L 65)
      clear h
      go_wp2_with fail
      go_meet
      case rel => exact ⟨by rw [HE.out], rfl⟩
    · subst h
      have h2 : (0 : Int) < ((m : Int) + 1) := by omega
      have hm : m < s.size := by omega
      have hmi : (0 : Int) ≤ (m : Int) := by omega
      have HE := Lib.hid (HA.out m hm)
      go_wp2_with fail
      go_meet
      case rel => exact ⟨by rw [HE.out], rfl⟩
  case rest =>
    obtain ⟨rfl, rfl⟩ := hcut
    go_upto_if 17 with (fail)
    go_cut [5] (fun v wx => v = .int .i64 (TX.stp L 65 n : Nat) ∧ Hid (PW w wx B C 0 0 false false (TX.stB L 65 n)))
    case first =>
      obtain ⟨HT, HF⟩ := stp_of L 65 n
      have HT := Lib.hid HT
      have HF := Lib.hid HF
      have x4 := HP.out.x.c4
      have y4 := HP.out.x.f 4
      generalize TX.stB L 65 n = b at *
      cases b with
      | true =>
        obtain ⟨m, rfl, hm⟩ := HT.out rfl
        have HM := Lib.hid hm
        clear hm
        go_wp2_with fail
        go_meet
        case rel => exact ⟨by rw [HM.out], HP.out.set4 true⟩
      | false =>
        have HM := Lib.hid (HF.out rfl)
        go_wp2_with fail
        go_meet
        case rel => exact ⟨by rw [HM.out], HP.out⟩
    case rest =>
      obtain ⟨rfl, HP1⟩ := hcut
      clear HP
      have HP := HP1
      clear HP1
      obtain ⟨Ea, hEa⟩ : ∃ E, TX.stp L 65 n = E := ⟨_, rfl⟩
      have hlea : Ea ≤ n := by have := TX.stp_le L 65 n; omega
      rw [hEa]
      have HEa := Lib.hid hEa
      obtain ⟨ba, hba⟩ : ∃ b, TX.stB L 65 n = b := ⟨_, rfl⟩
      rw [hba] at HP
      have HBa := Lib.hid hba
      clear hEa hba
      go_upto_region 6 with (fail)
      go_cut [29] (fun c wx => c = .bool (TX.stB L 68 Ea) ∧ wc = wx)
      case first =>
        rcases (show Ea = 0 ∨ ∃ m, Ea = m + 1 from by rcases Ea with _ | m; exact .inl rfl; exact .inr ⟨m, rfl⟩) with h | ⟨m, h⟩
        · have h2 : ¬ (0 : Int) < (Ea : Int) := by omega
          have HE := Lib.hid (show TX.stB L 68 Ea = false by rw [h]; exact stB_zero L 68)
          clear h
          go_wp2_with fail
          go_meet
          case rel => exact ⟨by rw [HE.out], rfl⟩
        · subst h
          have h2 : (0 : Int) < ((m : Int) + 1) := by omega
          have hm : m < s.size := by omega
          have hmi : (0 : Int) ≤ (m : Int) := by omega
          have HE := Lib.hid (HD.out m hm)
          go_wp2_with fail
          go_meet
          case rel => exact ⟨by rw [HE.out], rfl⟩
      case rest =>
        obtain ⟨rfl, rfl⟩ := hcut
        go_upto_if 29 with (fail)
        go_cut [5] (fun v wx => v = .int .i64 (TX.stp L 68 Ea : Nat) ∧ Hid (PW w wx B C 0 0 false (TX.stB L 68 Ea) ba))
        case first =>
          obtain ⟨HT, HF⟩ := stp_of L 68 Ea
          have HT := Lib.hid HT
          have HF := Lib.hid HF
          have x3 := HP.out.x.c3
          have y3 := HP.out.x.f 3
          generalize TX.stB L 68 Ea = b at *
          cases b with
          | true =>
            obtain ⟨m, rfl, hm⟩ := HT.out rfl
            have HM := Lib.hid hm
            clear hm
            go_wp2_with fail
            go_meet
            case rel => exact ⟨by rw [HM.out], HP.out.set3 true⟩
          | false =>
            have HM := Lib.hid (HF.out rfl)
            go_wp2_with fail
            go_meet
            case rel => exact ⟨by rw [HM.out], HP.out⟩
        case rest =>
          obtain ⟨rfl, HP1⟩ := hcut
          clear HP
          have HP := HP1
          clear HP1
          obtain ⟨Ed, hEd⟩ : ∃ E, TX.stp L 68 Ea = E := ⟨_, rfl⟩
          have hled : Ed ≤ n := by have := TX.stp_le L 68 Ea; omega
          rw [hEd]
          have HEd := Lib.hid hEd
          obtain ⟨bd, hbd⟩ : ∃ b, TX.stB L 68 Ea = b := ⟨_, rfl⟩
          rw [hbd] at HP
          have HBd := Lib.hid hbd
          clear hEd hbd
          go_upto_region 9 with (fail)
          go_cut [41] (fun c wx => c = .bool (TX.stB L 76 Ed) ∧ wc = wx)
          case first =>
            rcases (show Ed = 0 ∨ ∃ m, Ed = m + 1 from by rcases Ed with _ | m; exact .inl rfl; exact .inr ⟨m, rfl⟩) with h | ⟨m, h⟩
            · have h2 : ¬ (0 : Int) < (Ed : Int) := by omega
              have HE := Lib.hid (show TX.stB L 76 Ed = false by rw [h]; exact stB_zero L 76)
              clear h
              go_wp2_with fail
              go_meet
              case rel => exact ⟨by rw [HE.out], rfl⟩
            · subst h
              have h2 : (0 : Int) < ((m : Int) + 1) := by omega
              have hm : m < s.size := by omega
              have hmi : (0 : Int) ≤ (m : Int) := by omega
              have HE := Lib.hid (HL.out m hm)
              go_wp2_with fail
              go_meet
              case rel => exact ⟨by rw [HE.out], rfl⟩
          case rest =>
            obtain ⟨rfl, rfl⟩ := hcut
            go_upto_if 41 with (fail)
            go_cut [5] (fun v wx => v = .int .i64 (TX.stp L 76 Ed : Nat) ∧ Hid (PW w wx B C 0 0 (TX.stB L 76 Ed) bd ba))
            case first =>
              obtain ⟨HT, HF⟩ := stp_of L 76 Ed
              have HT := Lib.hid HT
              have HF := Lib.hid HF
              have x2 := HP.out.x.c2
              have y2 := HP.out.x.f 2
              generalize TX.stB L 76 Ed = b at *
              cases b with
              | true =>
                obtain ⟨m, rfl, hm⟩ := HT.out rfl
                have HM := Lib.hid hm
                clear hm
                go_wp2_with fail
                go_meet
                case rel => exact ⟨by rw [HM.out], HP.out.set2 true⟩
              | false =>
                have HM := Lib.hid (HF.out rfl)
                go_wp2_with fail
                go_meet
                case rel => exact ⟨by rw [HM.out], HP.out⟩
            case rest =>
              obtain ⟨rfl, HP1⟩ := hcut
              clear HP
              have HP := HP1
              clear HP1
              obtain ⟨El, hEl⟩ : ∃ E, TX.stp L 76 Ed = E := ⟨_, rfl⟩
              have hlel : El ≤ n := by have := TX.stp_le L 76 Ed; omega
              rw [hEl]
              have HEl := Lib.hid hEl
              obtain ⟨bl, hbl⟩ : ∃ b, TX.stB L 76 Ed = b := ⟨_, rfl⟩
              rw [hbl] at HP
              have HBl := Lib.hid hbl
              clear hEl hbl
              have HEQ := Lib.hid (show El = TX.eL L ∧ bl = TX.bL L ∧ bd = TX.bD L ∧ ba = TX.bA L by
                have e0 := HLN.out
                have e1 := HEa.out
                have e2 := HEd.out
                have e3 := HEl.out
                have b1 := HBa.out
                have b2 := HBd.out
                have b3 := HBl.out
                unfold TX.eL TX.bL TX.bD TX.bA TX.eD TX.eA
                rw [e0, e1, e2, e3, b1, b2, b3]
                exact ⟨rfl, rfl, rfl, rfl⟩)
              clear hlea hled HEa HEd HEl HBa HBd HBl HA HD HL
              have hli : (El : Int) ≤ (n : Int) := by omega
              have hni : (n : Int) ≤ 9000 := by omega
              go_wp2_with fail
              go_loopw [6] (fun v wr => ∃ k : Nat, k ≤ El ∧ v = .int .i64 (k : Int) ∧ Hid (∀ j, j < k → L[j]? ≠ some 46) ∧ wc = wr) (fun v _ => El - (intOf v).toNat)
              case atStart => exact ⟨0, by omega, rfl, Lib.hid (fun j hj => by omega), by trivial⟩
              case round =>
                obtain ⟨k, hk, rfl, hno, rfl⟩ := hrel
                have hki : (k : Int) ≤ (El : Int) := by omega
                by_cases hlt : k < El
                · have hkl : (k : Int) < (El : Int) := by omega
                  have hks : k < s.size := by omega
                  obtain ⟨x, hx⟩ : ∃ x : Nat, s[k].toNat = x := ⟨_, rfl⟩
                  have HX := Lib.hid hx
                  have HG := Lib.hid (show L[k]? = some s[k] by rw [HLL.out]; exact getB s k hks)
                  by_cases h46 : x = 46
                  · have hx1 : ((x : Int) != 46) = false := by simp; omega
                    have hx2 : ¬ (k : Int) = (El : Int) := by omega
                    have hx3 : ((k : Int) == (El : Int)) = false := by simp; omega
                    have H46 := Lib.hid h46
                    clear h46
                    go_wp2_with fail
                    have hx46 : L[k]? = some 46 := by
                      rw [HG.out]
                      have h1 := HX.out
                      rw [H46.out] at h1
                      rw [show s[k] = 46 from UInt8.toNat_inj.1 (by rw [h1]; rfl)]
                    have hEe := HEQ.out.1
                    have hd := at_dot (L := L) (k := k) (by omega) hx46 hno.out
                    have e1 : (s.extract 0 k).data.toList = L.take k := by rw [Lib.extract_data, HLL.out]; simp
                    have e2 : (s.extract (k + 1) El).data.toList = (L.take (TX.eL L)).drop (k + 1) := by rw [Lib.extract_data, HLL.out, hEe, List.drop_take, HLL.out]
                    have z1 : (s.extract 0 k).size ≤ 9000 := by simp; omega
                    have z2 : (s.extract (k + 1) El).size ≤ 9000 := by simp; omega
                    have N1 := Lib.hid (fun w => refnum_any (s.extract 0 k) _ rfl z1 _ e1.symm w)
                    have N2 := Lib.hid (fun w => refnum_any (s.extract (k + 1) El) _ rfl z2 _ e2.symm w)
                    obtain ⟨ve, hve⟩ : ∃ v, numI (L.take k) = v := ⟨_, rfl⟩
                    obtain ⟨vn, hvn⟩ : ∃ v, numI ((L.take (TX.eL L)).drop (k + 1)) = v := ⟨_, rfl⟩
                    rw [hve, hvn] at hd
                    rw [hve] at N1
                    rw [hvn] at N2
                    have HDD := Lib.hid hd
                    have x0 := HP.out.x.c0
                    have y0 := HP.out.x.f 0
                    clear hx46 hEe hd e1 e2 z1 z2 hve hvn
                    refine (N1.out _).mono ?_; rintro r w' ⟨rfl, rfl⟩
                    go_wp2_with fail
                    have HP2 := Lib.hid (HP.out.set0 ve)
                    clear x0 y0 HP
                    generalize wc.setCell ⟨C, 0, none⟩ (.int .i64 ve) = W3 at *
                    have x1 := HP2.out.x.c1
                    have y1 := HP2.out.x.f 1
                    refine (N2.out _).mono ?_; rintro r w' ⟨rfl, rfl⟩
                    have HP3 := Lib.hid (HP2.out.set1 vn)
                    have x0 := HP3.out.x.c0
                    have x1b := HP3.out.x.c1
                    have r0 := HP3.out.r.c0
                    have r1 := HP3.out.r.c1
                    have r2 := HP3.out.r.c2
                    have r3 := HP3.out.r.c3
                    have r4 := HP3.out.r.c4
                    have f0 := HP3.out.r.f 0
                    have f1 := HP3.out.r.f 1
                    have f2 := HP3.out.r.f 2
                    have f3 := HP3.out.r.f 3
                    have f4 := HP3.out.r.f 4
                    by_cases hok : 0 ≤ ve ∧ ve ≤ 16777215 ∧ 0 ≤ vn ∧ vn ≤ 2147483647
                    · obtain ⟨e, nn, he, hnn, hg⟩ := HDD.out.1 hok
                      subst he hnn
                      have x2 := HP3.out.x.c2
                      have x3 := HP3.out.x.c3
                      have x4 := HP3.out.x.c4
                      have t1 : ¬ (e : Int) < 0 := by omega
                      have t2 : ¬ (16777215 : Int) < (e : Int) := by omega
                      have t3 : ¬ (nn : Int) < 0 := by omega
                      have t4 : ¬ (2147483647 : Int) < (nn : Int) := by omega
                      have HGD := Lib.hid hg
                      clear hok hg
                      go_wp2_with fail
                      have hf := HP3.out.fin (.int .i64 (e : Int)) (.int .i64 (nn : Int)) (.bool bl) (.bool bd) (.bool ba)
                      have hg := HGD.out
                      rw [← HEQ.out.2.1, ← HEQ.out.2.2.1, ← HEQ.out.2.2.2] at hg
                      refine bodyPost_ret (v := .tuple #[.agg #[.int .i64 (e : Int), .int .i64 (nn : Int), .bool bl, .bool bd, .bool ba], .bool true]) (results_two rfl rfl hf.1.load) rfl ⟨.inl ⟨e, nn, bl, bd, ba, hg, rfl⟩, hf.2⟩
                    · have HNG := Lib.hid (HDD.out.2 hok)
                      have ways : ve < 0 ∨ (¬ ve < 0 ∧ 16777215 < ve) ∨ (¬ ve < 0 ∧ ¬ 16777215 < ve ∧ vn < 0) ∨ (¬ ve < 0 ∧ ¬ 16777215 < ve ∧ ¬ vn < 0 ∧ 2147483647 < vn) := by omega
                      clear hok
                      rcases ways with t1 | ⟨t1, t2⟩ | ⟨t1, t2, t3⟩ | ⟨t1, t2, t3, t4⟩
                      all_goals go_wp2_with fail
                      all_goals have hf := HP3.out.fin (.int .i64 0) (.int .i64 0) (.bool false) (.bool false) (.bool false)
                      all_goals refine bodyPost_ret (v := .tuple #[.agg #[.int .i64 0, .int .i64 0, .bool false, .bool false, .bool false], .bool false]) (results_two rfl rfl hf.1.load) rfl ⟨.inr ⟨HNG.out, rfl⟩, hf.2⟩
                  · have hx1 : ((x : Int) != 46) = true := by simp; omega
                    have H46 := Lib.hid h46
                    clear h46
                    go_wp2_with fail
                    go_roundw
                    case rel =>
                      refine ⟨k + 1, by omega, by go_num, Lib.hid (fun j hj => ?_), by trivial⟩
                      rcases (show j < k ∨ j = k from by omega) with h | rfl
                      · exact hno.out j h
                      · rw [HG.out]
                        intro e
                        have := Option.some.inj e
                        have h3 := HX.out
                        rw [this] at h3
                        exact H46.out h3.symm
                    case measure => simp [intOf]; omega
                · have hke : k = El := by omega
                  subst hke
                  have hkl : ¬ (k : Int) < (k : Int) := by omega
                  have r0 := HP.out.r.c0
                  have r1 := HP.out.r.c1
                  have r2 := HP.out.r.c2
                  have r3 := HP.out.r.c3
                  have r4 := HP.out.r.c4
                  have f0 := HP.out.r.f 0
                  have f1 := HP.out.r.f 1
                  have f2 := HP.out.r.f 2
                  have f3 := HP.out.r.f 3
                  have f4 := HP.out.r.f 4
                  go_wp2_with fail
                  have hnd := no_dot (L := L) (by rw [← HEQ.out.1]; exact hno.out)
                  have hf := HP.out.fin (.int .i64 0) (.int .i64 0) (.bool false) (.bool false) (.bool false)
                  refine bodyPost_ret (v := .tuple #[.agg #[.int .i64 0, .int .i64 0, .bool false, .bool false, .bool false], .bool false]) (results_two rfl rfl hf.1.load) rfl ⟨.inr ⟨hnd, rfl⟩, hf.2⟩
end Go.Proofs.YtfdboihfgpibcaaDoor
