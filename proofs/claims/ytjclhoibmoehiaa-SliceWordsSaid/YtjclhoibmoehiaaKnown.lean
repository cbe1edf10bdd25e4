/- The chapter's own rows. -/
import Derived.Test.YtjclhoibmoehiaaKeys
import Derived.Test.YtjclhoibmoehiaaJoin
import Derived.Lib.SlBytesConst
namespace Go.Proofs.Ytjclhoibmoehiaa
open Go.ChangeShapes Go.WideShapes Go.ChangeAt Go.RowKit
open SM
set_option linter.unusedVariables false
set_option linter.unusedSimpArgs false

theorem cell_new (w : World) (cs : Array Value) (t : TypeId) (fr : Nat × Nat) (k : Nat) : (w.alloc (.cells cs t fr)).cell? ⟨w.heap.size, k, none⟩ = cs[k]? := by
  have h := World.alloc_heap_new w (.cells cs t fr)
  simp only [World.cell?]
  rw [h]
  simp
theorem bts_new (w : World) (cs : Array Value) (t : TypeId) (fr : Nat × Nat) (n : Nat) (f : Nat → Int) (h : ∀ k < n, cs[k]? = some (.int .u8 (f k))) : Bts (w.alloc (.cells cs t fr)) (some ⟨w.heap.size, 0, none⟩) n f := fun k hk =>
  ⟨_, _, rfl, by rw [cell_new, Nat.zero_add]; exact h k hk⟩
theorem bts_past {w : World} {a : Option Addr} {n : Nat} {f : Nat → Int} (h : Bts w a n f) (o : Obj) : Bts (w.alloc o) a n f := h.below ((Below.refl _ _).alloc (Nat.le_refl _) o)
theorem sls_new (w : World) (cs : Array Value) (t : TypeId) (fr : Nat × Nat) (n : Nat) (X L : Nat → Int) (h : ∀ k < n, cs[k * 2]? = some (.int .u64 (X k)) ∧ cs[k * 2 + 1]? = some (.int .i64 (L k))) : Sls (w.alloc (.cells cs t fr)) (some ⟨w.heap.size, 0, none⟩) n X L := fun k hk =>
  ⟨_, _, rfl, by rw [cell_new, Nat.zero_add]; exact (h k hk).1, by rw [cell_new, Nat.zero_add]; exact (h k hk).2⟩
theorem box2_new (w : World) (x y : Int) : Box2 (w.alloc (.cells #[.int .u64 x, .int .i64 y] 26)) w.heap.size x y := World.alloc_heap_new _ _
theorem box2_past {w : World} {b : Nat} {x y : Int} (h : Box2 w b x y) (o : Obj) : Box2 (w.alloc o) b x y := h.below ((Below.refl _ _).alloc (Nat.le_refl _) o)

theorem bts_at (w : World) (cs : Array Value) (t : TypeId) (fr : Nat × Nat) (n : Nat) (f : Nat → Int) (b : Nat) (hb : b = w.heap.size) (h : ∀ k < n, cs[k]? = some (.int .u8 (f k))) : Bts (w.alloc (.cells cs t fr)) (some ⟨b, 0, none⟩) n f := by
  subst hb; exact bts_new _ _ _ _ _ _ h
theorem sls_at (w : World) (cs : Array Value) (t : TypeId) (fr : Nat × Nat) (n : Nat) (X L : Nat → Int) (b : Nat) (hb : b = w.heap.size) (h : ∀ k < n, cs[k * 2]? = some (.int .u64 (X k)) ∧ cs[k * 2 + 1]? = some (.int .i64 (L k))) : Sls (w.alloc (.cells cs t fr)) (some ⟨b, 0, none⟩) n X L := by
  subst hb; exact sls_new _ _ _ _ _ _ _ h
theorem box2_at (w : World) (x y : Int) (b : Nat) (hb : b = w.heap.size) : Box2 (w.alloc (.cells #[.int .u64 x, .int .i64 y] 26)) b x y := by
  subst hb; exact box2_new _ _ _

def fab (i : Nat) : Int := [97, 98].getD i 0
def fnine (i : Nat) : Int := [49, 50, 51, 52, 53, 54, 55, 56, 57].getD i 0
def fa1 (i : Nat) : Int := [97].getD i 0
def fa2 (i : Nat) : Int := [97, 0].getD i 0
theorem getD_fits (l : List Int) (h : ∀ x ∈ l, 0 ≤ x ∧ x ≤ 255) : Fits (fun i => l.getD i 0) := fun i => by
  show 0 ≤ l.getD i 0 ∧ l.getD i 0 ≤ 255
  rw [List.getD_eq_getElem?_getD]
  cases hx : l[i]? with
  | none => simp
  | some x => simpa using h x (List.mem_of_getElem? hx)
theorem fab_fits : Fits fab := getD_fits _ (by decide)
theorem fnine_fits : Fits fnine := getD_fits _ (by decide)
theorem fa1_fits : Fits fa1 := getD_fits _ (by decide)
theorem fa2_fits : Fits fa2 := getD_fits _ (by decide)
theorem v_ab0 : ofV fab 2 0 = (7017171169396654080, 2, 0) := by kernel_rfl
theorem v_ab1 : ofV fab 2 1 = (0, 0, 2) := by kernel_rfl
theorem v_n0 : ofV fnine 9 0 = (3544952156018063160, 9, 0) := by kernel_rfl
theorem v_n1 : ofV fnine 9 1 = (4107282860161892352, 1, 0) := by kernel_rfl
theorem v_cnt8 : cnt 8 = 1 := by kernel_rfl
theorem v_cnt9 : cnt 9 = 2 := by kernel_rfl
theorem v_cmp : cmpS 6989586621679009792 1 6989586621679009792 2 = -1 := by kernel_rfl
theorem v_ck : ckV fa2 2 (upto fa1 1 (cnt 1)) = -1 := by kernel_rfl
theorem v_sh : shV fnine 9 (upto fnine 9 (cnt 9)) = 1 := by kernel_rfl

theorem two {P : Nat → Prop} (h0 : P 0) (h1 : P 1) : ∀ k < 2, P k := fun k hk => by
  rcases (show k = 0 ∨ k = 1 from by omega) with rfl | rfl <;> assumption
theorem one {P : Nat → Prop} (h0 : P 0) : ∀ k < 1, P k := fun k hk => by
  obtain rfl : k = 0 := by omega
  exact h0
theorem ninth {P : Nat → Prop} (h0 : P 0) (h1 : P 1) (h2 : P 2) (h3 : P 3) (h4 : P 4) (h5 : P 5) (h6 : P 6) (h7 : P 7) (h8 : P 8) : ∀ k < 9, P k := fun k hk => by
  rcases (show k = 0 ∨ k = 1 ∨ k = 2 ∨ k = 3 ∨ k = 4 ∨ k = 5 ∨ k = 6 ∨ k = 7 ∨ k = 8 from by omega) with rfl | rfl | rfl | rfl | rfl | rfl | rfl | rfl | rfl <;> assumption


def XA (i : Nat) : Int := [6989586621679009792].getD i 0
def LA (i : Nat) : Int := [9].getD i 0
def XB (i : Nat) : Int := [6989586621679009792, 8646911284551352320].getD i 0
def LB (i : Nat) : Int := [9, 1].getD i 0
def XC (i : Nat) : Int := [6989586621679009792, 0].getD i 0
def LC (i : Nat) : Int := [9, 0].getD i 0
theorem getD_words (l : List Int) (h : ∀ x ∈ l, 0 ≤ x ∧ x < 18446744073709551616) : Words (fun i => l.getD i 0) := fun i => by
  show 0 ≤ l.getD i 0 ∧ l.getD i 0 < 18446744073709551616
  rw [List.getD_eq_getElem?_getD]
  cases hx : l[i]? with
  | none => simp
  | some x => simpa using h x (List.mem_of_getElem? hx)
theorem XA_w : Words XA := getD_words _ (by decide)
theorem XB_w : Words XB := getD_words _ (by decide)
theorem XC_w : Words XC := getD_words _ (by decide)
theorem nA : ¬ jall XA LA 1 := fun h => absurd ((h.2 0 (by omega)).2.1.1 rfl) (by decide)
theorem nC : ¬ jall XC LC 2 := fun h => absurd ((h.2 1 (by omega)).2.2 (by omega)) (by decide)
theorem yB : jall XB LB 2 := ⟨by omega, two ⟨by kernel_rfl, ⟨fun h => absurd h (by omega), fun h => absurd rfl h⟩, fun h => absurd h (by omega)⟩ ⟨by kernel_rfl, ⟨fun _ => by decide, fun _ => rfl⟩, fun _ => by decide⟩⟩
theorem tB : tot LB 2 = 9 := by kernel_rfl
theorem fB : (flat XB LB 2)[8]? = some (.int .u8 120) := by kernel_rfl

set_option maxRecDepth 100000 in
set_option maxHeartbeats 4000000 in
theorem known_law (w : World) : Calls Try.prog 8 #[] w fun e w' => e = .returned (.bool true) ∧ Below w.heap.size w w' := by
  have kc := fun (w : World) (C : Array Value) (n c b : Nat) (hb : b = w.heap.size) => (by subst hb; exact Lib.run_convert_bytes_const w 22 5 C n c Try.underlying22 Try.underlying5 : (convert 22 22 (.slice (some ⟨b, 0, none⟩) n c)).run Try.prog (w.alloc (.cells C 5)) = .ok (.slice (some ⟨b, 0, none⟩) n c) (w.alloc (.cells C 5 (C.size, C.size + 1))))
  go_enter Try.func8, Try.ntmps8
  go_wp2_with fail
  refine (Of_any _ 2 2 fab 0 (by omega) (by omega) _ fab_fits (bts_new _ _ _ _ _ _ (two rfl rfl))).mono ?_
  rintro e W1 ⟨rfl, B1⟩
  replace B1 := step_below ((Below.refl _ _).alloc (Nat.le_refl _) _) B1
  rw [v_ab0]
  go_wp2_with fail
  have X1 := box2_new W1 7017171169396654080 2
  replace B1 := B1.alloc B1.size (.cells #[.int .u64 7017171169396654080, .int .i64 2] 26)
  refine (Of_any _ 2 2 fab 1 (by omega) (by omega) _ fab_fits (bts_at _ _ _ _ _ _ _ (by simp) (two rfl rfl))).mono ?_
  rintro e W2 ⟨rfl, B2⟩
  replace X1 := (box2_past X1 _).below B2
  replace B2 := step_below (B1.alloc B1.size _) B2
  clear B1
  rw [v_ab1]
  go_wp2_with fail
  replace X1 := box2_past X1 (.cells #[.int .u64 0, .int .i64 0] 26)
  replace B2 := B2.alloc B2.size (.cells #[.int .u64 0, .int .i64 0] 26)
  refine (Of_any _ 9 9 fnine 0 (by omega) (by omega) _ fnine_fits (bts_at _ _ _ _ _ _ _ (by simp) (ninth rfl rfl rfl rfl rfl rfl rfl rfl rfl))).mono ?_
  rintro e W3 ⟨rfl, B3⟩
  have N : Bts W3 (some ⟨W2.heap.size + 1, 0, none⟩) 9 fnine := (bts_at _ _ _ _ _ _ _ (by simp) (ninth rfl rfl rfl rfl rfl rfl rfl rfl rfl)).below B3
  replace X1 := (box2_past X1 _).below B3
  replace B3 := step_below (B2.alloc B2.size _) B3
  clear B2
  rw [v_n0]
  go_wp2_with fail
  have X6 := box2_new W3 3544952156018063160 9
  replace X1 := box2_past X1 (.cells #[.int .u64 3544952156018063160, .int .i64 9] 26)
  replace N := bts_past N (.cells #[.int .u64 3544952156018063160, .int .i64 9] 26)
  replace B3 := B3.alloc B3.size (.cells #[.int .u64 3544952156018063160, .int .i64 9] 26)
  refine (Of_any _ 9 9 fnine 1 (by omega) (by omega) _ fnine_fits N).mono ?_
  rintro e W4 ⟨rfl, B4⟩
  replace X1 := X1.below B4
  replace X6 := X6.below B4
  replace N := N.below B4
  replace B4 := step_below B3 B4
  clear B3
  rw [v_n1]
  go_wp2_with fail
  have X8 := box2_new W4 4107282860161892352 1
  replace X1 := box2_past X1 (.cells #[.int .u64 4107282860161892352, .int .i64 1] 26)
  replace X6 := box2_past X6 (.cells #[.int .u64 4107282860161892352, .int .i64 1] 26)
  replace N := bts_past N (.cells #[.int .u64 4107282860161892352, .int .i64 1] 26)
  replace B4 := B4.alloc B4.size (.cells #[.int .u64 4107282860161892352, .int .i64 1] 26)
  refine (join_some _ 0 1 1 XA LA XA_w (by omega) (by omega) _ (sls_at _ _ _ _ _ _ _ _ (by simp) (one ⟨rfl, rfl⟩))).mono ?_
  rintro e W5 (⟨h, _⟩ | ⟨_, rfl, B5⟩)
  · exact absurd h nA
  replace X1 := (box2_past X1 _).below B5
  replace X6 := (box2_past X6 _).below B5
  replace X8 := (box2_past X8 _).below B5
  replace N := (bts_past N _).below B5
  replace B5 := step_below (B4.alloc B4.size _) B5
  clear B4
  go_wp2_with fail
  refine (join_some _ 0 2 2 XB LB XB_w (by omega) (by omega) _ (sls_at _ _ _ _ _ _ _ _ (by simp) (two ⟨rfl, rfl⟩ ⟨rfl, rfl⟩))).mono ?_
  rintro e W6 (⟨_, v, rfl, ho, B6⟩ | ⟨h, _⟩)
  rotate_left
  · exact absurd yB h
  rw [tB] at ho
  obtain ⟨g, gc, rfl, hg, hcg⟩ := own_pos ho (by omega)
  have G := hcg 8 _ fB
  rw [addr_add] at G
  simp only [Nat.zero_add] at G
  clear ho hcg hg
  replace X1 := (box2_past X1 _).below B6
  replace X6 := (box2_past X6 _).below B6
  replace X8 := (box2_past X8 _).below B6
  replace N := (bts_past N _).below B6
  replace B6 := step_below (B5.alloc B5.size _) B6
  clear B5
  go_wp2_with fail
  refine (join_none _ _ _).mono ?_
  rintro e w' ⟨rfl, rfl⟩
  go_wp2_with fail
  refine (join_some _ 0 2 2 XC LC XC_w (by omega) (by omega) _ (sls_at _ _ _ _ _ _ _ _ (by simp) (two ⟨rfl, rfl⟩ ⟨rfl, rfl⟩))).mono ?_
  rintro e W7 (⟨h, _⟩ | ⟨_, rfl, B7⟩)
  · exact absurd h nC
  replace X1 := (box2_past X1 _).below B7
  replace X6 := (box2_past X6 _).below B7
  replace X8 := (box2_past X8 _).below B7
  replace N := (bts_past N _).below B7
  replace G := (B7.cell (p := ⟨g, 8, none⟩) (by have : g < W6.heap.size := block_lt_of_cell G; simp; omega)).trans ((World.cell?_alloc_past _ _ _ (block_lt_of_cell G)).trans G)
  replace B7 := step_below (B6.alloc B6.size _) B7
  clear B6
  go_wp2_with fail
  refine (num_law _ _).mono ?_
  rintro e w' ⟨rfl, rfl⟩
  have a1 := X1.c0
  have a2 := X1.c1
  have a3 := X6.c1
  have a4 := X8.c0
  have a5 := X8.c1
  have NN := Lib.hid N
  clear N X1 X6 X8
  have v8 := v_cnt8
  have v9 := v_cnt9
  go_wp2_with fail
  refine (num_law _ _).mono ?_; rintro e w' ⟨rfl, rfl⟩
  go_wp2_with fail
  refine (num_law _ _).mono ?_; rintro e w' ⟨rfl, rfl⟩
  go_wp2_with fail
  refine (num_law _ _).mono ?_; rintro e w' ⟨rfl, rfl⟩
  go_wp2_with fail
  refine (num_law _ _).mono ?_; rintro e w' ⟨rfl, rfl⟩
  go_wp2_with fail
  refine (num_law _ _).mono ?_; rintro e w' ⟨rfl, rfl⟩
  go_wp2_with fail
  refine (count_any _ 8 _ (by omega) _).mono ?_; rintro e w' ⟨rfl, rfl⟩
  rw [v8]
  go_wp2_with fail
  refine (count_any _ 9 _ (by omega) _).mono ?_; rintro e w' ⟨rfl, rfl⟩
  rw [v9]
  go_wp2_with fail
  clear a1 a2 a3 a4 a5 v8 v9
  refine (compare_law _ _ _ _ _).mono ?_
  rintro e W8 ⟨rfl, B8⟩
  rw [v_cmp]
  replace NN := NN.out.below B8
  replace G := (B8.cell (p := ⟨g, 8, none⟩) (block_lt_of_cell G)).trans G
  replace B8 := step_below B7 B8
  clear B7
  go_wp2_with fail
  refine (comparekeys_law _ _ 1 1 2 2 fa1 fa2 fa1_fits fa2_fits (by omega) (by omega) (by omega) (by omega) _ (bts_past (bts_at _ _ _ _ _ _ _ (by simp) (one rfl)) _) (bts_at _ _ _ _ _ _ _ (by simp) (two rfl rfl))).mono ?_
  rintro e W9 ⟨rfl, B9⟩
  rw [v_ck]
  replace NN := (bts_past (bts_past NN _) _).below B9
  replace G := (B9.cell (p := ⟨g, 8, none⟩) (by have : g < W8.heap.size := block_lt_of_cell G; simp; omega)).trans ((World.cell?_alloc_past _ _ _ (by have : g < W8.heap.size := block_lt_of_cell G; simp; omega)).trans ((World.cell?_alloc_past _ _ _ (block_lt_of_cell G)).trans G))
  replace B9 := step_below ((B8.alloc B8.size _).alloc (by have := B8.size; simp; omega) _) B9
  clear B8
  replace NN := Lib.hid NN
  go_wp2_with fail
  refine (shared_law _ _ 9 9 9 9 fnine fnine fnine_fits fnine_fits (by omega) (by omega) (by omega) (by omega) _ NN.out NN.out).mono ?_
  rintro e W10 ⟨rfl, B10⟩
  rw [v_sh]
  replace G := (B10.cell (p := ⟨g, 8, none⟩) (block_lt_of_cell G)).trans G
  replace B10 := step_below B9 B10
  clear B9 NN
  go_wp2_with fail
  refine (num_law _ _).mono ?_; rintro e w' ⟨rfl, rfl⟩
  go_wp2_with fail
  refine (num_law _ _).mono ?_; rintro e w' ⟨rfl, rfl⟩
  go_wp2_with fail
  go_ret
  exact ⟨rfl, B10⟩

end Go.Proofs.Ytjclhoibmoehiaa
