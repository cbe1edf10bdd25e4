/- How many trees, by a contract. -/
import Derived.Test.YtkgcbhpgkcfkhaaCjb
namespace Go.Proofs.Ytkgcbhpgkcfkhaa
open Go.ChangeShapes Go.WideShapes Go.ChangeAt Go.RowKit Go.Shelf
set_option linter.unusedVariables false
set_option linter.unusedSimpArgs false
attribute [local go_sem] Oper.semAt_some

theorem KP.set {base Bs : Nat} {cs : Array Value} {W : World} {B o : Nat} {v : Value} (hB : base ≤ B) (hne : Bs ≠ B) : KP base Bs cs W (W.setCell ⟨B, o, none⟩ v) :=
  ⟨(Below.refl base W).setCell (p := ⟨B, o, none⟩) hB v, fun hb => (Below.heap_setCell W ⟨B, o, none⟩ v Bs hne).trans hb⟩
theorem named_len (j : Job) (h : j.T.length = j.n) : (named j).length ≤ 12 := by
  by_cases ho : okB j = true
  · rw [named_ok ho]
    have h1 := nmL_len j.T j.T.length 0 (Nat.le_refl _) (okB_T ho)
    rw [List.take_length] at h1
    have := (okB_n ho).2
    omega
  · rw [named_no (by simpa using ho)]; simp
theorem boxed_below {W W' : World} {B : Nat} {t : TypeId} {v : Value} (h : Boxed W B t v) (hb : Below W.heap.size W W') : Boxed W' B t v := (hb.block B h.lt).trans h
set_option maxRecDepth 100000 in
set_option maxHeartbeats 4000000 in
theorem trees_law (j : Job) (w : World) (hj : JobAt w j) :
    Calls Try.prog 38 #[.agg #[.int .i64 j.w, .int .i64 j.l, .int .i64 j.d, .int .i64 j.c, .int .i64 j.k, .int .i64 j.e, .slice j.a j.n j.cap]] w fun r w' => r = .returned (.int .i64 ((named j).length : Int)) ∧ Below w.heap.size w w' := by
  have HJ := Lib.hid hj
  clear hj
  refine (callsIn_wide (n := 6)).1 ?_
  refine callsIn_of_wp_marks Try.func38 rfl trivial ?_ rfl
  simp only [Try.ntmps38, List.size_toArray, List.length_cons, List.length_nil, Nat.reduceAdd, Nat.reduceSub, Array.replicate_succ, Array.replicate_zero, List.push_toArray, List.append_toArray, List.nil_append, List.cons_append]
  gi_wp2_with fail
  refine ⟨trivial, ?_⟩
  refine (callsIn_wide.2 (all_in j _)).mono ?_
  rintro e w' ⟨rfl, rfl⟩
  gi_wp2_with fail
  have hbw : Below w.heap.size w (((w.alloc (.cells #[.int .i64 j.w, .int .i64 j.l, .int .i64 j.d, .int .i64 j.c, .int .i64 j.k, .int .i64 j.e, .slice j.a j.n j.cap] 53)).alloc (.cells #[.int .i64 0] 3)).alloc (.cells #[.int .i64 j.w, .int .i64 j.l, .int .i64 j.d, .int .i64 j.c, .int .i64 j.k, .int .i64 j.e, .slice j.a j.n j.cap] 53)) := (((Below.refl _ w).alloc (Nat.le_refl _) _).alloc (by simp) _).alloc (by simp; omega) _
  have bN := (Boxed.new (w.alloc (.cells #[.int .i64 j.w, .int .i64 j.l, .int .i64 j.d, .int .i64 j.c, .int .i64 j.k, .int .i64 j.e, .slice j.a j.n j.cap] 53)) 3 (.int .i64 0)).alloc (.cells #[.int .i64 j.w, .int .i64 j.l, .int .i64 j.d, .int .i64 j.c, .int .i64 j.k, .int .i64 j.e, .slice j.a j.n j.cap] 53)
  have bA := BoxC.new ((w.alloc (.cells #[.int .i64 j.w, .int .i64 j.l, .int .i64 j.d, .int .i64 j.c, .int .i64 j.k, .int .i64 j.e, .slice j.a j.n j.cap] 53)).alloc (.cells #[.int .i64 0] 3)) #[.int .i64 j.w, .int .i64 j.l, .int .i64 j.d, .int .i64 j.c, .int .i64 j.k, .int .i64 j.e, .slice j.a j.n j.cap] 53
  simp only [World.size_alloc] at bN bA
  have hsz : (((w.alloc (.cells #[.int .i64 j.w, .int .i64 j.l, .int .i64 j.d, .int .i64 j.c, .int .i64 j.k, .int .i64 j.e, .slice j.a j.n j.cap] 53)).alloc (.cells #[.int .i64 0] 3)).alloc (.cells #[.int .i64 j.w, .int .i64 j.l, .int .i64 j.d, .int .i64 j.c, .int .i64 j.k, .int .i64 j.e, .slice j.a j.n j.cap] 53)).heap.size = w.heap.size + 3 := by simp
  obtain ⟨W0, hW0⟩ : ∃ W0, ((w.alloc (.cells #[.int .i64 j.w, .int .i64 j.l, .int .i64 j.d, .int .i64 j.c, .int .i64 j.k, .int .i64 j.e, .slice j.a j.n j.cap] 53)).alloc (.cells #[.int .i64 0] 3)).alloc (.cells #[.int .i64 j.w, .int .i64 j.l, .int .i64 j.d, .int .i64 j.c, .int .i64 j.k, .int .i64 j.e, .slice j.a j.n j.cap] 53) = W0 := ⟨_, rfl⟩
  rw [hW0] at bN bA hbw hsz ⊢
  clear hW0
  have hnl := named_len j (by have := HJ.out.len; omega)
  refine wpIn_rangeFunc_ownH rfl (by omega) (gf := 98) (lb := #[.pointer (some ⟨w.heap.size + 1 + 1, 0, none⟩)]) rfl trivial (enters_of Try.func98 (by kernel_rfl) rfl)
    (all_stops 5 (by omega) j w HJ.out (w.heap.size + 1 + 1) W0 hbw bA) KP.trans (fun W l o o' h1 h2 h3 h4 => KP.put (w := W0) (by omega) W l o o' h1 h2 h3 h4) (Below.refl _ _) (fun _ => rfl)
    (fun pre W => (∃ m : Nat, m = pre.length ∧ Boxed W (w.heap.size + 1) 3 (.int .i64 m)) ∧ Below w.heap.size w W)
    (fun c pre W => False)
    (OwnFrom.and (Own.from (fun s X Y row hs hg hr => by obtain ⟨m, em, hm⟩ := hs; exact ⟨m, em, boxed_own _ 3 (fun (_ : Unit) => Value.int .i64 m) () X Y row hm hg hr⟩) _) (ownFrom_below (Nat.le_refl _) (by omega)))
    (fun c s X Y row hs _ _ => hs)
    ⟨⟨0, by simp, bN⟩, hbw⟩
    (fun x a' W => a' = { tmps := #[.agg #[.int .i64 j.w, .int .i64 j.l, .int .i64 j.d, .int .i64 j.c, .int .i64 j.k, .int .i64 j.e, .slice j.a j.n j.cap], .pointer (some ⟨w.heap.size, 0, none⟩), .int .i64 0, .pointer (some ⟨w.heap.size + 1, 0, none⟩), .agg #[.int .i64 j.w, .int .i64 j.l, .int .i64 j.d, .int .i64 j.c, .int .i64 j.k, .int .i64 j.e, .slice j.a j.n j.cap], .func (.func 98) #[] #[.pointer (some ⟨w.heap.size + 1 + 1, 0, none⟩)], .int .i64 (x.1 : Int), .agg #[.int .i64 x.2.1, .int .i64 x.2.2], undef, undef, undef], defers := [] })
    (fun x a' _ X Y row hs _ _ => hs)
    ?assign ?body ?done ?stop
  case assign =>
    rintro l pre x W K ⟨⟨m, em, bN1⟩, hB1⟩ hK
    dsimp only [encs]
    gi_wp2
    exact hK _ _ (KeepsFrom.refl _ _) ⟨Below.refl _ _, fun h => h⟩ ⟨⟨m, em, bN1⟩, hB1⟩ (by simp)
  case body =>
    rintro l pre x a' W hl _ ⟨⟨m, em, bN1⟩, hB1⟩ rfl hlt
    have cN := bN1.cell
    have fN := bN1.frozen
    have hm12 : m ≤ 12 := by omega
    have hmi : (m : Int) ≤ 12 := by omega
    replace em := Lib.hid em
    gi_wp2
    exact ⟨(KeepsOthers.setCell _ _ _).from _, KP.set (by omega) (by omega), ⟨⟨m + 1, by simp [em.out], bN1.set _⟩, hB1.setCell (p := ⟨w.heap.size + 1, 0, none⟩) (by simp) _⟩⟩
  case done =>
    rintro D zs W hD rfl ⟨⟨m, em, bN1⟩, hB1⟩ hK
    rw [idx_length] at em
    have cN := bN1.cell
    replace em := Lib.hid em
    gi_wp2
    refine ⟨by simp, .inl ⟨_, _, rfl, run_takeDeferred hK, ?_⟩⟩
    exact ⟨_, results_tmp rfl _ _ _, by rw [← em.out]; rfl, hB1.trans (belowK_b (w := w) (Nat.le_refl _) W D _ _ (by omega) hK rfl rfl)⟩
  case stop =>
    rintro D c pre W hD _ h
    exact h.elim
end Go.Proofs.Ytkgcbhpgkcfkhaa
