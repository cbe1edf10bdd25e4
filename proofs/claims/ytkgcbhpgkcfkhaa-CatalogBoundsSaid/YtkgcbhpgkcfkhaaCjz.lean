/- Entries deleted out of a list of one's own, by contracts. -/
import Derived.Test.YtkgcbhpgkcfkhaaCjx
import Derived.Lib.SliceRun
namespace Go.Proofs.Ytkgcbhpgkcfkhaa
open Go.ChangeShapes Go.WideShapes Go.ChangeAt Go.RowKit Go.Shelf
set_option linter.unusedVariables false
set_option linter.unusedSimpArgs false

theorem own_setCells {base n size cap g : Nat} {e : TypeId} : ∀ (vs : List Value) (o : Nat) (w : World) (xs : List Value), w.ownsRow base e size (.slice (some ⟨g, 0, none⟩) n cap) n xs →
    ∃ xs', (w.setCells g o vs).ownsRow base e size (.slice (some ⟨g, 0, none⟩) n cap) n xs' ∧ xs'.take o = xs.take o ∧ w.grownBy (w.setCells g o vs) (some g)
  | [], o, w, xs, h => ⟨xs, h, rfl, ⟨rfl, rfl, rfl, Nat.le_refl _, fun _ _ _ => rfl⟩⟩
  | v :: r, o, w, xs, h => by
    obtain ⟨h1, h2⟩ := h.stored o v
    obtain ⟨xs', k1, k2, k3⟩ := own_setCells r (o + 1) _ _ h1
    refine ⟨xs', k1, ?_, h2.trans k3⟩
    have := congrArg (List.take o) k2
    rw [List.take_take, List.take_take, Nat.min_eq_left (by omega)] at this
    rw [this]
    exact List.take_set_of_le (Nat.le_refl _)
/-- What is kept while a list is rewritten. -/
structure DI (q : E1 → Bool) (L M : List E1) (i j : Nat) : Prop where
  len : M.length = L.length
  pre : M.take i = (L.take j).filter fun x => !q x
  post : M.drop j = L.drop j
  lt : i < j
  le : j ≤ L.length
theorem DI.start {q : E1 → Bool} {L : List E1} {k : Nat} {e : E1} (h : ∀ j < k, ∀ p, L[j]? = some p → q p = false) (he : L[k]? = some e) (hq : q e = true) : DI q L L k (k + 1) := by
  have hk := (List.getElem?_eq_some_iff.1 he).1
  refine ⟨rfl, ?_, rfl, by omega, by omega⟩
  rw [List.take_add_one, he, List.filter_append]
  simp only [Option.toList_some, List.filter_cons, hq, Bool.not_true, Bool.false_eq_true, if_false, List.filter_nil, List.append_nil]
  symm
  apply List.filter_eq_self.2
  intro x hx
  obtain ⟨j, hj, rfl⟩ := List.getElem_of_mem hx
  rw [List.getElem_take]
  rw [List.length_take] at hj
  have hj1 : j < k := by omega
  have hj2 : j < L.length := by omega
  rw [h j hj1 _ (List.getElem?_eq_getElem hj2)]
  rfl
theorem DI.at {q : E1 → Bool} {L M : List E1} {i j : Nat} (h : DI q L M i j) : M[j]? = L[j]? := by
  have := congrArg (fun l : List E1 => l[0]?) h.post
  simpa using this
theorem DI.skip {q : E1 → Bool} {L M : List E1} {i j : Nat} {e : E1} (h : DI q L M i j) (he : L[j]? = some e) (hq : q e = true) : DI q L M i (j + 1) := by
  have hk := (List.getElem?_eq_some_iff.1 he).1
  refine ⟨h.len, ?_, ?_, by have := h.lt; omega, by omega⟩
  · rw [h.pre, List.take_add_one, he, List.filter_append]
    simp [hq]
  · have := congrArg (List.drop 1) h.post
    simpa [List.drop_drop, Nat.add_comm] using this
theorem DI.keep {q : E1 → Bool} {L M : List E1} {i j : Nat} {e : E1} (h : DI q L M i j) (he : L[j]? = some e) (hq : q e = false) : DI q L (M.set i e) (i + 1) (j + 1) := by
  have hk := (List.getElem?_eq_some_iff.1 he).1
  have hl := h.lt
  have hlen := h.len
  refine ⟨by simpa using h.len, ?_, ?_, by omega, by omega⟩
  · rw [List.take_add_one, List.getElem?_set_self (by omega), List.take_set_of_le (Nat.le_refl _), h.pre, List.take_add_one (i := j), he, List.filter_append]
    simp [hq]
  · rw [List.drop_set_of_lt (by omega)]
    have := congrArg (List.drop 1) h.post
    simpa [List.drop_drop, Nat.add_comm] using this
theorem DI.done {q : E1 → Bool} {L M : List E1} {i : Nat} (h : DI q L M i L.length) : M.take i = (L.filter fun x => !q x) ∧ (L.filter fun x => !q x).length = i := by
  have h1 := h.pre
  rw [List.take_length] at h1
  have := h.lt
  have := h.len
  exact ⟨h1, by rw [← h1, List.length_take]; omega⟩
theorem DI.mem {q : E1 → Bool} {L : List E1} {x : E1} (h : x ∈ L.filter fun x => !q x) : x ∈ L := (List.mem_filter.1 h).1
theorem ev_length (L : List E1) : (ev L).length = L.length * 2 := by
  induction L with
  | nil => rfl
  | cons a r ih => simp only [ev, List.flatMap_cons, List.length_append, List.length_cons, List.length_nil] at ih ⊢; omega
theorem ev_set (L : List E1) (x : E1) : ∀ i, ev (L.set i x) = ((ev L).set (i * 2) (.int .i64 x.1)).set (i * 2 + 1) x.2.v := by
  induction L with
  | nil => intro i; simp [ev]
  | cons a r ih =>
    intro i
    cases i with
    | zero => simp [ev]
    | succ i =>
      have := ih i
      simp only [ev, List.flatMap_cons, List.cons_append, List.nil_append, List.set_cons_succ] at this ⊢
      rw [this, show (i + 1) * 2 = i * 2 + 1 + 1 by omega]
      simp
theorem ev_take (L : List E1) (i : Nat) : ev (L.take i) = (ev L).take (i * 2) := by
  induction L generalizing i with
  | nil => simp [ev]
  | cons a r ih =>
    cases i with
    | zero => simp [ev]
    | succ i =>
      have := ih i
      simp only [ev, List.take_succ_cons, List.flatMap_cons, List.cons_append, List.nil_append] at this ⊢
      rw [this, show (i + 1) * 2 = i * 2 + 1 + 1 by omega]
      simp
/-- A list read out of the row's first places. -/
theorem enr_prefix {w : World} {base n cap g : Nat} {xs : List Value} (h : w.ownsRow base 91 2 (.slice (some ⟨g, 0, none⟩) n cap) n xs) (L : List E1) (hl : L.length ≤ n) (hx : xs.take (L.length * 2) = ev L) (hk : ∀ t v, (t, v) ∈ L → Ls .u8 w v.ad v.cap v.bs) : EnR w (some ⟨g, 0, none⟩) L := fun k p hp => by
  have hk' := (List.getElem?_eq_some_iff.1 hp).1
  have hc : ∀ j, j < L.length * 2 → w.cell? ⟨g, j, none⟩ = (ev L)[j]? := fun j hj => by
    rw [h.cellAt j (by omega), ← hx, List.getElem?_take, if_pos hj]
  refine ⟨g, 0, rfl, ?_, ?_, hk p.1 p.2 (List.mem_of_getElem? hp)⟩
  · rw [Nat.zero_add, hc _ (by omega)]; exact (ev_at L k p hp).1
  · rw [Nat.zero_add, hc _ (by omega)]; exact (ev_at L k p hp).2
theorem clear_run (W : World) (ty : TypeId) (g o n c : Nat) (hn : 0 < n) (hc : ∀ j, j < n * 2 → (W.cell? ⟨g, o + j, none⟩).isSome = true) (hf : ∀ j, j < n * 2 → W.frozen? ⟨g, o + j, none⟩ = false) :
    ∃ vs, (Builtin.clear_ #[68] ty #[.slice (some ⟨g, o, none⟩) n c]).run Try.prog W = .ok (.tuple #[]) (W.setCells g o vs) := by
  obtain ⟨i0, hi, hz0, hz1, hz2⟩ := info_parts info91
  refine ⟨(Builtin.zeroCells #[.int .i64 0, .slice none 0 0] n).toList, ?_⟩
  have hv : (zeroValue 91).run Try.prog W = .ok (.agg #[.int .i64 0, .slice none 0 0]) W := by simp [zeroValue, typeInfo, hi, hz0]
  have hst := run_storeCells_cells (P := Try.prog) g o (Builtin.zeroCells #[.int .i64 0, .slice none 0 0] n).toList 0 W (by simpa [Builtin.zeroCells] using hc) (by simpa [Builtin.zeroCells] using hf) (by
    intro v hv'
    simp only [Builtin.zeroCells, Array.toList_map, List.mem_map] at hv'
    obtain ⟨j, _, rfl⟩ := hv'
    rcases (show j % 2 = 0 ∨ j % 2 = 1 by omega) with h | h <;> simp [h, Value.oneCell'])
  simp only [Nat.add_zero] at hst
  obtain ⟨m, rfl⟩ : ∃ m, n = m + 1 := ⟨n - 1, by omega⟩
  simp [Builtin.clear_, run_underlying Try.underlying68, hv, hst, Value.cells]
theorem lo_run (W : World) (g n c i : Nat) (hi : i < n) (hnc : n ≤ c) (hn : n ≤ 1000000) : (Instr.slice 68 (.slice (some ⟨g, 0, none⟩) n c) (some (.int .i64 (i : Int))) .none .none).run Try.prog W = .ok (.slice (some ⟨g, i * 2, none⟩) (n - i) (c - i)) W := by
  obtain ⟨i0, hi0, hz0, hz1, hz2⟩ := info_parts info91
  have hel : Try.prog.elem 68 = 91 := by simp [Program.elem, Try.underlying68]
  rw [run_slice_l (P := Try.prog) (w := W) 68 (some ⟨g, 0, none⟩) n c (by rw [hel]; exact Try.underlying68) .i64 i (by omega) (by omega)]
  have hs : ((sizeOf (Try.prog.elem 68)).run Try.prog W) = .ok 2 W := by rw [hel]; simp [sizeOf, typeInfo, hi0, hz1]
  rw [hs]
  have hci : ¬ c = i := by omega
  by_cases h0 : i = 0
  · subst h0; simp [sliced, Result.andThen, Addr.add]
  · have h2 : ¬ i * 2 = 0 := by omega
    simp [sliced, Result.andThen, Addr.add, hci, h2]
theorem hi_run (W : World) (g n c i : Nat) (hi : i ≤ n) (hnc : n ≤ c) : (Instr.slice 68 (.slice (some ⟨g, 0, none⟩) n c) .none (some (.int .i64 (i : Int))) .none).run Try.prog W = .ok (.slice (some ⟨g, 0, none⟩) i c) W := by
  obtain ⟨i0, hi0, hz0, hz1, hz2⟩ := info_parts info91
  have hel : Try.prog.elem 68 = 91 := by simp [Program.elem, Try.underlying68]
  rw [run_slice_h (P := Try.prog) (w := W) 68 (some ⟨g, 0, none⟩) n c (by rw [hel]; exact Try.underlying68) .i64 i (by omega) (by omega)]
  have hs : ((sizeOf (Try.prog.elem 68)).run Try.prog W) = .ok 2 W := by rw [hel]; simp [sizeOf, typeInfo, hi0, hz1]
  rw [hs]
  simp [sliced, Result.andThen, Addr.add]
set_option maxRecDepth 100000 in
set_option maxHeartbeats 4000000 in
theorem delete_law (gf : Nat) (eg : ∀ args w, (callFunc gf args).run Try.prog w = .ok (.enter gf args) w) (pa : Addr) (q : E1 → Bool) (a : Option Addr) (cap : Nat) (L : List E1) (n : Nat) (hn : L.length = n) (hn3 : n ≤ 1000000) (w0 w : World) (B0 : Below w0.heap.size w0 w)
    (hown : w.ownsRow w0.heap.size 91 2 (.slice a n cap) n (ev L)) (hl : ∀ t v, (t, v) ∈ L → Ls .u8 w0 v.ad v.cap v.bs) (hg : ∀ W, Below w0.heap.size w0 W → PredE gf pa q L W) :
    Calls Try.prog 81 #[.slice a n cap, .func (.func gf) #[] #[.pointer (some pa)]] w fun r w' => ∃ a' c', r = .returned (.slice a' (L.filter fun x => !q x).length c') ∧ EnR w' a' (L.filter fun x => !q x) ∧ Below w0.heap.size w0 w' := by
  have hle : EnR w a L := by
    obtain ⟨a', c', e, h⟩ := own_enr hown hn (fun p hp => (hl p.1 p.2 hp).below B0)
    cases e
    exact h
  have HI := Lib.hid (index_law gf eg pa q a L n cap hn hn3 w hle fun W hW => hg W (B0.trans (hW.mono B0.size)))
  rcases fstI_spec q L with ⟨e, ha⟩ | ⟨k, hk, e, ha, hpre, x, hx, hqx⟩
  · have hf : (L.filter fun x => !q x) = L := List.filter_eq_self.2 fun x hx => by
      have : ¬ q x = true := fun h => by rw [List.any_eq_true.2 ⟨x, hx, h⟩] at ha; cases ha
      simpa using this
    rw [hf, hn]
    rw [e] at HI
    have HLE := Lib.hid hle
    have HB0 := Lib.hid B0
    clear hown hl hg hle hf ha e hn B0
    go_enter Try.func81, Try.ntmps81
    go_wp2_with fail
    refine HI.out.mono ?_; rintro r w' ⟨rfl, B1⟩
    go_wp2_with fail
    go_ret
    exact ⟨a, cap, rfl, HLE.out.below B1, HB0.out.trans (B1.mono HB0.out.size)⟩
  · obtain ⟨g, rfl⟩ : ∃ g, a = some ⟨g, 0, none⟩ := by
      rcases hown.2 with ⟨e1, _⟩ | ⟨g, _, _, e1, _⟩
      · cases e1; omega
      · cases e1; exact ⟨g, rfl⟩
    rw [e] at HI
    have hke : ((k : Int) == -1) = false := beq_eq_false_iff_ne.2 (by omega)
    have hk9 : (k : Int) ≤ 1000000 := by omega
    have HD := Lib.hid (DI.start hpre hx hqx)
    have HL := Lib.hid hl
    have HG := Lib.hid hg
    have HN := Lib.hid hn
    have HOWN := Lib.hid hown
    have HB0 := Lib.hid B0
    clear hown hl hg hle hpre hx hqx ha e B0 hk hn
    go_enter Try.func81, Try.ntmps81
    go_wp2_with fail
    refine HI.out.mono ?_; rintro r w' ⟨rfl, B1⟩
    have HO1 := Lib.hid (own_kept HOWN.out B1)
    have HB1 := Lib.hid (HB0.out.trans (B1.mono HB0.out.size))
    clear B1
    go_wp2_with fail
    go_loopw [5, 6, 7] (fun s5 s6 s7 wr => ∃ (i j : Nat) (M : List E1), s5 = .int .i64 i ∧ s6 = .int .i64 j ∧ DI q L M i j ∧ wr.ownsRow w0.heap.size 91 2 (.slice (some ⟨g, 0, none⟩) n cap) n (ev M) ∧ Below w0.heap.size w0 wr) (fun _ s6 _ _ => n - (intOf s6).toNat)
    case atStart => exact ⟨k, k + 1, L, rfl, by go_num, HD.out, HO1.out, HB1.out⟩
    case round =>
      obtain ⟨i, j, M, rfl, rfl, hD, hown, B2⟩ := hrel
      have HD2 := Lib.hid hD
      have HO2 := Lib.hid hown
      have HB2 := Lib.hid B2
      have hij := hD.lt
      have hjn : j ≤ n := by rw [← HN.out]; exact hD.le
      clear hD hown B2
      by_cases hlt : j < n
      · have hjl : (j : Int) < (n : Int) := by omega
        have hj9 : (j : Int) ≤ 1000000 := by omega
        have hi9 : (i : Int) ≤ 1000000 := by omega
        have hil : (i : Int) < (n : Int) := by omega
        obtain ⟨x, hx⟩ : ∃ x, L[j]? = some x := ⟨_, List.getElem?_eq_getElem (by rw [HN.out]; exact hlt)⟩
        have hM := HD2.out.at.trans hx
        have m0 := (ev_at M j x hM).1
        have m1 := (ev_at M j x hM).2
        obtain ⟨xt, ⟨xa, xc, xl⟩⟩ := x
        have cj0 : wr.cell? ⟨g, j * 2, none⟩ = some (.int .i64 xt) := by rw [HO2.out.cellAt _ (by omega)]; exact m0
        have cj1 : wr.cell? ⟨g, j * 2 + 1, none⟩ = some (.slice xa xl.length xc) := by rw [HO2.out.cellAt _ (by omega)]; exact m1
        obtain ⟨y, hy⟩ : ∃ y, M[i]? = some y := ⟨_, List.getElem?_eq_getElem (by rw [HD2.out.len, HN.out]; omega)⟩
        have m2 := Lib.hid (ev_at M i y hy).1
        have m3 := Lib.hid (ev_at M i y hy).2
        obtain ⟨yt, yv⟩ := y
        clear hy
        have hc : Calls Try.prog gf #[.agg #[.int .i64 xt, .slice xa xl.length xc], .pointer (some pa)] (wr.alloc (.cells #[.int .i64 xt, .slice xa xl.length xc] 91)) _ := HG.out _ (HB2.out.alloc HB2.out.size _) xt ⟨xa, xc, xl⟩ (List.mem_of_getElem? hx)
        have HX := Lib.hid hx
        have HC := Lib.hid hc
        clear hx hM m0 m1 hc
        by_cases hq : q (xt, ⟨xa, xc, xl⟩) = true
        · have HQ := Lib.hid hq
          clear hq
          go_wp2_with (go_at_fn gf; refine HC.out.mono ?_; rintro r w' ⟨rfl, B1⟩; rw [HQ.out])
          have HB3 := Lib.hid ((HB2.out.alloc HB2.out.size (.cells #[.int .i64 xt, .slice xa xl.length xc] 91)).trans (B1.mono (HB2.out.alloc HB2.out.size _).size))
          have HO3 := Lib.hid (own_kept (HO2.out.alloc (.cells #[.int .i64 xt, .slice xa xl.length xc] 91)) B1)
          clear B1
          go_roundw
          case rel => exact ⟨i, j + 1, M, rfl, by go_num, HD2.out.skip HX.out HQ.out, HO3.out, HB3.out⟩
          case measure => simp [intOf]; omega
        · have HQ := Lib.hid (show q (xt, ⟨xa, xc, xl⟩) = false by simpa using hq)
          clear hq
          go_wp2_with (go_at_fn gf; refine HC.out.mono ?_; rintro r w3 ⟨rfl, B1⟩; rw [HQ.out]; have HB3 := Lib.hid ((HB2.out.alloc HB2.out.size (.cells #[.int .i64 xt, .slice xa xl.length xc] 91)).trans (B1.mono (HB2.out.alloc HB2.out.size _).size)); have HO3 := Lib.hid (own_kept (HO2.out.alloc (.cells #[.int .i64 xt, .slice xa xl.length xc] 91)) B1); have ci0 : w3.cell? ⟨g, i * 2, none⟩ = some (.int .i64 yt) := (by rw [HO3.out.cellAt _ (by omega)]; exact m2.out); have ci1 : w3.cell? ⟨g, i * 2 + 1, none⟩ = some yv.v := (by rw [HO3.out.cellAt _ (by omega)]; exact m3.out); have fi0 : w3.frozen? ⟨g, i * 2, none⟩ = false := HO3.out.frozenAt _; have fi1 : w3.frozen? ⟨g, i * 2 + 1, none⟩ = false := HO3.out.frozenAt _; have bx0 : w3.cell? ⟨wr.heap.size, 0, none⟩ = some (.int .i64 xt) := (B1.cell (p := ⟨wr.heap.size, 0, none⟩) (by simp)).trans (by rw [cell_new]; rfl); have bx1 : w3.cell? ⟨wr.heap.size, 1, none⟩ = some (.slice xa xl.length xc) := (B1.cell (p := ⟨wr.heap.size, 1, none⟩) (by simp)).trans (by rw [cell_new]; rfl); clear B1)
          go_roundw
          case rel => exact ⟨i + 1, j + 1, M.set i (xt, ⟨xa, xc, xl⟩), by go_num, by go_num, HD2.out.keep HX.out HQ.out, by rw [ev_set]; exact ((HO3.out.stored _ _).1.stored _ _).1, (HB3.out.grown (HO3.out.stored (i * 2) _).2 HB3.out.size (fun j hj => by cases hj; exact (HO3.out.lt g rfl).1)).grown ((HO3.out.stored (i * 2) _).1.stored (i * 2 + 1) _).2 (by simpa using HB3.out.size) (fun j hj => by cases hj; exact (HO3.out.lt g rfl).1)⟩
          case measure => simp [intOf]; omega
      · obtain rfl : j = n := by omega
        have hjl : ¬ (j : Int) < (j : Int) := by omega
        have hnc : j ≤ cap := by
          rcases HO2.out.2 with ⟨e1, _⟩ | ⟨_, _, _, e1, _, _, h, _⟩
          · cases e1
          · cases e1; exact h
        have q1 : ∀ W : World, (Instr.slice 68 (.slice (some ⟨g, 0, none⟩) j cap) (some (.int .i64 (i : Int))) .none .none).run Try.prog W = .ok (.slice (some ⟨g, i * 2, none⟩) (j - i) (cap - i)) W := fun W => lo_run W g j cap i (by omega) hnc hn3
        have q2 : ∀ W : World, (Instr.slice 68 (.slice (some ⟨g, 0, none⟩) j cap) .none (some (.int .i64 (i : Int))) .none).run Try.prog W = .ok (.slice (some ⟨g, 0, none⟩) i cap) W := fun W => hi_run W g j cap i (by omega) hnc
        obtain ⟨vs, q3⟩ : ∃ vs, ∀ ty, (Builtin.clear_ #[68] ty #[.slice (some ⟨g, i * 2, none⟩) (j - i) (cap - i)]).run Try.prog wr = .ok (.tuple #[]) (wr.setCells g (i * 2) vs) := by
          obtain ⟨vs, h⟩ := clear_run wr 0 g (i * 2) (j - i) (cap - i) (by omega) (fun m hm => by
            rw [HO2.out.cellAt _ (by omega), List.getElem?_eq_getElem (by rw [ev_length, HD2.out.len, HN.out]; omega)]; rfl) (fun m _ => HO2.out.frozenAt _)
          exact ⟨vs, fun _ => h⟩
        obtain ⟨xs', o1, o2, o3⟩ := own_setCells vs (i * 2) wr _ HO2.out
        have HO := Lib.hid o1
        have HX := Lib.hid o2
        have HB := Lib.hid (HB2.out.grown o3 HB2.out.size (fun j hj => by cases hj; exact (HO2.out.lt g rfl).1))
        have hD := HD2.out
        rw [← HN.out] at hD
        have HF := Lib.hid hD.done
        have HIL := Lib.hid (show i ≤ j by omega)
        clear o1 o2 o3 hD hnc hij hlt
        go_wp2_with fail
        go_ret
        rw [HF.out.2]
        refine ⟨_, ⟨_, rfl⟩, enr_prefix HO.out _ (by rw [HF.out.2]; exact HIL.out) ?_ (fun t v h => (HL.out t v (DI.mem h)).below HB.out), HB.out⟩
        rw [HF.out.2, HX.out, ← ev_take, HF.out.1]
end Go.Proofs.Ytkgcbhpgkcfkhaa
