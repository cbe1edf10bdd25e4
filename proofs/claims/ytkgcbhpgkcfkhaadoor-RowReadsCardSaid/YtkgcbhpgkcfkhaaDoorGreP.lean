/- 'RowReads' returns true whatever its arguments, which read afterwards as before; the package-level variables that its row lists are tied to the program's text. No further condition. -/
import Derived.Test.YtkgcbhpgkcfkhaaDoorGre
import Derived.Test.YtkgcbhpgkcfkhaaDoorFrm
import Derived.Test.YtkgcbhpgkcfkhaaDoorCards
import Derived.Test.YtkgcbhpgkcfkhaaDoorTie
import Derived.SizedLaws
namespace Go.Proofs.YtkgcbhpgkcfkhaaDoor.rowReadsP
open Go.ChangeShapes Go.WideShapes Go.ChangeAt Go.RowKit Go.Joins
set_option linter.unusedVariables false
section
variable {H : Type} {enc : TypeId × Value → H} {w : World} {base b0 : Nat} {held : Bool} {r : Reach} {v : Value} {d : DataW H} {ps : List MemPlace}
theorem one_bytes {m : Nat} {u : Value} {x : DataW H × List MemPlace} (h : DataW.trod enc Tryd.prog w base (fun _ => true) held m 22 [u] = some x) (hsz : ∀ n ∈ x.1.weights Tryd.prog 22, n ≤ reachBytes) :
    ∃ (a : Option Addr) (L : List Int) (n c : Nat), u = .slice a n c ∧ L.length = n ∧ n ≤ 140737488355328 ∧ Byt L ∧ Ls .u8 w a c L := by
  rcases open_ints Tryd.underlying22 Tryd.underlying5 (by kernel_rfl) h with ⟨hcs, _⟩ | ⟨y, l, c, zs, hcs, _, hl, hm, hz, hx, hcell, hwz⟩
  · simp only [List.cons.injEq, and_true] at hcs
    exact ⟨none, [], 0, 0, hcs, rfl, Nat.zero_le _, fun x hx => by simp at hx, Ls.nul _ _⟩
  · simp only [List.cons.injEq, and_true] at hcs
    have hzl : zs.length = c := by simpa using hz
    have hr : IsRow .u8 w (some y) l c zs := .inr ⟨_, rfl, hl, hm, hzl, hcell, hwz⟩
    have h1 := hsz ((lits .u8 (zs.take l) : List (DataW H)).length + (lits .u8 (zs.drop l) : List (DataW H)).length) (by
      rw [hx]
      simp only [DataW.weights, Tryd.underlying22]
      rw [show Tryd.prog.bytesOf 5 = 1 by kernel_rfl]
      simp)
    simp only [lits, List.length_map, List.length_take, List.length_drop, reachBytes] at h1
    exact ⟨some y, zs.take l, l, c, hcs, hr.ls.2, by omega, hr.byt, hr.ls.1⟩
theorem one_words {m : Nat} {u : Value} {x : DataW H × List MemPlace} (h : DataW.trod enc Tryd.prog w base (fun _ => true) held m 23 [u] = some x) (hsz : ∀ n ∈ x.1.weights Tryd.prog 23, n ≤ reachBytes) :
    ∃ (a : Option Addr) (L : List Int) (n c : Nat), u = .slice a n c ∧ L.length = n ∧ n ≤ 140737488355328 ∧ (∀ x ∈ L, 0 ≤ x ∧ x ≤ 18446744073709551615) ∧ Ls .u64 w a c L := by
  rcases open_ints Tryd.underlying23 Tryd.underlying49 (by kernel_rfl) h with ⟨hcs, _⟩ | ⟨y, l, c, zs, hcs, _, hl, hm, hz, hx, hcell, hwz⟩
  · simp only [List.cons.injEq, and_true] at hcs
    exact ⟨none, [], 0, 0, hcs, rfl, Nat.zero_le _, fun x hx => by simp at hx, Ls.nul _ _⟩
  · simp only [List.cons.injEq, and_true] at hcs
    have hzl : zs.length = c := by simpa using hz
    have hr : IsRow .u64 w (some y) l c zs := .inr ⟨_, rfl, hl, hm, hzl, hcell, hwz⟩
    have h1 := hsz (((lits .u64 (zs.take l) : List (DataW H)).length + (lits .u64 (zs.drop l) : List (DataW H)).length) * 8) (by
      rw [hx]
      simp only [DataW.weights, Tryd.underlying23]
      rw [show Tryd.prog.bytesOf 49 = 8 by kernel_rfl]
      simp)
    simp only [lits, List.length_map, List.length_take, List.length_drop, reachBytes] at h1
    exact ⟨some y, zs.take l, l, c, hcs, hr.ls.2, by omega, fun x hx => by have := bounds_u64 (hwz x (List.mem_of_mem_take hx)); omega, hr.ls.1⟩
end

set_option maxRecDepth 100000 in
theorem lifted (os : Os) (started : os.Started) (H : Type) (enc : TypeId × Value → H) :
    ReturnsInHanded {} Tryd.checked os 3 .any (fun w args => (Rows.rowReadsSpec.pre enc Tryd.prog Tryd.f3 [] false w args ∧ laidMetH Tryd.prog laidAll w) ∧ sizedMet enc Tryd.prog Tryd.f3 (OpenSpec.ofChange Rows.rowReadsSpec) false w args)
      (Rows.rowReadsSpec.post enc Tryd.prog Tryd.f3 false true false false) := by
  refine of_change_and_shaped (C := Tryd.checked) (X := fun w _ => laidMetH Tryd.prog laidAll w) (fun _ _ _ hh h => h.of_heap hh) own started (by kernel_rfl) Tryd.func3
    (ChangeSpec.witness_shaped (enc := enc) (C := Tryd.checked) (os := os) (X := fun w _ => laidMetH Tryd.prog laidAll w) false (start os) #[.slice none 0 0, .slice none 0 0] 12 (start_os os) (start_shaped os) (by kernel_rfl) (by kernel_rfl) (by kernel_rfl) (start_met os _)) ?_
  intro W base args ds gs before hval0 hW _ hsz0 hsh hL _
  have hsz : (DataW.weightsEach Tryd.prog (Tryd.f3.params.toList ++ Rows.rowReadsSpec.plain.varTypes Tryd.prog) (ds ++ gs)).all (· ≤ reachBytes) = true := hsz0
  clear hsz0
  have hval : ∀ (j : Nat) t v, Tryd.f3.params[j]? = some t → args[j]? = some v → Value.okWide Tryd.prog W .any base t v := hval0
  have hW' := hW
  obtain ⟨p, q, hA0, hV, rfl, hfz, hnd⟩ := hW
  have hA : DataW.TrodAll enc Tryd.prog W 0 (fun _ => true) true Tryd.f3.params.toList args.toList ds p := hA0
  rw [Tryd.params3] at hA hval hsz
  obtain ⟨v0, vs0, d0, ds0, p0, q0, hargs, rfl, rfl, h0, r0⟩ := trodAll_cons hA
  obtain ⟨v1, vs1, d1, ds1, p1, q1, rfl, rfl, rfl, h1, r1⟩ := trodAll_cons r0
  obtain ⟨rfl, rfl, rfl⟩ := trodAll_nil r1
  obtain rfl : args = #[v0, v1] := by cases args; simp_all
  obtain ⟨rfl, rfl⟩ := trodVars_none hV
  have k0 := h0
  have k1 := h1
  have lt0 : ∀ x ∈ p0, x.block < W.heap.size := by obtain ⟨m, hm⟩ := k0; exact DataW.trod_lt m _ _ _ hm
  have lt1 : ∀ x ∈ p1, x.block < W.heap.size := by obtain ⟨m, hm⟩ := k1; exact DataW.trod_lt m _ _ _ hm
  have all : ∀ n ∈ DataW.weightsEach Tryd.prog ([22, 23] ++ Rows.rowReadsSpec.plain.varTypes Tryd.prog) ([d0, d1] ++ []), n ≤ reachBytes := fun n hn => by simpa using List.all_eq_true.1 hsz n hn
  obtain ⟨a0, L, n0, c0, rfl, hL0, y0, bL, LL⟩ : ∃ (a : Option Addr) (L : List Int) (n c : Nat), v0 = .slice a n c ∧ L.length = n ∧ n ≤ 140737488355328 ∧ Byt L ∧ Ls .u8 W a c L := by
    obtain ⟨a3, n3, c3, rfl⟩ := okWide_slice Tryd.underlying22 (hval 0 22 v0 rfl rfl)
    obtain ⟨fuel, hf⟩ := h0
    obtain ⟨a, L, n, c, e, h1, h2, h3, h4⟩ := one_bytes (by simpa [Value.cells] using hf) (fun n hn => all n (DataW.weights_mem_each (j := 0) (t := 22) rfl rfl n hn))
    exact ⟨a, L, n, c, e, h1, h2, h3, h4⟩
  obtain ⟨a1, U, n1, c1, rfl, hL1, y1, bU, LU⟩ : ∃ (a : Option Addr) (L : List Int) (n c : Nat), v1 = .slice a n c ∧ L.length = n ∧ n ≤ 140737488355328 ∧ (∀ x ∈ L, 0 ≤ x ∧ x ≤ 18446744073709551615) ∧ Ls .u64 W a c L := by
    obtain ⟨a3, n3, c3, rfl⟩ := okWide_slice Tryd.underlying23 (hval 1 23 v1 rfl rfl)
    obtain ⟨fuel, hf⟩ := h1
    obtain ⟨a, L, n, c, e, h1, h2, h3, h4⟩ := one_words (by simpa [Value.cells] using hf) (fun n hn => all n (DataW.weights_mem_each (j := 1) (t := 23) rfl rfl n hn))
    exact ⟨a, L, n, c, e, h1, h2, h3, h4⟩
  clear hA0 hval0
  simp only [List.append_nil] at hW'
  have hcall : Calls Tryd.prog 3 #[.slice a0 n0 c0, .slice a1 n1 c1] W fun r w' => r = .returned (.bool true) ∧ Below W.heap.size W w' := by
    by_cases h : 9000 < n0 ∨ 2000 < n1
    · exact reads_much a0 a1 n0 n1 c0 c1 y0 y1 h W
    · exact reads_law a0 a1 L U n0 n1 c0 c1 hL0 hL1 bL bU (by omega) (by omega) W LL LU
  refine hcall.mono fun e W' ⟨he, bel⟩ => ?_
  subst he
  exact ⟨_, rfl, _, _, _, [], _, [], hW', trodAll_mk1 (shut_bool Tryd.underlying4 _), (trodAll_cons_mk (Below.trod laidOut (by kernel_rfl) (of_decide_eq_true (by kernel_rfl)) k0 bel lt0) (trodAll_cons_mk (Below.trod laidOut (by kernel_rfl) (of_decide_eq_true (by kernel_rfl)) k1 bel lt1) trodAll_mk0)), rfl, bel.frame _, fun h => by cases h⟩

theorem over : Rows.RowReadsSaid :=
  OpenClaim.holds_of_wide 3 Tryd.f3 rfl rfl rfl rfl rfl rfl rfl ⟨rfl, rfl, rfl, rfl, rfl⟩ rfl rfl rfl rfl rfl (by kernel_rfl) Tryd.func3 (by kernel_rfl)
    (of_decide_eq_true (by kernel_rfl)) (by unfold Func.isWrapper; first | (rw [if_pos (by decide +kernel)]; kernel_rfl) | (rw [if_neg (by decide +kernel)]; exact ⟨rfl, rfl⟩))
    (fun os started H enc _ => lifted os started H enc)

theorem proved : Rows.RowReadsCardSaid :=
  Claim7.holds_tied_plain_at .later [] [.data, .pinned] true (true, "420c584da2b3e2e386023dcc98ee52cbb39f5a0616910971da57db566dec11f3") false
    over (fun _ h => by cases h) (by kernel_rfl) (fun _ h => by cases h) rowReads_row_tie rfl ⟨rfl, rfl⟩ (by kernel_rfl) rfl
    (fun f fn hf hfn => by
      obtain rfl : f = 3 := Option.some.inj ((show Tryd.prog.funcNamed "garner/garnerlaw13.RowReads" = some 3 by kernel_rfl).symm.trans hf) |>.symm
      obtain rfl : fn = Tryd.f3 := (Option.some.inj (Tryd.func3.symm.trans hfn)).symm
      exact ⟨by kernel_rfl, fun j t ht => by
        rw [Tryd.params3] at ht
        have hm : t ∈ [22, 23] := by simpa using Array.mem_of_getElem? ht
        have hall : ([22, 23].all fun u => !Tryd.prog.wantsStandIn u) = true := by kernel_rfl
        exact (show Tryd.prog.wantsStandIn t = false by simpa using List.all_eq_true.1 hall t hm)⟩)
    (by kernel_rfl)
#print axioms proved
end Go.Proofs.YtkgcbhpgkcfkhaaDoor.rowReadsP
