/- 'RowBack' returns true whatever its arguments, which read afterwards as before; the package-level variables that its row lists are tied to the program's text. No further condition. -/
import Derived.Test.YtkgcbhpgkcfkhaaDoorBkj
import Derived.Test.YtkgcbhpgkcfkhaaDoorFrm
import Derived.Test.YtkgcbhpgkcfkhaaDoorCards
import Derived.Test.YtkgcbhpgkcfkhaaDoorTie
import Derived.SizedLaws
namespace Go.Proofs.YtkgcbhpgkcfkhaaDoor.rowBackP
open Go.ChangeShapes Go.WideShapes Go.ChangeAt Go.RowKit Go.Joins
set_option linter.unusedVariables false

section
variable {H : Type} {enc : TypeId × Value → H} {w : World} {base b0 : Nat} {held : Bool} {r : Reach} {v : Value} {d : DataW H} {ps : List MemPlace}
theorem one_bytes {m : Nat} {u : Value} {x : DataW H × List MemPlace} (h : DataW.trod enc Tryd.prog w base (fun _ => true) held m 22 [u] = some x) (hsz : ∀ n ∈ x.1.weights Tryd.prog 22, n ≤ reachBytes) :
    ∃ (a : Option Addr) (L : List Int) (n c : Nat), u = .slice a n c ∧ L.length = n ∧ n ≤ 140737488355328 ∧ Byt L ∧ Ls .u8 w a c L := by
  rcases open_ints Tryd.underlying22 Tryd.underlying5 (by kernel_rfl) h with ⟨hcs, _⟩ | ⟨y, l, c, zs, hcs, _, hl, hm, hz, hx, hcell, hwz⟩
  · simp only [List.cons.injEq, and_true] at hcs
    exact ⟨none, [], 0, 0, hcs, rfl, Nat.zero_le _, fun x hx => by simp at hx, Ls.nul _ _⟩
  · simp only [List.cons.injEq, and_true] at hcs
    have hzl : zs.length = c := by simpa using hz
    have hr : IsRow .u8 w (some y) l c zs := .inr ⟨_, rfl, hl, hm, hzl, hcell, hwz⟩
    have h1 := hsz ((lits .u8 (zs.take l) : List (DataW H)).length + (lits .u8 (zs.drop l) : List (DataW H)).length) (by
      rw [hx]
      simp only [DataW.weights, Tryd.underlying22]
      rw [show Tryd.prog.bytesOf 5 = 1 by kernel_rfl]
      simp)
    simp only [lits, List.length_map, List.length_take, List.length_drop, reachBytes] at h1
    exact ⟨some y, zs.take l, l, c, hcs, hr.ls.2, by omega, hr.byt, hr.ls.1⟩
set_option maxRecDepth 100000 in
/-- An array of two slices of bytes, by value, opened. -/
theorem open_arr2_bytes (hval : Value.okWide Tryd.prog w r b0 37 v) (hd : DataW.Trod enc Tryd.prog w base (fun _ => true) held 37 v d ps) (hsz : ∀ n ∈ d.weights Tryd.prog 37, n ≤ reachBytes) :
    ∃ (f0 f1 : Option Addr) (F0 F1 : List Int) (l0 l1 c0 c1 : Nat), v = .agg #[.slice f0 l0 c0, .slice f1 l1 c1] ∧ F0.length = l0 ∧ F1.length = l1 ∧ l0 ≤ 140737488355328 ∧ l1 ≤ 140737488355328 ∧ Byt F0 ∧ Byt F1 ∧ Ls .u8 w f0 c0 F0 ∧ Ls .u8 w f1 c1 F1 := by
  obtain ⟨cs, rfl, hsz2, _⟩ : ∃ cs, v = .agg cs ∧ cs.size = Tryd.prog.cellsOf 37 ∧ Row.okWide Tryd.prog w r b0 37 cs := by
    simpa [Value.okWide, Tryd.underlying37] using hval
  have c37 : Tryd.prog.cellsOf 37 = 2 := by kernel_rfl
  have c22 : Tryd.prog.cellsOf 22 = 1 := by kernel_rfl
  rw [c37] at hsz2
  obtain ⟨l⟩ := cs
  match l, hsz2 with
  | [u0, u1], _ =>
    obtain ⟨fuel, hf⟩ := hd
    obtain ⟨xs, m, _, hxx, _, _, hel⟩ := DataW.trod_array Tryd.underlying37 hf
    have k0 := hel 0 (by omega); have k1 := hel 1 (by omega)
    rw [c22] at k0 k1
    simp only [Value.cells, List.drop, List.take, Nat.mul_one] at k0 k1
    match xs, ‹xs.length = 2› with
    | [x0, x1], _ =>
      obtain rfl : d = .agg [x0.1, x1.1] := by simpa using (Prod.mk.inj hxx).1
      simp only [DataW.weights, Tryd.underlying37, DataW.weightsAll, List.append_nil, List.mem_append] at hsz
      obtain ⟨f0, F0, l0, c0, rfl, e0, z0, b0, L0⟩ := one_bytes k0 (fun n hn => hsz n (.inl hn))
      obtain ⟨f1, F1, l1, c1, rfl, e1, z1, b1, L1⟩ := one_bytes k1 (fun n hn => hsz n (.inr hn))
      exact ⟨f0, f1, F0, F1, l0, l1, c0, c1, rfl, e0, e1, z0, z1, b0, b1, L0, L1⟩
end

set_option maxRecDepth 100000 in
theorem lifted (os : Os) (started : os.Started) (H : Type) (enc : TypeId × Value → H) :
    ReturnsInHanded {} Tryd.checked os 4 .any (fun w args => (Rows.rowBackSpec.pre enc Tryd.prog Tryd.f4 [] false w args ∧ laidMetH Tryd.prog laidAll w) ∧ sizedMet enc Tryd.prog Tryd.f4 (OpenSpec.ofChange Rows.rowBackSpec) false w args)
      (Rows.rowBackSpec.post enc Tryd.prog Tryd.f4 false true false false) := by
  refine of_change_and_shaped (C := Tryd.checked) (X := fun w _ => laidMetH Tryd.prog laidAll w) (fun _ _ _ hh h => h.of_heap hh) own started (by kernel_rfl) Tryd.func4
    (ChangeSpec.witness_shaped (enc := enc) (C := Tryd.checked) (os := os) (X := fun w _ => laidMetH Tryd.prog laidAll w) false (start os) #[.slice none 0 0, .agg #[.slice none 0 0, .slice none 0 0], .agg #[.slice none 0 0, .slice none 0 0], .slice none 0 0] 12 (start_os os) (start_shaped os) (by kernel_rfl) (by kernel_rfl) (by kernel_rfl) (start_met os _)) ?_
  intro W base args ds gs before hval0 hW _ hsz0 hsh hL _
  have hsz : (DataW.weightsEach Tryd.prog (Tryd.f4.params.toList ++ Rows.rowBackSpec.plain.varTypes Tryd.prog) (ds ++ gs)).all (· ≤ reachBytes) = true := hsz0
  clear hsz0
  have hval : ∀ (j : Nat) t v, Tryd.f4.params[j]? = some t → args[j]? = some v → Value.okWide Tryd.prog W .any base t v := hval0
  have hW' := hW
  obtain ⟨p, q, hA0, hV, rfl, hfz, hnd⟩ := hW
  have hA : DataW.TrodAll enc Tryd.prog W 0 (fun _ => true) true Tryd.f4.params.toList args.toList ds p := hA0
  rw [Tryd.params4] at hA hval hsz
  obtain ⟨v0, vs0, d0, ds0, p0, q0, hargs, rfl, rfl, h0, r0⟩ := trodAll_cons hA
  obtain ⟨v1, vs1, d1, ds1, p1, q1, rfl, rfl, rfl, h1, r1⟩ := trodAll_cons r0
  obtain ⟨v2, vs2, d2, ds2, p2, q2, rfl, rfl, rfl, h2, r2⟩ := trodAll_cons r1
  obtain ⟨v3, vs3, d3, ds3, p3, q3, rfl, rfl, rfl, h3, r3⟩ := trodAll_cons r2
  obtain ⟨rfl, rfl, rfl⟩ := trodAll_nil r3
  obtain rfl : args = #[v0, v1, v2, v3] := by cases args; simp_all
  obtain ⟨rfl, rfl⟩ := trodVars_none hV
  have k0 := h0
  have k1 := h1
  have k2 := h2
  have k3 := h3
  have lt0 : ∀ x ∈ p0, x.block < W.heap.size := by obtain ⟨m, hm⟩ := k0; exact DataW.trod_lt m _ _ _ hm
  have lt1 : ∀ x ∈ p1, x.block < W.heap.size := by obtain ⟨m, hm⟩ := k1; exact DataW.trod_lt m _ _ _ hm
  have lt2 : ∀ x ∈ p2, x.block < W.heap.size := by obtain ⟨m, hm⟩ := k2; exact DataW.trod_lt m _ _ _ hm
  have lt3 : ∀ x ∈ p3, x.block < W.heap.size := by obtain ⟨m, hm⟩ := k3; exact DataW.trod_lt m _ _ _ hm
  have all : ∀ n ∈ DataW.weightsEach Tryd.prog ([26, 37, 37, 22] ++ Rows.rowBackSpec.plain.varTypes Tryd.prog) ([d0, d1, d2, d3] ++ []), n ≤ reachBytes := fun n hn => by simpa using List.all_eq_true.1 hsz n hn
  obtain ⟨a0, n0, c0, rfl⟩ := okWide_slice Tryd.underlying26 (hval 0 26 v0 rfl rfl)
  obtain ⟨R, hR, rR, bR⟩ := open_row h0
  obtain ⟨f0, f1, F0, F1, l0, l1, g0, g1, rfl, hl0, hl1, z0, z1, bF0, bF1, LF0, LF1⟩ := open_arr2_bytes (hval 1 37 v1 rfl rfl) h1 (fun n hn => all n (DataW.weights_mem_each (j := 1) (t := 37) rfl rfl n hn))
  obtain ⟨e0, e1, K0, K1, m0, m1, i0, i1, rfl, hm0, hm1, y0, y1, bK0, bK1, LK0, LK1⟩ := open_arr2_bytes (hval 2 37 v2 rfl rfl) h2 (fun n hn => all n (DataW.weights_mem_each (j := 2) (t := 37) rfl rfl n hn))
  obtain ⟨a3, L, n3, c3, rfl, hL3, y3, bL, LL⟩ : ∃ (a : Option Addr) (L : List Int) (n c : Nat), v3 = .slice a n c ∧ L.length = n ∧ n ≤ 140737488355328 ∧ Byt L ∧ Ls .u8 W a c L := by
    obtain ⟨a3, n3, c3, rfl⟩ := okWide_slice Tryd.underlying22 (hval 3 22 v3 rfl rfl)
    obtain ⟨fuel, hf⟩ := h3
    obtain ⟨a, L, n, c, e, h1, h2, h3, h4⟩ := one_bytes (by simpa [Value.cells] using hf) (fun n hn => all n (DataW.weights_mem_each (j := 3) (t := 22) rfl rfl n hn))
    exact ⟨a, L, n, c, e, h1, h2, h3, h4⟩
  clear hA0 hval0
  simp only [List.append_nil] at hW'
  refine (rowback_law a0 R n0 c0 hR bR f0 f1 e0 e1 a3 F0 F1 K0 K1 L l0 l1 m0 m1 n3 g0 g1 i0 i1 c3 hl0 hl1 hm0 hm1 hL3 z0 z1 y0 y1 bF0 bF1 bK0 bK1 bL W rR LF0 LF1 LK0 LK1 LL).mono fun e W' ⟨he, bel⟩ => ?_
  subst he
  exact ⟨_, rfl, _, _, _, [], _, [], hW', trodAll_mk1 (shut_bool Tryd.underlying4 _), (trodAll_cons_mk (Below.trod laidOut (by kernel_rfl) (of_decide_eq_true (by kernel_rfl)) k0 bel lt0) (trodAll_cons_mk (Below.trod laidOut (by kernel_rfl) (of_decide_eq_true (by kernel_rfl)) k1 bel lt1) (trodAll_cons_mk (Below.trod laidOut (by kernel_rfl) (of_decide_eq_true (by kernel_rfl)) k2 bel lt2) (trodAll_cons_mk (Below.trod laidOut (by kernel_rfl) (of_decide_eq_true (by kernel_rfl)) k3 bel lt3) trodAll_mk0)))), rfl, bel.frame _, fun h => by cases h⟩

theorem over : Rows.RowBackSaid :=
  OpenClaim.holds_of_wide 4 Tryd.f4 rfl rfl rfl rfl rfl rfl rfl ⟨rfl, rfl, rfl, rfl, rfl⟩ rfl rfl rfl rfl rfl (by kernel_rfl) Tryd.func4 (by kernel_rfl)
    (of_decide_eq_true (by kernel_rfl)) (by unfold Func.isWrapper; first | (rw [if_pos (by decide +kernel)]; kernel_rfl) | (rw [if_neg (by decide +kernel)]; exact ⟨rfl, rfl⟩))
    (fun os started H enc _ => lifted os started H enc)

theorem proved : Rows.RowBackCardSaid :=
  Claim7.holds_tied_plain_at .later [] [.data, .pinned] true (true, "420c584da2b3e2e386023dcc98ee52cbb39f5a0616910971da57db566dec11f3") false
    over (fun _ h => by cases h) (by kernel_rfl) (fun _ h => by cases h) rowBack_row_tie rfl ⟨rfl, rfl⟩ (by kernel_rfl) rfl
    (fun f fn hf hfn => by
      obtain rfl : f = 4 := Option.some.inj ((show Tryd.prog.funcNamed "garner/garnerlaw13.RowBack" = some 4 by kernel_rfl).symm.trans hf) |>.symm
      obtain rfl : fn = Tryd.f4 := (Option.some.inj (Tryd.func4.symm.trans hfn)).symm
      exact ⟨by kernel_rfl, fun j t ht => by
        rw [Tryd.params4] at ht
        have hm : t ∈ [26, 37, 37, 22] := by simpa using Array.mem_of_getElem? ht
        have hall : ([26, 37, 37, 22].all fun u => !Tryd.prog.wantsStandIn u) = true := by kernel_rfl
        exact (show Tryd.prog.wantsStandIn t = false by simpa using List.all_eq_true.1 hall t hm)⟩)
    (by kernel_rfl)
#print axioms proved
end Go.Proofs.YtkgcbhpgkcfkhaaDoor.rowBackP
