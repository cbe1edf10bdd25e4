/- A row's entries, by contracts. -/
import Derived.Test.YtkgcbhpgkcfkhaaCjk
import Derived.Test.YtkgcbhpgkcfkhaaReb
namespace Go.Proofs.Ytkgcbhpgkcfkhaa
open Go.ChangeShapes Go.WideShapes Go.ChangeAt Go.RowKit Go.Shelf
set_option linter.unusedVariables false
set_option linter.unusedSimpArgs false

set_option maxRecDepth 100000 in
set_option maxHeartbeats 4000000 in
theorem entry_own (a b : Option Addr) (Lf Lk : List Int) (n m ca cb : Nat) (hf : Lf.length = n) (hkl : Lk.length = m) (hn : n ≤ 24) (hk : mayK m = true) (w : World) (hA : Ls .u8 w a ca Lf) (hB : Ls .u8 w b cb Lk) :
    Calls Try.prog 30 #[.slice a n ca, .slice b m cb] w fun r w' => ∃ a' c', r = .returned (.tuple #[.slice a' (entryL Lf Lk).length c', .int .i64 0]) ∧ w'.ownsRow w.heap.size 5 1 (.slice a' (entryL Lf Lk).length c') (entryL Lf Lk).length (iv .u8 (entryL Lf Lk)) ∧ Below w.heap.size w w' := by
  have HA := Lib.hid hA
  have HB := Lib.hid hB
  have HF := Lib.hid hf
  have HKL := Lib.hid hkl
  have HK := Lib.hid hk
  have hm32 : m ≤ 32 := by unfold mayK at hk; simp at hk; omega
  have hfl := frontL_len Lf
  have hE : entryL Lf Lk = frontL Lf ++ ([0, 1] ++ Lk) := rfl
  obtain ⟨F, hF⟩ : ∃ F, frontL Lf = F := ⟨_, rfl⟩
  rw [hF] at hfl hE
  obtain ⟨E, hEE⟩ : ∃ E, entryL Lf Lk = E := ⟨_, rfl⟩
  rw [hEE] at hE ⊢
  have HFF := Lib.hid hF
  have HE := Lib.hid hE
  obtain ⟨fl, hl⟩ : ∃ fl, F.length = fl := ⟨_, rfl⟩
  rw [hl] at hfl
  have HFLE := Lib.hid (show fl ≤ 48 by omega)
  have HL := Lib.hid hl
  clear hA hB hf hkl hk hF hE hEE hl hfl
  have h := front_ok a Lf n ca HF.out hn w HA.out
  rw [HFF.out, HL.out] at h
  go_enter Try.func30, Try.ntmps30
  go_wp2_with fail
  refine h.mono ?_; rintro e w' ⟨a', c', rfl, l', B⟩
  clear h
  go_wp2_with fail
  refine (maykey_law _ _ _ _).mono ?_; rintro e w2 ⟨rfl, rfl⟩
  rw [HK.out]
  go_wp2_with fail
  have hfl2 : flat [⟨a', c', F⟩, ⟨some ⟨w'.heap.size, 0, none⟩, 2, [0, 1]⟩, ⟨b, cb, Lk⟩] = E := by rw [HE.out]; simp [flat]
  have hlen : E.length = fl + (2 + m) := by rw [HE.out, List.length_append, List.length_append, HL.out, HKL.out]; rfl
  have BW := (Below.refl w'.heap.size w').alloc (Nat.le_refl _) (.cells #[.int .u8 0, .int .u8 1] 5)
  have hRR := rdR_new (w'.alloc (.cells #[.int .u8 0, .int .u8 1] 5)) [⟨a', c', F⟩, ⟨some ⟨w'.heap.size, 0, none⟩, 2, [0, 1]⟩, ⟨b, cb, Lk⟩] #[.slice a' fl c', .slice (some ⟨w'.heap.size, 0, none⟩) 2 2, .slice b m cb] 24 (0, 0) (by simp only [List.map_cons, List.map_nil, P1.v, HL.out, HKL.out]; rfl) (by
    intro p hp
    simp only [List.mem_cons, List.not_mem_nil, or_false] at hp
    rcases hp with rfl | rfl | rfl
    · exact l'.below BW
    · exact ls_new .u8 w' [0, 1] _ _ _ rfl 2 rfl
    · exact HB.out.below (B.trans (BW.mono B.size)))
  rw [World.size_alloc] at hRR
  have hj := join_own (some ⟨w'.heap.size + 1, 0, none⟩) [⟨a', c', F⟩, ⟨some ⟨w'.heap.size, 0, none⟩, 2, [0, 1]⟩, ⟨b, cb, Lk⟩] 3 3 rfl (by omega) (by rw [hfl2, hlen]; have := HFLE.out; omega) _ hRR
  rw [hfl2] at hj
  have HJ := Lib.hid hj
  clear hj hfl2 hlen
  refine HJ.out.mono ?_; rintro e w3 ⟨a3, c3, rfl, _, o3, B3⟩
  obtain ⟨el, hel⟩ : ∃ el, E.length = el := ⟨_, rfl⟩
  rw [hel]
  have HEL := Lib.hid hel
  clear hel
  have HO := Lib.hid (own_base (show w.heap.size ≤ _ by have h1 := B.size; have h2 := BW.size; simp at h2 ⊢; omega) o3)
  clear o3
  have B4 := step_below B (step_below BW (step_below ((Below.refl _ _).alloc (Nat.le_refl _) _) B3))
  go_wp2_with fail
  go_ret2
  exact ⟨a3, c3, by rw [HEL.out]; rfl, HO.out, B4⟩

abbrev E1 := Int × P1
def ev (L : List E1) : List Value := L.flatMap fun p => [.int .i64 p.1, p.2.v]
theorem ev_append (a b : List E1) : ev (a ++ b) = ev a ++ ev b := by simp [ev]
theorem ev_at (l : List E1) : ∀ (k : Nat) (p : E1), l[k]? = some p → (ev l)[k * 2]? = some (.int .i64 p.1) ∧ (ev l)[k * 2 + 1]? = some p.2.v := by
  induction l with
  | nil => intro k p h; simp at h
  | cons q r ih =>
    intro k p h
    cases k with
    | zero => simp at h; subst h; simp [ev]
    | succ k =>
      have h' : r[k]? = some p := by simpa using h
      have := ih k p h'
      simp only [ev, List.flatMap_cons, List.cons_append, List.nil_append] at this ⊢
      rw [show (k + 1) * 2 = k * 2 + 1 + 1 by omega]
      simpa using this
theorem info91 : (Try.prog.info? 91).map (fun i => (i.zero, i.size, i.bytes)) = some (some (.agg #[.int .i64 0, .slice none 0 0]), 2, 32) := by kernel_rfl
/-- A list of entries, read. -/
def EnR (W : World) (a : Option Addr) (L : List E1) : Prop := ∀ (k : Nat) (p : E1), L[k]? = some p → ∃ b off, a = some ⟨b, off, none⟩ ∧ W.cell? ⟨b, off + k * 2, none⟩ = some (.int .i64 p.1) ∧ W.cell? ⟨b, off + k * 2 + 1, none⟩ = some p.2.v ∧ Ls .u8 W p.2.ad p.2.cap p.2.bs
theorem EnR.below {W W' : World} {a : Option Addr} {l : List E1} (h : EnR W a l) (b : Below W.heap.size W W') : EnR W' a l := fun k p hp => by
  obtain ⟨g, off, e, h1, h2, h3⟩ := h k p hp
  exact ⟨g, off, e, (b.cell (World.block_lt_of_cell? W _ h1)).trans h1, (b.cell (World.block_lt_of_cell? W _ h2)).trans h2, h3.below b⟩
theorem own_enr {w : World} {base n : Nat} {v : Value} {l : List E1} (h : w.ownsRow base 91 2 v n (ev l)) (hn : l.length = n) (hl : ∀ p ∈ l, Ls .u8 w p.2.ad p.2.cap p.2.bs) : ∃ a cap, v = .slice a n cap ∧ EnR w a l := by
  have h' := h
  rcases h.2 with ⟨e, h0⟩ | ⟨g, cap, cur, rfl, hg, _, hc, _⟩
  · have : l = [] := List.length_eq_zero_iff.1 (by omega)
    subst this h0
    exact ⟨none, 0, e, fun k p hp => by simp at hp⟩
  · refine ⟨_, cap, rfl, fun k p hp => ⟨g, 0, rfl, ?_, ?_, hl p (List.mem_of_getElem? hp)⟩⟩
    · have hk := (List.getElem?_eq_some_iff.1 hp).1
      rw [Nat.zero_add, h'.cellAt (k * 2) (by omega)]
      exact (ev_at l k p hp).1
    · have hk := (List.getElem?_eq_some_iff.1 hp).1
      rw [Nat.zero_add, h'.cellAt (k * 2 + 1) (by omega)]
      exact (ev_at l k p hp).2
/-- What a list of entries says. -/
def enS (L : List E1) : List (Int × List Int) := L.map fun p => (p.1, p.2.bs)
/-- The entries of the first m indexes. -/
def entL (f m : Nat) (R : List P1) (K : List Int) : List (Int × List Int) := (List.range m).map fun (i : Nat) => (((f + 1 + i : Nat) : Int), entryL ((R.map P1.bs).getD (i + 1) []) K)
theorem entL_succ (f m : Nat) (R : List P1) (K : List Int) : entL f (m + 1) R K = entL f m R K ++ [(((f + 1 + m : Nat) : Int), entryL ((R.map P1.bs).getD (m + 1) []) K)] := by simp [entL, List.range_succ]
theorem entL_length (f m : Nat) (R : List P1) (K : List Int) : (entL f m R K).length = m := by simp [entL]
def rowOk (R : List P1) : Bool := decide (R.length = 0) || mayR R
/-- The entries, and the error. -/
def entV (j : Job) (t : Int) (R : List P1) (K : List Int) : List (Int × List Int) × Int :=
  if (trV j t (-1)).2.2.2 && mayK K.length && rowOk R then (entL (trV j t (-1)).1.toNat (min (j.T.getD t.toNat 0).toNat (R.length - 1)) R K, 0) else ([], 2)
theorem nmL_mem : ∀ (T : List Int) (s : Nat) (p : Int × Int), p ∈ nmL s T → ∃ k, k < T.length ∧ p.1 = ((s + k : Nat) : Int)
  | [], s, p, h => by simp [nmL] at h
  | x :: r, s, p, h => by
    simp only [nmL, List.mem_append] at h
    rcases h with h | h
    · simp only [rowN, List.mem_map] at h
      obtain ⟨i, _, rfl⟩ := h
      exact ⟨0, by simp, by simp⟩
    · obtain ⟨k, h1, h2⟩ := nmL_mem r (s + 1) p h
      exact ⟨k + 1, by simp; omega, by rw [h2]; congr 1; omega⟩
theorem firstV_mem {p : Tr → Bool} : ∀ {l : List Tr}, (firstV p l).2.2.2 = true → ∃ x ∈ l, p x = true ∧ firstV p l = ((x.1 : Int), x.2.1, x.2.2, true)
  | [], h => by simp [firstV] at h
  | x :: r, h => by
    by_cases e : p x = true
    · exact ⟨x, by simp, e, by rw [firstV, if_pos e]⟩
    · rw [firstV, if_neg e] at h
      obtain ⟨y, h1, h2, h3⟩ := firstV_mem h
      exact ⟨y, by simp [h1], h2, by rw [firstV, if_neg e]; exact h3⟩
theorem trV_facts {j : Job} {t : Int} (hj : j.T.length = j.n) (h : (trV j t (-1)).2.2.2 = true) : ∃ k f : Nat, t = (k : Int) ∧ k < j.T.length ∧ okB j = true ∧ f ≤ 12 ∧ (trV j t (-1)).1 = (f : Int) := by
  obtain ⟨x, hx, hp, e⟩ := firstV_mem h
  have hn : okB j = true := by
    by_cases ho : okB j = true
    · exact ho
    · rw [named_no (by simpa using ho)] at hx; simp [idx] at hx
  obtain ⟨i, h1, h2⟩ := idx_mem _ _ _ hx
  have hm : (x.2.1, x.2.2) ∈ named j := List.mem_of_getElem? h1
  rw [named_ok hn] at hm
  obtain ⟨k, h3, h4⟩ := nmL_mem _ _ _ hm
  have hp2 := of_decide_eq_true hp
  refine ⟨k, x.1, by rw [← hp2.1]; simpa using h4, h3, hn, ?_, by show (firstV _ _).1 = _; rw [e]⟩
  have h5 := (List.getElem?_eq_some_iff.1 h1).1
  have := named_len j hj
  omega
/-- One form of what is told. -/
def EnP (V : List (Int × List Int) × Int) (r : Ending) (w' : World) : Prop := ∃ (a : Option Addr) (c : Nat) (L : List E1), r = .returned (.tuple #[.slice a V.1.length c, .int .i64 V.2]) ∧ enS L = V.1 ∧ EnR w' a L
theorem enP_none (w' : World) {V : List (Int × List Int) × Int} (h : V = ([], 2)) : EnP V (.returned (.tuple #[.slice none 0 0, .int .i64 2])) w' := by
  subst h
  exact ⟨none, 0, [], rfl, rfl, fun k p hp => by simp at hp⟩
/-- What is kept round the loop. -/
structure EnI (base f m : Nat) (R : List P1) (K : List Int) (v : Value) (wr : World) : Prop where
  ex : ∃ L : List E1, enS L = entL f m R K ∧ wr.ownsRow base 91 2 v m (ev L) ∧ ∀ p ∈ L, wr.ownsRow base 5 1 p.2.v p.2.bs.length (iv .u8 p.2.bs)
theorem EnI.below {base f m : Nat} {R : List P1} {K : List Int} {v : Value} {w w' : World} (h : EnI base f m R K v w) (b : Below w.heap.size w w') : EnI base f m R K v w' := by
  obtain ⟨L, h1, h2, h3⟩ := h.ex
  exact ⟨L, h1, own_kept h2 b, fun p hp => own_kept (h3 p hp) b⟩
set_option maxRecDepth 100000 in
set_option maxHeartbeats 4000000 in
theorem entries_law (j : Job) (t : Int) (ka : Option Addr) (K : List Int) (kn kc : Nat) (ra : Option Addr) (R : List P1) (rn rc : Nat) (hK : K.length = kn) (hR : R.length = rn) (hrn : rn ≤ 1000000) (w : World) (hj : JobAt w j) (hk : Ls .u8 w ka kc K) (hr : RdR w ra R) :
    Calls Try.prog 43 #[.agg #[.int .i64 j.w, .int .i64 j.l, .int .i64 j.d, .int .i64 j.c, .int .i64 j.k, .int .i64 j.e, .slice j.a j.n j.cap], .int .i64 t, .slice ka kn kc, .slice ra rn rc] w fun r w' => EnP (entV j t R K) r w' ∧ Below w.heap.size w w' := by
  obtain ⟨i0, hi, hz0, hz1, hz2⟩ := info_parts info91
  have HJ := Lib.hid hj
  have HKK := Lib.hid hk
  have HRR := Lib.hid hr
  have HK := Lib.hid hK
  have HR := Lib.hid hR
  have HTR := Lib.hid (fun W (h : JobAt W j) => tree_law j t (-1) W h)
  have HF := Lib.hid (fun (h : (trV j t (-1)).2.2.2 = true) => trV_facts hj.len h)
  have HV := Lib.hid (show entV j t R K = if (trV j t (-1)).2.2.2 && mayK K.length && rowOk R then (entL (trV j t (-1)).1.toNat (min (j.T.getD t.toNat 0).toNat (R.length - 1)) R K, 0) else ([], 2) from rfl)
  have hri : (rn : Int) ≤ 1000000 := by omega
  have hB1 : Below w.heap.size w (w.alloc (.cells #[.int .i64 j.w, .int .i64 j.l, .int .i64 j.d, .int .i64 j.c, .int .i64 j.k, .int .i64 j.e, .slice j.a j.n j.cap] 53)) := (Below.refl _ _).alloc (Nat.le_refl _) _
  have HB1 := Lib.hid hB1
  have hbj := BoxC.new w #[.int .i64 j.w, .int .i64 j.l, .int .i64 j.d, .int .i64 j.c, .int .i64 j.k, .int .i64 j.e, .slice j.a j.n j.cap] 53
  clear hj hk hr hK hR hB1
  generalize trV j t (-1) = V at HTR HF HV
  obtain ⟨f, t0, ix, ok⟩ := V
  simp only at HTR HF HV
  cases ok
  · have HN := Lib.hid (show entV j t R K = ([], 2) from HV.out)
    try simp only [Bool.false_eq_true, ↓reduceIte] at HTR
    clear HF HV hbj
    go_enter Try.func43, Try.ntmps43
    go_wp2_with fail
    refine (HTR.out _ (HJ.out.below HB1.out)).mono ?_; rintro r w2 ⟨rfl, B2⟩
    have HB2 := Lib.hid (step_below HB1.out B2)
    clear B2
    go_wp2_with fail
    go_ret2
    exact ⟨enP_none _ HN.out, HB2.out⟩
  · obtain ⟨k, f, rfl, hkT, hok, hf12, hfe⟩ := HF.out rfl
    try simp only at hfe
    subst hfe
    try simp only [↓reduceIte] at HTR
    have hT := Lib.hid (okB_T hok)
    have hxx := okB_T hok k hkT
    obtain ⟨x, hx⟩ : ∃ x : Nat, j.T.getD k 0 = (x : Int) := ⟨(j.T.getD k 0).toNat, by omega⟩
    have hx2 : x ≤ 2 := by omega
    have hx2i : (x : Int) ≤ 2 := by omega
    have hkn : (k : Int) < (j.n : Int) := by rw [← HJ.out.len]; omega
    obtain ⟨b1, o1, ea, d1⟩ := (HJ.out.ls).get k hkT
    rw [hx] at d1
    have D1 := Lib.hid d1
    have HVV := Lib.hid (show mayK kn = true → rowOk R = true → entV j (k : Int) R K = (entL f (min x (rn - 1)) R K, 0) from fun h1 h2 => by
      rw [HV.out, HK.out, h1, h2, HR.out, Int.toNat_natCast, Int.toNat_natCast, hx, Int.toNat_natCast]
      rfl)
    have HVN := Lib.hid (show mayK kn = false ∨ rowOk R = false → entV j (k : Int) R K = ([], 2) from fun h => by
      rw [HV.out, HK.out]
      rcases h with h | h
      · rw [h]; simp
      · rw [h]; simp)
    have hfi : (f : Int) ≤ 12 := by omega
    clear HF hxx hx hok HV
    have c6 := hbj.cell 6
    simp only [List.getElem?_toArray, List.getElem?_cons_zero, List.getElem?_cons_succ] at c6
    have HEA := Lib.hid ea
    have C6 := Lib.hid c6
    clear hbj c6 hkT ea d1
    cases hmk : mayK kn
    · have HN := Lib.hid (HVN.out (.inl hmk))
      have HMK := Lib.hid hmk
      clear HVV HVN hmk
      go_enter Try.func43, Try.ntmps43
      go_wp2_with fail
      refine (HTR.out _ (HJ.out.below HB1.out)).mono ?_; rintro r w2 ⟨rfl, B2⟩
      have HB2 := Lib.hid (step_below HB1.out B2)
      clear B2
      go_wp2_with fail
      refine (maykey_law _ _ _ _).mono ?_; rintro r w3 ⟨rfl, rfl⟩
      rw [HMK.out]
      go_wp2_with fail
      go_ret2
      exact ⟨enP_none _ HN.out, HB2.out⟩
    cases hro : rowOk R
    · have HN := Lib.hid (HVN.out (.inr hro))
      have HMK := Lib.hid hmk
      have hro2 : 0 < rn ∧ mayR R = false := by
        unfold rowOk at hro
        simp at hro
        exact ⟨by rw [← HR.out]; exact List.length_pos_iff.2 hro.1, hro.2⟩
      have hrn0 : (0 : Int) < (rn : Int) := by omega
      have HMR := Lib.hid (fun W (b : RdR W ra R) => by have := mayr_law ra R rn rc HR.out hrn W b; rwa [hro2.2] at this)
      clear HVV HVN hmk hro hro2
      go_enter Try.func43, Try.ntmps43
      go_wp2_with fail
      refine (HTR.out _ (HJ.out.below HB1.out)).mono ?_; rintro r w2 ⟨rfl, B2⟩
      have HB2 := Lib.hid (step_below HB1.out B2)
      clear B2
      go_wp2_with fail
      refine (maykey_law _ _ _ _).mono ?_; rintro r w3 ⟨rfl, rfl⟩
      rw [HMK.out]
      go_wp2_with fail
      refine (HMR.out _ (HRR.out.below HB2.out)).mono ?_; rintro r w3 ⟨rfl, B3⟩
      have HB3 := Lib.hid (step_below HB2.out B3)
      clear B3
      go_wp2_with fail
      go_ret2
      exact ⟨enP_none _ HN.out, HB3.out⟩
    · have HN := Lib.hid (HVV.out hmk hro)
      have HMK := Lib.hid hmk
      clear HVV HVN hmk
      rcases (show rn = 0 ∨ (0 < rn ∧ mayR R = true) by
        unfold rowOk at hro
        simp at hro
        rcases hro with h | h
        · left; rw [← HR.out, h]; rfl
        · right; exact ⟨by rw [← HR.out]; exact ((mayR_iff R).1 h).2.1, h⟩) with hr0 | ⟨hr0, hmr⟩
      · subst hr0
        have HN2 := Lib.hid (show entV j (k : Int) R K = ([], 0) by rw [HN.out]; simp [entL])
        clear hro HN
        go_enter Try.func43, Try.ntmps43
        go_wp2_with fail
        refine (HTR.out _ (HJ.out.below HB1.out)).mono ?_; rintro r w2 ⟨rfl, B2⟩
        have c6 := (B2.cell (p := ⟨w.heap.size, 6, none⟩) (by simp)).trans C6.out
        rw [HEA.out] at c6
        have d2 := ((step_below HB1.out B2).cell (p := ⟨b1, o1 + k, none⟩) (World.block_lt_of_cell? w _ D1.out)).trans D1.out
        have HB2 := Lib.hid (step_below HB1.out B2)
        clear B2
        go_wp2_with fail
        refine (maykey_law _ _ _ _).mono ?_; rintro r w3 ⟨rfl, rfl⟩
        rw [HMK.out]
        go_wp2_with fail
        go_loopw [12, 44] (fun v i wr => ∃ m : Nat, m ≤ x ∧ i = .int .i64 (m : Int) ∧ v = .slice none 0 0 ∧ wr = w2) (fun _ i _ => x - (intOf i).toNat)
        case atStart => exact ⟨0, by omega, rfl, rfl, rfl⟩
        case round =>
          obtain ⟨m, hm, rfl, rfl, rfl⟩ := hrel
          by_cases hlt : m < x
          · have hml : (m : Int) < (x : Int) := by omega
            have hm1 : ¬ (m : Int) + 1 < 0 := by omega
            go_wp2_with fail
            go_roundw
            case rel => exact ⟨m + 1, by omega, by go_num, rfl, trivial⟩
            case measure => simp [intOf]; omega
          · have hml : ¬ (m : Int) < (x : Int) := by omega
            go_wp2_with fail
            go_ret2
            exact ⟨by rw [HN2.out]; exact ⟨none, 0, [], rfl, rfl, fun k p hp => by simp at hp⟩, HB2.out⟩
      · have hrn0 : (0 : Int) < (rn : Int) := by omega
        have HMR := Lib.hid (fun W (b : RdR W ra R) => by have := mayr_law ra R rn rc HR.out hrn W b; rwa [hmr] at this)
        have HM := Lib.hid ((mayR_iff R).1 hmr)
        have hrn3 : rn ≤ 3 := by have := HM.out.2.2; rw [HR.out] at this; exact this
        clear hro hmr
        go_enter Try.func43, Try.ntmps43
        go_wp2_with fail
        refine (HTR.out _ (HJ.out.below HB1.out)).mono ?_; rintro r w2 ⟨rfl, B2⟩
        have c6' := (B2.cell (p := ⟨w.heap.size, 6, none⟩) (by simp)).trans C6.out
        rw [HEA.out] at c6'
        have HB2 := Lib.hid (step_below HB1.out B2)
        have hlw : w.heap.size < w2.heap.size := by have := B2.size; simp at this; omega
        clear B2
        go_wp2_with fail
        refine (maykey_law _ _ _ _).mono ?_; rintro r w3 ⟨rfl, rfl⟩
        rw [HMK.out]
        go_wp2_with fail
        refine (HMR.out _ (HRR.out.below HB2.out)).mono ?_; rintro r w3 ⟨rfl, B3⟩
        have c6 := (B3.cell (p := ⟨w.heap.size, 6, none⟩) hlw).trans c6'
        have d2 := ((step_below HB2.out B3).cell (p := ⟨b1, o1 + k, none⟩) (World.block_lt_of_cell? w _ D1.out)).trans D1.out
        have HB3 := Lib.hid (step_below HB2.out B3)
        clear B3 c6'
        go_wp2_with fail
        go_loopw [12, 44] (fun v i wr => ∃ m : Nat, m ≤ x ∧ i = .int .i64 (m : Int) ∧ EnI w.heap.size f (min m (rn - 1)) R K v wr ∧ Below w.heap.size w wr) (fun _ i _ => x - (intOf i).toNat)
        case atStart => exact ⟨0, by omega, rfl, ⟨[], by simp [enS, entL], by rw [Nat.zero_min]; exact World.ownsRow_nil _ _ _ _, fun p hp => by simp at hp⟩, HB3.out⟩
        case round =>
          clear c6 d2
          obtain ⟨m, hm, rfl, hI, B⟩ := hrel
          by_cases hlt : m < x
          · have hml : (m : Int) < (x : Int) := by omega
            have hmi : (m : Int) ≤ 2 := by omega
            have BB := Lib.hid B
            have HI := Lib.hid hI
            clear hI B
            by_cases hmr : m + 1 < rn
            · have hmrl : (m : Int) + 1 < (rn : Int) := by omega
              have hm0 : (0 : Int) ≤ (m : Int) + 1 := by omega
              have hmt : ((m : Int) + 1).toNat = m + 1 := by omega
              obtain ⟨p, hp⟩ : ∃ p, R[m + 1]? = some p := ⟨_, List.getElem?_eq_getElem (by rw [HR.out]; exact hmr)⟩
              obtain ⟨b2, o2, e2, c2, l2⟩ := HRR.out.below BB.out (m + 1) p hp
              subst e2
              have c3 : wr.cell? ⟨b2, o2 + (m + 1), none⟩ = some (.slice p.ad p.bs.length p.cap) := c2
              obtain ⟨q, hq⟩ : ∃ q, p.bs.length = q := ⟨_, rfl⟩
              rw [hq] at c3
              have hq24 : q ≤ 24 := by rw [← hq]; exact HM.out.1 p (List.mem_of_getElem? hp)
              have HE := Lib.hid (entry_own p.ad ka p.bs K q kn p.cap kc hq HK.out hq24 HMK.out wr l2 (HKK.out.below BB.out))
              have HG := Lib.hid (show ((R.map P1.bs).getD (m + 1) []) = p.bs by simp [List.getD, hp])
              obtain ⟨EL, hEL⟩ : ∃ E, entryL p.bs K = E := ⟨_, rfl⟩
              rw [hEL] at HE
              have hs1 := BB.out.size
              obtain ⟨el, hel⟩ : ∃ n, EL.length = n := ⟨_, rfl⟩
              rw [hel] at HE
              have HEL := Lib.hid (And.intro hEL hel)
              have hmin : min m (rn - 1) = m := by omega
              rw [hmin] at HI
              clear hp c2 l2 hq hEL hel hmin
              go_wp2_with fail
              refine HE.out.mono ?_; rintro r w4 ⟨a4, c4, rfl, o4, B4⟩
              obtain ⟨L, i1, i2, i3⟩ := (HI.out.below B4).ex
              have O4 := Lib.hid (own_base hs1 o4)
              have I1 := Lib.hid i1
              have I2 := Lib.hid i2
              have I3 := Lib.hid i3
              have hs4 : w.heap.size ≤ w4.heap.size := Nat.le_trans hs1 B4.size
              have HB4 := Lib.hid (step_below BB.out B4)
              have hsum : ((f + 1 + m : Nat) : Int) = (f : Int) + 1 + (m : Int) := by omega
              have HS := Lib.hid hsum
              clear o4 i1 i2 i3 B4 c3 hsum
              go_wp2_with (at_builtin; refine wpList_append_own _ rfl (.tmp 62) (.tmp 69) 68 rfl w.heap.size 91 i0 (.agg #[.int .i64 0, .slice none 0 0]) 2 32 Try.underlying68 hi hz0 hz1 hz2 rfl (by decide) _ m (ev L) rfl (I2.out.alloc _) ⟨w4.heap.size, 0, none⟩ 1 1 [.int .i64 ((f : Int) + 1 + (m : Int)), .slice a4 el c4] rfl rfl (cell_two_new _ _ _ _) (by intro u hu; simp at hu; rcases hu with rfl | rfl <;> rfl) (by unfold maxLen; omega) (by omega) (by simp; omega) ?_)
              intro v5 w5 hown5 hgrow5 _
              have keep : ∀ (y : Value) (n : Nat) (xs : List Value), w4.ownsRow w.heap.size 5 1 y n xs → w5.ownsRow w.heap.size 5 1 y n xs := fun y n xs hy => (hy.alloc _).kept hgrow5 (own_apart hy I2.out (by decide))
              have b5 : Below w.heap.size w4 w5 := ((Below.refl _ w4).alloc hs4 _).grown hgrow5 (by simp; omega) (fun j hj => (I2.out.lt j hj).1)
              have HI5 := Lib.hid (show EnI w.heap.size f (min (m + 1) (rn - 1)) R K v5 w5 by
                rw [show min (m + 1) (rn - 1) = m + 1 by omega]
                refine ⟨L ++ [(((f + 1 + m : Nat) : Int), ⟨a4, c4, EL⟩)], ?_, ?_, fun p hp => ?_⟩
                · rw [entL_succ, HG.out, HEL.out.1, ← I1.out]; simp [enS]
                · rw [ev_append, HS.out]
                  have e : ev [((f : Int) + 1 + (m : Int), (⟨a4, c4, EL⟩ : P1))] = [.int .i64 ((f : Int) + 1 + (m : Int)), .slice a4 el c4] := by simp [ev, P1.v, HEL.out.2]
                  rw [e]; exact hown5
                · rcases List.mem_append.1 hp with hp | hp
                  · exact keep _ _ _ (I3.out p hp)
                  · simp at hp
                    subst hp
                    have := keep _ _ _ O4.out
                    simpa [P1.v, HEL.out.2] using this)
              have HB5 := Lib.hid (HB4.out.trans b5)
              clear keep b5 hown5 hgrow5
              go_wp2_with fail
              go_roundw
              case rel => exact ⟨m + 1, by omega, by go_num, HI5.out, HB5.out⟩
              case measure => simp [intOf]; omega
            · have hmrl : ¬ (m : Int) + 1 < (rn : Int) := by omega
              have HI5 := Lib.hid (show EnI w.heap.size f (min (m + 1) (rn - 1)) R K _ wr by
                rw [show min (m + 1) (rn - 1) = min m (rn - 1) by omega]; exact HI.out)
              go_wp2_with fail
              go_roundw
              case rel => exact ⟨m + 1, by omega, by go_num, HI5.out, BB.out⟩
              case measure => simp [intOf]; omega
          · have hml : ¬ (m : Int) < (x : Int) := by omega
            obtain rfl : m = x := by omega
            obtain ⟨L, i1, i2, i3⟩ := hI.ex
            have hL : L.length = min m (rn - 1) := by have := congrArg List.length i1; simpa [enS, entL_length] using this
            obtain ⟨la, lc, rfl, hen⟩ := own_enr i2 hL (fun p hp => by obtain ⟨a, c, e, l, _⟩ := own_ls (i3 p hp) rfl; simp [P1.v] at e; obtain ⟨rfl, rfl⟩ := e; exact l)
            have HE := Lib.hid hen
            have I1 := Lib.hid i1
            have BB := Lib.hid B
            clear hI i1 i2 i3 hen B
            go_wp2_with fail
            go_ret2
            exact ⟨by rw [HN.out]; exact ⟨la, lc, L, by rw [entL_length]; rfl, I1.out, HE.out⟩, BB.out⟩
end Go.Proofs.Ytkgcbhpgkcfkhaa
