/- A field that is read, by contracts. -/
import Derived.Test.YtkgcbhpgkcfkhaaRea
namespace Go.Proofs.Ytkgcbhpgkcfkhaa
open Go.ChangeShapes Go.WideShapes Go.ChangeAt Go.RowKit
set_option linter.unusedVariables false
set_option linter.unusedSimpArgs false

theorem Ls.mid {K : IntKind} {t e : TypeId} {bs : Nat} (E : Elt K t e bs) {W : World} {a : Option Addr} {cap : Nat} {L : List Int} (h : Ls K W a cap L) (n i j : Nat) (hn : L.length = n) (hij : i ≤ j) (hj : j ≤ n) :
    ∃ a' c', (∀ W', (Instr.slice t (.slice a n cap) (some (.int .i64 (i : Int))) (some (.int .i64 (j : Int))) .none).run Try.prog W' = .ok (.slice a' (j - i) c') W') ∧ Ls K W a' c' ((L.drop i).take (j - i)) := by
  subst hn
  have hle := h.le
  obtain ⟨i0, hi0, hz0, hz1, hz2⟩ := info_parts E.inf
  have hel : Try.prog.elem t = e := by simp [Program.elem, E.ut]
  refine ⟨if cap = i then a else a.map (·.add (i * 1)), cap - i, fun W' => ?_, ?_, ?_, by rw [List.length_take, List.length_drop]; omega⟩
  · rw [run_slice_lh (P := Try.prog) (w := W') t a L.length cap (by rw [hel]; exact E.ut) .i64 .i64 i j (by omega) (by omega) (by omega)]
    have hs : ((sizeOf (Try.prog.elem t)).run Try.prog W') = .ok 1 W' := by rw [hel]; simp [sizeOf, typeInfo, hi0, hz1]
    rw [hs]
    rfl
  · by_cases hz : L.length = i
    · rw [List.drop_of_length_le (by omega)]; simpa using Rd.nil _ _ _
    · obtain ⟨b, off, e, _⟩ := h.rd 0 (by omega)
      subst e
      have hd := (h.rd.drop i).take (j - i)
      rw [if_neg (by omega)]
      by_cases h0 : i = 0
      · subst h0; simpa [Addr.add] using hd
      · simpa [Addr.add, h0] using hd
  · intro e
    have ha : a = .none := by
      by_cases hc : cap = i
      · rwa [if_pos hc] at e
      · rw [if_neg hc] at e; simpa using e
    obtain ⟨h1, h2⟩ := h.nl ha
    rw [h1, h2]; simp
theorem own_oth {w w' : World} {base n size B : Nat} {e : TypeId} {v : Value} {xs : List Value} (h : w.ownsRow base e size v n xs) (hB : B < base) (hg : w.grownBy w' (some B)) : w'.ownsRow base e size v n xs := by
  refine h.kept hg ?_
  rcases h.2 with ⟨rfl, _⟩ | ⟨g, cap, cur, rfl, hgg, _⟩
  · exact .inl rfl
  · refine .inr fun e => ?_
    have e' : g = B := by simpa [Value.ownBlock] using e
    omega
theorem own_base {w : World} {b b' n size : Nat} {e : TypeId} {v : Value} {xs : List Value} (hb : b ≤ b') (h : w.ownsRow b' e size v n xs) : w.ownsRow b e size v n xs :=
  ⟨h.1, h.2.imp id fun ⟨g, cap, cur, e1, e2, e3⟩ => ⟨g, cap, cur, e1, Nat.le_trans hb e2, e3⟩⟩
theorem own_apart {w : World} {b1 b2 n m s1 s2 : Nat} {e1 e2 : TypeId} {v u : Value} {xs ys : List Value} (h : w.ownsRow b1 e1 s1 v n xs) (k : w.ownsRow b2 e2 s2 u m ys) (hne : e1 ≠ e2) : v.ownBlock = none ∨ v.ownBlock ≠ u.ownBlock := by
  rcases h.2 with ⟨rfl, _⟩ | ⟨g, cap, cur, rfl, _, hg, _⟩
  · exact .inl rfl
  · refine .inr fun e => ?_
    rcases k.2 with ⟨rfl, _⟩ | ⟨g2, cap2, cur2, rfl, _, hg2, _⟩
    · cases e
    · have e' : g = g2 := by simpa [Value.ownBlock] using e
      subst e'
      rw [hg] at hg2
      simp at hg2
      exact hne hg2.2
theorem RdR.drew {W : World} {a : Option Addr} {R : List P1} (h : RdR W a R) : RdR W.drew a R := fun k p hp => by
  obtain ⟨b, off, e, h1, h2⟩ := h k p hp
  exact ⟨b, off, e, h1, h2.drew⟩
set_option maxRecDepth 100000 in
set_option maxHeartbeats 4000000 in
theorem field_one {W : World} {B : Nat} {ad : Option Addr} {cap n : Nat} {L : List Int} {p : Nat} (h : Rdr W B ad cap n L p) (hn : n ≤ 1000000) (f rest : List Int) (hf : f.length ≤ 24) (hd : L.drop p = wbytesL f ++ rest) :
    Calls Try.prog 95 #[.pointer (some ⟨B, 0, none⟩), .int .i64 24] W fun r w' => ∃ a' c', r = .returned (.tuple #[.slice a' f.length c', .int .i64 0]) ∧ w'.ownsRow W.heap.size 5 1 (.slice a' f.length c') f.length (iv .u8 f) ∧ Rdr w' B ad cap n L (p + 1 + f.length) ∧ W.grownBy w' (some B) := by
  have hlen := h.len
  have hp : p < n := by
    have := congrArg List.length hd
    rw [List.length_drop, hlen] at this
    simp [wbytesL] at this
    omega
  have hfit : p + 1 + f.length ≤ n := by
    have := congrArg List.length hd
    rw [List.length_drop, hlen] at this
    simp [wbytesL] at this
    omega
  obtain ⟨c, hc⟩ : ∃ c, f.length = c := ⟨_, rfl⟩
  have hg : L.getD p 0 = (c : Int) := by
    have := congrArg (fun l : List Int => l.getD 0 0) hd
    simpa [List.getD, List.getElem?_drop, wbytesL, hc] using this
  have hd1 : (L.drop (p + 1)).take c = f := by
    rw [← List.drop_drop, hd]
    simp [wbytesL, ← hc]
  rw [hc] at hf hfit ⊢
  have c0 := h.c0
  have c1 := h.c1
  have c2 := h.c2
  have H := Lib.hid h
  have HCT := Lib.hid (fun W' (hr : Rdr W' B ad cap n L p) => count_one hr hn c 24 hp hg hf (by omega))
  have HD1 := Lib.hid hd1
  have HC := Lib.hid hc
  have HLEN := Lib.hid hlen
  have hfit' := Lib.hid hfit
  have hbl := h.lt
  obtain ⟨m, hm⟩ : ∃ m, n - (p + 1) = m := ⟨_, rfl⟩
  have hcm : ¬ (m : Int) < (c : Int) := by omega
  have hmi : (m : Int) ≤ 1000000 := by omega
  have HMM := Lib.hid hm
  clear hm
  have hni : (n : Int) ≤ 1000000 := by omega
  have hci : (c : Int) ≤ 24 := by omega
  have hpi : (p : Int) < (n : Int) := by omega
  clear h hd hg hd1 hc hlen hp
  go_enter Try.func95, Try.ntmps95
  go_wp2_with fail
  refine (none_law H.out).mono ?_; rintro e w' ⟨rfl, rfl⟩
  go_wp2_with fail
  have B0 : Below W.heap.size W (W.alloc (.cells #[.slice ad n cap, .int .i64 (p : Int), .bool true] 158)) := (Below.refl _ _).alloc (Nat.le_refl _) _
  refine (HCT.out _ (H.out.below B0)).mono ?_; rintro e w2 ⟨rfl, h2, g2⟩
  have G2 := oth_trans (oth_below B B0) g2
  have LF := left_law h2 (by omega)
  rw [HMM.out] at LF
  clear c0 c1 c2 g2 B0
  go_wp2_with fail
  refine LF.mono ?_; rintro e w3 ⟨rfl, B3⟩
  clear LF
  have h3 := h2.below B3
  have G3 := oth_trans G2 (oth_below B B3)
  obtain ⟨a', c', s', l'⟩ := h3.here.mid eltB n (p + 1) (p + 1 + c) h3.len (by omega) hfit
  rw [show p + 1 + c - (p + 1) = c by omega] at s' l'
  rw [HD1.out] at l'
  have hw1 : (((p + 1 : Nat)) : Int) = (p : Int) + 1 := by omega
  have hw2 : (((p + 1 + c : Nat)) : Int) = (p : Int) + 1 + (c : Int) := by omega
  have d0 := h3.c0
  have d1 := h3.c1
  rw [hw1] at d1
  rw [hw1, hw2] at s'
  have hadd : IntKind.i64.wrap ((p : Int) + 1 + (c : Int)) = (p : Int) + 1 + (c : Int) := by rw [IntKind.wrap_i64]; omega
  have hcw : IntKind.i64.wrap (c : Int) = (c : Int) := by rw [IntKind.wrap_i64]; omega
  have HF : ∀ W', Below w3.heap.size w3 W' → Ls .u8 W' a' c' f := fun W' b => l'.below b
  have HFF := Lib.hid HF
  have H3 := Lib.hid h3
  have HG3 := Lib.hid G3
  clear h2 G2 B3 h3 G3 l' HF hw1 hw2
  go_wp2_with fail
  have hmx : Try.prog.follows .mixedOrders = true := by kernel_rfl
  have HQ := Lib.hid (show ∀ V, Below w3.heap.size w3 V → V.cell? ⟨B, 0, none⟩ = some (.slice ad n cap) ∧ V.cell? ⟨B, 1, none⟩ = some (.int .i64 ((p : Int) + 1)) ∧ Below w3.heap.size w3 V from fun V b => ⟨(b.cell (p := ⟨B, 0, none⟩) H3.out.lt).trans d0, (b.cell (p := ⟨B, 1, none⟩) H3.out.lt).trans d1, b⟩)
  have hfl : flat [⟨a', c', f⟩] = f := by simp [flat]
  have hj := join_own (some ⟨w3.heap.size, 0, none⟩) [⟨a', c', f⟩] 1 1 rfl (by omega) (by rw [hfl, HC.out]; omega) _ (RdR.drew (rdR_new w3 [⟨a', c', f⟩] #[.slice a' c c'] 24 (0, 0) (by simp only [List.map_cons, List.map_nil, P1.v, HC.out]) (by
    intro q hq
    simp only [List.mem_cons, List.not_mem_nil, or_false] at hq
    subst hq
    exact HFF.out _ (Below.refl _ _))))
  rw [hfl, HC.out] at hj
  have HJ := Lib.hid hj
  clear hj hfl
  go_region_held3 (fun V => V.cell? ⟨B, 0, none⟩ = some (.slice ad n cap) ∧ V.cell? ⟨B, 1, none⟩ = some (.int .i64 ((p : Int) + 1)) ∧ Below w3.heap.size w3 V)
    (first | (exact HQ.out _ (Below.refl _ _).drew) | (exact HQ.out _ (((Below.refl _ _).alloc (Nat.le_refl _) _).drew)) | (exact HQ.out _ (step_below (((Below.refl _ _).alloc (Nat.le_refl _) _).drew) B5)))
    (first | (go_at_call 74; refine HJ.out.mono ?_; rintro e w5 ⟨a5, c5, rfl, l5, fr5, B5⟩))
  have FR := Lib.hid fr5
  clear fr5
  have B6 : Below w3.heap.size w3 w5 := by go_split_ands; assumption
  have h5 := H3.out.below B6
  have e0 := h5.c0
  have e1 := h5.c1
  have g1 := h5.f1
  have H5 := Lib.hid h5
  have HB6 := Lib.hid B6
  have HL5 := Lib.hid l5
  rw [show ((p + 1 : Nat) : Int) = (p : Int) + 1 by omega] at e1
  clear h5 B6 d0 d1 l5 B5 HQ
  go_wp2_with fail
  go_ret2
  have hsz : W.heap.size ≤ w3.heap.size := HG3.out.size
  have hB3 := H3.out.lt
  have hmv := H5.out.move (p + 1 + c) hfit'.out
  have hbz : W.heap.size ≤ (w3.alloc (.cells #[.slice a' c c'] 24)).drew.heap.size := by simp; omega
  have l6 := own_oth (B := B) (own_base hbz FR.out) hbl (oth_set w5 B 1 (.int .i64 ((p + 1 + c : Nat) : Int)))
  rw [show ((p + 1 + c : Nat) : Int) = (p : Int) + 1 + (c : Int) by omega] at hmv l6
  exact ⟨a5, c5, rfl, l6, hmv, oth_trans HG3.out (oth_trans (oth_below B HB6.out) (oth_set _ _ _ _))⟩

theorem Rdr.put {W : World} {B : Nat} {ad : Option Addr} {cap n : Nat} {L : List Int} {p : Nat} (h : Rdr W B ad cap n L p) (q : Nat) (hq : q ≤ n) : Rdr (((W.setCell ⟨B, 0, none⟩ (.slice ad n cap)).setCell ⟨B, 1, none⟩ (.int .i64 (q : Int))).setCell ⟨B, 2, none⟩ (.bool true)) B ad cap n L q := by
  have k0 : (W.setCell ⟨B, 0, none⟩ (.slice ad n cap)).cell? ⟨B, 0, none⟩ = some (.slice ad n cap) := World.cell?_setCell_same W _ _ h.c0
  have k1 : (W.setCell ⟨B, 0, none⟩ (.slice ad n cap)).cell? ⟨B, 1, none⟩ = some (.int .i64 (p : Int)) := by
    rw [World.cell?_setCell_other W ⟨B, 0, none⟩ ⟨B, 1, none⟩ _ (fun q => by simp at q)]; exact h.c1
  have k2 : (W.setCell ⟨B, 0, none⟩ (.slice ad n cap)).cell? ⟨B, 2, none⟩ = some (.bool true) := by
    rw [World.cell?_setCell_other W ⟨B, 0, none⟩ ⟨B, 2, none⟩ _ (fun q => by simp at q)]; exact h.c2
  generalize hW1 : W.setCell ⟨B, 0, none⟩ (.slice ad n cap) = W1 at k0 k1 k2 ⊢
  have m0 : (W1.setCell ⟨B, 1, none⟩ (.int .i64 (q : Int))).cell? ⟨B, 0, none⟩ = some (.slice ad n cap) := by
    rw [World.cell?_setCell_other W1 ⟨B, 1, none⟩ ⟨B, 0, none⟩ _ (fun q => by simp at q)]; exact k0
  have m1 : (W1.setCell ⟨B, 1, none⟩ (.int .i64 (q : Int))).cell? ⟨B, 1, none⟩ = some (.int .i64 (q : Int)) := World.cell?_setCell_same W1 _ _ k1
  have m2 : (W1.setCell ⟨B, 1, none⟩ (.int .i64 (q : Int))).cell? ⟨B, 2, none⟩ = some (.bool true) := by
    rw [World.cell?_setCell_other W1 ⟨B, 1, none⟩ ⟨B, 2, none⟩ _ (fun q => by simp at q)]; exact k2
  refine ⟨h.len, ?_, ?_, World.cell?_setCell_same _ _ _ m2, ?_, ?_, ?_, fun W2 h2 => ?_, hq, h.apart⟩
  · rw [World.cell?_setCell_other _ ⟨B, 2, none⟩ ⟨B, 0, none⟩ _ (fun q => by simp at q)]; exact m0
  · rw [World.cell?_setCell_other _ ⟨B, 2, none⟩ ⟨B, 1, none⟩ _ (fun q => by simp at q)]; exact m1
  · rw [World.frozen?_setCell, World.frozen?_setCell, ← hW1, World.frozen?_setCell]; exact h.f0
  · rw [World.frozen?_setCell, World.frozen?_setCell, ← hW1, World.frozen?_setCell]; exact h.f1
  · rw [World.frozen?_setCell, World.frozen?_setCell, ← hW1, World.frozen?_setCell]; exact h.f2
  · refine h.ls W2 fun k b' off e => ?_
    have hb := h.apart b' off e
    rw [h2 k b' off e, World.cell?_setCell_other _ ⟨B, 2, none⟩ ⟨b', off + k, none⟩ _ (fun q => by simp at q <;> omega), World.cell?_setCell_other _ ⟨B, 1, none⟩ ⟨b', off + k, none⟩ _ (fun q => by simp at q <;> omega), ← hW1, World.cell?_setCell_other _ ⟨B, 0, none⟩ ⟨b', off + k, none⟩ _ (fun q => by simp at q <;> omega)]
set_option maxRecDepth 100000 in
set_option maxHeartbeats 4000000 in
/-- Nothing is left. -/
theorem field_end {W : World} {B : Nat} {ad : Option Addr} {cap n : Nat} {L : List Int} (h : Rdr W B ad cap n L n) (hn : n ≤ 1000000) :
    Calls Try.prog 95 #[.pointer (some ⟨B, 0, none⟩), .int .i64 24] W fun r w' => r = .returned (.tuple #[.slice none 0 0, .int .i64 4]) ∧ Rdr w' B ad cap n L n ∧ W.grownBy w' (some B) := by
  have c0 := h.c0
  have c1 := h.c1
  have c2 := h.c2
  have H := Lib.hid h
  have HCT := Lib.hid (fun W' (hr : Rdr W' B ad cap n L n) => count_end hr hn 24 (by omega))
  have hbl := h.lt
  clear h
  go_enter Try.func95, Try.ntmps95
  go_wp2_with fail
  refine (none_law H.out).mono ?_; rintro e w' ⟨rfl, rfl⟩
  go_wp2_with fail
  have B0 : Below W.heap.size W (W.alloc (.cells #[.slice ad n cap, .int .i64 (n : Int), .bool true] 158)) := (Below.refl _ _).alloc (Nat.le_refl _) _
  have h1 := H.out.below B0
  have k0 : (W.alloc (.cells #[.slice ad n cap, .int .i64 (n : Int), .bool true] 158)).cell? ⟨W.heap.size, 0, none⟩ = some (.slice ad n cap) := by rw [cell_new]; rfl
  have k1 : (W.alloc (.cells #[.slice ad n cap, .int .i64 (n : Int), .bool true] 158)).cell? ⟨W.heap.size, 1, none⟩ = some (.int .i64 (n : Int)) := by rw [cell_new]; rfl
  have k2 : (W.alloc (.cells #[.slice ad n cap, .int .i64 (n : Int), .bool true] 158)).cell? ⟨W.heap.size, 2, none⟩ = some (.bool true) := by rw [cell_new]; rfl
  have hsz : (W.alloc (.cells #[.slice ad n cap, .int .i64 (n : Int), .bool true] 158)).heap.size = W.heap.size + 1 := by simp
  clear c0 c1 c2
  generalize W.alloc (.cells #[.slice ad n cap, .int .i64 (n : Int), .bool true] 158) = W1 at B0 h1 k0 k1 k2 hsz ⊢
  refine (HCT.out _ h1).mono ?_; rintro e w2 ⟨rfl, B2⟩
  have h2 := h1.below B2
  have G2 := oth_below B (step_below B0 B2)
  have e0 := h2.c0
  have e1 := h2.c1
  have e2 := h2.c2
  have f0 := h2.f0
  have f1 := h2.f1
  have f2 := h2.f2
  replace k0 := (B2.cell (p := ⟨W.heap.size, 0, none⟩) (by rw [hsz]; simp)).trans k0
  replace k1 := (B2.cell (p := ⟨W.heap.size, 1, none⟩) (by rw [hsz]; simp)).trans k1
  replace k2 := (B2.cell (p := ⟨W.heap.size, 2, none⟩) (by rw [hsz]; simp)).trans k2
  have HG2 := Lib.hid G2
  have HP := Lib.hid (h2.put n (Nat.le_refl _))
  clear B0 h1 B2 h2 G2 hsz
  go_wp2_with fail
  go_ret2
  refine ⟨rfl, HP.out, ?_⟩
  exact oth_trans HG2.out (oth_trans (oth_set _ _ _ _) (oth_trans (oth_set _ _ _ _) (oth_set _ _ _ _)))
end Go.Proofs.Ytkgcbhpgkcfkhaa
