/- Which entries go and come, by contracts. -/
import Derived.Test.YtkgcbhpgkcfkhaaCjy
import Derived.Test.YtkgcbhpgkcfkhaaCjz
namespace Go.Proofs.Ytkgcbhpgkcfkhaa
open Go.ChangeShapes Go.WideShapes Go.ChangeAt Go.RowKit Go.Shelf
set_option linter.unusedVariables false
set_option linter.unusedSimpArgs false

theorem enr_cells {w : World} {ad : Addr} {L : List E1} (h : EnR w (some ad) L) : ∀ j u, (ev L)[j]? = some u → w.cell? (ad.add j) = some u := by
  intro j u hj
  have hl : j < L.length * 2 := by have := (List.getElem?_eq_some_iff.1 hj).1; rwa [ev_length] at this
  obtain ⟨p, hp⟩ : ∃ p, L[j / 2]? = some p := ⟨_, List.getElem?_eq_getElem (by omega)⟩
  obtain ⟨b, off, e, c0, c1, _⟩ := h _ p hp
  cases e
  have hadd : (⟨b, off, none⟩ : Addr).add j = ⟨b, off + j, none⟩ := by unfold Addr.add; split <;> simp_all
  rw [hadd]
  rcases (show j = j / 2 * 2 ∨ j = j / 2 * 2 + 1 by omega) with h2 | h2
  · rw [h2, (ev_at L _ p hp).1] at hj
    rw [h2, c0, hj]
  · rw [h2, (ev_at L _ p hp).2] at hj
    rw [h2, ← Nat.add_assoc, c1, hj]
theorem ev_one (L : List E1) : ∀ u ∈ ev L, u.oneCell' = true := by
  intro u hu
  simp only [ev, List.mem_flatMap] at hu
  obtain ⟨p, _, h⟩ := hu
  simp at h
  rcases h with rfl | rfl <;> rfl
set_option maxRecDepth 100000 in
set_option maxHeartbeats 1000000 in
theorem cloneE_law (a : Option Addr) (L : List E1) (n cap : Nat) (hL : L.length = n) (hn : n ≤ 1000000) (w : World) (hA : EnR w a L) :
    Calls Try.prog 82 #[.slice a n cap] w fun r w' => ∃ a' c', r = .returned (.slice a' n c') ∧ w'.ownsRow w.heap.size 91 2 (.slice a' n c') n (ev L) ∧ Below w.heap.size w w' := by
  obtain ⟨i0, hi, hz0, hz1, hz2⟩ := info_parts info91
  have HA := Lib.hid hA
  have HL := Lib.hid hL
  rcases a with _ | a
  · obtain rfl : L = [] := by
      rcases L with _ | ⟨p, r⟩
      · rfl
      · obtain ⟨_, _, e, _⟩ := hA 0 p rfl
        cases e
    simp only [List.length_nil] at hL
    subst hL
    have hsn : ∀ W, (binOp .eql 68 (.slice none 0 cap) (.slice none 0 0)).run Try.prog W = .ok (.bool true) W := fun W => Lib.run_eql_slice_nil W 68 91 none 0 cap 0 0 Try.underlying68
    clear hA
    go_enter Try.func82, Try.ntmps82
    go_wp2_with fail
    go_ret
    exact ⟨none, 0, rfl, World.ownsRow_nil _ _ _ _, Below.refl _ _⟩
  · clear hA hL
    have hsn : ∀ W, (binOp .eql 68 (.slice (some a) n cap) (.slice none 0 0)).run Try.prog W = .ok (.bool false) W := fun W => Lib.run_eql_slice_nil W 68 91 (some a) n cap 0 0 Try.underlying68
    go_enter Try.func82, Try.ntmps82
    go_wp2_with (at_builtin; refine wpList_append_own _ rfl (.tmp 5) (.tmp 6) 68 rfl w.heap.size 91 i0 (.agg #[.int .i64 0, .slice none 0 0]) 2 32 Try.underlying68 hi hz0 hz1 hz2 rfl (by decide) _ 0 [] rfl (World.ownsRow_lit w #[] 0 (Nat.le_refl _) (by decide) rfl) a n cap (ev L) rfl (by rw [ev_length, HL.out]) (enr_cells (HA.out.below ((Below.refl _ _).alloc (Nat.le_refl _) _))) (ev_one L) (by unfold maxLen; omega) (by omega) (by simp) ?_)
    intro v2 w2 hown2 hgrow2 _
    have B2 := ((Below.refl w.heap.size w).alloc (Nat.le_refl _) _).grown hgrow2 (by simp) (fun j hj => by simp [Value.ownBlock] at hj; omega)
    obtain ⟨a', c', rfl⟩ : ∃ a' c', v2 = .slice a' n c' := by
      rcases hown2.2 with ⟨e, h0⟩ | ⟨g, c, _, e, _⟩
      · exact ⟨none, 0, by rw [e, h0]⟩
      · exact ⟨_, c, e⟩
    have HO := Lib.hid hown2
    clear hown2 hgrow2
    go_wp2_with fail
    go_ret
    exact ⟨a', c', rfl, HO.out, B2⟩
/-- What one list has and another has not. -/
def wo (L O : List E1) : List E1 := L.filter fun x => !inE O x
def woS (A B : List (Int × List Int)) : List (Int × List Int) := A.filter fun x => !decide (x ∈ B)
theorem inE_iff (O : List E1) (x : E1) : inE O x = decide ((x.1, x.2.bs) ∈ enS O) := by
  unfold inE enS eqE
  rw [Bool.eq_iff_iff]
  simp only [List.any_eq_true, decide_eq_true_eq, List.mem_map, Prod.mk.injEq]
theorem enS_wo (L O : List E1) : enS (wo L O) = woS (enS L) (enS O) := by
  show (L.filter fun x => !inE O x).map (fun p => (p.1, p.2.bs)) = (L.map fun p => (p.1, p.2.bs)).filter fun x => !decide (x ∈ enS O)
  rw [List.filter_map]
  congr 1
  apply List.filter_congr
  intro x _
  simp only [Function.comp, inE_iff]
theorem enr_ls {w : World} {a : Option Addr} {L : List E1} (h : EnR w a L) : ∀ t v, (t, v) ∈ L → Ls .u8 w v.ad v.cap v.bs := fun t v hm => by
  obtain ⟨k, hk⟩ := List.mem_iff_getElem?.1 hm
  obtain ⟨_, _, _, _, _, l⟩ := h k _ hk
  exact l
set_option maxRecDepth 100000 in
set_option maxHeartbeats 2000000 in
theorem without_law (a b : Option Addr) (L O : List E1) (n m ca cb : Nat) (hL : L.length = n) (hO : O.length = m) (hn : n ≤ 1000000) (hm : m ≤ 1000000) (bL : EnB L) (bO : EnB O) (w : World) (hA : EnR w a L) (hB : EnR w b O) :
    Calls Try.prog 80 #[.slice a n ca, .slice b m cb] w fun r w' => ∃ a' c', r = .returned (.slice a' (wo L O).length c') ∧ EnR w' a' (wo L O) ∧ Below w.heap.size w w' := by
  have b0 : Below w.heap.size w (w.alloc (.cells #[.slice b m cb] 68)) := (Below.refl _ _).alloc (Nat.le_refl _) _
  have c0 : (w.alloc (.cells #[.slice b m cb] 68)).cell? ⟨w.heap.size, 0, none⟩ = some (.slice b m cb) := by rw [cell_new]; rfl
  have hA1 := hA.below b0
  have hB1 := hB.below b0
  have hC := cloneE_law a L n ca hL hn _ hA1
  have hD : ∀ a' c' W, Below (w.alloc (.cells #[.slice b m cb] 68)).heap.size (w.alloc (.cells #[.slice b m cb] 68)) W → W.ownsRow (w.alloc (.cells #[.slice b m cb] 68)).heap.size 91 2 (.slice a' n c') n (ev L) → _ := fun a' c' W BW ho =>
    delete_law 83 (enters_of Try.func83 (by kernel_rfl) rfl) ⟨w.heap.size, 0, none⟩ (inE O) a' c' L n hL hn _ W BW ho (enr_ls hA1) (fun V hV t v hm' =>
      in_law t v w.heap.size b O m cb hO hm bO (bL t v hm').1 (bL t v hm').2 V (hB1.below hV) ((enr_ls hA1 t v hm').below hV) ((hV.cell (World.block_lt_of_cell? _ _ c0)).trans c0))
  have hmf : ∀ (fn : Fn) (first cap : Array Value) (w : World), (Instr.makeFunc fn first cap).run Try.prog w = .ok (.func fn first cap) w := fun _ _ _ _ => rfl
  have HC := Lib.hid hC
  have HD := Lib.hid hD
  have HB0 := Lib.hid b0
  clear hC hD b0 c0 hA hB hA1 hB1 bL bO hL hO
  go_enter Try.func80, Try.ntmps80
  go_wp2_with fail
  refine HC.out.mono ?_; rintro r w2 ⟨a2, c2, rfl, o2, B2⟩
  have HO2 := Lib.hid o2
  have HB2 := Lib.hid B2
  clear o2 B2
  go_wp2_with fail
  refine (HD.out a2 c2 _ HB2.out HO2.out).mono ?_; rintro r w3 ⟨a3, c3, rfl, r3, B3⟩
  have HR3 := Lib.hid r3
  have HB3 := Lib.hid (step_below HB0.out B3)
  clear r3 B3
  go_wp2_with fail
  go_ret
  exact ⟨a3, c3, rfl, HR3.out, HB3.out⟩
end Go.Proofs.Ytkgcbhpgkcfkhaa
