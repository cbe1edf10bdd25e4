/- Entries sought by a predicate, by contracts. -/
import Derived.Test.YtkgcbhpgkcfkhaaCjd
import Derived.Shelf.Abstract
namespace Go.Proofs.Ytkgcbhpgkcfkhaa
open Go.ChangeShapes Go.WideShapes Go.ChangeAt Go.RowKit Go.Shelf
set_option linter.unusedVariables false
set_option linter.unusedSimpArgs false

/-- What a predicate on entries gives, in a world. -/
def PredE (g : Nat) (p : Addr) (q : E1 → Bool) (L : List E1) (W : World) : Prop := ∀ t v, (t, v) ∈ L → Calls Try.prog g #[.agg #[.int .i64 t, v.v], .pointer (some p)] W fun r W' => r = .returned (.bool (q (t, v))) ∧ Below W.heap.size W W'
/-- The place of the first hit, or -1. -/
def fstI (q : E1 → Bool) (L : List E1) : Int := if L.any q then ((L.findIdx q : Nat) : Int) else -1
theorem fstI_hit {q : E1 → Bool} {L : List E1} {k : Nat} {e : E1} (h : ∀ j < k, ∀ p, L[j]? = some p → q p = false) (he : L[k]? = some e) (hq : q e = true) : fstI q L = (k : Int) := by
  have hk := (List.getElem?_eq_some_iff.1 he).1
  have ha : L.any q = true := List.any_eq_true.2 ⟨e, List.mem_of_getElem? he, hq⟩
  have hf : L.findIdx q = k := (List.findIdx_eq hk).2 ⟨by rw [(List.getElem?_eq_some_iff.1 he).2]; exact hq, fun j hj => h j hj _ (List.getElem?_eq_getElem (by omega))⟩
  rw [fstI, if_pos ha, hf]
theorem fstI_none {q : E1 → Bool} {L : List E1} {n : Nat} (hn : L.length = n) (h : ∀ j < n, ∀ p, L[j]? = some p → q p = false) : fstI q L = -1 := by
  have ha : ¬ L.any q = true := fun e => by
    obtain ⟨x, hx, hq⟩ := List.any_eq_true.1 e
    obtain ⟨j, hj, rfl⟩ := List.getElem_of_mem hx
    rw [h j (by omega) _ (List.getElem?_eq_getElem hj)] at hq
    simp at hq
  rw [fstI, if_neg ha]
theorem fstI_spec (q : E1 → Bool) (L : List E1) : (fstI q L = -1 ∧ L.any q = false) ∨ ∃ k, k < L.length ∧ fstI q L = (k : Int) ∧ L.any q = true ∧ (∀ j < k, ∀ p, L[j]? = some p → q p = false) ∧ ∃ e, L[k]? = some e ∧ q e = true := by
  by_cases ha : L.any q = true
  · refine .inr ⟨L.findIdx q, ?_, by rw [fstI, if_pos ha], ha, fun j hj p hp => ?_, ?_⟩
    · obtain ⟨x, hx, hq⟩ := List.any_eq_true.1 ha
      exact List.findIdx_lt_length_of_exists ⟨x, hx, hq⟩
    · have := List.not_of_lt_findIdx hj
      rw [(List.getElem?_eq_some_iff.1 hp).2] at this
      simpa using this
    · obtain ⟨x, hx, hq⟩ := List.any_eq_true.1 ha
      have hl := List.findIdx_lt_length_of_exists (p := q) (xs := L) ⟨x, hx, hq⟩
      exact ⟨_, List.getElem?_eq_getElem hl, List.findIdx_getElem (w := hl)⟩
  · exact .inl ⟨by rw [fstI, if_neg ha], by simpa using ha⟩
theorem jstepQ {q : E1 → Bool} {L : List E1} {k : Nat} {e : E1} (h : ∀ j < k, ∀ p, L[j]? = some p → q p = false) (he : L[k]? = some e) (hq : q e = false) : ∀ j < k + 1, ∀ p, L[j]? = some p → q p = false := fun j hj p hp => by
  by_cases h' : j = k
  · subst h'; rw [he] at hp; cases hp; exact hq
  · exact h j (by omega) p hp
set_option maxRecDepth 100000 in
set_option maxHeartbeats 2000000 in
theorem index_law (g : Nat) (eg : ∀ args w, (callFunc g args).run Try.prog w = .ok (.enter g args) w) (pa : Addr) (q : E1 → Bool) (a : Option Addr) (L : List E1) (n cap : Nat) (hn : L.length = n) (hn3 : n ≤ 1000000) (w : World) (hL : EnR w a L) (hg : ∀ W, Below w.heap.size w W → PredE g pa q L W) :
    Calls Try.prog 99 #[.slice a n cap, .func (.func g) #[] #[.pointer (some pa)]] w fun r w' => r = .returned (.int .i64 (fstI q L)) ∧ Below w.heap.size w w' := by
  have HL := Lib.hid hL
  have HG := Lib.hid hg
  have HN := Lib.hid hn
  clear hL hg hn
  go_enter Try.func99, Try.ntmps99
  go_wp2_with fail
  go_loopw [8] (fun i wr => ∃ k : Nat, k ≤ n ∧ i = .int .i64 k ∧ (∀ j < k, ∀ p, L[j]? = some p → q p = false) ∧ Below w.heap.size w wr) (fun i _ => n - (intOf i).toNat)
  case atStart => exact ⟨0, by omega, rfl, fun j hj => absurd hj (by omega), Below.refl _ _⟩
  case round =>
    obtain ⟨k, hk, rfl, hpre, B0⟩ := hrel
    have HP := Lib.hid hpre
    have BB := Lib.hid B0
    clear hpre B0
    by_cases hlt : k < n
    · have hkl : (k : Int) < (n : Int) := by omega
      have hk9 : (k : Int) ≤ 1000000 := by omega
      obtain ⟨e, he⟩ : ∃ e, L[k]? = some e := ⟨_, List.getElem?_eq_getElem (by rw [HN.out]; exact hlt)⟩
      obtain ⟨b1, o1, e1, c1, g1, l1⟩ := HL.out.below BB.out k e he
      obtain ⟨et, ⟨ea, ec, el⟩⟩ := e
      subst e1
      have d1 : wr.cell? ⟨b1, o1 + k * 2, none⟩ = some (.int .i64 et) := c1
      have d2 : wr.cell? ⟨b1, o1 + k * 2 + 1, none⟩ = some (.slice ea el.length ec) := g1
      have hc : Calls Try.prog g #[.agg #[.int .i64 et, .slice ea el.length ec], .pointer (some pa)] wr _ := HG.out _ BB.out et ⟨ea, ec, el⟩ (List.mem_of_getElem? he)
      have HE := Lib.hid he
      have HC := Lib.hid hc
      clear c1 g1 l1 he hc
      by_cases hq : q (et, ⟨ea, ec, el⟩) = true
      · have HQ := Lib.hid hq
        clear hq
        go_wp2_with (go_at_fn g; refine HC.out.mono ?_; rintro r w' ⟨rfl, B1⟩; rw [HQ.out])
        go_ret
        exact ⟨ret_int (fstI_hit HP.out HE.out HQ.out).symm, step_below BB.out B1⟩
      · have HQ := Lib.hid (show q (et, ⟨ea, ec, el⟩) = false by simpa using hq)
        clear hq
        go_wp2_with (go_at_fn g; refine HC.out.mono ?_; rintro r w' ⟨rfl, B1⟩; rw [HQ.out])
        go_roundw
        case rel => exact ⟨k + 1, by omega, by go_num, jstepQ HP.out HE.out HQ.out, step_below BB.out B1⟩
        case measure => simp [intOf]; omega
    · have hkl : ¬ (k : Int) < (n : Int) := by omega
      have HF := Lib.hid (fstI_none HN.out (fun j hj => HP.out j (by omega)))
      go_wp2_with fail
      go_ret
      exact ⟨ret_int HF.out.symm, BB.out⟩
set_option maxRecDepth 100000 in
set_option maxHeartbeats 2000000 in
theorem contains_law (g : Nat) (eg : ∀ args w, (callFunc g args).run Try.prog w = .ok (.enter g args) w) (pa : Addr) (q : E1 → Bool) (a : Option Addr) (L : List E1) (n cap : Nat) (hn : L.length = n) (hn3 : n ≤ 1000000) (w : World) (hL : EnR w a L) (hg : ∀ W, Below w.heap.size w W → PredE g pa q L W) :
    Calls Try.prog 84 #[.slice a n cap, .func (.func g) #[] #[.pointer (some pa)]] w fun r w' => r = .returned (.bool (L.any q)) ∧ Below w.heap.size w w' := by
  have H := Lib.hid (index_law g eg pa q a L n cap hn hn3 w hL hg)
  clear hL hg hn
  rcases fstI_spec q L with ⟨e, ha⟩ | ⟨k, hk, e, ha, _⟩
  · rw [e] at H
    rw [ha]
    go_enter Try.func84, Try.ntmps84
    go_wp2_with fail
    refine H.out.mono ?_; rintro r w' ⟨rfl, B⟩
    go_wp2_with fail
    go_ret
    exact ⟨rfl, B⟩
  · rw [e] at H
    rw [ha]
    have hk0 : (0 : Int) ≤ (k : Int) := by omega
    clear e
    go_enter Try.func84, Try.ntmps84
    go_wp2_with fail
    refine H.out.mono ?_; rintro r w' ⟨rfl, B⟩
    go_wp2_with fail
    go_ret
    exact ⟨ret_bool (by simp), B⟩
end Go.Proofs.Ytkgcbhpgkcfkhaa
