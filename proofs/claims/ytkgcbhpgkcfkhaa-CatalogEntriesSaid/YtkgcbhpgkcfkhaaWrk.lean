/- What 'RowWrites' stands on: a row that is copied, opened; the copy while it is written. -/
import Derived.Test.YtkgcbhpgkcfkhaaCop
import Derived.Test.YtkgcbhpgkcfkhaaRwo
import Derived.Test.YtkgcbhpgkcfkhaaTel
import Derived.ProofKit
namespace Go.Proofs.Ytkgcbhpgkcfkhaa
open Go.ChangeShapes Go.WideShapes Go.ChangeAt Go.RowKit
set_option linter.unusedVariables false
set_option linter.unusedSimpArgs false

def FlipI (base : Nat) (a : Option Addr) (K : List P1) (W : World) : Prop := ∀ k p, K[k]? = some p → (∃ b off, a = some ⟨b, off, none⟩ ∧ W.cell? ⟨b, off + k, none⟩ = some p.v) ∧
  ∀ j < p.bs.length, ∃ g x, p.ad = some ⟨g, 0, none⟩ ∧ base ≤ g ∧ W.cell? ⟨g, j, none⟩ = some (.int .u8 x) ∧ W.frozen? ⟨g, j, none⟩ = false
theorem FlipI.drew {base : Nat} {a : Option Addr} {K : List P1} {W : World} (h : FlipI base a K W) : FlipI base a K W.drew := fun k p hp => h k p hp
theorem FlipI.below {base : Nat} {a : Option Addr} {K : List P1} {W W' : World} (h : FlipI base a K W) (hb : Below W.heap.size W W') : FlipI base a K W' := fun k p hp => by
  obtain ⟨⟨b, off, e, c⟩, h2⟩ := h k p hp
  refine ⟨⟨b, off, e, (hb.cell (World.block_lt_of_cell? W _ c)).trans c⟩, fun j hj => ?_⟩
  obtain ⟨g, x, e1, e2, e3, e4⟩ := h2 j hj
  have hl := World.block_lt_of_cell? W _ e3
  refine ⟨g, x, e1, e2, (hb.cell hl).trans e3, ?_⟩
  have := hb.block g hl
  rw [← e4]
  unfold World.frozen?
  simp only [this]
theorem FlipI.set {base : Nat} {a : Option Addr} {K : List P1} {W : World} (h : FlipI base a K W) {g j : Nat} {x : Int} (hc : W.cell? ⟨g, j, none⟩ = some (.int .u8 x)) (y : Int) : FlipI base a K (W.setCell ⟨g, j, none⟩ (.int .u8 y)) := fun k p hp => by
  obtain ⟨⟨b, off, e, c⟩, h2⟩ := h k p hp
  refine ⟨⟨b, off, e, ?_⟩, fun i hi => ?_⟩
  · by_cases q : (⟨b, off + k, none⟩ : Addr) = ⟨g, j, none⟩
    · rw [q, hc] at c
      simp [P1.v] at c
    · rw [World.cell?_setCell_other W ⟨g, j, none⟩ ⟨b, off + k, none⟩ _ (by first | exact q | exact Ne.symm q)]
      exact c
  · obtain ⟨g', x', e1, e2, e3, e4⟩ := h2 i hi
    by_cases q : (⟨g', i, none⟩ : Addr) = ⟨g, j, none⟩
    · refine ⟨g', y, e1, e2, ?_, by rw [World.frozen?_setCell]; exact e4⟩
      rw [q, World.cell?_setCell_same W ⟨g, j, none⟩ _ hc]
    · refine ⟨g', x', e1, e2, ?_, by rw [World.frozen?_setCell]; exact e4⟩
      rw [World.cell?_setCell_other W ⟨g, j, none⟩ ⟨g', i, none⟩ _ (by first | exact q | exact Ne.symm q)]
      exact e3
theorem cpR_open {base n : Nat} {v : Value} {R : List P1} {W : World} (h : CpR base R n v W) (hn : R.length = n) : ∃ a c K, v = .slice a n c ∧ K.map P1.bs = R.map P1.bs ∧ RdR W a K ∧ FlipI base a K W := by
  obtain ⟨K, h1, h2, h3⟩ := h.ex
  rw [List.take_of_length_le (by omega)] at h1
  have hKl : K.length = n := by have := congrArg List.length h1; simp at this; omega
  have h2' := h2
  rcases h2.2 with ⟨e, h0⟩ | ⟨g, cap, cur, rfl, hg, _⟩
  · have : K = [] := List.length_eq_zero_iff.1 (by omega)
    subst this h0
    exact ⟨none, 0, [], e, h1, RdR.nil _ _, fun k p hp => by simp at hp⟩
  · have hc : ∀ (k : Nat) (p : P1), K[k]? = some p → W.cell? ⟨g, 0 + k, none⟩ = some p.v := fun k p hp => by
      have hk := (List.getElem?_eq_some_iff.1 hp).1
      rw [Nat.zero_add, h2'.cellAt k (by omega)]
      simp [hp]
    have hf : ∀ (k : Nat) (p : P1), K[k]? = some p → Ls .u8 W p.ad p.cap p.bs ∧ (0 < p.bs.length → ∃ g, p.ad = some ⟨g, 0, none⟩ ∧ base ≤ g) := fun k p hp => by
      obtain ⟨a, c, e, l, q⟩ := own_ls (h3 p (List.mem_of_getElem? hp)) rfl
      simp [P1.v] at e
      obtain ⟨rfl, rfl⟩ := e
      exact ⟨l, q⟩
    refine ⟨_, cap, K, rfl, h1, fun k p hp => ⟨g, 0, rfl, hc k p hp, (hf k p hp).1⟩, fun k p hp => ⟨⟨g, 0, rfl, hc k p hp⟩, fun j hj => ?_⟩⟩
    obtain ⟨l, q⟩ := hf k p hp
    obtain ⟨g', e', hb⟩ := q (by omega)
    obtain ⟨b1, o1, e1, c1⟩ := l.get j hj
    rw [e'] at e1
    cases e1
    have ho := h3 p (List.mem_of_getElem? hp)
    rw [P1.v, e'] at ho
    exact ⟨g', _, e', hb, by simpa using c1, own_froz ho j⟩
theorem allB_congr {K R : List P1} (h : K.map P1.bs = R.map P1.bs) : allB K = allB R := by
  have e : ∀ T : List P1, allB T = (T.map P1.bs).all fun b => decide (b.length ≤ 24) := fun T => by simp [allB, Function.comp_def]
  rw [e, e, h]
theorem len_congr {K R : List P1} (h : K.map P1.bs = R.map P1.bs) : K.length = R.length := by simpa using congrArg List.length h
theorem mayR_congr {K R : List P1} (h : K.map P1.bs = R.map P1.bs) : mayR K = mayR R := by rw [mayR, mayR, allB_congr h, len_congr h]
theorem byt_congr {K R : List P1} (h : K.map P1.bs = R.map P1.bs) (hb : ∀ p ∈ R, Byt p.bs) : ∀ p ∈ K, Byt p.bs := fun p hp => by
  have : p.bs ∈ R.map P1.bs := by rw [← h]; exact List.mem_map.2 ⟨p, hp, rfl⟩
  obtain ⟨q, hq, e⟩ := List.mem_map.1 this
  rw [← e]; exact hb q hq
theorem lens_congr {K R : List P1} (h : K.map P1.bs = R.map P1.bs) (hb : ∀ p ∈ R, p.bs.length ≤ 9000) : ∀ p ∈ K, p.bs.length ≤ 9000 := fun p hp => by
  have : p.bs ∈ R.map P1.bs := by rw [← h]; exact List.mem_map.2 ⟨p, hp, rfl⟩
  obtain ⟨q, hq, e⟩ := List.mem_map.1 this
  rw [← e]; exact hb q hq
theorem bytes_cp {R K : List P1} (h : K.map P1.bs = R.map P1.bs) (a : Option Addr) (n cap : Nat) (hn : R.length = n) (hn3 : n ≤ 1000000) (w : World) (hR : RdR w a K) :
    Calls Try.prog 15 #[.slice a n cap] w fun r w' => ∃ a' c', r = .returned (.tuple #[.slice a' (bA R).length c', .int .i64 (eR R)]) ∧ Ls .u8 w' a' c' (bA R) ∧ Below w.heap.size w w' := by
  have := bytes_any a K n cap (by rw [len_congr h]; exact hn) hn3 w hR
  rwa [show bA K = bA R by rw [bA, bA, mayR_congr h, rbytesL_congr h], show eR K = eR R by rw [eR, eR, mayR_congr h]] at this
theorem words_cp {R K : List P1} (h : K.map P1.bs = R.map P1.bs) (a : Option Addr) (n cap : Nat) (hn : R.length = n) (hn3 : n ≤ 1000000) (hb : ∀ p ∈ R, Byt p.bs) (w : World) (hR : RdR w a K) :
    Calls Try.prog 16 #[.slice a n cap] w fun r w' => ∃ a' c', r = .returned (.tuple #[.slice a' (wA R).length c', .int .i64 (eR R)]) ∧ Ls .u64 w' a' c' (wA R) ∧ Below w.heap.size w w' := by
  have := words_any a K n cap (by rw [len_congr h]; exact hn) hn3 (byt_congr h hb) w hR
  rwa [show wA K = wA R by rw [wA, wA, mayR_congr h, rbytesL_congr h], show eR K = eR R by rw [eR, eR, mayR_congr h]] at this
theorem may_cp {R K : List P1} (h : K.map P1.bs = R.map P1.bs) (a : Option Addr) (n cap : Nat) (hn : R.length = n) (hn3 : n ≤ 1000000) (w : World) (hR : RdR w a K) :
    Calls Try.prog 18 #[.slice a n cap] w fun r w' => r = .returned (.bool (mayR R)) ∧ Below w.heap.size w w' := by
  have := mayr_law a K n cap (by rw [len_congr h]; exact hn) hn3 w hR
  rwa [mayR_congr h] at this
theorem rsame_cp {K S : List P1} (h : K.map P1.bs = S.map P1.bs) (a b : Option Addr) (n ca cb : Nat) (hn : S.length = n) (hn3 : n ≤ 1000000) (bS : ∀ p ∈ S, Byt p.bs) (w : World) (hR : RdR w a K) (hS : RdR w b S) :
    Calls Try.prog 22 #[.slice a n ca, .slice b n cb] w fun r w' => r = .returned (.bool true) ∧ Below w.heap.size w w' := by
  have := rsame_law a b K S n n ca cb (by rw [len_congr h]; exact hn) hn hn3 (byt_congr h bS) bS w hR hS
  rwa [(eqB_iff K S).2 h] at this
theorem same_cp {K S : List P1} (h : K.map P1.bs = S.map P1.bs) (a b : Option Addr) (n ca cb : Nat) (hn : S.length = n) (hn3 : n ≤ 1000000) (bS : ∀ p ∈ S, Byt p.bs) (w : World) (hR : RdR w a K) (hS : RdR w b S) :
    Calls Try.prog 23 #[.slice a n ca, .slice b n cb] w fun r w' => r = .returned (.bool true) ∧ Below w.heap.size w w' := by
  have := same_law a b K S n n ca cb (by rw [len_congr h]; exact hn) hn hn3 (byt_congr h bS) bS w hR hS
  rwa [(eqB_iff K S).2 h] at this
theorem copy_cp (a : Option Addr) (R : List P1) (n cap : Nat) (hn : R.length = n) (hn3 : n ≤ 9000) (hl : ∀ p ∈ R, p.bs.length ≤ 9000) (w : World) (hR : RdR w a R) :
    Calls Try.prog 14 #[.slice a n cap] w fun r w' => (∃ a' c' K, r = .returned (.slice a' n c') ∧ K.map P1.bs = R.map P1.bs ∧ RdR w' a' K) ∧ Below w.heap.size w w' :=
  (refcopy_law a R n cap hn hn3 hl w hR).mono fun r w' ⟨⟨v, e, h⟩, B⟩ => by
    obtain ⟨a', c', K, rfl, h1, h2, _⟩ := cpR_open h hn
    exact ⟨⟨a', c', K, e, h1, h2⟩, B⟩
theorem held_cp {R K : List P1} (h : K.map P1.bs = R.map P1.bs) (a : Option Addr) (n cap : Nat) (hn : R.length = n) (hn3 : n ≤ 9000) (hl : ∀ p ∈ R, p.bs.length ≤ 9000) (w : World) (hR : RdR w a K) :
    Calls Try.prog 17 #[.slice a n cap] w fun r w' => (∃ a' c' H, r = .returned (.slice a' n c') ∧ H.map P1.bs = R.map P1.bs ∧ RdR w' a' H ∧ FlipI w.heap.size a' H w') ∧ Below w.heap.size w w' :=
  (rowcopy_law a K n cap (by rw [len_congr h]; exact hn) hn3 (lens_congr h hl) w hR).mono fun r w' ⟨⟨v, e, h0⟩, B⟩ => by
    obtain ⟨a', c', H, rfl, h1, h2, h3⟩ := cpR_open h0 (by rw [len_congr h]; exact hn)
    exact ⟨⟨a', c', H, e, h1.trans h, h2, h3⟩, B⟩
theorem wA_len11 (R : List P1) : (wA R).length ≤ 11 := by
  unfold wA
  split
  · rename_i h
    have := rbytes_len h
    rw [wordsL_length]; omega
  · simp
end Go.Proofs.Ytkgcbhpgkcfkhaa
