/- The chapter's rows: what the callees of 'known' give, by contracts. -/
import Derived.Test.YtkgcbhpgkcfkhaaCk4
import Derived.Test.YtkgcbhpgkcfkhaaCjq
import Derived.Test.YtkgcbhpgkcfkhaaCjt
namespace Go.Proofs.Ytkgcbhpgkcfkhaa
open Go.ChangeShapes Go.WideShapes Go.ChangeAt Go.RowKit Go.Shelf
set_option linter.unusedVariables false
set_option linter.unusedSimpArgs false

theorem num35 (e : Int) (w : World) : Calls Try.prog 35 #[.int .i64 e] w fun r w' => r = .returned (.int .i64 e) ∧ w = w' := by
  go_enter Try.func35, Try.ntmps35
  go_wp2
  go_ret
  exact ⟨rfl, rfl⟩
/-- The chapter's job. -/
def kJ (b : Nat) : Job := ⟨1, 1, 3, 1024, 1024, 1, some ⟨b, 0, none⟩, 2, 2, [0, 2]⟩
def kjV (b : Nat) : Value := .agg #[.int .i64 1, .int .i64 1, .int .i64 3, .int .i64 1024, .int .i64 1024, .int .i64 1, .slice (some ⟨b, 0, none⟩) 2 2]
set_option maxRecDepth 100000 in
theorem job_law (w : World) : Calls Try.prog 55 #[] w fun r w' => (∃ b, r = .returned (kjV b) ∧ JobAt w' (kJ b)) ∧ Below w.heap.size w w' := by
  unfold kjV
  go_enter Try.func55, Try.ntmps55
  go_wp2_with fail
  have hb := (BoxC.new w #[.int .i64 1, .int .i64 1, .int .i64 3, .int .i64 1024, .int .i64 1024, .int .i64 1, .slice (some ⟨w.heap.size + 1, 0, none⟩) 2 2] 53).below ((Below.refl _ _).alloc (Nat.le_refl _) (.cells #[.int .i64 0, .int .i64 2] 3))
  have hl : Ls .i64 _ _ _ _ := ls_new .i64 (w.alloc (.cells #[.int .i64 1, .int .i64 1, .int .i64 3, .int .i64 1024, .int .i64 1024, .int .i64 1, .slice (some ⟨w.heap.size + 1, 0, none⟩) 2 2] 53)) [0, 2] #[.int .i64 0, .int .i64 2] 3 (0, 0) rfl 2 rfl
  have hB := ((Below.refl w.heap.size w).alloc (Nat.le_refl _) (.cells #[.int .i64 1, .int .i64 1, .int .i64 3, .int .i64 1024, .int .i64 1024, .int .i64 1, .slice (some ⟨w.heap.size + 1, 0, none⟩) 2 2] 53)).alloc (by simp) (.cells #[.int .i64 0, .int .i64 2] 3)
  rw [World.size_alloc] at hl
  generalize ((w.alloc (.cells #[.int .i64 1, .int .i64 1, .int .i64 3, .int .i64 1024, .int .i64 1024, .int .i64 1, .slice (some ⟨w.heap.size + 1, 0, none⟩) 2 2] 53)).alloc (.cells #[.int .i64 0, .int .i64 2] 3)) = W at *
  refine bodyPost_ret (v := kjV (w.heap.size + 1)) ?_ rfl ⟨⟨w.heap.size + 1, rfl, ⟨hl, rfl, (show 2 ≤ 1000000 by omega)⟩⟩, hB⟩
  have x0 := hb.cell 0
  have x1 := hb.cell 1
  have x2 := hb.cell 2
  have x3 := hb.cell 3
  have x4 := hb.cell 4
  have x5 := hb.cell 5
  have x6 := hb.cell 6
  simp only [List.getElem?_toArray, List.getElem?_cons_zero, List.getElem?_cons_succ] at x0 x1 x2 x3 x4 x5 x6
  simp [results, Try.results55, go_sem, x0, x1, x2, x3, x4, x5, x6, kjV]
theorem kOk (b : Nat) : okB (kJ b) = true := rfl
theorem kChk (b : Nat) : chkV (kJ b) = 0 := rfl
theorem kNamed (b : Nat) : named (kJ b) = [(0, -1), (1, -1), (1, 0), (1, 1)] := rfl
theorem kT0 (b : Nat) : trV (kJ b) 0 (-1) = (0, 0, -1, true) := rfl
theorem kT1 (b : Nat) : trV (kJ b) 1 (-1) = (1, 1, -1, true) := rfl
theorem kT2 (b : Nat) : trV (kJ b) 1 1 = (3, 1, 1, true) := rfl
theorem kT3 (b : Nat) : trV (kJ b) 0 0 = (0, 0, 0, false) := rfl
theorem kO2 (b : Nat) : ofV (kJ b) 2 = (2, 1, 0, true) := rfl
def L97 : List Int := [97]
theorem kE1 (b : Nat) (p q : P1) (hp : p.bs = [97]) (hq : q.bs = [98]) : entV (kJ b) 1 [p, q] [107] = ([(2, [98, 0, 1, 107])], 0) := by
  obtain ⟨pa, pc, pl⟩ := p
  obtain ⟨qa, qc, ql⟩ := q
  subst hp hq
  rfl
theorem kE2 (b : Nat) (p : P1) (hp : p.bs = [97]) : entV (kJ b) 1 [p] [107] = ([], 0) := by
  obtain ⟨pa, pc, pl⟩ := p
  subst hp
  rfl
theorem kE3 (b : Nat) (p q : P1) (hp : p.bs = [97]) (hq : q.bs = [99]) : entV (kJ b) 1 [p, q] [107] = ([(2, [99, 0, 1, 107])], 0) := by
  obtain ⟨pa, pc, pl⟩ := p
  obtain ⟨qa, qc, ql⟩ := q
  subst hp hq
  rfl
theorem kC : chV ([(2, [98, 0, 1, 107])], 0) ([(2, [99, 0, 1, 107])], 0) = ([(2, [98, 0, 1, 107])], [(2, [99, 0, 1, 107])], 0) := by decide
theorem byt_of (L : List Int) (h : L.all (fun x => decide (0 ≤ x ∧ x ≤ 255)) = true) : Byt L := fun x hx => by
  have := List.all_eq_true.1 h x hx
  simp at this
  omega
theorem kTree (b : Nat) (t i v e : Int) (h : ((trV (kJ b) t i).1, (if (trV (kJ b) t i).2.2.2 then (0 : Int) else 2)) = (v, e)) (W : World) (hj : JobAt W (kJ b)) : Calls Try.prog 40 #[kjV b, .int .i64 t, .int .i64 i] W fun r W' => r = .returned (.tuple #[.int .i64 v, .int .i64 e]) ∧ Below W.heap.size W W' := by
  have := tree_law (kJ b) t i W hj
  cases h
  exact this
theorem kOf (b : Nat) (W : World) (hj : JobAt W (kJ b)) : Calls Try.prog 42 #[kjV b, .int .i64 2] W fun r W' => r = .returned (.tuple #[.int .i64 1, .int .i64 0, .int .i64 0]) ∧ Below W.heap.size W W' := of_tree (kJ b) 2 W hj
/-- A list of one entry, read. -/
def One (W : World) (a : Option Addr) (c : Nat) (L : List Int) : Prop := ∃ p : E1, EnR W a [p] ∧ p.1 = 2 ∧ p.2.bs = L
theorem one_of {W : World} {a : Option Addr} {c : Nat} {M : List E1} {L : List Int} (h : EnR W a M) (e : enS M = [(2, L)]) : One W a c L := by
  have hl : M.length = 1 := by have := congrArg List.length e; simpa [enS] using this
  obtain ⟨p, rfl⟩ := List.length_eq_one_iff.1 hl
  simp [enS] at e
  exact ⟨p, h, e.1, e.2⟩
theorem One.below {W W' : World} {a : Option Addr} {c : Nat} {L : List Int} (h : One W a c L) (b : Below W.heap.size W W') : One W' a c L := by
  obtain ⟨p, h1, h2⟩ := h
  exact ⟨p, h1.below b, h2⟩
theorem kSame (a b : Option Addr) (c d : Nat) (L : List Int) (bL : Byt L) (W : World) (hA : One W a c L) (hB : One W b d L) : Calls Try.prog 47 #[.slice a 1 c, .slice b 1 d] W fun r W' => r = .returned (.bool true) ∧ Below W.heap.size W W' := by
  obtain ⟨p, h1, h2, h3⟩ := hA
  obtain ⟨q, k1, k2, k3⟩ := hB
  have := sameentries_law a b [p] [q] 1 1 c d rfl rfl (by omega) (fun x hx => by simp at hx; subst hx; rw [h3]; exact bL) (fun x hx => by simp at hx; subst hx; rw [k3]; exact bL) W h1 k1
  rwa [show enB [p] [q] = true from decide_eq_true (by simp [enS, h2, h3, k2, k3])] at this
theorem kEnt (b : Nat) (ka ra : Option Addr) (kc rc : Nat) (R : List P1) (rn : Nat) (hrn : R.length = rn) (hr3 : rn ≤ 3) (V : List (Int × List Int)) (hV : entV (kJ b) 1 R [107] = (V, 0)) (W : World) (hj : JobAt W (kJ b)) (hk : Ls .u8 W ka kc [107]) (hr : RdR W ra R) :
    Calls Try.prog 43 #[kjV b, .int .i64 1, .slice ka 1 kc, .slice ra rn rc] W fun r W' => (∃ a c L, r = .returned (.tuple #[.slice a V.length c, .int .i64 0]) ∧ enS L = V ∧ EnR W' a L) ∧ Below W.heap.size W W' := by
  have := entries_law (kJ b) 1 ka [107] 1 kc ra R rn rc rfl hrn (by omega) W hj hk hr
  rw [hV] at this
  exact this
theorem kCh (b : Nat) (ka ra sa : Option Addr) (kc rc sc : Nat) (p q p' q' : P1) (hp : p.bs = [97]) (hq : q.bs = [98]) (hp' : p'.bs = [97]) (hq' : q'.bs = [99]) (W : World) (hj : JobAt W (kJ b)) (hk : Ls .u8 W ka kc [107]) (hr : RdR W ra [p, q]) (hs : RdR W sa [p', q']) :
    Calls Try.prog 45 #[kjV b, .int .i64 1, .slice ka 1 kc, .slice ra 2 rc, .slice sa 2 sc] W fun r W' => (∃ a c a' c', r = .returned (.tuple #[.slice a 1 c, .slice a' 1 c', .int .i64 0]) ∧ One W' a c [98, 0, 1, 107] ∧ One W' a' c' [99, 0, 1, 107]) ∧ Below W.heap.size W W' := by
  have h1 : ∀ x ∈ [p, q], Byt x.bs := by
    intro x hx; simp at hx; rcases hx with rfl | rfl
    · rw [hp]; exact byt_of _ rfl
    · rw [hq]; exact byt_of _ rfl
  have h2 : ∀ x ∈ [p', q'], Byt x.bs := by
    intro x hx; simp at hx; rcases hx with rfl | rfl
    · rw [hp']; exact byt_of _ rfl
    · rw [hq']; exact byt_of _ rfl
  have := changes_law (kJ b) 1 ka [107] 1 kc ra sa [p, q] [p', q'] 2 rc 2 sc rfl rfl rfl (by omega) (by omega) (byt_of _ rfl) h1 h2 W hj hk hr hs
  rw [kE1 b p q hp hq, kE3 b p' q' hp' hq', kC] at this
  refine this.mono ?_
  rintro r W' ⟨⟨a, a', c, c', G, C, rfl, e1, e2, e3, e4⟩, B⟩
  exact ⟨⟨a, c, a', c', rfl, one_of e2 e1, one_of e4 e3⟩, B⟩
end Go.Proofs.Ytkgcbhpgkcfkhaa
