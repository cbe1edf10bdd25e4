/- CatalogBounds' walk: what its calls give, and what its pieces hand on. -/
import Derived.Test.YtkgcbhpgkcfkhaaCk4
import Derived.Test.YtkgcbhpgkcfkhaaCjq
import Derived.Test.YtkgcbhpgkcfkhaaCjt
import Derived.Test.YtkgcbhpgkcfkhaaKno
import Derived.BigRegion
import Derived.Test.YtkgcbhpgkcfkhaaCoA
import Derived.Test.YtkgcbhpgkcfkhaaCrS
import Derived.Deep.CutBlock
namespace Go.Proofs.Ytkgcbhpgkcfkhaa
open Go.ChangeShapes Go.WideShapes Go.ChangeAt Go.RowKit Go.Shelf
set_option linter.unusedVariables false
set_option linter.unusedSimpArgs false

theorem num35 (e : Int) (w : World) : Calls Try.prog 35 #[.int .i64 e] w fun r w' => r = .returned (.int .i64 e) ∧ w = w' := by
  go_enter Try.func35, Try.ntmps35
  go_wp2
  go_ret
  exact ⟨rfl, rfl⟩
/-- The chapter's job. -/
def kJ (b : Nat) : Job := ⟨1, 1, 3, 1024, 1024, 1, some ⟨b, 0, none⟩, 2, 2, [0, 2]⟩
def kjV (b : Nat) : Value := .agg #[.int .i64 1, .int .i64 1, .int .i64 3, .int .i64 1024, .int .i64 1024, .int .i64 1, .slice (some ⟨b, 0, none⟩) 2 2]
set_option maxRecDepth 100000 in
theorem job_law (w : World) : Calls Try.prog 55 #[] w fun r w' => (∃ b, r = .returned (kjV b) ∧ JobAt w' (kJ b)) ∧ Below w.heap.size w w' := by
  unfold kjV
  go_enter Try.func55, Try.ntmps55
  go_wp2_with fail
  have hb := (BoxC.new w #[.int .i64 1, .int .i64 1, .int .i64 3, .int .i64 1024, .int .i64 1024, .int .i64 1, .slice (some ⟨w.heap.size + 1, 0, none⟩) 2 2] 53).below ((Below.refl _ _).alloc (Nat.le_refl _) (.cells #[.int .i64 0, .int .i64 2] 3))
  have hl : Ls .i64 _ _ _ _ := ls_new .i64 (w.alloc (.cells #[.int .i64 1, .int .i64 1, .int .i64 3, .int .i64 1024, .int .i64 1024, .int .i64 1, .slice (some ⟨w.heap.size + 1, 0, none⟩) 2 2] 53)) [0, 2] #[.int .i64 0, .int .i64 2] 3 (0, 0) rfl 2 rfl
  have hB := ((Below.refl w.heap.size w).alloc (Nat.le_refl _) (.cells #[.int .i64 1, .int .i64 1, .int .i64 3, .int .i64 1024, .int .i64 1024, .int .i64 1, .slice (some ⟨w.heap.size + 1, 0, none⟩) 2 2] 53)).alloc (by simp) (.cells #[.int .i64 0, .int .i64 2] 3)
  rw [World.size_alloc] at hl
  generalize ((w.alloc (.cells #[.int .i64 1, .int .i64 1, .int .i64 3, .int .i64 1024, .int .i64 1024, .int .i64 1, .slice (some ⟨w.heap.size + 1, 0, none⟩) 2 2] 53)).alloc (.cells #[.int .i64 0, .int .i64 2] 3)) = W at *
  refine bodyPost_ret (v := kjV (w.heap.size + 1)) ?_ rfl ⟨⟨w.heap.size + 1, rfl, ⟨hl, rfl, (show 2 ≤ 1000000 by omega)⟩⟩, hB⟩
  have x0 := hb.cell 0
  have x1 := hb.cell 1
  have x2 := hb.cell 2
  have x3 := hb.cell 3
  have x4 := hb.cell 4
  have x5 := hb.cell 5
  have x6 := hb.cell 6
  simp only [List.getElem?_toArray, List.getElem?_cons_zero, List.getElem?_cons_succ] at x0 x1 x2 x3 x4 x5 x6
  simp [results, Try.results55, go_sem, x0, x1, x2, x3, x4, x5, x6, kjV]
theorem kOk (b : Nat) : okB (kJ b) = true := rfl
theorem kChk (b : Nat) : chkV (kJ b) = 0 := rfl
theorem kNamed (b : Nat) : named (kJ b) = [(0, -1), (1, -1), (1, 0), (1, 1)] := rfl
theorem kT0 (b : Nat) : trV (kJ b) 0 (-1) = (0, 0, -1, true) := rfl
theorem kT1 (b : Nat) : trV (kJ b) 1 (-1) = (1, 1, -1, true) := rfl
theorem kT2 (b : Nat) : trV (kJ b) 1 1 = (3, 1, 1, true) := rfl
theorem kT3 (b : Nat) : trV (kJ b) 0 0 = (0, 0, 0, false) := rfl
theorem kO2 (b : Nat) : ofV (kJ b) 2 = (2, 1, 0, true) := rfl
def L97 : List Int := [97]
theorem kE1 (b : Nat) (p q : P1) (hp : p.bs = [97]) (hq : q.bs = [98]) : entV (kJ b) 1 [p, q] [107] = ([(2, [98, 0, 1, 107])], 0) := by
  obtain ⟨pa, pc, pl⟩ := p
  obtain ⟨qa, qc, ql⟩ := q
  subst hp hq
  rfl
theorem kE2 (b : Nat) (p : P1) (hp : p.bs = [97]) : entV (kJ b) 1 [p] [107] = ([], 0) := by
  obtain ⟨pa, pc, pl⟩ := p
  subst hp
  rfl
theorem kE3 (b : Nat) (p q : P1) (hp : p.bs = [97]) (hq : q.bs = [99]) : entV (kJ b) 1 [p, q] [107] = ([(2, [99, 0, 1, 107])], 0) := by
  obtain ⟨pa, pc, pl⟩ := p
  obtain ⟨qa, qc, ql⟩ := q
  subst hp hq
  rfl
theorem kC : chV ([(2, [98, 0, 1, 107])], 0) ([(2, [99, 0, 1, 107])], 0) = ([(2, [98, 0, 1, 107])], [(2, [99, 0, 1, 107])], 0) := by decide
theorem byt_of (L : List Int) (h : L.all (fun x => decide (0 ≤ x ∧ x ≤ 255)) = true) : Byt L := fun x hx => by
  have := List.all_eq_true.1 h x hx
  simp at this
  omega
theorem kTree (b : Nat) (t i v e : Int) (h : ((trV (kJ b) t i).1, (if (trV (kJ b) t i).2.2.2 then (0 : Int) else 2)) = (v, e)) (W : World) (hj : JobAt W (kJ b)) : Calls Try.prog 40 #[kjV b, .int .i64 t, .int .i64 i] W fun r W' => r = .returned (.tuple #[.int .i64 v, .int .i64 e]) ∧ Below W.heap.size W W' := by
  have := tree_law (kJ b) t i W hj
  cases h
  exact this
theorem kOf (b : Nat) (W : World) (hj : JobAt W (kJ b)) : Calls Try.prog 42 #[kjV b, .int .i64 2] W fun r W' => r = .returned (.tuple #[.int .i64 1, .int .i64 0, .int .i64 0]) ∧ Below W.heap.size W W' := of_tree (kJ b) 2 W hj
/-- A list of one entry, read. -/
def One (W : World) (a : Option Addr) (c : Nat) (L : List Int) : Prop := ∃ p : E1, EnR W a [p] ∧ p.1 = 2 ∧ p.2.bs = L
theorem one_of {W : World} {a : Option Addr} {c : Nat} {M : List E1} {L : List Int} (h : EnR W a M) (e : enS M = [(2, L)]) : One W a c L := by
  have hl : M.length = 1 := by have := congrArg List.length e; simpa [enS] using this
  obtain ⟨p, rfl⟩ := List.length_eq_one_iff.1 hl
  simp [enS] at e
  exact ⟨p, h, e.1, e.2⟩
theorem One.below {W W' : World} {a : Option Addr} {c : Nat} {L : List Int} (h : One W a c L) (b : Below W.heap.size W W') : One W' a c L := by
  obtain ⟨p, h1, h2⟩ := h
  exact ⟨p, h1.below b, h2⟩
theorem kSame (a b : Option Addr) (c d : Nat) (L : List Int) (bL : Byt L) (W : World) (hA : One W a c L) (hB : One W b d L) : Calls Try.prog 47 #[.slice a 1 c, .slice b 1 d] W fun r W' => r = .returned (.bool true) ∧ Below W.heap.size W W' := by
  obtain ⟨p, h1, h2, h3⟩ := hA
  obtain ⟨q, k1, k2, k3⟩ := hB
  have := sameentries_law a b [p] [q] 1 1 c d rfl rfl (by omega) (fun x hx => by simp at hx; subst hx; rw [h3]; exact bL) (fun x hx => by simp at hx; subst hx; rw [k3]; exact bL) W h1 k1
  rwa [show enB [p] [q] = true from decide_eq_true (by simp [enS, h2, h3, k2, k3])] at this
theorem kEnt (b : Nat) (ka ra : Option Addr) (kc rc : Nat) (R : List P1) (rn : Nat) (hrn : R.length = rn) (hr3 : rn ≤ 3) (V : List (Int × List Int)) (hV : entV (kJ b) 1 R [107] = (V, 0)) (W : World) (hj : JobAt W (kJ b)) (hk : Ls .u8 W ka kc [107]) (hr : RdR W ra R) :
    Calls Try.prog 43 #[kjV b, .int .i64 1, .slice ka 1 kc, .slice ra rn rc] W fun r W' => (∃ a c L, r = .returned (.tuple #[.slice a V.length c, .int .i64 0]) ∧ enS L = V ∧ EnR W' a L) ∧ Below W.heap.size W W' := by
  have := entries_law (kJ b) 1 ka [107] 1 kc ra R rn rc rfl hrn (by omega) W hj hk hr
  rw [hV] at this
  exact this
theorem kCh (b : Nat) (ka ra sa : Option Addr) (kc rc sc : Nat) (p q p' q' : P1) (hp : p.bs = [97]) (hq : q.bs = [98]) (hp' : p'.bs = [97]) (hq' : q'.bs = [99]) (W : World) (hj : JobAt W (kJ b)) (hk : Ls .u8 W ka kc [107]) (hr : RdR W ra [p, q]) (hs : RdR W sa [p', q']) :
    Calls Try.prog 45 #[kjV b, .int .i64 1, .slice ka 1 kc, .slice ra 2 rc, .slice sa 2 sc] W fun r W' => (∃ a c a' c', r = .returned (.tuple #[.slice a 1 c, .slice a' 1 c', .int .i64 0]) ∧ One W' a c [98, 0, 1, 107] ∧ One W' a' c' [99, 0, 1, 107]) ∧ Below W.heap.size W W' := by
  have h1 : ∀ x ∈ [p, q], Byt x.bs := by
    intro x hx; simp at hx; rcases hx with rfl | rfl
    · rw [hp]; exact byt_of _ rfl
    · rw [hq]; exact byt_of _ rfl
  have h2 : ∀ x ∈ [p', q'], Byt x.bs := by
    intro x hx; simp at hx; rcases hx with rfl | rfl
    · rw [hp']; exact byt_of _ rfl
    · rw [hq']; exact byt_of _ rfl
  have := changes_law (kJ b) 1 ka [107] 1 kc ra sa [p, q] [p', q'] 2 rc 2 sc rfl rfl rfl (by omega) (by omega) (byt_of _ rfl) h1 h2 W hj hk hr hs
  rw [kE1 b p q hp hq, kE3 b p' q' hp' hq', kC] at this
  refine this.mono ?_
  rintro r W' ⟨⟨a, a', c, c', G, C, rfl, e1, e2, e3, e4⟩, B⟩
  exact ⟨⟨a, c, a', c', rfl, one_of e2 e1, one_of e4 e3⟩, B⟩
end Go.Proofs.Ytkgcbhpgkcfkhaa

namespace Go.Proofs.Ytkgcbhpgkcfkhaa
open Go.ChangeShapes Go.WideShapes Go.ChangeAt Go.RowKit Go.Shelf
set_option linter.unusedVariables false
set_option linter.unusedSimpArgs false

theorem info24k : (Try.prog.info? 24).map (fun i => (i.zero, i.size, i.bytes)) = some (some (.slice none 0 0), 1, 24) := by kernel_rfl
theorem hi23 (W : World) (g n c i : Nat) (hi : i ≤ n) (hnc : n ≤ c) : (Instr.slice 23 (.slice (some ⟨g, 0, none⟩) n c) .none (some (.int .i64 (i : Int))) .none).run Try.prog W = .ok (.slice (some ⟨g, 0, none⟩) i c) W := by
  obtain ⟨i0, hi0, hz0, hz1, hz2⟩ := info_parts info24k
  have hel : Try.prog.elem 23 = 24 := by simp [Program.elem, Try.underlying23]
  rw [run_slice_h (P := Try.prog) (w := W) 23 (some ⟨g, 0, none⟩) n c (by rw [hel]; exact Try.underlying23) .i64 i (by omega) (by omega)]
  have hs : ((sizeOf (Try.prog.elem 23)).run Try.prog W) = .ok 1 W := by rw [hel]; simp [sizeOf, typeInfo, hi0, hz1]
  rw [hs]
  simp [sliced, Result.andThen, Addr.add]
theorem kCk (b : Nat) (W : World) (hj : JobAt W (kJ b)) : Calls Try.prog 36 #[kjV b] W fun r W' => r = .returned (.int .i64 0) ∧ Below W.heap.size W W' := by
  have := check_law (kJ b) W hj
  rwa [kChk] at this
theorem kTrs (b : Nat) (W : World) (hj : JobAt W (kJ b)) : Calls Try.prog 38 #[kjV b] W fun r W' => r = .returned (.int .i64 4) ∧ Below W.heap.size W W' := by
  have := trees_law (kJ b) W hj
  rwa [kNamed] at this
theorem oneLit (w : World) (L : List Int) (cs : Array Value) (fr : Nat × Nat) (n c : Nat) (hn : L.length = n) (hcs : cs = (iv .u8 L).toArray) : One ((w.alloc (.cells cs 5 fr)).alloc (.cells #[.int .i64 2, .slice (some ⟨w.heap.size, 0, none⟩) n n] 91)) (some ⟨w.heap.size + 1, 0, none⟩) c L := by
  subst hn
  have hb := BoxC.new (w.alloc (.cells cs 5 fr)) #[.int .i64 2, .slice (some ⟨w.heap.size, 0, none⟩) L.length L.length] 91
  rw [World.size_alloc] at hb
  refine ⟨(2, ⟨some ⟨w.heap.size, 0, none⟩, L.length, L⟩), fun k p hp => ?_, rfl, rfl⟩
  match k, hp with
  | 0, hp =>
    simp at hp
    subst hp
    exact ⟨w.heap.size + 1, 0, rfl, hb.cell 0, hb.cell 1, (ls_new .u8 w L cs 5 fr hcs L.length rfl).below (below_new _ _)⟩
set_option maxRecDepth 100000 in
set_option maxHeartbeats 8000000 in
theorem known33 (w : World) : Calls Try.prog 33 #[] w fun r w' => r = .returned (.bool true) ∧ Below w.heap.size w w' := by
  have kc := fun (w : World) (C : Array Value) (n c b : Nat) (hb : b = w.heap.size) => (by subst hb; exact Lib.run_convert_bytes_const w 24 5 C n c Try.underlying24 Try.underlying5 : (convert 24 24 (.slice (some ⟨b, 0, none⟩) n c)).run Try.prog (w.alloc (.cells C 5)) = .ok (.slice (some ⟨b, 0, none⟩) n c) (w.alloc (.cells C 5 (C.size, C.size + 1))))
  go_enter Try.func33, Try.ntmps33
  go_wp2_with fail
  refine (job_law _).mono ?_; rintro r w1 ⟨⟨b, rfl, hj⟩, B1⟩
  unfold kjV
  have hbx := BoxC.new w1 #[.int .i64 1, .int .i64 1, .int .i64 3, .int .i64 1024, .int .i64 1024, .int .i64 1, .slice (some ⟨b, 0, none⟩) 2 2] 53
  have hjj := hj.below ((Below.refl w1.heap.size w1).alloc (Nat.le_refl _) (.cells #[.int .i64 1, .int .i64 1, .int .i64 3, .int .i64 1024, .int .i64 1024, .int .i64 1, .slice (some ⟨b, 0, none⟩) 2 2] 53))
  have hBw := step_below B1 ((Below.refl w1.heap.size w1).alloc (Nat.le_refl _) (.cells #[.int .i64 1, .int .i64 1, .int .i64 3, .int .i64 1024, .int .i64 1024, .int .i64 1, .slice (some ⟨b, 0, none⟩) 2 2] 53))
  clear hj B1
  go_wp2_with fail
  generalize w1.alloc (.cells #[.int .i64 1, .int .i64 1, .int .i64 3, .int .i64 1024, .int .i64 1024, .int .i64 1, .slice (some ⟨b, 0, none⟩) 2 2] 53) = WB at *
  generalize w1.heap.size = B at *
  have HX := Lib.hid hbx
  have HJ := Lib.hid hjj
  have HW := Lib.hid hBw
  have HB0 := Lib.hid (Below.refl WB.heap.size WB)
  clear hbx hjj hBw
  refine (kTree b 0 (-1) 0 0 rfl _ (HJ.out.below HB0.out)).mono ?_; rintro r w2 ⟨rfl, B2⟩
  have HB1 := Lib.hid (step_below HB0.out B2)
  clear B2
  have g0 : w2.cell? ⟨B, 0, none⟩ = some (.int .i64 1) := (HX.out.below HB1.out).cell 0
  have g1 : w2.cell? ⟨B, 1, none⟩ = some (.int .i64 1) := (HX.out.below HB1.out).cell 1
  have g2 : w2.cell? ⟨B, 2, none⟩ = some (.int .i64 3) := (HX.out.below HB1.out).cell 2
  have g3 : w2.cell? ⟨B, 3, none⟩ = some (.int .i64 1024) := (HX.out.below HB1.out).cell 3
  have g4 : w2.cell? ⟨B, 4, none⟩ = some (.int .i64 1024) := (HX.out.below HB1.out).cell 4
  have g5 : w2.cell? ⟨B, 5, none⟩ = some (.int .i64 1) := (HX.out.below HB1.out).cell 5
  have g6 : w2.cell? ⟨B, 6, none⟩ = some (.slice (some ⟨b, 0, none⟩) 2 2) := (HX.out.below HB1.out).cell 6
  go_wp2_with fail
  refine (kTree b 1 (-1) 1 0 rfl _ (HJ.out.below HB1.out)).mono ?_; rintro r w3 ⟨rfl, B2⟩
  have HB2 := Lib.hid (step_below HB1.out B2)
  clear B2
  clear g0 g1 g2 g3 g4 g5 g6
  have g0 : w3.cell? ⟨B, 0, none⟩ = some (.int .i64 1) := (HX.out.below HB2.out).cell 0
  have g1 : w3.cell? ⟨B, 1, none⟩ = some (.int .i64 1) := (HX.out.below HB2.out).cell 1
  have g2 : w3.cell? ⟨B, 2, none⟩ = some (.int .i64 3) := (HX.out.below HB2.out).cell 2
  have g3 : w3.cell? ⟨B, 3, none⟩ = some (.int .i64 1024) := (HX.out.below HB2.out).cell 3
  have g4 : w3.cell? ⟨B, 4, none⟩ = some (.int .i64 1024) := (HX.out.below HB2.out).cell 4
  have g5 : w3.cell? ⟨B, 5, none⟩ = some (.int .i64 1) := (HX.out.below HB2.out).cell 5
  have g6 : w3.cell? ⟨B, 6, none⟩ = some (.slice (some ⟨b, 0, none⟩) 2 2) := (HX.out.below HB2.out).cell 6
  go_wp2_with fail
  refine (kTree b 1 1 3 0 rfl _ (HJ.out.below HB2.out)).mono ?_; rintro r w4 ⟨rfl, B2⟩
  have HB3 := Lib.hid (step_below HB2.out B2)
  clear B2
  clear g0 g1 g2 g3 g4 g5 g6
  have g0 : w4.cell? ⟨B, 0, none⟩ = some (.int .i64 1) := (HX.out.below HB3.out).cell 0
  have g1 : w4.cell? ⟨B, 1, none⟩ = some (.int .i64 1) := (HX.out.below HB3.out).cell 1
  have g2 : w4.cell? ⟨B, 2, none⟩ = some (.int .i64 3) := (HX.out.below HB3.out).cell 2
  have g3 : w4.cell? ⟨B, 3, none⟩ = some (.int .i64 1024) := (HX.out.below HB3.out).cell 3
  have g4 : w4.cell? ⟨B, 4, none⟩ = some (.int .i64 1024) := (HX.out.below HB3.out).cell 4
  have g5 : w4.cell? ⟨B, 5, none⟩ = some (.int .i64 1) := (HX.out.below HB3.out).cell 5
  have g6 : w4.cell? ⟨B, 6, none⟩ = some (.slice (some ⟨b, 0, none⟩) 2 2) := (HX.out.below HB3.out).cell 6
  go_wp2_with fail
  refine (kTree b 0 0 0 2 rfl _ (HJ.out.below HB3.out)).mono ?_; rintro r w5 ⟨rfl, B2⟩
  have HB4 := Lib.hid (step_below HB3.out B2)
  clear B2
  clear g0 g1 g2 g3 g4 g5 g6
  have g0 : w5.cell? ⟨B, 0, none⟩ = some (.int .i64 1) := (HX.out.below HB4.out).cell 0
  have g1 : w5.cell? ⟨B, 1, none⟩ = some (.int .i64 1) := (HX.out.below HB4.out).cell 1
  have g2 : w5.cell? ⟨B, 2, none⟩ = some (.int .i64 3) := (HX.out.below HB4.out).cell 2
  have g3 : w5.cell? ⟨B, 3, none⟩ = some (.int .i64 1024) := (HX.out.below HB4.out).cell 3
  have g4 : w5.cell? ⟨B, 4, none⟩ = some (.int .i64 1024) := (HX.out.below HB4.out).cell 4
  have g5 : w5.cell? ⟨B, 5, none⟩ = some (.int .i64 1) := (HX.out.below HB4.out).cell 5
  have g6 : w5.cell? ⟨B, 6, none⟩ = some (.slice (some ⟨b, 0, none⟩) 2 2) := (HX.out.below HB4.out).cell 6
  go_wp2_with fail
  refine (kOf b _ (HJ.out.below HB4.out)).mono ?_; rintro r w6 ⟨rfl, B2⟩
  have HB5 := Lib.hid (step_below HB4.out B2)
  clear B2
  clear g0 g1 g2 g3 g4 g5 g6
  have b7 := (((Below.refl w6.heap.size w6).alloc (Nat.le_refl _) (.cells #[.int .u8 97] 5 (1, 2))).alloc (by simp) (.cells #[.int .u8 98] 5 (1, 2))).alloc (by simp; omega) (.cells #[.slice (some ⟨w6.heap.size, 0, none⟩) 1 1, .slice (some ⟨w6.heap.size + 1, 0, none⟩) 1 1] 24)
  have hr7 : RdR (((w6.alloc (.cells #[.int .u8 97] 5 (1, 2))).alloc (.cells #[.int .u8 98] 5 (1, 2))).alloc (.cells #[.slice (some ⟨w6.heap.size, 0, none⟩) 1 1, .slice (some ⟨w6.heap.size + 1, 0, none⟩) 1 1] 24)) (some ⟨w6.heap.size + 1 + 1, 0, none⟩) [⟨some ⟨w6.heap.size, 0, none⟩, 1, [97]⟩, ⟨some ⟨w6.heap.size + 1, 0, none⟩, 1, [98]⟩] := by
    have h := rdR_new ((w6.alloc (.cells #[.int .u8 97] 5 (1, 2))).alloc (.cells #[.int .u8 98] 5 (1, 2))) [⟨some ⟨w6.heap.size, 0, none⟩, 1, [97]⟩, ⟨some ⟨w6.heap.size + 1, 0, none⟩, 1, [98]⟩] #[.slice (some ⟨w6.heap.size, 0, none⟩) 1 1, .slice (some ⟨w6.heap.size + 1, 0, none⟩) 1 1] 24 (0, 0) rfl (by
      intro p hp
      simp only [List.mem_cons, List.not_mem_nil, or_false] at hp
      rcases hp with rfl | rfl
      · exact (ls_new .u8 w6 [97] #[.int .u8 97] 5 (1, 2) rfl 1 rfl).below ((Below.refl _ _).alloc (Nat.le_refl _) _)
      · have := ls_new .u8 (w6.alloc (.cells #[.int .u8 97] 5 (1, 2))) [98] #[.int .u8 98] 5 (1, 2) rfl 1 rfl
        rwa [World.size_alloc] at this)
    rwa [World.size_alloc, World.size_alloc] at h
  have HB7 := Lib.hid (step_below HB5.out b7)
  have HR7 := Lib.hid hr7
  clear b7 hr7
  have g0 : (((w6.alloc (.cells #[.int .u8 97] 5 (1, 2))).alloc (.cells #[.int .u8 98] 5 (1, 2))).alloc (.cells #[.slice (some ⟨w6.heap.size, 0, none⟩) 1 1, .slice (some ⟨w6.heap.size + 1, 0, none⟩) 1 1] 24)).cell? ⟨B, 0, none⟩ = some (.int .i64 1) := (HX.out.below HB7.out).cell 0
  have g1 : (((w6.alloc (.cells #[.int .u8 97] 5 (1, 2))).alloc (.cells #[.int .u8 98] 5 (1, 2))).alloc (.cells #[.slice (some ⟨w6.heap.size, 0, none⟩) 1 1, .slice (some ⟨w6.heap.size + 1, 0, none⟩) 1 1] 24)).cell? ⟨B, 1, none⟩ = some (.int .i64 1) := (HX.out.below HB7.out).cell 1
  have g2 : (((w6.alloc (.cells #[.int .u8 97] 5 (1, 2))).alloc (.cells #[.int .u8 98] 5 (1, 2))).alloc (.cells #[.slice (some ⟨w6.heap.size, 0, none⟩) 1 1, .slice (some ⟨w6.heap.size + 1, 0, none⟩) 1 1] 24)).cell? ⟨B, 2, none⟩ = some (.int .i64 3) := (HX.out.below HB7.out).cell 2
  have g3 : (((w6.alloc (.cells #[.int .u8 97] 5 (1, 2))).alloc (.cells #[.int .u8 98] 5 (1, 2))).alloc (.cells #[.slice (some ⟨w6.heap.size, 0, none⟩) 1 1, .slice (some ⟨w6.heap.size + 1, 0, none⟩) 1 1] 24)).cell? ⟨B, 3, none⟩ = some (.int .i64 1024) := (HX.out.below HB7.out).cell 3
  have g4 : (((w6.alloc (.cells #[.int .u8 97] 5 (1, 2))).alloc (.cells #[.int .u8 98] 5 (1, 2))).alloc (.cells #[.slice (some ⟨w6.heap.size, 0, none⟩) 1 1, .slice (some ⟨w6.heap.size + 1, 0, none⟩) 1 1] 24)).cell? ⟨B, 4, none⟩ = some (.int .i64 1024) := (HX.out.below HB7.out).cell 4
  have g5 : (((w6.alloc (.cells #[.int .u8 97] 5 (1, 2))).alloc (.cells #[.int .u8 98] 5 (1, 2))).alloc (.cells #[.slice (some ⟨w6.heap.size, 0, none⟩) 1 1, .slice (some ⟨w6.heap.size + 1, 0, none⟩) 1 1] 24)).cell? ⟨B, 5, none⟩ = some (.int .i64 1) := (HX.out.below HB7.out).cell 5
  have g6 : (((w6.alloc (.cells #[.int .u8 97] 5 (1, 2))).alloc (.cells #[.int .u8 98] 5 (1, 2))).alloc (.cells #[.slice (some ⟨w6.heap.size, 0, none⟩) 1 1, .slice (some ⟨w6.heap.size + 1, 0, none⟩) 1 1] 24)).cell? ⟨B, 6, none⟩ = some (.slice (some ⟨b, 0, none⟩) 2 2) := (HX.out.below HB7.out).cell 6
  go_wp2_with fail
  generalize hg7 : (((w6.alloc (.cells #[.int .u8 97] 5 (1, 2))).alloc (.cells #[.int .u8 98] 5 (1, 2))).alloc (.cells #[.slice (some ⟨w6.heap.size, 0, none⟩) 1 1, .slice (some ⟨w6.heap.size + 1, 0, none⟩) 1 1] 24)) = W7 at *
  have hs7 : W7.heap.size = w6.heap.size + 1 + 1 + 1 := by rw [← hg7]; simp
  clear hg7
  have hk8 := ls_new .u8 W7 [107] #[.int .u8 107] 5 (1, 2) rfl 1 rfl
  rw [hs7] at hk8
  have HB8 := Lib.hid (step_below HB7.out ((Below.refl W7.heap.size W7).alloc (Nat.le_refl _) (.cells #[.int .u8 107] 5 (1, 2))))
  have hr8 := HR7.out.below ((Below.refl W7.heap.size W7).alloc (Nat.le_refl _) (.cells #[.int .u8 107] 5 (1, 2)))
  have hc8 := kEnt b (some ⟨w6.heap.size + 1 + 1 + 1, 0, none⟩) (some ⟨w6.heap.size + 1 + 1, 0, none⟩) 1 2 [⟨some ⟨w6.heap.size, 0, none⟩, 1, [97]⟩, ⟨some ⟨w6.heap.size + 1, 0, none⟩, 1, [98]⟩] 2 rfl (by omega) [(2, [98, 0, 1, 107])] (kE1 b ⟨some ⟨w6.heap.size, 0, none⟩, 1, [97]⟩ ⟨some ⟨w6.heap.size + 1, 0, none⟩, 1, [98]⟩ rfl rfl) _ (HJ.out.below HB8.out) hk8 hr8
  refine hc8.mono ?_; clear hc8; rintro r w8 ⟨⟨a8, c8, L8, rfl, e8, r8⟩, B8⟩
  have HO8 := Lib.hid (one_of (c := c8) r8 e8)
  have HR8 := Lib.hid (hr8.below B8)
  have HB9 := Lib.hid (step_below HB8.out B8)
  clear hk8 hr8 e8 r8 B8 g0 g1 g2 g3 g4 g5 g6
  have b90 : Below w8.heap.size w8 w8.drew := ⟨rfl, rfl, rfl, Nat.le_refl _, fun _ _ => rfl⟩
  have b91 : Below w8.heap.size w8 ((w8.alloc (.cells #[.int .u8 107] 5)).drew) := b90.alloc (Nat.le_refl _) _
  have b92 : Below w8.heap.size w8 (w8.alloc (.cells #[.int .u8 107] 5 (1, 2))).drew := b90.alloc (Nat.le_refl _) _
  have hk9 : Ls .u8 ((w8.alloc (.cells #[.int .u8 107] 5 (1, 2))).drew) (some ⟨w8.heap.size, 0, none⟩) 1 [107] := ls_new .u8 w8.drew [107] #[.int .u8 107] 5 (1, 2) rfl 1 rfl
  have hr9 : RdR ((w8.alloc (.cells #[.int .u8 107] 5 (1, 2))).drew) (some ⟨w6.heap.size + 1 + 1, 0, none⟩) [⟨some ⟨w6.heap.size, 0, none⟩, 1, [97]⟩] := fun k p hp => by
    refine HR8.out.below b92 k p ?_
    match k, hp with
    | 0, hp => exact hp
  have hc9 := Lib.hid (kEnt b (some ⟨w8.heap.size, 0, none⟩) (some ⟨w6.heap.size + 1 + 1, 0, none⟩) 1 2 [⟨some ⟨w6.heap.size, 0, none⟩, 1, [97]⟩] 1 rfl (by omega) [] (kE2 b ⟨some ⟨w6.heap.size, 0, none⟩, 1, [97]⟩ rfl) _ (HJ.out.below (step_below HB9.out b92)) hk9 hr9)
  have HB92 := Lib.hid b92
  have qsl : ∀ W : World, (Instr.slice 23 (.slice (some ⟨w6.heap.size + 1 + 1, 0, none⟩) 2 2) .none (some (.int .i64 1)) .none).run Try.prog W = .ok (.slice (some ⟨w6.heap.size + 1 + 1, 0, none⟩) 1 2) W := fun W => hi23 W (w6.heap.size + 1 + 1) 2 2 1 (by omega) (by omega)
  have x0 : w8.drew.cell? ⟨B, 0, none⟩ = some (.int .i64 1) := (HX.out.below (step_below HB9.out b90)).cell 0
  have x1 : w8.drew.cell? ⟨B, 1, none⟩ = some (.int .i64 1) := (HX.out.below (step_below HB9.out b90)).cell 1
  have x2 : w8.drew.cell? ⟨B, 2, none⟩ = some (.int .i64 3) := (HX.out.below (step_below HB9.out b90)).cell 2
  have x3 : w8.drew.cell? ⟨B, 3, none⟩ = some (.int .i64 1024) := (HX.out.below (step_below HB9.out b90)).cell 3
  have x4 : w8.drew.cell? ⟨B, 4, none⟩ = some (.int .i64 1024) := (HX.out.below (step_below HB9.out b90)).cell 4
  have x5 : w8.drew.cell? ⟨B, 5, none⟩ = some (.int .i64 1) := (HX.out.below (step_below HB9.out b90)).cell 5
  have x6 : w8.drew.cell? ⟨B, 6, none⟩ = some (.slice (some ⟨b, 0, none⟩) 2 2) := (HX.out.below (step_below HB9.out b90)).cell 6
  have y0 : (w8.alloc (.cells #[.int .u8 107] 5)).drew.cell? ⟨B, 0, none⟩ = some (.int .i64 1) := (HX.out.below (step_below HB9.out b91)).cell 0
  have y1 : (w8.alloc (.cells #[.int .u8 107] 5)).drew.cell? ⟨B, 1, none⟩ = some (.int .i64 1) := (HX.out.below (step_below HB9.out b91)).cell 1
  have y2 : (w8.alloc (.cells #[.int .u8 107] 5)).drew.cell? ⟨B, 2, none⟩ = some (.int .i64 3) := (HX.out.below (step_below HB9.out b91)).cell 2
  have y3 : (w8.alloc (.cells #[.int .u8 107] 5)).drew.cell? ⟨B, 3, none⟩ = some (.int .i64 1024) := (HX.out.below (step_below HB9.out b91)).cell 3
  have y4 : (w8.alloc (.cells #[.int .u8 107] 5)).drew.cell? ⟨B, 4, none⟩ = some (.int .i64 1024) := (HX.out.below (step_below HB9.out b91)).cell 4
  have y5 : (w8.alloc (.cells #[.int .u8 107] 5)).drew.cell? ⟨B, 5, none⟩ = some (.int .i64 1) := (HX.out.below (step_below HB9.out b91)).cell 5
  have y6 : (w8.alloc (.cells #[.int .u8 107] 5)).drew.cell? ⟨B, 6, none⟩ = some (.slice (some ⟨b, 0, none⟩) 2 2) := (HX.out.below (step_below HB9.out b91)).cell 6
  have z0 : (w8.alloc (.cells #[.int .u8 107] 5 (1, 2))).drew.cell? ⟨B, 0, none⟩ = some (.int .i64 1) := (HX.out.below (step_below HB9.out b92)).cell 0
  have z1 : (w8.alloc (.cells #[.int .u8 107] 5 (1, 2))).drew.cell? ⟨B, 1, none⟩ = some (.int .i64 1) := (HX.out.below (step_below HB9.out b92)).cell 1
  have z2 : (w8.alloc (.cells #[.int .u8 107] 5 (1, 2))).drew.cell? ⟨B, 2, none⟩ = some (.int .i64 3) := (HX.out.below (step_below HB9.out b92)).cell 2
  have z3 : (w8.alloc (.cells #[.int .u8 107] 5 (1, 2))).drew.cell? ⟨B, 3, none⟩ = some (.int .i64 1024) := (HX.out.below (step_below HB9.out b92)).cell 3
  have z4 : (w8.alloc (.cells #[.int .u8 107] 5 (1, 2))).drew.cell? ⟨B, 4, none⟩ = some (.int .i64 1024) := (HX.out.below (step_below HB9.out b92)).cell 4
  have z5 : (w8.alloc (.cells #[.int .u8 107] 5 (1, 2))).drew.cell? ⟨B, 5, none⟩ = some (.int .i64 1) := (HX.out.below (step_below HB9.out b92)).cell 5
  have z6 : (w8.alloc (.cells #[.int .u8 107] 5 (1, 2))).drew.cell? ⟨B, 6, none⟩ = some (.slice (some ⟨b, 0, none⟩) 2 2) := (HX.out.below (step_below HB9.out b92)).cell 6
  have kc9 : (convert 24 24 (.slice (some ⟨w8.heap.size, 0, none⟩) 1 1)).run Try.prog ((w8.alloc (.cells #[.int .u8 107] 5)).drew) = .ok (.slice (some ⟨w8.heap.size, 0, none⟩) 1 1) ((w8.alloc (.cells #[.int .u8 107] 5 (1, 2))).drew) := kc w8.drew #[.int .u8 107] 1 1 w8.heap.size rfl
  clear b90 b91 b92 hk9 hr9
  simp only [List.length_cons, List.length_nil, Nat.zero_add]
  go_wp2_with fail
  go_cut [16, 17] (fun x e wx => (∃ a c, x = .slice a 0 c) ∧ e = .int .i64 0 ∧ Hid (Below w8.heap.size w8 wx))
  case first =>
    go_region_with (go_at_call 43; refine hc9.out.mono ?_; rintro r w9 ⟨⟨a9, c9, L9, rfl, e9, r9⟩, B9⟩; have HS9 := Lib.hid (step_below HB92.out B9); clear e9 r9 B9)
    all_goals go_wp2_with fail
    all_goals go_meet
    all_goals exact ⟨⟨_, _, rfl⟩, rfl, HS9⟩
  case rest =>
    obtain ⟨⟨a9, c9, rfl⟩, rfl, hcw⟩ := hcut
    have HBc := Lib.hid (step_below HB9.out hcw.out)
    have HR10 := Lib.hid (HR8.out.below hcw.out)
    have HO10 := Lib.hid (HO8.out.below hcw.out)
    clear hcw hc9 HB92 qsl kc9 x0 x1 x2 x3 x4 x5 x6 y0 y1 y2 y3 y4 y5 y6 z0 z1 z2 z3 z4 z5 z6
    have g0 : wc.cell? ⟨B, 0, none⟩ = some (.int .i64 1) := (HX.out.below HBc.out).cell 0
    have g1 : wc.cell? ⟨B, 1, none⟩ = some (.int .i64 1) := (HX.out.below HBc.out).cell 1
    have g2 : wc.cell? ⟨B, 2, none⟩ = some (.int .i64 3) := (HX.out.below HBc.out).cell 2
    have g3 : wc.cell? ⟨B, 3, none⟩ = some (.int .i64 1024) := (HX.out.below HBc.out).cell 3
    have g4 : wc.cell? ⟨B, 4, none⟩ = some (.int .i64 1024) := (HX.out.below HBc.out).cell 4
    have g5 : wc.cell? ⟨B, 5, none⟩ = some (.int .i64 1) := (HX.out.below HBc.out).cell 5
    have g6 : wc.cell? ⟨B, 6, none⟩ = some (.slice (some ⟨b, 0, none⟩) 2 2) := (HX.out.below HBc.out).cell 6
    go_wp2_with fail
    have h10r := lit2 (wc.alloc (.cells #[.int .u8 107] 5 (1, 2))) [97] [99] 1 1 #[.int .u8 97] #[.int .u8 99] (1, 2) (1, 2) rfl rfl rfl rfl
    rw [World.size_alloc] at h10r
    have h10k := (ls_new .u8 wc [107] #[.int .u8 107] 5 (1, 2) rfl 1 rfl).below (b3 (wc.alloc (.cells #[.int .u8 107] 5 (1, 2))) (.cells #[.int .u8 97] 5 (1, 2)) (.cells #[.int .u8 99] 5 (1, 2)) (.cells #[.slice (some ⟨wc.heap.size + 1, 0, none⟩) 1 1, .slice (some ⟨wc.heap.size + 1 + 1, 0, none⟩) 1 1] 24))
    have b10 : Below wc.heap.size wc ((((wc.alloc (.cells #[.int .u8 107] 5 (1, 2))).alloc (.cells #[.int .u8 97] 5 (1, 2))).alloc (.cells #[.int .u8 99] 5 (1, 2))).alloc (.cells #[.slice (some ⟨wc.heap.size + 1, 0, none⟩) 1 1, .slice (some ⟨wc.heap.size + 1 + 1, 0, none⟩) 1 1] 24)) := step_below (below_new _ _) (b3 _ _ _ _)
    have hc10 := kCh b (some ⟨wc.heap.size, 0, none⟩) (some ⟨w6.heap.size + 1 + 1, 0, none⟩) (some ⟨wc.heap.size + 1 + 1 + 1, 0, none⟩) 1 2 2 ⟨some ⟨w6.heap.size, 0, none⟩, 1, [97]⟩ ⟨some ⟨w6.heap.size + 1, 0, none⟩, 1, [98]⟩ ⟨some ⟨wc.heap.size + 1, 0, none⟩, 1, [97]⟩ ⟨some ⟨wc.heap.size + 1 + 1, 0, none⟩, 1, [99]⟩ rfl rfl rfl rfl ((((wc.alloc (.cells #[.int .u8 107] 5 (1, 2))).alloc (.cells #[.int .u8 97] 5 (1, 2))).alloc (.cells #[.int .u8 99] 5 (1, 2))).alloc (.cells #[.slice (some ⟨wc.heap.size + 1, 0, none⟩) 1 1, .slice (some ⟨wc.heap.size + 1 + 1, 0, none⟩) 1 1] 24)) (HJ.out.below (step_below HBc.out b10)) h10k (HR10.out.below b10) h10r
    have HO11 := Lib.hid (HO10.out.below b10)
    have HB10 := Lib.hid (step_below HBc.out b10)
    clear h10r h10k b10 g0 g1 g2 g3 g4 g5 g6
    refine hc10.mono ?_; clear hc10; rintro r w10 ⟨⟨a10, c10, a11, c11, rfl, o10, o11⟩, B2⟩
    have HO12 := Lib.hid (HO11.out.below B2)
    have HP := Lib.hid o10
    have HQ := Lib.hid o11
    have HB11 := Lib.hid (step_below HB10.out B2)
    clear o10 o11 B2
    have g0 : w10.cell? ⟨B, 0, none⟩ = some (.int .i64 1) := (HX.out.below HB11.out).cell 0
    have g1 : w10.cell? ⟨B, 1, none⟩ = some (.int .i64 1) := (HX.out.below HB11.out).cell 1
    have g2 : w10.cell? ⟨B, 2, none⟩ = some (.int .i64 3) := (HX.out.below HB11.out).cell 2
    have g3 : w10.cell? ⟨B, 3, none⟩ = some (.int .i64 1024) := (HX.out.below HB11.out).cell 3
    have g4 : w10.cell? ⟨B, 4, none⟩ = some (.int .i64 1024) := (HX.out.below HB11.out).cell 4
    have g5 : w10.cell? ⟨B, 5, none⟩ = some (.int .i64 1) := (HX.out.below HB11.out).cell 5
    have g6 : w10.cell? ⟨B, 6, none⟩ = some (.slice (some ⟨b, 0, none⟩) 2 2) := (HX.out.below HB11.out).cell 6
    go_wp2_with (go_at_call 35; refine (num35 _ _).mono ?_; rintro r w99 ⟨rfl, rfl⟩)
    refine (kCk b _ (HJ.out.below HB11.out)).mono ?_; rintro r w11 ⟨rfl, B2⟩
    have HO13 := Lib.hid (HO12.out.below B2)
    have HP1 := Lib.hid (HP.out.below B2)
    have HQ1 := Lib.hid (HQ.out.below B2)
    have HB12 := Lib.hid (step_below HB11.out B2)
    clear B2 g0 g1 g2 g3 g4 g5 g6
    have g0 : w11.cell? ⟨B, 0, none⟩ = some (.int .i64 1) := (HX.out.below HB12.out).cell 0
    have g1 : w11.cell? ⟨B, 1, none⟩ = some (.int .i64 1) := (HX.out.below HB12.out).cell 1
    have g2 : w11.cell? ⟨B, 2, none⟩ = some (.int .i64 3) := (HX.out.below HB12.out).cell 2
    have g3 : w11.cell? ⟨B, 3, none⟩ = some (.int .i64 1024) := (HX.out.below HB12.out).cell 3
    have g4 : w11.cell? ⟨B, 4, none⟩ = some (.int .i64 1024) := (HX.out.below HB12.out).cell 4
    have g5 : w11.cell? ⟨B, 5, none⟩ = some (.int .i64 1) := (HX.out.below HB12.out).cell 5
    have g6 : w11.cell? ⟨B, 6, none⟩ = some (.slice (some ⟨b, 0, none⟩) 2 2) := (HX.out.below HB12.out).cell 6
    go_wp2_with (go_at_call 35; refine (num35 _ _).mono ?_; rintro r w99 ⟨rfl, rfl⟩)
    refine (kTrs b _ (HJ.out.below HB12.out)).mono ?_; rintro r w12 ⟨rfl, B2⟩
    have HO14 := Lib.hid (HO13.out.below B2)
    have HP2 := Lib.hid (HP1.out.below B2)
    have HQ2 := Lib.hid (HQ1.out.below B2)
    have HB13 := Lib.hid (step_below HB12.out B2)
    clear B2 g0 g1 g2 g3 g4 g5 g6
    go_wp2_with (go_at_call 35; refine (num35 _ _).mono ?_; rintro r w99 ⟨rfl, rfl⟩)
    have oL := oneLit w12 [98, 0, 1, 107] #[.int .u8 98, .int .u8 0, .int .u8 1, .int .u8 107] (4, 5) 4 1 rfl rfl
    have bL := b2 w12 (.cells #[.int .u8 98, .int .u8 0, .int .u8 1, .int .u8 107] 5 (4, 5)) (.cells #[.int .i64 2, .slice (some ⟨w12.heap.size, 0, none⟩) 4 4] 91)
    have HO15 := Lib.hid (HO14.out.below bL)
    have HP3 := Lib.hid (HP2.out.below bL)
    have HQ3 := Lib.hid (HQ2.out.below bL)
    have HB14 := Lib.hid (step_below HB13.out bL)
    have hs15 := kSame a8 (some ⟨w12.heap.size + 1, 0, none⟩) c8 1 [98, 0, 1, 107] (byt_of _ rfl) _ HO15.out oL
    clear oL bL
    refine hs15.mono ?_; clear hs15; rintro r w13 ⟨rfl, B2⟩
    have HO16 := Lib.hid (HO15.out.below B2)
    have HP4 := Lib.hid (HP3.out.below B2)
    have HQ4 := Lib.hid (HQ3.out.below B2)
    have HB15 := Lib.hid (step_below HB14.out B2)
    clear B2
    go_wp2_with fail
    refine (kSame a10 a8 c10 c8 [98, 0, 1, 107] (byt_of _ rfl) _ HP4.out HO16.out).mono ?_; rintro r w14 ⟨rfl, B2⟩
    have HQ5 := Lib.hid (HQ4.out.below B2)
    have HB16 := Lib.hid (step_below HB15.out B2)
    clear B2
    go_wp2_with fail
    have oM := oneLit w14 [99, 0, 1, 107] #[.int .u8 99, .int .u8 0, .int .u8 1, .int .u8 107] (4, 5) 4 1 rfl rfl
    have bM := b2 w14 (.cells #[.int .u8 99, .int .u8 0, .int .u8 1, .int .u8 107] 5 (4, 5)) (.cells #[.int .i64 2, .slice (some ⟨w14.heap.size, 0, none⟩) 4 4] 91)
    have HB17 := Lib.hid (step_below HB16.out bM)
    have hs17 := kSame a11 (some ⟨w14.heap.size + 1, 0, none⟩) c11 1 [99, 0, 1, 107] (byt_of _ rfl) _ (HQ5.out.below bM) oM
    clear oM bM
    refine hs17.mono ?_; clear hs17; rintro r w15 ⟨rfl, B2⟩
    have HB18 := Lib.hid (step_below HB17.out B2)
    clear B2
    have g0 : w15.cell? ⟨B, 0, none⟩ = some (.int .i64 1) := (HX.out.below HB18.out).cell 0
    have g1 : w15.cell? ⟨B, 1, none⟩ = some (.int .i64 1) := (HX.out.below HB18.out).cell 1
    have g2 : w15.cell? ⟨B, 2, none⟩ = some (.int .i64 3) := (HX.out.below HB18.out).cell 2
    have g3 : w15.cell? ⟨B, 3, none⟩ = some (.int .i64 1024) := (HX.out.below HB18.out).cell 3
    have g4 : w15.cell? ⟨B, 4, none⟩ = some (.int .i64 1024) := (HX.out.below HB18.out).cell 4
    have g5 : w15.cell? ⟨B, 5, none⟩ = some (.int .i64 1) := (HX.out.below HB18.out).cell 5
    have g6 : w15.cell? ⟨B, 6, none⟩ = some (.slice (some ⟨b, 0, none⟩) 2 2) := (HX.out.below HB18.out).cell 6
    go_wp2_with fail
    refine (mayop_scan (kJ b) (kOk b) _ (HJ.out.below HB18.out)).mono ?_; rintro r w16 ⟨rfl, B2⟩
    have HB19 := Lib.hid (step_below HB18.out B2)
    clear B2 g0 g1 g2 g3 g4 g5 g6
    have g0 : w16.cell? ⟨B, 0, none⟩ = some (.int .i64 1) := (HX.out.below HB19.out).cell 0
    have g1 : w16.cell? ⟨B, 1, none⟩ = some (.int .i64 1) := (HX.out.below HB19.out).cell 1
    have g2 : w16.cell? ⟨B, 2, none⟩ = some (.int .i64 3) := (HX.out.below HB19.out).cell 2
    have g3 : w16.cell? ⟨B, 3, none⟩ = some (.int .i64 1024) := (HX.out.below HB19.out).cell 3
    have g4 : w16.cell? ⟨B, 4, none⟩ = some (.int .i64 1024) := (HX.out.below HB19.out).cell 4
    have g5 : w16.cell? ⟨B, 5, none⟩ = some (.int .i64 1) := (HX.out.below HB19.out).cell 5
    have g6 : w16.cell? ⟨B, 6, none⟩ = some (.slice (some ⟨b, 0, none⟩) 2 2) := (HX.out.below HB19.out).cell 6
    go_wp2_with fail
    have HB20 := Lib.hid (step_below HB19.out (below_new w16 (.cells #[.int .u8 107] 5 (1, 2))))
    refine (mayop_put (kJ b) (kOk b) (some ⟨w16.heap.size, 0, none⟩) 1 1 _ (HJ.out.below HB20.out)).mono ?_; rintro r w17 ⟨rfl, B2⟩
    have HB21 := Lib.hid (step_below HB20.out B2)
    clear B2 g0 g1 g2 g3 g4 g5 g6
    go_wp2_with fail
    go_ret
    exact ⟨rfl, step_below HW.out HB21.out⟩
end Go.Proofs.Ytkgcbhpgkcfkhaa

namespace Go.Proofs.Ytkgcbhpgkcfkhaa
open Go.ChangeShapes Go.WideShapes Go.ChangeAt Go.RowKit Go.Shelf
set_option linter.unusedVariables false
set_option linter.unusedSimpArgs false

/-- The law's job, its fields as they may be changed. -/
def bJ (w l d c k e : Int) (b n : Nat) (T : List Int) : Job := ⟨w, l, d, c, k, e, some ⟨b, 0, none⟩, n, n, T⟩
abbrev bG (b : Nat) : Job := bJ 4 2 15 65536 1048576 100 b 4 [2, 2, 2, 2]
theorem bG_ok (b : Nat) : okB (bG b) = true := rfl
theorem bG_chk (b : Nat) : chkV (bG b) = 0 := rfl
theorem bG_trees (b : Nat) : (named (bG b)).length = 12 := rfl
theorem b0_ok (b : Nat) : okB (bJ 5 2 15 65536 1048576 100 b 4 [2, 2, 2, 2]) = false := rfl
theorem b1_ok (b : Nat) : okB (bJ 4 3 15 65536 1048576 100 b 4 [2, 2, 2, 2]) = false := rfl
theorem b2_ok (b : Nat) : okB (bJ 4 2 16 65536 1048576 100 b 4 [2, 2, 2, 2]) = false := rfl
theorem b3_ok (b : Nat) : okB (bJ 4 2 15 65537 1048576 100 b 4 [2, 2, 2, 2]) = false := rfl
theorem b4_ok (b : Nat) : okB (bJ 4 2 15 65536 1048577 100 b 4 [2, 2, 2, 2]) = false := rfl
theorem b5_ok (b : Nat) : okB (bJ 4 2 15 65536 1048576 101 b 4 [2, 2, 2, 2]) = false := rfl
theorem b6_ok (b : Nat) : okB (bJ 4 2 15 65536 1048576 100 b 1 [3]) = false := rfl
theorem b7_ok (b : Nat) : okB (bJ 4 2 15 65536 1048576 100 b 5 [0, 0, 0, 0, 0]) = false := rfl
theorem bOne_ok (b : Nat) : okB (bJ 1 2 3 1024 1024 1 b 2 [0, 2]) = false := rfl
theorem bSmall_ok (b : Nat) : okB (bJ 1 1 3 1024 1024 1 b 1 [1]) = true := rfl
theorem bad_chk {j : Job} (h : okB j = false) : chkV j = 2 := chk_no h
theorem bad_trees {j : Job} (h : okB j = false) : (named j).length = 0 := by rw [named_no h]; rfl
/-- A call with a key, an end, a row. -/
def bO (k t i : Int) (ka : Option Addr) (kn : Nat) (K : List Int) (ta : Option Addr) (tn : Nat) (T : List Int) (m : Int) (ra : Option Addr) (rn : Nat) (R : List P1) : CallV := ⟨k, t, i, ka, kn, kn, K, ta, tn, tn, T, m, ra, rn, rn, R⟩
section
variable (b : Nat) (a c r : Option Addr) (K T : List Int) (R : List P1)
theorem o_get : pO (bG b) (bO 1 0 0 a 1 K none 0 [] 0 none 0 []) = true := rfl
theorem o_0 : pO (bG b) (bO 1 0 0 a 1 K none 0 [] 1 none 0 []) = false := rfl
theorem o_1 : pO (bG b) (bO 1 0 0 a 1 K c 1 T 0 none 0 []) = false := rfl
theorem o_2 : pO (bG b) (bO 1 0 1 a 1 K none 0 [] 0 none 0 []) = false := rfl
theorem o_3 : pO (bG b) (bO 1 0 0 a 1 K none 0 [] 0 r 1 R) = false := rfl
theorem o_4 : pO (bG b) (bO 1 0 0 none 0 [] none 0 [] 0 none 0 []) = false := rfl
theorem o_5 : pO (bG b) (bO 7 0 0 a 1 K none 0 [] 0 none 0 []) = false := rfl
theorem o_6 : pO (bG b) (bO 5 0 1 none 0 [] none 0 [] 1 none 0 []) = false := rfl
theorem o_7 : pO (bG b) (bO 6 0 2 none 0 [] none 0 [] 1 none 0 []) = false := rfl
theorem o_8 : pO (bG b) (bO 6 0 0 a 25 K none 0 [] 1 none 0 []) = false := rfl
theorem o_9 : pO (bG b) (bO 5 0 0 a 33 K none 0 [] 1 none 0 []) = false := rfl
theorem o_10 : pO (bG b) (bO 5 0 0 none 0 [] none 0 [] 0 none 0 []) = false := rfl
theorem o_11 : pO (bG b) (bO 1 4 0 a 1 K none 0 [] 0 none 0 []) = false := rfl
theorem o_small : pO (bJ 1 1 3 1024 1024 1 b 1 [1]) (bO 6 0 1 none 0 [] none 0 [] 1 none 0 []) = false := rfl
theorem o_ins : kf 3 5 = true := rfl
theorem o_del : kf 4 5 = true := rfl
theorem o_scan64 : pO (bG b) (bO 5 0 0 a 32 K c 32 T 64 none 0 []) = true := rfl
theorem o_look64 : pO (bG b) (bO 6 0 1 a 24 K none 0 [] 64 none 0 []) = true := rfl
theorem r_look : rngV (bG b) (bO 6 0 0 a 2 [97, 0] c 2 [98, 0] 1 none 0 []) = (1, [97, 0, 255], [98, 0, 255], true, 0) := rfl
theorem r_scan : rngV (bG b) (bO 5 0 0 none 0 [] c 0 [] 1 none 0 []) = (0, [], [], false, 0) := rfl
end
/-- Transactions: of one write of a snapshot; of both; of 16, 17 calls; of none. -/
theorem t_write {j : Job} {x : TxnV} {o : CallV} (h : x.ops = [o]) (hs : x.sn = true) (ho : kf o.k 5 = true) : mayT j x = false := by
  unfold mayT opB
  rw [h, hs]
  simp [ho]
theorem t_both {j : Job} {x : TxnV} (hs : x.sn = true) (ha : x.ab = true) : mayT j x = false := by
  unfold mayT
  rw [hs, ha]
  simp
theorem t_many {j : Job} {x : TxnV} (h : 16 < x.on) : mayT j x = false := by
  unfold mayT
  rw [decide_eq_false (by omega)]
  simp
theorem t_few {j : Job} {x : TxnV} (hok : okB j = true) (h : x.on ≤ 16) (hs : x.sn = false) (hall : ∀ o ∈ x.ops, pO j o = true) : mayT j x = true := by
  unfold mayT opB
  rw [hok, decide_eq_true h, hs]
  simp only [Bool.true_and, Bool.false_and, Bool.not_false, Bool.and_true, List.all_eq_true]
  exact fun o ho => hall o ho
/-- Sessions. -/
theorem s_many {j : Job} {L : List SesV} {n : Nat} {s : SesV} (hs : s ∈ L) (h : 64 < s.n) : mayS j L n = false := by
  unfold mayS
  rw [Bool.and_eq_false_iff]
  right
  rw [Bool.eq_false_iff]
  intro e
  have := List.all_eq_true.1 e s hs
  unfold sesB at this
  rw [decide_eq_false (by omega)] at this
  simp at this
theorem s_few {j : Job} {L : List SesV} {n : Nat} (h : ((n : Int) == j.w) = false) : mayS j L n = false := by
  unfold mayS
  rw [h]
  simp
theorem s_yes {j : Job} {L : List SesV} {n : Nat} (hok : okB j = true) (h : ((n : Int) == j.w) = true) (hall : ∀ s ∈ L, s.n ≤ 64 ∧ ∀ x ∈ s.ts, mayT j x = true) : mayS j L n = true := by
  unfold mayS
  rw [hok, h]
  simp only [Bool.true_and, List.all_eq_true]
  intro s hs
  unfold sesB
  rw [decide_eq_true (hall s hs).1, Bool.true_and, List.all_eq_true]
  exact fun x hx => (hall s hs).2 x hx
/-- The two rows that change. -/
theorem c_chg (b : Nat) (p0 p1 p2 q0 q1 q2 : P1) (h0 : p0.bs = []) (h1 : p1.bs = [98]) (h2 : p2.bs = [99]) (k0 : q0.bs = []) (k1 : q1.bs = [99]) (k2 : q2.bs = [98]) :
    ∃ G C : List (Int × List Int), chV (entV (bG b) 0 [p0, p1, p2] [107]) (entV (bG b) 0 [q0, q1, q2] [107]) = (G, C, 0) ∧ G.length = 2 ∧ C.length = 2 := by
  obtain ⟨a0, c0, l0⟩ := p0
  obtain ⟨a1, c1, l1⟩ := p1
  obtain ⟨a2, c2, l2⟩ := p2
  obtain ⟨d0, e0, m0⟩ := q0
  obtain ⟨d1, e1, m1⟩ := q1
  obtain ⟨d2, e2, m2⟩ := q2
  simp only at h0 h1 h2 k0 k1 k2
  subst h0 h1 h2 k0 k1 k2
  have f0 : entV (bG b) 0 [⟨a0, c0, []⟩, ⟨a1, c1, [98]⟩, ⟨a2, c2, [99]⟩] [107] = ([(1, [98, 0, 1, 107]), (2, [99, 0, 1, 107])], 0) := rfl
  have f1 : entV (bG b) 0 [⟨d0, e0, []⟩, ⟨d1, e1, [99]⟩, ⟨d2, e2, [98]⟩] [107] = ([(1, [99, 0, 1, 107]), (2, [98, 0, 1, 107])], 0) := rfl
  rw [f0, f1]
  exact ⟨_, _, rfl, by decide, by decide⟩
end Go.Proofs.Ytkgcbhpgkcfkhaa

namespace Go.Proofs.Ytkgcbhpgkcfkhaa
open Go.ChangeShapes Go.WideShapes Go.ChangeAt Go.RowKit Go.Shelf
set_option linter.unusedVariables false
set_option linter.unusedSimpArgs false
theorem BoxC.put {W : World} {B : Nat} {t : TypeId} {L : List Value} (i : Nat) (v : Value) (h : BoxC W B L.toArray t) : BoxC (W.setCell ⟨B, i, none⟩ v) B (L.set i v).toArray t := by
  obtain ⟨hlt, hk⟩ := Array.getElem?_eq_some_iff.1 h
  show (W.heap.modify B _)[B]? = _
  rw [Array.getElem?_eq_getElem (by rw [Array.size_modify]; exact hlt), Array.getElem_modify_self, hk]
  simp
/-- A job's cells over a table's block; a zero job's. -/
def jvL (b : Nat) : List Value := [.int .i64 4, .int .i64 2, .int .i64 15, .int .i64 65536, .int .i64 1048576, .int .i64 100, .slice (some ⟨b, 0, none⟩) 4 4]
def zvL : List Value := [.int .i64 0, .int .i64 0, .int .i64 0, .int .i64 0, .int .i64 0, .int .i64 0, .slice none 0 0]
def arrL (b k : Nat) : List Value := (List.replicate k (jvL b)).flatten ++ (List.replicate (8 - k) zvL).flatten
theorem ls_box {W : World} {B : Nat} {t : TypeId} {L : List Int} (h : BoxC W B (iv .i64 L).toArray t) (n : Nat) (hn : L.length = n) : Ls .i64 W (some ⟨B, 0, none⟩) n L :=
  ⟨fun k hk => ⟨_, _, rfl, by rw [Nat.zero_add, h.cell]; simp [iv, List.getD, List.getElem?_eq_getElem hk]⟩, fun e => (by cases e), by omega⟩
def arrL1 (b : Nat) : List Value := ((((((arrL b 8).set 0 (.int .i64 5)).set 8 (.int .i64 3)).set 16 (.int .i64 16)).set 24 (.int .i64 65537)).set 32 (.int .i64 1048577)).set 40 (.int .i64 101)
/-- The law's three blocks: the table's, its job's, the eight jobs' with the cells L. -/
structure J8 (B : Nat) (L : List Value) (W : World) : Prop where
  tab : BoxC W B (iv .i64 [2, 2, 2, 2]).toArray 3
  job : BoxC W (B + 1) (jvL B).toArray 53
  arr : BoxC W (B + 1 + 1) L.toArray 94
theorem J8.below {B : Nat} {L : List Value} {W W' : World} (h : J8 B L W) (b : Below W.heap.size W W') : J8 B L W' := ⟨h.tab.below b, h.job.below b, h.arr.below b⟩
theorem J8.alloc {B : Nat} {L : List Value} {W : World} (h : J8 B L W) (o : Obj) : J8 B L (W.alloc o) := ⟨h.tab.alloc o, h.job.alloc o, h.arr.alloc o⟩
theorem J8.ls {B : Nat} {L : List Value} {W : World} (h : J8 B L W) : Ls .i64 W (some ⟨B, 0, none⟩) 4 [2, 2, 2, 2] := ls_box h.tab 4 rfl
def arrF (b t6 t7 : Nat) : List Value := [.int .i64 5, .int .i64 2, .int .i64 15, .int .i64 65536, .int .i64 1048576, .int .i64 100, .slice (some ⟨b, 0, none⟩) 4 4, .int .i64 4, .int .i64 3, .int .i64 15, .int .i64 65536, .int .i64 1048576, .int .i64 100, .slice (some ⟨b, 0, none⟩) 4 4, .int .i64 4, .int .i64 2, .int .i64 16, .int .i64 65536, .int .i64 1048576, .int .i64 100, .slice (some ⟨b, 0, none⟩) 4 4, .int .i64 4, .int .i64 2, .int .i64 15, .int .i64 65537, .int .i64 1048576, .int .i64 100, .slice (some ⟨b, 0, none⟩) 4 4, .int .i64 4, .int .i64 2, .int .i64 15, .int .i64 65536, .int .i64 1048577, .int .i64 100, .slice (some ⟨b, 0, none⟩) 4 4, .int .i64 4, .int .i64 2, .int .i64 15, .int .i64 65536, .int .i64 1048576, .int .i64 101, .slice (some ⟨b, 0, none⟩) 4 4, .int .i64 4, .int .i64 2, .int .i64 15, .int .i64 65536, .int .i64 1048576, .int .i64 100, .slice (some ⟨t6, 0, none⟩) 1 1, .int .i64 4, .int .i64 2, .int .i64 15, .int .i64 65536, .int .i64 1048576, .int .i64 100, .slice (some ⟨t7, 0, none⟩) 5 5]
theorem arrF_eq (b t6 t7 : Nat) : ((arrL1 b).set 48 (.slice (some ⟨t6, 0, none⟩) 1 1)).set 55 (.slice (some ⟨t7, 0, none⟩) 5 5) = arrF b t6 t7 := rfl
/-- The state behind the eight jobs' writing. -/
def BJ8 (B t6 t7 : Nat) (w W : World) : Prop := Below w.heap.size w W ∧ BoxC W t6 #[.int .i64 3] 3 ∧ BoxC W t7 #[.int .i64 0, .int .i64 0, .int .i64 0, .int .i64 0, .int .i64 0] 3 ∧ J8 B (arrF B t6 t7) W
theorem BJ8.below {B t6 t7 : Nat} {w W W' : World} (h : BJ8 B t6 t7 w W) (b : Below W.heap.size W W') : BJ8 B t6 t7 w W' := ⟨step_below h.1 b, h.2.1.below b, h.2.2.1.below b, h.2.2.2.below b⟩
theorem BJ8.job {B t6 t7 : Nat} {w W : World} (h : BJ8 B t6 t7 w W) (a l d c k e : Int) : JobAt W (bJ a l d c k e B 4 [2, 2, 2, 2]) := ⟨h.2.2.2.ls, rfl, by show (4 : Nat) ≤ 1000000; omega⟩
theorem BJ8.job6 {B t6 t7 : Nat} {w W : World} (h : BJ8 B t6 t7 w W) (a l d c k e : Int) : JobAt W (bJ a l d c k e t6 1 [3]) := ⟨ls_box (L := [3]) h.2.1 1 rfl, rfl, by show (1 : Nat) ≤ 1000000; omega⟩
theorem BJ8.job7 {B t6 t7 : Nat} {w W : World} (h : BJ8 B t6 t7 w W) (a l d c k e : Int) : JobAt W (bJ a l d c k e t7 5 [0, 0, 0, 0, 0]) := ⟨ls_box (L := [0, 0, 0, 0, 0]) h.2.2.1 5 rfl, rfl, by show (5 : Nat) ≤ 1000000; omega⟩
theorem chk_bad {j : Job} (w : World) (hj : JobAt w j) (h : okB j = false) : Calls Try.prog 36 #[.agg #[.int .i64 j.w, .int .i64 j.l, .int .i64 j.d, .int .i64 j.c, .int .i64 j.k, .int .i64 j.e, .slice j.a j.n j.cap]] w fun r w' => r = .returned (.int .i64 2) ∧ Below w.heap.size w w' := by
  have := check_law j w hj
  rwa [bad_chk h] at this
theorem trees_bad {j : Job} (w : World) (hj : JobAt w j) (h : okB j = false) : Calls Try.prog 38 #[.agg #[.int .i64 j.w, .int .i64 j.l, .int .i64 j.d, .int .i64 j.c, .int .i64 j.k, .int .i64 j.e, .slice j.a j.n j.cap]] w fun r w' => r = .returned (.int .i64 0) ∧ Below w.heap.size w w' := by
  have := trees_law j w hj
  rwa [bad_trees h] at this
/-- A slice of n zero bytes, newly made. -/
def zs (n : Nat) : List Int := List.replicate n 0
theorem zs_length (n : Nat) : (zs n).length = n := by simp [zs]
def zo (n : Nat) : Obj := .cells (madeCells #[.int .u8 0] n) 5 (0, 0)
theorem mk_run (n : Nat) (hn : n ≤ 1000000) (w : World) : (Instr.makeSlice 24 (.int .i64 (n : Int)) (.int .i64 (n : Int))).run Try.prog w = .ok (.slice (some ⟨w.heap.size, 0, none⟩) n n) (w.alloc (zo n)) := by
  obtain ⟨i0, hi, hz0, hz1, hz2⟩ := info_parts eltB.inf
  have hr := run_make (P := Try.prog) w 24 5 i0 (.int .u8 0) Try.underlying24 hi hz0 .i64 .i64 n n (by omega) (Int.le_refl _) (by rw [hz2]; omega) (by omega)
  simp only [Int.toNat_natCast] at hr
  rw [hr, hz1]
  simp [zo, Value.cells]
theorem zo_ls (w : World) (n : Nat) : Ls .u8 (w.alloc (zo n)) (some ⟨w.heap.size, 0, none⟩) n (zs n) := by
  refine ls_new .u8 w (zs n) _ _ _ ?_ n (zs_length n)
  apply Array.ext'
  rw [toList_madeCells_one]
  simp [iv, zs]
/-- Seven cells written, one behind the other. -/
def set7 (W : World) (B i : Nat) (b : Nat) : World := ((((((W.setCell ⟨B, i, none⟩ (.int .i64 4)).setCell ⟨B, i + 1, none⟩ (.int .i64 2)).setCell ⟨B, i + 2, none⟩ (.int .i64 15)).setCell ⟨B, i + 3, none⟩ (.int .i64 65536)).setCell ⟨B, i + 4, none⟩ (.int .i64 1048576)).setCell ⟨B, i + 5, none⟩ (.int .i64 100)).setCell ⟨B, i + 6, none⟩ (.slice (some ⟨b, 0, none⟩) 4 4)
theorem below7 {s B i b : Nat} {w W : World} (h : Below s w W) (hs : s ≤ B) : Below s w (set7 W B i b) := ((((((h.setCell hs _).setCell hs _).setCell hs _).setCell hs _).setCell hs _).setCell hs _).setCell hs _
theorem J8.put {B : Nat} {L : List Value} {W : World} (h : J8 B L W) (i : Nat) (v : Value) : J8 B (L.set i v) (W.setCell ⟨B + 1 + 1, i, none⟩ v) := ⟨h.tab.oth (by omega), h.job.oth (by omega), h.arr.put i v⟩
theorem J8.round {B : Nat} {W : World} {L : List Value} (k i : Nat) (h : J8 B L W) {L' : List Value} (hL : ((((((L.set i (.int .i64 4)).set (i + 1) (.int .i64 2)).set (i + 2) (.int .i64 15)).set (i + 3) (.int .i64 65536)).set (i + 4) (.int .i64 1048576)).set (i + 5) (.int .i64 100)).set (i + 6) (.slice (some ⟨B, 0, none⟩) 4 4) = L') : J8 B L' (set7 W (B + 1 + 1) i B) := by
  subst hL
  exact ((((((h.put _ _).put _ _).put _ _).put _ _).put _ _).put _ _).put _ _

theorem fc0 {B t6 t7 : Nat} {w W : World} (b : BJ8 B t6 t7 w W) : W.cell? ⟨B + 1 + 1, 0, none⟩ = some (.int .i64 5) ∧ W.cell? ⟨B + 1 + 1, 1, none⟩ = some (.int .i64 2) ∧ W.cell? ⟨B + 1 + 1, 2, none⟩ = some (.int .i64 15) ∧ W.cell? ⟨B + 1 + 1, 3, none⟩ = some (.int .i64 65536) ∧ W.cell? ⟨B + 1 + 1, 4, none⟩ = some (.int .i64 1048576) ∧ W.cell? ⟨B + 1 + 1, 5, none⟩ = some (.int .i64 100) ∧ W.cell? ⟨B + 1 + 1, 6, none⟩ = some (.slice (some ⟨B, 0, none⟩) 4 4) := ⟨b.2.2.2.arr.cell 0, b.2.2.2.arr.cell 1, b.2.2.2.arr.cell 2, b.2.2.2.arr.cell 3, b.2.2.2.arr.cell 4, b.2.2.2.arr.cell 5, b.2.2.2.arr.cell 6⟩
theorem fk0 {B t6 t7 : Nat} {w W : World} (b : BJ8 B t6 t7 w W) : Calls Try.prog 36 #[.agg #[.int .i64 5, .int .i64 2, .int .i64 15, .int .i64 65536, .int .i64 1048576, .int .i64 100, .slice (some ⟨B, 0, none⟩) 4 4]] W fun r w' => r = .returned (.int .i64 2) ∧ Below W.heap.size W w' := chk_bad (j := bJ 5 2 15 65536 1048576 100 B 4 [2, 2, 2, 2]) W (b.job 5 2 15 65536 1048576 100) (b0_ok _)
theorem ft0 {B t6 t7 : Nat} {w W : World} (b : BJ8 B t6 t7 w W) : Calls Try.prog 38 #[.agg #[.int .i64 5, .int .i64 2, .int .i64 15, .int .i64 65536, .int .i64 1048576, .int .i64 100, .slice (some ⟨B, 0, none⟩) 4 4]] W fun r w' => r = .returned (.int .i64 0) ∧ Below W.heap.size W w' := trees_bad (j := bJ 5 2 15 65536 1048576 100 B 4 [2, 2, 2, 2]) W (b.job 5 2 15 65536 1048576 100) (b0_ok _)
theorem fc1 {B t6 t7 : Nat} {w W : World} (b : BJ8 B t6 t7 w W) : W.cell? ⟨B + 1 + 1, 7, none⟩ = some (.int .i64 4) ∧ W.cell? ⟨B + 1 + 1, 8, none⟩ = some (.int .i64 3) ∧ W.cell? ⟨B + 1 + 1, 9, none⟩ = some (.int .i64 15) ∧ W.cell? ⟨B + 1 + 1, 10, none⟩ = some (.int .i64 65536) ∧ W.cell? ⟨B + 1 + 1, 11, none⟩ = some (.int .i64 1048576) ∧ W.cell? ⟨B + 1 + 1, 12, none⟩ = some (.int .i64 100) ∧ W.cell? ⟨B + 1 + 1, 13, none⟩ = some (.slice (some ⟨B, 0, none⟩) 4 4) := ⟨b.2.2.2.arr.cell 7, b.2.2.2.arr.cell 8, b.2.2.2.arr.cell 9, b.2.2.2.arr.cell 10, b.2.2.2.arr.cell 11, b.2.2.2.arr.cell 12, b.2.2.2.arr.cell 13⟩
theorem fk1 {B t6 t7 : Nat} {w W : World} (b : BJ8 B t6 t7 w W) : Calls Try.prog 36 #[.agg #[.int .i64 4, .int .i64 3, .int .i64 15, .int .i64 65536, .int .i64 1048576, .int .i64 100, .slice (some ⟨B, 0, none⟩) 4 4]] W fun r w' => r = .returned (.int .i64 2) ∧ Below W.heap.size W w' := chk_bad (j := bJ 4 3 15 65536 1048576 100 B 4 [2, 2, 2, 2]) W (b.job 4 3 15 65536 1048576 100) (b1_ok _)
theorem ft1 {B t6 t7 : Nat} {w W : World} (b : BJ8 B t6 t7 w W) : Calls Try.prog 38 #[.agg #[.int .i64 4, .int .i64 3, .int .i64 15, .int .i64 65536, .int .i64 1048576, .int .i64 100, .slice (some ⟨B, 0, none⟩) 4 4]] W fun r w' => r = .returned (.int .i64 0) ∧ Below W.heap.size W w' := trees_bad (j := bJ 4 3 15 65536 1048576 100 B 4 [2, 2, 2, 2]) W (b.job 4 3 15 65536 1048576 100) (b1_ok _)
theorem fc2 {B t6 t7 : Nat} {w W : World} (b : BJ8 B t6 t7 w W) : W.cell? ⟨B + 1 + 1, 14, none⟩ = some (.int .i64 4) ∧ W.cell? ⟨B + 1 + 1, 15, none⟩ = some (.int .i64 2) ∧ W.cell? ⟨B + 1 + 1, 16, none⟩ = some (.int .i64 16) ∧ W.cell? ⟨B + 1 + 1, 17, none⟩ = some (.int .i64 65536) ∧ W.cell? ⟨B + 1 + 1, 18, none⟩ = some (.int .i64 1048576) ∧ W.cell? ⟨B + 1 + 1, 19, none⟩ = some (.int .i64 100) ∧ W.cell? ⟨B + 1 + 1, 20, none⟩ = some (.slice (some ⟨B, 0, none⟩) 4 4) := ⟨b.2.2.2.arr.cell 14, b.2.2.2.arr.cell 15, b.2.2.2.arr.cell 16, b.2.2.2.arr.cell 17, b.2.2.2.arr.cell 18, b.2.2.2.arr.cell 19, b.2.2.2.arr.cell 20⟩
theorem fk2 {B t6 t7 : Nat} {w W : World} (b : BJ8 B t6 t7 w W) : Calls Try.prog 36 #[.agg #[.int .i64 4, .int .i64 2, .int .i64 16, .int .i64 65536, .int .i64 1048576, .int .i64 100, .slice (some ⟨B, 0, none⟩) 4 4]] W fun r w' => r = .returned (.int .i64 2) ∧ Below W.heap.size W w' := chk_bad (j := bJ 4 2 16 65536 1048576 100 B 4 [2, 2, 2, 2]) W (b.job 4 2 16 65536 1048576 100) (b2_ok _)
theorem ft2 {B t6 t7 : Nat} {w W : World} (b : BJ8 B t6 t7 w W) : Calls Try.prog 38 #[.agg #[.int .i64 4, .int .i64 2, .int .i64 16, .int .i64 65536, .int .i64 1048576, .int .i64 100, .slice (some ⟨B, 0, none⟩) 4 4]] W fun r w' => r = .returned (.int .i64 0) ∧ Below W.heap.size W w' := trees_bad (j := bJ 4 2 16 65536 1048576 100 B 4 [2, 2, 2, 2]) W (b.job 4 2 16 65536 1048576 100) (b2_ok _)
theorem fc3 {B t6 t7 : Nat} {w W : World} (b : BJ8 B t6 t7 w W) : W.cell? ⟨B + 1 + 1, 21, none⟩ = some (.int .i64 4) ∧ W.cell? ⟨B + 1 + 1, 22, none⟩ = some (.int .i64 2) ∧ W.cell? ⟨B + 1 + 1, 23, none⟩ = some (.int .i64 15) ∧ W.cell? ⟨B + 1 + 1, 24, none⟩ = some (.int .i64 65537) ∧ W.cell? ⟨B + 1 + 1, 25, none⟩ = some (.int .i64 1048576) ∧ W.cell? ⟨B + 1 + 1, 26, none⟩ = some (.int .i64 100) ∧ W.cell? ⟨B + 1 + 1, 27, none⟩ = some (.slice (some ⟨B, 0, none⟩) 4 4) := ⟨b.2.2.2.arr.cell 21, b.2.2.2.arr.cell 22, b.2.2.2.arr.cell 23, b.2.2.2.arr.cell 24, b.2.2.2.arr.cell 25, b.2.2.2.arr.cell 26, b.2.2.2.arr.cell 27⟩
theorem fk3 {B t6 t7 : Nat} {w W : World} (b : BJ8 B t6 t7 w W) : Calls Try.prog 36 #[.agg #[.int .i64 4, .int .i64 2, .int .i64 15, .int .i64 65537, .int .i64 1048576, .int .i64 100, .slice (some ⟨B, 0, none⟩) 4 4]] W fun r w' => r = .returned (.int .i64 2) ∧ Below W.heap.size W w' := chk_bad (j := bJ 4 2 15 65537 1048576 100 B 4 [2, 2, 2, 2]) W (b.job 4 2 15 65537 1048576 100) (b3_ok _)
theorem ft3 {B t6 t7 : Nat} {w W : World} (b : BJ8 B t6 t7 w W) : Calls Try.prog 38 #[.agg #[.int .i64 4, .int .i64 2, .int .i64 15, .int .i64 65537, .int .i64 1048576, .int .i64 100, .slice (some ⟨B, 0, none⟩) 4 4]] W fun r w' => r = .returned (.int .i64 0) ∧ Below W.heap.size W w' := trees_bad (j := bJ 4 2 15 65537 1048576 100 B 4 [2, 2, 2, 2]) W (b.job 4 2 15 65537 1048576 100) (b3_ok _)
theorem fc4 {B t6 t7 : Nat} {w W : World} (b : BJ8 B t6 t7 w W) : W.cell? ⟨B + 1 + 1, 28, none⟩ = some (.int .i64 4) ∧ W.cell? ⟨B + 1 + 1, 29, none⟩ = some (.int .i64 2) ∧ W.cell? ⟨B + 1 + 1, 30, none⟩ = some (.int .i64 15) ∧ W.cell? ⟨B + 1 + 1, 31, none⟩ = some (.int .i64 65536) ∧ W.cell? ⟨B + 1 + 1, 32, none⟩ = some (.int .i64 1048577) ∧ W.cell? ⟨B + 1 + 1, 33, none⟩ = some (.int .i64 100) ∧ W.cell? ⟨B + 1 + 1, 34, none⟩ = some (.slice (some ⟨B, 0, none⟩) 4 4) := ⟨b.2.2.2.arr.cell 28, b.2.2.2.arr.cell 29, b.2.2.2.arr.cell 30, b.2.2.2.arr.cell 31, b.2.2.2.arr.cell 32, b.2.2.2.arr.cell 33, b.2.2.2.arr.cell 34⟩
theorem fk4 {B t6 t7 : Nat} {w W : World} (b : BJ8 B t6 t7 w W) : Calls Try.prog 36 #[.agg #[.int .i64 4, .int .i64 2, .int .i64 15, .int .i64 65536, .int .i64 1048577, .int .i64 100, .slice (some ⟨B, 0, none⟩) 4 4]] W fun r w' => r = .returned (.int .i64 2) ∧ Below W.heap.size W w' := chk_bad (j := bJ 4 2 15 65536 1048577 100 B 4 [2, 2, 2, 2]) W (b.job 4 2 15 65536 1048577 100) (b4_ok _)
theorem ft4 {B t6 t7 : Nat} {w W : World} (b : BJ8 B t6 t7 w W) : Calls Try.prog 38 #[.agg #[.int .i64 4, .int .i64 2, .int .i64 15, .int .i64 65536, .int .i64 1048577, .int .i64 100, .slice (some ⟨B, 0, none⟩) 4 4]] W fun r w' => r = .returned (.int .i64 0) ∧ Below W.heap.size W w' := trees_bad (j := bJ 4 2 15 65536 1048577 100 B 4 [2, 2, 2, 2]) W (b.job 4 2 15 65536 1048577 100) (b4_ok _)
theorem fc5 {B t6 t7 : Nat} {w W : World} (b : BJ8 B t6 t7 w W) : W.cell? ⟨B + 1 + 1, 35, none⟩ = some (.int .i64 4) ∧ W.cell? ⟨B + 1 + 1, 36, none⟩ = some (.int .i64 2) ∧ W.cell? ⟨B + 1 + 1, 37, none⟩ = some (.int .i64 15) ∧ W.cell? ⟨B + 1 + 1, 38, none⟩ = some (.int .i64 65536) ∧ W.cell? ⟨B + 1 + 1, 39, none⟩ = some (.int .i64 1048576) ∧ W.cell? ⟨B + 1 + 1, 40, none⟩ = some (.int .i64 101) ∧ W.cell? ⟨B + 1 + 1, 41, none⟩ = some (.slice (some ⟨B, 0, none⟩) 4 4) := ⟨b.2.2.2.arr.cell 35, b.2.2.2.arr.cell 36, b.2.2.2.arr.cell 37, b.2.2.2.arr.cell 38, b.2.2.2.arr.cell 39, b.2.2.2.arr.cell 40, b.2.2.2.arr.cell 41⟩
theorem fk5 {B t6 t7 : Nat} {w W : World} (b : BJ8 B t6 t7 w W) : Calls Try.prog 36 #[.agg #[.int .i64 4, .int .i64 2, .int .i64 15, .int .i64 65536, .int .i64 1048576, .int .i64 101, .slice (some ⟨B, 0, none⟩) 4 4]] W fun r w' => r = .returned (.int .i64 2) ∧ Below W.heap.size W w' := chk_bad (j := bJ 4 2 15 65536 1048576 101 B 4 [2, 2, 2, 2]) W (b.job 4 2 15 65536 1048576 101) (b5_ok _)
theorem ft5 {B t6 t7 : Nat} {w W : World} (b : BJ8 B t6 t7 w W) : Calls Try.prog 38 #[.agg #[.int .i64 4, .int .i64 2, .int .i64 15, .int .i64 65536, .int .i64 1048576, .int .i64 101, .slice (some ⟨B, 0, none⟩) 4 4]] W fun r w' => r = .returned (.int .i64 0) ∧ Below W.heap.size W w' := trees_bad (j := bJ 4 2 15 65536 1048576 101 B 4 [2, 2, 2, 2]) W (b.job 4 2 15 65536 1048576 101) (b5_ok _)
theorem fc6 {B t6 t7 : Nat} {w W : World} (b : BJ8 B t6 t7 w W) : W.cell? ⟨B + 1 + 1, 42, none⟩ = some (.int .i64 4) ∧ W.cell? ⟨B + 1 + 1, 43, none⟩ = some (.int .i64 2) ∧ W.cell? ⟨B + 1 + 1, 44, none⟩ = some (.int .i64 15) ∧ W.cell? ⟨B + 1 + 1, 45, none⟩ = some (.int .i64 65536) ∧ W.cell? ⟨B + 1 + 1, 46, none⟩ = some (.int .i64 1048576) ∧ W.cell? ⟨B + 1 + 1, 47, none⟩ = some (.int .i64 100) ∧ W.cell? ⟨B + 1 + 1, 48, none⟩ = some (.slice (some ⟨t6, 0, none⟩) 1 1) := ⟨b.2.2.2.arr.cell 42, b.2.2.2.arr.cell 43, b.2.2.2.arr.cell 44, b.2.2.2.arr.cell 45, b.2.2.2.arr.cell 46, b.2.2.2.arr.cell 47, b.2.2.2.arr.cell 48⟩
theorem fk6 {B t6 t7 : Nat} {w W : World} (b : BJ8 B t6 t7 w W) : Calls Try.prog 36 #[.agg #[.int .i64 4, .int .i64 2, .int .i64 15, .int .i64 65536, .int .i64 1048576, .int .i64 100, .slice (some ⟨t6, 0, none⟩) 1 1]] W fun r w' => r = .returned (.int .i64 2) ∧ Below W.heap.size W w' := chk_bad (j := bJ 4 2 15 65536 1048576 100 t6 1 [3]) W (b.job6 4 2 15 65536 1048576 100) (b6_ok _)
theorem ft6 {B t6 t7 : Nat} {w W : World} (b : BJ8 B t6 t7 w W) : Calls Try.prog 38 #[.agg #[.int .i64 4, .int .i64 2, .int .i64 15, .int .i64 65536, .int .i64 1048576, .int .i64 100, .slice (some ⟨t6, 0, none⟩) 1 1]] W fun r w' => r = .returned (.int .i64 0) ∧ Below W.heap.size W w' := trees_bad (j := bJ 4 2 15 65536 1048576 100 t6 1 [3]) W (b.job6 4 2 15 65536 1048576 100) (b6_ok _)
theorem fc7 {B t6 t7 : Nat} {w W : World} (b : BJ8 B t6 t7 w W) : W.cell? ⟨B + 1 + 1, 49, none⟩ = some (.int .i64 4) ∧ W.cell? ⟨B + 1 + 1, 50, none⟩ = some (.int .i64 2) ∧ W.cell? ⟨B + 1 + 1, 51, none⟩ = some (.int .i64 15) ∧ W.cell? ⟨B + 1 + 1, 52, none⟩ = some (.int .i64 65536) ∧ W.cell? ⟨B + 1 + 1, 53, none⟩ = some (.int .i64 1048576) ∧ W.cell? ⟨B + 1 + 1, 54, none⟩ = some (.int .i64 100) ∧ W.cell? ⟨B + 1 + 1, 55, none⟩ = some (.slice (some ⟨t7, 0, none⟩) 5 5) := ⟨b.2.2.2.arr.cell 49, b.2.2.2.arr.cell 50, b.2.2.2.arr.cell 51, b.2.2.2.arr.cell 52, b.2.2.2.arr.cell 53, b.2.2.2.arr.cell 54, b.2.2.2.arr.cell 55⟩
theorem fk7 {B t6 t7 : Nat} {w W : World} (b : BJ8 B t6 t7 w W) : Calls Try.prog 36 #[.agg #[.int .i64 4, .int .i64 2, .int .i64 15, .int .i64 65536, .int .i64 1048576, .int .i64 100, .slice (some ⟨t7, 0, none⟩) 5 5]] W fun r w' => r = .returned (.int .i64 2) ∧ Below W.heap.size W w' := chk_bad (j := bJ 4 2 15 65536 1048576 100 t7 5 [0, 0, 0, 0, 0]) W (b.job7 4 2 15 65536 1048576 100) (b7_ok _)
theorem ft7 {B t6 t7 : Nat} {w W : World} (b : BJ8 B t6 t7 w W) : Calls Try.prog 38 #[.agg #[.int .i64 4, .int .i64 2, .int .i64 15, .int .i64 65536, .int .i64 1048576, .int .i64 100, .slice (some ⟨t7, 0, none⟩) 5 5]] W fun r w' => r = .returned (.int .i64 0) ∧ Below W.heap.size W w' := trees_bad (j := bJ 4 2 15 65536 1048576 100 t7 5 [0, 0, 0, 0, 0]) W (b.job7 4 2 15 65536 1048576 100) (b7_ok _)
end Go.Proofs.Ytkgcbhpgkcfkhaa

namespace Go.Proofs.Ytkgcbhpgkcfkhaa
open Go.ChangeShapes Go.WideShapes Go.ChangeAt Go.RowKit Go.Shelf
set_option linter.unusedVariables false
set_option linter.unusedSimpArgs false

/-- What stands from region 19 on. -/
structure BW (w : World) (b bj b5 b6 b7 : Nat) (W : World) : Prop where
  bel : Below w.heap.size w W
  jb : JobAt W (bG b)
  jc : BoxC W (b + 1) (jvL b).toArray 53
  kj : JobAt W (kJ bj)
  one : BoxC W b5 #[.int .i64 1, .int .i64 2, .int .i64 3, .int .i64 1024, .int .i64 1024, .int .i64 1, .slice (some ⟨bj, 0, none⟩) 2 2] 53
  key : Ls .u8 W (some ⟨b6, 0, none⟩) 1 [107]
  get : BoxC W b7 #[.int .i64 1, .int .i64 0, .int .i64 0, .slice (some ⟨b6, 0, none⟩) 1 1, .slice none 0 0, .int .i64 0, .slice none 0 0] 98
theorem BW.below {w : World} {b bj b5 b6 b7 : Nat} {W W' : World} (h : BW w b bj b5 b6 b7 W) (B : Below W.heap.size W W') : BW w b bj b5 b6 b7 W' := ⟨step_below h.bel B, h.jb.below B, h.jc.below B, h.kj.below B, h.one.below B, h.key.below B, h.get.below B⟩
/-- The twelve calls. -/
structure OB (b6 r1 m25 m33 bo : Nat) (W : World) : Prop where
  box : BoxC W bo #[.int .i64 1, .int .i64 0, .int .i64 0, .slice (some ⟨b6, 0, none⟩) 1 1, .slice none 0 0, .int .i64 1, .slice none 0 0, .int .i64 1, .int .i64 0, .int .i64 0, .slice (some ⟨b6, 0, none⟩) 1 1, .slice (some ⟨b6, 0, none⟩) 1 1, .int .i64 0, .slice none 0 0, .int .i64 1, .int .i64 0, .int .i64 1, .slice (some ⟨b6, 0, none⟩) 1 1, .slice none 0 0, .int .i64 0, .slice none 0 0, .int .i64 1, .int .i64 0, .int .i64 0, .slice (some ⟨b6, 0, none⟩) 1 1, .slice none 0 0, .int .i64 0, .slice (some ⟨r1, 0, none⟩) 1 1, .int .i64 1, .int .i64 0, .int .i64 0, .slice none 0 0, .slice none 0 0, .int .i64 0, .slice none 0 0, .int .i64 7, .int .i64 0, .int .i64 0, .slice (some ⟨b6, 0, none⟩) 1 1, .slice none 0 0, .int .i64 0, .slice none 0 0, .int .i64 5, .int .i64 0, .int .i64 1, .slice none 0 0, .slice none 0 0, .int .i64 1, .slice none 0 0, .int .i64 6, .int .i64 0, .int .i64 2, .slice none 0 0, .slice none 0 0, .int .i64 1, .slice none 0 0, .int .i64 6, .int .i64 0, .int .i64 0, .slice (some ⟨m25, 0, none⟩) 25 25, .slice none 0 0, .int .i64 1, .slice none 0 0, .int .i64 5, .int .i64 0, .int .i64 0, .slice (some ⟨m33, 0, none⟩) 33 33, .slice none 0 0, .int .i64 1, .slice none 0 0, .int .i64 5, .int .i64 0, .int .i64 0, .slice none 0 0, .slice none 0 0, .int .i64 0, .slice none 0 0, .int .i64 1, .int .i64 4, .int .i64 0, .slice (some ⟨b6, 0, none⟩) 1 1, .slice none 0 0, .int .i64 0, .slice none 0 0] 98
  row : RdR W (some ⟨r1, 0, none⟩) [⟨some ⟨b6, 0, none⟩, 1, [107]⟩]
  m5 : Ls .u8 W (some ⟨m25, 0, none⟩) 25 (zs 25)
  m3 : Ls .u8 W (some ⟨m33, 0, none⟩) 33 (zs 33)
theorem OB.below {b6 r1 m25 m33 bo : Nat} {W W' : World} (h : OB b6 r1 m25 m33 bo W) (B : Below W.heap.size W W') : OB b6 r1 m25 m33 bo W' := ⟨h.box.below B, h.row.below B, h.m5.below B, h.m3.below B⟩
theorem byt_zs (n : Nat) : Byt (zs n) := fun x hx => by
  obtain rfl := List.eq_of_mem_replicate hx
  omega
theorem row1 (W : World) (b6 : Nat) (h : Ls .u8 W (some ⟨b6, 0, none⟩) 1 [107]) : RdR (W.alloc (.cells #[.slice (some ⟨b6, 0, none⟩) 1 1] 24)) (some ⟨W.heap.size, 0, none⟩) [⟨some ⟨b6, 0, none⟩, 1, [107]⟩] :=
  rdR_new W [⟨some ⟨b6, 0, none⟩, 1, [107]⟩] _ 24 (0, 0) rfl (fun p hp => by simp at hp; subst hp; exact h)
/-- The job's cells. -/
theorem jcell {w : World} {b bj b5 b6 b7 : Nat} {W : World} (h : BW w b bj b5 b6 b7 W) : W.cell? ⟨b + 1, 0, none⟩ = some (.int .i64 4) ∧ W.cell? ⟨b + 1, 1, none⟩ = some (.int .i64 2) ∧ W.cell? ⟨b + 1, 2, none⟩ = some (.int .i64 15) ∧ W.cell? ⟨b + 1, 3, none⟩ = some (.int .i64 65536) ∧ W.cell? ⟨b + 1, 4, none⟩ = some (.int .i64 1048576) ∧ W.cell? ⟨b + 1, 5, none⟩ = some (.int .i64 100) ∧ W.cell? ⟨b + 1, 6, none⟩ = some (.slice (some ⟨b, 0, none⟩) 4 4) := ⟨h.jc.cell 0, h.jc.cell 1, h.jc.cell 2, h.jc.cell 3, h.jc.cell 4, h.jc.cell 5, h.jc.cell 6⟩
theorem gcell {w : World} {b bj b5 b6 b7 : Nat} {W : World} (h : BW w b bj b5 b6 b7 W) : W.cell? ⟨b7, 0, none⟩ = some (.int .i64 1) ∧ W.cell? ⟨b7, 1, none⟩ = some (.int .i64 0) ∧ W.cell? ⟨b7, 2, none⟩ = some (.int .i64 0) ∧ W.cell? ⟨b7, 3, none⟩ = some (.slice (some ⟨b6, 0, none⟩) 1 1) ∧ W.cell? ⟨b7, 4, none⟩ = some (.slice none 0 0) ∧ W.cell? ⟨b7, 5, none⟩ = some (.int .i64 0) ∧ W.cell? ⟨b7, 6, none⟩ = some (.slice none 0 0) := ⟨h.get.cell 0, h.get.cell 1, h.get.cell 2, h.get.cell 3, h.get.cell 4, h.get.cell 5, h.get.cell 6⟩
theorem onecell {w : World} {b bj b5 b6 b7 : Nat} {W : World} (h : BW w b bj b5 b6 b7 W) : W.cell? ⟨b5, 0, none⟩ = some (.int .i64 1) ∧ W.cell? ⟨b5, 1, none⟩ = some (.int .i64 2) ∧ W.cell? ⟨b5, 2, none⟩ = some (.int .i64 3) ∧ W.cell? ⟨b5, 3, none⟩ = some (.int .i64 1024) ∧ W.cell? ⟨b5, 4, none⟩ = some (.int .i64 1024) ∧ W.cell? ⟨b5, 5, none⟩ = some (.int .i64 1) ∧ W.cell? ⟨b5, 6, none⟩ = some (.slice (some ⟨bj, 0, none⟩) 2 2) := ⟨h.one.cell 0, h.one.cell 1, h.one.cell 2, h.one.cell 3, h.one.cell 4, h.one.cell 5, h.one.cell 6⟩
theorem oneAt {w : World} {b bj b5 b6 b7 : Nat} {W : World} (h : BW w b bj b5 b6 b7 W) : JobAt W (bJ 1 2 3 1024 1024 1 bj 2 [0, 2]) := ⟨h.kj.ls, h.kj.len, h.kj.le⟩
theorem c56_0 {w : World} {b bj b5 b6 b7 r1 m25 m33 bo : Nat} {W : World} (h : BW w b bj b5 b6 b7 W) (g : OB b6 r1 m25 m33 bo W) : Calls Try.prog 56 #[.agg #[.int .i64 4, .int .i64 2, .int .i64 15, .int .i64 65536, .int .i64 1048576, .int .i64 100, .slice (some ⟨b, 0, none⟩) 4 4], .agg #[.int .i64 1, .int .i64 0, .int .i64 0, .slice (some ⟨b6, 0, none⟩) 1 1, .slice none 0 0, .int .i64 1, .slice none 0 0]] W fun r W' => r = .returned (.bool false) ∧ Below W.heap.size W W' := by
  have hh := mayop_law (bG b) (bO 1 0 0 (some ⟨b6, 0, none⟩) 1 [107] none 0 [] 1 none 0 []) (by show (0 : Nat) ≤ 1000000; omega) W h.jb ⟨h.key, rfl, byt_of [107] rfl, Ls.nul _ _, rfl, byt_nil, RdR.nil _ _, rfl, (fun p hp => by cases hp)⟩
  rwa [o_0] at hh
theorem o84_0 {b6 r1 m25 m33 bo : Nat} {W : World} (g : OB b6 r1 m25 m33 bo W) : W.cell? ⟨bo, 0, none⟩ = some (.int .i64 1) ∧ W.cell? ⟨bo, 1, none⟩ = some (.int .i64 0) ∧ W.cell? ⟨bo, 2, none⟩ = some (.int .i64 0) ∧ W.cell? ⟨bo, 3, none⟩ = some (.slice (some ⟨b6, 0, none⟩) 1 1) ∧ W.cell? ⟨bo, 4, none⟩ = some (.slice none 0 0) ∧ W.cell? ⟨bo, 5, none⟩ = some (.int .i64 1) ∧ W.cell? ⟨bo, 6, none⟩ = some (.slice none 0 0) := ⟨g.box.cell 0, g.box.cell 1, g.box.cell 2, g.box.cell 3, g.box.cell 4, g.box.cell 5, g.box.cell 6⟩
theorem c56_1 {w : World} {b bj b5 b6 b7 r1 m25 m33 bo : Nat} {W : World} (h : BW w b bj b5 b6 b7 W) (g : OB b6 r1 m25 m33 bo W) : Calls Try.prog 56 #[.agg #[.int .i64 4, .int .i64 2, .int .i64 15, .int .i64 65536, .int .i64 1048576, .int .i64 100, .slice (some ⟨b, 0, none⟩) 4 4], .agg #[.int .i64 1, .int .i64 0, .int .i64 0, .slice (some ⟨b6, 0, none⟩) 1 1, .slice (some ⟨b6, 0, none⟩) 1 1, .int .i64 0, .slice none 0 0]] W fun r W' => r = .returned (.bool false) ∧ Below W.heap.size W W' := by
  have hh := mayop_law (bG b) (bO 1 0 0 (some ⟨b6, 0, none⟩) 1 [107] (some ⟨b6, 0, none⟩) 1 [107] 0 none 0 []) (by show (0 : Nat) ≤ 1000000; omega) W h.jb ⟨h.key, rfl, byt_of [107] rfl, h.key, rfl, byt_of [107] rfl, RdR.nil _ _, rfl, (fun p hp => by cases hp)⟩
  rwa [o_1] at hh
theorem o84_1 {b6 r1 m25 m33 bo : Nat} {W : World} (g : OB b6 r1 m25 m33 bo W) : W.cell? ⟨bo, 7, none⟩ = some (.int .i64 1) ∧ W.cell? ⟨bo, 8, none⟩ = some (.int .i64 0) ∧ W.cell? ⟨bo, 9, none⟩ = some (.int .i64 0) ∧ W.cell? ⟨bo, 10, none⟩ = some (.slice (some ⟨b6, 0, none⟩) 1 1) ∧ W.cell? ⟨bo, 11, none⟩ = some (.slice (some ⟨b6, 0, none⟩) 1 1) ∧ W.cell? ⟨bo, 12, none⟩ = some (.int .i64 0) ∧ W.cell? ⟨bo, 13, none⟩ = some (.slice none 0 0) := ⟨g.box.cell 7, g.box.cell 8, g.box.cell 9, g.box.cell 10, g.box.cell 11, g.box.cell 12, g.box.cell 13⟩
theorem c56_2 {w : World} {b bj b5 b6 b7 r1 m25 m33 bo : Nat} {W : World} (h : BW w b bj b5 b6 b7 W) (g : OB b6 r1 m25 m33 bo W) : Calls Try.prog 56 #[.agg #[.int .i64 4, .int .i64 2, .int .i64 15, .int .i64 65536, .int .i64 1048576, .int .i64 100, .slice (some ⟨b, 0, none⟩) 4 4], .agg #[.int .i64 1, .int .i64 0, .int .i64 1, .slice (some ⟨b6, 0, none⟩) 1 1, .slice none 0 0, .int .i64 0, .slice none 0 0]] W fun r W' => r = .returned (.bool false) ∧ Below W.heap.size W W' := by
  have hh := mayop_law (bG b) (bO 1 0 1 (some ⟨b6, 0, none⟩) 1 [107] none 0 [] 0 none 0 []) (by show (0 : Nat) ≤ 1000000; omega) W h.jb ⟨h.key, rfl, byt_of [107] rfl, Ls.nul _ _, rfl, byt_nil, RdR.nil _ _, rfl, (fun p hp => by cases hp)⟩
  rwa [o_2] at hh
theorem o84_2 {b6 r1 m25 m33 bo : Nat} {W : World} (g : OB b6 r1 m25 m33 bo W) : W.cell? ⟨bo, 14, none⟩ = some (.int .i64 1) ∧ W.cell? ⟨bo, 15, none⟩ = some (.int .i64 0) ∧ W.cell? ⟨bo, 16, none⟩ = some (.int .i64 1) ∧ W.cell? ⟨bo, 17, none⟩ = some (.slice (some ⟨b6, 0, none⟩) 1 1) ∧ W.cell? ⟨bo, 18, none⟩ = some (.slice none 0 0) ∧ W.cell? ⟨bo, 19, none⟩ = some (.int .i64 0) ∧ W.cell? ⟨bo, 20, none⟩ = some (.slice none 0 0) := ⟨g.box.cell 14, g.box.cell 15, g.box.cell 16, g.box.cell 17, g.box.cell 18, g.box.cell 19, g.box.cell 20⟩
theorem c56_3 {w : World} {b bj b5 b6 b7 r1 m25 m33 bo : Nat} {W : World} (h : BW w b bj b5 b6 b7 W) (g : OB b6 r1 m25 m33 bo W) : Calls Try.prog 56 #[.agg #[.int .i64 4, .int .i64 2, .int .i64 15, .int .i64 65536, .int .i64 1048576, .int .i64 100, .slice (some ⟨b, 0, none⟩) 4 4], .agg #[.int .i64 1, .int .i64 0, .int .i64 0, .slice (some ⟨b6, 0, none⟩) 1 1, .slice none 0 0, .int .i64 0, .slice (some ⟨r1, 0, none⟩) 1 1]] W fun r W' => r = .returned (.bool false) ∧ Below W.heap.size W W' := by
  have hh := mayop_law (bG b) (bO 1 0 0 (some ⟨b6, 0, none⟩) 1 [107] none 0 [] 0 (some ⟨r1, 0, none⟩) 1 [⟨some ⟨b6, 0, none⟩, 1, [107]⟩]) (by show (1 : Nat) ≤ 1000000; omega) W h.jb ⟨h.key, rfl, byt_of [107] rfl, Ls.nul _ _, rfl, byt_nil, g.row, rfl, (fun p hp => by obtain rfl := List.mem_singleton.1 hp; exact byt_of [107] rfl)⟩
  rwa [o_3] at hh
theorem o84_3 {b6 r1 m25 m33 bo : Nat} {W : World} (g : OB b6 r1 m25 m33 bo W) : W.cell? ⟨bo, 21, none⟩ = some (.int .i64 1) ∧ W.cell? ⟨bo, 22, none⟩ = some (.int .i64 0) ∧ W.cell? ⟨bo, 23, none⟩ = some (.int .i64 0) ∧ W.cell? ⟨bo, 24, none⟩ = some (.slice (some ⟨b6, 0, none⟩) 1 1) ∧ W.cell? ⟨bo, 25, none⟩ = some (.slice none 0 0) ∧ W.cell? ⟨bo, 26, none⟩ = some (.int .i64 0) ∧ W.cell? ⟨bo, 27, none⟩ = some (.slice (some ⟨r1, 0, none⟩) 1 1) := ⟨g.box.cell 21, g.box.cell 22, g.box.cell 23, g.box.cell 24, g.box.cell 25, g.box.cell 26, g.box.cell 27⟩
theorem c56_4 {w : World} {b bj b5 b6 b7 r1 m25 m33 bo : Nat} {W : World} (h : BW w b bj b5 b6 b7 W) (g : OB b6 r1 m25 m33 bo W) : Calls Try.prog 56 #[.agg #[.int .i64 4, .int .i64 2, .int .i64 15, .int .i64 65536, .int .i64 1048576, .int .i64 100, .slice (some ⟨b, 0, none⟩) 4 4], .agg #[.int .i64 1, .int .i64 0, .int .i64 0, .slice none 0 0, .slice none 0 0, .int .i64 0, .slice none 0 0]] W fun r W' => r = .returned (.bool false) ∧ Below W.heap.size W W' := by
  have hh := mayop_law (bG b) (bO 1 0 0 none 0 [] none 0 [] 0 none 0 []) (by show (0 : Nat) ≤ 1000000; omega) W h.jb ⟨Ls.nul _ _, rfl, byt_nil, Ls.nul _ _, rfl, byt_nil, RdR.nil _ _, rfl, (fun p hp => by cases hp)⟩
  rwa [o_4] at hh
theorem o84_4 {b6 r1 m25 m33 bo : Nat} {W : World} (g : OB b6 r1 m25 m33 bo W) : W.cell? ⟨bo, 28, none⟩ = some (.int .i64 1) ∧ W.cell? ⟨bo, 29, none⟩ = some (.int .i64 0) ∧ W.cell? ⟨bo, 30, none⟩ = some (.int .i64 0) ∧ W.cell? ⟨bo, 31, none⟩ = some (.slice none 0 0) ∧ W.cell? ⟨bo, 32, none⟩ = some (.slice none 0 0) ∧ W.cell? ⟨bo, 33, none⟩ = some (.int .i64 0) ∧ W.cell? ⟨bo, 34, none⟩ = some (.slice none 0 0) := ⟨g.box.cell 28, g.box.cell 29, g.box.cell 30, g.box.cell 31, g.box.cell 32, g.box.cell 33, g.box.cell 34⟩
theorem c56_5 {w : World} {b bj b5 b6 b7 r1 m25 m33 bo : Nat} {W : World} (h : BW w b bj b5 b6 b7 W) (g : OB b6 r1 m25 m33 bo W) : Calls Try.prog 56 #[.agg #[.int .i64 4, .int .i64 2, .int .i64 15, .int .i64 65536, .int .i64 1048576, .int .i64 100, .slice (some ⟨b, 0, none⟩) 4 4], .agg #[.int .i64 7, .int .i64 0, .int .i64 0, .slice (some ⟨b6, 0, none⟩) 1 1, .slice none 0 0, .int .i64 0, .slice none 0 0]] W fun r W' => r = .returned (.bool false) ∧ Below W.heap.size W W' := by
  have hh := mayop_law (bG b) (bO 7 0 0 (some ⟨b6, 0, none⟩) 1 [107] none 0 [] 0 none 0 []) (by show (0 : Nat) ≤ 1000000; omega) W h.jb ⟨h.key, rfl, byt_of [107] rfl, Ls.nul _ _, rfl, byt_nil, RdR.nil _ _, rfl, (fun p hp => by cases hp)⟩
  rwa [o_5] at hh
theorem o84_5 {b6 r1 m25 m33 bo : Nat} {W : World} (g : OB b6 r1 m25 m33 bo W) : W.cell? ⟨bo, 35, none⟩ = some (.int .i64 7) ∧ W.cell? ⟨bo, 36, none⟩ = some (.int .i64 0) ∧ W.cell? ⟨bo, 37, none⟩ = some (.int .i64 0) ∧ W.cell? ⟨bo, 38, none⟩ = some (.slice (some ⟨b6, 0, none⟩) 1 1) ∧ W.cell? ⟨bo, 39, none⟩ = some (.slice none 0 0) ∧ W.cell? ⟨bo, 40, none⟩ = some (.int .i64 0) ∧ W.cell? ⟨bo, 41, none⟩ = some (.slice none 0 0) := ⟨g.box.cell 35, g.box.cell 36, g.box.cell 37, g.box.cell 38, g.box.cell 39, g.box.cell 40, g.box.cell 41⟩
theorem c56_6 {w : World} {b bj b5 b6 b7 r1 m25 m33 bo : Nat} {W : World} (h : BW w b bj b5 b6 b7 W) (g : OB b6 r1 m25 m33 bo W) : Calls Try.prog 56 #[.agg #[.int .i64 4, .int .i64 2, .int .i64 15, .int .i64 65536, .int .i64 1048576, .int .i64 100, .slice (some ⟨b, 0, none⟩) 4 4], .agg #[.int .i64 5, .int .i64 0, .int .i64 1, .slice none 0 0, .slice none 0 0, .int .i64 1, .slice none 0 0]] W fun r W' => r = .returned (.bool false) ∧ Below W.heap.size W W' := by
  have hh := mayop_law (bG b) (bO 5 0 1 none 0 [] none 0 [] 1 none 0 []) (by show (0 : Nat) ≤ 1000000; omega) W h.jb ⟨Ls.nul _ _, rfl, byt_nil, Ls.nul _ _, rfl, byt_nil, RdR.nil _ _, rfl, (fun p hp => by cases hp)⟩
  rwa [o_6] at hh
theorem o84_6 {b6 r1 m25 m33 bo : Nat} {W : World} (g : OB b6 r1 m25 m33 bo W) : W.cell? ⟨bo, 42, none⟩ = some (.int .i64 5) ∧ W.cell? ⟨bo, 43, none⟩ = some (.int .i64 0) ∧ W.cell? ⟨bo, 44, none⟩ = some (.int .i64 1) ∧ W.cell? ⟨bo, 45, none⟩ = some (.slice none 0 0) ∧ W.cell? ⟨bo, 46, none⟩ = some (.slice none 0 0) ∧ W.cell? ⟨bo, 47, none⟩ = some (.int .i64 1) ∧ W.cell? ⟨bo, 48, none⟩ = some (.slice none 0 0) := ⟨g.box.cell 42, g.box.cell 43, g.box.cell 44, g.box.cell 45, g.box.cell 46, g.box.cell 47, g.box.cell 48⟩
theorem c56_7 {w : World} {b bj b5 b6 b7 r1 m25 m33 bo : Nat} {W : World} (h : BW w b bj b5 b6 b7 W) (g : OB b6 r1 m25 m33 bo W) : Calls Try.prog 56 #[.agg #[.int .i64 4, .int .i64 2, .int .i64 15, .int .i64 65536, .int .i64 1048576, .int .i64 100, .slice (some ⟨b, 0, none⟩) 4 4], .agg #[.int .i64 6, .int .i64 0, .int .i64 2, .slice none 0 0, .slice none 0 0, .int .i64 1, .slice none 0 0]] W fun r W' => r = .returned (.bool false) ∧ Below W.heap.size W W' := by
  have hh := mayop_law (bG b) (bO 6 0 2 none 0 [] none 0 [] 1 none 0 []) (by show (0 : Nat) ≤ 1000000; omega) W h.jb ⟨Ls.nul _ _, rfl, byt_nil, Ls.nul _ _, rfl, byt_nil, RdR.nil _ _, rfl, (fun p hp => by cases hp)⟩
  rwa [o_7] at hh
theorem o84_7 {b6 r1 m25 m33 bo : Nat} {W : World} (g : OB b6 r1 m25 m33 bo W) : W.cell? ⟨bo, 49, none⟩ = some (.int .i64 6) ∧ W.cell? ⟨bo, 50, none⟩ = some (.int .i64 0) ∧ W.cell? ⟨bo, 51, none⟩ = some (.int .i64 2) ∧ W.cell? ⟨bo, 52, none⟩ = some (.slice none 0 0) ∧ W.cell? ⟨bo, 53, none⟩ = some (.slice none 0 0) ∧ W.cell? ⟨bo, 54, none⟩ = some (.int .i64 1) ∧ W.cell? ⟨bo, 55, none⟩ = some (.slice none 0 0) := ⟨g.box.cell 49, g.box.cell 50, g.box.cell 51, g.box.cell 52, g.box.cell 53, g.box.cell 54, g.box.cell 55⟩
theorem c56_8 {w : World} {b bj b5 b6 b7 r1 m25 m33 bo : Nat} {W : World} (h : BW w b bj b5 b6 b7 W) (g : OB b6 r1 m25 m33 bo W) : Calls Try.prog 56 #[.agg #[.int .i64 4, .int .i64 2, .int .i64 15, .int .i64 65536, .int .i64 1048576, .int .i64 100, .slice (some ⟨b, 0, none⟩) 4 4], .agg #[.int .i64 6, .int .i64 0, .int .i64 0, .slice (some ⟨m25, 0, none⟩) 25 25, .slice none 0 0, .int .i64 1, .slice none 0 0]] W fun r W' => r = .returned (.bool false) ∧ Below W.heap.size W W' := by
  have hh := mayop_law (bG b) (bO 6 0 0 (some ⟨m25, 0, none⟩) 25 (zs 25) none 0 [] 1 none 0 []) (by show (0 : Nat) ≤ 1000000; omega) W h.jb ⟨g.m5, zs_length 25, byt_zs 25, Ls.nul _ _, rfl, byt_nil, RdR.nil _ _, rfl, (fun p hp => by cases hp)⟩
  rwa [o_8] at hh
theorem o84_8 {b6 r1 m25 m33 bo : Nat} {W : World} (g : OB b6 r1 m25 m33 bo W) : W.cell? ⟨bo, 56, none⟩ = some (.int .i64 6) ∧ W.cell? ⟨bo, 57, none⟩ = some (.int .i64 0) ∧ W.cell? ⟨bo, 58, none⟩ = some (.int .i64 0) ∧ W.cell? ⟨bo, 59, none⟩ = some (.slice (some ⟨m25, 0, none⟩) 25 25) ∧ W.cell? ⟨bo, 60, none⟩ = some (.slice none 0 0) ∧ W.cell? ⟨bo, 61, none⟩ = some (.int .i64 1) ∧ W.cell? ⟨bo, 62, none⟩ = some (.slice none 0 0) := ⟨g.box.cell 56, g.box.cell 57, g.box.cell 58, g.box.cell 59, g.box.cell 60, g.box.cell 61, g.box.cell 62⟩
theorem c56_9 {w : World} {b bj b5 b6 b7 r1 m25 m33 bo : Nat} {W : World} (h : BW w b bj b5 b6 b7 W) (g : OB b6 r1 m25 m33 bo W) : Calls Try.prog 56 #[.agg #[.int .i64 4, .int .i64 2, .int .i64 15, .int .i64 65536, .int .i64 1048576, .int .i64 100, .slice (some ⟨b, 0, none⟩) 4 4], .agg #[.int .i64 5, .int .i64 0, .int .i64 0, .slice (some ⟨m33, 0, none⟩) 33 33, .slice none 0 0, .int .i64 1, .slice none 0 0]] W fun r W' => r = .returned (.bool false) ∧ Below W.heap.size W W' := by
  have hh := mayop_law (bG b) (bO 5 0 0 (some ⟨m33, 0, none⟩) 33 (zs 33) none 0 [] 1 none 0 []) (by show (0 : Nat) ≤ 1000000; omega) W h.jb ⟨g.m3, zs_length 33, byt_zs 33, Ls.nul _ _, rfl, byt_nil, RdR.nil _ _, rfl, (fun p hp => by cases hp)⟩
  rwa [o_9] at hh
theorem o84_9 {b6 r1 m25 m33 bo : Nat} {W : World} (g : OB b6 r1 m25 m33 bo W) : W.cell? ⟨bo, 63, none⟩ = some (.int .i64 5) ∧ W.cell? ⟨bo, 64, none⟩ = some (.int .i64 0) ∧ W.cell? ⟨bo, 65, none⟩ = some (.int .i64 0) ∧ W.cell? ⟨bo, 66, none⟩ = some (.slice (some ⟨m33, 0, none⟩) 33 33) ∧ W.cell? ⟨bo, 67, none⟩ = some (.slice none 0 0) ∧ W.cell? ⟨bo, 68, none⟩ = some (.int .i64 1) ∧ W.cell? ⟨bo, 69, none⟩ = some (.slice none 0 0) := ⟨g.box.cell 63, g.box.cell 64, g.box.cell 65, g.box.cell 66, g.box.cell 67, g.box.cell 68, g.box.cell 69⟩
theorem c56_10 {w : World} {b bj b5 b6 b7 r1 m25 m33 bo : Nat} {W : World} (h : BW w b bj b5 b6 b7 W) (g : OB b6 r1 m25 m33 bo W) : Calls Try.prog 56 #[.agg #[.int .i64 4, .int .i64 2, .int .i64 15, .int .i64 65536, .int .i64 1048576, .int .i64 100, .slice (some ⟨b, 0, none⟩) 4 4], .agg #[.int .i64 5, .int .i64 0, .int .i64 0, .slice none 0 0, .slice none 0 0, .int .i64 0, .slice none 0 0]] W fun r W' => r = .returned (.bool false) ∧ Below W.heap.size W W' := by
  have hh := mayop_law (bG b) (bO 5 0 0 none 0 [] none 0 [] 0 none 0 []) (by show (0 : Nat) ≤ 1000000; omega) W h.jb ⟨Ls.nul _ _, rfl, byt_nil, Ls.nul _ _, rfl, byt_nil, RdR.nil _ _, rfl, (fun p hp => by cases hp)⟩
  rwa [o_10] at hh
theorem o84_10 {b6 r1 m25 m33 bo : Nat} {W : World} (g : OB b6 r1 m25 m33 bo W) : W.cell? ⟨bo, 70, none⟩ = some (.int .i64 5) ∧ W.cell? ⟨bo, 71, none⟩ = some (.int .i64 0) ∧ W.cell? ⟨bo, 72, none⟩ = some (.int .i64 0) ∧ W.cell? ⟨bo, 73, none⟩ = some (.slice none 0 0) ∧ W.cell? ⟨bo, 74, none⟩ = some (.slice none 0 0) ∧ W.cell? ⟨bo, 75, none⟩ = some (.int .i64 0) ∧ W.cell? ⟨bo, 76, none⟩ = some (.slice none 0 0) := ⟨g.box.cell 70, g.box.cell 71, g.box.cell 72, g.box.cell 73, g.box.cell 74, g.box.cell 75, g.box.cell 76⟩
theorem c56_11 {w : World} {b bj b5 b6 b7 r1 m25 m33 bo : Nat} {W : World} (h : BW w b bj b5 b6 b7 W) (g : OB b6 r1 m25 m33 bo W) : Calls Try.prog 56 #[.agg #[.int .i64 4, .int .i64 2, .int .i64 15, .int .i64 65536, .int .i64 1048576, .int .i64 100, .slice (some ⟨b, 0, none⟩) 4 4], .agg #[.int .i64 1, .int .i64 4, .int .i64 0, .slice (some ⟨b6, 0, none⟩) 1 1, .slice none 0 0, .int .i64 0, .slice none 0 0]] W fun r W' => r = .returned (.bool false) ∧ Below W.heap.size W W' := by
  have hh := mayop_law (bG b) (bO 1 4 0 (some ⟨b6, 0, none⟩) 1 [107] none 0 [] 0 none 0 []) (by show (0 : Nat) ≤ 1000000; omega) W h.jb ⟨h.key, rfl, byt_of [107] rfl, Ls.nul _ _, rfl, byt_nil, RdR.nil _ _, rfl, (fun p hp => by cases hp)⟩
  rwa [o_11] at hh
theorem o84_11 {b6 r1 m25 m33 bo : Nat} {W : World} (g : OB b6 r1 m25 m33 bo W) : W.cell? ⟨bo, 77, none⟩ = some (.int .i64 1) ∧ W.cell? ⟨bo, 78, none⟩ = some (.int .i64 4) ∧ W.cell? ⟨bo, 79, none⟩ = some (.int .i64 0) ∧ W.cell? ⟨bo, 80, none⟩ = some (.slice (some ⟨b6, 0, none⟩) 1 1) ∧ W.cell? ⟨bo, 81, none⟩ = some (.slice none 0 0) ∧ W.cell? ⟨bo, 82, none⟩ = some (.int .i64 0) ∧ W.cell? ⟨bo, 83, none⟩ = some (.slice none 0 0) := ⟨g.box.cell 77, g.box.cell 78, g.box.cell 79, g.box.cell 80, g.box.cell 81, g.box.cell 82, g.box.cell 83⟩

/-- The small job. -/
structure SB (b10 b11 : Nat) (W : World) : Prop where
  box : BoxC W b10 #[.int .i64 1, .int .i64 1, .int .i64 3, .int .i64 1024, .int .i64 1024, .int .i64 1, .slice (some ⟨b11, 0, none⟩) 1 1] 53
  tab : Ls .i64 W (some ⟨b11, 0, none⟩) 1 [1]
theorem SB.below {b10 b11 : Nat} {W W' : World} (h : SB b10 b11 W) (B : Below W.heap.size W W') : SB b10 b11 W' := ⟨h.box.below B, h.tab.below B⟩
theorem SB.at {b10 b11 : Nat} {W : World} (h : SB b10 b11 W) : JobAt W (bJ 1 1 3 1024 1024 1 b11 1 [1]) := ⟨h.tab, rfl, by show (1 : Nat) ≤ 1000000; omega⟩
theorem SB.c {b10 b11 : Nat} {W : World} (h : SB b10 b11 W) : W.cell? ⟨b10, 0, none⟩ = some (.int .i64 1) ∧ W.cell? ⟨b10, 1, none⟩ = some (.int .i64 1) ∧ W.cell? ⟨b10, 2, none⟩ = some (.int .i64 3) ∧ W.cell? ⟨b10, 3, none⟩ = some (.int .i64 1024) ∧ W.cell? ⟨b10, 4, none⟩ = some (.int .i64 1024) ∧ W.cell? ⟨b10, 5, none⟩ = some (.int .i64 1) ∧ W.cell? ⟨b10, 6, none⟩ = some (.slice (some ⟨b11, 0, none⟩) 1 1) := ⟨h.box.cell 0, h.box.cell 1, h.box.cell 2, h.box.cell 3, h.box.cell 4, h.box.cell 5, h.box.cell 6⟩
theorem c56_small {b10 b11 : Nat} {W : World} (h : SB b10 b11 W) : Calls Try.prog 56 #[.agg #[.int .i64 1, .int .i64 1, .int .i64 3, .int .i64 1024, .int .i64 1024, .int .i64 1, .slice (some ⟨b11, 0, none⟩) 1 1], .agg #[.int .i64 6, .int .i64 0, .int .i64 1, .slice none 0 0, .slice none 0 0, .int .i64 1, .slice none 0 0]] W fun r W' => r = .returned (.bool false) ∧ Below W.heap.size W W' := by
  have hh := mayop_law (bJ 1 1 3 1024 1024 1 b11 1 [1]) (bO 6 0 1 none 0 [] none 0 [] 1 none 0 []) (by show (0 : Nat) ≤ 1000000; omega) W h.at ⟨Ls.nul _ _, rfl, byt_nil, Ls.nul _ _, rfl, byt_nil, RdR.nil _ _, rfl, (fun p hp => by cases hp)⟩
  rwa [o_small] at hh
/-- Ranges. -/
theorem c57_look {w : World} {b bj b5 b6 b7 p q : Nat} {W : World} (h : BW w b bj b5 b6 b7 W) (hp : Ls .u8 W (some ⟨p, 0, none⟩) 2 [97, 0]) (hq : Ls .u8 W (some ⟨q, 0, none⟩) 2 [98, 0]) : Calls Try.prog 57 #[.agg #[.int .i64 4, .int .i64 2, .int .i64 15, .int .i64 65536, .int .i64 1048576, .int .i64 100, .slice (some ⟨b, 0, none⟩) 4 4], .agg #[.int .i64 6, .int .i64 0, .int .i64 0, .slice (some ⟨p, 0, none⟩) 2 2, .slice (some ⟨q, 0, none⟩) 2 2, .int .i64 1, .slice none 0 0]] W fun r W' => (∃ (fa : Option Addr) (fc : Nat) (ta : Option Addr) (tc : Nat), r = .returned (.tuple #[.agg #[.int .i64 1, .slice fa 3 fc, .slice ta 3 tc, .bool true], .int .i64 0]) ∧ Ls .u8 W' fa fc [97, 0, 255] ∧ Ls .u8 W' ta tc [98, 0, 255]) ∧ Below W.heap.size W W' := by
  have hh := range_law (bG b) (bO 6 0 0 (some ⟨p, 0, none⟩) 2 [97, 0] (some ⟨q, 0, none⟩) 2 [98, 0] 1 none 0 []) (by show (0 : Nat) ≤ 1000000; omega) W h.jb ⟨hp, rfl, byt_of [97, 0] rfl, hq, rfl, byt_of [98, 0] rfl, RdR.nil _ _, rfl, (fun p hp => by cases hp)⟩
  rw [r_look] at hh
  exact hh
theorem c57_scan {w : World} {b bj b5 b6 b7 q : Nat} {W : World} (h : BW w b bj b5 b6 b7 W) (hq : Ls .u8 W (some ⟨q, 0, none⟩) 0 []) : Calls Try.prog 57 #[.agg #[.int .i64 4, .int .i64 2, .int .i64 15, .int .i64 65536, .int .i64 1048576, .int .i64 100, .slice (some ⟨b, 0, none⟩) 4 4], .agg #[.int .i64 5, .int .i64 0, .int .i64 0, .slice none 0 0, .slice (some ⟨q, 0, none⟩) 0 0, .int .i64 1, .slice none 0 0]] W fun r W' => (∃ (fa : Option Addr) (fc : Nat) (ta : Option Addr) (tc : Nat), r = .returned (.tuple #[.agg #[.int .i64 0, .slice fa 0 fc, .slice ta 0 tc, .bool false], .int .i64 0])) ∧ Below W.heap.size W W' := by
  have hh := range_law (bG b) (bO 5 0 0 none 0 [] (some ⟨q, 0, none⟩) 0 [] 1 none 0 []) (by show (0 : Nat) ≤ 1000000; omega) W h.jb ⟨Ls.nul _ _, rfl, byt_nil, hq, rfl, byt_nil, RdR.nil _ _, rfl, (fun p hp => by cases hp)⟩
  rw [r_scan] at hh
  refine hh.mono ?_
  rintro r W' ⟨⟨fa, fc, ta, tc, e, _⟩, B⟩
  exact ⟨⟨fa, fc, ta, tc, e⟩, B⟩
/-- A row of calls, in a block. -/
theorem opsR_one {W : World} {B : Nat} {o : CallV} (h0 : BoxC W B #[.int .i64 o.k, .int .i64 o.t, .int .i64 o.i, .slice o.ka o.kn o.kc, .slice o.ta o.tn o.tc, .int .i64 o.m, .slice o.ra o.rn o.rc] 98) (hc : CallAt W o) : OpsR W (some ⟨B, 0, none⟩) [o] := fun k p hp => by
  match k, hp with
  | 0, hp =>
    simp at hp
    subst hp
    exact ⟨B, 0, rfl, ⟨h0.cell 0, h0.cell 1, h0.cell 2, h0.cell 3, h0.cell 4, h0.cell 5, h0.cell 6⟩, hc⟩
/-- A transaction of a snapshot that writes: an insert, a delete. -/
theorem c51_ins {w : World} {b bj b5 b6 b7 r1 bs : Nat} {W : World} (h : BW w b bj b5 b6 b7 W) (hr : RdR W (some ⟨r1, 0, none⟩) [⟨some ⟨b6, 0, none⟩, 1, [107]⟩]) (hb : BoxC W bs #[.int .i64 3, .int .i64 0, .int .i64 0, .slice (some ⟨b6, 0, none⟩) 1 1, .slice none 0 0, .int .i64 0, .slice (some ⟨r1, 0, none⟩) 1 1] 98) : Calls Try.prog 51 #[.agg #[.int .i64 4, .int .i64 2, .int .i64 15, .int .i64 65536, .int .i64 1048576, .int .i64 100, .slice (some ⟨b, 0, none⟩) 4 4], .agg #[.slice (some ⟨bs, 0, none⟩) 1 1, .bool true, .bool false]] W fun r W' => r = .returned (.bool false) ∧ Below W.heap.size W W' := by
  have hh := maytxn_law (bG b) ⟨some ⟨bs, 0, none⟩, 1, 1, [(bO 3 0 0 (some ⟨b6, 0, none⟩) 1 [107] none 0 [] 0 (some ⟨r1, 0, none⟩) 1 [⟨some ⟨b6, 0, none⟩, 1, [107]⟩])], true, false⟩ (by show (1 : Nat) ≤ 1000000; omega) (fun o ho => by obtain rfl := List.mem_singleton.1 ho; show (1 : Nat) ≤ 1000000; omega) W h.jb ⟨opsR_one (o := (bO 3 0 0 (some ⟨b6, 0, none⟩) 1 [107] none 0 [] 0 (some ⟨r1, 0, none⟩) 1 [⟨some ⟨b6, 0, none⟩, 1, [107]⟩])) hb ⟨h.key, rfl, byt_of [107] rfl, Ls.nul _ _, rfl, byt_nil, hr, rfl, (fun p hp => by obtain rfl := List.mem_singleton.1 hp; exact byt_of [107] rfl)⟩, rfl⟩
  rwa [t_write (o := (bO 3 0 0 (some ⟨b6, 0, none⟩) 1 [107] none 0 [] 0 (some ⟨r1, 0, none⟩) 1 [⟨some ⟨b6, 0, none⟩, 1, [107]⟩])) rfl rfl o_ins] at hh
theorem c51_del {w : World} {b bj b5 b6 b7 bs : Nat} {W : World} (h : BW w b bj b5 b6 b7 W) (hb : BoxC W bs #[.int .i64 4, .int .i64 0, .int .i64 0, .slice (some ⟨b6, 0, none⟩) 1 1, .slice none 0 0, .int .i64 0, .slice none 0 0] 98) : Calls Try.prog 51 #[.agg #[.int .i64 4, .int .i64 2, .int .i64 15, .int .i64 65536, .int .i64 1048576, .int .i64 100, .slice (some ⟨b, 0, none⟩) 4 4], .agg #[.slice (some ⟨bs, 0, none⟩) 1 1, .bool true, .bool false]] W fun r W' => r = .returned (.bool false) ∧ Below W.heap.size W W' := by
  have hh := maytxn_law (bG b) ⟨some ⟨bs, 0, none⟩, 1, 1, [(bO 4 0 0 (some ⟨b6, 0, none⟩) 1 [107] none 0 [] 0 none 0 [])], true, false⟩ (by show (1 : Nat) ≤ 1000000; omega) (fun o ho => by obtain rfl := List.mem_singleton.1 ho; show (0 : Nat) ≤ 1000000; omega) W h.jb ⟨opsR_one (o := (bO 4 0 0 (some ⟨b6, 0, none⟩) 1 [107] none 0 [] 0 none 0 [])) hb ⟨h.key, rfl, byt_of [107] rfl, Ls.nul _ _, rfl, byt_nil, RdR.nil _ _, rfl, (fun p hp => by cases hp)⟩, rfl⟩
  rwa [t_write (o := (bO 4 0 0 (some ⟨b6, 0, none⟩) 1 [107] none 0 [] 0 none 0 [])) rfl rfl o_del] at hh
theorem c51_both {w : World} {b bj b5 b6 b7 : Nat} {W : World} (h : BW w b bj b5 b6 b7 W) : Calls Try.prog 51 #[.agg #[.int .i64 4, .int .i64 2, .int .i64 15, .int .i64 65536, .int .i64 1048576, .int .i64 100, .slice (some ⟨b, 0, none⟩) 4 4], .agg #[.slice none 0 0, .bool true, .bool true]] W fun r W' => r = .returned (.bool false) ∧ Below W.heap.size W W' := by
  have hh := maytxn_law (bG b) ⟨none, 0, 0, [], true, true⟩ (by show (0 : Nat) ≤ 1000000; omega) (fun o ho => by simp at ho) W h.jb ⟨(fun k o ho => by simp at ho), rfl⟩
  rwa [t_both rfl rfl] at hh
/-- The rows that change. -/
theorem c45_chg {w : World} {b bj b5 b6 b7 ra sa : Nat} {p1 p2 q1 q2 : P1} {W : World} (h : BW w b bj b5 b6 b7 W) (h1 : p1.bs = [98]) (h2 : p2.bs = [99]) (k1 : q1.bs = [99]) (k2 : q2.bs = [98]) (hr : RdR W (some ⟨ra, 0, none⟩) [⟨none, 0, []⟩, p1, p2]) (hs : RdR W (some ⟨sa, 0, none⟩) [⟨none, 0, []⟩, q1, q2]) : Calls Try.prog 45 #[.agg #[.int .i64 4, .int .i64 2, .int .i64 15, .int .i64 65536, .int .i64 1048576, .int .i64 100, .slice (some ⟨b, 0, none⟩) 4 4], .int .i64 0, .slice (some ⟨b6, 0, none⟩) 1 1, .slice (some ⟨ra, 0, none⟩) 3 3, .slice (some ⟨sa, 0, none⟩) 3 3] W fun r W' => (∃ (x y : Option Addr) (c d : Nat), r = .returned (.tuple #[.slice x 2 c, .slice y 2 d, .int .i64 0])) ∧ Below W.heap.size W W' := by
  obtain ⟨G, C, e, hG, hC⟩ := c_chg b ⟨none, 0, []⟩ p1 p2 ⟨none, 0, []⟩ q1 q2 rfl h1 h2 rfl k1 k2
  have hh := changes_law (bG b) 0 (some ⟨b6, 0, none⟩) [107] 1 1 (some ⟨ra, 0, none⟩) (some ⟨sa, 0, none⟩) [⟨none, 0, []⟩, p1, p2] [⟨none, 0, []⟩, q1, q2] 3 3 3 3 rfl rfl rfl (by omega) (by omega) (byt_of [107] rfl) (fun p hp => by
    simp at hp
    rcases hp with rfl | rfl | rfl
    · exact byt_nil
    · rw [h1]; exact byt_of [98] rfl
    · rw [h2]; exact byt_of [99] rfl) (fun p hp => by
    simp at hp
    rcases hp with rfl | rfl | rfl
    · exact byt_nil
    · rw [k1]; exact byt_of [99] rfl
    · rw [k2]; exact byt_of [98] rfl) W h.jb h.key hr hs
  rw [e] at hh
  refine hh.mono ?_
  rintro r W' ⟨⟨x, y, c, d, _, _, e, _⟩, B⟩
  simp only [hG, hC] at e
  exact ⟨⟨x, y, c, d, e⟩, B⟩
theorem rdR3 (W : World) (a c : Nat) (x y : Int) (ha : Ls .u8 W (some ⟨a, 0, none⟩) 1 [x]) (hc : Ls .u8 W (some ⟨c, 0, none⟩) 1 [y]) : RdR (W.alloc (.cells #[.slice none 0 0, .slice (some ⟨a, 0, none⟩) 1 1, .slice (some ⟨c, 0, none⟩) 1 1] 24)) (some ⟨W.heap.size, 0, none⟩) [⟨none, 0, []⟩, ⟨some ⟨a, 0, none⟩, 1, [x]⟩, ⟨some ⟨c, 0, none⟩, 1, [y]⟩] :=
  rdR_new W [⟨none, 0, []⟩, ⟨some ⟨a, 0, none⟩, 1, [x]⟩, ⟨some ⟨c, 0, none⟩, 1, [y]⟩] _ 24 (0, 0) rfl (fun p hp => by
    simp at hp
    rcases hp with rfl | rfl | rfl
    · exact Ls.nul _ _
    · exact ha
    · exact hc)
/-- The seventeen calls. -/
def getO (b6 : Nat) : CallV := bO 1 0 0 (some ⟨b6, 0, none⟩) 1 [107] none 0 [] 0 none 0 []
def sevL (b6 k : Nat) : List Value := (List.replicate k ([.int .i64 1, .int .i64 0, .int .i64 0, .slice (some ⟨b6, 0, none⟩) 1 1, .slice none 0 0, .int .i64 0, .slice none 0 0] : List Value)).flatten ++ (List.replicate (17 - k) ([.int .i64 0, .int .i64 0, .int .i64 0, .slice none 0 0, .slice none 0 0, .int .i64 0, .slice none 0 0] : List Value)).flatten
theorem getAt {w : World} {b bj b5 b6 b7 : Nat} {W : World} (h : BW w b bj b5 b6 b7 W) : CallAt W (getO b6) := ⟨h.key, rfl, byt_of [107] rfl, Ls.nul _ _, rfl, byt_nil, RdR.nil _ _, rfl, (fun p hp => by cases hp)⟩
theorem many_cells {W : World} {bm b6 : Nat} (h : BoxC W bm (sevL b6 17).toArray 98) (k : Nat) (hk : k < 17) : (W.cell? ⟨bm, 0 + k * 7, none⟩ = some (.int .i64 1) ∧ W.cell? ⟨bm, 0 + k * 7 + 1, none⟩ = some (.int .i64 0) ∧ W.cell? ⟨bm, 0 + k * 7 + 2, none⟩ = some (.int .i64 0) ∧ W.cell? ⟨bm, 0 + k * 7 + 3, none⟩ = some (.slice (some ⟨b6, 0, none⟩) 1 1) ∧ W.cell? ⟨bm, 0 + k * 7 + 4, none⟩ = some (.slice none 0 0) ∧ W.cell? ⟨bm, 0 + k * 7 + 5, none⟩ = some (.int .i64 0) ∧ W.cell? ⟨bm, 0 + k * 7 + 6, none⟩ = some (.slice none 0 0)) := by
  rw [h.cell, h.cell, h.cell, h.cell, h.cell, h.cell, h.cell]
  rcases (by omega : k = 0 ∨ k = 1 ∨ k = 2 ∨ k = 3 ∨ k = 4 ∨ k = 5 ∨ k = 6 ∨ k = 7 ∨ k = 8 ∨ k = 9 ∨ k = 10 ∨ k = 11 ∨ k = 12 ∨ k = 13 ∨ k = 14 ∨ k = 15 ∨ k = 16) with rfl | rfl | rfl | rfl | rfl | rfl | rfl | rfl | rfl | rfl | rfl | rfl | rfl | rfl | rfl | rfl | rfl <;> exact ⟨rfl, rfl, rfl, rfl, rfl, rfl, rfl⟩
theorem many_ops {w : World} {b bj b5 b6 b7 bm : Nat} {W : World} (h : BW w b bj b5 b6 b7 W) (hm : BoxC W bm (sevL b6 17).toArray 98) (n : Nat) (hn : n ≤ 17) : OpsR W (some ⟨bm, 0, none⟩) (List.replicate n (getO b6)) := fun k o ho => by
  obtain ⟨hk, rfl⟩ := List.getElem?_eq_some_iff.1 ho
  rw [List.length_replicate] at hk
  rw [List.getElem_replicate]
  exact ⟨bm, 0, rfl, many_cells hm k (by omega), getAt h⟩
theorem rn_get (b6 : Nat) {n : Nat} : ∀ o ∈ List.replicate n (getO b6), o.rn ≤ 1000000 := fun o ho => by
  obtain rfl := List.eq_of_mem_replicate ho
  show (0 : Nat) ≤ 1000000
  omega
theorem c51_16 {w : World} {b bj b5 b6 b7 bm : Nat} {W : World} (h : BW w b bj b5 b6 b7 W) (hm : BoxC W bm (sevL b6 17).toArray 98) : Calls Try.prog 51 #[.agg #[.int .i64 4, .int .i64 2, .int .i64 15, .int .i64 65536, .int .i64 1048576, .int .i64 100, .slice (some ⟨b, 0, none⟩) 4 4], .agg #[.slice (some ⟨bm, 0, none⟩) 16 17, .bool false, .bool false]] W fun r W' => r = .returned (.bool true) ∧ Below W.heap.size W W' := by
  have hh := maytxn_law (bG b) ⟨some ⟨bm, 0, none⟩, 16, 17, List.replicate 16 (getO b6), false, false⟩ (by show (16 : Nat) ≤ 1000000; omega) (rn_get b6) W h.jb ⟨many_ops h hm 16 (by omega), List.length_replicate ..⟩
  rwa [t_few (bG_ok b) (Nat.le_refl 16) rfl (fun o ho => by obtain rfl := List.eq_of_mem_replicate ho; exact o_get b _ _)] at hh
theorem c51_17 {w : World} {b bj b5 b6 b7 bm : Nat} {W : World} (h : BW w b bj b5 b6 b7 W) (hm : BoxC W bm (sevL b6 17).toArray 98) : Calls Try.prog 51 #[.agg #[.int .i64 4, .int .i64 2, .int .i64 15, .int .i64 65536, .int .i64 1048576, .int .i64 100, .slice (some ⟨b, 0, none⟩) 4 4], .agg #[.slice (some ⟨bm, 0, none⟩) 17 17, .bool false, .bool false]] W fun r W' => r = .returned (.bool false) ∧ Below W.heap.size W W' := by
  have hh := maytxn_law (bG b) ⟨some ⟨bm, 0, none⟩, 17, 17, List.replicate 17 (getO b6), false, false⟩ (by show (17 : Nat) ≤ 1000000; omega) (rn_get b6) W h.jb ⟨many_ops h hm 17 (by omega), List.length_replicate ..⟩
  rwa [t_many (by show 16 < 17; omega)] at hh
theorem c56_get {w : World} {b bj b5 b6 b7 : Nat} {W : World} (h : BW w b bj b5 b6 b7 W) : Calls Try.prog 56 #[.agg #[.int .i64 4, .int .i64 2, .int .i64 15, .int .i64 65536, .int .i64 1048576, .int .i64 100, .slice (some ⟨b, 0, none⟩) 4 4], .agg #[.int .i64 1, .int .i64 0, .int .i64 0, .slice (some ⟨b6, 0, none⟩) 1 1, .slice none 0 0, .int .i64 0, .slice none 0 0]] W fun r W' => r = .returned (.bool true) ∧ Below W.heap.size W W' := by
  have hh := mayop_law (bG b) (getO b6) (by show (0 : Nat) ≤ 1000000; omega) W h.jb (getAt h)
  rwa [show pO (bG b) (getO b6) = true from o_get b _ _] at hh
theorem c56_scan64 {w : World} {b bj b5 b6 b7 p q : Nat} {W : World} (h : BW w b bj b5 b6 b7 W) (hp : Ls .u8 W (some ⟨p, 0, none⟩) 32 (zs 32)) (hq : Ls .u8 W (some ⟨q, 0, none⟩) 32 (zs 32)) : Calls Try.prog 56 #[.agg #[.int .i64 4, .int .i64 2, .int .i64 15, .int .i64 65536, .int .i64 1048576, .int .i64 100, .slice (some ⟨b, 0, none⟩) 4 4], .agg #[.int .i64 5, .int .i64 0, .int .i64 0, .slice (some ⟨p, 0, none⟩) 32 32, .slice (some ⟨q, 0, none⟩) 32 32, .int .i64 64, .slice none 0 0]] W fun r W' => r = .returned (.bool true) ∧ Below W.heap.size W W' := by
  have hh := mayop_law (bG b) (bO 5 0 0 (some ⟨p, 0, none⟩) 32 (zs 32) (some ⟨q, 0, none⟩) 32 (zs 32) 64 none 0 []) (by show (0 : Nat) ≤ 1000000; omega) W h.jb ⟨hp, zs_length 32, byt_zs 32, hq, zs_length 32, byt_zs 32, RdR.nil _ _, rfl, (fun p hp => by cases hp)⟩
  rwa [o_scan64] at hh
theorem c56_look64 {w : World} {b bj b5 b6 b7 p : Nat} {W : World} (h : BW w b bj b5 b6 b7 W) (hp : Ls .u8 W (some ⟨p, 0, none⟩) 24 (zs 24)) : Calls Try.prog 56 #[.agg #[.int .i64 4, .int .i64 2, .int .i64 15, .int .i64 65536, .int .i64 1048576, .int .i64 100, .slice (some ⟨b, 0, none⟩) 4 4], .agg #[.int .i64 6, .int .i64 0, .int .i64 1, .slice (some ⟨p, 0, none⟩) 24 24, .slice none 0 0, .int .i64 64, .slice none 0 0]] W fun r W' => r = .returned (.bool true) ∧ Below W.heap.size W W' := by
  have hh := mayop_law (bG b) (bO 6 0 1 (some ⟨p, 0, none⟩) 24 (zs 24) none 0 [] 64 none 0 []) (by show (0 : Nat) ≤ 1000000; omega) W h.jb ⟨hp, zs_length 24, byt_zs 24, Ls.nul _ _, rfl, byt_nil, RdR.nil _ _, rfl, (fun p hp => by cases hp)⟩
  rwa [o_look64] at hh
theorem c36_b {w : World} {b bj b5 b6 b7 : Nat} {W : World} (h : BW w b bj b5 b6 b7 W) : Calls Try.prog 36 #[.agg #[.int .i64 4, .int .i64 2, .int .i64 15, .int .i64 65536, .int .i64 1048576, .int .i64 100, .slice (some ⟨b, 0, none⟩) 4 4]] W fun r W' => r = .returned (.int .i64 0) ∧ Below W.heap.size W W' := by
  have hh := check_law (bG b) W h.jb
  rwa [bG_chk] at hh
theorem c38_b {w : World} {b bj b5 b6 b7 : Nat} {W : World} (h : BW w b bj b5 b6 b7 W) : Calls Try.prog 38 #[.agg #[.int .i64 4, .int .i64 2, .int .i64 15, .int .i64 65536, .int .i64 1048576, .int .i64 100, .slice (some ⟨b, 0, none⟩) 4 4]] W fun r W' => r = .returned (.int .i64 12) ∧ Below W.heap.size W W' := by
  have hh := trees_law (bG b) W h.jb
  rwa [bG_trees] at hh
theorem c36_one {w : World} {b bj b5 b6 b7 : Nat} {W : World} (h : BW w b bj b5 b6 b7 W) : Calls Try.prog 36 #[.agg #[.int .i64 1, .int .i64 2, .int .i64 3, .int .i64 1024, .int .i64 1024, .int .i64 1, .slice (some ⟨bj, 0, none⟩) 2 2]] W fun r W' => r = .returned (.int .i64 2) ∧ Below W.heap.size W W' := chk_bad (j := bJ 1 2 3 1024 1024 1 bj 2 [0, 2]) W (oneAt h) (bOne_ok bj)
/-- The sessions. -/
def tx0 : TxnV := ⟨none, 0, 0, [], false, false⟩
def txnsL : List Value := (List.replicate 65 ([.slice none 0 0, .bool false, .bool false] : List Value)).flatten
theorem txns_cells {W : World} {bt : Nat} {n : Nat} (h : BoxC W bt (List.replicate n ([.slice none 0 0, .bool false, .bool false] : List Value)).flatten.toArray 86) (k : Nat) (hk : k < n) : W.cell? ⟨bt, 0 + k * 3, none⟩ = some (.slice none 0 0) ∧ W.cell? ⟨bt, 0 + k * 3 + 1, none⟩ = some (.bool false) ∧ W.cell? ⟨bt, 0 + k * 3 + 2, none⟩ = some (.bool false) := by
  rw [h.cell, h.cell, h.cell]
  clear h
  simp only [List.getElem?_toArray, Nat.zero_add]
  induction n generalizing k with
  | zero => omega
  | succ n ih =>
    rw [List.replicate_succ, List.flatten_cons]
    match k with
    | 0 => exact ⟨rfl, rfl, rfl⟩
    | k + 1 =>
      rw [show (k + 1) * 3 = k * 3 + 1 + 1 + 1 by omega]
      simp only [List.cons_append, List.nil_append, List.getElem?_cons_succ]
      exact ih k (by omega)
theorem txns_at {W : World} {bt : Nat} (h : BoxC W bt txnsL.toArray 86) (n : Nat) (hn : n ≤ 65) : TxsR W (some ⟨bt, 0, none⟩) (List.replicate n tx0) := fun k x hx => by
  obtain ⟨hk, rfl⟩ := List.getElem?_eq_some_iff.1 hx
  rw [List.length_replicate] at hk
  rw [List.getElem_replicate]
  exact ⟨bt, 0, rfl, txns_cells h k (by omega), ⟨(fun k o ho => by simp [tx0] at ho), rfl⟩⟩
def ses (bt n : Nat) : List SesV := [⟨some ⟨bt, 0, none⟩, n, 65, List.replicate n tx0⟩, ⟨none, 0, 0, []⟩, ⟨none, 0, 0, []⟩, ⟨none, 0, 0, []⟩]
theorem ses_at {W : World} {bs bt n : Nat} (hb : BoxC W bs #[.slice (some ⟨bt, 0, none⟩) n 65, .slice none 0 0, .slice none 0 0, .slice none 0 0] 81) (ht : BoxC W bt txnsL.toArray 86) (hn : n ≤ 65) : SesR W (some ⟨bs, 0, none⟩) (ses bt n) := fun k s hs => by
  match k, hs with
  | 0, hs => simp [ses] at hs; subst hs; exact ⟨bs, 0, rfl, hb.cell 0, txns_at ht n hn, List.length_replicate ..⟩
  | 1, hs => simp [ses] at hs; subst hs; exact ⟨bs, 0, rfl, hb.cell 1, (fun k o ho => by simp at ho), rfl⟩
  | 2, hs => simp [ses] at hs; subst hs; exact ⟨bs, 0, rfl, hb.cell 2, (fun k o ho => by simp at ho), rfl⟩
  | 3, hs => simp [ses] at hs; subst hs; exact ⟨bs, 0, rfl, hb.cell 3, (fun k o ho => by simp at ho), rfl⟩
theorem txb0 {n : Nat} : ∀ x ∈ List.replicate n tx0, TxB x := fun x hx => by
  obtain rfl := List.eq_of_mem_replicate hx
  exact ⟨by show (0 : Nat) ≤ 1000000; omega, fun o ho => by simp [tx0] at ho⟩
theorem ses_b (bt n : Nat) (hn : n ≤ 65) : ∀ s ∈ ses bt n, SeB s := fun s hs => by
  simp [ses] at hs
  rcases hs with rfl | rfl
  · exact ⟨by show n ≤ 1000000; omega, txb0⟩
  · exact ⟨by show (0 : Nat) ≤ 1000000; omega, fun x hx => by simp at hx⟩
theorem mayT0 (b : Nat) : mayT (bG b) tx0 = true := t_few (bG_ok b) (Nat.zero_le _) rfl (fun o ho => by simp [tx0] at ho)
theorem c49_64 {w : World} {b bj b5 b6 b7 bs bt c : Nat} {W : World} (h : BW w b bj b5 b6 b7 W) (hb : BoxC W bs #[.slice (some ⟨bt, 0, none⟩) 64 65, .slice none 0 0, .slice none 0 0, .slice none 0 0] 81) (ht : BoxC W bt txnsL.toArray 86) : Calls Try.prog 49 #[.agg #[.int .i64 4, .int .i64 2, .int .i64 15, .int .i64 65536, .int .i64 1048576, .int .i64 100, .slice (some ⟨b, 0, none⟩) 4 4], .slice (some ⟨bs, 0, none⟩) 4 c] W fun r W' => r = .returned (.bool true) ∧ Below W.heap.size W W' := by
  have hh := maysess_law (bG b) (some ⟨bs, 0, none⟩) (ses bt 64) 4 c rfl (by omega) (ses_b bt 64 (by omega)) W h.jb (ses_at hb ht (by omega))
  rwa [s_yes (bG_ok b) rfl (fun s hs => by
    simp [ses] at hs
    rcases hs with rfl | rfl
    · exact ⟨Nat.le_refl 64, fun x hx => by obtain rfl := List.eq_of_mem_replicate (n := 64) hx; exact mayT0 b⟩
    · exact ⟨Nat.zero_le _, fun x hx => by simp at hx⟩)] at hh
theorem c49_65 {w : World} {b bj b5 b6 b7 bs bt c : Nat} {W : World} (h : BW w b bj b5 b6 b7 W) (hb : BoxC W bs #[.slice (some ⟨bt, 0, none⟩) 65 65, .slice none 0 0, .slice none 0 0, .slice none 0 0] 81) (ht : BoxC W bt txnsL.toArray 86) : Calls Try.prog 49 #[.agg #[.int .i64 4, .int .i64 2, .int .i64 15, .int .i64 65536, .int .i64 1048576, .int .i64 100, .slice (some ⟨b, 0, none⟩) 4 4], .slice (some ⟨bs, 0, none⟩) 4 c] W fun r W' => r = .returned (.bool false) ∧ Below W.heap.size W W' := by
  have hh := maysess_law (bG b) (some ⟨bs, 0, none⟩) (ses bt 65) 4 c rfl (by omega) (ses_b bt 65 (by omega)) W h.jb (ses_at hb ht (by omega))
  rwa [s_many (s := ⟨some ⟨bt, 0, none⟩, 65, 65, List.replicate 65 tx0⟩) (by simp [ses]) (by show 64 < 65; omega)] at hh
theorem c49_3 {w : World} {b bj b5 b6 b7 bs bt c : Nat} {W : World} (h : BW w b bj b5 b6 b7 W) (hb : BoxC W bs #[.slice (some ⟨bt, 0, none⟩) 64 65, .slice none 0 0, .slice none 0 0, .slice none 0 0] 81) (ht : BoxC W bt txnsL.toArray 86) : Calls Try.prog 49 #[.agg #[.int .i64 4, .int .i64 2, .int .i64 15, .int .i64 65536, .int .i64 1048576, .int .i64 100, .slice (some ⟨b, 0, none⟩) 4 4], .slice (some ⟨bs, 0, none⟩) 3 c] W fun r W' => r = .returned (.bool false) ∧ Below W.heap.size W W' := by
  have hh := maysess_law (bG b) (some ⟨bs, 0, none⟩) ((ses bt 64).take 3) 3 c rfl (by omega) (fun s hs => ses_b bt 64 (by omega) s (List.mem_of_mem_take hs)) W h.jb (fun k s hs => ses_at hb ht (by omega) k s (by
    rw [List.getElem?_take] at hs
    split at hs
    · exact hs
    · simp at hs))
  rwa [s_few rfl] at hh
/-- Slices newly made. -/
theorem info98 : (Try.prog.info? 98).map (fun i => (i.zero, i.size, i.bytes)) = some (some (.agg #[.int .i64 0, .int .i64 0, .int .i64 0, .slice none 0 0, .slice none 0 0, .int .i64 0, .slice none 0 0]), 7, 104) := by kernel_rfl
theorem info86 : (Try.prog.info? 86).map (fun i => (i.zero, i.size, i.bytes)) = some (some (.agg #[.slice none 0 0, .bool false, .bool false]), 3, 32) := by kernel_rfl
theorem mc17 : madeCells #[.int .i64 0, .int .i64 0, .int .i64 0, .slice none 0 0, .slice none 0 0, .int .i64 0, .slice none 0 0] 119 = ((List.replicate 17 ([.int .i64 0, .int .i64 0, .int .i64 0, .slice none 0 0, .slice none 0 0, .int .i64 0, .slice none 0 0] : List Value)).flatten).toArray := by kernel_rfl
theorem mc65 : madeCells #[.slice none 0 0, .bool false, .bool false] 195 = txnsL.toArray := by kernel_rfl
theorem mk17 (w : World) (b6 : Nat) : (Instr.makeSlice 84 (.int .i64 17) (.int .i64 17)).run Try.prog w = .ok (.slice (some ⟨w.heap.size, 0, none⟩) 17 17) (w.alloc (.cells (sevL b6 0).toArray 98)) := by
  obtain ⟨i0, hi, hz0, hz1, hz2⟩ := info_parts info98
  have hr := run_make (P := Try.prog) w 84 98 i0 _ Try.underlying84 hi hz0 .i64 .i64 17 17 (by omega) (Int.le_refl _) (by rw [hz2]; omega) (by omega)
  rw [hr, hz1, show (Value.agg #[.int .i64 0, .int .i64 0, .int .i64 0, .slice none 0 0, .slice none 0 0, .int .i64 0, .slice none 0 0]).cells = #[.int .i64 0, .int .i64 0, .int .i64 0, .slice none 0 0, .slice none 0 0, .int .i64 0, .slice none 0 0] from rfl, show (Int.toNat 17 * 7) = 119 from rfl, mc17]
  rfl
theorem mk65 (w : World) : (Instr.makeSlice 81 (.int .i64 65) (.int .i64 65)).run Try.prog w = .ok (.slice (some ⟨w.heap.size, 0, none⟩) 65 65) (w.alloc (.cells txnsL.toArray 86)) := by
  obtain ⟨i0, hi, hz0, hz1, hz2⟩ := info_parts info86
  have hr := run_make (P := Try.prog) w 81 86 i0 _ Try.underlying81 hi hz0 .i64 .i64 65 65 (by omega) (Int.le_refl _) (by rw [hz2]; omega) (by omega)
  rw [hr, hz1, show (Value.agg #[.slice none 0 0, .bool false, .bool false]).cells = #[.slice none 0 0, .bool false, .bool false] from rfl, show (Int.toNat 65 * 3) = 195 from rfl, mc65]
  rfl
theorem hiT {t e : TypeId} {s bs : Nat} {z : Value} (hu : Try.prog.underlying t = some (.slice e)) (hinf : (Try.prog.info? e).map (fun i => (i.zero, i.size, i.bytes)) = some (some z, s, bs)) (W : World) (g n c i : Nat) (hi : i ≤ n) (hnc : n ≤ c) : (Instr.slice t (.slice (some ⟨g, 0, none⟩) n c) .none (some (.int .i64 (i : Int))) .none).run Try.prog W = .ok (.slice (some ⟨g, 0, none⟩) i c) W := by
  obtain ⟨i0, hi0, hz0, hz1, hz2⟩ := info_parts hinf
  have hel : Try.prog.elem t = e := by simp [Program.elem, hu]
  rw [run_slice_h (P := Try.prog) (w := W) t (some ⟨g, 0, none⟩) n c (by rw [hel]; exact hu) .i64 i (by omega) (by omega)]
  have hs : ((sizeOf (Try.prog.elem t)).run Try.prog W) = .ok s W := by rw [hel]; simp [sizeOf, typeInfo, hi0, hz1]
  rw [hs]
  simp [sliced, Result.andThen, Addr.add]
theorem info81 : (Try.prog.info? 81).map (fun i => (i.zero, i.size, i.bytes)) = some (some (.slice none 0 0), 1, 24) := by kernel_rfl
end Go.Proofs.Ytkgcbhpgkcfkhaa

namespace Go.Proofs.Ytkgcbhpgkcfkhaa
open Go.ChangeShapes Go.WideShapes Go.ChangeAt Go.RowKit Go.Shelf
set_option linter.unusedVariables false
set_option linter.unusedSimpArgs false
theorem bl1 (X : World) (o : Obj) : Below X.heap.size X (X.alloc o) := (Below.refl _ _).alloc (Nat.le_refl _) o
theorem bl2 (X : World) (o p : Obj) : Below X.heap.size X ((X.alloc o).alloc p) := (bl1 X o).alloc (by simp) p
theorem bl3 (X : World) (o p q : Obj) : Below X.heap.size X (((X.alloc o).alloc p).alloc q) := (bl2 X o p).alloc (by simp; omega) q
theorem small_of (WB WC : World) (bk : Nat) (hx : BoxC WC WB.heap.size #[.int .i64 1, .int .i64 1, .int .i64 3, .int .i64 1024, .int .i64 1024, .int .i64 1, .slice (some ⟨bk, 0, none⟩) 2 2] 53) (ha : Below WB.heap.size WB WC) : SB WB.heap.size WC.heap.size ((WC.alloc (.cells #[.int .i64 1] 3)).setCell ⟨WB.heap.size, 6, none⟩ (.slice (some ⟨WC.heap.size, 0, none⟩) 1 1)) ∧ Below WB.heap.size WB ((WC.alloc (.cells #[.int .i64 1] 3)).setCell ⟨WB.heap.size, 6, none⟩ (.slice (some ⟨WC.heap.size, 0, none⟩) 1 1)) := by
  have hl := hx.lt
  refine ⟨⟨(hx.alloc (.cells #[.int .i64 1] 3)).put 6 _, ls_box (L := [1]) (BoxC.oth (B' := WB.heap.size) (by omega) (BoxC.new WC _ 3)) 1 rfl⟩, (ha.alloc (by omega) _).setCell (p := ⟨WB.heap.size, 6, none⟩) (Nat.le_refl _) _⟩
theorem al_ls (X : World) (m : Nat) (hm : m = X.heap.size) (L : List Int) (cs : Array Value) (fr : Nat × Nat) (h : cs = (iv .u8 L).toArray) (n : Nat) (hn : L.length = n) : Ls .u8 (X.alloc (.cells cs 5 fr)) (some ⟨m, 0, none⟩) n L := by subst hm; exact ls_new .u8 X L cs 5 fr h n hn
theorem rows6 (W : World) : RdR ((((((W.alloc (.cells #[.int .u8 98] 5 (1, 2))).alloc (.cells #[.int .u8 99] 5 (1, 2))).alloc (.cells #[.slice none 0 0, .slice (some ⟨W.heap.size, 0, none⟩) 1 1, .slice (some ⟨W.heap.size + 1, 0, none⟩) 1 1] 24)).alloc (.cells #[.int .u8 99] 5 (1, 2))).alloc (.cells #[.int .u8 98] 5 (1, 2))).alloc (.cells #[.slice none 0 0, .slice (some ⟨W.heap.size + 1 + 1 + 1, 0, none⟩) 1 1, .slice (some ⟨W.heap.size + 1 + 1 + 1 + 1, 0, none⟩) 1 1] 24)) (some ⟨W.heap.size + 1 + 1, 0, none⟩) [⟨none, 0, []⟩, ⟨some ⟨W.heap.size, 0, none⟩, 1, [98]⟩, ⟨some ⟨W.heap.size + 1, 0, none⟩, 1, [99]⟩] ∧ RdR ((((((W.alloc (.cells #[.int .u8 98] 5 (1, 2))).alloc (.cells #[.int .u8 99] 5 (1, 2))).alloc (.cells #[.slice none 0 0, .slice (some ⟨W.heap.size, 0, none⟩) 1 1, .slice (some ⟨W.heap.size + 1, 0, none⟩) 1 1] 24)).alloc (.cells #[.int .u8 99] 5 (1, 2))).alloc (.cells #[.int .u8 98] 5 (1, 2))).alloc (.cells #[.slice none 0 0, .slice (some ⟨W.heap.size + 1 + 1 + 1, 0, none⟩) 1 1, .slice (some ⟨W.heap.size + 1 + 1 + 1 + 1, 0, none⟩) 1 1] 24)) (some ⟨W.heap.size + 1 + 1 + 1 + 1 + 1, 0, none⟩) [⟨none, 0, []⟩, ⟨some ⟨W.heap.size + 1 + 1 + 1, 0, none⟩, 1, [99]⟩, ⟨some ⟨W.heap.size + 1 + 1 + 1 + 1, 0, none⟩, 1, [98]⟩] ∧ Below W.heap.size W ((((((W.alloc (.cells #[.int .u8 98] 5 (1, 2))).alloc (.cells #[.int .u8 99] 5 (1, 2))).alloc (.cells #[.slice none 0 0, .slice (some ⟨W.heap.size, 0, none⟩) 1 1, .slice (some ⟨W.heap.size + 1, 0, none⟩) 1 1] 24)).alloc (.cells #[.int .u8 99] 5 (1, 2))).alloc (.cells #[.int .u8 98] 5 (1, 2))).alloc (.cells #[.slice none 0 0, .slice (some ⟨W.heap.size + 1 + 1 + 1, 0, none⟩) 1 1, .slice (some ⟨W.heap.size + 1 + 1 + 1 + 1, 0, none⟩) 1 1] 24)) := by
  have a1 := ls_new .u8 W [98] #[.int .u8 98] 5 (1, 2) rfl 1 rfl
  generalize h1 : W.alloc (.cells #[.int .u8 98] 5 (1, 2)) = W1 at a1 ⊢
  have s1 : W1.heap.size = W.heap.size + 1 := by rw [← h1]; simp
  have b1 : Below W.heap.size W W1 := by rw [← h1]; exact bl1 _ _
  have a2 := ls_new .u8 W1 [99] #[.int .u8 99] 5 (1, 2) rfl 1 rfl
  have r1 := rdR3 (W1.alloc (.cells #[.int .u8 99] 5 (1, 2))) W.heap.size W1.heap.size 98 99 (a1.below (bl1 _ _)) a2
  rw [← s1]
  generalize h2 : W1.alloc (.cells #[.int .u8 99] 5 (1, 2)) = W2 at a2 r1 ⊢
  have s2 : W2.heap.size = W1.heap.size + 1 := by rw [← h2]; simp
  have b2 : Below W.heap.size W W2 := by rw [← h2]; exact step_below b1 (bl1 _ _)
  rw [s2] at r1
  generalize h3 : W2.alloc (.cells #[.slice none 0 0, .slice (some ⟨W.heap.size, 0, none⟩) 1 1, .slice (some ⟨W1.heap.size, 0, none⟩) 1 1] 24) = W3 at r1 ⊢
  have s3 : W3.heap.size = W1.heap.size + 1 + 1 := by rw [← h3, ← s2]; simp
  have b3 : Below W.heap.size W W3 := by rw [← h3]; exact step_below b2 (bl1 _ _)
  have a4 := ls_new .u8 W3 [99] #[.int .u8 99] 5 (1, 2) rfl 1 rfl
  have r1' := r1.below (bl1 W3 (.cells #[.int .u8 99] 5 (1, 2)))
  rw [← s3]
  generalize h4 : W3.alloc (.cells #[.int .u8 99] 5 (1, 2)) = W4 at a4 r1' ⊢
  have s4 : W4.heap.size = W3.heap.size + 1 := by rw [← h4]; simp
  have b4 : Below W.heap.size W W4 := by rw [← h4]; exact step_below b3 (bl1 _ _)
  have a5 := ls_new .u8 W4 [98] #[.int .u8 98] 5 (1, 2) rfl 1 rfl
  have r2 := rdR3 (W4.alloc (.cells #[.int .u8 98] 5 (1, 2))) W3.heap.size W4.heap.size 99 98 (a4.below (bl1 _ _)) a5
  have r1'' := r1'.below (bl1 W4 (.cells #[.int .u8 98] 5 (1, 2)))
  rw [← s4]
  generalize h5 : W4.alloc (.cells #[.int .u8 98] 5 (1, 2)) = W5 at a5 r2 r1'' ⊢
  have s5 : W5.heap.size = W4.heap.size + 1 := by rw [← h5]; simp
  have b5 : Below W.heap.size W W5 := by rw [← h5]; exact step_below b4 (bl1 _ _)
  rw [s5] at r2
  exact ⟨r1''.below (bl1 _ _), r2, step_below b5 (bl1 _ _)⟩
def put7 (W : World) (B i b6 : Nat) : World := ((((((W.setCell ⟨B, i, none⟩ (.int .i64 1)).setCell ⟨B, i + 1, none⟩ (.int .i64 0)).setCell ⟨B, i + 2, none⟩ (.int .i64 0)).setCell ⟨B, i + 3, none⟩ (.slice (some ⟨b6, 0, none⟩) 1 1)).setCell ⟨B, i + 4, none⟩ (.slice none 0 0)).setCell ⟨B, i + 5, none⟩ (.int .i64 0)).setCell ⟨B, i + 6, none⟩ (.slice none 0 0)
theorem sev_below {w0 W : World} {B : Nat} (h : Below B w0 W) (i b6 : Nat) : Below B w0 (put7 W B i b6) := ((((((h.setCell (p := ⟨B, i, none⟩) (Nat.le_refl _) _).setCell (p := ⟨B, i + 1, none⟩) (Nat.le_refl _) _).setCell (p := ⟨B, i + 2, none⟩) (Nat.le_refl _) _).setCell (p := ⟨B, i + 3, none⟩) (Nat.le_refl _) _).setCell (p := ⟨B, i + 4, none⟩) (Nat.le_refl _) _).setCell (p := ⟨B, i + 5, none⟩) (Nat.le_refl _) _).setCell (p := ⟨B, i + 6, none⟩) (Nat.le_refl _) _
theorem sev_put {W : World} {B b6 : Nat} {L L' : List Value} {t : TypeId} (h : BoxC W B L.toArray t) (i : Nat) (hL : ((((((L.set i (.int .i64 1)).set (i + 1) (.int .i64 0)).set (i + 2) (.int .i64 0)).set (i + 3) (.slice (some ⟨b6, 0, none⟩) 1 1)).set (i + 4) (.slice none 0 0)).set (i + 5) (.int .i64 0)).set (i + 6) (.slice none 0 0) = L') : BoxC (put7 W B i b6) B L'.toArray t := by
  subst hL
  exact ((((((h.put _ _).put _ _).put _ _).put _ _).put _ _).put _ _).put _ _
theorem below_trans' {W X Y : World} (h : Below W.heap.size W X) (g : Below X.heap.size X Y) : Below W.heap.size W Y := step_below h g
theorem al_row (X : World) (n : Nat) (hn : n = X.heap.size) (b6 : Nat) (h : Ls .u8 X (some ⟨b6, 0, none⟩) 1 [107]) : RdR (X.alloc (.cells #[.slice (some ⟨b6, 0, none⟩) 1 1] 24)) (some ⟨n, 0, none⟩) [⟨some ⟨b6, 0, none⟩, 1, [107]⟩] := by subst hn; exact row1 X b6 h
theorem al_zs (X : World) (n : Nat) (hn : n = X.heap.size) (k : Nat) : Ls .u8 (X.alloc (zo k)) (some ⟨n, 0, none⟩) k (zs k) := by subst hn; exact zo_ls X k
theorem al_box (X : World) (n : Nat) (hn : n = X.heap.size) (cs : Array Value) (t : TypeId) : BoxC (X.alloc (.cells cs t)) n cs t := by subst hn; exact BoxC.new X cs t
def sndC : Code → Code
  | .seq _ c => c
  | c => c
noncomputable def bodyC : Code := Try.f11.body.getD .skip
/-- From statement 4 on it goes well. -/
def Blk1 (w : World) : Prop := ∀ (u0 u3 u4 u5 u6 u7 u8 u9 u10 u11 u12 u13 u14 u15 u16 u17 u18 u19 u20 u21 u22 u23 u24 u25 u26 u27 u28 u29 u30 u31 u32 u33 u34 u35 u36 u37 u38 u39 u40 u41 u42 u43 u44 u45 u46 u47 u48 u49 u50 u51 u52 u53 u54 u55 u56 u57 u58 u59 u60 u61 u62 u63 u64 u65 u66 u67 u68 u69 u70 u71 u72 u73 u74 u75 u76 u77 u78 u79 u80 u81 u82 u83 u84 u85 u86 u87 u88 u89 u90 u91 u92 u93 u94 u95 u96 u97 u98 u99 u100 u101 u102 u103 u104 u105 u106 u107 u108 u109 u110 u111 u112 u113 u114 u115 u116 u117 u118 u119 u120 u121 u122 u123 u124 u125 u126 u127 u128 u129 u130 u131 u132 u133 u134 u135 u136 u137 u138 u139 u140 u141 u142 u143 u144 u145 u146 u147 u148 u149 u150 u151 u152 u153 u154 u155 u156 u157 u158 u159 u160 u161 u162 u163 u164 u165 u166 u167 u168 u169 u170 u171 u172 u173 u174 u175 u176 u177 u178 u179 u180 u181 u182 u183 u184 u185 u186 u187 u188 u189 u190 u191 u192 u193 u194 u195 u196 u197 u198 u199 u200 u201 u202 u203 u204 u205 u206 u207 u208 u209 u210 u211 u212 u213 u214 u215 u216 u217 u218 u219 u220 u221 u222 u223 u224 u225 u226 u227 u228 u229 u230 u231 u232 u233 u234 u235 u236 u237 u238 u239 u240 u241 u242 u243 u244 u245 u246 u247 u248 u249 u250 u251 u252 u253 u254 u255 u256 u257 u258 u259 u260 u261 u262 u263 u264 u265 u266 u267 u268 u269 u270 u271 u272 u273 u274 u275 u276 u277 u278 u279 u280 u281 u282 u283 u284 u285 u286 u287 u288 u289 u290 u291 u292 u293 u294 u295 u296 u297 u298 : Value) (W : World), (Below w.heap.size w W ∧ J8 w.heap.size (arrL w.heap.size 8) W) → Code.wp Try.prog (sndC (sndC (sndC (sndC bodyC)))) (bodyPost Try.prog Try.f11 fun r w' => r = .returned (.bool true) ∧ Below w.heap.size w w') ⟨#[u0, .pointer (some ⟨w.heap.size + 1, 0, none⟩), .pointer (some ⟨w.heap.size + 1 + 1, 0, none⟩), u3, u4, u5, u6, u7, u8, u9, u10, u11, u12, u13, u14, u15, u16, u17, u18, u19, u20, u21, u22, u23, u24, u25, u26, u27, u28, u29, u30, u31, u32, u33, u34, u35, u36, u37, u38, u39, u40, u41, u42, u43, u44, u45, u46, u47, u48, u49, u50, u51, u52, u53, u54, u55, u56, u57, u58, u59, u60, u61, u62, u63, u64, u65, u66, u67, u68, u69, u70, u71, u72, u73, u74, u75, u76, u77, u78, u79, u80, u81, u82, u83, u84, u85, u86, u87, u88, u89, u90, u91, u92, u93, u94, u95, u96, u97, u98, u99, u100, u101, u102, u103, u104, u105, u106, u107, u108, u109, u110, u111, u112, u113, u114, u115, u116, u117, u118, u119, u120, u121, u122, u123, u124, u125, u126, u127, u128, u129, u130, u131, u132, u133, u134, u135, u136, u137, u138, u139, u140, u141, u142, u143, u144, u145, u146, u147, u148, u149, u150, u151, u152, u153, u154, u155, u156, u157, u158, u159, u160, u161, u162, u163, u164, u165, u166, u167, u168, u169, u170, u171, u172, u173, u174, u175, u176, u177, u178, u179, u180, u181, u182, u183, u184, u185, u186, u187, u188, u189, u190, u191, u192, u193, u194, u195, u196, u197, u198, u199, u200, u201, u202, u203, u204, u205, u206, u207, u208, u209, u210, u211, u212, u213, u214, u215, u216, u217, u218, u219, u220, u221, u222, u223, u224, u225, u226, u227, u228, u229, u230, u231, u232, u233, u234, u235, u236, u237, u238, u239, u240, u241, u242, u243, u244, u245, u246, u247, u248, u249, u250, u251, u252, u253, u254, u255, u256, u257, u258, u259, u260, u261, u262, u263, u264, u265, u266, u267, u268, u269, u270, u271, u272, u273, u274, u275, u276, u277, u278, u279, u280, u281, u282, u283, u284, u285, u286, u287, u288, u289, u290, u291, u292, u293, u294, u295, u296, u297, u298], []⟩ W
/-- From statement 8 on it goes well. -/
def Blk2 (w : World) : Prop := ∀ (t6 t7 : Nat) (u0 u3 u4 u5 u6 u7 u8 u9 u10 u11 u12 u13 u14 u15 u16 u17 u18 u19 u20 u21 u22 u23 u24 u25 u26 u27 u28 u29 u30 u31 u32 u33 u34 u35 u36 u37 u38 u39 u40 u41 u42 u43 u44 u45 u46 u47 u48 u49 u50 u51 u52 u53 u54 u55 u56 u57 u58 u59 u60 u61 u62 u63 u64 u65 u66 u67 u68 u69 u70 u71 u72 u73 u74 u75 u76 u77 u78 u79 u80 u81 u82 u83 u84 u85 u86 u87 u88 u89 u90 u91 u92 u93 u94 u95 u96 u97 u98 u99 u100 u101 u102 u103 u104 u105 u106 u107 u108 u109 u110 u111 u112 u113 u114 u115 u116 u117 u118 u119 u120 u121 u122 u123 u124 u125 u126 u127 u128 u129 u130 u131 u132 u133 u134 u135 u136 u137 u138 u139 u140 u141 u142 u143 u144 u145 u146 u147 u148 u149 u150 u151 u152 u153 u154 u155 u156 u157 u158 u159 u160 u161 u162 u163 u164 u165 u166 u167 u168 u169 u170 u171 u172 u173 u174 u175 u176 u177 u178 u179 u180 u181 u182 u183 u184 u185 u186 u187 u188 u189 u190 u191 u192 u193 u194 u195 u196 u197 u198 u199 u200 u201 u202 u203 u204 u205 u206 u207 u208 u209 u210 u211 u212 u213 u214 u215 u216 u217 u218 u219 u220 u221 u222 u223 u224 u225 u226 u227 u228 u229 u230 u231 u232 u233 u234 u235 u236 u237 u238 u239 u240 u241 u242 u243 u244 u245 u246 u247 u248 u249 u250 u251 u252 u253 u254 u255 u256 u257 u258 u259 u260 u261 u262 u263 u264 u265 u266 u267 u268 u269 u270 u271 u272 u273 u274 u275 u276 u277 u278 u279 u280 u281 u282 u283 u284 u285 u286 u287 u288 u289 u290 u291 u292 u293 u294 u295 u296 u297 u298 : Value) (W : World), (BJ8 w.heap.size t6 t7 w W) → Code.wp Try.prog (sndC (sndC (sndC (sndC (sndC (sndC (sndC (sndC bodyC)))))))) (bodyPost Try.prog Try.f11 fun r w' => r = .returned (.bool true) ∧ Below w.heap.size w w') ⟨#[u0, .pointer (some ⟨w.heap.size + 1, 0, none⟩), .pointer (some ⟨w.heap.size + 1 + 1, 0, none⟩), u3, u4, u5, u6, u7, u8, u9, u10, u11, u12, u13, u14, u15, u16, u17, u18, u19, u20, u21, u22, u23, u24, u25, u26, u27, u28, u29, u30, u31, u32, u33, u34, u35, u36, u37, u38, u39, u40, u41, u42, u43, u44, u45, u46, u47, u48, u49, u50, u51, u52, u53, u54, u55, u56, u57, u58, u59, u60, u61, u62, u63, u64, u65, u66, u67, u68, u69, u70, u71, u72, u73, u74, u75, u76, u77, u78, u79, u80, u81, u82, u83, u84, u85, u86, u87, u88, u89, u90, u91, u92, u93, u94, u95, u96, u97, u98, u99, u100, u101, u102, u103, u104, u105, u106, u107, u108, u109, u110, u111, u112, u113, u114, u115, u116, u117, u118, u119, u120, u121, u122, u123, u124, u125, u126, u127, u128, u129, u130, u131, u132, u133, u134, u135, u136, u137, u138, u139, u140, u141, u142, u143, u144, u145, u146, u147, u148, u149, u150, u151, u152, u153, u154, u155, u156, u157, u158, u159, u160, u161, u162, u163, u164, u165, u166, u167, u168, u169, u170, u171, u172, u173, u174, u175, u176, u177, u178, u179, u180, u181, u182, u183, u184, u185, u186, u187, u188, u189, u190, u191, u192, u193, u194, u195, u196, u197, u198, u199, u200, u201, u202, u203, u204, u205, u206, u207, u208, u209, u210, u211, u212, u213, u214, u215, u216, u217, u218, u219, u220, u221, u222, u223, u224, u225, u226, u227, u228, u229, u230, u231, u232, u233, u234, u235, u236, u237, u238, u239, u240, u241, u242, u243, u244, u245, u246, u247, u248, u249, u250, u251, u252, u253, u254, u255, u256, u257, u258, u259, u260, u261, u262, u263, u264, u265, u266, u267, u268, u269, u270, u271, u272, u273, u274, u275, u276, u277, u278, u279, u280, u281, u282, u283, u284, u285, u286, u287, u288, u289, u290, u291, u292, u293, u294, u295, u296, u297, u298], []⟩ W
/-- From statement 13 on it goes well. -/
def Blk3 (w : World) : Prop := ∀ (bj b5 b6 b7 r1 m25 m33 bo : Nat) (u0 u3 u4 u9 u10 u11 u12 u13 u14 u15 u16 u17 u18 u19 u20 u21 u22 u23 u24 u25 u26 u27 u28 u29 u30 u31 u32 u33 u34 u35 u36 u37 u38 u39 u40 u41 u42 u43 u44 u45 u46 u47 u48 u49 u50 u51 u52 u53 u54 u55 u56 u57 u58 u59 u60 u61 u62 u63 u64 u65 u66 u67 u68 u69 u70 u71 u72 u73 u74 u75 u76 u77 u78 u79 u80 u81 u82 u83 u84 u85 u86 u87 u88 u89 u90 u91 u92 u93 u94 u95 u96 u97 u98 u99 u100 u101 u102 u103 u104 u105 u106 u107 u108 u109 u110 u111 u112 u113 u114 u115 u116 u117 u118 u119 u120 u121 u122 u123 u124 u125 u126 u127 u128 u129 u130 u131 u132 u133 u134 u135 u136 u137 u138 u139 u140 u141 u142 u143 u144 u145 u146 u147 u148 u149 u150 u151 u152 u153 u154 u155 u156 u157 u158 u159 u160 u161 u162 u163 u164 u165 u166 u167 u168 u169 u170 u171 u172 u173 u174 u175 u176 u177 u178 u179 u180 u181 u182 u183 u184 u185 u186 u187 u188 u189 u190 u191 u192 u193 u194 u195 u196 u197 u198 u199 u200 u201 u202 u203 u204 u205 u206 u207 u208 u209 u210 u211 u212 u213 u214 u215 u216 u217 u218 u219 u220 u221 u222 u223 u224 u225 u226 u227 u228 u229 u230 u231 u232 u233 u234 u235 u236 u237 u238 u239 u240 u241 u242 u243 u244 u245 u246 u247 u248 u249 u250 u251 u252 u253 u254 u255 u256 u257 u258 u259 u260 u261 u262 u263 u264 u265 u266 u267 u268 u269 u270 u271 u272 u273 u274 u275 u276 u277 u278 u279 u280 u281 u282 u283 u284 u285 u286 u287 u288 u289 u290 u291 u292 u293 u294 u295 u296 u297 u298 : Value) (W : World), (BW w w.heap.size bj b5 b6 b7 W ∧ OB b6 r1 m25 m33 bo W) → Code.wp Try.prog (sndC (sndC (sndC (sndC (sndC (sndC (sndC (sndC (sndC (sndC (sndC (sndC (sndC bodyC))))))))))))) (bodyPost Try.prog Try.f11 fun r w' => r = .returned (.bool true) ∧ Below w.heap.size w w') ⟨#[u0, .pointer (some ⟨w.heap.size + 1, 0, none⟩), .pointer (some ⟨w.heap.size + 1 + 1, 0, none⟩), u3, u4, .pointer (some ⟨b5, 0, none⟩), .slice (some ⟨b6, 0, none⟩) 1 1, .pointer (some ⟨b7, 0, none⟩), .slice (some ⟨bo, 0, none⟩) 12 12, u9, u10, u11, u12, u13, u14, u15, u16, u17, u18, u19, u20, u21, u22, u23, u24, u25, u26, u27, u28, u29, u30, u31, u32, u33, u34, u35, u36, u37, u38, u39, u40, u41, u42, u43, u44, u45, u46, u47, u48, u49, u50, u51, u52, u53, u54, u55, u56, u57, u58, u59, u60, u61, u62, u63, u64, u65, u66, u67, u68, u69, u70, u71, u72, u73, u74, u75, u76, u77, u78, u79, u80, u81, u82, u83, u84, u85, u86, u87, u88, u89, u90, u91, u92, u93, u94, u95, u96, u97, u98, u99, u100, u101, u102, u103, u104, u105, u106, u107, u108, u109, u110, u111, u112, u113, u114, u115, u116, u117, u118, u119, u120, u121, u122, u123, u124, u125, u126, u127, u128, u129, u130, u131, u132, u133, u134, u135, u136, u137, u138, u139, u140, u141, u142, u143, u144, u145, u146, u147, u148, u149, u150, u151, u152, u153, u154, u155, u156, u157, u158, u159, u160, u161, u162, u163, u164, u165, u166, u167, u168, u169, u170, u171, u172, u173, u174, u175, u176, u177, u178, u179, u180, u181, u182, u183, u184, u185, u186, u187, u188, u189, u190, u191, u192, u193, u194, u195, u196, u197, u198, u199, u200, u201, u202, u203, u204, u205, u206, u207, u208, u209, u210, u211, u212, u213, u214, u215, u216, u217, u218, u219, u220, u221, u222, u223, u224, u225, u226, u227, u228, u229, u230, u231, u232, u233, u234, u235, u236, u237, u238, u239, u240, u241, u242, u243, u244, u245, u246, u247, u248, u249, u250, u251, u252, u253, u254, u255, u256, u257, u258, u259, u260, u261, u262, u263, u264, u265, u266, u267, u268, u269, u270, u271, u272, u273, u274, u275, u276, u277, u278, u279, u280, u281, u282, u283, u284, u285, u286, u287, u288, u289, u290, u291, u292, u293, u294, u295, u296, u297, u298], []⟩ W
/-- From statement 14 on it goes well. -/
def Blk4 (w : World) : Prop := ∀ (bj b5 b6 b7 r1 m25 m33 bo : Nat) (u0 u3 u4 u8 u9 u10 u11 u12 u13 u14 u15 u16 u17 u18 u19 u20 u21 u22 u23 u24 u25 u26 u27 u28 u29 u30 u31 u32 u33 u34 u35 u36 u37 u38 u39 u40 u41 u42 u43 u44 u45 u46 u47 u48 u49 u50 u51 u52 u53 u54 u55 u56 u57 u58 u59 u60 u61 u62 u63 u64 u65 u66 u67 u68 u69 u70 u71 u72 u73 u74 u75 u76 u77 u78 u79 u80 u81 u82 u83 u84 u85 u86 u87 u88 u89 u90 u91 u92 u93 u94 u95 u96 u97 u98 u99 u100 u101 u102 u103 u104 u105 u106 u107 u108 u109 u110 u111 u112 u113 u114 u115 u116 u117 u118 u119 u120 u121 u122 u123 u124 u125 u126 u127 u128 u129 u130 u131 u132 u133 u134 u135 u136 u137 u138 u139 u140 u141 u142 u143 u144 u145 u146 u147 u148 u149 u150 u151 u152 u153 u154 u155 u156 u157 u158 u159 u160 u161 u162 u163 u164 u165 u166 u167 u168 u169 u170 u171 u172 u173 u174 u175 u176 u177 u178 u179 u180 u181 u182 u183 u184 u185 u186 u187 u188 u189 u190 u191 u192 u193 u194 u195 u196 u197 u198 u199 u200 u201 u202 u203 u204 u205 u206 u207 u208 u209 u210 u211 u212 u213 u214 u215 u216 u217 u218 u219 u220 u221 u222 u223 u224 u225 u226 u227 u228 u229 u230 u231 u232 u233 u234 u235 u236 u237 u238 u239 u240 u241 u242 u243 u244 u245 u246 u247 u248 u249 u250 u251 u252 u253 u254 u255 u256 u257 u258 u259 u260 u261 u262 u263 u264 u265 u266 u267 u268 u269 u270 u271 u272 u273 u274 u275 u276 u277 u278 u279 u280 u281 u282 u283 u284 u285 u286 u287 u288 u289 u290 u291 u292 u293 u294 u295 u296 u297 u298 : Value) (W : World), (BW w w.heap.size bj b5 b6 b7 W ∧ OB b6 r1 m25 m33 bo W) → Code.wp Try.prog (sndC (sndC (sndC (sndC (sndC (sndC (sndC (sndC (sndC (sndC (sndC (sndC (sndC (sndC bodyC)))))))))))))) (bodyPost Try.prog Try.f11 fun r w' => r = .returned (.bool true) ∧ Below w.heap.size w w') ⟨#[u0, .pointer (some ⟨w.heap.size + 1, 0, none⟩), .pointer (some ⟨w.heap.size + 1 + 1, 0, none⟩), u3, u4, .pointer (some ⟨b5, 0, none⟩), .slice (some ⟨b6, 0, none⟩) 1 1, .pointer (some ⟨b7, 0, none⟩), u8, u9, u10, u11, u12, u13, u14, u15, u16, u17, u18, u19, u20, u21, u22, u23, u24, u25, u26, u27, u28, u29, u30, u31, u32, u33, u34, u35, u36, u37, u38, u39, u40, u41, u42, u43, u44, u45, u46, u47, u48, u49, u50, u51, u52, u53, u54, u55, u56, u57, u58, u59, u60, u61, u62, u63, u64, u65, u66, u67, u68, u69, u70, u71, u72, u73, u74, u75, u76, u77, u78, u79, u80, u81, u82, u83, u84, u85, u86, u87, u88, u89, u90, u91, u92, u93, u94, u95, u96, u97, u98, u99, u100, u101, u102, u103, u104, u105, u106, u107, u108, u109, u110, u111, u112, u113, u114, u115, u116, u117, u118, u119, u120, u121, u122, u123, u124, u125, u126, u127, u128, u129, u130, u131, u132, u133, u134, u135, u136, u137, u138, u139, u140, u141, u142, u143, u144, u145, u146, u147, u148, u149, u150, u151, u152, u153, u154, u155, u156, u157, u158, u159, u160, u161, u162, u163, u164, u165, u166, u167, u168, u169, u170, u171, u172, u173, u174, u175, u176, u177, u178, u179, u180, u181, u182, u183, u184, u185, u186, u187, u188, u189, u190, u191, u192, u193, u194, u195, u196, u197, u198, u199, u200, u201, u202, u203, u204, u205, u206, u207, u208, u209, u210, u211, u212, u213, u214, u215, u216, u217, u218, u219, u220, u221, u222, u223, u224, u225, u226, u227, u228, u229, u230, u231, u232, u233, u234, u235, u236, u237, u238, u239, u240, u241, u242, u243, u244, u245, u246, u247, u248, u249, u250, u251, u252, u253, u254, u255, u256, u257, u258, u259, u260, u261, u262, u263, u264, u265, u266, u267, u268, u269, u270, u271, u272, u273, u274, u275, u276, u277, u278, u279, u280, u281, u282, u283, u284, u285, u286, u287, u288, u289, u290, u291, u292, u293, u294, u295, u296, u297, u298], []⟩ W
/-- From statement 23 on it goes well. -/
def Blk5 (w : World) : Prop := ∀ (bj b5 b6 b7 bm : Nat) (u0 u3 u4 u8 u9 u10 u11 u12 u13 u14 u15 u16 u17 u19 u20 u21 u22 u23 u24 u25 u26 u27 u28 u29 u30 u31 u32 u33 u34 u35 u36 u37 u38 u39 u40 u41 u42 u43 u44 u45 u46 u47 u48 u49 u50 u51 u52 u53 u54 u55 u56 u57 u58 u59 u60 u61 u62 u63 u64 u65 u66 u67 u68 u69 u70 u71 u72 u73 u74 u75 u76 u77 u78 u79 u80 u81 u82 u83 u84 u85 u86 u87 u88 u89 u90 u91 u92 u93 u94 u95 u96 u97 u98 u99 u100 u101 u102 u103 u104 u105 u106 u107 u108 u109 u110 u111 u112 u113 u114 u115 u116 u117 u118 u119 u120 u121 u122 u123 u124 u125 u126 u127 u128 u129 u130 u131 u132 u133 u134 u135 u136 u137 u138 u139 u140 u141 u142 u143 u144 u145 u146 u147 u148 u149 u150 u151 u152 u153 u154 u155 u156 u157 u158 u159 u160 u161 u162 u163 u164 u165 u166 u167 u168 u169 u170 u171 u172 u173 u174 u175 u176 u177 u178 u179 u180 u181 u182 u183 u184 u185 u186 u187 u188 u189 u190 u191 u192 u193 u194 u195 u196 u197 u198 u199 u200 u201 u202 u203 u204 u205 u206 u207 u208 u209 u210 u211 u212 u213 u214 u215 u216 u217 u218 u219 u220 u221 u222 u223 u224 u225 u226 u227 u228 u229 u230 u231 u232 u233 u234 u235 u236 u237 u238 u239 u240 u241 u242 u243 u244 u245 u246 u247 u248 u249 u250 u251 u252 u253 u254 u255 u256 u257 u258 u259 u260 u261 u262 u263 u264 u265 u266 u267 u268 u269 u270 u271 u272 u273 u274 u275 u276 u277 u278 u279 u280 u281 u282 u283 u284 u285 u286 u287 u288 u289 u290 u291 u292 u293 u294 u295 u296 u297 u298 : Value) (W : World), (BW w w.heap.size bj b5 b6 b7 W ∧ BoxC W bm (sevL b6 17).toArray 98) → Code.wp Try.prog (sndC (sndC (sndC (sndC (sndC (sndC (sndC (sndC (sndC (sndC (sndC (sndC (sndC (sndC (sndC (sndC (sndC (sndC (sndC (sndC (sndC (sndC (sndC bodyC))))))))))))))))))))))) (bodyPost Try.prog Try.f11 fun r w' => r = .returned (.bool true) ∧ Below w.heap.size w w') ⟨#[u0, .pointer (some ⟨w.heap.size + 1, 0, none⟩), .pointer (some ⟨w.heap.size + 1 + 1, 0, none⟩), u3, u4, .pointer (some ⟨b5, 0, none⟩), .slice (some ⟨b6, 0, none⟩) 1 1, .pointer (some ⟨b7, 0, none⟩), u8, u9, u10, u11, u12, u13, u14, u15, u16, u17, .slice (some ⟨bm, 0, none⟩) 17 17, u19, u20, u21, u22, u23, u24, u25, u26, u27, u28, u29, u30, u31, u32, u33, u34, u35, u36, u37, u38, u39, u40, u41, u42, u43, u44, u45, u46, u47, u48, u49, u50, u51, u52, u53, u54, u55, u56, u57, u58, u59, u60, u61, u62, u63, u64, u65, u66, u67, u68, u69, u70, u71, u72, u73, u74, u75, u76, u77, u78, u79, u80, u81, u82, u83, u84, u85, u86, u87, u88, u89, u90, u91, u92, u93, u94, u95, u96, u97, u98, u99, u100, u101, u102, u103, u104, u105, u106, u107, u108, u109, u110, u111, u112, u113, u114, u115, u116, u117, u118, u119, u120, u121, u122, u123, u124, u125, u126, u127, u128, u129, u130, u131, u132, u133, u134, u135, u136, u137, u138, u139, u140, u141, u142, u143, u144, u145, u146, u147, u148, u149, u150, u151, u152, u153, u154, u155, u156, u157, u158, u159, u160, u161, u162, u163, u164, u165, u166, u167, u168, u169, u170, u171, u172, u173, u174, u175, u176, u177, u178, u179, u180, u181, u182, u183, u184, u185, u186, u187, u188, u189, u190, u191, u192, u193, u194, u195, u196, u197, u198, u199, u200, u201, u202, u203, u204, u205, u206, u207, u208, u209, u210, u211, u212, u213, u214, u215, u216, u217, u218, u219, u220, u221, u222, u223, u224, u225, u226, u227, u228, u229, u230, u231, u232, u233, u234, u235, u236, u237, u238, u239, u240, u241, u242, u243, u244, u245, u246, u247, u248, u249, u250, u251, u252, u253, u254, u255, u256, u257, u258, u259, u260, u261, u262, u263, u264, u265, u266, u267, u268, u269, u270, u271, u272, u273, u274, u275, u276, u277, u278, u279, u280, u281, u282, u283, u284, u285, u286, u287, u288, u289, u290, u291, u292, u293, u294, u295, u296, u297, u298], []⟩ W
/-- From statement 26 on it goes well. -/
def Blk6 (w : World) : Prop := ∀ (bj b5 b6 b7 bt bs : Nat) (u0 u3 u4 u8 u9 u10 u11 u12 u13 u14 u15 u16 u17 u18 u19 u23 u24 u25 u26 u27 u28 u29 u30 u31 u32 u33 u34 u35 u36 u37 u38 u39 u40 u41 u42 u43 u44 u45 u46 u47 u48 u49 u50 u51 u52 u53 u54 u55 u56 u57 u58 u59 u60 u61 u62 u63 u64 u65 u66 u67 u68 u69 u70 u71 u72 u73 u74 u75 u76 u77 u78 u79 u80 u81 u82 u83 u84 u85 u86 u87 u88 u89 u90 u91 u92 u93 u94 u95 u96 u97 u98 u99 u100 u101 u102 u103 u104 u105 u106 u107 u108 u109 u110 u111 u112 u113 u114 u115 u116 u117 u118 u119 u120 u121 u122 u123 u124 u125 u126 u127 u128 u129 u130 u131 u132 u133 u134 u135 u136 u137 u138 u139 u140 u141 u142 u143 u144 u145 u146 u147 u148 u149 u150 u151 u152 u153 u154 u155 u156 u157 u158 u159 u160 u161 u162 u163 u164 u165 u166 u167 u168 u169 u170 u171 u172 u173 u174 u175 u176 u177 u178 u179 u180 u181 u182 u183 u184 u185 u186 u187 u188 u189 u190 u191 u192 u193 u194 u195 u196 u197 u198 u199 u200 u201 u202 u203 u204 u205 u206 u207 u208 u209 u210 u211 u212 u213 u214 u215 u216 u217 u218 u219 u220 u221 u222 u223 u224 u225 u226 u227 u228 u229 u230 u231 u232 u233 u234 u235 u236 u237 u238 u239 u240 u241 u242 u243 u244 u245 u246 u247 u248 u249 u250 u251 u252 u253 u254 u255 u256 u257 u258 u259 u260 u261 u262 u263 u264 u265 u266 u267 u268 u269 u270 u271 u272 u273 u274 u275 u276 u277 u278 u279 u280 u281 u282 u283 u284 u285 u286 u287 u288 u289 u290 u291 u292 u293 u294 u295 u296 u297 u298 : Value) (W : World), (BW w w.heap.size bj b5 b6 b7 W ∧ BoxC W bt txnsL.toArray 86 ∧ BoxC W bs #[.slice (some ⟨bt, 0, none⟩) 64 65, .slice none 0 0, .slice none 0 0, .slice none 0 0] 81) → Code.wp Try.prog (sndC (sndC (sndC (sndC (sndC (sndC (sndC (sndC (sndC (sndC (sndC (sndC (sndC (sndC (sndC (sndC (sndC (sndC (sndC (sndC (sndC (sndC (sndC (sndC (sndC (sndC bodyC)))))))))))))))))))))))))) (bodyPost Try.prog Try.f11 fun r w' => r = .returned (.bool true) ∧ Below w.heap.size w w') ⟨#[u0, .pointer (some ⟨w.heap.size + 1, 0, none⟩), .pointer (some ⟨w.heap.size + 1 + 1, 0, none⟩), u3, u4, .pointer (some ⟨b5, 0, none⟩), .slice (some ⟨b6, 0, none⟩) 1 1, .pointer (some ⟨b7, 0, none⟩), u8, u9, u10, u11, u12, u13, u14, u15, u16, u17, u18, u19, .slice (some ⟨bt, 0, none⟩) 65 65, .slice (some ⟨bs, 0, none⟩) 4 4, .bool true, u23, u24, u25, u26, u27, u28, u29, u30, u31, u32, u33, u34, u35, u36, u37, u38, u39, u40, u41, u42, u43, u44, u45, u46, u47, u48, u49, u50, u51, u52, u53, u54, u55, u56, u57, u58, u59, u60, u61, u62, u63, u64, u65, u66, u67, u68, u69, u70, u71, u72, u73, u74, u75, u76, u77, u78, u79, u80, u81, u82, u83, u84, u85, u86, u87, u88, u89, u90, u91, u92, u93, u94, u95, u96, u97, u98, u99, u100, u101, u102, u103, u104, u105, u106, u107, u108, u109, u110, u111, u112, u113, u114, u115, u116, u117, u118, u119, u120, u121, u122, u123, u124, u125, u126, u127, u128, u129, u130, u131, u132, u133, u134, u135, u136, u137, u138, u139, u140, u141, u142, u143, u144, u145, u146, u147, u148, u149, u150, u151, u152, u153, u154, u155, u156, u157, u158, u159, u160, u161, u162, u163, u164, u165, u166, u167, u168, u169, u170, u171, u172, u173, u174, u175, u176, u177, u178, u179, u180, u181, u182, u183, u184, u185, u186, u187, u188, u189, u190, u191, u192, u193, u194, u195, u196, u197, u198, u199, u200, u201, u202, u203, u204, u205, u206, u207, u208, u209, u210, u211, u212, u213, u214, u215, u216, u217, u218, u219, u220, u221, u222, u223, u224, u225, u226, u227, u228, u229, u230, u231, u232, u233, u234, u235, u236, u237, u238, u239, u240, u241, u242, u243, u244, u245, u246, u247, u248, u249, u250, u251, u252, u253, u254, u255, u256, u257, u258, u259, u260, u261, u262, u263, u264, u265, u266, u267, u268, u269, u270, u271, u272, u273, u274, u275, u276, u277, u278, u279, u280, u281, u282, u283, u284, u285, u286, u287, u288, u289, u290, u291, u292, u293, u294, u295, u296, u297, u298], []⟩ W
end Go.Proofs.Ytkgcbhpgkcfkhaa
