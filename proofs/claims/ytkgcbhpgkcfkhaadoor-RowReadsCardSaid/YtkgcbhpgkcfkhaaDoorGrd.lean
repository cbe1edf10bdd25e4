/- Whatever bytes are read as a row, by contracts. -/
import Derived.Test.YtkgcbhpgkcfkhaaDoorGtk
namespace Go.Proofs.YtkgcbhpgkcfkhaaDoor
open Go.ChangeShapes Go.WideShapes Go.ChangeAt Go.RowKit
set_option linter.unusedVariables false
set_option linter.unusedSimpArgs false

/-- What begins with no field. -/
def BadT (tl : List Int) : Prop := tl = [] ∨ ∃ c r, tl = c :: r ∧ (24 < c ∨ (0 ≤ c ∧ c ≤ 24 ∧ (r.length : Int) < c))
theorem fsL_cons (f : List Int) (fs : List (List Int)) : fsL (f :: fs) = wbytesL f ++ fsL fs := by simp [fsL]
theorem split_fs : ∀ (k : Nat) (D : List Int), Byt D → ∃ fs tl, D = fsL fs ++ tl ∧ (∀ f ∈ fs, f.length ≤ 24) ∧ fs.length ≤ k ∧ (fs.length = k ∨ BadT tl)
  | 0, D, _ => ⟨[], D, by simp [fsL], by simp, Nat.le_refl _, .inl rfl⟩
  | k + 1, [], _ => ⟨[], [], by simp [fsL], by simp, by simp, .inr (.inl rfl)⟩
  | k + 1, c :: r, hb => by
    have hc := hb c (by simp)
    by_cases hbad : 24 < c ∨ (r.length : Int) < c
    · refine ⟨[], c :: r, by simp [fsL], by simp, by simp, .inr (.inr ⟨c, r, rfl, ?_⟩)⟩
      rcases hbad with h | h
      · exact .inl h
      · by_cases h24 : 24 < c
        · exact .inl h24
        · exact .inr ⟨by omega, by omega, h⟩
    · have h1 : ¬ 24 < c := fun h => hbad (.inl h)
      have h2 : ¬ (r.length : Int) < c := fun h => hbad (.inr h)
      obtain ⟨fs, tl, e, hl, hk, hor⟩ := split_fs k (r.drop c.toNat) (fun x hx => hb x (by simp [List.mem_of_mem_drop hx]))
      have hlen : (r.take c.toNat).length = c.toNat := by rw [List.length_take]; omega
      refine ⟨r.take c.toNat :: fs, tl, ?_, ?_, by simp; omega, ?_⟩
      · rw [fsL_cons, List.append_assoc, ← e]
        simp only [wbytesL, List.cons_append]
        rw [hlen, List.take_append_drop]
        congr 1
        omega
      · intro f hf
        rcases List.mem_cons.1 hf with rfl | hf
        · omega
        · exact hl f hf
      · rcases hor with h | h
        · left; simp; omega
        · right; exact h
theorem badF_of {n : Nat} {L tl : List Int} (hn : L.length = n) (pre : List Int) (e : L = pre ++ tl) (hb : BadT tl) : BadF n L (n - tl.length) := by
  have hpl : pre.length = n - tl.length := by rw [← hn, e]; simp
  have hle : tl.length ≤ n := by rw [← hn, e]; simp
  have hg : L.getD (n - tl.length) 0 = tl.getD 0 0 := by
    rw [e, ← hpl]
    simp [List.getD, List.getElem?_append_right (Nat.le_refl _)]
  rcases hb with rfl | ⟨c, r, rfl, h | ⟨h0, h1, h2⟩⟩
  · exact .inl (.inl (by simp))
  · refine .inl (.inr ⟨by simp at hle ⊢; omega, ?_⟩)
    rw [hg]; exact h
  · refine .inr ⟨c.toNat, by simp at hle ⊢; omega, ?_, by omega, ?_⟩
    · rw [hg]; simp; omega
    · simp at hle ⊢; omega
set_option maxRecDepth 100000 in
set_option maxHeartbeats 4000000 in
theorem take_bad {W : World} {B : Nat} {ad : Option Addr} {cap n : Nat} {L : List Int} (h : Rdr W B ad cap n L 0) (hn : n ≤ 1000000) (hBY : Byt L) (hbad : 0 = n ∨ (0 < n ∧ (3 : Int) < L.getD 0 0)) :
    Calls Tryd.prog 23 #[.pointer (some ⟨B, 0, none⟩), .int .i64 3, .func (.func 24) #[] #[]] W fun r w' => (∃ e : Int, Er e ∧ r = .returned (.tuple #[.slice none 0 0, .int .i64 e])) ∧ W.grownBy w' (some B) := by
  have e0 := h.c0
  have e1 := h.c1
  have e2 := h.c2
  have H := Lib.hid h
  have hbl := h.lt
  have HCT := Lib.hid (fun W' (hr : Rdr W' B ad cap n L 0) => count_bad hr hn hBY 3 (by omega) hbad)
  have hnf := hnf142
  clear h hBY hbad
  go_enter Tryd.func23, Tryd.ntmps23
  go_wp2_with fail
  refine (none_law H.out).mono ?_; rintro e w' ⟨rfl, rfl⟩
  go_wp2_with fail
  have B0 : Below W.heap.size W (W.alloc (.cells #[.slice ad n cap, .int .i64 0, .bool true] 80)) := (Below.refl _ _).alloc (Nat.le_refl _) _
  have h1 := H.out.below B0
  have kb : TakB W ad cap n (W.alloc (.cells #[.slice ad n cap, .int .i64 0, .bool true] 80)) := ⟨by rw [cell_new]; rfl, by rw [cell_new]; rfl, by rw [cell_new]; rfl⟩
  clear e0 e1 e2
  generalize W.alloc (.cells #[.slice ad n cap, .int .i64 0, .bool true] 80) = W1 at B0 h1 kb ⊢
  refine (HCT.out _ h1).mono ?_; rintro r w2 ⟨⟨ev, hev, rfl⟩, ⟨q, h2⟩, g2⟩
  obtain ⟨z1, z2, z3⟩ := hev.ne
  have HEV := Lib.hid hev
  have kb2 := kb.grown g2 (by simp; omega)
  have HG2 := Lib.hid (oth_trans (oth_below B B0) g2)
  have e0 := h2.c0
  have e1 := h2.c1
  have e2 := h2.c2
  have f0 := h2.f0
  have f1 := h2.f1
  have f2 := h2.f2
  have k0 := kb2.k0
  have k1 := kb2.k1
  have k2 := kb2.k2
  clear hev kb kb2 B0 h1 h2 g2
  go_wp2_with fail
  go_loopw [10, 11, 12] (fun e v i wr => e = .int .i64 ev ∧ i = .int .u64 0 ∧ w2 = wr) (fun _ _ _ _ => 0)
  case atStart => exact ⟨rfl, rfl, rfl⟩
  case round =>
    obtain ⟨rfl, rfl, rfl⟩ := hrel
    go_wp2_with fail
    go_ret2
    exact ⟨⟨ev, HEV.out, rfl⟩, oth_trans HG2.out (oth_trans (oth_set _ _ _ _) (oth_trans (oth_set _ _ _ _) (oth_set _ _ _ _)))⟩
theorem end_left {W : World} {B : Nat} {ad : Option Addr} {cap n : Nat} {L : List Int} {p : Nat} (h : Rdr W B ad cap n L p) (hn : n ≤ 1000000) (hp : p < n) :
    Calls Tryd.prog 26 #[.pointer (some ⟨B, 0, none⟩)] W fun r w' => r = .returned (.int .i64 4) ∧ Below W.heap.size W w' := by
  have H := Lib.hid h
  have hl := left_law h hn
  obtain ⟨m, hm⟩ : ∃ m, n - p = m := ⟨_, rfl⟩
  rw [hm] at hl
  have hm0 : (0 : Int) < (m : Int) := by omega
  have HLL := Lib.hid hl
  clear h hl hm
  go_enter Tryd.func26, Tryd.ntmps26
  go_wp2_with fail
  refine (none_law H.out).mono ?_; rintro e w' ⟨rfl, rfl⟩
  go_wp2_with fail
  refine HLL.out.mono ?_; rintro e w2 ⟨rfl, B2⟩
  go_wp2_with fail
  go_ret
  exact ⟨rfl, B2⟩
/-- Fields that may be a row's. -/
def VF (fs : List (List Int)) : Prop := 1 ≤ fs.length ∧ fs.length ≤ 3 ∧ ∀ f ∈ fs, f.length ≤ 24
def encR (fs : List (List Int)) : List Int := (fs.length : Int) :: fsL fs
set_option maxRecDepth 100000 in
set_option maxHeartbeats 2000000 in
theorem read_fail (a : Option Addr) (L : List Int) (n cap : Nat) (hL : L.length = n) (hn : n ≤ 1000000) (hB : Byt L) (hno : ∀ fs, VF fs → L ≠ encR fs) (w : World) (hA : Ls .u8 w a cap L) :
    Calls Tryd.prog 7 #[.slice a n cap] w fun r w' => r = .returned (.tuple #[.slice none 0 0, .int .i64 4]) ∧ Below w.heap.size w w' := by
  have H1 := Lib.hid (open_law a L n cap hL hn w hA)
  have HB := Lib.hid hB
  have HN := Lib.hid hn
  have HNO := Lib.hid hno
  have HLN := Lib.hid hL
  clear hL hA hB hno hn
  go_enter Tryd.func7, Tryd.ntmps7
  go_wp2_with fail
  refine H1.out.mono ?_; rintro e w1 ⟨B, ad, c, rfl, r1, hB, B1⟩
  have hsz := r1.lt
  have R1 := Lib.hid r1
  have BB1 := Lib.hid B1
  clear r1 B1
  by_cases hbad : 0 = n ∨ (0 < n ∧ (3 : Int) < L.getD 0 0)
  · have HT := Lib.hid (take_bad R1.out HN.out HB.out hbad)
    clear hbad
    go_wp2_with fail
    refine HT.out.mono ?_; rintro r w2 ⟨⟨ev, hev, rfl⟩, g2⟩
    obtain ⟨z1, z2, z3⟩ := hev.ne
    have HB2 := Lib.hid (below_oth BB1.out g2 BB1.out.size hB)
    clear hev g2
    go_wp2_with fail
    go_ret2
    exact ⟨rfl, HB2.out⟩
  · obtain ⟨c0, D, hcd, hc3⟩ : ∃ (c0 : Nat) (D : List Int), L = (c0 : Int) :: D ∧ c0 ≤ 3 := by
      have hl := HLN.out
      cases L with
      | nil => exact absurd (.inl (by simpa using hl)) hbad
      | cons x D =>
        have hx := HB.out x (by simp)
        have h0 : 0 < n := by rw [← hl]; simp
        have h3 : ¬ (3 : Int) < x := fun h => hbad (.inr ⟨h0, by simpa using h⟩)
        exact ⟨x.toNat, D, by rw [Int.toNat_of_nonneg hx.1], by omega⟩
    obtain ⟨fs, tl, he, hl, hk, hor⟩ := split_fs c0 D (fun x hx => HB.out x (by rw [hcd]; simp [hx]))
    have heq : L = (c0 : Int) :: (fsL fs ++ tl) := by rw [hcd, he]
    have htl : tl.length ≤ n := by rw [← HLN.out, heq]; simp; omega
    have HT := Lib.hid (take_gen R1.out HN.out HB.out c0 fs tl heq hc3 hk hl (hor.imp id (fun hb => badF_of HLN.out ((c0 : Int) :: fsL fs) (by rw [heq]; rfl) hb)))
    have HV := Lib.hid (show fs.length = c0 → tl = [] → c0 = 0 from fun h1 h2 => by
      rcases Nat.eq_zero_or_pos c0 with h | h
      · exact h
      · exact absurd (show L = encR fs by rw [heq, h2]; unfold encR; rw [h1]; simp) (HNO.out fs ⟨by omega, by omega, hl⟩))
    have HTL := Lib.hid htl
    clear hbad hcd he hl hk hor heq htl
    go_wp2_with fail
    refine HT.out.mono ?_; rintro r w2 ⟨hp, g2⟩
    have HB2 := Lib.hid (below_oth BB1.out g2 BB1.out.size hB)
    clear g2
    rcases hp with ⟨hfc, a', c', R, rfl, hRm, hR, r2⟩ | ⟨_, ev, hev, rfl⟩
    · by_cases ht : tl = []
      · have h0 := HV.out hfc ht
        subst ht h0
        have r3 : Rdr w2 B ad c n L n := by simpa using r2
        have hR0 : R = [] := by
          have : (R.map P1.bs).length = 0 := by rw [hRm, hfc]
          simpa using this
        have HE := Lib.hid (end_law r3 HN.out)
        have HM := Lib.hid (fun W => mayr_law a' [] 0 c' rfl (by omega) W (RdR.nil _ _))
        clear hfc hRm hR r2 r3 hR0
        go_wp2_with fail
        refine HE.out.mono ?_; rintro r w3 ⟨rfl, B3⟩
        have hmay : mayR [] = false := by rfl
        rw [hmay] at HM
        go_wp2_with fail
        refine (HM.out _).mono ?_; rintro r w4 ⟨rfl, B4⟩
        go_wp2_with fail
        go_ret2
        exact ⟨rfl, step_below (step_below HB2.out B3) B4⟩
      · have hp : n - tl.length < n := by
          have := HTL.out
          have : 0 < tl.length := List.length_pos_iff.2 ht
          omega
        have HE := Lib.hid (end_left r2 HN.out hp)
        clear hfc hRm hR r2 ht hp
        go_wp2_with fail
        refine HE.out.mono ?_; rintro r w3 ⟨rfl, B3⟩
        go_wp2_with fail
        go_ret2
        exact ⟨rfl, step_below HB2.out B3⟩
    · obtain ⟨z1, z2, z3⟩ := hev.ne
      clear hev
      go_wp2_with fail
      go_ret2
      exact ⟨rfl, HB2.out⟩
end Go.Proofs.YtkgcbhpgkcfkhaaDoor
