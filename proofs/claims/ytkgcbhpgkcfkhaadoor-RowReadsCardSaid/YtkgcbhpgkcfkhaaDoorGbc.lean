/- Rows and words at their bounds, by contracts. -/
import Derived.Test.YtkgcbhpgkcfkhaaDoorGof
import Derived.Test.YtkgcbhpgkcfkhaaDoorKno
import Derived.Test.YtkgcbhpgkcfkhaaDoorSiz
namespace Go.Proofs.YtkgcbhpgkcfkhaaDoor
open Go.ChangeShapes Go.WideShapes Go.ChangeAt Go.RowKit
set_option linter.unusedVariables false
set_option linter.unusedSimpArgs false

def zs (n : Nat) : List Int := List.replicate n 0
theorem zs_length (n : Nat) : (zs n).length = n := by simp [zs]
theorem zs_byt (n : Nat) : Byt (zs n) := fun x hx => by
  rw [zs, List.mem_replicate] at hx
  omega
def FS : List (List Int) := [zs 24, zs 24, zs 24]
def U0 : List Int := wordsL (encR FS)
theorem rbytes_enc (R : List P1) : rbytesL R = encR (R.map P1.bs) := by
  unfold rbytesL encR manyL fsL
  rw [List.length_map, List.map_map]
  rfl
theorem fsL_inj : ∀ (fs gs : List (List Int)), fs.length = gs.length → fsL fs = fsL gs → fs = gs
  | [], [], _, _ => rfl
  | f :: fs, [], h, _ => by simp at h
  | [], g :: gs, h, _ => by simp at h
  | f :: fs, g :: gs, h, e => by
    rw [fsL_cons, fsL_cons] at e
    simp only [wbytesL, List.cons_append, List.cons.injEq] at e
    obtain ⟨e1, e2⟩ := e
    have hl : f.length = g.length := by omega
    obtain ⟨e3, e4⟩ := List.append_inj e2 hl
    rw [e3, fsL_inj fs gs (by simpa using h) e4]
theorem encR_inj {fs gs : List (List Int)} (h : encR fs = encR gs) : fs = gs := by
  unfold encR at h
  simp only [List.cons.injEq] at h
  exact fsL_inj fs gs (by omega) h.2
theorem FS_vf : VF FS := ⟨by decide, by decide, fun f hf => by
  simp only [FS, List.mem_cons, List.not_mem_nil, or_false, or_self] at hf
  subst hf
  rw [zs_length]
  omega⟩
theorem all_zero {l : List Int} (h : l.all (· == 0) = true) (i : Nat) : l.getD i 0 = 0 := by
  by_cases hi : i < l.length
  · have := List.all_eq_true.1 h l[i] (List.getElem_mem hi)
    simp only [List.getD, List.getElem?_eq_getElem hi, Option.getD_some]
    simpa using this
  · simp [List.getD, List.getElem?_eq_none (by omega : l.length ≤ i)]
theorem U0_len : U0.length = 11 := by decide +kernel
theorem U0_bd : ∀ x ∈ U0, 0 ≤ x ∧ x ≤ 18446744073709551615 := by
  have h : U0.all (fun x => decide (0 ≤ x ∧ x ≤ 18446744073709551615)) = true := by decide +kernel
  intro x hx
  simpa using List.all_eq_true.1 h x hx
theorem U0_head : HeadT U0 := ⟨by rw [U0_len]; omega, by rw [U0_len]; omega, by decide +kernel, by decide +kernel, fun i => all_zero (by decide +kernel) i⟩
theorem U0_bytes : headB U0 = encR FS := by decide +kernel
theorem of_bad (a : Option Addr) (U : List Int) (m cap : Nat) (hm : U.length = m) (hm9 : m ≤ 1000000) (hU : ∀ x ∈ U, 0 ≤ x ∧ x ≤ 18446744073709551615) (hno : ¬ HeadT U) (w : World) (hA : Ls .u64 w a cap U) :
    Calls Tryd.prog 9 #[.slice a m cap] w fun r w' => r = .returned (.tuple #[.slice none 0 0, .int .i64 4]) ∧ Below w.heap.size w w' :=
  (of_law a U m cap hm hm9 hU w hA).mono fun r w' ⟨hr, hb⟩ => by
    rcases hr with ⟨fs, a', c', R, h, _⟩ | ⟨_, h⟩
    · exact absurd h hno
    · exact ⟨h, hb⟩
theorem of_full (a : Option Addr) (cap : Nat) (w : World) (hA : Ls .u64 w a cap U0) :
    Calls Tryd.prog 9 #[.slice a 11 cap] w fun r w' => (∃ a' c' R, r = .returned (.tuple #[.slice a' 3 c', .int .i64 0]) ∧ R.map P1.bs = FS ∧ RdR w' a' R) ∧ Below w.heap.size w w' :=
  (of_law a U0 11 cap U0_len (by omega) U0_bd w hA).mono fun r w' ⟨hr, hb⟩ => by
    rcases hr with ⟨fs, a', c', R, _, _, he, h1, h2, h3⟩ | ⟨h, _⟩
    · have : fs = FS := encR_inj (he.symm.trans U0_bytes)
      subst this
      exact ⟨⟨a', c', R, h1, h2, h3⟩, hb⟩
    · exact absurd U0_bytes (h FS FS_vf U0_head)
theorem of_nil (w : World) : Calls Tryd.prog 9 #[.slice none 0 0] w fun r w' => r = .returned (.tuple #[.slice none 0 0, .int .i64 4]) ∧ Below w.heap.size w w' :=
  of_bad none [] 0 0 rfl (by omega) (fun x hx => by simp at hx) (fun h => by have := h.1; simp at this) w (Ls.nul _ _)
theorem of_twelve (a : Option Addr) (cap : Nat) (w : World) (hA : Ls .u64 w a cap (U0 ++ [0])) : Calls Tryd.prog 9 #[.slice a 12 cap] w fun r w' => r = .returned (.tuple #[.slice none 0 0, .int .i64 4]) ∧ Below w.heap.size w w' :=
  of_bad a (U0 ++ [0]) 12 cap (by rw [List.length_append, U0_len]; rfl) (by omega) (fun x hx => by
    rcases List.mem_append.1 hx with h | h
    · exact U0_bd x h
    · rw [List.mem_singleton] at h; omega) (fun h => by have := h.2.1; rw [List.length_append, U0_len] at this; simp at this) w hA
theorem lit_bd {U : List Int} (h : U.all (fun x => decide (0 ≤ x ∧ x ≤ 18446744073709551615)) = true) : ∀ x ∈ U, 0 ≤ x ∧ x ≤ 18446744073709551615 := fun x hx => by
  simpa using List.all_eq_true.1 h x hx
theorem of_j (a : Option Addr) (cap : Nat) (w : World) (hA : Ls .u64 w a cap [3, 72445721642532865]) : Calls Tryd.prog 9 #[.slice a 2 cap] w fun r w' => r = .returned (.tuple #[.slice none 0 0, .int .i64 4]) ∧ Below w.heap.size w w' :=
  of_bad a _ 2 cap rfl (by omega) (lit_bd (by decide +kernel)) (fun h => absurd (h.2.2.2.2 4) (by decide +kernel)) w hA
theorem of_k (a : Option Addr) (cap : Nat) (w : World) (hA : Ls .u64 w a cap [3, 72445721642532864, 0]) : Calls Tryd.prog 9 #[.slice a 3 cap] w fun r w' => r = .returned (.tuple #[.slice none 0 0, .int .i64 4]) ∧ Below w.heap.size w w' :=
  of_bad a _ 3 cap rfl (by omega) (lit_bd (by decide +kernel)) (fun h => absurd h.2.2.2.1 (by decide +kernel)) w hA
theorem of_l (a : Option Addr) (cap : Nat) (w : World) (hA : Ls .u64 w a cap [2, 72445721642532864]) : Calls Tryd.prog 9 #[.slice a 2 cap] w fun r w' => r = .returned (.tuple #[.slice none 0 0, .int .i64 4]) ∧ Below w.heap.size w w' :=
  of_bad a _ 2 cap rfl (by omega) (lit_bd (by decide +kernel)) (fun h => absurd (h.2.2.2.2 0) (by decide +kernel)) w hA
theorem of_m (a : Option Addr) (cap : Nat) (w : World) (hA : Ls .u64 w a cap [4611686018427387904]) : Calls Tryd.prog 9 #[.slice a 1 cap] w fun r w' => r = .returned (.tuple #[.slice none 0 0, .int .i64 4]) ∧ Below w.heap.size w w' :=
  of_bad a _ 1 cap rfl (by omega) (lit_bd (by decide +kernel)) (fun h => absurd h.2.2.1 (by decide +kernel)) w hA
theorem read4 (a : Option Addr) (cap : Nat) (w : World) (hA : Ls .u8 w a cap [4, 0, 0, 0, 0]) : Calls Tryd.prog 7 #[.slice a 5 cap] w fun r w' => r = .returned (.tuple #[.slice none 0 0, .int .i64 4]) ∧ Below w.heap.size w w' :=
  read_fail a _ 5 cap rfl (by omega) (fun x hx => by simp at hx; omega) (fun fs hv e => by
    unfold encR at e
    simp only [List.cons.injEq] at e
    have := hv.2.1
    omega) w hA
theorem read0 (a : Option Addr) (cap : Nat) (w : World) (hA : Ls .u8 w a cap [0]) : Calls Tryd.prog 7 #[.slice a 1 cap] w fun r w' => r = .returned (.tuple #[.slice none 0 0, .int .i64 4]) ∧ Below w.heap.size w w' :=
  read_fail a _ 1 cap rfl (by omega) (fun x hx => by simp at hx; omega) (fun fs hv e => by
    unfold encR at e
    simp only [List.cons.injEq] at e
    have := hv.1
    omega) w hA
theorem split025 (a : Option Addr) (cap : Nat) (w : World) (hA : Ls .u8 w a cap [0, 2, 5]) : Calls Tryd.prog 17 #[.slice a 3 cap] w fun r w' => ∃ a1 c1 a2 c2, r = .returned (.tuple #[.slice a1 0 c1, .slice a2 0 c2, .int .i64 4]) ∧ Below w.heap.size w w' :=
  (split_law a [0, 2, 5] 3 cap rfl (by omega) [] [] 4 (by decide) w hA).mono fun r w' ⟨a1, c1, a2, c2, h, _, _, hb⟩ => ⟨a1, c1, a2, c2, h, hb⟩
theorem split01 (a : Option Addr) (cap : Nat) (w : World) (hA : Ls .u8 w a cap [0, 1]) : Calls Tryd.prog 17 #[.slice a 2 cap] w fun r w' => ∃ a1 c1 a2 c2, r = .returned (.tuple #[.slice a1 0 c1, .slice a2 0 c2, .int .i64 4]) ∧ Below w.heap.size w w' :=
  (split_law a [0, 1] 2 cap rfl (by omega) [] [] 4 (by decide) w hA).mono fun r w' ⟨a1, c1, a2, c2, h, _, _, hb⟩ => ⟨a1, c1, a2, c2, h, hb⟩
/-- The full row's facts. -/
structure Full (W : World) (a : Option Addr) (R : List P1) : Prop where
  bs : R.map P1.bs = FS
  rd : RdR W a R
theorem Full.len {W : World} {a : Option Addr} {R : List P1} (h : Full W a R) : R.length = 3 := by
  have := congrArg List.length h.bs
  simpa [FS] using this
theorem Full.byt {W : World} {a : Option Addr} {R : List P1} (h : Full W a R) : ∀ p ∈ R, Byt p.bs := fun p hp => by
  have : p.bs ∈ FS := by rw [← h.bs]; exact List.mem_map.2 ⟨p, hp, rfl⟩
  simp only [FS, List.mem_cons, List.not_mem_nil, or_false, or_self] at this
  rw [this]; exact zs_byt 24
theorem Full.may {W : World} {a : Option Addr} {R : List P1} (h : Full W a R) : mayR R = true := by
  refine (mayR_iff R).2 ⟨fun p hp => ?_, by rw [h.len]; omega, by rw [h.len]; omega⟩
  have : p.bs ∈ FS := by rw [← h.bs]; exact List.mem_map.2 ⟨p, hp, rfl⟩
  exact FS_vf.2.2 _ this
theorem Full.below {W W' : World} {a : Option Addr} {R : List P1} (h : Full W a R) (b : Below W.heap.size W W') : Full W' a R := ⟨h.bs, h.rd.below b⟩
theorem Full.bytes {W : World} {a : Option Addr} {R : List P1} (h : Full W a R) (cap : Nat) : Calls Tryd.prog 14 #[.slice a 3 cap] W fun r w' => (∃ a' c', r = .returned (.tuple #[.slice a' 76 c', .int .i64 0])) ∧ Below W.heap.size W w' := by
  have he : (rbytesL R).length = 76 := by rw [rbytes_enc, h.bs]; decide +kernel
  have hb := bytes_ok a R 3 cap h.len h.may W h.rd
  rw [he] at hb
  exact hb.mono fun r w' ⟨a', c', h1, _, h3⟩ => ⟨⟨a', c', h1⟩, h3⟩
theorem Full.words {W : World} {a : Option Addr} {R : List P1} (h : Full W a R) (cap : Nat) : Calls Tryd.prog 15 #[.slice a 3 cap] W fun r w' => ∃ a' c', r = .returned (.tuple #[.slice a' 11 c', .int .i64 0]) ∧ Ls .u64 w' a' c' U0 ∧ Below W.heap.size W w' := by
  have hw := words_ok a R 3 cap h.len h.may h.byt W h.rd
  rw [rbytes_enc, h.bs] at hw
  rw [show (wordsL (encR FS)).length = 11 from U0_len] at hw
  exact hw
theorem Full.same {W : World} {a b : Option Addr} {R S : List P1} (h : Full W a R) (k : Full W b S) (ca cb : Nat) : Calls Tryd.prog 11 #[.slice a 3 ca, .slice b 3 cb] W fun r w' => r = .returned (.bool true) ∧ Below W.heap.size W w' := by
  have hs := rsame_law a b R S 3 3 ca cb h.len k.len (by omega) h.byt k.byt W h.rd k.rd
  rw [show eqB R S = true from decide_eq_true (by rw [h.bs, k.bs])] at hs
  exact hs
theorem bytes4 (a : Option Addr) (R : List P1) (cap : Nat) (hn : R.length = 4) (W : World) (hR : RdR W a R) : Calls Tryd.prog 14 #[.slice a 4 cap] W fun r w' => r = .returned (.tuple #[.slice none 0 0, .int .i64 2]) ∧ Below W.heap.size W w' := by
  refine (bytes_bad a R 4 cap hn (by omega) ?_ W hR).mono fun r w' h => ?_
  · cases hm : mayR R with
    | false => rfl
    | true => have := ((mayR_iff R).1 hm).2.2; omega
  · exact h
theorem Full.same4 {W : World} {a b : Option Addr} {R S : List P1} (h : Full W a R) (hS : S.length = 4) (bS : ∀ p ∈ S, Byt p.bs) (k : RdR W b S) (ca cb : Nat) : Calls Tryd.prog 16 #[.slice a 3 ca, .slice b 4 cb] W fun r w' => r = .returned (.bool false) ∧ Below W.heap.size W w' := by
  have hs := same_law a b R S 3 4 ca cb h.len hS (by omega) h.byt bS W h.rd k
  rw [show eqB R S = false from decide_eq_false (fun e => by have := congrArg List.length e; rw [List.length_map, List.length_map, h.len, hS] at this; omega)] at hs
  exact hs
theorem samenil (b : Option Addr) (cb : Nat) (W : World) : Calls Tryd.prog 16 #[.slice none 0 0, .slice b 0 cb] W fun r w' => r = .returned (.bool true) ∧ Below W.heap.size W w' := by
  have hs := same_law none b [] [] 0 0 0 cb rfl rfl (by omega) (fun p hp => by simp at hp) (fun p hp => by simp at hp) W (RdR.nil _ _) (RdR.nil _ _)
  rw [show eqB [] [] = true from rfl] at hs
  exact hs
theorem entry82 (a b : Option Addr) (ca cb : Nat) (W : World) (hA : Ls .u8 W a ca (zs 24)) (hB : Ls .u8 W b cb (zs 32)) : Calls Tryd.prog 18 #[.slice a 24 ca, .slice b 32 cb] W fun r w' => (∃ a' c', r = .returned (.tuple #[.slice a' 82 c', .int .i64 0])) ∧ Below W.heap.size W w' := by
  have h := entry_ok a b (zs 24) (zs 32) 24 32 ca cb (zs_length _) (zs_length _) (by omega) (by decide) W hA hB
  rw [show (entryL (zs 24) (zs 32)).length = 82 by decide +kernel] at h
  exact h.mono fun r w' ⟨a', c', h1, _, h3⟩ => ⟨⟨a', c', h1⟩, h3⟩
theorem entry33 (b : Option Addr) (cb : Nat) (W : World) : Calls Tryd.prog 18 #[.slice none 0 0, .slice b 33 cb] W fun r w' => r = .returned (.tuple #[.slice none 0 0, .int .i64 2]) ∧ Below W.heap.size W w' :=
  entry_bad none b [] 0 33 0 cb rfl (.inr (by decide)) W (Ls.nul _ _)
end Go.Proofs.YtkgcbhpgkcfkhaaDoor
