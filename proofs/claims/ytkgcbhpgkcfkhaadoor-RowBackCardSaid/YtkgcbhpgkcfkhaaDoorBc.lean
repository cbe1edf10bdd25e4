/- RowBack's contracts. -/
import Derived.Test.YtkgcbhpgkcfkhaaDoorBl
namespace Go.Proofs.YtkgcbhpgkcfkhaaDoor
open Go.ChangeShapes Go.WideShapes Go.ChangeAt Go.RowKit
set_option linter.unusedVariables false
set_option linter.unusedSimpArgs false

theorem vf_of {R : List P1} (h : mayR R = true) : VF (R.map P1.bs) := by
  obtain ⟨h1, h2, h3⟩ := (mayR_iff R).1 h
  exact ⟨by rw [List.length_map]; omega, by rw [List.length_map]; omega, fun f hf => by obtain ⟨p, hp, rfl⟩ := List.mem_map.1 hf; exact h1 p hp⟩
theorem byt_enc {R : List P1} (h : mayR R = true) (hb : ∀ p ∈ R, Byt p.bs) : Byt (rbytesL R) := by
  obtain ⟨h1, h2, h3⟩ := (mayR_iff R).1 h
  exact rbytes_byt hb h1 h3
theorem rd_row (R : List P1) (n q : Nat) (hn : R.length = n) (hm : mayR R = true) (hb : ∀ p ∈ R, Byt p.bs) (hq : (rbytesL R).length = q) (a : Option Addr) (c : Nat) (W : World) (hA : Ls .u8 W a c (rbytesL R)) :
    Calls Tryd.prog 7 #[.slice a q c] W fun r w' => (∃ a2 c2 S, r = .returned (.tuple #[.slice a2 n c2, .int .i64 0]) ∧ S.map P1.bs = R.map P1.bs ∧ RdR w' a2 S) ∧ Below W.heap.size W w' :=
  (read_any a (rbytesL R) q c hq (by have := rbytes_len hm; omega) (byt_enc hm hb) W hA).mono fun r w' ⟨hr, hbl⟩ => by
    rcases hr with ⟨fs, a', c', S, _, he, h1, h2, h3⟩ | ⟨h, _⟩
    · have : fs = R.map P1.bs := encR_inj (he.symm.trans (rbytes_enc R))
      subst this
      rw [List.length_map, hn] at h1
      exact ⟨⟨a', c', S, h1, h2, h3⟩, hbl⟩
    · exact absurd (rbytes_enc R) (h _ (vf_of hm))
theorem wordsL_bd {L : List Int} (hB : Byt L) (hl : L.length ≤ 1000000) : ∀ x ∈ wordsL L, 0 ≤ x ∧ x ≤ 18446744073709551615 := fun x hx => by
  simp only [wordsL, List.mem_map, List.mem_range] at hx
  obtain ⟨j, hj, rfl⟩ := hx
  unfold mw
  split
  · omega
  · rw [List.take_length]
    have B := fun i => getD_byt hB (8 * (j - 1) + i)
    have b0 := B 0; have b1 := B 1; have b2 := B 2; have b3 := B 3; have b4 := B 4; have b5 := B 5; have b6 := B 6; have b7 := B 7
    rw [Nat.add_zero] at b0
    unfold wv
    omega
theorem of_row (R : List P1) (n q : Nat) (hn : R.length = n) (hm : mayR R = true) (hb : ∀ p ∈ R, Byt p.bs) (hq : (wordsL (rbytesL R)).length = q) (a : Option Addr) (c : Nat) (W : World) (hA : Ls .u64 W a c (wordsL (rbytesL R))) :
    Calls Tryd.prog 9 #[.slice a q c] W fun r w' => (∃ a2 c2 S, r = .returned (.tuple #[.slice a2 n c2, .int .i64 0]) ∧ S.map P1.bs = R.map P1.bs ∧ RdR w' a2 S) ∧ Below W.heap.size W w' := by
  have hl := rbytes_len hm
  obtain ⟨hH, hD⟩ := words_headT (rbytesL R) (byt_enc hm hb) (by omega)
  refine (of_law a (wordsL (rbytesL R)) q c hq (by rw [wordsL_length] at hq; omega) (wordsL_bd (byt_enc hm hb) (by omega)) W hA).mono fun r w' ⟨hr, hbl⟩ => ?_
  rcases hr with ⟨fs, a', c', S, _, _, he, h1, h2, h3⟩ | ⟨h, _⟩
  · have : fs = R.map P1.bs := encR_inj (he.symm.trans (hD.trans (rbytes_enc R)))
    subst this
    rw [List.length_map, hn] at h1
    exact ⟨⟨a', c', S, h1, h2, h3⟩, hbl⟩
  · exact absurd (hD.trans (rbytes_enc R)) (h _ (vf_of hm) hH)
theorem back_same {R S : List P1} {n : Nat} (hn : R.length = n) (hn3 : n ≤ 1000000) (hb : ∀ p ∈ R, Byt p.bs) (hs : S.map P1.bs = R.map P1.bs) (a b : Option Addr) (ca cb : Nat) (W : World) (hS : RdR W a S) (hR : RdR W b R) :
    Calls Tryd.prog 16 #[.slice a n ca, .slice b n cb] W fun r w' => r = .returned (.bool true) ∧ Below W.heap.size W w' := by
  have hl : S.length = n := by have := congrArg List.length hs; rw [List.length_map, List.length_map] at this; omega
  have bS : ∀ p ∈ S, Byt p.bs := fun p hp => by
    have : p.bs ∈ R.map P1.bs := by rw [← hs]; exact List.mem_map.2 ⟨p, hp, rfl⟩
    obtain ⟨q, hq, e⟩ := List.mem_map.1 this
    rw [← e]; exact hb q hq
  have h := same_law a b S R n n ca cb hl hn hn3 bS hb W hS hR
  rw [show eqB S R = true from decide_eq_true hs] at h
  exact h
theorem read_nil (W : World) : Calls Tryd.prog 7 #[.slice none 0 0] W fun r w' => r = .returned (.tuple #[.slice none 0 0, .int .i64 4]) ∧ Below W.heap.size W w' :=
  read_fail none [] 0 0 rfl (by omega) (fun x hx => by simp at hx) (fun fs hv e => by unfold encR at e; cases e) W (Ls.nul _ _)
theorem bytes_nil (W : World) : Calls Tryd.prog 14 #[.slice none 0 0] W fun r w' => r = .returned (.tuple #[.slice none 0 0, .int .i64 2]) ∧ Below W.heap.size W w' :=
  bytes_bad none [] 0 0 rfl (by omega) rfl W (RdR.nil _ _)
/-- What was read is written so again. -/
theorem bytes_read (L : List Int) (fs : List (List Int)) (hv : VF fs) (he : L = encR fs) (S : List P1) (hS : S.map P1.bs = fs) (q : Nat) (hq : L.length = q) (a : Option Addr) (c : Nat) (W : World) (hR : RdR W a S) :
    Calls Tryd.prog 14 #[.slice a fs.length c] W fun r w' => ∃ a' c', r = .returned (.tuple #[.slice a' q c', .int .i64 0]) ∧ Ls .u8 w' a' c' L ∧ Below W.heap.size W w' := by
  have hl : S.length = fs.length := by rw [← hS, List.length_map]
  have hm : mayR S = true := (mayR_iff S).2 ⟨fun p hp => hv.2.2 _ (by rw [← hS]; exact List.mem_map.2 ⟨p, hp, rfl⟩), by have := hv.1; omega, by have := hv.2.1; omega⟩
  have h := bytes_ok a S fs.length c hl hm W hR
  rw [rbytes_enc, hS, ← he, hq] at h
  exact h
/-- What Split says of any bytes, and what Entry makes of it. -/
theorem split_any (L : List Int) : splitV L = ([], [], 4) ∨ ∃ f k, splitV L = (f, k, 0) ∧ L = entryL f k ∧ f.length ≤ 24 ∧ mayK k.length = true := by
  cases h : splitL [] L with
  | none => exact .inl (by unfold splitV; rw [h]; rfl)
  | some p =>
    obtain ⟨f, h1, h2, h3, h4⟩ := split_back _ L [] p.1 p.2 (Nat.le_refl _) h
    refine .inr ⟨p.1, p.2, by unfold splitV; rw [h]; rfl, ?_, h3, h4⟩
    rw [h2, h1]; simp
theorem entry_nils (a b : Option Addr) (ca cb : Nat) (W : World) (hA : Ls .u8 W a ca []) : Calls Tryd.prog 18 #[.slice a 0 ca, .slice b 0 cb] W fun r w' => r = .returned (.tuple #[.slice none 0 0, .int .i64 2]) ∧ Below W.heap.size W w' :=
  entry_bad a b [] 0 0 ca cb rfl (.inr rfl) W hA
end Go.Proofs.YtkgcbhpgkcfkhaaDoor
