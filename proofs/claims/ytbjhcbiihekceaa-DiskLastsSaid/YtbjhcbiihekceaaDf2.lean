/- Disks of the document: New, find, Used, ask. -/
import Derived.Test.YtbjhcbiihekceaaDf1
import Derived.Test.YtbjhcbiihekceaaDc3
namespace Go.Proofs.Ytbjhcbiihekceaa
open Go.ChangeShapes Go.WideShapes Go.ChangeAt Go.RowKit Go.Maps
set_option linter.unusedVariables false
set_option linter.unusedSimpArgs false
theorem str_eq (a b : ByteArray) : (a.toList == b.toList) = decide (a = b) := by
  rw [ByteArray.toList_eq, ByteArray.toList_eq, Bool.eq_iff_iff]
  simp
  exact ⟨fun e => ByteArray.ext e, fun e => by rw [e]⟩
/-- New (13). -/
theorem rnew_law (room : Nat) (h1 : 1024 ≤ room) (h2 : room ≤ 1048576) (w : World) : Calls Try.prog 13 #[.int .i64 room] w fun e w' => e = .returned (.pointer (some ⟨w.heap.size, 0, none⟩)) ∧ RDC w' w.heap.size room [] (fun k => w.heap.size ≤ k) ∧ Below w.heap.size w w' := by
  have g1 : ¬ (room : Int) < 1024 := by omega
  have g2 : ¬ (1048576 : Int) < (room : Int) := by omega
  go_enter Try.func13, Try.ntmps13
  go_wp2
  go_ret
  refine ⟨rfl, ⟨[], none, 0, ⟨BoxC.new w #[.int .i64 room, .slice none 0 0] 97, ⟨rfl, Or.inl ⟨rfl, rfl⟩⟩, by simp⟩, rfl, fun k hk => ?_⟩, bl1 _ _⟩
  rcases hk with rfl | ⟨g, e, _⟩ | ⟨f, hf, _⟩
  · exact Nat.le_refl _
  · cases e
  · cases hf
theorem rnew_bad (N : Int) (h1 : N < 1024 ∨ 1048576 < N) (w : World) : Calls Try.prog 13 #[.int .i64 N] w fun e w' => e = .returned (.pointer none) ∧ w = w' := by
  by_cases h : N < 1024
  · clear h1
    go_enter Try.func13, Try.ntmps13
    go_wp2
    go_ret
    exact ⟨rfl, rfl⟩
  · have h2 : 1048576 < N := by omega
    have h3 : ¬ N < 1024 := h
    clear h h1
    go_enter Try.func13, Try.ntmps13
    go_wp2
    go_ret
    exact ⟨rfl, rfl⟩
/-- Where a name is; -1: nowhere. -/
def FIdx (L : List Fil) (s : ByteArray) (r : Int) : Prop := (∃ (i : Nat) (f : Fil), L[i]? = some f ∧ f.nm = s ∧ r = (i : Int)) ∨ ((∀ f ∈ L, f.nm ≠ s) ∧ r = -1)
set_option maxHeartbeats 1000000 in
/-- find (99). -/
theorem rfind_law {w : World} {q room : Nat} {L : List Fil} {a : Option Addr} {cap : Nat} (h : RDk w q room L a cap) (hl : L.length ≤ 64) (s : ByteArray) : Calls Try.prog 99 #[.pointer (some ⟨q, 0, none⟩), .string s] w fun e w' => (∃ r, e = .returned (.int .i64 r) ∧ FIdx L s r) ∧ w = w' := by
  have H := Lib.hid h
  have c1 := h.c1
  obtain ⟨n, hn⟩ : ∃ n, L.length = n := ⟨_, rfl⟩
  have HN := Lib.hid hn
  rw [hn] at c1 hl
  clear h hn
  go_enter Try.func99, Try.ntmps99
  go_wp2
  go_loop [5] (fun i => ∃ k : Nat, k ≤ n ∧ i = .int .i64 (k : Int) ∧ ∀ j < k, ∀ f, L[j]? = some f → f.nm ≠ s) (fun i => n - (intOf i).toNat)
  case atStart => exact ⟨0, Nat.zero_le _, rfl, fun j hj => absurd hj (by omega)⟩
  case round =>
    obtain ⟨k, hk, rfl, hpre⟩ := hrel
    have HP := Lib.hid hpre
    clear hpre
    by_cases hlt : k < n
    · have hkl : (k : Int) < (n : Int) := by omega
      obtain ⟨f, hf⟩ : ∃ f, L[k]? = some f := ⟨_, List.getElem?_eq_getElem (by rw [HN.out]; exact hlt)⟩
      obtain ⟨g, rfl, hg, x1, x2, x3⟩ := H.out.file hf
      have HF := Lib.hid hf
      clear hf x2 x3
      by_cases he : f.nm = s
      · have d1 : (f.nm.toList == s.toList) = true := by rw [str_eq, decide_eq_true he]
        have HE := Lib.hid he
        clear he
        go_wp2
        go_ret
        exact ⟨⟨_, rfl, Or.inl ⟨k, f, HF.out, HE.out, rfl⟩⟩, rfl⟩
      · have d1 : (f.nm.toList == s.toList) = false := by rw [str_eq, decide_eq_false he]
        have HE := Lib.hid he
        clear he
        go_wp2
        go_round
        case rel =>
          refine ⟨k + 1, by omega, by go_num, fun j hj f' hf' => ?_⟩
          by_cases e : j = k
          · subst e
            rw [HF.out] at hf'; cases hf'; exact HE.out
          · exact HP.out j (by omega) f' hf'
        case measure => simp [intOf]; omega
    · have hkl : ¬ (k : Int) < (n : Int) := by omega
      go_wp2
      go_ret
      refine ⟨⟨_, rfl, Or.inr ⟨fun f hf => ?_, rfl⟩⟩, rfl⟩
      obtain ⟨j, hj⟩ := List.getElem?_of_mem hf
      have := (List.getElem?_eq_some_iff.1 hj).1
      rw [HN.out] at this
      exact HP.out j (by omega) f hj
theorem sum_take {L : List Fil} {k : Nat} {f : Fil} (hf : L[k]? = some f) : ((L.take (k + 1)).map fun f => f.bs.length).sum = ((L.take k).map fun f => f.bs.length).sum + f.bs.length := by
  rw [take_snoc hf]; simp
theorem sum_take_le (L : List Fil) (k : Nat) : ((L.take k).map fun f => f.bs.length).sum ≤ (L.map fun f => f.bs.length).sum := by
  conv => rhs; rw [← List.take_append_drop k L]
  rw [List.map_append, List.sum_append]; omega
set_option maxHeartbeats 1000000 in
/-- Used (56). -/
theorem rused_dk {w : World} {q room : Nat} {L : List Fil} {a : Option Addr} {cap : Nat} (h : RDk w q room L a cap) (hl : L.length ≤ 64) (hu : (L.map fun f => f.bs.length).sum ≤ 1048576) : Calls Try.prog 56 #[.pointer (some ⟨q, 0, none⟩)] w fun e w' => e = .returned (.int .i64 ((L.map fun f => f.bs.length).sum : Nat)) ∧ w = w' := by
  have H := Lib.hid h
  have c1 := h.c1
  obtain ⟨n, hn⟩ : ∃ n, L.length = n := ⟨_, rfl⟩
  have HN := Lib.hid hn
  have HU := Lib.hid hu
  rw [hn] at c1 hl
  clear h hn hu
  go_enter Try.func56, Try.ntmps56
  go_wp2
  go_loop [3, 4] (fun t i => ∃ k : Nat, k ≤ n ∧ i = .int .i64 (k : Int) ∧ t = .int .i64 (((L.take k).map fun f => f.bs.length).sum : Nat)) (fun _ i => n - (intOf i).toNat)
  case atStart => exact ⟨0, Nat.zero_le _, rfl, by simp⟩
  case round =>
    obtain ⟨k, hk, rfl, rfl⟩ := hrel
    by_cases hlt : k < n
    · have hkl : (k : Int) < (n : Int) := by omega
      obtain ⟨f, hf⟩ : ∃ f, L[k]? = some f := ⟨_, List.getElem?_eq_getElem (by rw [HN.out]; exact hlt)⟩
      obtain ⟨g, rfl, hg, x1, x2, x3⟩ := H.out.file hf
      have HS := Lib.hid (sum_take hf)
      have hle := Nat.le_trans (sum_take_le L (k + 1)) HU.out
      rw [HS.out] at hle
      clear hf x1 x3
      obtain ⟨S, hS⟩ : ∃ S, ((L.take k).map fun f => f.bs.length).sum = S := ⟨_, rfl⟩
      rw [hS] at hle HS ⊢
      clear hS
      go_wp2
      go_round
      case rel => exact ⟨k + 1, by omega, by go_num, by rw [HS.out]; go_num⟩
      case measure => simp [intOf]; omega
    · have hkl : ¬ (k : Int) < (n : Int) := by omega
      have ht : L.take k = L := List.take_of_length_le (by rw [HN.out]; omega)
      rw [ht]
      clear ht
      go_wp2
      go_ret
      exact ⟨rfl, rfl⟩
/-- What ask answers. -/
def AskR (L : List Fil) (s : ByteArray) (r E : Int) : Prop := (mayB s = false ∧ r = -1 ∧ E = 2) ∨ (mayB s = true ∧ (∀ f ∈ L, f.nm ≠ s) ∧ r = -1 ∧ E = 6) ∨ (mayB s = true ∧ ∃ (i : Nat) (f : Fil), L[i]? = some f ∧ f.nm = s ∧ r = (i : Int) ∧ E = 0)
set_option maxHeartbeats 1000000 in
/-- ask (96). -/
theorem rask_law {w : World} {q room : Nat} {L : List Fil} {a : Option Addr} {cap : Nat} (h : RDk w q room L a cap) (hl : L.length ≤ 64) (s : ByteArray) (hs : s.size ≤ maxLen) : Calls Try.prog 96 #[.pointer (some ⟨q, 0, none⟩), .string s] w fun e w' => (∃ r E, e = .returned (.tuple #[.int .i64 r, .int .i64 E]) ∧ AskR L s r E) ∧ w = w' := by
  have H := Lib.hid h
  clear h
  cases hm : mayB s with
  | false =>
    have HM := Lib.hid hm
    clear hm
    go_enter Try.func96, Try.ntmps96
    go_wp2_with (go_at_call 28; refine (rmay_law s hs w).mono ?_; rintro e w' ⟨rfl, rfl⟩; rw [HM.out])
    go_ret2
    exact ⟨⟨_, _, rfl, Or.inl ⟨HM.out, rfl, rfl⟩⟩, rfl⟩
  | true =>
    have HM := Lib.hid hm
    clear hm
    go_enter Try.func96, Try.ntmps96
    go_wp2_with fail
    refine (rmay_law s hs w).mono ?_
    rintro e w' ⟨rfl, rfl⟩
    rw [HM.out]
    go_wp2_with fail
    refine (rfind_law H.out hl s).mono ?_
    rintro e w' ⟨⟨r, rfl, hr⟩, rfl⟩
    rcases hr with ⟨i, f, h1, h2, rfl⟩ | ⟨h1, rfl⟩
    · have H1 := Lib.hid h1
      have H2 := Lib.hid h2
      have d1 : ¬ (i : Int) < 0 := by omega
      clear h1 h2
      go_wp2
      go_ret2
      exact ⟨⟨_, _, rfl, Or.inr (Or.inr ⟨HM.out, i, f, H1.out, H2.out, rfl, rfl⟩)⟩, rfl⟩
    · have H1 := Lib.hid h1
      clear h1
      go_wp2
      go_ret2
      exact ⟨⟨_, _, rfl, Or.inr (Or.inl ⟨HM.out, H1.out, rfl, rfl⟩)⟩, rfl⟩
end Go.Proofs.Ytbjhcbiihekceaa
