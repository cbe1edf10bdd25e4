/- The reference's Words, by contracts. -/
import Derived.Test.YtkgcbhpgkcfkhaaRby
import Derived.Test.YtkgcbhpgkcfkhaaTel
import Derived.ProofKit
namespace Go.Proofs.Ytkgcbhpgkcfkhaa
open Go.ChangeShapes Go.WideShapes Go.ChangeAt Go.RowKit
set_option linter.unusedVariables false
set_option linter.unusedSimpArgs false

def hor (L : List Int) (i : Nat) : Nat → Int
  | 0 => 0
  | t + 1 => hor L i t * 256 + L.getD (i + t) 0
theorem hor_bd {L : List Int} (h : Byt L) (i t : Nat) (ht : t < 8) : 0 ≤ hor L i t ∧ hor L i t ≤ 72057594037927935 := by
  have B := fun j => getD_byt h (i + j)
  have b0 := B 0
  have b1 := B 1
  have b2 := B 2
  have b3 := B 3
  have b4 := B 4
  have b5 := B 5
  have b6 := B 6
  rcases lt8 ht with rfl | rfl | rfl | rfl | rfl | rfl | rfl | rfl <;> simp only [hor] <;> omega
theorem hor8 (L : List Int) (k : Nat) : hor L (8 * k) 8 = wv L k := by
  simp only [hor, wv, Nat.add_zero]
  omega
theorem getD_past {L : List Int} {n i : Nat} (hn : L.length = n) (h : ¬ i < n) : L.getD i 0 = 0 := by
  rw [List.getD, List.getElem?_eq_none (by omega)]; rfl
theorem wordsL_next (L : List Int) (k : Nat) (hk : k < (L.length + 7) / 8) : (wordsL L).take (1 + (k + 1)) = (wordsL L).take (1 + k) ++ [wv L k] := by
  rw [← Nat.add_assoc, List.take_add_one, wordsL_get L (1 + k) (by omega), mw, if_neg (by omega), List.take_length, show 1 + k - 1 = k by omega]
  rfl
theorem wordsL_one (L : List Int) : (wordsL L).take (1 + 0) = [(L.length : Int)] := by
  rw [Nat.add_comm, List.take_add_one, wordsL_get L 0 (by omega), mw, if_pos rfl]
  rfl
set_option maxRecDepth 100000 in
set_option maxHeartbeats 4000000 in
theorem refwords_law (a : Option Addr) (R : List P1) (n cap : Nat) (hn : R.length = n) (hm : mayR R = true) (hb : ∀ p ∈ R, Byt p.bs) (w : World) (hR : RdR w a R) :
    Calls Try.prog 25 #[.slice a n cap] w fun r w' => (∃ a' c', r = .returned (.slice a' (wordsL (rbytesL R)).length c') ∧ Ls .u64 w' a' c' (wordsL (rbytesL R))) ∧ Below w.heap.size w w' := by
  obtain ⟨h1, _, h3⟩ := (mayR_iff R).1 hm
  have HB := Lib.hid (rbytes_byt hb h1 h3)
  have hlen := rbytes_len hm
  have H := Lib.hid (refbytes_law a R n cap hn hm w hR)
  clear hn hm hb hR h1 h3
  generalize rbytesL R = L at *
  obtain ⟨N, hN⟩ : ∃ N, L.length = N := ⟨_, rfl⟩
  rw [hN] at hlen H
  have HN := Lib.hid hN
  have hNi : (N : Int) ≤ 76 := by omega
  have HW := Lib.hid (show (wordsL L).length = 1 + (N + 7) / 8 by rw [wordsL_length, hN])
  obtain ⟨lw, hlw⟩ : ∃ l, (wordsL L).length = l := ⟨_, rfl⟩
  rw [hlw]
  have HLW := Lib.hid hlw
  clear hN hlw
  go_enter Try.func25, Try.ntmps25
  go_wp2_with fail
  refine H.out.mono ?_; rintro e w1 ⟨⟨xa, xc, rfl, l1⟩, B1⟩
  have HL1 := Lib.hid (fun W (b : Below w1.heap.size w1 W) => l1.below b)
  have hs1 := B1.size
  have O1 : (w1.alloc (.cells #[.int .u64 (N : Int)] 40)).ownsRow w1.heap.size 40 1 (.slice (some ⟨w1.heap.size, 0, none⟩) 1 1) (1 + 0) (iv .u64 ((wordsL L).take (1 + 0))) := by
    rw [wordsL_one, HN.out]
    exact World.ownsRow_lit w1 #[.int .u64 (N : Int)] 1 (Nat.le_refl _) (by decide) rfl
  have HO1 := Lib.hid O1
  have HB1 := Lib.hid B1
  clear l1 O1 B1
  go_wp2_with fail
  go_loopw [4, 5] (fun v i wr => ∃ k : Nat, k ≤ (N + 7) / 8 ∧ i = .int .i64 ((8 * k : Nat) : Int) ∧ wr.ownsRow w1.heap.size 40 1 v (1 + k) (iv .u64 ((wordsL L).take (1 + k))) ∧ Below w1.heap.size w1 wr) (fun _ i _ => 100 - (intOf i).toNat)
  case atStart => exact ⟨0, by omega, rfl, HO1.out, (Below.refl _ _).alloc (Nat.le_refl _) _⟩
  case round =>
    clear HO1
    obtain ⟨k, hk, rfl, hown, B⟩ := hrel
    by_cases hlt : 8 * k < N
    · have hkl : ((8 * k : Nat) : Int) < (N : Int) := by omega
      obtain ⟨i, hi⟩ : ∃ i, 8 * k = i := ⟨_, rfl⟩
      rw [hi] at hkl
      rw [hi]
      have HI := Lib.hid hi
      have hi9 : (i : Int) ≤ 76 := by omega
      have hi8 : i ≤ 76 := by omega
      have HOWN := Lib.hid hown
      have BB := Lib.hid B
      have hsz : w1.heap.size ≤ wr.heap.size := B.size
      have L2 := HL1.out _ B
      have HL2 := Lib.hid L2
      clear hown B L2 hi
      go_wp2_with fail
      go_loopw [6, 7] (fun x j wq => ∃ t : Nat, t ≤ 8 ∧ j = .int .i64 ((i + t : Nat) : Int) ∧ x = .int .u64 (hor L i t) ∧ wq = wr) (fun _ j _ => 200 - (intOf j).toNat)
      case atStart => exact ⟨0, by omega, rfl, rfl, rfl⟩
      case round =>
        obtain ⟨t, ht, rfl, rfl, rfl⟩ := hrel
        obtain ⟨j, hj⟩ : ∃ j, i + t = j := ⟨_, rfl⟩
        rw [hj]
        have HJ := Lib.hid hj
        have hj9 : (j : Int) ≤ 100 := by omega
        have hj8 : j ≤ 100 := by omega
        by_cases ht8 : t < 8
        · have hjl : (j : Int) < (i : Int) + 8 := by omega
          have hbd := hor_bd HB.out i t ht8
          obtain ⟨x, hx⟩ : ∃ x, hor L i t = x := ⟨_, rfl⟩
          rw [hx] at hbd ⊢
          have HX := Lib.hid hx
          obtain ⟨hx0, hx1⟩ := hbd
          have hw1 : IntKind.u64.wrap (x * 256) = x * 256 := by rw [IntKind.wrap_u64]; omega
          clear hx hj
          by_cases hjN : j < N
          · have hjNl : (j : Int) < (N : Int) := by omega
            obtain ⟨b1, o1, e1, c1⟩ := HL2.out.get j (by rw [HN.out]; exact hjN)
            subst e1
            have hd := getD_byt HB.out j
            obtain ⟨d, hdd⟩ : ∃ d, L.getD j 0 = d := ⟨_, rfl⟩
            rw [hdd] at c1 hd
            have HD := Lib.hid hdd
            obtain ⟨hd0, hd1⟩ := hd
            have hw2 : IntKind.u64.wrap d = d := by rw [IntKind.wrap_u64]; omega
            have hw3 : IntKind.u64.wrap (x * 256 + d) = x * 256 + d := by rw [IntKind.wrap_u64]; omega
            clear hdd
            go_wp2_with fail
            go_roundw
            case rel => exact ⟨t + 1, by omega, by rw [← HJ.out]; go_num, by rw [hor, HX.out, HJ.out, HD.out], trivial⟩
            case measure => simp [intOf]; omega
          · have hjNl : ¬ (j : Int) < (N : Int) := by omega
            have HD := Lib.hid (getD_past HN.out hjN)
            go_wp2_with fail
            go_roundw
            case rel => exact ⟨t + 1, by omega, by rw [← HJ.out]; go_num, by rw [hor, HX.out, HJ.out, HD.out]; simp, trivial⟩
            case measure => simp [intOf]; omega
        · have hjl : ¬ (j : Int) < (i : Int) + 8 := by omega
          have hx : hor L i t = wv L k := by rw [show t = 8 by omega, ← HI.out, hor8]
          rw [hx]
          obtain ⟨x, hxx⟩ : ∃ x, wv L k = x := ⟨_, rfl⟩
          rw [hxx]
          have HX := Lib.hid hxx
          clear hx hxx hj
          go_wp2_with (at_builtin; refine append_ls eltW rfl (.tmp 40) (.tmp 42) rfl w1.heap.size _ (1 + k) (iv .u64 ((wordsL L).take (1 + k))) rfl (HOWN.out.alloc _) _ _ 1 [x] rfl rfl (ls_new .u64 _ [x] _ _ _ rfl 1 rfl) (by omega) (by simp; omega) ?_)
          intro v2 w3 hown3 hgrow3
          rw [← iv_append, ← HX.out, ← wordsL_next L k (by have := HN.out; have := HI.out; omega), Nat.add_assoc 1 k 1] at hown3
          have B4 := BB.out.trans (((Below.refl w1.heap.size wr).alloc hsz _).grown hgrow3 (by simp; omega) (fun j hj => (HOWN.out.lt j hj).1))
          have HO3 := Lib.hid hown3
          have HB4 := Lib.hid B4
          have HKN := Lib.hid (show k + 1 ≤ (N + 7) / 8 by have := HI.out; omega)
          clear hown3 hgrow3 B4
          go_wp2_with fail
          go_roundw
          case rel => exact ⟨k + 1, HKN.out, by rw [show 8 * (k + 1) = i + 8 by have := HI.out; omega]; go_num, HO3.out, HB4.out⟩
          case measure => simp [intOf]; omega
    · have hkl : ¬ ((8 * k : Nat) : Int) < (N : Int) := by omega
      have hke : 1 + k = lw := by have := HW.out; have := HLW.out; omega
      rw [hke, List.take_of_length_le (by rw [HLW.out]; exact Nat.le_refl _)] at hown
      obtain ⟨a', c', rfl, l', _⟩ := own_ls hown HLW.out
      have HB5 := Lib.hid (step_below HB1.out B)
      clear hown
      go_wp2_with fail
      go_ret
      exact ⟨⟨a', c', rfl, l'⟩, HB5.out⟩
end Go.Proofs.Ytkgcbhpgkcfkhaa
