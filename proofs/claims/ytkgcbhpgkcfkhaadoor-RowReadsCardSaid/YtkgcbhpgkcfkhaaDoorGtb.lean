/- Fields that cannot be read, by contracts. -/
import Derived.Test.YtkgcbhpgkcfkhaaDoorGta
namespace Go.Proofs.YtkgcbhpgkcfkhaaDoor
open Go.ChangeShapes Go.WideShapes Go.ChangeAt Go.RowKit
set_option linter.unusedVariables false
set_option linter.unusedSimpArgs false

/-- An error of the reader's. -/
def Er (e : Int) : Prop := e = 3 ∨ e = 4
theorem Er.ne {e : Int} (h : Er e) : (e == 0) = false ∧ (e != 0) = true ∧ ¬ e = 0 := by
  rcases h with rfl | rfl <;> decide
set_option maxRecDepth 100000 in
set_option maxHeartbeats 2000000 in
theorem count_bad {W : World} {B : Nat} {ad : Option Addr} {cap n : Nat} {L : List Int} {p : Nat} (h : Rdr W B ad cap n L p) (hn : n ≤ 1000000) (hB : Byt L) (most : Nat) (hm : most ≤ 127) (hbad : p = n ∨ (p < n ∧ (most : Int) < L.getD p 0)) :
    Calls Tryd.prog 44 #[.pointer (some ⟨B, 0, none⟩), .int .i64 (most : Int)] W fun r w' => (∃ e : Int, Er e ∧ r = .returned (.tuple #[.int .u64 0, .int .i64 e])) ∧ (∃ q, Rdr w' B ad cap n L q) ∧ W.grownBy w' (some B) := by
  rcases hbad with rfl | ⟨hp, hc⟩
  · exact (count_end h hn most hm).mono fun r w' ⟨hr, hb⟩ => ⟨⟨4, .inr rfl, hr⟩, ⟨_, h.below hb⟩, oth_below B hb⟩
  · have hi : ¬ (most : Int) < 0 := by omega
    have hk : (most : Int) ≤ 127 := by omega
    obtain ⟨cb0, cb1⟩ := hB.get p (by rw [h.len]; exact hp)
    by_cases h128 : L.getD p 0 < 128
    · obtain ⟨c, hcc⟩ : ∃ c : Nat, L.getD p 0 = (c : Int) := ⟨(L.getD p 0).toNat, by omega⟩
      have H := Lib.hid (number_one h hn c hp hcc (by omega))
      have hj : (most : Int) < (c : Int) := by omega
      clear h hcc hc h128 cb0 cb1
      go_enter Tryd.func44, Tryd.ntmps44
      go_wp2_with fail
      refine H.out.mono ?_; rintro e w' ⟨rfl, h2, h3⟩
      go_wp2_with fail
      go_ret2
      exact ⟨⟨3, .inl rfl, rfl⟩, ⟨_, h2⟩, h3⟩
    · have H := Lib.hid (number_multi h hn hB hp (by omega))
      clear h hc h128 cb0 cb1
      go_enter Tryd.func44, Tryd.ntmps44
      go_wp2_with fail
      refine H.out.mono ?_; rintro e w' ⟨hr, h2, h3⟩
      rcases hr with rfl | ⟨v, hv, hv2, rfl⟩
      · go_wp2_with fail
        go_ret2
        exact ⟨⟨4, .inr rfl, rfl⟩, h2, h3⟩
      · have hj : (most : Int) < v := by omega
        go_wp2_with fail
        go_ret2
        exact ⟨⟨3, .inl rfl, rfl⟩, h2, h3⟩
/-- No field begins there. -/
def BadF (n : Nat) (L : List Int) (p : Nat) : Prop := (p = n ∨ (p < n ∧ (24 : Int) < L.getD p 0)) ∨ ∃ c : Nat, p < n ∧ L.getD p 0 = (c : Int) ∧ c ≤ 24 ∧ n - (p + 1) < c
set_option maxRecDepth 100000 in
set_option maxHeartbeats 4000000 in
theorem field_bad {W : World} {B : Nat} {ad : Option Addr} {cap n : Nat} {L : List Int} {p : Nat} (h : Rdr W B ad cap n L p) (hn : n ≤ 1000000) (hB : Byt L) (hbad : BadF n L p) :
    Calls Tryd.prog 25 #[.pointer (some ⟨B, 0, none⟩), .int .i64 24] W fun r w' => (∃ e : Int, Er e ∧ r = .returned (.tuple #[.slice none 0 0, .int .i64 e])) ∧ Rdr w' B ad cap n L p ∧ W.grownBy w' (some B) := by
  have c0 := h.c0
  have c1 := h.c1
  have c2 := h.c2
  have H := Lib.hid h
  have hbl := h.lt
  have hle := h.le
  have HLE := Lib.hid hle
  have HN := Lib.hid hn
  have HBY := Lib.hid hB
  have hni : (n : Int) ≤ 1000000 := by omega
  have hpi : (p : Int) ≤ (n : Int) := by omega
  clear h hB hle
  go_enter Tryd.func25, Tryd.ntmps25
  go_wp2_with fail
  refine (none_law H.out).mono ?_; rintro e w' ⟨rfl, rfl⟩
  go_wp2_with fail
  have B0 : Below W.heap.size W (W.alloc (.cells #[.slice ad n cap, .int .i64 (p : Int), .bool true] 80)) := (Below.refl _ _).alloc (Nat.le_refl _) _
  have h1 := H.out.below B0
  have k0 : (W.alloc (.cells #[.slice ad n cap, .int .i64 (p : Int), .bool true] 80)).cell? ⟨W.heap.size, 0, none⟩ = some (.slice ad n cap) := by rw [cell_new]; rfl
  have k1 : (W.alloc (.cells #[.slice ad n cap, .int .i64 (p : Int), .bool true] 80)).cell? ⟨W.heap.size, 1, none⟩ = some (.int .i64 (p : Int)) := by rw [cell_new]; rfl
  have k2 : (W.alloc (.cells #[.slice ad n cap, .int .i64 (p : Int), .bool true] 80)).cell? ⟨W.heap.size, 2, none⟩ = some (.bool true) := by rw [cell_new]; rfl
  have hsz : (W.alloc (.cells #[.slice ad n cap, .int .i64 (p : Int), .bool true] 80)).heap.size = W.heap.size + 1 := by simp
  clear c0 c1 c2
  generalize W.alloc (.cells #[.slice ad n cap, .int .i64 (p : Int), .bool true] 80) = W1 at B0 h1 k0 k1 k2 hsz ⊢
  have HSZ := Lib.hid hsz
  have HH1 := Lib.hid h1
  have HB0 := Lib.hid B0
  have K := Lib.hid (show ∀ w2, W1.grownBy w2 (some B) → w2.cell? ⟨W.heap.size, 0, none⟩ = some (.slice ad n cap) ∧ w2.cell? ⟨W.heap.size, 1, none⟩ = some (.int .i64 (p : Int)) ∧ w2.cell? ⟨W.heap.size, 2, none⟩ = some (.bool true) ∧ W.grownBy w2 (some B) from fun w2 g => ⟨g.cell k0 (by simp; omega), g.cell k1 (by simp; omega), g.cell k2 (by simp; omega), oth_trans (oth_below B B0) g⟩)
  clear hsz h1 B0 k0 k1 k2
  rcases hbad with hbad | ⟨c, hp, hc, hc24, hshort⟩
  · refine (count_bad HH1.out HN.out HBY.out 24 (by omega) hbad).mono ?_; rintro r w2 ⟨⟨e, he, rfl⟩, ⟨q, h2⟩, g2⟩
    obtain ⟨k0, k1, k2, G2⟩ := K.out w2 g2
    obtain ⟨z1, z2, z3⟩ := he.ne
    have HER := Lib.hid he
    have e0 := h2.c0
    have e1 := h2.c1
    have e2 := h2.c2
    have f0 := h2.f0
    have f1 := h2.f1
    have f2 := h2.f2
    have HG2 := Lib.hid G2
    have HP := Lib.hid (h2.put p HLE.out)
    clear h2 g2 G2 he
    go_wp2_with fail
    go_ret2
    exact ⟨⟨e, HER.out, rfl⟩, HP.out, oth_trans HG2.out (oth_trans (oth_set _ _ _ _) (oth_trans (oth_set _ _ _ _) (oth_set _ _ _ _)))⟩
  · refine (count_one HH1.out HN.out c 24 hp hc hc24 (by omega)).mono ?_; rintro r w2 ⟨rfl, h2, g2⟩
    obtain ⟨m, hm⟩ : ∃ m, n - (p + 1) = m := ⟨_, rfl⟩
    have LF := left_law h2 HN.out
    rw [hm] at LF
    have HLF := Lib.hid LF
    have hcm : (m : Int) < (c : Int) := by omega
    have hmi : (m : Int) ≤ 1000000 := by omega
    have hci : (c : Int) ≤ 24 := by omega
    have H2 := Lib.hid h2
    have HG := Lib.hid g2
    clear h2 g2 LF hm hc hshort
    go_wp2_with fail
    refine HLF.out.mono ?_; rintro r w3 ⟨rfl, B3⟩
    have h3 := H2.out.below B3
    obtain ⟨k0, k1, k2, G2⟩ := K.out w3 (oth_trans HG.out (oth_below B B3))
    have e0 := h3.c0
    have e1 := h3.c1
    have e2 := h3.c2
    have f0 := h3.f0
    have f1 := h3.f1
    have f2 := h3.f2
    have HG2 := Lib.hid G2
    have HP := Lib.hid (h3.put p HLE.out)
    clear h3 G2 B3
    go_wp2_with fail
    go_ret2
    exact ⟨⟨4, .inr rfl, rfl⟩, HP.out, oth_trans HG2.out (oth_trans (oth_set _ _ _ _) (oth_trans (oth_set _ _ _ _) (oth_set _ _ _ _)))⟩
theorem readbad_law {W : World} {B : Nat} {ad : Option Addr} {cap n : Nat} {L : List Int} {p : Nat} (h : Rdr W B ad cap n L p) (hn : n ≤ 1000000) (hB : Byt L) (hbad : BadF n L p) :
    Calls Tryd.prog 24 #[.pointer (some ⟨B, 0, none⟩)] W fun r w' => (∃ e : Int, Er e ∧ r = .returned (.tuple #[.slice none 0 0, .int .i64 e])) ∧ Rdr w' B ad cap n L p ∧ W.grownBy w' (some B) := by
  have H := Lib.hid (field_bad h hn hB hbad)
  clear h hB hbad
  go_enter Tryd.func24, Tryd.ntmps24
  go_wp2_with fail
  refine H.out.mono ?_; rintro r w' ⟨⟨e, he, rfl⟩, h3, h4⟩
  have HE := Lib.hid he
  have H3 := Lib.hid h3
  have H4 := Lib.hid h4
  clear h3 h4 he
  go_wp2_with fail
  go_ret2
  exact ⟨⟨e, HE.out, rfl⟩, H3.out, H4.out⟩
end Go.Proofs.YtkgcbhpgkcfkhaaDoor
