/- Slices that are joined, by a contract. -/
import Derived.Test.YtjclhoibmoehiaaAsk
namespace Go.Proofs.Ytjclhoibmoehiaa
open Go.ChangeShapes Go.WideShapes Go.ChangeAt Go.RowKit
open SM
set_option linter.unusedVariables false
set_option linter.unusedSimpArgs false

/-- What a walk is told of slices that lie somewhere. -/
def Sls (w : World) (a : Option Addr) (n : Nat) (X L : Nat → Int) : Prop := ∀ k < n, ∃ b off, a = some ⟨b, off, none⟩ ∧ w.cell? ⟨b, off + k * 2, none⟩ = some (.int .u64 (X k)) ∧ w.cell? ⟨b, off + k * 2 + 1, none⟩ = some (.int .i64 (L k))
theorem Sls.below {w w' : World} {a : Option Addr} {n : Nat} {X L : Nat → Int} (h : Sls w a n X L) (hb : Below w.heap.size w w') : Sls w' a n X L := fun k hk => by
  obtain ⟨b, off, e, h1, h2⟩ := h k hk
  exact ⟨b, off, e, (hb.cell (p := ⟨b, off + k * 2, none⟩) (block_lt_of_cell h1)).trans h1, (hb.cell (p := ⟨b, off + k * 2 + 1, none⟩) (block_lt_of_cell h2)).trans h2⟩
def Words (X : Nat → Int) : Prop := ∀ i, 0 ≤ X i ∧ X i < 18446744073709551616

def jok (X L : Nat → Int) (n i : Nat) : Prop := mayV (X i) (L i) = true ∧ (i + 1 = n ↔ L i ≠ 9) ∧ (0 < i → L i ≠ 0)
def jall (X L : Nat → Int) (n : Nat) : Prop := 0 < n ∧ ∀ i < n, jok X L n i
def tot (L : Nat → Int) : Nat → Nat
  | 0 => 0
  | k + 1 => tot L k + bl (L k)
def flat (X L : Nat → Int) : Nat → List Value
  | 0 => []
  | k + 1 => flat X L k ++ bytL (X k) (bl (L k))
theorem tot_le (L : Nat → Int) : ∀ k, tot L k ≤ 8 * k
  | 0 => by simp [tot]
  | k + 1 => by have := tot_le L k; simp only [tot, bl]; omega

theorem bytL_one (x : Int) (k : Nat) : ∀ u ∈ bytL x k, u.oneCell' = true := fun u hu => by
  obtain ⟨i, _, rfl⟩ := List.mem_map.1 hu
  rfl
theorem grown_of_belowJ {w w' : World} (h : Below w.heap.size w w') : w.grownBy w' none := ⟨h.os, h.tape, h.output, h.size, fun k hk _ => h.block k hk⟩
theorem own_kept {w w' : World} {base n size : Nat} {e : TypeId} {v : Value} {xs : List Value} (h : w.ownsRow base e size v n xs) (hb : Below w.heap.size w w') : w'.ownsRow base e size v n xs :=
  h.kept (grown_of_belowJ hb) (by cases hv : v.ownBlock <;> simp)
theorem own_pos {w : World} {base n : Nat} {v : Value} {xs : List Value} (h : w.ownsRow base 5 1 v n xs) (hn : 0 < n) : ∃ g cap, v = .slice (some ⟨g, 0, none⟩) n cap ∧ base ≤ g ∧ ∀ j u, xs[j]? = some u → w.cell? ((⟨g, 0, none⟩ : Addr).add j) = some u := by
  have h' := h
  rcases h.2 with ⟨_, h0⟩ | ⟨g, cap, cur, rfl, hg, _⟩
  · omega
  · exact ⟨g, cap, rfl, hg, h'.cells rfl⟩
theorem own_zero {w : World} {base n : Nat} {v : Value} {xs : List Value} (h : w.ownsRow base 5 1 v n xs) (hn : n = 0) : v = .slice none 0 0 ∨ ∃ g cap, v = .slice (some ⟨g, 0, none⟩) 0 cap := by
  subst hn
  rcases h.2 with ⟨e, _⟩ | ⟨g, cap, _, e, _⟩
  · exact .inl e
  · exact .inr ⟨g, cap, e⟩
theorem jok_step {P : Nat → Prop} {k : Nat} (h : ∀ j < k, P j) (hk : P k) : ∀ j < k + 1, P j := fun j hj => by
  rcases (show j < k ∨ j = k from by omega) with h' | rfl
  · exact h j h'
  · exact hk

theorem join_none (a : Option Addr) (cap : Nat) (w : World) : Calls Try.prog 15 #[.slice a 0 cap] w fun e w' => e = .returned (.tuple #[.slice none 0 0, .int .i64 2]) ∧ w = w' := by
  go_enter Try.func15, Try.ntmps15
  go_wp2
  go_ret2
  exact ⟨rfl, rfl⟩

set_option maxHeartbeats 2000000 in
theorem join_some (b off n cap : Nat) (X L : Nat → Int) (hX : Words X) (hn0 : 0 < n) (hn : n ≤ 1048576) (w : World) (hS : Sls w (some ⟨b, off, none⟩) n X L) :
    Calls Try.prog 15 #[.slice (some ⟨b, off, none⟩) n cap] w fun e w' => (jall X L n ∧ ∃ v, e = .returned (.tuple #[v, .int .i64 0]) ∧ w'.ownsRow w.heap.size 5 1 v (tot L n) (flat X L n) ∧ Below w.heap.size w w') ∨
      (¬ jall X L n ∧ e = .returned (.tuple #[.slice none 0 0, .int .i64 2]) ∧ Below w.heap.size w w') := by
  obtain ⟨i0, hi, hz0, hz1, hz2⟩ := info_parts info5
  have hn1 : ((n : Int) == 0) = false := by rw [beq_eq_false_iff_ne]; omega
  have HS := Lib.hid hS; clear hS
  have HX := Lib.hid hX; clear hX
  go_enter Try.func15, Try.ntmps15
  go_wp2_with fail
  go_loopw [4, 15] (fun v i wr => ∃ k : Nat, k ≤ n ∧ i = .int .i64 k ∧ (∀ j < k, jok X L n j) ∧ wr.ownsRow w.heap.size 5 1 v (tot L k) (flat X L k) ∧ Below w.heap.size w wr ∧ (k = 0 → v = .slice none 0 0)) (fun _ i _ => n - (intOf i).toNat)
  case atStart => exact ⟨0, by omega, rfl, fun j hj => absurd hj (by omega), World.ownsRow_nil _ _ _ _, Below.refl _ _, fun _ => rfl⟩
  case round =>
    obtain ⟨k, hk, rfl, hjok, hown, B, hnil⟩ := hrel
    by_cases hlt : k < n
    · obtain ⟨b', off', e, c0, c1⟩ := HS.out.below B k hlt
      cases e
      have hbl := block_lt_of_cell c0
      have hkl : (k : Int) < (n : Int) := by omega
      have HJ := Lib.hid hjok
      have HN := Lib.hid hnil
      have BX : Below wr.heap.size wr (wr.alloc (.cells #[.int .u64 (X k), .int .i64 (L k)] 26)) := (Below.refl _ _).alloc (Nat.le_refl _) _
      have bS : (wr.alloc (.cells #[.int .u64 (X k), .int .i64 (L k)] 26)).cell? ⟨wr.heap.size, 1, none⟩ = some (.int .i64 (L k)) := by simp [go_sem]
      have bz : wr.heap.size < (wr.alloc (.cells #[.int .u64 (X k), .int .i64 (L k)] 26)).heap.size := by simp
      have hownA := hown.alloc (.cells #[.int .u64 (X k), .int .i64 (L k)] 26)
      clear hjok hnil
      go_wp2_with fail
      have hXk := HX.out k
      by_cases hm : mayV (X k) (L k) = true
      · have hLr : 0 ≤ L k ∧ L k ≤ 9 := by unfold mayV at hm; simp at hm; omega
        refine (bytes_any _ _ hXk.1 hXk.2 hm _).mono ?_
        rintro e W2 ⟨vb, rfl, ⟨hlen, hownb⟩, B2⟩
        have bS2 := (B2.cell (p := ⟨wr.heap.size, 1, none⟩) bz).trans bS
        simp only [World.size_alloc] at hownb
        have hbig := step_below B (step_below BX B2)
        clear c0 c1 bS
        have HM := Lib.hid hm
        clear hm
        by_cases q1 : k + 1 = n
        · have t1 : ((k : Int) == (n : Int) - 1) = true := by rw [beq_iff_eq]; omega
          have Q1 := Lib.hid q1
          clear q1
          by_cases q2 : L k = 9
          · have t2 : (L k == 9) = true := by rw [q2]; rfl
            have Q2 := Lib.hid q2
            clear q2
            go_wp2
            go_ret2
            exact .inr ⟨fun h => absurd Q2.out ((h.2 k hlt).2.1.1 Q1.out), rfl, hbig⟩
          · have t2 : (L k == 9) = false := by simpa using q2
            have Q2 := Lib.hid q2
            clear q2
            rcases (show (0 < k ∧ L k = 0) ∨ (k = 0 ∧ L k = 0) ∨ (k = 0 ∧ L k ≠ 0) ∨ (0 < k ∧ L k ≠ 0) from by omega) with ⟨q4, q5⟩ | ⟨q4, q5⟩ | ⟨q4, q5⟩ | ⟨q4, q5⟩
            · have t3 : (L k == 0) = true := by rw [q5]; rfl
              have t4 : 0 < (k : Int) := by omega
              have Q5 := Lib.hid q5
              clear q5
              go_wp2
              go_ret2
              exact .inr ⟨fun h => absurd Q5.out ((h.2 k hlt).2.2 q4), rfl, hbig⟩
            · have t3 : (L k == 0) = true := by rw [q5]; rfl
              have t4 : ¬ 0 < (k : Int) := by omega
              obtain rfl := HN.out q4
              have hjk : jok X L n k := ⟨HM.out, ⟨fun _ => Q2.out, fun _ => Q1.out⟩, fun h => by omega⟩
              have hb0 : bl (L k) = 0 := by rw [q5]; rfl
              have e1 : tot L (k + 1) = 0 := by subst q4; simp only [tot, hb0]
              have e2 : flat X L (k + 1) = [] := by subst q4; simp only [flat, hb0, bytL]; rfl
              have hv2 := own_zero ⟨hlen, hownb⟩ hb0
              have hjk2 := Lib.hid hjk
              have E1 := Lib.hid e1
              have E2 := Lib.hid e2
              clear hlen hownb q4 q5 hjk e1 e2 hown hownA hb0
              rcases hv2 with rfl | ⟨g, gc, rfl⟩
              · go_wp2
                go_roundw
                case rel => exact ⟨k + 1, by omega, by go_num, jok_step HJ.out hjk2.out, by rw [E1.out, E2.out]; exact World.ownsRow_nil _ _ _ _, hbig, fun h => absurd h (by omega)⟩
                case measure => simp [intOf]; omega
              · go_wp2_with (at_builtin; refine wpList_append_own _ rfl (.tmp 48) (.tmp 49) 22 rfl w.heap.size 5 i0 (.int .u8 0) 1 1 Try.underlying22 hi hz0 hz1 hz2 rfl (by decide) (.slice none 0 0) 0 [] rfl (World.ownsRow_nil _ _ _ _) ⟨g, 0, none⟩ 0 gc [] rfl rfl (fun j u hj => by simp at hj) (fun u hu => by simp at hu) ?c3 ?c4 ?c5 ?_)
                case c3 => unfold maxLen; omega
                case c4 => omega
                case c5 => have h1 := B.size; have h2 := B2.size; simp at h2; omega
                intro v2 w3 hown3 hgrow3 hnil3
                obtain rfl := hnil3
                have hB3 : Below w.heap.size w w3 := hbig.grown hgrow3 (by have h1 := B.size; have h2 := B2.size; simp at h2; omega) (fun j hj => by cases hj)
                clear hgrow3 hown3
                go_wp2
                go_roundw
                case rel => exact ⟨k + 1, by omega, by go_num, jok_step HJ.out hjk2.out, by rw [E1.out, E2.out]; exact World.ownsRow_nil _ _ _ _, hB3, fun h => absurd h (by omega)⟩
                case measure => simp [intOf]; omega
            · have t3 : (L k == 0) = false := by simpa using q5
              have t4 : ¬ 0 < (k : Int) := by omega
              clear q4
              have Q5 := Lib.hid q5
              have hjk : jok X L n k := ⟨HM.out, ⟨fun _ => Q2.out, fun _ => Q1.out⟩, fun _ => q5⟩
              have hkey : 0 < bl (L k) := by unfold bl; omega
              obtain ⟨g, gc, rfl, hg, hcellb⟩ := own_pos ⟨hlen, hownb⟩ hkey
              replace hcellb := Lib.hid hcellb
              have hone := Lib.hid (bytL_one (X k) (bl (L k)))
              have hlen2 := Lib.hid hlen
              have htot := Lib.hid (tot_le L k)
              have hbl8 := Lib.hid (show bl (L k) ≤ 8 by unfold bl; omega)
              have hownW := Lib.hid (own_kept hownA B2)
              have hjk2 := Lib.hid hjk
              clear hlen hownb hjk hown hownA hkey
              go_wp2_with (at_builtin; refine wpList_append_own _ rfl (.tmp 48) (.tmp 49) 22 rfl w.heap.size 5 i0 (.int .u8 0) 1 1 Try.underlying22 hi hz0 hz1 hz2 rfl (by decide) _ _ _ rfl hownW.out ⟨g, 0, none⟩ (bl (L k)) gc (bytL (X k) (bl (L k))) rfl hlen2.out hcellb.out hone.out ?c3 ?c4 ?c5 ?_)
              case c3 => have h1 := htot.out; have h2 := hbl8.out; unfold maxLen; omega
              case c4 => have h1 := htot.out; have h2 := hbl8.out; omega
              case c5 => have h1 := B.size; have h2 := B2.size; simp at h2; omega
              intro v2 w3 hown3 hgrow3 _
              have hB3 : Below w.heap.size w w3 := hbig.grown hgrow3 (by have h1 := B.size; have h2 := B2.size; simp at h2; omega) (fun j hj => (hownW.out.lt j hj).1)
              clear hownW hgrow3
              go_wp2
              go_roundw
              case rel => exact ⟨k + 1, by omega, by go_num, jok_step HJ.out hjk2.out, hown3, hB3, fun h => absurd h (by omega)⟩
              case measure => simp [intOf]; omega
            · have t3 : (L k == 0) = false := by simpa using q5
              have t4 : 0 < (k : Int) := by omega
              have Q5 := Lib.hid q5
              have hjk : jok X L n k := ⟨HM.out, ⟨fun _ => Q2.out, fun _ => Q1.out⟩, fun _ => q5⟩
              have hkey : 0 < bl (L k) := by unfold bl; omega
              obtain ⟨g, gc, rfl, hg, hcellb⟩ := own_pos ⟨hlen, hownb⟩ hkey
              replace hcellb := Lib.hid hcellb
              have hone := Lib.hid (bytL_one (X k) (bl (L k)))
              have hlen2 := Lib.hid hlen
              have htot := Lib.hid (tot_le L k)
              have hbl8 := Lib.hid (show bl (L k) ≤ 8 by unfold bl; omega)
              have hownW := Lib.hid (own_kept hownA B2)
              have hjk2 := Lib.hid hjk
              clear hlen hownb hjk hown hownA hkey
              go_wp2_with (at_builtin; refine wpList_append_own _ rfl (.tmp 48) (.tmp 49) 22 rfl w.heap.size 5 i0 (.int .u8 0) 1 1 Try.underlying22 hi hz0 hz1 hz2 rfl (by decide) _ _ _ rfl hownW.out ⟨g, 0, none⟩ (bl (L k)) gc (bytL (X k) (bl (L k))) rfl hlen2.out hcellb.out hone.out ?c3 ?c4 ?c5 ?_)
              case c3 => have h1 := htot.out; have h2 := hbl8.out; unfold maxLen; omega
              case c4 => have h1 := htot.out; have h2 := hbl8.out; omega
              case c5 => have h1 := B.size; have h2 := B2.size; simp at h2; omega
              intro v2 w3 hown3 hgrow3 _
              have hB3 : Below w.heap.size w w3 := hbig.grown hgrow3 (by have h1 := B.size; have h2 := B2.size; simp at h2; omega) (fun j hj => (hownW.out.lt j hj).1)
              clear hownW hgrow3
              go_wp2
              go_roundw
              case rel => exact ⟨k + 1, by omega, by go_num, jok_step HJ.out hjk2.out, hown3, hB3, fun h => absurd h (by omega)⟩
              case measure => simp [intOf]; omega
        · have t1 : ((k : Int) == (n : Int) - 1) = false := by rw [beq_eq_false_iff_ne]; omega
          have Q1 := Lib.hid q1
          clear q1
          by_cases q2 : L k = 9
          · have t2 : (L k == 9) = true := by rw [q2]; rfl
            have t3 : (L k == 0) = false := by rw [q2]; rfl
            have Q2 := Lib.hid q2
            rcases (show k = 0 ∨ 0 < k from by omega) with t5 | t5
            · have t4 : ¬ 0 < (k : Int) := by omega
              clear t5
              have hjk : jok X L n k := ⟨HM.out, ⟨fun h => absurd h Q1.out, fun h => absurd Q2.out h⟩, fun _ h => by have := Q2.out; omega⟩
              have hkey : 0 < bl (L k) := by unfold bl; omega
              obtain ⟨g, gc, rfl, hg, hcellb⟩ := own_pos ⟨hlen, hownb⟩ hkey
              replace hcellb := Lib.hid hcellb
              have hone := Lib.hid (bytL_one (X k) (bl (L k)))
              have hlen2 := Lib.hid hlen
              have htot := Lib.hid (tot_le L k)
              have hbl8 := Lib.hid (show bl (L k) ≤ 8 by unfold bl; omega)
              have hownW := Lib.hid (own_kept hownA B2)
              have hjk2 := Lib.hid hjk
              clear q2 hlen hownb hjk hown hownA hkey
              go_wp2_with (at_builtin; refine wpList_append_own _ rfl (.tmp 48) (.tmp 49) 22 rfl w.heap.size 5 i0 (.int .u8 0) 1 1 Try.underlying22 hi hz0 hz1 hz2 rfl (by decide) _ _ _ rfl hownW.out ⟨g, 0, none⟩ (bl (L k)) gc (bytL (X k) (bl (L k))) rfl hlen2.out hcellb.out hone.out ?c3 ?c4 ?c5 ?_)
              case c3 => have h1 := htot.out; have h2 := hbl8.out; unfold maxLen; omega
              case c4 => have h1 := htot.out; have h2 := hbl8.out; omega
              case c5 => have h1 := B.size; have h2 := B2.size; simp at h2; omega
              intro v2 w3 hown3 hgrow3 _
              have hB3 : Below w.heap.size w w3 := hbig.grown hgrow3 (by have h1 := B.size; have h2 := B2.size; simp at h2; omega) (fun j hj => (hownW.out.lt j hj).1)
              clear hownW hgrow3
              go_wp2
              go_roundw
              case rel => exact ⟨k + 1, by omega, by go_num, jok_step HJ.out hjk2.out, hown3, hB3, fun h => absurd h (by omega)⟩
              case measure => simp [intOf]; omega
            · have t4 : 0 < (k : Int) := by omega
              have hjk : jok X L n k := ⟨HM.out, ⟨fun h => absurd h Q1.out, fun h => absurd Q2.out h⟩, fun _ h => by have := Q2.out; omega⟩
              have hkey : 0 < bl (L k) := by unfold bl; omega
              obtain ⟨g, gc, rfl, hg, hcellb⟩ := own_pos ⟨hlen, hownb⟩ hkey
              replace hcellb := Lib.hid hcellb
              have hone := Lib.hid (bytL_one (X k) (bl (L k)))
              have hlen2 := Lib.hid hlen
              have htot := Lib.hid (tot_le L k)
              have hbl8 := Lib.hid (show bl (L k) ≤ 8 by unfold bl; omega)
              have hownW := Lib.hid (own_kept hownA B2)
              have hjk2 := Lib.hid hjk
              clear q2 hlen hownb hjk hown hownA hkey
              go_wp2_with (at_builtin; refine wpList_append_own _ rfl (.tmp 48) (.tmp 49) 22 rfl w.heap.size 5 i0 (.int .u8 0) 1 1 Try.underlying22 hi hz0 hz1 hz2 rfl (by decide) _ _ _ rfl hownW.out ⟨g, 0, none⟩ (bl (L k)) gc (bytL (X k) (bl (L k))) rfl hlen2.out hcellb.out hone.out ?c3 ?c4 ?c5 ?_)
              case c3 => have h1 := htot.out; have h2 := hbl8.out; unfold maxLen; omega
              case c4 => have h1 := htot.out; have h2 := hbl8.out; omega
              case c5 => have h1 := B.size; have h2 := B2.size; simp at h2; omega
              intro v2 w3 hown3 hgrow3 _
              have hB3 : Below w.heap.size w w3 := hbig.grown hgrow3 (by have h1 := B.size; have h2 := B2.size; simp at h2; omega) (fun j hj => (hownW.out.lt j hj).1)
              clear hownW hgrow3
              go_wp2
              go_roundw
              case rel => exact ⟨k + 1, by omega, by go_num, jok_step HJ.out hjk2.out, hown3, hB3, fun h => absurd h (by omega)⟩
              case measure => simp [intOf]; omega
          · have t2 : (L k == 9) = false := by simpa using q2
            have Q2 := Lib.hid q2
            clear q2
            go_wp2
            go_ret2
            exact .inr ⟨fun h => absurd ((h.2 k hlt).2.1.2 Q2.out) Q1.out, rfl, hbig⟩
      · have hm' : mayV (X k) (L k) = false := by simpa using hm
        refine (bytes_bad _ _ hXk.1 hXk.2 hm' _).mono ?_
        rintro e W2 ⟨rfl, B2⟩
        have hbig := step_below B (step_below BX B2)
        clear c0 c1 bS
        go_wp2
        go_ret2
        exact .inr ⟨fun h => absurd (h.2 k hlt).1 hm, rfl, hbig⟩
    · obtain rfl : k = n := by omega
      go_wp2
      go_ret2
      exact .inl ⟨⟨hn0, hjok⟩, _, rfl, hown, B⟩

end Go.Proofs.Ytjclhoibmoehiaa
