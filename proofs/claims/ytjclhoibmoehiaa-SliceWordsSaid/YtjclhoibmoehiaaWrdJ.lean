/- The reference's joining of slices, by a contract. -/
import Derived.Test.YtjclhoibmoehiaaWrd
namespace Go.Proofs.Ytjclhoibmoehiaa
open Go.ChangeShapes Go.WideShapes Go.ChangeAt Go.RowKit
open SM
set_option linter.unusedVariables false
set_option linter.unusedSimpArgs false

theorem refjoin_none (a : Option Addr) (cap : Nat) (w : World) : Calls Try.prog 16 #[.slice a 0 cap] w fun e w' => e = .returned (.tuple #[.slice none 0 0, .int .i64 2]) ∧ w = w' := by
  go_enter Try.func16, Try.ntmps16
  go_wp2
  go_ret2
  exact ⟨rfl, rfl⟩

set_option maxHeartbeats 4000000 in
theorem refjoin_some (b off n cap : Nat) (X L : Nat → Int) (hX : Words X) (hn0 : 0 < n) (hn : n ≤ 1048576) (w : World) (hS : Sls w (some ⟨b, off, none⟩) n X L) :
    Calls Try.prog 16 #[.slice (some ⟨b, off, none⟩) n cap] w fun e w' => (jall X L n ∧ ∃ v, e = .returned (.tuple #[v, .int .i64 0]) ∧ w'.ownsRow w.heap.size 5 1 v (tot L n) (flat X L n) ∧ Below w.heap.size w w') ∨
      (¬ jall X L n ∧ e = .returned (.tuple #[.slice none 0 0, .int .i64 2]) ∧ Below w.heap.size w w') := by
  obtain ⟨i0, hi, hz0, hz1, hz2⟩ := info_parts info5
  have hn1 : ((n : Int) == 0) = false := by rw [beq_eq_false_iff_ne]; omega
  have HS := Lib.hid hS; clear hS
  have HX := Lib.hid hX; clear hX
  go_enter Try.func16, Try.ntmps16
  go_wp2_with fail
  go_loopw [4, 5] (fun v i wr => ∃ k : Nat, k ≤ n ∧ i = .int .i64 k ∧ (∀ j < k, jok X L n j) ∧ wr.ownsRow w.heap.size 5 1 v (tot L k) (flat X L k) ∧ Below w.heap.size w wr ∧ (k = 0 → v = .slice none 0 0)) (fun _ i _ => n - (intOf i).toNat)
  case atStart => exact ⟨0, by omega, rfl, fun j hj => absurd hj (by omega), World.ownsRow_nil _ _ _ _, Below.refl _ _, fun _ => rfl⟩
  case round =>
    obtain ⟨k, hk, rfl, hjok, hown, B, hnil⟩ := hrel
    have HJ := Lib.hid hjok
    have HN := Lib.hid hnil
    clear hjok hnil
    by_cases hlt : k < n
    · obtain ⟨b', off', e, c0, c1⟩ := HS.out.below B k hlt
      cases e
      have hbl := block_lt_of_cell c0
      have hkl : (k : Int) < (n : Int) := by omega
      have hXk := HX.out k
      go_wp2_with fail
      by_cases hm : mayV (X k) (L k) = true
      · have hLr : 0 ≤ L k ∧ L k ≤ 9 := by unfold mayV at hm; simp at hm; omega
        refine (refbytes_any _ _ hXk.1 hXk.2 hm _).mono ?_
        rintro e W2 ⟨vb, rfl, ⟨hlen, hownb⟩, B2⟩
        have hbig := step_below B B2
        have hownW := own_kept hown B2
        have hsz1 := B.size
        have hsz2 := B2.size
        replace c1 := (B2.cell (p := ⟨b, off + k * 2 + 1, none⟩) hbl).trans c1
        clear c0 hown B B2 hXk
        have HM := Lib.hid hm
        clear hm
        by_cases hj : jok X L n k
        · have h9 := hj.2.1
          have h0 := hj.2.2
          have HJK := Lib.hid hj
          clear hj
          by_cases hz : L k = 0
          · have hk0 : k = 0 := by apply Decidable.byContradiction; intro hh; exact h0 (by omega) hz
            have hb0 : bl (L k) = 0 := by rw [hz]; rfl
            have e1 : tot L (k + 1) = 0 := by subst hk0; simp only [tot, hb0]
            have e2 : flat X L (k + 1) = [] := by subst hk0; simp only [flat, hb0, bytL]; rfl
            have t2 : (L k == 9) = false := by rw [hz]; rfl
            have hkn : k + 1 = n := h9.2 (by omega)
            have t5 : ¬ (k : Int) < (n : Int) - 1 := by omega
            have t4 : ¬ 0 < (k : Int) := by omega
            obtain rfl := HN.out hk0
            have hv2 := own_zero ⟨hlen, hownb⟩ hb0
            have E1 := Lib.hid e1
            have E2 := Lib.hid e2
            clear hlen hownb hk0 hz hb0 e1 e2 hownW hkn h9 h0
            rcases hv2 with rfl | ⟨g, gc, rfl⟩
            · go_wp2_with fail
              go_roundw
              case rel => exact ⟨k + 1, by omega, by go_num, jok_step HJ.out HJK.out, by rw [E1.out, E2.out]; exact World.ownsRow_nil _ _ _ _, hbig, fun h => absurd h (by omega)⟩
              case measure => simp [intOf]; omega
            · go_wp2_with (at_builtin; refine wpList_append_own _ rfl (.tmp 53) (.tmp 54) 22 rfl w.heap.size 5 i0 (.int .u8 0) 1 1 Try.underlying22 hi hz0 hz1 hz2 rfl (by decide) (.slice none 0 0) 0 [] rfl (World.ownsRow_nil _ _ _ _) ⟨g, 0, none⟩ 0 gc [] rfl rfl (fun j u hj => by simp at hj) (fun u hu => by simp at hu) (by unfold maxLen; omega) (by omega) (by omega) ?_)
              intro v2 w3 hown3 hgrow3 hnil3
              obtain rfl := hnil3
              have hB3 : Below w.heap.size w w3 := hbig.grown hgrow3 (by omega) (fun j hj => by cases hj)
              clear hgrow3 hown3
              go_wp2_with fail
              go_roundw
              case rel => exact ⟨k + 1, by omega, by go_num, jok_step HJ.out HJK.out, by rw [E1.out, E2.out]; exact World.ownsRow_nil _ _ _ _, hB3, fun h => absurd h (by omega)⟩
              case measure => simp [intOf]; omega
          · have hkey : 0 < bl (L k) := by unfold bl; omega
            obtain ⟨g, gc, rfl, hg, hcellb⟩ := own_pos ⟨hlen, hownb⟩ hkey
            replace hcellb := Lib.hid hcellb
            have hone := Lib.hid (bytL_one (X k) (bl (L k)))
            have hlen2 := Lib.hid hlen
            have htot := Lib.hid (tot_le L k)
            have hbl8 := Lib.hid (show bl (L k) ≤ 8 by unfold bl; omega)
            have HW := Lib.hid hownW
            have t3 : (L k == 0) = false := by simpa using hz
            clear hlen hownb hkey hownW h0
            rcases (show (L k = 9 ∧ k + 1 < n) ∨ (L k ≠ 9 ∧ k + 1 = n) from by omega) with ⟨q, q1⟩ | ⟨q, q1⟩
            · have t2 : (L k == 9) = true := by rw [q]; rfl
              have t5 : (k : Int) < (n : Int) - 1 := by omega
              have Q := Lib.hid q
              clear q q1 h9 hz
              rcases (show 0 < k ∨ ¬ 0 < k from by omega) with q4 | q4
              · have t4 : 0 < (k : Int) := by omega
                go_wp2_with (at_builtin; refine wpList_append_own _ rfl (.tmp 53) (.tmp 54) 22 rfl w.heap.size 5 i0 (.int .u8 0) 1 1 Try.underlying22 hi hz0 hz1 hz2 rfl (by decide) _ _ _ rfl HW.out ⟨g, 0, none⟩ (bl (L k)) gc (bytL (X k) (bl (L k))) rfl hlen2.out hcellb.out hone.out (by have h1 := htot.out; have h2 := hbl8.out; unfold maxLen; omega) (by have h1 := htot.out; have h2 := hbl8.out; omega) (by omega) ?_)
                intro v2 w3 hown3 hgrow3 _
                have hB3 : Below w.heap.size w w3 := hbig.grown hgrow3 (by omega) (fun j hj => (HW.out.lt j hj).1)
                clear HW hgrow3
                go_wp2_with fail
                go_roundw
                case rel => exact ⟨k + 1, by omega, by go_num, jok_step HJ.out HJK.out, hown3, hB3, fun h => absurd h (by omega)⟩
                case measure => simp [intOf]; omega
              · have t4 : ¬ 0 < (k : Int) := by omega
                go_wp2_with (at_builtin; refine wpList_append_own _ rfl (.tmp 53) (.tmp 54) 22 rfl w.heap.size 5 i0 (.int .u8 0) 1 1 Try.underlying22 hi hz0 hz1 hz2 rfl (by decide) _ _ _ rfl HW.out ⟨g, 0, none⟩ (bl (L k)) gc (bytL (X k) (bl (L k))) rfl hlen2.out hcellb.out hone.out (by have h1 := htot.out; have h2 := hbl8.out; unfold maxLen; omega) (by have h1 := htot.out; have h2 := hbl8.out; omega) (by omega) ?_)
                intro v2 w3 hown3 hgrow3 _
                have hB3 : Below w.heap.size w w3 := hbig.grown hgrow3 (by omega) (fun j hj => (HW.out.lt j hj).1)
                clear HW hgrow3
                go_wp2_with fail
                go_roundw
                case rel => exact ⟨k + 1, by omega, by go_num, jok_step HJ.out HJK.out, hown3, hB3, fun h => absurd h (by omega)⟩
                case measure => simp [intOf]; omega
            · have t2 : (L k == 9) = false := by simpa using q
              have t5 : ¬ (k : Int) < (n : Int) - 1 := by omega
              have Q := Lib.hid q
              clear q h9 hz q1
              rcases (show 0 < k ∨ ¬ 0 < k from by omega) with q4 | q4
              · have t4 : 0 < (k : Int) := by omega
                go_wp2_with (at_builtin; refine wpList_append_own _ rfl (.tmp 53) (.tmp 54) 22 rfl w.heap.size 5 i0 (.int .u8 0) 1 1 Try.underlying22 hi hz0 hz1 hz2 rfl (by decide) _ _ _ rfl HW.out ⟨g, 0, none⟩ (bl (L k)) gc (bytL (X k) (bl (L k))) rfl hlen2.out hcellb.out hone.out (by have h1 := htot.out; have h2 := hbl8.out; unfold maxLen; omega) (by have h1 := htot.out; have h2 := hbl8.out; omega) (by omega) ?_)
                intro v2 w3 hown3 hgrow3 _
                have hB3 : Below w.heap.size w w3 := hbig.grown hgrow3 (by omega) (fun j hj => (HW.out.lt j hj).1)
                clear HW hgrow3
                go_wp2_with fail
                go_roundw
                case rel => exact ⟨k + 1, by omega, by go_num, jok_step HJ.out HJK.out, hown3, hB3, fun h => absurd h (by omega)⟩
                case measure => simp [intOf]; omega
              · have t4 : ¬ 0 < (k : Int) := by omega
                go_wp2_with (at_builtin; refine wpList_append_own _ rfl (.tmp 53) (.tmp 54) 22 rfl w.heap.size 5 i0 (.int .u8 0) 1 1 Try.underlying22 hi hz0 hz1 hz2 rfl (by decide) _ _ _ rfl HW.out ⟨g, 0, none⟩ (bl (L k)) gc (bytL (X k) (bl (L k))) rfl hlen2.out hcellb.out hone.out (by have h1 := htot.out; have h2 := hbl8.out; unfold maxLen; omega) (by have h1 := htot.out; have h2 := hbl8.out; omega) (by omega) ?_)
                intro v2 w3 hown3 hgrow3 _
                have hB3 : Below w.heap.size w w3 := hbig.grown hgrow3 (by omega) (fun j hj => (HW.out.lt j hj).1)
                clear HW hgrow3
                go_wp2_with fail
                go_roundw
                case rel => exact ⟨k + 1, by omega, by go_num, jok_step HJ.out HJK.out, hown3, hB3, fun h => absurd h (by omega)⟩
                case measure => simp [intOf]; omega
        · have HNJ := Lib.hid (show ¬ jall X L n from fun h => hj (h.2 k hlt))
          have hnj : (k + 1 = n ∧ L k = 9) ∨ (k + 1 ≠ n ∧ L k ≠ 9) ∨ (k + 1 = n ∧ L k ≠ 9 ∧ 0 < k ∧ L k = 0) := by
            have hmm := HM.out
            unfold jok at hj
            by_cases q1 : k + 1 = n <;> by_cases q2 : L k = 9
            · exact .inl ⟨q1, q2⟩
            · refine .inr (.inr ⟨q1, q2, ?_⟩)
              apply Decidable.byContradiction
              intro hh
              exact hj ⟨hmm, ⟨fun _ => q2, fun _ => q1⟩, fun h0 hz => hh ⟨h0, hz⟩⟩
            · exact absurd ⟨hmm, ⟨fun h => absurd h q1, fun h => absurd q2 h⟩, fun h0 hz => by omega⟩ hj
            · exact .inr (.inl ⟨q1, q2⟩)
          clear hj
          rcases hnj with ⟨q1, q2⟩ | ⟨q1, q2⟩ | ⟨q1, q2, q3, q4⟩
          · have t2 : (L k == 9) = true := by rw [q2]; rfl
            have t5 : ¬ (k : Int) < (n : Int) - 1 := by omega
            clear q1 q2
            go_wp2_with fail
            go_ret2
            exact .inr ⟨HNJ.out, rfl, hbig⟩
          · have t2 : (L k == 9) = false := by simpa using q2
            have t5 : (k : Int) < (n : Int) - 1 := by omega
            clear q1 q2
            go_wp2_with fail
            go_ret2
            exact .inr ⟨HNJ.out, rfl, hbig⟩
          · have t2 : (L k == 9) = false := by simpa using q2
            have t5 : ¬ (k : Int) < (n : Int) - 1 := by omega
            have t3 : (L k == 0) = true := by rw [q4]; rfl
            have t4 : 0 < (k : Int) := by omega
            clear q1 q2 q3 q4
            go_wp2_with fail
            go_ret2
            exact .inr ⟨HNJ.out, rfl, hbig⟩
      · have hmf : mayV (X k) (L k) = false := by simpa using hm
        have HNJ := Lib.hid (show ¬ jall X L n from fun h => hm (h.2 k hlt).1)
        refine (refbytes_bad _ _ hXk.1 hXk.2 hmf _).mono ?_
        rintro e W2 ⟨rfl, B2⟩
        have hbig := step_below B B2
        clear hm hmf c0 c1
        go_wp2_with fail
        go_ret2
        exact .inr ⟨HNJ.out, rfl, hbig⟩
    · have e : k = n := by omega
      subst e
      go_wp2_with fail
      go_ret2
      exact .inl ⟨⟨hn0, HJ.out⟩, _, rfl, hown, B⟩
end Go.Proofs.Ytjclhoibmoehiaa
