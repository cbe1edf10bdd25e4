/- The reference's Of, by a contract. -/
import Derived.Test.YtochdmdojcfceaaRefD
namespace Go.Proofs.Ytochdmdojcfceaa
open Go.ChangeShapes Go.WideShapes Go.ChangeAt Go.RowKit Go.Shelf
open PM
set_option linter.unusedVariables false
set_option linter.unusedSimpArgs false

theorem own_nb {w : World} {base n k : Nat} {v : Value} {l : List Nat} (h : w.ownsRow base 3 1 v n (iv l)) : ∀ b cb, v = .slice b k cb → b = none → l = [] ∧ cb = 0 := fun b cb e1 e2 => by
  subst e2
  rcases h.2 with ⟨rfl, h0⟩ | ⟨g, cap2, cur, h0, _⟩
  · cases e1
    have h1 := h.1
    have h2 : n = 0 := by simpa using h0
    rw [h2] at h1
    exact ⟨by simpa [iv] using h1, rfl⟩
  · rw [e1] at h0; cases h0
set_option maxRecDepth 100000 in
set_option maxHeartbeats 4000000 in
theorem rof_law (a : Option Addr) (L : List Int) (cap : Nat) (hL : L.length ≤ 1048576) (w : World) (hR : Rd w a L) (hnone : a = none → L = [] ∧ cap = 0) :
    Calls Try.prog 15 #[.slice a L.length cap] w fun e w' => e = .returned (.tuple #[.int .u64 ((ofV L).1 : Nat), .int .i64 (ofV L).2]) ∧ Below w.heap.size w w' := by
  obtain ⟨i0, hi, hz0, hz1, hz2⟩ := info_parts info3
  have HR := Lib.hid hR
  have HNONE := Lib.hid hnone
  clear hR hnone
  obtain ⟨n, hn⟩ : ∃ n, L.length = n := ⟨_, rfl⟩
  have HN := Lib.hid hn
  rw [hn] at hL ⊢
  clear hn
  by_cases h15 : n ≤ 15
  · have h15i : (n : Int) ≤ 15 := by omega
    have hS0 := seen_new w
    go_enter Try.func15, Try.ntmps15
    go_wp2_with fail
    have B0 : Below w.heap.size w (w.alloc (.cells #[.bool false, .bool false, .bool false, .bool false, .bool false, .bool false, .bool false, .bool false, .bool false, .bool false, .bool false, .bool false, .bool false, .bool false, .bool false] 66)) := (Below.refl _ _).alloc (Nat.le_refl _) _
    generalize w.alloc (.cells #[.bool false, .bool false, .bool false, .bool false, .bool false, .bool false, .bool false, .bool false, .bool false, .bool false, .bool false, .bool false, .bool false, .bool false, .bool false] 66) = W0 at hS0 B0 ⊢
    go_loopw [5] (fun i wr => ∃ k : Nat, k ≤ n ∧ i = .int .i64 k ∧ (∀ i < k, 0 ≤ L.getD i 0 ∧ L.getD i 0 < 15 ∧ (L.getD i 0).toNat ∉ (nats L).take i) ∧ Seen wr w.heap.size ((nats L).take k) ∧ Below w.heap.size w wr) (fun i _ => n - (intOf i).toNat)
    case atStart => exact ⟨0, by omega, rfl, fun i hi => absurd hi (by omega), hS0, B0⟩
    case round =>
      clear hS0 B0
      obtain ⟨k, hk, rfl, hpre, hS, B⟩ := hrel
      have HP := Lib.hid hpre
      clear hpre
      by_cases hlt : k < n
      · have hkl : (k : Int) < (n : Int) := by omega
        have hkL : k < L.length := by rw [HN.out]; exact hlt
        have hkN : k < (nats L).length := by rw [nats_length]; exact hkL
        obtain ⟨b1, o1, e1, c1⟩ := HR.out.below B k hkL
        subst e1
        have hg := nats_get L k hkL
        obtain ⟨x, hx⟩ : ∃ x, L.getD k 0 = x := ⟨_, rfl⟩
        rw [hx] at c1 hg
        have HX := Lib.hid hx
        clear hx
        have bad : (¬ (0 ≤ x ∧ x < 15) ∨ x.toNat ∈ (nats L).take k) → ofV L = (0, 2) := fun hb => by
          unfold ofV
          rw [if_neg]
          intro h
          have := ((okI_iff L).1 h).2 k hkL
          rw [HX.out] at this
          rcases hb with hb | hb
          · exact hb ⟨this.1, this.2.1⟩
          · exact this.2.2 hb
        have HBAD := Lib.hid bad
        clear bad
        rcases (show x < 0 ∨ (¬ x < 0 ∧ 15 ≤ x) ∨ (¬ x < 0 ∧ ¬ 15 ≤ x) from by omega) with q | ⟨q1, q⟩ | ⟨q1, q2⟩
        · have E := Lib.hid (HBAD.out (.inl (by omega)))
          go_wp2_with fail
          go_ret2
          exact ⟨by rw [E.out]; rfl, B⟩
        · have E := Lib.hid (HBAD.out (.inl (by omega)))
          go_wp2_with fail
          go_ret2
          exact ⟨by rw [E.out]; rfl, B⟩
        · obtain ⟨y, rfl⟩ : ∃ y : Nat, x = y := ⟨x.toNat, by omega⟩
          have hy : y < 15 := by omega
          rw [Int.toNat_natCast] at hg
          have c := hS.cell y hy
          have f := hS.free y hy
          have hbl := hS.lt
          by_cases hm : y ∈ (nats L).take k
          · have E := Lib.hid (HBAD.out (.inr (by simpa using hm)))
            rw [decide_eq_true hm] at c
            clear hm hS hg
            go_wp2_with fail
            go_ret2
            exact ⟨by rw [E.out]; rfl, B⟩
          · have hS2 := hS.set y hy ((nats L).take (k + 1)) (fun j => by rw [← hg]; exact take_mem (nats L) k hkN j)
            have HNM := Lib.hid (show (0 : Int) ≤ L.getD k 0 ∧ L.getD k 0 < 15 ∧ (L.getD k 0).toNat ∉ (nats L).take k by rw [HX.out]; exact ⟨by omega, by omega, by simpa using hm⟩)
            rw [decide_eq_false hm] at c
            have hyi : (y : Int) < 15 := by omega
            have hk14 : (k : Int) < 15 := by omega
            clear hm hS hg
            go_wp2_with fail
            go_roundw
            case rel => exact ⟨k + 1, by omega, by go_num, jstep HP.out HNM.out, hS2, B.setCell (Nat.le_refl _) _⟩
            case measure => simp [intOf]; omega
      · have hkl : ¬ (k : Int) < (n : Int) := by omega
        have hlen : L.length = n := HN.out
        have hok : okI L = true := (okI_iff L).2 ⟨by omega, fun i hi => HP.out i (by omega)⟩
        have hgood := okI_good hok
        have hof : ofV L = (enc (n :: (nats L ++ rest (nats L) 15)), 0) := by unfold ofV; rw [if_pos hok, hlen]
        have hml : (nats L).length = n := by rw [nats_length, hlen]
        have htk : (nats L).take k = nats L := List.take_of_length_le (by omega)
        rw [htk] at hS
        obtain ⟨m, hm⟩ : ∃ m, nats L = m := ⟨_, rfl⟩
        rw [hm] at hgood hof hml hS
        have hmd : Dig m := fun x hx => by have := hgood.lt x hx; omega
        have hmr := hgood.length
        have HOF := Lib.hid hof
        have HMD := Lib.hid hmd
        have HML := Lib.hid hml
        have HMR := Lib.hid hmr
        have hn15 : n ≤ 15 := h15
        have hints : ints m = L := by
          rw [← hm]
          apply List.ext_getElem (by simp [ints, nats])
          intro i h1 h2
          have := HP.out i (by omega)
          simp [ints, nats, List.getD, List.getElem?_eq_getElem h2] at this ⊢
          omega
        have HI := Lib.hid hints
        have HWM := Lib.hid (show Wrd n (m ++ rest m 15) by rw [← hm, ← hlen]; exact of_wrd hok)
        have hr0 : wr.ownsRow (w.heap.size + 1) 3 1 (.slice none 0 0) 0 (iv (rest m 0)) := by simpa [iv, rest] using World.ownsRow_nil wr (w.heap.size + 1) 3 1
        clear hof hok hgood hlen htk hm hmd hml hmr hints
        go_wp2_with fail
        obtain ⟨wo, rfl⟩ : ∃ wo : World, wo = wr := ⟨_, rfl⟩
        go_loopw [6, 7] (fun v i wr => ∃ j : Nat, j ≤ 15 ∧ i = .int .i64 j ∧ wr.ownsRow (w.heap.size + 1) 3 1 v (rest m j).length (iv (rest m j)) ∧ Seen wr w.heap.size m ∧ Below w.heap.size w wr) (fun _ i _ => 15 - (intOf i).toNat)
        case atStart => exact ⟨0, by omega, rfl, hr0, hS, B⟩
        case round =>
          clear hS B hr0
          obtain ⟨j, hj, rfl, hown, hS, B⟩ := hrel
          by_cases hlt2 : j < 15
          · have hjl : (j : Int) < 15 := by omega
            have c := hS.cell j hlt2
            have hrs := rest_succ m j
            by_cases hm : j ∈ m
            · rw [decide_eq_true hm] at c
              rw [if_pos hm, List.append_nil] at hrs
              rw [← hrs] at hown
              clear hrs hm
              go_wp2_with fail
              go_roundw
              case rel => exact ⟨j + 1, by omega, by go_num, hown, hS, B⟩
              case measure => simp [intOf]; omega
            · rw [decide_eq_false hm] at c
              rw [if_neg hm] at hrs
              have hlr : (rest m (j + 1)).length = (rest m j).length + 1 := by rw [hrs]; simp
              have hiv : iv (rest m (j + 1)) = iv (rest m j) ++ [.int .i64 (j : Int)] := by rw [hrs, iv_snoc]
              have hq15 : (rest m j).length ≤ 15 := by have := rest_le m j (by omega); have := HMR.out; omega
              have HLR := Lib.hid hlr
              have HIV := Lib.hid hiv
              have HQ := Lib.hid hq15
              have hs1 := hS.lt
              have HOWN := Lib.hid hown
              clear hrs hm hlr hiv hown hq15
              go_wp2_with (at_builtin; refine wpList_append_own _ rfl _ _ 23 rfl (w.heap.size + 1) 3 i0 (.int .i64 0) 1 8 Try.underlying23 hi hz0 hz1 hz2 rfl (by decide) _ _ _ rfl (HOWN.out.alloc _) ⟨wr.heap.size, 0, none⟩ 1 1 [.int .i64 (j : Int)] rfl rfl (by intro j u hj; match j, hj with | 0, hj => (simp at hj; subst hj; simp [Addr.add, go_sem])) (by intro u hu; simp at hu; subst hu; rfl) (by have := HQ.out; unfold maxLen; omega) (by have := HQ.out; omega) (by simp; omega) ?_)
              intro v' w3 hown' hgrow _
              have hB2 : Below (w.heap.size + 1) wr w3 := ((Below.refl _ _).alloc (by omega) _).grown hgrow (by simp; omega) (fun j hj => (HOWN.out.lt j hj).1)
              have hB3 : Below w.heap.size w w3 := B.trans ⟨hB2.os, hB2.tape, hB2.output, hB2.size, fun k hk => hB2.block k (by have := B.size; omega)⟩
              have hS3 : Seen w3 w.heap.size m := ⟨fun j hj => (hB2.cell (p := ⟨w.heap.size, j, none⟩) (by simp)).trans (hS.cell j hj), fun j hj => (hB2.frozen (p := ⟨w.heap.size, j, none⟩) (by simp)).trans (hS.free j hj)⟩
              have hown2 : w3.ownsRow (w.heap.size + 1) 3 1 v' (rest m (j + 1)).length (iv (rest m (j + 1))) := by rw [HLR.out, HIV.out]; exact hown'
              clear hown' hgrow HOWN B hB2 hS
              go_wp2_with fail
              go_roundw
              case rel => exact ⟨j + 1, by omega, by go_num, hown2, hS3, hB3⟩
              case measure => simp [intOf]; omega
          · have hjl : ¬ (j : Int) < 15 := by omega
            have e : j = 15 := by omega
            subst e
            have hmr := HMR.out
            have hml := HML.out
            have hl2 : (rest m 15).length = 15 - n := by omega
            rw [hl2] at hown
            have hnb := own_nb (k := 15 - n) hown
            obtain ⟨b, cb, rfl, h2, h3, h4⟩ := own_rd hown hl2
            have M := Lib.hid (made_law m (rest m 15) _ rfl n hml HWM.out a b cap cb wr (by rw [HI.out]; exact HR.out.below B) h3 (fun h => by have := HNONE.out h; exact ⟨by rw [← List.length_eq_zero_iff, hml, ← HN.out, this.1]; rfl, this.2⟩) (hnb b cb rfl))
            clear hown h3 h4 hnb hmr hml hS hl2
            go_wp2_with fail
            refine M.out.mono ?_; rintro e w' ⟨rfl, B'⟩
            go_wp2_with fail
            go_ret2
            exact ⟨by rw [HOF.out]; rfl, step_below B B'⟩
  · have h15i : 15 < (n : Int) := by omega
    have e : ofV L = (0, 2) := by
      unfold ofV
      rw [if_neg]
      intro h
      have := ((okI_iff L).1 h).1
      have := HN.out
      omega
    rw [e]
    go_enter Try.func15, Try.ntmps15
    go_wp2_with fail
    go_ret2
    exact ⟨rfl, (Below.refl _ _).alloc (Nat.le_refl _) _⟩
theorem rfirst_law (w : World) : Calls Try.prog 24 #[] w fun e w' => e = .returned (.int .u64 (P0 : Nat)) ∧ Below w.heap.size w w' := by
  have e1 : (ofV []).1 = P0 := by kernel_rfl
  have e2 : (ofV []).2 = 0 := by kernel_rfl
  go_enter Try.func24, Try.ntmps24
  go_wp2_with fail
  refine (rof_law none [] 0 (by simp) _ (Rd.nil _ _) (fun _ => ⟨rfl, rfl⟩)).mono ?_; rintro e w' ⟨rfl, B⟩
  rw [e1, e2]
  go_wp2_with fail
  go_ret
  exact ⟨rfl, B⟩
end Go.Proofs.Ytochdmdojcfceaa
