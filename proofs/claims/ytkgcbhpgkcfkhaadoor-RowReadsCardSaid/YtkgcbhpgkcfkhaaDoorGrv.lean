/- The reference's Of, by contracts. -/
import Derived.Test.YtkgcbhpgkcfkhaaDoorGrs
import Derived.Test.YtkgcbhpgkcfkhaaDoorGro
import Derived.Test.YtkgcbhpgkcfkhaaDoorRwo
import Derived.Test.YtkgcbhpgkcfkhaaDoorGbc
namespace Go.Proofs.YtkgcbhpgkcfkhaaDoor
open Go.ChangeShapes Go.WideShapes Go.ChangeAt Go.RowKit
set_option linter.unusedVariables false
set_option linter.unusedSimpArgs false

theorem fsL_len : ∀ (fs : List (List Int)), (∀ f ∈ fs, f.length ≤ 24) → (fsL fs).length ≤ 25 * fs.length
  | [], _ => by simp [fsL]
  | f :: fs, h => by
    rw [fsL_cons, List.length_append]
    have h1 := fsL_len fs (fun g hg => h g (by simp [hg]))
    have h2 := h f (by simp)
    simp only [wbytesL, List.length_cons]
    omega
theorem encR_len {fs : List (List Int)} (h : VF fs) : (encR fs).length ≤ 76 := by
  have h1 := fsL_len fs h.2.2
  have h2 := h.2.1
  simp only [encR, List.length_cons]
  omega
theorem byts_fs : ∀ (fs : List (List Int)), Byt (fsL fs) → ∀ f ∈ fs, Byt f
  | [], _, f, hf => by simp at hf
  | g :: fs, h, f, hf => by
    rw [fsL_cons] at h
    rcases List.mem_cons.1 hf with rfl | hf
    · exact fun x hx => h x (by simp [wbytesL, hx])
    · exact byts_fs fs (fun x hx => h x (by simp [hx])) f hf
theorem byts_of {R : List P1} (h : Byt (rbytesL R)) : ∀ p ∈ R, Byt p.bs := fun p hp => by
  rw [rbytes_enc, encR] at h
  exact byts_fs _ (fun x hx => h x (by simp [hx])) _ (List.mem_map.2 ⟨p, hp, rfl⟩)
theorem unL_succ (U : List Int) (n : Nat) : unL U (n + 1) = unL U n ++ [unb U n] := by simp [unL, List.range_succ]
set_option maxRecDepth 100000 in
set_option maxHeartbeats 4000000 in
theorem qof_law (a : Option Addr) (U : List Int) (m cap : Nat) (hm : U.length = m) (hm9 : m ≤ 1000000) (hU : ∀ x ∈ U, 0 ≤ x ∧ x ≤ 18446744073709551615) (w : World) (hA : Ls .u64 w a cap U) :
    Calls Tryd.prog 10 #[.slice a m cap] w fun r w' => OfP U r w' ∧ Below w.heap.size w w' := by
  by_cases h0 : m = 0
  · have hno := Lib.hid (head_no (U := U) (fun h => by have := h.1; omega))
    subst h0
    clear hA hU hm
    go_enter Tryd.func10, Tryd.ntmps10
    go_wp2_with fail
    go_ret2
    exact ⟨.inr ⟨hno.out, rfl⟩, Below.refl _ _⟩
  have hm1 : ¬ (m : Int) < 1 := by omega
  by_cases h11 : 11 < m
  · have hno := Lib.hid (head_no (U := U) (fun h => by have := h.2.1; omega))
    have h11i : (11 : Int) < (m : Int) := by omega
    clear hA hU hm
    go_enter Tryd.func10, Tryd.ntmps10
    go_wp2_with fail
    go_ret2
    exact ⟨.inr ⟨hno.out, rfl⟩, Below.refl _ _⟩
  have h11i : ¬ (11 : Int) < (m : Int) := by omega
  have hmi : (0 : Int) < (m : Int) := by omega
  obtain ⟨b0, o0, e0, d0⟩ := hA.get 0 (by omega)
  obtain ⟨x0, hx0⟩ : ∃ x, U.getD 0 0 = x := ⟨_, rfl⟩
  rw [hx0, Nat.add_zero] at d0
  have hx0b : 0 ≤ x0 ∧ x0 ≤ 18446744073709551615 := by
    rw [← hx0, show U.getD 0 0 = U[0] by simp [List.getD, List.getElem?_eq_getElem (by omega : 0 < U.length)]]
    exact hU _ (List.getElem_mem _)
  subst e0
  by_cases h80 : 80 < x0
  · have hno := Lib.hid (show ∀ fs, VF fs → HeadT U → headB U ≠ encR fs from fun fs hv h e => by
      have h1 := headB_length U h
      rw [hx0] at h1
      have h2 : (encR fs).length ≤ 76 := encR_len hv
      rw [← e, h1] at h2
      omega)
    clear hA hU hm hx0 hx0b
    go_enter Tryd.func10, Tryd.ntmps10
    go_wp2_with fail
    go_ret2
    exact ⟨.inr ⟨hno.out, rfl⟩, Below.refl _ _⟩
  obtain ⟨N, rfl⟩ : ∃ N : Nat, x0 = N := ⟨x0.toNat, by omega⟩
  have h80n : ¬ (80 : Int) < (N : Int) := h80
  have hcv : IntKind.i64.wrap (N : Int) = (N : Int) := by rw [IntKind.wrap_i64]; omega
  obtain ⟨c, rfl⟩ : ∃ c, m = 1 + c := ⟨m - 1, by omega⟩
  have hc10 : c ≤ 10 := by omega
  have hci : (c : Int) ≤ 10 := by omega
  have HA := Lib.hid hA
  have HM := Lib.hid hm
  have HU := Lib.hid hU
  have HX0 := Lib.hid hx0
  have hN80 : N ≤ 80 := by omega
  have hNi : (N : Int) ≤ 80 := by omega
  clear hA hm hU hx0 hx0b h0 h11 hm9 h80 hm1 h11i hmi
  have q1 : ¬ 1 + (c : Int) < 1 := by omega
  have q2 : ¬ (11 : Int) < 1 + (c : Int) := by omega
  have q3 : (0 : Int) < 1 + (c : Int) := by omega
  go_enter Tryd.func10, Tryd.ntmps10
  go_wp2_with fail
  go_loopw [4, 5] (fun v i wr => ∃ j : Nat, j ≤ c ∧ i = .int .i64 (1 + (j : Int)) ∧ wr.ownsRow w.heap.size 5 1 v (8 * j) (iv .u8 (unL U (8 * j))) ∧ Below w.heap.size w wr) (fun _ i _ => 20 - (intOf i).toNat)
  case atStart => exact ⟨0, by omega, rfl, World.ownsRow_nil _ _ _ _, Below.refl _ _⟩
  case round =>
    obtain ⟨j, hj, rfl, hown, B⟩ := hrel
    by_cases hlt : j < c
    · have hjl : 1 + (j : Int) < 1 + (c : Int) := by omega
      have hj0 : (0 : Int) ≤ 1 + (j : Int) := by omega
      have hjt : (1 + (j : Int)).toNat = 1 + j := by omega
      have hji : (j : Int) ≤ 10 := by omega
      obtain ⟨b1, o1, e1, d1⟩ := (HA.out.below B).get (1 + j) (by rw [HM.out]; omega)
      cases e1
      obtain ⟨x, hx⟩ : ∃ x, U.getD (1 + j) 0 = x := ⟨_, rfl⟩
      rw [hx] at d1
      have hxb := HU.out (U[1 + j]'(by rw [HM.out]; omega)) (List.getElem_mem _)
      rw [show U[1 + j]'(by rw [HM.out]; omega) = x by rw [← hx]; simp [List.getD, List.getElem?_eq_getElem (by rw [HM.out]; omega : 1 + j < U.length)]] at hxb
      have HX := Lib.hid hx
      have HO := Lib.hid hown
      have BB := Lib.hid B
      have hsz := B.size
      have DD := Lib.hid (fun W (b : Below wr.heap.size wr W) => (b.cell (p := ⟨b0, o0 + (1 + j), none⟩) (World.block_lt_of_cell? wr _ d1)).trans d1)
      clear hx hown B d1
      go_wp2_with fail
      go_loopw [4, 6] (fun v i wq => ∃ k : Nat, k ≤ 8 ∧ i = .int .i64 (k : Int) ∧ wq.ownsRow w.heap.size 5 1 v (8 * j + k) (iv .u8 (unL U (8 * j + k))) ∧ Below w.heap.size w wq ∧ wq.cell? ⟨b0, o0 + (1 + j), none⟩ = some (.int .u64 x)) (fun _ i _ => 8 - (intOf i).toNat)
      case atStart => exact ⟨0, by omega, rfl, HO.out, BB.out, DD.out _ (Below.refl _ _)⟩
      case round =>
        clear HO DD
        obtain ⟨k, hk, rfl, hown, B, d2⟩ := hrel
        by_cases hk8 : k < 8
        · have hkl : (k : Int) < 8 := by omega
          have hV : IntKind.u8.wrap (x / 2 ^ (56 - 8 * k)) = unb U (8 * j + k) := by
            rw [IntKind.wrap_u8, unb, show (8 * j + k) / 8 = j by omega, show (8 * j + k) % 8 = k by omega, HX.out]
          have hs1 : IntKind.i64.wrap (8 * (k : Int)) = 8 * (k : Int) := by rw [IntKind.wrap_i64]; omega
          have hs2 : IntKind.i64.wrap (56 - 8 * (k : Int)) = 56 - 8 * (k : Int) := by rw [IntKind.wrap_i64]; omega
          have hs3 : (0 : Int) ≤ 56 - 8 * (k : Int) := by omega
          have hs4 : (56 - 8 * (k : Int)).toNat = 56 - 8 * k := by omega
          have HO := Lib.hid hown
          have BB2 := Lib.hid B
          have hsz2 := B.size
          clear hown B
          go_wp2_with (at_builtin; refine append_ls eltB rfl (.tmp 36) (.tmp 46) rfl w.heap.size _ (8 * j + k) (iv .u8 (unL U (8 * j + k))) rfl (HO.out.alloc _) _ _ 1 [unb U (8 * j + k)] rfl rfl (ls_new .u8 _ [unb U (8 * j + k)] _ _ _ rfl 1 rfl) (by omega) (by simp; omega) ?_)
          intro v2 w3 hown3 hgrow3
          rw [← iv_append, ← unL_succ] at hown3
          have B4 := ((Below.refl w.heap.size wr).alloc hsz2 (.cells #[.int .u8 (unb U (8 * j + k))] 5)).grown hgrow3 (by simp; omega) (fun j hj => (HO.out.lt j hj).1)
          have d3 := (B4.cell (p := ⟨b0, o0 + (1 + j), none⟩) (show b0 < w.heap.size from World.block_lt_of_cell? w _ d0)).trans d2
          have HO3 := Lib.hid hown3
          have HB4 := Lib.hid (BB2.out.trans B4)
          have D3 := Lib.hid d3
          clear hown3 hgrow3 B4 d3 hV hs1 hs2 hs4
          go_wp2_with fail
          go_roundw
          case rel => exact ⟨k + 1, by omega, by go_num, HO3.out, HB4.out, D3.out⟩
          case measure => simp [intOf]; omega
        · have hkl : ¬ (k : Int) < 8 := by omega
          have HO := Lib.hid (show wr.ownsRow w.heap.size 5 1 _ (8 * (j + 1)) (iv .u8 (unL U (8 * (j + 1)))) by rw [show 8 * (j + 1) = 8 * j + k by omega]; exact hown)
          have BB2 := Lib.hid B
          clear hown B
          go_wp2_with fail
          go_roundw
          case rel => exact ⟨j + 1, by omega, by go_num, HO.out, BB2.out⟩
          case measure => simp [intOf]; omega
    · obtain rfl : j = c := by omega
      have hjl : ¬ 1 + (j : Int) < 1 + (j : Int) := by omega
      have hlen := unL_length U (8 * j)
      obtain ⟨ba, bc, rfl, hls, _⟩ := own_ls hown hlen
      obtain ⟨b1, o1, e1, d1⟩ := (HA.out.below B).get 0 (by rw [HM.out]; omega)
      cases e1
      rw [HX0.out, Nat.add_zero] at d1
      have hq8 : (((8 * j : Nat)) : Int) = 8 * (j : Int) := by omega
      by_cases hN : N ≤ 8 * j
      · have hNl : ¬ 8 * (j : Int) < (N : Int) := by omega
        obtain ⟨a3, c3, s3, l3⟩ := hls.hi eltB (8 * j) N hlen hN
        have hl3n : ((unL U (8 * j)).take N).length = N := by rw [List.length_take, hlen]; omega
        have HQ := Lib.hid (show ((unL U (8 * j)).take N) = headB U by
          unfold headB
          rw [HX0.out, HM.out, Int.toNat_natCast, show 1 + j - 1 = j by omega])
        have HRD := Lib.hid (qread_any a3 ((unL U (8 * j)).take N) N c3 hl3n (by omega) ((unL_byt U _).take N) wr l3)
        have HLN := Lib.hid hl3n
        have BB := Lib.hid B
        have s4 := s3
        push_cast at s4
        clear hown hls l3 hl3n B hlen hN
        go_wp2_with fail
        refine HRD.out.mono ?_; rintro r w2 ⟨hr, B2⟩
        have HB2 := Lib.hid (step_below BB.out B2)
        rcases hr with ⟨fs, a5, c5, R, hv, he, rfl, hRm, hR⟩ | ⟨hno, rfl⟩
        · have hRl : R.length = fs.length := by rw [← hRm]; simp
          have hmay : mayR R = true := (mayR_iff R).2 ⟨fun p hp => hv.2.2 _ (by rw [← hRm]; exact List.mem_map.2 ⟨p, hp, rfl⟩), by rw [hRl]; exact hv.1, by rw [hRl]; exact hv.2.1⟩
          have hbt : ∀ p ∈ R, Byt p.bs := fun p hp => by
            have hb : Byt (rbytesL R) := by rw [rbytes_enc, hRm, ← he]; exact (unL_byt U _).take N
            exact byts_of hb p hp
          have hrb : rbytesL R = headB U := by rw [rbytes_enc, hRm, ← he, HQ.out]
          have HW := refwords_law a5 R fs.length c5 hRl hmay hbt w2 hR
          rw [hrb] at HW
          obtain ⟨lw, hlw⟩ : ∃ l, (wordsL (headB U)).length = l := ⟨_, rfl⟩
          rw [hlw] at HW
          have HWW := Lib.hid HW
          have HLW := Lib.hid hlw
          have HIF := Lib.hid (of_iff U HU.out (headB U) rfl (by rw [← HQ.out]; exact (unL_byt U _).take N) (by rw [← HQ.out, HLN.out]; exact hN80))
          have H1 := Lib.hid hv
          have H2 := Lib.hid (show headB U = encR fs by rw [← HQ.out]; exact he)
          have H3 := Lib.hid hRm
          have H4 := Lib.hid hR
          obtain ⟨fl, hfl⟩ : ∃ fl, fs.length = fl := ⟨_, rfl⟩
          rw [hfl] at HWW ⊢
          have HFL := Lib.hid hfl
          have hlwi : lw ≤ 1000 := by
            have := wordsL_length (headB U)
            have h2 := HLN.out
            rw [HQ.out] at h2
            omega
          have d2 := (B2.cell (p := ⟨b0, o0, none⟩) (World.block_lt_of_cell? wr _ d1)).trans d1
          clear hv he hRm hR hRl hmay hbt hrb HW hlw hfl s3 s4 d1 B2
          go_wp2_with fail
          refine HWW.out.mono ?_; rintro r w3 ⟨⟨wa, wc, rfl, lw3⟩, B3⟩
          have HB3 := Lib.hid (step_below HB2.out B3)
          have HR3 := Lib.hid (H4.out.below B3)
          have HL3 := Lib.hid lw3
          clear lw3 B3 d2
          by_cases hlm : lw = 1 + j
          · subst hlm
            have hne : ((1 + (j : Int)) != 1 + (j : Int)) = false := by simp
            go_wp2_with fail
            go_loopw [11] (fun i wr => ∃ k : Nat, k ≤ 1 + j ∧ i = .int .i64 (k : Int) ∧ Hid (∀ q < k, (wordsL (headB U)).getD q 0 = U.getD q 0) ∧ Below w3.heap.size w3 wr) (fun i _ => 1 + j - (intOf i).toNat)
            case atStart => exact ⟨0, by omega, rfl, Lib.hid (fun q hq => absurd hq (by omega)), Below.refl _ _⟩
            case round =>
              obtain ⟨k, hk, rfl, hpre, B⟩ := hrel
              by_cases hlt : k < 1 + j
              · have hkl : (k : Int) < 1 + (j : Int) := by omega
                obtain ⟨b2, o2, e2, d2⟩ := (HL3.out.below B).get k (by rw [HLW.out]; exact hlt)
                subst e2
                obtain ⟨b3, o3, e3, d3⟩ := ((HA.out.below HB3.out).below B).get k (by rw [HM.out]; exact hlt)
                cases e3
                obtain ⟨x, hx⟩ : ∃ x, (wordsL (headB U)).getD k 0 = x := ⟨_, rfl⟩
                obtain ⟨y, hy⟩ : ∃ y, U.getD k 0 = y := ⟨_, rfl⟩
                rw [hx] at d2
                rw [hy] at d3
                have HX := Lib.hid hx
                have HY := Lib.hid hy
                have BK := Lib.hid B
                clear hx hy B
                by_cases hxy : x = y
                · subst hxy
                  have hnq : (x != x) = false := by simp
                  go_wp2_with fail
                  go_quiet (fail)
                  go_wp2_with fail
                  go_roundw
                  case rel => exact ⟨k + 1, by omega, by go_num, Lib.hid (jstep hpre.out (by rw [HX.out, HY.out])), below_drewN BK.out _⟩
                  case measure => simp [intOf]; omega
                · have hnq : (x != y) = true := by simp [hxy]
                  have hno := Lib.hid (head_no (U := U) (fun h => hxy (by rw [← HX.out, ← HY.out, HIF.out.2 h])))
                  go_wp2_with fail
                  go_quiet (fail)
                  go_wp2_with fail
                  try rw [Exit.noGoto_ret]
                  go_ret2
                  exact ⟨.inr ⟨hno.out, rfl⟩, step_below HB3.out (below_drewN BK.out _)⟩
              · have hkl : ¬ (k : Int) < 1 + (j : Int) := by omega
                have hh := Lib.hid (HIF.out.1 (list_getD (by rw [HLW.out, HM.out]) (fun q hq => hpre.out q (by rw [HLW.out] at hq; omega))))
                have BK := Lib.hid B
                clear B
                go_wp2_with fail
                go_ret2
                exact ⟨.inl ⟨fs, a5, c5, R, hh.out, H1.out, H2.out, by rw [HFL.out]; rfl, H3.out, HR3.out.below BK.out⟩, step_below HB3.out BK.out⟩
          · have hne : ((lw : Int) != 1 + (j : Int)) = true := by simp; omega
            have hno := Lib.hid (head_no (U := U) (fun h => hlm (by rw [← HLW.out, HIF.out.2 h, HM.out])))
            go_wp2_with fail
            go_ret2
            exact ⟨.inr ⟨hno.out, rfl⟩, HB3.out⟩
        · have H1 := Lib.hid (show ∀ fs, VF fs → HeadT U → headB U ≠ encR fs from fun fs hv _ => by rw [← HQ.out]; exact hno fs hv)
          clear hno
          go_wp2_with fail
          go_ret2
          exact ⟨.inr ⟨H1.out, rfl⟩, HB2.out⟩
      · have hNl : 8 * (j : Int) < (N : Int) := by omega
        have hno := Lib.hid (head_no (U := U) (fun h => by have := h.2.2.2.1; rw [HX0.out, Int.toNat_natCast, HM.out] at this; omega))
        have BB := Lib.hid B
        clear hown hls B hlen
        go_wp2_with fail
        go_ret2
        exact ⟨.inr ⟨hno.out, rfl⟩, BB.out⟩
end Go.Proofs.YtkgcbhpgkcfkhaaDoor
