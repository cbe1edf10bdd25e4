/- Whatever words are read as a row, by contracts. -/
import Derived.Test.YtkgcbhpgkcfkhaaDoorGtr
namespace Go.Proofs.YtkgcbhpgkcfkhaaDoor
open Go.ChangeShapes Go.WideShapes Go.ChangeAt Go.RowKit
set_option linter.unusedVariables false
set_option linter.unusedSimpArgs false

def unb (U : List Int) (i : Nat) : Int := U.getD (1 + i / 8) 0 / 2 ^ (56 - 8 * (i % 8)) % 256
def unL (U : List Int) (n : Nat) : List Int := (List.range n).map (unb U)
theorem unL_length (U : List Int) (n : Nat) : (unL U n).length = n := by simp [unL]
theorem unL_get (U : List Int) (n i : Nat) (h : i < n) : (unL U n).getD i 0 = unb U i := by simp [unL, List.getD, h]
theorem unb_bd (U : List Int) (i : Nat) : 0 ≤ unb U i ∧ unb U i ≤ 255 := by unfold unb; omega
theorem unL_byt (U : List Int) (n : Nat) : Byt (unL U n) := fun x hx => by
  simp only [unL, List.mem_map] at hx
  obtain ⟨i, _, rfl⟩ := hx
  exact unb_bd U i
/-- The bytes while they are laid. -/
structure Mb (W : World) (g : Nat) (U : List Int) (q k : Nat) : Prop where
  cell : ∀ j < q, W.cell? ⟨g, j, none⟩ = some (.int .u8 (if j < k then unb U j else 0))
  free : ∀ j, W.frozen? ⟨g, j, none⟩ = false
theorem Mb.set {W : World} {g q k : Nat} {U : List Int} (h : Mb W g U q k) (hk : k < q) (x : Int) (hx : x = unb U k) : Mb (W.setCell ⟨g, k, none⟩ (.int .u8 x)) g U q (k + 1) :=
  ⟨fun j hj => by
    by_cases e : j = k
    · subst e; rw [World.cell?_setCell_same _ _ _ (h.cell j hj), if_pos (by omega), hx]
    · rw [World.cell?_setCell_other W ⟨g, k, none⟩ ⟨g, j, none⟩ _ (fun q => by simp at q <;> omega), h.cell j hj]
      by_cases hjk : j < k
      · rw [if_pos hjk, if_pos (by omega)]
      · rw [if_neg hjk, if_neg (by omega)],
   fun j => by rw [World.frozen?_setCell]; exact h.free j⟩
theorem Mb.drew {W : World} {g q k : Nat} {U : List Int} (h : Mb W g U q k) : Mb W.drew g U q k := ⟨h.cell, h.free⟩
theorem Mb.ls {W : World} {g q : Nat} {U : List Int} (h : Mb W g U q q) : Ls .u8 W (some ⟨g, 0, none⟩) q (unL U q) :=
  ⟨fun k hk => ⟨g, 0, rfl, by
    rw [unL_length] at hk
    rw [Nat.zero_add, h.cell k hk, if_pos hk, unL_get U q k hk]⟩, fun e => (by cases e), by rw [unL_length]; omega⟩
/-- The words that may be a row's: how many there are, and what stands behind. -/
def HeadT (U : List Int) : Prop := 1 ≤ U.length ∧ U.length ≤ 11 ∧ U.getD 0 0 ≤ 88 ∧ U.length = 1 + ((U.getD 0 0).toNat + 7) / 8 ∧ ∀ i, ((unL U (8 * (U.length - 1))).drop (U.getD 0 0).toNat).getD i 0 = 0
def headB (U : List Int) : List Int := (unL U (8 * (U.length - 1))).take (U.getD 0 0).toNat
def OfP (U : List Int) (r : Ending) (w' : World) : Prop :=
  (∃ (fs : List (List Int)) (a' : Option Addr) (c' : Nat) (R : List P1), HeadT U ∧ VF fs ∧ headB U = encR fs ∧ r = .returned (.tuple #[.slice a' fs.length c', .int .i64 0]) ∧ R.map P1.bs = fs ∧ RdR w' a' R) ∨
  ((∀ fs, VF fs → HeadT U → headB U ≠ encR fs) ∧ r = .returned (.tuple #[.slice none 0 0, .int .i64 4]))
/-- Whatever is read. -/
def ReP (L : List Int) (r : Ending) (w' : World) : Prop :=
  (∃ (fs : List (List Int)) (a' : Option Addr) (c' : Nat) (R : List P1), VF fs ∧ L = encR fs ∧ r = .returned (.tuple #[.slice a' fs.length c', .int .i64 0]) ∧ R.map P1.bs = fs ∧ RdR w' a' R) ∨
  ((∀ fs, VF fs → L ≠ encR fs) ∧ r = .returned (.tuple #[.slice none 0 0, .int .i64 4]))
theorem read_any (a : Option Addr) (L : List Int) (n cap : Nat) (hL : L.length = n) (hn : n ≤ 1000000) (hB : Byt L) (w : World) (hA : Ls .u8 w a cap L) :
    Calls Tryd.prog 7 #[.slice a n cap] w fun r w' => ReP L r w' ∧ Below w.heap.size w w' := by
  by_cases h : ∃ fs, VF fs ∧ L = encR fs
  · obtain ⟨fs, hv, he⟩ := h
    exact (read_ok a L n cap hL hn fs.length fs he ⟨hv.1, hv.2.1⟩ rfl hv.2.2 w hA).mono fun r w' ⟨⟨a', c', R, h1, h2, h3⟩, hb⟩ => ⟨.inl ⟨fs, a', c', R, hv, he, h1, h2, h3⟩, hb⟩
  · have hno : ∀ fs, VF fs → L ≠ encR fs := fun fs hv e => h ⟨fs, hv, e⟩
    exact (read_fail a L n cap hL hn hB hno w hA).mono fun r w' ⟨h1, hb⟩ => ⟨.inr ⟨hno, h1⟩, hb⟩
theorem head_no {U : List Int} (h : ¬ HeadT U) : ∀ fs, VF fs → HeadT U → headB U ≠ encR fs := fun _ _ h' => absurd h' h
set_option maxRecDepth 100000 in
set_option maxHeartbeats 4000000 in
theorem of_law (a : Option Addr) (U : List Int) (m cap : Nat) (hm : U.length = m) (hm9 : m ≤ 1000000) (hU : ∀ x ∈ U, 0 ≤ x ∧ x ≤ 18446744073709551615) (w : World) (hA : Ls .u64 w a cap U) :
    Calls Tryd.prog 9 #[.slice a m cap] w fun r w' => OfP U r w' ∧ Below w.heap.size w w' := by
  by_cases h0 : m = 0
  · have hno := Lib.hid (head_no (U := U) (fun h => by have := h.1; omega))
    subst h0
    clear hA hU hm
    go_enter Tryd.func9, Tryd.ntmps9
    go_wp2_with fail
    go_ret2
    exact ⟨.inr ⟨hno.out, rfl⟩, Below.refl _ _⟩
  have hm0 : ((m : Int) == 0) = false := by simp; omega
  by_cases h11 : 11 < m
  · have hno := Lib.hid (head_no (U := U) (fun h => by have := h.2.1; omega))
    have h11i : (11 : Int) < (m : Int) := by omega
    clear hA hU hm
    go_enter Tryd.func9, Tryd.ntmps9
    go_wp2_with fail
    go_ret2
    exact ⟨.inr ⟨hno.out, rfl⟩, Below.refl _ _⟩
  have h11i : ¬ (11 : Int) < (m : Int) := by omega
  have hmi : (0 : Int) < (m : Int) := by omega
  obtain ⟨b0, o0, e0, d0⟩ := hA.get 0 (by omega)
  obtain ⟨x0, hx0⟩ : ∃ x, U.getD 0 0 = x := ⟨_, rfl⟩
  rw [hx0, Nat.add_zero] at d0
  have hx0b : 0 ≤ x0 ∧ x0 ≤ 18446744073709551615 := by
    rw [← hx0, show U.getD 0 0 = U[0] by simp [List.getD, List.getElem?_eq_getElem (by omega : 0 < U.length)]]
    exact hU _ (List.getElem_mem _)
  subst e0
  by_cases h88 : 88 < x0
  · have hno := Lib.hid (head_no (U := U) (fun h => by have := h.2.2.1; omega))
    clear hA hU hm hx0 hx0b
    go_enter Tryd.func9, Tryd.ntmps9
    go_wp2_with fail
    go_ret2
    exact ⟨.inr ⟨hno.out, rfl⟩, Below.refl _ _⟩
  obtain ⟨N, rfl⟩ : ∃ N : Nat, x0 = N := ⟨x0.toNat, by omega⟩
  have h88n : ¬ (88 : Int) < (N : Int) := h88
  have hcv : IntKind.i64.wrap (N : Int) = (N : Int) := by rw [IntKind.wrap_i64]; omega
  have hcl := fun w => count_law N (by omega) w
  obtain ⟨c, hc⟩ : ∃ c, (N + 7) / 8 = c := ⟨_, rfl⟩
  rw [hc] at hcl
  have HCL := Lib.hid hcl
  have HC := Lib.hid hc
  by_cases hmc : m = 1 + c
  · subst hmc
    have hne : ((1 + (c : Int)) != 1 + (c : Int)) = false := by simp
    have hci : (c : Int) ≤ 11 := by omega
    have q0 : ((1 + (c : Int)) == 0) = false := by simp; omega
    have q1 : ¬ (11 : Int) < 1 + (c : Int) := by omega
    have q2 : (0 : Int) < 1 + (c : Int) := by omega
    have q3 : IntKind.i64.wrap (8 * (c : Int)) = 8 * (c : Int) := by rw [IntKind.wrap_i64]; omega
    obtain ⟨i0, hi, hz0, hz1, hz2⟩ := info_parts eltB.inf
    have HA := Lib.hid hA
    have HM := Lib.hid hm
    have HU := Lib.hid hU
    have HX0 := Lib.hid hx0
    have hc10 : c ≤ 11 := by omega
    have hNc := Lib.hid (show N ≤ 8 * c by have := HC.out; omega)
    have hN88 := Lib.hid (show N ≤ 88 by omega)
    have hNi : (N : Int) ≤ 88 := by omega
    clear hA hm hU hx0 hx0b hc hcl h0 h11 hm9 h88 hm0 h11i hmi h88n
    have h88n : ¬ (88 : Int) < (N : Int) := by omega
    go_enter Tryd.func9, Tryd.ntmps9
    go_wp2_with fail
    refine (HCL.out _).mono ?_; rintro r w' ⟨rfl, rfl⟩
    go_wp2_with (at_make; refine wpList_make_full _ rfl _ _ 22 rfl w.heap.size 5 i0 (.int .u8 0) 1 Tryd.underlying22 hi hz0 hz1 .i64 .i64 _ _ (8 * c) rfl rfl (by push_cast; omega) (by push_cast; omega) (by rw [hz2]; omega) (by unfold maxLen; omega) (Nat.le_refl _) ?_)
    intro w2 hown hgrow
    have B2 : Below w.heap.size w w2 := (Below.refl w.heap.size w).grown hgrow (Nat.le_refl _) (fun j hj => by cases hj)
    have hg2 := (hown.lt _ rfl).2
    have HLU := Lib.hid (show ∀ W, Below w.heap.size w W → Ls .u64 W (some ⟨b0, o0, none⟩) cap U from fun W b => HA.out.below b)
    obtain ⟨g, hg⟩ : ∃ g, w.heap.size = g := ⟨_, rfl⟩
    have HGE := Lib.hid hg
    rw [hg] at hown hg2 B2 HLU ⊢
    have hf : ∀ j, w2.frozen? ⟨g, j, none⟩ = false := own_froz hown
    have M0 : Mb w2 g U (8 * c) 0 := ⟨fun j hj => by
      rw [hown.cellAt j (by omega)]
      simp [madeCells, hj, Nat.mod_one], hf⟩
    have d1 := (B2.cell (p := ⟨b0, o0, none⟩) (by rw [← hg]; exact World.block_lt_of_cell? w _ d0)).trans d0
    have hgb : b0 < g := by rw [← hg]; exact World.block_lt_of_cell? w _ d0
    clear hown hgrow hf hg d0
    go_wp2_with fail
    go_loopw [39] (fun i wr => ∃ k : Nat, k ≤ 8 * c ∧ i = .int .i64 k ∧ Mb wr g U (8 * c) k ∧ Below g w wr) (fun i _ => 8 * c - (intOf i).toNat)
    case atStart => exact ⟨0, by omega, rfl, M0, B2⟩
    case round =>
      clear M0 B2 d1
      obtain ⟨k, hk, rfl, hMb, B⟩ := hrel
      by_cases hlt : k < 8 * c
      · have hkl : (k : Int) < 8 * (c : Int) := by omega
        obtain ⟨j, hj⟩ : ∃ j, k / 8 = j := ⟨_, rfl⟩
        obtain ⟨r, hr⟩ : ∃ r, k % 8 = r := ⟨_, rfl⟩
        have hjc : j < c := by omega
        obtain ⟨b1, o1, e1, c1'⟩ := (HLU.out wr B).get (1 + j) (by rw [HM.out]; omega)
        cases e1
        obtain ⟨x, hx⟩ : ∃ x, U.getD (1 + j) 0 = x := ⟨_, rfl⟩
        rw [hx] at c1'
        have hxb := HU.out (U[1 + j]'(by rw [HM.out]; omega)) (List.getElem_mem _)
        rw [show U[1 + j]'(by rw [HM.out]; omega) = x by rw [← hx]; simp [List.getD, List.getElem?_eq_getElem (by rw [HM.out]; omega : 1 + j < U.length)]] at hxb
        have hcell := hMb.cell k hlt
        rw [if_neg (by omega)] at hcell
        have hfree := hMb.free k
        have hq8 : (k : Int) / 8 = (j : Int) := by omega
        have hjci : 1 + (j : Int) < 1 + (c : Int) := by omega
        have hsh := shift_law k (by omega)
        rw [hr] at hsh
        have HSH := Lib.hid hsh
        have HU2 := Lib.hid (show unb U k = x / 2 ^ (56 - 8 * r) % 256 by unfold unb; rw [hj, hr, hx])
        have HMb := Lib.hid hMb
        have hs56 : ((56 - 8 * r : Nat) : Int) ≤ 56 := by omega
        have hw1 : IntKind.i64.wrap (j : Int) = (j : Int) := by rw [IntKind.wrap_i64]; omega
        have hw2 : IntKind.i64.wrap (1 + (j : Int)) = 1 + (j : Int) := by rw [IntKind.wrap_i64]; omega
        have hw3 : (1 + (j : Int)).toNat = 1 + j := by omega
        have hj0 : (0 : Int) ≤ 1 + (j : Int) := by omega
        clear hx hj hr hsh hMb
        go_wp2_with fail
        have hmx : Tryd.prog.follows .mixedOrders = true := by kernel_rfl
        go_still_tail 13, (by kernel_rfl)
        still_call (HSH.out _)
        repeat still_step
        refine wpStill_nil ?_
        change wpList _ _ _ _ _ wr.drew
        have HM2 := HMb.out.drew
        have BD := B.drew
        have hcell2 : wr.drew.cell? ⟨g, k, none⟩ = some (.int .u8 0) := hcell
        have hfree2 : wr.drew.frozen? ⟨g, k, none⟩ = false := hfree
        clear hcell hfree B HMb c1'
        generalize wr.drew = W2 at hcell2 hfree2 BD HM2 ⊢
        have hVv : IntKind.u8.wrap (x / 2 ^ (56 - 8 * r)) = unb U k := by rw [IntKind.wrap_u8, HU2.out]
        obtain ⟨V, hV⟩ : ∃ V, IntKind.u8.wrap (x / 2 ^ (56 - 8 * r)) = V := ⟨_, rfl⟩
        rw [hV] at hVv
        try rw [hV]
        have M3 := HM2.set hlt V hVv
        have B3 := BD.setCell (p := ⟨g, k, none⟩) (Nat.le_refl _) (.int .u8 V)
        clear hVv HM2 BD
        go_wp2_with fail
        go_roundw
        case rel => exact ⟨k + 1, by omega, by go_num, M3, B3⟩
        case measure => simp [intOf]; omega
      · have hkl : ¬ (k : Int) < 8 * (c : Int) := by omega
        have hke : k = 8 * c := by omega
        rw [hke] at hMb
        have hls := hMb.ls
        have hlen := unL_length U (8 * c)
        obtain ⟨b1, o1, e1, d1⟩ := (HLU.out wr B).get 0 (by rw [HM.out]; omega)
        cases e1
        rw [HX0.out, Nat.add_zero] at d1
        obtain ⟨a2, c2, s2, l2⟩ := hls.lo eltB (8 * c) N hlen hNc.out
        obtain ⟨a3, c3, s3, l3⟩ := hls.hi eltB (8 * c) N hlen hNc.out
        have hl2n : ((unL U (8 * c)).drop N).length = 8 * c - N := by rw [List.length_drop, hlen]
        have hl3n : ((unL U (8 * c)).take N).length = N := by rw [List.length_take, hlen]; have := hNc.out; omega
        have HT := Lib.hid (trim_law a2 (8 * c - N) c2 _ hl2n (by omega) wr l2)
        have HRD := Lib.hid (fun W (b : Below wr.heap.size wr W) => read_any a3 ((unL U (8 * c)).take N) N c3 hl3n (by omega) ((unL_byt U _).take N) W (l3.below b))
        have BB := Lib.hid B
        have HQ := Lib.hid (show ((unL U (8 * c)).drop N) = (unL U (8 * (U.length - 1))).drop (U.getD 0 0).toNat ∧ ((unL U (8 * c)).take N) = headB U by
          unfold headB
          rw [HX0.out, HM.out, Int.toNat_natCast, show 1 + c - 1 = c by omega]
          exact ⟨rfl, rfl⟩)
        clear hMb hls l2 l3 hl2n hl3n B hlen
        go_wp2_with fail
        refine HT.out.mono ?_; rintro r w3 ⟨⟨l, a4, c4, hl0, rfl⟩, B3⟩
        have HL0 := Lib.hid hl0
        clear hl0
        by_cases hl : l = 0
        · have hhd := Lib.hid (show HeadT U from ⟨by rw [HM.out]; omega, by rw [HM.out]; omega, by rw [HX0.out]; have := hN88.out; omega, by rw [HM.out, HX0.out, Int.toNat_natCast, HC.out], by rw [← HQ.out.1]; exact HL0.out.1 hl⟩)
          subst hl
          go_wp2_with fail
          refine (HRD.out _ B3).mono ?_; rintro r w4 ⟨hr, B4⟩
          have HB4 := Lib.hid (show Below w.heap.size w w4 by
            have hz : g ≤ wr.heap.size := by rw [← HGE.out]; exact BB.out.size
            rw [HGE.out]; exact (BB.out.trans (B3.mono hz)).trans (B4.mono (Nat.le_trans hz B3.size)))
          rcases hr with ⟨fs, a5, c5, R, hv, he, rfl, hRm, hR⟩ | ⟨hno, rfl⟩
          · have H1 := Lib.hid hv
            have H2 := Lib.hid he
            have H3 := Lib.hid hRm
            have H4 := Lib.hid hR
            clear hv he hRm hR
            obtain ⟨fl, hfl⟩ : ∃ fl, fs.length = fl := ⟨_, rfl⟩
            rw [hfl]
            have HFL := Lib.hid hfl
            clear hfl
            go_wp2_with fail
            go_ret2
            exact ⟨.inl ⟨fs, a5, c5, R, hhd.out, H1.out, by rw [← HQ.out.2]; exact H2.out, by rw [HFL.out]; rfl, H3.out, H4.out⟩, HB4.out⟩
          · have H1 := Lib.hid hno
            clear hno
            go_wp2_with fail
            go_ret2
            exact ⟨.inr ⟨fun fs hv _ => by rw [← HQ.out.2]; exact H1.out fs hv, rfl⟩, HB4.out⟩
        · have hli : (0 : Int) < (l : Int) := by omega
          have hno := Lib.hid (head_no (U := U) (fun h => hl (HL0.out.2 (by rw [HQ.out.1]; exact h.2.2.2.2))))
          have HB3 := Lib.hid (show Below w.heap.size w w3 by
            have hz : g ≤ wr.heap.size := by rw [← HGE.out]; exact BB.out.size
            rw [HGE.out]; exact BB.out.trans (B3.mono hz))
          clear hl
          go_wp2_with fail
          go_ret2
          exact ⟨.inr ⟨hno.out, rfl⟩, HB3.out⟩
  · have hno := Lib.hid (head_no (U := U) (fun h => by have := h.2.2.2.1; rw [hx0, Int.toNat_natCast, hc] at this; omega))
    have hne : ((m : Int) != 1 + (c : Int)) = true := by simp; omega
    have hci : (c : Int) ≤ 11 := by omega
    clear hA hU hm hx0 hx0b hc hcl hmc
    go_enter Tryd.func9, Tryd.ntmps9
    go_wp2_with fail
    refine (HCL.out _).mono ?_; rintro r w' ⟨rfl, rfl⟩
    go_wp2_with fail
    go_ret2
    exact ⟨.inr ⟨hno.out, rfl⟩, Below.refl _ _⟩
end Go.Proofs.YtkgcbhpgkcfkhaaDoor
