/- The reference's reader: a field, a row; by contracts. -/
import Derived.Test.YtkgcbhpgkcfkhaaDoorGrr
namespace Go.Proofs.YtkgcbhpgkcfkhaaDoor
open Go.ChangeShapes Go.WideShapes Go.ChangeAt Go.RowKit
set_option linter.unusedVariables false
set_option linter.unusedSimpArgs false

set_option maxRecDepth 100000 in
set_option maxHeartbeats 4000000 in
theorem qfield_good {W : World} {B : Nat} {ad : Option Addr} {cap n : Nat} {L : List Int} {p : Nat} (h : Rdq W B ad cap n L p) (hn : n ≤ 1000000) (hB : Byt L) (f rest : List Int) (hf : f.length ≤ 24) (hd : L.drop p = wbytesL f ++ rest) :
    Calls Tryd.prog 29 #[.pointer (some ⟨B, 0, none⟩), .int .i64 24] W fun r w' => ∃ a' c', r = .returned (.tuple #[.slice a' f.length c', .int .i64 0]) ∧ w'.ownsRow W.heap.size 5 1 (.slice a' f.length c') f.length (iv .u8 f) ∧ Rdq w' B ad cap n L (p + 1 + f.length) ∧ W.grownBy w' (some B) := by
  have hlen := h.len
  have hp : p < n := by
    have := congrArg List.length hd
    rw [List.length_drop, hlen] at this
    simp [wbytesL] at this
    omega
  have hfit : p + 1 + f.length ≤ n := by
    have := congrArg List.length hd
    rw [List.length_drop, hlen] at this
    simp [wbytesL] at this
    omega
  obtain ⟨c, hc⟩ : ∃ c, f.length = c := ⟨_, rfl⟩
  have hg : L.getD p 0 = (c : Int) := by
    have := congrArg (fun l : List Int => l.getD 0 0) hd
    simpa [List.getD, List.getElem?_drop, wbytesL, hc] using this
  have hd1 : (L.drop (p + 1)).take c = f := by
    rw [← List.drop_drop, hd]
    simp [wbytesL, ← hc]
  rw [hc] at hf hfit ⊢
  have c1 := h.c1
  have H := Lib.hid h
  have HQ := Lib.hid (qnumber h hn hB)
  have HG := Lib.hid hg
  have HD1 := Lib.hid hd1
  have HC := Lib.hid hc
  have HFIT := Lib.hid hfit
  obtain ⟨m, hm⟩ : ∃ m, n - (p + 1) = m := ⟨_, rfl⟩
  have hcm : ¬ (m : Int) < (c : Int) := by omega
  have hmi : (m : Int) ≤ 1000000 := by omega
  have HMM := Lib.hid hm
  have hci : (c : Int) ≤ 24 := by omega
  have hci2 : ¬ (24 : Int) < (c : Int) := by omega
  have hpi : (p : Int) < (n : Int) := by omega
  have hni : (n : Int) ≤ 1000000 := by omega
  have hw24 : IntKind.u64.wrap 24 = 24 := by decide
  have HPN := Lib.hid hp
  clear h hd hg hd1 hc hlen hp hm hfit
  go_enter Tryd.func29, Tryd.ntmps29
  go_wp2_with fail
  refine HQ.out.mono ?_; rintro r w2 ⟨hq, g2⟩
  have h2 : r = .returned (.tuple #[.int .u64 (c : Int), .int .i64 0]) ∧ Rdq w2 B ad cap n L (p + 1) := by
    rcases hq with ⟨_, _, e, h2⟩ | ⟨h0, _⟩ | ⟨_, h0, _⟩
    · rw [HG.out] at e; exact ⟨e, h2⟩
    · have := HG.out; have := HPN.out; rcases h0 with h0 | h0 <;> omega
    · have := HG.out; omega
  obtain ⟨rfl, h2⟩ := h2
  have LF := qleft_law h2 hn
  rw [HMM.out] at LF
  have HLF := Lib.hid LF
  have H2 := Lib.hid h2
  have G2 := Lib.hid g2
  clear hq h2 g2 LF
  go_wp2_with fail
  refine HLF.out.mono ?_; rintro r w3 ⟨rfl, B3⟩
  have h3 := H2.out.below B3
  have e0 := h3.c0
  have e1 := h3.c1
  have f1 := h3.f1
  have H3 := Lib.hid h3
  have G3 := Lib.hid (oth_trans G2.out (oth_below B B3))
  have hcw : IntKind.i64.wrap (c : Int) = (c : Int) := by rw [IntKind.wrap_i64]; omega
  have hw1 : (((p + 1 : Nat)) : Int) = (p : Int) + 1 := by omega
  rw [hw1] at e1
  have hadd : IntKind.i64.wrap ((p : Int) + 1 + (c : Int)) = (p : Int) + 1 + (c : Int) := by rw [IntKind.wrap_i64]; omega
  clear h3 B3 c1
  go_wp2_with fail
  have hw2 : (p : Int) + 1 + (c : Int) = ((p + 1 + c : Nat) : Int) := by omega
  have h4 := H3.out.move (p + 1 + c) HFIT.out
  have g4 := oth_trans G3.out (oth_set w3 B 1 (.int .i64 ((p + 1 + c : Nat) : Int)))
  rw [hw2]
  clear hadd e0 e1 f1
  generalize w3.setCell ⟨B, 1, none⟩ (.int .i64 ((p + 1 + c : Nat) : Int)) = W4 at h4 g4 ⊢
  obtain ⟨a', c', s', l'⟩ := h4.here.mid eltB n (p + 1) (p + 1 + c) h4.len (by omega) HFIT.out
  rw [show p + 1 + c - (p + 1) = c by omega] at s' l'
  rw [HD1.out] at l'
  have e0 := h4.c0
  have e1 := h4.c1
  have hsub : IntKind.i64.wrap (((p + 1 + c : Nat) : Int) - (c : Int)) = ((p + 1 : Nat) : Int) := by rw [IntKind.wrap_i64]; omega
  have H4 := Lib.hid h4
  have G4 := Lib.hid g4
  have L4 := Lib.hid (show Ls .u8 W4.drew a' c' f from l'.drew)
  clear h4 g4 l' hw1 hw2
  have s2 := s'
  push_cast at s2
  have hsub2 : IntKind.i64.wrap ((p : Int) + 1) = (p : Int) + 1 := by rw [IntKind.wrap_i64]; omega
  have e2 := e1
  push_cast at e2
  have hmx : Tryd.prog.follows .mixedOrders = true := by kernel_rfl
  go_still_tail 16, (by kernel_rfl)
  change wpList _ _ _ _ _ W4.drew
  have B5 : Below W4.heap.size W4 W4.drew := (Below.refl _ _).drew
  have H5 := Lib.hid (H4.out.below B5)
  have G5 := Lib.hid (oth_trans G4.out (oth_below B B5))
  clear B5 s' s2 hsub2 e2 e0 e1 hsub
  generalize W4.drew = W5 at L4 H5 G5 ⊢
  go_wp2_with (at_builtin; refine append_ls eltB rfl (.const (.slice none 0 0)) (.tmp 67) rfl W5.heap.size _ 0 [] rfl (World.ownsRow_nil _ _ _ _) _ _ c f HC.out rfl L4.out (by omega) (Nat.le_refl _) ?_)
  intro v6 w6 ho hg6
  have B6 : Below W5.heap.size W5 w6 := (Below.refl W5.heap.size W5).grown hg6 (Nat.le_refl _) (fun j hj => by cases hj)
  obtain ⟨a6, c6, rfl, _⟩ := own_ls ho HC.out
  have hsz : W.heap.size ≤ W5.heap.size := G5.out.size
  have HO := Lib.hid (show w6.ownsRow W.heap.size 5 1 (.slice a6 c c6) c (iv .u8 f) by
    have := own_base hsz ho
    simpa using this)
  have H6 := Lib.hid (H5.out.below B6)
  have G6 := Lib.hid (oth_trans G5.out (oth_below B B6))
  clear ho hg6 B6
  go_wp2_with fail
  go_ret2
  exact ⟨a6, c6, rfl, HO.out, H6.out, G6.out⟩
set_option maxRecDepth 100000 in
set_option maxHeartbeats 4000000 in
theorem qfield_bad {W : World} {B : Nat} {ad : Option Addr} {cap n : Nat} {L : List Int} {p : Nat} (h : Rdq W B ad cap n L p) (hn : n ≤ 1000000) (hB : Byt L) (hbad : BadF n L p) :
    Calls Tryd.prog 29 #[.pointer (some ⟨B, 0, none⟩), .int .i64 24] W fun r w' => (∃ e : Int, Er e ∧ r = .returned (.tuple #[.slice none 0 0, .int .i64 e])) ∧ W.grownBy w' (some B) := by
  have c1 := h.c1
  have HQ := Lib.hid (qnumber h hn hB)
  have hni : (n : Int) ≤ 1000000 := by omega
  have hw24 : IntKind.u64.wrap 24 = 24 := by decide
  have HBD := Lib.hid hbad
  clear h hB hbad
  go_enter Tryd.func29, Tryd.ntmps29
  go_wp2_with fail
  refine HQ.out.mono ?_; rintro r w2 ⟨hq, g2⟩
  rcases hq with ⟨hp, h128, rfl, h2⟩ | ⟨h0, rfl, h2⟩ | ⟨hp, h128, v, hv, hv2, rfl, q, h2⟩
  · rcases HBD.out with (hb | ⟨_, hb⟩) | ⟨c, _, hc, hc24, hshort⟩
    · exact absurd hb (by omega)
    · obtain ⟨x, hx⟩ : ∃ x, L.getD p 0 = x := ⟨_, rfl⟩
      rw [hx] at hb h128
      rw [hx]
      have e1 := h2.c1
      have f1 := h2.f1
      have G2 := Lib.hid g2
      clear hx h2 g2 HBD HQ
      go_wp2_with fail
      go_ret2
      exact ⟨⟨3, .inl rfl, rfl⟩, oth_trans G2.out (oth_set _ _ _ _)⟩
    · rw [hc]
      obtain ⟨m, hm⟩ : ∃ m, n - (p + 1) = m := ⟨_, rfl⟩
      have LF := qleft_law h2 hn
      rw [hm] at LF
      have HLF := Lib.hid LF
      have hcm : (m : Int) < (c : Int) := by omega
      have hmi : (m : Int) ≤ 1000000 := by omega
      have hci : (c : Int) ≤ 24 := by omega
      have hci2 : ¬ (24 : Int) < (c : Int) := by omega
      have H2 := Lib.hid h2
      have G2 := Lib.hid g2
      clear h2 g2 LF hm hc hshort HBD HQ h128
      go_wp2_with fail
      refine HLF.out.mono ?_; rintro r w3 ⟨rfl, B3⟩
      have h3 := H2.out.below B3
      have e1 := h3.c1
      have f1 := h3.f1
      have G3 := Lib.hid (oth_trans G2.out (oth_below B B3))
      clear h3 B3
      go_wp2_with fail
      go_ret2
      exact ⟨⟨4, .inr rfl, rfl⟩, oth_trans G3.out (oth_set _ _ _ _)⟩
  · have e1 := h2.c1
    have f1 := h2.f1
    have G2 := Lib.hid g2
    clear h2 g2 HBD HQ h0
    go_wp2_with fail
    go_ret2
    exact ⟨⟨4, .inr rfl, rfl⟩, oth_trans G2.out (oth_set _ _ _ _)⟩
  · have e1 := h2.c1
    have f1 := h2.f1
    have G2 := Lib.hid g2
    have hv3 : (24 : Int) < v := by omega
    clear h2 g2 HBD HQ h128
    go_wp2_with fail
    go_ret2
    exact ⟨⟨3, .inl rfl, rfl⟩, oth_trans G2.out (oth_set _ _ _ _)⟩
theorem wBelow {w W1 w' : World} (h : Below w.heap.size w W1) (g : W1.grownBy w' (some w.heap.size)) (hsz : W1.heap.size = w.heap.size + 1) : Below w.heap.size w w' := below_oth h g (by omega) (Nat.le_refl _)
theorem rdq_box (w : World) (a : Option Addr) (cap n : Nat) (L : List Int) (hn : L.length = n) (hl : Ls .u8 w a cap L) : Rdq (w.alloc (.cells #[.slice a n cap, .int .i64 0] 61)) w.heap.size a cap n L 0 := by
  refine ⟨hn, by rw [cell_new]; rfl, by rw [cell_new]; rfl, by simp [go_sem], fun W2 h2 => ?_, Nat.zero_le _, fun h0 b off e => ?_⟩
  · have hl2 := hl.below ((Below.refl _ w).alloc (Nat.le_refl _) (.cells #[.slice a n cap, .int .i64 0] 61))
    refine ⟨fun k hk => ?_, hl.nl, hl.le⟩
    obtain ⟨b, off, e, hc⟩ := hl2.rd k hk
    exact ⟨b, off, e, (h2 (by omega) k b off e).trans hc⟩
  · obtain ⟨b1, o1, e1, hc⟩ := hl.get 0 (by omega)
    rw [e] at e1
    cases e1
    exact World.block_lt_of_cell? w _ hc
/-- What is kept round the loop. -/
structure QI (W : World) (B : Nat) (ad : Option Addr) (cap n : Nat) (L : List Int) (fs : List (List Int)) (tl : List Int) (k : Nat) (v : Value) (wr : World) : Prop where
  all : ∃ R : List P1, R.map P1.bs = fs.take k ∧ wr.ownsRow (B + 1) 22 1 v k (R.map P1.v) ∧ (∀ p ∈ R, wr.ownsRow (B + 1) 5 1 p.v p.bs.length (iv .u8 p.bs))
  rdr : ∃ q, Rdq wr B ad cap n L q ∧ L.drop q = fsL (fs.drop k) ++ tl
  grown : W.grownBy wr (some B)
def QP (fs : List (List Int)) (tl : List Int) (c0 : Nat) (r : Ending) (w' : World) : Prop :=
  (fs.length = c0 ∧ tl = [] ∧ ∃ a' c' R, r = .returned (.tuple #[.slice a' c0 c', .int .i64 0]) ∧ R.map P1.bs = fs ∧ RdR w' a' R) ∨ (¬ (fs.length = c0 ∧ tl = []) ∧ r = .returned (.tuple #[.slice none 0 0, .int .i64 4]))
set_option maxRecDepth 100000 in
set_option maxHeartbeats 4000000 in
theorem qread_gen (a : Option Addr) (L : List Int) (n cap : Nat) (hL : L.length = n) (hn : n ≤ 1000000) (hB : Byt L) (c0 : Nat) (fs : List (List Int)) (tl : List Int) (heq : L = (c0 : Int) :: (fsL fs ++ tl)) (hc1 : 1 ≤ c0) (hc3 : c0 ≤ 3) (hfs : fs.length ≤ c0) (hl : ∀ f ∈ fs, f.length ≤ 24) (hor : fs.length = c0 ∨ BadT tl) (w : World) (hA : Ls .u8 w a cap L) :
    Calls Tryd.prog 8 #[.slice a n cap] w fun r w' => QP fs tl c0 r w' ∧ Below w.heap.size w w' := by
  obtain ⟨i0, hi, hz0, hz1, hz2⟩ := info_parts info24
  have H0 := Lib.hid (rdq_box w a cap n L hL hA)
  have HB := Lib.hid hB
  have HEQ := Lib.hid heq
  have HFS := Lib.hid hfs
  have HLL := Lib.hid hl
  have HOR := Lib.hid hor
  have HLN := Lib.hid hL
  have hn1 : 0 < n := by rw [← hL, heq]; simp
  have hg0 := Lib.hid (show L.getD 0 0 = (c0 : Int) by rw [heq]; rfl)
  have hci : (c0 : Int) ≤ 3 := by omega
  have hci1 : ¬ (c0 : Int) < 1 := by omega
  have hci3 : ¬ (3 : Int) < (c0 : Int) := by omega
  have hcw : IntKind.i64.wrap (c0 : Int) = (c0 : Int) := by rw [IntKind.wrap_i64]; omega
  have hcz : ((c0 : Int)) ≠ 0 := by omega
  clear hA hB heq hfs hl hor hL
  go_enter Tryd.func8, Tryd.ntmps8
  go_wp2_with fail
  have B0 : Below w.heap.size w (w.alloc (.cells #[.slice a n cap, .int .i64 0] 61)) := (Below.refl _ _).alloc (Nat.le_refl _) _
  have hsz : (w.alloc (.cells #[.slice a n cap, .int .i64 0] 61)).heap.size = w.heap.size + 1 := by simp
  generalize w.alloc (.cells #[.slice a n cap, .int .i64 0] 61) = W1 at H0 B0 hsz ⊢
  have HB0 := Lib.hid B0
  have HSZ := Lib.hid hsz
  clear B0 hsz
  refine (qnumber H0.out hn HB.out).mono ?_; rintro r w2 ⟨hq, g2⟩
  have h2 : r = .returned (.tuple #[.int .u64 (c0 : Int), .int .i64 0]) ∧ Rdq w2 w.heap.size a cap n L 1 := by
    rcases hq with ⟨_, _, e, h2⟩ | ⟨h0, _⟩ | ⟨_, h0, _⟩
    · rw [hg0.out] at e; exact ⟨e, h2⟩
    · have := hg0.out; rcases h0 with h0 | h0 <;> omega
    · have := hg0.out; omega
  obtain ⟨rfl, h2⟩ := h2
  have T0 : QI W1 w.heap.size a cap n L fs tl 0 (.slice none 0 0) w2 := ⟨⟨[], rfl, World.ownsRow_nil _ _ _ _, fun p hp => by simp at hp⟩, ⟨1, h2, by rw [HEQ.out]; simp⟩, g2⟩
  have HT0 := Lib.hid T0
  clear hq h2 g2 T0 H0
  go_wp2_with fail
  go_loopw [7, 8] (fun v i wr => ∃ k : Nat, k ≤ fs.length ∧ i = .int .i64 k ∧ QI W1 w.heap.size a cap n L fs tl k v wr) (fun _ i _ => c0 - (intOf i).toNat)
  case atStart => exact ⟨0, by omega, rfl, HT0.out⟩
  case round =>
    clear HT0
    obtain ⟨k, hk, rfl, hT⟩ := hrel
    obtain ⟨⟨R, hRm, hown, hRl⟩, ⟨q, hq, hqd⟩, hG⟩ := hT
    have hwz : w.heap.size + 1 ≤ wr.heap.size := by rw [← HSZ.out]; exact hG.size
    by_cases hkf : k < fs.length
    · obtain ⟨f, hf⟩ : ∃ f, fs[k]? = some f := ⟨_, List.getElem?_eq_getElem hkf⟩
      have hkc : (k : Int) < (c0 : Int) := by have := HFS.out; omega
      rw [fsL_drop fs k f hf, List.append_assoc] at hqd
      have hf24 := HLL.out f (List.mem_of_getElem? hf)
      have RO := Lib.hid (qfield_good hq hn HB.out f _ hf24 hqd)
      have hq2 : L.drop (q + 1 + f.length) = fsL (fs.drop (k + 1)) ++ tl := by
        rw [show q + 1 + f.length = q + (1 + f.length) by omega, ← List.drop_drop, hqd, List.drop_append_of_le_length (by simp [wbytesL]; omega)]
        simp [wbytesL, Nat.add_comm 1]
      have HF := Lib.hid hf
      have HQ2 := Lib.hid hq2
      have HO := Lib.hid hown
      have HRM := Lib.hid hRm
      have HRL := Lib.hid hRl
      have HG := Lib.hid hG
      clear hf hq2 hown hRm hRl hG hqd hq hf24
      go_wp2_with fail
      refine RO.out.mono ?_; rintro e w3 ⟨a1, c1, rfl, l1, rd1, g1⟩
      have hown3 := own_oth HO.out (by omega) g1
      have hsz4 : w.heap.size + 1 ≤ w3.heap.size := Nat.le_trans hwz g1.size
      have hRL3 : ∀ p ∈ R, w3.ownsRow (w.heap.size + 1) 5 1 p.v p.bs.length (iv .u8 p.bs) := fun p hp => own_oth (HRL.out p hp) (by omega) g1
      have G3 := oth_trans HG.out g1
      have HO3 := Lib.hid hown3
      have HR3 := Lib.hid hRL3
      have HG3 := Lib.hid G3
      have HL1 := Lib.hid (own_base hwz l1)
      have HD1 := Lib.hid rd1
      obtain ⟨fl, hfl⟩ : ∃ fl, f.length = fl := ⟨_, rfl⟩
      rw [hfl]
      have HFL := Lib.hid hfl
      clear hown3 hRL3 G3 l1 rd1 g1 hfl HO HG RO
      go_wp2_with (at_builtin; refine wpList_append_own _ rfl (.tmp 42) (.tmp 44) 26 rfl (w.heap.size + 1) 22 i0 (.slice none 0 0) 1 24 Tryd.underlying26 hi hz0 hz1 hz2 rfl (by decide) _ k (R.map P1.v) rfl (HO3.out.alloc _) ⟨w3.heap.size, 0, none⟩ 1 1 [.slice a1 fl c1] rfl rfl (by intro j u hj; match j, hj with | 0, hj => (simp at hj; subst hj; simp [Addr.add, go_sem])) (by intro u hu; simp at hu; subst hu; rfl) (by unfold maxLen; omega) (by omega) (by simp; omega) ?_)
      intro v4 w4 hown4 hgrow4 _
      have keep : ∀ (x : Value) (m : Nat) (xs : List Value), w3.ownsRow (w.heap.size + 1) 5 1 x m xs → w4.ownsRow (w.heap.size + 1) 5 1 x m xs := fun x m xs hx => (hx.alloc _).kept hgrow4 (own_apart hx HO3.out (by decide))
      have b4 : Below (w.heap.size + 1) w3 w4 := ((Below.refl _ w3).alloc hsz4 _).grown hgrow4 (by simp; omega) (fun j hj => (HO3.out.lt j hj).1)
      have hT4 : QI W1 w.heap.size a cap n L fs tl (k + 1) v4 w4 := by
        refine ⟨⟨R ++ [⟨a1, c1, f⟩], ?_, ?_, fun p hp => ?_⟩, ⟨q + 1 + f.length, ?_, HQ2.out⟩, ?_⟩
        · rw [List.map_append, HRM.out, List.take_add_one, HF.out]; rfl
        · rw [List.map_append]
          have e : [P1.mk a1 c1 f].map P1.v = [.slice a1 fl c1] := by simp [P1.v, HFL.out]
          rw [e]; exact hown4
        · rcases List.mem_append.1 hp with hp | hp
          · exact keep _ _ _ (HR3.out p hp)
          · simp at hp
            subst hp
            have := keep _ _ _ HL1.out
            simpa [P1.v, HFL.out] using this
        · rw [HFL.out]; exact (HFL.out ▸ HD1.out).below1 b4
        · exact grown_below HG3.out (by rw [HSZ.out]; exact b4)
      have HT4 := Lib.hid hT4
      clear hT4 b4 keep hown4 hgrow4
      go_wp2_with fail
      go_roundw
      case rel => exact ⟨k + 1, by omega, by go_num, HT4.out⟩
      case measure => simp [intOf]; omega
    · have ekf : k = fs.length := by omega
      have hqt : L.drop q = tl := by rw [hqd, List.drop_of_length_le (by omega)]; rfl
      have hqn : n - q = tl.length := by rw [← hqt, List.length_drop, HLN.out]
      have hBF := wBelow HB0.out hG HSZ.out
      have HBF := Lib.hid hBF
      by_cases hkc : k < c0
      · have hkci : (k : Int) < (c0 : Int) := by omega
        have hbt : BadT tl := by rcases HOR.out with h | h <;> first | exact h | omega
        have hqe : q = n - tl.length := by have := hq.le; omega
        have hbf := badF_of HLN.out (L.take q) (by rw [← hqt, List.take_append_drop]) hbt
        rw [← hqe] at hbf
        have RE := Lib.hid (qfield_bad hq hn HB.out hbf)
        have HNO := Lib.hid (show ¬ (fs.length = c0 ∧ tl = []) from fun h => by omega)
        have HG := Lib.hid hG
        clear hown hRm hRl hG hqd hq hqt hqn hbt hbf hqe ekf hBF
        go_wp2_with fail
        refine RE.out.mono ?_; rintro e w3 ⟨⟨ev, hev, rfl⟩, g1⟩
        obtain ⟨z1, z2, z3⟩ := hev.ne
        have HB3 := Lib.hid (wBelow HB0.out (oth_trans HG.out g1) HSZ.out)
        clear hev g1
        go_wp2_with fail
        try rw [Exit.noGoto_ret]
        go_ret2
        exact ⟨.inr ⟨HNO.out, rfl⟩, HB3.out⟩
      · have hkci : ¬ (k : Int) < (c0 : Int) := by omega
        have hkc0 : fs.length = c0 := by have := HFS.out; omega
        have hRf : R.map P1.bs = fs := by rw [hRm, List.take_of_length_le (by omega)]
        have hRn : R.length = c0 := by rw [← hkc0, ← hRf]; simp
        rw [show k = c0 by omega] at hown
        obtain ⟨a', c', rfl, hrd⟩ := own_rdr hown hRn (fun p hp => by obtain ⟨a2, c2, e, l2, _⟩ := own_ls (hRl p hp) rfl; cases e; exact l2)
        have LF := qleft_law hq hn
        rw [hqn] at LF
        obtain ⟨t, ht⟩ : ∃ t, tl.length = t := ⟨_, rfl⟩
        rw [ht] at LF
        have HLF := Lib.hid LF
        have H1 := Lib.hid hkc0
        have H2 := Lib.hid hRf
        have H3 := Lib.hid hrd
        have htn : t ≤ n := by omega
        have HT := Lib.hid ht
        clear hkc0 hRf hrd hq hG hown hRm hRl hqd hRn LF ht hqn hqt hBF ekf
        go_wp2_with fail
        refine HLF.out.mono ?_; rintro e w3 ⟨rfl, B3⟩
        by_cases ht0 : t = 0
        · have hti : ¬ (0 : Int) < (t : Int) := by omega
          have HE := Lib.hid (show tl = [] from List.length_eq_zero_iff.1 (by rw [HT.out]; exact ht0))
          have HR := Lib.hid (H3.out.below B3)
          have HBB := Lib.hid (step_below HBF.out B3)
          clear ht0 B3
          go_wp2_with fail
          go_ret2
          exact ⟨.inl ⟨H1.out, HE.out, a', c', R, rfl, H2.out, HR.out⟩, HBB.out⟩
        · have hti : (0 : Int) < (t : Int) := by omega
          have HE := Lib.hid (show ¬ (fs.length = c0 ∧ tl = []) from fun h => by have := HT.out; rw [h.2] at this; simp at this; omega)
          have HBB := Lib.hid (step_below HBF.out B3)
          clear ht0 B3
          go_wp2_with fail
          go_ret2
          exact ⟨.inr ⟨HE.out, rfl⟩, HBB.out⟩
set_option maxRecDepth 100000 in
set_option maxHeartbeats 4000000 in
theorem qread_bad (a : Option Addr) (L : List Int) (n cap : Nat) (hL : L.length = n) (hn : n ≤ 1000000) (hB : Byt L) (hbad : n = 0 ∨ L.getD 0 0 < 1 ∨ 3 < L.getD 0 0) (w : World) (hA : Ls .u8 w a cap L) :
    Calls Tryd.prog 8 #[.slice a n cap] w fun r w' => r = .returned (.tuple #[.slice none 0 0, .int .i64 4]) ∧ Below w.heap.size w w' := by
  have H0 := Lib.hid (rdq_box w a cap n L hL hA)
  have HB := Lib.hid hB
  have HBD := Lib.hid hbad
  clear hA hB hL hbad
  go_enter Tryd.func8, Tryd.ntmps8
  go_wp2_with fail
  have B0 : Below w.heap.size w (w.alloc (.cells #[.slice a n cap, .int .i64 0] 61)) := (Below.refl _ _).alloc (Nat.le_refl _) _
  have hsz : (w.alloc (.cells #[.slice a n cap, .int .i64 0] 61)).heap.size = w.heap.size + 1 := by simp
  generalize w.alloc (.cells #[.slice a n cap, .int .i64 0] 61) = W1 at H0 B0 hsz ⊢
  refine (qnumber H0.out hn HB.out).mono ?_; rintro r w2 ⟨hq, g2⟩
  have HB2 := Lib.hid (wBelow B0 g2 hsz)
  clear B0 hsz g2
  rcases hq with ⟨hp, h128, rfl, _⟩ | ⟨h0, rfl, _⟩ | ⟨hp, h128, v, hv, hv2, rfl, _⟩
  · obtain ⟨x, hx⟩ : ∃ x, L.getD 0 0 = x := ⟨_, rfl⟩
    have hb : x < 1 ∨ 3 < x := by have := HBD.out; rw [hx] at this; omega
    rw [hx] at h128 ⊢
    clear hx HBD
    rcases hb with hb | hb
    · go_wp2_with fail
      go_ret2
      exact ⟨rfl, HB2.out⟩
    · have hb2 : ¬ x < 1 := by omega
      go_wp2_with fail
      go_ret2
      exact ⟨rfl, HB2.out⟩
  · clear h0 HBD
    go_wp2_with fail
    go_ret2
    exact ⟨rfl, HB2.out⟩
  · have hb : (3 : Int) < v := by omega
    have hb2 : ¬ v < 1 := by omega
    clear h128 HBD
    go_wp2_with fail
    go_ret2
    exact ⟨rfl, HB2.out⟩
theorem qread_any (a : Option Addr) (L : List Int) (n cap : Nat) (hL : L.length = n) (hn : n ≤ 1000000) (hB : Byt L) (w : World) (hA : Ls .u8 w a cap L) :
    Calls Tryd.prog 8 #[.slice a n cap] w fun r w' => ReP L r w' ∧ Below w.heap.size w w' := by
  by_cases h : ∃ fs, VF fs ∧ L = encR fs
  · obtain ⟨fs, hv, he⟩ := h
    refine (qread_gen a L n cap hL hn hB fs.length fs [] (by rw [he]; simp [encR]) hv.1 hv.2.1 (Nat.le_refl _) hv.2.2 (.inl rfl) w hA).mono fun r w' ⟨hq, hb⟩ => ⟨?_, hb⟩
    rcases hq with ⟨_, _, a', c', R, h1, h2, h3⟩ | ⟨hno, _⟩
    · exact .inl ⟨fs, a', c', R, hv, he, h1, h2, h3⟩
    · exact absurd ⟨rfl, rfl⟩ hno
  · have hno : ∀ fs, VF fs → L ≠ encR fs := fun fs hv e => h ⟨fs, hv, e⟩
    by_cases hbad : n = 0 ∨ L.getD 0 0 < 1 ∨ 3 < L.getD 0 0
    · exact (qread_bad a L n cap hL hn hB hbad w hA).mono fun r w' ⟨h1, hb⟩ => ⟨.inr ⟨hno, h1⟩, hb⟩
    · cases L with
      | nil => exact absurd (.inl (by simpa using hL.symm)) hbad
      | cons x D =>
        have hx : 1 ≤ x ∧ x ≤ 3 := by simp at hbad; omega
        obtain ⟨c0, rfl⟩ : ∃ c0 : Nat, x = (c0 : Int) := ⟨x.toNat, by omega⟩
        obtain ⟨fs, tl, he, hl, hk, hor⟩ := split_fs c0 D (fun y hy => hB y (by simp [hy]))
        refine (qread_gen a _ n cap hL hn hB c0 fs tl (by rw [he]) (by omega) (by omega) hk hl hor w hA).mono fun r w' ⟨hq, hb⟩ => ⟨?_, hb⟩
        rcases hq with ⟨h1, h2, _⟩ | ⟨_, h1⟩
        · exact absurd (by rw [he, h2, encR, h1]; simp) (hno fs ⟨by omega, by omega, hl⟩)
        · exact .inr ⟨hno, h1⟩
end Go.Proofs.YtkgcbhpgkcfkhaaDoor
