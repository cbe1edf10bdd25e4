/- Fields that are read, whatever stands behind them, by contracts. -/
import Derived.Test.YtkgcbhpgkcfkhaaDoorGtb
namespace Go.Proofs.YtkgcbhpgkcfkhaaDoor
open Go.ChangeShapes Go.WideShapes Go.ChangeAt Go.RowKit
set_option linter.unusedVariables false
set_option linter.unusedSimpArgs false

/-- What is kept round the loop. -/
structure TakG (W : World) (B : Nat) (ad : Option Addr) (cap n : Nat) (L : List Int) (fs : List (List Int)) (tl : List Int) (k : Nat) (v : Value) (wr : World) : Prop where
  all : ∃ R : List P1, R.map P1.bs = fs.take k ∧ wr.ownsRow (W.heap.size + 1) 22 1 v k (R.map P1.v) ∧ (∀ p ∈ R, wr.ownsRow (W.heap.size + 1) 5 1 p.v p.bs.length (iv .u8 p.bs))
  rdr : ∃ q, Rdr wr B ad cap n L q ∧ L.drop q = fsL (fs.drop k) ++ tl
  grown : W.grownBy wr (some B)
def TakPostG (c0 : Nat) (fs : List (List Int)) (tl : List Int) (B : Nat) (ad : Option Addr) (cap n : Nat) (L : List Int) (r : Ending) (w' : World) : Prop :=
  (fs.length = c0 ∧ ∃ a' c' R, r = .returned (.tuple #[.slice a' c0 c', .int .i64 0]) ∧ R.map P1.bs = fs ∧ RdR w' a' R ∧ Rdr w' B ad cap n L (n - tl.length)) ∨ (fs.length < c0 ∧ ∃ e : Int, Er e ∧ r = .returned (.tuple #[.slice none 0 0, .int .i64 e]))
set_option maxRecDepth 100000 in
set_option maxHeartbeats 4000000 in
theorem take_gen {W : World} {B : Nat} {ad : Option Addr} {cap n : Nat} {L : List Int} (h : Rdr W B ad cap n L 0) (hn : n ≤ 1000000) (hBY : Byt L) (c0 : Nat) (fs : List (List Int)) (tl : List Int) (hL : L = (c0 : Int) :: (fsL fs ++ tl)) (hc : c0 ≤ 3) (hfs : fs.length ≤ c0) (hl : ∀ f ∈ fs, f.length ≤ 24) (hbad : fs.length = c0 ∨ BadF n L (n - tl.length)) :
    Calls Tryd.prog 23 #[.pointer (some ⟨B, 0, none⟩), .int .i64 3, .func (.func 24) #[] #[]] W fun r w' => TakPostG c0 fs tl B ad cap n L r w' ∧ W.grownBy w' (some B) := by
  obtain ⟨i0, hi, hz0, hz1, hz2⟩ := info_parts info24
  have e0 := h.c0
  have e1 := h.c1
  have e2 := h.c2
  have H := Lib.hid h
  have hbl := h.lt
  have hn1 : 0 < n := by rw [← h.len, hL]; simp
  have HCT := Lib.hid (fun W' (hr : Rdr W' B ad cap n L 0) => count_one hr hn c0 3 hn1 (by rw [hL]; rfl) hc (by omega))
  have hnf := hnf142
  have HL := Lib.hid hL
  have HFS := Lib.hid hfs
  have HLL := Lib.hid hl
  have HBAD := Lib.hid hbad
  have HBY := Lib.hid hBY
  have hci : (c0 : Int) ≤ 3 := by omega
  clear h hL hfs hl hbad hBY
  go_enter Tryd.func23, Tryd.ntmps23
  go_wp2_with fail
  refine (none_law H.out).mono ?_; rintro e w' ⟨rfl, rfl⟩
  go_wp2_with fail
  have B0 : Below W.heap.size W (W.alloc (.cells #[.slice ad n cap, .int .i64 0, .bool true] 80)) := (Below.refl _ _).alloc (Nat.le_refl _) _
  have h1 := H.out.below B0
  have kb : TakB W ad cap n (W.alloc (.cells #[.slice ad n cap, .int .i64 0, .bool true] 80)) := ⟨by rw [cell_new]; rfl, by rw [cell_new]; rfl, by rw [cell_new]; rfl⟩
  have hsz : (W.alloc (.cells #[.slice ad n cap, .int .i64 0, .bool true] 80)).heap.size = W.heap.size + 1 := by simp
  clear e0 e1 e2
  generalize W.alloc (.cells #[.slice ad n cap, .int .i64 0, .bool true] 80) = W1 at B0 h1 kb hsz ⊢
  refine (HCT.out _ h1).mono ?_; rintro e w2 ⟨rfl, h2, g2⟩
  have kb2 := Lib.hid (kb.grown g2 (by simp; omega))
  have T0 : TakG W B ad cap n L fs tl 0 (.slice none 0 0) w2 := ⟨⟨[], rfl, World.ownsRow_nil _ _ _ _, fun p hp => by simp at hp⟩, ⟨1, h2, by rw [HL.out]; simp⟩, oth_trans (oth_below B B0) g2⟩
  have hsz2 : W.heap.size + 1 ≤ w2.heap.size := by rw [← hsz]; exact g2.size
  have HT0 := Lib.hid T0
  clear B0 h1 kb hsz h2 g2 T0
  go_wp2_with fail
  go_loopw [10, 11, 12] (fun e v i wr => (e = .int .i64 0 ∧ ∃ k : Nat, k ≤ fs.length ∧ i = .int .u64 k ∧ TakG W B ad cap n L fs tl k v wr ∧ TakB W ad cap n wr) ∨ (fs.length < c0 ∧ ∃ ev : Int, Hid (Er ev) ∧ e = .int .i64 ev ∧ i = .int .u64 ((fs.length + 1 : Nat) : Int) ∧ W.grownBy wr (some B) ∧ Rdr wr B ad cap n L (n - tl.length) ∧ TakB W ad cap n wr)) (fun _ _ i _ => c0 + 1 - (intOf i).toNat)
  case atStart => exact .inl ⟨rfl, 0, by omega, rfl, HT0.out, kb2.out⟩
  case round =>
    clear HT0 kb2
    rcases hrel with ⟨rfl, k, hk, rfl, hT, hB⟩ | ⟨hlt, ev, hev, rfl, rfl, hG, hR, hB⟩
    · obtain ⟨⟨R, hRm, hown, hRl⟩, ⟨q, hq, hqd⟩, hG⟩ := hT
      have hwz : W.heap.size ≤ wr.heap.size := hG.size
      by_cases hkf : k < fs.length
      · obtain ⟨f, hf⟩ : ∃ f, fs[k]? = some f := ⟨_, List.getElem?_eq_getElem hkf⟩
        have hkc : (k : Int) < (c0 : Int) := by have := HFS.out; omega
        rw [fsL_drop fs k f hf, List.append_assoc] at hqd
        have hf24 := HLL.out f (List.mem_of_getElem? hf)
        have RO := Lib.hid (readone_law hq hn f _ hf24 hqd)
        have hq2 : L.drop (q + 1 + f.length) = fsL (fs.drop (k + 1)) ++ tl := by
          rw [show q + 1 + f.length = q + (1 + f.length) by omega, ← List.drop_drop, hqd, List.drop_append_of_le_length (by simp [wbytesL]; omega)]
          simp [wbytesL, Nat.add_comm 1]
        have HF := Lib.hid hf
        have HQ2 := Lib.hid hq2
        have HO := Lib.hid hown
        have HRM := Lib.hid hRm
        have HRL := Lib.hid hRl
        have HB := Lib.hid hB
        have HG := Lib.hid hG
        have hsz3 : W.heap.size + 1 ≤ wr.heap.size := by have := World.block_lt_of_cell? wr _ hB.k0; simp at this; omega
        clear hf hq2 hown hRm hRl hB hG hqd hq hf24
        go_wp2_with fail
        refine RO.out.mono ?_; rintro e w3 ⟨a1, c1, rfl, l1, rd1, g1⟩
        have hown3 := own_oth HO.out (by omega) g1
        have hsz4 : W.heap.size + 1 ≤ w3.heap.size := Nat.le_trans hsz3 g1.size
        have hRL3 : ∀ p ∈ R, w3.ownsRow (W.heap.size + 1) 5 1 p.v p.bs.length (iv .u8 p.bs) := fun p hp => own_oth (HRL.out p hp) (by omega) g1
        have kb3 := HB.out.grown g1 (by simp; omega)
        have G3 := oth_trans HG.out g1
        have HO3 := Lib.hid hown3
        have HR3 := Lib.hid hRL3
        have HB3 := Lib.hid kb3
        have HG3 := Lib.hid G3
        have HL1 := Lib.hid (own_base hsz3 l1)
        have HD1 := Lib.hid rd1
        obtain ⟨fl, hfl⟩ : ∃ fl, f.length = fl := ⟨_, rfl⟩
        rw [hfl]
        have HFL := Lib.hid hfl
        clear hown3 hRL3 kb3 G3 l1 rd1 g1 hfl HO HB HG RO
        go_wp2_with (at_builtin; refine wpList_append_own _ rfl (.tmp 44) (.tmp 46) 25 rfl (W.heap.size + 1) 22 i0 (.slice none 0 0) 1 24 Tryd.underlying25 hi hz0 hz1 hz2 rfl (by decide) _ k (R.map P1.v) rfl (HO3.out.alloc _) ⟨w3.heap.size, 0, none⟩ 1 1 [.slice a1 fl c1] rfl rfl (by intro j u hj; match j, hj with | 0, hj => (simp at hj; subst hj; simp [Addr.add, go_sem])) (by intro u hu; simp at hu; subst hu; rfl) (by unfold maxLen; omega) (by omega) (by simp; omega) ?_)
        intro v4 w4 hown4 hgrow4 _
        have keep : ∀ (x : Value) (m : Nat) (xs : List Value), w3.ownsRow (W.heap.size + 1) 5 1 x m xs → w4.ownsRow (W.heap.size + 1) 5 1 x m xs := fun x m xs hx => (hx.alloc _).kept hgrow4 (own_apart hx HO3.out (by decide))
        have b4 : Below (W.heap.size + 1) w3 w4 := ((Below.refl _ w3).alloc hsz4 _).grown hgrow4 (by simp; omega) (fun j hj => (HO3.out.lt j hj).1)
        have kb4 := HB3.out.below b4
        have hT4 : TakG W B ad cap n L fs tl (k + 1) v4 w4 := by
          refine ⟨⟨R ++ [⟨a1, c1, f⟩], ?_, ?_, fun p hp => ?_⟩, ⟨q + 1 + f.length, ?_, HQ2.out⟩, ?_⟩
          · rw [List.map_append, HRM.out, List.take_add_one, HF.out]; rfl
          · rw [List.map_append]
            have e : [P1.mk a1 c1 f].map P1.v = [.slice a1 fl c1] := by simp [P1.v, HFL.out]
            rw [e]; exact hown4
          · rcases List.mem_append.1 hp with hp | hp
            · exact keep _ _ _ (HR3.out p hp)
            · simp at hp
              subst hp
              have := keep _ _ _ HL1.out
              simpa [P1.v, HFL.out] using this
          · exact HD1.out.below1 (b4.mono (by omega))
          · exact grown_below HG3.out (b4.mono (by omega))
        have HT4 := Lib.hid hT4
        have HKB := Lib.hid kb4
        clear hT4 kb4 b4 keep hown4 hgrow4
        go_wp2_with fail
        go_roundw
        case rel => exact .inl ⟨rfl, k + 1, by omega, by go_num, HT4.out, HKB.out⟩
        case measure => simp [intOf]; omega
      · have ekf : k = fs.length := by omega
        by_cases hkc : k < c0
        · have hkci : (k : Int) < (c0 : Int) := by omega
          have hqn : q = n - tl.length := by
            have h1 := congrArg List.length hqd
            rw [List.drop_of_length_le (by omega : fs.length ≤ k), List.length_drop, hq.len] at h1
            have h2 := hq.le
            simp [fsL] at h1
            omega
          subst hqn
          have RE := Lib.hid (readbad_law hq hn HBY.out (HBAD.out.resolve_left (by omega)))
          have HO := Lib.hid hown
          have HB := Lib.hid hB
          have HG := Lib.hid hG
          have HK := Lib.hid ekf
          have hsz3 : W.heap.size + 1 ≤ wr.heap.size := by have := World.block_lt_of_cell? wr _ hB.k0; simp at this; omega
          clear hown hRm hRl hB hG hqd hq
          go_wp2_with fail
          refine RE.out.mono ?_; rintro e w3 ⟨⟨ev, hev, rfl⟩, rd1, g1⟩
          have HEV := Lib.hid hev
          clear hev
          have hown3 := own_oth HO.out (by omega) g1
          have hsz4 : W.heap.size + 1 ≤ w3.heap.size := Nat.le_trans hsz3 g1.size
          have kb3 := HB.out.grown g1 (by simp; omega)
          have G3 := oth_trans HG.out g1
          have HO3 := Lib.hid hown3
          have HB3 := Lib.hid kb3
          have HG3 := Lib.hid G3
          have HD1 := Lib.hid rd1
          clear hown3 kb3 G3 rd1 g1 HO HB HG RE
          go_wp2_with (at_builtin; refine wpList_append_own _ rfl (.tmp 44) (.tmp 46) 25 rfl (W.heap.size + 1) 22 i0 (.slice none 0 0) 1 24 Tryd.underlying25 hi hz0 hz1 hz2 rfl (by decide) _ k (R.map P1.v) rfl (HO3.out.alloc _) ⟨w3.heap.size, 0, none⟩ 1 1 [.slice none 0 0] rfl rfl (by intro j u hj; match j, hj with | 0, hj => (simp at hj; subst hj; simp [Addr.add, go_sem])) (by intro u hu; simp at hu; subst hu; rfl) (by unfold maxLen; omega) (by omega) (by simp; omega) ?_)
          intro v4 w4 hown4 hgrow4 _
          have b4 : Below (W.heap.size + 1) w3 w4 := ((Below.refl _ w3).alloc hsz4 _).grown hgrow4 (by simp; omega) (fun j hj => (HO3.out.lt j hj).1)
          have HKB := Lib.hid (HB3.out.below b4)
          have HR4 := Lib.hid (HD1.out.below1 (b4.mono (by omega)))
          have HG4 := Lib.hid (grown_below HG3.out (b4.mono (by omega)))
          clear b4 hown4 hgrow4
          go_wp2_with fail
          go_roundw
          case rel => exact .inr ⟨by have := HK.out; omega, ev, HEV, rfl, by have := HK.out; subst this; go_num, HG4.out, HR4.out, HKB.out⟩
          case measure => simp [intOf]; omega
        · have hkci : ¬ (k : Int) < (c0 : Int) := by omega
          have hkc0 : fs.length = c0 := by have := HFS.out; omega
          have hqn : q = n - tl.length := by
            have h1 := congrArg List.length hqd
            rw [List.drop_of_length_le (by omega : fs.length ≤ k), List.length_drop, hq.len] at h1
            have h2 := hq.le
            simp [fsL] at h1
            omega
          subst hqn
          have hRf : R.map P1.bs = fs := by rw [hRm, List.take_of_length_le (by omega)]
          have hRn : R.length = c0 := by rw [← hkc0, ← hRf]; simp
          rw [show k = c0 by omega] at hown
          obtain ⟨a', c', rfl, hrd⟩ := own_rdr hown hRn (fun p hp => by obtain ⟨a2, c2, e, l2, _⟩ := own_ls (hRl p hp) rfl; cases e; exact l2)
          have H1 := Lib.hid hkc0
          have H2 := Lib.hid hRf
          have H3 := Lib.hid hrd
          have H4 := Lib.hid hq
          have H5 := Lib.hid hG
          clear hkc0 hRf hrd hq hG hown hRm hRl hB hqd hRn
          go_wp2_with fail
          go_ret2
          exact ⟨.inl ⟨H1.out, a', c', R, rfl, H2.out, H3.out, H4.out⟩, H5.out⟩
    · obtain ⟨z1, z2, z3⟩ := hev.out.ne
      have e0 := hR.c0
      have e1 := hR.c1
      have e2 := hR.c2
      have f0 := hR.f0
      have f1 := hR.f1
      have f2 := hR.f2
      have k0 := hB.k0
      have k1 := hB.k1
      have k2 := hB.k2
      have HG := Lib.hid hG
      have HLT := Lib.hid hlt
      clear hR hB hG
      by_cases q1 : fs.length + 1 < c0
      · have q2 : ((fs.length + 1 : Nat) : Int) < (c0 : Int) := by omega
        obtain ⟨fl, hfl⟩ : ∃ fl, fs.length + 1 = fl := ⟨_, rfl⟩
        rw [hfl] at q2 ⊢
        clear hlt q1
        go_wp2_with fail
        go_ret2
        exact ⟨.inr ⟨HLT.out, ev, hev.out, rfl⟩, oth_trans HG.out (oth_trans (oth_set _ _ _ _) (oth_trans (oth_set _ _ _ _) (oth_set _ _ _ _)))⟩
      · have q2 : ¬ ((fs.length + 1 : Nat) : Int) < (c0 : Int) := by omega
        obtain ⟨fl, hfl⟩ : ∃ fl, fs.length + 1 = fl := ⟨_, rfl⟩
        rw [hfl] at q2 ⊢
        clear hlt q1
        go_wp2_with fail
        go_ret2
        exact ⟨.inr ⟨HLT.out, ev, hev.out, rfl⟩, oth_trans HG.out (oth_trans (oth_set _ _ _ _) (oth_trans (oth_set _ _ _ _) (oth_set _ _ _ _)))⟩
end Go.Proofs.YtkgcbhpgkcfkhaaDoor
