/- What is read is new: the fields of a row that is read lie in memory of their own. -/
import Derived.Test.YtkgcbhpgkcfkhaaDoorGof
namespace Go.Proofs.YtkgcbhpgkcfkhaaDoor
open Go.ChangeShapes Go.WideShapes Go.ChangeAt Go.RowKit
set_option linter.unusedVariables false
set_option linter.unusedSimpArgs false

def FlipI (base : Nat) (a : Option Addr) (K : List P1) (W : World) : Prop := ∀ k p, K[k]? = some p → (∃ b off, a = some ⟨b, off, none⟩ ∧ W.cell? ⟨b, off + k, none⟩ = some p.v) ∧
  ∀ j < p.bs.length, ∃ g x, p.ad = some ⟨g, 0, none⟩ ∧ base ≤ g ∧ W.cell? ⟨g, j, none⟩ = some (.int .u8 x) ∧ W.frozen? ⟨g, j, none⟩ = false
theorem FlipI.drew {base : Nat} {a : Option Addr} {K : List P1} {W : World} (h : FlipI base a K W) : FlipI base a K W.drew := fun k p hp => h k p hp
theorem FlipI.below {base : Nat} {a : Option Addr} {K : List P1} {W W' : World} (h : FlipI base a K W) (hb : Below W.heap.size W W') : FlipI base a K W' := fun k p hp => by
  obtain ⟨⟨b, off, e, c⟩, h2⟩ := h k p hp
  refine ⟨⟨b, off, e, (hb.cell (World.block_lt_of_cell? W _ c)).trans c⟩, fun j hj => ?_⟩
  obtain ⟨g, x, e1, e2, e3, e4⟩ := h2 j hj
  have hl := World.block_lt_of_cell? W _ e3
  refine ⟨g, x, e1, e2, (hb.cell hl).trans e3, ?_⟩
  have := hb.block g hl
  rw [← e4]
  unfold World.frozen?
  simp only [this]
theorem FlipI.set {base : Nat} {a : Option Addr} {K : List P1} {W : World} (h : FlipI base a K W) {g j : Nat} {x : Int} (hc : W.cell? ⟨g, j, none⟩ = some (.int .u8 x)) (y : Int) : FlipI base a K (W.setCell ⟨g, j, none⟩ (.int .u8 y)) := fun k p hp => by
  obtain ⟨⟨b, off, e, c⟩, h2⟩ := h k p hp
  refine ⟨⟨b, off, e, ?_⟩, fun i hi => ?_⟩
  · by_cases q : (⟨b, off + k, none⟩ : Addr) = ⟨g, j, none⟩
    · rw [q, hc] at c
      simp [P1.v] at c
    · rw [World.cell?_setCell_other W ⟨g, j, none⟩ ⟨b, off + k, none⟩ _ (by first | exact q | exact Ne.symm q)]
      exact c
  · obtain ⟨g', x', e1, e2, e3, e4⟩ := h2 i hi
    by_cases q : (⟨g', i, none⟩ : Addr) = ⟨g, j, none⟩
    · refine ⟨g', y, e1, e2, ?_, by rw [World.frozen?_setCell]; exact e4⟩
      rw [q, World.cell?_setCell_same W ⟨g, j, none⟩ _ hc]
    · refine ⟨g', x', e1, e2, ?_, by rw [World.frozen?_setCell]; exact e4⟩
      rw [World.cell?_setCell_other W ⟨g, j, none⟩ ⟨g', i, none⟩ _ (by first | exact q | exact Ne.symm q)]
      exact e3
theorem FlipI.mono {base b2 : Nat} {a : Option Addr} {K : List P1} {W : World} (h : FlipI base a K W) (hb : b2 ≤ base) : FlipI b2 a K W := fun k p hp =>
  ⟨(h k p hp).1, fun j hj => by
    obtain ⟨g, x, e1, e2, e3, e4⟩ := (h k p hp).2 j hj
    exact ⟨g, x, e1, Nat.le_trans hb e2, e3, e4⟩⟩
theorem own_rdrF {W : World} {base n : Nat} {v : Value} {K : List P1} (h2 : W.ownsRow base 22 1 v n (K.map P1.v)) (hn : K.length = n) (h3 : ∀ p ∈ K, W.ownsRow base 5 1 p.v p.bs.length (iv .u8 p.bs)) : ∃ a cap, v = .slice a n cap ∧ (RdR W a K ∧ FlipI base a K W) := by
  have h2' := h2
  rcases h2.2 with ⟨e, h0⟩ | ⟨g, cap, cur, rfl, hg, _⟩
  · have : K = [] := List.length_eq_zero_iff.1 (by omega)
    subst this h0
    exact ⟨none, 0, e, RdR.nil _ _, fun k p hp => by simp at hp⟩
  · have hc : ∀ (k : Nat) (p : P1), K[k]? = some p → W.cell? ⟨g, 0 + k, none⟩ = some p.v := fun k p hp => by
      have hk := (List.getElem?_eq_some_iff.1 hp).1
      rw [Nat.zero_add, h2'.cellAt k (by omega)]
      simp [hp]
    have hf : ∀ (k : Nat) (p : P1), K[k]? = some p → Ls .u8 W p.ad p.cap p.bs ∧ (0 < p.bs.length → ∃ g, p.ad = some ⟨g, 0, none⟩ ∧ base ≤ g) := fun k p hp => by
      obtain ⟨a, c, e, l, q⟩ := own_ls (h3 p (List.mem_of_getElem? hp)) rfl
      simp [P1.v] at e
      obtain ⟨rfl, rfl⟩ := e
      exact ⟨l, q⟩
    refine ⟨_, cap, rfl, fun k p hp => ⟨g, 0, rfl, hc k p hp, (hf k p hp).1⟩, fun k p hp => ⟨⟨g, 0, rfl, hc k p hp⟩, fun j hj => ?_⟩⟩
    obtain ⟨l, q⟩ := hf k p hp
    obtain ⟨g', e', hb⟩ := q (by omega)
    obtain ⟨b1, o1, e1, c1⟩ := l.get j hj
    rw [e'] at e1
    cases e1
    have ho := h3 p (List.mem_of_getElem? hp)
    rw [P1.v, e'] at ho
    exact ⟨g', _, e', hb, by simpa using c1, own_froz ho j⟩
def TakPostF (base c0 : Nat) (fs : List (List Int)) (B : Nat) (ad : Option Addr) (cap n : Nat) (L : List Int) (r : Ending) (w' : World) : Prop :=
  (fs.length = c0 ∧ ∃ a' c' R, r = .returned (.tuple #[.slice a' c0 c', .int .i64 0]) ∧ R.map P1.bs = fs ∧ (RdR w' a' R ∧ FlipI base a' R w') ∧ Rdr w' B ad cap n L n) ∨ (fs.length < c0 ∧ r = .returned (.tuple #[.slice none 0 0, .int .i64 4]))
set_option maxRecDepth 100000 in
set_option maxHeartbeats 4000000 in
theorem take_lawF {W : World} {B : Nat} {ad : Option Addr} {cap n : Nat} {L : List Int} (h : Rdr W B ad cap n L 0) (hn : n ≤ 1000000) (c0 : Nat) (fs : List (List Int)) (hL : L = (c0 : Int) :: fsL fs) (hc : c0 ≤ 3) (hfs : fs.length ≤ c0) (hl : ∀ f ∈ fs, f.length ≤ 24) :
    Calls Tryd.prog 23 #[.pointer (some ⟨B, 0, none⟩), .int .i64 3, .func (.func 24) #[] #[]] W fun r w' => TakPostF W.heap.size c0 fs B ad cap n L r w' ∧ W.grownBy w' (some B) := by
  obtain ⟨i0, hi, hz0, hz1, hz2⟩ := info_parts info24
  have e0 := h.c0
  have e1 := h.c1
  have e2 := h.c2
  have H := Lib.hid h
  have hbl := h.lt
  have hn1 : 0 < n := by rw [← h.len, hL]; simp
  have HCT := Lib.hid (fun W' (hr : Rdr W' B ad cap n L 0) => count_one hr hn c0 3 hn1 (by rw [hL]; rfl) hc (by omega))
  have hnf := hnf142
  have HL := Lib.hid hL
  have HFS := Lib.hid hfs
  have HLL := Lib.hid hl
  have hci : (c0 : Int) ≤ 3 := by omega
  clear h hL hfs hl
  go_enter Tryd.func23, Tryd.ntmps23
  go_wp2_with fail
  refine (none_law H.out).mono ?_; rintro e w' ⟨rfl, rfl⟩
  go_wp2_with fail
  have B0 : Below W.heap.size W (W.alloc (.cells #[.slice ad n cap, .int .i64 0, .bool true] 80)) := (Below.refl _ _).alloc (Nat.le_refl _) _
  have h1 := H.out.below B0
  have kb : TakB W ad cap n (W.alloc (.cells #[.slice ad n cap, .int .i64 0, .bool true] 80)) := ⟨by rw [cell_new]; rfl, by rw [cell_new]; rfl, by rw [cell_new]; rfl⟩
  have hsz : (W.alloc (.cells #[.slice ad n cap, .int .i64 0, .bool true] 80)).heap.size = W.heap.size + 1 := by simp
  clear e0 e1 e2
  generalize W.alloc (.cells #[.slice ad n cap, .int .i64 0, .bool true] 80) = W1 at B0 h1 kb hsz ⊢
  refine (HCT.out _ h1).mono ?_; rintro e w2 ⟨rfl, h2, g2⟩
  have kb2 := Lib.hid (kb.grown g2 (by simp; omega))
  have T0 : TakI W B ad cap n L fs 0 (.slice none 0 0) w2 := ⟨⟨[], rfl, World.ownsRow_nil _ _ _ _, fun p hp => by simp at hp⟩, ⟨1, h2, by rw [HL.out]; simp⟩, oth_trans (oth_below B B0) g2⟩
  have hsz2 : W.heap.size + 1 ≤ w2.heap.size := by rw [← hsz]; exact g2.size
  have HT0 := Lib.hid T0
  clear B0 h1 kb hsz h2 g2 T0
  go_wp2_with fail
  go_loopw [10, 11, 12] (fun e v i wr => (e = .int .i64 0 ∧ ∃ k : Nat, k ≤ fs.length ∧ i = .int .u64 k ∧ TakI W B ad cap n L fs k v wr ∧ TakB W ad cap n wr) ∨ (fs.length < c0 ∧ e = .int .i64 4 ∧ i = .int .u64 ((fs.length + 1 : Nat) : Int) ∧ W.grownBy wr (some B) ∧ Rdr wr B ad cap n L n ∧ TakB W ad cap n wr)) (fun _ _ i _ => c0 + 1 - (intOf i).toNat)
  case atStart => exact .inl ⟨rfl, 0, by omega, rfl, HT0.out, kb2.out⟩
  case round =>
    clear HT0 kb2
    rcases hrel with ⟨rfl, k, hk, rfl, hT, hB⟩ | ⟨hlt, rfl, rfl, hG, hR, hB⟩
    · obtain ⟨⟨R, hRm, hown, hRl⟩, ⟨q, hq, hqd⟩, hG⟩ := hT
      have hwz : W.heap.size ≤ wr.heap.size := hG.size
      by_cases hkf : k < fs.length
      · obtain ⟨f, hf⟩ : ∃ f, fs[k]? = some f := ⟨_, List.getElem?_eq_getElem hkf⟩
        have hkc : (k : Int) < (c0 : Int) := by have := HFS.out; omega
        rw [fsL_drop fs k f hf] at hqd
        have hf24 := HLL.out f (List.mem_of_getElem? hf)
        have RO := Lib.hid (readone_law hq hn f _ hf24 hqd)
        have hq2 : L.drop (q + 1 + f.length) = fsL (fs.drop (k + 1)) := by
          rw [show q + 1 + f.length = q + (1 + f.length) by omega, ← List.drop_drop, hqd, List.drop_append_of_le_length (by simp [wbytesL]; omega)]
          simp [wbytesL, Nat.add_comm 1]
        have HF := Lib.hid hf
        have HQ2 := Lib.hid hq2
        have HO := Lib.hid hown
        have HRM := Lib.hid hRm
        have HRL := Lib.hid hRl
        have HB := Lib.hid hB
        have HG := Lib.hid hG
        have hsz3 : W.heap.size + 1 ≤ wr.heap.size := by have := World.block_lt_of_cell? wr _ hB.k0; simp at this; omega
        clear hf hq2 hown hRm hRl hB hG hqd hq hf24
        go_wp2_with fail
        refine RO.out.mono ?_; rintro e w3 ⟨a1, c1, rfl, l1, rd1, g1⟩
        have hown3 := own_oth HO.out (by omega) g1
        have hsz4 : W.heap.size + 1 ≤ w3.heap.size := Nat.le_trans hsz3 g1.size
        have hRL3 : ∀ p ∈ R, w3.ownsRow (W.heap.size + 1) 5 1 p.v p.bs.length (iv .u8 p.bs) := fun p hp => own_oth (HRL.out p hp) (by omega) g1
        have kb3 := HB.out.grown g1 (by simp; omega)
        have G3 := oth_trans HG.out g1
        have HO3 := Lib.hid hown3
        have HR3 := Lib.hid hRL3
        have HB3 := Lib.hid kb3
        have HG3 := Lib.hid G3
        have HL1 := Lib.hid (own_base hsz3 l1)
        have HD1 := Lib.hid rd1
        obtain ⟨fl, hfl⟩ : ∃ fl, f.length = fl := ⟨_, rfl⟩
        rw [hfl]
        have HFL := Lib.hid hfl
        clear hown3 hRL3 kb3 G3 l1 rd1 g1 hfl HO HB HG RO
        go_wp2_with (at_builtin; refine wpList_append_own _ rfl (.tmp 44) (.tmp 46) 25 rfl (W.heap.size + 1) 22 i0 (.slice none 0 0) 1 24 Tryd.underlying25 hi hz0 hz1 hz2 rfl (by decide) _ k (R.map P1.v) rfl (HO3.out.alloc _) ⟨w3.heap.size, 0, none⟩ 1 1 [.slice a1 fl c1] rfl rfl (by intro j u hj; match j, hj with | 0, hj => (simp at hj; subst hj; simp [Addr.add, go_sem])) (by intro u hu; simp at hu; subst hu; rfl) (by unfold maxLen; omega) (by omega) (by simp; omega) ?_)
        intro v4 w4 hown4 hgrow4 _
        have keep : ∀ (x : Value) (m : Nat) (xs : List Value), w3.ownsRow (W.heap.size + 1) 5 1 x m xs → w4.ownsRow (W.heap.size + 1) 5 1 x m xs := fun x m xs hx => (hx.alloc _).kept hgrow4 (own_apart hx HO3.out (by decide))
        have b4 : Below (W.heap.size + 1) w3 w4 := ((Below.refl _ w3).alloc hsz4 _).grown hgrow4 (by simp; omega) (fun j hj => (HO3.out.lt j hj).1)
        have kb4 := HB3.out.below b4
        have hT4 : TakI W B ad cap n L fs (k + 1) v4 w4 := by
          refine ⟨⟨R ++ [⟨a1, c1, f⟩], ?_, ?_, fun p hp => ?_⟩, ⟨q + 1 + f.length, ?_, HQ2.out⟩, ?_⟩
          · rw [List.map_append, HRM.out, List.take_add_one, HF.out]; rfl
          · rw [List.map_append]
            have e : [P1.mk a1 c1 f].map P1.v = [.slice a1 fl c1] := by simp [P1.v, HFL.out]
            rw [e]; exact hown4
          · rcases List.mem_append.1 hp with hp | hp
            · exact keep _ _ _ (HR3.out p hp)
            · simp at hp
              subst hp
              have := keep _ _ _ HL1.out
              simpa [P1.v, HFL.out] using this
          · exact HD1.out.below1 (b4.mono (by omega))
          · exact grown_below HG3.out (b4.mono (by omega))
        have HT4 := Lib.hid hT4
        have HKB := Lib.hid kb4
        clear hT4 kb4 b4 keep hown4 hgrow4
        go_wp2_with fail
        go_roundw
        case rel => exact .inl ⟨rfl, k + 1, by omega, by go_num, HT4.out, HKB.out⟩
        case measure => simp [intOf]; omega
      · have ekf : k = fs.length := by omega
        by_cases hkc : k < c0
        · have hkci : (k : Int) < (c0 : Int) := by omega
          have hqn : q = n := by
            have h1 := congrArg List.length hqd
            rw [List.drop_of_length_le (by omega : fs.length ≤ k), List.length_drop, hq.len] at h1
            have h2 := hq.le
            simp [fsL] at h1
            omega
          subst hqn
          have RE := Lib.hid (readend_law hq hn)
          have HO := Lib.hid hown
          have HB := Lib.hid hB
          have HG := Lib.hid hG
          have HK := Lib.hid ekf
          have hsz3 : W.heap.size + 1 ≤ wr.heap.size := by have := World.block_lt_of_cell? wr _ hB.k0; simp at this; omega
          clear hown hRm hRl hB hG hqd hq
          go_wp2_with fail
          refine RE.out.mono ?_; rintro e w3 ⟨rfl, rd1, g1⟩
          have hown3 := own_oth HO.out (by omega) g1
          have hsz4 : W.heap.size + 1 ≤ w3.heap.size := Nat.le_trans hsz3 g1.size
          have kb3 := HB.out.grown g1 (by simp; omega)
          have G3 := oth_trans HG.out g1
          have HO3 := Lib.hid hown3
          have HB3 := Lib.hid kb3
          have HG3 := Lib.hid G3
          have HD1 := Lib.hid rd1
          clear hown3 kb3 G3 rd1 g1 HO HB HG RE
          go_wp2_with (at_builtin; refine wpList_append_own _ rfl (.tmp 44) (.tmp 46) 25 rfl (W.heap.size + 1) 22 i0 (.slice none 0 0) 1 24 Tryd.underlying25 hi hz0 hz1 hz2 rfl (by decide) _ k (R.map P1.v) rfl (HO3.out.alloc _) ⟨w3.heap.size, 0, none⟩ 1 1 [.slice none 0 0] rfl rfl (by intro j u hj; match j, hj with | 0, hj => (simp at hj; subst hj; simp [Addr.add, go_sem])) (by intro u hu; simp at hu; subst hu; rfl) (by unfold maxLen; omega) (by omega) (by simp; omega) ?_)
          intro v4 w4 hown4 hgrow4 _
          have b4 : Below (W.heap.size + 1) w3 w4 := ((Below.refl _ w3).alloc hsz4 _).grown hgrow4 (by simp; omega) (fun j hj => (HO3.out.lt j hj).1)
          have HKB := Lib.hid (HB3.out.below b4)
          have HR4 := Lib.hid (HD1.out.below1 (b4.mono (by omega)))
          have HG4 := Lib.hid (grown_below HG3.out (b4.mono (by omega)))
          clear b4 hown4 hgrow4
          go_wp2_with fail
          go_roundw
          case rel => exact .inr ⟨by have := HK.out; omega, rfl, by have := HK.out; subst this; go_num, HG4.out, HR4.out, HKB.out⟩
          case measure => simp [intOf]; omega
        · have hkci : ¬ (k : Int) < (c0 : Int) := by omega
          have hkc0 : fs.length = c0 := by have := HFS.out; omega
          have hqn : q = n := by
            have h1 := congrArg List.length hqd
            rw [List.drop_of_length_le (by omega : fs.length ≤ k), List.length_drop, hq.len] at h1
            have h2 := hq.le
            simp [fsL] at h1
            omega
          subst hqn
          have hRf : R.map P1.bs = fs := by rw [hRm, List.take_of_length_le (by omega)]
          have hRn : R.length = c0 := by rw [← hkc0, ← hRf]; simp
          rw [show k = c0 by omega] at hown
          obtain ⟨a', c', rfl, hrd⟩ := own_rdrF hown hRn hRl
          have H1 := Lib.hid hkc0
          have H2 := Lib.hid hRf
          have H3 := Lib.hid (show RdR wr a' R ∧ FlipI W.heap.size a' R wr from ⟨hrd.1, hrd.2.mono (by omega)⟩)
          have H4 := Lib.hid hq
          have H5 := Lib.hid hG
          clear hkc0 hRf hrd hq hG hown hRm hRl hB hqd hRn
          go_wp2_with fail
          go_ret2
          exact ⟨.inl ⟨H1.out, a', c', R, rfl, H2.out, H3.out, H4.out⟩, H5.out⟩
    · have e0 := hR.c0
      have e1 := hR.c1
      have e2 := hR.c2
      have f0 := hR.f0
      have f1 := hR.f1
      have f2 := hR.f2
      have k0 := hB.k0
      have k1 := hB.k1
      have k2 := hB.k2
      have HG := Lib.hid hG
      have HLT := Lib.hid hlt
      clear hR hB hG
      by_cases q1 : fs.length + 1 < c0
      · have q2 : ((fs.length + 1 : Nat) : Int) < (c0 : Int) := by omega
        obtain ⟨fl, hfl⟩ : ∃ fl, fs.length + 1 = fl := ⟨_, rfl⟩
        rw [hfl] at q2 ⊢
        clear hlt q1
        go_wp2_with fail
        go_ret2
        exact ⟨.inr ⟨HLT.out, rfl⟩, oth_trans HG.out (oth_trans (oth_set _ _ _ _) (oth_trans (oth_set _ _ _ _) (oth_set _ _ _ _)))⟩
      · have q2 : ¬ ((fs.length + 1 : Nat) : Int) < (c0 : Int) := by omega
        obtain ⟨fl, hfl⟩ : ∃ fl, fs.length + 1 = fl := ⟨_, rfl⟩
        rw [hfl] at q2 ⊢
        clear hlt q1
        go_wp2_with fail
        go_ret2
        exact ⟨.inr ⟨HLT.out, rfl⟩, oth_trans HG.out (oth_trans (oth_set _ _ _ _) (oth_trans (oth_set _ _ _ _) (oth_set _ _ _ _)))⟩
set_option maxRecDepth 100000 in
set_option maxHeartbeats 1000000 in
theorem read_okF (a : Option Addr) (L : List Int) (n cap : Nat) (hL : L.length = n) (hn : n ≤ 1000000) (c0 : Nat) (fs : List (List Int)) (he : L = (c0 : Int) :: fsL fs) (hc : 1 ≤ c0 ∧ c0 ≤ 3) (hfs : fs.length = c0) (hl : ∀ f ∈ fs, f.length ≤ 24) (w : World) (hA : Ls .u8 w a cap L) :
    Calls Tryd.prog 7 #[.slice a n cap] w fun r w' => (∃ a' c' R, r = .returned (.tuple #[.slice a' c0 c', .int .i64 0]) ∧ R.map P1.bs = fs ∧ RdR w' a' R ∧ FlipI w.heap.size a' R w') ∧ Below w.heap.size w w' := by
  have H1 := Lib.hid (open_law a L n cap hL hn w hA)
  have HE := Lib.hid he
  have HFS := Lib.hid hfs
  have HLL := Lib.hid hl
  clear hL he hfs hl hA
  go_enter Tryd.func7, Tryd.ntmps7
  go_wp2_with fail
  refine H1.out.mono ?_; rintro e w1 ⟨B, ad, c, rfl, r1, hB, B1⟩
  have hT := take_lawF r1 hn c0 fs HE.out hc.2 (by have := HFS.out; omega) HLL.out
  have hsz := r1.lt
  have HT := Lib.hid hT
  clear hT r1
  go_wp2_with fail
  refine HT.out.mono ?_; rintro e w2 ⟨hp, g2⟩
  rcases hp with ⟨_, a', c', R, rfl, hRm, ⟨hR, hFl⟩, r2⟩ | ⟨hlt, _⟩
  · have B2 := below_oth B1 g2 B1.size hB
    have hE := end_law r2 hn
    have hRl : R.length = c0 := by rw [← HFS.out, ← hRm]; simp
    have hmay : mayR R = true := (mayR_iff R).2 ⟨fun p hp => by
      have : p.bs ∈ fs := by rw [← hRm]; exact List.mem_map.2 ⟨p, hp, rfl⟩
      exact HLL.out _ this, by omega⟩
    have HM := Lib.hid (fun W (b : Below w2.heap.size w2 W) => by have := mayr_law a' R c0 c' hRl (by omega) W (hR.below b); rwa [hmay] at this)
    have HE2 := Lib.hid hE
    have HR := Lib.hid hR
    have HFL := Lib.hid (hFl.mono B1.size)
    have HRM := Lib.hid hRm
    have HB2 := Lib.hid B2
    clear hE hRl hmay hR hFl hRm r2 g2 B1 B2 HT
    go_wp2_with fail
    refine HE2.out.mono ?_; rintro e w3 ⟨rfl, B3⟩
    go_wp2_with fail
    refine (HM.out _ B3).mono ?_; rintro e w4 ⟨rfl, B4⟩
    go_wp2_with fail
    go_ret2
    exact ⟨⟨a', c', R, rfl, HRM.out, (HR.out.below B3).below B4, (HFL.out.below B3).below B4⟩, step_below (step_below HB2.out B3) B4⟩
  · exact absurd hlt (by have := HFS.out; omega)
/-- Whatever is read, and that it is new. -/
def RePF (base : Nat) (L : List Int) (r : Ending) (w' : World) : Prop :=
  (∃ (fs : List (List Int)) (a' : Option Addr) (c' : Nat) (R : List P1), VF fs ∧ L = encR fs ∧ r = .returned (.tuple #[.slice a' fs.length c', .int .i64 0]) ∧ R.map P1.bs = fs ∧ RdR w' a' R ∧ FlipI base a' R w') ∨
  ((∀ fs, VF fs → L ≠ encR fs) ∧ r = .returned (.tuple #[.slice none 0 0, .int .i64 4]))
theorem read_anyF (a : Option Addr) (L : List Int) (n cap : Nat) (hL : L.length = n) (hn : n ≤ 1000000) (hB : Byt L) (w : World) (hA : Ls .u8 w a cap L) :
    Calls Tryd.prog 7 #[.slice a n cap] w fun r w' => RePF w.heap.size L r w' ∧ Below w.heap.size w w' := by
  by_cases h : ∃ fs, VF fs ∧ L = encR fs
  · obtain ⟨fs, hv, he⟩ := h
    exact (read_okF a L n cap hL hn fs.length fs he ⟨hv.1, hv.2.1⟩ rfl hv.2.2 w hA).mono fun r w' ⟨⟨a', c', R, h1, h2, h3, h4⟩, hb⟩ => ⟨.inl ⟨fs, a', c', R, hv, he, h1, h2, h3, h4⟩, hb⟩
  · have hno : ∀ fs, VF fs → L ≠ encR fs := fun fs hv e => h ⟨fs, hv, e⟩
    exact (read_fail a L n cap hL hn hB hno w hA).mono fun r w' ⟨h1, hb⟩ => ⟨.inr ⟨hno, h1⟩, hb⟩
end Go.Proofs.YtkgcbhpgkcfkhaaDoor
