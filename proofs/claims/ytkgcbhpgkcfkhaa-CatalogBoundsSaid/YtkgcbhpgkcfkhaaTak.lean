/- Fields that are read, by contracts. -/
import Derived.Test.YtkgcbhpgkcfkhaaReb
namespace Go.Proofs.Ytkgcbhpgkcfkhaa
open Go.ChangeShapes Go.WideShapes Go.ChangeAt Go.RowKit
set_option linter.unusedVariables false
set_option linter.unusedSimpArgs false

theorem info24 : (Try.prog.info? 24).map (fun i => (i.zero, i.size, i.bytes)) = some (some (.slice none 0 0), 1, 24) := by kernel_rfl
theorem own_rdr {w : World} {base n : Nat} {v : Value} {R : List P1} (h : w.ownsRow base 24 1 v n (R.map P1.v)) (hn : R.length = n) (hl : ∀ p ∈ R, Ls .u8 w p.ad p.cap p.bs) : ∃ a cap, v = .slice a n cap ∧ RdR w a R := by
  have h' := h
  rcases h.2 with ⟨e, h0⟩ | ⟨g, cap, cur, rfl, hg, _, hc, _⟩
  · have : R = [] := List.length_eq_zero_iff.1 (by omega)
    subst this
    subst h0
    exact ⟨none, 0, e, RdR.nil _ _⟩
  · refine ⟨_, cap, rfl, fun k p hp => ⟨g, 0, rfl, ?_, hl p (List.mem_of_getElem? hp)⟩⟩
    have hk : k < R.length := (List.getElem?_eq_some_iff.1 hp).1
    rw [Nat.zero_add, h'.cellAt k (by omega)]
    simp [hp]
def fsL (fs : List (List Int)) : List Int := (fs.map wbytesL).flatten
theorem Rdr.below1 {W W' : World} {B : Nat} {ad : Option Addr} {cap n : Nat} {L : List Int} {p : Nat} (h : Rdr W B ad cap n L p) (b : Below (B + 1) W W') : Rdr W' B ad cap n L p := by
  have hl : B < B + 1 := by omega
  refine ⟨h.len, (b.cell (p := ⟨B, 0, none⟩) hl).trans h.c0, (b.cell (p := ⟨B, 1, none⟩) hl).trans h.c1, (b.cell (p := ⟨B, 2, none⟩) hl).trans h.c2, (b.frozen (p := ⟨B, 0, none⟩) hl).trans h.f0, (b.frozen (p := ⟨B, 1, none⟩) hl).trans h.f1, (b.frozen (p := ⟨B, 2, none⟩) hl).trans h.f2, fun W2 h2 => ?_, h.le, h.apart⟩
  refine h.ls W2 fun k b' off e => ?_
  rw [h2 k b' off e]
  exact b.cell (p := ⟨b', off + k, none⟩) (by have := h.apart b' off e; simp; omega)
theorem grown_below {W a b : World} {row : Option Nat} (h : W.grownBy a row) (k : Below W.heap.size a b) : W.grownBy b row :=
  ⟨k.os.trans h.os, k.tape.trans h.tape, k.output.trans h.output, Nat.le_trans h.size k.size, fun i hi hne => (k.block i hi).trans (h.block i hi hne)⟩
theorem fsL_drop (fs : List (List Int)) (k : Nat) (f : List Int) (h : fs[k]? = some f) : fsL (fs.drop k) = wbytesL f ++ fsL (fs.drop (k + 1)) := by
  obtain ⟨hk, e⟩ := List.getElem?_eq_some_iff.1 h
  rw [List.drop_eq_getElem_cons hk, e]
  simp [fsL]
theorem readone_law {W : World} {B : Nat} {ad : Option Addr} {cap n : Nat} {L : List Int} {p : Nat} (h : Rdr W B ad cap n L p) (hn : n ≤ 1000000) (f rest : List Int) (hf : f.length ≤ 24) (hd : L.drop p = wbytesL f ++ rest) :
    Calls Try.prog 94 #[.pointer (some ⟨B, 0, none⟩)] W fun r w' => ∃ a' c', r = .returned (.tuple #[.slice a' f.length c', .int .i64 0]) ∧ w'.ownsRow W.heap.size 5 1 (.slice a' f.length c') f.length (iv .u8 f) ∧ Rdr w' B ad cap n L (p + 1 + f.length) ∧ W.grownBy w' (some B) := by
  have H := Lib.hid (field_one h hn f rest hf hd)
  clear h hf hd
  obtain ⟨c, hc⟩ : ∃ c, f.length = c := ⟨_, rfl⟩
  rw [hc] at H ⊢
  go_enter Try.func94, Try.ntmps94
  go_wp2_with fail
  refine H.out.mono ?_; rintro e w' ⟨a', c', rfl, h1, h3, h4⟩
  have H1 := Lib.hid h1
  have H3 := Lib.hid h3
  have H4 := Lib.hid h4
  clear h1 h3 h4
  go_wp2_with fail
  go_ret2
  exact ⟨a', c', rfl, H1.out, H3.out, H4.out⟩
theorem readend_law {W : World} {B : Nat} {ad : Option Addr} {cap n : Nat} {L : List Int} (h : Rdr W B ad cap n L n) (hn : n ≤ 1000000) :
    Calls Try.prog 94 #[.pointer (some ⟨B, 0, none⟩)] W fun r w' => r = .returned (.tuple #[.slice none 0 0, .int .i64 4]) ∧ Rdr w' B ad cap n L n ∧ W.grownBy w' (some B) := by
  have H := Lib.hid (field_end h hn)
  clear h
  go_enter Try.func94, Try.ntmps94
  go_wp2_with fail
  refine H.out.mono ?_; rintro e w' ⟨rfl, h3, h4⟩
  have H3 := Lib.hid h3
  have H4 := Lib.hid h4
  clear h3 h4
  go_wp2_with fail
  go_ret2
  exact ⟨rfl, H3.out, H4.out⟩
set_option maxRecDepth 100000 in
theorem hnf142 (f : Fn) (c1 c2 : Array Value) (w : World) : (binOp .eql 142 (.func f c1 c2) .nilFunc).run Try.prog w = .ok (.bool false) w := by
  first | rfl | simp [binOp, run_underlying Try.underlying142] | simp [binOp, Op.equal, run_underlying Try.underlying142, go_sem]
/-- What is kept round the loop. -/
structure TakI (W : World) (B : Nat) (ad : Option Addr) (cap n : Nat) (L : List Int) (fs : List (List Int)) (k : Nat) (v : Value) (wr : World) : Prop where
  all : ∃ R : List P1, R.map P1.bs = fs.take k ∧ wr.ownsRow (W.heap.size + 1) 24 1 v k (R.map P1.v) ∧ (∀ p ∈ R, wr.ownsRow (W.heap.size + 1) 5 1 p.v p.bs.length (iv .u8 p.bs))
  rdr : ∃ q, Rdr wr B ad cap n L q ∧ L.drop q = fsL (fs.drop k)
  grown : W.grownBy wr (some B)
structure TakB (W : World) (ad : Option Addr) (cap n : Nat) (wr : World) : Prop where
  k0 : wr.cell? ⟨W.heap.size, 0, none⟩ = some (.slice ad n cap)
  k1 : wr.cell? ⟨W.heap.size, 1, none⟩ = some (.int .i64 0)
  k2 : wr.cell? ⟨W.heap.size, 2, none⟩ = some (.bool true)
theorem TakB.below {W : World} {ad : Option Addr} {cap n : Nat} {wr w' : World} (h : TakB W ad cap n wr) (b : Below (W.heap.size + 1) wr w') : TakB W ad cap n w' :=
  ⟨(b.cell (p := ⟨W.heap.size, 0, none⟩) (by simp)).trans h.k0, (b.cell (p := ⟨W.heap.size, 1, none⟩) (by simp)).trans h.k1, (b.cell (p := ⟨W.heap.size, 2, none⟩) (by simp)).trans h.k2⟩
theorem TakB.grown {W : World} {ad : Option Addr} {cap n : Nat} {wr w' : World} {row : Option Nat} (h : TakB W ad cap n wr) (hg : wr.grownBy w' row) (hne : row ≠ some W.heap.size) : TakB W ad cap n w' :=
  ⟨hg.cell h.k0 (fun e => hne e.symm), hg.cell h.k1 (fun e => hne e.symm), hg.cell h.k2 (fun e => hne e.symm)⟩
def TakPost (c0 : Nat) (fs : List (List Int)) (B : Nat) (ad : Option Addr) (cap n : Nat) (L : List Int) (r : Ending) (w' : World) : Prop :=
  (fs.length = c0 ∧ ∃ a' c' R, r = .returned (.tuple #[.slice a' c0 c', .int .i64 0]) ∧ R.map P1.bs = fs ∧ RdR w' a' R ∧ Rdr w' B ad cap n L n) ∨ (fs.length < c0 ∧ r = .returned (.tuple #[.slice none 0 0, .int .i64 4]))
set_option maxRecDepth 100000 in
set_option maxHeartbeats 4000000 in
theorem take_law {W : World} {B : Nat} {ad : Option Addr} {cap n : Nat} {L : List Int} (h : Rdr W B ad cap n L 0) (hn : n ≤ 1000000) (c0 : Nat) (fs : List (List Int)) (hL : L = (c0 : Int) :: fsL fs) (hc : c0 ≤ 3) (hfs : fs.length ≤ c0) (hl : ∀ f ∈ fs, f.length ≤ 24) :
    Calls Try.prog 93 #[.pointer (some ⟨B, 0, none⟩), .int .i64 3, .func (.func 94) #[] #[]] W fun r w' => TakPost c0 fs B ad cap n L r w' ∧ W.grownBy w' (some B) := by
  obtain ⟨i0, hi, hz0, hz1, hz2⟩ := info_parts info24
  have e0 := h.c0
  have e1 := h.c1
  have e2 := h.c2
  have H := Lib.hid h
  have hbl := h.lt
  have hn1 : 0 < n := by rw [← h.len, hL]; simp
  have HCT := Lib.hid (fun W' (hr : Rdr W' B ad cap n L 0) => count_one hr hn c0 3 hn1 (by rw [hL]; rfl) hc (by omega))
  have hnf := hnf142
  have HL := Lib.hid hL
  have HFS := Lib.hid hfs
  have HLL := Lib.hid hl
  have hci : (c0 : Int) ≤ 3 := by omega
  clear h hL hfs hl
  go_enter Try.func93, Try.ntmps93
  go_wp2_with fail
  refine (none_law H.out).mono ?_; rintro e w' ⟨rfl, rfl⟩
  go_wp2_with fail
  have B0 : Below W.heap.size W (W.alloc (.cells #[.slice ad n cap, .int .i64 0, .bool true] 158)) := (Below.refl _ _).alloc (Nat.le_refl _) _
  have h1 := H.out.below B0
  have kb : TakB W ad cap n (W.alloc (.cells #[.slice ad n cap, .int .i64 0, .bool true] 158)) := ⟨by rw [cell_new]; rfl, by rw [cell_new]; rfl, by rw [cell_new]; rfl⟩
  have hsz : (W.alloc (.cells #[.slice ad n cap, .int .i64 0, .bool true] 158)).heap.size = W.heap.size + 1 := by simp
  clear e0 e1 e2
  generalize W.alloc (.cells #[.slice ad n cap, .int .i64 0, .bool true] 158) = W1 at B0 h1 kb hsz ⊢
  refine (HCT.out _ h1).mono ?_; rintro e w2 ⟨rfl, h2, g2⟩
  have kb2 := Lib.hid (kb.grown g2 (by simp; omega))
  have T0 : TakI W B ad cap n L fs 0 (.slice none 0 0) w2 := ⟨⟨[], rfl, World.ownsRow_nil _ _ _ _, fun p hp => by simp at hp⟩, ⟨1, h2, by rw [HL.out]; simp⟩, oth_trans (oth_below B B0) g2⟩
  have hsz2 : W.heap.size + 1 ≤ w2.heap.size := by rw [← hsz]; exact g2.size
  have HT0 := Lib.hid T0
  clear B0 h1 kb hsz h2 g2 T0
  go_wp2_with fail
  go_loopw [10, 11, 12] (fun e v i wr => (e = .int .i64 0 ∧ ∃ k : Nat, k ≤ fs.length ∧ i = .int .u64 k ∧ TakI W B ad cap n L fs k v wr ∧ TakB W ad cap n wr) ∨ (fs.length < c0 ∧ e = .int .i64 4 ∧ i = .int .u64 ((fs.length + 1 : Nat) : Int) ∧ W.grownBy wr (some B) ∧ Rdr wr B ad cap n L n ∧ TakB W ad cap n wr)) (fun _ _ i _ => c0 + 1 - (intOf i).toNat)
  case atStart => exact .inl ⟨rfl, 0, by omega, rfl, HT0.out, kb2.out⟩
  case round =>
    clear HT0 kb2
    rcases hrel with ⟨rfl, k, hk, rfl, hT, hB⟩ | ⟨hlt, rfl, rfl, hG, hR, hB⟩
    · obtain ⟨⟨R, hRm, hown, hRl⟩, ⟨q, hq, hqd⟩, hG⟩ := hT
      have hwz : W.heap.size ≤ wr.heap.size := hG.size
      by_cases hkf : k < fs.length
      · obtain ⟨f, hf⟩ : ∃ f, fs[k]? = some f := ⟨_, List.getElem?_eq_getElem hkf⟩
        have hkc : (k : Int) < (c0 : Int) := by have := HFS.out; omega
        rw [fsL_drop fs k f hf] at hqd
        have hf24 := HLL.out f (List.mem_of_getElem? hf)
        have RO := Lib.hid (readone_law hq hn f _ hf24 hqd)
        have hq2 : L.drop (q + 1 + f.length) = fsL (fs.drop (k + 1)) := by
          rw [show q + 1 + f.length = q + (1 + f.length) by omega, ← List.drop_drop, hqd, List.drop_append_of_le_length (by simp [wbytesL]; omega)]
          simp [wbytesL, Nat.add_comm 1]
        have HF := Lib.hid hf
        have HQ2 := Lib.hid hq2
        have HO := Lib.hid hown
        have HRM := Lib.hid hRm
        have HRL := Lib.hid hRl
        have HB := Lib.hid hB
        have HG := Lib.hid hG
        have hsz3 : W.heap.size + 1 ≤ wr.heap.size := by have := World.block_lt_of_cell? wr _ hB.k0; simp at this; omega
        clear hf hq2 hown hRm hRl hB hG hqd hq hf24
        go_wp2_with fail
        refine RO.out.mono ?_; rintro e w3 ⟨a1, c1, rfl, l1, rd1, g1⟩
        have hown3 := own_oth HO.out (by omega) g1
        have hsz4 : W.heap.size + 1 ≤ w3.heap.size := Nat.le_trans hsz3 g1.size
        have hRL3 : ∀ p ∈ R, w3.ownsRow (W.heap.size + 1) 5 1 p.v p.bs.length (iv .u8 p.bs) := fun p hp => own_oth (HRL.out p hp) (by omega) g1
        have kb3 := HB.out.grown g1 (by simp; omega)
        have G3 := oth_trans HG.out g1
        have HO3 := Lib.hid hown3
        have HR3 := Lib.hid hRL3
        have HB3 := Lib.hid kb3
        have HG3 := Lib.hid G3
        have HL1 := Lib.hid (own_base hsz3 l1)
        have HD1 := Lib.hid rd1
        obtain ⟨fl, hfl⟩ : ∃ fl, f.length = fl := ⟨_, rfl⟩
        rw [hfl]
        have HFL := Lib.hid hfl
        clear hown3 hRL3 kb3 G3 l1 rd1 g1 hfl HO HB HG RO
        go_wp2_with (at_builtin; refine wpList_append_own _ rfl (.tmp 44) (.tmp 46) 22 rfl (W.heap.size + 1) 24 i0 (.slice none 0 0) 1 24 Try.underlying22 hi hz0 hz1 hz2 rfl (by decide) _ k (R.map P1.v) rfl (HO3.out.alloc _) ⟨w3.heap.size, 0, none⟩ 1 1 [.slice a1 fl c1] rfl rfl (by intro j u hj; match j, hj with | 0, hj => (simp at hj; subst hj; simp [Addr.add, go_sem])) (by intro u hu; simp at hu; subst hu; rfl) (by unfold maxLen; omega) (by omega) (by simp; omega) ?_)
        intro v4 w4 hown4 hgrow4 _
        have keep : ∀ (x : Value) (m : Nat) (xs : List Value), w3.ownsRow (W.heap.size + 1) 5 1 x m xs → w4.ownsRow (W.heap.size + 1) 5 1 x m xs := fun x m xs hx => (hx.alloc _).kept hgrow4 (own_apart hx HO3.out (by decide))
        have b4 : Below (W.heap.size + 1) w3 w4 := ((Below.refl _ w3).alloc hsz4 _).grown hgrow4 (by simp; omega) (fun j hj => (HO3.out.lt j hj).1)
        have kb4 := HB3.out.below b4
        have hT4 : TakI W B ad cap n L fs (k + 1) v4 w4 := by
          refine ⟨⟨R ++ [⟨a1, c1, f⟩], ?_, ?_, fun p hp => ?_⟩, ⟨q + 1 + f.length, ?_, HQ2.out⟩, ?_⟩
          · rw [List.map_append, HRM.out, List.take_add_one, HF.out]; rfl
          · rw [List.map_append]
            have e : [P1.mk a1 c1 f].map P1.v = [.slice a1 fl c1] := by simp [P1.v, HFL.out]
            rw [e]; exact hown4
          · rcases List.mem_append.1 hp with hp | hp
            · exact keep _ _ _ (HR3.out p hp)
            · simp at hp
              subst hp
              have := keep _ _ _ HL1.out
              simpa [P1.v, HFL.out] using this
          · exact HD1.out.below1 (b4.mono (by omega))
          · exact grown_below HG3.out (b4.mono (by omega))
        have HT4 := Lib.hid hT4
        have HKB := Lib.hid kb4
        clear hT4 kb4 b4 keep hown4 hgrow4
        go_wp2_with fail
        go_roundw
        case rel => exact .inl ⟨rfl, k + 1, by omega, by go_num, HT4.out, HKB.out⟩
        case measure => simp [intOf]; omega
      · have ekf : k = fs.length := by omega
        by_cases hkc : k < c0
        · have hkci : (k : Int) < (c0 : Int) := by omega
          have hqn : q = n := by
            have h1 := congrArg List.length hqd
            rw [List.drop_of_length_le (by omega : fs.length ≤ k), List.length_drop, hq.len] at h1
            have h2 := hq.le
            simp [fsL] at h1
            omega
          subst hqn
          have RE := Lib.hid (readend_law hq hn)
          have HO := Lib.hid hown
          have HB := Lib.hid hB
          have HG := Lib.hid hG
          have HK := Lib.hid ekf
          have hsz3 : W.heap.size + 1 ≤ wr.heap.size := by have := World.block_lt_of_cell? wr _ hB.k0; simp at this; omega
          clear hown hRm hRl hB hG hqd hq
          go_wp2_with fail
          refine RE.out.mono ?_; rintro e w3 ⟨rfl, rd1, g1⟩
          have hown3 := own_oth HO.out (by omega) g1
          have hsz4 : W.heap.size + 1 ≤ w3.heap.size := Nat.le_trans hsz3 g1.size
          have kb3 := HB.out.grown g1 (by simp; omega)
          have G3 := oth_trans HG.out g1
          have HO3 := Lib.hid hown3
          have HB3 := Lib.hid kb3
          have HG3 := Lib.hid G3
          have HD1 := Lib.hid rd1
          clear hown3 kb3 G3 rd1 g1 HO HB HG RE
          go_wp2_with (at_builtin; refine wpList_append_own _ rfl (.tmp 44) (.tmp 46) 22 rfl (W.heap.size + 1) 24 i0 (.slice none 0 0) 1 24 Try.underlying22 hi hz0 hz1 hz2 rfl (by decide) _ k (R.map P1.v) rfl (HO3.out.alloc _) ⟨w3.heap.size, 0, none⟩ 1 1 [.slice none 0 0] rfl rfl (by intro j u hj; match j, hj with | 0, hj => (simp at hj; subst hj; simp [Addr.add, go_sem])) (by intro u hu; simp at hu; subst hu; rfl) (by unfold maxLen; omega) (by omega) (by simp; omega) ?_)
          intro v4 w4 hown4 hgrow4 _
          have b4 : Below (W.heap.size + 1) w3 w4 := ((Below.refl _ w3).alloc hsz4 _).grown hgrow4 (by simp; omega) (fun j hj => (HO3.out.lt j hj).1)
          have HKB := Lib.hid (HB3.out.below b4)
          have HR4 := Lib.hid (HD1.out.below1 (b4.mono (by omega)))
          have HG4 := Lib.hid (grown_below HG3.out (b4.mono (by omega)))
          clear b4 hown4 hgrow4
          go_wp2_with fail
          go_roundw
          case rel => exact .inr ⟨by have := HK.out; omega, rfl, by have := HK.out; subst this; go_num, HG4.out, HR4.out, HKB.out⟩
          case measure => simp [intOf]; omega
        · have hkci : ¬ (k : Int) < (c0 : Int) := by omega
          have hkc0 : fs.length = c0 := by have := HFS.out; omega
          have hqn : q = n := by
            have h1 := congrArg List.length hqd
            rw [List.drop_of_length_le (by omega : fs.length ≤ k), List.length_drop, hq.len] at h1
            have h2 := hq.le
            simp [fsL] at h1
            omega
          subst hqn
          have hRf : R.map P1.bs = fs := by rw [hRm, List.take_of_length_le (by omega)]
          have hRn : R.length = c0 := by rw [← hkc0, ← hRf]; simp
          rw [show k = c0 by omega] at hown
          obtain ⟨a', c', rfl, hrd⟩ := own_rdr hown hRn (fun p hp => by obtain ⟨a2, c2, e, l2, _⟩ := own_ls (hRl p hp) rfl; cases e; exact l2)
          have H1 := Lib.hid hkc0
          have H2 := Lib.hid hRf
          have H3 := Lib.hid hrd
          have H4 := Lib.hid hq
          have H5 := Lib.hid hG
          clear hkc0 hRf hrd hq hG hown hRm hRl hB hqd hRn
          go_wp2_with fail
          go_ret2
          exact ⟨.inl ⟨H1.out, a', c', R, rfl, H2.out, H3.out, H4.out⟩, H5.out⟩
    · have e0 := hR.c0
      have e1 := hR.c1
      have e2 := hR.c2
      have f0 := hR.f0
      have f1 := hR.f1
      have f2 := hR.f2
      have k0 := hB.k0
      have k1 := hB.k1
      have k2 := hB.k2
      have HG := Lib.hid hG
      have HLT := Lib.hid hlt
      clear hR hB hG
      by_cases q1 : fs.length + 1 < c0
      · have q2 : ((fs.length + 1 : Nat) : Int) < (c0 : Int) := by omega
        obtain ⟨fl, hfl⟩ : ∃ fl, fs.length + 1 = fl := ⟨_, rfl⟩
        rw [hfl] at q2 ⊢
        clear hlt q1
        go_wp2_with fail
        go_ret2
        exact ⟨.inr ⟨HLT.out, rfl⟩, oth_trans HG.out (oth_trans (oth_set _ _ _ _) (oth_trans (oth_set _ _ _ _) (oth_set _ _ _ _)))⟩
      · have q2 : ¬ ((fs.length + 1 : Nat) : Int) < (c0 : Int) := by omega
        obtain ⟨fl, hfl⟩ : ∃ fl, fs.length + 1 = fl := ⟨_, rfl⟩
        rw [hfl] at q2 ⊢
        clear hlt q1
        go_wp2_with fail
        go_ret2
        exact ⟨.inr ⟨HLT.out, rfl⟩, oth_trans HG.out (oth_trans (oth_set _ _ _ _) (oth_trans (oth_set _ _ _ _) (oth_set _ _ _ _)))⟩
end Go.Proofs.Ytkgcbhpgkcfkhaa
