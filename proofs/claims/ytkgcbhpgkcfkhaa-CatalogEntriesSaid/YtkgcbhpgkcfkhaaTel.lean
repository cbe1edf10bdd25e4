/- 'RowTells', by contracts: whatever two rows came in, it returns true. -/
import Derived.Test.YtkgcbhpgkcfkhaaSiz
import Derived.Test.YtkgcbhpgkcfkhaaWor
import Derived.Test.YtkgcbhpgkcfkhaaKno
import Derived.ProofKit
import Derived.BigQuiet
namespace Go.Proofs.Ytkgcbhpgkcfkhaa
open Go.ChangeShapes Go.WideShapes Go.ChangeAt Go.RowKit
set_option linter.unusedVariables false
set_option linter.unusedSimpArgs false

theorem manyL_inj : ∀ {R S : List P1}, R.length = S.length → manyL R = manyL S → R.map P1.bs = S.map P1.bs
  | [], [], _, _ => rfl
  | [], _ :: _, h, _ => by simp at h
  | _ :: _, [], h, _ => by simp at h
  | p :: R, q :: S, hl, h => by
    simp only [manyL, List.map_cons, List.flatten_cons, wbytesL, List.cons_append, List.cons.injEq] at h
    obtain ⟨h1, h2⟩ := h
    have h3 : p.bs.length = q.bs.length := by omega
    obtain ⟨h4, h5⟩ := List.append_inj h2 h3
    have hl2 : R.length = S.length := by simpa using hl
    rw [List.map_cons, List.map_cons, h4, manyL_inj hl2 h5]
theorem rbytesL_inj {R S : List P1} (h : rbytesL R = rbytesL S) : R.map P1.bs = S.map P1.bs := by
  simp only [rbytesL, List.cons.injEq] at h
  exact manyL_inj (by have := h.1; omega) h.2
theorem rbytesL_congr {R S : List P1} (h : R.map P1.bs = S.map P1.bs) : rbytesL R = rbytesL S := by
  have hl : R.length = S.length := by simpa using congrArg List.length h
  have hm : ∀ T : List P1, manyL T = ((T.map P1.bs).map wbytesL).flatten := fun T => by simp [manyL, Function.comp_def]
  rw [rbytesL, rbytesL, hl, hm, hm, h]
theorem dig1 {a b c d : Int} (h : a * 256 + b = c * 256 + d) (h1 : 0 ≤ b ∧ b ≤ 255) (h2 : 0 ≤ d ∧ d ≤ 255) : a = c ∧ b = d := by omega
theorem wv_inj {L M : List Int} (hL : Byt L) (hM : Byt M) (j : Nat) (h : wv L j = wv M j) (r : Nat) (hr : r < 8) : L.getD (8 * j + r) 0 = M.getD (8 * j + r) 0 := by
  have B := fun i => getD_byt hL (8 * j + i)
  have C := fun i => getD_byt hM (8 * j + i)
  unfold wv at h
  have e : ∀ K : List Int, K.getD (8 * j) 0 * 72057594037927936 + K.getD (8 * j + 1) 0 * 281474976710656 + K.getD (8 * j + 2) 0 * 1099511627776 + K.getD (8 * j + 3) 0 * 4294967296 + K.getD (8 * j + 4) 0 * 16777216 + K.getD (8 * j + 5) 0 * 65536 + K.getD (8 * j + 6) 0 * 256 + K.getD (8 * j + 7) 0 =
      ((((((K.getD (8 * j) 0 * 256 + K.getD (8 * j + 1) 0) * 256 + K.getD (8 * j + 2) 0) * 256 + K.getD (8 * j + 3) 0) * 256 + K.getD (8 * j + 4) 0) * 256 + K.getD (8 * j + 5) 0) * 256 + K.getD (8 * j + 6) 0) * 256 + K.getD (8 * j + 7) 0 := fun K => by omega
  rw [e, e] at h
  obtain ⟨h, e7⟩ := dig1 h (B 7) (C 7)
  obtain ⟨h, e6⟩ := dig1 h (B 6) (C 6)
  obtain ⟨h, e5⟩ := dig1 h (B 5) (C 5)
  obtain ⟨h, e4⟩ := dig1 h (B 4) (C 4)
  obtain ⟨h, e3⟩ := dig1 h (B 3) (C 3)
  obtain ⟨h, e2⟩ := dig1 h (B 2) (C 2)
  obtain ⟨h, e1⟩ := dig1 h (B 1) (C 1)
  rcases lt8 hr with rfl | rfl | rfl | rfl | rfl | rfl | rfl | rfl
  · exact h
  · exact e1
  · exact e2
  · exact e3
  · exact e4
  · exact e5
  · exact e6
  · exact e7
theorem wordsL_get (L : List Int) (j : Nat) (hj : j < 1 + (L.length + 7) / 8) : (wordsL L)[j]? = some (mw L.length L L.length j) := by
  simp [wordsL, hj]
theorem wordsL_inj {L M : List Int} (hL : Byt L) (hM : Byt M) (h : wordsL L = wordsL M) : L = M := by
  have h0 : L.length = M.length := by
    have h1 := wordsL_get L 0 (by omega)
    rw [h, wordsL_get M 0 (by omega)] at h1
    simp [mw] at h1
    omega
  apply List.ext_getElem h0
  intro i hi hi2
  have hj : 1 + i / 8 < 1 + (L.length + 7) / 8 := by omega
  have h1 := wordsL_get L (1 + i / 8) hj
  rw [h, wordsL_get M (1 + i / 8) (by rw [← h0]; exact hj)] at h1
  have h2 : wv M (i / 8) = wv L (i / 8) := by
    have h3 := Option.some.inj h1
    rw [mw, mw, if_neg (by omega), if_neg (by omega), List.take_length, List.take_length, show 1 + i / 8 - 1 = i / 8 by omega] at h3
    exact h3
  have h4 := wv_inj hL hM (i / 8) h2.symm (i % 8) (by omega)
  rw [show 8 * (i / 8) + i % 8 = i by omega] at h4
  simpa [List.getD, List.getElem?_eq_getElem hi, List.getElem?_eq_getElem hi2] using h4

def bA (R : List P1) : List Int := if mayR R then rbytesL R else []
def wA (R : List P1) : List Int := if mayR R then wordsL (rbytesL R) else []
def eR (R : List P1) : Int := if mayR R then 0 else 2
theorem eR_le (R : List P1) : 0 ≤ eR R ∧ eR R ≤ 2 := by unfold eR; split <;> omega
theorem bytes_any (a : Option Addr) (R : List P1) (n cap : Nat) (hn : R.length = n) (hn3 : n ≤ 1000000) (w : World) (hR : RdR w a R) :
    Calls Try.prog 15 #[.slice a n cap] w fun r w' => ∃ a' c', r = .returned (.tuple #[.slice a' (bA R).length c', .int .i64 (eR R)]) ∧ Ls .u8 w' a' c' (bA R) ∧ Below w.heap.size w w' := by
  by_cases hm : mayR R = true
  · simp only [bA, eR, hm, if_true]
    exact bytes_ok a R n cap hn hm w hR
  · have hm' : mayR R = false := by simpa using hm
    simp only [bA, eR, hm', Bool.false_eq_true, if_false]
    exact (bytes_bad a R n cap hn hn3 hm' w hR).mono fun r w' ⟨h1, h2⟩ => ⟨none, 0, h1, Ls.nul _ _, h2⟩
theorem words_any (a : Option Addr) (R : List P1) (n cap : Nat) (hn : R.length = n) (hn3 : n ≤ 1000000) (hb : ∀ p ∈ R, Byt p.bs) (w : World) (hR : RdR w a R) :
    Calls Try.prog 16 #[.slice a n cap] w fun r w' => ∃ a' c', r = .returned (.tuple #[.slice a' (wA R).length c', .int .i64 (eR R)]) ∧ Ls .u64 w' a' c' (wA R) ∧ Below w.heap.size w w' := by
  by_cases hm : mayR R = true
  · simp only [wA, eR, hm, if_true]
    exact words_ok a R n cap hn hm hb w hR
  · have hm' : mayR R = false := by simpa using hm
    simp only [wA, eR, hm', Bool.false_eq_true, if_false]
    exact (words_bad a R n cap hn hn3 hm' w hR).mono fun r w' ⟨h1, h2⟩ => ⟨none, 0, h1, Ls.nul _ _, h2⟩
theorem wA_len (R : List P1) : (wA R).length ≤ 20 := by
  unfold wA
  split
  · rename_i h
    have := rbytes_len h
    rw [wordsL_length]; omega
  · simp
theorem bA_byt {R : List P1} (hb : ∀ p ∈ R, Byt p.bs) : Byt (bA R) := by
  unfold bA
  split
  · rename_i h
    obtain ⟨h1, _, h3⟩ := (mayR_iff R).1 h
    exact rbytes_byt hb h1 h3
  · intro x hx; simp at hx
theorem eqB_iff (R S : List P1) : eqB R S = true ↔ R.map P1.bs = S.map P1.bs := by simp [eqB]
theorem eqB_comm (R S : List P1) : eqB S R = eqB R S := by
  rw [Bool.eq_iff_iff, eqB_iff, eqB_iff]; exact ⟨Eq.symm, Eq.symm⟩
theorem both_may {R S : List P1} (h : eR R + eR S = 0) : mayR R = true ∧ mayR S = true := by
  unfold eR at h
  cases h1 : mayR R <;> cases h2 : mayR S <;> simp_all
theorem tell_b {R S : List P1} (h : eR R + eR S = 0) : bA R = bA S ↔ eqB R S = true := by
  obtain ⟨h1, h2⟩ := both_may h
  rw [eqB_iff, bA, bA, if_pos h1, if_pos h2]
  exact ⟨rbytesL_inj, rbytesL_congr⟩
theorem tell_w {R S : List P1} (h : eR R + eR S = 0) (hR : ∀ p ∈ R, Byt p.bs) (hS : ∀ p ∈ S, Byt p.bs) : wA R = wA S ↔ eqB R S = true := by
  obtain ⟨h1, h2⟩ := both_may h
  obtain ⟨k1, _, k3⟩ := (mayR_iff R).1 h1
  obtain ⟨l1, _, l3⟩ := (mayR_iff S).1 h2
  rw [eqB_iff, wA, wA, if_pos h1, if_pos h2]
  exact ⟨fun e => rbytesL_inj (wordsL_inj (rbytes_byt hR k1 k3) (rbytes_byt hS l1 l3) e), fun e => by rw [rbytesL_congr e]⟩
def SmB (U V : List Int) (k : Nat) (sb : Bool) : Prop := (sb = true → U.length = V.length ∧ ∀ j < k, U.getD j 0 = V.getD j 0) ∧ (sb = false → U ≠ V)
theorem smB_start (U V : List Int) (m n : Nat) (hm : U.length = m) (hn : V.length = n) : SmB U V 0 ((m : Int) == (n : Int)) :=
  ⟨fun h => ⟨by have := of_decide_eq_true h; omega, fun j hj => absurd hj (by omega)⟩, fun h e => by have := of_decide_eq_false h; rw [e] at hm; omega⟩
theorem smB_yes {U V : List Int} {k : Nat} (h : SmB U V k true) (hk : U.getD k 0 = V.getD k 0) : SmB U V (k + 1) true :=
  ⟨fun _ => ⟨(h.1 rfl).1, jstep (h.1 rfl).2 hk⟩, fun e => by cases e⟩
theorem smB_no {U V : List Int} {k : Nat} (hk : U.getD k 0 ≠ V.getD k 0) : SmB U V (k + 1) false :=
  ⟨fun e => (by cases e), fun _ e => hk (by rw [e])⟩
theorem smB_end {U V : List Int} {k : Nat} {sb : Bool} {D : Bool} (h : SmB U V k sb) (hk : U.length ≤ k ∨ sb = false) (hD : U = V ↔ D = true) : sb = D := by
  cases sb with
  | false =>
    have := h.2 rfl
    cases D with
    | false => rfl
    | true => exact absurd (hD.2 rfl) this
  | true =>
    have hk : U.length ≤ k := by rcases hk with h | h; exact h; cases h
    obtain ⟨h1, h2⟩ := h.1 rfl
    have : U = V := by
      apply List.ext_getElem h1
      intro i hi hi2
      have := h2 i (by omega)
      simpa [List.getD, List.getElem?_eq_getElem hi, List.getElem?_eq_getElem hi2] using this
    exact (hD.1 this).symm
theorem str_ne {A B : List Int} (bA : Byt A) (bB : Byt B) (h : A ≠ B) : ((strOfNums A).toList == (strOfNums B).toList) = false := by
  rw [beq_eq_false_iff_ne]
  intro e
  rw [Lib.strOfNums_toList, Lib.strOfNums_toList] at e
  exact h (str_inj bA bB (ByteArray.ext (Array.toList_inj.1 (by rw [strOfNums_data, strOfNums_data]; exact e))))
set_option maxRecDepth 100000 in
set_option maxHeartbeats 8000000 in
theorem tells_law (a b : Option Addr) (R S : List P1) (n m ca cb : Nat) (hn : R.length = n) (hm : S.length = m) (bR : ∀ p ∈ R, Byt p.bs) (bS : ∀ p ∈ S, Byt p.bs) (w : World) (hR : RdR w a R) (hS : RdR w b S) :
    Calls Try.prog 6 #[.slice a n ca, .slice b m cb] w fun r w' => r = .returned (.bool true) ∧ Below w.heap.size w w' := by
  have HZ0 := Lib.hid (size_law a R n ca hn w hR)
  have HZ1 := Lib.hid (size_law b S m cb hm w hS)
  have HB0 := Lib.hid (fun (hn3 : n ≤ 1000000) W (b : Below w.heap.size w W) => bytes_any a R n ca hn hn3 W (hR.below b))
  have HB1 := Lib.hid (fun (hm3 : m ≤ 1000000) W (b' : Below w.heap.size w W) => bytes_any b S m cb hm hm3 W (hS.below b'))
  have HW0 := Lib.hid (fun (hn3 : n ≤ 1000000) W (b : Below w.heap.size w W) => words_any a R n ca hn hn3 bR W (hR.below b))
  have HW1 := Lib.hid (fun (hm3 : m ≤ 1000000) W (b' : Below w.heap.size w W) => words_any b S m cb hm hm3 bS W (hS.below b'))
  have HS0 := Lib.hid (fun (hn3 : n ≤ 1000000) W (b' : Below w.heap.size w W) => same_law a b R S n m ca cb hn hm hn3 bR bS W (hR.below b') (hS.below b'))
  have HS1 := Lib.hid (fun (hm3 : m ≤ 1000000) W (b' : Below w.heap.size w W) => same_law b a S R m n cb ca hm hn hm3 bS bR W (hS.below b') (hR.below b'))
  have HRS := Lib.hid (fun (hn3 : n ≤ 1000000) W (b' : Below w.heap.size w W) => rsame_law a b R S n m ca cb hn hm hn3 bR bS W (hR.below b') (hS.below b'))
  rw [eqB_comm R S] at HS1
  have hT := fun h : eR R + eR S = 0 => And.intro (tell_b (R := R) (S := S) h) (tell_w (R := R) (S := S) h bR bS)
  have hY := And.intro (bA_byt bR) (bA_byt bS)
  have hl0 := wA_len R
  have hl1 := wA_len S
  have he := eR_le R
  have hf := eR_le S
  clear hn hm bR bS hR hS
  generalize eqB R S = D at *
  generalize eR R = e at *
  generalize eR S = f at *
  generalize bA R = A at *
  generalize bA S = B at *
  generalize wA R = U at *
  generalize wA S = V at *
  have HT := Lib.hid hT
  have HY := Lib.hid hY
  clear hT hY
  obtain ⟨la, hla⟩ : ∃ l, A.length = l := ⟨_, rfl⟩
  obtain ⟨lb, hlb⟩ : ∃ l, B.length = l := ⟨_, rfl⟩
  obtain ⟨lu, hlu⟩ : ∃ l, U.length = l := ⟨_, rfl⟩
  obtain ⟨lv, hlv⟩ : ∃ l, V.length = l := ⟨_, rfl⟩
  rw [hla] at HB0
  rw [hlb] at HB1
  rw [hlu] at HW0 hl0
  rw [hlv] at HW1 hl1
  obtain ⟨s0, hs0⟩ : ∃ s0, ((lu : Int) == (lv : Int)) = s0 := ⟨_, rfl⟩
  have HSM := Lib.hid (show SmB U V 0 s0 from hs0 ▸ smB_start U V lu lv hlu hlv)
  have HLA := Lib.hid hla
  have HLB := Lib.hid hlb
  have HLU := Lib.hid hlu
  have HLV := Lib.hid hlv
  have hDD : (D != D) = false := by simp
  have hee : (e != e) = false := by simp
  have hff : (f != f) = false := by simp
  obtain ⟨he0, he2⟩ := he
  obtain ⟨hf0, hf2⟩ := hf
  clear hla hlb hlu hlv
  go_enter Try.func6, Try.ntmps6
  go_wp2_with fail
  refine HZ0.out.mono ?_; rintro r w' ⟨⟨z0, rfl, hz0⟩, rfl⟩
  by_cases hb0 : 9000 < z0
  · have hb0i : (9000 : Int) < (z0 : Int) := by omega
    go_wp2_with fail
    refine (known_law _).mono ?_; rintro r w' ⟨rfl, B⟩
    go_wp2_with fail
    go_ret
    exact ⟨rfl, B⟩
  have hb0i : ¬ (9000 : Int) < (z0 : Int) := by omega
  go_wp2_with fail
  refine HZ1.out.mono ?_; rintro r w' ⟨⟨z1, rfl, hz1⟩, rfl⟩
  by_cases hb1 : 9000 < z1
  · have hb1i : (9000 : Int) < (z1 : Int) := by omega
    go_wp2_with fail
    refine (known_law _).mono ?_; rintro r w' ⟨rfl, B⟩
    go_wp2_with fail
    go_ret
    exact ⟨rfl, B⟩
  have hb1i : ¬ (9000 : Int) < (z1 : Int) := by omega
  have hn3 := Lib.hid (show n ≤ 1000000 by omega)
  have hm3 := Lib.hid (show m ≤ 1000000 by omega)
  go_wp2_with fail
  refine (HB0.out hn3.out _ (Below.refl _ _)).mono ?_; rintro r w1 ⟨xa, xc, rfl, L1, B1⟩
  go_wp2_with fail
  refine (HB1.out hm3.out _ B1).mono ?_; rintro r w2 ⟨ya, yc, rfl, L2, B2⟩
  replace L1 := L1.below B2
  replace B2 := step_below B1 B2
  go_wp2_with fail
  refine (HW0.out hn3.out _ B2).mono ?_; rintro r w3 ⟨ua, uc, rfl, L3, B3⟩
  replace L1 := L1.below B3
  replace L2 := L2.below B3
  replace B3 := step_below B2 B3
  go_wp2_with fail
  refine (HW1.out hm3.out _ B3).mono ?_; rintro r w4 ⟨va, vc, rfl, L4, B4⟩
  have HK := Lib.hid (show ∀ W, Below w4.heap.size w4 W → Ls .u8 W xa xc A ∧ Ls .u8 W ya yc B ∧ Ls .u64 W ua uc U ∧ Ls .u64 W va vc V ∧ Below w.heap.size w W from fun W bb => ⟨(L1.below B4).below bb, (L2.below B4).below bb, (L3.below B4).below bb, L4.below bb, step_below (step_below B3 B4) bb⟩)
  replace B4 := step_below B3 B4
  clear L1 L2 L3 L4 B1 B2 B3
  go_wp2_with fail
  refine (HS0.out hn3.out _ B4).mono ?_; rintro r w5 ⟨rfl, B5⟩
  go_wp2_with fail
  refine (HRS.out hn3.out _ (step_below B4 B5)).mono ?_; rintro r w6 ⟨rfl, B6⟩
  replace B6 := step_below B5 B6
  clear B5
  go_wp2_with fail
  refine (HS0.out hn3.out _ (step_below B4 B6)).mono ?_; rintro r w7 ⟨rfl, B7⟩
  replace B7 := step_below B6 B7
  clear B6
  go_wp2_with fail
  refine (HS1.out hm3.out _ (step_below B4 B7)).mono ?_; rintro r w8 ⟨rfl, B8⟩
  replace B8 := step_below B7 B8
  clear B7
  go_wp2_with fail
  refine (num_law _ _).mono ?_; rintro r w' ⟨rfl, rfl⟩
  go_wp2_with fail
  refine (num_law _ _).mono ?_; rintro r w' ⟨rfl, rfl⟩
  go_wp2_with fail
  refine (num_law _ _).mono ?_; rintro r w' ⟨rfl, rfl⟩
  go_wp2_with fail
  refine (num_law _ _).mono ?_; rintro r w' ⟨rfl, rfl⟩
  go_wp2_with fail
  refine (num_law _ _).mono ?_; rintro r w' ⟨rfl, rfl⟩
  go_wp2_with fail
  refine (num_law _ _).mono ?_; rintro r w' ⟨rfl, rfl⟩
  have B9 := step_below B4 B8
  clear B4
  by_cases hef : e + f = 0
  case neg =>
    have hne : ((e + f) != 0) = true := by simpa using hef
    go_wp2_with fail
    refine (known_law _).mono ?_; rintro r w' ⟨rfl, B⟩
    go_wp2_with fail
    go_ret
    exact ⟨rfl, step_below B9 B⟩
  have HTT := Lib.hid (HT.out hef)
  have hne : ((e + f) != 0) = false := by simpa using hef
  have HNE := Lib.hid hne
  have HE8 := Lib.hid (show ∀ W, Below w8.heap.size w8 W → Below w4.heap.size w4 W from fun W bb => step_below B8 bb)
  have HN9 := Lib.hid (show ∀ W, Below w8.heap.size w8 W → Below w.heap.size w W from fun W bb => step_below B9 bb)
  clear B8 B9 HZ0 HZ1 HB0 HB1 HW0 HW1 HRS HS1 HT hz0 hz1 hb0 hb1
  go_wp2_with fail
  go_loopw [13, 14] (fun s i wr => ∃ k : Nat, k ≤ lu ∧ i = .int .i64 k ∧ ∃ sb : Bool, s = .bool sb ∧ SmB U V k sb ∧ Below w8.heap.size w8 wr) (fun _ i _ => lu - (intOf i).toNat)
  case atStart => exact ⟨0, by omega, rfl, _, rfl, HSM.out, Below.refl _ _⟩
  case round =>
    obtain ⟨k, hk, rfl, sb, rfl, hsm, BW⟩ := hrel
    have HP := Lib.hid hsm
    have BB := Lib.hid BW
    clear hsm BW
    have hk9 : (k : Int) ≤ 20 := by omega
    have HALL := Lib.hid (show ∀ W, Below wr.heap.size wr W → (convert 24 9 (.slice xa la xc)).run Try.prog W = .ok (.string (strOfNums A)) W ∧ (convert 24 9 (.slice ya lb yc)).run Try.prog W = .ok (.string (strOfNums B)) W ∧ Below wr.heap.size wr W from fun W bb => by
      obtain ⟨k1, k2, _, _, _⟩ := HK.out W (HE8.out W (step_below BB.out bb))
      exact ⟨kc2 W xa la xc A HLA.out k1, kc2 W ya lb yc B HLB.out k2, bb⟩)
    have HSS := Lib.hid (fun W (bb : Below wr.heap.size wr W) => HS0.out hn3.out W (HN9.out W (step_below BB.out bb)))
    by_cases hlt : k < lu
    · have hkl : (k : Int) < (lu : Int) := by omega
      cases sb with
      | true =>
        have hkv : k < lv := by have := (HP.out.1 rfl).1; have h1 := HLU.out; have h2 := HLV.out; omega
        have hkvi : (k : Int) < (lv : Int) := by omega
        obtain ⟨_, _, k3, k4, _⟩ := HK.out wr (HE8.out wr BB.out)
        obtain ⟨b1, o1, e1, c1⟩ := k3.get k (by rw [HLU.out]; exact hlt)
        obtain ⟨b2, o2, e2, c2⟩ := k4.get k (by rw [HLV.out]; exact hkv)
        subst e1 e2
        obtain ⟨x, hx⟩ : ∃ x, U.getD k 0 = x := ⟨_, rfl⟩
        obtain ⟨y, hy⟩ : ∃ y, V.getD k 0 = y := ⟨_, rfl⟩
        rw [hx] at c1
        rw [hy] at c2
        have HX := Lib.hid hx
        have HYY := Lib.hid hy
        clear hx hy k3 k4
        by_cases q : x = y
        · subst q
          go_wp2_with fail
          go_quiet (fail)
          go_wp2_with fail
          go_roundw
          case rel => exact ⟨k + 1, by omega, by go_num, _, rfl, smB_yes HP.out (HX.out.trans HYY.out.symm), below_drewN BB.out _⟩
          case measure => simp [intOf]; omega
        · have hq : (x == y) = false := by simpa using q
          have Q := Lib.hid q
          clear q
          go_wp2_with fail
          go_quiet (fail)
          go_wp2_with fail
          go_roundw
          case rel => exact ⟨k + 1, by omega, by go_num, _, rfl, smB_no (fun h => Q.out (by rw [← HX.out, ← HYY.out, h])), below_drewN BB.out _⟩
          case measure => simp [intOf]; omega
      | false =>
        have hD : false = D := smB_end HP.out (.inr rfl) HTT.out.2
        subst hD
        have hs := str_ne HY.out.1 HY.out.2 (fun h => by have := HTT.out.1.1 h; cases this)
        have hmx : Try.prog.follows .mixedOrders = true := by kernel_rfl
        go_wp2_with fail
        go_region_held3 (fun W => (convert 24 9 (.slice xa la xc)).run Try.prog W = .ok (.string (strOfNums A)) W ∧ (convert 24 9 (.slice ya lb yc)).run Try.prog W = .ok (.string (strOfNums B)) W ∧ Below wr.heap.size wr W)
          (first | (exact HALL.out _ (Below.refl _ _).drew) | (go_split_ands; exact HALL.out _ (step_below (by assumption) B4)) | (go_split_ands; exact HALL.out _ (by assumption)))
          (first | (go_at_call 23; refine (HSS.out _ (by go_split_ands; assumption)).mono ?_; rintro e W4 ⟨rfl, B4⟩) | (go_at_call 13; refine (known_law _).mono ?_; rintro e W4 ⟨rfl, B4⟩))
        go_split_ands
        go_wp2_with fail
        go_ret
        exact ⟨rfl, HN9.out _ (step_below BB.out (by assumption))⟩
    · have hkl : ¬ (k : Int) < (lu : Int) := by omega
      have hD : sb = D := smB_end HP.out (.inl (by rw [HLU.out]; omega)) HTT.out.2
      subst hD
      have hmx : Try.prog.follows .mixedOrders = true := by kernel_rfl
      cases sb with
      | true =>
        have hAB : A = B := HTT.out.1.2 rfl
        subst hAB
        go_wp2_with fail
        go_region_held3 (fun W => (convert 24 9 (.slice xa la xc)).run Try.prog W = .ok (.string (strOfNums A)) W ∧ (convert 24 9 (.slice ya lb yc)).run Try.prog W = .ok (.string (strOfNums A)) W ∧ Below wr.heap.size wr W)
          (first | (exact HALL.out _ (Below.refl _ _).drew) | (go_split_ands; exact HALL.out _ (step_below (by assumption) B4)) | (go_split_ands; exact HALL.out _ (by assumption)))
          (first | (go_at_call 23; refine (HSS.out _ (by go_split_ands; assumption)).mono ?_; rintro e W4 ⟨rfl, B4⟩) | (go_at_call 13; refine (known_law _).mono ?_; rintro e W4 ⟨rfl, B4⟩))
        go_split_ands
        go_wp2_with fail
        go_ret
        exact ⟨rfl, HN9.out _ (step_below BB.out (by assumption))⟩
      | false =>
        have hs := str_ne HY.out.1 HY.out.2 (fun h => by have := HTT.out.1.1 h; cases this)
        go_wp2_with fail
        go_region_held3 (fun W => (convert 24 9 (.slice xa la xc)).run Try.prog W = .ok (.string (strOfNums A)) W ∧ (convert 24 9 (.slice ya lb yc)).run Try.prog W = .ok (.string (strOfNums B)) W ∧ Below wr.heap.size wr W)
          (first | (exact HALL.out _ (Below.refl _ _).drew) | (go_split_ands; exact HALL.out _ (step_below (by assumption) B4)) | (go_split_ands; exact HALL.out _ (by assumption)))
          (first | (go_at_call 23; refine (HSS.out _ (by go_split_ands; assumption)).mono ?_; rintro e W4 ⟨rfl, B4⟩) | (go_at_call 13; refine (known_law _).mono ?_; rintro e W4 ⟨rfl, B4⟩))
        go_split_ands
        go_wp2_with fail
        go_ret
        exact ⟨rfl, HN9.out _ (step_below BB.out (by assumption))⟩
end Go.Proofs.Ytkgcbhpgkcfkhaa
