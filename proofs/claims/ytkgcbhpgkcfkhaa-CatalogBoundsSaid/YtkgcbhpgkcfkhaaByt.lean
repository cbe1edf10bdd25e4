/- A row's bytes, by contracts. -/
import Derived.Test.YtkgcbhpgkcfkhaaEnt
namespace Go.Proofs.Ytkgcbhpgkcfkhaa
open Go.ChangeShapes Go.WideShapes Go.ChangeAt Go.RowKit
set_option linter.unusedVariables false
set_option linter.unusedSimpArgs false

theorem eltI : Elt .i64 51 3 8 := ⟨Try.underlying51, by kernel_rfl, by decide⟩
set_option maxRecDepth 100000 in
theorem hnf48 (f : Fn) (c1 c2 : Array Value) (w : World) : (binOp .eql 48 (.func f c1 c2) .nilFunc).run Try.prog w = .ok (.bool false) w := by
  first | rfl | simp [binOp, run_underlying Try.underlying48] | simp [binOp, Op.equal, run_underlying Try.underlying48, go_sem]

set_option maxRecDepth 100000 in
set_option maxHeartbeats 1000000 in
theorem number_own (n : Nat) (h : n ≤ 127) (w : World) :
    Calls Try.prog 97 #[.int .u64 (n : Int)] w fun r w' => ∃ a' c', r = .returned (.slice a' 1 c') ∧ w'.ownsRow w.heap.size 5 1 (.slice a' 1 c') 1 (iv .u8 [(n : Int)]) ∧ Below w.heap.size w w' := by
  have hi : ¬ (127 : Int) < (n : Int) := by omega
  have hj : (n : Int) ≤ 127 := by omega
  go_enter Try.func97, Try.ntmps97
  go_wp2_with fail
  go_loopw [0, 3] (fun p v wr => p = .int .u64 (n : Int) ∧ v = .slice none 0 0 ∧ wr = w) (fun _ _ _ => 0)
  case atStart => exact ⟨rfl, rfl, rfl⟩
  case round =>
    obtain ⟨rfl, rfl, rfl⟩ := hrel
    go_wp2_with (at_builtin; refine append_ls eltB rfl (.tmp 14) (.tmp 17) rfl wr.heap.size (.slice none 0 0) 0 [] rfl (World.ownsRow_nil _ _ _ _) _ _ 1 [(n : Int)] rfl rfl (ls_new .u8 _ [(n : Int)] _ _ _ rfl 1 rfl) (by omega) (by simp) ?_)
    intro v2 w2 hown2 hgrow2
    have B2 := ((Below.refl wr.heap.size wr).alloc (Nat.le_refl _) _).grown hgrow2 (by simp) (fun j hj => by cases hj)
    have hown3 : w2.ownsRow wr.heap.size 5 1 v2 1 (iv .u8 [(n : Int)]) := hown2
    obtain ⟨a', c', rfl, _, _⟩ := own_ls hown3 rfl
    have HO := Lib.hid hown3
    clear hown2 hgrow2 hown3
    go_wp2_with fail
    go_ret
    exact ⟨a', c', rfl, HO.out, B2⟩
theorem number_law (n : Nat) (h : n ≤ 127) (w : World) :
    Calls Try.prog 97 #[.int .u64 (n : Int)] w fun r w' => ∃ a' c', r = .returned (.slice a' 1 c') ∧ Ls .u8 w' a' c' [(n : Int)] ∧ Below w.heap.size w w' :=
  (number_own n h w).mono fun r w' ⟨a', c', h1, h2, h3⟩ => by
    obtain ⟨a2, c2, e, l2, _⟩ := own_ls h2 rfl
    cases e
    exact ⟨a', c', h1, l2, h3⟩

def wbytesL (b : List Int) : List Int := (b.length : Int) :: b
theorem wbytesL_byt {b : List Int} (h : Byt b) (hl : b.length ≤ 127) : Byt (wbytesL b) := fun x hx => by
  rcases List.mem_cons.1 hx with rfl | hx
  · omega
  · exact h x hx
set_option maxRecDepth 100000 in
set_option maxHeartbeats 1000000 in
theorem wbytes_law (a : Option Addr) (L : List Int) (n cap : Nat) (hL : L.length = n) (hn : n ≤ 127) (w : World) (hA : Ls .u8 w a cap L) :
    Calls Try.prog 60 #[.slice a n cap] w fun r w' => ∃ a' c', r = .returned (.slice a' (n + 1) c') ∧ Ls .u8 w' a' c' (wbytesL L) ∧ Below w.heap.size w w' := by
  have HA := Lib.hid hA
  have HL := Lib.hid hL
  have hni : (n : Int) ≤ 127 := by omega
  clear hA hL
  go_enter Try.func60, Try.ntmps60
  go_wp2_with fail
  refine (number_law n hn _).mono ?_; rintro e w1 ⟨a1, c1, rfl, l1, B1⟩
  go_wp2_with fail
  have hfl : flat [⟨a1, c1, [(n : Int)]⟩, ⟨a, cap, L⟩] = wbytesL L := by simp [flat, wbytesL, HL.out]
  have hlen : (wbytesL L).length = n + 1 := by simp [wbytesL, HL.out]
  have hRR := rdR_new w1 [⟨a1, c1, [(n : Int)]⟩, ⟨a, cap, L⟩] #[.slice a1 1 c1, .slice a n cap] 24 (0, 0) (by simp only [List.map_cons, List.map_nil, P1.v, HL.out]; rfl) (by
    intro p hp
    simp only [List.mem_cons, List.not_mem_nil, or_false] at hp
    rcases hp with rfl | rfl
    · exact l1
    · exact HA.out.below B1)
  have hj := join_law (some ⟨w1.heap.size, 0, none⟩) _ 2 2 rfl (by omega) (by rw [hfl, hlen]; omega) _ hRR
  rw [hfl, hlen] at hj
  have HJ := Lib.hid hj
  clear hj hRR hfl hlen
  refine HJ.out.mono ?_; rintro e w3 ⟨a3, c3, rfl, l3, B3⟩
  have B4 := step_below B1 (step_below ((Below.refl _ _).alloc (Nat.le_refl _) _) B3)
  go_wp2_with fail
  go_ret
  exact ⟨a3, c3, rfl, l3, B4⟩

def manyL (R : List P1) : List Int := (R.map fun p => wbytesL p.bs).flatten
def rbytesL (R : List P1) : List Int := (R.length : Int) :: manyL R
theorem manyL_succ (R : List P1) (k : Nat) (p : P1) (h : R[k]? = some p) : manyL (R.take (k + 1)) = manyL (R.take k) ++ wbytesL p.bs := by
  unfold manyL
  rw [List.take_add_one, h]
  simp
theorem manyL_len (R : List P1) (h : ∀ p ∈ R, p.bs.length ≤ 24) : (manyL R).length ≤ 25 * R.length := by
  induction R with
  | nil => simp [manyL]
  | cons p r ih =>
    have h1 := h p (by simp)
    have h2 := ih fun q hq => h q (by simp [hq])
    simp only [manyL, List.map_cons, List.flatten_cons, List.length_append, wbytesL, List.length_cons] at h2 ⊢
    omega
theorem manyL_take_le (R : List P1) (k : Nat) : (manyL (R.take k)).length ≤ (manyL R).length := by
  have : manyL R = manyL (R.take k) ++ manyL (R.drop k) := by unfold manyL; rw [← List.flatten_append, ← List.map_append, List.take_append_drop]
  rw [this, List.length_append]; omega
set_option maxRecDepth 100000 in
set_option maxHeartbeats 2000000 in
theorem put_law (a : Option Addr) (R : List P1) (n cap : Nat) (hn : R.length = n) (hn3 : n ≤ 3) (hs : ∀ p ∈ R, p.bs.length ≤ 24) (w : World) (hR : RdR w a R) :
    Calls Try.prog 59 #[.slice a n cap, .func (.func 60) #[] #[]] w fun r w' => ∃ a' c', r = .returned (.tuple #[.slice a' (rbytesL R).length c', .int .i64 0]) ∧ Ls .u8 w' a' c' (rbytesL R) ∧ Below w.heap.size w w' := by
  have HR := Lib.hid hR
  have HN := Lib.hid hn
  have HS := Lib.hid hs
  have HT := Lib.hid (manyL_len R hs)
  have hni : (n : Int) ≤ 3 := by omega
  have hnf := hnf48
  clear hR hn hs
  go_enter Try.func59, Try.ntmps59
  go_wp2_with fail
  refine (number_own n (by omega) _).mono ?_; rintro e w1 ⟨a1, c1, rfl, o1, B1⟩
  have O1 : w1.ownsRow w.heap.size 5 1 (.slice a1 1 c1) (1 + (manyL (R.take 0)).length) (iv .u8 ((n : Int) :: manyL (R.take 0))) := o1
  have HO1 := Lib.hid O1
  clear o1 O1
  go_wp2_with fail
  go_loopw [6, 17] (fun v i wr => ∃ k : Nat, k ≤ n ∧ i = .int .i64 k ∧ wr.ownsRow w.heap.size 5 1 v (1 + (manyL (R.take k)).length) (iv .u8 ((n : Int) :: manyL (R.take k))) ∧ Below w.heap.size w wr) (fun _ i _ => n - (intOf i).toNat)
  case atStart => exact ⟨0, by omega, rfl, HO1.out, B1⟩
  case round =>
    clear HO1 B1
    obtain ⟨k, hk, rfl, hown, B⟩ := hrel
    by_cases hlt : k < n
    · have hkl : (k : Int) < (n : Int) := by omega
      obtain ⟨p, hp⟩ : ∃ p, R[k]? = some p := ⟨_, List.getElem?_eq_getElem (by rw [HN.out]; exact hlt)⟩
      obtain ⟨b1, o1, e1, c1, l1⟩ := HR.out.below B k p hp
      subst e1
      have hF2 := manyL_succ R k p hp
      have hle := manyL_take_le R (k + 1)
      have hps := HS.out p (List.mem_of_getElem? hp)
      have hT := HT.out
      rw [HN.out] at hT
      rw [hF2, List.length_append] at hle
      obtain ⟨pa, pc, pb⟩ := p
      simp only at l1 hF2 hle hps
      have c2 : wr.cell? ⟨b1, o1 + k, none⟩ = some (.slice pa pb.length pc) := c1
      obtain ⟨q, hq⟩ : ∃ q, pb.length = q := ⟨_, rfl⟩
      have hwl : (wbytesL pb).length = q + 1 := by rw [← hq]; rfl
      rw [hq] at c2 hps
      obtain ⟨F, hF⟩ : ∃ F, manyL (R.take k) = F := ⟨_, rfl⟩
      rw [hF] at hown hF2 hle
      obtain ⟨m, hm⟩ : ∃ m, F.length = m := ⟨_, rfl⟩
      rw [hm] at hown hle
      rw [hwl] at hle
      have HF2 := Lib.hid hF2
      have HM := Lib.hid hm
      have HQ := Lib.hid hq
      have HWL := Lib.hid hwl
      have HLE := Lib.hid (show m + (q + 1) ≤ 75 by omega)
      have HPS := Lib.hid hps
      have HOWN := Lib.hid hown
      have HL1 := Lib.hid l1
      have hs1 := B.size
      clear c1 hp hF hF2 hm hq hle hown hT hps hwl l1
      go_wp2_with fail
      refine (wbytes_law pa pb q pc HQ.out (by have := HPS.out; omega) _ HL1.out).mono ?_
      rintro e w2 ⟨a2, c3, rfl, l2, B2⟩
      have hown2 : w2.ownsRow w.heap.size 5 1 _ (1 + m) (iv .u8 ((n : Int) :: F)) := own_kept HOWN.out B2
      have B3 := step_below B B2
      have hs2 := B3.size
      have HO2 := Lib.hid hown2
      clear hown2 HOWN B B2 c2
      go_wp2_with (at_builtin; refine append_ls eltB rfl (.tmp 21) (.tmp 24) rfl w.heap.size _ (1 + m) (iv .u8 ((n : Int) :: F)) rfl HO2.out _ _ (q + 1) (wbytesL pb) HWL.out rfl l2 (by have := HLE.out; omega) hs2 ?_)
      intro v2 w3 hown3 hgrow3
      rw [← iv_append] at hown3
      have B4 := B3.grown hgrow3 hs2 (fun j hj => (HO2.out.lt j hj).1)
      have HOWN3 := Lib.hid hown3
      clear hown3 hgrow3
      go_wp2_with fail
      go_roundw
      case rel => exact ⟨k + 1, by omega, by go_num, by rw [HF2.out, List.length_append, HM.out, HWL.out, ← Nat.add_assoc]; exact HOWN3.out, B4⟩
      case measure => simp [intOf]; omega
    · have hkl : ¬ (k : Int) < (n : Int) := by omega
      have e : k = n := by omega
      subst e
      rw [List.take_of_length_le (by rw [HN.out]; exact Nat.le_refl _)] at hown
      have hrl : (k : Int) :: manyL R = rbytesL R := by rw [rbytesL, HN.out]
      have hrn : 1 + (manyL R).length = (rbytesL R).length := by rw [← hrl, List.length_cons]; omega
      rw [hrl, hrn] at hown
      obtain ⟨a', c', rfl, l', _⟩ := own_ls hown rfl
      obtain ⟨m, hm⟩ : ∃ m, (rbytesL R).length = m := ⟨_, rfl⟩
      rw [hm]
      have HM := Lib.hid hm
      clear hown hrl hrn hm
      go_wp2_with fail
      go_ret2
      exact ⟨a', c', by rw [HM.out]; rfl, l', B⟩

def allB (R : List P1) : Bool := R.all fun p => decide (p.bs.length ≤ 24)
theorem allB_iff (R : List P1) : allB R = true ↔ ∀ p ∈ R, p.bs.length ≤ 24 := by simp [allB]
theorem allB_not {R : List P1} {k : Nat} {p : P1} (h : R[k]? = some p) (hp : ¬ p.bs.length ≤ 24) : allB R = false := by
  cases hb : allB R
  · rfl
  · exact absurd ((allB_iff R).1 hb p (List.mem_of_getElem? h)) hp
theorem may1_law (i : Int) (a : Option Addr) (n cap : Nat) (w : World) : Calls Try.prog 67 #[.int .i64 i, .slice a n cap] w fun r w' => r = .returned (.tuple #[.int .i64 0, .bool (decide (n ≤ 24))]) ∧ w = w' := by
  have h := mayfield_law a n cap w
  go_enter Try.func67, Try.ntmps67
  go_wp2_with fail
  refine h.mono ?_; rintro e w' ⟨rfl, rfl⟩
  go_wp2_with fail
  go_ret2
  exact ⟨rfl, rfl⟩
set_option maxRecDepth 100000 in
set_option maxHeartbeats 2000000 in
theorem eachmay_law (a : Option Addr) (R : List P1) (n cap : Nat) (hn : R.length = n) (hn3 : n ≤ 1000000) (w : World) (hR : RdR w a R) :
    Calls Try.prog 66 #[.slice a n cap, .func (.func 67) #[] #[]] w fun r w' => (∃ v, r = .returned (.tuple #[v, .bool (allB R)])) ∧ Below w.heap.size w w' := by
  have HR := Lib.hid hR
  have HN := Lib.hid hn
  clear hR hn
  go_enter Try.func66, Try.ntmps66
  go_wp2_with fail
  go_loopw [6, 13] (fun v i wr => ∃ k : Nat, k ≤ n ∧ i = .int .i64 k ∧ wr.ownsRow w.heap.size 3 1 v k (iv .i64 (List.replicate k 0)) ∧ (∀ j < k, ∀ p, R[j]? = some p → p.bs.length ≤ 24) ∧ Below w.heap.size w wr) (fun _ i _ => n - (intOf i).toNat)
  case atStart => exact ⟨0, by omega, rfl, World.ownsRow_nil _ _ _ _, fun j hj => absurd hj (by omega), Below.refl _ _⟩
  case round =>
    obtain ⟨k, hk, rfl, hown, hpre, B⟩ := hrel
    have HP := Lib.hid hpre
    clear hpre
    by_cases hlt : k < n
    · have hkl : (k : Int) < (n : Int) := by omega
      obtain ⟨p, hp⟩ : ∃ p, R[k]? = some p := ⟨_, List.getElem?_eq_getElem (by rw [HN.out]; exact hlt)⟩
      obtain ⟨b1, o1, e1, c1, l1⟩ := HR.out.below B k p hp
      subst e1
      have c2 : wr.cell? ⟨b1, o1 + k, none⟩ = some (.slice p.ad p.bs.length p.cap) := c1
      have HPP := Lib.hid hp
      obtain ⟨q, hq⟩ : ∃ q, p.bs.length = q := ⟨_, rfl⟩
      rw [hq] at c2
      have HQ := Lib.hid hq
      have hs1 := B.size
      clear c1 hp hq l1
      by_cases hle : q ≤ 24
      · have h1 := may1_law (k : Int) p.ad q p.cap wr
        rw [decide_eq_true hle] at h1
        have H1 := Lib.hid h1
        have HLE := Lib.hid hle
        have HOWN := Lib.hid hown
        clear h1 hle hown
        go_wp2_with fail
        refine H1.out.mono ?_; rintro e w' ⟨rfl, rfl⟩
        go_wp2_with (at_builtin; refine append_ls eltI rfl (.tmp 28) (.tmp 30) rfl w.heap.size _ k (iv .i64 (List.replicate k 0)) rfl (HOWN.out.alloc _) _ _ 1 [0] rfl rfl (ls_new .i64 _ [0] _ _ _ rfl 1 rfl) (by omega) (by simp; omega) ?_)
        intro v2 w3 hown3 hgrow3
        rw [← iv_append, show List.replicate k (0 : Int) ++ [0] = List.replicate (k + 1) 0 from (List.replicate_succ' ..).symm] at hown3
        have B4 := (B.alloc hs1 _).grown hgrow3 (by simp; omega) (fun j hj => (HOWN.out.lt j hj).1)
        have HOWN3 := Lib.hid hown3
        clear hown3 hgrow3
        go_wp2_with fail
        go_roundw
        case rel => exact ⟨k + 1, by omega, by go_num, HOWN3.out, jstep HP.out (fun p' hp' => by have := HPP.out; rw [hp'] at this; cases this; rw [HQ.out]; exact HLE.out), B4⟩
        case measure => simp [intOf]; omega
      · have h1 := may1_law (k : Int) p.ad q p.cap wr
        rw [decide_eq_false hle] at h1
        have H1 := Lib.hid h1
        have HA := Lib.hid (allB_not HPP.out (by rw [HQ.out]; exact hle))
        clear h1 hle hown
        go_wp2_with fail
        refine H1.out.mono ?_; rintro e w' ⟨rfl, rfl⟩
        go_wp2_with fail
        go_ret2
        exact ⟨⟨_, by rw [HA.out]; rfl⟩, B⟩
    · have hkl : ¬ (k : Int) < (n : Int) := by omega
      have HA := Lib.hid (show allB R = true from (allB_iff R).2 fun p hp => by
        obtain ⟨j, hj, e⟩ := List.mem_iff_getElem.1 hp
        exact HP.out j (by have := HN.out; omega) p (by rw [List.getElem?_eq_getElem hj, e]))
      clear hown
      go_wp2_with fail
      go_ret2
      exact ⟨⟨_, by rw [HA.out]; rfl⟩, B⟩
def mayR (R : List P1) : Bool := allB R && decide (1 ≤ R.length ∧ R.length ≤ 3)
set_option maxRecDepth 100000 in
set_option maxHeartbeats 1000000 in
theorem mayr_law (a : Option Addr) (R : List P1) (n cap : Nat) (hn : R.length = n) (hn3 : n ≤ 1000000) (w : World) (hR : RdR w a R) :
    Calls Try.prog 18 #[.slice a n cap] w fun r w' => r = .returned (.bool (mayR R)) ∧ Below w.heap.size w w' := by
  have h := eachmay_law a R n cap hn hn3 w hR
  have H := Lib.hid h
  unfold mayR
  rw [hn]
  clear h
  cases hb : allB R
  · rw [hb] at H
    clear hb
    go_enter Try.func18, Try.ntmps18
    go_wp2_with fail
    refine H.out.mono ?_; rintro e w' ⟨⟨v, rfl⟩, B⟩
    go_wp2_with fail
    go_ret
    exact ⟨rfl, B⟩
  · rw [hb] at H
    clear hb
    rcases (show n < 1 ∨ (1 ≤ n ∧ n ≤ 3) ∨ (1 ≤ n ∧ ¬ n ≤ 3) by omega) with q | ⟨q1, q2⟩ | ⟨q1, q2⟩
    · rw [decide_eq_false (by omega)]
      have hi : ¬ (1 : Int) ≤ (n : Int) := by omega
      go_enter Try.func18, Try.ntmps18
      go_wp2_with fail
      refine H.out.mono ?_; rintro e w' ⟨⟨v, rfl⟩, B⟩
      go_wp2_with fail
      go_ret
      exact ⟨rfl, B⟩
    · rw [decide_eq_true (by omega)]
      have hi : (1 : Int) ≤ (n : Int) := by omega
      have hj : (n : Int) ≤ 3 := by omega
      go_enter Try.func18, Try.ntmps18
      go_wp2_with fail
      refine H.out.mono ?_; rintro e w' ⟨⟨v, rfl⟩, B⟩
      go_wp2_with fail
      go_ret
      exact ⟨rfl, B⟩
    · rw [decide_eq_false (by omega)]
      have hi : (1 : Int) ≤ (n : Int) := by omega
      have hj : ¬ (n : Int) ≤ 3 := by omega
      go_enter Try.func18, Try.ntmps18
      go_wp2_with fail
      refine H.out.mono ?_; rintro e w' ⟨⟨v, rfl⟩, B⟩
      go_wp2_with fail
      go_ret
      exact ⟨ret_bool (by simp; omega), B⟩
set_option maxRecDepth 100000 in
set_option maxHeartbeats 1000000 in
theorem bytes_bad (a : Option Addr) (R : List P1) (n cap : Nat) (hn : R.length = n) (hn3 : n ≤ 1000000) (hm : mayR R = false) (w : World) (hR : RdR w a R) :
    Calls Try.prog 15 #[.slice a n cap] w fun r w' => r = .returned (.tuple #[.slice none 0 0, .int .i64 2]) ∧ Below w.heap.size w w' := by
  have h := mayr_law a R n cap hn hn3 w hR
  rw [hm] at h
  have H := Lib.hid h
  clear h hm hn
  go_enter Try.func15, Try.ntmps15
  go_wp2_with fail
  refine H.out.mono ?_; rintro e w' ⟨rfl, B⟩
  go_wp2_with fail
  go_ret2
  exact ⟨rfl, B⟩
theorem mayR_iff (R : List P1) : mayR R = true ↔ (∀ p ∈ R, p.bs.length ≤ 24) ∧ 1 ≤ R.length ∧ R.length ≤ 3 := by
  rw [mayR, Bool.and_eq_true, allB_iff, decide_eq_true_eq]
set_option maxRecDepth 100000 in
set_option maxHeartbeats 1000000 in
theorem bytes_ok (a : Option Addr) (R : List P1) (n cap : Nat) (hn : R.length = n) (hm : mayR R = true) (w : World) (hR : RdR w a R) :
    Calls Try.prog 15 #[.slice a n cap] w fun r w' => ∃ a' c', r = .returned (.tuple #[.slice a' (rbytesL R).length c', .int .i64 0]) ∧ Ls .u8 w' a' c' (rbytesL R) ∧ Below w.heap.size w w' := by
  obtain ⟨h1, h2, h3⟩ := (mayR_iff R).1 hm
  have h := mayr_law a R n cap hn (by omega) w hR
  rw [hm] at h
  have H := Lib.hid h
  have HP := Lib.hid (fun W b => put_law a R n cap hn (by omega) h1 W (hR.below b))
  clear h hm hn h1 h2 h3 hR
  obtain ⟨m, hm⟩ : ∃ m, (rbytesL R).length = m := ⟨_, rfl⟩
  rw [hm] at HP ⊢
  clear hm
  go_enter Try.func15, Try.ntmps15
  go_wp2_with fail
  refine H.out.mono ?_; rintro e w' ⟨rfl, B⟩
  go_wp2_with fail
  refine (HP.out _ B).mono ?_; rintro e w2 ⟨a', c', rfl, l', B2⟩
  go_wp2_with fail
  go_ret2
  exact ⟨a', c', rfl, l', step_below B B2⟩
end Go.Proofs.Ytkgcbhpgkcfkhaa
