/- The free places, and cutting, each by a contract. -/
import Derived.Test.YtochdmdojcfceaaLst
import Derived.StillTailTactics
namespace Go.Proofs.Ytochdmdojcfceaa
open Go.ChangeShapes Go.WideShapes Go.ChangeAt Go.RowKit Go.Shelf
open PM
set_option linter.unusedVariables false
set_option linter.unusedSimpArgs false

def frV (n : Nat) (l : List Nat) : List Nat := if okB l = true then l.drop n else []
theorem drop_take_succ (l : List Nat) (n m : Nat) (h : n + m < l.length) : (l.drop n).take (m + 1) = (l.drop n).take m ++ [l.getD (n + m) 0] := by
  have hd : m < (l.drop n).length := by simp; omega
  rw [List.take_succ_eq_append_getElem hd]
  congr 2
  simp [List.getD, List.getElem?_eq_getElem h]
set_option maxHeartbeats 1000000 in
theorem free_rd (n : Nat) (l f : List Nat) (hf : frV n l = f) (h : Wrd n l) (w : World) :
    Calls Try.prog 20 #[.int .u64 ((enc (n :: l) : Nat) : Int)] w fun e w' => ∃ a cap, e = .returned (.slice a f.length cap) ∧ f.length ≤ cap ∧ Rd w' a (ints f) ∧ (0 < f.length → ∃ g, a = some ⟨g, 0, none⟩) ∧ Below w.heap.size w w' := by
  have hlen := h.len
  have h16 := h.n16
  have HW := Lib.hid h
  obtain ⟨i0, hi, hz0, hz1, hz2⟩ := info_parts info3
  cases ho : okB l
  · have e0 : f = [] := by rw [← hf]; unfold frV; rw [ho]; rfl
    subst e0
    clear hf h
    go_enter Try.func20, Try.ntmps20
    go_wp2_with fail
    refine (may_law n l HW.out _).mono ?_; rintro e w' ⟨rfl, B⟩
    rw [ho]
    go_wp2_with fail
    go_ret
    exact ⟨_, _, rfl, Nat.le_refl _, Rd.nil _ _, fun hh => absurd hh (by simp), B⟩
  · have e0 : f = l.drop n := by rw [← hf]; unfold frV; rw [ho]; rfl
    have hc : cV n l = n := by unfold cV; rw [if_pos ho]
    have HC := Lib.hid hc
    have HE := Lib.hid e0
    have hfl : f.length = 15 - n := by rw [e0]; simp [hlen]
    have HFL := Lib.hid hfl
    clear hf h hc e0 hfl
    go_enter Try.func20, Try.ntmps20
    go_wp2_with fail
    refine (may_law n l HW.out _).mono ?_; rintro e w1 ⟨rfl, B⟩
    rw [ho]
    go_wp2_with fail
    refine (count_law n l HW.out _).mono ?_; rintro e w2 ⟨rfl, B2⟩
    rw [HC.out]
    replace B := step_below B B2
    clear B2
    go_wp2_with fail
    go_loopw [3, 4] (fun v i wr => ∃ k : Nat, n + k ≤ 15 ∧ i = .int .i64 ((n + k : Nat) : Int) ∧ wr.ownsRow w.heap.size 3 1 v k (iv ((l.drop n).take k)) ∧ Below w.heap.size w wr) (fun _ i _ => 15 - (intOf i).toNat)
    case atStart => exact ⟨0, by omega, rfl, by simpa [iv] using World.ownsRow_nil w2 w.heap.size 3 1, B⟩
    case round =>
      clear B
      obtain ⟨k, hk, rfl, hown, B⟩ := hrel
      by_cases hlt : n + k < 15
      · obtain ⟨m, hm⟩ : ∃ m, n + k = m := ⟨_, rfl⟩
        have HT := Lib.hid (drop_take_succ l n k (by omega))
        have HM := Lib.hid hm
        rw [hm] at hlt hk ⊢
        clear hm
        have hml : (m : Int) < 15 := by omega
        have hs1 := B.size
        obtain ⟨x, hx⟩ : ∃ x, l.getD m 0 = x := ⟨_, rfl⟩
        have hat := Lib.hid (at_law n l m HW.out hlt wr)
        rw [hx] at hat
        have HX := Lib.hid hx
        have HKK := Lib.hid (show k < 15 by have := HM.out; omega)
        clear hx
        go_wp2_with fail
        refine hat.out.mono ?_; rintro e w' ⟨rfl, rfl⟩
        go_wp2_with (at_builtin; refine wpList_append_own _ rfl _ _ 23 rfl w.heap.size 3 i0 (.int .i64 0) 1 8 Try.underlying23 hi hz0 hz1 hz2 rfl (by decide) _ _ _ rfl (hown.alloc _) ⟨wr.heap.size, 0, none⟩ 1 1 [.int .i64 (x : Int)] rfl rfl (by intro j u hj; match j, hj with | 0, hj => (simp at hj; subst hj; simp [Addr.add, go_sem])) (by intro u hu; simp at hu; subst hu; rfl) (by have := HKK.out; unfold maxLen; omega) (by have := HKK.out; omega) (by simp; omega) ?_)
        intro v' w3 hown' hgrow _
        have hB3 : Below w.heap.size w w3 := (B.alloc hs1 _).grown hgrow (by simp; omega) (fun j hj => (hown.lt j hj).1)
        have hown2 : w3.ownsRow w.heap.size 3 1 v' (k + 1) (iv ((l.drop n).take (k + 1))) := by
          rw [HT.out, HM.out, HX.out, iv_snoc]; exact hown'
        clear hown' hgrow hown B hat
        go_wp2_with fail
        go_roundw
        case rel => exact ⟨k + 1, by have := HM.out; omega, by have := HM.out; go_num, hown2, hB3⟩
        case measure => simp [intOf]; omega
      · obtain ⟨m, hm⟩ : ∃ m, n + k = m := ⟨_, rfl⟩
        rw [List.take_of_length_le (by simp; omega), ← HE.out] at hown
        obtain ⟨a, cap, rfl, h2, h3, h4⟩ := own_rd hown (by rw [HFL.out]; omega)
        have HR := Lib.hid h3
        have H4 := Lib.hid h4
        have HK := Lib.hid (show k = f.length by rw [HFL.out]; omega)
        rw [hm] at hlt ⊢
        have hml : ¬ (m : Int) < 15 := by omega
        clear hown h3 h4 hm
        go_wp2_with fail
        go_ret
        have hk := HK.out
        subst hk
        exact ⟨a, cap, rfl, h2, HR.out, H4.out, B⟩

def cutV (n : Nat) (l : List Nat) (k : Int) : Nat × List Nat × Int := if okB l = true ∧ 0 ≤ k ∧ k ≤ n then (enc (k.toNat :: l), (usV n l).drop k.toNat, 0) else (0, [], 2)
theorem cut_bits (n k : Nat) (l : List Nat) (h : Wrd n l) (hk : k < 16) : bits .or .u64 (bits .andNot .u64 ((enc (n :: l) : Nat) : Int) 15) (IntKind.u64.wrap (k : Int)) = ((enc (k :: l) : Nat) : Int) := by
  have hp := h.lt
  rw [show IntKind.u64.wrap (k : Int) = (k : Int) from by rw [IntKind.wrap_u64]; omega]
  have e : bits .andNot .u64 ((enc (n :: l) : Nat) : Int) 15 = ((enc (n :: l) / 16 * 16 : Nat) : Int) := by
    rw [show (15 : Int) = ((15 : Nat) : Int) from rfl, u64_andNot_nat _ _ hp (by omega)]
    have := nat_high (enc (n :: l)) 4 hp (by omega)
    exact congrArg Int.ofNat this
  rw [e, u64_plus 1 _ _ (by omega) (by omega) (by omega) (by rw [Nat.pow_one]; exact Nat.mul_mod_left _ _), h.shr]
  rw [enc]; congr 1; omega
def mySl (a : Option Addr) (m len cap : Nat) : Value := sliced a m len cap 1
theorem run_mySl (a : Option Addr) (m len cap : Nat) (W : World) (h : m ≤ len) : (Instr.slice 23 (.slice a len cap) (some (.int .i64 (m : Int))) none none).run Try.prog W = .ok (mySl a m len cap) W := by
  rw [run_slice_l (P := Try.prog) (w := W) 23 a len cap (by kernel_rfl) .i64 m (by omega) (by omega)]
  rfl
theorem mySl_rd (W : World) (a : Option Addr) (m cap : Nat) (u c : List Nat) (h : Rd W a (ints u)) (hs : 0 < u.length → ∃ g, a = some ⟨g, 0, none⟩) (hc : c = u.drop m) (hcap : u.length ≤ cap) : ∃ a' cap', mySl a m u.length cap = .slice a' c.length cap' ∧ Rd W a' (ints c) := by
  have hl : c.length = u.length - m := by rw [hc]; simp
  refine ⟨_, _, by rw [hl]; rfl, ?_⟩
  by_cases hz : c.length = 0
  · have : c = [] := List.length_eq_zero_iff.1 hz
    rw [this]; exact Rd.nil _ _
  · obtain ⟨g, rfl⟩ := hs (by omega)
    have hd := h.drop m
    have e : (ints u).drop m = ints c := by rw [hc]; unfold ints; rw [List.map_drop]
    rw [e] at hd
    rw [if_neg (show ¬ cap = m by omega)]
    by_cases hm0 : m = 0
    · subst hm0; simpa [Addr.add] using hd
    · simpa [Addr.add, hm0] using hd
set_option maxHeartbeats 1000000 in
theorem cut_at (n : Nat) (l c : List Nat) (k : Int) (q : Nat) (er : Int) (hv : cutV n l k = (q, c, er)) (h : Wrd n l) (w : World) :
    Calls Try.prog 29 #[.int .u64 ((enc (n :: l) : Nat) : Int), .int .i64 k] w fun e w' => ∃ a cap, e = .returned (.tuple #[.int .u64 (q : Nat), .slice a c.length cap, .int .i64 er]) ∧ Rd w' a (ints c) ∧ Below w.heap.size w w' := by
  have hlen := h.len
  have h16 := h.n16
  have HW := Lib.hid h
  have HV := Lib.hid hv
  clear hv
  by_cases hg : okB l = true ∧ 0 ≤ k ∧ k ≤ n
  · obtain ⟨ho, h0, hn⟩ := hg
    obtain ⟨m, rfl⟩ : ∃ m : Nat, k = m := ⟨k.toNat, by omega⟩
    have hc : cV n l = n := by unfold cV; rw [if_pos ho]
    have hv : cutV n l m = (enc (m :: l), (usV n l).drop m, 0) := by unfold cutV; rw [if_pos ⟨ho, h0, hn⟩]; simp
    rw [HV.out] at hv
    simp only [Prod.mk.injEq] at hv
    obtain ⟨hq, hcc, rfl⟩ := hv
    have hbits := cut_bits n m l h (by omega)
    rw [← hq] at hbits
    have hul := usV_length n l
    rw [hc] at hul
    obtain ⟨u, hu⟩ : ∃ u, usV n l = u := ⟨_, rfl⟩
    rw [hu] at hcc hul
    have HU := Lib.hid hu
    have HUL := Lib.hid hul
    have HCC := Lib.hid hcc
    have HB := Lib.hid hbits
    have HC := Lib.hid hc
    have hm16 : (m : Int) < 16 := by omega
    have hp := h.lt
    have hcl := Lib.hid (show c.length = n - m by rw [hcc]; simp [hul])
    clear HV h hc hq hbits hul hcc hu hp
    go_enter Try.func29, Try.ntmps29
    go_wp2_with fail
    refine (may_law n l HW.out _).mono ?_; rintro e w1 ⟨rfl, B⟩
    rw [ho]
    go_wp2_with fail
    refine (count_law n l HW.out _).mono ?_; rintro e w2 ⟨rfl, B2⟩
    rw [HC.out]
    replace B := step_below B B2
    clear B2
    go_wp2_with fail
    have hmx : Try.prog.follows .mixedOrders = true := by kernel_rfl
    have hsl : ∀ (a : Option Addr) (cap : Nat) (W : World), (Instr.slice 23 (.slice a u.length cap) (some (.int .i64 (m : Int))) none none).run Try.prog W = .ok (mySl a m u.length cap) W := fun a cap W => by
      have := HUL.out
      exact run_mySl a m u.length cap W (by omega)
    go_region_held3 (fun W => Below w.heap.size w W)
      (first | (exact B.drew) | (exact step_below ‹_› B4))
      (first | (go_at_call 19; refine (used_rd n l u HU.out HW.out _).mono ?_; rintro e W4 ⟨a, cap, rfl, hcap, hrd, hsome, hnone, B4⟩))
    obtain ⟨ra, rc, re, rd⟩ := mySl_rd _ a m cap u c hrd hsome HCC.out hcap
    rw [re]
    have RD := Lib.hid rd
    clear re rd hrd
    go_wp2_with fail
    go_ret3
    refine ⟨ra, rc, ?_, RD.out, ‹_›⟩
    rw [HB.out]
    rfl
  · have hv : cutV n l k = (0, [], 2) := by unfold cutV; rw [if_neg hg]
    rw [HV.out] at hv
    simp only [Prod.mk.injEq] at hv
    obtain ⟨rfl, rfl, rfl⟩ := hv
    clear HV
    cases ho : okB l
    · clear hg
      go_enter Try.func29, Try.ntmps29
      go_wp2_with fail
      refine (may_law n l HW.out _).mono ?_; rintro e w1 ⟨rfl, B⟩
      rw [ho]
      go_wp2_with fail
      go_ret3
      exact ⟨_, _, rfl, Rd.nil _ _, B⟩
    · have hc : cV n l = n := by unfold cV; rw [if_pos ho]
      have HC := Lib.hid hc
      clear hc h
      rcases (show k < 0 ∨ (¬ k < 0 ∧ n < k) from by
        apply Decidable.byContradiction; intro hh; exact hg ⟨ho, by omega, by omega⟩) with q | ⟨q1, q⟩
      · clear hg
        go_enter Try.func29, Try.ntmps29
        go_wp2_with fail
        refine (may_law n l HW.out _).mono ?_; rintro e w1 ⟨rfl, B⟩
        rw [ho]
        go_wp2_with fail
        go_ret3
        exact ⟨_, _, rfl, Rd.nil _ _, B⟩
      · clear hg
        go_enter Try.func29, Try.ntmps29
        go_wp2_with fail
        refine (may_law n l HW.out _).mono ?_; rintro e w1 ⟨rfl, B⟩
        rw [ho]
        go_wp2_with fail
        refine (count_law n l HW.out _).mono ?_; rintro e w2 ⟨rfl, B2⟩
        rw [HC.out]
        go_wp2_with fail
        go_ret3
        exact ⟨_, _, rfl, Rd.nil _ _, step_below B B2⟩
end Go.Proofs.Ytochdmdojcfceaa
