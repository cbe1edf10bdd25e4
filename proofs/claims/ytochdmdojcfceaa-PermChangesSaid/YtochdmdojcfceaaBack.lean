/- Places that may be the perm has just these used: the law's walk. -/
import Derived.Test.YtochdmdojcfceaaFacts
namespace Go.Proofs.Ytochdmdojcfceaa
open Go.ChangeShapes Go.WideShapes Go.ChangeAt Go.RowKit Go.Shelf
open PM
set_option linter.unusedVariables false
set_option linter.unusedSimpArgs false

theorem may_at (n : Nat) (l : List Nat) (b : Bool) (hb : okB l = b) (h : Wrd n l) (w : World) :
    Calls Try.prog 16 #[.int .u64 ((enc (n :: l) : Nat) : Int)] w fun e w' => e = .returned (.bool b) ∧ Below w.heap.size w w' := by
  subst hb; exact may_law n l h w
theorem count_at (n : Nat) (l : List Nat) (c : Nat) (hc : cV n l = c) (h : Wrd n l) (w : World) :
    Calls Try.prog 17 #[.int .u64 ((enc (n :: l) : Nat) : Int)] w fun e w' => e = .returned (.int .i64 (c : Nat)) ∧ Below w.heap.size w w' := by
  subst hc; exact count_law n l h w
theorem same_at (a b : Option Addr) (La Lb : List Int) (n ca cb : Nat) (he : La = Lb) (hn : Lb.length = n) (hl : n ≤ 1048576) (w : World) (hA : Rd w a La) (hB : Rd w b Lb) :
    Calls Try.prog 18 #[.slice a n ca, .slice b n cb] w fun e w' => e = .returned (.bool true) ∧ Below w.heap.size w w' := by
  subst he; exact same_true a b La n ca cb hn hl w hA hB

set_option maxRecDepth 100000 in
set_option maxHeartbeats 1000000 in
theorem back_long (a : Option Addr) (n cap : Nat) (h : 2000 < n) (w : World) :
    Calls Try.prog 6 #[.slice a n cap] w fun e w' => e = .returned (.bool true) ∧ Below w.heap.size w w' := by
  have h1i : 2000 < (n : Int) := by omega
  go_enter Try.func6, Try.ntmps6
  go_wp2_with fail
  refine (known_law _).mono ?_; rintro e W9 ⟨rfl, B9⟩
  go_wp2
  go_ret
  exact ⟨rfl, B9⟩

theorem of_bad (a : Option Addr) (L : List Int) (n cap : Nat) (hn : L.length = n) (hL : n ≤ 1048576) (ho : okI L = false) (w : World) (hR : Rd w a L) :
    Calls Try.prog 14 #[.slice a n cap] w fun e w' => e = .returned (.tuple #[.int .u64 0, .int .i64 2]) ∧ Below w.heap.size w w' := by
  subst hn
  have := of_law a L cap hL w hR
  rwa [show ofV L = (0, 2) from by unfold ofV; rw [ho]; rfl] at this
theorem of_good (a : Option Addr) (L : List Int) (n cap : Nat) (l : List Nat) (hn : L.length = n) (hL : n ≤ 1048576) (ho : okI L = true) (hl : nats L ++ rest (nats L) 15 = l) (w : World) (hR : Rd w a L) :
    Calls Try.prog 14 #[.slice a n cap] w fun e w' => e = .returned (.tuple #[.int .u64 ((enc (n :: l) : Nat) : Int), .int .i64 0]) ∧ Below w.heap.size w w' := by
  subst hn hl
  have := of_law a L cap hL w hR
  rwa [show ofV L = (enc (L.length :: (nats L ++ rest (nats L) 15)), 0) from by unfold ofV; rw [ho]; rfl] at this

theorem ints_nats {L : List Int} (h : okI L = true) : ints (nats L) = L := by
  unfold ints nats
  rw [List.map_map]
  refine (List.map_congr_left fun x hx => ?_).trans (List.map_id L)
  obtain ⟨i, hi, rfl⟩ := List.getElem_of_mem hx
  have := ((okI_iff L).1 h).2 i hi
  simp only [List.getD, List.getElem?_eq_getElem hi, Option.getD_some] at this
  simp only [Function.comp_apply, id_eq]
  omega
theorem rest_sorted (m : List Nat) : ∀ i, 0 < i → i < (rest m 15).length → (rest m 15).getD (i - 1) 0 < (rest m 15).getD i 0 := fun i h0 hi => by
  have hs : (rest m 15).Pairwise (· < ·) := List.Pairwise.filter _ List.pairwise_lt_range
  rw [List.pairwise_iff_getElem] at hs
  have := hs (i - 1) i (by omega) hi (by omega)
  simpa [List.getD, List.getElem?_eq_getElem hi, List.getElem?_eq_getElem (show i - 1 < (rest m 15).length by omega)] using this
theorem back_ok {L : List Int} (h : okI L = true) : okB (nats L ++ rest (nats L) 15) = true := by
  have hg := okI_good h
  refine okB_of (of_wrd h) (fun x hx => ?_) ?_
  · rcases List.mem_append.1 hx with hx | hx
    · exact hg.lt x hx
    · have := (List.mem_filter.1 hx).1; exact List.mem_range.1 this
  · rw [List.nodup_append]
    refine ⟨hg.nodup, List.Pairwise.filter _ List.nodup_range, fun x hx y hy e => ?_⟩
    subst e
    have := (List.mem_filter.1 hy).2
    simp at this
    exact this hx

set_option maxRecDepth 100000 in
set_option maxHeartbeats 4000000 in
theorem back_short (a : Option Addr) (L : List Int) (n cap : Nat) (hn : L.length = n) (h : n ≤ 2000) (w : World) (hR : Rd w a L) :
    Calls Try.prog 6 #[.slice a n cap] w fun e w' => e = .returned (.bool true) ∧ Below w.heap.size w w' := by
  have h1i : ¬ 2000 < (n : Int) := by omega
  have HR := Lib.hid hR
  have HN := Lib.hid hn
  clear hR hn
  cases ho : okI L
  · have HO := Lib.hid ho
    clear ho
    go_enter Try.func6, Try.ntmps6
    go_wp2_with fail
    refine (of_bad a L n cap HN.out (by omega) HO.out w HR.out).mono ?_; rintro e W1 ⟨rfl, B1⟩
    go_wp2_with fail
    refine (num_law _ _).mono ?_; rintro e w' ⟨rfl, rfl⟩
    go_wp2_with fail
    refine (known_law _).mono ?_; rintro e W9 ⟨rfl, B9⟩
    go_wp2
    go_ret
    exact ⟨rfl, step_below B1 B9⟩
  · have hw := of_wrd ho
    have hok := back_ok ho
    have h15 : n ≤ 15 := by have := ((okI_iff L).1 ho).1; have := HN.out; omega
    obtain ⟨l, hl⟩ : ∃ l, nats L ++ rest (nats L) 15 = l := ⟨_, rfl⟩
    have hg := okI_good ho
    have hfl := hg.length
    rw [nats_length, HN.out] at hfl
    rw [hl, HN.out] at hw
    rw [hl] at hok
    have hc : cV n l = n := by unfold cV; rw [if_pos hok]
    have hu : usV n l = nats L := by
      rw [usV_take n l hw, hc, ← hl, List.take_left' (by rw [nats_length, HN.out])]
    have hf : frV n l = rest (nats L) 15 := by
      unfold frV; rw [if_pos hok, ← hl, List.drop_left' (by rw [nats_length, HN.out])]
    have hcut : cutV n l n = (enc (n :: l), [], 0) := by
      unfold cutV
      rw [if_pos ⟨hok, by omega, by omega⟩, hu, Int.toNat_natCast, List.drop_of_length_le (by rw [nats_length, HN.out]; omega)]
    obtain ⟨f, hfe⟩ : ∃ f, rest (nats L) 15 = f := ⟨_, rfl⟩
    have hsort := rest_sorted (nats L)
    rw [hfe] at hf hfl hsort
    have HW := Lib.hid hw
    have HK := Lib.hid hok
    have HC := Lib.hid hc
    have HU := Lib.hid hu
    have HF := Lib.hid hf
    have HCUT := Lib.hid hcut
    have HL := Lib.hid hl
    have HS := Lib.hid hsort
    have HO := Lib.hid ho
    obtain ⟨m, hm⟩ : ∃ m, f.length = m := ⟨_, rfl⟩
    rw [hm] at hfl
    have HM := Lib.hid hm
    have HFL := Lib.hid hfl
    have hmi : (m : Int) = 15 - (n : Int) := by omega
    have HMI := Lib.hid hmi
    have hm15 : (m : Int) ≤ 15 := by omega
    obtain ⟨p, hp⟩ : ∃ p, ((enc (n :: l) : Nat) : Int) = p := ⟨_, rfl⟩
    have c_of := Lib.hid (of_good a L n cap l HN.out (by omega) HO.out HL.out w HR.out)
    have c_free := Lib.hid (fun w => free_rd n l f HF.out HW.out w)
    have c_cut := Lib.hid (fun w => cut_at n l [] n _ 0 HCUT.out HW.out w)
    have c_may := Lib.hid (fun w => may_at n l true HK.out HW.out w)
    have c_cnt := Lib.hid (fun w => count_at n l n HC.out HW.out w)
    have c_used := Lib.hid (fun w => used_rd n l _ HU.out HW.out w)
    rw [hp] at c_of c_free c_cut c_may c_cnt c_used
    rw [hm] at c_free
    rw [show (nats L).length = n by rw [nats_length, HN.out]] at c_used
    clear hw hok hc hu hf hcut hl hsort ho hfe hg hfl hm hmi hp
    go_enter Try.func6, Try.ntmps6
    go_wp2_with fail
    refine c_of.out.mono ?_; rintro e W1 ⟨rfl, B1⟩
    go_wp2_with fail
    refine (num_law _ _).mono ?_; rintro e w' ⟨rfl, rfl⟩
    go_wp2_with fail
    refine (c_free.out _).mono ?_; rintro e W2 ⟨fa, fc, rfl, hfc, hfr, _, B2⟩
    replace B2 := step_below B1 B2
    have HFR := Lib.hid hfr
    clear B1 hfr
    go_wp2_with fail
    go_loopw [6] (fun i wr => ∃ k : Nat, 1 ≤ k ∧ i = .int .i64 k ∧ Below W2.heap.size W2 wr ∧ Below w.heap.size w wr) (fun i _ => 16 - (intOf i).toNat)
    case atStart => exact ⟨1, by omega, rfl, Below.refl _ _, B2⟩
    case round =>
      clear B2
      obtain ⟨k, hk, rfl, B1, B⟩ := hrel
      by_cases hlt : k < m
      · have hkl : (k : Int) < (m : Int) := by omega
        have hk1 : (1 : Int) ≤ (k : Int) := by omega
        have hkk : ((k : Int) - 1).toNat = k - 1 := by omega
        have s := HS.out k (by omega) (by rw [HM.out]; exact hlt)
        obtain ⟨b1, o1, e1, c1⟩ := HFR.out.below B1 (k - 1) (by rw [ints_length, HM.out]; omega)
        obtain ⟨b2, o2, e2, c2⟩ := HFR.out.below B1 k (by rw [ints_length, HM.out]; omega)
        rw [e1] at e2
        simp only [Option.some.injEq, Addr.mk.injEq, and_true] at e2
        obtain ⟨rfl, rfl⟩ := e2
        rw [ints_get _ _ (by rw [HM.out]; omega)] at c1 c2
        have E1 := Lib.hid e1
        subst e1
        obtain ⟨x, hx⟩ : ∃ x, f.getD (k - 1) 0 = x := ⟨_, rfl⟩
        obtain ⟨y, hy⟩ : ∃ y, f.getD k 0 = y := ⟨_, rfl⟩
        rw [hx] at c1 s
        rw [hy] at c2 s
        have si : (x : Int) < (y : Int) := by omega
        clear hx hy s
        go_wp2_with fail
        have hw1 : IntKind.i64.wrap ((k : Int) - 1) = (k : Int) - 1 := IntWalk.i64_in _ (by omega)
        have hk0 : (0 : Int) ≤ (k : Int) - 1 := by omega
        have hkm : (k : Int) - 1 < (m : Int) := by omega
        have hnle : ¬ (y : Int) ≤ (x : Int) := by omega
        have hkkH := Lib.hid hkl
        go_quiet (fail)
        clear hw1 hkk
        go_wp2_with fail
        go_roundw
        case rel => exact ⟨k + 1, by omega, by go_num, below_drewN B1 _, below_drewN B _⟩
        case measure => simp [intOf]; omega
      · have hkl : ¬ (k : Int) < (m : Int) := by omega
        go_wp2_with fail
        refine (c_cut.out _).mono ?_; rintro e W3 ⟨ca, cc, rfl, _, B3⟩
        replace B3 := step_below B B3
        clear B B1
        go_wp2_with fail
        refine (c_may.out _).mono ?_; rintro e W4 ⟨rfl, B4⟩
        replace B4 := step_below B3 B4
        clear B3
        go_wp2_with fail
        refine (c_cnt.out _).mono ?_; rintro e W5 ⟨rfl, B5⟩
        replace B5 := step_below B4 B5
        clear B4
        go_wp2_with fail
        refine (c_used.out _).mono ?_; rintro e W6 ⟨ua, uc, rfl, _, hur, _, _, B6⟩
        replace B6 := step_below B5 B6
        clear B5
        go_wp2_with fail
        refine (same_at ua a (ints (nats L)) L n uc cap (ints_nats HO.out) HN.out (by omega) _ hur (HR.out.below B6)).mono ?_
        rintro e W7 ⟨rfl, B7⟩
        replace B7 := step_below B6 B7
        have hmn := HMI.out
        clear B6 hur
        go_wp2_with fail
        refine (num_law _ _).mono ?_; rintro e w' ⟨rfl, rfl⟩
        go_wp2_with fail
        refine (known_law _).mono ?_; rintro e W9 ⟨rfl, B9⟩
        go_wp2
        go_ret
        exact ⟨rfl, step_below B7 B9⟩

def IsRow (k : IntKind) (w : World) (a : Option Addr) (len cap : Nat) (zs : List Int) : Prop :=
  (a = none ∧ len = 0 ∧ cap = 0 ∧ zs = []) ∨
  ∃ x, a = some x ∧ len ≤ cap ∧ cap ≤ maxLen ∧ zs.length = cap ∧ (∀ i, i < zs.length → w.cell? (x.add i) = some (.int k (zs.getD i 0))) ∧ ∀ n ∈ zs, (Lit.int k n).wf = true
theorem addr_add (b off j : Nat) : (⟨b, off, none⟩ : Addr).add j = ⟨b, off + j, none⟩ := by
  unfold Addr.add
  by_cases h : j = 0 <;> simp [h]
theorem IsRow.rd {w : World} {a : Option Addr} {len cap : Nat} {zs : List Int} (h : IsRow .i64 w a len cap zs) : Rd w a (zs.take len) ∧ (zs.take len).length = len := by
  rcases h with ⟨_, e, _, e2⟩ | ⟨y, rfl, hlc, _, hz, hcell, _⟩
  · subst e e2; exact ⟨Rd.nil _ _, rfl⟩
  · refine ⟨fun k hk => ?_, by simp; omega⟩
    have hk' : k < len ∧ k < zs.length := by simp at hk; omega
    obtain ⟨b, off, spot⟩ := y
    have hc0 := hcell 0 (by omega)
    have hspot : spot = none := by simpa [Addr.add] using World.cell?_spot hc0
    subst hspot
    have hc := hcell k hk'.2
    rw [addr_add] at hc
    exact ⟨b, off, rfl, by rw [hc]; simp [List.getD, List.getElem?_take, hk'.1]⟩
theorem back_law (a : Option Addr) (len cap : Nat) (zs : List Int) (w : World) (h : IsRow .i64 w a len cap zs) :
    Calls Try.prog 6 #[.slice a len cap] w fun e w' => e = .returned (.bool true) ∧ Below w.heap.size w w' := by
  by_cases hl : len ≤ 2000
  · exact back_short a (zs.take len) len cap h.rd.2 hl w h.rd.1
  · exact back_long a len cap (by omega) w
end Go.Proofs.Ytochdmdojcfceaa
