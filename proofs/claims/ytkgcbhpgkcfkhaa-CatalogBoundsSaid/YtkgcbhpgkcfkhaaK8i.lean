/- The iterator over a key's slices, by a contract. -/
import Derived.Test.YtkgcbhpgkcfkhaaK8a
import Derived.RangeFuncNested
import Derived.RangeFuncBound
import Derived.RangeFuncBox
import Derived.RangeFuncCalls
import Derived.RangeFuncLeaves
import Derived.Shelf.Abstract
import Derived.Shelf.RegionOpen
import Derived.OwnWalkIn
import Derived.TacticsInMore
import Derived.LoopNIn
import Derived.LoopIn
namespace Go.Proofs.Ytkgcbhpgkcfkhaa.K8
open Go.ChangeShapes Go.WideShapes Go.ChangeAt Go.RowKit Go.Shelf
open SM
set_option linter.unusedVariables false
set_option linter.unusedSimpArgs false
attribute [local go_sem] Oper.semAt_some

theorem info5 : (Try.prog.info? 5).map (fun i => (i.zero, i.size, i.bytes)) = some (some (.int .u8 0), 1, 1) := by kernel_rfl
theorem grown_of_below {w w' : World} (h : Below w.heap.size w w') : w.grownBy w' none := ⟨h.os, h.tape, h.output, h.size, fun k hk _ => h.block k hk⟩

theorem Of_zero (a : Option Addr) (cap : Nat) (w : World) :
    Calls Try.prog 101 #[.slice a 0 cap, .int .i64 0] w fun e w' => e = .returned (.tuple #[.agg #[.int .u64 0, .int .i64 0], .int .i64 0]) ∧ Below w.heap.size w w' := by
  have hcap : (0 : Int) ≤ (cap : Int) := by omega
  have hf : Fits (fun _ => 0) := fun i => ⟨by simp, by simp⟩
  have hw0 : wd (fun _ => 0) 0 = 0 := by rfl
  go_enter Try.func101, Try.ntmps101
  go_wp2_with (go_at_call 108; refine (count_any _ _ _ (by omega) _).mono ?_; rintro e w' ⟨rfl, rfl⟩)
  all_goals refine (of_any _ _ _ (fun _ => 0) (by omega) (by omega) _ hf (fun k hk => absurd hk (by omega))).mono ?_
  all_goals rintro e W1 ⟨rfl, B1⟩
  all_goals obtain ⟨hcc, hff⟩ := bcell B1
  all_goals have hz : w.heap.size < W1.heap.size := by have := B1.size; simp at this; omega
  all_goals simp only [Nat.zero_min, hw0]
  all_goals go_wp2
  all_goals refine bodyPost_ret (v := .tuple #[.agg #[.int .u64 0, .int .i64 0], .int .i64 0]) (by simp [results, Try.results101, go_sem, hcc]) rfl ⟨rfl, ?_⟩
  all_goals exact ((((Below.refl _ _).alloc (Nat.le_refl _) _).trans (B1.mono (by simp))).setCell (Nat.le_refl _) _).setCell (Nat.le_refl _) _

def ofV (f : Nat → Int) (len i : Nat) : Int × Int × Int := if i < cnt len then (slW f len i, (slL len i : Nat), 0) else (0, 0, 2)
theorem Of_any (a : Option Addr) (len cap : Nat) (f : Nat → Int) (i : Nat) (hl : len ≤ 1152921504606846976) (hlc : len ≤ cap) (w : World) (hf : Fits f) (hc : Bts w a len f) :
    Calls Try.prog 101 #[.slice a len cap, .int .i64 i] w fun e w' => e = .returned (.tuple #[.agg #[.int .u64 (ofV f len i).1, .int .i64 (ofV f len i).2.1], .int .i64 (ofV f len i).2.2]) ∧ Below w.heap.size w w' := by
  by_cases hi : i < cnt len
  · by_cases h0 : len = 0
    · subst h0
      obtain rfl : i = 0 := by simp [cnt] at hi; omega
      simp only [ofV, hi, if_true]
      exact Of_zero a cap w
    · simp only [ofV, hi, if_true]
      exact Of_ok a len cap f i hl hlc w hf hc (by omega) hi
  · simp only [ofV, hi, if_false]
    exact Of_big a len cap i hl (by omega) w

/-- What a round that goes on keeps: whatever is cells, but the block that the loop's body writes. -/
def KC (Bo : Nat) (W W' : World) : Prop := W.heap.size ≤ W'.heap.size ∧ ∀ j o, j ≠ Bo → W.heap[j]? = some o → o.isCells = true → W'.heap[j]? = some o
theorem KC.trans {Bo : Nat} {A B C : World} (h : KC Bo A B) (k : KC Bo B C) : KC Bo A C := ⟨Nat.le_trans h.1 k.1, fun j o hj ho hc => k.2 j o hj (h.2 j o hj ho hc) hc⟩
theorem KC.put {Bo : Nat} (W : World) (l : Nat) (o o' : Obj) (h : W.heap[l]? = some o) (hc : o.isCells = false) : KC Bo W (W.putObj l o') :=
  ⟨(grownBy_putObj' W l o').size, fun j p hj hp hcp => by
    have hne : j ≠ l := fun e => by subst e; rw [h] at hp; cases hp; rw [hc] at hcp; cases hcp
    exact (World.putObj_heap_other hne).trans hp⟩
theorem KC.below {Bo : Nat} {W W' : World} (h : Below W.heap.size W W') : KC Bo W W' :=
  ⟨h.size, fun j o _ ho _ => (h.block j (Array.getElem?_eq_some_iff.1 ho).1).trans ho⟩

theorem cells_of_cell {w : World} {b i : Nat} {c : Value} (h : w.cell? ⟨b, i, none⟩ = some c) : ∃ o, w.heap[b]? = some o ∧ o.isCells = true := by
  unfold World.cell? at h
  split at h
  · rename_i o _ _ _ ho
    exact ⟨_, ho, rfl⟩
  · cases h
theorem KC.cell {Bo : Nat} {W W' : World} (h : KC Bo W W') {b i : Nat} {c : Value} (hb : b ≠ Bo) (hc : W.cell? ⟨b, i, none⟩ = some c) : W'.cell? ⟨b, i, none⟩ = some c := by
  obtain ⟨o, ho, hoc⟩ := cells_of_cell hc
  rw [World.cell?_of_block (w := W) ((h.2 b o hb ho hoc).trans ho.symm)]
  exact hc

abbrev Sl := Nat × Int × Int
def encs (x : Sl) : Array Value := #[.int .i64 (x.1 : Int), .agg #[.int .u64 x.2.1, .int .i64 x.2.2]]
def upto (f : Nat → Int) (len k : Nat) : List Sl := (List.range k).map fun i => (i, slW f len i, (slL len i : Nat))
theorem upto_succ (f : Nat → Int) (len k : Nat) : upto f len (k + 1) = upto f len k ++ [(k, slW f len k, ((slL len k : Nat) : Int))] := by simp [upto, List.range_succ]
theorem upto_length (f : Nat → Int) (len k : Nat) : (upto f len k).length = k := by simp [upto]

theorem all_in (a : Option Addr) (len cap : Nat) (w : World) :
    Calls Try.prog 100 #[.slice a len cap] w fun e w' => e = .returned (.func (.func 107) #[] #[.pointer (some ⟨w.heap.size, 0, none⟩)]) ∧ w' = w.alloc (.cells #[.slice a len cap] 24) := by
  have hmf : ∀ (fn : Fn) (first cap : Array Value) (w : World), (Instr.makeFunc fn first cap).run Try.prog w = .ok (.func fn first cap) w := fun _ _ _ _ => rfl
  go_enter Try.func100, Try.ntmps100
  go_wp2
  go_ret
  exact ⟨rfl, rfl⟩

theorem addr_add (b off j : Nat) : (⟨b, off, none⟩ : Addr).add j = ⟨b, off + j, none⟩ := by
  unfold Addr.add
  by_cases h : j = 0 <;> simp [h]

def bvs (f : Nat → Int) (n : Nat) : List Value := (List.range n).map fun k => .int .u8 (f k)
theorem bvs_at (f : Nat → Int) (n k : Nat) (h : k < n) : (bvs f n)[k]? = some (.int .u8 (f k)) := by simp [bvs, h]
theorem bts_of_own {w : World} {base n : Nat} {v : Value} {f : Nat → Int} (h : w.ownsRow base 5 1 v n (bvs f n)) (hn : 0 < n) : ∃ g cap, v = .slice (some ⟨g, 0, none⟩) n cap ∧ base ≤ g ∧ n ≤ cap ∧ Bts w (some ⟨g, 0, none⟩) n f := by
  have h' := h
  rcases h.2 with ⟨_, h0⟩ | ⟨g, cap, cur, rfl, hg, _, hc, _⟩
  · omega
  · exact ⟨g, cap, rfl, hg, hc, fun k hk => ⟨g, 0, rfl, by rw [Nat.zero_add, h'.cellAt k (by omega), bvs_at f n k hk]⟩⟩

set_option maxRecDepth 100000 in
set_option maxHeartbeats 2000000 in
theorem all_pos (n : Nat) (hn : 1 ≤ n) (l Bs Bo b off len cap : Nat) (f : Nat → Int) (hf : Fits f) (hl : len ≤ 1048576) (hl0 : 0 < len) (J Jx : List Sl → World → Prop) (W : World) (hJ : AbidesFrom W.heap.size J) (hBo : Bo < W.heap.size)
    (hY : ∀ pre x W1, J pre W1 → pre.length < cnt len → YieldAt Fence.wide (n - 1) Try.prog l (encs x) W1 fun e W' =>
      (e = .returned (.bool true) ∧ J (pre ++ [x]) W' ∧ KC Bo W1 W') ∨ (e = .returned (.bool false) ∧ Jx (pre ++ [x]) W'))
    (hBs : W.cell? ⟨Bs, 0, none⟩ = some (.slice (some ⟨b, off, none⟩) len cap)) (hc : Bts W (some ⟨b, off, none⟩) len f) (h0 : J [] W) :
    CallsIn Fence.wide n Try.prog 107 #[.func (.yield l) #[] #[], .pointer (some ⟨Bs, 0, none⟩)] W fun e W' => (∃ v, e = .returned v) ∧
      ((∃ ys, ys = upto f len (cnt len) ∧ J ys W') ∨ (∃ pre, (∃ k, k ≤ cnt len ∧ pre = upto f len k) ∧ Jx pre W')) := by
  obtain ⟨i0, hi, hz0, hz1, hz2⟩ := info_parts info5
  refine callsIn_of_wp Try.func107 rfl trivial ?_ rfl
  simp only [Try.ntmps107, List.size_toArray, List.length_cons, List.length_nil, Nat.reduceAdd, Nat.reduceSub, Array.replicate_succ, Array.replicate_zero, List.push_toArray, List.append_toArray, List.nil_append, List.cons_append]
  have HC := Lib.hid hc; clear hc
  gi_wp2_with (gi_at_builtin; refine wpListIn_append_own _ rfl _ _ 24 rfl W.heap.size 5 i0 (.int .u8 0) 1 1 Try.underlying24 hi hz0 hz1 hz2 rfl (by decide) (.slice none 0 0) 0 [] rfl (World.ownsRow_nil _ _ _ _) ⟨b, off, none⟩ len cap (bvs f len) rfl (by simp [bvs]) ?c1 ?c2 (by unfold maxLen; omega) (by omega) (Nat.le_refl _) ?_)
  case c1 =>
    intro j u hj
    have hjl : j < len := by
      have := (List.getElem?_eq_some_iff.1 hj).1
      simpa [bvs] using this
    rw [bvs_at f len j hjl] at hj
    cases hj
    obtain ⟨b', off', e, hcc⟩ := HC.out j hjl
    cases e
    rw [addr_add]; exact hcc
  case c2 =>
    intro u hu
    obtain ⟨k, _, rfl⟩ := List.mem_map.1 hu
    rfl
  intro v' W1 hown hgrow _
  obtain ⟨g, cap', rfl, hg, hcap, hB⟩ := bts_of_own hown hl0
  have hJ' := hJ
  have J1 : J [] W1 := hJ _ _ _ _ h0 hgrow (fun r e => by cases e)
  have hs1 := hgrow.size
  clear hown hgrow h0
  have HB := Lib.hid hB; clear hB HC
  gi_wp2_with fail
  refine ⟨trivial, ?_⟩
  refine (callsIn_wide.2 (count_any _ len _ (by omega) _)).mono ?_
  rintro e w' ⟨rfl, rfl⟩
  gi_wp2_with fail
  gi_loopw [9] (fun i wr => ∃ k : Nat, k ≤ cnt len ∧ i = .int .i64 k ∧ J (upto f len k) wr ∧ KC Bo W1 wr ∧ W.heap.size ≤ wr.heap.size) (fun i _ => cnt len - (intOf i).toNat)
  case atStart => exact ⟨0, Nat.zero_le _, rfl, J1, KC.below (Below.refl _ _), hs1⟩
  case round =>
    clear J1
    obtain ⟨k, hk, rfl, hJs, hK, hsz⟩ := hrel
    by_cases hlt : k < cnt len
    · have hkl : (k : Int) < (cnt len : Int) := by omega
      have hs : 8 * k < len := by unfold cnt at hlt; omega
      have k1 : 8 * (k : Int) ≤ (len : Int) := by omega
      have k2 : (len : Int) ≤ (cap' : Int) := by omega
      have hcap2 : ¬ cap' = 8 * k := by omega
      have k3 : (8 * k : Int) ≤ 1048576 := by omega
      gi_wp2_with fail
      refine ⟨trivial, ?_⟩
      have HBr : Bts wr (some ⟨g, 0, none⟩) len f := fun j hj => by
        obtain ⟨b', off', e, hcc⟩ := HB.out j hj
        cases e
        exact ⟨g, 0, rfl, hK.cell (by omega) hcc⟩
      have hB2 := HBr.from (8 * k)
      simp only [Nat.zero_add] at hB2
      refine (callsIn_wide.2 (of_any _ (len - 8 * k) _ (fun j => f (8 * k + j)) (by omega) (by omega) _ (hf.from _) hB2)).mono ?_
      rintro e W2 ⟨rfl, B2⟩
      have J2 : J (upto f len k) W2 := hJ' _ _ _ _ hJs (grown_of_below B2) (fun r e => by cases e)
      obtain ⟨fn, tmps, assign, body, hy, hR⟩ := hY _ (k, slW f len k, ((slL len k : Nat) : Int)) W2 J2 (by rw [upto_length]; exact hlt)
      dsimp only [encs, slW, slL] at hy
      have HKr := Lib.hid (hK.trans (KC.below B2))
      have hsz2 : W.heap.size ≤ W2.heap.size := Nat.le_trans hsz B2.size
      clear J2 hJs HBr hB2 hK
      gi_wp2
      refine hR.mono ?_
      rintro e W3 (⟨rfl, hJ3, hk3⟩ | ⟨rfl, hJx3⟩)
      · gi_wp2
        go_roundw
        case rel => exact ⟨k + 1, by omega, by go_num, by rw [upto_succ]; exact hJ3, HKr.out.trans hk3, Nat.le_trans hsz2 hk3.1⟩
        case measure => simp [intOf]; omega
      · gi_wp2
        refine bodyPost_ret (results_none rfl _ _ _) rfl ?_
        exact ⟨⟨_, rfl⟩, .inr ⟨_, ⟨k + 1, by omega, (upto_succ _ _ _).symm⟩, hJx3⟩⟩
    · obtain rfl : k = cnt len := by omega
      gi_wp2
      go_end0
      exact ⟨⟨_, rfl⟩, .inl ⟨_, rfl, hJs⟩⟩

set_option maxRecDepth 100000 in
set_option maxHeartbeats 2000000 in
theorem all_zero_none (n : Nat) (hn : 1 ≤ n) (l Bs Bo cap : Nat) (f : Nat → Int) (J Jx : List Sl → World → Prop) (W : World) (hJ : AbidesFrom W.heap.size J)
    (hY : ∀ pre x W1, J pre W1 → pre.length < cnt 0 → YieldAt Fence.wide (n - 1) Try.prog l (encs x) W1 fun e W' =>
      (e = .returned (.bool true) ∧ J (pre ++ [x]) W' ∧ KC Bo W1 W') ∨ (e = .returned (.bool false) ∧ Jx (pre ++ [x]) W'))
    (hBs : W.cell? ⟨Bs, 0, none⟩ = some (.slice none 0 cap)) (h0 : J [] W) :
    CallsIn Fence.wide n Try.prog 107 #[.func (.yield l) #[] #[], .pointer (some ⟨Bs, 0, none⟩)] W fun e W' => (∃ v, e = .returned v) ∧
      ((∃ ys, ys = upto f 0 (cnt 0) ∧ J ys W') ∨ (∃ pre, (∃ k, k ≤ cnt 0 ∧ pre = upto f 0 k) ∧ Jx pre W')) := by
  obtain ⟨i0, hi, hz0, hz1, hz2⟩ := info_parts info5
  have hcnt : cnt 0 = 1 := rfl
  have hw0 : wd (fun _ => 0) 0 = 0 := by rfl
  have hsl : ((0 : Nat), slW f 0 0, ((slL 0 0 : Nat) : Int)) = (0, 0, 0) := by simp [slW, slL, wd]
  refine callsIn_of_wp Try.func107 rfl trivial ?_ rfl
  simp only [Try.ntmps107, List.size_toArray, List.length_cons, List.length_nil, Nat.reduceAdd, Nat.reduceSub, Array.replicate_succ, Array.replicate_zero, List.push_toArray, List.append_toArray, List.nil_append, List.cons_append]
  have J1 := h0
  have hs1 : W.heap.size ≤ W.heap.size := Nat.le_refl _
  gi_wp2_with fail
  refine ⟨trivial, ?_⟩
  refine (callsIn_wide.2 (count_any _ 0 _ (by omega) _)).mono ?_
  rintro e w' ⟨rfl, rfl⟩
  rw [hcnt]
  gi_wp2_with fail
  gi_loopw [9] (fun i wr => ∃ k : Nat, k ≤ 1 ∧ i = .int .i64 k ∧ J (upto f 0 k) wr ∧ W.heap.size ≤ wr.heap.size) (fun i _ => 1 - (intOf i).toNat)
  case atStart => exact ⟨0, Nat.zero_le _, rfl, J1, hs1⟩
  case round =>
    clear J1
    obtain ⟨k, hk, rfl, hJs, hsz⟩ := hrel
    by_cases hlt : k < 1
    · obtain rfl : k = 0 := by omega
      gi_wp2_with fail
      refine ⟨trivial, ?_⟩
      refine (callsIn_wide.2 (of_any _ 0 _ (fun _ => 0) (by omega) (by omega) _ (fun i => ⟨by simp, by simp⟩) (fun k hk => absurd hk (by omega)))).mono ?_
      rintro e W2 ⟨rfl, B2⟩
      have J2 : J (upto f 0 0) W2 := hJ _ _ _ _ hJs (grown_of_below B2) (fun r e => by cases e)
      obtain ⟨fn, tmps, assign, body, hy, hR⟩ := hY _ (0, 0, 0) W2 J2 (by rw [upto_length]; omega)
      replace hy : Sem.run Try.prog (Instr.yield l #[.int .i64 0, .agg #[.int .u64 0, .int .i64 0]]) W2 = _ := hy
      have hsz2 : W.heap.size ≤ W2.heap.size := Nat.le_trans hsz B2.size
      clear J2 hJs
      simp only [Nat.zero_min, hw0]
      gi_wp2
      refine hR.mono ?_
      rintro e W3 (⟨rfl, hJ3, hk3⟩ | ⟨rfl, hJx3⟩)
      · gi_wp2
        go_roundw
        case rel => exact ⟨1, by omega, by go_num, by rw [show (1 : Nat) = 0 + 1 from rfl, upto_succ, hsl]; exact hJ3, Nat.le_trans hsz2 hk3.1⟩
        case measure => simp [intOf]
      · gi_wp2
        refine bodyPost_ret (results_none rfl _ _ _) rfl ?_
        exact ⟨⟨_, rfl⟩, .inr ⟨_, ⟨1, by omega, by rw [show (1 : Nat) = 0 + 1 from rfl, upto_succ, hsl]⟩, hJx3⟩⟩
    · obtain rfl : k = 1 := by omega
      gi_wp2
      go_end0
      exact ⟨⟨_, rfl⟩, .inl ⟨_, rfl, by rw [hcnt]; exact hJs⟩⟩

set_option maxRecDepth 100000 in
set_option maxHeartbeats 2000000 in
theorem all_zero_some (n : Nat) (hn : 1 ≤ n) (l Bs Bo cap : Nat) (ad : Addr) (f : Nat → Int) (J Jx : List Sl → World → Prop) (W : World) (hJ : AbidesFrom W.heap.size J)
    (hY : ∀ pre x W1, J pre W1 → pre.length < cnt 0 → YieldAt Fence.wide (n - 1) Try.prog l (encs x) W1 fun e W' =>
      (e = .returned (.bool true) ∧ J (pre ++ [x]) W' ∧ KC Bo W1 W') ∨ (e = .returned (.bool false) ∧ Jx (pre ++ [x]) W'))
    (hBs : W.cell? ⟨Bs, 0, none⟩ = some (.slice (some ad) 0 cap)) (h0 : J [] W) :
    CallsIn Fence.wide n Try.prog 107 #[.func (.yield l) #[] #[], .pointer (some ⟨Bs, 0, none⟩)] W fun e W' => (∃ v, e = .returned v) ∧
      ((∃ ys, ys = upto f 0 (cnt 0) ∧ J ys W') ∨ (∃ pre, (∃ k, k ≤ cnt 0 ∧ pre = upto f 0 k) ∧ Jx pre W')) := by
  obtain ⟨i0, hi, hz0, hz1, hz2⟩ := info_parts info5
  have hcnt : cnt 0 = 1 := rfl
  have hw0 : wd (fun _ => 0) 0 = 0 := by rfl
  have hsl : ((0 : Nat), slW f 0 0, ((slL 0 0 : Nat) : Int)) = (0, 0, 0) := by simp [slW, slL, wd]
  refine callsIn_of_wp Try.func107 rfl trivial ?_ rfl
  simp only [Try.ntmps107, List.size_toArray, List.length_cons, List.length_nil, Nat.reduceAdd, Nat.reduceSub, Array.replicate_succ, Array.replicate_zero, List.push_toArray, List.append_toArray, List.nil_append, List.cons_append]
  gi_wp2_with (gi_at_builtin; refine wpListIn_append_own _ rfl _ _ 24 rfl W.heap.size 5 i0 (.int .u8 0) 1 1 Try.underlying24 hi hz0 hz1 hz2 rfl (by decide) (.slice none 0 0) 0 [] rfl (World.ownsRow_nil _ _ _ _) ad 0 cap [] rfl rfl (fun j u hj => by simp at hj) (fun u hu => by simp at hu) (by unfold maxLen; omega) (by omega) (Nat.le_refl _) ?_)
  intro v' W1 hown hgrow hnil
  obtain rfl := hnil
  have J1 : J [] W1 := hJ _ _ _ _ h0 hgrow (fun r e => by cases e)
  have hs1 := hgrow.size
  clear hown hgrow h0
  gi_wp2_with fail
  refine ⟨trivial, ?_⟩
  refine (callsIn_wide.2 (count_any _ 0 _ (by omega) _)).mono ?_
  rintro e w' ⟨rfl, rfl⟩
  rw [hcnt]
  gi_wp2_with fail
  gi_loopw [9] (fun i wr => ∃ k : Nat, k ≤ 1 ∧ i = .int .i64 k ∧ J (upto f 0 k) wr ∧ W.heap.size ≤ wr.heap.size) (fun i _ => 1 - (intOf i).toNat)
  case atStart => exact ⟨0, Nat.zero_le _, rfl, J1, hs1⟩
  case round =>
    clear J1
    obtain ⟨k, hk, rfl, hJs, hsz⟩ := hrel
    by_cases hlt : k < 1
    · obtain rfl : k = 0 := by omega
      gi_wp2_with fail
      refine ⟨trivial, ?_⟩
      refine (callsIn_wide.2 (of_any _ 0 _ (fun _ => 0) (by omega) (by omega) _ (fun i => ⟨by simp, by simp⟩) (fun k hk => absurd hk (by omega)))).mono ?_
      rintro e W2 ⟨rfl, B2⟩
      have J2 : J (upto f 0 0) W2 := hJ _ _ _ _ hJs (grown_of_below B2) (fun r e => by cases e)
      obtain ⟨fn, tmps, assign, body, hy, hR⟩ := hY _ (0, 0, 0) W2 J2 (by rw [upto_length]; omega)
      replace hy : Sem.run Try.prog (Instr.yield l #[.int .i64 0, .agg #[.int .u64 0, .int .i64 0]]) W2 = _ := hy
      have hsz2 : W.heap.size ≤ W2.heap.size := Nat.le_trans hsz B2.size
      clear J2 hJs
      simp only [Nat.zero_min, hw0]
      gi_wp2
      refine hR.mono ?_
      rintro e W3 (⟨rfl, hJ3, hk3⟩ | ⟨rfl, hJx3⟩)
      · gi_wp2
        go_roundw
        case rel => exact ⟨1, by omega, by go_num, by rw [show (1 : Nat) = 0 + 1 from rfl, upto_succ, hsl]; exact hJ3, Nat.le_trans hsz2 hk3.1⟩
        case measure => simp [intOf]
      · gi_wp2
        refine bodyPost_ret (results_none rfl _ _ _) rfl ?_
        exact ⟨⟨_, rfl⟩, .inr ⟨_, ⟨1, by omega, by rw [show (1 : Nat) = 0 + 1 from rfl, upto_succ, hsl]⟩, hJx3⟩⟩
    · obtain rfl : k = 1 := by omega
      gi_wp2
      go_end0
      exact ⟨⟨_, rfl⟩, .inl ⟨_, rfl, by rw [hcnt]; exact hJs⟩⟩

theorem all_stops (n : Nat) (hn : 1 ≤ n) (Bs Bo len cap : Nat) (a : Option Addr) (f : Nat → Int) (hf : Fits f) (hl : len ≤ 1048576) (w : World) (hBs : Bs < w.heap.size) (hBo : Bo < w.heap.size)
    (hcell : w.cell? ⟨Bs, 0, none⟩ = some (.slice a len cap)) (hc : Bts w a len f) :
    SeqStopsK Fence.wide n Try.prog 107 #[.pointer (some ⟨Bs, 0, none⟩)] encs (KC Bo) (fun ys => ys = upto f len (cnt len)) (fun pre => ∃ k, k ≤ cnt len ∧ pre = upto f len k) (cnt len) w := fun l J Jx W hW hJ _ hY h0 => by
  have hc' := (hW.cell (p := ⟨Bs, 0, none⟩) hBs).trans hcell
  have hc2 := hc.below hW
  by_cases hz : len = 0
  · subst hz
    cases a with
    | none => exact all_zero_none n hn l Bs Bo cap f J Jx W hJ hY hc' h0
    | some ad => exact all_zero_some n hn l Bs Bo cap ad f J Jx W hJ hY hc' h0
  · obtain ⟨b, off, rfl, _⟩ := hc 0 (by omega)
    exact all_pos n hn l Bs Bo b off len cap f hf hl (by omega) J Jx W hJ (by have := hW.size; omega) hY hc' hc2 h0

end Go.Proofs.Ytkgcbhpgkcfkhaa.K8
