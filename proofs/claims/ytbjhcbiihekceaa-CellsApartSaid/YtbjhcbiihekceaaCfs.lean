/- Arenas: two pieces, gone over; how many cells are free. -/
import Derived.Test.YtbjhcbiihekceaaCfr
import Derived.Laws.Externs
import Derived.RangeFuncNested
import Derived.RangeFuncBound
import Derived.RangeFuncCalls
import Derived.RangeFuncLeaves
import Derived.Shelf.Abstract
import Derived.Shelf.RegionOpen
import Derived.OwnWalkIn
import Derived.TacticsInMore
import Derived.LoopNIn
import Derived.LoopIn
import Derived.Maps.OwnIn
import Derived.Sort.MapsRangeIn
namespace Go.Proofs.Ytbjhcbiihekceaa
open Go.ChangeShapes Go.WideShapes Go.ChangeAt Go.RowKit Go.Maps Go.Shelf
set_option linter.unusedVariables false
set_option linter.unusedSimpArgs false
attribute [local go_sem] Oper.semAt_some

set_option maxRecDepth 100000 in
set_option maxHeartbeats 2000000 in
theorem clone_law (w : World) (b nn : Nat) (D : DataW Unit) (hown : w.ownsMap Try.prog 62 (plainElem Try.prog 3) b nn D) :
    Calls Try.prog 86 #[.map (some b)] w fun e w' => e = .returned (.map (some w.heap.size)) ∧ w'.ownsMap Try.prog 62 (plainElem Try.prog 3) w.heap.size nn D ∧ Below w.heap.size w w' := by
  obtain ⟨es, clock, hb, F, hs, hD⟩ := hown
  have hq := fun w => run_eql_map_nil_sl (P := Try.prog) w 133 _ _ (some b) Try.underlying133
  have HF := Lib.hid (And.intro F (And.intro hs hD))
  clear F hs hD
  go_enter Try.func86, Try.ntmps86
  go_wp2
  rw [run_callFunc_extern Try.func107 (by kernel_rfl) (by kernel_rfl) (by kernel_rfl) (e := Extern.MapsClone.clone) (by kernel_rfl), run_maps_clone_sl w 133 hb]
  simp only [Result.andThen]
  rw [Oper.upon_value]
  go_wp2
  rw [run_typeAssert_map_sl _ 133 20 _ _ _ Try.underlying133]
  simp only [Result.andThen]
  rw [Oper.upon_value]
  go_wp2
  go_ret
  exact ⟨rfl, ⟨es, clock, (MapKept.heap_alloc w _).1, HF.out.1, HF.out.2.1, HF.out.2.2⟩, (Below.refl _ w).alloc (Nat.le_refl _) _⟩
/-- All cells but one block's, and all maps, are kept. -/
def KN (nb : Nat) (W W' : World) : Prop := W.heap.size ≤ W'.heap.size ∧ ∀ k o, k ≠ nb → W.heap[k]? = some o → (o.isCells = true ∨ o.isWalk = true) → W'.heap[k]? = some o
theorem KN.refl (nb : Nat) (W : World) : KN nb W W := ⟨Nat.le_refl _, fun k o _ h _ => h⟩
theorem KN.trans {nb : Nat} {A B C : World} (h : KN nb A B) (k : KN nb B C) : KN nb A C := ⟨Nat.le_trans h.1 k.1, fun i o hi ho hc => k.2 i o hi (h.2 i o hi ho hc) hc⟩
theorem KN.put {nb : Nat} (W : World) (l : Nat) (o o' : Obj) (h : W.heap[l]? = some o) (hc : o.isCells = false) (hw : o.isWalk = false) : KN nb W (W.putObj l o') :=
  ⟨(grownBy_putObj' W l o').size, fun k p hk hp hpc => by
    have hne : k ≠ l := fun e => by subst e; rw [hp] at h; cases h; rw [hc, hw] at hpc; rcases hpc with h | h <;> cases h
    exact (World.putObj_heap_other hne).trans hp⟩
theorem KN.set (nb : Nat) (W : World) (i : Nat) (v : Value) : KN nb W (W.setCell ⟨nb, i, none⟩ v) := ⟨by simp, fun k o hk ho _ => (Below.heap_setCell _ _ _ k hk).trans ho⟩
theorem KN.box {nb : Nat} {W W' : World} (h : KN nb W W') {B : Nat} {t : TypeId} {v : Value} (hb : Boxed W B t v) (hn : B ≠ nb) : Boxed W' B t v := h.2 B _ hn hb (Or.inl rfl)
theorem KN.map {nb : Nat} {W W' : World} (h : KN nb W W') {b nn : Nat} {D : DataW Unit} (hm : W.ownsMap Try.prog 62 (plainElem Try.prog 3) b nn D) (hn : b ≠ nb) : W'.ownsMap Try.prog 62 (plainElem Try.prog 3) b nn D := by
  obtain ⟨es, c, hb, r⟩ := hm
  exact ⟨es, c, h.2 b _ hn hb (Or.inr rfl), r⟩
theorem KN.row {nb : Nat} {W W' : World} (h : KN nb W W') {g : Nat} {cs : Array Value} {t : TypeId} (hb : BoxC W g cs t) (hn : g ≠ nb) : BoxC W' g cs t := h.2 g _ hn hb (Or.inl rfl)
def encP (x : Int × Int) : Array Value := #[.int .u64 x.1, .int .i64 x.2]

theorem cells_of_cell {W : World} {g i : Nat} {v : Value} (h : W.cell? ⟨g, i, none⟩ = some v) : ∃ o, W.heap[g]? = some o ∧ o.isCells = true := by
  unfold World.cell? at h
  split at h
  · exact ⟨_, by assumption, rfl⟩
  all_goals simp at h
theorem KN.two {nb : Nat} {W W' : World} (h : KN nb W W') {g : Nat} {x y : Int} (t : Two W g x y) (hn : g ≠ nb) : Two W' g x y := by
  obtain ⟨o, ho, hc⟩ := cells_of_cell t.c0
  have e : W'.heap[g]? = W.heap[g]? := (h.2 g o hn ho (Or.inl hc)).trans ho.symm
  exact ⟨(World.cell?_of_block (w := W) e).trans t.c0, (World.cell?_of_block (w := W) e).trans t.c1, (World.frozen?_of_block (w := W) e).trans t.f0, (World.frozen?_of_block (w := W) e).trans t.f1⟩
set_option maxRecDepth 100000 in
set_option maxHeartbeats 4000000 in
theorem all_stops (mm : Nat) (hm : 1 ≤ mm) (nb Bn b nn : Nat) (D : DataW Unit) (a c : Nat) (va vc : Int) (hD : D2 D a c va vc) (w : World) (hB : Boxed w Bn 133 (.map (some b))) (hown : w.ownsMap Try.prog 62 (plainElem Try.prog 3) b nn D) (h1 : nb < w.heap.size) (h2 : Bn ≠ nb) (h3 : b ≠ nb) :
    SeqStopsK Fence.wide mm Try.prog 108 #[.pointer (some ⟨Bn, 0, none⟩)] encP (KN nb) (fun ys => ys = [((a : Int), va), ((c : Int), vc)]) (fun _ => True) 2 w := fun lp J Jx W hW hJ _ hY h0 => by
  have hb : Boxed W Bn 133 (.map (some b)) := (hW.block Bn hB.lt).trans hB
  have hownW : W.ownsMap Try.prog 62 (plainElem Try.prog 3) b nn D := (Off.of (S := fun _ => False) hW).map hown (fun h => h)
  have hnb : nb < W.heap.size := Nat.lt_of_lt_of_le h1 hW.size
  clear hB hown hW h1
  have HD := Lib.hid hD
  have HKa := Lib.hid (keyOf_int_mk Try.underlying62 (a := (a : Int)) (WalkArith.wf_u64 (by have := hD.hi; have := hD.lt; omega)))
  have HKc := Lib.hid (keyOf_int_mk Try.underlying62 (a := (c : Int)) (WalkArith.wf_u64 (by have := hD.hi; omega)))
  have HH := Lib.hid h0
  clear hD h0
  show CallsIn Fence.wide mm Try.prog 108 #[.func (.yield lp) #[] #[], .pointer (some ⟨Bn, 0, none⟩)] W _
  refine callsIn_of_wp Try.func108 rfl trivial ?_ rfl
  simp only [Try.ntmps108, List.size_toArray, List.length_cons, List.length_nil, Nat.reduceAdd, Nat.reduceSub, Array.replicate_succ, Array.replicate_zero, List.push_toArray, List.append_toArray, List.nil_append, List.cons_append]
  have cb := hb.cell
  gi_wp2_with fail
  refine ⟨trivial, ?_⟩
  refine (callsIn_wide.2 (keys_law W b)).mono ?_
  rintro e W1 ⟨rfl, rfl⟩
  have HS := Lib.hid (sorted_law (W.alloc (.cells #[.map (some b)] 133)) W.heap.size b nn D a c va vc HD.out (Boxed.new W 133 _) (hownW.alloc _))
  gi_wp2_with fail
  refine ⟨trivial, ?_⟩
  refine (callsIn_wide.2 HS.out).mono ?_
  rintro e W2 ⟨⟨g, cap, rfl, hg, hcap, hT⟩, hB2⟩
  have B12 : Below W.heap.size W W2 := step_below (bl1 _ _) hB2
  have J2 : J [] W2 := hJ _ _ _ _ HH.out (grown_of_below B12) (fun r e => by cases e)
  have HR0 := Lib.hid (show Boxed W2 Bn 133 (.map (some b)) ∧ W2.ownsMap Try.prog 62 (plainElem Try.prog 3) b nn D ∧ Two W2 g a c ∧ nb < g from ⟨(B12.block Bn hb.lt).trans hb, (Off.of (S := fun _ => False) B12).map hownW (fun h => h), hT, by simp at hg; omega⟩)
  clear hT hB2 B12 hb hownW cb hg HS HH
  gi_wp2_with fail
  gi_loopw [9] (fun i wr => (i = .int .i64 0 ∧ J [] wr ∧ Hid (Boxed wr Bn 133 (.map (some b)) ∧ wr.ownsMap Try.prog 62 (plainElem Try.prog 3) b nn D ∧ Two wr g a c ∧ nb < g)) ∨ (i = .int .i64 1 ∧ J [((a : Int), va)] wr ∧ Hid (Boxed wr Bn 133 (.map (some b)) ∧ wr.ownsMap Try.prog 62 (plainElem Try.prog 3) b nn D ∧ Two wr g a c ∧ nb < g)) ∨ (i = .int .i64 2 ∧ J [((a : Int), va), ((c : Int), vc)] wr ∧ Hid (Boxed wr Bn 133 (.map (some b)) ∧ wr.ownsMap Try.prog 62 (plainElem Try.prog 3) b nn D ∧ Two wr g a c ∧ nb < g))) (fun i _ => 2 - (intOf i).toNat)
  case atStart => exact Or.inl ⟨rfl, J2, HR0⟩
  case round =>
    clear J2 HR0
    rcases hrel with ⟨rfl, hJs, HR⟩ | ⟨rfl, hJs, HR⟩ | ⟨rfl, hJs, HR⟩
    · skip
      have cb := HR.out.1.cell
      have c0 := HR.out.2.2.1.c0
      have hown := HR.out.2.1
      obtain ⟨fn, tmps, assign, body, hy, hR⟩ := hY [] ((a : Int), va) wr hJs (by simp)
      dsimp only [encP] at hy
      have HRn := Lib.hid hR
      clear hR
      gi_wp2_with (first
        | (gi_at_lookup; refine wpListIn_lookup_own_int _ rfl _ _ 133 rfl 62 3 .i64 law62 Try.underlying133 Try.underlying3 (zero3 _) b nn D rfl hown _ _ rfl HKa.out ?_; intro z hat hwz; obtain rfl : z = va := (by rw [HD.out.va] at hat; simpa using hat.symm); clear hat hwz)
        | gi_in)
      refine HRn.out.mono ?_
      rintro e W3 (⟨rfl, hJ3, hk3⟩ | ⟨rfl, hJx3⟩)
      · gi_wp2
        go_roundw
        case rel => exact Or.inr (Or.inl ⟨rfl, hJ3, Lib.hid ⟨hk3.box HR.out.1 h2, hk3.map HR.out.2.1 h3, hk3.two HR.out.2.2.1 (by have := HR.out.2.2.2; omega), HR.out.2.2.2⟩⟩)
        case measure => simp [intOf]
      · gi_wp2
        refine bodyPost_ret (results_none rfl _ _ _) rfl ?_
        exact ⟨⟨_, rfl⟩, .inr ⟨_, trivial, hJx3⟩⟩
    · skip
      have cb := HR.out.1.cell
      have c1 := HR.out.2.2.1.c1
      have hown := HR.out.2.1
      obtain ⟨fn, tmps, assign, body, hy, hR⟩ := hY [((a : Int), va)] ((c : Int), vc) wr hJs (by simp)
      dsimp only [encP] at hy
      have HRn := Lib.hid hR
      clear hR
      gi_wp2_with (first
        | (gi_at_lookup; refine wpListIn_lookup_own_int _ rfl _ _ 133 rfl 62 3 .i64 law62 Try.underlying133 Try.underlying3 (zero3 _) b nn D rfl hown _ _ rfl HKc.out ?_; intro z hat hwz; obtain rfl : z = vc := (by rw [HD.out.vc] at hat; simpa using hat.symm); clear hat hwz)
        | gi_in)
      refine HRn.out.mono ?_
      rintro e W3 (⟨rfl, hJ3, hk3⟩ | ⟨rfl, hJx3⟩)
      · gi_wp2
        go_roundw
        case rel => exact Or.inr (Or.inr ⟨rfl, hJ3, Lib.hid ⟨hk3.box HR.out.1 h2, hk3.map HR.out.2.1 h3, hk3.two HR.out.2.2.1 (by have := HR.out.2.2.2; omega), HR.out.2.2.2⟩⟩)
        case measure => simp [intOf]
      · gi_wp2
        refine bodyPost_ret (results_none rfl _ _ _) rfl ?_
        exact ⟨⟨_, rfl⟩, .inr ⟨_, trivial, hJx3⟩⟩
    · gi_wp2
      go_end0
      exact ⟨⟨_, rfl⟩, .inl ⟨_, rfl, hJs⟩⟩
end Go.Proofs.Ytbjhcbiihekceaa
