/- Part of the proof that ModelCopies holds for every input: a copy goes on apart; two models are the same just if tables and rows are. Part 5. -/
import Derived.Test.YthmofoldmdafoaaGreatScd
import Derived.Test.YthmofoldmdafoaaGreatProg
set_option linter.unusedVariables false
set_option linter.unusedSimpArgs false
set_option maxRecDepth 100000
set_option maxHeartbeats 4000000
namespace Go.Proofs.YthmofoldmdafoaaGreat
open Go.ChangeShapes Go.WideShapes Go.ChangeAt Go.RowKit
open Go.Lib (hid)
open Go.Proofs.Tryz
section
open Go.Maps
theorem zV_ {α : Type} {motive : List α -> Prop} (nil : motive []) (append_singleton : ∀ (l : List α) (x : α), motive l -> motive (l ++ [x])) (l : List α) : motive l := by
 have : ∀ r : List α, motive r.reverse := fun r => by
  induction r with
  | nil => exact nil
  | cons x r ih => rw [List.reverse_cons]; exact append_singleton _ _ ih
 have := this l.reverse
 rwa [List.reverse_reverse] at this
def cstep (o : List (List Int)) (x : List Int) : List (List Int) := if o.getLast? = some x then o else o ++ [x]
def yj_ (l : List (List Int)) : List (List Int) := l.foldl cstep []
theorem yN_ (l : List (List Int)) (x : List Int) : yj_ (l ++ [x]) = cstep (yj_ l) x := by simp [yj_, List.foldl_append]
theorem compL_last (l : List (List Int)) : (yj_ l).getLast? = l.getLast? := by
 induction l using zV_ with
 | nil => rfl
 | append_singleton l x ih =>
  rw [yN_]
  unfold cstep
  by_cases e : (yj_ l).getLast? = some x
  ·rw [if_pos e, e]; simp
  ·rw [if_neg e]; simp
theorem jJ_ (S : List (List Int)) {p : Nat} {x y : List Int} (h1 : S[p]? = some x) (h0 : 0 < p) (h2 : S[p - 1]? = some y) : yj_ (S.take (p + 1)) = if x = y then yj_ (S.take p) else yj_ (S.take p) ++ [x] := by
 rw [List.take_add_one, h1]
 show yj_ (S.take p ++ [x]) = _
 rw [yN_]
 unfold cstep
 have hl : (yj_ (S.take p)).getLast? = some y := by
  rw [compL_last, List.getLast?_eq_getElem?, List.length_take, List.getElem?_take]
  have hp := (List.getElem?_eq_some_iff.1 h1).1
  rw [Nat.min_eq_left Xt0, if_pos Xt0]
  exact h2
 rw [hl]
 by_cases e : x = y
 ·rw [if_pos (by rw [e]), if_pos e]
 ·rw [if_neg (by simpa using Ne.symm e), if_neg e]
theorem compL_len (l : List (List Int)) : (yj_ l).length <= l.length := by
 induction l using zV_ with
 | nil => exact Nat.le_refl _
 | append_singleton l x ih =>
  rw [yN_]
  unfold cstep
  split
  ·rw [List.length_append]; omega
  ·rw [List.length_append, List.length_append]; simp; omega
theorem q7_ (l : List (List Int)) (x : List Int) : x ∈ yj_ l ↔ x ∈ l := by
 induction l using zV_ with
 | nil => exact Iff.rfl
 | append_singleton l y ih =>
  rw [yN_]
  unfold cstep
  by_cases e : (yj_ l).getLast? = some y
  ·rw [if_pos e, ih, List.mem_append, List.mem_singleton]
   constructor
   ·exact .inl
   ·rintro (h | rfl)
    ·exact h
    ·rw [← ih]; exact List.mem_of_getLast? e
  ·rw [if_neg e, List.mem_append, List.mem_append, ih]
theorem compL_ris (l : List (List Int)) (h : l.Pairwise fun a b => ltL b a = false) : Ris id (yj_ l) := by
 induction l using zV_ with
 | nil => exact List.Pairwise.nil
 | append_singleton l y ih =>
  obtain ⟨h1, _, h3⟩ := List.pairwise_append.1 h
  have hr := ih h1
  rw [yN_]
  unfold cstep
  by_cases e : (yj_ l).getLast? = some y
  ·rw [if_pos e]; exact hr
  ·rw [if_neg e]
   refine List.pairwise_append.2 ⟨hr, by simp, fun a ha b hb => ?_⟩
   rw [List.mem_singleton] at hb
   subst hb
   have ham := (q7_ l a).1 ha
   have hle := h3 a ham b (List.mem_singleton.2 rfl)
   refine x8_ hle fun eq => e ?_
   have eq : a = b := eq
   subst eq
   -- a is in the list and nothing behind it is greater: it is the last
   cases hl : (yj_ l).getLast? with
   | none => rw [List.getLast?_eq_none_iff] at hl; rw [hl] at ha; cases ha
   | some z =>
    have hz := List.mem_of_getLast? hl
    have hzm := (q7_ l z).1 hz
    have h4 := h3 z hzm a (List.mem_singleton.2 rfl)
    by_cases ez : z = a
    ·rw [ez]
    ·exfalso
     have hlt : ltL z a = true := x8_ h4 ez
     have h5 : ltL a z = true := by
      obtain ⟨i, hi⟩ := List.mem_iff_getElem?.1 ha
      rw [List.getLast?_eq_getElem?] at hl
      have hil := (List.getElem?_eq_some_iff.1 hi).1
      by_cases ei : i = (yj_ l).length - 1
      ·rw [ei, hl] at hi; exact absurd (Option.some.inj hi) ez
      ·have := List.pairwise_iff_getElem.1 hr i ((yj_ l).length - 1) hil Xt0 Xt0
       rw [List.getElem?_eq_getElem hil] at hi
       rw [List.getElem?_eq_getElem Xt0] at hl
       rw [Option.some.inj hi, Option.some.inj hl] at this
       exact this
     rw [yD_ h5] at hlt
     cases hlt
theorem sizeOf134 (W : World) : ((sizeOf (prog.elem 134)).run prog W) = .ok 1 W := by
 obtain ⟨i0, hi0, hz0, hz1, hz2⟩ := info_parts info9
 have hel : prog.elem 134 = 9 := by simp [Program.elem, underlying134]
 rw [hel]; simp [sizeOf, typeInfo, hi0, hz1]
theorem hi134 (W : World) (a : Option Addr) (n c i : Nat) (hi : i <= n) (hnc : n <= c) : (Instr.slice 134 (.slice a n c) .none (some (.int .i64 (i : Int))) .none).run prog W = .ok (.slice a i c) W := by
 have hel : prog.elem 134 = 9 := by simp [Program.elem, underlying134]
 rw [run_slice_h (P := prog) (w := W) 134 a n c (by rw [hel]; exact underlying134) .i64 i Xt0 Xt0, sizeOf134]
 exact Xb109
theorem lo134 (W : World) (g n c i : Nat) (hi : i < n) (hnc : n <= c) : (Instr.slice 134 (.slice (some ⟨g, 0, none⟩) n c) (some (.int .i64 (i : Int))) .none .none).run prog W = .ok (.slice (some ⟨g, i, none⟩) (n - i) (c - i)) W := by
 have hel : prog.elem 134 = 9 := by simp [Program.elem, underlying134]
 rw [run_slice_l (P := prog) (w := W) 134 (some ⟨g, 0, none⟩) n c (by rw [hel]; exact underlying134) .i64 i Xt0 Xt0, sizeOf134]
 have hci : ¬ c = i := by omega
 by_cases h0 : i = 0
 ·subst h0; simp [sliced, Result.andThen, Addr.add]
 ·simp [sliced, Result.andThen, Addr.add, hci, h0]
theorem clear134 (W : World) (ty : TypeId) (g o n c : Nat) (hn : 0 < n) (hc : ∀ j, j < n -> (W.cell? ⟨g, o + j, none⟩).isSome = true) (hf : ∀ j, j < n -> W.frozen? ⟨g, o + j, none⟩ = false) :
  ∃ vs, (Builtin.clear_ #[134] ty #[.slice (some ⟨g, o, none⟩) n c]).run prog W = .ok (.tuple #[]) (W.setCells g o vs) := by
 obtain ⟨i0, hi, hz0, hz1, hz2⟩ := info_parts info9
 refine ⟨(Builtin.zeroCells #[.string ⟨#[]⟩] n).toList, ?_⟩
 have hv : (zeroValue 9).run prog W = .ok (.string ⟨#[]⟩) W := by simp [zeroValue, typeInfo, hi, hz0]
 have hst := run_storeCells_cells (P := prog) g o (Builtin.zeroCells #[.string ⟨#[]⟩] n).toList 0 W (by simpa [Builtin.zeroCells] using hc) (by simpa [Builtin.zeroCells] using hf) (by
  intro v hv'
  simp only [Builtin.zeroCells, Array.toList_map, List.mem_map] at hv'
  obtain ⟨j, _, rfl⟩ := hv'
  simp [Nat.mod_one, Value.oneCell'])
 simp only [Nat.add_zero] at hst
 obtain ⟨m, rfl⟩ : ∃ m, n = m + 1 := ⟨n - 1, by omega⟩
 simp [Builtin.clear_, run_underlying underlying134, hv, hst, Value.cells]
theorem Off.setCells (g : Nat) : ∀ (vs : List Value) (o : Nat) (W : World), Off (fun k => k = g) W (W.setCells g o vs)
 | [], o, W => Off.refl _ W
 | v :: vs, o, W => Off.trans (Off.set (S := fun k => k = g) (Off.refl _ W) ⟨g, o, none⟩ rfl v) (Off.setCells g vs (o + 1) _)
def StR (W : World) (a : Option Addr) (L : List (List Int)) : Prop := ∀ (k : Nat) (K : List Int), L[k]? = some K -> ∃ g, a = some ⟨g, 0, none⟩ /\ W.cell? ⟨g, k, none⟩ = some (.string (strOfNums K))
theorem StR.below {W W' : World} {a : Option Addr} {L : List (List Int)} (h : StR W a L) (hb : Below W.heap.size W W') : StR W' a L := fun k K hk => by
 obtain ⟨g, e, c⟩ := h k K hk
 exact ⟨g, e, tcb hb c⟩
theorem own_str {W : World} {base n c : Nat} {a : Option Addr} {L : List (List Int)} (h : W.ownsRow base 9 1 (.slice a n c) n (cellsOf skv L)) (hn : L.length = n) : StR W a L := fun k K hk => by
 obtain ⟨g, e, _, hc⟩ := zt_ jU_ Xt0 h hn k K hk
 refine ⟨g, e, ?_⟩
 have := hc 0 Xt0
 exact Xb62
theorem yO_ (L : List (List Int)) (k : Nat) : (cellsOf skv L)[k]? = L[k]?.map fun K => Value.string (strOfNums K) := by
 cases h : L[k]? with
 | none =>
  rw [List.getElem?_eq_none_iff] at h
  show _ = none
  rw [List.getElem?_eq_none_iff, zK_ jU_]; omega
 | some K =>
  have := z4_ jU_ L k 0 K h Xt0
  rw [Nat.mul_one, Nat.add_zero] at this
  rw [this]; rfl
theorem skv_set (L : List (List Int)) (k : Nat) (K : List Int) (hk : k < L.length) : (cellsOf skv L).set k (.string (strOfNums K)) = cellsOf skv (L.set k K) := by
 have := q8_ jU_ Xt0 L k 0 (L[k]) K (.string (strOfNums K)) (List.getElem?_eq_getElem hk) Xt0 rfl
 exact Xb62
def CmR (v0 : Value) (S : List (List Int)) (w : World) (r : Ending) (w' : World) : Prop := ∃ a c, r = .returned (.slice a (yj_ S).length c) /\ StR w' a (yj_ S) /\ Off (fun k => v0.ownBlock = some k) w w'
theorem str_eqB {A B : List Int} (ha : Byt A) (hb : Byt B) : ((strOfNums A).toList == (strOfNums B).toList) = decide (A = B) := by
 by_cases e : A = B
 ·subst e; simp
 ·rw [decide_eq_false e, beq_eq_false_iff_ne]
  intro h
  refine e (xG_ ha hb ?_)
  rw [ByteArray.toList_eq, ByteArray.toList_eq] at h
  exact ByteArray.ext (by simpa using h)
theorem q6_ {S : List (List Int)} (h : S.length < 2) : yj_ S = S := by
 match S, h with
 | [], _ => rfl
 | [x], _ => rfl
 | x :: y :: r, h => exact absurd h Xt5
theorem compact_law (base : Nat) (a : Option Addr) (n c : Nat) (S : List (List Int)) (hn : S.length = n) (hn2 : n <= 2000000) (bS : ∀ K ∈ S, Byt K) (w : World) (how : w.ownsRow base 9 1 (.slice a n c) n (cellsOf skv S)) :
  Calls prog 113 #[.slice a n c] w (CmR (.slice a n c) S w) := by
 have HN := hid hn
 have HBS := hid bS
 have hnI : (n : Int) <= 2000000 := by omega
 by_cases h2 : n < 2
 ·have d1 : (n : Int) < 2 := by omega
  have HST := hid (own_str how hn)
  have HC := hid (q6_ (S := S) (by rw [hn]; exact h2))
  clear hn bS how h2
  go_enter func113, ntmps113
  go_wp2_with fail
  go_ret
  exact ⟨a, c, by rw [HC.out, HN.out]; rfl, by rw [HC.out]; exact HST.out, Off.refl _ _⟩
 ·have d1 : ¬ (n : Int) < 2 := by omega
  obtain ⟨g, cap, e⟩ : ∃ g cap, Value.slice a n c = .slice (some ⟨g, 0, none⟩) n cap := by
   rcases how.2 with ⟨e0, h0⟩ | ⟨g, cap, cur, e0, _⟩
   ·omega
   ·exact ⟨g, cap, e0⟩
  injection e with e1 e2 e3
  subst e1 e3
  have hcn := (zJ_ how).1
  have HOW := hid how
  have HG := hid (show ∀ k, (fun k => k = g) k -> (fun k => Value.ownBlock (.slice (some ⟨g, 0, none⟩) n c) = some k) k from fun k hk => by cases hk; rfl)
  clear hn bS how
  go_enter func113, ntmps113
  go_wp2_with fail
  go_loopw [3] (fun i wr => ∃ k : Nat, 1 <= k /\ k <= n /\ i = .int .i64 (k : Int) /\ Hid (yj_ (S.take k) = S.take k) /\ Hid (Below w.heap.size w wr)) (fun i _ => n - (intOf i).toNat)
  case atStart => exact ⟨1, by omega, by omega, rfl, hid (q6_ (by rw [List.length_take]; omega)), hid (Below.refl _ _)⟩
  case round =>
   obtain ⟨k, hk1, hk, rfl, HCK, HBW⟩ := hrel
   by_cases hlt : k < n
   ·have d2 : (k : Int) < (n : Int) := by omega
    have d3 : ¬ (k : Int) < 0 := by omega
    have d4 : ¬ (k : Int) - 1 < 0 := by omega
    have d5 : (k : Int) - 1 < (n : Int) := by omega
    have d7 : k - 1 < n := by omega
    have d6 : ((k : Int) - 1).toNat = k - 1 := by omega
    have w1 : IntKind.i64.wrap ((k : Int) - 1) = ((k - 1 : Nat) : Int) := by rw [IntKind.wrap_i64]; omega
    obtain ⟨X, hX⟩ : ∃ X, S[k]? = some X := ⟨_, List.getElem?_eq_getElem Xt8⟩
    obtain ⟨Y, hY⟩ : ∃ Y, S[k - 1]? = some Y := ⟨_, List.getElem?_eq_getElem Xt18⟩
    have HC6 := hid (fun W (b : Below wr.heap.size wr W) => (by
     have ow := ze_ HOW.out (HBW.out.trans (b.mono HBW.out.size))
     refine ⟨?_, ?_⟩
     ·rw [ow.cellAt k Xt0, yO_, hX]; rfl
     ·rw [ow.cellAt (k - 1) Xt0, yO_, hY]; rfl : W.cell? ⟨g, k, none⟩ = some (.string (strOfNums X)) /\ W.cell? ⟨g, k - 1, none⟩ = some (.string (strOfNums Y))))
    have HT := hid (jJ_ S hX Xt0 hY)
    have hxb := HBS.out X (List.mem_of_getElem? hX)
    have hyb := HBS.out Y (List.mem_of_getElem? hY)
    have heq := str_eqB hxb hyb
    have HXY := hid (And.intro hX hY)
    clear hX hY hxb hyb
    by_cases e : X = Y
    ·rw [decide_eq_true e] at heq
     have hnp : (strOfNums X).toList = (strOfNums Y).toList := by rw [e]
     go_upto_region 6 with (fail)
     refine rgw wr (Below.refl _ _).drew fun hH => ?_
     refine tkq3 0 1 2 ?_
     refine tkr 3 rfl (fun W hSw => by have m := (HC6.out W hSw).1; exact tks) ?_
     refine tkq4 4 5 6 7 ?_
     refine tkr 8 rfl (fun W hSw => by have m := (HC6.out W hSw).2; exact tks) ?_
     refine tkq 9 ?_
     refine adn ?_
     skip
     have HB6 := hid (HBW.out.trans (hH.mono HBW.out.size))
     have hlo := fun W => lo134 W g n c k hlt hcn
     have HK := hid (HT.out.trans (by rw [if_pos e, HCK.out]))
     have HKL := hid (show (S.take k).length = k by rw [List.length_take, HN.out]; omega)
     have hn3 : ((n - k : Nat) : Int) <= 2000000 := by omega
     clear hH heq hnp e d4 d5 d6 d7 w1 d2 d3
     go_wp2_with fail
     clear hlo
     go_loopw [3, 5] (fun i j wr => ∃ (kw q : Nat) (C : List (List Int)), 1 <= q /\ k + q <= n /\ 1 <= kw /\ kw <= k + q - 1 /\ i = .int .i64 (kw : Int) /\ j = .int .i64 (q : Int) /\ Hid (C.length = n) /\ Hid (C.take kw = yj_ (S.take (k + q))) /\ Hid (C.drop (k + q - 1) = S.drop (k + q - 1)) /\ Hid (wr.ownsRow base 9 1 (.slice (some ⟨g, 0, none⟩) n c) n (cellsOf skv C)) /\ Hid (Off (fun k => k = g) w wr)) (fun _ j _ => n - (intOf j).toNat)
     case atStart => exact ⟨k, 1, S, by omega, by omega, hk1, by omega, rfl, rfl, HN, hid HK.out.symm, hid rfl, hid (ze_ HOW.out HB6.out), hid (Off.of HB6.out)⟩
     case round =>
      obtain ⟨kw, q, C, hq1, hqn, hkw1, hkw, rfl, rfl, HCN, HCT, HCD, HOC, HOF⟩ := hrel
      by_cases hlt2 : k + q < n
      ·have e1 : (q : Int) < ((n - k : Nat) : Int) := by omega
       have e1' : q < n - k := by omega
       have e2 : ¬ (q : Int) < 0 := by omega
       have e3 : ¬ (q : Int) - 1 < 0 := by omega
       have e4 : (q : Int) - 1 < ((n - k : Nat) : Int) := by omega
       have e5 : ((q : Int) - 1).toNat = q - 1 := by omega
       have e6 : q - 1 < n - k := by omega
       have w1 : IntKind.i64.wrap ((q : Int) - 1) = ((q - 1 : Nat) : Int) := by rw [IntKind.wrap_i64]; omega
       obtain ⟨X2, hX⟩ : ∃ X, S[k + q]? = some X := ⟨_, List.getElem?_eq_getElem (by rw [HN.out]; exact hlt2)⟩
       obtain ⟨Y2, hY⟩ : ∃ X, S[k + q - 1]? = some X := ⟨_, List.getElem?_eq_getElem Xt18⟩
       have hcx : C[k + q]? = some X2 := by
        have h1 : (C.drop (k + q - 1))[1]? = (S.drop (k + q - 1))[1]? := by rw [HCD.out]
        rw [List.getElem?_drop, List.getElem?_drop, show k + q - 1 + 1 = k + q by omega, hX] at h1
        exact h1
       have hcy : C[k + (q - 1)]? = some Y2 := by
        have h1 : (C.drop (k + q - 1))[0]? = (S.drop (k + q - 1))[0]? := by rw [HCD.out]
        rw [List.getElem?_drop, List.getElem?_drop, Nat.add_zero, hY] at h1
        rw [show k + (q - 1) = k + q - 1 by omega]
        exact h1
       have HC11 := hid (fun W (b : Below wr.heap.size wr W) => (by
        have ow := ze_ HOC.out b
        refine ⟨?_, ?_⟩
        ·rw [ow.cellAt (k + q) Xt0, yO_, hcx]; rfl
        ·rw [ow.cellAt (k + (q - 1)) Xt0, yO_, hcy]; rfl : W.cell? ⟨g, k + q, none⟩ = some (.string (strOfNums X2)) /\ W.cell? ⟨g, k + (q - 1), none⟩ = some (.string (strOfNums Y2))))
       have HT2 := hid (jJ_ S hX Xt0 hY)
       have heq := str_eqB (HBS.out X2 (List.mem_of_getElem? hX)) (HBS.out Y2 (List.mem_of_getElem? hY))
       have HX2 := hid hX
       have HCX := hid hcx
       have HD2 := hid (show C.drop (k + (q + 1) - 1) = S.drop (k + (q + 1) - 1) by
        have h1 : (C.drop (k + q - 1)).drop 1 = (S.drop (k + q - 1)).drop 1 := by rw [HCD.out]
        rw [List.drop_drop, List.drop_drop, show k + q - 1 + 1 = k + (q + 1) - 1 by omega] at h1
        exact h1)
       clear hX hY hcx hcy
       by_cases ee : X2 = Y2
       ·rw [decide_eq_true ee] at heq
        have hnp : (strOfNums X2).toList = (strOfNums Y2).toList := by rw [ee]
        have HV2 := hid (HT2.out.trans (if_pos ee))
        clear ee
        go_upto_region 11 with (fail)
        refine rgw wr (Below.refl _ _).drew fun hH => ?_
        refine tkq3 0 1 2 ?_
        refine tkr 3 rfl (fun W hSw => by have m := (HC11.out W hSw).1; exact tks) ?_
        refine tkq4 4 5 6 7 ?_
        refine tkr 8 rfl (fun W hSw => by have m := (HC11.out W hSw).2; exact tks) ?_
        refine tkq 9 ?_
        refine adn ?_
        skip
        have HB7 := hid hH
        clear hH
        go_wp2_with fail
        go_roundw
        case rel => exact ⟨kw, q + 1, C, by omega, by omega, hkw1, by omega, rfl, by go_num, HCN, hid (by rw [show k + (q + 1) = k + q + 1 by omega, HV2.out]; exact HCT.out), HD2, hid (ze_ HOC.out HB7.out), hid (HOF.out.then HB7.out)⟩
        case measure => simp [intOf]; omega
       ·rw [decide_eq_false ee] at heq
        have hnp : ¬ (strOfNums X2).toList = (strOfNums Y2).toList := beq_eq_false_iff_ne.1 heq
        have HV2 := hid (HT2.out.trans (if_neg ee))
        clear ee
        go_upto_region 11 with (fail)
        refine rgw wr (Below.refl _ _).drew fun hH => ?_
        refine tkq3 0 1 2 ?_
        refine tkr 3 rfl (fun W hSw => by have m := (HC11.out W hSw).1; exact tks) ?_
        refine tkq4 4 5 6 7 ?_
        refine tkr 8 rfl (fun W hSw => by have m := (HC11.out W hSw).2; exact tks) ?_
        refine tkq 9 ?_
        refine adn ?_
        skip
        obtain ⟨w6, hw6⟩ := gty (wr.drew)
        rw [← hw6] at hH ⊢
        have ow := ze_ HOC.out hH
        obtain ⟨Z, hZ⟩ : ∃ Z, C[kw]? = some Z := ⟨_, List.getElem?_eq_getElem (by rw [HCN.out]; omega)⟩
        have x1 : w6.cell? ⟨g, k + q, none⟩ = some (.string (strOfNums X2)) := (HC11.out w6 hH).1
        have x2 : w6.cell? ⟨g, kw, none⟩ = some (.string (strOfNums Z)) := by rw [ow.cellAt kw Xt0, yO_, hZ]; rfl
        have f2 := ow.frozenAt kw
        have i1 : (kw : Int) < (n : Int) := by omega
        have i2 : ¬ (kw : Int) < 0 := by omega
        have hst := (ow.stored kw (.string (strOfNums X2))).1
        rw [skv_set C kw X2 (by rw [HCN.out]; omega)] at hst
        have HST := hid hst
        have HOF6 := hid (Off.set (S := fun k => k = g) (HOF.out.then hH) ⟨g, kw, none⟩ rfl (.string (strOfNums X2)))
        clear hH hw6 ow hZ hst
        go_wp2_with fail
        go_roundw
        case rel =>
         refine ⟨kw + 1, q + 1, C.set kw X2, by omega, by omega, by omega, by omega, by go_num, by go_num, hid (by rw [List.length_set]; exact HCN.out), hid ?_, hid ?_, HST, HOF6⟩
         ·rw [show k + (q + 1) = k + q + 1 by omega, HV2.out, ← HCT.out, List.take_add_one, List.take_set_of_le (Nat.le_refl _), List.getElem?_set_self (by rw [HCN.out]; omega)]
          rfl
         ·rw [List.drop_set_of_lt Xt0]
          exact HD2.out
        case measure => simp [intOf]; omega
      ·have e1 : ¬ (q : Int) < ((n - k : Nat) : Int) := by omega
       have hqe : k + q = n := by omega
       have hlo := fun W => lo134 W g n c kw Xt0 hcn
       have hhi := fun W => hi134 W (some ⟨g, 0, none⟩) n c kw Xt0 hcn
       obtain ⟨vs, hcl⟩ := clear134 wr 0 g kw (n - kw) (c - kw) Xt0 (fun j hj => by
        rw [HOC.out.cellAt (kw + j) Xt0, yO_, List.getElem?_eq_getElem (by rw [HCN.out]; omega)]; rfl) (fun j hj => HOC.out.frozenAt (kw + j))
       have HV := hid (show C.take kw = yj_ S by
        have := HCT.out
        rw [hqe] at this
        rw [this, List.take_of_length_le Xt80])
       have HO := hid (HOF.out.trans (Off.setCells g vs kw wr))
       have HRD := hid (own_str HOC.out HCN.out)
       go_wp2_with fail
       go_ret
       have hl : (yj_ S).length = kw := by rw [← HV.out, List.length_take, HCN.out]; omega
       refine ⟨some ⟨g, 0, none⟩, c, by rw [hl]; rfl, fun j K hj => ?_, HO.out.mono HG.out⟩
       have hjl := (List.getElem?_eq_some_iff.1 hj).1
       rw [hl] at hjl
       rw [← HV.out, List.getElem?_take, if_pos hjl] at hj
       obtain ⟨g', eg, hc⟩ := HRD.out j K hj
       cases eg
       refine ⟨g, rfl, ?_⟩
       rw [World.cell?_setCells_out g vs kw wr ⟨g, j, none⟩ (fun _ _ => .inl hjl)]
       exact hc
    ·rw [decide_eq_false e] at heq
     have hnp : ¬ (strOfNums X).toList = (strOfNums Y).toList := beq_eq_false_iff_ne.1 heq
     have HE := hid e
     clear e
     go_upto_region 6 with (fail)
     refine rgw wr (Below.refl _ _).drew fun hH => ?_
     refine tkq3 0 1 2 ?_
     refine tkr 3 rfl (fun W hSw => by have m := (HC6.out W hSw).1; exact tks) ?_
     refine tkq4 4 5 6 7 ?_
     refine tkr 8 rfl (fun W hSw => by have m := (HC6.out W hSw).2; exact tks) ?_
     refine tkq 9 ?_
     refine adn ?_
     skip
     have HB6 := hid (HBW.out.trans (hH.mono HBW.out.size))
     clear hH
     go_wp2_with fail
     go_roundw
     case rel => exact ⟨k + 1, by omega, by omega, by go_num, hid (by rw [HT.out, if_neg HE.out, HCK.out, List.take_add_one, HXY.out.1]; rfl), HB6⟩
     case measure => simp [intOf]; omega
   ·have d2 : ¬ (k : Int) < (n : Int) := by omega
    have HV := hid (show yj_ S = S by
     have := HCK.out
     rw [List.take_of_length_le Xt18] at this
     exact this)
    have HST := hid (own_str (ze_ HOW.out HBW.out) HN.out)
    go_wp2_with fail
    go_ret
    exact ⟨some ⟨g, 0, none⟩, c, by rw [HV.out, HN.out]; rfl, by rw [HV.out]; exact HST.out, Off.of HBW.out⟩
end
section
open Go.Shelf
def Tryz.sort112_ren : Go.Shelf.Ren := ⟨fun | 6 => 112 | 8 => 131 | 9 => 135 | 19 => 151 | 20 => 152 | 21 => 154 | 22 => 155 | 23 => 156 | 24 => 157 | 25 => 158 | 26 => 159 | 27 => 160 | 28 => 161 | 29 => 162 | 36 => 179 | 31 => 175 | 32 => 176 | 37 => 180 | 38 => 181 | 39 => 182 | 41 => 187 | n => n, fun | 27 => 134 | 29 => 9 | 3 => 3 | 32 => 202 | 26 => 134 | 0 => 0 | 44 => 226 | 46 => 228 | 4 => 4 | 36 => 220 | 35 => 219 | 41 => 111 | 5 => 5 | 9 => 9 | 53 => 244 | 57 => 248 | 63 => 254 | 64 => 203 | n => n, fun | n => n⟩
theorem Tryz.sort112 : Go.Proofs.SlLaysM.n6 prog Tryz.sort112_ren := {
 mixed := by kernel_rfl
 f6 := ⟨f112.name, by decide, func112.trans (congrArg some Xt3)⟩
 f8 := func131.trans (congrArg some Xt3)
 f9 := ⟨f135.name, by decide, func135.trans (congrArg some Xt3)⟩
 f19 := func151.trans (congrArg some Xt3)
 f20 := func152.trans (congrArg some Xt3)
 f21 := ⟨f154.name, by decide, func154.trans (congrArg some Xt3)⟩
 f22 := ⟨f155.name, by decide, func155.trans (congrArg some Xt3)⟩
 f23 := ⟨f156.name, by decide, func156.trans (congrArg some Xt3)⟩
 f24 := ⟨f157.name, by decide, func157.trans (congrArg some Xt3)⟩
 f25 := ⟨f158.name, by decide, func158.trans (congrArg some Xt3)⟩
 f26 := ⟨f159.name, by decide, func159.trans (congrArg some Xt3)⟩
 f27 := ⟨f160.name, by decide, func160.trans (congrArg some Xt3)⟩
 f28 := ⟨f161.name, by decide, func161.trans (congrArg some Xt3)⟩
 f29 := ⟨f162.name, by decide, func162.trans (congrArg some Xt3)⟩
 f31 := func175.trans (congrArg some Xt3)
 f32 := func176.trans (congrArg some Xt3)
 f36 := ⟨f179.name, by decide, func179.trans (congrArg some Xt3)⟩
 f37 := ⟨f180.name, by decide, func180.trans (congrArg some Xt3)⟩
 f38 := ⟨f181.name, by decide, func181.trans (congrArg some Xt3)⟩
 f39 := ⟨f182.name, by decide, func182.trans (congrArg some Xt3)⟩
 f41 := ⟨f187.name, by decide, func187.trans (congrArg some Xt3)⟩
 t0 := underlying0
 a0 := Tryz.isAgg0
 z0 := Tryz.sizeOf0
 v0 := Tryz.zeroValue0
 t3 := underlying3
 a3 := Tryz.isAgg3
 z3 := Tryz.sizeOf3
 v3 := Tryz.zeroValue3
 t4 := underlying4
 a4 := Tryz.isAgg4
 z4 := Tryz.sizeOf4
 v4 := Tryz.zeroValue4
 t5 := underlying5
 a5 := Tryz.isAgg5
 z5 := Tryz.sizeOf5
 v5 := Tryz.zeroValue5
 t9 := underlying9
 a9 := Tryz.isAgg9
 z9 := Tryz.sizeOf9
 v9 := Tryz.zeroValue9
 t26 := underlying134
 a26 := Tryz.isAgg134
 z26 := Tryz.sizeOf134
 v26 := Tryz.zeroValue134
 t27 := underlying134
 a27 := Tryz.isAgg134
 z27 := Tryz.sizeOf134
 v27 := Tryz.zeroValue134
 t29 := underlying9
 a29 := Tryz.isAgg9
 z29 := Tryz.sizeOf9
 v29 := Tryz.zeroValue9
 t32 := underlying202
 a32 := Tryz.isAgg202
 z32 := Tryz.sizeOf202
 v32 := Tryz.zeroValue202
 t35 := underlying219
 a35 := Tryz.isAgg219
 z35 := Tryz.sizeOf219
 v35 := Tryz.zeroValue219
 t36 := underlying220
 a36 := Tryz.isAgg220
 z36 := Tryz.sizeOf220
 v36 := Tryz.zeroValue220
 t41 := underlying111
 a41 := Tryz.isAgg111
 z41 := Tryz.sizeOf111
 v41 := Tryz.zeroValue111
 t44 := underlying226
 a44 := Tryz.isAgg226
 z44 := Tryz.sizeOf226
 v44 := Tryz.zeroValue226
 t46 := underlying228
 a46 := Tryz.isAgg228
 z46 := Tryz.sizeOf228
 v46 := Tryz.zeroValue228
 t53 := underlying244
 a53 := Tryz.isAgg244
 z53 := Tryz.sizeOf244
 v53 := Tryz.zeroValue244
 t57 := underlying248
 a57 := Tryz.isAgg248
 z57 := Tryz.sizeOf248
 v57 := Tryz.zeroValue248
 t63 := underlying254
 a63 := Tryz.isAgg254
 z63 := Tryz.sizeOf254
 v63 := Tryz.zeroValue254
 t64 := underlying203
 a64 := Tryz.isAgg203
 z64 := Tryz.sizeOf203
 v64 := Tryz.zeroValue203 }
end
section
open Go.Maps Go.Sort Go.Shelf
def kb (K : List Int) : List UInt8 := K.map fun x => UInt8.ofNat x.toNat
theorem enc_kb (K : List Int) : encStr (kb K) = .string (strOfNums K) := by
 have h : (strOfNums K).data.toList = kb K := by rw [← ByteArray.toList_eq]; exact yS_ K
 unfold encStr
 congr 1
theorem le_bl : ∀ x y : List UInt8, decide (x <= y) = !Op.bytesLess y x
 | [], y => by cases y <;> simp [Op.bytesLess]
 | a :: r, [] => by
  have : ¬ (a :: r <= []) := by simp
  rw [decide_eq_false this]; rfl
 | a :: r, b :: s => by
  have ih := le_bl r s
  show _ = !(decide (b < a) || ((b == a) && Op.bytesLess s r))
  rw [Bool.eq_iff_iff, decide_eq_true_eq, List.cons_le_cons_iff]
  rw [Bool.eq_iff_iff, decide_eq_true_eq] at ih
  constructor
  ·rintro (h | ⟨h, h2⟩)
   ·have h1 : ¬ b < a := by rw [UInt8.lt_iff_toNat_lt] at *; omega
    have h3 : (b == a) = false := by rw [beq_eq_false_iff_ne]; rintro rfl; exact absurd h (by rw [UInt8.lt_iff_toNat_lt]; omega)
    simp [h1, h3]
   ·subst h
    have h1 : ¬ a < a := by rw [UInt8.lt_iff_toNat_lt]; omega
    rw [ih] at h2
    simp [h1] at h2 ⊢
    exact h2
  ·intro h
   simp only [Bool.not_eq_true', Bool.or_eq_false_iff, decide_eq_false_iff_not, Bool.and_eq_false_iff] at h
   obtain ⟨h1, h2⟩ := h
   by_cases e : a = b
   ·subst e
    refine .inr ⟨rfl, ih.2 ?_⟩
    rcases h2 with h2 | h2
    ·simp at h2
    ·simp [h2]
   ·refine .inl ?_
    rw [UInt8.lt_iff_toNat_lt] at *
    have : a.toNat ≠ b.toNat := fun e2 => e (UInt8.toNat_inj.1 e2)
    omega
def leL (a b : List Int) : Bool := !ltL b a
theorem x9_ (a b c : List Int) (h : leL a b = true) (k : leL b c = true) : leL a c = true := by
 unfold leL at *
 simp only [Bool.not_eq_true'] at *
 cases hc : ltL c a
 ·rfl
 ·exfalso
  by_cases e : b = c
  ·subst e; rw [hc] at h; cases h
  ·have := x8_ k e
   have := zF_ this hc
   rw [h] at this; cases this
theorem QU_ (a b : List Int) : (leL a b || leL b a) = true := by
 unfold leL
 cases h : ltL b a
 ·rfl
 ·rw [yD_ h]; rfl
theorem sort_kb {L : List (List Int)} (hb : ∀ K ∈ L, Byt K) : (L.mergeSort leL).map kb = (L.map kb).mergeSort fun x y => decide (x <= y) := by
 refine List.map_mergeSort fun a ha b hb' => ?_
 rw [le_bl]
 unfold leL
 rw [show Op.bytesLess (kb b) (kb a) = ltL b a from j6_ (hb b hb') (hb a ha)]
theorem cells_kb (L : List (List Int)) : cellsOf skv L = (L.map kb).map encStr := by
 unfold cellsOf
 induction L with
 | nil => rfl
 | cons x r ih => rw [List.map_cons, List.flatten_cons, ih, List.map_cons, List.map_cons, enc_kb]; rfl
theorem sort_law (base : Nat) (a : Option Addr) (n c : Nat) (L : List (List Int)) (hn : L.length = n) (hn2 : n <= 2000000) (bL : ∀ K ∈ L, Byt K) (w : World) (how : w.ownsRow base 9 1 (.slice a n c) n (cellsOf skv L)) :
  Calls prog 112 #[.slice a n c] w fun r w' => r = .returned (.tuple #[]) /\ w'.ownsRow base 9 1 (.slice a n c) n (cellsOf skv (L.mergeSort leL)) /\ Off (fun k => Value.ownBlock (.slice a n c) = some k) w w' := by
 subst hn
 by_cases h0 : L.length = 0
 ·have hl : L = [] := List.length_eq_zero_iff.1 h0
  subst hl
  refine (AnyM.slices_Sort_string_none Tryz.sort112 a c w).mono ?_
  rintro r w' ⟨rfl, rfl⟩
  exact ⟨rfl, by simpa using how, Off.refl _ _⟩
 ·rcases how.2 with ⟨e0, h1⟩ | ⟨g, cap, cur, e0, hb, hg, hc, hm, hs, ht⟩
  ·exact absurd h1 h0
  ·injection e0 with e1 e2 e3
   subst e1 e3
   have hk : (L.map kb).length = L.length := List.length_map _
   have hH : Go.Sort.Holds encStr w g 0 (L.map kb).toArray := holds_of_block hg (by rw [hk, ← cells_kb, ← Nat.mul_one L.length]; exact ht)
   have hC := AnyM.slices_Sort_string Tryz.sort112 g 0 c (L.map kb) w hH (Array.getElem?_eq_some_iff.1 hg).1 (by rw [hk]; omega)
   rw [hk] at hC
   refine hC.mono ?_
   rintro r w' ⟨rfl, m, os, rfl⟩
   rw [← sort_kb bL]
   refine ⟨rfl, ?_, Off.of_row (grownBy_sorted _)⟩
   have := ownsRow_sorted (w := w) (n := m) (os := os) (ss := L.map kb) (ts := (L.mergeSort leL).map kb) (by rw [List.length_map, List.length_map, List.length_mergeSort]) hb hg (by rw [hk]; exact hc) hm hs
   rw [hk] at this
   rw [cells_kb]
   exact this
theorem sorted_le (L : List (List Int)) : (L.mergeSort leL).Pairwise fun a b => ltL b a = false :=
 (List.pairwise_mergeSort x9_ QU_ L).imp fun {a b} h => by unfold leL at h; simpa using h
end
section
open Go.Maps
def wI (w : Nat × List Int × List (List Int)) : Int × List Int × List (List Int) := ((w.1 : Int), w.2.1, w.2.2)
def yo_ (T : List (List Pr)) (ws : List (Nat × List Int × List (List Int))) : List (List Pr) := yu_ T (ws.map wI)
theorem xt_ (T : List (List Pr)) (ws : List (Nat × List Int × List (List Int))) (w : Nat × List Int × List (List Int)) : yo_ T (ws ++ [w]) = (yo_ T ws).modify w.1 fun t => xT_ t w.2.1 w.2.2 := by
 unfold yo_ yu_
 rw [List.map_append, List.foldl_append]
 rfl
theorem xe_ (T : List (List Pr)) (ws : List (Nat × List Int × List (List Int))) : (yo_ T ws).length = T.length := by
 induction ws using zV_ with
 | nil => rfl
 | append_singleton ws w ih => rw [xt_, List.length_modify, ih]
theorem xP_ (T : List (List Pr)) (n : Nat) (f : List Pr -> List Pr) (t : Nat) (hn : n < T.length) : (T.modify n f).getD t [] = if n = t then f (T.getD t []) else T.getD t [] := by
 rw [List.getD_eq_getElem?_getD, List.getElem?_modify, List.getD_eq_getElem?_getD]
 by_cases e : n = t
 ·subst e
  rw [if_pos rfl]
  rw [List.getElem?_eq_getElem hn]
  simp
 ·rw [if_neg e]
  cases T[t]? <;> simp [e]
theorem x6_ {T : List (List Pr)} (h : ∀ t, z1_ (T.getD t [])) (ws : List (Nat × List Int × List (List Int))) (hw : ∀ w ∈ ws, w.1 < T.length) (t : Nat) : z1_ ((yo_ T ws).getD t []) := by
 induction ws using zV_ with
 | nil => exact h t
 | append_singleton ws w ih =>
  have ih := ih fun v hv => hw v (List.mem_append_left _ hv)
  rw [xt_, xP_ _ _ _ _ (by rw [xe_]; exact hw w Xt5)]
  split
  ·exact qP_ ih _ _
  ·exact ih
theorem yz_ {T : List (List Pr)} (h : ∀ t, z1_ (T.getD t [])) (ws : List (Nat × List Int × List (List Int))) (hw : ∀ w ∈ ws, w.1 < T.length) (hd : ws.Pairwise fun a b => ¬ (a.1 = b.1 /\ a.2.1 = b.2.1)) (t : Nat) (K : List Int) : y9_ ((yo_ T ws).getD t []) K = y8_ T ws t K := by
 induction ws using zV_ with
 | nil => rfl
 | append_singleton ws w ih =>
  obtain ⟨hd1, _, hd3⟩ := List.pairwise_append.1 hd
  have hw1 : ∀ v ∈ ws, v.1 < T.length := fun v hv => hw v (List.mem_append_left _ hv)
  have ih := ih hw1 hd1
  rw [xt_, xP_ _ _ _ _ (by rw [xe_]; exact hw w Xt5)]
  unfold y8_ at ih ⊢
  rw [List.find?_append]
  cases hf : ws.find? (fun w => decide (w.1 = t /\ w.2.1 = K)) with
  | some v =>
   rw [hf] at ih
   have hp := List.find?_some hf
   simp only [decide_eq_true_eq] at hp
   have hne := hd3 v (List.mem_of_find?_eq_some hf) w Xt5
   show _ = if v.2.2 = [] then none else some v.2.2
   have ih : y9_ ((yo_ T ws).getD t []) K = if v.2.2 = [] then none else some v.2.2 := ih
   by_cases e : w.1 = t
   ·rw [if_pos e, Qc_ (x6_ h ws hw1 t), if_neg (fun e2 => hne ⟨by rw [hp.1, e], by rw [hp.2, e2]⟩), ih]
   ·rw [if_neg e, ih]
  | none =>
   rw [hf] at ih
   have ih : y9_ ((yo_ T ws).getD t []) K = y9_ (T.getD t []) K := ih
   by_cases e : w.1 = t
   ·rw [if_pos e, Qc_ (x6_ h ws hw1 t)]
    by_cases e2 : K = w.2.1
    ·rw [if_pos e2, List.find?_cons_of_pos (by simp [e, e2])]
     rfl
    ·rw [if_neg e2, List.find?_cons_of_neg (by simp [e]; exact fun e3 => e2 e3.symm), ih]
     rfl
   ·rw [if_neg e, List.find?_cons_of_neg (by simp [e]), ih]
    rfl
theorem tab_ext {a b : List Pr} (ha : z1_ a) (hb : z1_ b) (h : ∀ K, y9_ a K = y9_ b K) : a = b := jW_ ha hb fun p => by
 obtain ⟨K, R⟩ := p
 rw [← yq_ ha, ← yq_ hb, h]
theorem TlR.dist {S : Nat -> Prop} {base : Nat} {w : World} {m : Md} {x : Tl} (h : TlR S base w m x) : (x.ws.map WtV.P).Pairwise fun a b => ¬ (a.1 = b.1 /\ a.2.1 = b.2.1) := by
 rw [List.pairwise_map, List.pairwise_iff_getElem]
 intro i j hi hj hij ⟨h1, h2⟩
 have ht := (h.wok x.ws[i] (List.getElem_mem hi)).1
 obtain ⟨y, hy⟩ : ∃ y, x.wm[x.ws[i].t]? = some y := ⟨_, List.getElem?_eq_getElem Xt84⟩
 have e1 := (h.coh _ y hy x.ws[i].K i).2 ⟨_, List.getElem?_eq_getElem hi, rfl, rfl⟩
 have e2 := (h.coh _ y hy x.ws[i].K j).2 ⟨_, List.getElem?_eq_getElem hj, h1.symm, h2.symm⟩
 rw [e1] at e2
 cases e2
 omega
theorem TlR.tin {S : Nat -> Prop} {base : Nat} {w : World} {m : Md} {x : Tl} (h : TlR S base w m x) : ∀ v ∈ x.ws.map WtV.P, v.1 < m.P.length := fun v hv => by
 obtain ⟨z, hz, rfl⟩ := List.mem_map.1 hv
 rw [Md.P_len]
 exact (h.wok z hz).1
theorem MdR.tok {S : Nat -> Prop} {w : World} {m : Md} (h : MdR S w m) (t : Nat) : tOk (m.P.getD t []) := by
 rw [List.getD_eq_getElem?_getD]
 cases ht : m.P[t]? with
 | none => exact ⟨List.Pairwise.nil, fun p hp => by simp at hp⟩
 | some T =>
  have := List.mem_of_getElem? ht
  unfold Md.P at this
  obtain ⟨x, hx, rfl⟩ := List.mem_map.1 this
  exact h.lim x hx
def Tl.T (m : Md) (x : Tl) (t : Nat) : List Pr := (yo_ m.P (x.ws.map WtV.P)).getD t []
theorem TlR.view {S : Nat -> Prop} {base : Nat} {w : World} {m : Md} {x : Tl} (h : TlR S base w m x) {t : Nat} (ht : t < m.tabs.length) (K : List Int) : y9_ (x.T m t) K = (getX m x t K).map RV.P := by
 unfold Tl.T
 rw [yz_ (fun t => (h.md.tok t).1) _ h.tin h.dist t K, getX_P m x ht K]
theorem TlR.tabok {S : Nat -> Prop} {base : Nat} {w : World} {m : Md} {x : Tl} (h : TlR S base w m x) (t : Nat) : z1_ (x.T m t) := x6_ (fun t => (h.md.tok t).1) _ h.tin t
def xA_ (f : List Int -> Option (List (List Int))) (l : List (List Int)) : List Pr := l.filterMap fun K => (f K).map fun R => (K, R)
theorem jw_ (f : List Int -> Option (List (List Int))) (l : List (List Int)) (K : List Int) : xA_ f (l ++ [K]) = match f K with | some R => xA_ f l ++ [(K, R)] | none => xA_ f l := by
 unfold xA_
 rw [List.filterMap_append]
 cases hf : f K with
 | none => simp [hf]
 | some R => simp [hf]
theorem pairL_mem {f : List Int -> Option (List (List Int))} {l : List (List Int)} {p : Pr} : p ∈ xA_ f l ↔ p.1 ∈ l /\ f p.1 = some p.2 := by
 unfold xA_
 rw [List.mem_filterMap]
 constructor
 ·rintro ⟨K, hK, h⟩
  cases hf : f K with
  | none => rw [hf] at h; cases h
  | some R =>
   rw [hf] at h
   cases h
   exact ⟨hK, hf⟩
 ·rintro ⟨h1, h2⟩
  exact ⟨p.1, h1, by rw [h2]; rfl⟩
theorem pairL_ris {f : List Int -> Option (List (List Int))} {l : List (List Int)} (h : Ris id l) : z1_ (xA_ f l) := by
 refine List.Pairwise.filterMap _ (fun a a' haa b hb b' hb' => ?_) h
 cases hf : f a with
 | none => rw [hf] at hb; cases hb
 | some R =>
  cases hf' : f a' with
  | none => rw [hf'] at hb'; cases hb'
  | some R' =>
   rw [hf] at hb
   rw [hf'] at hb'
   cases hb; cases hb'
   exact haa
theorem pairL_eq {T : List Pr} (hT : z1_ T) {l : List (List Int)} (h : Ris id l) (hm : ∀ p ∈ T, p.1 ∈ l) : xA_ (y9_ T) l = T := jW_ (pairL_ris h) hT fun p => by
 rw [pairL_mem, yq_ hT]
 exact ⟨fun h => h.2, fun hp => ⟨hm p hp, hp⟩⟩
theorem pairL_no {f : List Int -> Option (List (List Int))} {Q : List (List Int)} {k : Nat} {K : List Int} (h : Q[k]? = some K) (hf : f K = none) : xA_ f (Q.take (k + 1)) = xA_ f (Q.take k) := by
 rw [List.take_add_one, h]
 show xA_ f (Q.take k ++ [K]) = _
 rw [jw_, hf]
theorem pairL_yes {f : List Int -> Option (List (List Int))} {Q : List (List Int)} {k : Nat} {K : List Int} {R : List (List Int)} (h : Q[k]? = some K) (hf : f K = some R) : xA_ f (Q.take (k + 1)) = xA_ f (Q.take k) ++ [(K, R)] := by
 rw [List.take_add_one, h]
 show xA_ f (Q.take k ++ [K]) = _
 rw [jw_, hf]
theorem AllS.len {α : Type} {L : List (List Int × α)} (hr : Ris Prod.fst L) {ss : List (List Int)} (h : AllS L ss) : ss.length = L.length := by
 have hp : ss.Perm (L.map Prod.fst) := (List.perm_ext_iff_of_nodup h.1 (by
  have := QD_ hr
  rw [List.nodup_iff_pairwise_ne, List.pairwise_map]; exact this)).2 h.2
 rw [hp.length_eq, List.length_map]
def PsR (w : World) (T : List Pr) (r : Ending) (w' : World) : Prop := ∃ a c P, r = .returned (.slice a P.length c) /\ Below w.heap.size w w' /\ P.map prC = T /\ (∀ p ∈ P, zH_ p.K /\ rOk (p.R.map P1.bs)) /\ P.length <= c /\ (a = none -> c = 0) /\ P.length <= 1000000 /\ ∀ S : Nat -> Prop, (∀ k, S k -> k < w.heap.size) -> zs_ S w' fun W' => yg_ W' a P
theorem qj_ {S : Nat -> Prop} {base : Nat} {w : World} {m : Md} {x : Tl} (h : TlR S base w m x) (t : Nat) (ht : t < m.tabs.length) (hf : ∀ z ∈ m.tabs, z.2.length <= 900000) :
  Calls prog 82 #[.pointer (some ⟨x.px, 0, none⟩), .int .i64 (t : Int)] w (PsR w (x.T m t)) := by
 obtain ⟨y, hy⟩ : ∃ y, x.wm[t]? = some y := ⟨_, List.getElem?_eq_getElem Xt84⟩
 obtain ⟨z, hz⟩ : ∃ z, m.tabs[t]? = some z := ⟨_, List.getElem?_eq_getElem ht⟩
 have hym := List.mem_of_getElem? hy
 have hzm := List.mem_of_getElem? hz
 obtain ⟨c0, c1, c2, c3, c4⟩ := h.c
 have hfew := h.md.few
 have hwl := h.wlen
 have ht0 : ¬ (t : Int) < 0 := by omega
 have ht1 : (t : Int) < (m.tabs.length : Int) := by omega
 have ht2 : (t : Int) < (x.wm.length : Int) := by omega
 have hl1 : (m.tabs.length : Int) <= 1000000 := by omega
 have hl2 : (x.wm.length : Int) <= 1000000 := by omega
 have hz9 := hf z hzm
 have hy9 := h.wl y hym
 have hwf := h.few
 have HX := hid (fun X (b : Below w.heap.size w X) => (⟨tcb b c0, (h.below b).md.c, (h.below b).md.st.now.tab t z hz, tcb b c1, (h.below b).st.now.tab t y hy⟩ : X.cell? ⟨x.px, 0, none⟩ = some (.pointer (some ⟨m.p, 0, none⟩)) /\ X.cell? ⟨m.p, 7, none⟩ = some (.slice (some ⟨m.bt, 0, none⟩) m.tabs.length m.tc) /\ X.cell? ⟨m.bt, t, none⟩ = some (.map (some z.1)) /\ X.cell? ⟨x.px, 1, none⟩ = some (.slice (some ⟨x.bw, 0, none⟩) x.wm.length x.wc) /\ X.cell? ⟨x.bw, t, none⟩ = some (.map (some y.1))))
 have HH := hid h
 have HM := hid h.md
 have HZ := hid (And.intro hz hzm)
 have HY := hid (And.intro hy hym)
 have HSS := hid (fun ss (hs : AllS z.2 ss) => hs.len (h.md.maps z hzm).ris)
 have HSY := hid (fun ss (hs : AllS y.2 ss) => hs.len (h.wmaps y hym).ris)
 have HT := hid ht
 clear h hy hz hym hzm c0 c1 c2 c3 c4 hfew hwl hf ht
 go_enter func82, ntmps82
 go_upto_region 1 with (fail)
 refine rgw w (Below.refl _ _).drew fun hH => ?_
 refine tkq3 0 1 2 ?_
 refine tkr 3 rfl Xf1 ?_
 refine tkq2 4 5 ?_
 refine tkr 6 rfl Xf3 ?_
 refine tkq2 7 8 ?_
 refine tkr 9 rfl Xf2 ?_
 refine tkq3 12 13 14 ?_
 refine tkr 15 rfl (fun W hSw => by have m := (HX.out W hSw).2.2.2.1; exact tks) ?_
 refine tkq2 16 17 ?_
 refine tkr 18 rfl (fun W hSw => by have m := (HX.out W hSw).2.2.2.2; exact tks) ?_
 refine tk1 10 rfl fun K hK => ?_
 go_simp
 refine (rkeys_law _ z.1).mono ?_; rintro r w1 ⟨rfl, hw1⟩
 have HK1 := hid (by rw [hw1]; exact zg_.new w.drew #[.map (some z.1)] 90 : zg_ w1 w.heap.size #[.map (some z.1)] 90)
 have HB1 := hid (by rw [hw1]; exact za_ hH (bl1 w.drew _) : Below w.heap.size w w1)
 have HS1 := hid (by rw [hw1]; simp : w.heap.size < w1.heap.size)
 clear hw1
 go_wp2_with fail
 refine hK.out _ _ HB1.out fun hH => ?_
 refine stP ?_
 refine tk1 11 rfl fun K hK => ?_
 go_simp
 refine (QG_ w1 w.heap.size z.1 z.2 HK1.out ((HM.out.below HB1.out).maps z HZ.out.2) Xt0).mono ?_; rintro r w2 ⟨ss, v2, rfl, hall2, how2, hb2⟩
 obtain ⟨a2, c2, hv2⟩ := zd_ how2
 subst hv2
 have HA2 := hid hall2
 have HO2 := hid (yJ_ how2 HB1.out.size)
 have HB2 := hid (za_ HB1.out hb2)
 clear hall2 how2 hb2
 go_wp2_with fail
 refine hK.out _ _ HB2.out fun hH => ?_
 refine stP ?_
 refine tk1 19 rfl fun K hK => ?_
 go_simp
 refine (ikeys_law w2 y.1).mono ?_; rintro r w3 ⟨rfl, hw3⟩
 have HK3 := hid (by rw [hw3]; exact zg_.new w2 #[.map (some y.1)] 173 : zg_ w3 w2.heap.size #[.map (some y.1)] 173)
 have HB23 := hid (by rw [hw3]; exact bl1 w2 _ : Below w2.heap.size w2 w3)
 have HB3 := hid (za_ HB2.out HB23.out)
 clear hw3
 go_wp2_with fail
 refine hK.out _ _ HB3.out fun hH => ?_
 refine stP ?_
 refine tk1 20 rfl fun K hK => ?_
 go_simp
 refine (iapp_law w3 w2.heap.size y.1 w.heap.size y.2 HK3.out ((HH.out.below HB3.out).wmaps y HY.out.2) Xt0 (.slice a2 ss.length c2) ss (by rw [HSS.out ss HA2.out]; omega) HB3.out.size (ze_ HO2.out HB23.out)).mono ?_; rintro r w4 ⟨ss2, v4, rfl, hall4, how4, hb4⟩
 obtain ⟨a4, c4, hv4⟩ := zd_ how4
 subst hv4
 have HA4 := hid hall4
 have HO4 := hid how4
 have HB4 := hid (HB3.out.trans hb4)
 clear hall4 how4 hb4
 go_wp2_with fail
 refine hK.out _ _ HB4.out fun hH => ?_
 refine stP ?_
 refine tkq 21 ?_
 refine adn ?_
 skip
 have HLN := hid (show (ss ++ ss2).length = ss.length + ss2.length from List.length_append)
 have hle := And.intro (HSS.out ss HA2.out) (HSY.out ss2 HA4.out)
 have hln2 : ss.length + ss2.length <= 1000000 := by omega
 have ho4 := HO4.out
 rw [HLN.out] at ho4
 have hbyt : ∀ K ∈ ss ++ ss2, Byt K := fun K hK => by
  rcases List.mem_append.1 hK with hK | hK
  ·have := (HA2.out.2 K).1 hK
   obtain ⟨p, hp, rfl⟩ := List.mem_map.1 this
   exact (HM.out.maps z HZ.out.2).byt p hp
  ·have := (HA4.out.2 K).1 hK
   obtain ⟨p, hp, rfl⟩ := List.mem_map.1 this
   exact (HH.out.wmaps y HY.out.2).byt p hp
 have HBY := hid hbyt
 have HS4 := hid (sort_law w.heap.size a4 (ss.length + ss2.length) c4 (ss ++ ss2) HLN.out Xt0 hbyt w4 ho4)
 clear hH hle hbyt ho4
 go_wp2_with fail
 refine HS4.out.mono ?_; rintro r w5 ⟨rfl, how5, o5⟩
 have HL5 := hid (show ((ss ++ ss2).mergeSort leL).length = ss.length + ss2.length by rw [List.length_mergeSort, HLN.out])
 have HC5 := hid (compact_law w.heap.size a4 (ss.length + ss2.length) c4 ((ss ++ ss2).mergeSort leL) HL5.out Xt0 (fun K hK => HBY.out K (List.mem_mergeSort.1 hK)) w5 how5)
 have HB5 := hid (Off.below HB4.out o5 HB4.out.size fun k hk => (zb_ how5 hk).1)
 have HO5 := hid how5
 clear how5 o5
 go_wp2_with fail
 refine HC5.out.mono ?_; rintro r w6 ⟨a6, c6, rfl, hst6, o6⟩
 have HB6 := hid (Off.below HB5.out o6 HB5.out.size fun k hk => (zb_ HO5.out hk).1)
 have HST := hid hst6
 obtain ⟨Q, hQ⟩ := gtx (yj_ ((ss ++ ss2).mergeSort leL))
 have hql : Q.length <= 1000000 := by rw [← hQ]; have := compL_len ((ss ++ ss2).mergeSort leL); rw [HL5.out] at this; omega
 have HQR := hid (show Ris id Q by rw [← hQ]; exact compL_ris _ (sorted_le _))
 have HQM := hid (show ∀ K, K ∈ Q ↔ K ∈ ss ∨ K ∈ ss2 from fun K => by rw [← hQ, q7_, List.mem_mergeSort, List.mem_append])
 have HQB := hid (show ∀ K ∈ Q, Byt K from fun K hK => HBY.out K (List.mem_append.2 ((HQM.out K).1 hK)))
 rw [hQ] at HST ⊢
 have hqi : (Q.length : Int) <= 1000000 := by omega
 obtain ⟨n, hn⟩ := gtx (Q.length)
 rw [hn] at hql hqi ⊢
 have HN := hid hn
 clear hst6 o6 hQ hn
 go_wp2_with fail
 go_loopw [6, 37] (fun v i wr => ∃ (k : Nat) (P : List PrV), k <= n /\ i = .int .i64 (k : Int) /\ Hid (wr.ownsRow w6.heap.size 78 2 v P.length (zi_ P)) /\ Hid (P.map prC = xA_ (y9_ (x.T m t)) (Q.take k)) /\ Hid (P.length <= k) /\ Hid (∀ p ∈ P, zH_ p.K /\ rOk (p.R.map P1.bs)) /\ Hid (∀ p ∈ P, ∀ S' : Nat -> Prop, (∀ k, S' k -> k < w6.heap.size ∨ v.ownBlock = some k) -> zs_ S' wr fun W' => Ls .u8 W' p.ka p.kc p.K /\ RdR W' p.ra p.R /\ PrW W' p) /\ Hid (Below w6.heap.size w6 wr)) (fun _ i _ => n - (intOf i).toNat)
 case atStart => exact ⟨0, [], by omega, rfl, hid (World.ownsRow_nil _ _ _ _), hid rfl, hid (Nat.zero_le _), hid (fun p hp => by simp at hp), hid (fun p hp => by simp at hp), hid (Below.refl _ _)⟩
 case round =>
  obtain ⟨k, P, hk, rfl, HOV, HPM, HPL, HPO, HPS, HBR⟩ := hrel
  by_cases hlt : k < n
  ·have d1 : (k : Int) < (n : Int) := by omega
   obtain ⟨K, hK⟩ : ∃ K, Q[k]? = some K := ⟨_, List.getElem?_eq_getElem Xt8⟩
   obtain ⟨g6, eg, kc⟩ := (HST.out.below HBR.out) k K hK
   subst eg
   have HBW := hid (HB6.out.trans (HBR.out.mono HB6.out.size))
   have HTR := hid (HH.out.below HBW.out)
   obtain ⟨_, _, _, _, c4⟩ := HTR.out.c
   have hkm := List.mem_of_getElem? hK
   have HKB := hid (HQB.out K hkm)
   have HSN := hid hK
   have hkok : zH_ K := by
    rcases (HQM.out K).1 hkm with hq | hq
    ·obtain ⟨p, hp, rfl⟩ := List.mem_map.1 ((HA2.out.2 K).1 hq)
     exact (HM.out.row HZ.out.1 hp).1
    ·have := yX_.1 ((HA4.out.2 K).1 hq)
     obtain ⟨i, hi⟩ := Option.isSome_iff_exists.1 this
     obtain ⟨v, h1, _, hv⟩ := (HH.out.coh t y HY.out.1 K i).1 hi
     rw [← hv]
     exact (HH.out.wok v (List.mem_of_getElem? h1)).2.1
   have HKO := hid hkok
   have hkl : K.length <= 1000000 := by have := hkok.2; omega
   have HG := hid (fun X (b : Below wr.heap.size wr X) => qB_ (HTR.out.below b) t HT.out K HKB.out hkl)
   have HV := hid (HH.out.view HT.out K)
   obtain ⟨o, ho⟩ := gtx (getX m x t K)
   rw [ho] at HG HV
   have HGX := hid ho
   clear hK hkm hkok ho
   cases o with
   | none =>
    go_wp2_with fail
    refine (HG.out _ (Below.refl _ _)).mono ?_; rintro r w9 ⟨⟨v9, rfl, _⟩, rfl⟩
    simp only [Option.isSome_none]
    have HV2 := hid (pairL_no HSN.out HV.out)
    clear c4 kc
    go_wp2_with fail
    go_roundw
    case rel => exact ⟨k + 1, P, by omega, by go_num, HOV, hid (HPM.out.trans HV2.out.symm), hid Xt66, HPO, HPS, HBR⟩
    case measure => simp [intOf]; omega
   | some u =>
    obtain ⟨huo, hus⟩ := HTR.out.getok HGX.out
    have hbd := RV.bound huo
    have HUO := hid huo
    have HPR := hid (pair_law K HKB.out hkl u.ra u.R.length u.rc u.R rfl hbd.1 hbd.2 wr hus.now)
    have HV2 := hid (pairL_yes HSN.out HV.out)
    clear huo hus hbd
    go_wp2_with fail
    refine (HG.out _ (Below.refl _ _)).mono ?_; rintro r w9 ⟨⟨v9, rfl, hv9⟩, rfl⟩
    simp only [Option.isSome_some]
    have hv9 := hv9 u rfl
    unfold RV.v at hv9
    subst hv9
    clear c4 kc
    go_wp2_with fail
    refine HPR.out.mono ?_; rintro r w9 ⟨q, rfl, hqk, hqr, hb9, hst9⟩
    obtain ⟨va, vc, hv⟩ := zd_ HOV.out
    subst hv
    have HQ9 := hid (And.intro hqk hqr)
    have HB9 := hid hb9
    have HS9 := hid hst9
    have HP3 := hid (show P.length + 1 <= 2097152 by have := HPL.out; omega)
    clear hqk hqr hb9 hst9
    go_wp2_with (at_builtin; refine zv_ xn_ rfl _ _ rfl w6.heap.size (.slice va P.length vc) P.length (zi_ P) rfl ((ze_ HOV.out HB9.out).alloc _) ⟨w9.heap.size, 0, none⟩ 1 1 [.slice q.ka q.K.length q.kc, .slice q.ra q.R.length q.rc] rfl rfl (zx_ w9 _ _ _ rfl) Xt12 HP3.out (Nat.le_trans HBR.out.size (Nat.le_trans HB9.out.size Xt5)) ?_; intro v8 w8 hown8 hgrow8 hat8; have HO8 := hid hown8; have HG8 := hid hgrow8; have HAT8 := hid hat8; clear hown8 hgrow8 hat8)
    have HB91 := hid (za_ HB9.out (bl1 w9 (.cells #[.slice q.ka q.K.length q.kc, .slice q.ra q.R.length q.rc] 78)))
    go_roundw
    case rel =>
     have hob : Off (fun k => Value.ownBlock (.slice va P.length vc) = some k) wr w8 := (Off.of HB91.out).trans (Off.of_row HG8.out)
     have hvlt : ∀ b, Value.ownBlock (.slice va P.length vc) = some b -> b < wr.heap.size /\ w6.heap.size <= b := fun b hb => ⟨(zb_ HOV.out hb).2.1, (zb_ HOV.out hb).1⟩
     have hnew : ∀ b, v8.ownBlock = some b -> Value.ownBlock (.slice va P.length vc) = some b ∨ w9.heap.size + 1 = b := fun b hb => by
      exact Xb91
     refine ⟨k + 1, P ++ [q], by omega, by go_num, hid ?_, hid ?_, hid ?_, hid ?_, hid ?_, hid ?_⟩
     ·rw [List.length_append, zw_]; exact HO8.out
     ·rw [List.map_append, HPM.out, HV2.out]
      show _ ++ [(q.K, q.R.map P1.bs)] = _
      rw [HQ9.out.1, HQ9.out.2]; rfl
     ·rw [List.length_append]; have := HPL.out; simp; omega
     ·intro p hp
      rcases List.mem_append.1 hp with hp | hp
      ·exact HPO.out p hp
      ·rw [List.mem_singleton] at hp
       subst hp
       rw [HQ9.out.1, HQ9.out.2]
       exact ⟨HKO.out, HUO.out⟩
     ·intro p hp S' hS'
      rcases List.mem_append.1 hp with hp | hp
      ·refine (HPS.out p hp (fun k => k < w6.heap.size ∨ Value.ownBlock (.slice va P.length vc) = some k) (fun k hk => hk)).step (hob.mono fun k hk => .inr hk) (fun k hk => ?_)
       rcases hS' k hk with hk | hk
       ·exact .inl (.inl hk)
       ·rcases hnew k hk with hk | hk
        ·exact .inl (.inr hk)
        ·have := HB9.out.size; exact .inr Xt0
      ·rw [List.mem_singleton] at hp
       subst hp
       have h1 := HS9.out (fun k => k < wr.heap.size) (fun k hk => hk)
       have o98 : Off (fun k => k < wr.heap.size) w9 w8 := (Off.of (bl1 w9 (.cells #[.slice p.ka p.K.length p.kc, .slice p.ra p.R.length p.rc] 78))).trans ((Off.of_row HG8.out).mono fun k hk => (hvlt k hk).1)
       refine h1.step o98 (fun k hk => ?_)
       rcases hS' k hk with hk | hk
       ·have := HBR.out.size; exact .inl (by show k < wr.heap.size; omega)
       ·rcases hnew k hk with hk | hk
        ·exact .inl (hvlt k hk).1
        ·exact .inr Xt0
     ·exact Off.below HBR.out hob HBR.out.size (fun k hk => (hvlt k hk).2)
    case measure => simp [intOf]; omega
  ·have d1 : ¬ (k : Int) < (n : Int) := by omega
   have HV := hid (show xA_ (y9_ (x.T m t)) (Q.take k) = x.T m t by
    rw [List.take_of_length_le Xt18]
    refine pairL_eq (HH.out.tabok t) HQR.out (fun p hp => (HQM.out _).2 ?_)
    have := (yq_ (HH.out.tabok t)).2 (show (p.1, p.2) ∈ _ from hp)
    rw [HH.out.view HT.out] at this
    cases hg : getX m x t p.1 with
    | none => rw [hg] at this; cases this
    | some u =>
     cases hi : zU_ y.2 p.1 with
     | some i => exact .inr ((HA4.out.2 _).2 (yX_.2 (by rw [hi]; rfl)))
     | none =>
      refine .inl ((HA2.out.2 _).2 (yX_.2 ?_))
      unfold getX at hg
      rw [HH.out.find_none HY.out.1 hi, HZ.out.1] at hg
      simp only at hg
      rw [hg]; rfl)
   obtain ⟨va, vc, hv⟩ := zd_ HOV.out
   subst hv
   have HB9 := hid (HB6.out.trans (HBR.out.mono HB6.out.size))
   go_wp2_with fail
   go_ret
   obtain ⟨hcn, hna⟩ := zJ_ HOV.out
   refine ⟨va, vc, P, rfl, HB9.out, HPM.out.trans HV.out, HPO.out, hcn, hna, by have := HPL.out; omega, fun S' hS' W' o => ?_⟩
   have hlow : ∀ k, S' k -> k < w6.heap.size := fun k hk => Nat.lt_of_lt_of_le (hS' k hk) HB6.out.size
   have hps := fun p hp => HPS.out p hp S' (fun k hk => .inl (hlow k hk)) W' o
   exact ⟨yi_ (zm_ HOV.out o hlow) rfl fun p hp => ⟨(hps p hp).1, (hps p hp).2.1⟩, WrB.of (zm_ HOV.out o hlow), fun p hp => (hps p hp).2.2⟩
def jd_ (A B : List Int) : Int := if ltL A B then -1 else if ltL B A then 1 else 0
theorem xZ_ (W : World) (b : Nat) : ∀ (L : List Int) (off : Nat) (acc : ByteArray), (∀ k < L.length, W.cell? ⟨b, off + k, none⟩ = some (.int .u8 (L.getD k 0))) ->
  (Extern.Bytes.loadBytes ⟨b, off, none⟩ L.length acc).run prog W = .ok ⟨acc.data ++ (L.map fun x => UInt8.ofNat x.toNat).toArray⟩ W
 | [], off, acc, _ => by simp [Extern.Bytes.loadBytes]
 | x :: L, off, acc, h => by
  have h0 := h 0 Xt5
  simp only [Nat.add_zero, List.getD_cons_zero] at h0
  have ih := xZ_ W b L (off + 1) (acc.push x.toNat.toUInt8) (fun k hk => by
   have := h (k + 1) (by simpa using hk)
   rw [show off + 1 + k = off + (k + 1) by omega]
   simpa using this)
  have hl : (load ⟨b, off, none⟩).run prog W = .ok (.int .u8 x) W := by simp [h0, go_sem]
  show (Extern.Bytes.loadBytes ⟨b, off, none⟩ (L.length + 1) acc).run prog W = _
  unfold Extern.Bytes.loadBytes
  simp only [Sem.run_bind, hl, Result.andThen]
  rw [show (⟨b, off, none⟩ : Addr).add 1 = ⟨b, off + 1, none⟩ from zG_ b off 1, ih]
  congr 2
  simp [ByteArray.push, Nat.toUInt8]
theorem qR_ {W : World} {a : Option Addr} {c : Nat} {L : List Int} (h : Ls .u8 W a c L) : (Extern.Bytes.bytesOf (.slice a L.length c)).run prog W = .ok (strOfNums L) W := by
 rcases a with _ | a
 ·have : L = [] := by
   cases L with
   | nil => rfl
   | cons x r => obtain ⟨b, off, e, _⟩ := h.rd 0 Xt5; cases e
  subst this
  simp [Extern.Bytes.bytesOf]
  rfl
 ·by_cases h0 : L = []
  ·subst h0
   simp [Extern.Bytes.bytesOf, Extern.Bytes.loadBytes]
   rfl
  ·obtain ⟨b, off, e, _⟩ := h.rd 0 (List.length_pos_iff.2 h0)
   cases e
   have := xZ_ W b L off .empty (fun k hk => by
    obtain ⟨b', off', e, hc⟩ := h.rd k hk
    cases e
    exact hc)
   show (Extern.Bytes.loadBytes ⟨b, off, none⟩ L.length .empty).run prog W = _
   rw [this]
   congr 1
   unfold strOfNums
   simp [ByteArray.empty, ByteArray.emptyWithCapacity]
   try rfl
theorem cmp_kb : ∀ {A B : List Int}, Byt A -> Byt B -> Lib.compareBytes (A.map fun x => UInt8.ofNat x.toNat) (B.map fun x => UInt8.ofNat x.toNat) = jd_ A B
 | [], [], _, _ => rfl
 | [], b :: B, _, _ => rfl
 | a :: A, [], _, _ => rfl
 | a :: A, b :: B, ha, hb => by
  have h1 := ha a (List.mem_cons_self ..)
  have h2 := hb b (List.mem_cons_self ..)
  have ih := cmp_kb (A := A) (B := B) (fun x hx => ha x (List.mem_cons_of_mem _ hx)) (fun x hx => hb x (List.mem_cons_of_mem _ hx))
  show (if UInt8.ofNat a.toNat < UInt8.ofNat b.toNat then (-1 : Int) else if UInt8.ofNat b.toNat < UInt8.ofNat a.toNat then 1 else Lib.compareBytes _ _) = _
  have e1 : (UInt8.ofNat a.toNat < UInt8.ofNat b.toNat) ↔ a < b := by
   exact Xb101
  have e2 : (UInt8.ofNat b.toNat < UInt8.ofNat a.toNat) ↔ b < a := by
   exact Xb101
  unfold jd_
  simp only [ltL]
  by_cases c1 : a < b
  ·rw [if_pos (e1.2 c1)]
   simp [c1]
  ·rw [if_neg (fun h => c1 (e1.1 h))]
   by_cases c2 : b < a
   ·rw [if_pos (e2.2 c2)]
    have c3 : ¬ a = b := by omega
    simp [c1, c2, c3]
   ·rw [if_neg (fun h => c2 (e2.1 h)), ih]
    have c3 : a = b := by omega
    subst c3
    simp [jd_, c1]
theorem qJ_ (a b : Option Addr) (A B : List Int) (n m ca cb : Nat) (hA : A.length = n) (hB : B.length = m) (bA : Byt A) (bB : Byt B) (w : World) (la : Ls .u8 w a ca A) (lb : Ls .u8 w b cb B) :
  Calls prog 70 #[.slice a n ca, .slice b m cb] w fun r w' => r = .returned (.int .i64 (jd_ A B)) /\ w = w' := by
 subst hA hB
 have hrun : (Extern.BytealgCompare.compare #[.slice a A.length ca, .slice b B.length cb]).run prog w = .ok (.int .i64 (jd_ A B)) w := by
  change Sem.run prog (do pure (goInt (Extern.BytealgCompare.cmp (← Extern.Bytes.bytesOf (.slice a A.length ca)) (← Extern.Bytes.bytesOf (.slice b B.length cb))))) w = _
  simp only [Sem.run_bind, qR_ la, qR_ lb, Sem.run_pure, Result.andThen]
  rw [Lib.cmp_eq, ← cmp_kb bA bB, ← ByteArray.toList_eq, ← ByteArray.toList_eq, yS_, yS_]
  rfl
 have HR := hid hrun
 clear hrun la lb bA bB
 go_enter func70, ntmps70
 go_wp2
 rw [run_callFunc_extern func100 Xt3 Xt3 Xt3 (e := Extern.BytealgCompare.compare) Xt3, HR.out]
 simp only [Result.andThen]
 rw [Oper.upon_value]
 exact Xb19
structure EnV where
 ka : Option Addr
 kc : Nat
 K : List Int
 p : PrV
def ecl (e : EnV) : List Value := [.slice e.ka e.K.length e.kc, .slice e.p.ka e.p.K.length e.p.kc, .slice e.p.ra e.p.R.length e.p.rc]
theorem ecl_len (e : EnV) : (ecl e).length = 3 := rfl
structure EnL (W : World) (e : EnV) : Prop where
 k : Ls .u8 W e.ka e.kc e.K
 pk : Ls .u8 W e.p.ka e.p.kc e.p.K
 pr : RdR W e.p.ra e.p.R
 pw : PrW W e.p
theorem EnL.below {W W' : World} {e : EnV} (h : EnL W e) (b : Below W.heap.size W W') : EnL W' e := ⟨h.k.below b, h.pk.below b, h.pr.below b, h.pw.below b⟩
def EnsR (W : World) (a : Option Addr) (L : List EnV) : Prop := ∀ (k : Nat) (e : EnV), L[k]? = some e -> ∃ b off, a = some ⟨b, off, none⟩ /\ W.cell? ⟨b, off + k * 3, none⟩ = some (.slice e.ka e.K.length e.kc) /\ W.cell? ⟨b, off + k * 3 + 1, none⟩ = some (.slice e.p.ka e.p.K.length e.p.kc) /\ W.cell? ⟨b, off + k * 3 + 2, none⟩ = some (.slice e.p.ra e.p.R.length e.p.rc) /\ EnL W e
theorem EnsR.below {W W' : World} {a : Option Addr} {L : List EnV} (h : EnsR W a L) (hb : Below W.heap.size W W') : EnsR W' a L := fun k x hx => by
 obtain ⟨b, off, e, c0, c1, c2, l⟩ := h k x hx
 have f : ∀ {p v}, W.cell? p = some v -> W'.cell? p = some v := fun h => tcb hb h
 exact ⟨b, off, e, f c0, f c1, f c2, l.below hb⟩
def yP_ {α : Type} (key : α -> List Int) (f u : List Int) (en : Bool) (m : Int) : List α -> List α -> List α
 | [], acc => acc
 | e :: r, acc => if ltL (key e) f then yP_ key f u en m r acc else if (en && !ltL (key e) u) || decide ((acc.length : Int) = m) then acc else yP_ key f u en m r (acc ++ [e])
theorem xp_ {α : Type} (key : α -> List Int) (f u : List Int) (en : Bool) (m : Int) : ∀ (l acc : List α), ∀ e ∈ yP_ key f u en m l acc, e ∈ l ∨ e ∈ acc
 | [], acc, e, h => .inr h
 | x :: r, acc, e, h => by
  unfold yP_ at h
  split at h
  ·exact (xp_ key f u en m r acc e h).imp (List.mem_cons_of_mem _) id
  ·split at h
   ·exact .inr h
   ·rcases xp_ key f u en m r (acc ++ [x]) e h with h | h
    ·exact .inl (List.mem_cons_of_mem _ h)
    ·exact Xb93
theorem cmp_lt (A B : List Int) : (jd_ A B < 0) ↔ ltL A B = true := by
 unfold jd_
 cases h : ltL A B
 ·simp; cases ltL B A <;> simp
 ·simp
theorem z0_ {α : Type} {l : List α} {k : Nat} {x : α} (h : l[k]? = some x) : l.drop k = x :: l.drop (k + 1) := by
 have hk := (List.getElem?_eq_some_iff.1 h).1
 rw [List.drop_eq_getElem_cons hk]
 rw [List.getElem?_eq_getElem hk] at h
 rw [Option.some.inj h]
theorem winG_skip {f u : List Int} {en : Bool} {m : Int} {L acc : List EnV} {k : Nat} {e : EnV} (h : L[k]? = some e) (hl : ltL e.K f = true) : yP_ EnV.K f u en m (L.drop k) acc = yP_ EnV.K f u en m (L.drop (k + 1)) acc := by
 rw [z0_ h]
 show (if ltL e.K f = true then _ else _) = _
 rw [if_pos hl]
theorem Qx_ {f u : List Int} {en : Bool} {m : Int} {L acc : List EnV} {k : Nat} {e : EnV} (h : L[k]? = some e) (hl : ltL e.K f = false) (hs : ((en && !ltL e.K u) || decide ((acc.length : Int) = m)) = true) : yP_ EnV.K f u en m (L.drop k) acc = acc := by
 rw [z0_ h]
 show (if ltL e.K f = true then _ else if _ then _ else _) = _
 rw [if_neg (by rw [hl]; simp), if_pos hs]
theorem winG_take {f u : List Int} {en : Bool} {m : Int} {L acc : List EnV} {k : Nat} {e : EnV} (h : L[k]? = some e) (hl : ltL e.K f = false) (hs : ((en && !ltL e.K u) || decide ((acc.length : Int) = m)) = false) : yP_ EnV.K f u en m (L.drop k) acc = yP_ EnV.K f u en m (L.drop (k + 1)) (acc ++ [e]) := by
 rw [z0_ h]
 show (if ltL e.K f = true then _ else if _ then _ else _) = _
 rw [if_neg (by rw [hl]; simp), if_neg (by rw [hs]; simp)]
def WnR (w : World) (L : List EnV) (r : Ending) (w' : World) : Prop := ∃ a c, r = .returned (.slice a L.length c) /\ Below w.heap.size w w' /\ L.length <= c /\ (a = none -> c = 0) /\ w'.ownsRow w.heap.size 78 2 (.slice a L.length c) L.length (zi_ (L.map EnV.p))
theorem qu_ (tr : Int) (fa ta : Option Addr) (fn fc tn tc : Nat) (f u : List Int) (en : Bool) (m : Int) (hm : 0 <= m /\ m <= 1000000) (hf : f.length = fn) (hu : u.length = tn) (bf : Byt f) (bu : Byt u) (a : Option Addr) (n c : Nat) (L : List EnV) (hn : L.length = n) (hn2 : n <= 2000000) (bL : ∀ e ∈ L, Byt e.K) (w : World) (lf : Ls .u8 w fa fc f) (lu : Ls .u8 w ta tc u) (hL : EnsR w a L) :
  Calls prog 142 #[.agg #[.int .i64 tr, .slice fa fn fc, .slice ta tn tc, .bool en], .int .i64 m, .slice a n c] w (WnR w (yP_ EnV.K f u en m L [])) := by
 have HN := hid hn
 have HL := hid hL
 have HF := hid (And.intro hf (And.intro bf lf))
 have HU := hid (And.intro hu (And.intro bu lu))
 have HBL := hid bL
 have hni : (n : Int) <= 2000000 := by omega
 clear hn hL hf bf lf hu bu lu bL
 go_enter func142, ntmps142
 go_wp2_with fail
 go_step3
 go_wp2_with fail
 go_step3
 have HB0 := hid (bl1 w (.cells #[.int .i64 tr, .slice fa fn fc, .slice ta tn tc, .bool en] 169))
 have HBX := hid (zg_.new w #[.int .i64 tr, .slice fa fn fc, .slice ta tn tc, .bool en] 169)
 generalize w.alloc (.cells #[.int .i64 tr, .slice fa fn fc, .slice ta tn tc, .bool en] 169) = w0 at HB0 HBX ⊢
 go_wp2_with fail
 go_loopw [7, 12] (fun v i wr => ∃ (k : Nat) (acc : List EnV), k <= n /\ i = .int .i64 (k : Int) /\ Hid (yP_ EnV.K f u en m L [] = yP_ EnV.K f u en m (L.drop k) acc) /\ Hid (∀ e ∈ acc, e ∈ L) /\ acc.length <= k /\ Hid (wr.ownsRow w.heap.size 78 2 v acc.length (zi_ (acc.map EnV.p))) /\ Hid (zg_ wr w.heap.size #[.int .i64 tr, .slice fa fn fc, .slice ta tn tc, .bool en] 169) /\ Hid (Below w.heap.size w wr)) (fun _ i _ => n - (intOf i).toNat)
 case atStart => exact ⟨0, [], by omega, rfl, hid rfl, hid (fun e he => by simp at he), Nat.le_refl _, hid (World.ownsRow_nil _ _ _ _), HBX, HB0⟩
 case round =>
  obtain ⟨k, acc, hk, rfl, HW, HAC, hac, HOV, HBXr, HBW⟩ := hrel
  obtain ⟨va, vc, hv⟩ := zd_ HOV.out
  subst hv
  by_cases hlt : k < n
  ·have d1 : (k : Int) < (n : Int) := by omega
   obtain ⟨e, he⟩ : ∃ e, L[k]? = some e := ⟨_, List.getElem?_eq_getElem Xt8⟩
   obtain ⟨b1, o1, ea, c0, c1, c2, hel⟩ := (HL.out.below HBW.out) k e he
   subst ea
   have HE := hid he
   have HEL := hid hel
   have HEM := hid (List.mem_of_getElem? he)
   clear he hel
   go_upto_region 5 with (fail)
   have HB5 := hid (bl1 wr (.cells #[.slice e.ka e.K.length e.kc, .slice e.p.ka e.p.K.length e.p.kc, .slice e.p.ra e.p.R.length e.p.rc] 149))
   have hbx5 := zg_.new wr #[.slice e.ka e.K.length e.kc, .slice e.p.ka e.p.K.length e.p.kc, .slice e.p.ra e.p.R.length e.p.rc] 149
   obtain ⟨bx, hbxe⟩ := gtx (wr.heap.size)
   have HSX := hid hbxe
   rw [hbxe] at hbx5
   obtain ⟨w5, hw5⟩ := gty (wr.alloc (.cells #[.slice e.ka e.K.length e.kc, .slice e.p.ka e.p.K.length e.p.kc, .slice e.p.ra e.p.R.length e.p.rc] 149))
   rw [← hw5] at HB5 hbx5 ⊢
   rw [hbxe]
   clear hw5 hbxe
   have HB6 := hid (HBW.out.trans (HB5.out.mono HBW.out.size))
   have HEL5 := hid (HEL.out.below HB5.out)
   have hsp := HBXr.out.below HB5.out
   have e0 := hbx5.cell 0
   have e1 := hbx5.cell 1
   have e2 := hbx5.cell 2
   have s1 := hsp.cell 1
   have s2 := hsp.cell 2
   have s3 := hsp.cell 3
   simp only [gtA, gtB, gtC] at e0 e1 e2 s1 s2 s3
   have HC1 := hid (qJ_ e.ka fa e.K f _ fn e.kc fc rfl HF.out.1 (HBL.out e HEM.out) HF.out.2.1 w5 HEL5.out.k (HF.out.2.2.below HB6.out))
   have HC2 := hid (qJ_ e.ka ta e.K u _ tn e.kc tc rfl HU.out.1 (HBL.out e HEM.out) HU.out.2.1 w5 HEL5.out.k (HU.out.2.2.below HB6.out))
   have HOV5 := hid (ze_ HOV.out HB5.out)
   have HSP := hid hsp
   clear hbx5 hsp c0 c1 c2
   cases hlf : ltL e.K f with
   | true =>
    have hc : jd_ e.K f = -1 := by unfold jd_; rw [hlf]; rfl
    rw [hc] at HC1
    have HWN := hid (HW.out.trans (winG_skip HE.out hlf))
    clear hc hlf
    go_wp2_with fail
    refine HC1.out.mono ?_; rintro r w6 ⟨rfl, rfl⟩
    go_wp2_with fail
    go_roundw
    case rel => exact ⟨k + 1, acc, by omega, by go_num, HWN, HAC, by omega, HOV5, HSP, HB6⟩
    case measure => simp [intOf]; omega
   | false =>
    have hc : ¬ jd_ e.K f < 0 := by rw [cmp_lt, hlf]; simp
    obtain ⟨z, hz⟩ := gtx (jd_ e.K f)
    rw [hz] at HC1 hc
    clear hz
    cases hst : (en && !ltL e.K u) with
    | true =>
     rw [Bool.and_eq_true] at hst
     obtain ⟨hen, hlu⟩ := hst
     have hlu2 : ltL e.K u = false := by simpa using hlu
     have hc2 : ¬ jd_ e.K u < 0 := by rw [cmp_lt, hlu2]; simp
     obtain ⟨z2, hz2⟩ := gtx (jd_ e.K u)
     rw [hz2] at HC2 hc2
     have hc3 : 0 <= z2 := by omega
     have HWN := hid (HW.out.trans (Qx_ HE.out hlf (by rw [hen, hlu2]; rfl)))
     rw [hen] at s3
     clear hz2 hen hlu hlu2 hlf
     go_wp2_with fail
     refine HC1.out.mono ?_; rintro r w6 ⟨rfl, rfl⟩
     go_wp2_with fail
     refine HC2.out.mono ?_; rintro r w6 ⟨rfl, rfl⟩
     exact Xb26
    | false =>
     cases hmm : decide ((acc.length : Int) = m) with
     | true =>
      have HWN := hid (HW.out.trans (Qx_ HE.out hlf (by rw [hst, hmm]; rfl)))
      have hml : ((acc.length : Int) == m) = true := by simpa using hmm
      rcases (show en = false ∨ en = true by cases en <;> simp) with hen | hen
      ·rw [hen] at s3
       clear hst hmm hlf hen
       go_wp2_with fail
       refine HC1.out.mono ?_; rintro r w6 ⟨rfl, rfl⟩
       exact Xb26
      ·rw [hen] at s3 hst
       have hlu : ltL e.K u = true := by simpa using hst
       have hc2 : jd_ e.K u < 0 := (cmp_lt _ _).2 hlu
       obtain ⟨z2, hz2⟩ := gtx (jd_ e.K u)
       rw [hz2] at HC2 hc2
       have hc3 : ¬ 0 <= z2 := by omega
       clear hst hmm hlf hen hlu hz2
       go_wp2_with fail
       refine HC1.out.mono ?_; rintro r w6 ⟨rfl, rfl⟩
       go_wp2_with fail
       refine HC2.out.mono ?_; rintro r w6 ⟨rfl, rfl⟩
       exact Xb26
     | false =>
      have HWN := hid (HW.out.trans (winG_take HE.out hlf (by rw [hst, hmm]; rfl)))
      have hml : ((acc.length : Int) == m) = false := by simpa using hmm
      have hap : acc.length + 1 <= 2097152 := by omega
      have hsz : w.heap.size <= w5.heap.size := HB6.out.size
      rcases (show en = false ∨ en = true by cases en <;> simp) with hen | hen
      ·rw [hen] at s3
       clear hst hmm hlf hen
       go_wp2_with fail
       refine HC1.out.mono ?_; rintro r w6 ⟨rfl, rfl⟩
       exact Xb12
      ·rw [hen] at s3 hst
       have hlu : ltL e.K u = true := by simpa using hst
       have hc2 : jd_ e.K u < 0 := (cmp_lt _ _).2 hlu
       obtain ⟨z2, hz2⟩ := gtx (jd_ e.K u)
       rw [hz2] at HC2 hc2
       have hc3 : ¬ 0 <= z2 := by omega
       clear hst hmm hlf hen hlu hz2
       go_wp2_with fail
       refine HC1.out.mono ?_; rintro r w6 ⟨rfl, rfl⟩
       go_wp2_with fail
       refine HC2.out.mono ?_; rintro r w6 ⟨rfl, rfl⟩
       exact Xb12
  ·have d1 : ¬ (k : Int) < (n : Int) := by omega
   have HWN := hid (HW.out.trans (by rw [List.drop_eq_nil_of_le Xt18]; rfl : _ = acc))
   have HOV5 := HOV
   have HB6 := HBW
   exact Xb26
theorem set4l {W : World} {B : Nat} (hb : zg_ W B #[.int .i64 0, .slice none 0 0, .slice none 0 0, .bool false] 169) (tr : Int) (fa : Option Addr) (f : List Int) (fc : Nat) (ta : Option Addr) (u : List Int) (tc : Nat) (en : Bool) {a : Option Addr} {c : Nat} {L : List Int} (l : Ls .u8 W a c L) :
  Ls .u8 ((((W.setCell ⟨B, 0, none⟩ (.int .i64 tr)).setCell ⟨B, 1, none⟩ (.slice fa f.length fc)).setCell ⟨B, 2, none⟩ (.slice ta u.length tc)).setCell ⟨B, 3, none⟩ (.bool en)) a c L := by
 have b1 : zg_ (W.setCell ⟨B, 0, none⟩ (.int .i64 tr)) B #[.int .i64 tr, .slice none 0 0, .slice none 0 0, .bool false] 169 := heap_setCell_same _ B 0 _ 169 _ hb
 have b2 : zg_ ((W.setCell ⟨B, 0, none⟩ (.int .i64 tr)).setCell ⟨B, 1, none⟩ (.slice fa f.length fc)) B #[.int .i64 tr, .slice fa f.length fc, .slice none 0 0, .bool false] 169 := heap_setCell_same _ B 1 _ 169 _ b1
 have b3 : zg_ (((W.setCell ⟨B, 0, none⟩ (.int .i64 tr)).setCell ⟨B, 1, none⟩ (.slice fa f.length fc)).setCell ⟨B, 2, none⟩ (.slice ta u.length tc)) B #[.int .i64 tr, .slice fa f.length fc, .slice ta u.length tc, .bool false] 169 := heap_setCell_same _ B 2 _ 169 _ b2
 exact qy_ (qy_ (qy_ (qy_ l (hb.cell 0) (fun x h => by cases h) _) (b1.cell 1) (fun x h => by cases h) _) (b2.cell 2) (fun x h => by cases h) _) (b3.cell 3) (fun x h => by cases h) _
theorem set4b {b : Nat} {w W : World} {B : Nat} (h : Below b w W) (hb : zg_ W B #[.int .i64 0, .slice none 0 0, .slice none 0 0, .bool false] 169) (hB : b <= B) (tr : Int) (fa : Option Addr) (f : List Int) (fc : Nat) (ta : Option Addr) (u : List Int) (tc : Nat) (en : Bool) (lf : Ls .u8 W fa fc f) (lu : Ls .u8 W ta tc u) :
  Below b w ((((W.setCell ⟨B, 0, none⟩ (.int .i64 tr)).setCell ⟨B, 1, none⟩ (.slice fa f.length fc)).setCell ⟨B, 2, none⟩ (.slice ta u.length tc)).setCell ⟨B, 3, none⟩ (.bool en)) /\
  zg_ ((((W.setCell ⟨B, 0, none⟩ (.int .i64 tr)).setCell ⟨B, 1, none⟩ (.slice fa f.length fc)).setCell ⟨B, 2, none⟩ (.slice ta u.length tc)).setCell ⟨B, 3, none⟩ (.bool en)) B #[.int .i64 tr, .slice fa f.length fc, .slice ta u.length tc, .bool en] 169 /\
  Ls .u8 ((((W.setCell ⟨B, 0, none⟩ (.int .i64 tr)).setCell ⟨B, 1, none⟩ (.slice fa f.length fc)).setCell ⟨B, 2, none⟩ (.slice ta u.length tc)).setCell ⟨B, 3, none⟩ (.bool en)) fa fc f /\
  Ls .u8 ((((W.setCell ⟨B, 0, none⟩ (.int .i64 tr)).setCell ⟨B, 1, none⟩ (.slice fa f.length fc)).setCell ⟨B, 2, none⟩ (.slice ta u.length tc)).setCell ⟨B, 3, none⟩ (.bool en)) ta tc u := by
 refine ⟨(((h.setCell (p := ⟨B, 0, none⟩) hB _).setCell (p := ⟨B, 1, none⟩) hB _).setCell (p := ⟨B, 2, none⟩) hB _).setCell (p := ⟨B, 3, none⟩) hB _, ?_, ?_, ?_⟩
 ·exact heap_setCell_same _ B 3 _ 169 _ (heap_setCell_same _ B 2 _ 169 _ (heap_setCell_same _ B 1 _ 169 _ (heap_setCell_same _ B 0 _ 169 _ hb)))
 ·exact set4l hb tr fa f fc ta u tc en lf
 ·exact set4l hb tr fa f fc ta u tc en lu
theorem set4a {b : Nat} {w W : World} (h : Below b w W) (hb : b <= w.heap.size) (tr : Int) (fa : Option Addr) (f : List Int) (fc : Nat) (ta : Option Addr) (u : List Int) (tc : Nat) (en : Bool) (lf : Ls .u8 W fa fc f) (lu : Ls .u8 W ta tc u) :
  Below b w (W.alloc (.cells #[.int .i64 tr, .slice fa f.length fc, .slice ta u.length tc, .bool en] 169)) /\
  zg_ (W.alloc (.cells #[.int .i64 tr, .slice fa f.length fc, .slice ta u.length tc, .bool en] 169)) W.heap.size #[.int .i64 tr, .slice fa f.length fc, .slice ta u.length tc, .bool en] 169 /\
  Ls .u8 (W.alloc (.cells #[.int .i64 tr, .slice fa f.length fc, .slice ta u.length tc, .bool en] 169)) fa fc f /\
  Ls .u8 (W.alloc (.cells #[.int .i64 tr, .slice fa f.length fc, .slice ta u.length tc, .bool en] 169)) ta tc u :=
 ⟨h.trans ((bl1 W _).mono (Nat.le_trans hb h.size)), zg_.new W _ _, lf.below (bl1 W _), lu.below (bl1 W _)⟩
def enP (p : PrV) : EnV := ⟨p.ka, p.kc, p.K, p⟩
theorem ecl_one (e : EnV) : ∀ u ∈ ecl e, u.oneCell' = true := fun u hu => by
 simp only [ecl, List.mem_cons, List.not_mem_nil, or_false] at hu
 rcases hu with rfl | rfl | rfl <;> rfl
theorem own_ens {W : World} {base n c : Nat} {a : Option Addr} {L : List EnV} (h : W.ownsRow base 149 3 (.slice a n c) n (cellsOf ecl L)) (hn : L.length = n) (ok : ∀ e ∈ L, EnL W e) : EnsR W a L := fun k e he => by
 obtain ⟨g, rfl, _, hc⟩ := zt_ ecl_len Xt0 h hn k e he
 refine ⟨g, 0, rfl, ?_, ?_, ?_, ok e (List.mem_of_getElem? he)⟩
 ·exact Xb45
 ·exact Xb66
 ·exact Xb83
theorem jO_ {α β : Type} (g : α -> β) (k1 : α -> List Int) (k2 : β -> List Int) (f u : List Int) (en : Bool) (m : Int) : ∀ (l acc : List α), (∀ e ∈ l, k2 (g e) = k1 e) -> (yP_ k1 f u en m l acc).map g = yP_ k2 f u en m (l.map g) (acc.map g)
 | [], acc, _ => rfl
 | e :: r, acc, h => by
  have h1 := h e (List.mem_cons_self ..)
  have ih := fun acc => jO_ g k1 k2 f u en m r acc fun x hx => h x (List.mem_cons_of_mem _ hx)
  rw [List.map_cons]
  unfold yP_
  rw [h1, List.length_map]
  split
  ·exact ih acc
  ·split
   ·rfl
   ·rw [ih (acc ++ [e]), List.map_append]; rfl
theorem jP_ {α : Type} (key : α -> List Int) (f u : List Int) (en : Bool) (m : Int) : ∀ (l acc : List α), (yP_ key f u en m l acc).length <= l.length + acc.length
 | [], acc => by show acc.length <= _; simp
 | e :: r, acc => by
  unfold yP_
  split
  ·have := jP_ key f u en m r acc; rw [List.length_cons]; omega
  ·split
   ·rw [List.length_cons]; omega
   ·have := jP_ key f u en m r (acc ++ [e]); rw [List.length_append, List.length_singleton] at this; rw [List.length_cons]; omega
theorem jZ_ {j : Job} {o : zj_} (h : pO j o = true) (h3 : kf o.k 3 = true) : 1 <= o.m /\ o.m <= 64 := by
 unfold pO endB at h
 rw [if_pos h3] at h
 simp only [Bool.and_eq_true] at h
 have := h.2.2
 unfold inB at this
 simpa using this
structure OpS (S : Nat -> Prop) (base : Nat) (w : World) (m : Md) (o : zj_) (t : Nat) : Prop where
 at' : zs_ (Ab S base) w fun W => zy_ W o
 te : o.t = (t : Int)
 tl : t < m.tabs.length
 po : pO m.j o = true
 rn : o.rn <= 1000000
theorem tscan_law {S : Nat -> Prop} {base : Nat} {w : World} {m : Md} {x : Tl} (h : TlR S base w m x) (hbs : base <= w.heap.size) (o : zj_) (t : Nat) (ho : OpS S base w m o t) (hk : o.k = 5) (hf : ∀ z ∈ m.tabs, z.2.length <= 900000) :
  Calls prog 127 #[.pointer (some ⟨x.px, 0, none⟩), .agg #[.int .i64 o.k, .int .i64 o.t, .int .i64 o.i, .slice o.ka o.kn o.kc, .slice o.ta o.tn o.tc, .int .i64 o.m, .slice o.ra o.rn o.rc]] w (Qr_ S base w m x ((0, yP_ Prod.fst o.K o.T (decide (0 < o.tn)) o.m (x.T m t) []) : Int × List Pr) (x.ws.map WtV.P)) := by
 obtain ⟨hb, hbx⟩ := yr_ w #[.int .i64 o.k, .int .i64 o.t, .int .i64 o.i, .slice o.ka o.kn o.kc, .slice o.ta o.tn o.tc, .int .i64 o.m, .slice o.ra o.rn o.rc] #[.int .i64 0, .slice none 0 0] 74 81
 obtain ⟨w2, hw2⟩ := gty ((w.alloc (.cells #[.int .i64 o.k, .int .i64 o.t, .int .i64 o.i, .slice o.ka o.kn o.kc, .slice o.ta o.tn o.tc, .int .i64 o.m, .slice o.ra o.rn o.rc] 74)).alloc (.cells #[.int .i64 0, .slice none 0 0] 81))
 rw [← hw2] at hb hbx
 have h2 := h.below hb
 have HMD := hid h2.md
 have HOP := hid (ho.at'.below hb).now
 have HRN := hid ho.rn
 obtain ⟨c0, _⟩ := h2.c
 have HX := hid (fun X (b : Below w2.heap.size w2 X) => (by
  have hm := (h2.md.below b).st.now.box
  have hp := (hbx X b).1
  refine ⟨tcb b c0, ?_, ?_, ?_, ?_, ?_, ?_, ?_, ?_, ?_, ?_, ?_, ?_, ?_, ?_⟩
  all_goals first | (rw [hm.cell]; rfl) | (rw [hp.cell]; rfl) : X.cell? ⟨x.px, 0, none⟩ = some (.pointer (some ⟨m.p, 0, none⟩)) /\ X.cell? ⟨m.p, 0, none⟩ = some (.int .i64 m.j.w) /\ X.cell? ⟨m.p, 1, none⟩ = some (.int .i64 m.j.l) /\ X.cell? ⟨m.p, 2, none⟩ = some (.int .i64 m.j.d) /\ X.cell? ⟨m.p, 3, none⟩ = some (.int .i64 m.j.c) /\ X.cell? ⟨m.p, 4, none⟩ = some (.int .i64 m.j.k) /\ X.cell? ⟨m.p, 5, none⟩ = some (.int .i64 m.j.e) /\ X.cell? ⟨m.p, 6, none⟩ = some (.slice m.j.a m.j.n m.j.cap) /\ X.cell? ⟨w.heap.size, 0, none⟩ = some (.int .i64 o.k) /\ X.cell? ⟨w.heap.size, 1, none⟩ = some (.int .i64 o.t) /\ X.cell? ⟨w.heap.size, 2, none⟩ = some (.int .i64 o.i) /\ X.cell? ⟨w.heap.size, 3, none⟩ = some (.slice o.ka o.kn o.kc) /\ X.cell? ⟨w.heap.size, 4, none⟩ = some (.slice o.ta o.tn o.tc) /\ X.cell? ⟨w.heap.size, 5, none⟩ = some (.int .i64 o.m) /\ X.cell? ⟨w.heap.size, 6, none⟩ = some (.slice o.ra o.rn o.rc)))
 have HH := hid (And.intro h (And.intro hbs (And.intro hb hbx)))
 have HO := hid ho
 have HF := hid hf
 have HK5 := hid hk
 have HW2 := hid hw2
 clear h hbs ho hf hk h2 hb hbx c0
 go_enter func127, ntmps127
 go_upto_region 1 with (fail)
 rw [← hw2]
 clear hw2
 go_cut [5] (fun v wx => ∃ (bx : Nat) (fa : Option Addr) (fc : Nat) (ta : Option Addr) (tc : Nat), v = .pointer (some ⟨bx, 0, none⟩) /\ Hid (Below w2.heap.size w2 wx) /\ Hid (zg_ wx bx #[.int .i64 (zE_ m.j o).1, .slice fa (zE_ m.j o).2.1.length fc, .slice ta (zE_ m.j o).2.2.1.length tc, .bool (zE_ m.j o).2.2.2.1] 169) /\ Hid (Ls .u8 wx fa fc (zE_ m.j o).2.1) /\ Hid (Ls .u8 wx ta tc (zE_ m.j o).2.2.1))
 case first =>
  exact Xb5
 case rest =>
 obtain ⟨bx, fa, fc, ta, tc, rfl, HB3, HSP, HLF, HLU⟩ := hcut
 have HBW := hid (HH.out.2.2.1.trans (HB3.out.mono HH.out.2.2.1.size))
 have HB23 := hid HB3.out.size
 have hop := (HH.out.2.2.2 wc HB3.out).1
 have c1 := hop.cell 1
 simp only [gtA, gtB, gtC] at c1
 rw [HO.out.te] at c1
 clear hop
 go_wp2_with fail
 refine (qj_ (HH.out.1.below HBW.out) t HO.out.tl HF.out).mono ?_; rintro r w6 ⟨a6, c6, P, rfl, hb6, hP, hok, hPc, hPn, hPl, hst⟩
 have HB6 := hid (HBW.out.trans (hb6.mono HBW.out.size))
 have HB36 := hid (HB3.out.trans (hb6.mono HB3.out.size))
 have HSP6 := hid (HSP.out.below hb6)
 have HLF6 := hid (HLF.out.below hb6)
 have HLU6 := hid (HLU.out.below hb6)
 have HPM := hid hP
 have HPO := hid hok
 have HST := hid hst
 have HPR := hid (hst (fun _ => False) (fun _ h => h.elim)).now
 obtain ⟨n, hn⟩ := gtx (P.length)
 rw [hn] at hPl ⊢
 have HN := hid hn
 have HLN := hid (show ∀ k, ((P.take k).map enP).length = min k n from fun k => by rw [List.length_map, List.length_take, HN.out])
 have hni : (n : Int) <= 1000000 := by omega
 clear hb6 hP hok hPc hPn hst hn c1
 go_wp2_with fail
 go_loopw [7, 27] (fun v i wr => ∃ k : Nat, k <= n /\ i = .int .i64 (k : Int) /\ Hid (wr.ownsRow w6.heap.size 149 3 v k (cellsOf ecl ((P.take k).map enP))) /\ Hid (Below w6.heap.size w6 wr)) (fun _ i _ => n - (intOf i).toNat)
 case atStart => exact ⟨0, by omega, rfl, hid (World.ownsRow_nil _ _ _ _), hid (Below.refl _ _)⟩
 case round =>
  obtain ⟨k, hk, rfl, HOV, HBR⟩ := hrel
  obtain ⟨va, vc, hv⟩ := zd_ HOV.out
  subst hv
  by_cases hlt : k < n
  ·have d1 : (k : Int) < (n : Int) := by omega
   obtain ⟨p, hp⟩ : ∃ p, P[k]? = some p := ⟨_, List.getElem?_eq_getElem Xt8⟩
   obtain ⟨b1, o1, ea, p0, p1, _, _⟩ := (HPR.out.below HBR.out).1 k p hp
   subst ea
   have HTK := hid (show (P.take (k + 1)).map enP = (P.take k).map enP ++ [enP p] by rw [List.take_add_one, hp, List.map_append]; rfl)
   have hap : k + 1 <= 2097152 := by omega
   have hsz : w6.heap.size <= wr.heap.size := HBR.out.size
   clear hp
   have HBE := hid (za_ HBR.out (za_ (bl1 wr (.cells #[.slice p.ka p.K.length p.kc, .slice p.ra p.R.length p.rc] 78)) (bl1 (wr.alloc (.cells #[.slice p.ka p.K.length p.kc, .slice p.ra p.R.length p.rc] 78)) (.cells #[.slice p.ka p.K.length p.kc, .slice p.ka p.K.length p.kc, .slice p.ra p.R.length p.rc] 149))))
   have HOE := hid (((HOV.out.alloc (.cells #[.slice p.ka p.K.length p.kc, .slice p.ra p.R.length p.rc] 78)).alloc (.cells #[.slice p.ka p.K.length p.kc, .slice p.ka p.K.length p.kc, .slice p.ra p.R.length p.rc] 149)))
   have HCE := hid (zx_ (wr.alloc (.cells #[.slice p.ka p.K.length p.kc, .slice p.ra p.R.length p.rc] 78)) #[.slice p.ka p.K.length p.kc, .slice p.ka p.K.length p.kc, .slice p.ra p.R.length p.rc] 149 (ecl (enP p)) rfl)
   rw [World.size_alloc] at HCE
   go_wp2_with (at_builtin; refine zv_ ae_entry rfl _ _ rfl w6.heap.size (.slice va k vc) k (cellsOf ecl ((P.take k).map enP)) rfl HOE.out ⟨wr.heap.size + 1, 0, none⟩ 1 1 (ecl (enP p)) rfl rfl HCE.out (ecl_one (enP p)) hap HBE.out.size ?_; intro v8 w8 hown8 hgrow8 _; have HO8 := hid hown8; have HG8 := hid hgrow8; have HB8 := hid (Off.below HBE.out (Off.of_row hgrow8) HBE.out.size (fun k hk => (zb_ HOV.out hk).1)); clear hown8 hgrow8)
   go_roundw
   case rel =>
    exact ⟨k + 1, by omega, by go_num, hid (by rw [HTK.out, zq_]; exact HO8.out), HB8⟩
   case measure => simp [intOf]; omega
  ·have d1 : ¬ (k : Int) < (n : Int) := by omega
   have hke : k = n := by omega
   have HTK := hid (show (P.take k).map enP = P.map enP by rw [List.take_of_length_le Xt18])
   have HLE := hid (show (P.map enP).length = k by rw [List.length_map, HN.out, hke])
   have ho := HOV.out
   rw [HTK.out] at ho
   have HEN := hid (own_ens ho HLE.out (fun e he => by
    obtain ⟨q, hq, rfl⟩ := List.mem_map.1 he
    obtain ⟨i, hi⟩ := List.mem_iff_getElem?.1 hq
    obtain ⟨_, _, _, _, _, l, r⟩ := (HPR.out.below HBR.out).1 i q hi
    exact ⟨l, l, r, (HPR.out.below HBR.out).2.2 q hq⟩))
   have HB3R := hid (HB36.out.trans (HBR.out.mono HB36.out.size))
   have hop := (HH.out.2.2.2 wr HB3R.out).1
   have c5 := hop.cell 5
   have hsp := HSP6.out.below HBR.out
   have s0 := hsp.cell 0
   have s1 := hsp.cell 1
   have s2 := hsp.cell 2
   have s3 := hsp.cell 3
   simp only [gtA, gtB, gtC] at c5 s0 s1 s2 s3
   have h3 : kf o.k 3 = true := by rw [xi_, HK5.out]; rfl
   have h4 : kf o.k 4 = false := by rw [jE_, HK5.out]; rfl
   have hrg : zE_ m.j o = ((trV m.j o.t (-1)).1, o.K, o.T, decide (0 < o.tn), 0) := by
    exact Xb94
   have HRG := hid hrg
   have hmo := jZ_ HO.out.po h3
   have hca := HO.out.at'.now
   have HWI := hid (qu_ (zE_ m.j o).1 fa ta _ fc _ tc (zE_ m.j o).2.1 (zE_ m.j o).2.2.1 (zE_ m.j o).2.2.2.1 o.m Xt0 rfl rfl (by rw [hrg]; exact hca.kb) (by rw [hrg]; exact hca.tb) va k vc (P.map enP) HLE.out Xt0 (fun e he => by
    obtain ⟨q, hq, rfl⟩ := List.mem_map.1 he
    exact (HPO.out q hq).1.1) wr (HLF6.out.below HBR.out) (HLU6.out.below HBR.out) HEN.out)
   clear ho hop hsp h3 h4 hrg hmo hca hke
   go_wp2_with fail
   refine HWI.out.mono ?_; rintro r w3 ⟨a9, c9, rfl, hb9, hc9, hn9, ho9⟩
   have HZM := hid (xp_ EnV.K (zE_ m.j o).2.1 (zE_ m.j o).2.2.1 (zE_ m.j o).2.2.2.1 o.m (P.map enP) [])
   have HZP := hid (show (yP_ EnV.K (zE_ m.j o).2.1 (zE_ m.j o).2.2.1 (zE_ m.j o).2.2.2.1 o.m (P.map enP) []).map (fun e => prC e.p) = yP_ Prod.fst o.K o.T (decide (0 < o.tn)) o.m (x.T m t) [] by
    rw [jO_ (fun e : EnV => prC e.p) EnV.K Prod.fst _ _ _ _ _ _ (fun e he => by obtain ⟨q, hq, rfl⟩ := List.mem_map.1 he; rfl), List.map_map, HRG.out]
    rw [show ((fun e : EnV => prC e.p) ∘ enP) = prC from rfl, HPM.out]
    rfl)
   obtain ⟨Z, hZ⟩ := gtx (yP_ EnV.K (zE_ m.j o).2.1 (zE_ m.j o).2.2.1 (zE_ m.j o).2.2.2.1 o.m (P.map enP) [])
   have HZL := hid (show Z.length <= 1000000 by have := jP_ EnV.K (zE_ m.j o).2.1 (zE_ m.j o).2.2.1 (zE_ m.j o).2.2.2.1 o.m (P.map enP) []; rw [hZ, HLE.out] at this; simp at this; omega)
   rw [hZ] at HZM HZP hc9 ho9 ⊢
   have HB1R := hid ((HH.out.2.2.2 wr HB3R.out).2.lt)
   have HO9 := hid ho9
   have HB9 := hid hb9
   have HBT := hid (HB6.out.trans ((za_ HBR.out hb9).mono HB6.out.size))
   have HB3 := hid ((HH.out.2.2.2 wr HB3R.out).2.below hb9)
   have HB2 := hid ((HH.out.2.2.2 w2 (Below.refl _ _)).2.lt)
   have HWC := hid (show w2.heap.size <= wc.heap.size from HB23.out)
   clear hZ hb9 hc9 hn9 ho9 c5 s0 s1 s2 s3
   have g0 := HB3.out.cell 0
   have g1 := HB3.out.cell 1
   have i0 := HB3.out.frozen 0
   have i1 := HB3.out.frozen 1
   simp only [gtA, gtB, gtC] at g0 g1
   go_wp2_with fail
   clear g0 g1 i0 i1
   have hb4 := zg_.set2 (x := .int .i64 0) (y := .slice a9 Z.length c9) HB3.out
   have ho4 : Off (fun k => k = w.heap.size + 1) w3 ((w3.setCell ⟨w.heap.size + 1, 0, none⟩ (.int .i64 0)).setCell ⟨w.heap.size + 1, 1, none⟩ (.slice a9 Z.length c9)) :=
    Off.set (S := fun k => k = w.heap.size + 1) (Off.set (S := fun k => k = w.heap.size + 1) (Off.refl _ w3) ⟨w.heap.size + 1, 0, none⟩ rfl _) ⟨w.heap.size + 1, 1, none⟩ rfl _
   revert hb4 ho4
   generalize (w3.setCell ⟨w.heap.size + 1, 0, none⟩ (.int .i64 0)).setCell ⟨w.heap.size + 1, 1, none⟩ (.slice a9 Z.length c9) = w4
   intro hb4 ho4
   have q0 := hb4.cell 0
   have q1 := hb4.cell 1
   have HO4 := hid ho4
   clear hb4 ho4
   refine bodyPost_end (v := .agg #[.int .i64 0, .slice a9 Z.length c9]) (by simp [results, results127, go_sem, q0, q1]) rfl ?_
   have hzp : ∀ e ∈ Z, ∃ q ∈ P, enP q = e := fun e he => by
    rcases HZM.out e he with h | h
    ·exact List.mem_map.1 h
    ·cases h
   have hl9 : (Z.map EnV.p).length = Z.length := List.length_map _
   have hzl : Z.length <= 1000000 := HZL.out
   refine ⟨S, x, ⟨0, a9, c9, Z.map EnV.p⟩, by rw [hl9], TSt.same HH.out.1 (Off.below HBT.out HO4.out HBT.out.size Xt37), ?_, ⟨by rw [hl9]; exact hzl, fun p hp => ?_⟩, ?_, rfl⟩
   ·show ((0 : Int), (Z.map EnV.p).map prC) = _
    rw [List.map_map]
    rw [show (prC ∘ EnV.p) = fun e : EnV => prC e.p from rfl, HZP.out]
   ·obtain ⟨e, he, rfl⟩ := List.mem_map.1 hp
    obtain ⟨q, hq, rfl⟩ := hzp e he
    have := HPO.out q hq
    exact ⟨this.1.1, yF_ this.2, by have h2 := this.2.2.1; rw [List.length_map] at h2; show q.R.length <= 1000000; omega⟩
   ·have hbd9 : ∀ k, (fun k => Rb S base k ∨ k = w.heap.size + 1) k -> k < wc.heap.size := fun k hk => by
     rcases hk with hk | rfl
     ·exact Nat.lt_of_lt_of_le (HH.out.1.rb HH.out.2.1 k hk) HBW.out.size
     ·exact Nat.lt_of_lt_of_le HB2.out HWC.out
    have h9 := ((HST.out _ hbd9).below (za_ HBR.out HB9.out)).off (HO4.out.mono fun k hk => .inr hk)
    intro W' o'
    have hrow := zm_ (zm_ HO9.out HO4.out (fun k hk => by cases hk; exact HB1R.out)) o' (fun k hk => Nat.lt_of_lt_of_le (HH.out.1.rb HH.out.2.1 k hk) (Nat.le_trans HB6.out.size HBR.out.size))
    have hrow : W'.ownsRow wr.heap.size 78 2 (.slice a9 (Z.map EnV.p).length c9) (Z.map EnV.p).length (zi_ (Z.map EnV.p)) := by rw [hl9]; exact hrow
    refine ⟨yi_ hrow rfl (fun p hp => ?_), WrB.of hrow, fun p hp => ?_⟩
    rotate_left
    ·obtain ⟨e, he, rfl⟩ := List.mem_map.1 hp
     obtain ⟨q, hq, rfl⟩ := hzp e he
     exact ((h9.less (fun k hk => .inl hk)) W' o').2.2 q hq
    obtain ⟨e, he, rfl⟩ := List.mem_map.1 hp
    obtain ⟨q, hq, rfl⟩ := hzp e he
    obtain ⟨i, hi⟩ := List.mem_iff_getElem?.1 hq
    obtain ⟨_, _, _, _, _, l, r⟩ := ((h9.less (fun k hk => .inl hk)) W' o').1 i q hi
    exact ⟨l, r⟩
end
section
open Go.Shelf
def EnQ (base : Nat) (V : List (Int × List Int) × Int) (r : Ending) (w' : World) : Prop := ∃ (a : Option Addr) (c : Nat) (L : List E1), r = .returned (.tuple #[.slice a V.1.length c, .int .i64 V.2]) /\ enS L = V.1 /\ w'.ownsRow base 192 2 (.slice a V.1.length c) V.1.length (ev L) /\ ∀ p ∈ L, w'.ownsRow base 5 1 p.2.v p.2.bs.length (iv .u8 p.2.bs)
theorem Qf_ (base : Nat) (w' : World) {V : List (Int × List Int) × Int} (h : V = ([], 2)) : EnQ base V (.returned (.tuple #[.slice none 0 0, .int .i64 2])) w' := by
 subst h
 exact ⟨none, 0, [], rfl, rfl, World.ownsRow_nil _ _ _ _, fun p hp => by simp at hp⟩
theorem Q0_ (j : Job) (t : Int) (ka : Option Addr) (K : List Int) (kn kc : Nat) (ra : Option Addr) (R : List P1) (rn rc : Nat) (hK : K.length = kn) (hR : R.length = rn) (hrn : rn <= 1000000) (w : World) (hj : z2_ w j) (hk : Ls .u8 w ka kc K) (hr : RdR w ra R) :
  Calls prog 118 #[.agg #[.int .i64 j.w, .int .i64 j.l, .int .i64 j.d, .int .i64 j.c, .int .i64 j.k, .int .i64 j.e, .slice j.a j.n j.cap], .int .i64 t, .slice ka kn kc, .slice ra rn rc] w fun r w' => EnQ w.heap.size (Qt_ j t R K) r w' /\ Below w.heap.size w w' := by
 obtain ⟨i0, hi, hz0, hz1, hz2⟩ := info_parts info91
 have HJ := hid hj
 have HKK := hid hk
 have HRR := hid hr
 have HK := hid hK
 have HR := hid hR
 have HTR := hid (fun W (h : z2_ W j) => qA_ j t (-1) W h)
 have HF := hid (fun (h : (trV j t (-1)).2.2.2 = true) => trV_facts hj.len h)
 have HV := hid (show Qt_ j t R K = if (trV j t (-1)).2.2.2 && yA_ K.length && jg_ R then (Qu_ (trV j t (-1)).1.toNat (min (j.T.getD t.toNat 0).toNat (R.length - 1)) R K, 0) else ([], 2) from rfl)
 have hri : (rn : Int) <= 1000000 := by omega
 have hB1 : Below w.heap.size w (w.alloc (.cells #[.int .i64 j.w, .int .i64 j.l, .int .i64 j.d, .int .i64 j.c, .int .i64 j.k, .int .i64 j.e, .slice j.a j.n j.cap] 24)) := (Below.refl _ _).alloc (Nat.le_refl _) _
 have HB1 := hid hB1
 have hbj := zg_.new w #[.int .i64 j.w, .int .i64 j.l, .int .i64 j.d, .int .i64 j.c, .int .i64 j.k, .int .i64 j.e, .slice j.a j.n j.cap] 24
 clear hj hk hr hK hR hB1
 generalize trV j t (-1) = V at HTR HF HV
 obtain ⟨f, t0, ix, ok⟩ := V
 simp only at HTR HF HV
 cases ok
 ·have HN := hid (show Qt_ j t R K = ([], 2) from HV.out)
  try simp only [Bool.false_eq_true, ↓reduceIte] at HTR
  clear HF HV hbj
  go_enter func118, ntmps118
  go_wp2_with fail
  refine (HTR.out _ (HJ.out.below HB1.out)).mono ?_; rintro r w2 ⟨rfl, B2⟩
  have HB2 := hid (za_ HB1.out B2)
  clear B2
  go_wp2_with fail
  go_ret2
  exact ⟨Qf_ _ _ HN.out, HB2.out⟩
 ·obtain ⟨k, f, rfl, hkT, hok, hf12, hfe⟩ := HF.out rfl
  try simp only at hfe
  subst hfe
  try simp only [↓reduceIte] at HTR
  have hT := hid (jh_ hok)
  have hxx := jh_ hok k hkT
  obtain ⟨x, hx⟩ : ∃ x : Nat, j.T.getD k 0 = (x : Int) := ⟨(j.T.getD k 0).toNat, by omega⟩
  have hx2 : x <= 2 := by omega
  have hx2i : (x : Int) <= 2 := by omega
  have hkn : (k : Int) < (j.n : Int) := by rw [← HJ.out.len]; omega
  obtain ⟨b1, o1, ea, d1⟩ := (HJ.out.ls).get k hkT
  rw [hx] at d1
  have D1 := hid d1
  have HVV := hid (show yA_ kn = true -> jg_ R = true -> Qt_ j (k : Int) R K = (Qu_ f (min x (rn - 1)) R K, 0) from fun h1 h2 => by
   rw [HV.out, HK.out, h1, h2, HR.out, Int.toNat_natCast, Int.toNat_natCast, hx, Int.toNat_natCast]
   rfl)
  have HVN := hid (show yA_ kn = false ∨ jg_ R = false -> Qt_ j (k : Int) R K = ([], 2) from fun h => by
   rw [HV.out, HK.out]
   rcases h with h | h
   ·rw [h]; simp
   ·rw [h]; simp)
  have hfi : (f : Int) <= 12 := by omega
  clear HF hxx hx hok HV
  have c6 := hbj.cell 6
  simp only [gtA, gtB, gtC] at c6
  have HEA := hid ea
  have C6 := hid c6
  clear hbj c6 hkT ea d1
  cases hmk : yA_ kn
  ·have HN := hid (HVN.out (.inl hmk))
   have HMK := hid hmk
   clear HVV HVN hmk
   go_enter func118, ntmps118
   go_wp2_with fail
   refine (HTR.out _ (HJ.out.below HB1.out)).mono ?_; rintro r w2 ⟨rfl, B2⟩
   have HB2 := hid (za_ HB1.out B2)
   clear B2
   go_wp2_with fail
   refine (zN_ _ _ _ _).mono ?_; rintro r w3 ⟨rfl, rfl⟩
   rw [HMK.out]
   go_wp2_with fail
   go_ret2
   exact ⟨Qf_ _ _ HN.out, HB2.out⟩
  cases hro : jg_ R
  ·have HN := hid (HVN.out (.inr hro))
   have HMK := hid hmk
   have hro2 : 0 < rn /\ y4_ R = false := by
    unfold jg_ at hro
    simp at hro
    exact ⟨by rw [← HR.out]; exact List.length_pos_iff.2 hro.1, hro.2⟩
   have hrn0 : (0 : Int) < (rn : Int) := by omega
   have HMR := hid (fun W (b : RdR W ra R) => by have := x7_ ra R rn rc HR.out hrn W b; rwa [hro2.2] at this)
   clear HVV HVN hmk hro hro2
   go_enter func118, ntmps118
   go_wp2_with fail
   refine (HTR.out _ (HJ.out.below HB1.out)).mono ?_; rintro r w2 ⟨rfl, B2⟩
   have HB2 := hid (za_ HB1.out B2)
   clear B2
   go_wp2_with fail
   refine (zN_ _ _ _ _).mono ?_; rintro r w3 ⟨rfl, rfl⟩
   rw [HMK.out]
   go_wp2_with fail
   refine (HMR.out _ (HRR.out.below HB2.out)).mono ?_; rintro r w3 ⟨rfl, B3⟩
   have HB3 := hid (za_ HB2.out B3)
   clear B3
   go_wp2_with fail
   go_ret2
   exact ⟨Qf_ _ _ HN.out, HB3.out⟩
  ·have HN := hid (HVV.out hmk hro)
   have HMK := hid hmk
   clear HVV HVN hmk
   rcases (show rn = 0 ∨ (0 < rn /\ y4_ R = true) by
    unfold jg_ at hro
    simp at hro
    rcases hro with h | h
    ·left; rw [← HR.out, h]; rfl
    ·right; exact ⟨by rw [← HR.out]; exact ((xx_ R).1 h).2.1, h⟩) with hr0 | ⟨hr0, hmr⟩
   ·subst hr0
    have HN2 := hid (show Qt_ j (k : Int) R K = ([], 0) by rw [HN.out]; simp [Qu_])
    clear hro HN
    go_enter func118, ntmps118
    go_wp2_with fail
    refine (HTR.out _ (HJ.out.below HB1.out)).mono ?_; rintro r w2 ⟨rfl, B2⟩
    have c6 := (B2.cell (p := ⟨w.heap.size, 6, none⟩) Xt5).trans C6.out
    rw [HEA.out] at c6
    have d2 := ((za_ HB1.out B2).cell (p := ⟨b1, o1 + k, none⟩) (World.block_lt_of_cell? w _ D1.out)).trans D1.out
    have HB2 := hid (za_ HB1.out B2)
    clear B2
    go_wp2_with fail
    refine (zN_ _ _ _ _).mono ?_; rintro r w3 ⟨rfl, rfl⟩
    rw [HMK.out]
    go_wp2_with fail
    go_loopw [12, 44] (fun v i wr => ∃ m : Nat, m <= x /\ i = .int .i64 (m : Int) /\ v = .slice none 0 0 /\ wr = w2) (fun _ i _ => x - (intOf i).toNat)
    case atStart => exact ⟨0, by omega, rfl, rfl, rfl⟩
    case round =>
     obtain ⟨m, hm, rfl, rfl, rfl⟩ := hrel
     by_cases hlt : m < x
     ·have hml : (m : Int) < (x : Int) := by omega
      have hm1 : ¬ (m : Int) + 1 < 0 := by omega
      go_wp2_with fail
      go_roundw
      case rel => exact ⟨m + 1, by omega, by go_num, rfl, trivial⟩
      case measure => simp [intOf]; omega
     ·have hml : ¬ (m : Int) < (x : Int) := by omega
      go_wp2_with fail
      go_ret2
      exact ⟨by rw [HN2.out]; exact ⟨none, 0, [], rfl, rfl, World.ownsRow_nil _ _ _ _, fun p hp => by simp at hp⟩, HB2.out⟩
   ·have hrn0 : (0 : Int) < (rn : Int) := by omega
    have HMR := hid (fun W (b : RdR W ra R) => by have := x7_ ra R rn rc HR.out hrn W b; rwa [hmr] at this)
    have HM := hid ((xx_ R).1 hmr)
    have hrn3 : rn <= 3 := by have := HM.out.2.2; rw [HR.out] at this; exact this
    clear hro hmr
    go_enter func118, ntmps118
    go_wp2_with fail
    refine (HTR.out _ (HJ.out.below HB1.out)).mono ?_; rintro r w2 ⟨rfl, B2⟩
    have c6' := (B2.cell (p := ⟨w.heap.size, 6, none⟩) Xt5).trans C6.out
    rw [HEA.out] at c6'
    have HB2 := hid (za_ HB1.out B2)
    have hlw : w.heap.size < w2.heap.size := by have := B2.size; simp at this; omega
    clear B2
    go_wp2_with fail
    refine (zN_ _ _ _ _).mono ?_; rintro r w3 ⟨rfl, rfl⟩
    rw [HMK.out]
    go_wp2_with fail
    refine (HMR.out _ (HRR.out.below HB2.out)).mono ?_; rintro r w3 ⟨rfl, B3⟩
    have c6 := (B3.cell (p := ⟨w.heap.size, 6, none⟩) hlw).trans c6'
    have d2 := ((za_ HB2.out B3).cell (p := ⟨b1, o1 + k, none⟩) (World.block_lt_of_cell? w _ D1.out)).trans D1.out
    have HB3 := hid (za_ HB2.out B3)
    clear B3 c6'
    go_wp2_with fail
    go_loopw [12, 44] (fun v i wr => ∃ m : Nat, m <= x /\ i = .int .i64 (m : Int) /\ EnI w.heap.size f (min m (rn - 1)) R K v wr /\ Below w.heap.size w wr) (fun _ i _ => x - (intOf i).toNat)
    case atStart => exact ⟨0, by omega, rfl, ⟨[], by simp [enS, Qu_], by rw [Nat.zero_min]; exact World.ownsRow_nil _ _ _ _, fun p hp => by simp at hp⟩, HB3.out⟩
    case round =>
     clear c6 d2
     obtain ⟨m, hm, rfl, hI, B⟩ := hrel
     by_cases hlt : m < x
     ·have hml : (m : Int) < (x : Int) := by omega
      have hmi : (m : Int) <= 2 := by omega
      have BB := hid B
      have HI := hid hI
      clear hI B
      by_cases hmr : m + 1 < rn
      ·have hmrl : (m : Int) + 1 < (rn : Int) := by omega
       have hm0 : (0 : Int) <= (m : Int) + 1 := by omega
       have hmt : ((m : Int) + 1).toNat = m + 1 := by omega
       obtain ⟨p, hp⟩ : ∃ p, R[m + 1]? = some p := ⟨_, List.getElem?_eq_getElem (by rw [HR.out]; exact hmr)⟩
       obtain ⟨b2, o2, e2, c2, l2⟩ := HRR.out.below BB.out (m + 1) p hp
       subst e2
       have c3 : wr.cell? ⟨b2, o2 + (m + 1), none⟩ = some (.slice p.ad p.bs.length p.cap) := c2
       obtain ⟨q, hq⟩ := gtx (p.bs.length)
       rw [hq] at c3
       have hq24 : q <= 24 := by rw [← hq]; exact HM.out.1 p (List.mem_of_getElem? hp)
       have HE := hid (entry_own p.ad ka p.bs K q kn p.cap kc hq HK.out hq24 HMK.out wr l2 (HKK.out.below BB.out))
       have HG := hid (show ((R.map P1.bs).getD (m + 1) []) = p.bs by simp [List.getD, hp])
       obtain ⟨EL, hEL⟩ := gtx (zu_ p.bs K)
       rw [hEL] at HE
       have hs1 := BB.out.size
       obtain ⟨el, hel⟩ := gtx (EL.length)
       rw [hel] at HE
       have HEL := hid (And.intro hEL hel)
       have hmin : min m (rn - 1) = m := by omega
       rw [hmin] at HI
       clear hp c2 l2 hq hEL hel hmin
       go_wp2_with fail
       refine HE.out.mono ?_; rintro r w4 ⟨a4, c4, rfl, o4, B4⟩
       obtain ⟨L, i1, i2, i3⟩ := (HI.out.below B4).ex
       have O4 := hid (x5_ hs1 o4)
       have I1 := hid i1
       have I2 := hid i2
       have I3 := hid i3
       have hs4 : w.heap.size <= w4.heap.size := Nat.le_trans hs1 B4.size
       have HB4 := hid (za_ BB.out B4)
       have hsum : ((f + 1 + m : Nat) : Int) = (f : Int) + 1 + (m : Int) := by omega
       have HS := hid hsum
       clear o4 i1 i2 i3 B4 c3 hsum
       go_wp2_with (at_builtin; refine wpList_append_own _ rfl (.tmp 62) (.tmp 69) 188 rfl w.heap.size 192 i0 (.agg #[.int .i64 0, .slice none 0 0]) 2 32 underlying188 hi hz0 hz1 hz2 rfl Xt4 _ m (ev L) rfl (I2.out.alloc _) ⟨w4.heap.size, 0, none⟩ 1 1 [.int .i64 ((f : Int) + 1 + (m : Int)), .slice a4 el c4] rfl rfl (cell_two_new _ _ _ _) (by intro u hu; simp at hu; rcases hu with rfl | rfl <;> rfl) Xt15 Xt0 Xt7 ?_)
       intro v5 w5 hown5 hgrow5 _
       have keep : ∀ (y : Value) (n : Nat) (xs : List Value), w4.ownsRow w.heap.size 5 1 y n xs -> w5.ownsRow w.heap.size 5 1 y n xs := fun y n xs hy => (hy.alloc _).kept hgrow5 (QM_ hy I2.out Xt4)
       have b5 : Below w.heap.size w4 w5 := ((Below.refl _ w4).alloc hs4 _).grown hgrow5 Xt7 (fun j hj => (I2.out.lt j hj).1)
       have HI5 := hid (show EnI w.heap.size f (min (m + 1) (rn - 1)) R K v5 w5 by
        rw [show min (m + 1) (rn - 1) = m + 1 by omega]
        refine ⟨L ++ [(((f + 1 + m : Nat) : Int), ⟨a4, c4, EL⟩)], ?_, ?_, fun p hp => ?_⟩
        ·rw [entL_succ, HG.out, HEL.out.1, ← I1.out]; simp [enS]
        ·rw [ev_append, HS.out]
         have e : ev [((f : Int) + 1 + (m : Int), (⟨a4, c4, EL⟩ : P1))] = [.int .i64 ((f : Int) + 1 + (m : Int)), .slice a4 el c4] := by simp [ev, P1.v, HEL.out.2]
         rw [e]; exact hown5
        ·rcases List.mem_append.1 hp with hp | hp
         ·exact keep _ _ _ (I3.out p hp)
         ·simp at hp
          subst hp
          have := keep _ _ _ O4.out
          simpa [P1.v, HEL.out.2] using this)
       have HB5 := hid (HB4.out.trans b5)
       clear keep b5 hown5 hgrow5
       go_wp2_with fail
       go_roundw
       case rel => exact ⟨m + 1, by omega, by go_num, HI5.out, HB5.out⟩
       case measure => simp [intOf]; omega
      ·have hmrl : ¬ (m : Int) + 1 < (rn : Int) := by omega
       have HI5 := hid (show EnI w.heap.size f (min (m + 1) (rn - 1)) R K _ wr by
        rw [show min (m + 1) (rn - 1) = min m (rn - 1) by omega]; exact HI.out)
       go_wp2_with fail
       go_roundw
       case rel => exact ⟨m + 1, by omega, by go_num, HI5.out, BB.out⟩
       case measure => simp [intOf]; omega
     ·have hml : ¬ (m : Int) < (x : Int) := by omega
      obtain rfl : m = x := by omega
      obtain ⟨L, i1, i2, i3⟩ := hI.ex
      have hL : L.length = min m (rn - 1) := by have := congrArg List.length i1; simpa [enS, y0_] using this
      obtain ⟨la, lc, hv⟩ := zd_ i2
      subst hv
      have HE := hid (And.intro i2 i3)
      have I1 := hid i1
      have BB := hid B
      clear hI i1 i2 i3 B
      go_wp2_with fail
      go_ret2
      exact ⟨by rw [HN.out]; exact ⟨la, lc, L, by rw [y0_]; rfl, I1.out, by rw [y0_]; exact HE.out.1, HE.out.2⟩, BB.out⟩
end
section
open Go.Maps
theorem xH_ : ∀ (f p k : List Int), (p ++ f).length <= 24 -> yA_ k.length = true -> 1 <= k.length -> ya_ p (zu_ f k) = some (p ++ f, k)
 | [], p, k, hl, hk, h1 => by
  simp only [zu_, zk_, List.nil_append, List.cons_append, ya_, if_true, List.append_nil] at hl ⊢
  rw [if_pos ⟨hl, hk⟩]
 | x :: f, p, k, hl, hk, h1 => by
  have ih := xH_ f (p ++ [x]) k (by simpa using hl) hk h1
  have e : zu_ (x :: f) k = esc x ++ zu_ f k := by simp [zu_, zk_]
  rw [e]
  unfold esc
  split
  ·rename_i h0
   subst h0
   simp only [List.cons_append, List.nil_append, ya_, if_true, show ¬ (255 : Int) = 1 by decide, if_false]
   rw [ih]; simp
  ·rename_i h0
   obtain ⟨y, s, hy⟩ : ∃ y s, zu_ f k = y :: s := by
    cases h : zu_ f k with
    | nil => have := congrArg List.length h; simp [zu_] at this
    | cons y s => exact ⟨y, s, rfl⟩
   rw [hy, List.cons_append, List.nil_append, ya_, if_neg h0, ← hy, ih]; simp
theorem qw_ (f k : List Int) (hf : f.length <= 24) (hk : yA_ k.length = true) : y2_ (zu_ f k) = (f, k, 0) := by
 have h1 : 1 <= k.length := by unfold yA_ at hk; simp at hk; exact hk.1
 rw [y2_, xH_ f [] k (by simpa using hf) hk h1]; rfl
theorem entryL_inj {f g k l : List Int} (hf : f.length <= 24) (hg : g.length <= 24) (hk : yA_ k.length = true) (hl : yA_ l.length = true) (h : zu_ f k = zu_ g l) : f = g /\ k = l := by
 have h1 := qw_ f k hf hk
 rw [h, qw_ g l hg hl] at h1
 simp only [Prod.mk.injEq, and_true] at h1
 exact ⟨h1.1.symm, h1.2.symm⟩
def ofP (R : List (List Int)) : List P1 := R.map fun b => ⟨none, 0, b⟩
theorem ofP_bs (R : List (List Int)) : (ofP R).map P1.bs = R := by
 unfold ofP
 rw [List.map_map]
 have : (P1.bs ∘ fun b : List Int => (⟨none, 0, b⟩ : P1)) = id := rfl
 rw [this, List.map_id]
theorem allB_ext {R R' : List P1} (h : R.map P1.bs = R'.map P1.bs) : Za_ R = Za_ R' := by
 have e : ∀ R : List P1, Za_ R = (R.map P1.bs).all fun b => decide (b.length <= 24) := fun R => by unfold Za_; rw [List.all_map]; rfl
 rw [e, e, h]
theorem entV_ext (j : Job) (t : Int) {R R' : List P1} (h : R.map P1.bs = R'.map P1.bs) (K : List Int) : Qt_ j t R K = Qt_ j t R' K := by
 have hl : R.length = R'.length := by have := congrArg List.length h; simpa using this
 have e2 : ∀ f m, Qu_ f m R K = Qu_ f m R' K := fun f m => by unfold Qu_; rw [h]
 unfold Qt_ jg_ y4_
 rw [hl, allB_ext h, e2]
theorem jF_ {K : List Int} (h : zH_ K) : yA_ K.length = true := by unfold yA_; rw [decide_eq_true_eq]; exact h.2
def entP (j : Job) (t tr : Int) (p : Pr) : List (List Int × Pr) := ((Qt_ j t (ofP p.2) p.1).1.filter fun e => decide (e.1 = tr)).map fun e => (e.2, p)
def qp_ (j : Job) (t tr : Int) (T : List Pr) : List (List Int × Pr) := T.flatMap (entP j t tr)
def yL_ (j : Job) (t tr : Int) (T : List Pr) : List (List Int × Pr) := (qp_ j t tr T).mergeSort fun a b => leL a.1 b.1
theorem qG_ {j : Job} {t tr : Int} {p : Pr} (hk : zH_ p.1) (hr : rOk p.2) {e : List Int × Pr} (he : e ∈ entP j t tr p) : e.2 = p /\ ∃ f : List Int, f.length <= 24 /\ Byt f /\ f ∈ p.2 /\ e.1 = zu_ f p.1 := by
 unfold entP at he
 obtain ⟨x, hx, rfl⟩ := List.mem_map.1 he
 have hx := (List.mem_filter.1 hx).1
 refine ⟨rfl, ?_⟩
 unfold Qt_ at hx
 split at hx
 ·unfold Qu_ at hx
  obtain ⟨i, hi, rfl⟩ := List.mem_map.1 hx
  rw [List.mem_range] at hi
  rw [ofP_bs]
  have hl : (ofP p.2).length = p.2.length := List.length_map _
  rw [hl] at hi
  have hi2 : i + 1 < p.2.length := by omega
  have hm : p.2.getD (i + 1) [] ∈ p.2 := by
   rw [List.getD_eq_getElem?_getD, List.getElem?_eq_getElem hi2]; exact List.getElem_mem hi2
  exact ⟨_, (hr.2.2 _ hm).2, (hr.2.2 _ hm).1, hm, rfl⟩
 ·cases hx
theorem entP_one {j : Job} {t tr : Int} {p : Pr} : (entP j t tr p).length <= 1 := by
 unfold entP
 rw [List.length_map]
 unfold Qt_
 split
 ·unfold Qu_
  rw [List.filter_map, List.length_map]
  have hn : ∀ m, ((List.range m).filter ((fun e : Int × List Int => decide (e.1 = tr)) ∘ fun (i : Nat) => ((((trV j t (-1)).1.toNat + 1 + i : Nat) : Int), zu_ (((ofP p.2).map P1.bs).getD (i + 1) []) p.1))).length <= 1 := fun m => by
   have hd : ((List.range m).filter ((fun e : Int × List Int => decide (e.1 = tr)) ∘ fun (i : Nat) => ((((trV j t (-1)).1.toNat + 1 + i : Nat) : Int), zu_ (((ofP p.2).map P1.bs).getD (i + 1) []) p.1))).Nodup := List.Pairwise.filter _ List.nodup_range
   match hq : (List.range m).filter ((fun e : Int × List Int => decide (e.1 = tr)) ∘ fun (i : Nat) => ((((trV j t (-1)).1.toNat + 1 + i : Nat) : Int), zu_ (((ofP p.2).map P1.bs).getD (i + 1) []) p.1)), hd with
   | [], _ => simp
   | [_], _ => simp
   | a :: b :: r, hd =>
    exfalso
    have ha : a ∈ (List.range m).filter ((fun e : Int × List Int => decide (e.1 = tr)) ∘ fun (i : Nat) => ((((trV j t (-1)).1.toNat + 1 + i : Nat) : Int), zu_ (((ofP p.2).map P1.bs).getD (i + 1) []) p.1)) := by rw [hq]; simp
    have hb : b ∈ (List.range m).filter ((fun e : Int × List Int => decide (e.1 = tr)) ∘ fun (i : Nat) => ((((trV j t (-1)).1.toNat + 1 + i : Nat) : Int), zu_ (((ofP p.2).map P1.bs).getD (i + 1) []) p.1)) := by rw [hq]; simp
    have ha := (List.mem_filter.1 ha).2
    have hb := (List.mem_filter.1 hb).2
    simp only [Function.comp, decide_eq_true_eq] at ha hb
    have : a = b := by omega
    subst this
    simp at hd
  exact hn _
 ·simp
theorem qZ_ {j : Job} {t tr : Int} {T : List Pr} (hT : tOk T) : (qp_ j t tr T).Pairwise fun a b => a.1 ≠ b.1 := by
 unfold qp_
 rw [List.pairwise_flatMap]
 refine ⟨fun p hp => ?_, ?_⟩
 ·have := entP_one (j := j) (t := t) (tr := tr) (p := p)
  match hq : entP j t tr p, this with
  | [], _ => exact List.Pairwise.nil
  | [_], _ => simp
  | _ :: _ :: _, h => simp at h
 ·refine List.Pairwise.imp_of_mem (fun {p q} hp hq hpq => ?_) hT.1
  intro a ha b hb e
  obtain ⟨_, f, hf, _, _, e1⟩ := qG_ (hT.2 p hp).1 (hT.2 p hp).2 ha
  obtain ⟨_, g, hg, _, _, e2⟩ := qG_ (hT.2 q hq).1 (hT.2 q hq).2 hb
  rw [e1, e2] at e
  have := (entryL_inj hf hg (jF_ (hT.2 p hp).1) (jF_ (hT.2 q hq).1) e).2
  rw [this, zR_] at hpq
  cases hpq
theorem q0_ {j : Job} {t tr : Int} {T : List Pr} (hT : tOk T) : Ris Prod.fst (yL_ j t tr T) := by
 refine x2_ ((List.pairwise_mergeSort (fun a b c => x9_ a.1 b.1 c.1) (fun a b => QU_ a.1 b.1) _).imp fun {a b} h => by unfold leL at h; simpa using h) ?_
 exact qs_ (List.mergeSort_perm _ _).symm (qZ_ hT)
theorem lookE_eq {j : Job} {t tr : Int} {T : List Pr} (hT : tOk T) {E : List (List Int × Pr)} (hp : E.Perm (qp_ j t tr T)) (hs : E.Pairwise fun a b => ltL b.1 a.1 = false) : E = yL_ j t tr T :=
 ris_perm (x2_ hs (qs_ hp.symm (qZ_ hT))) (q0_ hT) (hp.trans (List.mergeSort_perm _ _).symm)
theorem Off.trans2 {T R : Nat -> Prop} {W W' W'' : World} (h : Off T W W') (k : Off R W' W'') (hr : ∀ b, R b -> T b ∨ W.heap.size <= b) : Off T W W'' :=
 ⟨k.os.trans h.os, k.tape.trans h.tape, k.output.trans h.output, Nat.le_trans h.size k.size, fun i hi hs => (k.block i (Nat.lt_of_lt_of_le hi h.size) (fun e => (hr i e).elim hs (fun hh => by omega))).trans (h.block i hi hs)⟩
theorem yM_ : ∀ {f : List Int}, Byt f -> Byt (zk_ f)
 | [], _ => fun x hx => by simp [zk_] at hx
 | a :: f, h => by
  have ih := yM_ (f := f) fun x hx => h x (List.mem_cons_of_mem _ hx)
  have ha := h a (List.mem_cons_self ..)
  have e : zk_ (a :: f) = esc a ++ zk_ f := by rw [show a :: f = [a] ++ f from rfl, ye_, xy_]
  rw [e]
  refine Byt.append ?_ ih
  unfold esc
  intro x hx
  split at hx
  ·simp at hx; rcases hx with rfl | rfl <;> omega
  ·simp at hx; subst hx; exact ha
theorem qr_ {f K : List Int} (hf : Byt f) (hK : Byt K) : Byt (zu_ f K) := by
 unfold zu_
 refine (yM_ hf).append (Byt.append (fun x hx => ?_) hK)
 simp at hx
 rcases hx with rfl | rfl <;> omega
theorem entV_byt22 {j : Job} {t : Int} {R : List P1} {K : List Int} (hR : ∀ p ∈ R, Byt p.bs) (hK : Byt K) : ∀ e ∈ (Qt_ j t R K).1, Byt e.2 := fun e he => by
 unfold Qt_ at he
 split at he
 ·unfold Qu_ at he
  obtain ⟨i, _, rfl⟩ := List.mem_map.1 he
  refine qr_ ?_ hK
  rw [List.getD_eq_getElem?_getD]
  cases hg : (R.map P1.bs)[i + 1]? with
  | none => exact fun x hx => by simp at hx
  | some b =>
   obtain ⟨p, hp, rfl⟩ := List.mem_map.1 (List.mem_of_getElem? hg)
   exact hR p hp
 ·cases he
def enC (e : EnV) : List Int × Pr := (e.K, prC e.p)
def ESort : Prop := ∀ (W : World) (base : Nat) (a : Option Addr) (n c : Nat) (E : List EnV), E.length = n -> n <= 2000000 -> W.ownsRow base 149 3 (.slice a n c) n (cellsOf ecl E) -> (∀ e ∈ E, Byt e.K /\ zs_ (fun k => Value.ownBlock (.slice a n c) = some k) W (fun W' => EnL W' e)) ->
 Calls prog 119 #[.slice a n c, .func (.func 120) #[] #[]] W fun r W' => r = .returned (.tuple #[]) /\ ∃ E' : List EnV, E'.Perm E /\ (E'.Pairwise fun a b => ltL b.K a.K = false) /\ W'.ownsRow base 149 3 (.slice a n c) n (cellsOf ecl E') /\ Off (fun k => Value.ownBlock (.slice a n c) = some k) W W'
def EtR (w : World) (T : List (List Int × Pr)) (r : Ending) (w' : World) : Prop := ∃ a c L, r = .returned (.slice a L.length c) /\ Below w.heap.size w w' /\ L.map enC = T /\ L.length <= 2000000 /\ (∀ e ∈ L, Byt e.K /\ zH_ e.p.K /\ rOk (e.p.R.map P1.bs)) /\ ∀ S : Nat -> Prop, (∀ k, S k -> k < w.heap.size) -> zs_ S w' fun W' => EnsR W' a L
theorem lookU_take (j : Job) (t tr : Int) {T : List Pr} {k : Nat} {p : Pr} (h : T[k]? = some p) : qp_ j t tr (T.take (k + 1)) = qp_ j t tr (T.take k) ++ entP j t tr p := by
 unfold qp_
 rw [List.take_add_one, h, List.flatMap_append]
 simp
def entK (V : List (Int × List Int)) (tr : Int) (i : Nat) (p : Pr) : List (List Int × Pr) := ((V.take i).filter fun e => decide (e.1 = tr)).map fun e => (e.2, p)
theorem entK_yes {V : List (Int × List Int)} {tr : Int} {i : Nat} {p : Pr} {e : Int × List Int} (h : V[i]? = some e) (he : e.1 = tr) : entK V tr (i + 1) p = entK V tr i p ++ [(e.2, p)] := by
 unfold entK
 rw [List.take_add_one, h]
 simp [he]
theorem entK_no {V : List (Int × List Int)} {tr : Int} {i : Nat} {p : Pr} {e : Int × List Int} (h : V[i]? = some e) (he : ¬ e.1 = tr) : entK V tr (i + 1) p = entK V tr i p := by
 unfold entK
 rw [List.take_add_one, h]
 simp [he]
theorem entV_len {j : Job} (hj : okB j = true) (hjl : j.T.length = j.n) (t : Int) (R : List P1) (K : List Int) : (Qt_ j t R K).1.length <= 2 := by
 unfold Qt_
 split
 ·rw [y0_]
  by_cases h : t.toNat < j.T.length
  ·have := jh_ hj t.toNat h; omega
  ·rw [List.getD_eq_getElem?_getD, List.getElem?_eq_none Xt0]; simp
 ·simp
theorem qv_ (hsort : ESort) {S : Nat -> Prop} {base : Nat} {w : World} {m : Md} {x : Tl} (h : TlR S base w m x) (t : Nat) (ht : t < m.tabs.length) (tr : Int) (hf : ∀ z ∈ m.tabs, z.2.length <= 300000) :
  Calls prog 86 #[.pointer (some ⟨x.px, 0, none⟩), .int .i64 (t : Int), .int .i64 tr] w (EtR w (yL_ m.j t tr (x.T m t))) := by
 have HH := hid h
 have HT := hid ht
 have HP := hid (qj_ h t ht (fun z hz => by have := hf z hz; omega))
 have HSO := hid hsort
 obtain ⟨c0, _⟩ := h.c
 have HC0 := hid c0
 clear h ht hf hsort c0
 go_enter func86, ntmps86
 go_wp2_with fail
 refine HP.out.mono ?_; rintro r w6 ⟨a6, c6, P, rfl, hb6, hP, hok, hPc, hPn, hPl, hst⟩
 have HB6 := hid hb6
 have HPM := hid hP
 have HPO := hid hok
 have HST := hid hst
 have HPR := hid (hst (fun _ => False) (fun _ h => h.elim)).now
 obtain ⟨n, hn⟩ := gtx (P.length)
 rw [hn] at hPl ⊢
 have HN := hid hn
 have hni : (n : Int) <= 1000000 := by omega
 clear hb6 hP hok hPc hPn hst hn
 go_wp2_with fail
 go_loopw [7, 18] (fun v i wr => ∃ (k : Nat) (E : List EnV), k <= n /\ i = .int .i64 (k : Int) /\ E.length <= 2 * k /\ Hid (wr.ownsRow w6.heap.size 149 3 v E.length (cellsOf ecl E)) /\ Hid (E.map enC = qp_ m.j t tr ((P.map prC).take k)) /\ Hid (∀ e ∈ E, Byt e.K /\ e.p ∈ P) /\ Hid (∀ e ∈ E, ∀ S' : Nat -> Prop, (∀ k, S' k -> k < w.heap.size ∨ v.ownBlock = some k) -> zs_ S' wr fun W' => EnL W' e) /\ Hid (Below w6.heap.size w6 wr)) (fun _ i _ => n - (intOf i).toNat)
 case atStart => exact ⟨0, [], by omega, rfl, Nat.zero_le _, hid (World.ownsRow_nil _ _ _ _), hid rfl, hid (fun e he => by simp at he), hid (fun e he => by simp at he), hid (Below.refl _ _)⟩
 case round =>
  obtain ⟨k, E, hk, rfl, hEl, HOV, HEM, HEB, HES, HBR⟩ := hrel
  obtain ⟨va, vc, hv⟩ := zd_ HOV.out
  subst hv
  by_cases hlt : k < n
  ·have d1 : (k : Int) < (n : Int) := by omega
   obtain ⟨p, hp⟩ : ∃ p, P[k]? = some p := ⟨_, List.getElem?_eq_getElem Xt8⟩
   obtain ⟨b1, o1, ea, p0, p1, hpl, hpr⟩ := (HPR.out.below HBR.out).1 k p hp
   subst ea
   have HPM1 := hid (List.mem_of_getElem? hp)
   have hpo := HPO.out p HPM1.out
   have HOK := hid (And.intro (show p.R.length <= 1000000 by have := hpo.2.2.1; rw [List.length_map] at this; omega) hpo)
   have HLU := hid (lookU_take m.j t tr (T := P.map prC) (k := k) (p := prC p) (by rw [List.getElem?_map, hp]; rfl))
   go_upto_region 5 with (fail)
   have HB5a := hid (bl1 wr (.cells #[.slice p.ka p.K.length p.kc, .slice p.ra p.R.length p.rc] 78))
   have hbx := zg_.new wr #[.slice p.ka p.K.length p.kc, .slice p.ra p.R.length p.rc] 78
   obtain ⟨bx, hbxe⟩ := gtx (wr.heap.size)
   have HSX := hid hbxe
   rw [hbxe] at hbx
   obtain ⟨w5, hw5⟩ := gty (wr.alloc (.cells #[.slice p.ka p.K.length p.kc, .slice p.ra p.R.length p.rc] 78))
   rw [← hw5] at HB5a hbx ⊢
   rw [hbxe]
   have HPL := hid (And.intro (hpl.below HB5a.out) (hpr.below HB5a.out))
   have HBX := hid hbx
   have HBW5 := hid (HB6.out.trans ((za_ HBR.out HB5a.out).mono HB6.out.size))
   have HMD5 := hid (HH.out.below HBW5.out).md
   have HX := hid (fun X (b : Below w5.heap.size w5 X) => (by
    have hm := (HMD5.out.below b).st.now.box
    have hq := HBX.out.below b
    have b2 := HBW5.out.trans (b.mono HBW5.out.size)
    refine ⟨tcb b2 HC0.out, ?_, ?_, ?_, ?_, ?_, ?_, ?_, ?_, ?_⟩
    all_goals first | (rw [hm.cell]; rfl) | (rw [hq.cell]; rfl) : X.cell? ⟨x.px, 0, none⟩ = some (.pointer (some ⟨m.p, 0, none⟩)) /\ X.cell? ⟨m.p, 0, none⟩ = some (.int .i64 m.j.w) /\ X.cell? ⟨m.p, 1, none⟩ = some (.int .i64 m.j.l) /\ X.cell? ⟨m.p, 2, none⟩ = some (.int .i64 m.j.d) /\ X.cell? ⟨m.p, 3, none⟩ = some (.int .i64 m.j.c) /\ X.cell? ⟨m.p, 4, none⟩ = some (.int .i64 m.j.k) /\ X.cell? ⟨m.p, 5, none⟩ = some (.int .i64 m.j.e) /\ X.cell? ⟨m.p, 6, none⟩ = some (.slice m.j.a m.j.n m.j.cap) /\ X.cell? ⟨bx, 0, none⟩ = some (.slice p.ka p.K.length p.kc) /\ X.cell? ⟨bx, 1, none⟩ = some (.slice p.ra p.R.length p.rc)))
   have HP9 := hid hp
   clear hbx hw5 hbxe hp p0 p1 hpl hpr hpo
   refine rgw w5 (Below.refl _ _).drew fun hH => ?_
   refine tkq3 0 1 2 ?_
   refine tkr 3 rfl (fun W hSw => by have q := (HX.out W hSw).1; exact tks) ?_
   refine tkq2 4 5 ?_
   refine tkr 6 rfl Xf26 ?_
   refine tkq2 7 8 ?_
   refine tkr 9 rfl (fun W hSw => by have q := (HX.out W hSw).2.2.2.2.2.2.2.2.1; exact tks) ?_
   refine tkq 10 ?_
   refine tkr 11 rfl (fun W hSw => by have q := (HX.out W hSw).2.2.2.2.2.2.2.2.2; exact tks) ?_
   refine tk1 12 rfl fun K hK => ?_
   go_simp
   refine (Q0_ m.j (t : Int) p.ka p.K _ p.kc p.ra p.R _ p.rc rfl rfl HOK.out.1 _ (HMD5.out.below hH).st.now.job (HPL.out.1.below hH) (HPL.out.2.below hH)).mono ?_; rintro r w7 ⟨⟨a7, c7, L7, rfl, hen7, how7, hkeys7⟩, hb7⟩
   have HE7 := hid (And.intro hen7 (And.intro (yJ_ how7 hH.size) (fun q hq => yJ_ (hkeys7 q hq) hH.size)))
   have HB7 := hid (za_ hH hb7)
   clear hen7 how7 hkeys7 hb7
   go_wp2_with fail
   refine hK.out _ _ HB7.out fun hH => ?_
   refine stP ?_
   refine tkq4 13 14 15 16 ?_
   refine tkq 17 ?_
   refine adn ?_
   skip
   clear hH
   obtain ⟨V, hV⟩ := gtx ((Qt_ m.j (t : Int) p.R p.K).1)
   rw [hV] at HE7 ⊢
   have HVP := hid (show entK V tr V.length (prC p) = entP m.j (t : Int) tr (prC p) by
    unfold entK entP
    rw [List.take_length, ← hV, entV_ext m.j (t : Int) (show p.R.map P1.bs = (ofP (prC p).2).map P1.bs by rw [ofP_bs]; rfl) p.K]
    rfl)
   have hvl : V.length <= 2 := by rw [← hV]; exact entV_len HMD5.out.ok HMD5.out.st.now.job.len _ _ _
   obtain ⟨nv, hnv⟩ := gtx (V.length)
   rw [hnv] at hvl HE7 HVP ⊢
   have HNV := hid hnv
   have hvi : (nv : Int) <= 2 := by omega
   have HL7 := hid (show L7.length = nv by have := congrArg List.length HE7.out.1; rw [hnv] at this; simpa [enS] using this)
   have HBX7 := hid (HBX.out.below HB7.out)
   have HTB := hid (show ¬ Value.ownBlock (.slice va E.length vc) = some bx from fun e => by
    have := (zb_ HOV.out e).2.1
    have := HSX.out
    omega)
   have HW57 := hid (show wr.heap.size < w5.heap.size by have := HBX.out.lt; have := HSX.out; omega)
   have HOV7 := hid (ze_ HOV.out (za_ HB5a.out HB7.out))
   have HES7 := hid (fun e he S' hS' => (HES.out e he S' hS').below (za_ HB5a.out HB7.out))
   have HB67 := hid (HBR.out.trans ((za_ HB5a.out HB7.out).mono HBR.out.size))
   have HWS := hid HB6.out.size
   have HVB := hid (show ∀ e ∈ V, Byt e.2 by rw [← hV]; exact entV_byt22 (yF_ HOK.out.2.2) HOK.out.2.1.1)
   clear hV hnv
   go_wp2_with fail
   go_loopw [7, 40] (fun v i wr2 => ∃ (i2 : Nat) (E2 : List EnV), i2 <= nv /\ i = .int .i64 (i2 : Int) /\ E2.length <= 2 * k + i2 /\ Hid (wr2.ownsRow w6.heap.size 149 3 v E2.length (cellsOf ecl E2)) /\ Hid (E2.map enC = qp_ m.j t tr ((P.map prC).take k) ++ entK V tr i2 (prC p)) /\ Hid (∀ e ∈ E2, Byt e.K /\ e.p ∈ P) /\ Hid (∀ e ∈ E2, ∀ S' : Nat -> Prop, (∀ k, S' k -> k < w.heap.size ∨ v.ownBlock = some k) -> zs_ S' wr2 fun W' => EnL W' e) /\ Hid (Off (fun k => Value.ownBlock (.slice va E.length vc) = some k) w7 wr2) /\ Hid (∀ b, v.ownBlock = some b -> Value.ownBlock (.slice va E.length vc) = some b ∨ w7.heap.size <= b) /\ Hid (Below w6.heap.size w6 wr2)) (fun _ i _ => nv - (intOf i).toNat)
   case atStart => exact ⟨0, E, by omega, rfl, by omega, HOV7, hid (by rw [HEM.out]; simp [entK]), HEB, HES7, hid (Off.refl _ _), hid (fun b hb => .inl hb), HB67⟩
   case round =>
    obtain ⟨i2, E2, hi2, rfl, hE2l, HOV2, HEM2, HEB2, HES2, HOF2, HVB2, HBR2⟩ := hrel
    obtain ⟨va2, vc2, hv2⟩ := zd_ HOV2.out
    subst hv2
    by_cases hlt2 : i2 < nv
    ·have e1 : (i2 : Int) < (nv : Int) := by omega
     obtain ⟨q, hq⟩ : ∃ q, L7[i2]? = some q := ⟨_, List.getElem?_eq_getElem (by rw [HL7.out]; exact hlt2)⟩
     have hlow : ∀ k, (fun k => Value.ownBlock (.slice va E.length vc) = some k) k -> k < w5.heap.size := fun k hk => by
      have := (zb_ HOV.out hk).2.1; have := HW57.out; omega
     have HLOW := hid hlow
     have hrow := zm_ HE7.out.2.1 HOF2.out hlow
     have hqm := List.mem_of_getElem? hq
     have hqk := HE7.out.2.2 q hqm
     obtain ⟨a8, c8, e8, henr⟩ := own_enr hrow HL7.out (fun y hy => by
      have := zm_ (HE7.out.2.2 y hy) HOF2.out hlow
      exact yv_ this rfl)
     cases e8
     obtain ⟨b8, o8, ea8, q0, q1, _⟩ := henr i2 q hq
     subst ea8
     have hbx2 := HOF2.out.box HBX7.out HTB.out
     have hbx3 := hbx2.alloc (.cells #[.int .i64 q.1, .slice q.2.ad q.2.bs.length q.2.cap] 192)
     have y0 := hbx3.cell 0
     have y1 := hbx3.cell 1
     simp only [gtA, gtB, gtC] at y0 y1
     have HVQ := hid (show V[i2]? = some (q.1, q.2.bs) by
      have := HE7.out.1
      rw [← this]; unfold enS; rw [List.getElem?_map, hq]; rfl)
     have HQK := hid hqk
     have HQB := hid (show Byt q.2.bs from HVB.out _ (List.mem_of_getElem? HVQ.out))
     unfold P1.v at q1
     clear hq hrow hqk henr hqm hbx2 hbx3 hlow
     by_cases htr : q.1 = tr
     ·have hte : (q.1 == tr) = true := by simpa using htr
      have HEK := hid (entK_yes (p := prC p) HVQ.out htr)
      clear htr
      have hap : E2.length + 1 <= 2097152 := by omega
      have HBE := hid (za_ (bl1 wr (.cells #[.int .i64 q.1, .slice q.2.ad q.2.bs.length q.2.cap] 192)) (bl1 (wr.alloc (.cells #[.int .i64 q.1, .slice q.2.ad q.2.bs.length q.2.cap] 192)) (.cells #[.slice q.2.ad q.2.bs.length q.2.cap, .slice p.ka p.K.length p.kc, .slice p.ra p.R.length p.rc] 149)))
      have HOE := hid (((HOV2.out.alloc (.cells #[.int .i64 q.1, .slice q.2.ad q.2.bs.length q.2.cap] 192)).alloc (.cells #[.slice q.2.ad q.2.bs.length q.2.cap, .slice p.ka p.K.length p.kc, .slice p.ra p.R.length p.rc] 149)))
      have HCE := hid (zx_ (wr.alloc (.cells #[.int .i64 q.1, .slice q.2.ad q.2.bs.length q.2.cap] 192)) #[.slice q.2.ad q.2.bs.length q.2.cap, .slice p.ka p.K.length p.kc, .slice p.ra p.R.length p.rc] 149 (ecl ⟨q.2.ad, q.2.cap, q.2.bs, p⟩) rfl)
      rw [World.size_alloc] at HCE
      have HBSZ := hid (show w6.heap.size <= ((wr.alloc (.cells #[.int .i64 q.1, .slice q.2.ad q.2.bs.length q.2.cap] 192)).alloc (.cells #[.slice q.2.ad q.2.bs.length q.2.cap, .slice p.ka p.K.length p.kc, .slice p.ra p.R.length p.rc] 149)).heap.size from Nat.le_trans HBR2.out.size HBE.out.size)
      go_wp2_with (at_builtin; refine zv_ ae_entry rfl _ _ rfl w6.heap.size (.slice va2 E2.length vc2) E2.length (cellsOf ecl E2) rfl HOE.out ⟨wr.heap.size + 1, 0, none⟩ 1 1 (ecl ⟨q.2.ad, q.2.cap, q.2.bs, p⟩) rfl rfl HCE.out (ecl_one _) hap HBSZ.out ?_; intro v8 w8 hown8 hgrow8 hat8; have HO8 := hid hown8; have HG8 := hid hgrow8; have HAT8 := hid hat8; clear hown8 hgrow8 hat8)
      go_roundw
      case rel =>
       have o98 : Off (fun k => Value.ownBlock (.slice va2 E2.length vc2) = some k) wr w8 := (Off.of HBE.out).trans (Off.of_row HG8.out)
       have hnew : ∀ b, v8.ownBlock = some b -> Value.ownBlock (.slice va2 E2.length vc2) = some b ∨ wr.heap.size <= b := fun b hb => by
        rcases HAT8.out with e | e
        ·exact .inl (e ▸ hb)
        ·rw [hb] at e
         refine .inr ?_
         have := HBE.out.size
         cases e
         exact this
       have hlw : ∀ b, v8.ownBlock = some b -> w6.heap.size <= b := fun b hb => (zb_ HO8.out hb).1
       have o78 := HOF2.out.trans2 o98 (fun b hb => HVB2.out b hb)
       have hvb8 : ∀ b, v8.ownBlock = some b -> Value.ownBlock (.slice va E.length vc) = some b ∨ w7.heap.size <= b := fun b hb => by
        rcases hnew b hb with e | e
        ·exact HVB2.out b e
        ·exact .inr (Nat.le_trans HOF2.out.size e)
       have hb68 : Below w6.heap.size w6 w8 := Off.below HBR2.out o98 HBR2.out.size (fun b hb => (zb_ HOV2.out hb).1)
       refine ⟨i2 + 1, E2 ++ [⟨q.2.ad, q.2.cap, q.2.bs, p⟩], by omega, by go_num, by rw [List.length_append, List.length_singleton]; omega, hid ?_, hid ?_, hid ?_, hid ?_, hid o78, hid hvb8, hid hb68⟩
       ·rw [List.length_append, zq_]
        have := HO8.out
        simpa [cellsOf] using this
       ·rw [List.map_append, HEM2.out, HEK.out, List.append_assoc]
        rfl
       ·intro e he
        rcases List.mem_append.1 he with he | he
        ·exact HEB2.out e he
        ·rw [List.mem_singleton] at he; subst he; exact ⟨HQB.out, HPM1.out⟩
       ·intro e he S' hS'
        rcases List.mem_append.1 he with he | he
        ·refine (HES2.out e he (fun k => k < w.heap.size ∨ Value.ownBlock (.slice va2 E2.length vc2) = some k) (fun k hk => hk)).step (o98.mono fun k hk => .inr hk) (fun k hk => ?_)
         rcases hS' k hk with hk | hk
         ·exact .inl (.inl hk)
         ·exact (hnew k hk).imp .inr id
        ·rw [List.mem_singleton] at he
         subst he
         have st1 : zs_ S' w8 fun W' => Ls .u8 W' q.2.ad q.2.cap q.2.bs := by
          refine (j1_ (S := fun k => k < w5.heap.size) HQK.out rfl (fun k hk => hk)).step (o78.mono HLOW.out) (fun k hk => ?_)
          rcases hS' k hk with hk | hk
          ·have := HW57.out; have := HBR.out.size; have := HWS.out; have := HBW5.out.size; exact .inl (by show k < w5.heap.size; omega)
          ·exact (hvb8 k hk).imp (HLOW.out k) id
         have st2 : zs_ S' w8 fun W' => yg_ W' (some ⟨b1, o1, none⟩) P := by
          have := HST.out (fun k => k < w.heap.size) (fun k hk => hk)
          refine this.step (Off.of hb68) (fun k hk => ?_)
          rcases hS' k hk with hk | hk
          ·exact .inl hk
          ·exact .inr (hlw k hk)
         intro W' o
         obtain ⟨_, _, _, _, _, l, r⟩ := (st2 W' o).1 k p HP9.out
         exact ⟨st1 W' o, l, r, (st2 W' o).2.2 p (List.mem_of_getElem? HP9.out)⟩
      case measure => simp [intOf]; omega
     ·have hte : (q.1 == tr) = false := by simpa using htr
      have HEK := hid (entK_no (p := prC p) HVQ.out htr)
      clear htr
      have HBE := hid (bl1 wr (.cells #[.int .i64 q.1, .slice q.2.ad q.2.bs.length q.2.cap] 192))
      go_wp2_with fail
      go_roundw
      case rel => exact ⟨i2 + 1, E2, by omega, by go_num, by omega, hid (ze_ HOV2.out HBE.out), hid (by rw [HEM2.out, HEK.out]), HEB2, hid (fun e he S' hS' => (HES2.out e he S' hS').below HBE.out), hid (HOF2.out.then HBE.out), HVB2, hid (HBR2.out.trans (HBE.out.mono HBR2.out.size))⟩
      case measure => simp [intOf]; omega
    ·have e1 : ¬ (i2 : Int) < (nv : Int) := by omega
     have hie : i2 = nv := by omega
     have HIE := hid hie
     have hl3 : E2.length <= 2 * (k + 1) := by omega
     clear hie
     go_wp2_with fail
     go_roundw
     case rel => exact ⟨k + 1, E2, by omega, by go_num, hl3, HOV2, hid (by rw [HEM2.out, HLU.out, HIE.out, HVP.out]), HEB2, HES2, HBR2⟩
     case measure => simp [intOf]; omega
  ·have d1 : ¬ (k : Int) < (n : Int) := by omega
   have hke : k = n := by omega
   have HKE := hid hke
   have HEL := hid (show E.length <= 2000000 by omega)
   have HS1 := hid (HSO.out wr w6.heap.size va E.length vc E rfl Xt0 HOV.out (fun e he => ⟨(HEB.out e he).1, HES.out e he _ (fun k hk => .inr hk)⟩))
   clear hke
   go_wp2_with fail
   refine HS1.out.mono ?_; rintro r w8 ⟨rfl, E', hpm, hst8, how8, o8⟩
   have HFIN := hid (And.intro hpm (And.intro hst8 (And.intro how8 o8)))
   clear hpm hst8 how8 o8
   go_wp2_with fail
   go_ret
   obtain ⟨hpm, hst8, how8, o8⟩ := HFIN.out
   have hlen := hpm.length_eq
   have hTeq : (P.map prC).take k = x.T m t := by rw [List.take_of_length_le (by rw [List.length_map, HN.out, HKE.out]; exact Nat.le_refl _), HPM.out]
   have htok : tOk (x.T m t) := ⟨HH.out.tabok t, fun p hp => by
    rw [← HPM.out] at hp
    obtain ⟨q, hq, rfl⟩ := List.mem_map.1 hp
    exact HPO.out q hq⟩
   refine ⟨va, vc, E', by rw [hlen]; rfl, Off.below (HB6.out.trans (HBR.out.mono HB6.out.size)) o8 (Nat.le_trans HB6.out.size HBR.out.size) (fun b hb => Nat.le_trans HB6.out.size (zb_ HOV.out hb).1), ?_, by rw [hlen]; exact HEL.out, fun e he => ?_, fun S' hS' W' o => ?_⟩
   ·refine lookE_eq htok ?_ ?_
    ·have := hpm.map enC
     rw [HEM.out, hTeq] at this
     exact this
    ·rw [List.pairwise_map]; exact hst8
   ·have h1 := HEB.out e (hpm.mem_iff.1 he)
    exact ⟨h1.1, HPO.out _ h1.2⟩
   ·have how9 : w8.ownsRow w6.heap.size 149 3 (.slice va E'.length vc) E'.length (cellsOf ecl E') := by rw [hlen]; exact how8
    refine own_ens (zm_ how9 o (fun k hk => Nat.lt_of_lt_of_le (hS' k hk) HB6.out.size)) rfl (fun e he => ?_)
    have := HES.out e (hpm.mem_iff.1 he) (fun k => S' k ∨ Value.ownBlock (.slice va E.length vc) = some k) (fun k hk => hk.imp (hS' k) id)
    exact ((this.off (o8.mono fun k hk => .inr hk)).less (fun k hk => .inl hk)) W' o
end
end Go.Proofs.YthmofoldmdafoaaGreat
