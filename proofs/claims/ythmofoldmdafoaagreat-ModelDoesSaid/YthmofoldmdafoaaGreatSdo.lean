/- Part of the proof that ModelDoes holds for every input: tables, under any transactions, answer, write and stand as the document says. Part 15. -/
import Derived.Test.YthmofoldmdafoaaGreatSdn
import Derived.Test.YthmofoldmdafoaaGreatProg
set_option linter.unusedVariables false
set_option linter.unusedSimpArgs false
set_option maxRecDepth 100000
set_option maxHeartbeats 4000000
namespace Go.Proofs.YthmofoldmdafoaaGreat
open Go.ChangeShapes Go.WideShapes Go.ChangeAt Go.RowKit
open Go.Lib (hid)
open Go.Proofs.Tryz
section
open Go.Maps
theorem zS_ {α : Type} {motive : List α -> Prop} (nil : motive []) (append_singleton : ∀ (l : List α) (x : α), motive l -> motive (l ++ [x])) (l : List α) : motive l := by
 have : ∀ r : List α, motive r.reverse := fun r => by
  induction r with
  | nil => exact nil
  | cons x r ih => rw [List.reverse_cons]; exact append_singleton _ _ ih
 have := this l.reverse
 rwa [List.reverse_reverse] at this
def cstep (o : List (List Int)) (x : List Int) : List (List Int) := if o.getLast? = some x then o else o ++ [x]
def ye_ (l : List (List Int)) : List (List Int) := l.foldl cstep []
theorem yI_ (l : List (List Int)) (x : List Int) : ye_ (l ++ [x]) = cstep (ye_ l) x := by simp [ye_, List.foldl_append]
theorem compL_last (l : List (List Int)) : (ye_ l).getLast? = l.getLast? := by
 induction l using zS_ with
 | nil => rfl
 | append_singleton l x ih =>
  rw [yI_]
  unfold cstep
  by_cases e : (ye_ l).getLast? = some x
  ·rw [if_pos e, e]; simp
  ·rw [if_neg e]; simp
theorem jC_ (S : List (List Int)) {p : Nat} {x y : List Int} (h1 : S[p]? = some x) (h0 : 0 < p) (h2 : S[p - 1]? = some y) : ye_ (S.take (p + 1)) = if x = y then ye_ (S.take p) else ye_ (S.take p) ++ [x] := by
 rw [List.take_add_one, h1]
 show ye_ (S.take p ++ [x]) = _
 rw [yI_]
 unfold cstep
 have hl : (ye_ (S.take p)).getLast? = some y := by
  rw [compL_last, List.getLast?_eq_getElem?, List.length_take, List.getElem?_take]
  have hp := (List.getElem?_eq_some_iff.1 h1).1
  rw [Nat.min_eq_left Xt0, if_pos Xt0]
  exact h2
 rw [hl]
 by_cases e : x = y
 ·rw [if_pos (by rw [e]), if_pos e]
 ·rw [if_neg (by simpa using Ne.symm e), if_neg e]
theorem compL_len (l : List (List Int)) : (ye_ l).length <= l.length := by
 induction l using zS_ with
 | nil => exact Nat.le_refl _
 | append_singleton l x ih =>
  rw [yI_]
  unfold cstep
  split
  ·rw [List.length_append]; omega
  ·rw [List.length_append, List.length_append]; simp; omega
theorem q1_ (l : List (List Int)) (x : List Int) : x ∈ ye_ l ↔ x ∈ l := by
 induction l using zS_ with
 | nil => exact Iff.rfl
 | append_singleton l y ih =>
  rw [yI_]
  unfold cstep
  by_cases e : (ye_ l).getLast? = some y
  ·rw [if_pos e, ih, List.mem_append, List.mem_singleton]
   constructor
   ·exact .inl
   ·rintro (h | rfl)
    ·exact h
    ·rw [← ih]; exact List.mem_of_getLast? e
  ·rw [if_neg e, List.mem_append, List.mem_append, ih]
theorem compL_ris (l : List (List Int)) (h : l.Pairwise fun a b => ltL b a = false) : Ris id (ye_ l) := by
 induction l using zS_ with
 | nil => exact List.Pairwise.nil
 | append_singleton l y ih =>
  obtain ⟨h1, _, h3⟩ := List.pairwise_append.1 h
  have hr := ih h1
  rw [yI_]
  unfold cstep
  by_cases e : (ye_ l).getLast? = some y
  ·rw [if_pos e]; exact hr
  ·rw [if_neg e]
   refine List.pairwise_append.2 ⟨hr, by simp, fun a ha b hb => ?_⟩
   rw [List.mem_singleton] at hb
   subst hb
   have ham := (q1_ l a).1 ha
   have hle := h3 a ham b (List.mem_singleton.2 rfl)
   refine x0_ hle fun eq => e ?_
   have eq : a = b := eq
   subst eq
   -- a is in the list and nothing behind it is greater: it is the last
   cases hl : (ye_ l).getLast? with
   | none => rw [List.getLast?_eq_none_iff] at hl; rw [hl] at ha; cases ha
   | some z =>
    have hz := List.mem_of_getLast? hl
    have hzm := (q1_ l z).1 hz
    have h4 := h3 z hzm a (List.mem_singleton.2 rfl)
    by_cases ez : z = a
    ·rw [ez]
    ·exfalso
     have hlt : ltL z a = true := x0_ h4 ez
     have h5 : ltL a z = true := by
      obtain ⟨i, hi⟩ := List.mem_iff_getElem?.1 ha
      rw [List.getLast?_eq_getElem?] at hl
      have hil := (List.getElem?_eq_some_iff.1 hi).1
      by_cases ei : i = (ye_ l).length - 1
      ·rw [ei, hl] at hi; exact absurd (Option.some.inj hi) ez
      ·have := List.pairwise_iff_getElem.1 hr i ((ye_ l).length - 1) hil Xt0 Xt0
       rw [List.getElem?_eq_getElem hil] at hi
       rw [List.getElem?_eq_getElem Xt0] at hl
       rw [Option.some.inj hi, Option.some.inj hl] at this
       exact this
     rw [yy_ h5] at hlt
     cases hlt
theorem sizeOf134 (W : World) : ((sizeOf (prog.elem 134)).run prog W) = .ok 1 W := by
 obtain ⟨i0, hi0, hz0, hz1, hz2⟩ := info_parts info9
 have hel : prog.elem 134 = 9 := by simp [Program.elem, underlying134]
 rw [hel]; simp [sizeOf, typeInfo, hi0, hz1]
theorem hi134 (W : World) (a : Option Addr) (n c i : Nat) (hi : i <= n) (hnc : n <= c) : (Instr.slice 134 (.slice a n c) .none (some (.int .i64 (i : Int))) .none).run prog W = .ok (.slice a i c) W := by
 have hel : prog.elem 134 = 9 := by simp [Program.elem, underlying134]
 rw [run_slice_h (P := prog) (w := W) 134 a n c (by rw [hel]; exact underlying134) .i64 i Xt0 Xt0, sizeOf134]
 exact Xb104
theorem lo134 (W : World) (g n c i : Nat) (hi : i < n) (hnc : n <= c) : (Instr.slice 134 (.slice (some ⟨g, 0, none⟩) n c) (some (.int .i64 (i : Int))) .none .none).run prog W = .ok (.slice (some ⟨g, i, none⟩) (n - i) (c - i)) W := by
 have hel : prog.elem 134 = 9 := by simp [Program.elem, underlying134]
 rw [run_slice_l (P := prog) (w := W) 134 (some ⟨g, 0, none⟩) n c (by rw [hel]; exact underlying134) .i64 i Xt0 Xt0, sizeOf134]
 have hci : ¬ c = i := by omega
 by_cases h0 : i = 0
 ·subst h0; simp [sliced, Result.andThen, Addr.add]
 ·simp [sliced, Result.andThen, Addr.add, hci, h0]
theorem clear134 (W : World) (ty : TypeId) (g o n c : Nat) (hn : 0 < n) (hc : ∀ j, j < n -> (W.cell? ⟨g, o + j, none⟩).isSome = true) (hf : ∀ j, j < n -> W.frozen? ⟨g, o + j, none⟩ = false) :
  ∃ vs, (Builtin.clear_ #[134] ty #[.slice (some ⟨g, o, none⟩) n c]).run prog W = .ok (.tuple #[]) (W.setCells g o vs) := by
 obtain ⟨i0, hi, hz0, hz1, hz2⟩ := info_parts info9
 refine ⟨(Builtin.zeroCells #[.string ⟨#[]⟩] n).toList, ?_⟩
 have hv : (zeroValue 9).run prog W = .ok (.string ⟨#[]⟩) W := by simp [zeroValue, typeInfo, hi, hz0]
 have hst := run_storeCells_cells (P := prog) g o (Builtin.zeroCells #[.string ⟨#[]⟩] n).toList 0 W (by simpa [Builtin.zeroCells] using hc) (by simpa [Builtin.zeroCells] using hf) (by
  intro v hv'
  simp only [Builtin.zeroCells, Array.toList_map, List.mem_map] at hv'
  obtain ⟨j, _, rfl⟩ := hv'
  simp [Nat.mod_one, Value.oneCell'])
 simp only [Nat.add_zero] at hst
 obtain ⟨m, rfl⟩ : ∃ m, n = m + 1 := ⟨n - 1, by omega⟩
 simp [Builtin.clear_, run_underlying underlying134, hv, hst, Value.cells]
theorem Off.setCells (g : Nat) : ∀ (vs : List Value) (o : Nat) (W : World), Off (fun k => k = g) W (W.setCells g o vs)
 | [], o, W => Off.refl _ W
 | v :: vs, o, W => Off.trans (Off.set (S := fun k => k = g) (Off.refl _ W) ⟨g, o, none⟩ rfl v) (Off.setCells g vs (o + 1) _)
def StR (W : World) (a : Option Addr) (L : List (List Int)) : Prop := ∀ (k : Nat) (K : List Int), L[k]? = some K -> ∃ g, a = some ⟨g, 0, none⟩ /\ W.cell? ⟨g, k, none⟩ = some (.string (strOfNums K))
theorem StR.below {W W' : World} {a : Option Addr} {L : List (List Int)} (h : StR W a L) (hb : Below W.heap.size W W') : StR W' a L := fun k K hk => by
 obtain ⟨g, e, c⟩ := h k K hk
 exact ⟨g, e, tcb hb c⟩
theorem own_str {W : World} {base n c : Nat} {a : Option Addr} {L : List (List Int)} (h : W.ownsRow base 9 1 (.slice a n c) n (cellsOf skv L)) (hn : L.length = n) : StR W a L := fun k K hk => by
 obtain ⟨g, e, _, hc⟩ := zt_ jL_ Xt0 h hn k K hk
 refine ⟨g, e, ?_⟩
 have := hc 0 Xt0
 exact Xb59
theorem yJ_ (L : List (List Int)) (k : Nat) : (cellsOf skv L)[k]? = L[k]?.map fun K => Value.string (strOfNums K) := by
 cases h : L[k]? with
 | none =>
  rw [List.getElem?_eq_none_iff] at h
  show _ = none
  rw [List.getElem?_eq_none_iff, zK_ jL_]; omega
 | some K =>
  have := zY_ jL_ L k 0 K h Xt0
  rw [Nat.mul_one, Nat.add_zero] at this
  rw [this]; rfl
theorem skv_set (L : List (List Int)) (k : Nat) (K : List Int) (hk : k < L.length) : (cellsOf skv L).set k (.string (strOfNums K)) = cellsOf skv (L.set k K) := by
 have := q2_ jL_ Xt0 L k 0 (L[k]) K (.string (strOfNums K)) (List.getElem?_eq_getElem hk) Xt0 rfl
 exact Xb59
def CmR (v0 : Value) (S : List (List Int)) (w : World) (r : Ending) (w' : World) : Prop := ∃ a c, r = .returned (.slice a (ye_ S).length c) /\ StR w' a (ye_ S) /\ Off (fun k => v0.ownBlock = some k) w w'
theorem str_eqB {A B : List Int} (ha : Byt A) (hb : Byt B) : ((strOfNums A).toList == (strOfNums B).toList) = decide (A = B) := by
 by_cases e : A = B
 ·subst e; simp
 ·rw [decide_eq_false e, beq_eq_false_iff_ne]
  intro h
  refine e (qd_ ha hb ?_)
  rw [ByteArray.toList_eq, ByteArray.toList_eq] at h
  exact ByteArray.ext (by simpa using h)
theorem q0_ {S : List (List Int)} (h : S.length < 2) : ye_ S = S := by
 match S, h with
 | [], _ => rfl
 | [x], _ => rfl
 | x :: y :: r, h => exact absurd h Xt5
theorem compact_law (base : Nat) (a : Option Addr) (n c : Nat) (S : List (List Int)) (hn : S.length = n) (hn2 : n <= 2000000) (bS : ∀ K ∈ S, Byt K) (w : World) (how : w.ownsRow base 9 1 (.slice a n c) n (cellsOf skv S)) :
  Calls prog 113 #[.slice a n c] w (CmR (.slice a n c) S w) := by
 have HN := hid hn
 have HBS := hid bS
 have hnI : (n : Int) <= 2000000 := by omega
 by_cases h2 : n < 2
 ·have d1 : (n : Int) < 2 := by omega
  have HST := hid (own_str how hn)
  have HC := hid (q0_ (S := S) (by rw [hn]; exact h2))
  clear hn bS how h2
  go_enter func113, ntmps113
  go_wp2_with fail
  go_ret
  exact ⟨a, c, by rw [HC.out, HN.out]; rfl, by rw [HC.out]; exact HST.out, Off.refl _ _⟩
 ·have d1 : ¬ (n : Int) < 2 := by omega
  obtain ⟨g, cap, e⟩ : ∃ g cap, Value.slice a n c = .slice (some ⟨g, 0, none⟩) n cap := by
   rcases how.2 with ⟨e0, h0⟩ | ⟨g, cap, cur, e0, _⟩
   ·omega
   ·exact ⟨g, cap, e0⟩
  injection e with e1 e2 e3
  subst e1 e3
  have hcn := (zJ_ how).1
  have HOW := hid how
  have HG := hid (show ∀ k, (fun k => k = g) k -> (fun k => Value.ownBlock (.slice (some ⟨g, 0, none⟩) n c) = some k) k from fun k hk => by cases hk; rfl)
  clear hn bS how
  go_enter func113, ntmps113
  go_wp2_with fail
  go_loopw [3] (fun i wr => ∃ k : Nat, 1 <= k /\ k <= n /\ i = .int .i64 (k : Int) /\ Hid (ye_ (S.take k) = S.take k) /\ Hid (Below w.heap.size w wr)) (fun i _ => n - (intOf i).toNat)
  case atStart => exact ⟨1, by omega, by omega, rfl, hid (q0_ (by rw [List.length_take]; omega)), hid (Below.refl _ _)⟩
  case round =>
   obtain ⟨k, hk1, hk, rfl, HCK, HBW⟩ := hrel
   by_cases hlt : k < n
   ·have d2 : (k : Int) < (n : Int) := by omega
    have d3 : ¬ (k : Int) < 0 := by omega
    have d4 : ¬ (k : Int) - 1 < 0 := by omega
    have d5 : (k : Int) - 1 < (n : Int) := by omega
    have d7 : k - 1 < n := by omega
    have d6 : ((k : Int) - 1).toNat = k - 1 := by omega
    have w1 : IntKind.i64.wrap ((k : Int) - 1) = ((k - 1 : Nat) : Int) := by rw [IntKind.wrap_i64]; omega
    obtain ⟨X, hX⟩ : ∃ X, S[k]? = some X := ⟨_, List.getElem?_eq_getElem Xt9⟩
    obtain ⟨Y, hY⟩ : ∃ Y, S[k - 1]? = some Y := ⟨_, List.getElem?_eq_getElem Xt23⟩
    have HC6 := hid (fun W (b : Below wr.heap.size wr W) => (by
     have ow := ze_ HOW.out (HBW.out.trans (b.mono HBW.out.size))
     refine ⟨?_, ?_⟩
     ·rw [ow.cellAt k Xt0, yJ_, hX]; rfl
     ·rw [ow.cellAt (k - 1) Xt0, yJ_, hY]; rfl : W.cell? ⟨g, k, none⟩ = some (.string (strOfNums X)) /\ W.cell? ⟨g, k - 1, none⟩ = some (.string (strOfNums Y))))
    have HT := hid (jC_ S hX Xt0 hY)
    have hxb := HBS.out X (List.mem_of_getElem? hX)
    have hyb := HBS.out Y (List.mem_of_getElem? hY)
    have heq := str_eqB hxb hyb
    have HXY := hid (And.intro hX hY)
    clear hX hY hxb hyb
    by_cases e : X = Y
    ·rw [decide_eq_true e] at heq
     have hnp : (strOfNums X).toList = (strOfNums Y).toList := by rw [e]
     go_upto_region 6 with (fail)
     refine rgw wr (Below.refl _ _).drew fun hH => ?_
     refine tkq3 0 1 2 ?_
     refine tkr 3 rfl (fun W hSw => by have m := (HC6.out W hSw).1; exact tks) ?_
     refine tkq4 4 5 6 7 ?_
     refine tkr 8 rfl (fun W hSw => by have m := (HC6.out W hSw).2; exact tks) ?_
     refine tkq 9 ?_
     refine adn ?_
     skip
     have HB6 := hid (HBW.out.trans (hH.mono HBW.out.size))
     have hlo := fun W => lo134 W g n c k hlt hcn
     have HK := hid (HT.out.trans (by rw [if_pos e, HCK.out]))
     have HKL := hid (show (S.take k).length = k by rw [List.length_take, HN.out]; omega)
     have hn3 : ((n - k : Nat) : Int) <= 2000000 := by omega
     clear hH heq hnp e d4 d5 d6 d7 w1 d2 d3
     go_wp2_with fail
     clear hlo
     go_loopw [3, 5] (fun i j wr => ∃ (kw q : Nat) (C : List (List Int)), 1 <= q /\ k + q <= n /\ 1 <= kw /\ kw <= k + q - 1 /\ i = .int .i64 (kw : Int) /\ j = .int .i64 (q : Int) /\ Hid (C.length = n) /\ Hid (C.take kw = ye_ (S.take (k + q))) /\ Hid (C.drop (k + q - 1) = S.drop (k + q - 1)) /\ Hid (wr.ownsRow base 9 1 (.slice (some ⟨g, 0, none⟩) n c) n (cellsOf skv C)) /\ Hid (Off (fun k => k = g) w wr)) (fun _ j _ => n - (intOf j).toNat)
     case atStart => exact ⟨k, 1, S, by omega, by omega, hk1, by omega, rfl, rfl, HN, hid HK.out.symm, hid rfl, hid (ze_ HOW.out HB6.out), hid (Off.of HB6.out)⟩
     case round =>
      obtain ⟨kw, q, C, hq1, hqn, hkw1, hkw, rfl, rfl, HCN, HCT, HCD, HOC, HOF⟩ := hrel
      by_cases hlt2 : k + q < n
      ·have e1 : (q : Int) < ((n - k : Nat) : Int) := by omega
       have e1' : q < n - k := by omega
       have e2 : ¬ (q : Int) < 0 := by omega
       have e3 : ¬ (q : Int) - 1 < 0 := by omega
       have e4 : (q : Int) - 1 < ((n - k : Nat) : Int) := by omega
       have e5 : ((q : Int) - 1).toNat = q - 1 := by omega
       have e6 : q - 1 < n - k := by omega
       have w1 : IntKind.i64.wrap ((q : Int) - 1) = ((q - 1 : Nat) : Int) := by rw [IntKind.wrap_i64]; omega
       obtain ⟨X2, hX⟩ : ∃ X, S[k + q]? = some X := ⟨_, List.getElem?_eq_getElem (by rw [HN.out]; exact hlt2)⟩
       obtain ⟨Y2, hY⟩ : ∃ X, S[k + q - 1]? = some X := ⟨_, List.getElem?_eq_getElem Xt23⟩
       have hcx : C[k + q]? = some X2 := by
        have h1 : (C.drop (k + q - 1))[1]? = (S.drop (k + q - 1))[1]? := by rw [HCD.out]
        rw [List.getElem?_drop, List.getElem?_drop, show k + q - 1 + 1 = k + q by omega, hX] at h1
        exact h1
       have hcy : C[k + (q - 1)]? = some Y2 := by
        have h1 : (C.drop (k + q - 1))[0]? = (S.drop (k + q - 1))[0]? := by rw [HCD.out]
        rw [List.getElem?_drop, List.getElem?_drop, Nat.add_zero, hY] at h1
        rw [show k + (q - 1) = k + q - 1 by omega]
        exact h1
       have HC11 := hid (fun W (b : Below wr.heap.size wr W) => (by
        have ow := ze_ HOC.out b
        refine ⟨?_, ?_⟩
        ·rw [ow.cellAt (k + q) Xt0, yJ_, hcx]; rfl
        ·rw [ow.cellAt (k + (q - 1)) Xt0, yJ_, hcy]; rfl : W.cell? ⟨g, k + q, none⟩ = some (.string (strOfNums X2)) /\ W.cell? ⟨g, k + (q - 1), none⟩ = some (.string (strOfNums Y2))))
       have HT2 := hid (jC_ S hX Xt0 hY)
       have heq := str_eqB (HBS.out X2 (List.mem_of_getElem? hX)) (HBS.out Y2 (List.mem_of_getElem? hY))
       have HX2 := hid hX
       have HCX := hid hcx
       have HD2 := hid (show C.drop (k + (q + 1) - 1) = S.drop (k + (q + 1) - 1) by
        have h1 : (C.drop (k + q - 1)).drop 1 = (S.drop (k + q - 1)).drop 1 := by rw [HCD.out]
        rw [List.drop_drop, List.drop_drop, show k + q - 1 + 1 = k + (q + 1) - 1 by omega] at h1
        exact h1)
       clear hX hY hcx hcy
       by_cases ee : X2 = Y2
       ·rw [decide_eq_true ee] at heq
        have hnp : (strOfNums X2).toList = (strOfNums Y2).toList := by rw [ee]
        have HV2 := hid (HT2.out.trans (if_pos ee))
        clear ee
        go_upto_region 11 with (fail)
        refine rgw wr (Below.refl _ _).drew fun hH => ?_
        refine tkq3 0 1 2 ?_
        refine tkr 3 rfl (fun W hSw => by have m := (HC11.out W hSw).1; exact tks) ?_
        refine tkq4 4 5 6 7 ?_
        refine tkr 8 rfl (fun W hSw => by have m := (HC11.out W hSw).2; exact tks) ?_
        refine tkq 9 ?_
        refine adn ?_
        skip
        have HB7 := hid hH
        clear hH
        go_wp2_with fail
        go_roundw
        case rel => exact ⟨kw, q + 1, C, by omega, by omega, hkw1, by omega, rfl, by go_num, HCN, hid (by rw [show k + (q + 1) = k + q + 1 by omega, HV2.out]; exact HCT.out), HD2, hid (ze_ HOC.out HB7.out), hid (HOF.out.then HB7.out)⟩
        case measure => simp [intOf]; omega
       ·rw [decide_eq_false ee] at heq
        have hnp : ¬ (strOfNums X2).toList = (strOfNums Y2).toList := beq_eq_false_iff_ne.1 heq
        have HV2 := hid (HT2.out.trans (if_neg ee))
        clear ee
        go_upto_region 11 with (fail)
        refine rgw wr (Below.refl _ _).drew fun hH => ?_
        refine tkq3 0 1 2 ?_
        refine tkr 3 rfl (fun W hSw => by have m := (HC11.out W hSw).1; exact tks) ?_
        refine tkq4 4 5 6 7 ?_
        refine tkr 8 rfl (fun W hSw => by have m := (HC11.out W hSw).2; exact tks) ?_
        refine tkq 9 ?_
        refine adn ?_
        skip
        obtain ⟨w6, hw6⟩ := gty (wr.drew)
        rw [← hw6] at hH ⊢
        have ow := ze_ HOC.out hH
        obtain ⟨Z, hZ⟩ : ∃ Z, C[kw]? = some Z := ⟨_, List.getElem?_eq_getElem (by rw [HCN.out]; omega)⟩
        have x1 : w6.cell? ⟨g, k + q, none⟩ = some (.string (strOfNums X2)) := (HC11.out w6 hH).1
        have x2 : w6.cell? ⟨g, kw, none⟩ = some (.string (strOfNums Z)) := by rw [ow.cellAt kw Xt0, yJ_, hZ]; rfl
        have f2 := ow.frozenAt kw
        have i1 : (kw : Int) < (n : Int) := by omega
        have i2 : ¬ (kw : Int) < 0 := by omega
        have hst := (ow.stored kw (.string (strOfNums X2))).1
        rw [skv_set C kw X2 (by rw [HCN.out]; omega)] at hst
        have HST := hid hst
        have HOF6 := hid (Off.set (S := fun k => k = g) (HOF.out.then hH) ⟨g, kw, none⟩ rfl (.string (strOfNums X2)))
        clear hH hw6 ow hZ hst
        go_wp2_with fail
        go_roundw
        case rel =>
         refine ⟨kw + 1, q + 1, C.set kw X2, by omega, by omega, by omega, by omega, by go_num, by go_num, hid (by rw [List.length_set]; exact HCN.out), hid ?_, hid ?_, HST, HOF6⟩
         ·rw [show k + (q + 1) = k + q + 1 by omega, HV2.out, ← HCT.out, List.take_add_one, List.take_set_of_le (Nat.le_refl _), List.getElem?_set_self (by rw [HCN.out]; omega)]
          rfl
         ·rw [List.drop_set_of_lt Xt0]
          exact HD2.out
        case measure => simp [intOf]; omega
      ·have e1 : ¬ (q : Int) < ((n - k : Nat) : Int) := by omega
       have hqe : k + q = n := by omega
       have hlo := fun W => lo134 W g n c kw Xt0 hcn
       have hhi := fun W => hi134 W (some ⟨g, 0, none⟩) n c kw Xt0 hcn
       obtain ⟨vs, hcl⟩ := clear134 wr 0 g kw (n - kw) (c - kw) Xt0 (fun j hj => by
        rw [HOC.out.cellAt (kw + j) Xt0, yJ_, List.getElem?_eq_getElem (by rw [HCN.out]; omega)]; rfl) (fun j hj => HOC.out.frozenAt (kw + j))
       have HV := hid (show C.take kw = ye_ S by
        have := HCT.out
        rw [hqe] at this
        rw [this, List.take_of_length_le Xt76])
       have HO := hid (HOF.out.trans (Off.setCells g vs kw wr))
       have HRD := hid (own_str HOC.out HCN.out)
       go_wp2_with fail
       go_ret
       have hl : (ye_ S).length = kw := by rw [← HV.out, List.length_take, HCN.out]; omega
       refine ⟨some ⟨g, 0, none⟩, c, by rw [hl]; rfl, fun j K hj => ?_, HO.out.mono HG.out⟩
       have hjl := (List.getElem?_eq_some_iff.1 hj).1
       rw [hl] at hjl
       rw [← HV.out, List.getElem?_take, if_pos hjl] at hj
       obtain ⟨g', eg, hc⟩ := HRD.out j K hj
       cases eg
       refine ⟨g, rfl, ?_⟩
       rw [World.cell?_setCells_out g vs kw wr ⟨g, j, none⟩ (fun _ _ => .inl hjl)]
       exact hc
    ·rw [decide_eq_false e] at heq
     have hnp : ¬ (strOfNums X).toList = (strOfNums Y).toList := beq_eq_false_iff_ne.1 heq
     have HE := hid e
     clear e
     go_upto_region 6 with (fail)
     refine rgw wr (Below.refl _ _).drew fun hH => ?_
     refine tkq3 0 1 2 ?_
     refine tkr 3 rfl (fun W hSw => by have m := (HC6.out W hSw).1; exact tks) ?_
     refine tkq4 4 5 6 7 ?_
     refine tkr 8 rfl (fun W hSw => by have m := (HC6.out W hSw).2; exact tks) ?_
     refine tkq 9 ?_
     refine adn ?_
     skip
     have HB6 := hid (HBW.out.trans (hH.mono HBW.out.size))
     clear hH
     go_wp2_with fail
     go_roundw
     case rel => exact ⟨k + 1, by omega, by omega, by go_num, hid (by rw [HT.out, if_neg HE.out, HCK.out, List.take_add_one, HXY.out.1]; rfl), HB6⟩
     case measure => simp [intOf]; omega
   ·have d2 : ¬ (k : Int) < (n : Int) := by omega
    have HV := hid (show ye_ S = S by
     have := HCK.out
     rw [List.take_of_length_le Xt23] at this
     exact this)
    have HST := hid (own_str (ze_ HOW.out HBW.out) HN.out)
    go_wp2_with fail
    go_ret
    exact ⟨some ⟨g, 0, none⟩, c, by rw [HV.out, HN.out]; rfl, by rw [HV.out]; exact HST.out, Off.of HBW.out⟩
end
section
open Go.Shelf
def Tryz.sort112_ren : Go.Shelf.Ren := ⟨fun | 6 => 112 | 8 => 131 | 9 => 135 | 19 => 151 | 20 => 152 | 21 => 154 | 22 => 155 | 23 => 156 | 24 => 157 | 25 => 158 | 26 => 159 | 27 => 160 | 28 => 161 | 29 => 162 | 36 => 179 | 31 => 175 | 32 => 176 | 37 => 180 | 38 => 181 | 39 => 182 | 41 => 187 | n => n, fun | 27 => 134 | 29 => 9 | 3 => 3 | 32 => 202 | 26 => 134 | 0 => 0 | 44 => 226 | 46 => 228 | 4 => 4 | 36 => 220 | 35 => 219 | 41 => 111 | 5 => 5 | 9 => 9 | 53 => 244 | 57 => 248 | 63 => 254 | 64 => 203 | n => n, fun | n => n⟩
theorem Tryz.sort112 : Go.Proofs.SlLaysM.n6 prog Tryz.sort112_ren := {
 mixed := by kernel_rfl
 f6 := ⟨f112.name, by decide, func112.trans (congrArg some Xt3)⟩
 f8 := func131.trans (congrArg some Xt3)
 f9 := ⟨f135.name, by decide, func135.trans (congrArg some Xt3)⟩
 f19 := func151.trans (congrArg some Xt3)
 f20 := func152.trans (congrArg some Xt3)
 f21 := ⟨f154.name, by decide, func154.trans (congrArg some Xt3)⟩
 f22 := ⟨f155.name, by decide, func155.trans (congrArg some Xt3)⟩
 f23 := ⟨f156.name, by decide, func156.trans (congrArg some Xt3)⟩
 f24 := ⟨f157.name, by decide, func157.trans (congrArg some Xt3)⟩
 f25 := ⟨f158.name, by decide, func158.trans (congrArg some Xt3)⟩
 f26 := ⟨f159.name, by decide, func159.trans (congrArg some Xt3)⟩
 f27 := ⟨f160.name, by decide, func160.trans (congrArg some Xt3)⟩
 f28 := ⟨f161.name, by decide, func161.trans (congrArg some Xt3)⟩
 f29 := ⟨f162.name, by decide, func162.trans (congrArg some Xt3)⟩
 f31 := func175.trans (congrArg some Xt3)
 f32 := func176.trans (congrArg some Xt3)
 f36 := ⟨f179.name, by decide, func179.trans (congrArg some Xt3)⟩
 f37 := ⟨f180.name, by decide, func180.trans (congrArg some Xt3)⟩
 f38 := ⟨f181.name, by decide, func181.trans (congrArg some Xt3)⟩
 f39 := ⟨f182.name, by decide, func182.trans (congrArg some Xt3)⟩
 f41 := ⟨f187.name, by decide, func187.trans (congrArg some Xt3)⟩
 t0 := underlying0
 a0 := Tryz.isAgg0
 z0 := Tryz.sizeOf0
 v0 := Tryz.zeroValue0
 t3 := underlying3
 a3 := Tryz.isAgg3
 z3 := Tryz.sizeOf3
 v3 := Tryz.zeroValue3
 t4 := underlying4
 a4 := Tryz.isAgg4
 z4 := Tryz.sizeOf4
 v4 := Tryz.zeroValue4
 t5 := underlying5
 a5 := Tryz.isAgg5
 z5 := Tryz.sizeOf5
 v5 := Tryz.zeroValue5
 t9 := underlying9
 a9 := Tryz.isAgg9
 z9 := Tryz.sizeOf9
 v9 := Tryz.zeroValue9
 t26 := underlying134
 a26 := Tryz.isAgg134
 z26 := Tryz.sizeOf134
 v26 := Tryz.zeroValue134
 t27 := underlying134
 a27 := Tryz.isAgg134
 z27 := Tryz.sizeOf134
 v27 := Tryz.zeroValue134
 t29 := underlying9
 a29 := Tryz.isAgg9
 z29 := Tryz.sizeOf9
 v29 := Tryz.zeroValue9
 t32 := underlying202
 a32 := Tryz.isAgg202
 z32 := Tryz.sizeOf202
 v32 := Tryz.zeroValue202
 t35 := underlying219
 a35 := Tryz.isAgg219
 z35 := Tryz.sizeOf219
 v35 := Tryz.zeroValue219
 t36 := underlying220
 a36 := Tryz.isAgg220
 z36 := Tryz.sizeOf220
 v36 := Tryz.zeroValue220
 t41 := underlying111
 a41 := Tryz.isAgg111
 z41 := Tryz.sizeOf111
 v41 := Tryz.zeroValue111
 t44 := underlying226
 a44 := Tryz.isAgg226
 z44 := Tryz.sizeOf226
 v44 := Tryz.zeroValue226
 t46 := underlying228
 a46 := Tryz.isAgg228
 z46 := Tryz.sizeOf228
 v46 := Tryz.zeroValue228
 t53 := underlying244
 a53 := Tryz.isAgg244
 z53 := Tryz.sizeOf244
 v53 := Tryz.zeroValue244
 t57 := underlying248
 a57 := Tryz.isAgg248
 z57 := Tryz.sizeOf248
 v57 := Tryz.zeroValue248
 t63 := underlying254
 a63 := Tryz.isAgg254
 z63 := Tryz.sizeOf254
 v63 := Tryz.zeroValue254
 t64 := underlying203
 a64 := Tryz.isAgg203
 z64 := Tryz.sizeOf203
 v64 := Tryz.zeroValue203 }
end
section
open Go.Maps Go.Sort Go.Shelf
def kb (K : List Int) : List UInt8 := K.map fun x => UInt8.ofNat x.toNat
theorem enc_kb (K : List Int) : encStr (kb K) = .string (strOfNums K) := by
 have h : (strOfNums K).data.toList = kb K := by rw [← ByteArray.toList_eq]; exact yN_ K
 unfold encStr
 congr 1
theorem le_bl : ∀ x y : List UInt8, decide (x <= y) = !Op.bytesLess y x
 | [], y => by cases y <;> simp [Op.bytesLess]
 | a :: r, [] => by
  have : ¬ (a :: r <= []) := by simp
  rw [decide_eq_false this]; rfl
 | a :: r, b :: s => by
  have ih := le_bl r s
  show _ = !(decide (b < a) || ((b == a) && Op.bytesLess s r))
  rw [Bool.eq_iff_iff, decide_eq_true_eq, List.cons_le_cons_iff]
  rw [Bool.eq_iff_iff, decide_eq_true_eq] at ih
  constructor
  ·rintro (h | ⟨h, h2⟩)
   ·have h1 : ¬ b < a := by rw [UInt8.lt_iff_toNat_lt] at *; omega
    have h3 : (b == a) = false := by rw [beq_eq_false_iff_ne]; rintro rfl; exact absurd h (by rw [UInt8.lt_iff_toNat_lt]; omega)
    simp [h1, h3]
   ·subst h
    have h1 : ¬ a < a := by rw [UInt8.lt_iff_toNat_lt]; omega
    rw [ih] at h2
    simp [h1] at h2 ⊢
    exact h2
  ·intro h
   simp only [Bool.not_eq_true', Bool.or_eq_false_iff, decide_eq_false_iff_not, Bool.and_eq_false_iff] at h
   obtain ⟨h1, h2⟩ := h
   by_cases e : a = b
   ·subst e
    refine .inr ⟨rfl, ih.2 ?_⟩
    rcases h2 with h2 | h2
    ·simp at h2
    ·simp [h2]
   ·refine .inl ?_
    rw [UInt8.lt_iff_toNat_lt] at *
    have : a.toNat ≠ b.toNat := fun e2 => e (UInt8.toNat_inj.1 e2)
    omega
def leL (a b : List Int) : Bool := !ltL b a
theorem x1_ (a b c : List Int) (h : leL a b = true) (k : leL b c = true) : leL a c = true := by
 unfold leL at *
 simp only [Bool.not_eq_true'] at *
 cases hc : ltL c a
 ·rfl
 ·exfalso
  by_cases e : b = c
  ·subst e; rw [hc] at h; cases h
  ·have := x0_ k e
   have := zE_ this hc
   rw [h] at this; cases this
theorem QI_ (a b : List Int) : (leL a b || leL b a) = true := by
 unfold leL
 cases h : ltL b a
 ·rfl
 ·rw [yy_ h]; rfl
theorem sort_kb {L : List (List Int)} (hb : ∀ K ∈ L, Byt K) : (L.mergeSort leL).map kb = (L.map kb).mergeSort fun x y => decide (x <= y) := by
 refine List.map_mergeSort fun a ha b hb' => ?_
 rw [le_bl]
 unfold leL
 rw [show Op.bytesLess (kb b) (kb a) = ltL b a from jW_ (hb b hb') (hb a ha)]
theorem cells_kb (L : List (List Int)) : cellsOf skv L = (L.map kb).map encStr := by
 unfold cellsOf
 induction L with
 | nil => rfl
 | cons x r ih => rw [List.map_cons, List.flatten_cons, ih, List.map_cons, List.map_cons, enc_kb]; rfl
theorem sort_law (base : Nat) (a : Option Addr) (n c : Nat) (L : List (List Int)) (hn : L.length = n) (hn2 : n <= 2000000) (bL : ∀ K ∈ L, Byt K) (w : World) (how : w.ownsRow base 9 1 (.slice a n c) n (cellsOf skv L)) :
  Calls prog 112 #[.slice a n c] w fun r w' => r = .returned (.tuple #[]) /\ w'.ownsRow base 9 1 (.slice a n c) n (cellsOf skv (L.mergeSort leL)) /\ Off (fun k => Value.ownBlock (.slice a n c) = some k) w w' := by
 subst hn
 by_cases h0 : L.length = 0
 ·have hl : L = [] := List.length_eq_zero_iff.1 h0
  subst hl
  refine (AnyM.slices_Sort_string_none Tryz.sort112 a c w).mono ?_
  rintro r w' ⟨rfl, rfl⟩
  exact ⟨rfl, by simpa using how, Off.refl _ _⟩
 ·rcases how.2 with ⟨e0, h1⟩ | ⟨g, cap, cur, e0, hb, hg, hc, hm, hs, ht⟩
  ·exact absurd h1 h0
  ·injection e0 with e1 e2 e3
   subst e1 e3
   have hk : (L.map kb).length = L.length := List.length_map _
   have hH : Go.Sort.Holds encStr w g 0 (L.map kb).toArray := holds_of_block hg (by rw [hk, ← cells_kb, ← Nat.mul_one L.length]; exact ht)
   have hC := AnyM.slices_Sort_string Tryz.sort112 g 0 c (L.map kb) w hH (Array.getElem?_eq_some_iff.1 hg).1 (by rw [hk]; omega)
   rw [hk] at hC
   refine hC.mono ?_
   rintro r w' ⟨rfl, m, os, rfl⟩
   rw [← sort_kb bL]
   refine ⟨rfl, ?_, Off.of_row (grownBy_sorted _)⟩
   have := ownsRow_sorted (w := w) (n := m) (os := os) (ss := L.map kb) (ts := (L.mergeSort leL).map kb) (by rw [List.length_map, List.length_map, List.length_mergeSort]) hb hg (by rw [hk]; exact hc) hm hs
   rw [hk] at this
   rw [cells_kb]
   exact this
theorem sorted_le (L : List (List Int)) : (L.mergeSort leL).Pairwise fun a b => ltL b a = false :=
 (List.pairwise_mergeSort x1_ QI_ L).imp fun {a b} h => by unfold leL at h; simpa using h
end
section
open Go.Maps
def wI (w : Nat × List Int × List (List Int)) : Int × List Int × List (List Int) := ((w.1 : Int), w.2.1, w.2.2)
def yk_ (T : List (List Pr)) (ws : List (Nat × List Int × List (List Int))) : List (List Pr) := yo_ T (ws.map wI)
theorem xm_ (T : List (List Pr)) (ws : List (Nat × List Int × List (List Int))) (w : Nat × List Int × List (List Int)) : yk_ T (ws ++ [w]) = (yk_ T ws).modify w.1 fun t => xL_ t w.2.1 w.2.2 := by
 unfold yk_ yo_
 rw [List.map_append, List.foldl_append]
 rfl
theorem y6_ (T : List (List Pr)) (ws : List (Nat × List Int × List (List Int))) : (yk_ T ws).length = T.length := by
 induction ws using zS_ with
 | nil => rfl
 | append_singleton ws w ih => rw [xm_, List.length_modify, ih]
theorem xH_ (T : List (List Pr)) (n : Nat) (f : List Pr -> List Pr) (t : Nat) (hn : n < T.length) : (T.modify n f).getD t [] = if n = t then f (T.getD t []) else T.getD t [] := by
 rw [List.getD_eq_getElem?_getD, List.getElem?_modify, List.getD_eq_getElem?_getD]
 by_cases e : n = t
 ·subst e
  rw [if_pos rfl]
  rw [List.getElem?_eq_getElem hn]
  simp
 ·rw [if_neg e]
  cases T[t]? <;> simp [e]
theorem xX_ {T : List (List Pr)} (h : ∀ t, yf_ (T.getD t [])) (ws : List (Nat × List Int × List (List Int))) (hw : ∀ w ∈ ws, w.1 < T.length) (t : Nat) : yf_ ((yk_ T ws).getD t []) := by
 induction ws using zS_ with
 | nil => exact h t
 | append_singleton ws w ih =>
  have ih := ih fun v hv => hw v (List.mem_append_left _ hv)
  rw [xm_, xH_ _ _ _ _ (by rw [y6_]; exact hw w Xt5)]
  split
  ·exact qJ_ ih _ _
  ·exact ih
theorem yt_ {T : List (List Pr)} (h : ∀ t, yf_ (T.getD t [])) (ws : List (Nat × List Int × List (List Int))) (hw : ∀ w ∈ ws, w.1 < T.length) (hd : ws.Pairwise fun a b => ¬ (a.1 = b.1 /\ a.2.1 = b.2.1)) (t : Nat) (K : List Int) : xd_ ((yk_ T ws).getD t []) K = y2_ T ws t K := by
 induction ws using zS_ with
 | nil => rfl
 | append_singleton ws w ih =>
  obtain ⟨hd1, _, hd3⟩ := List.pairwise_append.1 hd
  have hw1 : ∀ v ∈ ws, v.1 < T.length := fun v hv => hw v (List.mem_append_left _ hv)
  have ih := ih hw1 hd1
  rw [xm_, xH_ _ _ _ _ (by rw [y6_]; exact hw w Xt5)]
  unfold y2_ at ih ⊢
  rw [List.find?_append]
  cases hf : ws.find? (fun w => decide (w.1 = t /\ w.2.1 = K)) with
  | some v =>
   rw [hf] at ih
   have hp := List.find?_some hf
   simp only [decide_eq_true_eq] at hp
   have hne := hd3 v (List.mem_of_find?_eq_some hf) w Xt5
   show _ = if v.2.2 = [] then none else some v.2.2
   have ih : xd_ ((yk_ T ws).getD t []) K = if v.2.2 = [] then none else some v.2.2 := ih
   by_cases e : w.1 = t
   ·rw [if_pos e, j1_ (xX_ h ws hw1 t), if_neg (fun e2 => hne ⟨by rw [hp.1, e], by rw [hp.2, e2]⟩), ih]
   ·rw [if_neg e, ih]
  | none =>
   rw [hf] at ih
   have ih : xd_ ((yk_ T ws).getD t []) K = xd_ (T.getD t []) K := ih
   by_cases e : w.1 = t
   ·rw [if_pos e, j1_ (xX_ h ws hw1 t)]
    by_cases e2 : K = w.2.1
    ·rw [if_pos e2, List.find?_cons_of_pos (by simp [e, e2])]
     rfl
    ·rw [if_neg e2, List.find?_cons_of_neg (by simp [e]; exact fun e3 => e2 e3.symm), ih]
     rfl
   ·rw [if_neg e, List.find?_cons_of_neg (by simp [e]), ih]
    rfl
theorem tab_ext {a b : List Pr} (ha : yf_ a) (hb : yf_ b) (h : ∀ K, xd_ a K = xd_ b K) : a = b := jN_ ha hb fun p => by
 obtain ⟨K, R⟩ := p
 rw [← yu_ ha, ← yu_ hb, h]
theorem TlR.dist {S : Nat -> Prop} {base : Nat} {w : World} {m : Md} {x : Tl} (h : TlR S base w m x) : (x.ws.map WtV.P).Pairwise fun a b => ¬ (a.1 = b.1 /\ a.2.1 = b.2.1) := by
 rw [List.pairwise_map, List.pairwise_iff_getElem]
 intro i j hi hj hij ⟨h1, h2⟩
 have ht := (h.wok x.ws[i] (List.getElem_mem hi)).1
 obtain ⟨y, hy⟩ : ∃ y, x.wm[x.ws[i].t]? = some y := ⟨_, List.getElem?_eq_getElem Xt80⟩
 have e1 := (h.coh _ y hy x.ws[i].K i).2 ⟨_, List.getElem?_eq_getElem hi, rfl, rfl⟩
 have e2 := (h.coh _ y hy x.ws[i].K j).2 ⟨_, List.getElem?_eq_getElem hj, h1.symm, h2.symm⟩
 rw [e1] at e2
 cases e2
 omega
theorem TlR.tin {S : Nat -> Prop} {base : Nat} {w : World} {m : Md} {x : Tl} (h : TlR S base w m x) : ∀ v ∈ x.ws.map WtV.P, v.1 < m.P.length := fun v hv => by
 obtain ⟨z, hz, rfl⟩ := List.mem_map.1 hv
 rw [Md.P_len]
 exact (h.wok z hz).1
theorem MdR.tok {S : Nat -> Prop} {w : World} {m : Md} (h : MdR S w m) (t : Nat) : tOk (m.P.getD t []) := by
 rw [List.getD_eq_getElem?_getD]
 cases ht : m.P[t]? with
 | none => exact ⟨List.Pairwise.nil, fun p hp => by simp at hp⟩
 | some T =>
  have := List.mem_of_getElem? ht
  unfold Md.P at this
  obtain ⟨x, hx, rfl⟩ := List.mem_map.1 this
  exact h.lim x hx
def Tl.T (m : Md) (x : Tl) (t : Nat) : List Pr := (yk_ m.P (x.ws.map WtV.P)).getD t []
theorem TlR.view {S : Nat -> Prop} {base : Nat} {w : World} {m : Md} {x : Tl} (h : TlR S base w m x) {t : Nat} (ht : t < m.tabs.length) (K : List Int) : xd_ (x.T m t) K = (getX m x t K).map RV.P := by
 unfold Tl.T
 rw [yt_ (fun t => (h.md.tok t).1) _ h.tin h.dist t K, getX_P m x ht K]
theorem TlR.tabok {S : Nat -> Prop} {base : Nat} {w : World} {m : Md} {x : Tl} (h : TlR S base w m x) (t : Nat) : yf_ (x.T m t) := xX_ (fun t => (h.md.tok t).1) _ h.tin t
def xt_ (f : List Int -> Option (List (List Int))) (l : List (List Int)) : List Pr := l.filterMap fun K => (f K).map fun R => (K, R)
theorem jq_ (f : List Int -> Option (List (List Int))) (l : List (List Int)) (K : List Int) : xt_ f (l ++ [K]) = match f K with | some R => xt_ f l ++ [(K, R)] | none => xt_ f l := by
 unfold xt_
 rw [List.filterMap_append]
 cases hf : f K with
 | none => simp [hf]
 | some R => simp [hf]
theorem pairL_mem {f : List Int -> Option (List (List Int))} {l : List (List Int)} {p : Pr} : p ∈ xt_ f l ↔ p.1 ∈ l /\ f p.1 = some p.2 := by
 unfold xt_
 rw [List.mem_filterMap]
 constructor
 ·rintro ⟨K, hK, h⟩
  cases hf : f K with
  | none => rw [hf] at h; cases h
  | some R =>
   rw [hf] at h
   cases h
   exact ⟨hK, hf⟩
 ·rintro ⟨h1, h2⟩
  exact ⟨p.1, h1, by rw [h2]; rfl⟩
theorem pairL_ris {f : List Int -> Option (List (List Int))} {l : List (List Int)} (h : Ris id l) : yf_ (xt_ f l) := by
 refine List.Pairwise.filterMap _ (fun a a' haa b hb b' hb' => ?_) h
 cases hf : f a with
 | none => rw [hf] at hb; cases hb
 | some R =>
  cases hf' : f a' with
  | none => rw [hf'] at hb'; cases hb'
  | some R' =>
   rw [hf] at hb
   rw [hf'] at hb'
   cases hb; cases hb'
   exact haa
theorem pairL_eq {T : List Pr} (hT : yf_ T) {l : List (List Int)} (h : Ris id l) (hm : ∀ p ∈ T, p.1 ∈ l) : xt_ (xd_ T) l = T := jN_ (pairL_ris h) hT fun p => by
 rw [pairL_mem, yu_ hT]
 exact ⟨fun h => h.2, fun hp => ⟨hm p hp, hp⟩⟩
end
end Go.Proofs.YthmofoldmdafoaaGreat
