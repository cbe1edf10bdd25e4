/- ModelMeans: doing a transaction is doing its writes; for every input. Part 1. -/
import Derived.Test.YthmofoldmdafoaaGreatRra
import Derived.Test.YthmofoldmdafoaaGreatRows
import Derived.WalkKit
import Derived.WalkMore
import Derived.ProofKit
import Derived.Outline
import Derived.WalkLawsBesides
import Derived.WalkSpells
import Derived.Lib.Hide
import Derived.Below
import Derived.WalkSmall
import Derived.BigRegion
import Derived.Laws.Rows
import Derived.Laws.BytesArg
import Derived.Laws.Concat
import Derived.Laws.OwnMore
import Derived.Deep.QuietTactic
import Derived.BigQuiet
import Derived.Deep.RegionHeld3
import Derived.StillTailTactics
import Derived.Lib.SliceRun
import Derived.Test.YthmofoldmdafoaaGreatRrb
import Derived.Deep.DeepCutAuto
import Derived.Deep.CutBlock
import Derived.OrdersHeld
import Derived.Deep.RegionHeld
import Derived.KernelRfl
import Derived.Test.YthmofoldmdafoaaGreatRrd
import Derived.Test.YthmofoldmdafoaaGreatRri
import Derived.Maps.AppendAt
import Derived.RangeFuncNested
import Derived.RangeFuncBound
import Derived.RangeFuncCalls
import Derived.RangeFuncLeaves
import Derived.Shelf.Abstract
import Derived.Shelf.RegionOpen
import Derived.OwnWalkIn
import Derived.TacticsInMore
import Derived.LoopNIn
import Derived.LoopIn
import Derived.Maps.OwnIn
import Derived.Sort.MapsRangeIn
import Derived.Test.YthmofoldmdafoaaGreatRrj
import Derived.Test.YthmofoldmdafoaaGreatRrm
namespace Go.Proofs.YthmofoldmdafoaaGreat
open Go.ChangeShapes Go.WideShapes Go.ChangeAt Go.RowKit
set_option linter.unusedVariables false
set_option linter.unusedSimpArgs false

theorem Rd.drop {K : IntKind} {W : World} {b off : Nat} {L : List Int} (h : Rd K W (some ⟨b, off, none⟩) L) (s : Nat) : Rd K W (some ⟨b, off + s, none⟩) (L.drop s) := fun k hk => by
  have hk' : s + k < L.length := by simp at hk; omega
  obtain ⟨b', off', e, hc⟩ := h (s + k) hk'
  cases e
  refine ⟨b, off + s, rfl, ?_⟩
  rw [Nat.add_assoc, hc]
  simp [List.getD, List.getElem?_drop]
theorem Ls.lo {K : IntKind} {t e : TypeId} {bs : Nat} (E : Elt K t e bs) {W : World} {a : Option Addr} {cap : Nat} {L : List Int} (h : Ls K W a cap L) (n i : Nat) (hn : L.length = n) (hi : i ≤ n) :
    ∃ a' c', (∀ W', (Instr.slice t (.slice a n cap) (some (.int .i64 (i : Int))) .none .none).run Tryz.prog W' = .ok (.slice a' (n - i) c') W') ∧ Ls K W a' c' (L.drop i) := by
  subst hn
  have hle := h.le
  obtain ⟨i0, hi0, hz0, hz1, hz2⟩ := info_parts E.inf
  have hel : Tryz.prog.elem t = e := by simp [Program.elem, E.ut]
  refine ⟨if cap = i then a else a.map (·.add (i * 1)), cap - i, fun W' => ?_, ?_, ?_, by rw [List.length_drop]; omega⟩
  · rw [run_slice_l (P := Tryz.prog) (w := W') t a L.length cap (by rw [hel]; exact E.ut) .i64 i (by omega) (by omega)]
    have hs : ((sizeOf (Tryz.prog.elem t)).run Tryz.prog W') = .ok 1 W' := by rw [hel]; simp [sizeOf, typeInfo, hi0, hz1]
    rw [hs]
    rfl
  · by_cases hz : L.length = i
    · rw [List.drop_of_length_le (by omega)]; exact Rd.nil _ _ _
    · obtain ⟨b, off, e, _⟩ := h.rd 0 (by omega)
      subst e
      have hd := h.rd.drop i
      rw [if_neg (by omega)]
      by_cases h0 : i = 0
      · subst h0; simpa [Addr.add] using hd
      · simpa [Addr.add, h0] using hd
  · intro e
    have ha : a = .none := by
      by_cases hc : cap = i
      · rwa [if_pos hc] at e
      · rw [if_neg hc] at e; simpa using e
    obtain ⟨h1, h2⟩ := h.nl ha
    rw [h1, h2]; simp
end Go.Proofs.YthmofoldmdafoaaGreat
namespace Go.Proofs.YthmofoldmdafoaaGreat
open Go.ChangeShapes Go.WideShapes Go.ChangeAt Go.RowKit
set_option linter.unusedVariables false
set_option linter.unusedSimpArgs false

theorem drop_cons (L : List Int) (k : Nat) (h : k < L.length) : L.drop k = L.getD k 0 :: L.drop (k + 1) := by
  rw [List.drop_eq_getElem_cons h]
  congr 1
  simp [List.getD, List.getElem?_eq_getElem h]
theorem splitL_one (f : List Int) (L : List Int) (h : L.length ≤ 1) : splitL f L = none := by
  match L, h with
  | [], _ => rfl
  | [_], _ => rfl
  | _ :: _ :: _, h => simp at h
theorem splitL_go (f : List Int) (x : Int) (r : List Int) (hx : x ≠ 0) : splitL f (x :: r) = splitL (f ++ [x]) r := by
  cases r with
  | nil => rfl
  | cons y s => rw [splitL, if_neg hx]

end Go.Proofs.YthmofoldmdafoaaGreat
namespace Go.Proofs.YthmofoldmdafoaaGreat
open Go.ChangeShapes Go.WideShapes Go.ChangeAt Go.RowKit Go.Shelf
set_option linter.unusedVariables false
set_option linter.unusedSimpArgs false

theorem idx_split (l : List (Int × Int)) (k : Nat) (q : Int × Int) (h : l[k]? = some q) : idx 0 l = idx 0 (l.take k) ++ [(k, q.1, q.2)] ++ idx (k + 1) (l.drop (k + 1)) := by
  obtain ⟨hk, e⟩ := List.getElem?_eq_some_iff.1 h
  have e1 : l = l.take k ++ (q :: l.drop (k + 1)) := by rw [← e, ← List.drop_eq_getElem_cons hk, List.take_append_drop]
  conv => lhs; rw [e1]
  rw [idx_append, idx, List.length_take, Nat.min_eq_left (by omega), Nat.zero_add]
  simp
theorem trV_at (j : Job) (a b : Int) (k : Nat) (h : (named j)[k]? = some (a, b)) (hno : ∀ i < k, (named j)[i]? ≠ some (a, b)) : trV j a b = ((k : Int), a, b, true) := by
  unfold trV
  rw [idx_split _ _ _ h]
  refine firstV_some (by simp) fun y hy => ?_
  obtain ⟨i, h1, h2⟩ := idx_mem _ _ _ hy
  rw [decide_eq_false_iff_not]
  rintro ⟨e1, e2⟩
  rw [e1, e2] at h1
  rw [List.getElem?_take] at h1
  split at h1
  · exact hno i (by omega) h1
  · cases h1
end Go.Proofs.YthmofoldmdafoaaGreat
namespace Go.Proofs.YthmofoldmdafoaaGreat
open Go.ChangeShapes Go.WideShapes Go.ChangeAt Go.RowKit
set_option linter.unusedVariables false
set_option linter.unusedSimpArgs false
theorem TbR.below {W W' : World} {a : Option Addr} {L : List TbV} (h : TbR W a L) (hb : Below W.heap.size W W') : TbR W' a L := fun k x hx => by
  obtain ⟨b, off, e, c0, r⟩ := h k x hx
  exact ⟨b, off, e, (hb.cell (World.block_lt_of_cell? W _ c0)).trans c0, r.below hb⟩
end Go.Proofs.YthmofoldmdafoaaGreat
namespace Go.Proofs.YthmofoldmdafoaaGreat
open Go.ChangeShapes Go.WideShapes Go.ChangeAt Go.RowKit
set_option linter.unusedVariables false
set_option linter.unusedSimpArgs false

theorem rmaykey_law (a : Option Addr) (n cap : Nat) (w : World) : Calls Tryz.prog 56 #[.slice a n cap] w fun r w' => r = .returned (.bool (mayK n)) ∧ w = w' := by
  unfold mayK
  rcases (show n < 1 ∨ (1 ≤ n ∧ n ≤ 32) ∨ (1 ≤ n ∧ ¬ n ≤ 32) by omega) with h | ⟨h1, h2⟩ | ⟨h1, h2⟩
  · rw [decide_eq_false (by omega)]
    have hi : ¬ (1 : Int) ≤ (n : Int) := by omega
    go_enter Tryz.func56, Tryz.ntmps56
    go_wp2
    go_ret
    exact ⟨rfl, rfl⟩
  · rw [decide_eq_true (by omega)]
    have hi : (1 : Int) ≤ (n : Int) := by omega
    have hj : (n : Int) ≤ 32 := by omega
    go_enter Tryz.func56, Tryz.ntmps56
    go_wp2
    go_ret
    exact ⟨rfl, rfl⟩
  · rw [decide_eq_false (by omega)]
    have hi : (1 : Int) ≤ (n : Int) := by omega
    have hj : ¬ (n : Int) ≤ 32 := by omega
    go_enter Tryz.func56, Tryz.ntmps56
    go_wp2
    go_ret
    exact ⟨rfl, rfl⟩

end Go.Proofs.YthmofoldmdafoaaGreat
namespace Go.Proofs.YthmofoldmdafoaaGreat
open Go.ChangeShapes Go.WideShapes Go.ChangeAt Go.RowKit Go.Maps
set_option linter.unusedVariables false
set_option linter.unusedSimpArgs false

/-- A write is done on tables. -/
def stepW (T : List (List Pr)) (w : Int × List Int × List (List Int)) : List (List Pr) := T.modify w.1.toNat fun t => setT t w.2.1 w.2.2
theorem applyT_cons (T : List (List Pr)) (w : Int × List Int × List (List Int)) (l : List (Int × List Int × List (List Int))) : applyT T (w :: l) = applyT (stepW T w) l := rfl
def OkT (T : List (List Pr)) : Prop := ∀ t ∈ T, TabOk t
/-- Of two tables, or of two keys. -/
def ApartW (a b : Int × List Int × List (List Int)) : Prop := ¬ (a.1.toNat = b.1.toNat ∧ a.2.1 = b.2.1)
theorem OkT.step {T : List (List Pr)} (h : OkT T) (w : Int × List Int × List (List Int)) : OkT (stepW T w) := fun t ht => by
  obtain ⟨i, hi⟩ := List.mem_iff_getElem?.1 ht
  unfold stepW at hi
  rw [List.getElem?_modify] at hi
  cases hT : T[i]? with
  | none => rw [hT] at hi; cases hi
  | some t0 =>
    rw [hT] at hi
    have h0 := h t0 (List.mem_of_getElem? hT)
    by_cases e : w.1.toNat = i
    · simp only [e, if_true, Option.map_eq_map, Option.map_some] at hi
      injection hi with hi
      rw [← hi]; exact setT_ok h0 _ _
    · simp only [e, if_false, Option.map_eq_map, Option.map_some] at hi
      injection hi with hi
      rw [← hi]; exact h0
theorem stepW_comm {T : List (List Pr)} (h : OkT T) {a b : Int × List Int × List (List Int)} (hd : ApartW a b) : stepW (stepW T a) b = stepW (stepW T b) a := by
  apply List.ext_getElem?
  intro i
  unfold stepW
  rw [List.getElem?_modify, List.getElem?_modify, List.getElem?_modify, List.getElem?_modify]
  cases hT : T[i]? with
  | none => rfl
  | some t =>
    have h0 := h t (List.mem_of_getElem? hT)
    by_cases ea : a.1.toNat = i
    · by_cases eb : b.1.toNat = i
      · simp only [ea, eb, if_true, Option.map_eq_map, Option.map_some]
        refine congrArg some (tab_ext (setT_ok (setT_ok h0 _ _) _ _) (setT_ok (setT_ok h0 _ _) _ _) fun K => ?_)
        have hne : a.2.1 ≠ b.2.1 := fun e => hd ⟨ea.trans eb.symm, e⟩
        rw [getT_set (setT_ok h0 _ _), getT_set (setT_ok h0 _ _), getT_set h0, getT_set h0]
        by_cases e1 : K = a.2.1
        · rw [if_pos e1, if_neg (fun e => hne (e1.symm.trans e)), if_pos e1]
        · rw [if_neg e1, if_neg e1]
      · simp [ea, eb]
    · by_cases eb : b.1.toNat = i
      · simp [ea, eb]
      · simp [ea, eb]
/-- Writes that are apart may be done in any order. -/
theorem apply_perm {l l' : List (Int × List Int × List (List Int))} (p : l.Perm l') : ∀ {T : List (List Pr)}, OkT T → l.Pairwise ApartW → applyT T l = applyT T l' := by
  induction p with
  | nil => intro T _ _; rfl
  | cons x _ ih => intro T h hp; rw [applyT_cons, applyT_cons]; exact ih (h.step x) (List.pairwise_cons.1 hp).2
  | swap x y l => 
    intro T h hp
    rw [applyT_cons, applyT_cons, applyT_cons, applyT_cons]
    rw [stepW_comm h ((List.pairwise_cons.1 hp).1 x (List.mem_cons_self ..))]
  | trans p1 _ ih1 ih2 =>
    intro T h hp
    rw [ih1 h hp]
    exact ih2 h (p1.pairwise hp fun {a b} hd e => hd ⟨e.1.symm, e.2.symm⟩)
end Go.Proofs.YthmofoldmdafoaaGreat
namespace Go.Proofs.YthmofoldmdafoaaGreat
open Go.ChangeShapes Go.WideShapes Go.ChangeAt Go.RowKit Go.Maps
set_option linter.unusedVariables false
set_option linter.unusedSimpArgs false

def Apart2 (a b : Nat × List Int × List (List Int)) : Prop := ¬ (a.1 = b.1 ∧ a.2.1 = b.2.1)
theorem setW_apart {l : Ws} (h : l.Pairwise Apart2) (t : Nat) (K : List Int) (R : List (List Int)) : (setW l t K R).Pairwise Apart2 := by
  unfold setW
  split
  · rename_i ha
    rw [List.pairwise_map]
    refine h.imp fun {a b} hd => ?_
    have e : ∀ w : Nat × List Int × List (List Int), (if w.1 = t ∧ w.2.1 = K then (t, K, R) else w).1 = w.1 ∧ (if w.1 = t ∧ w.2.1 = K then (t, K, R) else w).2.1 = w.2.1 := fun w => by
      by_cases hw : w.1 = t ∧ w.2.1 = K
      · rw [if_pos hw]; exact ⟨hw.1.symm, hw.2.symm⟩
      · rw [if_neg hw]; exact ⟨rfl, rfl⟩
    intro hc
    rw [(e a).1, (e a).2, (e b).1, (e b).2] at hc
    exact hd hc
  · rename_i ha
    rw [List.pairwise_append]
    refine ⟨h, List.pairwise_singleton _ _, fun a hm b hb hc => ha ?_⟩
    rw [List.mem_singleton] at hb
    subst hb
    rw [List.any_eq_true]
    exact ⟨a, hm, decide_eq_true hc⟩
theorem callP_apart (j : Job) (T : List (List Pr)) {ws : Ws} (h : ws.Pairwise Apart2) (o : CallV) : (callP j T ws o).2.Pairwise Apart2 := by
  unfold callP
  split
  · exact h
  · split
    · exact setW_apart h _ _ _
    · split
      · split
        · exact h
        · exact setW_apart h _ _ _
      · split
        · split
          · exact setW_apart h _ _ _
          · exact h
        · split
          · exact h
          · exact h
theorem runP_apart (j : Job) (T : List (List Pr)) (ops : List CallV) : (runP j T ops).2.Pairwise Apart2 := by
  induction ops using snocInd with
  | nil => exact List.Pairwise.nil
  | append_singleton l o ih =>
    have e : runP j T (l ++ [o]) = stepP j T (runP j T l) o := by unfold runP; rw [List.foldl_append]; rfl
    rw [e]
    exact callP_apart j T ih o
theorem wrtP_apart (j : Job) (T : List (List Pr)) (x : TxnV) : (wrtP j T x).Pairwise Apart2 := by
  unfold wrtP
  split
  · exact List.Pairwise.nil
  · exact runP_apart j T x.ops
theorem wsI_apart {l : Ws} (h : l.Pairwise Apart2) : (wsI l).Pairwise ApartW := by
  unfold wsI
  rw [List.pairwise_map]
  refine h.imp fun {a b} hd hc => hd ⟨?_, hc.2⟩
  have := hc.1
  simpa using this
theorem MdR.okT {S : Nat → Prop} {W : World} {m : Md} (h : MdR S W m) : OkT m.P := fun t ht => by
  obtain ⟨x, hx, rfl⟩ := List.mem_map.1 ht
  exact (h.lim x hx).1
/-- What Writes answers, applied, does what Do does. -/
theorem writes_apply {S : Nat → Prop} {W : World} {m : Md} (h : MdR S W m) (x : TxnV) {E : List WtV} (p : (E.map WtV.P).Perm (wrtP m.j m.P x)) : applyT m.P ((E.map WtV.W).map WrV.P) = applyT m.P (wsI (wrtP m.j m.P x)) := by
  rw [wI_W]
  exact (apply_perm (p.symm.map _) h.okT (wsI_apart (wrtP_apart _ _ _))).symm
end Go.Proofs.YthmofoldmdafoaaGreat
namespace Go.Proofs.YthmofoldmdafoaaGreat
open Go.ChangeShapes Go.WideShapes Go.ChangeAt Go.RowKit Go.Maps
set_option linter.unusedVariables false
set_option linter.unusedSimpArgs false

/-- Has a key a row whose text behind c is V? -/
def rowB (T : List Pr) (K V : List Int) (c : Nat) : Bool := match T.find? (fun p => decide (p.1 = K)) with | some p => decide (p.2[c + 1]? = some V) | none => false
theorem find_take {T : List Pr} {K : List Int} {k : Nat} {p : Pr} (h : T[k]? = some p) (hn : ∀ q ∈ T.take k, q.1 ≠ K) (hp : p.1 = K) : T.find? (fun p => decide (p.1 = K)) = some p := by
  have e : T = T.take k ++ (p :: T.drop (k + 1)) := by
    have h1 := List.getElem?_eq_some_iff.1 h
    conv => lhs; rw [← List.take_append_drop k T]
    rw [List.drop_eq_getElem_cons h1.1, h1.2]
  rw [e, List.find?_append]
  have : (T.take k).find? (fun p => decide (p.1 = K)) = none := List.find?_eq_none.2 fun q hq => by simpa using hn q hq
  rw [this]
  simp [hp]
set_option maxRecDepth 100000 in
set_option maxHeartbeats 4000000 in
/-- row (102). -/
theorem lrow_law (a : Option Addr) (n c : Nat) (P : List PrV) (hn : P.length = n) (hn2 : n ≤ 1000000) (ka : Option Addr) (kn kc : Nat) (K : List Int) (hK : K.length = kn) (bK : Byt K) (va : Option Addr) (vn vc : Nat) (V : List Int) (hV : V.length = vn) (bV : Byt V) (cc : Nat) (hcc : cc ≤ 1000000) (hok : ∀ p ∈ P, Byt p.K ∧ p.R.length ≤ 1000000 ∧ ∀ q ∈ p.R, Byt q.bs) (w : World) (hP : PairsR w a P) (hk : Ls .u8 w ka kc K) (hv : Ls .u8 w va vc V) :
    Calls Tryz.prog 102 #[.slice a n c, .slice ka kn kc, .slice va vn vc, .int .i64 (cc : Int)] w fun r w' => r = .returned (.bool (rowB (P.map prC) K V cc)) ∧ Below w.heap.size w w' := by
  have HN := Lib.hid hn
  have HP := Lib.hid hP
  have HK := Lib.hid (And.intro hK (And.intro bK hk))
  have HV := Lib.hid (And.intro hV (And.intro bV hv))
  have HOK := Lib.hid hok
  have hni : (n : Int) ≤ 1000000 := by omega
  have hci : (cc : Int) ≤ 1000000 := by omega
  clear hn hP hK bK hk hV bV hv hok
  go_enter Tryz.func102, Tryz.ntmps102
  go_wp2_with fail
  go_loopw [9] (fun i wr => ∃ k : Nat, k ≤ n ∧ i = .int .i64 (k : Int) ∧ Hid (∀ q ∈ (P.map prC).take k, q.1 ≠ K) ∧ Hid (Below w.heap.size w wr)) (fun i _ => n - (intOf i).toNat)
  case atStart => exact ⟨0, by omega, rfl, Lib.hid (fun q hq => by simp at hq), Lib.hid (Below.refl _ _)⟩
  case round =>
    obtain ⟨k, hk, rfl, HNE, BB⟩ := hrel
    by_cases hlt : k < n
    · have d1 : (k : Int) < (n : Int) := by omega
      obtain ⟨p, hp⟩ : ∃ p, P[k]? = some p := ⟨_, List.getElem?_eq_getElem (by rw [HN.out]; exact hlt)⟩
      obtain ⟨b1, o1, ea, p0, p1, l1, r1⟩ := (HP.out.below BB.out) k p hp
      subst ea
      have q1 : ∀ i, (convert 42 9 (.slice p.ka p.K.length p.kc)).run Tryz.prog (wr.drewN i) = .ok (.string (strOfNums p.K)) (wr.drewN i) := fun i => kc2 (wr.drewN i) p.ka p.K.length p.kc p.K rfl l1.drewN
      have q2 : ∀ i, (convert 42 9 (.slice ka kn kc)).run Tryz.prog (wr.drewN i) = .ok (.string (strOfNums K)) (wr.drewN i) := fun i => kc2 (wr.drewN i) ka kn kc K HK.out.1 (HK.out.2.2.below BB.out).drewN
      have HPP := Lib.hid hp
      have hpo := HOK.out p (List.mem_of_getElem? hp)
      have HPO := Lib.hid hpo
      have HRR := Lib.hid r1
      clear hp r1 hpo l1
      by_cases hle : p.K = K
      · have q3 : ∀ i, (convert 42 9 (.slice p.ka p.K.length p.kc)).run Tryz.prog (wr.drewN i) = .ok (.string (strOfNums K)) (wr.drewN i) := fun i => by rw [q1 i, hle]
        clear q1
        have HFI := Lib.hid (find_take (T := P.map prC) (K := K) (k := k) (p := prC p) (by rw [List.getElem?_map, HPP.out]; rfl) HNE.out hle)
        clear hle
        go_wp2_with fail
        go_quiet (fail)
        go_wp2_with fail
        have hrl : (p.R.length : Int) ≤ 1000000 := by have := HPO.out.2.1; omega
        have hp1 := p1
        have hw : IntKind.i64.wrap ((cc : Int) + 1) = (cc : Int) + 1 := by simp [IntKind.wrap, IntKind.bits, IntKind.signed]; omega
        have hw0 : (0 : Int) ≤ (cc : Int) + 1 := by omega
        have hw1 : ((cc : Int) + 1).toNat = cc + 1 := by omega
        clear p0 p1 q2 q3
        by_cases hc : cc + 1 < p.R.length
        · obtain ⟨q, hq⟩ : ∃ q, p.R[cc + 1]? = some q := ⟨_, List.getElem?_eq_getElem hc⟩
          obtain ⟨b2, o2, er, c2, l2⟩ := HRR.out (cc + 1) q hq
          have d5 : (cc : Int) + 1 < (p.R.length : Int) := by omega
          have HX := Lib.hid (fun X (b : Below wr.heap.size wr X) => (⟨by have := (b.cell (World.block_lt_of_cell? wr _ hp1)).trans hp1; rw [er] at this; exact this, (b.cell (p := ⟨b2, o2 + (cc + 1), none⟩) (World.block_lt_of_cell? wr _ c2)).trans c2, kc2 X q.ad q.bs.length q.cap q.bs rfl (l2.below b), kc2 X va vn vc V HV.out.1 ((HV.out.2.2.below BB.out).below b)⟩ : X.cell? ⟨b1, o1 + k * 2 + 1, none⟩ = some (.slice (some ⟨b2, o2, none⟩) p.R.length p.rc) ∧ X.cell? ⟨b2, o2 + (cc + 1), none⟩ = some (.slice q.ad q.bs.length q.cap) ∧ (convert 42 9 (.slice q.ad q.bs.length q.cap)).run Tryz.prog X = .ok (.string (strOfNums q.bs)) X ∧ (convert 42 9 (.slice va vn vc)).run Tryz.prog X = .ok (.string (strOfNums V)) X))
          have HRB := Lib.hid (show rowB (P.map prC) K V cc = decide (q.bs = V) by
            unfold rowB
            rw [HFI.out]
            show decide ((p.R.map P1.bs)[cc + 1]? = some V) = _
            rw [List.getElem?_map, hq]
            simp)
          have hqb := HPO.out.2.2 q (List.mem_of_getElem? hq)
          clear hq er c2 l2 hp1 hc
          by_cases hv : q.bs = V
          · have hs : ((strOfNums q.bs).toList == (strOfNums V).toList) = true := by rw [hv]; simp
            have HB := Lib.hid (show rowB (P.map prC) K V cc = true by rw [HRB.out]; exact decide_eq_true hv)
            clear hv hqb
            refine wp_region_held_drew (S := (fun X => Below wr.heap.size wr X)) (by kernel_rfl) ((below_drewN (Below.refl wr.heap.size wr) _).drew) (fun hHeld => ?_)
            refine tk 0 ?_ rfl (.inl ⟨by rfl, ?_⟩) ?_
            rotate_left
            · intro W hSw; go_simp; try with_reducible rfl
            try simp only [Act.put, List.setIfInBounds_toArray, List.set_cons_zero, List.set_cons_succ]
            refine tk 1 ?_ rfl (.inl ⟨by rfl, ?_⟩) ?_
            rotate_left
            · intro W hSw; go_simp; try with_reducible rfl
            try simp only [Act.put, List.setIfInBounds_toArray, List.set_cons_zero, List.set_cons_succ]
            refine tk 2 ?_ rfl (.inl ⟨by rfl, ?_⟩) ?_
            rotate_left
            · intro W hSw; go_simp; try with_reducible rfl
            try simp only [Act.put, List.setIfInBounds_toArray, List.set_cons_zero, List.set_cons_succ]
            refine tk 3 ?_ rfl (.inl ⟨by rfl, ?_⟩) ?_
            rotate_left
            · intro W hSw; go_simp; try with_reducible rfl
            try simp only [Act.put, List.setIfInBounds_toArray, List.set_cons_zero, List.set_cons_succ]
            refine tk 4 ?_ rfl (.inl ⟨by rfl, ?_⟩) ?_
            rotate_left
            · intro W hSw; have m := (HX.out W hSw).1; go_simp; try with_reducible rfl
            try simp only [Act.put, List.setIfInBounds_toArray, List.set_cons_zero, List.set_cons_succ]
            refine tk 5 ?_ rfl (.inl ⟨by rfl, ?_⟩) ?_
            rotate_left
            · intro W hSw; go_simp; try with_reducible rfl
            try simp only [Act.put, List.setIfInBounds_toArray, List.set_cons_zero, List.set_cons_succ]
            refine tk 6 ?_ rfl (.inl ⟨by rfl, ?_⟩) ?_
            rotate_left
            · intro W hSw; go_simp; try with_reducible rfl
            try simp only [Act.put, List.setIfInBounds_toArray, List.set_cons_zero, List.set_cons_succ]
            refine tk 7 ?_ rfl (.inl ⟨by rfl, ?_⟩) ?_
            rotate_left
            · intro W hSw; go_simp; try with_reducible rfl
            try simp only [Act.put, List.setIfInBounds_toArray, List.set_cons_zero, List.set_cons_succ]
            refine tk 8 (.bool true) rfl (.inl ⟨by rfl, ?_⟩) ?_
            · intro W hSw; go_simp; try (first | exact d5 | (rw [hw]; exact d5) | (simp only [hw]; exact d5) | rfl | (simp only [d5]; done) | (simp [d5]; done) | (simp; omega))
            try simp only [Act.put, List.setIfInBounds_toArray, List.set_cons_zero, List.set_cons_succ]
            refine tk 9 (.bool true) rfl (.inl ⟨by rfl, ?_⟩) ?_
            · intro W hSw; go_simp; try (first | exact d5 | (rw [hw]; exact d5) | (simp only [hw]; exact d5) | rfl | (simp only [d5]; done) | (simp [d5]; done) | (simp; omega))
            try simp only [Act.put, List.setIfInBounds_toArray, List.set_cons_zero, List.set_cons_succ]
            refine tk 10 ?_ rfl (.inl ⟨by rfl, ?_⟩) ?_
            rotate_left
            · intro W hSw; go_simp; try with_reducible rfl
            try simp only [Act.put, List.setIfInBounds_toArray, List.set_cons_zero, List.set_cons_succ]
            refine tk 11 ?_ rfl (.inl ⟨by rfl, ?_⟩) ?_
            rotate_left
            · intro W hSw; go_simp; try with_reducible rfl
            try simp only [Act.put, List.setIfInBounds_toArray, List.set_cons_zero, List.set_cons_succ]
            refine tk 12 ?_ rfl (.inl ⟨by rfl, ?_⟩) ?_
            rotate_left
            · intro W hSw; go_simp; try with_reducible rfl
            try simp only [Act.put, List.setIfInBounds_toArray, List.set_cons_zero, List.set_cons_succ]
            refine tk 13 ?_ rfl (.inl ⟨by rfl, ?_⟩) ?_
            rotate_left
            · intro W hSw; go_simp; try with_reducible rfl
            try simp only [Act.put, List.setIfInBounds_toArray, List.set_cons_zero, List.set_cons_succ]
            refine tk 14 ?_ rfl (.inl ⟨by rfl, ?_⟩) ?_
            rotate_left
            · intro W hSw; have m := (HX.out W hSw).1; go_simp; try with_reducible rfl
            try simp only [Act.put, List.setIfInBounds_toArray, List.set_cons_zero, List.set_cons_succ]
            refine tk 15 ?_ rfl (.inl ⟨by rfl, ?_⟩) ?_
            rotate_left
            · intro W hSw; go_simp; try with_reducible rfl
            try simp only [Act.put, List.setIfInBounds_toArray, List.set_cons_zero, List.set_cons_succ]
            refine tk 16 ?_ rfl (.inl ⟨by rfl, ?_⟩) ?_
            rotate_left
            · intro W hSw; go_simp; try with_reducible rfl
            try simp only [Act.put, List.setIfInBounds_toArray, List.set_cons_zero, List.set_cons_succ]
            refine tk 17 ?_ rfl (.inl ⟨by rfl, ?_⟩) ?_
            rotate_left
            · intro W hSw; go_simp; try with_reducible rfl
            try simp only [Act.put, List.setIfInBounds_toArray, List.set_cons_zero, List.set_cons_succ]
            refine tk 18 ?_ rfl (.inl ⟨by rfl, ?_⟩) ?_
            rotate_left
            · intro W hSw; have m := (HX.out W hSw).2.1; go_simp; try with_reducible rfl
            try simp only [Act.put, List.setIfInBounds_toArray, List.set_cons_zero, List.set_cons_succ]
            refine tk 19 ?_ rfl (.inl ⟨by rfl, ?_⟩) ?_
            rotate_left
            · intro W hSw; have m := (HX.out W hSw).2.2.1; go_simp; try with_reducible rfl
            try simp only [Act.put, List.setIfInBounds_toArray, List.set_cons_zero, List.set_cons_succ]
            refine tk 20 ?_ rfl (.inl ⟨by rfl, ?_⟩) ?_
            rotate_left
            · intro W hSw; go_simp; try with_reducible rfl
            try simp only [Act.put, List.setIfInBounds_toArray, List.set_cons_zero, List.set_cons_succ]
            refine tk 21 ?_ rfl (.inl ⟨by rfl, ?_⟩) ?_
            rotate_left
            · intro W hSw; have m := (HX.out W hSw).2.2.2; go_simp; try with_reducible rfl
            try simp only [Act.put, List.setIfInBounds_toArray, List.set_cons_zero, List.set_cons_succ]
            refine tk 22 ?_ rfl (.inl ⟨by rfl, ?_⟩) ?_
            rotate_left
            · intro W hSw; go_simp; try with_reducible rfl
            try simp only [Act.put, List.setIfInBounds_toArray, List.set_cons_zero, List.set_cons_succ]
            refine tk 23 ?_ rfl (.inl ⟨by rfl, ?_⟩) ?_
            rotate_left
            · intro W hSw; go_simp; try with_reducible rfl
            try simp only [Act.put, List.setIfInBounds_toArray, List.set_cons_zero, List.set_cons_succ]
            refine tk 24 ?_ rfl (.inl ⟨by rfl, ?_⟩) ?_
            rotate_left
            · intro W hSw; go_simp; try with_reducible rfl
            try simp only [Act.put, List.setIfInBounds_toArray, List.set_cons_zero, List.set_cons_succ]
            refine wpAnyH_done (by kernel_rfl) ?_ _
            skip
            have HH := Lib.hid hHeld
            clear hHeld
            go_wp2_with fail
            go_ret
            exact ⟨by rw [HB.out]; rfl, step_below BB.out HH.out⟩
          · have hs : ((strOfNums q.bs).toList == (strOfNums V).toList) = false := by
              rw [beq_eq_false_iff_ne]
              intro e
              rw [Lib.strOfNums_toList, Lib.strOfNums_toList] at e
              exact hv (str_inj hqb HV.out.2.1 (ByteArray.ext (Array.toList_inj.1 (by rw [strOfNums_data, strOfNums_data]; exact e))))
            have HB := Lib.hid (show rowB (P.map prC) K V cc = false by rw [HRB.out]; exact decide_eq_false hv)
            clear hv hqb
            refine wp_region_held_drew (S := (fun X => Below wr.heap.size wr X)) (by kernel_rfl) ((below_drewN (Below.refl wr.heap.size wr) _).drew) (fun hHeld => ?_)
            refine tk 0 ?_ rfl (.inl ⟨by rfl, ?_⟩) ?_
            rotate_left
            · intro W hSw; go_simp; try with_reducible rfl
            try simp only [Act.put, List.setIfInBounds_toArray, List.set_cons_zero, List.set_cons_succ]
            refine tk 1 ?_ rfl (.inl ⟨by rfl, ?_⟩) ?_
            rotate_left
            · intro W hSw; go_simp; try with_reducible rfl
            try simp only [Act.put, List.setIfInBounds_toArray, List.set_cons_zero, List.set_cons_succ]
            refine tk 2 ?_ rfl (.inl ⟨by rfl, ?_⟩) ?_
            rotate_left
            · intro W hSw; go_simp; try with_reducible rfl
            try simp only [Act.put, List.setIfInBounds_toArray, List.set_cons_zero, List.set_cons_succ]
            refine tk 3 ?_ rfl (.inl ⟨by rfl, ?_⟩) ?_
            rotate_left
            · intro W hSw; go_simp; try with_reducible rfl
            try simp only [Act.put, List.setIfInBounds_toArray, List.set_cons_zero, List.set_cons_succ]
            refine tk 4 ?_ rfl (.inl ⟨by rfl, ?_⟩) ?_
            rotate_left
            · intro W hSw; have m := (HX.out W hSw).1; go_simp; try with_reducible rfl
            try simp only [Act.put, List.setIfInBounds_toArray, List.set_cons_zero, List.set_cons_succ]
            refine tk 5 ?_ rfl (.inl ⟨by rfl, ?_⟩) ?_
            rotate_left
            · intro W hSw; go_simp; try with_reducible rfl
            try simp only [Act.put, List.setIfInBounds_toArray, List.set_cons_zero, List.set_cons_succ]
            refine tk 6 ?_ rfl (.inl ⟨by rfl, ?_⟩) ?_
            rotate_left
            · intro W hSw; go_simp; try with_reducible rfl
            try simp only [Act.put, List.setIfInBounds_toArray, List.set_cons_zero, List.set_cons_succ]
            refine tk 7 ?_ rfl (.inl ⟨by rfl, ?_⟩) ?_
            rotate_left
            · intro W hSw; go_simp; try with_reducible rfl
            try simp only [Act.put, List.setIfInBounds_toArray, List.set_cons_zero, List.set_cons_succ]
            refine tk 8 (.bool true) rfl (.inl ⟨by rfl, ?_⟩) ?_
            · intro W hSw; go_simp; try (first | exact d5 | (rw [hw]; exact d5) | (simp only [hw]; exact d5) | rfl | (simp only [d5]; done) | (simp [d5]; done) | (simp; omega))
            try simp only [Act.put, List.setIfInBounds_toArray, List.set_cons_zero, List.set_cons_succ]
            refine tk 9 (.bool true) rfl (.inl ⟨by rfl, ?_⟩) ?_
            · intro W hSw; go_simp; try (first | exact d5 | (rw [hw]; exact d5) | (simp only [hw]; exact d5) | rfl | (simp only [d5]; done) | (simp [d5]; done) | (simp; omega))
            try simp only [Act.put, List.setIfInBounds_toArray, List.set_cons_zero, List.set_cons_succ]
            refine tk 10 ?_ rfl (.inl ⟨by rfl, ?_⟩) ?_
            rotate_left
            · intro W hSw; go_simp; try with_reducible rfl
            try simp only [Act.put, List.setIfInBounds_toArray, List.set_cons_zero, List.set_cons_succ]
            refine tk 11 ?_ rfl (.inl ⟨by rfl, ?_⟩) ?_
            rotate_left
            · intro W hSw; go_simp; try with_reducible rfl
            try simp only [Act.put, List.setIfInBounds_toArray, List.set_cons_zero, List.set_cons_succ]
            refine tk 12 ?_ rfl (.inl ⟨by rfl, ?_⟩) ?_
            rotate_left
            · intro W hSw; go_simp; try with_reducible rfl
            try simp only [Act.put, List.setIfInBounds_toArray, List.set_cons_zero, List.set_cons_succ]
            refine tk 13 ?_ rfl (.inl ⟨by rfl, ?_⟩) ?_
            rotate_left
            · intro W hSw; go_simp; try with_reducible rfl
            try simp only [Act.put, List.setIfInBounds_toArray, List.set_cons_zero, List.set_cons_succ]
            refine tk 14 ?_ rfl (.inl ⟨by rfl, ?_⟩) ?_
            rotate_left
            · intro W hSw; have m := (HX.out W hSw).1; go_simp; try with_reducible rfl
            try simp only [Act.put, List.setIfInBounds_toArray, List.set_cons_zero, List.set_cons_succ]
            refine tk 15 ?_ rfl (.inl ⟨by rfl, ?_⟩) ?_
            rotate_left
            · intro W hSw; go_simp; try with_reducible rfl
            try simp only [Act.put, List.setIfInBounds_toArray, List.set_cons_zero, List.set_cons_succ]
            refine tk 16 ?_ rfl (.inl ⟨by rfl, ?_⟩) ?_
            rotate_left
            · intro W hSw; go_simp; try with_reducible rfl
            try simp only [Act.put, List.setIfInBounds_toArray, List.set_cons_zero, List.set_cons_succ]
            refine tk 17 ?_ rfl (.inl ⟨by rfl, ?_⟩) ?_
            rotate_left
            · intro W hSw; go_simp; try with_reducible rfl
            try simp only [Act.put, List.setIfInBounds_toArray, List.set_cons_zero, List.set_cons_succ]
            refine tk 18 ?_ rfl (.inl ⟨by rfl, ?_⟩) ?_
            rotate_left
            · intro W hSw; have m := (HX.out W hSw).2.1; go_simp; try with_reducible rfl
            try simp only [Act.put, List.setIfInBounds_toArray, List.set_cons_zero, List.set_cons_succ]
            refine tk 19 ?_ rfl (.inl ⟨by rfl, ?_⟩) ?_
            rotate_left
            · intro W hSw; have m := (HX.out W hSw).2.2.1; go_simp; try with_reducible rfl
            try simp only [Act.put, List.setIfInBounds_toArray, List.set_cons_zero, List.set_cons_succ]
            refine tk 20 ?_ rfl (.inl ⟨by rfl, ?_⟩) ?_
            rotate_left
            · intro W hSw; go_simp; try with_reducible rfl
            try simp only [Act.put, List.setIfInBounds_toArray, List.set_cons_zero, List.set_cons_succ]
            refine tk 21 ?_ rfl (.inl ⟨by rfl, ?_⟩) ?_
            rotate_left
            · intro W hSw; have m := (HX.out W hSw).2.2.2; go_simp; try with_reducible rfl
            try simp only [Act.put, List.setIfInBounds_toArray, List.set_cons_zero, List.set_cons_succ]
            refine tk 22 ?_ rfl (.inl ⟨by rfl, ?_⟩) ?_
            rotate_left
            · intro W hSw; go_simp; try with_reducible rfl
            try simp only [Act.put, List.setIfInBounds_toArray, List.set_cons_zero, List.set_cons_succ]
            refine tk 23 ?_ rfl (.inl ⟨by rfl, ?_⟩) ?_
            rotate_left
            · intro W hSw; go_simp; try with_reducible rfl
            try simp only [Act.put, List.setIfInBounds_toArray, List.set_cons_zero, List.set_cons_succ]
            refine tk 24 ?_ rfl (.inl ⟨by rfl, ?_⟩) ?_
            rotate_left
            · intro W hSw; go_simp; try with_reducible rfl
            try simp only [Act.put, List.setIfInBounds_toArray, List.set_cons_zero, List.set_cons_succ]
            refine wpAnyH_done (by kernel_rfl) ?_ _
            skip
            have HH := Lib.hid hHeld
            clear hHeld
            go_wp2_with fail
            go_ret
            exact ⟨by rw [HB.out]; rfl, step_below BB.out HH.out⟩
        · have d5 : ¬ (cc : Int) + 1 < (p.R.length : Int) := by omega
          have HX := Lib.hid (fun X (b : Below wr.heap.size wr X) => ((b.cell (World.block_lt_of_cell? wr _ hp1)).trans hp1 : X.cell? ⟨b1, o1 + k * 2 + 1, none⟩ = some (.slice p.ra p.R.length p.rc)))
          have HB := Lib.hid (show rowB (P.map prC) K V cc = false by
            unfold rowB
            rw [HFI.out]
            show decide ((p.R.map P1.bs)[cc + 1]? = some V) = _
            rw [List.getElem?_eq_none (by rw [List.length_map]; omega)]
            rfl)
          clear hp1 hc
          refine wp_region_held_drew (S := (fun X => Below wr.heap.size wr X)) (by kernel_rfl) ((below_drewN (Below.refl wr.heap.size wr) _).drew) (fun hHeld => ?_)
          refine tk 0 ?_ rfl (.inl ⟨by rfl, ?_⟩) ?_
          rotate_left
          · intro W hSw; go_simp; try with_reducible rfl
          try simp only [Act.put, List.setIfInBounds_toArray, List.set_cons_zero, List.set_cons_succ]
          refine tk 1 ?_ rfl (.inl ⟨by rfl, ?_⟩) ?_
          rotate_left
          · intro W hSw; go_simp; try with_reducible rfl
          try simp only [Act.put, List.setIfInBounds_toArray, List.set_cons_zero, List.set_cons_succ]
          refine tk 2 ?_ rfl (.inl ⟨by rfl, ?_⟩) ?_
          rotate_left
          · intro W hSw; go_simp; try with_reducible rfl
          try simp only [Act.put, List.setIfInBounds_toArray, List.set_cons_zero, List.set_cons_succ]
          refine tk 3 ?_ rfl (.inl ⟨by rfl, ?_⟩) ?_
          rotate_left
          · intro W hSw; go_simp; try with_reducible rfl
          try simp only [Act.put, List.setIfInBounds_toArray, List.set_cons_zero, List.set_cons_succ]
          refine tk 4 ?_ rfl (.inl ⟨by rfl, ?_⟩) ?_
          rotate_left
          · intro W hSw; have m := HX.out W hSw; go_simp; try with_reducible rfl
          try simp only [Act.put, List.setIfInBounds_toArray, List.set_cons_zero, List.set_cons_succ]
          refine tk 5 ?_ rfl (.inl ⟨by rfl, ?_⟩) ?_
          rotate_left
          · intro W hSw; go_simp; try with_reducible rfl
          try simp only [Act.put, List.setIfInBounds_toArray, List.set_cons_zero, List.set_cons_succ]
          refine tk 6 ?_ rfl (.inl ⟨by rfl, ?_⟩) ?_
          rotate_left
          · intro W hSw; go_simp; try with_reducible rfl
          try simp only [Act.put, List.setIfInBounds_toArray, List.set_cons_zero, List.set_cons_succ]
          refine tk 7 ?_ rfl (.inl ⟨by rfl, ?_⟩) ?_
          rotate_left
          · intro W hSw; go_simp; try with_reducible rfl
          try simp only [Act.put, List.setIfInBounds_toArray, List.set_cons_zero, List.set_cons_succ]
          refine tk 8 (.bool false) rfl (.inl ⟨by rfl, ?_⟩) ?_
          · intro W hSw; go_simp; try (first | exact d5 | (rw [hw]; exact d5) | (simp only [hw]; exact d5) | rfl | (simp only [d5]; done) | (simp [d5]; done) | (simp; omega))
          try simp only [Act.put, List.setIfInBounds_toArray, List.set_cons_zero, List.set_cons_succ]
          refine tk 9 (.bool false) rfl (.inl ⟨by rfl, ?_⟩) ?_
          · intro W hSw; go_simp; try (first | exact d5 | (rw [hw]; exact d5) | (simp only [hw]; exact d5) | rfl | (simp only [d5]; done) | (simp [d5]; done) | (simp; omega))
          try simp only [Act.put, List.setIfInBounds_toArray, List.set_cons_zero, List.set_cons_succ]
          refine tk 10 (undef) rfl (.inr ⟨by rfl, rfl⟩) ?_
          try simp only [Act.put, List.setIfInBounds_toArray, List.set_cons_zero, List.set_cons_succ]
          refine tk 11 (undef) rfl (.inr ⟨by rfl, rfl⟩) ?_
          try simp only [Act.put, List.setIfInBounds_toArray, List.set_cons_zero, List.set_cons_succ]
          refine tk 12 (undef) rfl (.inr ⟨by rfl, rfl⟩) ?_
          try simp only [Act.put, List.setIfInBounds_toArray, List.set_cons_zero, List.set_cons_succ]
          refine tk 13 (undef) rfl (.inr ⟨by rfl, rfl⟩) ?_
          try simp only [Act.put, List.setIfInBounds_toArray, List.set_cons_zero, List.set_cons_succ]
          refine tk 14 (undef) rfl (.inr ⟨by rfl, rfl⟩) ?_
          try simp only [Act.put, List.setIfInBounds_toArray, List.set_cons_zero, List.set_cons_succ]
          refine tk 15 (undef) rfl (.inr ⟨by rfl, rfl⟩) ?_
          try simp only [Act.put, List.setIfInBounds_toArray, List.set_cons_zero, List.set_cons_succ]
          refine tk 16 (undef) rfl (.inr ⟨by rfl, rfl⟩) ?_
          try simp only [Act.put, List.setIfInBounds_toArray, List.set_cons_zero, List.set_cons_succ]
          refine tk 17 (undef) rfl (.inr ⟨by rfl, rfl⟩) ?_
          try simp only [Act.put, List.setIfInBounds_toArray, List.set_cons_zero, List.set_cons_succ]
          refine tk 18 (undef) rfl (.inr ⟨by rfl, rfl⟩) ?_
          try simp only [Act.put, List.setIfInBounds_toArray, List.set_cons_zero, List.set_cons_succ]
          refine tk 19 (undef) rfl (.inr ⟨by rfl, rfl⟩) ?_
          try simp only [Act.put, List.setIfInBounds_toArray, List.set_cons_zero, List.set_cons_succ]
          refine tk 20 (undef) rfl (.inr ⟨by rfl, rfl⟩) ?_
          try simp only [Act.put, List.setIfInBounds_toArray, List.set_cons_zero, List.set_cons_succ]
          refine tk 21 (undef) rfl (.inr ⟨by rfl, rfl⟩) ?_
          try simp only [Act.put, List.setIfInBounds_toArray, List.set_cons_zero, List.set_cons_succ]
          refine tk 22 (undef) rfl (.inr ⟨by rfl, rfl⟩) ?_
          try simp only [Act.put, List.setIfInBounds_toArray, List.set_cons_zero, List.set_cons_succ]
          refine tk 23 ?_ rfl (.inl ⟨by rfl, ?_⟩) ?_
          rotate_left
          · intro W hSw; go_simp; try with_reducible rfl
          try simp only [Act.put, List.setIfInBounds_toArray, List.set_cons_zero, List.set_cons_succ]
          refine tk 24 ?_ rfl (.inl ⟨by rfl, ?_⟩) ?_
          rotate_left
          · intro W hSw; go_simp; try with_reducible rfl
          try simp only [Act.put, List.setIfInBounds_toArray, List.set_cons_zero, List.set_cons_succ]
          refine wpAnyH_done (by kernel_rfl) ?_ _
          skip
          have HH := Lib.hid hHeld
          clear hHeld
          go_wp2_with fail
          go_ret
          exact ⟨by rw [HB.out]; rfl, step_below BB.out HH.out⟩
      · have hs : ((strOfNums p.K).toList == (strOfNums K).toList) = false := by
          rw [beq_eq_false_iff_ne]
          intro e
          rw [Lib.strOfNums_toList, Lib.strOfNums_toList] at e
          exact hle (str_inj HPO.out.1 HK.out.2.1 (ByteArray.ext (Array.toList_inj.1 (by rw [strOfNums_data, strOfNums_data]; exact e))))
        have HLE := Lib.hid hle
        clear hle
        go_wp2_with fail
        go_quiet (fail)
        go_wp2_with fail
        go_roundw
        case rel =>
          refine ⟨k + 1, by omega, by go_num, Lib.hid (fun q hq => ?_), Lib.hid (below_drewN BB.out _)⟩
          rw [List.take_add_one, List.mem_append, List.getElem?_map, HPP.out] at hq
          rcases hq with hq | hq
          · exact HNE.out q hq
          · have : q = prC p := by simpa using hq
            rw [this]; exact HLE.out
        case measure => simp [intOf]; omega
    · have d1 : ¬ (k : Int) < (n : Int) := by omega
      have HZ := Lib.hid (show rowB (P.map prC) K V cc = false by
        unfold rowB
        have : (P.map prC).find? (fun p => decide (p.1 = K)) = none := List.find?_eq_none.2 fun q hq => by
          have := HNE.out q (by rw [List.take_of_length_le (by rw [List.length_map, HN.out]; omega)]; exact hq)
          simpa using this
        rw [this])
      go_wp2_with fail
      go_ret
      exact ⟨by rw [HZ.out]; rfl, BB.out⟩
end Go.Proofs.YthmofoldmdafoaaGreat
namespace Go.Proofs.YthmofoldmdafoaaGreat
open Go.ChangeShapes Go.WideShapes Go.ChangeAt Go.RowKit Go.Maps Go.Shelf
set_option linter.unusedVariables false
set_option linter.unusedSimpArgs false

attribute [local go_sem] Oper.semAt_some
set_option maxRecDepth 100000 in
set_option maxHeartbeats 4000000 in
/-- What over's iterator (106) hands over, if what it calls is 84. -/
theorem over84_x (okp : PrV → Prop) (mm : Nat) (hm : 1 ≤ mm) (Bs B1 B2 B3 : Nat) (T : List Pr) (w : World) (ro : World → Option Nat) (hB : Boxed w Bs 142 (.func (.func 84) #[] #[.pointer (some ⟨B1, 0, none⟩), .pointer (some ⟨B2, 0, none⟩), .pointer (some ⟨B3, 0, none⟩)]))
    (hN : ∀ W, Below w.heap.size w W → Calls Tryz.prog 84 #[.pointer (some ⟨B1, 0, none⟩), .pointer (some ⟨B2, 0, none⟩), .pointer (some ⟨B3, 0, none⟩)] W (PsG okp W T)) (hro : ∀ W, Below w.heap.size w W → ro W = none) (hrb : ∀ A B, w.heap.size ≤ A.heap.size → Below A.heap.size A B → ro B = ro A) :
    SeqX Fence.wide mm Tryz.prog 106 #[.pointer (some ⟨Bs, 0, none⟩)] encP (KpO (w.heap.size + 2) ro) (PxP okp (w.heap.size + 2) ro T) T.length w := fun lp J Jx W hW hW2 hJ hJx hY h0 => by
  have hb : Boxed W Bs 142 (.func (.func 84) #[] #[.pointer (some ⟨B1, 0, none⟩), .pointer (some ⟨B2, 0, none⟩), .pointer (some ⟨B3, 0, none⟩)]) := (hW.block Bs hB.lt).trans hB
  have HN := Lib.hid (hN W hW)
  have HW := Lib.hid (And.intro hW hW2)
  have HRO := Lib.hid (And.intro hro hrb)
  have HJ := Lib.hid hJ
  have H0 := Lib.hid h0
  clear hB hN hW hW2 hro hrb hJx h0 hJ
  show CallsIn Fence.wide mm Tryz.prog 106 #[.func (.yield lp) #[] #[], .pointer (some ⟨Bs, 0, none⟩)] W _
  refine callsIn_of_wp Tryz.func106 rfl trivial ?_ rfl
  simp only [Tryz.ntmps106, List.size_toArray, List.length_cons, List.length_nil, Nat.reduceAdd, Nat.reduceSub, Array.replicate_succ, Array.replicate_zero, List.push_toArray, List.append_toArray, List.nil_append, List.cons_append]
  have cb := hb.cell
  gi_wp2_with fail
  clear cb hb
  refine ⟨trivial, ?_⟩
  refine (callsIn_wide.2 HN.out).mono ?_
  rintro e W2 ⟨pa, pc, P, rfl, hb2, hPT, hok, hlc, hnone, hlen, hst⟩
  obtain ⟨n, hn⟩ : ∃ n, P.length = n := ⟨_, rfl⟩
  rw [hn] at hlen ⊢
  have HPT := Lib.hid hPT
  have HOK := Lib.hid hok
  have HPL := Lib.hid hn
  have HTL := Lib.hid (show T.length = n by rw [← hPT, List.length_map, hn])
  have HG := Lib.hid (show Hg (w.heap.size + 2) ro W2 (fun W' => PairsR W' pa P) from ⟨W.heap.size, W2.heap.size, HW.out.2, hb2.size, Nat.le_refl _, fun k hk => (by rw [HRO.out.1 W2 (step_below HW.out.1 hb2)] at hk; cases hk), fun W' o => hst (fun k => k < W.heap.size) (fun k hk => hk) W' ⟨o.os, o.tape, o.output, o.size, fun k hk hn => o.block k hk (fun e => e.elim hn (fun h => by omega))⟩⟩)
  have HJ2 := Lib.hid (HJ.out 0 W W2 H0.out hb2)
  have HS2 := Lib.hid (Nat.le_trans HW.out.1.size hb2.size)
  have hni : (n : Int) ≤ 2000000 := by omega
  clear hPT hok hn hb2 hst hlc hnone HN H0
  gi_wp2_with fail
  gi_loopw [8] (fun i wr => ∃ k : Nat, k ≤ n ∧ i = .int .i64 (k : Int) ∧ Hid (Hg (w.heap.size + 2) ro wr (fun W' => PairsR W' pa P)) ∧ Hid (J k wr) ∧ Hid (w.heap.size ≤ wr.heap.size))
    (fun i _ => n - (intOf i).toNat)
  case atStart =>
    exact ⟨0, by omega, rfl, HG, HJ2, HS2⟩
  case round =>
    clear HG HJ2 HS2
    obtain ⟨k, hk, rfl, HG, HJK, HSZ⟩ := hrel
    by_cases hlt : k < n
    · have d1 : (k : Int) < (n : Int) := by omega
      obtain ⟨y, hy⟩ : ∃ y, P[k]? = some y := ⟨_, List.getElem?_eq_getElem (by rw [HPL.out]; exact hlt)⟩
      obtain ⟨b1, o1, ea, p0, p1, _, _⟩ := HG.out.now k y hy
      have HPY := Lib.hid (show T[k]? = some (prC y) ∧ okp y from ⟨by rw [← HPT.out, List.getElem?_map, hy]; rfl, HOK.out y (List.mem_of_getElem? hy)⟩)
      have HGY := Lib.hid (HG.out.mono (R := QP y) (fun W' h => by obtain ⟨_, _, _, _, _, l, r⟩ := h k y hy; exact ⟨l, r⟩))
      have HKL := Lib.hid (show k < T.length by rw [HTL.out]; omega)
      clear hy
      obtain ⟨w2, hw2⟩ : ∃ w2, w2 = wr.alloc (.cells #[.slice y.ka y.K.length y.kc, .slice y.ra y.R.length y.rc] 78) := ⟨_, rfl⟩
      have hbl : Below wr.heap.size wr w2 := by rw [hw2]; exact bl1 wr _
      have HK2 := Lib.hid (KpO.below (b := w.heap.size + 2) hbl (HRO.out.2 wr w2 HSZ.out hbl))
      have hJ2 : J k w2 := HJ.out k wr w2 HJK.out hbl
      have HS3 := Lib.hid (Nat.le_trans HSZ.out hbl.size)
      obtain ⟨fn, tmps, assign, body, hy, hR⟩ := hY k y w2 HKL.out hJ2 ⟨HPY.out.1, HPY.out.2, HGY.out.kp HK2.out⟩
      rw [hw2] at hy
      dsimp only [encP, pcl] at hy
      have hww := hw2
      clear hw2 hbl
      subst ea
      gi_wp2
      rw [← hww]
      refine hR.mono ?_
      rintro e W3 (⟨rfl, hJ3, hk3⟩ | ⟨rfl, hJx3⟩)
      · have HK3 := Lib.hid (HK2.out.trans hk3)
        have HJ3 := Lib.hid hJ3
        have HS4 := Lib.hid (show w.heap.size ≤ W3.heap.size from Nat.le_trans HS3.out hk3.size)
        clear hk3 hJ3
        gi_wp2_with fail
        go_roundw
        case rel => exact ⟨k + 1, by omega, by go_num, Lib.hid (HG.out.kp HK3.out), HJ3, HS4⟩
        case measure => simp [intOf]; omega
      · have HJX := Lib.hid hJx3
        clear hJx3
        gi_wp2
        refine bodyPost_ret (results_none rfl _ _ _) rfl ?_
        exact ⟨⟨_, rfl⟩, .inr ⟨k, HKL.out, HJX.out⟩⟩
    · have d1 : ¬ (k : Int) < (n : Int) := by omega
      have HJE := Lib.hid (show J T.length wr by rw [HTL.out, show n = k by omega]; exact HJK.out)
      gi_wp2_with fail
      go_end0
      exact ⟨⟨_, rfl⟩, .inl HJE.out⟩
end Go.Proofs.YthmofoldmdafoaaGreat
namespace Go.Proofs.YthmofoldmdafoaaGreat
open Go.ChangeShapes Go.WideShapes Go.ChangeAt Go.RowKit Go.Maps Go.Shelf
set_option linter.unusedVariables false
set_option linter.unusedSimpArgs false

/-- Pairs that are not too long. -/
def okI (p : PrV) : Prop := Byt p.K ∧ p.K.length ≤ 1000 ∧ rOk (p.R.map P1.bs)
/-- The pairs of an index. -/
def idxP (j : Job) (t x : Int) (T : List Pr) : List Pr := (lookE j t (trV j t x).1 T).map fun e => (e.1, e.2.2)
def eiP (e : EnV) : PrV := ⟨e.ka, e.kc, e.K, e.p.ra, e.p.rc, e.p.R⟩
theorem front_le : ∀ f : List Int, (frontL f).length ≤ 2 * f.length
  | [] => by simp [frontL]
  | a :: f => by
    have ih := front_le f
    have e : frontL (a :: f) = esc a ++ frontL f := by rw [show a :: f = [a] ++ f from rfl, frontL_append, frontL_one]
    rw [e, List.length_append]
    have : (esc a).length ≤ 2 := by unfold esc; split <;> simp
    simp only [List.length_cons]; omega
theorem entry_le (f K : List Int) : (entryL f K).length ≤ 2 * f.length + 2 + K.length := by
  unfold entryL
  have := front_le f
  simp only [List.length_append, List.length_cons, List.length_nil]; omega
theorem lookE_mem {j : Job} {t tr : Int} {T : List Pr} {e : List Int × Pr} (h : e ∈ lookE j t tr T) : e.2 ∈ T ∧ e ∈ entP j t tr e.2 := by
  unfold lookE at h
  have h := (List.mergeSort_perm _ _).mem_iff.1 h
  unfold lookU at h
  obtain ⟨p, hp, he⟩ := List.mem_flatMap.1 h
  have : e.2 = p := by
    unfold entP at he
    obtain ⟨x, _, rfl⟩ := List.mem_map.1 he
    rfl
  rw [this]; exact ⟨hp, he⟩
set_option maxRecDepth 100000 in
set_option maxHeartbeats 4000000 in
/-- Index (49). -/
theorem mindex_law (w : World) (p : Value) (pp : Option Addr) (hp : p = .pointer pp) (t x : Int) : Calls Tryz.prog 49 #[p, .int .i64 t, .int .i64 x] w fun r w' => r = .returned (.func (.func 106) #[] #[.pointer (some ⟨w.heap.size + 3, 0, none⟩)]) ∧ Boxed w' w.heap.size 28 p ∧ Boxed w' (w.heap.size + 1) 3 (.int .i64 t) ∧ Boxed w' (w.heap.size + 2) 3 (.int .i64 x) ∧ Boxed w' (w.heap.size + 3) 142 (.func (.func 84) #[] #[.pointer (some ⟨w.heap.size, 0, none⟩), .pointer (some ⟨w.heap.size + 1, 0, none⟩), .pointer (some ⟨w.heap.size + 2, 0, none⟩)]) ∧ Below w.heap.size w w' := by
  subst hp
  have hmf := makeFunc_run
  go_enter Tryz.func49, Tryz.ntmps49
  go_wp2_with fail
  obtain ⟨W, hW⟩ : ∃ W, ((w.alloc (.cells #[.pointer pp] 28)).alloc (.cells #[.int .i64 t] 3)).alloc (.cells #[.int .i64 x] 3) = W := ⟨_, rfl⟩
  have h1 : Boxed W w.heap.size 28 (.pointer pp) := by rw [← hW]; exact ((Boxed.new w 28 (.pointer pp)).alloc _).alloc _
  have h2 : Boxed W (w.heap.size + 1) 3 (.int .i64 t) := by rw [← hW]; have := (Boxed.new (w.alloc (.cells #[.pointer pp] 28)) 3 (.int .i64 t)).alloc (.cells #[.int .i64 x] 3); rwa [World.size_alloc] at this
  have h3 : Boxed W (w.heap.size + 2) 3 (.int .i64 x) := by rw [← hW]; have := Boxed.new ((w.alloc (.cells #[.pointer pp] 28)).alloc (.cells #[.int .i64 t] 3)) 3 (.int .i64 x); rwa [World.size_alloc, World.size_alloc] at this
  have h4 : Below w.heap.size w W := by rw [← hW]; exact (((Below.refl _ w).alloc (Nat.le_refl _) _).alloc (by simp) _).alloc (by simp; omega) _
  have h5 : W.heap.size = w.heap.size + 3 := by rw [← hW]; simp
  rw [hW]
  have HW := Lib.hid (And.intro h1 (And.intro h2 (And.intro h3 (And.intro h4 h5))))
  clear hW h1 h2 h3 h4 h5
  refine (over_law W 84 _).mono ?_; rintro r w1 ⟨rfl, rfl⟩
  go_wp2_with fail
  go_ret
  obtain ⟨h1, h2, h3, h4, h5⟩ := HW.out
  have h6 := Boxed.new W 142 (.func (.func 84) #[] #[.pointer (some ⟨w.heap.size, 0, none⟩), .pointer (some ⟨w.heap.size + 1, 0, none⟩), .pointer (some ⟨w.heap.size + 2, 0, none⟩)])
  rw [h5] at h6 ⊢
  exact ⟨rfl, h1.alloc _, h2.alloc _, h3.alloc _, h6, step_below h4 (bl1 _ _)⟩
set_option maxRecDepth 100000 in
set_option maxHeartbeats 4000000 in
/-- Index's inner function (84). -/
theorem index1_law {S : Nat → Prop} {m : Md} {w : World} (h : MdR S w m) (hS : ∀ k, S k → k < w.heap.size) (C1 C2 C3 : Nat) (t x : Nat) (b1 : Boxed w C1 28 (.pointer (some ⟨m.p, 0, none⟩))) (b2 : Boxed w C2 3 (.int .i64 (t : Int))) (b3 : Boxed w C3 3 (.int .i64 (x : Int))) (ht : t < m.tabs.length) (tx : Int) (htx : m.j.T[t]? = some tx) (hxt : (x : Int) < tx) (hf : ∀ z ∈ m.tabs, z.2.length ≤ 300000) :
    Calls Tryz.prog 84 #[.pointer (some ⟨C1, 0, none⟩), .pointer (some ⟨C2, 0, none⟩), .pointer (some ⟨C3, 0, none⟩)] w (PsG okI w (idxP m.j t x (m.P.getD t []))) := by
  have HM := Lib.hid (fun X (b : Below w.heap.size w X) => (show Calls Tryz.prog 52 #[.pointer (some ⟨m.p, 0, none⟩), .int .i64 (t : Int)] X fun e w' => e = .returned (.bool true) ∧ X = w' from (mhas_law (h.below b) t).mono (by
    rintro e w' ⟨h1, h2⟩
    refine ⟨?_, h2⟩
    rw [h1, decide_eq_true (by omega)])))
  have hjl := h.st.now.job
  have htl : t < m.j.T.length := (List.getElem?_eq_some_iff.1 htx).1
  obtain ⟨jb, jo, hja, hjc⟩ := hjl.ls.rd t htl
  rw [List.getD_eq_getElem?_getD, htx] at hjc
  simp only [Option.getD_some] at hjc
  have hbx := h.st.now.box
  have hjn : (t : Int) < (m.j.n : Int) := by have := hjl.len; omega
  have hjn2 : (m.j.n : Int) ≤ 1000000 := by have := hjl.le; omega
  have HTR := Lib.hid (fun X (b : Below w.heap.size w X) => (tree_law m.j t x X (hjl.below b)).mono (fun r w' (h : _ ∧ _) => (⟨_, h.1, h.2⟩ : ∃ er, r = .returned (.tuple #[.int .i64 (trV m.j t x).1, .int .i64 er]) ∧ Below X.heap.size X w')))
  rw [hja] at HTR
  have HJ := Lib.hid (fun X (b : Below w.heap.size w X) => (by
    have hb := hbx.below b
    unfold Md.cs at hb
    rw [hja] at hb
    exact ⟨hb.cell 6, (b.cell (World.block_lt_of_cell? w _ hjc)).trans hjc, hb.cell 0, hb.cell 1, hb.cell 2, hb.cell 3, hb.cell 4, hb.cell 5, hb.cell 6⟩ :
    X.cell? ⟨m.p, 6, none⟩ = some (.slice (some ⟨jb, jo, none⟩) m.j.n m.j.cap) ∧ X.cell? ⟨jb, jo + t, none⟩ = some (.int .i64 tx) ∧ X.cell? ⟨m.p, 0, none⟩ = some (.int .i64 m.j.w) ∧ X.cell? ⟨m.p, 1, none⟩ = some (.int .i64 m.j.l) ∧ X.cell? ⟨m.p, 2, none⟩ = some (.int .i64 m.j.d) ∧ X.cell? ⟨m.p, 3, none⟩ = some (.int .i64 m.j.c) ∧ X.cell? ⟨m.p, 4, none⟩ = some (.int .i64 m.j.k) ∧ X.cell? ⟨m.p, 5, none⟩ = some (.int .i64 m.j.e) ∧ X.cell? ⟨m.p, 6, none⟩ = some (.slice (some ⟨jb, jo, none⟩) m.j.n m.j.cap)))
  have HH := Lib.hid h
  have HSS := Lib.hid hS
  have HX := Lib.hid (And.intro b1 (And.intro b2 b3))
  have HTL := Lib.hid ht
  have HF := Lib.hid hf
  have hx0 : ¬ (x : Int) < 0 := by omega
  have hx1 : ¬ tx ≤ (x : Int) := by omega
  clear h hS b1 b2 b3 ht hf htx hxt hjl htl hja hjc hbx
  go_enter Tryz.func84, Tryz.ntmps84
  go_upto_region 1 with (fail)
  refine wp_region_held_drew (S := (fun X => Below w.heap.size w X)) (by kernel_rfl) ((Below.refl _ _).drew) (fun hHeld => ?_)
  refine tk 0 ?_ rfl (.inl ⟨by rfl, ?_⟩) ?_
  rotate_left
  · intro W hSw; have m := (boxed_below HX.out.1 hSw).cell; go_simp; try with_reducible rfl
  try simp only [Act.put, List.setIfInBounds_toArray, List.set_cons_zero, List.set_cons_succ]
  refine tk 1 ?_ rfl (.inl ⟨by rfl, ?_⟩) ?_
  rotate_left
  · intro W hSw; have m := (boxed_below HX.out.2.1 hSw).cell; go_simp; try with_reducible rfl
  try simp only [Act.put, List.setIfInBounds_toArray, List.set_cons_zero, List.set_cons_succ]
  refine wpAnyH_ready (rs := [2]) (by kernel_rfl) (by simp) ?_
  refine AllReadyH.cons (o := { dst := some 11, op := Op.call { callee := Callee.value (Operand.func 52), args := #[Operand.tmp 9, Operand.tmp 10], argTypes := #[28, 3] }, type := 4, pos := "model.go:150", after := #[{ on := 0, ground := Ground.data }, { on := 1, ground := Ground.data }], guard := none }) rfl (fun K hK => ?_) AllReadyH.nil
  go_simp
  refine (HM.out _ hHeld).mono ?_; rintro r w1 ⟨rfl, rfl⟩
  go_wp2_with fail
  refine hK.out _ _ hHeld (fun hHeldn => ?_)
  clear hK K hHeld; have hHeld := hHeldn; clear hHeldn
  try simp only [Act.put, List.setIfInBounds_toArray, List.set_cons_zero, List.set_cons_succ]
  refine tk 3 ?_ rfl (.inl ⟨by rfl, ?_⟩) ?_
  rotate_left
  · intro W hSw; go_simp; try with_reducible rfl
  try simp only [Act.put, List.setIfInBounds_toArray, List.set_cons_zero, List.set_cons_succ]
  refine tk 4 ?_ rfl (.inl ⟨by rfl, ?_⟩) ?_
  rotate_left
  · intro W hSw; go_simp; try with_reducible rfl
  try simp only [Act.put, List.setIfInBounds_toArray, List.set_cons_zero, List.set_cons_succ]
  refine tk 5 ?_ rfl (.inl ⟨by rfl, ?_⟩) ?_
  rotate_left
  · intro W hSw; have m := (boxed_below HX.out.2.2 hSw).cell; go_simp; try with_reducible rfl
  try simp only [Act.put, List.setIfInBounds_toArray, List.set_cons_zero, List.set_cons_succ]
  refine tk 6 (.bool false) rfl (.inl ⟨by rfl, ?_⟩) ?_
  · intro W hSw; go_simp; try (first | rfl | exact hx0 | (simp [hx0, hx1]; done) | (simp; omega))
  try simp only [Act.put, List.setIfInBounds_toArray, List.set_cons_zero, List.set_cons_succ]
  refine tk 7 ?_ rfl (.inl ⟨by rfl, ?_⟩) ?_
  rotate_left
  · intro W hSw; go_simp; try with_reducible rfl
  try simp only [Act.put, List.setIfInBounds_toArray, List.set_cons_zero, List.set_cons_succ]
  refine tk 8 (.bool false) rfl (.inl ⟨by rfl, ?_⟩) ?_
  · intro W hSw; go_simp; try (first | rfl | exact hx0 | (simp [hx0, hx1]; done) | (simp; omega))
  try simp only [Act.put, List.setIfInBounds_toArray, List.set_cons_zero, List.set_cons_succ]
  refine tk 9 ?_ rfl (.inl ⟨by rfl, ?_⟩) ?_
  rotate_left
  · intro W hSw; have m := (boxed_below HX.out.2.2 hSw).cell; go_simp; try with_reducible rfl
  try simp only [Act.put, List.setIfInBounds_toArray, List.set_cons_zero, List.set_cons_succ]
  refine tk 10 ?_ rfl (.inl ⟨by rfl, ?_⟩) ?_
  rotate_left
  · intro W hSw; have m := (boxed_below HX.out.1 hSw).cell; go_simp; try with_reducible rfl
  try simp only [Act.put, List.setIfInBounds_toArray, List.set_cons_zero, List.set_cons_succ]
  refine tk 11 ?_ rfl (.inl ⟨by rfl, ?_⟩) ?_
  rotate_left
  · intro W hSw; go_simp; try with_reducible rfl
  try simp only [Act.put, List.setIfInBounds_toArray, List.set_cons_zero, List.set_cons_succ]
  refine tk 12 ?_ rfl (.inl ⟨by rfl, ?_⟩) ?_
  rotate_left
  · intro W hSw; go_simp; try with_reducible rfl
  try simp only [Act.put, List.setIfInBounds_toArray, List.set_cons_zero, List.set_cons_succ]
  refine tk 13 ?_ rfl (.inl ⟨by rfl, ?_⟩) ?_
  rotate_left
  · intro W hSw; go_simp; try with_reducible rfl
  try simp only [Act.put, List.setIfInBounds_toArray, List.set_cons_zero, List.set_cons_succ]
  refine tk 14 ?_ rfl (.inl ⟨by rfl, ?_⟩) ?_
  rotate_left
  · intro W hSw; have m := (HJ.out W hSw).1; go_simp; try with_reducible rfl
  try simp only [Act.put, List.setIfInBounds_toArray, List.set_cons_zero, List.set_cons_succ]
  refine tk 15 ?_ rfl (.inl ⟨by rfl, ?_⟩) ?_
  rotate_left
  · intro W hSw; have m := (boxed_below HX.out.2.1 hSw).cell; go_simp; try with_reducible rfl
  try simp only [Act.put, List.setIfInBounds_toArray, List.set_cons_zero, List.set_cons_succ]
  refine tk 16 ?_ rfl (.inl ⟨by rfl, ?_⟩) ?_
  rotate_left
  · intro W hSw; go_simp; try with_reducible rfl
  try simp only [Act.put, List.setIfInBounds_toArray, List.set_cons_zero, List.set_cons_succ]
  refine tk 17 ?_ rfl (.inl ⟨by rfl, ?_⟩) ?_
  rotate_left
  · intro W hSw; have m := (HJ.out W hSw).2; go_simp; try with_reducible rfl
  try simp only [Act.put, List.setIfInBounds_toArray, List.set_cons_zero, List.set_cons_succ]
  refine tk 18 (.bool false) rfl (.inl ⟨by rfl, ?_⟩) ?_
  · intro W hSw; go_simp; try (first | rfl | exact hx0 | (simp [hx0, hx1]; done) | (simp; omega))
  try simp only [Act.put, List.setIfInBounds_toArray, List.set_cons_zero, List.set_cons_succ]
  refine tk 19 ?_ rfl (.inl ⟨by rfl, ?_⟩) ?_
  rotate_left
  · intro W hSw; go_simp; try with_reducible rfl
  try simp only [Act.put, List.setIfInBounds_toArray, List.set_cons_zero, List.set_cons_succ]
  refine wpAnyH_done (by kernel_rfl) ?_ _
  skip
  clear HM
  go_upto_region 3 with (fail)
  refine wp_region_held_drew (S := (fun X => Below w.heap.size w X)) (by kernel_rfl) (hHeld.drew) (fun hHeld => ?_)
  refine tk 0 ?_ rfl (.inl ⟨by rfl, ?_⟩) ?_
  rotate_left
  · intro W hSw; have m := (boxed_below HX.out.1 hSw).cell; go_simp; try with_reducible rfl
  try simp only [Act.put, List.setIfInBounds_toArray, List.set_cons_zero, List.set_cons_succ]
  refine tk 1 ?_ rfl (.inl ⟨by rfl, ?_⟩) ?_
  rotate_left
  · intro W hSw; go_simp; try with_reducible rfl
  try simp only [Act.put, List.setIfInBounds_toArray, List.set_cons_zero, List.set_cons_succ]
  refine tk 2 ?_ rfl (.inl ⟨by rfl, ?_⟩) ?_
  rotate_left
  · intro W hSw; go_simp; try with_reducible rfl
  try simp only [Act.put, List.setIfInBounds_toArray, List.set_cons_zero, List.set_cons_succ]
  refine tk 3 ?_ rfl (.inl ⟨by rfl, ?_⟩) ?_
  rotate_left
  · intro W hSw; have m := (HJ.out W hSw).2.2; go_simp; try with_reducible rfl
  try simp only [Act.put, List.setIfInBounds_toArray, List.set_cons_zero, List.set_cons_succ]
  refine tk 4 ?_ rfl (.inl ⟨by rfl, ?_⟩) ?_
  rotate_left
  · intro W hSw; have m := (boxed_below HX.out.2.1 hSw).cell; go_simp; try with_reducible rfl
  try simp only [Act.put, List.setIfInBounds_toArray, List.set_cons_zero, List.set_cons_succ]
  refine tk 5 ?_ rfl (.inl ⟨by rfl, ?_⟩) ?_
  rotate_left
  · intro W hSw; have m := (boxed_below HX.out.2.2 hSw).cell; go_simp; try with_reducible rfl
  try simp only [Act.put, List.setIfInBounds_toArray, List.set_cons_zero, List.set_cons_succ]
  refine wpAnyH_ready (rs := [6]) (by kernel_rfl) (by simp) ?_
  refine AllReadyH.cons (o := { dst := some 36, op := Op.call { callee := Callee.value (Operand.func 85), args := #[Operand.tmp 33, Operand.tmp 34, Operand.tmp 35], argTypes := #[24, 3, 3] }, type := 144, pos := "model.go:153", after := #[{ on := 3, ground := Ground.data }, { on := 4, ground := Ground.data }, { on := 5, ground := Ground.data }], guard := none }) rfl (fun K hK => ?_) AllReadyH.nil
  go_simp
  refine (HTR.out _ hHeld).mono ?_; rintro r w1 ⟨er, rfl, hb1⟩
  have HB1 := Lib.hid (step_below hHeld hb1)
  clear hb1
  go_wp2_with fail
  refine hK.out _ _ HB1.out (fun hHeldn => ?_)
  clear hK K hHeld; have hHeld := hHeldn; clear hHeldn
  try simp only [Act.put, List.setIfInBounds_toArray, List.set_cons_zero, List.set_cons_succ]
  refine tk 7 ?_ rfl (.inl ⟨by rfl, ?_⟩) ?_
  rotate_left
  · intro W hSw; go_simp; try with_reducible rfl
  try simp only [Act.put, List.setIfInBounds_toArray, List.set_cons_zero, List.set_cons_succ]
  refine tk 8 ?_ rfl (.inl ⟨by rfl, ?_⟩) ?_
  rotate_left
  · intro W hSw; go_simp; try with_reducible rfl
  try simp only [Act.put, List.setIfInBounds_toArray, List.set_cons_zero, List.set_cons_succ]
  refine tk 9 ?_ rfl (.inl ⟨by rfl, ?_⟩) ?_
  rotate_left
  · intro W hSw; go_simp; try with_reducible rfl
  try simp only [Act.put, List.setIfInBounds_toArray, List.set_cons_zero, List.set_cons_succ]
  refine tk 10 ?_ rfl (.inl ⟨by rfl, ?_⟩) ?_
  rotate_left
  · intro W hSw; go_simp; try with_reducible rfl
  try simp only [Act.put, List.setIfInBounds_toArray, List.set_cons_zero, List.set_cons_succ]
  refine tk 11 ?_ rfl (.inl ⟨by rfl, ?_⟩) ?_
  rotate_left
  · intro W hSw; go_simp; try with_reducible rfl
  try simp only [Act.put, List.setIfInBounds_toArray, List.set_cons_zero, List.set_cons_succ]
  refine wpAnyH_done (by kernel_rfl) ?_ _
  skip
  go_upto_region 5 with (fail)
  refine wp_region_held_drew (S := (fun X => Below w.heap.size w X)) (by kernel_rfl) (hHeld.drew) (fun hHeld => ?_)
  refine tk 0 ?_ rfl (.inl ⟨by rfl, ?_⟩) ?_
  rotate_left
  · intro W hSw; have m := (boxed_below HX.out.1 hSw).cell; go_simp; try with_reducible rfl
  try simp only [Act.put, List.setIfInBounds_toArray, List.set_cons_zero, List.set_cons_succ]
  refine tk 2 ?_ rfl (.inl ⟨by rfl, ?_⟩) ?_
  rotate_left
  · intro W hSw; have m := (boxed_below HX.out.2.1 hSw).cell; go_simp; try with_reducible rfl
  try simp only [Act.put, List.setIfInBounds_toArray, List.set_cons_zero, List.set_cons_succ]
  refine tk 3 ?_ rfl (.inl ⟨by rfl, ?_⟩) ?_
  rotate_left
  · intro W hSw; go_simp; try with_reducible rfl
  try simp only [Act.put, List.setIfInBounds_toArray, List.set_cons_zero, List.set_cons_succ]
  refine tk 6 ?_ rfl (.inl ⟨by rfl, ?_⟩) ?_
  rotate_left
  · intro W hSw; go_simp; try with_reducible rfl
  try simp only [Act.put, List.setIfInBounds_toArray, List.set_cons_zero, List.set_cons_succ]
  refine wpAnyH_ready (rs := [1]) (by kernel_rfl) (by simp) ?_
  refine AllReadyH.cons (o := { dst := some 40, op := Op.call { callee := Callee.value (Operand.func 81), args := #[Operand.tmp 39], argTypes := #[28] }, type := 117, pos := "model.go:155", after := #[{ on := 0, ground := Ground.data }], guard := none }) rfl (fun K hK => ?_) AllReadyH.nil
  go_simp
  refine (newtrial_law (HH.out.below hHeld) (fun k hk => Nat.lt_of_lt_of_le (HSS.out k hk) hHeld.size)).mono ?_; rintro r w5 ⟨S1, x1, rfl, hb1, ht1, hws1, hrs1, hsa1, hsb1⟩
  have HB5 := Lib.hid (step_below hHeld hb1)
  have HT1 := Lib.hid (And.intro ht1 hws1)
  clear hb1 ht1 hws1 hrs1 hsa1 hsb1
  go_wp2_with fail
  refine hK.out _ _ HB5.out (fun hHeldn => ?_)
  clear hK K hHeld; have hHeld := hHeldn; clear hHeldn
  try simp only [Act.put, List.setIfInBounds_toArray, List.set_cons_zero, List.set_cons_succ]
  refine wpAnyH_ready (rs := [4]) (by kernel_rfl) (by simp) ?_
  refine AllReadyH.cons (o := { dst := some 43, op := Op.call { callee := Callee.value (Operand.func 86), args := #[Operand.tmp 40, Operand.tmp 41, Operand.tmp 42], argTypes := #[117, 3, 3] }, type := 146, pos := "model.go:155", after := #[{ on := 1, ground := Ground.data }, { on := 2, ground := Ground.data }, { on := 3, ground := Ground.data }, { on := 1, ground := Ground.chain }], guard := none }) rfl (fun K hK => ?_) AllReadyH.nil
  go_simp
  refine (tentries_law esort HT1.out.1 t HTL.out (trV m.j t x).1 HF.out).mono ?_; rintro r w6 ⟨ea, ec, L, rfl, hb6, hq1, hq2, hq3, hq4⟩
  have HB6 := Lib.hid hb6
  have HQ := Lib.hid (And.intro hq1 hq3)
  have HQ4 := Lib.hid hq4
  obtain ⟨n, hn⟩ : ∃ n, L.length = n := ⟨_, rfl⟩
  rw [hn] at hq2 ⊢
  have HLN := Lib.hid hn
  clear hb6 hq1 hq3 hq4 hn
  go_wp2_with fail
  refine hK.out _ _ (step_below HB5.out HB6.out) (fun hHeldn => ?_)
  clear hK K hHeld; have hHeld := hHeldn; clear hHeldn
  try simp only [Act.put, List.setIfInBounds_toArray, List.set_cons_zero, List.set_cons_succ]
  refine tk 5 ?_ rfl (.inl ⟨by rfl, ?_⟩) ?_
  rotate_left
  · intro W hSw; go_simp; try with_reducible rfl
  try simp only [Act.put, List.setIfInBounds_toArray, List.set_cons_zero, List.set_cons_succ]
  refine wpAnyH_done (by kernel_rfl) ?_ _
  skip
  have hni : (n : Int) ≤ 2000000 := by omega
  have HEN := Lib.hid (show ∀ W', Off (fun k => k < w5.heap.size ∨ w6.heap.size ≤ k) w6 W' → EnsR W' ea L from fun W' o => HQ4.out (fun k => k < w5.heap.size) (fun k hk => hk) W' ⟨o.os, o.tape, o.output, o.size, fun k hk hn => o.block k hk (fun e => e.elim hn (fun h => by omega))⟩)
  have HPN := Lib.hid (show ∀ W, Below w6.heap.size w6 W → EnsR W ea L from fun W b => HEN.out W (Off.of b))
  clear HQ4 HTR HJ
  go_wp2_with fail
  go_loopw [6, 45] (fun v i wr => ∃ k : Nat, k ≤ n ∧ i = .int .i64 (k : Int) ∧ Hid (wr.ownsRow w6.heap.size 78 2 v k (prcells ((L.take k).map eiP))) ∧ Hid (Below w6.heap.size w6 wr)) (fun _ i _ => n - (intOf i).toNat)
  case atStart => exact ⟨0, by omega, rfl, Lib.hid (World.ownsRow_nil _ _ _ _), Lib.hid (Below.refl _ _)⟩
  case round =>
    obtain ⟨k, hk, rfl, HOV, HBR⟩ := hrel
    obtain ⟨va, vc, hv⟩ := own_form22 HOV.out
    subst hv
    by_cases hlt : k < n
    · have d1 : (k : Int) < (n : Int) := by omega
      obtain ⟨y, hy⟩ : ∃ y, L[k]? = some y := ⟨_, List.getElem?_eq_getElem (by rw [HLN.out]; exact hlt)⟩
      obtain ⟨b1, o1, hea, p0, p1, p2, _⟩ := HPN.out wr HBR.out k y hy
      have HTK := Lib.hid (show (L.take (k + 1)).map eiP = (L.take k).map eiP ++ [eiP y] by rw [List.take_add_one, hy, List.map_append]; rfl)
      have HP3 := Lib.hid (show k + 1 ≤ 2097152 by omega)
      clear hy
      subst hea
      go_wp2_with (at_builtin; refine append_cells ae_pair rfl _ _ rfl w6.heap.size (.slice va k vc) k (prcells ((L.take k).map eiP)) rfl ((own_kept HOV.out (bl1 wr _)).alloc _) ⟨wr.heap.size + 1, 0, none⟩ 1 1 [.slice y.ka y.K.length y.kc, .slice y.p.ra y.p.R.length y.p.rc] rfl rfl (by rw [show wr.heap.size + 1 = (wr.alloc (.cells #[.slice y.ka y.K.length y.kc, .slice y.p.ka y.p.K.length y.p.kc, .slice y.p.ra y.p.R.length y.p.rc] 149)).heap.size by simp]; exact cells_new _ _ _ _ rfl) (fun u hu => by simp at hu; rcases hu with rfl | rfl <;> rfl) HP3.out (Nat.le_trans HBR.out.size (by simp; omega)) ?_; intro v8 w8 hown8 hgrow8 hat8; have HO8 := Lib.hid hown8; have HG8 := Lib.hid hgrow8; have HAT8 := Lib.hid hat8; clear hown8 hgrow8 hat8)
      go_roundw
      case rel =>
        refine ⟨k + 1, by omega, by go_num, Lib.hid ?_, Lib.hid ?_⟩
        · rw [HTK.out, prcells_append]; exact HO8.out
        · have b2 : Below wr.heap.size wr ((wr.alloc (.cells #[.slice y.ka y.K.length y.kc, .slice y.p.ka y.p.K.length y.p.kc, .slice y.p.ra y.p.R.length y.p.rc] 149)).alloc (.cells #[.slice y.ka y.K.length y.kc, .slice y.p.ra y.p.R.length y.p.rc] 78)) := ((Below.refl _ _).alloc (Nat.le_refl _) _).alloc (by simp) _
          exact Off.below HBR.out ((Off.of (S := fun k' => Value.ownBlock (.slice va k vc) = some k') b2).trans (Off.of_row HG8.out)) HBR.out.size (fun j hj => (own_blk HOV.out hj).1)
      case measure => simp [intOf]; omega
    · have d1 : ¬ (k : Int) < (n : Int) := by omega
      have HKE := Lib.hid (show k = n by omega)
      go_wp2_with fail
      go_ret
      have hkn := HKE.out
      have hln := HLN.out
      have htk : L.take k = L := List.take_of_length_le (by omega)
      have hown := HOV.out
      rw [htk] at hown
      have hl2 : (L.map eiP).length = k := by rw [List.length_map]; omega
      obtain ⟨hcn, hna⟩ := own_cn22 hown
      refine ⟨va, vc, L.map eiP, by show Ending.returned (.slice va k vc) = _; rw [hl2], step_below HB5.out (step_below HB6.out (HBR.out.mono (Nat.le_refl _))), ?_, ?_, by rw [hl2]; exact hcn, hna, by rw [hl2]; omega, fun S' hS' W' o => ?_⟩
      · unfold idxP
        have h1 := HQ.out.1
        have hws : x1.T m t = m.P.getD t [] := by unfold Tl.T; rw [HT1.out.2]; rfl
        rw [hws] at h1
        try rw [List.getD_eq_getElem?_getD] at h1
        rw [← h1, List.map_map, List.map_map]; rfl
      · intro p hp
        obtain ⟨e, he, rfl⟩ := List.mem_map.1 hp
        obtain ⟨e1, e2, e3⟩ := HQ.out.2 e he
        refine ⟨e1, ?_, e3⟩
        have hm : enC e ∈ lookE m.j t (trV m.j t x).1 (x1.T m t) := by rw [← HQ.out.1]; exact List.mem_map.2 ⟨e, he, rfl⟩
        obtain ⟨h2, h3⟩ := lookE_mem hm
        obtain ⟨_, f, hf1, _, _, hf4⟩ := entP_mem e2 e3 h3
        show e.K.length ≤ 1000
        have h4 : e.K = entryL f e.p.K := hf4
        have := entry_le f e.p.K
        rw [h4]
        have := e2.2.2
        omega
      · have oE : Off (fun j => j < w5.heap.size ∨ w6.heap.size ≤ j) w6 W' := (Off.of HBR.out).trans (o.mono fun j hj => .inl (Nat.lt_of_lt_of_le (hS' j hj) HB5.out.size))
        refine prs_own (own_off22 hown o (fun j hj => Nat.lt_of_lt_of_le (hS' j hj) (Nat.le_trans HB5.out.size HB6.out.size))) hl2 fun p hp => ?_
        obtain ⟨e, he, rfl⟩ := List.mem_map.1 hp
        obtain ⟨i, hi⟩ := List.mem_iff_getElem?.1 he
        obtain ⟨_, _, _, _, _, _, l⟩ := HEN.out W' oE i e hi
        exact ⟨l.k, l.pr⟩
end Go.Proofs.YthmofoldmdafoaaGreat
namespace Go.Proofs.YthmofoldmdafoaaGreat
open Go.ChangeShapes Go.WideShapes Go.ChangeAt Go.RowKit
set_option linter.unusedVariables false
set_option linter.unusedSimpArgs false

set_option maxRecDepth 100000 in
set_option maxHeartbeats 4000000 in
theorem rsplit_law (a : Option Addr) (L : List Int) (n cap : Nat) (hL : L.length = n) (hn : n ≤ 300000) (F K : List Int) (er : Int) (hv : splitV L = (F, K, er)) (w : World) (hA : Ls .u8 w a cap L) :
    Calls Tryz.prog 101 #[.slice a n cap] w fun r w' => ∃ a1 c1 a2 c2, r = .returned (.tuple #[.slice a1 F.length c1, .slice a2 K.length c2, .int .i64 er]) ∧ Ls .u8 w' a1 c1 F ∧ Ls .u8 w' a2 c2 K ∧ Below w.heap.size w w' := by
  have HA := Lib.hid hA
  have HL := Lib.hid hL
  have HV := Lib.hid hv
  have hbad : splitL [] L = none → F = [] ∧ K = [] ∧ er = 4 := fun h => by
    rw [splitV, h] at hv
    simp only [spV, Prod.mk.injEq] at hv
    exact ⟨hv.1.symm, hv.2.1.symm, hv.2.2.symm⟩
  have HB := Lib.hid hbad
  clear hA hL hv hbad
  go_enter Tryz.func101, Tryz.ntmps101
  go_wp2_with fail
  go_loopw [5, 6] (fun v i wr => ∃ (k : Nat) (f : List Int), k ≤ n ∧ i = .int .i64 k ∧ f.length ≤ k ∧ wr.ownsRow w.heap.size 5 1 v f.length (iv .u8 f) ∧ splitL [] L = splitL f (L.drop k) ∧ Below w.heap.size w wr) (fun _ i _ => n - (intOf i).toNat)
  case atStart => exact ⟨0, [], by omega, rfl, by simp, World.ownsRow_nil _ _ _ _, rfl, Below.refl _ _⟩
  case round =>
    obtain ⟨k, f, hk, rfl, hfk, hown, hsp, B⟩ := hrel
    obtain ⟨m, hm⟩ : ∃ m, f.length = m := ⟨_, rfl⟩
    rw [hm] at hown hfk
    have HSP := Lib.hid hsp
    have HM := Lib.hid hm
    have HOWN := Lib.hid hown
    have HFK := Lib.hid hfk
    clear hsp hm hown hfk
    by_cases hlt : k < n
    · have hkl : (k : Int) < (n : Int) := by omega
      have hkL : k < L.length := by rw [HL.out]; exact hlt
      have hdc := drop_cons L k hkL
      obtain ⟨b1, o1, e1, c1⟩ := (HA.out.below B).get k hkL
      subst e1
      obtain ⟨x, hx⟩ : ∃ x, L.getD k 0 = x := ⟨_, rfl⟩
      rw [hx] at c1 hdc
      have HDC := Lib.hid hdc
      have hs1 := B.size
      clear hx hdc
      by_cases q : x = 0
      · have t1 : (x != 0) = false := by rw [q]; rfl
        have HQ := Lib.hid q
        clear q
        by_cases hend : k + 1 = n
        · have t2 : (n : Int) ≤ (k : Int) + 1 := by omega
          have hr := HB.out (by rw [HSP.out]; exact splitL_one _ _ (by rw [List.length_drop]; have := HL.out; omega))
          have HR := Lib.hid hr
          clear hr hend
          go_wp2_with fail
          go_ret3
          obtain ⟨rfl, rfl, rfl⟩ := HR.out
          exact ⟨none, 0, none, 0, rfl, Ls.nul _ _, Ls.nul _ _, B⟩
        · have t2 : ¬ (n : Int) ≤ (k : Int) + 1 := by omega
          have hkl2 : (k : Int) + 1 < (n : Int) := by omega
          have hkL2 : k + 1 < L.length := by rw [HL.out]; omega
          have hdc2 := drop_cons L (k + 1) hkL2
          obtain ⟨b2, o2, e2, c2⟩ := (HA.out.below B).get (k + 1) hkL2
          cases e2
          obtain ⟨y, hy⟩ : ∃ y, L.getD (k + 1) 0 = y := ⟨_, rfl⟩
          rw [hy] at c2 hdc2
          have hsp2 : splitL [] L = if y = 1 then (if f.length ≤ 24 ∧ mayK (L.drop (k + 1 + 1)).length = true then some (f, L.drop (k + 1 + 1)) else none) else if y = 255 then splitL (f ++ [0]) (L.drop (k + 1 + 1)) else none := by
            rw [HSP.out, HDC.out, hdc2, splitL, if_pos HQ.out]
          have HSP2 := Lib.hid hsp2
          have hend2 := Lib.hid hend
          clear hy hdc2 hsp2 hend
          by_cases q1 : y = 1
          · have t3 : (y == 1) = true := by rw [q1]; rfl
            have hsp3 := HSP2.out
            rw [if_pos q1] at hsp3
            have hdl : (L.drop (k + 1 + 1)).length = n - (k + 2) := by rw [List.length_drop, HL.out]
            rw [HM.out, hdl] at hsp3
            obtain ⟨a', c', s', l'⟩ := HA.out.lo eltB n (k + 2) HL.out (by omega)
            have s2 : ∀ W', (Instr.slice 42 (.slice (some ⟨b1, o1, none⟩) n cap) (some (.int .i64 ((k : Int) + 2))) none none).run Tryz.prog W' = .ok (.slice a' (n - (k + 2)) c') W' := by
              intro W'
              have := s' W'
              rwa [show (((k + 2 : Nat)) : Int) = (k : Int) + 2 by omega] at this
            obtain ⟨r, hr⟩ : ∃ r, n - (k + 2) = r := ⟨_, rfl⟩
            rw [hr] at s2 hdl hsp3
            have HDL := Lib.hid hdl
            have hr3 : r ≤ 300000 := by omega
            obtain ⟨af, cf, hsl, lf, _⟩ := own_ls HOWN.out HM.out
            subst hsl
            have HLF := Lib.hid lf
            have HLP := Lib.hid l'
            have HS3 := Lib.hid hsp3
            clear s' hdl hsp3 hr lf l' HOWN q1
            go_wp2_with (at_builtin; refine append_ls eltB rfl (.const (.slice none 0 0)) (.tmp 40) rfl w.heap.size (.slice none 0 0) 0 [] rfl (World.ownsRow_nil _ _ _ _) a' c' r (L.drop (k + 1 + 1)) HDL.out rfl (HLP.out.below B) (by omega) hs1 ?_)
            intro v2 w2 hown2 hg2
            have hown3 : w2.ownsRow w.heap.size 5 1 v2 r (iv .u8 (L.drop (k + 1 + 1))) := by simpa using hown2
            have B2 := B.grown hg2 hs1 (fun j hj => by cases hj)
            have HLF2 := Lib.hid (HLF.out.below ((Below.refl wr.heap.size wr).grown hg2 (Nat.le_refl _) (fun j hj => by cases hj)))
            obtain ⟨ak, ck, rfl, lk, _⟩ := own_ls hown3 HDL.out
            have HLK := Lib.hid lk
            clear hown2 hg2 hown3 HLF lk
            by_cases q3 : m ≤ 24
            · have q4 : ¬ (24 : Int) < (m : Int) := by omega
              have hmk := rmaykey_law ak r ck w2
              cases hk2 : mayK r
              · rw [hk2] at hmk
                have HMK := Lib.hid hmk
                have hr := HB.out (by rw [HS3.out, if_neg (by rw [hk2]; simp)])
                have HR := Lib.hid hr
                clear hr hmk hk2
                go_wp2_with fail
                refine HMK.out.mono ?_; rintro e w' ⟨rfl, rfl⟩
                go_wp2_with fail
                go_ret3
                obtain ⟨rfl, rfl, rfl⟩ := HR.out
                exact ⟨none, 0, none, 0, rfl, Ls.nul _ _, Ls.nul _ _, B2⟩
              · rw [hk2] at hmk
                have HMK := Lib.hid hmk
                have hv2 := HV.out
                rw [splitV, HS3.out, if_pos ⟨q3, hk2⟩] at hv2
                simp only [spV, Prod.mk.injEq] at hv2
                obtain ⟨e1, e2, e3⟩ := hv2
                have E1 := Lib.hid e1
                have E2 := Lib.hid e2
                have E3 := Lib.hid e3
                clear hmk hk2 e1 e2 e3
                go_wp2_with fail
                refine HMK.out.mono ?_; rintro e w' ⟨rfl, rfl⟩
                go_wp2_with fail
                go_ret3
                have e1 := E1.out
                have e2 := E2.out
                have e3 := E3.out
                subst e1 e2 e3
                exact ⟨af, cf, ak, ck, by rw [HM.out, HDL.out]; rfl, HLF2.out, HLK.out, B2⟩
            · have q4 : (24 : Int) < (m : Int) := by omega
              have hr := HB.out (by rw [HS3.out, if_neg (fun h => q3 h.1)])
              have HR := Lib.hid hr
              clear hr
              go_wp2_with fail
              go_ret3
              obtain ⟨rfl, rfl, rfl⟩ := HR.out
              exact ⟨none, 0, none, 0, rfl, Ls.nul _ _, Ls.nul _ _, B2⟩
          · have t3 : (y == 1) = false := by simpa using q1
            have hsp3 := HSP2.out
            rw [if_neg q1] at hsp3
            by_cases q2 : y = 255
            · have t4 : (y != 255) = false := by simpa using q2
              rw [if_pos q2] at hsp3
              have HSP3 := Lib.hid hsp3
              have Q2 := Lib.hid q2
              clear hsp3 q1 q2
              go_wp2_with (at_builtin; refine append_ls eltB rfl (.tmp 58) (.tmp 59) rfl w.heap.size _ m (iv .u8 f) rfl (HOWN.out.alloc _) _ _ 1 [0] rfl rfl (ls_new .u8 _ [0] _ _ _ rfl 1 rfl) (by have := HFK.out; omega) (by simp; omega) ?_)
              intro v2 w3 hown3 hgrow3
              rw [← iv_append] at hown3
              have B4 := (B.alloc hs1 _).grown hgrow3 (by simp; omega) (fun j hj => (HOWN.out.lt j hj).1)
              have HOWN3 := Lib.hid hown3
              clear hown3 hgrow3
              go_wp2_with fail
              go_roundw
              case rel => exact ⟨k + 2, f ++ [0], by have := hend2.out; omega, by go_num, by rw [List.length_append, HM.out]; have := HFK.out; simp; omega, by rw [List.length_append, HM.out]; exact HOWN3.out, by rw [HSP3.out], B4⟩
              case measure => simp [intOf]; omega
            · have t4 : (y != 255) = true := by simpa using q2
              rw [if_neg q2] at hsp3
              have hr := HB.out hsp3
              have HR := Lib.hid hr
              clear hr hsp3 q1 q2
              go_wp2_with fail
              go_ret3
              obtain ⟨rfl, rfl, rfl⟩ := HR.out
              exact ⟨none, 0, none, 0, rfl, Ls.nul _ _, Ls.nul _ _, B⟩
      · have t1 : (x != 0) = true := by simpa using q
        have hsp2 : splitL [] L = splitL (f ++ [x]) (L.drop (k + 1)) := by rw [HSP.out, HDC.out, splitL_go _ _ _ q]
        have HSP2 := Lib.hid hsp2
        clear q hsp2
        go_wp2_with (at_builtin; refine append_ls eltB rfl (.tmp 17) (.tmp 22) rfl w.heap.size _ m (iv .u8 f) rfl (HOWN.out.alloc _) _ _ 1 [x] rfl rfl (ls_new .u8 _ [x] _ _ _ rfl 1 rfl) (by have := HFK.out; omega) (by simp; omega) ?_)
        intro v2 w3 hown3 hgrow3
        rw [← iv_append] at hown3
        have B4 := (B.alloc hs1 _).grown hgrow3 (by simp; omega) (fun j hj => (HOWN.out.lt j hj).1)
        have HOWN3 := Lib.hid hown3
        clear hown3 hgrow3
        go_wp2_with fail
        go_roundw
        case rel => exact ⟨k + 1, f ++ [x], by omega, by go_num, by rw [List.length_append, HM.out]; have := HFK.out; simp; omega, by rw [List.length_append, HM.out]; exact HOWN3.out, HSP2.out, B4⟩
        case measure => simp [intOf]; omega
    · have hkl : ¬ (k : Int) < (n : Int) := by omega
      have hr := HB.out (by rw [HSP.out]; exact splitL_one _ _ (by rw [List.length_drop]; have := HL.out; omega))
      have HR := Lib.hid hr
      clear hr
      go_wp2_with fail
      go_ret3
      obtain ⟨rfl, rfl, rfl⟩ := HR.out
      exact ⟨none, 0, none, 0, rfl, Ls.nul _ _, Ls.nul _ _, B⟩
end Go.Proofs.YthmofoldmdafoaaGreat
namespace Go.Proofs.YthmofoldmdafoaaGreat
open Go.ChangeShapes Go.WideShapes Go.ChangeAt Go.RowKit Go.Maps Go.Shelf
set_option linter.unusedVariables false
set_option linter.unusedSimpArgs false

attribute [local go_sem] Oper.semAt_some
theorem lastK_succ {T : List Pr} {k : Nat} {p : Pr} (h : T[k]? = some p) : lastK T (k + 1) = p.1 := by
  unfold lastK
  rw [List.take_add_one, h]
  simp
theorem lastK_lt {T : List Pr} (hr : T.Pairwise fun a b => ltL a.1 b.1 = true) {k : Nat} {p : Pr} (h : T[k + 1]? = some p) : ltL (lastK T (k + 1)) p.1 = true := by
  obtain ⟨hk, e⟩ := List.getElem?_eq_some_iff.1 h
  have h2 : T[k]? = some T[k] := List.getElem?_eq_getElem (by omega)
  rw [lastK_succ h2]
  have := List.pairwise_iff_getElem.1 hr k (k + 1) (by omega) hk (by omega)
  rw [e] at this
  exact this
theorem boxes5 (w : World) (v0 v1 v2 v3 v4 : Value) (t0 t1 t2 t3 t4 : TypeId) : let W := ((((w.alloc (.cells #[v0] t0)).alloc (.cells #[v1] t1)).alloc (.cells #[v2] t2)).alloc (.cells #[v3] t3)).alloc (.cells #[v4] t4)
    Boxed W w.heap.size t0 v0 ∧ Boxed W (w.heap.size + 1) t1 v1 ∧ Boxed W (w.heap.size + 1 + 1) t2 v2 ∧ Boxed W (w.heap.size + 1 + 1 + 1) t3 v3 ∧ Boxed W (w.heap.size + 1 + 1 + 1 + 1) t4 v4 ∧ Below w.heap.size w W ∧ W.heap.size = w.heap.size + 5 := by
  intro W
  have b0 := Boxed.new w t0 v0
  have b1 := Boxed.new (w.alloc (.cells #[v0] t0)) t1 v1
  have b2 := Boxed.new ((w.alloc (.cells #[v0] t0)).alloc (.cells #[v1] t1)) t2 v2
  have b3 := Boxed.new (((w.alloc (.cells #[v0] t0)).alloc (.cells #[v1] t1)).alloc (.cells #[v2] t2)) t3 v3
  have b4 := Boxed.new ((((w.alloc (.cells #[v0] t0)).alloc (.cells #[v1] t1)).alloc (.cells #[v2] t2)).alloc (.cells #[v3] t3)) t4 v4
  simp only [World.size_alloc] at b1 b2 b3 b4
  refine ⟨(((b0.alloc _).alloc _).alloc _).alloc _, ((b1.alloc _).alloc _).alloc _, (b2.alloc _).alloc _, b3.alloc _, b4, ?_, by simp [W]⟩
  exact (((((Below.refl _ w).alloc (Nat.le_refl _) _).alloc (by simp) _).alloc (by simp; omega) _).alloc (by simp; omega) _).alloc (by simp; omega) _
theorem KpO.set {b : Nat} (W : World) (p : Addr) (v : Value) (h : p.block < b) : KpO b (fun _ => none) W (W.setCell p v) := ⟨rfl, rfl, rfl, by simp, fun k _ hb _ => Below.heap_setCell W p v k (by omega), fun _ h => nomatch h⟩
theorem ElI.off {w : World} {a : Option Addr} {n c x : Nat} {T : List Pr} {k : Nat} {A B : World} {S : Nat → Prop} (h : ElI w a n c x T k A) (o : Off S A B) (hS : ∀ j, S j → w.heap.size + 5 ≤ j) : ElI w a n c x T k B := by
  have f : ∀ {b t v}, Boxed A b t v → b < w.heap.size + 5 → Boxed B b t v := fun h hb => (o.block _ h.lt (fun e => by have := hS _ e; omega)).trans h
  exact ⟨f h.b4 (by omega), f h.b5 (by omega), f h.b6 (by omega), f h.b7 (by omega), f h.b8 (by omega), Off.below h.bel o h.bel.size (fun j hj => by have := hS j hj; omega)⟩
set_option maxRecDepth 100000 in
set_option maxHeartbeats 4000000 in
/-- entries (71), where all is as it should be. -/
theorem lentries_law (w : World) (Bs : Nat) (T : List Pr) (hT : T.length ≤ 2000000) (a : Option Addr) (P : List PrV) (n c : Nat) (hn : P.length = n) (hn2 : n ≤ 1000000) (x : Nat) (hx : x ≤ 1000) (hok : ∀ p ∈ P, Byt p.K ∧ p.R.length ≤ 1000000 ∧ ∀ q ∈ p.R, Byt q.bs) (hP : PairsR w a P)
    (hby : ∀ p ∈ T, Byt p.1) (hr : T.Pairwise fun a b => ltL a.1 b.1 = true) (hF : ∀ p ∈ T, ∃ F K, splitV p.1 = (F, K, 0) ∧ Byt F ∧ Byt K ∧ F.length ≤ 1000 ∧ K.length ≤ 1000 ∧ rowB (P.map prC) K F x = true)
    (hseq : ∀ W0, Below w.heap.size w W0 → SeqX Fence.wide 5 Tryz.prog 106 #[.pointer (some ⟨Bs, 0, none⟩)] encP (KpO (W0.heap.size + 2) (fun _ => none)) (PxP okI (W0.heap.size + 2) (fun _ => none) T) T.length W0) :
    Calls Tryz.prog 71 #[.func (.func 106) #[] #[.pointer (some ⟨Bs, 0, none⟩)], .slice a n c, .int .i64 (x : Int)] w fun r w' => r = .returned (.int .i64 (T.length : Int)) ∧ Below w.heap.size w w' := by
  have HR := Lib.hid hr
  have HBY := Lib.hid hby
  have HF := Lib.hid hF
  have HSQ := Lib.hid hseq
  have HP := Lib.hid (And.intro hP (And.intro hn hok))
  obtain ⟨N, hN⟩ : ∃ N, T.length = N := ⟨_, rfl⟩
  have HN := Lib.hid hN
  have hN2 : N ≤ 2000000 := by rw [← hN]; exact hT
  rw [hN]
  have hni : (n : Int) ≤ 1000000 := by omega
  have hxi : (x : Int) ≤ 1000 := by omega
  clear hby hr hF hseq hP hn hok hT hN
  refine (callsIn_wide (n := 6)).1 ?_
  refine callsIn_of_wp_marks Tryz.func71 rfl trivial ?_ rfl
  simp only [Tryz.ntmps71, List.size_toArray, List.length_cons, List.length_nil, Nat.reduceAdd, Nat.reduceSub, Array.replicate_succ, Array.replicate_zero, List.push_toArray, List.append_toArray, List.nil_append, List.cons_append]
  have hnf : ∀ W : World, (binOp .eql 101 (.func (.func 106) #[] #[.pointer (some ⟨Bs, 0, none⟩)]) .nilFunc).run Tryz.prog W = .ok (.bool false) W := fun W => rfl
  refine wpIn_wide.2 ?_
  go_wp2_with fail
  refine (wpIn_wide (n := 6)).1 ?_
  obtain ⟨W0, hW0⟩ : ∃ W0, (((((w.alloc (.cells #[.slice a n c] 69)).alloc (.cells #[.int .i64 (x : Int)] 3)).alloc (.cells #[.int .i64 0] 3)).alloc (.cells #[.int .i64 0] 3)).alloc (.cells #[.string { data := #[] }] 9)) = W0 := ⟨_, rfl⟩
  have h0 := boxes5 w (.slice a n c) (.int .i64 (x : Int)) (.int .i64 0) (.int .i64 0) (.string { data := #[] }) 69 3 3 3 9
  rw [hW0] at h0 ⊢
  clear hW0
  obtain ⟨c4, c5, c6, c7, c8, hb0, hsz⟩ := h0
  have hI0 : ElI w a n c x T 0 W0 := ⟨c4, c5, c6, c7, c8, hb0⟩
  have hsq := HSQ.out W0 hb0
  rw [hsz] at hsq
  clear c4 c5 c6 c7 c8 hb0 HSQ
  rw [HN.out] at hsq
  refine wp_range_x rfl (by omega) (gf := 106) (lb := #[.pointer (some ⟨Bs, 0, none⟩)]) rfl trivial (enters_of Tryz.func106 (by kernel_rfl) rfl) hsq (fun h k => h.trans k)
    (fun W o' => KpO.put o' (by omega) rfl) (fun k x W o' h => h.kp (KpO.put o' (by omega) rfl)) (fun _ => rfl)
    (fun k W => ElI w a n c x T k W) (fun _ _ => False)
    (fun k A B h o => h.off o (fun j hj => by rw [hsz] at hj; omega)) (fun k A B h o => h) hI0
    (fun p a' W => ∃ B, a' = { tmps := #[.func (.func 106) #[] #[.pointer (some ⟨Bs, 0, none⟩)], .slice a n c, .int .i64 (x : Int), undef, .pointer (some ⟨w.heap.size, 0, none⟩), .pointer (some ⟨w.heap.size + 1, 0, none⟩), .pointer (some ⟨w.heap.size + 1 + 1, 0, none⟩), .pointer (some ⟨w.heap.size + 1 + 1 + 1, 0, none⟩), .pointer (some ⟨w.heap.size + 1 + 1 + 1 + 1, 0, none⟩), .pointer (some ⟨B, 0, none⟩), undef, undef, undef, .func (.func 106) #[] #[.pointer (some ⟨Bs, 0, none⟩)], .bool false, .func (.func 106) #[] #[.pointer (some ⟨Bs, 0, none⟩)], .agg (pcl p).toArray, undef, undef, undef, undef, undef, undef, undef, undef, undef, undef, undef, undef, undef, undef, undef, undef, undef, undef, undef, undef, undef, undef, undef, undef, undef, undef, undef, undef, undef, undef, undef, undef, undef, undef], defers := [] } ∧ BoxC W B (pcl p).toArray 78 ∧ w.heap.size + 7 ≤ B)
    (fun x a' _ A A' h o => by obtain ⟨B, h1, h2, h3⟩ := h; exact ⟨B, h1, boxc_off h2 o (by omega), h3⟩)
    ?assign ?body ?done ?stop
  case assign =>
    rintro lp k p W K hk hI hPx hK
    dsimp only [encP]
    have hbW := hPx.lies.size
    unfold pcl
    gi_wp2
    have hbl := bl1 W (.cells (pcl p).toArray 78)
    exact hK _ _ ((KeepsOthers.alloc W _).from _) (KpO.below hbl rfl) (hI.off (S := fun _ => False) (Off.of hbl) (fun _ h => h.elim)) (hPx.kp (KpO.below hbl rfl)) ⟨W.heap.size, rfl, BoxC.new W _ _, hbW⟩
  case body =>
    rintro lp k p a' W hk hI hPx ⟨B, rfl, hbx, hBB⟩
    obtain ⟨F, K, hsp, bF, bK, lF, lK, hrow⟩ := HF.out (prC p) (List.mem_of_getElem? hPx.at_)
    have hsp' : splitV p.K = (F, K, 0) := hsp
    have hkl := hPx.ok.2.1
    have HSP := Lib.hid (rsplit_law p.ka p.K p.K.length p.kc rfl (by omega) F K 0 hsp' W hPx.lies.now.1)
    have x0 := hbx.cell 0
    unfold pcl at x0
    simp only [List.getElem?_toArray, List.getElem?_cons_zero] at x0
    have HX0 := Lib.hid (fun X (b : Below W.heap.size W X) => (b.cell (World.block_lt_of_cell? W _ x0)).trans x0)
    have HI := Lib.hid hI
    have HPX := Lib.hid hPx
    have HK := Lib.hid hk
    have HRW := Lib.hid (And.intro bF (And.intro bK hrow))
    have hws : w.heap.size + 7 ≤ W.heap.size := by have := hbx.lt; omega
    obtain ⟨fl, hfl⟩ : ∃ l, F.length = l := ⟨_, rfl⟩
    obtain ⟨kl, hkl2⟩ : ∃ l, K.length = l := ⟨_, rfl⟩
    obtain ⟨pl, hpl⟩ : ∃ l, p.K.length = l := ⟨_, rfl⟩
    have HLL := Lib.hid (And.intro hfl (And.intro hkl2 hpl))
    rw [hfl, hkl2, hpl] at HSP
    rw [hpl] at HX0 x0 hkl
    rw [hfl] at lF
    rw [hkl2] at lK
    clear hI hPx hbx hk hrow bF bK hsp hsp' hsq hI0 hfl hkl2 hpl
    have lpl := hkl
    gi_wp2_with fail
    refine ⟨trivial, ?_⟩
    refine (CallsIn.inRound lp (callsIn_wide.2 HSP.out)).mono ?_
    rintro r w1 ⟨a1, c1, a2, c2, rfl, l1, l2, hb1⟩
    have hI1 := HI.out.off (S := fun _ => False) (Off.of hb1) (fun _ h => h.elim)
    have hx1 := HX0.out w1 hb1
    have lk1 := HPX.out.lies.now.1.below hb1
    have HB1 := Lib.hid hb1
    have c4 := hI1.b4.cell
    have c5 := hI1.b5.cell
    have c7 := hI1.b7.cell
    have c8 := hI1.b8.cell
    have HI1 := Lib.hid hI1
    have HRL := Lib.hid (lrow_law a n c P HP.out.2.1 hn2 a2 kl c2 K HLL.out.2.1 HRW.out.2.1 a1 fl c1 F HLL.out.1 HRW.out.1 x (by omega) HP.out.2.2 w1 (HP.out.1.below hI1.bel) l2 l1)
    rw [HRW.out.2.2] at HRL
    obtain ⟨sk, hsk⟩ : ∃ s, strOfNums p.K = s := ⟨_, rfl⟩
    obtain ⟨sl, hsl⟩ : ∃ s, strOfNums (lastK T k) = s := ⟨_, rfl⟩
    have q1 : (convert 42 9 (.slice p.ka pl p.kc)).run Tryz.prog w1 = .ok (.string sk) w1 := by rw [← hsk]; exact kc2 w1 p.ka pl p.kc p.K HLL.out.2.2 lk1
    have hcmp : 0 < k → Op.bytesLess sk.toList sl.toList = false ∧ (sk.toList == sl.toList) = false := fun h0 => by
      obtain ⟨j, rfl⟩ : ∃ j, k = j + 1 := ⟨k - 1, by omega⟩
      have hlt := lastK_lt HR.out HPX.out.at_
      have bp : Byt p.K := HPX.out.ok.1
      have bl : Byt (lastK T (j + 1)) := by
        have hj : j < T.length := by have := (List.getElem?_eq_some_iff.1 HPX.out.at_).1; omega
        rw [lastK_succ (List.getElem?_eq_getElem hj)]
        exact HBY.out _ (List.getElem_mem hj)
      rw [← hsk, ← hsl, str_less bp bl]
      refine ⟨ltL_asym hlt, ?_⟩
      rw [beq_eq_false_iff_ne]
      intro e
      have h1 := str_less bl bp
      rw [e, str_less bl bl, ltL_irr] at h1
      rw [show (prC p).1 = p.K from rfl, ← h1] at hlt
      cases hlt
    rw [hsl] at c8
    have HS := Lib.hid hsk
    have hki : (k : Int) < 2000000 := by have := HK.out; omega
    have w3 : IntKind.i64.wrap ((k : Int) + 1) = ((k + 1 : Nat) : Int) := by rw [IntKind.wrap_i64] <;> omega
    clear hI1 l1 l2 hb1 lk1 hsk hsl x0 hkl
    by_cases h0 : 0 < k
    · have d0 : (0 : Int) < (k : Int) := by omega
      obtain ⟨e1, e2⟩ := hcmp h0
      clear hcmp
      gi_wp2_with fail
      refine ⟨trivial, ?_⟩
      refine (CallsIn.inRound lp (callsIn_wide.2 HRL.out)).mono ?_
      rintro r w2 ⟨rfl, hb2⟩
      have q2 : (convert 42 9 (.slice p.ka pl p.kc)).run Tryz.prog w2 = .ok (.string sk) w2 := by rw [← HS.out]; exact kc2 w2 p.ka pl p.kc p.K HLL.out.2.2 (HPX.out.lies.now.1.below (step_below HB1.out hb2))
      have hx2 := HX0.out w2 (step_below HB1.out hb2)
      have hI2 := HI1.out.off (S := fun _ => False) (Off.of hb2) (fun _ h => h.elim)
      have g7 := hI2.b7.cell
      have g8 := hI2.b8.cell
      have f7 := hI2.b7.frozen
      have f8 := hI2.b8.frozen
      have HI2 := Lib.hid hI2
      have HB2 := Lib.hid (step_below HB1.out hb2)
      clear hI2 hb2 c4 c5 c7 c8 q1 hx1
      gi_wp2_with fail
      have HI3 := HI2.out
      have o1 : ∀ {b t v}, Boxed w2 b t v → b ≠ w.heap.size + 1 + 1 + 1 + 1 → b ≠ w.heap.size + 1 + 1 + 1 → Boxed ((w2.setCell ⟨w.heap.size + 1 + 1 + 1 + 1, 0, none⟩ (.string sk)).setCell ⟨w.heap.size + 1 + 1 + 1, 0, none⟩ (.int .i64 ((k + 1 : Nat) : Int))) b t v := fun h h1 h2 => (h.other h1 _).other h2 _
      have r7 := box_set _ _ _ _ (.int .i64 ((k + 1 : Nat) : Int)) (HI3.b7.other (B' := w.heap.size + 1 + 1 + 1 + 1) (by omega) (.string sk))
      have r8 := (box_set _ _ _ _ (.string sk) HI3.b8).other (B' := w.heap.size + 1 + 1 + 1) (by omega) (.int .i64 ((k + 1 : Nat) : Int))
      have kf : KeepsFrom W0.heap.size W w2 := KeepsFrom.of_grownBy (grown_of_below HB2.out) (fun j e => by cases e)
      refine ⟨(kf.trans ((KeepsOthers.setCell _ _ _).from _)).trans ((KeepsOthers.setCell _ _ _).from _), ((KpO.below HB2.out rfl).trans (KpO.set _ _ _ (by show w.heap.size + 1 + 1 + 1 + 1 < _; omega))).trans (KpO.set _ _ _ (by show w.heap.size + 1 + 1 + 1 < _; omega)), o1 HI3.b4 (by omega) (by omega), o1 HI3.b5 (by omega) (by omega), o1 HI3.b6 (by omega) (by omega), r7, ?_, ?_⟩
      · rw [lastK_succ HPX.out.at_, show (prC p).1 = p.K from rfl, HS.out]; exact r8
      · exact (HI3.bel.setCell (p := ⟨w.heap.size + 1 + 1 + 1 + 1, 0, none⟩) (by show w.heap.size ≤ _ + 1 + 1 + 1 + 1; omega) _).setCell (p := ⟨w.heap.size + 1 + 1 + 1, 0, none⟩) (by show w.heap.size ≤ _ + 1 + 1 + 1; omega) _
    · have d0 : ¬ (0 : Int) < (k : Int) := by omega
      clear hcmp
      gi_wp2_with fail
      refine ⟨trivial, ?_⟩
      refine (CallsIn.inRound lp (callsIn_wide.2 HRL.out)).mono ?_
      rintro r w2 ⟨rfl, hb2⟩
      have q2 : (convert 42 9 (.slice p.ka pl p.kc)).run Tryz.prog w2 = .ok (.string sk) w2 := by rw [← HS.out]; exact kc2 w2 p.ka pl p.kc p.K HLL.out.2.2 (HPX.out.lies.now.1.below (step_below HB1.out hb2))
      have hx2 := HX0.out w2 (step_below HB1.out hb2)
      have hI2 := HI1.out.off (S := fun _ => False) (Off.of hb2) (fun _ h => h.elim)
      have g7 := hI2.b7.cell
      have g8 := hI2.b8.cell
      have f7 := hI2.b7.frozen
      have f8 := hI2.b8.frozen
      have HI2 := Lib.hid hI2
      have HB2 := Lib.hid (step_below HB1.out hb2)
      clear hI2 hb2 c4 c5 c7 c8 q1 hx1
      gi_wp2_with fail
      have HI3 := HI2.out
      have o1 : ∀ {b t v}, Boxed w2 b t v → b ≠ w.heap.size + 1 + 1 + 1 + 1 → b ≠ w.heap.size + 1 + 1 + 1 → Boxed ((w2.setCell ⟨w.heap.size + 1 + 1 + 1 + 1, 0, none⟩ (.string sk)).setCell ⟨w.heap.size + 1 + 1 + 1, 0, none⟩ (.int .i64 ((k + 1 : Nat) : Int))) b t v := fun h h1 h2 => (h.other h1 _).other h2 _
      have r7 := box_set _ _ _ _ (.int .i64 ((k + 1 : Nat) : Int)) (HI3.b7.other (B' := w.heap.size + 1 + 1 + 1 + 1) (by omega) (.string sk))
      have r8 := (box_set _ _ _ _ (.string sk) HI3.b8).other (B' := w.heap.size + 1 + 1 + 1) (by omega) (.int .i64 ((k + 1 : Nat) : Int))
      have kf : KeepsFrom W0.heap.size W w2 := KeepsFrom.of_grownBy (grown_of_below HB2.out) (fun j e => by cases e)
      refine ⟨(kf.trans ((KeepsOthers.setCell _ _ _).from _)).trans ((KeepsOthers.setCell _ _ _).from _), ((KpO.below HB2.out rfl).trans (KpO.set _ _ _ (by show w.heap.size + 1 + 1 + 1 + 1 < _; omega))).trans (KpO.set _ _ _ (by show w.heap.size + 1 + 1 + 1 < _; omega)), o1 HI3.b4 (by omega) (by omega), o1 HI3.b5 (by omega) (by omega), o1 HI3.b6 (by omega) (by omega), r7, ?_, ?_⟩
      · rw [lastK_succ HPX.out.at_, show (prC p).1 = p.K from rfl, HS.out]; exact r8
      · exact (HI3.bel.setCell (p := ⟨w.heap.size + 1 + 1 + 1 + 1, 0, none⟩) (by show w.heap.size ≤ _ + 1 + 1 + 1 + 1; omega) _).setCell (p := ⟨w.heap.size + 1 + 1 + 1, 0, none⟩) (by show w.heap.size ≤ _ + 1 + 1 + 1; omega) _
  case done =>
    rintro W hI hK
    have c6 := hI.b6.cell
    have c7 := hI.b7.cell
    have f6 := hI.b6.frozen
    have f7 := hI.b7.frozen
    rw [hsz] at hK ⊢
    gi_wp2_with fail
    go_wp2_with fail
    have hset : Boxed (W.setCell ⟨w.heap.size + 1 + 1, 0, none⟩ (.int .i64 (N : Int))) (w.heap.size + 1 + 1) 3 (.int .i64 (N : Int)) := box_set _ _ _ _ _ hI.b6
    have hK2 : (W.setCell ⟨w.heap.size + 1 + 1, 0, none⟩ (.int .i64 (N : Int))).heap[w.heap.size + 5]? = some (.deferred (some [])) := (Below.heap_setCell W ⟨w.heap.size + 1 + 1, 0, none⟩ (.int .i64 (N : Int)) (w.heap.size + 5) (by show w.heap.size + 5 ≠ w.heap.size + 1 + 1; omega)).trans hK
    have hbl : Below w.heap.size w (W.setCell ⟨w.heap.size + 1 + 1, 0, none⟩ (.int .i64 (N : Int))) := hI.bel.setCell (p := ⟨w.heap.size + 1 + 1, 0, none⟩) (by show w.heap.size ≤ _ + 1 + 1; omega) _
    obtain ⟨W9, hW9⟩ : ∃ W9, W.setCell ⟨w.heap.size + 1 + 1, 0, none⟩ (.int .i64 (N : Int)) = W9 := ⟨_, rfl⟩
    rw [hW9] at hset hK2 hbl ⊢
    have op : Off (fun j => j = w.heap.size + 5) W9 (W9.putObj (w.heap.size + 5) (.deferred none)) := ⟨rfl, rfl, rfl, by simp, fun j _ hj => World.putObj_heap_other hj⟩
    have hfin : (W9.putObj (w.heap.size + 5) (.deferred none)).cell? ⟨w.heap.size + 1 + 1, 0, none⟩ = some (.int .i64 (N : Int)) := (show Boxed (W9.putObj (w.heap.size + 5) (.deferred none)) (w.heap.size + 1 + 1) 3 (.int .i64 (N : Int)) from (op.block _ hset.lt (by omega)).trans hset).cell
    refine ⟨by simp, .inl ⟨_, _, rfl, run_takeDeferred hK2, ?_⟩⟩
    refine ⟨.int .i64 (N : Int), ?_, rfl, Off.below hbl op hbl.size (fun j hj => by omega)⟩
    simp [results, Tryz.f71, go_sem, hfin]
  case stop =>
    rintro k W hk hf hK
    exact hf.elim
end Go.Proofs.YthmofoldmdafoaaGreat
namespace Go.Proofs.YthmofoldmdafoaaGreat
open Go.ChangeShapes Go.WideShapes Go.ChangeAt Go.RowKit Go.Maps Go.Shelf
set_option linter.unusedVariables false
set_option linter.unusedSimpArgs false

def isW (o : CallV) : Bool := decide (o.k = 2 ∨ o.k = 3 ∨ o.k = 4)
/-- What a call that writes leaves. -/
def leftW (o : CallV) : Option (List (List Int)) := if o.k = 4 then none else some (o.R.map P1.bs)
theorem getWP_set (T : List (List Pr)) (ws : Ws) (t : Nat) (K : List Int) (R : List (List Int)) (s : Nat) (J : List Int) :
    getWP T (setW ws t K R) s J = if s = t ∧ J = K then (if R = [] then none else some R) else getWP T ws s J := by
  unfold setW
  by_cases ha : ws.any (fun w => decide (w.1 = t ∧ w.2.1 = K)) = true
  · rw [if_pos ha]
    unfold getWP
    rw [List.find?_map]
    have e : ((fun w : Nat × List Int × List (List Int) => decide (w.1 = s ∧ w.2.1 = J)) ∘ fun w => if w.1 = t ∧ w.2.1 = K then (t, K, R) else w) = fun w => decide (w.1 = s ∧ w.2.1 = J) := by
      funext w
      simp only [Function.comp, decide_eq_decide]
      by_cases hw : w.1 = t ∧ w.2.1 = K
      · rw [if_pos hw, hw.1, hw.2]
      · rw [if_neg hw]
    rw [e]
    by_cases hs : s = t ∧ J = K
    · obtain ⟨rfl, rfl⟩ := hs
      rw [if_pos ⟨rfl, rfl⟩]
      cases hf : ws.find? (fun w => decide (w.1 = s ∧ w.2.1 = J)) with
      | none =>
        exfalso
        obtain ⟨w, hw, hd⟩ := List.any_eq_true.1 ha
        exact absurd hd (by simpa using List.find?_eq_none.1 hf w hw)
      | some w =>
        have hd : w.1 = s ∧ w.2.1 = J := by simpa using List.find?_some hf
        rw [Option.map_some, if_pos hd]
    · rw [if_neg hs]
      cases hf : ws.find? (fun w => decide (w.1 = s ∧ w.2.1 = J)) with
      | none => rfl
      | some w =>
        have hd : w.1 = s ∧ w.2.1 = J := by simpa using List.find?_some hf
        rw [Option.map_some, if_neg (fun h => hs ⟨hd.1.symm.trans h.1, hd.2.symm.trans h.2⟩)]
  · rw [if_neg ha]
    have hno : ∀ w ∈ ws, ¬ (w.1 = t ∧ w.2.1 = K) := fun w hw h => ha (List.any_eq_true.2 ⟨w, hw, decide_eq_true h⟩)
    unfold getWP
    rw [List.find?_append]
    by_cases hs : s = t ∧ J = K
    · obtain ⟨rfl, rfl⟩ := hs
      have hf : ws.find? (fun w => decide (w.1 = s ∧ w.2.1 = J)) = none := List.find?_eq_none.2 fun w hw => by simpa using hno w hw
      rw [hf, if_pos ⟨rfl, rfl⟩]
      simp
    · rw [if_neg hs]
      have hd : ¬ (t = s ∧ K = J) := fun h => hs ⟨h.1.symm, h.2.symm⟩
      cases hf : ws.find? (fun w => decide (w.1 = s ∧ w.2.1 = J)) with
      | none => simp [hd]
      | some w => simp
theorem callP_self (j : Job) (T : List (List Pr)) (ws : Ws) (o : CallV) (hw : isW o = true) (he : (callP j T ws o).1.1 = 0) (hR : o.k ≠ 4 → o.R ≠ []) : getWP T (callP j T ws o).2 o.t.toNat o.K = leftW o := by
  have hk : o.k = 2 ∨ o.k = 3 ∨ o.k = 4 := of_decide_eq_true hw
  unfold leftW
  have hRm : o.k ≠ 4 → o.R.map P1.bs ≠ [] := fun h e => hR h (List.map_eq_nil_iff.1 e)
  unfold callP at he ⊢
  rcases hk with hk | hk | hk
  · have h4 : ¬ o.k = 4 := by omega
    rw [if_neg (by omega), if_pos hk, if_neg h4]
    simp only
    rw [getWP_set, if_pos ⟨rfl, rfl⟩, if_neg (hRm h4)]
  · have h4 : ¬ o.k = 4 := by omega
    rw [if_neg (by omega), if_neg (by omega), if_pos hk] at he ⊢
    rw [if_neg h4]
    split at he
    · cases he
    · rename_i hn
      rw [if_neg hn]
      simp only
      rw [getWP_set, if_pos ⟨rfl, rfl⟩, if_neg (hRm h4)]
  · rw [if_neg (by omega), if_neg (by omega), if_neg (by omega), if_pos hk] at he ⊢
    rw [if_pos hk]
    split at he
    · rename_i hn
      rw [if_pos hn]
      simp only
      rw [getWP_set, if_pos ⟨rfl, rfl⟩, if_pos rfl]
    · cases he
theorem callP_other (j : Job) (T : List (List Pr)) (ws : Ws) (o : CallV) (s : Nat) (J : List Int) (h : ¬ (isW o = true ∧ (callP j T ws o).1.1 = 0 ∧ s = o.t.toNat ∧ J = o.K)) : getWP T (callP j T ws o).2 s J = getWP T ws s J := by
  by_cases h1 : o.k = 1
  · unfold callP; rw [if_pos h1]
  by_cases h2 : o.k = 2
  · have hw : isW o = true := decide_eq_true (.inl h2)
    have e : callP j T ws o = ((0, []), setW ws o.t.toNat o.K (o.R.map P1.bs)) := by unfold callP; rw [if_neg h1, if_pos h2]
    rw [e] at h ⊢
    simp only
    rw [getWP_set, if_neg fun hh => h ⟨hw, rfl, hh.1, hh.2⟩]
  by_cases h3 : o.k = 3
  · have hw : isW o = true := decide_eq_true (.inr (.inl h3))
    have e : callP j T ws o = (if (getWP T ws o.t.toNat o.K).isSome then ((7, []), ws) else ((0, []), setW ws o.t.toNat o.K (o.R.map P1.bs))) := by unfold callP; rw [if_neg h1, if_neg h2, if_pos h3]
    rw [e] at h ⊢
    split
    · rfl
    · rename_i hn
      rw [if_neg hn] at h
      simp only
      rw [getWP_set, if_neg fun hh => h ⟨hw, rfl, hh.1, hh.2⟩]
  by_cases h4 : o.k = 4
  · have hw : isW o = true := decide_eq_true (.inr (.inr h4))
    have e : callP j T ws o = (if (getWP T ws o.t.toNat o.K).isSome then ((0, []), setW ws o.t.toNat o.K []) else ((6, []), ws)) := by unfold callP; rw [if_neg h1, if_neg h2, if_neg h3, if_pos h4]
    rw [e] at h ⊢
    split
    · rename_i hn
      rw [if_pos hn] at h
      simp only
      rw [getWP_set, if_neg fun hh => h ⟨hw, rfl, hh.1, hh.2⟩]
    · rfl
  · unfold callP
    rw [if_neg h1, if_neg h2, if_neg h3, if_neg h4]
    split <;> rfl
theorem runP_get (j : Job) (T : List (List Pr)) (ops : List CallV) {k : Nat} {o : CallV} (h : ops[k]? = some o) : (runP j T ops).1[k]? = some (callP j T (runP j T (ops.take k)).2 o).1 := by
  have hpre : ∀ n, n ≤ ops.length → (runP j T (ops.take n)).1 = (runP j T ops).1.take n := fun n hn => by
    have : ∀ (l r : List CallV), ∃ q, (runP j T (l ++ r)).1 = (runP j T l).1 ++ q := fun l r => by
      induction r using snocInd with
      | nil => exact ⟨[], by simp⟩
      | append_singleton r o ih =>
        obtain ⟨q, hq⟩ := ih
        refine ⟨q ++ [(callP j T (runP j T (l ++ r)).2 o).1], ?_⟩
        have e : runP j T (l ++ (r ++ [o])) = stepP j T (runP j T (l ++ r)) o := by rw [← List.append_assoc]; unfold runP; rw [List.foldl_append]; rfl
        rw [e]
        show (runP j T (l ++ r)).1 ++ _ = _
        rw [hq, List.append_assoc]
    obtain ⟨q, hq⟩ := this (ops.take n) (ops.drop n)
    rw [List.take_append_drop] at hq
    have hl : (runP j T (ops.take n)).1.length = n := by rw [(runP_len j T _).1, List.length_take]; omega
    rw [hq, List.take_left' hl]
  have hk := (List.getElem?_eq_some_iff.1 h).1
  have h1 := hpre (k + 1) (by omega)
  rw [runP_take j T h] at h1
  have h2 : (runP j T (ops.take k)).1.length = k := by rw [(runP_len j T _).1, List.length_take]; omega
  have h3 : ((runP j T ops).1.take (k + 1))[k]? = (runP j T ops).1[k]? := by rw [List.getElem?_take, if_pos (by omega)]
  rw [← h3, ← h1]
  show ((runP j T (ops.take k)).1 ++ [_])[k]? = _
  rw [List.getElem?_append_right (by omega), h2, Nat.sub_self]; rfl
/-- Is the key written again behind? -/
def againW (ans : List (Int × List Pr)) (ops : List CallV) (o : CallV) (k : Nat) : Prop := ∃ i x r, k < i ∧ ops[i]? = some x ∧ ans[i]? = some r ∧ r.1 = 0 ∧ x.t = o.t ∧ x.K = o.K ∧ isW x = true
theorem last_left (j : Job) (T : List (List Pr)) (ops : List CallV) (ht : ∀ o ∈ ops, 0 ≤ o.t) {k : Nat} {o : CallV} (h : ops[k]? = some o) (hw : isW o = true) {r : Int × List Pr} (hr : (runP j T ops).1[k]? = some r) (he : r.1 = 0) (hR : o.k ≠ 4 → o.R ≠ []) (hno : ¬ againW (runP j T ops).1 ops o k) :
    getWP T (runP j T ops).2 o.t.toNat o.K = leftW o := by
  have hk := (List.getElem?_eq_some_iff.1 h).1
  have key : ∀ n, k + 1 ≤ n → n ≤ ops.length → getWP T (runP j T (ops.take n)).2 o.t.toNat o.K = leftW o := fun n hn hl => by
    induction n with
    | zero => omega
    | succ n ih =>
      obtain ⟨x, hx⟩ : ∃ x, ops[n]? = some x := ⟨_, List.getElem?_eq_getElem (by omega)⟩
      rw [runP_take j T hx]
      show getWP T (callP j T (runP j T (ops.take n)).2 x).2 _ _ = _
      by_cases e : n = k
      · subst e
        rw [h] at hx
        cases hx
        have h1 := runP_get j T ops h
        rw [hr] at h1
        have h1 := Option.some.inj h1
        exact callP_self j T _ o hw (by rw [← h1]; exact he) hR
      · rw [callP_other, ih (by omega) (by omega)]
        intro ⟨a, b, c, d⟩
        have h1 := runP_get j T ops hx
        have h2 := ht o (List.mem_of_getElem? h)
        have h3 := ht x (List.mem_of_getElem? hx)
        exact hno ⟨n, x, _, by omega, hx, h1, b, by omega, d.symm, a⟩
  have := key ops.length (by omega) (Nat.le_refl _)
  rwa [List.take_length] at this
end Go.Proofs.YthmofoldmdafoaaGreat
