/- Disks: Same: what it wants. -/
import Derived.Test.YtbjhcbiihekceaaDe2
import Derived.Test.YtbjhcbiihekceaaDd4
import Derived.BigQuiet
namespace Go.Proofs.Ytbjhcbiihekceaa
open Go.ChangeShapes Go.WideShapes Go.ChangeAt Go.RowKit Go.Maps
set_option linter.unusedVariables false
set_option linter.unusedSimpArgs false
/-- No operation lays something by for later. -/
def nodB (l : List Oper) : Bool := l.all fun o => match o.op with | .defer _ => false | _ => true
theorem nod_of {l : List Oper} (h : nodB l = true) : ∀ o ∈ l, ∀ c, o.op ≠ .defer c := fun o ho c e => by
  have := List.all_eq_true.1 h o ho
  simp only [e] at this
  cases this
theorem one_round {F : Fence} {n : Nat} {P : Program} {Q : Exit → Act → World → Prop} {o : Oper} {a : Act} {w : World} {K : Act → World → Prop} {l : Nat} (hro : F.round = none) (nd : ∀ c, o.op ≠ .defer c) (h : o.wpIn F n P a w K Q) : o.wpIn (F.inRound l) n P a w K Q := by
  refine ⟨h.1, ?_⟩
  have h2 := h.2
  rw [hro, Oper.semAt_eq _ _ _ nd] at h2
  rw [Fence.inRound_round, Oper.semAt_eq _ _ _ nd]
  generalize (execOp a.eval o).run P w = r at h2 ⊢
  exact h2
theorem up_round {F : Fence} {n : Nat} {P : Program} {ops : Array Oper} {Q : Exit → Act → World → Prop} {a : Act} {w : World} {i l : Nat} {K : Act → World → Prop} (hro : F.round = none) (nd : ∀ o ∈ ops.toList, ∀ c, o.op ≠ .defer c) (h : wpOpIn F n P ops Q i K a w) : wpOpIn (F.inRound l) n P ops Q i K a w := by
  unfold wpOpIn at h ⊢
  cases e : ops[i]? with
  | none => simpa [e] using h
  | some o =>
    simp only [e] at h ⊢
    have hm : o ∈ ops.toList := by rw [Array.mem_toList_iff]; exact Array.mem_of_getElem? e
    by_cases hw : Region.wanted o (yielded ops a.tmps) = true
    · rw [if_pos hw] at h ⊢; exact one_round hro (nd o hm) h
    · rw [if_neg hw] at h ⊢; exact h
theorem all_round {F : Fence} {n : Nat} {P : Program} {md : Region.Mode} {ops : Array Oper} {Q : Exit → Act → World → Prop} {l : Nat} (hro : F.round = none) (nd : ∀ o ∈ ops.toList, ∀ c, o.op ≠ .defer c) : ∀ (fuel : Nat) (listed : Array Bool) (a : Act) (w : World), wpAnyIn F n P md ops Q fuel listed a w → wpAnyIn (F.inRound l) n P md ops Q fuel listed a w
  | 0, _, _, _, h => h
  | fuel + 1, _, _, _, h => ⟨h.1, fun i hi => wpOpIn_mono (all_round hro nd fuel _) (up_round hro nd (h.2 i hi))⟩
theorem quiet_round {F : Fence} {n : Nat} {P : Program} {id l0 : Nat} {Q : Exit → Act → World → Prop} {a : Act} {w : World} {l : List Oper} (hro : F.round = none) (hm : P.follows .mixedOrders = true) (hB : Region.lexB .any l.toArray = true) (nd : nodB l = true)
    (h : wpQuietIn F n P l.toArray (fun w' => ∃ n, w' = w.drewN n) (fun a' => ∀ w', (∃ n, w' = w.drewN n) → Q .normal a' w') l a) : (Code.region id l.toArray true).wpIn (F.inRound l0) n P Q a w := by
  simp only [Region.lexB, Bool.and_eq_true] at hB
  refine wpIn_region_any hm (all_round hro (fun o ho => nod_of nd o (by simpa using ho)) _ _ _ _ ?_)
  refine wpAnyIn_of_quiet (C := fun w' => ∃ n, w' = w.drewN n) (Q := fun a' => ∀ w', (∃ n, w' = w.drewN n) → Q .normal a' w') hro (fun _ w' hw' h => h w' hw') _ _ _ _ ⟨1, rfl⟩ ?_
  have := wpAnyQIn_lex (F := F) (n := n) (C := fun w' => ∃ n, w' = w.drewN n) (md := .any) hB.1 l.toArray.toList 0 (Array.replicate l.toArray.size false) a (by simp) (by simpa using hB.2) (by simpa using h)
  simpa using this

/-- bytes.Equal (60). -/
theorem equal_law (a b : Option Addr) (L M : List Int) (n m ca cb : Nat) (hL : L.length = n) (hM : M.length = m) (bL : Byt L) (bM : Byt M) (w : World) (hA : Ls .u8 w a ca L) (hB : Ls .u8 w b cb M) :
    Calls Try.prog 60 #[.slice a n ca, .slice b m cb] w fun r w' => r = .returned (.bool (decide (L = M))) ∧ w = w' := by
  have q1 := conv_ls w a n ca L hL hA.rd
  have q2 := conv_ls w b m cb M hM hB.rd
  by_cases h : L = M
  · rw [decide_eq_true h]
    rw [← h] at q2
    clear h hL hM bL bM hA hB
    go_enter Try.func60, Try.ntmps60
    go_wp2
    go_ret
    exact ⟨rfl, rfl⟩
  · rw [decide_eq_false h]
    have hs : ((strOfNums L).toList == (strOfNums M).toList) = false := by
      rw [beq_eq_false_iff_ne]
      intro e
      rw [ByteArray.toList_eq, ByteArray.toList_eq] at e
      exact h (str_inj bL bM (ByteArray.ext (Array.toList_inj.1 e)))
    generalize strOfNums L = sL at q1 hs
    generalize strOfNums M = sM at q2 hs
    clear h hL hM bL bM hA hB
    go_enter Try.func60, Try.ntmps60
    go_wp2
    go_ret
    exact ⟨rfl, rfl⟩
theorem rise_len {α : Type} {R : α → α → Prop} (hi : ∀ a, ¬ R a a) (ht : ∀ a b c, R a b → R b c → R a c) : ∀ {m l : List α}, l.Pairwise R → m.Pairwise R → (∀ x ∈ l, x ∈ m) → l.length ≤ m.length
  | [], l, _, _, h => by
    cases l with
    | nil => exact Nat.le_refl _
    | cons a r => exact absurd (h a (by simp)) (by simp)
  | b :: s, [], _, _, _ => Nat.zero_le _
  | b :: s, a :: r, hl, hm, h => by
    obtain ⟨l1, l2⟩ := List.pairwise_cons.1 hl
    obtain ⟨m1, m2⟩ := List.pairwise_cons.1 hm
    have : r.length ≤ s.length := rise_len hi ht l2 m2 fun x hx => by
      rcases List.mem_cons.1 (h x (by simp [hx])) with e | e
      · subst e
        rcases List.mem_cons.1 (h a (by simp)) with e2 | e2
        · subst e2; exact absurd (l1 _ hx) (hi _)
        · exact absurd (ht _ _ _ (l1 x hx) (m1 a e2)) (hi _)
      · exact e
    simp only [List.length_cons]; omega
theorem rise_eq {α : Type} {R : α → α → Prop} (hi : ∀ a, ¬ R a a) (ht : ∀ a b c, R a b → R b c → R a c) : ∀ {l m : List α}, l.Pairwise R → m.Pairwise R → (∀ x ∈ l, x ∈ m) → m.length ≤ l.length → l = m
  | [], m, _, _, _, hn => by
    cases m with
    | nil => rfl
    | cons b s => simp at hn
  | a :: r, [], _, _, h, _ => absurd (h a (by simp)) (by simp)
  | a :: r, b :: s, hl, hm, h, hn => by
    obtain ⟨l1, l2⟩ := List.pairwise_cons.1 hl
    obtain ⟨m1, m2⟩ := List.pairwise_cons.1 hm
    have hab : a = b := by
      apply Classical.byContradiction
      intro hne
      have has : a ∈ s := by
        rcases List.mem_cons.1 (h a (by simp)) with e | e
        · exact absurd e hne
        · exact e
      have hsub : ∀ x ∈ a :: r, x ∈ s := fun x hx => by
        rcases List.mem_cons.1 (h x hx) with e | e
        · subst e
          rcases List.mem_cons.1 hx with e2 | e2
          · exact absurd e2.symm hne
          · exact absurd (ht _ _ _ (l1 x e2) (m1 a has)) (hi _)
        · exact e
      have := rise_len hi ht hl m2 hsub
      simp only [List.length_cons] at this hn
      omega
    subst hab
    have : r = s := rise_eq hi ht l2 m2 (fun x hx => by
      rcases List.mem_cons.1 (h x (by simp [hx])) with e | e
      · subst e; exact absurd (l1 _ hx) (hi _)
      · exact e) (by simpa using hn)
    rw [this]
theorem cf_irr (a : CF) : ¬ bytesBefore a.1.data.toList a.1.data.toList = true := by rw [Go.WideAt.bytes_irrefl]; simp
/-- As many files, and each of the one's is among the other's: all are the same. -/
theorem same_of {W W' : World} {p bm room p' bm' room' : Nat} {C C' : List CF} {O O' : Nat → Prop} (h : DC W p bm room C O) (h' : DC W' p' bm' room' C' O') (hl : C.length = C'.length) (hs : ∀ c ∈ C, cFind C' c.1 = some c) : C = C' :=
  rise_eq (R := fun c d : CF => bytesBefore c.1.data.toList d.1.data.toList = true) cf_irr (fun a b c h1 h2 => bytes_trans _ _ _ h1 h2) h.rise h'.rise (fun c hc => (cFind_some (hs c hc)).1) (by omega)
theorem find_self {W : World} {p bm room : Nat} {C : List CF} {O : Nat → Prop} (h : DC W p bm room C O) {c : CF} (hc : c ∈ C) : cFind C c.1 = some c := by
  cases hf : cFind C c.1 with
  | none => exact absurd rfl (cFind_none.1 hf c hc)
  | some d =>
    obtain ⟨h1, h2⟩ := cFind_some hf
    have : d = c := by
      apply Classical.byContradiction
      intro hne
      exact pair_of (fun h => Ne.symm h) h.apart h1 hc hne h2
    rw [this]
end Go.Proofs.Ytbjhcbiihekceaa
