/- LogCheckpoints: every checkpoint's bytes, and what any bytes tell, for every argument. -/
import Derived.Test.YtglkndoghnblcaaGreatOcb
import Derived.Test.YtglkndoghnblcaaGreatOvh
import Derived.Test.YtglkndoghnblcaaGreatOve
import Derived.Lib.SmallJoins
import Derived.OpenShut
import Derived.Test.YtglkndoghnblcaaGreatOvg
import Derived.Test.YtglkndoghnblcaaGreatOca
import Derived.Test.YtglkndoghnblcaaGreatOvl
import Derived.Test.YtglkndoghnblcaaGreatOvi
import Derived.Test.YtglkndoghnblcaaGreatRows
import Derived.SizedLaws
import Derived.WalkKit
import Derived.ProofKit
import Derived.ShutString
import Derived.ChangeOld
import Derived.Below
import Derived.Test.YtglkndoghnblcaaGreatOva
namespace Go.Proofs.YtglkndoghnblcaaGreat
open Go.ChangeShapes Go.WideShapes Go.ChangeAt Go.RowKit
set_option linter.unusedVariables false
set_option linter.unusedSimpArgs false
def rp (q : List Int) : Option Pl := readP (plP q)
theorem manyP_cnt {α : Type} {one : List Int → Option (α × List Int)} : ∀ (n : Nat) (L r : List Int) (xs : List α), manyP one n L = some (xs, r) → xs.length = n
  | 0, L, r, xs, h => by
    unfold manyP at h
    cases h
    rfl
  | n + 1, L, r, xs, h => by
    unfold manyP at h
    split at h
    · rename_i x r1 h1
      split at h
      · rename_i ys r2 h2
        cases h
        rw [List.length_cons, manyP_cnt n r1 r ys h2]
      · cases h
    · cases h
theorem addP_pre {α : Type} {es x : List α} {o : Option (List α × List Int)} {r : List Int} (h : addP es o = some (x, r)) : ∃ ys, x = es ++ ys ∧ o = some (ys, r) := by
  rcases o with _ | ⟨ys, r2⟩
  · cases h
  · cases h
    exact ⟨ys, rfl, rfl⟩
/-- What a checkpoint that is read tells of its bytes. -/
theorem ckrd_inv {L : List Int} {e : Nat} {tabs : List (List C4)} (h : CkRd L e tabs) : ∃ (p : List Int) (ps : List (List Int)) (R1 R2 : List Int) (each : List Nat) (pls : List Pl), framesL L = p :: ps ∧ wholeL L = L.length ∧ upP 16777215 p = some (e, R1) ∧ upP 4 R1 = some (each.length, R2) ∧ manyP (upP 4096) each.length R2 = some (each, []) ∧ ps.map rp = pls.map some ∧ OkW each (pls.map Pl.t) ∧ tabs = splitW each (pls.map plC) ∧ ckBc (e : Int) tabs = true := by
  obtain ⟨each, pls, h1, ok, ht, hb⟩ := h
  unfold rckP at h1
  split at h1
  · cases h1
  · rename_i p ps hF
    split at h1
    · rename_i x hx
      split at h1
      · rename_i hc
        simp only [Option.some.injEq, Prod.mk.injEq] at h1
        obtain ⟨rfl, rfl, rfl⟩ := h1
        have hp := readP_of hx
        unfold headP at hp
        obtain ⟨e0, r1, h1, hp⟩ := bindP_inv hp
        obtain ⟨xs, r2, h2, hp⟩ := bindP_inv hp
        cases hp
        unfold listP at h2
        split at h2
        · rename_i n r3 h3
          have hl := manyP_cnt _ _ _ _ h2
          refine ⟨p, ps, r1, r3, xs, ps.map ckRow, hF, hc.2, h1, ?_, ?_, ?_, ok, ht, hb⟩
          · rw [hl]; exact h3
          · rw [hl]; exact h2
          · rw [List.map_map]
            refine List.map_congr_left fun q hq => ?_
            have := List.all_eq_true.1 hc.1 q hq
            obtain ⟨y, hy⟩ := Option.isSome_iff_exists.1 this
            unfold rp
            simp only [Function.comp, ckRow, hy, Option.getD_some]
        · cases h2
      · cases h1
    · cases h1
theorem ckrd_mk {L p R1 R2 : List Int} {ps : List (List Int)} {e tb : Nat} {each : List Nat} {pls : List Pl} (hF : framesL L = p :: ps) (hw : wholeL L = L.length) (h1 : upP 16777215 p = some (e, R1)) (h2 : upP 4 R1 = some (tb, R2)) (h3 : manyP (upP 4096) tb R2 = some (each, [])) (h4 : ps.map rp = pls.map some) (ok : OkW each (pls.map Pl.t)) (hb : ckBc (e : Int) (splitW each (pls.map plC)) = true) : CkRd L e (splitW each (pls.map plC)) := by
  have hg : ∀ (l : List (List Int)) (m : List Pl), l.map rp = m.map some → (∀ q ∈ l, (readP (plP q)).isSome = true) ∧ l.map ckRow = m := by
    intro l
    induction l with
    | nil =>
      intro m h
      cases m with
      | nil => exact ⟨fun q hq => by simp at hq, rfl⟩
      | cons y m => cases h
    | cons q l ih =>
      intro m h
      cases m with
      | nil => cases h
      | cons y m =>
        simp only [List.map_cons, List.cons.injEq] at h
        obtain ⟨i1, i2⟩ := ih m h.2
        have hq : readP (plP q) = some y := h.1
        refine ⟨fun q' hq' => ?_, ?_⟩
        · rcases List.mem_cons.1 hq' with rfl | hq'
          · rw [hq]; rfl
          · exact i1 q' hq'
        · rw [List.map_cons, i2]
          unfold ckRow
          rw [hq]
          rfl
  obtain ⟨g1, g2⟩ := hg ps pls h4
  refine ⟨each, pls, ?_, ok, rfl, hb⟩
  have hh : readP (headP p) = some (e, each) := by
    refine readP_3 ?_
    unfold headP
    rw [bindP_some h1]
    have : listP 4 (upP 4096) R1 = some (each, []) := by unfold listP; rw [h2]; exact h3
    rw [bindP_some this]
  unfold rckP
  rw [hF]
  simp only
  rw [hh]
  simp only
  rw [if_pos ⟨List.all_eq_true.2 (fun q hq => g1 q hq), hw⟩, g2]
theorem ckrd_one {L : List Int} {e e' : Nat} {tabs tabs' : List (List C4)} (h : CkRd L e tabs) (h' : CkRd L e' tabs') : e = e' ∧ tabs = tabs' := by
  obtain ⟨each, pls, h1, _, ht, _⟩ := h
  obtain ⟨each', pls', h1', _, ht', _⟩ := h'
  rw [h1] at h1'
  cases h1'
  exact ⟨rfl, ht.trans ht'.symm⟩
theorem ck_fail0a {L : List Int} (h : wholeL L ≠ L.length) : ∀ e tabs, ¬ CkRd L e tabs := rck_none (rckP_no (.inr h))
theorem ck_fail0b {L : List Int} (h : framesL L = []) : ∀ e tabs, ¬ CkRd L e tabs := fun e tabs k => by
  obtain ⟨p, ps, _, _, _, _, hF, _⟩ := ckrd_inv k
  rw [h] at hF
  cases hF
theorem ck_fail1 {L p : List Int} {ps : List (List Int)} (hF : framesL L = p :: ps) (h : upP 16777215 p = none) : ∀ e tabs, ¬ CkRd L e tabs := fun e tabs k => by
  obtain ⟨p', ps', _, _, _, _, hF', _, h1, _⟩ := ckrd_inv k
  rw [hF] at hF'
  cases hF'
  rw [h] at h1
  cases h1
theorem ck_fail2 {L p R1 : List Int} {ps : List (List Int)} {e0 : Nat} (hF : framesL L = p :: ps) (h : upP 16777215 p = some (e0, R1)) (h2 : upP 4 R1 = none) : ∀ e tabs, ¬ CkRd L e tabs := fun e tabs k => by
  obtain ⟨p', ps', _, _, _, _, hF', _, h1, h3, _⟩ := ckrd_inv k
  rw [hF] at hF'
  cases hF'
  rw [h] at h1
  cases h1
  rw [h2] at h3
  cases h3
theorem ck_fail {L p R1 R2 : List Int} {ps : List (List Int)} {e0 tb : Nat} (hF : framesL L = p :: ps) (h : upP 16777215 p = some (e0, R1)) (h2 : upP 4 R1 = some (tb, R2))
    (no : ∀ (each : List Nat) (pls : List Pl), manyP (upP 4096) tb R2 = some (each, []) → ps.map rp = pls.map some → OkW each (pls.map Pl.t) → ckBc (e0 : Int) (splitW each (pls.map plC)) = true → False) : ∀ e tabs, ¬ CkRd L e tabs := fun e tabs k => by
  obtain ⟨p', ps', _, _, each, pls, hF', _, h1, h3, h4, h5, ok, ht, hb⟩ := ckrd_inv k
  rw [hF] at hF'
  cases hF'
  rw [h] at h1
  cases h1
  rw [h2] at h3
  cases h3
  subst ht
  exact no each pls h4 h5 ok hb
/-- Some tables have been read. -/
structure CrI (ps : List (List Int)) (tb : Nat) (R2 : List Int) (i : Nat) (es : List Nat) (Rk : List Int) (pls : List Pl) : Prop where
  len : es.length = i
  hl : manyP (upP 4096) tb R2 = addP es (manyP (upP 4096) (tb - i) Rk)
  sum : es.sum ≤ ps.length
  pl : (ps.take es.sum).map rp = pls.map some
  tag : ∀ j m, es[j]? = some m → ∀ k, k < m → (pls.map Pl.t)[posT es j + k]? = some j
theorem CrI.zero (ps : List (List Int)) (tb : Nat) (R2 : List Int) : CrI ps tb R2 0 [] R2 [] := ⟨rfl, by rw [addP_nil]; rfl, by simp, by simp, fun j m h => by simp at h⟩
theorem CrI.plen {ps : List (List Int)} {tb i : Nat} {R2 Rk : List Int} {es : List Nat} {pls : List Pl} (h : CrI ps tb R2 i es Rk pls) : pls.length = es.sum := by
  have h1 := congrArg List.length h.pl
  rw [List.length_map, List.length_map, List.length_take] at h1
  have := h.sum
  omega
theorem posT_app (es ys : List Nat) : posT (es ++ ys) es.length = es.sum := by unfold posT; rw [List.take_left]
theorem posT_app_lt {es ys : List Nat} {j : Nat} (hj : j < es.length) : posT (es ++ ys) j = posT es j := by unfold posT; rw [List.take_append_of_le_length (by omega)]
theorem CrI.next {ps : List (List Int)} {tb i c : Nat} {R2 Rk Rn : List Int} {es : List Nat} {pls qls : List Pl} (h : CrI ps tb R2 i es Rk pls) (hi : i < tb) (hu : upP 4096 Rk = some (c, Rn)) (hc : es.sum + c ≤ ps.length) (hq : ((ps.drop es.sum).take c).map rp = qls.map some) (ht : ∀ y ∈ qls, y.t = i) : CrI ps tb R2 (i + 1) (es ++ [c]) Rn (pls ++ qls) := by
  have hp := h.plen
  have hql : qls.length = c := by
    have h1 := congrArg List.length hq
    rw [List.length_map, List.length_map, List.length_take, List.length_drop] at h1
    omega
  refine ⟨by rw [List.length_append, h.len]; rfl, by rw [h.hl]; exact manyP_next hi es hu, by rw [List.sum_append, List.sum_singleton]; exact hc, ?_, fun j m hj k hk => ?_⟩
  · rw [List.sum_append, List.sum_singleton, List.take_add, List.map_append, h.pl, hq, List.map_append]
  · rw [List.map_append]
    have hl := h.len
    rcases Nat.lt_or_ge j es.length with hlt | hge
    · rw [List.getElem?_append_left hlt] at hj
      have h1 := h.tag j m hj k hk
      rw [posT_app_lt hlt, List.getElem?_append_left (List.getElem?_eq_some_iff.1 h1).1]
      exact h1
    · rw [List.getElem?_append_right hge] at hj
      have hj0 : j - es.length = 0 := by have := (List.getElem?_eq_some_iff.1 hj).1; simp at this; omega
      obtain rfl : j = es.length := by omega
      rw [hj0] at hj
      simp only [List.getElem?_cons_zero, Option.some.injEq] at hj
      subst hj
      rw [posT_app, List.getElem?_append_right (by rw [List.length_map, hp]; omega), List.length_map, hp, show es.sum + k - es.sum = k by omega, List.getElem?_map]
      obtain ⟨y, hy⟩ : ∃ y, qls[k]? = some y := ⟨_, List.getElem?_eq_getElem (by omega)⟩
      rw [hy, Option.map_some, ht y (List.mem_of_getElem? hy), hl]
section
variable {ps : List (List Int)} {tb i : Nat} {R2 Rk : List Int} {es : List Nat} {pls : List Pl}
theorem CrI.no_count (h : CrI ps tb R2 i es Rk pls) (hi : i < tb) (hu : upP 4096 Rk = none) : ∀ (each : List Nat) (pls' : List Pl), manyP (upP 4096) tb R2 = some (each, []) → ps.map rp = pls'.map some → OkW each (pls'.map Pl.t) → False := fun each pls' h1 _ _ => by
  rw [h.hl, manyP_stop hi es hu] at h1
  cases h1
theorem CrI.here (h : CrI ps tb R2 i es Rk pls) (hi : i < tb) {c : Nat} {Rn : List Int} (hu : upP 4096 Rk = some (c, Rn)) {each : List Nat} {r : List Int} (h1 : manyP (upP 4096) tb R2 = some (each, r)) : each[i]? = some c ∧ posT each i = es.sum := by
  rw [h.hl, manyP_next hi es hu] at h1
  obtain ⟨ys, rfl, _⟩ := addP_pre h1
  have hl := h.len
  subst hl
  refine ⟨?_, by rw [List.append_assoc, posT_app]⟩
  rw [List.append_assoc, List.getElem?_append_right (Nat.le_refl _), Nat.sub_self]
  rfl
theorem CrI.no_fit (h : CrI ps tb R2 i es Rk pls) (hi : i < tb) {c : Nat} {Rn : List Int} (hu : upP 4096 Rk = some (c, Rn)) (hc : ps.length - es.sum < c) : ∀ (each : List Nat) (pls' : List Pl), manyP (upP 4096) tb R2 = some (each, []) → ps.map rp = pls'.map some → OkW each (pls'.map Pl.t) → False := fun each pls' h1 h2 ok => by
  obtain ⟨g1, g2⟩ := h.here hi hu h1
  have h3 := ok.1 i c g1 (ps.length - es.sum) hc
  have h4 := (List.getElem?_eq_some_iff.1 h3).1
  have h5 := congrArg List.length h2
  rw [List.length_map, List.length_map] at h5
  rw [List.length_map, g2] at h4
  have := h.sum
  omega
theorem CrI.no_row (h : CrI ps tb R2 i es Rk pls) (hi : i < tb) {c k : Nat} {Rn q : List Int} (hu : upP 4096 Rk = some (c, Rn)) (hk : k < c) (hq : ps[es.sum + k]? = some q) (hs : storP i q = none) : ∀ (each : List Nat) (pls' : List Pl), manyP (upP 4096) tb R2 = some (each, []) → ps.map rp = pls'.map some → OkW each (pls'.map Pl.t) → False := fun each pls' h1 h2 ok => by
  obtain ⟨g1, g2⟩ := h.here hi hu h1
  have h3 := ok.1 i c g1 k hk
  rw [g2, List.getElem?_map] at h3
  cases hy : pls'[es.sum + k]? with
  | none => rw [hy] at h3; cases h3
  | some y =>
    rw [hy, Option.map_some, Option.some.injEq] at h3
    have h4 := congrArg (fun l => l[es.sum + k]?) h2
    simp only [List.getElem?_map, hq, hy, Option.map_some, Option.some.injEq] at h4
    rw [storP_mk h4 h3] at hs
    cases hs
theorem CrI.all (h : CrI ps tb R2 tb es Rk pls) : manyP (upP 4096) tb R2 = some (es, Rk) := by
  rw [h.hl, Nat.sub_self]
  simp [manyP, addP]
theorem posT_self (es : List Nat) : posT es es.length = es.sum := by unfold posT; rw [List.take_length]
theorem CrI.no_rest (h : CrI ps tb R2 tb es Rk pls) (hn : es.sum ≠ ps.length) : ∀ (each : List Nat) (pls' : List Pl), manyP (upP 4096) tb R2 = some (each, []) → ps.map rp = pls'.map some → OkW each (pls'.map Pl.t) → False := fun each pls' h1 h2 ok => by
  rw [h.all] at h1
  cases h1
  have h3 := ok.2.1
  rw [posT_self, List.length_map] at h3
  have h5 := congrArg List.length h2
  rw [List.length_map, List.length_map] at h5
  have := h.sum
  omega
theorem CrI.no_left (h : CrI ps tb R2 tb es Rk pls) (hn : Rk ≠ []) : ∀ (each : List Nat) (pls' : List Pl), manyP (upP 4096) tb R2 = some (each, []) → ps.map rp = pls'.map some → OkW each (pls'.map Pl.t) → False := fun each pls' h1 _ _ => by
  rw [h.all] at h1
  cases h1
  exact hn rfl
theorem CrI.whole (h : CrI ps tb R2 tb es Rk pls) (hn : es.sum = ps.length) : ps.map rp = pls.map some := by
  have h1 := h.pl
  rwa [hn, List.take_length] at h1
theorem CrI.no_many (h : CrI ps tb R2 tb es Rk pls) (hn : es.sum = ps.length) (h4 : 4096 < es.sum) : ∀ (each : List Nat) (pls' : List Pl), manyP (upP 4096) tb R2 = some (each, []) → ps.map rp = pls'.map some → OkW each (pls'.map Pl.t) → False := fun each pls' h1 _ ok => by
  rw [h.all] at h1
  cases h1
  have h3 := ok.2.2
  rw [posT_self] at h3
  omega
theorem CrI.no_may (h : CrI ps tb R2 tb es Rk pls) (hn : es.sum = ps.length) {e : Nat} (hb : ckBc (e : Int) (splitW es (pls.map plC)) = false) : ∀ (each : List Nat) (pls' : List Pl), manyP (upP 4096) tb R2 = some (each, []) → ps.map rp = pls'.map some → OkW each (pls'.map Pl.t) → ckBc (e : Int) (splitW each (pls'.map plC)) = true → False := fun each pls' h1 h2 ok hc => by
  rw [h.all] at h1
  cases h1
  have h3 := h.whole hn
  rw [h2] at h3
  have h4 : pls' = pls := by
    have := congrArg (List.map (fun o : Option Pl => o.getD plZ)) h3
    simpa [List.map_map, Function.comp_def] using this
  rw [h4, hb] at hc
  cases hc
theorem CrI.ok (h : CrI ps tb R2 tb es Rk pls) (hn : es.sum = ps.length) (h4 : es.sum ≤ 4096) : OkW es (pls.map Pl.t) :=
  ⟨h.tag, by rw [posT_self, List.length_map, h.plen]; exact Nat.le_refl _, by rw [posT_self]; exact h4⟩
end
theorem splitW_snoc {α : Type} : ∀ (es : List Nat) (c : Nat) (A B : List α), A.length = es.sum → B.length = c → splitW (es ++ [c]) (A ++ B) = splitW es A ++ [B]
  | [], c, A, B, ha, hb => by
    have : A = [] := List.length_eq_zero_iff.1 (by simpa using ha)
    subst this
    simp only [List.nil_append, splitW]
    rw [List.take_of_length_le (by omega)]
  | n :: ns, c, A, B, ha, hb => by
    rw [List.sum_cons] at ha
    simp only [List.cons_append, splitW]
    rw [List.take_append_of_le_length (by omega), List.drop_append_of_le_length (by omega), splitW_snoc ns c (A.drop n) B (by rw [List.length_drop]; omega) hb]
theorem splitW_sum {α : Type} : ∀ (es : List Nat) (C : List α), es.sum ≤ C.length → ((splitW es C).map List.length).sum = es.sum
  | [], C, h => rfl
  | n :: ns, C, h => by
    rw [List.sum_cons] at h
    simp only [splitW, List.map_cons, List.sum_cons]
    rw [splitW_sum ns (C.drop n) (by rw [List.length_drop]; omega), List.length_take, Nat.min_eq_left (by omega)]
theorem cnt_split {ts : List TbP} {es : List Nat} {C : List C4} (h : ts.map tbC = splitW es C) (hl : es.sum ≤ C.length) : cntT ts ts.length = es.sum := by
  unfold cntT
  rw [List.take_length, ← splitW_sum es C hl, ← h, List.map_map]
  congr 1
  refine List.map_congr_left fun t _ => ?_
  simp [tbC]
theorem stB_of {x : StP} {y : Pl} (h : plC y = stC x) (hb : PlB y) : StB x ∧ x.R.length ≤ 3 := by
  unfold plC stC at h
  simp only [Prod.mk.injEq] at h
  refine ⟨⟨by rw [← h.1]; exact hb.k, fun p hp => hb.f p.bs (by rw [h.2.1]; exact List.mem_map_of_mem hp)⟩, ?_⟩
  have h1 := congrArg List.length h.2.1
  rw [List.length_map] at h1
  have := hb.fl
  omega
theorem rp_all {q : List Int} {y : Pl} (hb : Byt q) (h : rp q = some y) : PlB y := plP_all hb (readP_of h)
/-- One more row. -/
theorem row_next {ps : List (List Int)} {s l i : Nat} {qls : List Pl} {q : List Int} {y : Pl} (h : ((ps.drop s).take l).map rp = qls.map some) (hq : ps[s + l]? = some q) (hy : storP i q = some y) : ((ps.drop s).take (l + 1)).map rp = (qls ++ [y]).map some := by
  rw [List.take_add_one, List.getElem?_drop, hq, List.map_append, h, List.map_append]
  have := (storP_some hy).1
  simp [rp, this]
theorem scells_snoc (xs : List StP) (x : StP) : scells (xs ++ [x]) = scells xs ++ x.cells := by simp [scells]
/-- Below a mark and a reader. -/
theorem ckfr_step {w2 W W' : World} {B : Nat} (h : Below w2.heap.size w2 W) (g : W.grownBy W' (some B)) (hB : w2.heap.size ≤ B) : Below w2.heap.size w2 W' := below_oth h g h.size hB
set_option maxRecDepth 100000 in
set_option maxHeartbeats 4000000 in
/-- The document's ReadCheckpoint (31). -/
theorem rreadck_law (a : Option Addr) (L : List Int) (n cap : Nat) (hn : L.length = n) (hn2 : n ≤ 1000000) (hB : Byt L) (w : World) (hL : Ls .u8 w a cap L) :
    Calls Tryz.prog 31 #[.slice a n cap] w (RckR w L) := by
  obtain ⟨i59, hi59, hz590, hz591, hz592⟩ := info_parts info59
  obtain ⟨i57, hi57, hz570, hz571, hz572⟩ := info_parts info57
  have HF0 := Lib.hid (fun W (b : Below w.heap.size w W) => rframes_law a L n cap hn hn2 hB W (hL.below b))
  have HN := Lib.hid hn
  have HY := Lib.hid (frames_byt _ L (Nat.le_refl _) hB)
  have HPL := Lib.hid (fun p hp => (frames_len _ L (Nat.le_refl _) p hp).2)
  obtain ⟨m, hm⟩ : ∃ m, wholeL L = m := ⟨_, rfl⟩
  have hm2 : m ≤ 1000000 := by rw [← hm]; exact Nat.le_trans (whole_le n L (Nat.le_of_eq hn)) (by omega)
  have HM := Lib.hid hm
  rw [hm] at HF0
  have HKL := Lib.hid (show (framesL L).length ≤ 1000000 by
    have h2 := sumF_ge (framesL L) _ (Nat.le_refl _)
    have h4 : wholeL L = sumF (framesL L) (framesL L).length := (sumF_all _).symm
    omega)
  clear hn hB hL hm
  go_enter Tryz.func31, Tryz.ntmps31
  go_upto_region 1 with (fail)
  obtain ⟨W1, hW1⟩ : ∃ W1, w.alloc (.cells #[.int .i64 0, .slice none 0 0] 56) = W1 := ⟨_, rfl⟩
  have hb1 : Below w.heap.size w W1 := by rw [← hW1]; exact bl1 _ _
  have x0 : BoxC W1 w.heap.size #[.int .i64 0, .slice none 0 0] 56 := by rw [← hW1]; exact BoxC.new _ _ _
  try rw [hW1]
  clear hW1
  have HF := Lib.hid (HF0.out _ hb1)
  have HB1 := Lib.hid hb1
  have HX0 := Lib.hid x0
  clear hb1 x0 HF0
  go_wp2_with fail
  refine HF.out.mono ?_
  rintro r w2 ⟨v, rfl, ho, hb2⟩
  obtain ⟨a1, c1, R, rfl, hR1, hR2⟩ := ho.rdr
  obtain ⟨k, hk⟩ : ∃ k, (framesL L).length = k := ⟨_, rfl⟩
  have HK := Lib.hid hk
  rw [hk]
  have hk9 : k ≤ 1000000 := by rw [← hk]; exact HKL.out
  have HR := Lib.hid (And.intro hR1 hR2)
  have HB2 := Lib.hid (step_below HB1.out hb2)
  have HB12 := Lib.hid hb2
  have HX2 := Lib.hid (HX0.out.below hb2)
  clear hR1 hR2 hb2 ho hk HF HX0
  by_cases h1 : m = n
  rotate_left
  · have e1 : ((m : Int) != (n : Int)) = true := by simp; omega
    have e1' : (m != n) = true := by simp; omega
    have HX := Lib.hid (ck_fail0a (L := L) (by rw [HM.out, HN.out]; exact h1))
    have HB8 := HB2
    have BX := HX2
    clear h1
    have zb := BX.out
    have zb0 := zb.cell 0
    have fb0 := zb.frozen 0
    have zb1 := zb.cell 1
    have fb1 := zb.frozen 1
    simp only [List.getElem?_toArray, List.getElem?_cons_zero, List.getElem?_cons_succ] at zb0 zb1
    have X9 := Lib.hid ((zb.put 0 (.int .i64 0)).put 1 (.slice none 0 0))
    have HB9 := Lib.hid ((HB8.out.setCell (p := ⟨w.heap.size, 0, none⟩) (Nat.le_refl _) (.int .i64 0)).setCell (p := ⟨w.heap.size, 1, none⟩) (Nat.le_refl _) (.slice none 0 0))
    clear zb
    go_wp2_with fail
    clear zb0 fb0 zb1 fb1
    generalize ((w2.setCell ⟨w.heap.size, 0, none⟩ (.int .i64 0)).setCell ⟨w.heap.size, 1, none⟩ (.slice none 0 0)) = W9 at *
    have q0 := X9.out.cell 0
    have q1 := X9.out.cell 1
    simp at q0 q1
    refine bodyPost_ret (v := .tuple #[.agg #[.int .i64 0, .slice none 0 0], .int .i64 4]) (by simp [results, Tryz.results31, go_sem, q0, q1]) rfl ?_
    exact ⟨.inr ⟨HX.out, rfl⟩, HB9.out⟩
  have e1 : ((m : Int) != (n : Int)) = false := by simp; omega
  have e1' : (m != n) = false := by simp; omega
  have HWH := Lib.hid (show wholeL L = L.length by rw [HM.out, HN.out]; exact h1)
  clear h1
  by_cases h2 : k = 0
  · have e2 : ((k : Int) == 0) = true := by simp [h2]
    have e2' : (k == 0) = true := by simp [h2]
    have HX := Lib.hid (ck_fail0b (L := L) (List.length_eq_zero_iff.1 (by rw [HK.out]; exact h2)))
    have HB8 := HB2
    have BX := HX2
    clear h2
    have zb := BX.out
    have zb0 := zb.cell 0
    have fb0 := zb.frozen 0
    have zb1 := zb.cell 1
    have fb1 := zb.frozen 1
    simp only [List.getElem?_toArray, List.getElem?_cons_zero, List.getElem?_cons_succ] at zb0 zb1
    have X9 := Lib.hid ((zb.put 0 (.int .i64 0)).put 1 (.slice none 0 0))
    have HB9 := Lib.hid ((HB8.out.setCell (p := ⟨w.heap.size, 0, none⟩) (Nat.le_refl _) (.int .i64 0)).setCell (p := ⟨w.heap.size, 1, none⟩) (Nat.le_refl _) (.slice none 0 0))
    clear zb
    go_wp2_with fail
    clear zb0 fb0 zb1 fb1
    generalize ((w2.setCell ⟨w.heap.size, 0, none⟩ (.int .i64 0)).setCell ⟨w.heap.size, 1, none⟩ (.slice none 0 0)) = W9 at *
    have q0 := X9.out.cell 0
    have q1 := X9.out.cell 1
    simp at q0 q1
    refine bodyPost_ret (v := .tuple #[.agg #[.int .i64 0, .slice none 0 0], .int .i64 4]) (by simp [results, Tryz.results31, go_sem, q0, q1]) rfl ?_
    exact ⟨.inr ⟨HX.out, rfl⟩, HB9.out⟩
  have e2 : ((k : Int) == 0) = false := by simp; omega
  have e2' : (k == 0) = false := by simp; omega
  have hk0 : (0 : Int) < (k : Int) := by omega
  obtain ⟨p, ps, hF⟩ : ∃ p ps, framesL L = p :: ps := by
    cases hF : framesL L with
    | nil => exact absurd (by have := HK.out; rw [hF] at this; exact this.symm) h2
    | cons p ps => exact ⟨p, ps, rfl⟩
  have HF := Lib.hid hF
  have HKP := Lib.hid (show k = ps.length + 1 by have := HK.out; rw [hF] at this; exact this.symm)
  have HFR := Lib.hid (fun W (b : Below w2.heap.size w2 W) (j : Nat) (q : List Int) (hq : (p :: ps)[j]? = some q) => (by
    obtain ⟨x, hx, hxe⟩ := map_at (f := P1.bs) (xs := R) (ys := R) rfl (show R[j]? = some (R[j]'(by
      have h3 := congrArg List.length HR.out.1
      rw [List.length_map, hF] at h3
      have := (List.getElem?_eq_some_iff.1 hq).1
      omega)) from List.getElem?_eq_getElem _)
    have hxb : x.bs = q := by
      have h3 := congrArg (fun l => l[j]?) HR.out.1
      simp only [List.getElem?_map, hx, hF, hq, Option.map_some, Option.some.injEq] at h3
      exact h3
    obtain ⟨b1, o1, ea, cc, hl⟩ := (HR.out.2.below b) j x hx
    unfold P1.v at cc
    rw [hxb] at cc hl
    exact ⟨b1, o1, x.ad, x.cap, ea, cc, hl⟩ : ∃ b1 o1 qa qc, a1 = some ⟨b1, o1, none⟩ ∧ W.cell? ⟨b1, o1 + j, none⟩ = some (.slice qa q.length qc) ∧ Ls .u8 W qa qc q))
  clear h2 hF
  obtain ⟨b1, o1, qa, qc, ea, cc, hl⟩ := HFR.out w2 (Below.refl _ _) 0 p rfl
  subst ea
  rw [Nat.add_zero] at cc
  have hq := rqs_box w2 qa qc p.length p rfl (by have := HPL.out p (by rw [HF.out]; simp); omega) (HY.out p (by rw [HF.out]; simp)) hl
  have hi0 := BxI.new HB2.out HX2.out (bl1 w2 (.cells #[.slice qa p.length qc, .int .i64 0] 148)) (Nat.le_refl _) hq
  have HI2 := Lib.hid hi0
  have HR2 := Lib.hid (show Below w2.heap.size w2 ((w2.alloc (.cells #[.slice qa p.length qc, .int .i64 0] 148)).alloc (.cells #[.int .i64 0, .slice none 0 0] 56)) from step_below (bl1 _ _) (bl1 _ _))
  obtain ⟨pl, hpl⟩ : ∃ pl, p.length = pl := ⟨_, rfl⟩
  rw [hpl] at HI2 HR2 cc
  clear hq hi0 hl hpl
  go_upto_region 6 with (fail)
  clear cc
  generalize (w2.alloc (.cells #[.slice qa pl qc, .int .i64 0] 148)).alloc (.cells #[.int .i64 0, .slice none 0 0] 56) = W3 at *
  simp at HI2 ⊢
  obtain ⟨B, hB⟩ : ∃ B, w2.heap.size = B := ⟨_, rfl⟩
  have HBB := Lib.hid (Nat.le_of_eq hB)
  rw [hB] at HI2 ⊢
  obtain ⟨D, hD⟩ : ∃ D, B + 1 = D := ⟨_, rfl⟩
  rw [hD] at HI2
  try rw [hD]
  clear hD hB
  go_wp2_with fail
  refine (smallb_law HI2.out.rd 16777215 (by decide)).mono ?_
  rintro r w4 ⟨z1, k1, R1, rfl, hr1, g1, y1, n1⟩
  have hI := HI2.out.step g1 hr1
  have HY1 := Lib.hid (And.intro y1 n1)
  have x0 := hI.bd.cell 0
  have f0 := hI.bd.frozen 0
  simp at x0
  have HI4 := Lib.hid (hI.put 0 (.int .i64 z1))
  have hs4 : w2.heap.size ≤ D := by have := hI.l2; have := HBB.out; omega
  have HR4 := Lib.hid ((ckfr_step HR2.out g1 HBB.out).setCell (p := ⟨D, 0, none⟩) hs4 (.int .i64 z1))
  clear hr1 g1 y1 n1 hI HI2 HR2 hs4
  go_upto_region 8 with (fail)
  clear x0 f0
  generalize w4.setCell ⟨D, 0, none⟩ (.int .i64 z1) = W4 at *
  go_wp2_with fail
  refine (smallb_law HI4.out.rd 4 (by decide)).mono ?_
  rintro r w5 ⟨z2, k2, R2, rfl, hr1, g1, y1, n1⟩
  have HI5 := Lib.hid (HI4.out.step g1 hr1)
  have HY2 := Lib.hid (And.intro y1 n1)
  have HR5 := Lib.hid (ckfr_step HR4.out g1 HBB.out)
  clear hr1 g1 y1 n1 HI4 HR4
  cases k1 with
  | false =>
    have HX := Lib.hid (ck_fail1 HF.out (HY1.out.2 rfl))
    have HB8 := Lib.hid HI5.out.bel
    have BX := Lib.hid HI5.out.bx
    have zb := BX.out
    have zb0 := zb.cell 0
    have fb0 := zb.frozen 0
    have zb1 := zb.cell 1
    have fb1 := zb.frozen 1
    simp only [List.getElem?_toArray, List.getElem?_cons_zero, List.getElem?_cons_succ] at zb0 zb1
    have X9 := Lib.hid ((zb.put 0 (.int .i64 0)).put 1 (.slice none 0 0))
    have HB9 := Lib.hid ((HB8.out.setCell (p := ⟨w.heap.size, 0, none⟩) (Nat.le_refl _) (.int .i64 0)).setCell (p := ⟨w.heap.size, 1, none⟩) (Nat.le_refl _) (.slice none 0 0))
    clear zb
    go_wp2_with fail
    clear zb0 fb0 zb1 fb1
    generalize ((w5.setCell ⟨w.heap.size, 0, none⟩ (.int .i64 0)).setCell ⟨w.heap.size, 1, none⟩ (.slice none 0 0)) = W9 at *
    have q0 := X9.out.cell 0
    have q1 := X9.out.cell 1
    simp at q0 q1
    refine bodyPost_ret (v := .tuple #[.agg #[.int .i64 0, .slice none 0 0], .int .i64 4]) (by simp [results, Tryz.results31, go_sem, q0, q1]) rfl ?_
    exact ⟨.inr ⟨HX.out, rfl⟩, HB9.out⟩
  | true =>
  obtain ⟨e, u1, hz1, he⟩ := HY1.out.1 rfl
  have HU1 := Lib.hid u1
  clear u1
  cases k2 with
  | false =>
    have HX := Lib.hid (ck_fail2 HF.out HU1.out (HY2.out.2 rfl))
    have HB8 := Lib.hid HI5.out.bel
    have BX := Lib.hid HI5.out.bx
    have zb := BX.out
    have zb0 := zb.cell 0
    have fb0 := zb.frozen 0
    have zb1 := zb.cell 1
    have fb1 := zb.frozen 1
    simp only [List.getElem?_toArray, List.getElem?_cons_zero, List.getElem?_cons_succ] at zb0 zb1
    have X9 := Lib.hid ((zb.put 0 (.int .i64 0)).put 1 (.slice none 0 0))
    have HB9 := Lib.hid ((HB8.out.setCell (p := ⟨w.heap.size, 0, none⟩) (Nat.le_refl _) (.int .i64 0)).setCell (p := ⟨w.heap.size, 1, none⟩) (Nat.le_refl _) (.slice none 0 0))
    clear zb
    go_wp2_with fail
    clear zb0 fb0 zb1 fb1
    generalize ((w5.setCell ⟨w.heap.size, 0, none⟩ (.int .i64 0)).setCell ⟨w.heap.size, 1, none⟩ (.slice none 0 0)) = W9 at *
    have q0 := X9.out.cell 0
    have q1 := X9.out.cell 1
    simp at q0 q1
    refine bodyPost_ret (v := .tuple #[.agg #[.int .i64 0, .slice none 0 0], .int .i64 4]) (by simp [results, Tryz.results31, go_sem, q0, q1]) rfl ?_
    exact ⟨.inr ⟨HX.out, rfl⟩, HB9.out⟩
  | true =>
  obtain ⟨tb, u2, hz2, htb⟩ := HY2.out.1 rfl
  have HU2 := Lib.hid u2
  clear u2 HY1 HY2
  subst hz1 hz2
  have HNO := Lib.hid (fun no => ck_fail (L := L) HF.out HU1.out HU2.out no)
  have hI := HI5.out
  simp at hI
  have HI9 := Lib.hid hI
  have HD0 := Lib.hid (show D + 1 ≤ w5.heap.size from hI.bd.lt)
  have htbi : (tb : Int) ≤ 4 := by omega
  clear hI HI5
  go_wp2_with fail
  go_loopw [11, 12, 13, 14, 15, 16, 17, 18] (fun at_ i q3 q4 q5 q6 q7 q8 wr => ∃ (i' u : Nat) (es : List Nat) (Rk : List Int) (pls : List Pl) (ts : List TbP) (va : Option Addr) (vc : Nat), i' ≤ tb ∧ at_ = .int .i64 (u : Int) ∧ i = .int .i64 (i' : Int) ∧ u ≤ k ∧ Hid (u = es.sum + 1 ∧ CrI ps tb R2 i' es Rk pls) ∧ Hid (ts.map tbC = splitW es (pls.map plC) ∧ ts.length = i' ∧ ∀ t ∈ ts, ∀ x ∈ t.xs, StB x) ∧ Hid (TabsO wr (D + 1) ts (.slice va i' vc)) ∧ Hid (BxI w B D Rk #[.int .i64 0, .slice none 0 0] #[.int .i64 (e : Int), .slice va i' vc] 56 wr) ∧ Hid (D + 1 ≤ wr.heap.size) ∧ Hid (Below w2.heap.size w2 wr)) (fun _ i _ _ _ _ _ _ _ => tb - (intOf i).toNat)
  case atStart => exact ⟨0, 1, [], R2, [], [], none, 0, by omega, rfl, rfl, by omega, Lib.hid ⟨rfl, CrI.zero _ _ _⟩, Lib.hid ⟨rfl, rfl, fun t ht => by simp at ht⟩, Lib.hid (TabsO.nil _ _), HI9, HD0, HR5⟩
  case round =>
    clear HI9 HD0 HR5
    obtain ⟨i, u, es, Rk, pls, ts, va, vc, hi, rfl, rfl, hu9, HCR, HTS, HTO, HI, HZ, HRW⟩ := hrel
    by_cases hlt : i < tb
    · have d1 : (i : Int) < (tb : Int) := by omega
      go_wp2_with fail
      refine (smallb_law HI.out.rd 4096 (by decide)).mono ?_
      rintro r v1 ⟨zc, kc, Rn, rfl, hr1, g1, y1, n1⟩
      have HI1 := Lib.hid (HI.out.step g1 hr1)
      have HCY := Lib.hid (And.intro y1 n1)
      have HTO1 := Lib.hid (HTO.out.oth (by have := HI1.out.l2; omega) g1)
      have HZ1 := Lib.hid (Nat.le_trans HZ.out g1.size)
      have HR1 := Lib.hid (ckfr_step HRW.out g1 HBB.out)
      clear hr1 g1 y1 n1 HI HTO HZ HRW
      cases kc with
      | false =>
        have HX := Lib.hid (HNO.out (fun b g d f o _ => HCR.out.2.no_count hlt (HCY.out.2 rfl) b g d f o))
        have HB8 := Lib.hid HI1.out.bel
        have BX := Lib.hid HI1.out.bx
        have zb := BX.out
        have zb0 := zb.cell 0
        have fb0 := zb.frozen 0
        have zb1 := zb.cell 1
        have fb1 := zb.frozen 1
        simp only [List.getElem?_toArray, List.getElem?_cons_zero, List.getElem?_cons_succ] at zb0 zb1
        have X9 := Lib.hid ((zb.put 0 (.int .i64 0)).put 1 (.slice none 0 0))
        have HB9 := Lib.hid ((HB8.out.setCell (p := ⟨w.heap.size, 0, none⟩) (Nat.le_refl _) (.int .i64 0)).setCell (p := ⟨w.heap.size, 1, none⟩) (Nat.le_refl _) (.slice none 0 0))
        clear zb
        go_wp2_with fail
        clear zb0 fb0 zb1 fb1
        generalize ((v1.setCell ⟨w.heap.size, 0, none⟩ (.int .i64 0)).setCell ⟨w.heap.size, 1, none⟩ (.slice none 0 0)) = W9 at *
        have q0 := X9.out.cell 0
        have q1 := X9.out.cell 1
        simp at q0 q1
        refine bodyPost_ret (v := .tuple #[.agg #[.int .i64 0, .slice none 0 0], .int .i64 4]) (by simp [results, Tryz.results31, go_sem, q0, q1]) rfl ?_
        exact ⟨.inr ⟨HX.out, rfl⟩, HB9.out⟩
      | true =>
      obtain ⟨c, uc, hzc, hc⟩ := HCY.out.1 rfl
      have HUC := Lib.hid uc
      clear uc HCY
      subst hzc
      have hsub : IntKind.i64.wrap ((k : Int) - (u : Int)) = (k : Int) - (u : Int) := by rw [IntKind.wrap_i64]; omega
      by_cases hfit : k < c + u
      · have d2 : (k : Int) - (u : Int) < (c : Int) := by omega
        have HX := Lib.hid (HNO.out (fun b g d f o _ => HCR.out.2.no_fit hlt HUC.out (by have h1 := HCR.out.1; have := HKP.out; omega) b g d f o))
        clear hfit
        have HB8 := Lib.hid HI1.out.bel
        have BX := Lib.hid HI1.out.bx
        have zb := BX.out
        have zb0 := zb.cell 0
        have fb0 := zb.frozen 0
        have zb1 := zb.cell 1
        have fb1 := zb.frozen 1
        simp only [List.getElem?_toArray, List.getElem?_cons_zero, List.getElem?_cons_succ] at zb0 zb1
        have X9 := Lib.hid ((zb.put 0 (.int .i64 0)).put 1 (.slice none 0 0))
        have HB9 := Lib.hid ((HB8.out.setCell (p := ⟨w.heap.size, 0, none⟩) (Nat.le_refl _) (.int .i64 0)).setCell (p := ⟨w.heap.size, 1, none⟩) (Nat.le_refl _) (.slice none 0 0))
        clear zb
        go_wp2_with fail
        clear zb0 fb0 zb1 fb1
        generalize ((v1.setCell ⟨w.heap.size, 0, none⟩ (.int .i64 0)).setCell ⟨w.heap.size, 1, none⟩ (.slice none 0 0)) = W9 at *
        have q0 := X9.out.cell 0
        have q1 := X9.out.cell 1
        simp at q0 q1
        refine bodyPost_ret (v := .tuple #[.agg #[.int .i64 0, .slice none 0 0], .int .i64 4]) (by simp [results, Tryz.results31, go_sem, q0, q1]) rfl ?_
        exact ⟨.inr ⟨HX.out, rfl⟩, HB9.out⟩
      have d2 : ¬ (k : Int) - (u : Int) < (c : Int) := by omega
      have hcu : c + u ≤ k := by omega
      have hc9 : c ≤ 4096 := hc
      clear hfit
      go_upto_region 20 with (fail)
      clear hsub d2
      obtain ⟨WO, rfl⟩ : ∃ WO, WO = v1 := ⟨_, rfl⟩
      go_loopw [11, 15, 16, 17, 18] (fun at_ tv j q7 q8 wr => ∃ (l : Nat) (xs : List StP) (qls : List Pl) (ta : Option Addr) (tc : Nat), l ≤ c ∧ at_ = .int .i64 ((u + l : Nat) : Int) ∧ tv = .slice ta l tc ∧ j = .int .i64 (l : Int) ∧ Hid (xs.length = l ∧ ((ps.drop es.sum).take l).map rp = qls.map some ∧ (∀ y ∈ qls, y.t = i) ∧ qls.map plC = xs.map stC ∧ ∀ x ∈ xs, StB x) ∧ Hid (wr.ownsRow WO.heap.size 59 4 (.slice ta l tc) l (scells xs)) ∧ Hid (∀ x ∈ xs, StOw wr WO.heap.size x) ∧ Hid (Below WO.heap.size WO wr)) (fun _ _ j _ _ _ => c - (intOf j).toNat)
      case atStart => exact ⟨0, [], [], none, 0, by omega, rfl, rfl, rfl, Lib.hid ⟨rfl, by simp, fun y hy => by simp at hy, rfl, fun x hx => by simp at hx⟩, Lib.hid (World.ownsRow_nil _ _ _ _), Lib.hid (fun x hx => by simp at hx), Lib.hid (Below.refl _ _)⟩
      case round =>
        obtain ⟨l, xs, qls, ta, tc, hl, rfl, rfl, rfl, HXS, HO, HOX, HBV⟩ := hrel
        by_cases hlc : l < c
        · have d3 : (l : Int) < (c : Int) := by omega
          obtain ⟨q, hq⟩ : ∃ q, (p :: ps)[u + l]? = some q := ⟨_, List.getElem?_eq_getElem (by have := HKP.out; rw [List.length_cons]; omega)⟩
          have hps : ps[es.sum + l]? = some q := by
            have h1 := HCR.out.1
            rw [show u + l = es.sum + l + 1 by omega, List.getElem?_cons_succ] at hq
            exact hq
          have hqm : q ∈ framesL L := by rw [HF.out]; exact List.mem_of_getElem? hq
          obtain ⟨_, _, qa, qc, ea, cq, hql⟩ := HFR.out wr (step_below HR1.out HBV.out) (u + l) q hq
          cases ea
          have dk : ((u + l : Nat) : Int) < (k : Int) := by omega
          have hi3 : i ≤ 3 := by omega
          have HSQ := Lib.hid (storedq_law qa q q.length qc i rfl (by have := HPL.out q hqm; omega) (HY.out q hqm) hi3 wr hql)
          have HPS := Lib.hid (And.intro hps (HY.out q hqm))
          obtain ⟨qn, hqn⟩ : ∃ qn, q.length = qn := ⟨_, rfl⟩
          rw [hqn] at cq HSQ
          clear hq hps hqm hql hqn
          go_wp2_with fail
          refine HSQ.out.mono ?_
          rintro r v4 ⟨⟨st, ok, rfl, hyes, hno⟩, hb4⟩
          have HB4 := Lib.hid (step_below HBV.out hb4)
          have HBA := Lib.hid hb4
          have HS4 := Lib.hid (And.intro hyes hno)
          have HO4 := Lib.hid (own_below HO.out hb4)
          have HOX4 := Lib.hid (fun x hx => (HOX.out x hx).below hb4)
          unfold StP.v
          obtain ⟨kl, hkl⟩ : ∃ kl, st.key.length = kl := ⟨_, rfl⟩
          obtain ⟨rl, hrl⟩ : ∃ rl, st.R.length = rl := ⟨_, rfl⟩
          have HKR := Lib.hid (And.intro hkl hrl)
          rw [hkl, hrl]
          clear hb4 hyes hno cq HSQ hkl hrl HO HOX
          go_upto_region 23 with (fail)
          obtain ⟨W5, hW5⟩ : ∃ W5, v4.alloc (.cells #[.slice st.ka kl st.kc, .slice st.ra rl st.rc, .int .i64 st.e, .int .i64 st.s] 59) = W5 := ⟨_, rfl⟩
          have hb5 : Below v4.heap.size v4 W5 := by rw [← hW5]; exact bl1 _ _
          have bx5 : BoxC W5 v4.heap.size #[.slice st.ka kl st.kc, .slice st.ra rl st.rc, .int .i64 st.e, .int .i64 st.s] 59 := by rw [← hW5]; exact BoxC.new _ _ _
          try rw [hW5]
          have c0 := bx5.cell 0
          have c1 := bx5.cell 1
          have c2 := bx5.cell 2
          have c3 := bx5.cell 3
          simp at c0 c1 c2 c3
          have HB5 := Lib.hid (step_below HB4.out hb5)
          have HO5 := Lib.hid (own_below HO4.out hb5)
          have HOX5 := Lib.hid (fun x hx => (HOX4.out x hx).below hb5)
          have HBA5 := Lib.hid hb5
          clear hW5 bx5 hb5 HO4 HOX4
          cases ok with
          | false =>
            have HX := Lib.hid (HNO.out (fun b g d f o _ => HCR.out.2.no_row hlt HUC.out hlc HPS.out.1 (HS4.out.2 rfl) b g d f o))
            have HI5 := Lib.hid (HI1.out.far (HB5.out.mono HZ1.out))
            clear c0 c1 c2 c3
            have HB8 := Lib.hid HI5.out.bel
            have BX := Lib.hid HI5.out.bx
            have zb := BX.out
            have zb0 := zb.cell 0
            have fb0 := zb.frozen 0
            have zb1 := zb.cell 1
            have fb1 := zb.frozen 1
            simp only [List.getElem?_toArray, List.getElem?_cons_zero, List.getElem?_cons_succ] at zb0 zb1
            have X9 := Lib.hid ((zb.put 0 (.int .i64 0)).put 1 (.slice none 0 0))
            have HB9 := Lib.hid ((HB8.out.setCell (p := ⟨w.heap.size, 0, none⟩) (Nat.le_refl _) (.int .i64 0)).setCell (p := ⟨w.heap.size, 1, none⟩) (Nat.le_refl _) (.slice none 0 0))
            clear zb
            go_wp2_with fail
            clear zb0 fb0 zb1 fb1
            generalize ((W5.setCell ⟨w.heap.size, 0, none⟩ (.int .i64 0)).setCell ⟨w.heap.size, 1, none⟩ (.slice none 0 0)) = W9 at *
            have q0 := X9.out.cell 0
            have q1 := X9.out.cell 1
            simp at q0 q1
            refine bodyPost_ret (v := .tuple #[.agg #[.int .i64 0, .slice none 0 0], .int .i64 4]) (by simp [results, Tryz.results31, go_sem, q0, q1]) rfl ?_
            exact ⟨.inr ⟨HX.out, rfl⟩, HB9.out⟩
          | true =>
          obtain ⟨hst, y, hy, hyc⟩ := HS4.out.1 rfl
          have HST5 := Lib.hid ((hst.below HBA5.out).base (show WO.heap.size ≤ wr.heap.size from HBV.out.size))
          have HYP := Lib.hid (And.intro hy hyc)
          have hyp := stB_of hyc (rp_all HPS.out.2 (storP_some hy).1)
          have HSB := Lib.hid hyp.1
          have hwz := HB5.out.size
          have HOS := Lib.hid (show W5.ownsRow WO.heap.size 59 4 (.slice ta l tc) l (scells xs) from HO5.out)
          clear hst hy hyc hyp HO5
          go_wp2_with (at_builtin; refine wpList_append_own _ rfl (.tmp 95) (.tmp 97) 57 rfl WO.heap.size 59 i59 (.agg #[.slice none 0 0, .slice none 0 0, .int .i64 0, .int .i64 0]) 4 64 Tryz.underlying57 hi59 hz590 hz591 hz592 rfl (by decide) _ l (scells xs) rfl (HOS.out.alloc _) ⟨W5.heap.size, 0, none⟩ 1 1 [.slice st.ka kl st.kc, .slice st.ra rl st.rc, .int .i64 st.e, .int .i64 st.s] rfl rfl (by intro j u hj; match j, hj with | 0, hj => (simp at hj; subst hj; simp [Addr.add, go_sem]) | 1, hj => (simp at hj; subst hj; simp [Addr.add, go_sem]) | 2, hj => (simp at hj; subst hj; simp [Addr.add, go_sem]) | 3, hj => (simp at hj; subst hj; simp [Addr.add, go_sem]) | j + 4, hj => simp at hj) (by intro u hu; simp at hu; rcases hu with rfl | rfl | rfl | rfl <;> rfl) (by unfold maxLen; omega) (by omega) (by simp; omega) ?_)
          rintro v10 w10 hown10 hgrow10 _
          obtain ⟨a10, c10, hv10⟩ := own_form hown10
          subst hv10
          have HO10 := Lib.hid (show w10.ownsRow WO.heap.size 59 4 (.slice a10 (l + 1) c10) (l + 1) (scells (xs ++ [st])) by
            rw [scells_snoc]
            unfold StP.cells
            rw [HKR.out.1, HKR.out.2]
            exact hown10)
          have HB10 := Lib.hid ((HB5.out.alloc HB5.out.size _).grown hgrow10 (by simp; omega) (fun j hj => (HOS.out.lt j hj).1))
          have HOX10 := Lib.hid (show ∀ x ∈ xs ++ [st], StOw w10 WO.heap.size x from fun x hx => by
            rcases List.mem_append.1 hx with hx | hx
            · exact ((HOX5.out x hx).below (bl1 _ _)).kept (HOS.out.alloc _) (by decide) (by decide) hgrow10
            · rw [List.mem_singleton] at hx
              subst hx
              exact (HST5.out.below (bl1 _ _)).kept (HOS.out.alloc _) (by decide) (by decide) hgrow10)
          have HXN := Lib.hid (show (xs ++ [st]).length = l + 1 ∧ ((ps.drop es.sum).take (l + 1)).map rp = (qls ++ [y]).map some ∧ (∀ z ∈ qls ++ [y], z.t = i) ∧ (qls ++ [y]).map plC = (xs ++ [st]).map stC ∧ ∀ x ∈ xs ++ [st], StB x from ⟨by rw [List.length_append, HXS.out.1]; rfl, row_next HXS.out.2.1 HPS.out.1 HYP.out.1, fun z hz => by
            rcases List.mem_append.1 hz with hz | hz
            · exact HXS.out.2.2.1 z hz
            · rw [List.mem_singleton] at hz
              subst hz
              exact (storP_some HYP.out.1).2, by rw [List.map_append, List.map_append, HXS.out.2.2.2.1, List.map_singleton, List.map_singleton, HYP.out.2], fun x hx => by
            rcases List.mem_append.1 hx with hx | hx
            · exact HXS.out.2.2.2.2 x hx
            · rw [List.mem_singleton] at hx
              subst hx
              exact HSB.out⟩)
          clear hown10 hgrow10 c0 c1 c2 c3 hwz
          go_wp2_with fail
          go_roundw
          case rel => exact ⟨l + 1, xs ++ [st], qls ++ [y], a10, c10, by omega, by go_num, rfl, by go_num, HXN, HO10, HOX10, HB10⟩
          case measure => simp [intOf]; omega
        · have d3 : ¬ (l : Int) < (c : Int) := by omega
          obtain rfl : l = c := by omega
          have HI2 := Lib.hid (HI1.out.far (HBV.out.mono HZ1.out))
          have HTO2 := Lib.hid (HTO1.out.below HBV.out)
          have HR2 := Lib.hid (step_below HR1.out HBV.out)
          have HZ2 := Lib.hid (Nat.le_trans HZ1.out HBV.out.size)
          have HTB := Lib.hid (show TbP.v (⟨ta, tc, xs⟩ : TbP) = .slice ta l tc by unfold TbP.v; simp only [HXS.out.1])
          have HOT := Lib.hid (show wr.ownsRow (D + 1) 59 4 (TbP.v (⟨ta, tc, xs⟩ : TbP)) xs.length (scells xs) by rw [HTB.out, HXS.out.1]; exact own_base HZ1.out HO.out)
          have HOY := Lib.hid (fun x hx => (HOX.out x hx).base HZ1.out)
          have htr := HTO2.out.row
          rw [HTS.out.2.1] at htr
          have HTR := Lib.hid htr
          have z1 := HI2.out.bd.cell 1
          simp at z1
          have hzd := HZ2.out
          have hld := HI2.out.bd.lt
          have HAL := Lib.hid (show Below (D + 1) wr (wr.alloc (.cells #[.slice ta l tc] 57)) from (Below.refl _ wr).alloc HZ2.out _)
          clear htr HO HOX HI1 HTO1 HR1
          go_wp2_with (at_builtin; refine wpList_append_own _ rfl (.tmp 102) (.tmp 104) 54 rfl (D + 1) 57 i57 (.slice none 0 0) 1 24 Tryz.underlying54 hi57 hz570 hz571 hz572 rfl (by decide) _ i (ts.map TbP.v) rfl (HTR.out.alloc _) ⟨wr.heap.size, 0, none⟩ 1 1 [.slice ta l tc] rfl rfl (by intro j u hj; match j, hj with | 0, hj => (simp at hj; subst hj; simp [Addr.add, go_sem]) | j + 1, hj => simp at hj) (by intro u hu; simp at hu; subst hu; rfl) (by unfold maxLen; omega) (by omega) (by simp; omega) ?_)
          rintro v10 w10 hown10 hgrow10 _
          obtain ⟨a10, c10, hv10⟩ := own_form hown10
          subst hv10
          have b10 : Below (D + 1) wr w10 := HAL.out.grown hgrow10 (by simp; omega) (fun j hj => (HTR.out.lt j hj).1)
          have hI10 := HI2.out.far b10
          have y1 := hI10.bd.cell 1
          have f1 := hI10.bd.frozen 1
          simp at y1
          have hIn := hI10.put 1 (.slice a10 (i + 1) c10)
          simp at hIn
          have HIN := Lib.hid hIn
          have HTN0 := Lib.hid (TabsO.snoc (t := (⟨ta, tc, xs⟩ : TbP)) (HTO2.out.below (bl1 wr (.cells #[.slice ta l tc] 57))) HTS.out.2.1 (own_below HOT.out (bl1 _ _)) (fun x hx => (HOY.out x hx).below (bl1 _ _)) (by rw [HTB.out]; exact hown10) hgrow10)
          have HTN := Lib.hid (HTN0.out.oth (B := D) (by omega) (oth_set w10 D 1 (.slice a10 (i + 1) c10)))
          have HZN := Lib.hid (show D + 1 ≤ (w10.setCell ⟨D, 1, none⟩ (.slice a10 (i + 1) c10)).heap.size by simp; exact Nat.le_trans HZ2.out b10.size)
          have hs4 : w2.heap.size ≤ D := by have := HI2.out.l2; have := HBB.out; omega
          have HRN := Lib.hid ((HR2.out.trans (b10.mono (by omega))).setCell (p := ⟨D, 1, none⟩) hs4 (.slice a10 (i + 1) c10))
          have HCN := Lib.hid (show u + l = (es ++ [l]).sum + 1 ∧ CrI ps tb R2 (i + 1) (es ++ [l]) Rn (pls ++ qls) from ⟨by have := HCR.out.1; rw [List.sum_append, List.sum_singleton]; omega, HCR.out.2.next hlt HUC.out (by have := HCR.out.1; have := HKP.out; omega) HXS.out.2.1 HXS.out.2.2.1⟩)
          have HSN := Lib.hid (show (ts ++ [(⟨ta, tc, xs⟩ : TbP)]).map tbC = splitW (es ++ [l]) ((pls ++ qls).map plC) ∧ (ts ++ [(⟨ta, tc, xs⟩ : TbP)]).length = i + 1 ∧ ∀ t ∈ ts ++ [(⟨ta, tc, xs⟩ : TbP)], ∀ x ∈ t.xs, StB x from ⟨by
            rw [List.map_append, List.map_append, splitW_snoc es l _ _ (by rw [List.length_map]; exact HCR.out.2.plen) (by rw [List.length_map]; have := congrArg List.length HXS.out.2.2.2.1; rw [List.length_map, List.length_map] at this; rw [this, HXS.out.1]), HTS.out.1, HXS.out.2.2.2.1]
            rfl, by rw [List.length_append, HTS.out.2.1]; rfl, fun t ht x hx => by
            rcases List.mem_append.1 ht with ht | ht
            · exact HTS.out.2.2 t ht x hx
            · rw [List.mem_singleton] at ht
              subst ht
              exact HXS.out.2.2.2.2 x hx⟩)
          clear hown10 hgrow10 hI10 hIn b10 z1 hs4 HTN0
          go_wp2_with fail
          clear y1 f1
          generalize w10.setCell ⟨D, 1, none⟩ (.slice a10 (i + 1) c10) = WN at *
          go_roundw
          case rel => exact ⟨i + 1, u + l, es ++ [l], Rn, pls ++ qls, ts ++ [(⟨ta, tc, xs⟩ : TbP)], a10, c10, by omega, rfl, by go_num, by omega, HCN, HSN, HTN, HIN, HZN, HRN⟩
          case measure => simp [intOf]; omega
    · have d1 : ¬ (i : Int) < (tb : Int) := by omega
      obtain rfl : i = tb := by omega
      by_cases hun : u = k
      rotate_left
      · have d2 : ((u : Int) != (k : Int)) = true := by simp; omega
        have d2' : (u != k) = true := by simp; omega
        have HX := Lib.hid (HNO.out (fun b g d f o _ => HCR.out.2.no_rest (by have := HCR.out.1; have := HKP.out; omega) b g d f o))
        clear hun
        have HB8 := Lib.hid HI.out.bel
        have BX := Lib.hid HI.out.bx
        have zb := BX.out
        have zb0 := zb.cell 0
        have fb0 := zb.frozen 0
        have zb1 := zb.cell 1
        have fb1 := zb.frozen 1
        simp only [List.getElem?_toArray, List.getElem?_cons_zero, List.getElem?_cons_succ] at zb0 zb1
        have X9 := Lib.hid ((zb.put 0 (.int .i64 0)).put 1 (.slice none 0 0))
        have HB9 := Lib.hid ((HB8.out.setCell (p := ⟨w.heap.size, 0, none⟩) (Nat.le_refl _) (.int .i64 0)).setCell (p := ⟨w.heap.size, 1, none⟩) (Nat.le_refl _) (.slice none 0 0))
        clear zb
        go_wp2_with fail
        clear zb0 fb0 zb1 fb1
        generalize ((wr.setCell ⟨w.heap.size, 0, none⟩ (.int .i64 0)).setCell ⟨w.heap.size, 1, none⟩ (.slice none 0 0)) = W9 at *
        have q0 := X9.out.cell 0
        have q1 := X9.out.cell 1
        simp at q0 q1
        refine bodyPost_ret (v := .tuple #[.agg #[.int .i64 0, .slice none 0 0], .int .i64 4]) (by simp [results, Tryz.results31, go_sem, q0, q1]) rfl ?_
        exact ⟨.inr ⟨HX.out, rfl⟩, HB9.out⟩
      have d2 : ((u : Int) != (k : Int)) = false := by simp; omega
      have d2' : (u != k) = false := by simp; omega
      have HSM := Lib.hid (show es.sum = ps.length by have := HCR.out.1; have := HKP.out; omega)
      clear hun
      obtain ⟨mr, hmr⟩ : ∃ m, Rk.length = m := ⟨_, rfl⟩
      have HLF := Lib.hid (leftq_law HI.out.rd mr hmr)
      have HMR := Lib.hid hmr
      clear hmr
      by_cases hm0 : 0 < mr
      · have d3 : (0 : Int) < (mr : Int) := by omega
        have HX := Lib.hid (HNO.out (fun b g d f o _ => HCR.out.2.no_left (fun h => by have := HMR.out; rw [h] at this; simp at this; omega) b g d f o))
        clear hm0
        go_upto_if 120 with (first | (go_at_call 90; refine HLF.out.mono ?_; rintro r v1 ⟨rfl, hb6⟩; have HI6 := Lib.hid (HI.out.below hb6); clear hb6))
        have HB8 := Lib.hid HI6.out.bel
        have BX := Lib.hid HI6.out.bx
        have zb := BX.out
        have zb0 := zb.cell 0
        have fb0 := zb.frozen 0
        have zb1 := zb.cell 1
        have fb1 := zb.frozen 1
        simp only [List.getElem?_toArray, List.getElem?_cons_zero, List.getElem?_cons_succ] at zb0 zb1
        have X9 := Lib.hid ((zb.put 0 (.int .i64 0)).put 1 (.slice none 0 0))
        have HB9 := Lib.hid ((HB8.out.setCell (p := ⟨w.heap.size, 0, none⟩) (Nat.le_refl _) (.int .i64 0)).setCell (p := ⟨w.heap.size, 1, none⟩) (Nat.le_refl _) (.slice none 0 0))
        clear zb
        go_wp2_with fail
        clear zb0 fb0 zb1 fb1
        generalize ((v1.setCell ⟨w.heap.size, 0, none⟩ (.int .i64 0)).setCell ⟨w.heap.size, 1, none⟩ (.slice none 0 0)) = W9 at *
        have q0 := X9.out.cell 0
        have q1 := X9.out.cell 1
        simp at q0 q1
        refine bodyPost_ret (v := .tuple #[.agg #[.int .i64 0, .slice none 0 0], .int .i64 4]) (by simp [results, Tryz.results31, go_sem, q0, q1]) rfl ?_
        exact ⟨.inr ⟨HX.out, rfl⟩, HB9.out⟩
      have d3 : ¬ (0 : Int) < (mr : Int) := by omega
      have HRE := Lib.hid (show Rk = [] from List.length_eq_zero_iff.1 (by rw [HMR.out]; omega))
      have HCT := Lib.hid (show cntT ts i = es.sum by
        have h1 := cnt_split HTS.out.1 (by rw [List.length_map, HCR.out.2.plen]; exact Nat.le_refl _)
        rw [HTS.out.2.1] at h1
        exact h1)
      obtain ⟨ce, hce⟩ : ∃ ce, ckE (e : Int) ts = ce := ⟨_, rfl⟩
      have HCE := Lib.hid hce
      have HMA := Lib.hid (fun W (b : Below wr.heap.size wr W) => (show Calls Tryz.prog 32 #[.agg #[.int .i64 (e : Int), .slice va i vc]] W fun r w' => r = .returned (.int .i64 ce) ∧ Below W.heap.size W w' by
        have h1 := rck_law (e : Int) va ts i vc HTS.out.2.1 (by omega) (by rw [HCT.out, HSM.out]; have := HKP.out; omega) W ((HTO.out.below b).lies HTS.out.2.2).2.2
        rw [HCE.out] at h1
        exact h1))
      have HCB := Lib.hid (show ckBc (e : Int) (splitW es (pls.map plC)) = ckB (e : Int) ts by rw [← HTS.out.1]; exact (ckB_c (e : Int) ts).symm)
      have HCC := Lib.hid (show (ce = 0 ∧ ckB (e : Int) ts = true ∧ es.sum ≤ 4096) ∨ (ce ≠ 0 ∧ (ckB (e : Int) ts = false ∨ 4096 < es.sum)) by
        have h1 := HCE.out
        unfold ckE at h1
        rw [HTS.out.2.1, HCT.out] at h1
        cases hb : ckB (e : Int) ts with
        | false => rw [hb] at h1; right; exact ⟨by rw [← h1]; simp, .inl rfl⟩
        | true =>
          rw [hb] at h1
          simp only [if_true] at h1
          split at h1
          · rename_i h2; right; exact ⟨by rw [← h1]; simp, .inr h2⟩
          · rename_i h2; left; exact ⟨h1.symm, rfl, by omega⟩)
      clear hce hm0
      go_upto_if 120 with (first | (go_at_call 90; refine HLF.out.mono ?_; rintro r v1 ⟨rfl, hb6⟩; have HI6 := Lib.hid (HI.out.below hb6); have HMC := Lib.hid (HMA.out _ hb6); have HB6 := Lib.hid hb6; clear hb6; have y0 := HI6.out.bd.cell 0; have y1 := HI6.out.bd.cell 1; simp at y0 y1) | (go_at_call 32; refine HMC.out.mono ?_; rintro r v2 ⟨rfl, hb7⟩; have HI7 := Lib.hid (HI6.out.below hb7); have HT7 := Lib.hid (HTO.out.below (step_below HB6.out hb7)); clear hb7))
      clear y0 y1
      by_cases hc0 : ce = 0
      rotate_left
      · have d4 : (ce != 0) = true := by simp [hc0]
        have HX := Lib.hid (HNO.out (fun b g d f o1 o2 => by
          rcases HCC.out with ⟨h, _⟩ | ⟨_, h | h⟩
          · exact hc0 h
          · exact HCR.out.2.no_may HSM.out (by rw [HCB.out]; exact h) b g d f o1 o2
          · exact HCR.out.2.no_many HSM.out h b g d f o1))
        clear hc0
        have HB8 := Lib.hid HI7.out.bel
        have BX := Lib.hid HI7.out.bx
        have zb := BX.out
        have zb0 := zb.cell 0
        have fb0 := zb.frozen 0
        have zb1 := zb.cell 1
        have fb1 := zb.frozen 1
        simp only [List.getElem?_toArray, List.getElem?_cons_zero, List.getElem?_cons_succ] at zb0 zb1
        have X9 := Lib.hid ((zb.put 0 (.int .i64 0)).put 1 (.slice none 0 0))
        have HB9 := Lib.hid ((HB8.out.setCell (p := ⟨w.heap.size, 0, none⟩) (Nat.le_refl _) (.int .i64 0)).setCell (p := ⟨w.heap.size, 1, none⟩) (Nat.le_refl _) (.slice none 0 0))
        clear zb
        go_wp2_with fail
        clear zb0 fb0 zb1 fb1
        generalize ((v2.setCell ⟨w.heap.size, 0, none⟩ (.int .i64 0)).setCell ⟨w.heap.size, 1, none⟩ (.slice none 0 0)) = W9 at *
        have q0 := X9.out.cell 0
        have q1 := X9.out.cell 1
        simp at q0 q1
        refine bodyPost_ret (v := .tuple #[.agg #[.int .i64 0, .slice none 0 0], .int .i64 4]) (by simp [results, Tryz.results31, go_sem, q0, q1]) rfl ?_
        exact ⟨.inr ⟨HX.out, rfl⟩, HB9.out⟩
      subst hc0
      have HX := Lib.hid (show CkRd L e (splitW es (pls.map plC)) by
        rcases HCC.out with ⟨_, h1, h2⟩ | ⟨h, _⟩
        · exact ckrd_mk HF.out HWH.out HU1.out HU2.out (by rw [HCR.out.2.all, HRE.out]) (HCR.out.2.whole HSM.out) (HCR.out.2.ok HSM.out h2) (by rw [HCB.out]; exact h1)
        · exact absurd rfl h)
      have HB8 := Lib.hid HI7.out.bel
      have BX := Lib.hid HI7.out.bx
      have y0 := HI7.out.bd.cell 0
      have y1 := HI7.out.bd.cell 1
      simp at y0 y1
      have HDL := Lib.hid (show w.heap.size < D + 1 by have := HI7.out.l1; have := HI7.out.l2; omega)
      have HTZ := Lib.hid (HT7.out.oth HDL.out (oth_trans (oth_set v2 w.heap.size 0 (.int .i64 (e : Int))) (oth_set _ _ 1 (.slice va i vc))))
      have zb := BX.out
      have zb0 := zb.cell 0
      have fb0 := zb.frozen 0
      have zb1 := zb.cell 1
      have fb1 := zb.frozen 1
      simp only [List.getElem?_toArray, List.getElem?_cons_zero, List.getElem?_cons_succ] at zb0 zb1
      have X9 := Lib.hid ((zb.put 0 (.int .i64 (e : Int))).put 1 (.slice va i vc))
      have HB9 := Lib.hid ((HB8.out.setCell (p := ⟨w.heap.size, 0, none⟩) (Nat.le_refl _) (.int .i64 (e : Int))).setCell (p := ⟨w.heap.size, 1, none⟩) (Nat.le_refl _) (.slice va i vc))
      clear zb
      go_wp2_with fail
      clear zb0 fb0 zb1 fb1
      generalize ((v2.setCell ⟨w.heap.size, 0, none⟩ (.int .i64 (e : Int))).setCell ⟨w.heap.size, 1, none⟩ (.slice va i vc)) = W9 at *
      have q0 := X9.out.cell 0
      have q1 := X9.out.cell 1
      simp at q0 q1
      refine bodyPost_ret (v := .tuple #[.agg #[.int .i64 (e : Int), .slice va i vc], .int .i64 0]) (by simp [results, Tryz.results31, go_sem, q0, q1]) rfl ?_
      exact ⟨.inl ⟨e, _, HX.out, _, ts, rfl, HTZ.out.base (Nat.le_of_lt HDL.out), HTS.out.1, HTS.out.2.2⟩, HB9.out⟩
end Go.Proofs.YtglkndoghnblcaaGreat
namespace Go.Proofs.YtglkndoghnblcaaGreat
open Go.ChangeShapes Go.WideShapes Go.ChangeAt Go.RowKit Go.Deep Go.Joins
set_option linter.unusedVariables false
set_option linter.unusedSimpArgs false
section
variable {H : Type} {enc : TypeId × Value → H} {w : World} {base b0 : Nat} {held : Bool} {r : Reach} {v : Value} {d : DataW H} {ps : List MemPlace}
theorem open_agg2' {P : Program} {spare : Nat → Bool} {t : TypeId} {f0 f1 : Field} {p : List MemPlace} (hs : P.underlying t = some (.struct #[f0, f1])) (hone : oneCellFields P #[f0, f1] = true) (hC : P.cellsOf t = 2)
    (hv : Value.okWide P w r b0 t v) (h : DataW.Trod enc P w base spare held t v d p) :
    ∃ (v0 v1 : Value) (y0 y1 : DataW H × List MemPlace) (n : Nat), v = .agg #[v0, v1] ∧ d = .agg [y0.1, y1.1] ∧
      DataW.trod enc P w base spare held n f0.type [v0] = some y0 ∧ DataW.trod enc P w base spare held n f1.type [v1] = some y1 := by
  obtain ⟨cs, rfl, hsz⟩ := okWide_struct hs hv
  obtain ⟨l⟩ := cs
  match l, hsz.trans hC with
  | [c0, c1], _ =>
    obtain ⟨fuel, hf⟩ := h
    obtain ⟨xs, n, _, hx, _, hlen, hg⟩ := DataW.trod_struct hs hf
    obtain ⟨o0, k0⟩ := hone_of hone 0 f0 rfl
    obtain ⟨o1, k1⟩ := hone_of hone 1 f1 rfl
    match xs, hlen with
    | [y0, y1], _ =>
      simp only [Prod.mk.injEq] at hx
      exact ⟨c0, c1, y0, y1, n, rfl, by simpa using hx.1, by simpa [Value.cells, o0, k0] using hg 0 f0 rfl, by simpa [Value.cells, o1, k1] using hg 1 f1 rfl⟩
end
section
variable {H : Type} {enc : TypeId × Value → H} {w : World} {base b0 : Nat} {held : Bool} {r : Reach} {v : Value} {d : DataW H} {ps : List MemPlace}
theorem op_bytes_sz {m : Nat} {u : Value} {x : DataW H × List MemPlace} (h : DataW.trod enc Tryz.prog w base (fun _ => true) held m 22 [u] = some x) (hsz : ∀ n ∈ x.1.weights Tryz.prog 22, n ≤ reachBytes) :
    ∃ (a : Option Addr) (L : List Int) (n c : Nat), u = .slice a n c ∧ L.length = n ∧ Byt L ∧ Ls .u8 w a c L ∧ n ≤ 140737488355328 := by
  obtain ⟨a, L, n, c, e, h1, h2, h3⟩ := op_bytes h
  refine ⟨a, L, n, c, e, h1, h2, h3, ?_⟩
  rcases open_slice Tryz.underlying22 h with ⟨hcs, _⟩ | ⟨y, l, c, k, _, D, Pl, hcs, _, hl, hm, _, rfl, _⟩
  · simp only [List.cons.injEq, and_true] at hcs
    rw [hcs] at e
    cases e
    exact Nat.zero_le _
  · simp only [List.cons.injEq, and_true] at hcs
    rw [hcs] at e
    cases e
    exact (slice_sz Tryz.underlying22 (of_decide_eq_true (by kernel_rfl)) hsz).1
def StL (o : StP) : Prop := o.key.length ≤ 140737488355328 ∧ o.R.length ≤ 140737488355328
theorem c1_59 : Tryz.prog.cellsOf 59 = 4 := by kernel_rfl
theorem c1_57 : Tryz.prog.cellsOf 57 = 1 := by kernel_rfl
set_option maxRecDepth 100000 in
theorem one_st {m : Nat} {cs : List Value} {x : DataW H × List MemPlace} (h : DataW.trod enc Tryz.prog w base (fun _ => true) held m 59 cs = some x) (hlen : cs.length = 4) (hsz : ∀ n ∈ x.1.weights Tryz.prog 59, n ≤ reachBytes) :
    ∃ o : StP, cs = o.cells ∧ StOk w o ∧ StL o := by
  match cs, hlen with
  | [u0, u1, u2, u3], _ =>
    obtain ⟨xs, m2, _, hx, _, hl2, hel⟩ := DataW.trod_struct Tryz.underlying59 h
    have g0 : DataW.trod enc Tryz.prog w base (fun _ => true) held m2 22 (List.take (Tryz.prog.cellsOf 22) (List.drop 0 [u0, u1, u2, u3])) = xs[0]? := hel 0 _ rfl
    have g1 : DataW.trod enc Tryz.prog w base (fun _ => true) held m2 49 (List.take (Tryz.prog.cellsOf 49) (List.drop 1 [u0, u1, u2, u3])) = xs[1]? := hel 1 _ rfl
    have g2 : DataW.trod enc Tryz.prog w base (fun _ => true) held m2 36 (List.take (Tryz.prog.cellsOf 36) (List.drop 2 [u0, u1, u2, u3])) = xs[2]? := hel 2 _ rfl
    rw [c1_22] at g0
    rw [c1_49] at g1
    rw [c1_36] at g2
    simp only [List.drop, List.take] at g0 g1 g2
    match xs, hl2 with
    | [y0, y1, y2], _ =>
      have hx1 : x.1 = .agg [y0.1, y1.1, y2.1] := by rw [hx]; rfl
      rw [hx1] at hsz
      have all : ∀ (j : Nat) (t : TypeId) (dd : DataW H), [22, 49, 36][j]? = some t → [y0.1, y1.1, y2.1][j]? = some dd → ∀ n ∈ dd.weights Tryz.prog t, n ≤ reachBytes := fun j t dd hj hdj n hn => hsz n (by
        have := DataW.weights_mem_each (P := Tryz.prog) (ts := [22, 49, 36]) (ds := [y0.1, y1.1, y2.1]) (j := j) (t := t) hj hdj n hn
        simpa [DataW.weights, Tryz.underlying59] using this)
      obtain ⟨ys, m3, _, _, _, hl3, hel3⟩ := DataW.trod_struct Tryz.underlying36 g2
      have k0 : DataW.trod enc Tryz.prog w base (fun _ => true) held m3 2 (List.take (Tryz.prog.cellsOf 2) (List.drop 0 [u2, u3])) = ys[0]? := hel3 0 _ rfl
      have k1 : DataW.trod enc Tryz.prog w base (fun _ => true) held m3 2 (List.take (Tryz.prog.cellsOf 2) (List.drop (Tryz.prog.cellsOf 2) [u2, u3])) = ys[1]? := hel3 1 _ rfl
      rw [c1_2] at k0 k1
      simp only [List.drop, List.take] at k0 k1
      match ys, hl3 with
      | [v0, v1], _ =>
        obtain ⟨z0, e0, _⟩ := DataW.trod_int Tryz.underlying2 k0
        obtain ⟨z1, e1, _⟩ := DataW.trod_int Tryz.underlying2 k1
        obtain ⟨a1, L1, n1, k1, e2, l1, b1, s1, i1⟩ := op_bytes_sz g0 (all 0 22 _ rfl rfl)
        obtain ⟨a2, R2, n2, k2, e3, l2, r2, b2, i2⟩ := op_row g1 (all 1 49 _ rfl rfl)
        simp only [List.cons.injEq, and_true] at e0 e1
        subst l1 l2
        exact ⟨⟨a1, k1, L1, a2, k2, R2, z0, z1⟩, by rw [e0, e1, e2, e3]; rfl, ⟨s1, r2, b1, b2⟩, i1, i2⟩
/-- A slice of stored rows, opened. -/
theorem open_sts {m : Nat} {u : Value} {x : DataW H × List MemPlace} (h : DataW.trod enc Tryz.prog w base (fun _ => true) held m 57 [u] = some x) (hsz : ∀ n ∈ x.1.weights Tryz.prog 57, n ≤ reachBytes) :
    ∃ t : TbP, u = t.v ∧ StsR w t.a t.xs ∧ t.xs.length ≤ 140737488355328 ∧ ∀ o ∈ t.xs, StL o := by
  rcases open_slice Tryz.underlying57 h with ⟨hcs, _⟩ | ⟨y, l, c, k, m2, D, Pl, hcs, _, hl, hm, hk, rfl, hi⟩
  · simp only [List.cons.injEq, and_true] at hcs
    subst hcs
    exact ⟨⟨none, 0, []⟩, rfl, fun k o ho => by simp at ho, Nat.zero_le _, fun o ho => by simp at ho⟩
  · simp only [List.cons.injEq, and_true] at hcs
    subst hcs
    have hkl : l ≤ k := by rw [hk]; split <;> omega
    obtain ⟨sl, sd⟩ := slice_sz Tryz.underlying57 (of_decide_eq_true (by kernel_rfl)) hsz
    obtain ⟨L, hL, hp⟩ := list_of (p := fun i (o : StP) => (∀ j v, o.cells[j]? = some v → w.cell? ((y.add (i * 4)).add j) = some v) ∧ StOk w o ∧ StL o) l (fun i him => by
      obtain ⟨cs', hc, ht⟩ := hi i (by omega)
      rw [c1_59] at hc
      obtain ⟨_, hcl, hat⟩ := World.cells?_some hc
      obtain ⟨o, ho, hca, hrn⟩ := one_st ht hcl (sd i him)
      refine ⟨o, fun j v hj => ?_, hca, hrn⟩
      have hj7 : j < 4 := by have := (List.getElem?_eq_some_iff.1 hj).1; simpa [StP.cells] using this
      rw [hat j hj7, ho]; exact hj)
    refine ⟨⟨some y, c, L⟩, by unfold TbP.v; rw [hL], fun i o ho => ?_, by rw [hL]; omega, fun o ho => ?_⟩
    · obtain ⟨b, off, spot⟩ := y
      obtain ⟨h0, hca, _⟩ := hp i o ho
      have hil : i < L.length := (List.getElem?_eq_some_iff.1 ho).1
      obtain ⟨z0, _, _⟩ := hp 0 L[0] (List.getElem?_eq_getElem (by omega))
      have hspot : spot = none := by simpa [Addr.add] using World.cell?_spot (z0 0 _ rfl)
      subst hspot
      have q : ∀ j v, o.cells[j]? = some v → w.cell? ⟨b, off + i * 4 + j, none⟩ = some v := fun j v hj => by
        have := h0 j v hj
        rwa [addr_add, addr_add] at this
      exact ⟨b, off, rfl, q 0 _ rfl, q 1 _ rfl, q 2 _ rfl, q 3 _ rfl, hca⟩
    · obtain ⟨i, hi'⟩ := List.mem_iff_getElem?.1 ho
      exact (hp i o hi').2.2
/-- A slice of tables, opened. -/
theorem open_tbs {m : Nat} {u : Value} {x : DataW H × List MemPlace} (h : DataW.trod enc Tryz.prog w base (fun _ => true) held m 54 [u] = some x) (hsz : ∀ n ∈ x.1.weights Tryz.prog 54, n ≤ reachBytes) :
    ∃ (a : Option Addr) (L : List TbP) (c : Nat), u = .slice a L.length c ∧ TbsR w a L ∧ L.length ≤ 140737488355328 ∧ ∀ t ∈ L, t.xs.length ≤ 140737488355328 ∧ ∀ o ∈ t.xs, StL o := by
  rcases open_slice Tryz.underlying54 h with ⟨hcs, _⟩ | ⟨y, l, c, k, m2, D, Pl, hcs, _, hl, hm, hk, rfl, hi⟩
  · simp only [List.cons.injEq, and_true] at hcs
    subst hcs
    exact ⟨none, [], 0, rfl, fun k o ho => by simp at ho, Nat.zero_le _, fun o ho => by simp at ho⟩
  · simp only [List.cons.injEq, and_true] at hcs
    subst hcs
    have hkl : l ≤ k := by rw [hk]; split <;> omega
    obtain ⟨sl, sd⟩ := slice_sz Tryz.underlying54 (of_decide_eq_true (by kernel_rfl)) hsz
    obtain ⟨L, hL, hp⟩ := list_of (p := fun i (t : TbP) => (∀ j v, [t.v][j]? = some v → w.cell? ((y.add (i * 1)).add j) = some v) ∧ StsR w t.a t.xs ∧ t.xs.length ≤ 140737488355328 ∧ ∀ o ∈ t.xs, StL o) l (fun i him => by
      obtain ⟨cs', hc, ht⟩ := hi i (by omega)
      rw [c1_57] at hc
      obtain ⟨_, hcl, hat⟩ := World.cells?_some hc
      match cs', hcl with
      | [u], _ =>
        obtain ⟨t, ho, hca, hrn⟩ := open_sts ht (sd i him)
        refine ⟨t, fun j v hj => ?_, hca, hrn⟩
        have hj7 : j < 1 := by have := (List.getElem?_eq_some_iff.1 hj).1; simpa using this
        rw [hat j hj7, ho]; exact hj)
    refine ⟨some y, L, c, by rw [hL], fun i t ho => ?_, by omega, fun t ho => ?_⟩
    · obtain ⟨b, off, spot⟩ := y
      obtain ⟨h0, hca, _⟩ := hp i t ho
      have hil : i < L.length := (List.getElem?_eq_some_iff.1 ho).1
      obtain ⟨z0, _, _⟩ := hp 0 L[0] (List.getElem?_eq_getElem (by omega))
      have hspot : spot = none := by simpa [Addr.add] using World.cell?_spot (z0 0 _ rfl)
      subst hspot
      have q := h0 0 _ rfl
      rw [addr_add, addr_add, Nat.mul_one, Nat.add_zero] at q
      exact ⟨b, off, rfl, q, hca⟩
    · obtain ⟨i, hi'⟩ := List.mem_iff_getElem?.1 ho
      exact (hp i t hi').2.2
set_option maxRecDepth 100000 in
/-- A checkpoint that came in, by value. -/
theorem open_ck (hval : Value.okWide Tryz.prog w r b0 56 v) (hd : DataW.Trod enc Tryz.prog w base (fun _ => true) held 56 v d ps) (hsz : ∀ n ∈ d.weights Tryz.prog 56, n ≤ reachBytes) :
    ∃ (e : Int) (a : Option Addr) (ts : List TbP) (c : Nat), v = .agg #[.int .i64 e, .slice a ts.length c] ∧ TbsR w a ts ∧ ts.length ≤ 140737488355328 ∧ ∀ t ∈ ts, t.xs.length ≤ 140737488355328 ∧ ∀ o ∈ t.xs, StL o := by
  obtain ⟨v0, v1, y0, y1, n, rfl, rfl, h0, h1⟩ := open_agg2' Tryz.underlying56 (by kernel_rfl) (by kernel_rfl) hval hd
  have all : ∀ n ∈ y1.1.weights Tryz.prog 54, n ≤ reachBytes := fun n hn => hsz n (by
    have := DataW.weights_mem_each (P := Tryz.prog) (ts := [2, 54]) (ds := [y0.1, y1.1]) (j := 1) (t := 54) rfl rfl n hn
    simpa [DataW.weights, Tryz.underlying56] using this)
  obtain ⟨x0, e0, _⟩ := DataW.trod_int Tryz.underlying2 h0
  obtain ⟨a, L, c, rfl, l1, l2, l3⟩ := open_tbs h1 all
  simp only [List.cons.injEq, and_true] at e0
  subst e0
  exact ⟨x0, a, L, c, rfl, l1, l2, l3⟩
end
end Go.Proofs.YtglkndoghnblcaaGreat
namespace Go.Proofs.YtglkndoghnblcaaGreat
open Go.ChangeShapes Go.WideShapes Go.ChangeAt Go.RowKit
set_option linter.unusedVariables false
set_option linter.unusedSimpArgs false
def SmX (x : StP) : Prop := x.key.length + szF x.R ≤ 200
def SmT (ts : List TbP) (i : Nat) : Prop := ∀ j, j < i → ∀ t, ts[j]? = some t → ∀ x ∈ t.xs, SmX x
theorem SmX.row {x : StP} (h : SmX x) : x.key.length ≤ 200 ∧ x.R.length ≤ 200 := by
  have h1 := szF_ge x.R
  unfold SmX at h
  omega
/-- What ReadCheckpoint answers, the program's or the document's, in one form. -/
def RcO (w : World) (E : Int) (C : List (List C4)) (er : Int) (r : Ending) (w' : World) : Prop :=
  ∃ (a : Option Addr) (n c : Nat) (ts : List TbP), r = .returned (.tuple #[.agg #[.int .i64 E, .slice a n c], .int .i64 er]) ∧ ts.length = n ∧ n ≤ 1000000 ∧ ts.map tbC = C ∧ (∀ t ∈ ts, t.xs.length ≤ 1000000 ∧ ∀ x ∈ t.xs, x.R.length ≤ 1000000) ∧ TbsR w' a ts ∧ Below w.heap.size w w'
theorem rco_of {L : List Int} (hL : L.length ≤ 1000000) : ∃ (E : Int) (C : List (List C4)) (er : Int), ∀ w r w', RckR w L r w' → RcO w E C er r w' := by
  by_cases h : ∃ e tabs, CkRd L e tabs
  · obtain ⟨e, tabs, h⟩ := h
    refine ⟨(e : Int), tabs, 0, fun w r w' k => ?_⟩
    obtain ⟨⟨e', tabs', h', v, ts, rfl, hto, hm, hb⟩ | ⟨no, _⟩, b⟩ := k
    · obtain ⟨rfl, rfl⟩ := ckrd_one h h'
      obtain ⟨at_, ct, hv⟩ := own_form hto.row
      subst hv
      obtain ⟨_, _, hR⟩ := hto.lies hb
      obtain ⟨p, ps, R1, R2, each, pls, hF, hw, h1, h2, h3, h4, ok, ht, hbc⟩ := ckrd_inv h
      have hmt : ts.map tbC = tabs := hm
      have hps : pls.length ≤ 1000000 := by
        have h5 := congrArg List.length h4
        rw [List.length_map, List.length_map] at h5
        have h6 := sumF_ge (framesL L) _ (Nat.le_refl _)
        have h7 : wholeL L = sumF (framesL L) (framesL L).length := (sumF_all _).symm
        have h8 := congrArg List.length hF
        rw [List.length_cons] at h8
        omega
      have hck : ckB (e : Int) ts = true := by rw [ckB_c, hm]; exact hbc
      have ok2 := ck_ok hck
      refine ⟨at_, ts.length, ct, ts, rfl, rfl, by have := ok2.n; omega, hmt, fun t htt => ⟨?_, fun x hx => ?_⟩, hR, b⟩
      · have h5 : tbC t ∈ splitW each (pls.map plC) := by rw [← ht, ← hmt]; exact List.mem_map_of_mem htt
        have h6 := splitW_le _ _ _ h5
        rw [List.length_map] at h6
        have : (tbC t).length = t.xs.length := by simp [tbC]
        omega
      · have h5 := (ok2.all t htt x hx).r
        have := ((mayR_iff x.R).1 h5).2.2
        omega
    · exact absurd h (no e tabs)
  · refine ⟨0, [], 4, fun w r w' k => ?_⟩
    obtain ⟨⟨e', tabs', h', _⟩ | ⟨_, rfl⟩, b⟩ := k
    · exact absurd ⟨e', tabs', h'⟩ h
    · exact ⟨none, 0, 0, [], rfl, rfl, by omega, rfl, fun t ht => by simp at ht, fun k t ht => by simp at ht, b⟩
/-- What PutCheckpoint answers, in one form. -/
def PkO (w : World) (e : Int) (ts : List TbP) (r : Ending) (w' : World) : Prop :=
  ∃ (fa : Option Addr) (fl fc : Nat) (F : List Int), r = .returned (.tuple #[.slice fa fl fc, .int .i64 (ckE e ts)]) ∧ F.length = fl ∧ Ls .u8 w' fa fc F ∧ Below w.heap.size w w' ∧ (ckE e ts = 0 → F = ckW e.toNat ts) ∧ (ckE e ts ≠ 0 → fl = 0)
theorem putck_o (e : Int) (a : Option Addr) (ts : List TbP) (n cap : Nat) (hn : ts.length = n) (hn2 : n ≤ 1000000) (hxs : ∀ t ∈ ts, t.xs.length ≤ 1000000 ∧ ∀ x ∈ t.xs, x.R.length ≤ 1000000) (hc : cntT ts n ≤ 1000000000) (w : World) (hR : TbsR w a ts) :
    Calls Tryz.prog 29 #[.agg #[.int .i64 e, .slice a n cap]] w (PkO w e ts) := by
  have hp : Calls Tryz.prog 29 #[.agg #[.int .i64 e, .slice a n cap]] w (PckR w e ts) := by
    cases hb : ckB e ts with
    | false => exact putck_no e a ts n cap hn hn2 hxs w hR hb
    | true =>
      by_cases hl : 4096 < cntT ts n
      · exact putck_long e a ts n cap hn hn2 hxs w hR hb hc hl
      · exact putck_ok e a ts n cap hn hn2 hxs w hR hb (by omega)
  refine hp.mono ?_
  rintro r w' ⟨⟨hb, rfl⟩ | ⟨hb, hl, rfl⟩ | ⟨hb, hl, a', c', rfl, ho, hls⟩, b⟩
  · have h1 := ckE_no hb
    exact ⟨none, 0, 0, [], by rw [h1], rfl, Ls.nul _ _, b, fun h => (by rw [h1] at h; cases h), fun _ => rfl⟩
  · have h1 : ckE e ts = 3 := by unfold ckE; rw [hb, if_pos hl]; rfl
    exact ⟨none, 0, 0, [], by rw [h1], rfl, Ls.nul _ _, b, fun h => (by rw [h1] at h; cases h), fun _ => rfl⟩
  · have h1 : ckE e ts = 0 := by unfold ckE; rw [hb, if_pos rfl, if_neg (by omega)]
    exact ⟨a', _, c', _, by rw [h1], rfl, hls, b, fun _ => rfl, fun h => absurd h1 h⟩
theorem ckE_0 {e : Int} {ts : List TbP} (h : ckE e ts = 0) : ckB e ts = true ∧ cntT ts ts.length ≤ 4096 := by
  unfold ckE at h
  cases hb : ckB e ts with
  | false => rw [hb] at h; simp at h
  | true =>
    rw [hb] at h
    simp only [if_true] at h
    split at h
    · cases h
    · exact ⟨rfl, by omega⟩
set_option maxRecDepth 100000 in
set_option maxHeartbeats 4000000 in
/-- LogCheckpoints (5). -/
theorem logcheckpoints_law (e : Int) (a : Option Addr) (ts : List TbP) (n c : Nat) (ba : Option Addr) (L : List Int) (bl bc : Nat) (hn : ts.length = n) (hn2 : n ≤ 140737488355328) (hbig : ∀ t ∈ ts, t.xs.length ≤ 140737488355328 ∧ ∀ o ∈ t.xs, StL o) (hbl : L.length = bl) (hB : Byt L) (w : World) (hR : TbsR w a ts) (hL : Ls .u8 w ba bc L) :
    Calls Tryz.prog 5 #[.agg #[.int .i64 e, .slice a n c], .slice ba bl bc] w fun r w' => r = .returned (.bool true) ∧ Below w.heap.size w w' := by
  have HN := Lib.hid (And.intro hn hbig)
  have HBL := Lib.hid (And.intro hbl hB)
  have HR := Lib.hid (And.intro hR hL)
  clear hn hbig hbl hB hR hL
  go_enter Tryz.func5, Tryz.ntmps5
  go_upto_region 1 with (fail)
  obtain ⟨W1, hW0⟩ : ∃ W0, w.alloc (.cells #[.int .i64 e, .slice a n c] 56) = W0 := ⟨_, rfl⟩
  have hb0 : Below w.heap.size w W1 := by rw [← hW0]; exact bl1 _ _
  have bx : BoxC W1 w.heap.size #[.int .i64 e, .slice a n c] 56 := by rw [← hW0]; exact BoxC.new w _ 56
  try rw [hW0]
  clear hW0
  have HB0 := Lib.hid hb0
  have FQ := Lib.hid (fun X (b' : Below W1.heap.size W1 X) => (⟨(bx.below b').cell 0, (bx.below b').cell 1⟩ : X.cell? ⟨w.heap.size, 0, none⟩ = some (.int .i64 e) ∧ X.cell? ⟨w.heap.size, 1, none⟩ = some (.slice a n c)))
  clear hb0 bx
  obtain ⟨z0, z1⟩ := FQ.out _ (Below.refl _ _)
  go_wp2_with fail
  clear z0 z1
  go_loopw [5, 6, 7] (fun q i k wr => ∃ (s j : Nat), j ≤ n ∧ q = .int .i64 (s : Int) ∧ i = .int .i64 (j : Int) ∧ s ≤ 140737488355328 ∧ Hid (s ≤ 5000 → s = n + cntT ts j ∧ SmT ts j) ∧ Hid (Below W1.heap.size W1 wr)) (fun _ i _ _ => n - (intOf i).toNat)
  case atStart => exact ⟨n, 0, by omega, rfl, rfl, hn2, Lib.hid (fun _ => ⟨by simp [cntT], fun j hj => by omega⟩), Lib.hid (Below.refl _ _)⟩
  case round =>
    obtain ⟨s, j, hj, rfl, rfl, hs, HS, HBW⟩ := hrel
    obtain ⟨z0, z1⟩ := FQ.out wr HBW.out
    by_cases hlt : j < n
    · have d1 : (j : Int) < (n : Int) := by omega
      by_cases hs5 : s ≤ 5000
      · have d2 : (s : Int) ≤ 5000 := by omega
        obtain ⟨t, ht⟩ : ∃ t, ts[j]? = some t := ⟨_, List.getElem?_eq_getElem (by rw [HN.out.1]; exact hlt)⟩
        have HTT := Lib.hid ht
        obtain ⟨bt, ot, rfl, ct, _⟩ := (HR.out.1.below (step_below HB0.out HBW.out)) j t ht
        obtain ⟨m, hm⟩ : ∃ m, t.xs.length = m := ⟨_, rfl⟩
        have HM := Lib.hid (And.intro hm (HN.out.2 t (List.mem_of_getElem? ht)))
        have hm2 : m ≤ 140737488355328 := by rw [← hm]; exact (HN.out.2 t (List.mem_of_getElem? ht)).1
        have HCN := Lib.hid (show cntT ts (j + 1) = cntT ts j + m by rw [cntT_next ht, hm])
        rw [hm] at ct
        have hmin : (if (5001 : Int) < (m : Int) then (5001 : Int) else (m : Int)) = ((min m 5001 : Nat) : Int) := by split <;> omega
        have hw1 : IntKind.i64.wrap ((s : Int) + ((min m 5001 : Nat) : Int)) = ((s + min m 5001 : Nat) : Int) := by rw [IntKind.wrap_i64]; omega
        obtain ⟨mm, hmm⟩ : ∃ mm, min m 5001 = mm := ⟨_, rfl⟩
        have HMM := Lib.hid hmm
        rw [hmm] at hmin hw1
        have hmm2 : mm ≤ 5001 := by omega
        have HS5 := Lib.hid (HS.out hs5)
        clear ht hm hmm hs5
        go_upto_region 7 with (fail)
        obtain ⟨WO, rfl⟩ : ∃ WO, WO = wr := ⟨_, rfl⟩
        clear hmin hw1
        go_loopw [5, 7] (fun q k wr => ∃ (s' l : Nat), l ≤ m ∧ q = .int .i64 (s' : Int) ∧ k = .int .i64 (l : Int) ∧ s' ≤ 10001 ∧ Hid (s' ≤ 5000 → s' = n + cntT ts (j + 1) ∧ SmT ts j ∧ ∀ x ∈ t.xs.take l, SmX x) ∧ Hid (Below W1.heap.size W1 wr)) (fun _ k _ => m - (intOf k).toNat)
        case atStart => exact ⟨s + mm, 0, by omega, by first | rfl | (simp; done) | go_num, rfl, by omega, Lib.hid (fun h => ⟨by have := HMM.out; have := HCN.out; have := HS5.out.1; omega, HS5.out.2, fun x hx => by simp at hx⟩), HBW⟩
        case round =>
          obtain ⟨s', l, hl, rfl, rfl, hs', HS', HBV⟩ := hrel
          clear z0 z1 ct
          obtain ⟨z0, z1⟩ := FQ.out wr HBV.out
          obtain ⟨_, _, ea, ct, hst⟩ := (HR.out.1.below (step_below HB0.out HBV.out)) j t HTT.out
          cases ea
          rw [HM.out.1] at ct
          by_cases hlm : l < m
          · have d3 : (l : Int) < (m : Int) := by omega
            by_cases hs6 : s' ≤ 5000
            · have d4 : (s' : Int) ≤ 5000 := by omega
              obtain ⟨x, hx⟩ : ∃ x, t.xs[l]? = some x := ⟨_, List.getElem?_eq_getElem (by rw [HM.out.1]; exact hlm)⟩
              obtain ⟨bx, ox, hta, c0, c1, _, _, ok⟩ := hst l x hx
              rw [hta] at ct
              have HSF := Lib.hid (fun W (b : Below wr.heap.size wr W) => sizef_law x.ra x.R x.R.length x.rc rfl W (ok.row.below b))
              have hxl := HM.out.2.2 x (List.mem_of_getElem? hx)
              obtain ⟨sf, hsf⟩ : ∃ s, szF x.R = s := ⟨_, rfl⟩
              have hsf2 := szF_le x.R
              have hxl1 := hxl.1
              have hxl2 := hxl.2
              rw [hsf] at HSF hsf2
              obtain ⟨xl, hxl3⟩ : ∃ y, x.key.length = y := ⟨_, rfl⟩
              obtain ⟨xrl, hxrl⟩ : ∃ y, x.R.length = y := ⟨_, rfl⟩
              rw [hxl3] at c0 hxl1
              rw [hxrl] at c1 HSF hxl2 hsf2
              have hsum : IntKind.i64.wrap ((xl : Int) + (sf : Int)) = ((xl + sf : Nat) : Int) := by rw [IntKind.wrap_i64]; omega
              obtain ⟨big, hbg⟩ : ∃ b, decide (200 < xl + sf) = b := ⟨_, rfl⟩
              have HBG := Lib.hid (show decide ((200 : Int) < ((xl + sf : Nat) : Int)) = big by rw [← hbg, decide_eq_decide]; omega)
              have HNX := Lib.hid (show big = false → ∀ y ∈ t.xs.take (l + 1), (∀ y ∈ t.xs.take l, SmX y) → SmX y from fun hb y hy hall => by
                rw [List.take_add_one, hx] at hy
                rcases List.mem_append.1 hy with hy | hy
                · exact hall y hy
                · simp only [Option.toList_some, List.mem_singleton] at hy
                  subst hy
                  unfold SmX
                  rw [hxl3, hsf]
                  have := of_decide_eq_false (hbg.trans hb)
                  omega)
              have FX := Lib.hid (fun W (b : Below wr.heap.size wr W) => (⟨(b.cell (cell_lt z1)).trans z1, (b.cell (cell_lt ct)).trans ct, (b.cell (cell_lt c0)).trans c0, (b.cell (cell_lt c1)).trans c1⟩ : W.cell? ⟨w.heap.size, 1, none⟩ = some (.slice (some ⟨bt, ot, none⟩) n c) ∧ W.cell? ⟨bt, ot + j, none⟩ = some (.slice (some ⟨bx, ox, none⟩) m t.c) ∧ W.cell? ⟨bx, ox + l * 4, none⟩ = some (.slice x.ka xl x.kc) ∧ W.cell? ⟨bx, ox + l * 4 + 1, none⟩ = some (.slice x.ra xrl x.rc)))
              have HS6 := Lib.hid (HS'.out hs6)
              clear hx hta c0 c1 ok hxl hsf hxl3 hxrl hbg hs6 hst HS'
              go_upto_region 9 with (fail)
              rename_i KK hKK
              refine Code.wp_mono (Q := Exit.then KK (fun _ _ _ => False)) (fun e a' w' h => by cases e <;> first | exact h | exact h.elim) ?_
              refine wp_region_held_drew (S := (fun X => Below wr.heap.size wr X)) (by kernel_rfl) ((Below.refl _ _).drew) (fun hHeld => ?_)
              refine tp 0 ?_ rfl (.inl ⟨by rfl, ?_⟩) ?_
              rotate_left
              · intro W hSw; go_simp; try with_reducible rfl
              refine tp 1 ?_ rfl (.inl ⟨by rfl, ?_⟩) ?_
              rotate_left
              · intro W hSw; obtain ⟨z1, ct, x0, x1⟩ := FX.out W hSw; go_simp; try with_reducible rfl
              refine tp 2 ?_ rfl (.inl ⟨by rfl, ?_⟩) ?_
              rotate_left
              · intro W hSw; go_simp; try with_reducible rfl
              refine tp 3 ?_ rfl (.inl ⟨by rfl, ?_⟩) ?_
              rotate_left
              · intro W hSw; go_simp; try with_reducible rfl
              refine tp 4 ?_ rfl (.inl ⟨by rfl, ?_⟩) ?_
              rotate_left
              · intro W hSw; obtain ⟨z1, ct, x0, x1⟩ := FX.out W hSw; go_simp; try with_reducible rfl
              refine tp 5 ?_ rfl (.inl ⟨by rfl, ?_⟩) ?_
              rotate_left
              · intro W hSw; go_simp; try with_reducible rfl
              refine tp 6 ?_ rfl (.inl ⟨by rfl, ?_⟩) ?_
              rotate_left
              · intro W hSw; go_simp; try with_reducible rfl
              refine tp 7 ?_ rfl (.inl ⟨by rfl, ?_⟩) ?_
              rotate_left
              · intro W hSw; go_simp; try with_reducible rfl
              refine tp 8 ?_ rfl (.inl ⟨by rfl, ?_⟩) ?_
              rotate_left
              · intro W hSw; obtain ⟨z1, ct, x0, x1⟩ := FX.out W hSw; go_simp; try with_reducible rfl
              refine tp 9 ?_ rfl (.inl ⟨by rfl, ?_⟩) ?_
              rotate_left
              · intro W hSw; go_simp; try with_reducible rfl
              refine tp 10 ?_ rfl (.inl ⟨by rfl, ?_⟩) ?_
              rotate_left
              · intro W hSw; go_simp; try with_reducible rfl
              refine tp 11 ?_ rfl (.inl ⟨by rfl, ?_⟩) ?_
              rotate_left
              · intro W hSw; obtain ⟨z1, ct, x0, x1⟩ := FX.out W hSw; go_simp; try with_reducible rfl
              refine tp 12 ?_ rfl (.inl ⟨by rfl, ?_⟩) ?_
              rotate_left
              · intro W hSw; go_simp; try with_reducible rfl
              refine tp 13 ?_ rfl (.inl ⟨by rfl, ?_⟩) ?_
              rotate_left
              · intro W hSw; go_simp; try with_reducible rfl
              refine tp 14 ?_ rfl (.inl ⟨by rfl, ?_⟩) ?_
              rotate_left
              · intro W hSw; obtain ⟨z1, ct, x0, x1⟩ := FX.out W hSw; go_simp; try with_reducible rfl
              refine tp 15 ?_ rfl (.inl ⟨by rfl, ?_⟩) ?_
              rotate_left
              · intro W hSw; go_simp; try with_reducible rfl
              refine tp 16 ?_ rfl (.inl ⟨by rfl, ?_⟩) ?_
              rotate_left
              · intro W hSw; go_simp; try with_reducible rfl
              refine tp 17 ?_ rfl (.inl ⟨by rfl, ?_⟩) ?_
              rotate_left
              · intro W hSw; go_simp; try with_reducible rfl
              refine tp 18 ?_ rfl (.inl ⟨by rfl, ?_⟩) ?_
              rotate_left
              · intro W hSw; obtain ⟨z1, ct, x0, x1⟩ := FX.out W hSw; go_simp; try with_reducible rfl
              refine a1 19 rfl (fun K hK => ?_)
              go_simp
              refine (HSF.out _ hHeld).mono ?_; rintro e9 w4 ⟨rfl, rfl⟩
              go_wp2_with fail
              refine hK.out _ _ (hHeld) (fun hHeldn => ?_)
              clear hK K hHeld; have hHeld := hHeldn; clear hHeldn
              try simp only [Act.put, List.setIfInBounds_toArray, List.set_cons_zero, List.set_cons_succ]
              refine tp 20 (.int .i64 ((xl + sf : Nat) : Int)) rfl (.inl ⟨by rfl, ?_⟩) ?_
              · intro W hSw; go_simp; try (first | exact hsum | (simp [hsum]; done) | rfl)
              refine tp 21 (.bool big) rfl (.inl ⟨by rfl, ?_⟩) ?_
              · intro W hSw; go_simp; try (first | exact HBG.out | simp [HBG.out])
              refine wpAnyH_done (by kernel_rfl) ?_ _
              skip
              refine hKK _ _ ?_
              have HBN := Lib.hid (step_below HBV.out hHeld)
              clear hKK hHeld FX HSF hsum
              cases big with
              | true =>
                go_wp2_with fail
                go_roundw
                case rel => exact ⟨5001, l + 1, by omega, rfl, by go_num, by omega, Lib.hid (fun h => by omega), HBN⟩
                case measure => simp [intOf]; omega
              | false =>
                go_wp2_with fail
                go_roundw
                case rel => exact ⟨s', l + 1, by omega, rfl, by go_num, hs', Lib.hid (fun _ => ⟨HS6.out.1, HS6.out.2.1, fun y hy => HNX.out rfl y hy HS6.out.2.2⟩), HBN⟩
                case measure => simp [intOf]; omega
            · have d4 : ¬ (s' : Int) ≤ 5000 := by omega
              have HSX := Lib.hid (fun (h : s' ≤ 5000) => (absurd h hs6 : False))
              clear hs6
              go_wp2_with fail
              go_roundw
              case rel => exact ⟨s', j + 1, by omega, rfl, by go_num, by omega, Lib.hid (fun h => (HSX.out h).elim), HBV⟩
              case measure => simp [intOf]; omega
          · have d3 : ¬ (l : Int) < (m : Int) := by omega
            obtain rfl : l = m := by omega
            have HSN := Lib.hid (show s' ≤ 5000 → s' = n + cntT ts (j + 1) ∧ SmT ts (j + 1) from fun h => by
              obtain ⟨h1, h2, h3⟩ := HS'.out h
              refine ⟨h1, fun i hi u hu x hx => ?_⟩
              rcases Nat.lt_or_ge i j with hij | hij
              · exact h2 i hij u hu x hx
              · obtain rfl : i = j := by omega
                have h4 : u = t := by have h5 := HTT.out; rw [hu] at h5; exact Option.some.inj h5
                subst h4
                exact h3 x (by rw [List.take_of_length_le (by rw [HM.out.1]; exact Nat.le_refl _)]; exact hx))
            go_wp2_with fail
            go_roundw
            case rel => exact ⟨s', j + 1, by omega, rfl, by go_num, by omega, HSN, HBV⟩
            case measure => simp [intOf]; omega
      · have d2 : ¬ (s : Int) ≤ 5000 := by omega
        have d3 : (5000 : Int) < (s : Int) := by omega
        clear hs5
        go_wp2_with fail
        refine (known_law _).mono ?_; rintro r w5 ⟨rfl, hb5⟩
        have HB5 := Lib.hid (step_below (step_below HB0.out HBW.out) hb5)
        clear hb5
        go_wp2_with fail
        go_ret
        exact ⟨rfl, HB5.out⟩
    · have d1 : ¬ (j : Int) < (n : Int) := by omega
      obtain rfl : j = n := by omega
      by_cases hs5 : s ≤ 5000
      rotate_left
      · have d3 : (5000 : Int) < (s : Int) := by omega
        clear hs5
        go_wp2_with fail
        refine (known_law _).mono ?_; rintro r w5 ⟨rfl, hb5⟩
        have HB5 := Lib.hid (step_below (step_below HB0.out HBW.out) hb5)
        clear hb5
        go_wp2_with fail
        go_ret
        exact ⟨rfl, HB5.out⟩
      have d3 : ¬ (5000 : Int) < (s : Int) := by omega
      by_cases hbb : 30000 < bl
      · have e2 : (30000 : Int) < (bl : Int) := by omega
        clear hbb hs5
        go_wp2_with fail
        refine (known_law _).mono ?_; rintro r w5 ⟨rfl, hb5⟩
        have HB5 := Lib.hid (step_below (step_below HB0.out HBW.out) hb5)
        clear hb5
        go_wp2_with fail
        go_ret
        exact ⟨rfl, HB5.out⟩
      have e2 : ¬ (30000 : Int) < (bl : Int) := by omega
      have hbl2 : bl ≤ 30000 := by omega
      have hsm := HS.out hs5
      have hn5 : j ≤ 5000 := by omega
      have HCT := Lib.hid (show cntT ts j ≤ 5000 by have := hsm.1; omega)
      have HXS := Lib.hid (show ∀ t ∈ ts, t.xs.length ≤ 1000000 ∧ ∀ x ∈ t.xs, x.R.length ≤ 1000000 from fun t ht => by
        obtain ⟨i, hi⟩ := List.mem_iff_getElem?.1 ht
        have hil := (List.getElem?_eq_some_iff.1 hi).1
        refine ⟨?_, fun x hx => ?_⟩
        · have h1 := cntT_next hi
          have h2 := cntT_le ts (i + 1)
          rw [HN.out.1] at h2
          have := HCT.out
          omega
        · have h1 := (hsm.2 i (by rw [HN.out.1] at hil; exact hil) t hi x hx).row.2
          omega)
      have HPK := Lib.hid (fun W (b : Below W1.heap.size W1 W) => putck_o e a ts j c HN.out.1 (by omega) HXS.out (by have := HCT.out; omega) W (HR.out.1.below (step_below HB0.out b)))
      have HRK := Lib.hid (fun W (b : Below W1.heap.size W1 W) => rck_law e a ts j c HN.out.1 (by omega) (by have := HCT.out; omega) W (HR.out.1.below (step_below HB0.out b)))
      have HRD := Lib.hid (fun W (b : Below W1.heap.size W1 W) => readck_law ba L bl bc HBL.out.1 (by omega) HBL.out.2 W (HR.out.2.below (step_below HB0.out b)))
      have HRR := Lib.hid (fun W (b : Below W1.heap.size W1 W) => rreadck_law ba L bl bc HBL.out.1 (by omega) HBL.out.2 W (HR.out.2.below (step_below HB0.out b)))
      obtain ⟨E, C, er, hone⟩ := rco_of (L := L) (by rw [HBL.out.1]; omega)
      have HON := Lib.hid hone
      clear hbb hs5 hsm hone HS
      go_wp2_with fail
      refine (HPK.out _ HBW.out).mono ?_
      rintro r w2 ⟨fa, fl, fc, F, rfl, hF, hFL, hb2, hy, hno⟩
      have HB2 := Lib.hid (step_below HBW.out hb2)
      have HF := Lib.hid (And.intro hF (And.intro hy hno))
      have HF2 := Lib.hid hFL
      obtain ⟨ce, hce⟩ : ∃ ce, ckE e ts = ce := ⟨_, rfl⟩
      have HCE := Lib.hid hce
      rw [hce] at HF HRK ⊢
      clear hF hFL hb2 hy hno z0 z1 HPK hce
      go_wp2_with fail
      refine (HRD.out _ HB2.out).mono ?_
      intro r w3 h3
      obtain ⟨ya, yn, yc, ys, rfl, hyn, hyn2, hyC, hyb, hyR, hb3⟩ := HON.out _ _ _ h3
      have HB3 := Lib.hid (step_below HB2.out hb3)
      have HF3 := Lib.hid (HF2.out.below hb3)
      have HYS := Lib.hid (And.intro hyn (And.intro hyn2 (And.intro hyC hyb)))
      have HYR := Lib.hid hyR
      clear h3 hyn hyC hyb hyR hb3 HRD HF2
      go_upto_region 15 with (fail)
      obtain ⟨W4, hW4⟩ : ∃ W4, w3.alloc (.cells #[.int .i64 E, .slice ya yn yc] 56) = W4 := ⟨_, rfl⟩
      have hb4 : Below w3.heap.size w3 W4 := by rw [← hW4]; exact bl1 _ _
      have by4 : BoxC W4 w3.heap.size #[.int .i64 E, .slice ya yn yc] 56 := by rw [← hW4]; exact BoxC.new _ _ _
      try rw [hW4]
      have HB4 := Lib.hid (step_below HB3.out hb4)
      have HF4 := Lib.hid (HF3.out.below hb4)
      have HYR4 := Lib.hid (HYR.out.below hb4)
      have BY := Lib.hid by4
      clear hW4 hb4 by4 HF3 HYR
      generalize w3.heap.size = NY at *
      go_wp2_with fail
      refine (HRR.out _ HB4.out).mono ?_
      intro r w5 h5
      obtain ⟨za, zn, zc, zs, rfl, hzn, hzn2, hzC, hzb, hzR, hb5⟩ := HON.out _ _ _ h5
      have HB5 := Lib.hid (step_below HB4.out hb5)
      have HF5 := Lib.hid (HF4.out.below hb5)
      have HYR5 := Lib.hid (HYR4.out.below hb5)
      have BY5 := Lib.hid (BY.out.below hb5)
      have hzy : zn = yn := by
        have h1 := congrArg List.length (HYS.out.2.2.1.trans hzC.symm)
        rw [List.length_map, List.length_map, HYS.out.1, hzn] at h1
        exact h1.symm
      have HZS := Lib.hid (And.intro hzn hzC)
      have HZR := Lib.hid hzR
      clear h5 hzn hzC hzb hzR hb5 HRR HF4 HYR4 BY
      subst hzy
      go_upto_region 16 with (fail)
      obtain ⟨W6, hW6⟩ : ∃ W6, w5.alloc (.cells #[.int .i64 E, .slice za zn zc] 56) = W6 := ⟨_, rfl⟩
      have hb6 : Below w5.heap.size w5 W6 := by rw [← hW6]; exact bl1 _ _
      have bz6 : BoxC W6 w5.heap.size #[.int .i64 E, .slice za zn zc] 56 := by rw [← hW6]; exact BoxC.new _ _ _
      try rw [hW6]
      have HB6 := Lib.hid (step_below HB5.out hb6)
      have HF6 := Lib.hid (HF5.out.below hb6)
      have HYR6 := Lib.hid (HYR5.out.below hb6)
      have HZR6 := Lib.hid (HZR.out.below hb6)
      have BY6 := Lib.hid (BY5.out.below hb6)
      have BZ := Lib.hid bz6
      clear hW6 hb6 bz6 HF5 HYR5 HZR BY5
      generalize w5.heap.size = NZ at *
      obtain ⟨z0, z1⟩ := FQ.out _ HB6.out
      go_wp2_with fail
      refine (HRK.out _ HB6.out).mono ?_
      rintro r w7 ⟨rfl, hb7⟩
      have HB7 := Lib.hid (step_below HB6.out hb7)
      have HF7 := Lib.hid (HF6.out.below hb7)
      have HST := Lib.hid (stabs_law ya za ys zs zn yc zc HYS.out.1 (by omega) (HYS.out.2.2.1.trans HZS.out.2.symm) HYS.out.2.2.2 w7 (HYR6.out.below hb7) (HZR6.out.below hb7))
      have y0 := (BY6.out.below hb7).cell 0
      have y1 := (BY6.out.below hb7).cell 1
      have x0 := (BZ.out.below hb7).cell 0
      have x1 := (BZ.out.below hb7).cell 1
      simp at y0 y1 x0 x1
      have eE : (E != E) = false := by simp
      have eer : (er != er) = false := by simp
      have ece : (ce != ce) = false := by simp
      clear hb7 z0 z1 HF6 HYR6 HZR6 BY6 BZ
      go_wp2_with fail
      refine HST.out.mono ?_
      rintro r w8 ⟨rfl, hb8⟩
      have HB8 := Lib.hid (step_below HB7.out hb8)
      have HF8 := Lib.hid (HF7.out.below hb8)
      clear hb8 y0 y1 x0 x1
      go_wp2_with fail
      refine (num_law _ _).mono ?_; rintro r w9 ⟨rfl, rfl⟩
      go_wp2_with fail
      refine (num_law _ _).mono ?_; rintro r w10 ⟨rfl, rfl⟩
      by_cases hc0 : ce = 0
      rotate_left
      · have d4 : (ce != 0) = true := by simp [hc0]
        obtain rfl : fl = 0 := HF.out.2.2 hc0
        clear hc0
        go_wp2_with fail
        refine (known_law _).mono ?_; rintro r w11 ⟨rfl, hb11⟩
        have HB11 := Lib.hid (step_below (step_below HB0.out HB8.out) hb11)
        clear hb11
        go_wp2_with fail
        go_ret
        exact ⟨rfl, HB11.out⟩
      subst hc0
      have hFe := HF.out.2.1 rfl
      obtain ⟨hck, hcn⟩ := ckE_0 HCE.out
      rw [HN.out.1] at hcn
      obtain ⟨ee, rfl⟩ : ∃ k : Nat, e = (k : Int) := ⟨e.toNat, by have := (ck_ok hck).e1; omega⟩
      rw [Int.toNat_natCast] at hFe
      have HFR := Lib.hid (fun W (b : Below w8.heap.size w8 W) => (show Calls Tryz.prog 34 #[.agg #[.int .i64 (ee : Int), .slice a j c]] W (OwnB W F) by
        rw [hFe]
        exact rputck_own ee a ts j c HN.out.1 W (HR.out.1.below (step_below HB0.out (step_below HB8.out b))) hck hcn))
      have HFF := Lib.hid hFe
      clear hFe hck hcn
      go_upto_region 21 with (fail)
      obtain ⟨w9, rfl⟩ : ∃ Y, Y = w8 := ⟨_, rfl⟩
      have HF9 := HF8
      have HB9 := HB8
      rename_i KK hKK
      refine Code.wp_mono (Q := Exit.then KK (fun _ _ _ => False)) (fun e a' w' h => by cases e <;> first | exact h | exact h.elim) ?_
      refine wp_region_held_drew (S := (fun X => Below w9.heap.size w9 X)) (by kernel_rfl) ((Below.refl _ _).drew) (fun hHeld => ?_)
      refine tp 0 ?_ rfl (.inl ⟨by rfl, ?_⟩) ?_
      rotate_left
      · intro W hSw; go_simp; try with_reducible rfl
      refine tp 1 ?_ rfl (.inl ⟨by rfl, ?_⟩) ?_
      rotate_left
      · intro W hSw; have hcv := conv_ls W fa fl fc F HF.out.1 (HF9.out.below hSw).rd; go_simp; try with_reducible rfl
      refine tp 2 ?_ rfl (.inl ⟨by rfl, ?_⟩) ?_
      rotate_left
      · intro W hSw; obtain ⟨z0, z1⟩ := FQ.out W (step_below HB9.out hSw); go_simp; try with_reducible rfl
      refine a1 3 rfl (fun K hK => ?_)
      go_simp
      refine (HFR.out _ hHeld).mono ?_; rintro e9 w12 ⟨a6, c6, rfl, ho6, hl6, hb6⟩; have HL6 := Lib.hid hl6.ls
      go_wp2_with fail
      refine hK.out _ _ (step_below hHeld hb6) (fun hHeldn => ?_)
      clear hK K hHeld; have hHeld := hHeldn; clear hHeldn
      clear hb6 ho6 hl6
      try simp only [Act.put, List.setIfInBounds_toArray, List.set_cons_zero, List.set_cons_succ]
      refine a1 4 rfl (fun K hK => ?_)
      have hcv2 := conv_ls _ a6 F.length c6 F rfl HL6.out.rd
      go_simp
      refine hK.out _ _ hHeld (fun hHeldn => ?_)
      clear hK K hHeld hcv2; have hHeld := hHeldn; clear hHeldn
      try simp only [Act.put, List.setIfInBounds_toArray, List.set_cons_zero, List.set_cons_succ]
      refine tp 5 (.bool true) rfl (.inl ⟨by rfl, ?_⟩) ?_
      · intro W hSw; go_simp; try (first | rfl | (simp; done))
      refine tp 6 (.bool true) rfl (.inl ⟨by rfl, ?_⟩) ?_
      · intro W hSw; go_simp; try (first | rfl | (simp; done))
      refine a1 7 rfl (fun K hK => ?_)
      go_simp
      refine (known_law _).mono ?_; rintro e9 w14 ⟨rfl, hb14⟩
      go_wp2_with fail
      refine hK.out _ _ (step_below hHeld hb14) (fun hHeldn => ?_)
      clear hK K hHeld; have hHeld := hHeldn; clear hHeldn
      clear hb14
      try simp only [Act.put, List.setIfInBounds_toArray, List.set_cons_zero, List.set_cons_succ]
      refine tp 8 (.bool true) rfl (.inl ⟨by rfl, ?_⟩) ?_
      · intro W hSw; go_simp; try (first | rfl | (simp; done))
      refine tp 9 ?_ rfl (.inl ⟨by rfl, ?_⟩) ?_
      rotate_left
      · intro W hSw; go_simp; try with_reducible rfl
      refine wpAnyH_done (by kernel_rfl) ?_ _
      skip
      refine hKK _ _ ?_
      have HBZ := Lib.hid (step_below (step_below HB0.out HB9.out) hHeld)
      clear hKK hHeld
      go_wp2_with fail
      go_ret
      exact ⟨rfl, HBZ.out⟩
end Go.Proofs.YtglkndoghnblcaaGreat
namespace Go.Proofs.YtglkndoghnblcaaGreat.logCheckpointsP
open Go.ChangeShapes Go.WideShapes Go.ChangeAt Go.RowKit
open Go.ChangeMaps (open_string shut_string)
set_option linter.unusedVariables false
set_option linter.unusedSimpArgs false

theorem own : ownKnob Tryz.prog.godebug = none := by kernel_rfl
theorem laidOut : laidOutB Tryz.prog = true := by kernel_rfl

set_option maxRecDepth 100000 in
theorem lifted (os : Os) (started : os.Started) (H : Type) (enc : TypeId × Value → H) :
    ReturnsInHanded {} Tryz.checked os 5 .any (Rows.logCheckpointsSpec.pre6 enc Tryz.prog Tryz.f5 Rows.logCheckpointsRow.domain false) (Rows.logCheckpointsSpec.post enc Tryz.prog Tryz.f5 false true false false) := by
  refine returnsInHanded_of_change_sized (C := Tryz.checked) own started (by kernel_rfl) Tryz.func5
    (ChangeSpec.witness6 (enc := enc) (C := Tryz.checked) false ⟨#[], #[.agg #[.int .i64 0, .slice none 0 0], .slice none 0 0], []⟩ 12 (by kernel_rfl) (by kernel_rfl) (by kernel_rfl) (by kernel_rfl)) ?_
  intro W base args ds gs before hval0 hW hcnd hsz0 _
  have hsz : (DataW.weightsEach Tryz.prog (Tryz.f5.params.toList ++ Rows.logCheckpointsSpec.plain.varTypes Tryz.prog) (ds ++ gs)).all (· ≤ reachBytes) = true := hsz0
  clear hsz0
  have hval : ∀ (j : Nat) t v, Tryz.f5.params[j]? = some t → args[j]? = some v → Value.okWide Tryz.prog W .any base t v := hval0
  have hW' := hW
  obtain ⟨p, q, hA0, hV, rfl, hfz, hnd⟩ := hW
  have hA : DataW.TrodAll enc Tryz.prog W 0 (fun _ => true) true Tryz.f5.params.toList args.toList ds p := hA0
  rw [Tryz.params5] at hA hval hsz
  obtain ⟨v0, vs0, d0, ds0, p0, q0, hargs, rfl, rfl, h0, r0⟩ := trodAll_cons hA
  obtain ⟨v1, vs1, d1, ds1, p1, q1, rfl, rfl, rfl, h1, r1⟩ := trodAll_cons r0
  obtain ⟨rfl, rfl, rfl⟩ := trodAll_nil r1
  obtain rfl : args = #[v0, v1] := by cases args; simp_all
  obtain ⟨rfl, rfl⟩ := trodVars_none hV
  have k0 := h0
  have lt0 : ∀ x ∈ p0, x.block < W.heap.size := by obtain ⟨m, hm⟩ := k0; exact DataW.trod_lt m _ _ _ hm
  have all : ∀ n ∈ DataW.weightsEach Tryz.prog ([56, 22] ++ Rows.logCheckpointsSpec.plain.varTypes Tryz.prog) ([d0, d1] ++ []), n ≤ reachBytes := fun n hn => by simpa using List.all_eq_true.1 hsz n hn
  obtain ⟨ce, ca, cts, cc, rfl, hcR, hcl, hcb⟩ := open_ck (hval 0 56 v0 rfl rfl) h0 (fun n hn => all n (DataW.weights_mem_each (j := 0) (t := 56) rfl rfl n hn))
  obtain ⟨a1, len1, cap1, rfl⟩ := okWide_slice Tryz.underlying22 (hval 1 22 v1 rfl rfl)
  have k1 := h1
  have lt1 : ∀ x ∈ p1, x.block < W.heap.size := by obtain ⟨m, hm⟩ := k1; exact DataW.trod_lt m _ _ _ hm
  obtain ⟨z1, w1, r1z⟩ : ∃ zs, IsRow .u8 W a1 len1 cap1 zs ∧ len1 ≤ 140737488355328 := by
    obtain ⟨fuel, hf⟩ := h1
    rcases open_ints Tryz.underlying22 Tryz.underlying5 (by kernel_rfl) hf with ⟨hcs, _⟩ | ⟨x, l, c, zs, hcs, _, hl, hm, hz, hx, hcell, hwz⟩
    · simp [Value.cells] at hcs
      obtain ⟨rfl, rfl, rfl⟩ := hcs
      exact ⟨[], .inl ⟨rfl, rfl, rfl, rfl⟩, Nat.zero_le _⟩
    · simp [Value.cells] at hcs
      obtain ⟨rfl, rfl, rfl⟩ := hcs
      have hzl : zs.length = cap1 := by simpa using hz
      have hd := (Prod.mk.inj hx).1
      have := sized_slice hsz (j := 1) (t := 22) (e := 5) rfl (by rw [hd]; rfl) Tryz.underlying22
      rw [show Tryz.prog.bytesOf 5 = 1 by kernel_rfl] at this
      simp only [lits, List.length_map, List.length_take, List.length_drop, reachBytes] at this
      exact ⟨zs, .inr ⟨_, rfl, hl, hm, hzl, hcell, hwz⟩, by omega⟩
  clear hA0 hval0
  refine (logcheckpoints_law ce ca cts cts.length cc a1 (z1.take len1) len1 cap1 rfl hcl hcb w1.ls.2 w1.byt W hcR w1.ls.1).mono fun e W' ⟨he, bel⟩ => ?_
  subst he
  exact ⟨_, rfl, _, _, _, [], _, [], hW', trodAll_mk1 (shut_bool Tryz.underlying4 _), (trodAll_cons_mk (Below.trod laidOut (by kernel_rfl) (of_decide_eq_true (by kernel_rfl)) k0 bel lt0) (trodAll_cons_mk (Below.trod laidOut (by kernel_rfl) (of_decide_eq_true (by kernel_rfl)) k1 bel lt1) trodAll_mk0)), rfl, bel.frame _, fun h => by cases h⟩

theorem over : Rows.logCheckpointsRow.holds Tryz.pinned (OpenSpec.ofChange Rows.logCheckpointsSpec) :=
  OpenClaim.holds_of_wide 5 Tryz.f5 rfl rfl rfl rfl rfl rfl rfl ⟨rfl, rfl, rfl, rfl, rfl⟩ rfl rfl rfl rfl rfl (by kernel_rfl) Tryz.func5 (by kernel_rfl)
    (of_decide_eq_true (by kernel_rfl)) (by unfold Func.isWrapper; first | (rw [if_pos (by decide +kernel)]; kernel_rfl) | (rw [if_neg (by decide +kernel)]; exact ⟨rfl, rfl⟩))
    (fun os started H enc _ => lifted os started H enc)

theorem proved : Rows.LogCheckpointsSaid := over
#print axioms proved
end Go.Proofs.YtglkndoghnblcaaGreat.logCheckpointsP
