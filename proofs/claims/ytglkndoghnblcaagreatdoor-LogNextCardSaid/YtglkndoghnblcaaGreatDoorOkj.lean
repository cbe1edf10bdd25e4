/- known: the chapter's rows. Part 10. -/
import Derived.Test.YtglkndoghnblcaaGreatDoorOki
import Derived.Test.YtglkndoghnblcaaGreatDoorOkf
import Derived.Test.YtglkndoghnblcaaGreatDoorOke
import Derived.Test.YtglkndoghnblcaaGreatDoorOkg
import Derived.Test.YtglkndoghnblcaaGreatDoorOkh
import Derived.Lib.SlBytesConst
import Derived.Test.YtglkndoghnblcaaGreatDoorOka
namespace Go.Proofs.YtglkndoghnblcaaGreatDoor
open Go.ChangeShapes Go.WideShapes Go.ChangeAt Go.RowKit
set_option linter.unusedVariables false
set_option linter.unusedSimpArgs false
def kPay : List Int := [1, 2, 1, 0, 1, 107, 1, 3, 1, 1, 97]
def kTx : Tx3 := ((1, 2), [(0, [107], [[97]])])
def kTc : T3c := (1, 2, [(0, [107], [[97]])])
def kMan : List Int := [1, 0, 0, 0, 0]
def kH : List Int := [3, 2, 1, 1]
def kS (i : Int) : List Int := [i, 1, 97, 2, 1, 0, 3, 1]
theorem byt_dec {L : List Int} (h : L.all (fun x => decide (0 ≤ x ∧ x ≤ 255)) = true) : Byt L := fun x hx => by
  have := (List.all_eq_true.1 h) x hx
  simpa using this
theorem kPay_byt : Byt kPay := byt_dec (by kernel_rfl)
theorem kPay_len : (frameL kPay).length = 19 := by rw [frameL_len]; rfl
theorem kTxs : framesL (frameL kPay ++ (frameL kPay).take 9) = [kPay] := by
  rw [framesL_frame kPay_byt (by decide) (by decide), framesL_no (isL_no (by
    have h : lenL ((frameL kPay).take 9) = 11 := by kernel_rfl
    rw [h, List.length_take, kPay_len]
    omega))]
theorem kTxs_l : txsL [kPay] = [kTx] := by kernel_rfl
theorem kTxs_w : wholeL (frameL kPay ++ (frameL kPay).take 9) = 19 := by unfold wholeL; rw [kTxs]; rfl
theorem nilF : framesL [] = [] := framesL_no (isL_no (by simp))
theorem kBad : framesL (frameL [0]) = [[0]] := by
  have := framesL_frame (P := [0]) (byt_dec (by kernel_rfl)) (by decide) (by decide) []
  rw [List.append_nil, nilF] at this
  exact this
theorem kBad_l : txsL [[0]] = [] := by kernel_rfl
theorem kBad_w : wholeL (frameL [0]) = 9 := by unfold wholeL; rw [kBad]; rfl
theorem kMan_w : mnW 1 0 0 ⟨#[]⟩ [] = kMan := by kernel_rfl
theorem emp_l : (⟨#[]⟩ : ByteArray).toList = [] := by rw [ByteArray.toList_eq]
theorem kMan_b : manB 1 0 0 ⟨#[]⟩ [] = true := by
  unfold manB okM mnHead mnName eqE
  rw [emp_l]
  rfl
theorem kMan_byt : Byt kMan := byt_dec (by kernel_rfl)
theorem kMan_is (r : List Int) : isL (frameL kMan ++ r) = true ∧ bodyL (frameL kMan ++ r) = kMan ∧ lenL (frameL kMan ++ r) = 5 := isL_frame kMan_byt (by decide) (by decide) r
theorem kMan_r : rmanP (frameL kMan) = some ⟨1, [], 0, 0, []⟩ := by
  have h1 : onlyL (frameL kMan) = kMan := by
    obtain ⟨a, b, c⟩ := kMan_is []
    rw [List.append_nil] at a b c
    unfold onlyL
    rw [if_pos ⟨a, by rw [c, frameL_len]; rfl⟩, b]
  have h2 : readP (manP (onlyL (frameL kMan))) = some ⟨1, [], 0, 0, []⟩ := by rw [h1]; kernel_rfl
  exact rmanP_3 h2 kMan_b
theorem kMan_no : rmanP (frameL kMan ++ [0]) = none := by
  have h1 : onlyL (frameL kMan ++ [0]) = [] := by
    obtain ⟨a, b, c⟩ := kMan_is [0]
    unfold onlyL
    rw [if_neg (by rw [c, List.length_append, frameL_len]; simp [kMan])]
  exact rmanP_1 (by rw [h1]; kernel_rfl)
theorem kH_byt : Byt kH := byt_dec (by kernel_rfl)
theorem kS_byt (i : Int) (h0 : 0 ≤ i) (h1 : i ≤ 255) : Byt (kS i) := fun x hx => by
  simp only [kS, List.mem_cons, List.not_mem_nil, or_false] at hx
  rcases hx with rfl | rfl | rfl | rfl | rfl | rfl | rfl | rfl <;> omega
theorem three {P Q R : List Int} (hp : Byt P) (hq : Byt Q) (hr : Byt R) (p1 : 1 ≤ P.length) (p2 : P.length ≤ 4096) (q1 : 1 ≤ Q.length) (q2 : Q.length ≤ 4096) (r1 : 1 ≤ R.length) (r2 : R.length ≤ 4096) : framesL (frameL P ++ frameL Q ++ frameL R) = [P, Q, R] := by
  rw [List.append_assoc, framesL_frame hp p1 p2, framesL_frame hq q1 q2]
  have := framesL_frame hr r1 r2 []
  rw [List.append_nil, nilF] at this
  rw [this]
theorem kTurn (e : Nat) (tabs : List (List C4)) : ¬ CkRd (frameL kH ++ frameL (kS 1) ++ frameL (kS 0)) e tabs := by
  intro h
  have hf := three kH_byt (kS_byt 1 (by omega) (by omega)) (kS_byt 0 (by omega) (by omega)) (by decide) (by decide) (by decide) (by decide) (by decide) (by decide)
  have hw : wholeL (frameL kH ++ frameL (kS 1) ++ frameL (kS 0)) = (frameL kH ++ frameL (kS 1) ++ frameL (kS 0)).length := by
    unfold wholeL
    rw [hf]
    simp only [List.length_append, frameL_len]
    rfl
  have h1 : rckP (frameL kH ++ frameL (kS 1) ++ frameL (kS 0)) = some (3, [1, 1], [kS 1, kS 0].map ckRow) := by
    unfold rckP
    rw [hf]
    have h2 : readP (headP kH) = some (3, [1, 1]) := by kernel_rfl
    simp only
    rw [h2]
    simp only
    rw [if_pos ⟨by kernel_rfl, hw⟩]
  obtain ⟨_, h2, _, _⟩ := rck_eq (x := (3, [1, 1])) h1 h
  have h3 := h2.1 0 1 rfl 0 (by omega)
  have h4 : (([kS 1, kS 0].map ckRow).map Pl.t)[posT [1, 1] 0 + 0]? = some 1 := by kernel_rfl
  rw [h4] at h3
  cases h3
theorem kBig {Z : List Int} (h : Z.length = 4097) : wholeL (frameL Z) = 0 := by
  have h1 : lenL (frameL Z) = 4097 := by
    unfold lenL frameL
    rw [h, de4_be4 (by omega)]
  unfold wholeL
  rw [framesL_no (isL_no (by rw [h1]; omega))]
  rfl
theorem kFit {Z : List Int} (hb : Byt Z) (h : Z.length = 4096) : wholeL (frameL Z) = 4104 := by
  have := framesL_frame hb (by omega) (by omega) []
  rw [List.append_nil, nilF] at this
  unfold wholeL
  rw [this]
  simp [h]
theorem kPay_w (p : WtP) (h0 : p.tab = 0) (h1 : p.key = [107]) (h2 : p.R.map P1.bs = [[97]]) : txW 1 2 [p] = kPay := by
  obtain ⟨t, ka, kc, key, ra, rc, R⟩ := p
  simp only at h0 h1 h2
  subst h0 h1
  obtain ⟨⟨ad, cap, bs⟩, rfl⟩ : ∃ r, R = [r] := by
    cases R with
    | nil => cases h2
    | cons r R => cases R with
      | nil => exact ⟨r, rfl⟩
      | cons s R => simp at h2
  simp only [List.map_cons, List.map_nil, List.cons.injEq, and_true] at h2
  subst h2
  have e0 := numW_small (n := 0) (by omega)
  have e1 := numW_small (n := 1) (by omega)
  have e2 := numW_small (n := 2) (by omega)
  have e3 := numW_small (n := 3) (by omega)
  unfold txW tidW putL wtW putL bsW bytesW
  simp [e0, e1, e2, e3, kPay, bsW, bytesW, wtW]
theorem kPay_b (p : WtP) (e s : Int) (h0 : p.tab = 0) (h1 : p.key.length = 1) (h2 : p.R.map P1.bs = [[97]]) : txB e s [p] = tidB e s := by
  obtain ⟨t, ka, kc, key, ra, rc, R⟩ := p
  simp only at h0 h1 h2
  subst h0
  match R, h2 with
  | [⟨ad, cap, bs⟩], h2 =>
    simp only [List.map_cons, List.map_nil, List.cons.injEq, and_true] at h2
    subst h2
    unfold txB
    show okK e s [_] 1 = _
    rw [okK_first (x := ⟨0, ka, kc, key, ra, rc, [⟨ad, cap, [97]⟩]⟩) rfl]
    have hw : wtB ⟨0, ka, kc, key, ra, rc, [⟨ad, cap, [97]⟩]⟩ = true := by
      unfold wtB mayK
      simp only [h1]
      rfl
    rw [hw, Bool.and_true]
    unfold okK
    have : inB (([(⟨0, ka, kc, key, ra, rc, [⟨ad, cap, [97]⟩]⟩ : WtP)].length : Nat) : Int) 1 16 = true := rfl
    rw [this, Bool.and_true]
end Go.Proofs.YtglkndoghnblcaaGreatDoor
namespace Go.Proofs.YtglkndoghnblcaaGreatDoor
open Go.ChangeShapes Go.WideShapes Go.ChangeAt Go.RowKit
set_option linter.unusedVariables false
set_option linter.unusedSimpArgs false
def wr3C (y : Wr3) : W3c := ((y.1 : Int), y.2.1, y.2.2)
def tx3C (x : Tx3) : T3c := ((x.1.1 : Int), (x.1.2 : Int), x.2.map wr3C)
theorem cont_c {p : WtP} (h : 0 ≤ p.tab) : wr3C (cont p) = wtC p := by
  unfold wr3C cont wtC
  simp only
  rw [Int.toNat_of_nonneg h]
def qk (q : TxQ) : Int × Int × Option Addr × Nat × Nat := (q.e, q.s, q.a, q.c, q.ws.length)
def pk (p : TxP) : Int × Int × Option Addr × Nat × Nat := ((p.x.1.1 : Int), (p.x.1.2 : Int), p.a, p.c, p.x.2.length)
theorem txp_lies {w : World} {base : Nat} : ∀ ps : List TxP, (∀ p ∈ ps, WritesO w base p.x.2 p.v ∧ TxB p.x) → ∃ qs : List TxQ, qs.map qk = ps.map pk ∧ qs.map txC = ps.map (fun p => tx3C p.x) ∧ ∀ q ∈ qs, WtsR w q.a q.ws ∧ TxqB q
  | [], _ => ⟨[], rfl, rfl, fun q hq => by simp at hq⟩
  | p :: ps, h => by
    obtain ⟨qs, h1, h2, h3⟩ := txp_lies ps (fun q hq => h q (by simp [hq]))
    obtain ⟨hw, hb⟩ := h p (by simp)
    obtain ⟨ws, k1, k2, k3, k4, k5⟩ := WritesO.lies hw hb.all
    have kl : ws.length = p.x.2.length := by rw [← k1, List.length_map]
    have kc : ws.map wtC = p.x.2.map wr3C := by
      rw [← k1, List.map_map]
      exact List.map_congr_left (fun q hq => (cont_c (k4 q hq)).symm)
    refine ⟨⟨(p.x.1.1 : Int), (p.x.1.2 : Int), p.a, p.c, ws⟩ :: qs, ?_, ?_, fun q hq => ?_⟩
    · simp only [List.map_cons, h1]
      unfold qk pk
      simp only [kl]
    · simp only [List.map_cons, h2]
      unfold txC tx3C
      simp only [kc]
    · rcases List.mem_cons.1 hq with rfl | hq
      · have := hb.n
        exact ⟨k3, by show ws.length ≤ 1000000; omega, k5⟩
      · exact h3 q hq
/-- Transactions that were read, as they lie. -/
theorem TxsO.lies {w : World} {base n c : Nat} {a : Option Addr} {xs : List Tx3} (h : TxsO w base xs (.slice a n c)) (hB : ∀ x ∈ xs, TxB x) : ∃ qs : List TxQ, n = xs.length ∧ qs.length = xs.length ∧ TxqR w a qs ∧ (∀ q ∈ qs, TxqB q) ∧ qs.map txC = xs.map tx3C := by
  obtain ⟨ps, h1, h2, h3⟩ := h
  obtain ⟨qs, k1, k2, k3⟩ := txp_lies (w := w) (base := base) ps (fun p hp => ⟨h3 p hp, hB _ (by rw [← h1]; exact List.mem_map_of_mem hp)⟩)
  have hl : ps.length = xs.length := by rw [← h1, List.length_map]
  have hql : qs.length = xs.length := by have := congrArg List.length k1; rw [List.length_map, List.length_map] at this; omega
  obtain ⟨a2, c2, e2⟩ := own_form h2
  cases e2
  refine ⟨qs, rfl, hql, fun k q hq => ?_, fun q hq => (k3 q hq).2, by rw [k2, ← h1, List.map_map]; rfl⟩
  have hk : k < qs.length := (List.getElem?_eq_some_iff.1 hq).1
  obtain ⟨p, hp⟩ : ∃ p, ps[k]? = some p := ⟨_, List.getElem?_eq_getElem (by omega)⟩
  have e : qk q = pk p := by
    have := congrArg (fun l => l[k]?) k1
    simp only [List.getElem?_map, hq, hp, Option.map_some, Option.some.injEq] at this
    exact this
  simp only [qk, pk, Prod.mk.injEq] at e
  obtain ⟨e1, e2, e3, e4, e5⟩ := e
  have hc := fun i hi => flat_at TxP.cells 3 (fun _ => rfl) ps k i p hp hi
  rcases h2.2 with ⟨e0, h0⟩ | ⟨g, cap, cur, e0, _⟩
  · omega
  · cases e0
    refine ⟨g, 0, rfl, ?_, ?_, ?_, (k3 q (List.mem_of_getElem? hq)).1⟩
    · rw [Nat.zero_add, e1, show k * 3 = k * 3 + 0 by omega, h2.cellAt (k * 3 + 0) (by omega)]
      exact hc 0 (by omega)
    · rw [Nat.zero_add, e2, h2.cellAt (k * 3 + 1) (by omega)]
      exact hc 1 (by omega)
    · rw [Nat.zero_add, e3, e4, e5, h2.cellAt (k * 3 + 2) (by omega)]
      exact hc 2 (by omega)
theorem wts_of {W : World} {b g : Nat} {p : WtP} (h : W.ownsRow b 86 3 (.slice (some ⟨g, 0, none⟩) 1 1) 1 p.cells) (ok : WtOk W p) : WtsR W (some ⟨g, 0, none⟩) [p] := fun k x hx => by
  have hk : k = 0 := by have := (List.getElem?_eq_some_iff.1 hx).1; simpa using this
  subst hk
  simp only [List.getElem?_cons_zero, Option.some.injEq] at hx
  subst hx
  refine ⟨g, 0, rfl, ?_, ?_, ?_, ok⟩
  · exact h.cellAt 0 (by omega)
  · exact h.cellAt 1 (by omega)
  · exact h.cellAt 2 (by omega)
theorem r1_small {p : WtP} (h : p.R.map P1.bs = [[97]]) : p.R.length ≤ 1000000 := by
  have := congrArg List.length h
  rw [List.length_map] at this
  simp at this
  omega
/-- PutTxn of the chapter's first. -/
theorem puttx_k (a : Option Addr) (p : WtP) (w : World) (hR : WtsR w a [p]) (h0 : p.tab = 0) (h1 : p.key = [107]) (h2 : p.R.map P1.bs = [[97]]) :
    Calls Tryz.prog 23 #[.agg #[.int .i64 1, .int .i64 2, .slice a 1 1]] w fun r w' => ∃ a' c', r = .returned (.tuple #[.slice a' 19 c', .int .i64 0]) ∧ Ls .u8 w' a' c' (frameL kPay) ∧ Below w.heap.size w w' := by
  have hb : txB 1 2 [p] = true := by rw [kPay_b p 1 2 h0 (by rw [h1]; rfl) h2]; rfl
  have hw : txW (1 : Int).toNat (2 : Int).toNat [p] = kPay := kPay_w p h0 h1 h2
  refine (puttxn_law 1 2 a [p] 1 1 rfl (by omega) (fun x hx => by simp only [List.mem_singleton] at hx; subst hx; exact r1_small h2) w hR).mono ?_
  rintro r w' (⟨h, _⟩ | ⟨_, h, _⟩ | ⟨_, _, _, a', c', rfl, _, hl, hbw⟩)
  · rw [hb] at h; cases h
  · rw [hw] at h; simp [kPay] at h
  · rw [hw] at hl ⊢
    exact ⟨a', c', rfl, hl, hbw⟩
theorem puttx_bad (e s : Int) (a : Option Addr) (xs : List WtP) (n c : Nat) (hn : xs.length = n) (hn2 : n ≤ 1000000) (hl : ∀ x ∈ xs, x.R.length ≤ 1000000) (hb : txB e s xs = false) (w : World) (hR : WtsR w a xs) :
    Calls Tryz.prog 23 #[.agg #[.int .i64 e, .int .i64 s, .slice a n c]] w fun r w' => r = .returned (.tuple #[.slice none 0 0, .int .i64 2]) ∧ Below w.heap.size w w' := by
  refine (puttxn_law e s a xs n c hn hn2 hl w hR).mono ?_
  rintro r w' (⟨_, rfl, hbw⟩ | ⟨h, _⟩ | ⟨h, _⟩)
  · exact ⟨rfl, hbw⟩
  · rw [hb] at h; cases h
  · rw [hb] at h; cases h
theorem two_bad (p q : WtP) (h0 : p.tab = 0) (h1 : p.key = [98]) (h2 : p.R.map P1.bs = [[97]]) (k0 : q.tab = 0) (k1 : q.key = [97]) (k2 : q.R.map P1.bs = [[97]]) : txB 1 1 [p, q] = false := by
  unfold txB
  show okK 1 1 [p, q] 2 = false
  rw [okK_next (k := 1) (x := q) (l := p) (by omega) rfl rfl, h0, k0, h1, k1]
  have : decide (orV (cmpN 0 0) (cmpI [98] [97]) < 0) = false := by decide
  rw [this, Bool.and_false]
/-- Txns of the chapter's bytes. -/
theorem txns_k (a : Option Addr) (n cap : Nat) (hn : n = 28) (w : World) (hL : Ls .u8 w a cap (frameL kPay ++ (frameL kPay).take 9)) :
    Calls Tryz.prog 25 #[.slice a n cap] w fun r w' => ∃ a' c' q, r = .returned (.tuple #[.slice a' 1 c', .int .i64 19, .bool true]) ∧ TxqR w' a' [q] ∧ TxqB q ∧ txC q = kTc ∧ Below w.heap.size w w' := by
  have hlen : (frameL kPay ++ (frameL kPay).take 9).length = n := by rw [List.length_append, List.length_take, kPay_len, hn]; rfl
  have hby : Byt (frameL kPay ++ (frameL kPay).take 9) := byt_dec (by kernel_rfl)
  refine (txns_law a _ n cap hlen (by omega) hby w hL).mono ?_
  rintro r w' ⟨v, rfl, hT, hb⟩
  rw [kTxs, kTxs_l, kTxs_w] at *
  obtain ⟨a', c', rfl⟩ : ∃ a' c', v = .slice a' 1 c' := by obtain ⟨ps, h1, h2, h3⟩ := hT; exact own_form h2
  obtain ⟨qs, _, ql, qr, qb, qc⟩ := TxsO.lies hT (fun x hx => by simp only [List.mem_singleton] at hx; subst hx; exact ⟨by decide, by decide, by decide, fun y hy => by
    simp only [kTx, List.mem_singleton] at hy
    subst hy
    constructor <;> first | decide | (intro f hf; simp only [List.mem_singleton] at hf; subst hf; exact byt_dec (by kernel_rfl)) | exact byt_dec (by kernel_rfl)⟩)
  obtain ⟨q, rfl⟩ : ∃ q, qs = [q] := by
    match qs, ql with
    | [q], _ => exact ⟨q, rfl⟩
  simp only [List.map_cons, List.map_nil, List.cons.injEq, and_true] at qc
  exact ⟨a', c', q, rfl, qr, qb q (by simp), qc, hb⟩
theorem txns_bad (a : Option Addr) (n cap : Nat) (hn : n = 9) (w : World) (hL : Ls .u8 w a cap (frameL [0])) :
    Calls Tryz.prog 25 #[.slice a n cap] w fun r w' => ∃ a' c', r = .returned (.tuple #[.slice a' 0 c', .int .i64 0, .bool false]) ∧ Below w.heap.size w w' := by
  refine (txns_law a _ n cap (by rw [frameL_len, hn]; rfl) (by omega) (byt_dec (by kernel_rfl)) w hL).mono ?_
  rintro r w' ⟨v, rfl, hT, hb⟩
  rw [kBad, kBad_l, kBad_w] at *
  obtain ⟨a', c', rfl⟩ : ∃ a' c', v = .slice a' 0 c' := by obtain ⟨ps, h1, h2, h3⟩ := hT; exact own_form h2
  exact ⟨a', c', rfl, hb⟩
end Go.Proofs.YtglkndoghnblcaaGreatDoor
namespace Go.Proofs.YtglkndoghnblcaaGreatDoor
open Go.ChangeShapes Go.WideShapes Go.ChangeAt Go.RowKit
set_option linter.unusedVariables false
set_option linter.unusedSimpArgs false
def sndC : Code → Code
  | .seq _ c => c
  | c => c
noncomputable def bodyK : Code := Tryz.f5.body.getD .skip
def D1 (a : Option Addr) (c : Nat) (W : World) : Prop := Ls .u8 W a c (frameL [97])
def D4 (a : Option Addr) (c : Nat) (W : World) : Prop := Ls .u8 W a c (frameL kPay)
def D6 (a : Option Addr) (c : Nat) (W : World) : Prop := ∃ q, TxqR W a [q] ∧ TxqB q ∧ txC q = kTc
def D9 (a : Option Addr) (c : Nat) (W : World) : Prop := Ls .u8 W a c (frameL [0])
def D14 (a : Option Addr) (c : Nat) (W : World) : Prop := Ls .u8 W a c (frameL kMan)
def D16 (b : Nat) (W : World) : Prop := W.cell? ⟨b, 0, none⟩ = some (.int .i64 1)
def D26 (b : Nat) (W : World) : Prop := ∃ x : StP, BoxC W b #[.slice x.ka 1 x.kc, .slice x.ra 1 x.rc, .int .i64 3, .int .i64 1] 72 ∧ StOk W x ∧ x.key = [97] ∧ x.R.map P1.bs = [[]] ∧ x.e = 3 ∧ x.s = 1
def D29 (a : Option Addr) (c : Nat) (W : World) : Prop := ∃ R, RdR W a R ∧ R.map P1.bs = [kH, kS 0, kS 1]
def kTu : List Int := frameL kH ++ frameL (kS 1) ++ frameL (kS 0)
def D31 (a : Option Addr) (n c : Nat) (W : World) : Prop := n = kTu.length ∧ Ls .u8 W a c kTu
theorem D1.below {a : Option Addr} {c : Nat} {W W' : World} (h : D1 a c W) (b : Below W.heap.size W W') : D1 a c W' := Ls.below h b
theorem D4.below {a : Option Addr} {c : Nat} {W W' : World} (h : D4 a c W) (b : Below W.heap.size W W') : D4 a c W' := Ls.below h b
theorem D6.below {a : Option Addr} {c : Nat} {W W' : World} (h : D6 a c W) (b : Below W.heap.size W W') : D6 a c W' := by
  obtain ⟨q, h1, h2⟩ := h
  exact ⟨q, h1.below b, h2⟩
theorem D14.below {a : Option Addr} {c : Nat} {W W' : World} (h : D14 a c W) (b : Below W.heap.size W W') : D14 a c W' := Ls.below h b
theorem D16.below {n : Nat} {W W' : World} (h : D16 n W) (b : Below W.heap.size W W') : D16 n W' := (b.cell (cell_lt h)).trans h
theorem D26.below {n : Nat} {W W' : World} (h : D26 n W) (b : Below W.heap.size W W') : D26 n W' := by
  obtain ⟨x, h1, h2, h3⟩ := h
  exact ⟨x, h1.below b, h2.below b, h3⟩
theorem bconst (W : World) (x : Int) (g : Nat) (hg : g = W.heap.size) : (convert 54 54 (.slice (some ⟨g, 0, none⟩) 1 1)).run Tryz.prog (W.alloc (.cells #[.int .u8 x] 5)) = .ok (.slice (some ⟨g, 0, none⟩) 1 1) (W.alloc (.cells #[.int .u8 x] 5 (1, 2))) := by
  subst hg
  exact Lib.run_convert_bytes_const W 54 5 #[.int .u8 x] 1 1 Tryz.underlying54 Tryz.underlying5
set_option maxRecDepth 100000 in
/-- From statement 2 on it goes well. -/
def Blk2 (w : World) : Prop := ∀ (a1 : Option Addr) (c1 : Nat) (u3 u4 u5 u6 u7 u8 u9 u10 u11 u12 u13 u14 u15 u16 u17 u18 u19 u20 u21 u22 u23 u24 u25 u26 u27 u28 u29 u30 u31 u32 u33 u34 u35 u36 u37 u38 u39 u40 u41 u42 u43 u44 u45 u46 u47 u48 u49 u50 u51 u52 u53 u54 u55 u56 u57 u58 u59 u60 u61 u62 u63 u64 u65 u66 u67 u68 u69 u70 u71 u72 u73 u74 u75 u76 u77 u78 u79 u80 u81 u82 u83 u84 u85 u86 u87 u88 u89 u90 u91 u92 u93 u94 u95 u96 u97 u98 u99 u100 u101 u102 u103 u104 u105 u106 u107 u108 u109 u110 u111 u112 u113 u114 u115 u116 u117 u118 u119 u120 u121 u122 u123 u124 u125 u126 u127 u128 u129 u130 u131 u132 u133 u134 u135 u136 u137 u138 u139 u140 u141 u142 u143 u144 u145 u146 u147 u148 u149 u150 u151 u152 u153 u154 u155 u156 u157 u158 u159 u160 u161 u162 u163 u164 u165 u166 u167 u168 u169 u170 u171 u172 u173 u174 u175 u176 u177 u178 u179 u180 u181 u182 u183 u184 u185 u186 u187 u188 u189 u190 u191 u192 u193 u194 u195 u196 u197 u198 u199 u200 u201 u202 u203 u204 u205 u206 u207 u208 u209 u210 u211 u212 u213 u214 u215 u216 u217 u218 u219 u220 u221 u222 u223 u224 u225 u226 u227 u228 u229 u230 u231 u232 u233 u234 u235 u236 u237 u238 u239 u240 u241 u242 u243 u244 u245 u246 u247 u248 u249 u250 u251 u252 u253 u254 u255 u256 u257 u258 u259 u260 u261 u262 u263 u264 u265 u266 u267 u268 u269 u270 u271 u272 u273 u274 u275 : Value) (W : World), (Below w.heap.size w W ∧ D1 a1 c1 W) → Code.wp Tryz.prog (sndC (sndC bodyK)) (bodyPost Tryz.prog Tryz.f5 fun r w' => r = .returned (.bool true) ∧ Below w.heap.size w w') ⟨(.bool false :: .slice a1 9 c1 :: .int .i64 0 :: u3 :: u4 :: u5 :: u6 :: u7 :: u8 :: u9 :: u10 :: u11 :: u12 :: u13 :: u14 :: u15 :: u16 :: u17 :: u18 :: u19 :: u20 :: u21 :: u22 :: u23 :: u24 :: u25 :: u26 :: u27 :: u28 :: u29 :: u30 :: u31 :: u32 :: u33 :: u34 :: u35 :: u36 :: u37 :: u38 :: u39 :: u40 :: u41 :: u42 :: u43 :: u44 :: u45 :: u46 :: u47 :: u48 :: u49 :: u50 :: u51 :: u52 :: u53 :: u54 :: u55 :: u56 :: u57 :: u58 :: u59 :: u60 :: u61 :: u62 :: u63 :: u64 :: u65 :: u66 :: u67 :: u68 :: u69 :: u70 :: u71 :: u72 :: u73 :: u74 :: u75 :: u76 :: u77 :: u78 :: u79 :: u80 :: u81 :: u82 :: u83 :: u84 :: u85 :: u86 :: u87 :: u88 :: u89 :: u90 :: u91 :: u92 :: u93 :: u94 :: u95 :: u96 :: u97 :: u98 :: u99 :: u100 :: u101 :: u102 :: u103 :: u104 :: u105 :: u106 :: u107 :: u108 :: u109 :: u110 :: u111 :: u112 :: u113 :: u114 :: u115 :: u116 :: u117 :: u118 :: u119 :: u120 :: u121 :: u122 :: u123 :: u124 :: u125 :: u126 :: u127 :: u128 :: u129 :: u130 :: u131 :: u132 :: u133 :: u134 :: u135 :: u136 :: u137 :: u138 :: u139 :: u140 :: u141 :: u142 :: u143 :: u144 :: u145 :: u146 :: u147 :: u148 :: u149 :: u150 :: u151 :: u152 :: u153 :: u154 :: u155 :: u156 :: u157 :: u158 :: u159 :: u160 :: u161 :: u162 :: u163 :: u164 :: u165 :: u166 :: u167 :: u168 :: u169 :: u170 :: u171 :: u172 :: u173 :: u174 :: u175 :: u176 :: u177 :: u178 :: u179 :: u180 :: u181 :: u182 :: u183 :: u184 :: u185 :: u186 :: u187 :: u188 :: u189 :: u190 :: u191 :: u192 :: u193 :: u194 :: u195 :: u196 :: u197 :: u198 :: u199 :: u200 :: u201 :: u202 :: u203 :: u204 :: u205 :: u206 :: u207 :: u208 :: u209 :: u210 :: u211 :: u212 :: u213 :: u214 :: u215 :: u216 :: u217 :: u218 :: u219 :: u220 :: u221 :: u222 :: u223 :: u224 :: u225 :: u226 :: u227 :: u228 :: u229 :: u230 :: u231 :: u232 :: u233 :: u234 :: u235 :: u236 :: u237 :: u238 :: u239 :: u240 :: u241 :: u242 :: u243 :: u244 :: u245 :: u246 :: u247 :: u248 :: u249 :: u250 :: u251 :: u252 :: u253 :: u254 :: u255 :: u256 :: u257 :: u258 :: u259 :: u260 :: u261 :: u262 :: u263 :: u264 :: u265 :: u266 :: u267 :: u268 :: u269 :: u270 :: u271 :: u272 :: u273 :: u274 :: u275 :: []).toArray, []⟩ W
set_option maxRecDepth 100000 in
/-- From statement 3 on it goes well. -/
def Blk3 (w : World) : Prop := ∀ (a1 : Option Addr) (c1 : Nat) (u4 u5 u6 u7 u8 u9 u10 u11 u12 u13 u14 u15 u16 u17 u18 u19 u20 u21 u22 u23 u24 u25 u26 u27 u28 u29 u30 u31 u32 u33 u34 u35 u36 u37 u38 u39 u40 u41 u42 u43 u44 u45 u46 u47 u48 u49 u50 u51 u52 u53 u54 u55 u56 u57 u58 u59 u60 u61 u62 u63 u64 u65 u66 u67 u68 u69 u70 u71 u72 u73 u74 u75 u76 u77 u78 u79 u80 u81 u82 u83 u84 u85 u86 u87 u88 u89 u90 u91 u92 u93 u94 u95 u96 u97 u98 u99 u100 u101 u102 u103 u104 u105 u106 u107 u108 u109 u110 u111 u112 u113 u114 u115 u116 u117 u118 u119 u120 u121 u122 u123 u124 u125 u126 u127 u128 u129 u130 u131 u132 u133 u134 u135 u136 u137 u138 u139 u140 u141 u142 u143 u144 u145 u146 u147 u148 u149 u150 u151 u152 u153 u154 u155 u156 u157 u158 u159 u160 u161 u162 u163 u164 u165 u166 u167 u168 u169 u170 u171 u172 u173 u174 u175 u176 u177 u178 u179 u180 u181 u182 u183 u184 u185 u186 u187 u188 u189 u190 u191 u192 u193 u194 u195 u196 u197 u198 u199 u200 u201 u202 u203 u204 u205 u206 u207 u208 u209 u210 u211 u212 u213 u214 u215 u216 u217 u218 u219 u220 u221 u222 u223 u224 u225 u226 u227 u228 u229 u230 u231 u232 u233 u234 u235 u236 u237 u238 u239 u240 u241 u242 u243 u244 u245 u246 u247 u248 u249 u250 u251 u252 u253 u254 u255 u256 u257 u258 u259 u260 u261 u262 u263 u264 u265 u266 u267 u268 u269 u270 u271 u272 u273 u274 u275 : Value) (W : World), (Below w.heap.size w W ∧ D1 a1 c1 W) → Code.wp Tryz.prog (sndC (sndC (sndC bodyK))) (bodyPost Tryz.prog Tryz.f5 fun r w' => r = .returned (.bool true) ∧ Below w.heap.size w w') ⟨(.bool false :: .slice a1 9 c1 :: .int .i64 0 :: .int .u32 ((crcV [97] : Nat) : Int) :: u4 :: u5 :: u6 :: u7 :: u8 :: u9 :: u10 :: u11 :: u12 :: u13 :: u14 :: u15 :: u16 :: u17 :: u18 :: u19 :: u20 :: u21 :: u22 :: u23 :: u24 :: u25 :: u26 :: u27 :: u28 :: u29 :: u30 :: u31 :: u32 :: u33 :: u34 :: u35 :: u36 :: u37 :: u38 :: u39 :: u40 :: u41 :: u42 :: u43 :: u44 :: u45 :: u46 :: u47 :: u48 :: u49 :: u50 :: u51 :: u52 :: u53 :: u54 :: u55 :: u56 :: u57 :: u58 :: u59 :: u60 :: u61 :: u62 :: u63 :: u64 :: u65 :: u66 :: u67 :: u68 :: u69 :: u70 :: u71 :: u72 :: u73 :: u74 :: u75 :: u76 :: u77 :: u78 :: u79 :: u80 :: u81 :: u82 :: u83 :: u84 :: u85 :: u86 :: u87 :: u88 :: u89 :: u90 :: u91 :: u92 :: u93 :: u94 :: u95 :: u96 :: u97 :: u98 :: u99 :: u100 :: u101 :: u102 :: u103 :: u104 :: u105 :: u106 :: u107 :: u108 :: u109 :: u110 :: u111 :: u112 :: u113 :: u114 :: u115 :: u116 :: u117 :: u118 :: u119 :: u120 :: u121 :: u122 :: u123 :: u124 :: u125 :: u126 :: u127 :: u128 :: u129 :: u130 :: u131 :: u132 :: u133 :: u134 :: u135 :: u136 :: u137 :: u138 :: u139 :: u140 :: u141 :: u142 :: u143 :: u144 :: u145 :: u146 :: u147 :: u148 :: u149 :: u150 :: u151 :: u152 :: u153 :: u154 :: u155 :: u156 :: u157 :: u158 :: u159 :: u160 :: u161 :: u162 :: u163 :: u164 :: u165 :: u166 :: u167 :: u168 :: u169 :: u170 :: u171 :: u172 :: u173 :: u174 :: u175 :: u176 :: u177 :: u178 :: u179 :: u180 :: u181 :: u182 :: u183 :: u184 :: u185 :: u186 :: u187 :: u188 :: u189 :: u190 :: u191 :: u192 :: u193 :: u194 :: u195 :: u196 :: u197 :: u198 :: u199 :: u200 :: u201 :: u202 :: u203 :: u204 :: u205 :: u206 :: u207 :: u208 :: u209 :: u210 :: u211 :: u212 :: u213 :: u214 :: u215 :: u216 :: u217 :: u218 :: u219 :: u220 :: u221 :: u222 :: u223 :: u224 :: u225 :: u226 :: u227 :: u228 :: u229 :: u230 :: u231 :: u232 :: u233 :: u234 :: u235 :: u236 :: u237 :: u238 :: u239 :: u240 :: u241 :: u242 :: u243 :: u244 :: u245 :: u246 :: u247 :: u248 :: u249 :: u250 :: u251 :: u252 :: u253 :: u254 :: u255 :: u256 :: u257 :: u258 :: u259 :: u260 :: u261 :: u262 :: u263 :: u264 :: u265 :: u266 :: u267 :: u268 :: u269 :: u270 :: u271 :: u272 :: u273 :: u274 :: u275 :: []).toArray, []⟩ W
set_option maxRecDepth 100000 in
/-- From statement 4 on it goes well. -/
def Blk4 (w : World) : Prop := ∀ (a1 : Option Addr) (c1 : Nat) (a4 : Option Addr) (c4 : Nat) (u6 u7 u8 u9 u10 u11 u12 u13 u14 u15 u16 u17 u18 u19 u20 u21 u22 u23 u24 u25 u26 u27 u28 u29 u30 u31 u32 u33 u34 u35 u36 u37 u38 u39 u40 u41 u42 u43 u44 u45 u46 u47 u48 u49 u50 u51 u52 u53 u54 u55 u56 u57 u58 u59 u60 u61 u62 u63 u64 u65 u66 u67 u68 u69 u70 u71 u72 u73 u74 u75 u76 u77 u78 u79 u80 u81 u82 u83 u84 u85 u86 u87 u88 u89 u90 u91 u92 u93 u94 u95 u96 u97 u98 u99 u100 u101 u102 u103 u104 u105 u106 u107 u108 u109 u110 u111 u112 u113 u114 u115 u116 u117 u118 u119 u120 u121 u122 u123 u124 u125 u126 u127 u128 u129 u130 u131 u132 u133 u134 u135 u136 u137 u138 u139 u140 u141 u142 u143 u144 u145 u146 u147 u148 u149 u150 u151 u152 u153 u154 u155 u156 u157 u158 u159 u160 u161 u162 u163 u164 u165 u166 u167 u168 u169 u170 u171 u172 u173 u174 u175 u176 u177 u178 u179 u180 u181 u182 u183 u184 u185 u186 u187 u188 u189 u190 u191 u192 u193 u194 u195 u196 u197 u198 u199 u200 u201 u202 u203 u204 u205 u206 u207 u208 u209 u210 u211 u212 u213 u214 u215 u216 u217 u218 u219 u220 u221 u222 u223 u224 u225 u226 u227 u228 u229 u230 u231 u232 u233 u234 u235 u236 u237 u238 u239 u240 u241 u242 u243 u244 u245 u246 u247 u248 u249 u250 u251 u252 u253 u254 u255 u256 u257 u258 u259 u260 u261 u262 u263 u264 u265 u266 u267 u268 u269 u270 u271 u272 u273 u274 u275 : Value) (W : World), (Below w.heap.size w W ∧ D1 a1 c1 W ∧ D4 a4 c4 W) → Code.wp Tryz.prog (sndC (sndC (sndC (sndC bodyK)))) (bodyPost Tryz.prog Tryz.f5 fun r w' => r = .returned (.bool true) ∧ Below w.heap.size w w') ⟨(.bool false :: .slice a1 9 c1 :: .int .i64 0 :: .int .u32 ((crcV [97] : Nat) : Int) :: .slice a4 19 c4 :: .int .i64 0 :: u6 :: u7 :: u8 :: u9 :: u10 :: u11 :: u12 :: u13 :: u14 :: u15 :: u16 :: u17 :: u18 :: u19 :: u20 :: u21 :: u22 :: u23 :: u24 :: u25 :: u26 :: u27 :: u28 :: u29 :: u30 :: u31 :: u32 :: u33 :: u34 :: u35 :: u36 :: u37 :: u38 :: u39 :: u40 :: u41 :: u42 :: u43 :: u44 :: u45 :: u46 :: u47 :: u48 :: u49 :: u50 :: u51 :: u52 :: u53 :: u54 :: u55 :: u56 :: u57 :: u58 :: u59 :: u60 :: u61 :: u62 :: u63 :: u64 :: u65 :: u66 :: u67 :: u68 :: u69 :: u70 :: u71 :: u72 :: u73 :: u74 :: u75 :: u76 :: u77 :: u78 :: u79 :: u80 :: u81 :: u82 :: u83 :: u84 :: u85 :: u86 :: u87 :: u88 :: u89 :: u90 :: u91 :: u92 :: u93 :: u94 :: u95 :: u96 :: u97 :: u98 :: u99 :: u100 :: u101 :: u102 :: u103 :: u104 :: u105 :: u106 :: u107 :: u108 :: u109 :: u110 :: u111 :: u112 :: u113 :: u114 :: u115 :: u116 :: u117 :: u118 :: u119 :: u120 :: u121 :: u122 :: u123 :: u124 :: u125 :: u126 :: u127 :: u128 :: u129 :: u130 :: u131 :: u132 :: u133 :: u134 :: u135 :: u136 :: u137 :: u138 :: u139 :: u140 :: u141 :: u142 :: u143 :: u144 :: u145 :: u146 :: u147 :: u148 :: u149 :: u150 :: u151 :: u152 :: u153 :: u154 :: u155 :: u156 :: u157 :: u158 :: u159 :: u160 :: u161 :: u162 :: u163 :: u164 :: u165 :: u166 :: u167 :: u168 :: u169 :: u170 :: u171 :: u172 :: u173 :: u174 :: u175 :: u176 :: u177 :: u178 :: u179 :: u180 :: u181 :: u182 :: u183 :: u184 :: u185 :: u186 :: u187 :: u188 :: u189 :: u190 :: u191 :: u192 :: u193 :: u194 :: u195 :: u196 :: u197 :: u198 :: u199 :: u200 :: u201 :: u202 :: u203 :: u204 :: u205 :: u206 :: u207 :: u208 :: u209 :: u210 :: u211 :: u212 :: u213 :: u214 :: u215 :: u216 :: u217 :: u218 :: u219 :: u220 :: u221 :: u222 :: u223 :: u224 :: u225 :: u226 :: u227 :: u228 :: u229 :: u230 :: u231 :: u232 :: u233 :: u234 :: u235 :: u236 :: u237 :: u238 :: u239 :: u240 :: u241 :: u242 :: u243 :: u244 :: u245 :: u246 :: u247 :: u248 :: u249 :: u250 :: u251 :: u252 :: u253 :: u254 :: u255 :: u256 :: u257 :: u258 :: u259 :: u260 :: u261 :: u262 :: u263 :: u264 :: u265 :: u266 :: u267 :: u268 :: u269 :: u270 :: u271 :: u272 :: u273 :: u274 :: u275 :: []).toArray, []⟩ W
set_option maxRecDepth 100000 in
/-- From statement 5 on it goes well. -/
def Blk5 (w : World) : Prop := ∀ (a1 : Option Addr) (c1 : Nat) (a4 : Option Addr) (c4 : Nat) (a6 : Option Addr) (c6 : Nat) (u9 u10 u11 u12 u13 u14 u15 u16 u17 u18 u19 u20 u21 u22 u23 u24 u25 u26 u27 u28 u29 u30 u31 u32 u33 u34 u35 u36 u37 u38 u39 u40 u41 u42 u43 u44 u45 u46 u47 u48 u49 u50 u51 u52 u53 u54 u55 u56 u57 u58 u59 u60 u61 u62 u63 u64 u65 u66 u67 u68 u69 u70 u71 u72 u73 u74 u75 u76 u77 u78 u79 u80 u81 u82 u83 u84 u85 u86 u87 u88 u89 u90 u91 u92 u93 u94 u95 u96 u97 u98 u99 u100 u101 u102 u103 u104 u105 u106 u107 u108 u109 u110 u111 u112 u113 u114 u115 u116 u117 u118 u119 u120 u121 u122 u123 u124 u125 u126 u127 u128 u129 u130 u131 u132 u133 u134 u135 u136 u137 u138 u139 u140 u141 u142 u143 u144 u145 u146 u147 u148 u149 u150 u151 u152 u153 u154 u155 u156 u157 u158 u159 u160 u161 u162 u163 u164 u165 u166 u167 u168 u169 u170 u171 u172 u173 u174 u175 u176 u177 u178 u179 u180 u181 u182 u183 u184 u185 u186 u187 u188 u189 u190 u191 u192 u193 u194 u195 u196 u197 u198 u199 u200 u201 u202 u203 u204 u205 u206 u207 u208 u209 u210 u211 u212 u213 u214 u215 u216 u217 u218 u219 u220 u221 u222 u223 u224 u225 u226 u227 u228 u229 u230 u231 u232 u233 u234 u235 u236 u237 u238 u239 u240 u241 u242 u243 u244 u245 u246 u247 u248 u249 u250 u251 u252 u253 u254 u255 u256 u257 u258 u259 u260 u261 u262 u263 u264 u265 u266 u267 u268 u269 u270 u271 u272 u273 u274 u275 : Value) (W : World), (Below w.heap.size w W ∧ D1 a1 c1 W ∧ D4 a4 c4 W ∧ D6 a6 c6 W) → Code.wp Tryz.prog (sndC (sndC (sndC (sndC (sndC bodyK))))) (bodyPost Tryz.prog Tryz.f5 fun r w' => r = .returned (.bool true) ∧ Below w.heap.size w w') ⟨(.bool false :: .slice a1 9 c1 :: .int .i64 0 :: .int .u32 ((crcV [97] : Nat) : Int) :: .slice a4 19 c4 :: .int .i64 0 :: .slice a6 1 c6 :: .int .i64 19 :: .bool true :: u9 :: u10 :: u11 :: u12 :: u13 :: u14 :: u15 :: u16 :: u17 :: u18 :: u19 :: u20 :: u21 :: u22 :: u23 :: u24 :: u25 :: u26 :: u27 :: u28 :: u29 :: u30 :: u31 :: u32 :: u33 :: u34 :: u35 :: u36 :: u37 :: u38 :: u39 :: u40 :: u41 :: u42 :: u43 :: u44 :: u45 :: u46 :: u47 :: u48 :: u49 :: u50 :: u51 :: u52 :: u53 :: u54 :: u55 :: u56 :: u57 :: u58 :: u59 :: u60 :: u61 :: u62 :: u63 :: u64 :: u65 :: u66 :: u67 :: u68 :: u69 :: u70 :: u71 :: u72 :: u73 :: u74 :: u75 :: u76 :: u77 :: u78 :: u79 :: u80 :: u81 :: u82 :: u83 :: u84 :: u85 :: u86 :: u87 :: u88 :: u89 :: u90 :: u91 :: u92 :: u93 :: u94 :: u95 :: u96 :: u97 :: u98 :: u99 :: u100 :: u101 :: u102 :: u103 :: u104 :: u105 :: u106 :: u107 :: u108 :: u109 :: u110 :: u111 :: u112 :: u113 :: u114 :: u115 :: u116 :: u117 :: u118 :: u119 :: u120 :: u121 :: u122 :: u123 :: u124 :: u125 :: u126 :: u127 :: u128 :: u129 :: u130 :: u131 :: u132 :: u133 :: u134 :: u135 :: u136 :: u137 :: u138 :: u139 :: u140 :: u141 :: u142 :: u143 :: u144 :: u145 :: u146 :: u147 :: u148 :: u149 :: u150 :: u151 :: u152 :: u153 :: u154 :: u155 :: u156 :: u157 :: u158 :: u159 :: u160 :: u161 :: u162 :: u163 :: u164 :: u165 :: u166 :: u167 :: u168 :: u169 :: u170 :: u171 :: u172 :: u173 :: u174 :: u175 :: u176 :: u177 :: u178 :: u179 :: u180 :: u181 :: u182 :: u183 :: u184 :: u185 :: u186 :: u187 :: u188 :: u189 :: u190 :: u191 :: u192 :: u193 :: u194 :: u195 :: u196 :: u197 :: u198 :: u199 :: u200 :: u201 :: u202 :: u203 :: u204 :: u205 :: u206 :: u207 :: u208 :: u209 :: u210 :: u211 :: u212 :: u213 :: u214 :: u215 :: u216 :: u217 :: u218 :: u219 :: u220 :: u221 :: u222 :: u223 :: u224 :: u225 :: u226 :: u227 :: u228 :: u229 :: u230 :: u231 :: u232 :: u233 :: u234 :: u235 :: u236 :: u237 :: u238 :: u239 :: u240 :: u241 :: u242 :: u243 :: u244 :: u245 :: u246 :: u247 :: u248 :: u249 :: u250 :: u251 :: u252 :: u253 :: u254 :: u255 :: u256 :: u257 :: u258 :: u259 :: u260 :: u261 :: u262 :: u263 :: u264 :: u265 :: u266 :: u267 :: u268 :: u269 :: u270 :: u271 :: u272 :: u273 :: u274 :: u275 :: []).toArray, []⟩ W
set_option maxRecDepth 100000 in
/-- From statement 6 on it goes well. -/
def Blk6 (w : World) : Prop := ∀ (a1 : Option Addr) (c1 : Nat) (a4 : Option Addr) (c4 : Nat) (a6 : Option Addr) (c6 : Nat) (a9 : Option Addr) (c9 : Nat) (u10 u11 u12 u13 u14 u15 u16 u17 u18 u19 u20 u21 u22 u23 u24 u25 u26 u27 u28 u29 u30 u31 u32 u33 u34 u35 u36 u37 u38 u39 u40 u41 u42 u43 u44 u45 u46 u47 u48 u49 u50 u51 u52 u53 u54 u55 u56 u57 u58 u59 u60 u61 u62 u63 u64 u65 u66 u67 u68 u69 u70 u71 u72 u73 u74 u75 u76 u77 u78 u79 u80 u81 u82 u83 u84 u85 u86 u87 u88 u89 u90 u91 u92 u93 u94 u95 u96 u97 u98 u99 u100 u101 u102 u103 u104 u105 u106 u107 u108 u109 u110 u111 u112 u113 u114 u115 u116 u117 u118 u119 u120 u121 u122 u123 u124 u125 u126 u127 u128 u129 u130 u131 u132 u133 u134 u135 u136 u137 u138 u139 u140 u141 u142 u143 u144 u145 u146 u147 u148 u149 u150 u151 u152 u153 u154 u155 u156 u157 u158 u159 u160 u161 u162 u163 u164 u165 u166 u167 u168 u169 u170 u171 u172 u173 u174 u175 u176 u177 u178 u179 u180 u181 u182 u183 u184 u185 u186 u187 u188 u189 u190 u191 u192 u193 u194 u195 u196 u197 u198 u199 u200 u201 u202 u203 u204 u205 u206 u207 u208 u209 u210 u211 u212 u213 u214 u215 u216 u217 u218 u219 u220 u221 u222 u223 u224 u225 u226 u227 u228 u229 u230 u231 u232 u233 u234 u235 u236 u237 u238 u239 u240 u241 u242 u243 u244 u245 u246 u247 u248 u249 u250 u251 u252 u253 u254 u255 u256 u257 u258 u259 u260 u261 u262 u263 u264 u265 u266 u267 u268 u269 u270 u271 u272 u273 u274 u275 : Value) (W : World), (Below w.heap.size w W ∧ D1 a1 c1 W ∧ D4 a4 c4 W ∧ D6 a6 c6 W ∧ D9 a9 c9 W) → Code.wp Tryz.prog (sndC (sndC (sndC (sndC (sndC (sndC bodyK)))))) (bodyPost Tryz.prog Tryz.f5 fun r w' => r = .returned (.bool true) ∧ Below w.heap.size w w') ⟨(.bool false :: .slice a1 9 c1 :: .int .i64 0 :: .int .u32 ((crcV [97] : Nat) : Int) :: .slice a4 19 c4 :: .int .i64 0 :: .slice a6 1 c6 :: .int .i64 19 :: .bool true :: .slice a9 9 c9 :: u10 :: u11 :: u12 :: u13 :: u14 :: u15 :: u16 :: u17 :: u18 :: u19 :: u20 :: u21 :: u22 :: u23 :: u24 :: u25 :: u26 :: u27 :: u28 :: u29 :: u30 :: u31 :: u32 :: u33 :: u34 :: u35 :: u36 :: u37 :: u38 :: u39 :: u40 :: u41 :: u42 :: u43 :: u44 :: u45 :: u46 :: u47 :: u48 :: u49 :: u50 :: u51 :: u52 :: u53 :: u54 :: u55 :: u56 :: u57 :: u58 :: u59 :: u60 :: u61 :: u62 :: u63 :: u64 :: u65 :: u66 :: u67 :: u68 :: u69 :: u70 :: u71 :: u72 :: u73 :: u74 :: u75 :: u76 :: u77 :: u78 :: u79 :: u80 :: u81 :: u82 :: u83 :: u84 :: u85 :: u86 :: u87 :: u88 :: u89 :: u90 :: u91 :: u92 :: u93 :: u94 :: u95 :: u96 :: u97 :: u98 :: u99 :: u100 :: u101 :: u102 :: u103 :: u104 :: u105 :: u106 :: u107 :: u108 :: u109 :: u110 :: u111 :: u112 :: u113 :: u114 :: u115 :: u116 :: u117 :: u118 :: u119 :: u120 :: u121 :: u122 :: u123 :: u124 :: u125 :: u126 :: u127 :: u128 :: u129 :: u130 :: u131 :: u132 :: u133 :: u134 :: u135 :: u136 :: u137 :: u138 :: u139 :: u140 :: u141 :: u142 :: u143 :: u144 :: u145 :: u146 :: u147 :: u148 :: u149 :: u150 :: u151 :: u152 :: u153 :: u154 :: u155 :: u156 :: u157 :: u158 :: u159 :: u160 :: u161 :: u162 :: u163 :: u164 :: u165 :: u166 :: u167 :: u168 :: u169 :: u170 :: u171 :: u172 :: u173 :: u174 :: u175 :: u176 :: u177 :: u178 :: u179 :: u180 :: u181 :: u182 :: u183 :: u184 :: u185 :: u186 :: u187 :: u188 :: u189 :: u190 :: u191 :: u192 :: u193 :: u194 :: u195 :: u196 :: u197 :: u198 :: u199 :: u200 :: u201 :: u202 :: u203 :: u204 :: u205 :: u206 :: u207 :: u208 :: u209 :: u210 :: u211 :: u212 :: u213 :: u214 :: u215 :: u216 :: u217 :: u218 :: u219 :: u220 :: u221 :: u222 :: u223 :: u224 :: u225 :: u226 :: u227 :: u228 :: u229 :: u230 :: u231 :: u232 :: u233 :: u234 :: u235 :: u236 :: u237 :: u238 :: u239 :: u240 :: u241 :: u242 :: u243 :: u244 :: u245 :: u246 :: u247 :: u248 :: u249 :: u250 :: u251 :: u252 :: u253 :: u254 :: u255 :: u256 :: u257 :: u258 :: u259 :: u260 :: u261 :: u262 :: u263 :: u264 :: u265 :: u266 :: u267 :: u268 :: u269 :: u270 :: u271 :: u272 :: u273 :: u274 :: u275 :: []).toArray, []⟩ W
set_option maxRecDepth 100000 in
/-- From statement 7 on it goes well. -/
def Blk7 (w : World) : Prop := ∀ (a1 : Option Addr) (c1 : Nat) (a4 : Option Addr) (c4 : Nat) (a6 : Option Addr) (c6 : Nat) (a11 : Option Addr) (c11 : Nat) (u9 u10 u14 u15 u16 u17 u18 u19 u20 u21 u22 u23 u24 u25 u26 u27 u28 u29 u30 u31 u32 u33 u34 u35 u36 u37 u38 u39 u40 u41 u42 u43 u44 u45 u46 u47 u48 u49 u50 u51 u52 u53 u54 u55 u56 u57 u58 u59 u60 u61 u62 u63 u64 u65 u66 u67 u68 u69 u70 u71 u72 u73 u74 u75 u76 u77 u78 u79 u80 u81 u82 u83 u84 u85 u86 u87 u88 u89 u90 u91 u92 u93 u94 u95 u96 u97 u98 u99 u100 u101 u102 u103 u104 u105 u106 u107 u108 u109 u110 u111 u112 u113 u114 u115 u116 u117 u118 u119 u120 u121 u122 u123 u124 u125 u126 u127 u128 u129 u130 u131 u132 u133 u134 u135 u136 u137 u138 u139 u140 u141 u142 u143 u144 u145 u146 u147 u148 u149 u150 u151 u152 u153 u154 u155 u156 u157 u158 u159 u160 u161 u162 u163 u164 u165 u166 u167 u168 u169 u170 u171 u172 u173 u174 u175 u176 u177 u178 u179 u180 u181 u182 u183 u184 u185 u186 u187 u188 u189 u190 u191 u192 u193 u194 u195 u196 u197 u198 u199 u200 u201 u202 u203 u204 u205 u206 u207 u208 u209 u210 u211 u212 u213 u214 u215 u216 u217 u218 u219 u220 u221 u222 u223 u224 u225 u226 u227 u228 u229 u230 u231 u232 u233 u234 u235 u236 u237 u238 u239 u240 u241 u242 u243 u244 u245 u246 u247 u248 u249 u250 u251 u252 u253 u254 u255 u256 u257 u258 u259 u260 u261 u262 u263 u264 u265 u266 u267 u268 u269 u270 u271 u272 u273 u274 u275 : Value) (W : World), (Below w.heap.size w W ∧ D1 a1 c1 W ∧ D4 a4 c4 W ∧ D6 a6 c6 W) → Code.wp Tryz.prog (sndC (sndC (sndC (sndC (sndC (sndC (sndC bodyK))))))) (bodyPost Tryz.prog Tryz.f5 fun r w' => r = .returned (.bool true) ∧ Below w.heap.size w w') ⟨(.bool false :: .slice a1 9 c1 :: .int .i64 0 :: .int .u32 ((crcV [97] : Nat) : Int) :: .slice a4 19 c4 :: .int .i64 0 :: .slice a6 1 c6 :: .int .i64 19 :: .bool true :: u9 :: u10 :: .slice a11 0 c11 :: .int .i64 0 :: .bool false :: u14 :: u15 :: u16 :: u17 :: u18 :: u19 :: u20 :: u21 :: u22 :: u23 :: u24 :: u25 :: u26 :: u27 :: u28 :: u29 :: u30 :: u31 :: u32 :: u33 :: u34 :: u35 :: u36 :: u37 :: u38 :: u39 :: u40 :: u41 :: u42 :: u43 :: u44 :: u45 :: u46 :: u47 :: u48 :: u49 :: u50 :: u51 :: u52 :: u53 :: u54 :: u55 :: u56 :: u57 :: u58 :: u59 :: u60 :: u61 :: u62 :: u63 :: u64 :: u65 :: u66 :: u67 :: u68 :: u69 :: u70 :: u71 :: u72 :: u73 :: u74 :: u75 :: u76 :: u77 :: u78 :: u79 :: u80 :: u81 :: u82 :: u83 :: u84 :: u85 :: u86 :: u87 :: u88 :: u89 :: u90 :: u91 :: u92 :: u93 :: u94 :: u95 :: u96 :: u97 :: u98 :: u99 :: u100 :: u101 :: u102 :: u103 :: u104 :: u105 :: u106 :: u107 :: u108 :: u109 :: u110 :: u111 :: u112 :: u113 :: u114 :: u115 :: u116 :: u117 :: u118 :: u119 :: u120 :: u121 :: u122 :: u123 :: u124 :: u125 :: u126 :: u127 :: u128 :: u129 :: u130 :: u131 :: u132 :: u133 :: u134 :: u135 :: u136 :: u137 :: u138 :: u139 :: u140 :: u141 :: u142 :: u143 :: u144 :: u145 :: u146 :: u147 :: u148 :: u149 :: u150 :: u151 :: u152 :: u153 :: u154 :: u155 :: u156 :: u157 :: u158 :: u159 :: u160 :: u161 :: u162 :: u163 :: u164 :: u165 :: u166 :: u167 :: u168 :: u169 :: u170 :: u171 :: u172 :: u173 :: u174 :: u175 :: u176 :: u177 :: u178 :: u179 :: u180 :: u181 :: u182 :: u183 :: u184 :: u185 :: u186 :: u187 :: u188 :: u189 :: u190 :: u191 :: u192 :: u193 :: u194 :: u195 :: u196 :: u197 :: u198 :: u199 :: u200 :: u201 :: u202 :: u203 :: u204 :: u205 :: u206 :: u207 :: u208 :: u209 :: u210 :: u211 :: u212 :: u213 :: u214 :: u215 :: u216 :: u217 :: u218 :: u219 :: u220 :: u221 :: u222 :: u223 :: u224 :: u225 :: u226 :: u227 :: u228 :: u229 :: u230 :: u231 :: u232 :: u233 :: u234 :: u235 :: u236 :: u237 :: u238 :: u239 :: u240 :: u241 :: u242 :: u243 :: u244 :: u245 :: u246 :: u247 :: u248 :: u249 :: u250 :: u251 :: u252 :: u253 :: u254 :: u255 :: u256 :: u257 :: u258 :: u259 :: u260 :: u261 :: u262 :: u263 :: u264 :: u265 :: u266 :: u267 :: u268 :: u269 :: u270 :: u271 :: u272 :: u273 :: u274 :: u275 :: []).toArray, []⟩ W
set_option maxRecDepth 100000 in
/-- From statement 8 on it goes well. -/
def Blk8 (w : World) : Prop := ∀ (a1 : Option Addr) (c1 : Nat) (a4 : Option Addr) (c4 : Nat) (a6 : Option Addr) (c6 : Nat) (a11 : Option Addr) (c11 : Nat) (a14 : Option Addr) (c14 : Nat) (u9 u10 u16 u17 u18 u19 u20 u21 u22 u23 u24 u25 u26 u27 u28 u29 u30 u31 u32 u33 u34 u35 u36 u37 u38 u39 u40 u41 u42 u43 u44 u45 u46 u47 u48 u49 u50 u51 u52 u53 u54 u55 u56 u57 u58 u59 u60 u61 u62 u63 u64 u65 u66 u67 u68 u69 u70 u71 u72 u73 u74 u75 u76 u77 u78 u79 u80 u81 u82 u83 u84 u85 u86 u87 u88 u89 u90 u91 u92 u93 u94 u95 u96 u97 u98 u99 u100 u101 u102 u103 u104 u105 u106 u107 u108 u109 u110 u111 u112 u113 u114 u115 u116 u117 u118 u119 u120 u121 u122 u123 u124 u125 u126 u127 u128 u129 u130 u131 u132 u133 u134 u135 u136 u137 u138 u139 u140 u141 u142 u143 u144 u145 u146 u147 u148 u149 u150 u151 u152 u153 u154 u155 u156 u157 u158 u159 u160 u161 u162 u163 u164 u165 u166 u167 u168 u169 u170 u171 u172 u173 u174 u175 u176 u177 u178 u179 u180 u181 u182 u183 u184 u185 u186 u187 u188 u189 u190 u191 u192 u193 u194 u195 u196 u197 u198 u199 u200 u201 u202 u203 u204 u205 u206 u207 u208 u209 u210 u211 u212 u213 u214 u215 u216 u217 u218 u219 u220 u221 u222 u223 u224 u225 u226 u227 u228 u229 u230 u231 u232 u233 u234 u235 u236 u237 u238 u239 u240 u241 u242 u243 u244 u245 u246 u247 u248 u249 u250 u251 u252 u253 u254 u255 u256 u257 u258 u259 u260 u261 u262 u263 u264 u265 u266 u267 u268 u269 u270 u271 u272 u273 u274 u275 : Value) (W : World), (Below w.heap.size w W ∧ D1 a1 c1 W ∧ D4 a4 c4 W ∧ D6 a6 c6 W ∧ D14 a14 c14 W) → Code.wp Tryz.prog (sndC (sndC (sndC (sndC (sndC (sndC (sndC (sndC bodyK)))))))) (bodyPost Tryz.prog Tryz.f5 fun r w' => r = .returned (.bool true) ∧ Below w.heap.size w w') ⟨(.bool false :: .slice a1 9 c1 :: .int .i64 0 :: .int .u32 ((crcV [97] : Nat) : Int) :: .slice a4 19 c4 :: .int .i64 0 :: .slice a6 1 c6 :: .int .i64 19 :: .bool true :: u9 :: u10 :: .slice a11 0 c11 :: .int .i64 0 :: .bool false :: .slice a14 13 c14 :: .int .i64 0 :: u16 :: u17 :: u18 :: u19 :: u20 :: u21 :: u22 :: u23 :: u24 :: u25 :: u26 :: u27 :: u28 :: u29 :: u30 :: u31 :: u32 :: u33 :: u34 :: u35 :: u36 :: u37 :: u38 :: u39 :: u40 :: u41 :: u42 :: u43 :: u44 :: u45 :: u46 :: u47 :: u48 :: u49 :: u50 :: u51 :: u52 :: u53 :: u54 :: u55 :: u56 :: u57 :: u58 :: u59 :: u60 :: u61 :: u62 :: u63 :: u64 :: u65 :: u66 :: u67 :: u68 :: u69 :: u70 :: u71 :: u72 :: u73 :: u74 :: u75 :: u76 :: u77 :: u78 :: u79 :: u80 :: u81 :: u82 :: u83 :: u84 :: u85 :: u86 :: u87 :: u88 :: u89 :: u90 :: u91 :: u92 :: u93 :: u94 :: u95 :: u96 :: u97 :: u98 :: u99 :: u100 :: u101 :: u102 :: u103 :: u104 :: u105 :: u106 :: u107 :: u108 :: u109 :: u110 :: u111 :: u112 :: u113 :: u114 :: u115 :: u116 :: u117 :: u118 :: u119 :: u120 :: u121 :: u122 :: u123 :: u124 :: u125 :: u126 :: u127 :: u128 :: u129 :: u130 :: u131 :: u132 :: u133 :: u134 :: u135 :: u136 :: u137 :: u138 :: u139 :: u140 :: u141 :: u142 :: u143 :: u144 :: u145 :: u146 :: u147 :: u148 :: u149 :: u150 :: u151 :: u152 :: u153 :: u154 :: u155 :: u156 :: u157 :: u158 :: u159 :: u160 :: u161 :: u162 :: u163 :: u164 :: u165 :: u166 :: u167 :: u168 :: u169 :: u170 :: u171 :: u172 :: u173 :: u174 :: u175 :: u176 :: u177 :: u178 :: u179 :: u180 :: u181 :: u182 :: u183 :: u184 :: u185 :: u186 :: u187 :: u188 :: u189 :: u190 :: u191 :: u192 :: u193 :: u194 :: u195 :: u196 :: u197 :: u198 :: u199 :: u200 :: u201 :: u202 :: u203 :: u204 :: u205 :: u206 :: u207 :: u208 :: u209 :: u210 :: u211 :: u212 :: u213 :: u214 :: u215 :: u216 :: u217 :: u218 :: u219 :: u220 :: u221 :: u222 :: u223 :: u224 :: u225 :: u226 :: u227 :: u228 :: u229 :: u230 :: u231 :: u232 :: u233 :: u234 :: u235 :: u236 :: u237 :: u238 :: u239 :: u240 :: u241 :: u242 :: u243 :: u244 :: u245 :: u246 :: u247 :: u248 :: u249 :: u250 :: u251 :: u252 :: u253 :: u254 :: u255 :: u256 :: u257 :: u258 :: u259 :: u260 :: u261 :: u262 :: u263 :: u264 :: u265 :: u266 :: u267 :: u268 :: u269 :: u270 :: u271 :: u272 :: u273 :: u274 :: u275 :: []).toArray, []⟩ W
set_option maxRecDepth 100000 in
/-- From statement 9 on it goes well. -/
def Blk9 (w : World) : Prop := ∀ (a1 : Option Addr) (c1 : Nat) (a4 : Option Addr) (c4 : Nat) (a6 : Option Addr) (c6 : Nat) (a11 : Option Addr) (c11 : Nat) (a14 : Option Addr) (c14 : Nat) (b16 : Nat) (u9 u10 u18 u19 u20 u21 u22 u23 u24 u25 u26 u27 u28 u29 u30 u31 u32 u33 u34 u35 u36 u37 u38 u39 u40 u41 u42 u43 u44 u45 u46 u47 u48 u49 u50 u51 u52 u53 u54 u55 u56 u57 u58 u59 u60 u61 u62 u63 u64 u65 u66 u67 u68 u69 u70 u71 u72 u73 u74 u75 u76 u77 u78 u79 u80 u81 u82 u83 u84 u85 u86 u87 u88 u89 u90 u91 u92 u93 u94 u95 u96 u97 u98 u99 u100 u101 u102 u103 u104 u105 u106 u107 u108 u109 u110 u111 u112 u113 u114 u115 u116 u117 u118 u119 u120 u121 u122 u123 u124 u125 u126 u127 u128 u129 u130 u131 u132 u133 u134 u135 u136 u137 u138 u139 u140 u141 u142 u143 u144 u145 u146 u147 u148 u149 u150 u151 u152 u153 u154 u155 u156 u157 u158 u159 u160 u161 u162 u163 u164 u165 u166 u167 u168 u169 u170 u171 u172 u173 u174 u175 u176 u177 u178 u179 u180 u181 u182 u183 u184 u185 u186 u187 u188 u189 u190 u191 u192 u193 u194 u195 u196 u197 u198 u199 u200 u201 u202 u203 u204 u205 u206 u207 u208 u209 u210 u211 u212 u213 u214 u215 u216 u217 u218 u219 u220 u221 u222 u223 u224 u225 u226 u227 u228 u229 u230 u231 u232 u233 u234 u235 u236 u237 u238 u239 u240 u241 u242 u243 u244 u245 u246 u247 u248 u249 u250 u251 u252 u253 u254 u255 u256 u257 u258 u259 u260 u261 u262 u263 u264 u265 u266 u267 u268 u269 u270 u271 u272 u273 u274 u275 : Value) (W : World), (Below w.heap.size w W ∧ D1 a1 c1 W ∧ D4 a4 c4 W ∧ D6 a6 c6 W ∧ D14 a14 c14 W ∧ D16 b16 W) → Code.wp Tryz.prog (sndC (sndC (sndC (sndC (sndC (sndC (sndC (sndC (sndC bodyK))))))))) (bodyPost Tryz.prog Tryz.f5 fun r w' => r = .returned (.bool true) ∧ Below w.heap.size w w') ⟨(.bool false :: .slice a1 9 c1 :: .int .i64 0 :: .int .u32 ((crcV [97] : Nat) : Int) :: .slice a4 19 c4 :: .int .i64 0 :: .slice a6 1 c6 :: .int .i64 19 :: .bool true :: u9 :: u10 :: .slice a11 0 c11 :: .int .i64 0 :: .bool false :: .slice a14 13 c14 :: .int .i64 0 :: .pointer (some ⟨b16, 0, none⟩) :: .int .i64 0 :: u18 :: u19 :: u20 :: u21 :: u22 :: u23 :: u24 :: u25 :: u26 :: u27 :: u28 :: u29 :: u30 :: u31 :: u32 :: u33 :: u34 :: u35 :: u36 :: u37 :: u38 :: u39 :: u40 :: u41 :: u42 :: u43 :: u44 :: u45 :: u46 :: u47 :: u48 :: u49 :: u50 :: u51 :: u52 :: u53 :: u54 :: u55 :: u56 :: u57 :: u58 :: u59 :: u60 :: u61 :: u62 :: u63 :: u64 :: u65 :: u66 :: u67 :: u68 :: u69 :: u70 :: u71 :: u72 :: u73 :: u74 :: u75 :: u76 :: u77 :: u78 :: u79 :: u80 :: u81 :: u82 :: u83 :: u84 :: u85 :: u86 :: u87 :: u88 :: u89 :: u90 :: u91 :: u92 :: u93 :: u94 :: u95 :: u96 :: u97 :: u98 :: u99 :: u100 :: u101 :: u102 :: u103 :: u104 :: u105 :: u106 :: u107 :: u108 :: u109 :: u110 :: u111 :: u112 :: u113 :: u114 :: u115 :: u116 :: u117 :: u118 :: u119 :: u120 :: u121 :: u122 :: u123 :: u124 :: u125 :: u126 :: u127 :: u128 :: u129 :: u130 :: u131 :: u132 :: u133 :: u134 :: u135 :: u136 :: u137 :: u138 :: u139 :: u140 :: u141 :: u142 :: u143 :: u144 :: u145 :: u146 :: u147 :: u148 :: u149 :: u150 :: u151 :: u152 :: u153 :: u154 :: u155 :: u156 :: u157 :: u158 :: u159 :: u160 :: u161 :: u162 :: u163 :: u164 :: u165 :: u166 :: u167 :: u168 :: u169 :: u170 :: u171 :: u172 :: u173 :: u174 :: u175 :: u176 :: u177 :: u178 :: u179 :: u180 :: u181 :: u182 :: u183 :: u184 :: u185 :: u186 :: u187 :: u188 :: u189 :: u190 :: u191 :: u192 :: u193 :: u194 :: u195 :: u196 :: u197 :: u198 :: u199 :: u200 :: u201 :: u202 :: u203 :: u204 :: u205 :: u206 :: u207 :: u208 :: u209 :: u210 :: u211 :: u212 :: u213 :: u214 :: u215 :: u216 :: u217 :: u218 :: u219 :: u220 :: u221 :: u222 :: u223 :: u224 :: u225 :: u226 :: u227 :: u228 :: u229 :: u230 :: u231 :: u232 :: u233 :: u234 :: u235 :: u236 :: u237 :: u238 :: u239 :: u240 :: u241 :: u242 :: u243 :: u244 :: u245 :: u246 :: u247 :: u248 :: u249 :: u250 :: u251 :: u252 :: u253 :: u254 :: u255 :: u256 :: u257 :: u258 :: u259 :: u260 :: u261 :: u262 :: u263 :: u264 :: u265 :: u266 :: u267 :: u268 :: u269 :: u270 :: u271 :: u272 :: u273 :: u274 :: u275 :: []).toArray, []⟩ W
set_option maxRecDepth 100000 in
/-- From statement 10 on it goes well. -/
def Blk10 (w : World) : Prop := ∀ (a1 : Option Addr) (c1 : Nat) (a4 : Option Addr) (c4 : Nat) (a6 : Option Addr) (c6 : Nat) (a11 : Option Addr) (c11 : Nat) (b16 : Nat) (u9 u10 u14 u18 u20 u21 u22 u23 u24 u25 u26 u27 u28 u29 u30 u31 u32 u33 u34 u35 u36 u37 u38 u39 u40 u41 u42 u43 u44 u45 u46 u47 u48 u49 u50 u51 u52 u53 u54 u55 u56 u57 u58 u59 u60 u61 u62 u63 u64 u65 u66 u67 u68 u69 u70 u71 u72 u73 u74 u75 u76 u77 u78 u79 u80 u81 u82 u83 u84 u85 u86 u87 u88 u89 u90 u91 u92 u93 u94 u95 u96 u97 u98 u99 u100 u101 u102 u103 u104 u105 u106 u107 u108 u109 u110 u111 u112 u113 u114 u115 u116 u117 u118 u119 u120 u121 u122 u123 u124 u125 u126 u127 u128 u129 u130 u131 u132 u133 u134 u135 u136 u137 u138 u139 u140 u141 u142 u143 u144 u145 u146 u147 u148 u149 u150 u151 u152 u153 u154 u155 u156 u157 u158 u159 u160 u161 u162 u163 u164 u165 u166 u167 u168 u169 u170 u171 u172 u173 u174 u175 u176 u177 u178 u179 u180 u181 u182 u183 u184 u185 u186 u187 u188 u189 u190 u191 u192 u193 u194 u195 u196 u197 u198 u199 u200 u201 u202 u203 u204 u205 u206 u207 u208 u209 u210 u211 u212 u213 u214 u215 u216 u217 u218 u219 u220 u221 u222 u223 u224 u225 u226 u227 u228 u229 u230 u231 u232 u233 u234 u235 u236 u237 u238 u239 u240 u241 u242 u243 u244 u245 u246 u247 u248 u249 u250 u251 u252 u253 u254 u255 u256 u257 u258 u259 u260 u261 u262 u263 u264 u265 u266 u267 u268 u269 u270 u271 u272 u273 u274 u275 : Value) (W : World), (Below w.heap.size w W ∧ D1 a1 c1 W ∧ D4 a4 c4 W ∧ D6 a6 c6 W ∧ D16 b16 W) → Code.wp Tryz.prog (sndC (sndC (sndC (sndC (sndC (sndC (sndC (sndC (sndC (sndC bodyK)))))))))) (bodyPost Tryz.prog Tryz.f5 fun r w' => r = .returned (.bool true) ∧ Below w.heap.size w w') ⟨(.bool false :: .slice a1 9 c1 :: .int .i64 0 :: .int .u32 ((crcV [97] : Nat) : Int) :: .slice a4 19 c4 :: .int .i64 0 :: .slice a6 1 c6 :: .int .i64 19 :: .bool true :: u9 :: u10 :: .slice a11 0 c11 :: .int .i64 0 :: .bool false :: u14 :: .int .i64 0 :: .pointer (some ⟨b16, 0, none⟩) :: .int .i64 0 :: u18 :: .int .i64 4 :: u20 :: u21 :: u22 :: u23 :: u24 :: u25 :: u26 :: u27 :: u28 :: u29 :: u30 :: u31 :: u32 :: u33 :: u34 :: u35 :: u36 :: u37 :: u38 :: u39 :: u40 :: u41 :: u42 :: u43 :: u44 :: u45 :: u46 :: u47 :: u48 :: u49 :: u50 :: u51 :: u52 :: u53 :: u54 :: u55 :: u56 :: u57 :: u58 :: u59 :: u60 :: u61 :: u62 :: u63 :: u64 :: u65 :: u66 :: u67 :: u68 :: u69 :: u70 :: u71 :: u72 :: u73 :: u74 :: u75 :: u76 :: u77 :: u78 :: u79 :: u80 :: u81 :: u82 :: u83 :: u84 :: u85 :: u86 :: u87 :: u88 :: u89 :: u90 :: u91 :: u92 :: u93 :: u94 :: u95 :: u96 :: u97 :: u98 :: u99 :: u100 :: u101 :: u102 :: u103 :: u104 :: u105 :: u106 :: u107 :: u108 :: u109 :: u110 :: u111 :: u112 :: u113 :: u114 :: u115 :: u116 :: u117 :: u118 :: u119 :: u120 :: u121 :: u122 :: u123 :: u124 :: u125 :: u126 :: u127 :: u128 :: u129 :: u130 :: u131 :: u132 :: u133 :: u134 :: u135 :: u136 :: u137 :: u138 :: u139 :: u140 :: u141 :: u142 :: u143 :: u144 :: u145 :: u146 :: u147 :: u148 :: u149 :: u150 :: u151 :: u152 :: u153 :: u154 :: u155 :: u156 :: u157 :: u158 :: u159 :: u160 :: u161 :: u162 :: u163 :: u164 :: u165 :: u166 :: u167 :: u168 :: u169 :: u170 :: u171 :: u172 :: u173 :: u174 :: u175 :: u176 :: u177 :: u178 :: u179 :: u180 :: u181 :: u182 :: u183 :: u184 :: u185 :: u186 :: u187 :: u188 :: u189 :: u190 :: u191 :: u192 :: u193 :: u194 :: u195 :: u196 :: u197 :: u198 :: u199 :: u200 :: u201 :: u202 :: u203 :: u204 :: u205 :: u206 :: u207 :: u208 :: u209 :: u210 :: u211 :: u212 :: u213 :: u214 :: u215 :: u216 :: u217 :: u218 :: u219 :: u220 :: u221 :: u222 :: u223 :: u224 :: u225 :: u226 :: u227 :: u228 :: u229 :: u230 :: u231 :: u232 :: u233 :: u234 :: u235 :: u236 :: u237 :: u238 :: u239 :: u240 :: u241 :: u242 :: u243 :: u244 :: u245 :: u246 :: u247 :: u248 :: u249 :: u250 :: u251 :: u252 :: u253 :: u254 :: u255 :: u256 :: u257 :: u258 :: u259 :: u260 :: u261 :: u262 :: u263 :: u264 :: u265 :: u266 :: u267 :: u268 :: u269 :: u270 :: u271 :: u272 :: u273 :: u274 :: u275 :: []).toArray, []⟩ W
set_option maxRecDepth 100000 in
/-- From statement 11 on it goes well. -/
def Blk11 (w : World) : Prop := ∀ (a1 : Option Addr) (c1 : Nat) (a4 : Option Addr) (c4 : Nat) (a6 : Option Addr) (c6 : Nat) (a11 : Option Addr) (c11 : Nat) (b16 : Nat) (u9 u10 u14 u18 u20 u22 u23 u24 u25 u26 u27 u28 u29 u30 u31 u32 u33 u34 u35 u36 u37 u38 u39 u40 u41 u42 u43 u44 u45 u46 u47 u48 u49 u50 u51 u52 u53 u54 u55 u56 u57 u58 u59 u60 u61 u62 u63 u64 u65 u66 u67 u68 u69 u70 u71 u72 u73 u74 u75 u76 u77 u78 u79 u80 u81 u82 u83 u84 u85 u86 u87 u88 u89 u90 u91 u92 u93 u94 u95 u96 u97 u98 u99 u100 u101 u102 u103 u104 u105 u106 u107 u108 u109 u110 u111 u112 u113 u114 u115 u116 u117 u118 u119 u120 u121 u122 u123 u124 u125 u126 u127 u128 u129 u130 u131 u132 u133 u134 u135 u136 u137 u138 u139 u140 u141 u142 u143 u144 u145 u146 u147 u148 u149 u150 u151 u152 u153 u154 u155 u156 u157 u158 u159 u160 u161 u162 u163 u164 u165 u166 u167 u168 u169 u170 u171 u172 u173 u174 u175 u176 u177 u178 u179 u180 u181 u182 u183 u184 u185 u186 u187 u188 u189 u190 u191 u192 u193 u194 u195 u196 u197 u198 u199 u200 u201 u202 u203 u204 u205 u206 u207 u208 u209 u210 u211 u212 u213 u214 u215 u216 u217 u218 u219 u220 u221 u222 u223 u224 u225 u226 u227 u228 u229 u230 u231 u232 u233 u234 u235 u236 u237 u238 u239 u240 u241 u242 u243 u244 u245 u246 u247 u248 u249 u250 u251 u252 u253 u254 u255 u256 u257 u258 u259 u260 u261 u262 u263 u264 u265 u266 u267 u268 u269 u270 u271 u272 u273 u274 u275 : Value) (W : World), (Below w.heap.size w W ∧ D1 a1 c1 W ∧ D4 a4 c4 W ∧ D6 a6 c6 W ∧ D16 b16 W) → Code.wp Tryz.prog (sndC (sndC (sndC (sndC (sndC (sndC (sndC (sndC (sndC (sndC (sndC bodyK))))))))))) (bodyPost Tryz.prog Tryz.f5 fun r w' => r = .returned (.bool true) ∧ Below w.heap.size w w') ⟨(.bool false :: .slice a1 9 c1 :: .int .i64 0 :: .int .u32 ((crcV [97] : Nat) : Int) :: .slice a4 19 c4 :: .int .i64 0 :: .slice a6 1 c6 :: .int .i64 19 :: .bool true :: u9 :: u10 :: .slice a11 0 c11 :: .int .i64 0 :: .bool false :: u14 :: .int .i64 0 :: .pointer (some ⟨b16, 0, none⟩) :: .int .i64 0 :: u18 :: .int .i64 4 :: u20 :: .int .i64 2 :: u22 :: u23 :: u24 :: u25 :: u26 :: u27 :: u28 :: u29 :: u30 :: u31 :: u32 :: u33 :: u34 :: u35 :: u36 :: u37 :: u38 :: u39 :: u40 :: u41 :: u42 :: u43 :: u44 :: u45 :: u46 :: u47 :: u48 :: u49 :: u50 :: u51 :: u52 :: u53 :: u54 :: u55 :: u56 :: u57 :: u58 :: u59 :: u60 :: u61 :: u62 :: u63 :: u64 :: u65 :: u66 :: u67 :: u68 :: u69 :: u70 :: u71 :: u72 :: u73 :: u74 :: u75 :: u76 :: u77 :: u78 :: u79 :: u80 :: u81 :: u82 :: u83 :: u84 :: u85 :: u86 :: u87 :: u88 :: u89 :: u90 :: u91 :: u92 :: u93 :: u94 :: u95 :: u96 :: u97 :: u98 :: u99 :: u100 :: u101 :: u102 :: u103 :: u104 :: u105 :: u106 :: u107 :: u108 :: u109 :: u110 :: u111 :: u112 :: u113 :: u114 :: u115 :: u116 :: u117 :: u118 :: u119 :: u120 :: u121 :: u122 :: u123 :: u124 :: u125 :: u126 :: u127 :: u128 :: u129 :: u130 :: u131 :: u132 :: u133 :: u134 :: u135 :: u136 :: u137 :: u138 :: u139 :: u140 :: u141 :: u142 :: u143 :: u144 :: u145 :: u146 :: u147 :: u148 :: u149 :: u150 :: u151 :: u152 :: u153 :: u154 :: u155 :: u156 :: u157 :: u158 :: u159 :: u160 :: u161 :: u162 :: u163 :: u164 :: u165 :: u166 :: u167 :: u168 :: u169 :: u170 :: u171 :: u172 :: u173 :: u174 :: u175 :: u176 :: u177 :: u178 :: u179 :: u180 :: u181 :: u182 :: u183 :: u184 :: u185 :: u186 :: u187 :: u188 :: u189 :: u190 :: u191 :: u192 :: u193 :: u194 :: u195 :: u196 :: u197 :: u198 :: u199 :: u200 :: u201 :: u202 :: u203 :: u204 :: u205 :: u206 :: u207 :: u208 :: u209 :: u210 :: u211 :: u212 :: u213 :: u214 :: u215 :: u216 :: u217 :: u218 :: u219 :: u220 :: u221 :: u222 :: u223 :: u224 :: u225 :: u226 :: u227 :: u228 :: u229 :: u230 :: u231 :: u232 :: u233 :: u234 :: u235 :: u236 :: u237 :: u238 :: u239 :: u240 :: u241 :: u242 :: u243 :: u244 :: u245 :: u246 :: u247 :: u248 :: u249 :: u250 :: u251 :: u252 :: u253 :: u254 :: u255 :: u256 :: u257 :: u258 :: u259 :: u260 :: u261 :: u262 :: u263 :: u264 :: u265 :: u266 :: u267 :: u268 :: u269 :: u270 :: u271 :: u272 :: u273 :: u274 :: u275 :: []).toArray, []⟩ W
set_option maxRecDepth 100000 in
/-- From statement 12 on it goes well. -/
def Blk12 (w : World) : Prop := ∀ (a1 : Option Addr) (c1 : Nat) (a4 : Option Addr) (c4 : Nat) (a6 : Option Addr) (c6 : Nat) (a11 : Option Addr) (c11 : Nat) (b16 : Nat) (u9 u10 u14 u18 u20 u22 u24 u25 u26 u27 u28 u29 u30 u31 u32 u33 u34 u35 u36 u37 u38 u39 u40 u41 u42 u43 u44 u45 u46 u47 u48 u49 u50 u51 u52 u53 u54 u55 u56 u57 u58 u59 u60 u61 u62 u63 u64 u65 u66 u67 u68 u69 u70 u71 u72 u73 u74 u75 u76 u77 u78 u79 u80 u81 u82 u83 u84 u85 u86 u87 u88 u89 u90 u91 u92 u93 u94 u95 u96 u97 u98 u99 u100 u101 u102 u103 u104 u105 u106 u107 u108 u109 u110 u111 u112 u113 u114 u115 u116 u117 u118 u119 u120 u121 u122 u123 u124 u125 u126 u127 u128 u129 u130 u131 u132 u133 u134 u135 u136 u137 u138 u139 u140 u141 u142 u143 u144 u145 u146 u147 u148 u149 u150 u151 u152 u153 u154 u155 u156 u157 u158 u159 u160 u161 u162 u163 u164 u165 u166 u167 u168 u169 u170 u171 u172 u173 u174 u175 u176 u177 u178 u179 u180 u181 u182 u183 u184 u185 u186 u187 u188 u189 u190 u191 u192 u193 u194 u195 u196 u197 u198 u199 u200 u201 u202 u203 u204 u205 u206 u207 u208 u209 u210 u211 u212 u213 u214 u215 u216 u217 u218 u219 u220 u221 u222 u223 u224 u225 u226 u227 u228 u229 u230 u231 u232 u233 u234 u235 u236 u237 u238 u239 u240 u241 u242 u243 u244 u245 u246 u247 u248 u249 u250 u251 u252 u253 u254 u255 u256 u257 u258 u259 u260 u261 u262 u263 u264 u265 u266 u267 u268 u269 u270 u271 u272 u273 u274 u275 : Value) (W : World), (Below w.heap.size w W ∧ D1 a1 c1 W ∧ D4 a4 c4 W ∧ D6 a6 c6 W ∧ D16 b16 W) → Code.wp Tryz.prog (sndC (sndC (sndC (sndC (sndC (sndC (sndC (sndC (sndC (sndC (sndC (sndC bodyK)))))))))))) (bodyPost Tryz.prog Tryz.f5 fun r w' => r = .returned (.bool true) ∧ Below w.heap.size w w') ⟨(.bool false :: .slice a1 9 c1 :: .int .i64 0 :: .int .u32 ((crcV [97] : Nat) : Int) :: .slice a4 19 c4 :: .int .i64 0 :: .slice a6 1 c6 :: .int .i64 19 :: .bool true :: u9 :: u10 :: .slice a11 0 c11 :: .int .i64 0 :: .bool false :: u14 :: .int .i64 0 :: .pointer (some ⟨b16, 0, none⟩) :: .int .i64 0 :: u18 :: .int .i64 4 :: u20 :: .int .i64 2 :: u22 :: .int .i64 2 :: u24 :: u25 :: u26 :: u27 :: u28 :: u29 :: u30 :: u31 :: u32 :: u33 :: u34 :: u35 :: u36 :: u37 :: u38 :: u39 :: u40 :: u41 :: u42 :: u43 :: u44 :: u45 :: u46 :: u47 :: u48 :: u49 :: u50 :: u51 :: u52 :: u53 :: u54 :: u55 :: u56 :: u57 :: u58 :: u59 :: u60 :: u61 :: u62 :: u63 :: u64 :: u65 :: u66 :: u67 :: u68 :: u69 :: u70 :: u71 :: u72 :: u73 :: u74 :: u75 :: u76 :: u77 :: u78 :: u79 :: u80 :: u81 :: u82 :: u83 :: u84 :: u85 :: u86 :: u87 :: u88 :: u89 :: u90 :: u91 :: u92 :: u93 :: u94 :: u95 :: u96 :: u97 :: u98 :: u99 :: u100 :: u101 :: u102 :: u103 :: u104 :: u105 :: u106 :: u107 :: u108 :: u109 :: u110 :: u111 :: u112 :: u113 :: u114 :: u115 :: u116 :: u117 :: u118 :: u119 :: u120 :: u121 :: u122 :: u123 :: u124 :: u125 :: u126 :: u127 :: u128 :: u129 :: u130 :: u131 :: u132 :: u133 :: u134 :: u135 :: u136 :: u137 :: u138 :: u139 :: u140 :: u141 :: u142 :: u143 :: u144 :: u145 :: u146 :: u147 :: u148 :: u149 :: u150 :: u151 :: u152 :: u153 :: u154 :: u155 :: u156 :: u157 :: u158 :: u159 :: u160 :: u161 :: u162 :: u163 :: u164 :: u165 :: u166 :: u167 :: u168 :: u169 :: u170 :: u171 :: u172 :: u173 :: u174 :: u175 :: u176 :: u177 :: u178 :: u179 :: u180 :: u181 :: u182 :: u183 :: u184 :: u185 :: u186 :: u187 :: u188 :: u189 :: u190 :: u191 :: u192 :: u193 :: u194 :: u195 :: u196 :: u197 :: u198 :: u199 :: u200 :: u201 :: u202 :: u203 :: u204 :: u205 :: u206 :: u207 :: u208 :: u209 :: u210 :: u211 :: u212 :: u213 :: u214 :: u215 :: u216 :: u217 :: u218 :: u219 :: u220 :: u221 :: u222 :: u223 :: u224 :: u225 :: u226 :: u227 :: u228 :: u229 :: u230 :: u231 :: u232 :: u233 :: u234 :: u235 :: u236 :: u237 :: u238 :: u239 :: u240 :: u241 :: u242 :: u243 :: u244 :: u245 :: u246 :: u247 :: u248 :: u249 :: u250 :: u251 :: u252 :: u253 :: u254 :: u255 :: u256 :: u257 :: u258 :: u259 :: u260 :: u261 :: u262 :: u263 :: u264 :: u265 :: u266 :: u267 :: u268 :: u269 :: u270 :: u271 :: u272 :: u273 :: u274 :: u275 :: []).toArray, []⟩ W
set_option maxRecDepth 100000 in
/-- From statement 13 on it goes well. -/
def Blk13 (w : World) : Prop := ∀ (a1 : Option Addr) (c1 : Nat) (a4 : Option Addr) (c4 : Nat) (a6 : Option Addr) (c6 : Nat) (a11 : Option Addr) (c11 : Nat) (b16 : Nat) (u9 u10 u14 u18 u20 u22 u24 u26 u27 u28 u29 u30 u31 u32 u33 u34 u35 u36 u37 u38 u39 u40 u41 u42 u43 u44 u45 u46 u47 u48 u49 u50 u51 u52 u53 u54 u55 u56 u57 u58 u59 u60 u61 u62 u63 u64 u65 u66 u67 u68 u69 u70 u71 u72 u73 u74 u75 u76 u77 u78 u79 u80 u81 u82 u83 u84 u85 u86 u87 u88 u89 u90 u91 u92 u93 u94 u95 u96 u97 u98 u99 u100 u101 u102 u103 u104 u105 u106 u107 u108 u109 u110 u111 u112 u113 u114 u115 u116 u117 u118 u119 u120 u121 u122 u123 u124 u125 u126 u127 u128 u129 u130 u131 u132 u133 u134 u135 u136 u137 u138 u139 u140 u141 u142 u143 u144 u145 u146 u147 u148 u149 u150 u151 u152 u153 u154 u155 u156 u157 u158 u159 u160 u161 u162 u163 u164 u165 u166 u167 u168 u169 u170 u171 u172 u173 u174 u175 u176 u177 u178 u179 u180 u181 u182 u183 u184 u185 u186 u187 u188 u189 u190 u191 u192 u193 u194 u195 u196 u197 u198 u199 u200 u201 u202 u203 u204 u205 u206 u207 u208 u209 u210 u211 u212 u213 u214 u215 u216 u217 u218 u219 u220 u221 u222 u223 u224 u225 u226 u227 u228 u229 u230 u231 u232 u233 u234 u235 u236 u237 u238 u239 u240 u241 u242 u243 u244 u245 u246 u247 u248 u249 u250 u251 u252 u253 u254 u255 u256 u257 u258 u259 u260 u261 u262 u263 u264 u265 u266 u267 u268 u269 u270 u271 u272 u273 u274 u275 : Value) (W : World), (Below w.heap.size w W ∧ D1 a1 c1 W ∧ D4 a4 c4 W ∧ D6 a6 c6 W ∧ D16 b16 W) → Code.wp Tryz.prog (sndC (sndC (sndC (sndC (sndC (sndC (sndC (sndC (sndC (sndC (sndC (sndC (sndC bodyK))))))))))))) (bodyPost Tryz.prog Tryz.f5 fun r w' => r = .returned (.bool true) ∧ Below w.heap.size w w') ⟨(.bool false :: .slice a1 9 c1 :: .int .i64 0 :: .int .u32 ((crcV [97] : Nat) : Int) :: .slice a4 19 c4 :: .int .i64 0 :: .slice a6 1 c6 :: .int .i64 19 :: .bool true :: u9 :: u10 :: .slice a11 0 c11 :: .int .i64 0 :: .bool false :: u14 :: .int .i64 0 :: .pointer (some ⟨b16, 0, none⟩) :: .int .i64 0 :: u18 :: .int .i64 4 :: u20 :: .int .i64 2 :: u22 :: .int .i64 2 :: u24 :: .int .i64 2 :: u26 :: u27 :: u28 :: u29 :: u30 :: u31 :: u32 :: u33 :: u34 :: u35 :: u36 :: u37 :: u38 :: u39 :: u40 :: u41 :: u42 :: u43 :: u44 :: u45 :: u46 :: u47 :: u48 :: u49 :: u50 :: u51 :: u52 :: u53 :: u54 :: u55 :: u56 :: u57 :: u58 :: u59 :: u60 :: u61 :: u62 :: u63 :: u64 :: u65 :: u66 :: u67 :: u68 :: u69 :: u70 :: u71 :: u72 :: u73 :: u74 :: u75 :: u76 :: u77 :: u78 :: u79 :: u80 :: u81 :: u82 :: u83 :: u84 :: u85 :: u86 :: u87 :: u88 :: u89 :: u90 :: u91 :: u92 :: u93 :: u94 :: u95 :: u96 :: u97 :: u98 :: u99 :: u100 :: u101 :: u102 :: u103 :: u104 :: u105 :: u106 :: u107 :: u108 :: u109 :: u110 :: u111 :: u112 :: u113 :: u114 :: u115 :: u116 :: u117 :: u118 :: u119 :: u120 :: u121 :: u122 :: u123 :: u124 :: u125 :: u126 :: u127 :: u128 :: u129 :: u130 :: u131 :: u132 :: u133 :: u134 :: u135 :: u136 :: u137 :: u138 :: u139 :: u140 :: u141 :: u142 :: u143 :: u144 :: u145 :: u146 :: u147 :: u148 :: u149 :: u150 :: u151 :: u152 :: u153 :: u154 :: u155 :: u156 :: u157 :: u158 :: u159 :: u160 :: u161 :: u162 :: u163 :: u164 :: u165 :: u166 :: u167 :: u168 :: u169 :: u170 :: u171 :: u172 :: u173 :: u174 :: u175 :: u176 :: u177 :: u178 :: u179 :: u180 :: u181 :: u182 :: u183 :: u184 :: u185 :: u186 :: u187 :: u188 :: u189 :: u190 :: u191 :: u192 :: u193 :: u194 :: u195 :: u196 :: u197 :: u198 :: u199 :: u200 :: u201 :: u202 :: u203 :: u204 :: u205 :: u206 :: u207 :: u208 :: u209 :: u210 :: u211 :: u212 :: u213 :: u214 :: u215 :: u216 :: u217 :: u218 :: u219 :: u220 :: u221 :: u222 :: u223 :: u224 :: u225 :: u226 :: u227 :: u228 :: u229 :: u230 :: u231 :: u232 :: u233 :: u234 :: u235 :: u236 :: u237 :: u238 :: u239 :: u240 :: u241 :: u242 :: u243 :: u244 :: u245 :: u246 :: u247 :: u248 :: u249 :: u250 :: u251 :: u252 :: u253 :: u254 :: u255 :: u256 :: u257 :: u258 :: u259 :: u260 :: u261 :: u262 :: u263 :: u264 :: u265 :: u266 :: u267 :: u268 :: u269 :: u270 :: u271 :: u272 :: u273 :: u274 :: u275 :: []).toArray, []⟩ W
set_option maxRecDepth 100000 in
/-- From statement 14 on it goes well. -/
def Blk14 (w : World) : Prop := ∀ (a1 : Option Addr) (c1 : Nat) (a4 : Option Addr) (c4 : Nat) (a6 : Option Addr) (c6 : Nat) (a11 : Option Addr) (c11 : Nat) (b16 : Nat) (b26 : Nat) (u9 u10 u14 u18 u20 u22 u24 u27 u28 u29 u30 u31 u32 u33 u34 u35 u36 u37 u38 u39 u40 u41 u42 u43 u44 u45 u46 u47 u48 u49 u50 u51 u52 u53 u54 u55 u56 u57 u58 u59 u60 u61 u62 u63 u64 u65 u66 u67 u68 u69 u70 u71 u72 u73 u74 u75 u76 u77 u78 u79 u80 u81 u82 u83 u84 u85 u86 u87 u88 u89 u90 u91 u92 u93 u94 u95 u96 u97 u98 u99 u100 u101 u102 u103 u104 u105 u106 u107 u108 u109 u110 u111 u112 u113 u114 u115 u116 u117 u118 u119 u120 u121 u122 u123 u124 u125 u126 u127 u128 u129 u130 u131 u132 u133 u134 u135 u136 u137 u138 u139 u140 u141 u142 u143 u144 u145 u146 u147 u148 u149 u150 u151 u152 u153 u154 u155 u156 u157 u158 u159 u160 u161 u162 u163 u164 u165 u166 u167 u168 u169 u170 u171 u172 u173 u174 u175 u176 u177 u178 u179 u180 u181 u182 u183 u184 u185 u186 u187 u188 u189 u190 u191 u192 u193 u194 u195 u196 u197 u198 u199 u200 u201 u202 u203 u204 u205 u206 u207 u208 u209 u210 u211 u212 u213 u214 u215 u216 u217 u218 u219 u220 u221 u222 u223 u224 u225 u226 u227 u228 u229 u230 u231 u232 u233 u234 u235 u236 u237 u238 u239 u240 u241 u242 u243 u244 u245 u246 u247 u248 u249 u250 u251 u252 u253 u254 u255 u256 u257 u258 u259 u260 u261 u262 u263 u264 u265 u266 u267 u268 u269 u270 u271 u272 u273 u274 u275 : Value) (W : World), (Below w.heap.size w W ∧ D1 a1 c1 W ∧ D4 a4 c4 W ∧ D6 a6 c6 W ∧ D16 b16 W ∧ D26 b26 W) → Code.wp Tryz.prog (sndC (sndC (sndC (sndC (sndC (sndC (sndC (sndC (sndC (sndC (sndC (sndC (sndC (sndC bodyK)))))))))))))) (bodyPost Tryz.prog Tryz.f5 fun r w' => r = .returned (.bool true) ∧ Below w.heap.size w w') ⟨(.bool false :: .slice a1 9 c1 :: .int .i64 0 :: .int .u32 ((crcV [97] : Nat) : Int) :: .slice a4 19 c4 :: .int .i64 0 :: .slice a6 1 c6 :: .int .i64 19 :: .bool true :: u9 :: u10 :: .slice a11 0 c11 :: .int .i64 0 :: .bool false :: u14 :: .int .i64 0 :: .pointer (some ⟨b16, 0, none⟩) :: .int .i64 0 :: u18 :: .int .i64 4 :: u20 :: .int .i64 2 :: u22 :: .int .i64 2 :: u24 :: .int .i64 2 :: .pointer (some ⟨b26, 0, none⟩) :: u27 :: u28 :: u29 :: u30 :: u31 :: u32 :: u33 :: u34 :: u35 :: u36 :: u37 :: u38 :: u39 :: u40 :: u41 :: u42 :: u43 :: u44 :: u45 :: u46 :: u47 :: u48 :: u49 :: u50 :: u51 :: u52 :: u53 :: u54 :: u55 :: u56 :: u57 :: u58 :: u59 :: u60 :: u61 :: u62 :: u63 :: u64 :: u65 :: u66 :: u67 :: u68 :: u69 :: u70 :: u71 :: u72 :: u73 :: u74 :: u75 :: u76 :: u77 :: u78 :: u79 :: u80 :: u81 :: u82 :: u83 :: u84 :: u85 :: u86 :: u87 :: u88 :: u89 :: u90 :: u91 :: u92 :: u93 :: u94 :: u95 :: u96 :: u97 :: u98 :: u99 :: u100 :: u101 :: u102 :: u103 :: u104 :: u105 :: u106 :: u107 :: u108 :: u109 :: u110 :: u111 :: u112 :: u113 :: u114 :: u115 :: u116 :: u117 :: u118 :: u119 :: u120 :: u121 :: u122 :: u123 :: u124 :: u125 :: u126 :: u127 :: u128 :: u129 :: u130 :: u131 :: u132 :: u133 :: u134 :: u135 :: u136 :: u137 :: u138 :: u139 :: u140 :: u141 :: u142 :: u143 :: u144 :: u145 :: u146 :: u147 :: u148 :: u149 :: u150 :: u151 :: u152 :: u153 :: u154 :: u155 :: u156 :: u157 :: u158 :: u159 :: u160 :: u161 :: u162 :: u163 :: u164 :: u165 :: u166 :: u167 :: u168 :: u169 :: u170 :: u171 :: u172 :: u173 :: u174 :: u175 :: u176 :: u177 :: u178 :: u179 :: u180 :: u181 :: u182 :: u183 :: u184 :: u185 :: u186 :: u187 :: u188 :: u189 :: u190 :: u191 :: u192 :: u193 :: u194 :: u195 :: u196 :: u197 :: u198 :: u199 :: u200 :: u201 :: u202 :: u203 :: u204 :: u205 :: u206 :: u207 :: u208 :: u209 :: u210 :: u211 :: u212 :: u213 :: u214 :: u215 :: u216 :: u217 :: u218 :: u219 :: u220 :: u221 :: u222 :: u223 :: u224 :: u225 :: u226 :: u227 :: u228 :: u229 :: u230 :: u231 :: u232 :: u233 :: u234 :: u235 :: u236 :: u237 :: u238 :: u239 :: u240 :: u241 :: u242 :: u243 :: u244 :: u245 :: u246 :: u247 :: u248 :: u249 :: u250 :: u251 :: u252 :: u253 :: u254 :: u255 :: u256 :: u257 :: u258 :: u259 :: u260 :: u261 :: u262 :: u263 :: u264 :: u265 :: u266 :: u267 :: u268 :: u269 :: u270 :: u271 :: u272 :: u273 :: u274 :: u275 :: []).toArray, []⟩ W
set_option maxRecDepth 100000 in
/-- From statement 15 on it goes well. -/
def Blk15 (w : World) : Prop := ∀ (a1 : Option Addr) (c1 : Nat) (a4 : Option Addr) (c4 : Nat) (a6 : Option Addr) (c6 : Nat) (a11 : Option Addr) (c11 : Nat) (b16 : Nat) (b26 : Nat) (u9 u10 u14 u18 u20 u22 u24 u27 u29 u30 u31 u32 u33 u34 u35 u36 u37 u38 u39 u40 u41 u42 u43 u44 u45 u46 u47 u48 u49 u50 u51 u52 u53 u54 u55 u56 u57 u58 u59 u60 u61 u62 u63 u64 u65 u66 u67 u68 u69 u70 u71 u72 u73 u74 u75 u76 u77 u78 u79 u80 u81 u82 u83 u84 u85 u86 u87 u88 u89 u90 u91 u92 u93 u94 u95 u96 u97 u98 u99 u100 u101 u102 u103 u104 u105 u106 u107 u108 u109 u110 u111 u112 u113 u114 u115 u116 u117 u118 u119 u120 u121 u122 u123 u124 u125 u126 u127 u128 u129 u130 u131 u132 u133 u134 u135 u136 u137 u138 u139 u140 u141 u142 u143 u144 u145 u146 u147 u148 u149 u150 u151 u152 u153 u154 u155 u156 u157 u158 u159 u160 u161 u162 u163 u164 u165 u166 u167 u168 u169 u170 u171 u172 u173 u174 u175 u176 u177 u178 u179 u180 u181 u182 u183 u184 u185 u186 u187 u188 u189 u190 u191 u192 u193 u194 u195 u196 u197 u198 u199 u200 u201 u202 u203 u204 u205 u206 u207 u208 u209 u210 u211 u212 u213 u214 u215 u216 u217 u218 u219 u220 u221 u222 u223 u224 u225 u226 u227 u228 u229 u230 u231 u232 u233 u234 u235 u236 u237 u238 u239 u240 u241 u242 u243 u244 u245 u246 u247 u248 u249 u250 u251 u252 u253 u254 u255 u256 u257 u258 u259 u260 u261 u262 u263 u264 u265 u266 u267 u268 u269 u270 u271 u272 u273 u274 u275 : Value) (W : World), (Below w.heap.size w W ∧ D1 a1 c1 W ∧ D4 a4 c4 W ∧ D6 a6 c6 W ∧ D16 b16 W ∧ D26 b26 W) → Code.wp Tryz.prog (sndC (sndC (sndC (sndC (sndC (sndC (sndC (sndC (sndC (sndC (sndC (sndC (sndC (sndC (sndC bodyK))))))))))))))) (bodyPost Tryz.prog Tryz.f5 fun r w' => r = .returned (.bool true) ∧ Below w.heap.size w w') ⟨(.bool false :: .slice a1 9 c1 :: .int .i64 0 :: .int .u32 ((crcV [97] : Nat) : Int) :: .slice a4 19 c4 :: .int .i64 0 :: .slice a6 1 c6 :: .int .i64 19 :: .bool true :: u9 :: u10 :: .slice a11 0 c11 :: .int .i64 0 :: .bool false :: u14 :: .int .i64 0 :: .pointer (some ⟨b16, 0, none⟩) :: .int .i64 0 :: u18 :: .int .i64 4 :: u20 :: .int .i64 2 :: u22 :: .int .i64 2 :: u24 :: .int .i64 2 :: .pointer (some ⟨b26, 0, none⟩) :: u27 :: .int .i64 2 :: u29 :: u30 :: u31 :: u32 :: u33 :: u34 :: u35 :: u36 :: u37 :: u38 :: u39 :: u40 :: u41 :: u42 :: u43 :: u44 :: u45 :: u46 :: u47 :: u48 :: u49 :: u50 :: u51 :: u52 :: u53 :: u54 :: u55 :: u56 :: u57 :: u58 :: u59 :: u60 :: u61 :: u62 :: u63 :: u64 :: u65 :: u66 :: u67 :: u68 :: u69 :: u70 :: u71 :: u72 :: u73 :: u74 :: u75 :: u76 :: u77 :: u78 :: u79 :: u80 :: u81 :: u82 :: u83 :: u84 :: u85 :: u86 :: u87 :: u88 :: u89 :: u90 :: u91 :: u92 :: u93 :: u94 :: u95 :: u96 :: u97 :: u98 :: u99 :: u100 :: u101 :: u102 :: u103 :: u104 :: u105 :: u106 :: u107 :: u108 :: u109 :: u110 :: u111 :: u112 :: u113 :: u114 :: u115 :: u116 :: u117 :: u118 :: u119 :: u120 :: u121 :: u122 :: u123 :: u124 :: u125 :: u126 :: u127 :: u128 :: u129 :: u130 :: u131 :: u132 :: u133 :: u134 :: u135 :: u136 :: u137 :: u138 :: u139 :: u140 :: u141 :: u142 :: u143 :: u144 :: u145 :: u146 :: u147 :: u148 :: u149 :: u150 :: u151 :: u152 :: u153 :: u154 :: u155 :: u156 :: u157 :: u158 :: u159 :: u160 :: u161 :: u162 :: u163 :: u164 :: u165 :: u166 :: u167 :: u168 :: u169 :: u170 :: u171 :: u172 :: u173 :: u174 :: u175 :: u176 :: u177 :: u178 :: u179 :: u180 :: u181 :: u182 :: u183 :: u184 :: u185 :: u186 :: u187 :: u188 :: u189 :: u190 :: u191 :: u192 :: u193 :: u194 :: u195 :: u196 :: u197 :: u198 :: u199 :: u200 :: u201 :: u202 :: u203 :: u204 :: u205 :: u206 :: u207 :: u208 :: u209 :: u210 :: u211 :: u212 :: u213 :: u214 :: u215 :: u216 :: u217 :: u218 :: u219 :: u220 :: u221 :: u222 :: u223 :: u224 :: u225 :: u226 :: u227 :: u228 :: u229 :: u230 :: u231 :: u232 :: u233 :: u234 :: u235 :: u236 :: u237 :: u238 :: u239 :: u240 :: u241 :: u242 :: u243 :: u244 :: u245 :: u246 :: u247 :: u248 :: u249 :: u250 :: u251 :: u252 :: u253 :: u254 :: u255 :: u256 :: u257 :: u258 :: u259 :: u260 :: u261 :: u262 :: u263 :: u264 :: u265 :: u266 :: u267 :: u268 :: u269 :: u270 :: u271 :: u272 :: u273 :: u274 :: u275 :: []).toArray, []⟩ W
set_option maxRecDepth 100000 in
/-- From statement 16 on it goes well. -/
def Blk16 (w : World) : Prop := ∀ (a1 : Option Addr) (c1 : Nat) (a4 : Option Addr) (c4 : Nat) (a6 : Option Addr) (c6 : Nat) (a11 : Option Addr) (c11 : Nat) (b16 : Nat) (a29 : Option Addr) (c29 : Nat) (u9 u10 u14 u18 u20 u22 u24 u26 u27 u30 u31 u32 u33 u34 u35 u36 u37 u38 u39 u40 u41 u42 u43 u44 u45 u46 u47 u48 u49 u50 u51 u52 u53 u54 u55 u56 u57 u58 u59 u60 u61 u62 u63 u64 u65 u66 u67 u68 u69 u70 u71 u72 u73 u74 u75 u76 u77 u78 u79 u80 u81 u82 u83 u84 u85 u86 u87 u88 u89 u90 u91 u92 u93 u94 u95 u96 u97 u98 u99 u100 u101 u102 u103 u104 u105 u106 u107 u108 u109 u110 u111 u112 u113 u114 u115 u116 u117 u118 u119 u120 u121 u122 u123 u124 u125 u126 u127 u128 u129 u130 u131 u132 u133 u134 u135 u136 u137 u138 u139 u140 u141 u142 u143 u144 u145 u146 u147 u148 u149 u150 u151 u152 u153 u154 u155 u156 u157 u158 u159 u160 u161 u162 u163 u164 u165 u166 u167 u168 u169 u170 u171 u172 u173 u174 u175 u176 u177 u178 u179 u180 u181 u182 u183 u184 u185 u186 u187 u188 u189 u190 u191 u192 u193 u194 u195 u196 u197 u198 u199 u200 u201 u202 u203 u204 u205 u206 u207 u208 u209 u210 u211 u212 u213 u214 u215 u216 u217 u218 u219 u220 u221 u222 u223 u224 u225 u226 u227 u228 u229 u230 u231 u232 u233 u234 u235 u236 u237 u238 u239 u240 u241 u242 u243 u244 u245 u246 u247 u248 u249 u250 u251 u252 u253 u254 u255 u256 u257 u258 u259 u260 u261 u262 u263 u264 u265 u266 u267 u268 u269 u270 u271 u272 u273 u274 u275 : Value) (W : World), (Below w.heap.size w W ∧ D1 a1 c1 W ∧ D4 a4 c4 W ∧ D6 a6 c6 W ∧ D16 b16 W ∧ D29 a29 c29 W) → Code.wp Tryz.prog (sndC (sndC (sndC (sndC (sndC (sndC (sndC (sndC (sndC (sndC (sndC (sndC (sndC (sndC (sndC (sndC bodyK)))))))))))))))) (bodyPost Tryz.prog Tryz.f5 fun r w' => r = .returned (.bool true) ∧ Below w.heap.size w w') ⟨(.bool false :: .slice a1 9 c1 :: .int .i64 0 :: .int .u32 ((crcV [97] : Nat) : Int) :: .slice a4 19 c4 :: .int .i64 0 :: .slice a6 1 c6 :: .int .i64 19 :: .bool true :: u9 :: u10 :: .slice a11 0 c11 :: .int .i64 0 :: .bool false :: u14 :: .int .i64 0 :: .pointer (some ⟨b16, 0, none⟩) :: .int .i64 0 :: u18 :: .int .i64 4 :: u20 :: .int .i64 2 :: u22 :: .int .i64 2 :: u24 :: .int .i64 2 :: u26 :: u27 :: .int .i64 2 :: .slice a29 3 c29 :: u30 :: u31 :: u32 :: u33 :: u34 :: u35 :: u36 :: u37 :: u38 :: u39 :: u40 :: u41 :: u42 :: u43 :: u44 :: u45 :: u46 :: u47 :: u48 :: u49 :: u50 :: u51 :: u52 :: u53 :: u54 :: u55 :: u56 :: u57 :: u58 :: u59 :: u60 :: u61 :: u62 :: u63 :: u64 :: u65 :: u66 :: u67 :: u68 :: u69 :: u70 :: u71 :: u72 :: u73 :: u74 :: u75 :: u76 :: u77 :: u78 :: u79 :: u80 :: u81 :: u82 :: u83 :: u84 :: u85 :: u86 :: u87 :: u88 :: u89 :: u90 :: u91 :: u92 :: u93 :: u94 :: u95 :: u96 :: u97 :: u98 :: u99 :: u100 :: u101 :: u102 :: u103 :: u104 :: u105 :: u106 :: u107 :: u108 :: u109 :: u110 :: u111 :: u112 :: u113 :: u114 :: u115 :: u116 :: u117 :: u118 :: u119 :: u120 :: u121 :: u122 :: u123 :: u124 :: u125 :: u126 :: u127 :: u128 :: u129 :: u130 :: u131 :: u132 :: u133 :: u134 :: u135 :: u136 :: u137 :: u138 :: u139 :: u140 :: u141 :: u142 :: u143 :: u144 :: u145 :: u146 :: u147 :: u148 :: u149 :: u150 :: u151 :: u152 :: u153 :: u154 :: u155 :: u156 :: u157 :: u158 :: u159 :: u160 :: u161 :: u162 :: u163 :: u164 :: u165 :: u166 :: u167 :: u168 :: u169 :: u170 :: u171 :: u172 :: u173 :: u174 :: u175 :: u176 :: u177 :: u178 :: u179 :: u180 :: u181 :: u182 :: u183 :: u184 :: u185 :: u186 :: u187 :: u188 :: u189 :: u190 :: u191 :: u192 :: u193 :: u194 :: u195 :: u196 :: u197 :: u198 :: u199 :: u200 :: u201 :: u202 :: u203 :: u204 :: u205 :: u206 :: u207 :: u208 :: u209 :: u210 :: u211 :: u212 :: u213 :: u214 :: u215 :: u216 :: u217 :: u218 :: u219 :: u220 :: u221 :: u222 :: u223 :: u224 :: u225 :: u226 :: u227 :: u228 :: u229 :: u230 :: u231 :: u232 :: u233 :: u234 :: u235 :: u236 :: u237 :: u238 :: u239 :: u240 :: u241 :: u242 :: u243 :: u244 :: u245 :: u246 :: u247 :: u248 :: u249 :: u250 :: u251 :: u252 :: u253 :: u254 :: u255 :: u256 :: u257 :: u258 :: u259 :: u260 :: u261 :: u262 :: u263 :: u264 :: u265 :: u266 :: u267 :: u268 :: u269 :: u270 :: u271 :: u272 :: u273 :: u274 :: u275 :: []).toArray, []⟩ W
set_option maxRecDepth 100000 in
/-- From statement 17 on it goes well. -/
def Blk17 (w : World) : Prop := ∀ (a1 : Option Addr) (c1 : Nat) (a4 : Option Addr) (c4 : Nat) (a6 : Option Addr) (c6 : Nat) (a11 : Option Addr) (c11 : Nat) (b16 : Nat) (a31 : Option Addr) (n31 c31 : Nat) (u9 u10 u14 u18 u20 u22 u24 u26 u27 u29 u30 u32 u33 u34 u35 u36 u37 u38 u39 u40 u41 u42 u43 u44 u45 u46 u47 u48 u49 u50 u51 u52 u53 u54 u55 u56 u57 u58 u59 u60 u61 u62 u63 u64 u65 u66 u67 u68 u69 u70 u71 u72 u73 u74 u75 u76 u77 u78 u79 u80 u81 u82 u83 u84 u85 u86 u87 u88 u89 u90 u91 u92 u93 u94 u95 u96 u97 u98 u99 u100 u101 u102 u103 u104 u105 u106 u107 u108 u109 u110 u111 u112 u113 u114 u115 u116 u117 u118 u119 u120 u121 u122 u123 u124 u125 u126 u127 u128 u129 u130 u131 u132 u133 u134 u135 u136 u137 u138 u139 u140 u141 u142 u143 u144 u145 u146 u147 u148 u149 u150 u151 u152 u153 u154 u155 u156 u157 u158 u159 u160 u161 u162 u163 u164 u165 u166 u167 u168 u169 u170 u171 u172 u173 u174 u175 u176 u177 u178 u179 u180 u181 u182 u183 u184 u185 u186 u187 u188 u189 u190 u191 u192 u193 u194 u195 u196 u197 u198 u199 u200 u201 u202 u203 u204 u205 u206 u207 u208 u209 u210 u211 u212 u213 u214 u215 u216 u217 u218 u219 u220 u221 u222 u223 u224 u225 u226 u227 u228 u229 u230 u231 u232 u233 u234 u235 u236 u237 u238 u239 u240 u241 u242 u243 u244 u245 u246 u247 u248 u249 u250 u251 u252 u253 u254 u255 u256 u257 u258 u259 u260 u261 u262 u263 u264 u265 u266 u267 u268 u269 u270 u271 u272 u273 u274 u275 : Value) (W : World), (Below w.heap.size w W ∧ D1 a1 c1 W ∧ D4 a4 c4 W ∧ D6 a6 c6 W ∧ D16 b16 W ∧ D31 a31 n31 c31 W) → Code.wp Tryz.prog (sndC (sndC (sndC (sndC (sndC (sndC (sndC (sndC (sndC (sndC (sndC (sndC (sndC (sndC (sndC (sndC (sndC bodyK))))))))))))))))) (bodyPost Tryz.prog Tryz.f5 fun r w' => r = .returned (.bool true) ∧ Below w.heap.size w w') ⟨(.bool false :: .slice a1 9 c1 :: .int .i64 0 :: .int .u32 ((crcV [97] : Nat) : Int) :: .slice a4 19 c4 :: .int .i64 0 :: .slice a6 1 c6 :: .int .i64 19 :: .bool true :: u9 :: u10 :: .slice a11 0 c11 :: .int .i64 0 :: .bool false :: u14 :: .int .i64 0 :: .pointer (some ⟨b16, 0, none⟩) :: .int .i64 0 :: u18 :: .int .i64 4 :: u20 :: .int .i64 2 :: u22 :: .int .i64 2 :: u24 :: .int .i64 2 :: u26 :: u27 :: .int .i64 2 :: u29 :: u30 :: .slice a31 n31 c31 :: u32 :: u33 :: u34 :: u35 :: u36 :: u37 :: u38 :: u39 :: u40 :: u41 :: u42 :: u43 :: u44 :: u45 :: u46 :: u47 :: u48 :: u49 :: u50 :: u51 :: u52 :: u53 :: u54 :: u55 :: u56 :: u57 :: u58 :: u59 :: u60 :: u61 :: u62 :: u63 :: u64 :: u65 :: u66 :: u67 :: u68 :: u69 :: u70 :: u71 :: u72 :: u73 :: u74 :: u75 :: u76 :: u77 :: u78 :: u79 :: u80 :: u81 :: u82 :: u83 :: u84 :: u85 :: u86 :: u87 :: u88 :: u89 :: u90 :: u91 :: u92 :: u93 :: u94 :: u95 :: u96 :: u97 :: u98 :: u99 :: u100 :: u101 :: u102 :: u103 :: u104 :: u105 :: u106 :: u107 :: u108 :: u109 :: u110 :: u111 :: u112 :: u113 :: u114 :: u115 :: u116 :: u117 :: u118 :: u119 :: u120 :: u121 :: u122 :: u123 :: u124 :: u125 :: u126 :: u127 :: u128 :: u129 :: u130 :: u131 :: u132 :: u133 :: u134 :: u135 :: u136 :: u137 :: u138 :: u139 :: u140 :: u141 :: u142 :: u143 :: u144 :: u145 :: u146 :: u147 :: u148 :: u149 :: u150 :: u151 :: u152 :: u153 :: u154 :: u155 :: u156 :: u157 :: u158 :: u159 :: u160 :: u161 :: u162 :: u163 :: u164 :: u165 :: u166 :: u167 :: u168 :: u169 :: u170 :: u171 :: u172 :: u173 :: u174 :: u175 :: u176 :: u177 :: u178 :: u179 :: u180 :: u181 :: u182 :: u183 :: u184 :: u185 :: u186 :: u187 :: u188 :: u189 :: u190 :: u191 :: u192 :: u193 :: u194 :: u195 :: u196 :: u197 :: u198 :: u199 :: u200 :: u201 :: u202 :: u203 :: u204 :: u205 :: u206 :: u207 :: u208 :: u209 :: u210 :: u211 :: u212 :: u213 :: u214 :: u215 :: u216 :: u217 :: u218 :: u219 :: u220 :: u221 :: u222 :: u223 :: u224 :: u225 :: u226 :: u227 :: u228 :: u229 :: u230 :: u231 :: u232 :: u233 :: u234 :: u235 :: u236 :: u237 :: u238 :: u239 :: u240 :: u241 :: u242 :: u243 :: u244 :: u245 :: u246 :: u247 :: u248 :: u249 :: u250 :: u251 :: u252 :: u253 :: u254 :: u255 :: u256 :: u257 :: u258 :: u259 :: u260 :: u261 :: u262 :: u263 :: u264 :: u265 :: u266 :: u267 :: u268 :: u269 :: u270 :: u271 :: u272 :: u273 :: u274 :: u275 :: []).toArray, []⟩ W
set_option maxRecDepth 100000 in
/-- From statement 18 on it goes well. -/
def Blk18 (w : World) : Prop := ∀ (a1 : Option Addr) (c1 : Nat) (a4 : Option Addr) (c4 : Nat) (a6 : Option Addr) (c6 : Nat) (a11 : Option Addr) (c11 : Nat) (b16 : Nat) (u9 u10 u14 u18 u20 u22 u24 u26 u27 u29 u30 u31 u32 u34 u35 u36 u37 u38 u39 u40 u41 u42 u43 u44 u45 u46 u47 u48 u49 u50 u51 u52 u53 u54 u55 u56 u57 u58 u59 u60 u61 u62 u63 u64 u65 u66 u67 u68 u69 u70 u71 u72 u73 u74 u75 u76 u77 u78 u79 u80 u81 u82 u83 u84 u85 u86 u87 u88 u89 u90 u91 u92 u93 u94 u95 u96 u97 u98 u99 u100 u101 u102 u103 u104 u105 u106 u107 u108 u109 u110 u111 u112 u113 u114 u115 u116 u117 u118 u119 u120 u121 u122 u123 u124 u125 u126 u127 u128 u129 u130 u131 u132 u133 u134 u135 u136 u137 u138 u139 u140 u141 u142 u143 u144 u145 u146 u147 u148 u149 u150 u151 u152 u153 u154 u155 u156 u157 u158 u159 u160 u161 u162 u163 u164 u165 u166 u167 u168 u169 u170 u171 u172 u173 u174 u175 u176 u177 u178 u179 u180 u181 u182 u183 u184 u185 u186 u187 u188 u189 u190 u191 u192 u193 u194 u195 u196 u197 u198 u199 u200 u201 u202 u203 u204 u205 u206 u207 u208 u209 u210 u211 u212 u213 u214 u215 u216 u217 u218 u219 u220 u221 u222 u223 u224 u225 u226 u227 u228 u229 u230 u231 u232 u233 u234 u235 u236 u237 u238 u239 u240 u241 u242 u243 u244 u245 u246 u247 u248 u249 u250 u251 u252 u253 u254 u255 u256 u257 u258 u259 u260 u261 u262 u263 u264 u265 u266 u267 u268 u269 u270 u271 u272 u273 u274 u275 : Value) (W : World), (Below w.heap.size w W ∧ D1 a1 c1 W ∧ D4 a4 c4 W ∧ D6 a6 c6 W ∧ D16 b16 W) → Code.wp Tryz.prog (sndC (sndC (sndC (sndC (sndC (sndC (sndC (sndC (sndC (sndC (sndC (sndC (sndC (sndC (sndC (sndC (sndC (sndC bodyK)))))))))))))))))) (bodyPost Tryz.prog Tryz.f5 fun r w' => r = .returned (.bool true) ∧ Below w.heap.size w w') ⟨(.bool false :: .slice a1 9 c1 :: .int .i64 0 :: .int .u32 ((crcV [97] : Nat) : Int) :: .slice a4 19 c4 :: .int .i64 0 :: .slice a6 1 c6 :: .int .i64 19 :: .bool true :: u9 :: u10 :: .slice a11 0 c11 :: .int .i64 0 :: .bool false :: u14 :: .int .i64 0 :: .pointer (some ⟨b16, 0, none⟩) :: .int .i64 0 :: u18 :: .int .i64 4 :: u20 :: .int .i64 2 :: u22 :: .int .i64 2 :: u24 :: .int .i64 2 :: u26 :: u27 :: .int .i64 2 :: u29 :: u30 :: u31 :: u32 :: .int .i64 4 :: u34 :: u35 :: u36 :: u37 :: u38 :: u39 :: u40 :: u41 :: u42 :: u43 :: u44 :: u45 :: u46 :: u47 :: u48 :: u49 :: u50 :: u51 :: u52 :: u53 :: u54 :: u55 :: u56 :: u57 :: u58 :: u59 :: u60 :: u61 :: u62 :: u63 :: u64 :: u65 :: u66 :: u67 :: u68 :: u69 :: u70 :: u71 :: u72 :: u73 :: u74 :: u75 :: u76 :: u77 :: u78 :: u79 :: u80 :: u81 :: u82 :: u83 :: u84 :: u85 :: u86 :: u87 :: u88 :: u89 :: u90 :: u91 :: u92 :: u93 :: u94 :: u95 :: u96 :: u97 :: u98 :: u99 :: u100 :: u101 :: u102 :: u103 :: u104 :: u105 :: u106 :: u107 :: u108 :: u109 :: u110 :: u111 :: u112 :: u113 :: u114 :: u115 :: u116 :: u117 :: u118 :: u119 :: u120 :: u121 :: u122 :: u123 :: u124 :: u125 :: u126 :: u127 :: u128 :: u129 :: u130 :: u131 :: u132 :: u133 :: u134 :: u135 :: u136 :: u137 :: u138 :: u139 :: u140 :: u141 :: u142 :: u143 :: u144 :: u145 :: u146 :: u147 :: u148 :: u149 :: u150 :: u151 :: u152 :: u153 :: u154 :: u155 :: u156 :: u157 :: u158 :: u159 :: u160 :: u161 :: u162 :: u163 :: u164 :: u165 :: u166 :: u167 :: u168 :: u169 :: u170 :: u171 :: u172 :: u173 :: u174 :: u175 :: u176 :: u177 :: u178 :: u179 :: u180 :: u181 :: u182 :: u183 :: u184 :: u185 :: u186 :: u187 :: u188 :: u189 :: u190 :: u191 :: u192 :: u193 :: u194 :: u195 :: u196 :: u197 :: u198 :: u199 :: u200 :: u201 :: u202 :: u203 :: u204 :: u205 :: u206 :: u207 :: u208 :: u209 :: u210 :: u211 :: u212 :: u213 :: u214 :: u215 :: u216 :: u217 :: u218 :: u219 :: u220 :: u221 :: u222 :: u223 :: u224 :: u225 :: u226 :: u227 :: u228 :: u229 :: u230 :: u231 :: u232 :: u233 :: u234 :: u235 :: u236 :: u237 :: u238 :: u239 :: u240 :: u241 :: u242 :: u243 :: u244 :: u245 :: u246 :: u247 :: u248 :: u249 :: u250 :: u251 :: u252 :: u253 :: u254 :: u255 :: u256 :: u257 :: u258 :: u259 :: u260 :: u261 :: u262 :: u263 :: u264 :: u265 :: u266 :: u267 :: u268 :: u269 :: u270 :: u271 :: u272 :: u273 :: u274 :: u275 :: []).toArray, []⟩ W
set_option maxRecDepth 100000 in
/-- From statement 23 on it goes well. -/
def Blk23 (w : World) : Prop := ∀ (a1 : Option Addr) (c1 : Nat) (a4 : Option Addr) (c4 : Nat) (a6 : Option Addr) (c6 : Nat) (a11 : Option Addr) (c11 : Nat) (b16 : Nat) (u9 u10 u14 u18 u20 u22 u24 u26 u27 u29 u30 u31 u32 u34 u35 u37 u38 u39 u40 u41 u42 u43 u44 u45 u46 u47 u48 u49 u50 u51 u52 u53 u54 u55 u56 u57 u58 u59 u60 u61 u62 u63 u64 u65 u66 u67 u68 u69 u70 u71 u72 u73 u74 u75 u76 u77 u78 u79 u80 u81 u82 u83 u84 u85 u86 u87 u88 u89 u90 u91 u92 u93 u94 u95 u96 u97 u98 u99 u100 u101 u102 u103 u104 u105 u106 u107 u108 u109 u110 u111 u112 u113 u114 u115 u116 u117 u118 u119 u120 u121 u122 u123 u124 u125 u126 u127 u128 u129 u130 u131 u132 u133 u134 u135 u136 u137 u138 u139 u140 u141 u142 u143 u144 u145 u146 u147 u148 u149 u150 u151 u152 u153 u154 u155 u156 u157 u158 u159 u160 u161 u162 u163 u164 u165 u166 u167 u168 u169 u170 u171 u172 u173 u174 u175 u176 u177 u178 u179 u180 u181 u182 u183 u184 u185 u186 u187 u188 u189 u190 u191 u192 u193 u194 u195 u196 u197 u198 u199 u200 u201 u202 u203 u204 u205 u206 u207 u208 u209 u210 u211 u212 u213 u214 u215 u216 u217 u218 u219 u220 u221 u222 u223 u224 u225 u226 u227 u228 u229 u230 u231 u232 u233 u234 u235 u236 u237 u238 u239 u240 u241 u242 u243 u244 u245 u246 u247 u248 u249 u250 u251 u252 u253 u254 u255 u256 u257 u258 u259 u260 u261 u262 u263 u264 u265 u266 u267 u268 u269 u270 u271 u272 u273 u274 u275 : Value) (W : World), (Below w.heap.size w W ∧ D1 a1 c1 W ∧ D4 a4 c4 W ∧ D6 a6 c6 W ∧ D16 b16 W) → Code.wp Tryz.prog (sndC (sndC (sndC (sndC (sndC (sndC (sndC (sndC (sndC (sndC (sndC (sndC (sndC (sndC (sndC (sndC (sndC (sndC (sndC (sndC (sndC (sndC bodyK)))))))))))))))))))))) (bodyPost Tryz.prog Tryz.f5 fun r w' => r = .returned (.bool true) ∧ Below w.heap.size w w') ⟨(.bool false :: .slice a1 9 c1 :: .int .i64 0 :: .int .u32 ((crcV [97] : Nat) : Int) :: .slice a4 19 c4 :: .int .i64 0 :: .slice a6 1 c6 :: .int .i64 19 :: .bool true :: u9 :: u10 :: .slice a11 0 c11 :: .int .i64 0 :: .bool false :: u14 :: .int .i64 0 :: .pointer (some ⟨b16, 0, none⟩) :: .int .i64 0 :: u18 :: .int .i64 4 :: u20 :: .int .i64 2 :: u22 :: .int .i64 2 :: u24 :: .int .i64 2 :: u26 :: u27 :: .int .i64 2 :: u29 :: u30 :: u31 :: u32 :: .int .i64 4 :: u34 :: u35 :: .int .i64 2 :: u37 :: u38 :: u39 :: u40 :: u41 :: u42 :: u43 :: u44 :: u45 :: u46 :: u47 :: u48 :: u49 :: u50 :: u51 :: u52 :: u53 :: u54 :: u55 :: u56 :: u57 :: u58 :: u59 :: u60 :: u61 :: u62 :: u63 :: u64 :: u65 :: u66 :: u67 :: u68 :: u69 :: u70 :: u71 :: u72 :: u73 :: u74 :: u75 :: u76 :: u77 :: u78 :: u79 :: u80 :: u81 :: u82 :: u83 :: u84 :: u85 :: u86 :: u87 :: u88 :: u89 :: u90 :: u91 :: u92 :: u93 :: u94 :: u95 :: u96 :: u97 :: u98 :: u99 :: u100 :: u101 :: u102 :: u103 :: u104 :: u105 :: u106 :: u107 :: u108 :: u109 :: u110 :: u111 :: u112 :: u113 :: u114 :: u115 :: u116 :: u117 :: u118 :: u119 :: u120 :: u121 :: u122 :: u123 :: u124 :: u125 :: u126 :: u127 :: u128 :: u129 :: u130 :: u131 :: u132 :: u133 :: u134 :: u135 :: u136 :: u137 :: u138 :: u139 :: u140 :: u141 :: u142 :: u143 :: u144 :: u145 :: u146 :: u147 :: u148 :: u149 :: u150 :: u151 :: u152 :: u153 :: u154 :: u155 :: u156 :: u157 :: u158 :: u159 :: u160 :: u161 :: u162 :: u163 :: u164 :: u165 :: u166 :: u167 :: u168 :: u169 :: u170 :: u171 :: u172 :: u173 :: u174 :: u175 :: u176 :: u177 :: u178 :: u179 :: u180 :: u181 :: u182 :: u183 :: u184 :: u185 :: u186 :: u187 :: u188 :: u189 :: u190 :: u191 :: u192 :: u193 :: u194 :: u195 :: u196 :: u197 :: u198 :: u199 :: u200 :: u201 :: u202 :: u203 :: u204 :: u205 :: u206 :: u207 :: u208 :: u209 :: u210 :: u211 :: u212 :: u213 :: u214 :: u215 :: u216 :: u217 :: u218 :: u219 :: u220 :: u221 :: u222 :: u223 :: u224 :: u225 :: u226 :: u227 :: u228 :: u229 :: u230 :: u231 :: u232 :: u233 :: u234 :: u235 :: u236 :: u237 :: u238 :: u239 :: u240 :: u241 :: u242 :: u243 :: u244 :: u245 :: u246 :: u247 :: u248 :: u249 :: u250 :: u251 :: u252 :: u253 :: u254 :: u255 :: u256 :: u257 :: u258 :: u259 :: u260 :: u261 :: u262 :: u263 :: u264 :: u265 :: u266 :: u267 :: u268 :: u269 :: u270 :: u271 :: u272 :: u273 :: u274 :: u275 :: []).toArray, []⟩ W
end Go.Proofs.YtglkndoghnblcaaGreatDoor
namespace Go.Proofs.YtglkndoghnblcaaGreatDoor
open Go.ChangeShapes Go.WideShapes Go.ChangeAt Go.RowKit
set_option linter.unusedVariables false
set_option linter.unusedSimpArgs false
set_option maxRecDepth 100000 in
set_option maxHeartbeats 4000000 in
theorem kw0 (W0 : World) (hNext : Blk2 W0) : Calls Tryz.prog 5 #[] W0 fun r w' => r = .returned (.bool true) ∧ Below W0.heap.size W0 w' := by
  replace hNext := Lib.hid hNext
  go_enter Tryz.func5, Tryz.ntmps5
  go_upto_region 1 with (fail)
  go_cut [1, 2] (fun v1 v2 wx => ∃ (a1 : Option Addr) (c1 : Nat), v1 = .slice a1 9 c1 ∧ v2 = .int .i64 0 ∧ Hid (D1 a1 c1 wx) ∧ Hid (Below W0.heap.size W0 wx))
  case first =>
    have kc := bconst W0 97 W0.heap.size rfl
    go_wp2_with fail
    refine (frame_ok (some ⟨W0.heap.size, 0, none⟩) [97] 1 1 rfl (by decide) (by decide) (byt_dec (by kernel_rfl)) _ (ls_new .u8 W0 [97] #[.int .u8 97] 5 (1, 2) rfl 1 rfl)).mono ?_
    rintro r w1 ⟨a', c', rfl, _, hl, hb⟩
    have HL := Lib.hid hl
    have HB := Lib.hid (step_below (bl1 W0 (.cells #[.int .u8 97] 5 (1, 2))) hb)
    clear hl hb kc
    go_wp2_with fail
    go_meet
    exact ⟨a', c', rfl, rfl, HL, HB⟩
  case rest =>
    obtain ⟨a1, c1, rfl, rfl, ND1, HBW⟩ := hcut
    rename_i hK
    refine hK _ _ ?_
    have hn' := hNext.out
    unfold Blk2 at hn'
    exact hn' a1 c1 _ _ _ _ _ _ _ _ _ _ _ _ _ _ _ _ _ _ _ _ _ _ _ _ _ _ _ _ _ _ _ _ _ _ _ _ _ _ _ _ _ _ _ _ _ _ _ _ _ _ _ _ _ _ _ _ _ _ _ _ _ _ _ _ _ _ _ _ _ _ _ _ _ _ _ _ _ _ _ _ _ _ _ _ _ _ _ _ _ _ _ _ _ _ _ _ _ _ _ _ _ _ _ _ _ _ _ _ _ _ _ _ _ _ _ _ _ _ _ _ _ _ _ _ _ _ _ _ _ _ _ _ _ _ _ _ _ _ _ _ _ _ _ _ _ _ _ _ _ _ _ _ _ _ _ _ _ _ _ _ _ _ _ _ _ _ _ _ _ _ _ _ _ _ _ _ _ _ _ _ _ _ _ _ _ _ _ _ _ _ _ _ _ _ _ _ _ _ _ _ _ _ _ _ _ _ _ _ _ _ _ _ _ _ _ _ _ _ _ _ _ _ _ _ _ _ _ _ _ _ _ _ _ _ _ _ _ _ _ _ _ _ _ _ _ _ _ _ _ _ _ _ _ _ _ _ _ _ _ _ _ _ _ _ _ _ _ _ _ _ _ _ _ _ ⟨HBW.out, (ND1.out)⟩
set_option maxRecDepth 100000 in
set_option maxHeartbeats 4000000 in
theorem kw2 (w : World) (hNext : Blk3 w) : Blk2 w := by
  replace hNext := Lib.hid hNext
  intro a1 c1 u3 u4 u5 u6 u7 u8 u9 u10 u11 u12 u13 u14 u15 u16 u17 u18 u19 u20 u21 u22 u23 u24 u25 u26 u27 u28 u29 u30 u31 u32 u33 u34 u35 u36 u37 u38 u39 u40 u41 u42 u43 u44 u45 u46 u47 u48 u49 u50 u51 u52 u53 u54 u55 u56 u57 u58 u59 u60 u61 u62 u63 u64 u65 u66 u67 u68 u69 u70 u71 u72 u73 u74 u75 u76 u77 u78 u79 u80 u81 u82 u83 u84 u85 u86 u87 u88 u89 u90 u91 u92 u93 u94 u95 u96 u97 u98 u99 u100 u101 u102 u103 u104 u105 u106 u107 u108 u109 u110 u111 u112 u113 u114 u115 u116 u117 u118 u119 u120 u121 u122 u123 u124 u125 u126 u127 u128 u129 u130 u131 u132 u133 u134 u135 u136 u137 u138 u139 u140 u141 u142 u143 u144 u145 u146 u147 u148 u149 u150 u151 u152 u153 u154 u155 u156 u157 u158 u159 u160 u161 u162 u163 u164 u165 u166 u167 u168 u169 u170 u171 u172 u173 u174 u175 u176 u177 u178 u179 u180 u181 u182 u183 u184 u185 u186 u187 u188 u189 u190 u191 u192 u193 u194 u195 u196 u197 u198 u199 u200 u201 u202 u203 u204 u205 u206 u207 u208 u209 u210 u211 u212 u213 u214 u215 u216 u217 u218 u219 u220 u221 u222 u223 u224 u225 u226 u227 u228 u229 u230 u231 u232 u233 u234 u235 u236 u237 u238 u239 u240 u241 u242 u243 u244 u245 u246 u247 u248 u249 u250 u251 u252 u253 u254 u255 u256 u257 u258 u259 u260 u261 u262 u263 u264 u265 u266 u267 u268 u269 u270 u271 u272 u273 u274 u275 W0 hX
  have HX := Lib.hid hX
  clear hX
  obtain ⟨c, hc⟩ : ∃ c, sndC (sndC bodyK) = c := ⟨_, rfl⟩
  rw [hc]
  simp only [bodyK, sndC, Tryz.f5, Option.getD] at hc
  subst hc
  have hmx : Tryz.prog.follows .mixedOrders = true := by kernel_rfl
  go_upto_region 2 with (fail)
  go_cut [3] (fun v3 wx => v3 = .int .u32 ((crcV [97] : Nat) : Int) ∧ Hid (Below W0.heap.size W0 wx))
  case first =>
    have kc := bconst W0 97 W0.heap.size rfl
    go_wp2_with fail
    refine (rsum_law (some ⟨W0.heap.size, 0, none⟩) [97] 1 1 rfl (by omega) (byt_dec (by kernel_rfl)) _ (ls_new .u8 W0 [97] #[.int .u8 97] 5 (1, 2) rfl 1 rfl).rd).mono ?_
    rintro r w1 ⟨rfl, rfl⟩
    clear kc
    go_wp2_with fail
    go_meet
    exact ⟨rfl, Lib.hid (bl1 W0 (.cells #[.int .u8 97] 5 (1, 2)))⟩
  case rest =>
    obtain ⟨rfl, HBW⟩ := hcut
    rename_i hK
    refine hK _ _ ?_
    have hn' := hNext.out
    unfold Blk3 at hn'
    exact hn' a1 c1 _ _ _ _ _ _ _ _ _ _ _ _ _ _ _ _ _ _ _ _ _ _ _ _ _ _ _ _ _ _ _ _ _ _ _ _ _ _ _ _ _ _ _ _ _ _ _ _ _ _ _ _ _ _ _ _ _ _ _ _ _ _ _ _ _ _ _ _ _ _ _ _ _ _ _ _ _ _ _ _ _ _ _ _ _ _ _ _ _ _ _ _ _ _ _ _ _ _ _ _ _ _ _ _ _ _ _ _ _ _ _ _ _ _ _ _ _ _ _ _ _ _ _ _ _ _ _ _ _ _ _ _ _ _ _ _ _ _ _ _ _ _ _ _ _ _ _ _ _ _ _ _ _ _ _ _ _ _ _ _ _ _ _ _ _ _ _ _ _ _ _ _ _ _ _ _ _ _ _ _ _ _ _ _ _ _ _ _ _ _ _ _ _ _ _ _ _ _ _ _ _ _ _ _ _ _ _ _ _ _ _ _ _ _ _ _ _ _ _ _ _ _ _ _ _ _ _ _ _ _ _ _ _ _ _ _ _ _ _ _ _ _ _ _ _ _ _ _ _ _ _ _ _ _ _ _ _ _ _ _ _ _ _ _ _ _ _ _ _ _ _ _ _ ⟨(step_below HX.out.1 HBW.out), (HX.out.2.below HBW.out)⟩
set_option maxRecDepth 100000 in
set_option maxHeartbeats 4000000 in
theorem kw3 (w : World) (hNext : Blk4 w) : Blk3 w := by
  replace hNext := Lib.hid hNext
  intro a1 c1 u4 u5 u6 u7 u8 u9 u10 u11 u12 u13 u14 u15 u16 u17 u18 u19 u20 u21 u22 u23 u24 u25 u26 u27 u28 u29 u30 u31 u32 u33 u34 u35 u36 u37 u38 u39 u40 u41 u42 u43 u44 u45 u46 u47 u48 u49 u50 u51 u52 u53 u54 u55 u56 u57 u58 u59 u60 u61 u62 u63 u64 u65 u66 u67 u68 u69 u70 u71 u72 u73 u74 u75 u76 u77 u78 u79 u80 u81 u82 u83 u84 u85 u86 u87 u88 u89 u90 u91 u92 u93 u94 u95 u96 u97 u98 u99 u100 u101 u102 u103 u104 u105 u106 u107 u108 u109 u110 u111 u112 u113 u114 u115 u116 u117 u118 u119 u120 u121 u122 u123 u124 u125 u126 u127 u128 u129 u130 u131 u132 u133 u134 u135 u136 u137 u138 u139 u140 u141 u142 u143 u144 u145 u146 u147 u148 u149 u150 u151 u152 u153 u154 u155 u156 u157 u158 u159 u160 u161 u162 u163 u164 u165 u166 u167 u168 u169 u170 u171 u172 u173 u174 u175 u176 u177 u178 u179 u180 u181 u182 u183 u184 u185 u186 u187 u188 u189 u190 u191 u192 u193 u194 u195 u196 u197 u198 u199 u200 u201 u202 u203 u204 u205 u206 u207 u208 u209 u210 u211 u212 u213 u214 u215 u216 u217 u218 u219 u220 u221 u222 u223 u224 u225 u226 u227 u228 u229 u230 u231 u232 u233 u234 u235 u236 u237 u238 u239 u240 u241 u242 u243 u244 u245 u246 u247 u248 u249 u250 u251 u252 u253 u254 u255 u256 u257 u258 u259 u260 u261 u262 u263 u264 u265 u266 u267 u268 u269 u270 u271 u272 u273 u274 u275 W0 hX
  have HX := Lib.hid hX
  clear hX
  obtain ⟨c, hc⟩ : ∃ c, sndC (sndC (sndC bodyK)) = c := ⟨_, rfl⟩
  rw [hc]
  simp only [bodyK, sndC, Tryz.f5, Option.getD] at hc
  subst hc
  have hmx : Tryz.prog.follows .mixedOrders = true := by kernel_rfl
  go_upto_region 3 with (fail)
  go_cut [4, 5] (fun v4 v5 wx => ∃ (a4 : Option Addr) (c4 : Nat), v4 = .slice a4 19 c4 ∧ v5 = .int .i64 0 ∧ Hid (D4 a4 c4 wx) ∧ Hid (Below W0.heap.size W0 wx))
  case first =>
    go_wp2_with fail
    refine (ltxn_law 1 2 { data := #[107] } _).mono ?_
    rintro r w1 ⟨g, p, rfl, ho, hok, h0, h1, h2, hb⟩
    have HW := Lib.hid (puttx_k (some ⟨g, 0, none⟩) p w1 (wts_of ho hok) h0 (by rw [h1]; rfl) h2)
    have HB := Lib.hid hb
    clear ho hok h0 h1 h2 hb
    go_wp2_with fail
    refine HW.out.mono ?_
    rintro r w2 ⟨a', c', rfl, hl, hb2⟩
    have HL := Lib.hid hl
    have HB2 := Lib.hid (step_below HB.out hb2)
    clear hl hb2
    go_wp2_with fail
    go_meet
    exact ⟨a', c', rfl, rfl, HL, HB2⟩
  case rest =>
    obtain ⟨a4, c4, rfl, rfl, ND4, HBW⟩ := hcut
    rename_i hK
    refine hK _ _ ?_
    have hn' := hNext.out
    unfold Blk4 at hn'
    exact hn' a1 c1 a4 c4 _ _ _ _ _ _ _ _ _ _ _ _ _ _ _ _ _ _ _ _ _ _ _ _ _ _ _ _ _ _ _ _ _ _ _ _ _ _ _ _ _ _ _ _ _ _ _ _ _ _ _ _ _ _ _ _ _ _ _ _ _ _ _ _ _ _ _ _ _ _ _ _ _ _ _ _ _ _ _ _ _ _ _ _ _ _ _ _ _ _ _ _ _ _ _ _ _ _ _ _ _ _ _ _ _ _ _ _ _ _ _ _ _ _ _ _ _ _ _ _ _ _ _ _ _ _ _ _ _ _ _ _ _ _ _ _ _ _ _ _ _ _ _ _ _ _ _ _ _ _ _ _ _ _ _ _ _ _ _ _ _ _ _ _ _ _ _ _ _ _ _ _ _ _ _ _ _ _ _ _ _ _ _ _ _ _ _ _ _ _ _ _ _ _ _ _ _ _ _ _ _ _ _ _ _ _ _ _ _ _ _ _ _ _ _ _ _ _ _ _ _ _ _ _ _ _ _ _ _ _ _ _ _ _ _ _ _ _ _ _ _ _ _ _ _ _ _ _ _ _ _ _ _ _ _ _ _ _ _ _ _ _ _ _ _ _ _ _ _ _ _ ⟨(step_below HX.out.1 HBW.out), (HX.out.2.below HBW.out), (ND4.out)⟩
end Go.Proofs.YtglkndoghnblcaaGreatDoor
namespace Go.Proofs.YtglkndoghnblcaaGreatDoor
open Go.ChangeShapes Go.WideShapes Go.ChangeAt Go.RowKit
set_option linter.unusedVariables false
set_option linter.unusedSimpArgs false
set_option maxRecDepth 100000 in
set_option maxHeartbeats 4000000 in
theorem kw4 (w : World) (hNext : Blk5 w) : Blk4 w := by
  replace hNext := Lib.hid hNext
  intro a1 c1 a4 c4 u6 u7 u8 u9 u10 u11 u12 u13 u14 u15 u16 u17 u18 u19 u20 u21 u22 u23 u24 u25 u26 u27 u28 u29 u30 u31 u32 u33 u34 u35 u36 u37 u38 u39 u40 u41 u42 u43 u44 u45 u46 u47 u48 u49 u50 u51 u52 u53 u54 u55 u56 u57 u58 u59 u60 u61 u62 u63 u64 u65 u66 u67 u68 u69 u70 u71 u72 u73 u74 u75 u76 u77 u78 u79 u80 u81 u82 u83 u84 u85 u86 u87 u88 u89 u90 u91 u92 u93 u94 u95 u96 u97 u98 u99 u100 u101 u102 u103 u104 u105 u106 u107 u108 u109 u110 u111 u112 u113 u114 u115 u116 u117 u118 u119 u120 u121 u122 u123 u124 u125 u126 u127 u128 u129 u130 u131 u132 u133 u134 u135 u136 u137 u138 u139 u140 u141 u142 u143 u144 u145 u146 u147 u148 u149 u150 u151 u152 u153 u154 u155 u156 u157 u158 u159 u160 u161 u162 u163 u164 u165 u166 u167 u168 u169 u170 u171 u172 u173 u174 u175 u176 u177 u178 u179 u180 u181 u182 u183 u184 u185 u186 u187 u188 u189 u190 u191 u192 u193 u194 u195 u196 u197 u198 u199 u200 u201 u202 u203 u204 u205 u206 u207 u208 u209 u210 u211 u212 u213 u214 u215 u216 u217 u218 u219 u220 u221 u222 u223 u224 u225 u226 u227 u228 u229 u230 u231 u232 u233 u234 u235 u236 u237 u238 u239 u240 u241 u242 u243 u244 u245 u246 u247 u248 u249 u250 u251 u252 u253 u254 u255 u256 u257 u258 u259 u260 u261 u262 u263 u264 u265 u266 u267 u268 u269 u270 u271 u272 u273 u274 u275 W0 hX
  have HX := Lib.hid hX
  clear hX
  obtain ⟨c, hc⟩ : ∃ c, sndC (sndC (sndC (sndC bodyK))) = c := ⟨_, rfl⟩
  rw [hc]
  simp only [bodyK, sndC, Tryz.f5, Option.getD] at hc
  subst hc
  have hmx : Tryz.prog.follows .mixedOrders = true := by kernel_rfl
  go_upto_region 4 with (fail)
  go_cut [6, 7, 8] (fun v6 v7 v8 wx => ∃ (a6 : Option Addr) (c6 : Nat), v6 = .slice a6 1 c6 ∧ v7 = .int .i64 19 ∧ v8 = .bool true ∧ Hid (D6 a6 c6 wx) ∧ Hid (Below W0.heap.size W0 wx))
  case first =>
    have HD4 := Lib.hid HX.out.2.2
    have hle := HD4.out.le
    rw [kPay_len] at hle
    have HHI := Lib.hid (show True ∧ Ls .u8 W0 a4 c4 ((frameL kPay).take 9) from ⟨trivial, HD4.out.rd.take 9, fun e => absurd (HD4.out.nl e).2 (by omega), by rw [List.length_take, kPay_len]; omega⟩)
    have hw9 : IntKind.i64.wrap 9 = 9 := by rw [IntKind.wrap_i64] <;> omega
    have hc9 : (9 : Int) ≤ (c4 : Int) := by omega
    clear hle
    go_wp2_with fail
    refine wp_region_held_drew (S := (fun X => Below W0.heap.size W0 X)) (by kernel_rfl) ((Below.refl _ _).drew) (fun hHeld => ?_)
    refine tp 0 ?_ rfl (.inl ⟨by rfl, ?_⟩) ?_
    rotate_left
    · intro W hSw; go_simp; try with_reducible rfl
    refine tp 2 ?_ rfl (.inl ⟨by rfl, ?_⟩) ?_
    rotate_left
    · intro W hSw; go_simp; try with_reducible rfl
    refine tp 3 ?_ rfl (.inl ⟨by rfl, ?_⟩) ?_
    rotate_left
    · intro W hSw; go_simp; try with_reducible rfl
    refine tp 4 ?_ rfl (.inl ⟨by rfl, ?_⟩) ?_
    rotate_left
    · intro W hSw; go_simp; try with_reducible rfl
    refine tp 5 ?_ rfl (.inl ⟨by rfl, ?_⟩) ?_
    rotate_left
    · intro W hSw; go_simp; try with_reducible rfl
    refine tp 6 ?_ rfl (.inl ⟨by rfl, ?_⟩) ?_
    rotate_left
    · intro W hSw; go_simp; try with_reducible rfl
    refine Go.Proofs.YtglkndoghnblcaaGreatDoor.a1 1 rfl (fun K hK => ?_)
    refine step_append_ls eltB rfl _ _ rfl W0.heap.size W0 hHeld (.slice none 0 0) (0) ([]) rfl (World.ownsRow_nil _ _ _ _) _ _ (19) (frameL kPay) kPay_len rfl (Ls.below HD4.out hHeld) (by omega) hHeld.size ?_
    intro v1 X1 ho1 hb1 hg1
    have HP1 := Lib.hid (show X1.ownsRow W0.heap.size 5 1 v1 19 (iv .u8 (frameL kPay)) by simpa using ho1)
    clear ho1 hg1
    refine hK.out _ _ hb1 (fun hHeldn => ?_)
    clear hK K hHeld; have hHeld := hHeldn; clear hHeldn hb1
    try simp only [Act.put, List.setIfInBounds_toArray, List.set_cons_zero, List.set_cons_succ]
    refine Go.Proofs.YtglkndoghnblcaaGreatDoor.a1 7 rfl (fun K hK => ?_)
    refine step_append_ls eltB rfl _ _ rfl W0.heap.size W0 hHeld (v1) (19) (iv .u8 (frameL kPay)) rfl HP1.out _ _ (9) ((frameL kPay).take 9) (by rw [List.length_take, kPay_len]; rfl) rfl (HHI.out.2.below hHeld) (by omega) hHeld.size ?_
    intro v2 X2 ho2 hb2 hg2
    rw [← iv_append] at ho2; obtain ⟨a5, c5, e5, hl5, _⟩ := own_ls (show X2.ownsRow W0.heap.size 5 1 v2 28 (iv .u8 (frameL kPay ++ (frameL kPay).take 9)) from ho2) (by rw [List.length_append, List.length_take, kPay_len]; rfl); subst e5; have HL5 := Lib.hid hl5; clear hl5
    clear ho2 hg2
    refine hK.out _ _ hb2 (fun hHeldn => ?_)
    clear hK K hHeld; have hHeld := hHeldn; clear hHeldn hb2
    try simp only [Act.put, List.setIfInBounds_toArray, List.set_cons_zero, List.set_cons_succ]
    refine Go.Proofs.YtglkndoghnblcaaGreatDoor.a1 8 rfl (fun K hK => ?_)
    go_simp
    refine (txns_k a5 28 c5 rfl _ HL5.out).mono ?_; rintro e9 w3 ⟨a6, c6, q, rfl, hq1, hq2, hq3, hb3⟩; have HQ := Lib.hid (show D6 a6 c6 w3 from ⟨q, hq1, hq2, hq3⟩); clear hq1 hq2 hq3
    go_wp2_with fail
    refine hK.out _ _ (step_below hHeld hb3) (fun hHeldn => ?_)
    clear hK K hHeld; have hHeld := hHeldn; clear hHeldn
    try simp only [Act.put, List.setIfInBounds_toArray, List.set_cons_zero, List.set_cons_succ]
    refine tp 9 ?_ rfl (.inl ⟨by rfl, ?_⟩) ?_
    rotate_left
    · intro W hSw; go_simp; try with_reducible rfl
    refine tp 10 ?_ rfl (.inl ⟨by rfl, ?_⟩) ?_
    rotate_left
    · intro W hSw; go_simp; try with_reducible rfl
    refine tp 11 ?_ rfl (.inl ⟨by rfl, ?_⟩) ?_
    rotate_left
    · intro W hSw; go_simp; try with_reducible rfl
    refine tp 12 ?_ rfl (.inl ⟨by rfl, ?_⟩) ?_
    rotate_left
    · intro W hSw; go_simp; try with_reducible rfl
    refine tp 13 ?_ rfl (.inl ⟨by rfl, ?_⟩) ?_
    rotate_left
    · intro W hSw; go_simp; try with_reducible rfl
    refine tp 14 ?_ rfl (.inl ⟨by rfl, ?_⟩) ?_
    rotate_left
    · intro W hSw; go_simp; try with_reducible rfl
    refine tp 15 ?_ rfl (.inl ⟨by rfl, ?_⟩) ?_
    rotate_left
    · intro W hSw; go_simp; try with_reducible rfl
    refine wpAnyH_done (by kernel_rfl) ?_ _
    have HBF := Lib.hid hHeld
    clear hHeld
    go_wp2_with fail
    go_meet
    exact ⟨a6, c6, rfl, rfl, rfl, HQ, HBF⟩
  case rest =>
    obtain ⟨a6, c6, rfl, rfl, rfl, ND6, HBW⟩ := hcut
    rename_i hK
    refine hK _ _ ?_
    have hn' := hNext.out
    unfold Blk5 at hn'
    exact hn' a1 c1 a4 c4 a6 c6 _ _ _ _ _ _ _ _ _ _ _ _ _ _ _ _ _ _ _ _ _ _ _ _ _ _ _ _ _ _ _ _ _ _ _ _ _ _ _ _ _ _ _ _ _ _ _ _ _ _ _ _ _ _ _ _ _ _ _ _ _ _ _ _ _ _ _ _ _ _ _ _ _ _ _ _ _ _ _ _ _ _ _ _ _ _ _ _ _ _ _ _ _ _ _ _ _ _ _ _ _ _ _ _ _ _ _ _ _ _ _ _ _ _ _ _ _ _ _ _ _ _ _ _ _ _ _ _ _ _ _ _ _ _ _ _ _ _ _ _ _ _ _ _ _ _ _ _ _ _ _ _ _ _ _ _ _ _ _ _ _ _ _ _ _ _ _ _ _ _ _ _ _ _ _ _ _ _ _ _ _ _ _ _ _ _ _ _ _ _ _ _ _ _ _ _ _ _ _ _ _ _ _ _ _ _ _ _ _ _ _ _ _ _ _ _ _ _ _ _ _ _ _ _ _ _ _ _ _ _ _ _ _ _ _ _ _ _ _ _ _ _ _ _ _ _ _ _ _ _ _ _ _ _ _ _ _ _ _ _ _ _ _ _ _ _ _ _ ⟨(step_below HX.out.1 HBW.out), (HX.out.2.1.below HBW.out), (HX.out.2.2.below HBW.out), (ND6.out)⟩
end Go.Proofs.YtglkndoghnblcaaGreatDoor
