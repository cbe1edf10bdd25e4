/- 'LogTorn' returns true whatever its arguments, which read afterwards as before: no condition. -/
import Derived.Test.YtglkndoghnblcaaGreatOqa
import Derived.Test.YtglkndoghnblcaaGreatRows
import Derived.WalkKit
import Derived.WalkMore
import Derived.ProofKit
import Derived.Outline
import Derived.WalkLawsBesides
import Derived.WalkSpells
import Derived.Lib.Hide
import Derived.Below
import Derived.WalkSmall
import Derived.BigRegion
import Derived.Laws.Rows
import Derived.Laws.BytesArg
import Derived.Laws.Concat
import Derived.Laws.OwnMore
import Derived.Deep.QuietTactic
import Derived.BigQuiet
import Derived.Deep.RegionHeld3
import Derived.StillTailTactics
import Derived.Test.YtglkndoghnblcaaGreatOqj
import Derived.Test.YtglkndoghnblcaaGreatOqe
import Derived.Test.YtglkndoghnblcaaGreatOql
import Derived.Test.YtglkndoghnblcaaGreatOqb
import Derived.IntWalk
import Derived.Shelf.Abstract
import Derived.Deep.Slices
import Derived.Deep.Fields
import Derived.Deep.Matrix
import Derived.Lib.Bytes
import Derived.ChangeSame
import Derived.SizedLaws
import Derived.OpenShut
import Derived.Test.YtglkndoghnblcaaGreatOqh
import Derived.Test.YtglkndoghnblcaaGreatOqd
import Derived.Deep.DeepCutAuto
import Derived.Deep.CutBlock
import Derived.Laws.BitsLemmas
import Derived.ShutString
import Derived.ChangeOld
namespace Go.Proofs.YtglkndoghnblcaaGreat
open Go.ChangeShapes Go.WideShapes Go.ChangeAt Go.RowKit
set_option linter.unusedVariables false
set_option linter.unusedSimpArgs false

theorem ret_int {k : IntKind} {a b : Int} (h : a = b) : Ending.returned (.int k a) = .returned (.int k b) := by rw [h]
/-- A row of numbers that came in. -/
def IsRow (k : IntKind) (w : World) (a : Option Addr) (len cap : Nat) (zs : List Int) : Prop :=
  (a = none ∧ len = 0 ∧ cap = 0 ∧ zs = []) ∨
  ∃ x, a = some x ∧ len ≤ cap ∧ cap ≤ maxLen ∧ zs.length = cap ∧ (∀ i, i < zs.length → w.cell? (x.add i) = some (.int k (zs.getD i 0))) ∧ ∀ n ∈ zs, (Lit.int k n).wf = true
theorem IsRow.ls {K : IntKind} {w : World} {a : Option Addr} {len cap : Nat} {zs : List Int} (h : IsRow K w a len cap zs) : Ls K w a cap (zs.take len) ∧ (zs.take len).length = len := by
  rcases h with ⟨rfl, rfl, rfl, rfl⟩ | ⟨y, rfl, hlc, _, hz, hcell, _⟩
  · exact ⟨Ls.nul _ _, rfl⟩
  · have hl : (zs.take len).length = len := by rw [List.length_take]; omega
    refine ⟨⟨fun k hk => ?_, fun e => (by cases e), by omega⟩, hl⟩
    have hk' : k < len ∧ k < zs.length := by simp at hk; omega
    obtain ⟨b, off, spot⟩ := y
    have hc0 := hcell 0 (by omega)
    have hspot : spot = none := by simpa [Addr.add] using World.cell?_spot hc0
    subst hspot
    have hc := hcell k hk'.2
    rw [addr_add] at hc
    exact ⟨b, off, rfl, by rw [hc]; simp [List.getD, List.getElem?_take, hk'.1]⟩
theorem IsRow.byt {w : World} {a : Option Addr} {len cap : Nat} {zs : List Int} (h : IsRow .u8 w a len cap zs) : Byt (zs.take len) := by
  rcases h with ⟨_, rfl, _, rfl⟩ | ⟨y, rfl, hlc, _, hz, hcell, hw⟩
  · intro x hx; simp at hx
  · intro x hx
    have := hw x (List.mem_of_mem_take hx)
    simpa [Lit.wf, IntKind.min, IntKind.max, IntKind.signed, IntKind.bits] using this
end Go.Proofs.YtglkndoghnblcaaGreat
namespace Go.Proofs.YtglkndoghnblcaaGreat
set_option linter.unusedVariables false
set_option linter.unusedSimpArgs false
/-- What was written is read. -/
theorem numR_W (rest : List Int) : ∀ (d k acc n : Nat), k + d = 9 → (0 < k → 0 < n) → n < 2 ^ (7 * d + 1) → numR k acc (numW n ++ rest) = some (acc + n * 128 ^ k, k + (numW n).length) := by
  intro d
  induction d with
  | zero =>
    intro k acc n hk hp hn
    have h1 : n ≤ 1 := by omega
    rw [numW_small (by omega)]
    show numR k acc ((n : Int) :: rest) = _
    unfold numR
    rw [if_neg (by omega), if_pos (by omega)]
    simp
  | succ d ih =>
    intro k acc n hk hp hn
    by_cases h : n ≤ 127
    · rw [numW_small h]
      show numR k acc ((n : Int) :: rest) = _
      unfold numR
      rw [if_neg (by omega), if_pos (by omega)]
      simp
    · rw [numW_big h]
      show numR k acc (((n % 128 + 128 : Nat) : Int) :: (numW (n / 128) ++ rest)) = _
      unfold numR
      rw [if_neg (by omega), if_neg (by omega), ih (k + 1) _ (n / 128) (by omega) (by omega) (by
        have : 2 ^ (7 * (d + 1) + 1) = 128 * 2 ^ (7 * d + 1) := by rw [show 7 * (d + 1) + 1 = 7 + (7 * d + 1) by omega, Nat.pow_add]
        omega)]
      have e : (((n % 128 + 128 : Nat) : Int).toNat - 128) = n % 128 := by omega
      rw [e, List.length_cons]
      have e2 : acc + n % 128 * 128 ^ k + n / 128 * 128 ^ (k + 1) = acc + n * 128 ^ k := by
        rw [Nat.pow_succ, show n / 128 * (128 ^ k * 128) = (128 * (n / 128)) * 128 ^ k by rw [Nat.mul_comm (128 ^ k) 128, ← Nat.mul_assoc, Nat.mul_comm (n / 128) 128], Nat.add_assoc, ← Nat.add_mul, Nat.mod_add_div]
      rw [e2, show k + 1 + (numW (n / 128)).length = k + ((numW (n / 128)).length + 1) by omega]
theorem numR_here (n : Nat) (hn : n < 18446744073709551616) (rest : List Int) : numR 0 0 (numW n ++ rest) = some (n, (numW n).length) := by
  have := numR_W rest 9 0 0 n (by omega) (by omega) (Nat.lt_of_lt_of_eq hn (by decide))
  rw [this]
  simp only [Nat.pow_zero, Nat.mul_one, Nat.zero_add]
end Go.Proofs.YtglkndoghnblcaaGreat
namespace Go.Proofs.YtglkndoghnblcaaGreat
set_option linter.unusedVariables false
set_option linter.unusedSimpArgs false
theorem upP_W {most v : Nat} (hv : v ≤ most) (hm : most < 18446744073709551616) (r : List Int) : upP most (numW v ++ r) = some (v, r) := by
  unfold upP
  rw [numR_here v (by omega)]
  simp only [hv, if_true, List.drop_left]
theorem bytesP_W {most : Nat} {b : List Int} (hv : b.length ≤ most) (hm : most < 18446744073709551616) (r : List Int) : bytesP most (bytesW b ++ r) = some (b, r) := by
  unfold bytesP bytesW
  rw [List.append_assoc, upP_W hv hm]
  simp
/-- What reads back what was written. -/
theorem manyP_W {α : Type} {one : List Int → Option (α × List Int)} {put : α → List Int} (r : List Int) : ∀ xs : List α, (∀ x ∈ xs, ∀ s, one (put x ++ s) = some (x, s)) → manyP one xs.length ((xs.map put).flatten ++ r) = some (xs, r)
  | [], _ => rfl
  | x :: xs, h => by
    show manyP one (xs.length + 1) ((put x ++ (xs.map put).flatten) ++ r) = _
    unfold manyP
    rw [List.append_assoc, h x (by simp)]
    simp only
    rw [manyP_W r xs fun y hy => h y (by simp [hy])]
theorem listP_W {α : Type} {most : Nat} {one : List Int → Option (α × List Int)} {put : α → List Int} (hm : most < 18446744073709551616) (r : List Int) (xs : List α) (hl : xs.length ≤ most) (h : ∀ x ∈ xs, ∀ s, one (put x ++ s) = some (x, s)) : listP most one (numW xs.length ++ ((xs.map put).flatten ++ r)) = some (xs, r) := by
  unfold listP
  rw [upP_W hl hm]
  exact manyP_W r xs h
end Go.Proofs.YtglkndoghnblcaaGreat
namespace Go.Proofs.YtglkndoghnblcaaGreat
set_option linter.unusedVariables false
set_option linter.unusedSimpArgs false
theorem de4_take {B : List Int} {k : Nat} (hk : 4 ≤ k) : de4 (B.take k) = de4 B := by
  unfold de4
  simp only [List.getD, List.getElem?_take]
  rw [if_pos (by omega), if_pos (by omega), if_pos (by omega), if_pos (by omega)]
end Go.Proofs.YtglkndoghnblcaaGreat
namespace Go.Proofs.YtglkndoghnblcaaGreat
open Go.ChangeShapes Go.WideShapes Go.ChangeAt Go.RowKit
set_option linter.unusedVariables false
set_option linter.unusedSimpArgs false
theorem txsL_all {L : List (List Int)} (h : ∀ p ∈ L, Byt p) : ∀ x ∈ txsL L, TxB x := by
  induction L with
  | nil => intro x hx; simp [txsL] at hx
  | cons p L ih =>
    intro x hx
    unfold txsL at hx
    cases ho : oneTx p with
    | none => rw [ho] at hx; simp at hx
    | some y =>
      rw [ho] at hx
      simp only [List.mem_cons] at hx
      rcases hx with rfl | hx
      · unfold oneTx at ho
        cases hr : readP (txnP p) with
        | none => rw [hr] at ho; cases ho
        | some z =>
          rw [hr] at ho
          simp only at ho
          split at ho
          · cases ho
            exact (txnP_all (h p (by simp)) (readP_some hr)).1
          · cases ho
      · exact ih (fun q hq => h q (by simp [hq])) x hx
end Go.Proofs.YtglkndoghnblcaaGreat
namespace Go.Proofs.YtglkndoghnblcaaGreat
open Go.ChangeShapes Go.WideShapes Go.ChangeAt Go.RowKit
set_option linter.unusedVariables false
set_option linter.unusedSimpArgs false
theorem putL_bsW (R : List P1) : putL bsW R = putL bytesW (R.map P1.bs) := by
  unfold putL bsW
  rw [List.map_map, List.length_map]
  rfl
/-- A write's bytes, by its contents. -/
def w3W (x : Wr3) : List Int := (numW x.1 ++ (bytesW x.2.1 ++ [if decide (0 < x.2.2.length) then 1 else 0])) ++ (if 0 < x.2.2.length then bytesW (putL bytesW x.2.2) else [])
theorem wtW_cont (p : WtP) : wtW p = w3W (cont p) := by
  unfold wtW w3W cont
  rw [putL_bsW]
  simp only [List.length_map]
/-- A transaction's payload, by its contents. -/
def t3W (x : Tx3) : List Int := tidW x.1.1 x.1.2 ++ putL w3W x.2
theorem txW_cont (e s : Nat) (ps : List WtP) : txW e s ps = t3W ((e, s), ps.map cont) := by
  unfold txW t3W putL
  rw [List.map_map, List.length_map]
  congr 3
  exact List.map_congr_left fun p _ => wtW_cont p
end Go.Proofs.YtglkndoghnblcaaGreat
namespace Go.Proofs.YtglkndoghnblcaaGreat
open Go.ChangeShapes Go.WideShapes Go.ChangeAt Go.RowKit
set_option linter.unusedVariables false
set_option linter.unusedSimpArgs false
end Go.Proofs.YtglkndoghnblcaaGreat
namespace Go.Proofs.YtglkndoghnblcaaGreat
open Go.ChangeShapes Go.WideShapes Go.ChangeAt Go.RowKit
set_option linter.unusedVariables false
set_option linter.unusedSimpArgs false
end Go.Proofs.YtglkndoghnblcaaGreat
namespace Go.Proofs.YtglkndoghnblcaaGreat
open Go.ChangeShapes Go.WideShapes Go.ChangeAt Go.RowKit
set_option linter.unusedVariables false
set_option linter.unusedSimpArgs false
theorem hf_zero {x : Nat} (h : x < 4294967296) (e : hf x = 0) : x = 0 := by
  unfold hf at e
  split at e
  · have h1 : x / 2 = 2197175160 := by
      have := congrArg (· ^^^ 2197175160) e
      simp only [Nat.xor_assoc, Nat.xor_self, Nat.xor_zero, Nat.zero_xor] at this
      exact this
    omega
  · omega
theorem hf8_zero {x : Nat} (h : x < 4294967296) (e : hf8 x = 0) : x = 0 := by
  unfold hf8 hf4 at e
  have l1 := hf_lt h
  have l2 := hf_lt l1
  have l3 := hf_lt l2
  have l4 := hf_lt l3
  have l5 := hf_lt l4
  have l6 := hf_lt l5
  have l7 := hf_lt l6
  exact hf_zero h (hf_zero l1 (hf_zero l2 (hf_zero l3 (hf_zero l4 (hf_zero l5 (hf_zero l6 (hf_zero l7 e)))))))
theorem xor_zero_eq {a b : Nat} (h : a ^^^ b = 0) : a = b := by
  have := congrArg (· ^^^ b) h
  simp only [Nat.xor_assoc, Nat.xor_self, Nat.xor_zero, Nat.zero_xor] at this
  exact this
theorem hf8_inj {a b : Nat} (ha : a < 4294967296) (hb : b < 4294967296) (e : hf8 a = hf8 b) : a = b := by
  refine xor_zero_eq (hf8_zero (Nat.xor_lt_two_pow (n := 32) ha hb) ?_)
  unfold hf8
  rw [hf4_xor, hf4_xor]
  unfold hf8 at e
  rw [e, Nat.xor_self]
theorem crcR_inj : ∀ (L : List Int) (s t : Nat), s < 4294967296 → t < 4294967296 → Byt L → crcR s L = crcR t L → s = t
  | [], s, t, _, _, _, e => e
  | c :: r, s, t, hs, ht, hb, e => by
    have hc := hb c (by simp)
    have h1 : s ^^^ c.toNat < 4294967296 := Nat.xor_lt_two_pow (n := 32) hs (by omega)
    have h2 : t ^^^ c.toNat < 4294967296 := Nat.xor_lt_two_pow (n := 32) ht (by omega)
    have := hf8_inj h1 h2 (crcR_inj r _ _ (hf8_lt h1) (hf8_lt h2) (fun x hx => hb x (by simp [hx])) e)
    have h3 := congrArg (· ^^^ c.toNat) this
    simp only [Nat.xor_assoc, Nat.xor_self, Nat.xor_zero] at h3
    exact h3
theorem set_split {α : Type} {L : List α} {i : Nat} (y : α) (hi : i < L.length) : L.set i y = L.take i ++ y :: L.drop (i + 1) := by rw [List.set_eq_take_append_cons_drop, if_pos hi]
/-- One byte that is another one: another sum. -/
theorem crc_set {L : List Int} {i : Nat} {x y : Int} (hb : Byt L) (hx : L[i]? = some x) (hy : 0 ≤ y ∧ y ≤ 255) (hne : y ≠ x) : crcV (L.set i y) ≠ crcV L := by
  intro e
  obtain ⟨hi, he⟩ := List.getElem?_eq_some_iff.1 hx
  have e1 : L = L.take i ++ x :: L.drop (i + 1) := by
    rw [← he, ← List.drop_eq_getElem_cons hi, List.take_append_drop]
  have e2 := set_split y hi
  unfold crcV at e
  have e3 : crcR (0 ^^^ 4294967295) (L.set i y) = crcR (0 ^^^ 4294967295) L := by
    have := congrArg (· ^^^ 4294967295) e
    simp only [Nat.xor_assoc, Nat.xor_self, Nat.xor_zero] at this
    exact this
  rw [e2] at e3
  conv at e3 => rhs; rw [e1]
  unfold crcR at e3
  rw [List.foldl_append, List.foldl_append, List.foldl_cons, List.foldl_cons] at e3
  have hp : crcR (0 ^^^ 4294967295) (L.take i) < 4294967296 := crcR_lt (by decide) (Byt.take hb i)
  have hxb := hb x (List.mem_of_getElem? hx)
  have l1 : crcR (0 ^^^ 4294967295) (L.take i) ^^^ y.toNat < 4294967296 := Nat.xor_lt_two_pow (n := 32) hp (by omega)
  have l2 : crcR (0 ^^^ 4294967295) (L.take i) ^^^ x.toNat < 4294967296 := Nat.xor_lt_two_pow (n := 32) hp (by omega)
  have h4 := hf8_inj l1 l2 (crcR_inj (L.drop (i + 1)) _ _ (hf8_lt l1) (hf8_lt l2) (Byt.drop hb _) e3)
  have h5 := congrArg (crcR (0 ^^^ 4294967295) (L.take i) ^^^ ·) h4
  simp only [← Nat.xor_assoc, Nat.xor_self, Nat.zero_xor] at h5
  omega
theorem lenL_take {B C : List Int} (h : B.take 4 = C.take 4) : lenL B = lenL C := by
  unfold lenL
  rw [← de4_take (B := B) (k := 4) (Nat.le_refl _), ← de4_take (B := C) (k := 4) (Nat.le_refl _), h]
/-- A frame of which a part is missing is none. -/
theorem isL_cut {P r : List Int} {m : Nat} (hp : Byt P) (h1 : 1 ≤ P.length) (h2 : P.length ≤ 4096) (hm : m < 8 + P.length) : isL ((frameL P ++ r).take m) = false := by
  obtain ⟨_, _, e⟩ := isL_frame hp h1 h2 r
  refine isL_no fun ⟨g1, g2, g3, g4⟩ => ?_
  rw [List.length_take] at g1 g4
  have : lenL ((frameL P ++ r).take m) = lenL (frameL P ++ r) := lenL_take (by rw [List.take_take]; congr 1; omega)
  omega
theorem set_append_right {α : Type} (A B : List α) (i : Nat) (y : α) : (A ++ B).set (A.length + i) y = A ++ B.set i y := by
  rw [List.set_append_right _ _ (by omega)]
  congr 2
  omega
theorem take_set_lt {α : Type} (B : List α) (i k : Nat) (y : α) (h : k ≤ i) : (B.set i y).take k = B.take k := by
  rw [List.take_set_of_le h]
/-- A frame in which one byte behind its length is another one is none. -/
theorem isL_turned {P r : List Int} {i : Nat} {x y : Int} (hp : Byt P) (h1 : 1 ≤ P.length) (h2 : P.length ≤ 4096) (hr : Byt r) (h4 : 4 ≤ i) (hi : i < 8 + P.length) (hx : (frameL P)[i]? = some x) (hy : 0 ≤ y ∧ y ≤ 255) (hne : y ≠ x) : isL ((frameL P ++ r).set i y) = false := by
  obtain ⟨e1, e2, e3⟩ := isL_frame hp h1 h2 r
  have hxF : (frameL P ++ r)[i]? = some x := by rw [List.getElem?_append_left (by rw [frameL_len]; exact hi)]; exact hx
  obtain ⟨F, hF⟩ : ∃ F, frameL P ++ r = F := ⟨_, rfl⟩
  have hFb : Byt F := by rw [← hF]; unfold frameL; exact Byt.append (Byt.append (be4_byt _) (Byt.append (be4_byt _) hp)) hr
  have hFl : 8 + P.length ≤ F.length := by rw [← hF, List.length_append, frameL_len]; omega
  rw [hF] at e1 e2 e3 hxF ⊢
  obtain ⟨_, _, _, _, hc⟩ := isL_iff.1 e1
  cases hi2 : isL (F.set i y) with
  | false => rfl
  | true =>
    exfalso
    obtain ⟨_, _, _, _, hc2⟩ := isL_iff.1 hi2
    have hl : lenL (F.set i y) = lenL F := lenL_take (take_set_lt F i 4 y h4)
    by_cases h8 : i < 8
    · have hb2 : bodyL (F.set i y) = bodyL F := by
        unfold bodyL
        rw [hl, List.drop_set, if_pos h8]
      rw [hb2, hc] at hc2
      have hbd : Byt (F.drop 4) := Byt.drop hFb 4
      have hbs : Byt ((F.set i y).drop 4) := Byt.drop (fun z hz => by
        rcases List.mem_or_eq_of_mem_set hz with h | rfl
        · exact hFb z h
        · exact hy) 4
      have k1 := be4_de4 hbd (by rw [List.length_drop]; omega)
      have k2 := be4_de4 hbs (by rw [List.length_drop, List.length_set]; omega)
      rw [← hc2, k1] at k2
      have k3 := congrArg (fun l => l[i - 4]?) k2
      simp only [List.getElem?_take, List.getElem?_drop] at k3
      rw [if_pos (by omega), if_pos (by omega), show 4 + (i - 4) = i by omega, hxF, List.getElem?_set_self (by omega)] at k3
      cases k3
      exact hne rfl
    · have hd4 : de4 ((F.set i y).drop 4) = de4 (F.drop 4) := by
        rw [← de4_take (B := (F.set i y).drop 4) (k := 4) (Nat.le_refl _), ← de4_take (B := F.drop 4) (k := 4) (Nat.le_refl _)]
        congr 1
        rw [List.drop_set, if_neg (by omega), take_set_lt _ _ _ _ (by omega)]
      have hb2 : bodyL (F.set i y) = (bodyL F).set (i - 8) y := by
        unfold bodyL
        rw [hl, List.drop_set, if_neg h8, List.take_set]
      rw [hb2, hd4, ← hc, e2] at hc2
      refine crc_set hp (i := i - 8) (x := x) ?_ hy hne hc2
      have : F[i]? = some x := hxF
      rw [← hF] at this
      unfold frameL at this
      rw [List.append_assoc, List.getElem?_append_right (by rw [be4_len]; omega), List.append_assoc, List.getElem?_append_right (by rw [be4_len, be4_len]; omega)] at this
      rw [be4_len, be4_len] at this
      rw [List.getElem?_append_left (by omega)] at this
      rw [show i - 8 = i - 4 - 4 by omega]
      exact this
def FrOk (ps : List (List Int)) : Prop := ∀ p ∈ ps, Byt p ∧ 1 ≤ p.length ∧ p.length ≤ 4096
theorem flat_len (ps : List (List Int)) (k : Nat) : ((ps.take k).map frameL).flatten.length = sumF ps k := by
  unfold sumF
  rw [List.length_flatten, List.map_map]
  congr 1
  exact List.map_congr_left fun p _ => by simp [frameL_len]
theorem framesL_flat : ∀ (ps : List (List Int)) (r : List Int), FrOk ps → framesL ((ps.map frameL).flatten ++ r) = ps ++ framesL r
  | [], r, _ => rfl
  | p :: ps, r, h => by
    obtain ⟨h1, h2, h3⟩ := h p (by simp)
    rw [List.map_cons, List.flatten_cons, List.append_assoc, framesL_frame h1 h2 h3, framesL_flat ps r fun q hq => h q (by simp [hq])]
    rfl
theorem flat_at_k {ps : List (List Int)} {k : Nat} {p : List Int} (hp : ps[k]? = some p) : (ps.map frameL).flatten = ((ps.take k).map frameL).flatten ++ (frameL p ++ ((ps.drop (k + 1)).map frameL).flatten) := by
  obtain ⟨hk, e⟩ := List.getElem?_eq_some_iff.1 hp
  have : ps = ps.take k ++ p :: ps.drop (k + 1) := by rw [← e, ← List.drop_eq_getElem_cons hk, List.take_append_drop]
  conv => lhs; rw [this]
  rw [List.map_append, List.map_cons, List.flatten_append, List.flatten_cons]
theorem FrOk.take {ps : List (List Int)} (h : FrOk ps) (k : Nat) : FrOk (ps.take k) := fun p hp => h p (List.mem_of_mem_take hp)
theorem FrOk.byt {ps : List (List Int)} (h : FrOk ps) : Byt (ps.map frameL).flatten := fun x hx => by
  obtain ⟨l, hl, hxl⟩ := List.mem_flatten.1 hx
  obtain ⟨p, hp, rfl⟩ := List.mem_map.1 hl
  unfold frameL at hxl
  exact Byt.append (be4_byt _) (Byt.append (be4_byt _) (h p hp).1) x hxl
/-- Frames, cut anywhere: just the whole ones. -/
theorem framesL_cut {ps : List (List Int)} {k m : Nat} {p : List Int} (h : FrOk ps) (hp : ps[k]? = some p) (h1 : sumF ps k ≤ m) (h2 : m < sumF ps k + (8 + p.length)) : framesL ((ps.map frameL).flatten.take m) = ps.take k := by
  obtain ⟨g1, g2, g3⟩ := h p (List.mem_of_getElem? hp)
  rw [flat_at_k hp, List.take_append, flat_len, List.take_of_length_le (by rw [flat_len]; exact h1), framesL_flat _ _ (h.take k), framesL_no (isL_cut g1 g2 g3 (by omega)), List.append_nil]
/-- Frames of which one byte is another one, behind a length: those ahead of it. -/
theorem framesL_turned {ps : List (List Int)} {k m : Nat} {p : List Int} {x y : Int} (h : FrOk ps) (hp : ps[k]? = some p) (h1 : sumF ps k + 4 ≤ m) (h2 : m < sumF ps k + (8 + p.length)) (hx : (ps.map frameL).flatten[m]? = some x) (hy : 0 ≤ y ∧ y ≤ 255) (hne : y ≠ x) : framesL ((ps.map frameL).flatten.set m y) = ps.take k := by
  obtain ⟨g1, g2, g3⟩ := h p (List.mem_of_getElem? hp)
  have hfl := flat_len ps k
  have hdb : FrOk (ps.drop (k + 1)) := fun q hq => h q (List.mem_of_mem_drop hq)
  rw [flat_at_k hp] at hx ⊢
  obtain ⟨i, rfl⟩ : ∃ i, m = ((ps.take k).map frameL).flatten.length + i := ⟨m - sumF ps k, by omega⟩
  rw [set_append_right, framesL_flat _ _ (h.take k)]
  rw [List.getElem?_append_right (by omega), Nat.add_sub_cancel_left, List.getElem?_append_left (by rw [frameL_len]; omega)] at hx
  rw [framesL_no (isL_turned g1 g2 g3 hdb.byt (by omega) (by omega) hx hy hne), List.append_nil]
end Go.Proofs.YtglkndoghnblcaaGreat
namespace Go.Proofs.YtglkndoghnblcaaGreat
open Go.ChangeShapes Go.WideShapes Go.ChangeAt Go.RowKit
set_option linter.unusedVariables false
set_option linter.unusedSimpArgs false
theorem rowP_W {fs : List (List Int)} (h : mayF fs = true) : rowP (putL bytesW fs) = some fs := by
  have h2 := h
  unfold mayF at h2
  rw [Bool.and_eq_true] at h2
  have h3 := of_decide_eq_true h2.2
  have h4 : ∀ f ∈ fs, f.length ≤ 24 := fun f hf => of_decide_eq_true (List.all_eq_true.1 h2.1 f hf)
  have := listP_W (most := 3) (one := bytesP 24) (put := bytesW) (by decide) [] fs h3.2 (fun f hf s => bytesP_W (h4 f hf) (by decide) s)
  unfold rowP putL
  rw [← List.append_nil (fs.map bytesW).flatten, this]
  simp [h]
theorem rowW_len {fs : List (List Int)} (h : mayF fs = true) : (putL bytesW fs).length ≤ 4096 := by
  unfold mayF at h
  rw [Bool.and_eq_true] at h
  have h3 := of_decide_eq_true h.2
  have h4 : ∀ f ∈ fs, f.length ≤ 24 := fun f hf => of_decide_eq_true (List.all_eq_true.1 h.1 f hf)
  unfold putL
  have h5 := flat_bound bytesW 34 fs (fun f hf => by
    unfold bytesW
    have := numW_ten f.length (by have := h4 f hf; omega)
    have := h4 f hf
    rw [List.length_append]
    omega)
  have h6 := numW_ten fs.length (by omega)
  rw [List.length_append]
  have h7 : fs.length * 34 ≤ 3 * 34 := Nat.mul_le_mul_right 34 h3.2
  omega
theorem arowP_W {fs : List (List Int)} (h : mayF fs = true) (r : List Int) : arowP (bytesW (putL bytesW fs) ++ r) = some (fs, r) := by
  unfold arowP
  rw [bytesP_W (rowW_len h) (by decide)]
  simp only [rowP_W h]
theorem tidP_W {e s : Nat} (he : e ≤ 16777215) (hs : s ≤ 2147483647) (r : List Int) : tidP (tidW e s ++ r) = some ((e, s), r) := by
  unfold tidP tidW
  rw [List.append_assoc, upP_W he (by decide)]
  simp only [upP_W hs (by decide)]
theorem flagP_0 (r : List Int) : flagP (0 :: r) = some (false, r) := by
  unfold flagP
  simp
theorem flagP_1 (r : List Int) : flagP (1 :: r) = some (true, r) := by
  unfold flagP
  simp
theorem writeP_W {x : Wr3} (ht : x.1 ≤ 4) (hk : x.2.1.length ≤ 32) (hf : x.2.2 = [] ∨ mayF x.2.2 = true) (r : List Int) : writeP (w3W x ++ r) = some (x, r) := by
  obtain ⟨t, k, fs⟩ := x
  simp only at ht hk hf
  unfold writeP w3W
  simp only
  rw [List.append_assoc, List.append_assoc, List.append_assoc, upP_W ht (by decide)]
  simp only [bytesP_W hk (by decide)]
  rcases hf with rfl | hf
  · simp [flagP_0]
  · have h0 : 0 < fs.length := by
      unfold mayF at hf
      rw [Bool.and_eq_true] at hf
      exact (of_decide_eq_true hf.2).1
    simp only [h0, decide_true, if_true, List.cons_append, List.nil_append, flagP_1]
    rw [arowP_W hf]
theorem mayR_mayF {R : List P1} : mayR R = mayF (R.map P1.bs) := by
  unfold mayR mayF allB
  rw [List.all_map, List.length_map]
  rfl
/-- A transaction that was written is read. -/
theorem oneTx_W {e s : Nat} {ws : List WtP} (h : txB (e : Int) (s : Int) ws = true) : oneTx (txW e s ws) = some ((e, s), ws.map cont) ∧ ∀ p ∈ ws, 0 ≤ p.tab := by
  obtain ⟨⟨en, sn, h1, h2, h3, h4, h5, h6⟩, h7, h8, h9, _⟩ := txB_facts h
  have hp : ∀ p ∈ ws, 0 ≤ p.tab := fun p hp => by
    obtain ⟨t, ht, _⟩ := wtB_facts (h9 p hp)
    omega
  refine ⟨?_, hp⟩
  have hw : ∀ x ∈ ws.map cont, ∀ r, writeP (w3W x ++ r) = some (x, r) := fun x hx r => by
    obtain ⟨p, hpm, rfl⟩ := List.mem_map.1 hx
    obtain ⟨t, ht, k1, k2, k3, k4, _⟩ := wtB_facts (h9 p hpm)
    refine writeP_W ?_ k2 ?_ r
    · show p.tab.toNat ≤ 4
      omega
    · rcases k4 with k4 | k4
      · left
        show p.R.map P1.bs = []
        rw [List.length_eq_zero_iff.1 k4]; rfl
      · right
        show mayF (p.R.map P1.bs) = true
        rw [← mayR_mayF]; exact k4
  have hr : txnP (txW e s ws) = some (((e, s), ws.map cont), []) := by
    rw [txW_cont]
    unfold txnP t3W
    rw [tidP_W (by show e ≤ 16777215; omega) (by show s ≤ 2147483647; omega)]
    simp only
    have := listP_W (most := 16) (one := writeP) (put := w3W) (by decide) [] (ws.map cont) (by rw [List.length_map]; exact h8) hw
    unfold putL
    rw [List.append_nil] at this
    rw [this]
  unfold oneTx
  rw [hr]
  simp only [readP, if_true]
  have : okTx ((e, s), ws.map cont) = true := by rw [← okTx_lies e s hp]; exact h
  rw [this]
  rfl
theorem txsL_map : ∀ (xs : List (List Int)) (ys : List Tx3), xs.map oneTx = ys.map some → txsL xs = ys
  | [], [], _ => rfl
  | [], y :: ys, h => by simp at h
  | x :: xs, [], h => by simp at h
  | x :: xs, y :: ys, h => by
    rw [List.map_cons, List.map_cons, List.cons.injEq] at h
    unfold txsL
    rw [h.1]
    simp only
    rw [txsL_map xs ys h.2]
end Go.Proofs.YtglkndoghnblcaaGreat
namespace Go.Proofs.YtglkndoghnblcaaGreat
open Go.ChangeShapes Go.WideShapes Go.ChangeAt Go.RowKit Go.Shelf
set_option linter.unusedVariables false
set_option linter.unusedSimpArgs false
def szGo : List P1 → Nat → Nat
  | [], s => s
  | p :: r, s => if s < 1048576 then szGo r (s + min p.bs.length 1048576) else s
def szF (R : List P1) : Nat := szGo R R.length
theorem szGo_ge : ∀ (R : List P1) (s : Nat), s ≤ szGo R s
  | [], s => Nat.le_refl _
  | p :: r, s => by
    unfold szGo
    split
    · have := szGo_ge r (s + min p.bs.length 1048576); omega
    · omega
theorem szGo_le : ∀ (R : List P1) (s m : Nat), s ≤ m + 2097152 → szGo R s ≤ m + 2097152
  | [], s, m, h => h
  | p :: r, s, m, h => by
    unfold szGo
    split
    · exact szGo_le r _ m (by omega)
    · exact h
theorem szF_ge (R : List P1) : R.length ≤ szF R := szGo_ge R _
theorem szF_le (R : List P1) : szF R ≤ R.length + 2097152 := szGo_le R _ _ (by omega)
theorem szGo_stop (R : List P1) (s : Nat) (h : ¬ s < 1048576) : szGo R s = s := by
  cases R with
  | nil => rfl
  | cons p r => unfold szGo; rw [if_neg h]
theorem szGo_step {R : List P1} {k s : Nat} {p : P1} (hp : R[k]? = some p) (h : s < 1048576) : szGo (R.drop k) s = szGo (R.drop (k + 1)) (s + min p.bs.length 1048576) := by
  obtain ⟨hk, e⟩ := List.getElem?_eq_some_iff.1 hp
  rw [List.drop_eq_getElem_cons hk, szGo, if_pos h, e]
set_option maxRecDepth 100000 in
set_option maxHeartbeats 1000000 in
theorem sizef_law (a : Option Addr) (R : List P1) (n cap : Nat) (hn : R.length = n) (w : World) (hR : RdR w a R) :
    Calls Tryz.prog 28 #[.slice a n cap] w fun r w' => r = .returned (.int .i64 (szF R : Int)) ∧ w' = w := by
  have HR := Lib.hid hR
  have HN := Lib.hid hn
  obtain ⟨ans, hans⟩ : ∃ x, szF R = x := ⟨_, rfl⟩
  have HA := Lib.hid (show szGo R n = ans by rw [← hans, ← hn]; rfl)
  rw [hans]
  clear hR hn hans
  go_enter Tryz.func28, Tryz.ntmps28
  go_wp2_with fail
  go_loopw [3, 4] (fun x i wr => ∃ k s : Nat, k ≤ n ∧ i = .int .i64 k ∧ x = .int .i64 s ∧ n ≤ s ∧ Hid (szGo (R.drop k) s = ans) ∧ w = wr) (fun _ i _ => n - (intOf i).toNat)
  case atStart => exact ⟨0, n, by omega, rfl, rfl, by omega, Lib.hid (by simpa using HA.out), rfl⟩
  case round =>
    obtain ⟨k, s, hk, rfl, rfl, hns, HS, rfl⟩ := hrel
    by_cases hlt : k < n
    · have hkl : (k : Int) < (n : Int) := by omega
      by_cases hs2 : s < 1048576
      · have hsl : (s : Int) < 1048576 := by omega
        have hs9 : (s : Int) ≤ 1048576 := by omega
        obtain ⟨p, hp⟩ : ∃ p, R[k]? = some p := ⟨_, List.getElem?_eq_getElem (by rw [HN.out]; exact hlt)⟩
        obtain ⟨b1, o1, e1, c1, l1⟩ := HR.out k p hp
        subst e1
        have c2 : w.cell? ⟨b1, o1 + k, none⟩ = some (.slice p.ad p.bs.length p.cap) := c1
        have HST := Lib.hid (show szGo (R.drop (k + 1)) (s + min p.bs.length 1048576) = ans by rw [← szGo_step hp hs2]; exact HS.out)
        obtain ⟨m, hm⟩ : ∃ m, p.bs.length = m := ⟨_, rfl⟩
        rw [hm] at c2 HST
        clear c1 hp hm l1
        by_cases hm2 : m < 1048576
        · have hml : (m : Int) < 1048576 := by omega
          have HX := Lib.hid (show szGo (R.drop (k + 1)) (s + m) = ans by rw [← HST.out]; congr 1; omega)
          go_wp2_with fail
          go_roundw
          case rel => exact ⟨k + 1, s + m, by omega, by go_num, by go_num, by omega, HX, trivial⟩
          case measure => simp [intOf]; omega
        · have hml : ¬ (m : Int) < 1048576 := by omega
          have HX := Lib.hid (show szGo (R.drop (k + 1)) (s + 1048576) = ans by rw [← HST.out]; congr 1; omega)
          go_wp2_with fail
          go_roundw
          case rel => exact ⟨k + 1, s + 1048576, by omega, by go_num, by go_num, by omega, HX, trivial⟩
          case measure => simp [intOf]; omega
      · have hsl : ¬ (s : Int) < 1048576 := by omega
        have HE := Lib.hid (show ans = s by rw [← HS.out, szGo_stop _ _ hs2])
        go_wp2_with fail
        go_ret
        exact ⟨ret_int (by rw [HE.out]), rfl⟩
    · have hkl : ¬ (k : Int) < (n : Int) := by omega
      have HE := Lib.hid (show ans = s by rw [← HS.out, List.drop_of_length_le (by rw [HN.out]; omega)]; rfl)
      go_wp2_with fail
      go_ret
      exact ⟨ret_int (by rw [HE.out]), rfl⟩
theorem szGo_mem : ∀ (R : List P1) (s m : Nat), szGo R s ≤ m → m < 1048576 → ∀ p ∈ R, p.bs.length ≤ m
  | [], s, m, _, _, p, hp => by simp at hp
  | q :: r, s, m, h, hm, p, hp => by
    have hs : s < 1048576 := by have := szGo_ge (q :: r) s; omega
    unfold szGo at h
    rw [if_pos hs] at h
    have h1 := szGo_ge r (s + min q.bs.length 1048576)
    rcases List.mem_cons.1 hp with rfl | hp
    · omega
    · exact szGo_mem r _ m h hm p hp
/-- What is told of writes that are not too many. -/
def SmW (xs : List WtP) : Prop := xs.length ≤ 9000 ∧ ∀ x ∈ xs, x.key.length ≤ 9000 ∧ x.R.length ≤ 9000 ∧ ∀ p ∈ x.R, p.bs.length ≤ 9000
def MuW (xs : List WtP) (r : Ending) : Prop := ∃ b, r = .returned (.bool b) ∧ (b = false → SmW xs)
def BgW (xs : List WtP) : Prop := xs.length ≤ 140737488355328 ∧ ∀ x ∈ xs, x.R.length ≤ 140737488355328
set_option maxRecDepth 100000 in
set_option maxHeartbeats 4000000 in
/-- Much (17). -/
theorem muchw_law (a : Option Addr) (xs : List WtP) (n cap : Nat) (hL : xs.length = n) (hB : BgW xs) (w : World) (hA : WtsR w a xs) :
    Calls Tryz.prog 17 #[.slice a n cap, .int .i64 9000] w fun r w' => MuW xs r ∧ Below w.heap.size w w' := by
  have HA := Lib.hid (fun W (b : Below w.heap.size w W) => hA.below b)
  have HL := Lib.hid hL
  have HBD := Lib.hid hB.2
  have hn := hB.1
  rw [hL] at hn
  have hni : (n : Int) ≤ 140737488355328 := by omega
  clear hA hL hB
  go_enter Tryz.func17, Tryz.ntmps17
  go_wp2_with fail
  go_loopw [5, 6] (fun x i wr => ∃ k s : Nat, k ≤ n ∧ i = .int .i64 (k : Int) ∧ x = .int .i64 (s : Int) ∧ k ≤ s ∧ s ≤ 281474976710656 ∧ Hid (s ≤ 9000 → ∀ q, q < k → ∀ o, xs[q]? = some o → o.key.length ≤ 9000 ∧ o.R.length ≤ 9000 ∧ ∀ p ∈ o.R, p.bs.length ≤ 9000) ∧ Hid (Below w.heap.size w wr)) (fun _ i _ => n - (intOf i).toNat)
  case atStart => exact ⟨0, 0, by omega, rfl, rfl, by omega, by omega, Lib.hid (fun _ q hq => absurd hq (by omega)), Lib.hid (Below.refl _ _)⟩
  case round =>
    obtain ⟨k, s, hk, rfl, rfl, hks, hs2, HP, BB⟩ := hrel
    have hsb : (s : Int) ≤ 281474976710656 := by omega
    by_cases hlt : k < n
    · have hkl : (k : Int) < (n : Int) := by omega
      by_cases hs : s ≤ 9000
      · have hsi : (s : Int) ≤ 9000 := by omega
        have hki : (k : Int) ≤ 9000 := by omega
        obtain ⟨o, ho⟩ : ∃ o, xs[k]? = some o := ⟨_, List.getElem?_eq_getElem (by rw [HL.out]; exact hlt)⟩
        obtain ⟨b1, o1, ea, d0, d1, d2, hc⟩ := HA.out _ BB.out k o ho
        subst ea
        have hrn := HBD.out o (List.mem_of_getElem? ho)
        have hg := szF_ge o.R
        have hle := szF_le o.R
        have HSZ := Lib.hid (fun m => (sizef_law o.ra o.R o.R.length o.rc rfl (wr.drewN m) (hc.below (below_drewN (Below.refl _ _) m)).row))
        obtain ⟨z, hz⟩ : ∃ z, szF o.R = z := ⟨_, rfl⟩
        rw [hz] at hg hle HSZ
        have HZ := Lib.hid hz
        have HO := Lib.hid ho
        have hz0 : (0 : Int) ≤ (z : Int) := by omega
        have hz1 : (z : Int) ≤ 140737490452480 := by omega
        obtain ⟨kn, hkn⟩ : ∃ kn, o.key.length = kn := ⟨_, rfl⟩
        obtain ⟨rn, hrn2⟩ : ∃ rn, o.R.length = rn := ⟨_, rfl⟩
        obtain ⟨oka, hoka⟩ : ∃ x, o.ka = x := ⟨_, rfl⟩
        obtain ⟨okc, hokc⟩ : ∃ x, o.kc = x := ⟨_, rfl⟩
        obtain ⟨ora, hora⟩ : ∃ x, o.ra = x := ⟨_, rfl⟩
        obtain ⟨orc, horc⟩ : ∃ x, o.rc = x := ⟨_, rfl⟩
        obtain ⟨km, hkm⟩ : ∃ km : Nat, km = min kn 9001 := ⟨_, rfl⟩
        have HST := Lib.hid (show s + 1 + km + z ≤ 9000 → ∀ q, q < k + 1 → ∀ o, xs[q]? = some o → o.key.length ≤ 9000 ∧ o.R.length ≤ 9000 ∧ ∀ p ∈ o.R, p.bs.length ≤ 9000 from fun h q hq p hp => by
          by_cases e : q = k
          · subst e
            rw [HO.out] at hp
            cases hp
            have h1 : szF o.R ≤ 9000 := by rw [HZ.out]; omega
            exact ⟨by rw [hkn]; omega, by omega, szGo_mem o.R _ 9000 h1 (by decide)⟩
          · exact HP.out (by omega) q (by omega) p hp)
        rw [hrn2, hora, horc] at HSZ
        rw [hoka, hkn, hokc] at d1
        rw [hora, hrn2, horc] at d2
        have w1 : IntKind.i64.wrap ((s : Int) + 1) = (s : Int) + 1 := IntWalk.i64_in _ (by omega)
        have w2 : IntKind.i64.wrap ((9000 : Int) + 1) = 9001 := by decide
        have w3 : IntKind.i64.wrap ((s : Int) + 1 + (km : Int)) = (s : Int) + 1 + (km : Int) := IntWalk.i64_in _ (by omega)
        have w5 : IntKind.i64.wrap ((s : Int) + 1 + (km : Int) + (z : Int)) = (s : Int) + 1 + (km : Int) + (z : Int) := IntWalk.i64_in _ (by omega)
        have hfin : s + 1 + km + z ≤ 281474976710656 := by omega
        have m1 : min (kn : Int) 9001 = (km : Int) := by omega
        have hkz : k + 1 ≤ s + 1 + km + z := by omega
        have hcast : ((s : Int) + 1 + (km : Int) + (z : Int)) = ((s + 1 + km + z : Nat) : Int) := by omega
        have HC := Lib.hid hcast
        have HKM := Lib.hid hkm
        clear hkm hcast ho hc hz hkn hrn2 hoka hokc hora horc hrn
        go_wp2_with fail
        go_quiet ((go_at_call 28; exact Calls.quiet_of_same (HSZ.out _)))
        go_wp2_with fail
        go_roundw
        case rel => exact ⟨k + 1, s + 1 + km + z, by omega, by go_num, by have h1 := HKM.out; congr 1; split <;> omega, hkz, hfin, HST, Lib.hid (below_drewN BB.out _)⟩
        case measure => simp [intOf]; omega
      · have hsi : ¬ (s : Int) ≤ 9000 := by omega
        have hsj : (9000 : Int) < (s : Int) := by omega
        go_wp2_with fail
        go_ret
        exact ⟨⟨true, rfl, fun h => by cases h⟩, BB.out⟩
    · have hkl : ¬ (k : Int) < (n : Int) := by omega
      by_cases hs : s ≤ 9000
      · have hsi : ¬ (9000 : Int) < (s : Int) := by omega
        have HR := Lib.hid (show SmW xs from ⟨by rw [HL.out]; omega, fun o ho => by
          obtain ⟨q, hq⟩ := List.mem_iff_getElem?.1 ho
          exact HP.out hs q (by have := (List.getElem?_eq_some_iff.1 hq).1; have := HL.out; omega) o hq⟩)
        go_wp2_with fail
        go_ret
        exact ⟨⟨false, rfl, fun _ => HR.out⟩, BB.out⟩
      · have hsi : (9000 : Int) < (s : Int) := by omega
        go_wp2_with fail
        go_ret
        exact ⟨⟨true, rfl, fun h => by cases h⟩, BB.out⟩
end Go.Proofs.YtglkndoghnblcaaGreat
namespace Go.Proofs.YtglkndoghnblcaaGreat
open Go.ChangeShapes Go.WideShapes Go.ChangeAt Go.RowKit Go.Deep
set_option linter.unusedVariables false
set_option linter.unusedSimpArgs false
theorem list_of {α : Type} {p : Nat → α → Prop} : ∀ m, (∀ i, i < m → ∃ x, p i x) → ∃ L : List α, L.length = m ∧ ∀ i x, L[i]? = some x → p i x
  | 0, _ => ⟨[], rfl, fun i x h => by simp at h⟩
  | m + 1, h => by
    obtain ⟨L, hl, hp⟩ := list_of m fun i hi => h i (by omega)
    obtain ⟨x, hx⟩ := h m (by omega)
    refine ⟨L ++ [x], by simp [hl], fun i y hy => ?_⟩
    by_cases e : i < L.length
    · rw [List.getElem?_append_left e] at hy
      exact hp i y hy
    · have hi := (List.getElem?_eq_some_iff.1 hy).1
      simp at hi
      obtain rfl : i = m := by omega
      rw [List.getElem?_append_right (by omega)] at hy
      simp [hl] at hy
      rw [← hy]; exact hx
section
variable {H : Type} {enc : TypeId × Value → H} {w : World} {base : Nat} {held : Bool}
theorem weights_all {P : Program} {e : TypeId} {d : DataW H} {n : Nat} (hn : n ∈ d.weights P e) : ∀ {l : List (DataW H)}, d ∈ l → n ∈ DataW.weightsAll P e l
  | [], h => by simp at h
  | x :: r, h => by
    simp only [DataW.weightsAll, List.mem_append]
    rcases List.mem_cons.1 h with rfl | h
    · exact .inl hn
    · exact .inr (weights_all hn h)
/-- What a slice that is read within the reach says of its length, and of its elements. -/
theorem slice_sz {t e : TypeId} (ht : Tryz.prog.underlying t = some (.slice e)) (hb : 1 ≤ Tryz.prog.bytesOf e) {len k : Nat} {D : Nat → DataW H} (hsz : ∀ n ∈ (DataW.slice ((List.range len).map D) ((List.range k).map fun j => D (len + j))).weights Tryz.prog t, n ≤ reachBytes) :
    len ≤ 140737488355328 ∧ ∀ i, i < len → ∀ n ∈ (D i).weights Tryz.prog e, n ≤ reachBytes := by
  constructor
  · have h1 := hsz ((((List.range len).map D).length + ((List.range k).map fun j => D (len + j)).length) * Tryz.prog.bytesOf e) (by simp only [DataW.weights, ht]; exact List.mem_cons_self ..)
    simp only [List.length_map, List.length_range, reachBytes] at h1
    have : (len + k) * 1 ≤ (len + k) * Tryz.prog.bytesOf e := Nat.mul_le_mul_left _ hb
    omega
  · intro i hi n hn
    refine hsz n ?_
    simp only [DataW.weights, ht, List.mem_cons, List.mem_append]
    exact .inr (.inl (weights_all hn (List.mem_map.2 ⟨i, List.mem_range.2 hi, rfl⟩)))
/-- A row that came in. -/
theorem open_row {d : DataW H} {ps : List MemPlace} {a : Option Addr} {len cap : Nat} (hd : DataW.Trod enc Tryz.prog w base (fun _ => true) held 49 (.slice a len cap) d ps) :
    ∃ R : List P1, R.length = len ∧ RdR w a R ∧ ∀ p ∈ R, Byt p.bs := by
  obtain ⟨fuel, hf⟩ := hd
  rcases Deep.open_int_rows Tryz.underlying49 Tryz.underlying22 Tryz.underlying5 (by kernel_rfl) (by kernel_rfl) hf with ⟨hcs, _⟩ | ⟨x, l, c, A, L, C, Z, hcs, hb, hl, hm, hx, hr⟩
  · simp [Value.cells] at hcs
    obtain ⟨rfl, rfl, rfl⟩ := hcs
    exact ⟨[], rfl, RdR.nil _ _, fun p hp => by simp at hp⟩
  · simp [Value.cells] at hcs
    obtain ⟨rfl, rfl, rfl⟩ := hcs
    refine ⟨(List.range len).map fun r => ⟨A r, C r, (Z r).take (L r)⟩, by simp, fun k p hp => ?_, fun p hp => ?_⟩
    · have hk : k < len := by have := (List.getElem?_eq_some_iff.1 hp).1; simpa using this
      have hp' : p = ⟨A k, C k, (Z k).take (L k)⟩ := by
        simp [hk] at hp
        exact hp.symm
      subst hp'
      obtain ⟨hc, hLC, hCm, hZ, hwf, hnone, hsome⟩ := hr k (by omega)
      obtain ⟨b, off, spot⟩ := x
      obtain ⟨hc0, _⟩ := hr 0 (by omega)
      have hspot : spot = none := by simpa [Addr.add] using World.cell?_spot hc0
      subst hspot
      rw [addr_add] at hc
      have hlen : ((Z k).take (L k)).length = L k := by rw [List.length_take, hZ]; omega
      refine ⟨b, off, rfl, ?_, ⟨fun j hj => ?_, fun e => ?_, by simp only; rw [hlen]; exact hLC⟩⟩
      · rw [hc, P1.v, hlen]
      · simp only at hj ⊢
        rw [hlen] at hj
        cases hA : A k with
        | none => have := hnone hA; omega
        | some a' =>
          obtain ⟨_, hcell⟩ := hsome a' hA
          obtain ⟨b2, o2, spot2⟩ := a'
          have hc2 := hcell 0 (by omega)
          have hspot2 : spot2 = none := by simpa [Addr.add] using World.cell?_spot hc2
          subst hspot2
          refine ⟨b2, o2, rfl, ?_⟩
          have := hcell j (by omega)
          rw [addr_add] at this
          rw [this]
          simp [List.getD, List.getElem?_take, hj]
      · simp only at e ⊢
        have := hnone e
        exact ⟨List.length_eq_zero_iff.1 (by rw [hlen]; omega), this⟩
    · obtain ⟨r, hr2, rfl⟩ := List.mem_map.1 hp
      have hrl : r < len := by simpa using hr2
      obtain ⟨_, _, _, _, hwf, _⟩ := hr r (by omega)
      intro y hy
      have := hwf y (List.mem_of_mem_take hy)
      simpa [Lit.wf, IntKind.min, IntKind.max, IntKind.signed, IntKind.bits] using this
theorem op_bytes {m : Nat} {u : Value} {x : DataW H × List MemPlace} (h : DataW.trod enc Tryz.prog w base (fun _ => true) held m 22 [u] = some x) :
    ∃ (a : Option Addr) (L : List Int) (n c : Nat), u = .slice a n c ∧ L.length = n ∧ Byt L ∧ Ls .u8 w a c L := by
  rcases open_ints Tryz.underlying22 Tryz.underlying5 (by kernel_rfl) h with ⟨hcs, _⟩ | ⟨y, l, c, zs, hcs, _, hl, hm, hz, hx, hcell, hwz⟩
  · simp only [List.cons.injEq, and_true] at hcs
    exact ⟨none, [], 0, 0, hcs, rfl, fun x hx => by simp at hx, Ls.nul _ _⟩
  · simp only [List.cons.injEq, and_true] at hcs
    have hr : IsRow .u8 w (some y) l c zs := .inr ⟨_, rfl, hl, hm, by simpa using hz, hcell, hwz⟩
    exact ⟨some y, zs.take l, l, c, hcs, hr.ls.2, hr.byt, hr.ls.1⟩
theorem op_row {m : Nat} {u : Value} {x : DataW H × List MemPlace} (h : DataW.trod enc Tryz.prog w base (fun _ => true) held m 49 [u] = some x) (hsz : ∀ n ∈ x.1.weights Tryz.prog 49, n ≤ reachBytes) :
    ∃ (a : Option Addr) (R : List P1) (n c : Nat), u = .slice a n c ∧ R.length = n ∧ RdR w a R ∧ (∀ p ∈ R, Byt p.bs) ∧ n ≤ 140737488355328 := by
  rcases open_slice Tryz.underlying49 h with ⟨hcs, _⟩ | ⟨y, l, c, k, _, D, Pl, hcs, _, hl, hm, _, rfl, _⟩
  · simp only [List.cons.injEq, and_true] at hcs
    subst hcs
    obtain ⟨R, h1, h2, h3⟩ := open_row (d := x.1) (ps := x.2) ⟨m, by simpa [Value.cells] using h⟩
    exact ⟨none, R, 0, 0, rfl, h1, h2, h3, Nat.zero_le _⟩
  · simp only [List.cons.injEq, and_true] at hcs
    subst hcs
    obtain ⟨R, h1, h2, h3⟩ := open_row ⟨m, by simpa [Value.cells] using h⟩
    exact ⟨some y, R, l, c, rfl, h1, h2, h3, (slice_sz Tryz.underlying49 (of_decide_eq_true (by kernel_rfl)) hsz).1⟩

theorem c1_51 : Tryz.prog.cellsOf 51 = 3 := by kernel_rfl
theorem c1_39 : Tryz.prog.cellsOf 39 = 3 := by kernel_rfl
theorem c1_37 : Tryz.prog.cellsOf 37 = 1 := by kernel_rfl
theorem c1_36 : Tryz.prog.cellsOf 36 = 2 := by kernel_rfl
theorem c1_22 : Tryz.prog.cellsOf 22 = 1 := by kernel_rfl
theorem c1_49 : Tryz.prog.cellsOf 49 = 1 := by kernel_rfl
theorem c1_3 : Tryz.prog.cellsOf 3 = 1 := by kernel_rfl
theorem c1_2 : Tryz.prog.cellsOf 2 = 1 := by kernel_rfl
set_option maxRecDepth 100000 in
theorem one_wt {m : Nat} {cs : List Value} {x : DataW H × List MemPlace} (h : DataW.trod enc Tryz.prog w base (fun _ => true) held m 51 cs = some x) (hlen : cs.length = 3) (hsz : ∀ n ∈ x.1.weights Tryz.prog 51, n ≤ reachBytes) :
    ∃ o : WtP, cs = [.int .i64 o.tab, .slice o.ka o.key.length o.kc, .slice o.ra o.R.length o.rc] ∧ WtOk w o ∧ o.R.length ≤ 140737488355328 := by
  match cs, hlen with
  | [u0, u1, u2], _ =>
    obtain ⟨xs, m2, _, hx, _, hl2, hel⟩ := DataW.trod_struct Tryz.underlying51 h
    have g0 : DataW.trod enc Tryz.prog w base (fun _ => true) held m2 3 (List.take (Tryz.prog.cellsOf 3) (List.drop 0 [u0, u1, u2])) = xs[0]? := hel 0 _ rfl
    have g1 : DataW.trod enc Tryz.prog w base (fun _ => true) held m2 22 (List.take (Tryz.prog.cellsOf 22) (List.drop 1 [u0, u1, u2])) = xs[1]? := hel 1 _ rfl
    have g2 : DataW.trod enc Tryz.prog w base (fun _ => true) held m2 49 (List.take (Tryz.prog.cellsOf 49) (List.drop 2 [u0, u1, u2])) = xs[2]? := hel 2 _ rfl
    rw [c1_3] at g0
    rw [c1_22] at g1
    rw [c1_49] at g2
    simp only [List.drop, List.take] at g0 g1 g2
    match xs, hl2 with
    | [y0, y1, y2], _ =>
      have hx1 : x.1 = .agg [y0.1, y1.1, y2.1] := by rw [hx]; rfl
      rw [hx1] at hsz
      obtain ⟨z0, e0, _⟩ := DataW.trod_int Tryz.underlying3 g0
      obtain ⟨a1, L1, n1, k1, e1, l1, b1, s1⟩ := op_bytes g1
      obtain ⟨a2, R2, n2, k2, e2, l2, r2, b2, i2⟩ := op_row g2 (fun n hn => hsz n (by
        have := DataW.weights_mem_each (P := Tryz.prog) (ts := [3, 22, 49]) (ds := [y0.1, y1.1, y2.1]) (j := 2) (t := 49) rfl rfl n hn
        simpa [DataW.weights, Tryz.underlying51] using this))
      simp only [List.cons.injEq, and_true] at e0
      subst l1 l2
      exact ⟨⟨z0, a1, k1, L1, a2, k2, R2⟩, by rw [e0, e1, e2], ⟨s1, r2, b1, b2⟩, i2⟩
/-- A slice of writes, opened. -/
theorem open_wts {m : Nat} {u : Value} {x : DataW H × List MemPlace} (h : DataW.trod enc Tryz.prog w base (fun _ => true) held m 37 [u] = some x) (hsz : ∀ n ∈ x.1.weights Tryz.prog 37, n ≤ reachBytes) :
    ∃ (a : Option Addr) (L : List WtP) (c : Nat), u = .slice a L.length c ∧ WtsR w a L ∧ BgW L ∧ (a = none → c = 0) := by
  rcases open_slice Tryz.underlying37 h with ⟨hcs, _⟩ | ⟨y, l, c, k, m2, D, Pl, hcs, _, hl, hm, hk, rfl, hi⟩
  · simp only [List.cons.injEq, and_true] at hcs
    subst hcs
    exact ⟨none, [], 0, rfl, fun k o ho => by simp at ho, ⟨Nat.zero_le _, fun o ho => by simp at ho⟩, fun _ => rfl⟩
  · simp only [List.cons.injEq, and_true] at hcs
    subst hcs
    have hkl : l ≤ k := by rw [hk]; split <;> omega
    obtain ⟨sl, sd⟩ := slice_sz Tryz.underlying37 (of_decide_eq_true (by kernel_rfl)) hsz
    obtain ⟨L, hL, hp⟩ := list_of (p := fun i (o : WtP) => (∀ j v, [Value.int .i64 o.tab, .slice o.ka o.key.length o.kc, .slice o.ra o.R.length o.rc][j]? = some v → w.cell? ((y.add (i * 3)).add j) = some v) ∧ WtOk w o ∧ o.R.length ≤ 140737488355328) l (fun i him => by
      obtain ⟨cs', hc, ht⟩ := hi i (by omega)
      rw [c1_51] at hc
      obtain ⟨_, hcl, hat⟩ := World.cells?_some hc
      obtain ⟨o, ho, hca, hrn⟩ := one_wt ht hcl (sd i him)
      refine ⟨o, fun j v hj => ?_, hca, hrn⟩
      have hj7 : j < 3 := by have := (List.getElem?_eq_some_iff.1 hj).1; simpa using this
      rw [hat j hj7, ho]; exact hj)
    refine ⟨some y, L, c, by rw [hL], fun i o ho => ?_, ⟨by omega, fun o ho => ?_⟩, fun e => by cases e⟩
    · obtain ⟨b, off, spot⟩ := y
      obtain ⟨h0, hca, _⟩ := hp i o ho
      have hil : i < L.length := (List.getElem?_eq_some_iff.1 ho).1
      obtain ⟨z0, _, _⟩ := hp 0 L[0] (List.getElem?_eq_getElem (by omega))
      have hspot : spot = none := by simpa [Addr.add] using World.cell?_spot (z0 0 _ rfl)
      subst hspot
      have q : ∀ j v, [Value.int .i64 o.tab, .slice o.ka o.key.length o.kc, .slice o.ra o.R.length o.rc][j]? = some v → w.cell? ⟨b, off + i * 3 + j, none⟩ = some v := fun j v hj => by
        have := h0 j v hj
        rwa [addr_add, addr_add] at this
      exact ⟨b, off, rfl, q 0 _ rfl, q 1 _ rfl, q 2 _ rfl, hca⟩
    · obtain ⟨i, hi'⟩ := List.mem_iff_getElem?.1 ho
      exact (hp i o hi').2.2
set_option maxRecDepth 100000 in
theorem one_lg {m : Nat} {cs : List Value} {x : DataW H × List MemPlace} (h : DataW.trod enc Tryz.prog w base (fun _ => true) held m 39 cs = some x) (hlen : cs.length = 3) (hsz : ∀ n ∈ x.1.weights Tryz.prog 39, n ≤ reachBytes) :
    ∃ t : TxQ, cs = [.int .i64 t.e, .int .i64 t.s, .slice t.a t.ws.length t.c] ∧ WtsR w t.a t.ws ∧ BgW t.ws ∧ (t.a = none → t.c = 0) := by
  match cs, hlen with
  | [u0, u1, u2], _ =>
    obtain ⟨xs, m2, _, hx, _, hl2, hel⟩ := DataW.trod_struct Tryz.underlying39 h
    have g0 : DataW.trod enc Tryz.prog w base (fun _ => true) held m2 36 (List.take (Tryz.prog.cellsOf 36) (List.drop 0 [u0, u1, u2])) = xs[0]? := hel 0 _ rfl
    have g1 : DataW.trod enc Tryz.prog w base (fun _ => true) held m2 37 (List.take (Tryz.prog.cellsOf 37) (List.drop (Tryz.prog.cellsOf 36) [u0, u1, u2])) = xs[1]? := hel 1 _ rfl
    rw [c1_36] at g0 g1
    rw [c1_37] at g1
    simp only [List.drop, List.take] at g0 g1
    match xs, hl2 with
    | [y0, y1], _ =>
      have hx1 : x.1 = .agg [y0.1, y1.1] := by rw [hx]; rfl
      rw [hx1] at hsz
      obtain ⟨ys, m3, _, _, _, hl3, hel3⟩ := DataW.trod_struct Tryz.underlying36 g0
      have k0 : DataW.trod enc Tryz.prog w base (fun _ => true) held m3 2 (List.take (Tryz.prog.cellsOf 2) (List.drop 0 [u0, u1])) = ys[0]? := hel3 0 _ rfl
      have k1 : DataW.trod enc Tryz.prog w base (fun _ => true) held m3 2 (List.take (Tryz.prog.cellsOf 2) (List.drop (Tryz.prog.cellsOf 2) [u0, u1])) = ys[1]? := hel3 1 _ rfl
      rw [c1_2] at k0 k1
      simp only [List.drop, List.take] at k0 k1
      match ys, hl3 with
      | [v0, v1], _ =>
        obtain ⟨z0, e0, _⟩ := DataW.trod_int Tryz.underlying2 k0
        obtain ⟨z1, e1, _⟩ := DataW.trod_int Tryz.underlying2 k1
        obtain ⟨a, L, c, e2, r2, g2, n2⟩ := open_wts g1 (fun n hn => hsz n (by
          have := DataW.weights_mem_each (P := Tryz.prog) (ts := [36, 37]) (ds := [y0.1, y1.1]) (j := 1) (t := 37) rfl rfl n hn
          simpa [DataW.weights, Tryz.underlying39] using this))
        simp only [List.cons.injEq, and_true] at e0 e1
        exact ⟨⟨z0, z1, a, c, L⟩, by rw [e0, e1, e2], r2, g2, n2⟩
/-- A slice of transactions, opened. -/
theorem open_lgs {m : Nat} {u : Value} {x : DataW H × List MemPlace} (h : DataW.trod enc Tryz.prog w base (fun _ => true) held m 43 [u] = some x) (hsz : ∀ n ∈ x.1.weights Tryz.prog 43, n ≤ reachBytes) :
    ∃ (a : Option Addr) (L : List TxQ) (c : Nat), u = .slice a L.length c ∧ TxqR w a L ∧ L.length ≤ 140737488355328 ∧ ∀ t ∈ L, BgW t.ws ∧ (t.a = none → t.c = 0) := by
  rcases open_slice Tryz.underlying43 h with ⟨hcs, _⟩ | ⟨y, l, c, k, m2, D, Pl, hcs, _, hl, hm, hk, rfl, hi⟩
  · simp only [List.cons.injEq, and_true] at hcs
    subst hcs
    exact ⟨none, [], 0, rfl, fun k o ho => by simp at ho, Nat.zero_le _, fun o ho => by simp at ho⟩
  · simp only [List.cons.injEq, and_true] at hcs
    subst hcs
    have hkl : l ≤ k := by rw [hk]; split <;> omega
    obtain ⟨sl, sd⟩ := slice_sz Tryz.underlying43 (of_decide_eq_true (by kernel_rfl)) hsz
    obtain ⟨L, hL, hp⟩ := list_of (p := fun i (t : TxQ) => (∀ j v, [Value.int .i64 t.e, .int .i64 t.s, .slice t.a t.ws.length t.c][j]? = some v → w.cell? ((y.add (i * 3)).add j) = some v) ∧ WtsR w t.a t.ws ∧ BgW t.ws ∧ (t.a = none → t.c = 0)) l (fun i him => by
      obtain ⟨cs', hc, ht⟩ := hi i (by omega)
      rw [c1_39] at hc
      obtain ⟨_, hcl, hat⟩ := World.cells?_some hc
      obtain ⟨t, ho, hca, hrn⟩ := one_lg ht hcl (sd i him)
      refine ⟨t, fun j v hj => ?_, hca, hrn⟩
      have hj7 : j < 3 := by have := (List.getElem?_eq_some_iff.1 hj).1; simpa using this
      rw [hat j hj7, ho]; exact hj)
    refine ⟨some y, L, c, by rw [hL], fun i t ho => ?_, by omega, fun t ho => ?_⟩
    · obtain ⟨b, off, spot⟩ := y
      obtain ⟨h0, hca, _⟩ := hp i t ho
      have hil : i < L.length := (List.getElem?_eq_some_iff.1 ho).1
      obtain ⟨z0, _, _⟩ := hp 0 L[0] (List.getElem?_eq_getElem (by omega))
      have hspot : spot = none := by simpa [Addr.add] using World.cell?_spot (z0 0 _ rfl)
      subst hspot
      have q : ∀ j v, [Value.int .i64 t.e, .int .i64 t.s, .slice t.a t.ws.length t.c][j]? = some v → w.cell? ⟨b, off + i * 3 + j, none⟩ = some v := fun j v hj => by
        have := h0 j v hj
        rwa [addr_add, addr_add] at this
      exact ⟨b, off, rfl, q 0 _ rfl, q 1 _ rfl, q 2 _ rfl, hca⟩
    · obtain ⟨i, hi'⟩ := List.mem_iff_getElem?.1 ho
      exact (hp i t hi').2.2
end
end Go.Proofs.YtglkndoghnblcaaGreat
namespace Go.Proofs.YtglkndoghnblcaaGreat
open Go.ChangeShapes Go.WideShapes Go.ChangeAt Go.RowKit
set_option linter.unusedVariables false
set_option linter.unusedSimpArgs false
theorem wcells_append (a b : List WtP) : wcells (a ++ b) = wcells a ++ wcells b := by simp [wcells]
theorem wcells_len (a : List WtP) : (wcells a).length = a.length * 3 := by
  induction a with
  | nil => rfl
  | cons x r ih =>
    unfold wcells at *
    rw [List.map_cons, List.flatten_cons, List.length_append, ih, List.length_cons]
    simp only [WtP.cells, List.length_cons, List.length_nil]
    omega
theorem wcells_one (a : List WtP) : ∀ u ∈ wcells a, u.oneCell' = true := fun u hu => by
  obtain ⟨l, hl, hu⟩ := List.mem_flatten.1 hu
  obtain ⟨p, _, rfl⟩ := List.mem_map.1 hl
  simp only [WtP.cells, List.mem_cons, List.not_mem_nil, or_false] at hu
  rcases hu with rfl | rfl | rfl <;> rfl
theorem wtcells_at {W : World} {a : Addr} {xs : List WtP} (h : WtsR W (some a) xs) : ∀ (j : Nat) (u : Value), (wcells xs)[j]? = some u → W.cell? (a.add j) = some u := fun j u hj => by
  have hl := (List.getElem?_eq_some_iff.1 hj).1
  rw [wcells_len] at hl
  obtain ⟨x, hx⟩ : ∃ x, xs[j / 3]? = some x := ⟨_, List.getElem?_eq_getElem (by omega)⟩
  obtain ⟨b, off, e, c0, c1, c2, _⟩ := h (j / 3) x hx
  cases e
  rw [addr_add]
  have hm := Nat.div_add_mod j 3
  have h3 := Nat.mod_lt j (show 3 > 0 by omega)
  have key := flat_at WtP.cells 3 (fun _ => rfl) xs (j / 3) (j % 3) x hx h3
  rw [show j / 3 * 3 + j % 3 = j by omega] at key
  unfold wcells at hj
  rw [hj] at key
  have hcases : j % 3 = 0 ∨ j % 3 = 1 ∨ j % 3 = 2 := by omega
  rcases hcases with e | e | e
  · rw [e] at key
    simp only [WtP.cells, List.getElem?_cons_zero, Option.some.injEq] at key
    rw [key, show off + j = off + j / 3 * 3 by omega]; exact c0
  · rw [e] at key
    simp only [WtP.cells, List.getElem?_cons_zero, List.getElem?_cons_succ, Option.some.injEq] at key
    rw [key, show off + j = off + j / 3 * 3 + 1 by omega]; exact c1
  · rw [e] at key
    simp only [WtP.cells, List.getElem?_cons_zero, List.getElem?_cons_succ, Option.some.injEq] at key
    rw [key, show off + j = off + j / 3 * 3 + 2 by omega]; exact c2
theorem wts_own {W : World} {base n c : Nat} {a : Option Addr} {xs : List WtP} (h : W.ownsRow base 51 3 (.slice a n c) n (wcells xs)) (hn : xs.length = n) (ok : ∀ x ∈ xs, WtOk W x) : WtsR W a xs := fun k x hx => by
  have hk := (List.getElem?_eq_some_iff.1 hx).1
  have hc := fun i hi => flat_at WtP.cells 3 (fun _ => rfl) xs k i x hx hi
  have h' := h
  rcases h.2 with ⟨e0, h0⟩ | ⟨g, cap, cur, e0, _⟩
  · omega
  · cases e0
    refine ⟨g, 0, rfl, ?_, ?_, ?_, ok x (List.mem_of_getElem? hx)⟩
    · rw [Nat.zero_add, show k * 3 = k * 3 + 0 by omega, h'.cellAt (k * 3 + 0) (by omega)]
      exact hc 0 (by omega)
    · rw [Nat.zero_add, h'.cellAt (k * 3 + 1) (by omega)]
      exact hc 1 (by omega)
    · rw [Nat.zero_add, h'.cellAt (k * 3 + 2) (by omega)]
      exact hc 2 (by omega)
theorem run_append_wts (w : World) (ty : TypeId) (base : Nat) (v : Value) (n : Nat) (xs : List WtP) (hown : w.ownsRow base 51 3 v n (wcells xs))
    (ad : Option Addr) (c len : Nat) (ys : List WtP) (hlen : ys.length = len) (hR : WtsR w ad ys) (hnil : ad = none → c = 0) (hb : n + len ≤ 1048576) (hbase : base ≤ w.heap.size) :
    ∃ v' w', (Builtin.append_ #[37, 37] ty #[v, .slice ad len c]).run Tryz.prog w = .ok v' w' ∧ w'.ownsRow base 51 3 v' (n + len) (wcells (xs ++ ys)) ∧ w.grownBy w' v.ownBlock := by
  subst hlen
  obtain ⟨i0, hi, hz0, hz1, hz2⟩ := info_parts info51
  rcases ad with _ | ad
  · obtain rfl := hnil rfl
    have : ys = [] := by
      cases ys with
      | nil => rfl
      | cons y r =>
        obtain ⟨b, off, e, _⟩ := hR 0 y rfl
        cases e
    subst this
    exact ⟨v, w, run_append_owned_none (P := Tryz.prog) (w := w) base 37 ty 51 i0 3 Tryz.underlying37 hi v n (wcells xs) hown, by simpa using hown, ⟨rfl, rfl, rfl, Nat.le_refl _, fun _ _ _ => rfl⟩⟩
  · obtain ⟨v', w', h1, h2, h3, _⟩ := run_append_own (P := Tryz.prog) w base 37 ty 51 i0 (.agg #[.int .i64 0, .slice none 0 0, .slice none 0 0]) 3 56 Tryz.underlying37 hi hz0 hz1 hz2 rfl (by decide) v n (wcells xs) hown ad ys.length c (wcells ys) (wcells_len ys) (wtcells_at hR) (wcells_one ys) (by unfold maxLen; omega) (by omega) hbase
    exact ⟨v', w', h1, by rw [wcells_append]; exact h2, h3⟩
/-- An append of writes that are read, nil or not. -/
theorem append_wts {ops : Array Oper} {rest : List Oper} {o : Oper} {a : Act} {w : World} {Q : Exit → Act → World → Prop} (hgd : o.guard = none) (s x : Operand)
    (ho : o.op = .call { callee := .builtin .append, args := #[s, x], argTypes := #[37, 37] })
    (base : Nat) (v : Value) (n : Nat) (xs : List WtP) (hs : a.eval s = v) (hown : w.ownsRow base 51 3 v n (wcells xs))
    (ad : Option Addr) (c len : Nat) (ys : List WtP) (hlen : ys.length = len) (hx : a.eval x = .slice ad len c) (hR : WtsR w ad ys) (hnil : ad = none → c = 0) (hb : n + len ≤ 1048576) (hbase : base ≤ w.heap.size)
    (h : ∀ v' w', w'.ownsRow base 51 3 v' (n + len) (wcells (xs ++ ys)) → w.grownBy w' v.ownBlock → wpList Tryz.prog ops Q rest (a.put o.dst v') w') :
    wpList Tryz.prog ops Q (o :: rest) a w :=
  wpList_plain hgd fun Kt hK => by
    obtain ⟨v', w', h1, h2, h3⟩ := run_append_wts w o.type base v n xs hown ad c len ys hlen hR hnil hb hbase
    unfold Oper.wp execOp
    simp only [ho, resolve, invoke, builtin, Sem.run_bind, Sem.run_pure, Result.andThen_ok, List.map_toArray, List.map_cons, List.map_nil, hs, hx, h1]
    exact hK _ _ (h v' w' h2 h3)
end Go.Proofs.YtglkndoghnblcaaGreat
namespace Go.Proofs.YtglkndoghnblcaaGreat
open Go.ChangeShapes Go.WideShapes Go.ChangeAt Go.RowKit
set_option linter.unusedVariables false
set_option linter.unusedSimpArgs false
end Go.Proofs.YtglkndoghnblcaaGreat
namespace Go.Proofs.YtglkndoghnblcaaGreat
open Go.ChangeShapes Go.WideShapes Go.ChangeAt Go.RowKit
set_option linter.unusedVariables false
set_option linter.unusedSimpArgs false
def pay (q : TxQ) : List Int := txW q.e.toNat q.s.toNat q.ws
def goodQ (q : TxQ) : Bool := txB q.e q.s q.ws && decide ((pay q).length ≤ 4096)
def tx3of (q : TxQ) : Tx3 := ((q.e.toNat, q.s.toNat), q.ws.map cont)
def QB (q : TxQ) : Prop := ∀ x ∈ q.ws, Byt x.key ∧ ∀ p ∈ x.R, Byt p.bs
theorem QB.of {W : World} {q : TxQ} (h : WtsR W q.a q.ws) : QB q := fun x hx => by
  obtain ⟨k, hk⟩ := List.mem_iff_getElem?.1 hx
  obtain ⟨b, off, _, _, _, _, ok⟩ := h k x hk
  exact ⟨ok.kb, ok.rb⟩
theorem good_facts {q : TxQ} (h : goodQ q = true) : oneTx (pay q) = some (tx3of q) ∧ 1 ≤ (pay q).length ∧ (pay q).length ≤ 4096 ∧ tx3C (tx3of q) = txC q := by
  unfold goodQ at h
  rw [Bool.and_eq_true] at h
  obtain ⟨h1, h2'⟩ := h
  have h2 := of_decide_eq_true h2'
  clear h2'
  obtain ⟨⟨en, sn, he, hs, e1, e2, s1, s2⟩, l1, l2, hw, hp⟩ := txB_facts h1
  have hee : q.e.toNat = en := by omega
  have hss : q.s.toNat = sn := by omega
  have h1' : txB ((en : Nat) : Int) ((sn : Nat) : Int) q.ws = true := by rw [← he, ← hs]; exact h1
  obtain ⟨k1, k2⟩ := oneTx_W h1'
  have hl := (txW_len e2 s2 hp).1
  unfold pay at h2 ⊢
  unfold tx3of
  rw [hee, hss] at h2 ⊢
  refine ⟨k1, hl, h2, ?_⟩
  unfold tx3C txC
  simp only [← he, ← hs, List.map_map]
  congr 2
  exact List.map_congr_left fun p hpm => cont_c (k2 p hpm)
theorem goods_frok {gs : List TxQ} (h : ∀ q ∈ gs, goodQ q = true ∧ QB q) : FrOk (gs.map pay) := fun p hp => by
  obtain ⟨q, hq, rfl⟩ := List.mem_map.1 hp
  obtain ⟨h1, h2⟩ := h q hq
  obtain ⟨_, a, b, _⟩ := good_facts h1
  exact ⟨txW_byt h2, a, b⟩
theorem goods_txs {gs : List TxQ} (h : ∀ q ∈ gs, goodQ q = true) : txsL (gs.map pay) = gs.map tx3of := by
  refine txsL_map _ _ ?_
  rw [List.map_map, List.map_map]
  exact List.map_congr_left fun q hq => (good_facts (h q hq)).1
theorem goods_c {gs : List TxQ} (h : ∀ q ∈ gs, goodQ q = true) : (gs.map tx3of).map tx3C = gs.map txC := by
  rw [List.map_map]
  exact List.map_congr_left fun q hq => (good_facts (h q hq)).2.2.2
theorem sumF_take_self (ps : List (List Int)) (k : Nat) : sumF (ps.take k) k = sumF ps k := by
  unfold sumF
  rw [List.take_take, Nat.min_self]
theorem txns_goods {gs : List TxQ} {L : List Int} {k : Nat} (hg : ∀ q ∈ gs, goodQ q = true) (hF : framesL L = (gs.map pay).take k) (hk : k ≤ gs.length) :
    txsL (framesL L) = (gs.take k).map tx3of ∧ sumF (framesL L) (txsL (framesL L)).length = sumF (gs.map pay) k ∧ wholeL L = sumF (gs.map pay) k := by
  have hg' : ∀ q ∈ gs.take k, goodQ q = true := fun q hq => hg q (List.mem_of_mem_take hq)
  have h1 : txsL (framesL L) = (gs.take k).map tx3of := by rw [hF, ← List.map_take, goods_txs hg']
  refine ⟨h1, ?_, ?_⟩
  · rw [h1, List.length_map, List.length_take, Nat.min_eq_left hk, hF, sumF_take_self]
  · unfold wholeL
    rw [hF]
    rfl
/-- Transactions that are read, as they lie: the first ones of those. -/
def QsR (W : World) (a : Option Addr) (gs : List TxQ) (k : Nat) : Prop := ∃ qs : List TxQ, qs.length = k ∧ TxqR W a qs ∧ (∀ q ∈ qs, TxqB q) ∧ qs.map txC = (gs.take k).map txC
def TxkR (w : World) (gs : List TxQ) (k : Nat) (r : Ending) (w' : World) : Prop :=
  ∃ ta tc, r = .returned (.tuple #[.slice ta k tc, .int .i64 ((sumF (gs.map pay) k : Nat) : Int), .bool true]) ∧ QsR w' ta gs k ∧ Below w.heap.size w w'
/-- Txns (20) of frames of transactions that may be. -/
theorem txns_gk (a : Option Addr) (L : List Int) (n cap : Nat) (hn : L.length = n) (hn2 : n ≤ 1000000) (hB : Byt L) (w : World) (hL : Ls .u8 w a cap L) (gs : List TxQ) (k : Nat) (hg : ∀ q ∈ gs, goodQ q = true) (hF : framesL L = (gs.map pay).take k) (hk : k ≤ gs.length) :
    Calls Tryz.prog 20 #[.slice a n cap] w (TxkR w gs k) := by
  obtain ⟨h1, h2, h3⟩ := txns_goods hg hF hk
  have hg' : ∀ q ∈ gs.take k, goodQ q = true := fun q hq => hg q (List.mem_of_mem_take hq)
  refine (txns_law a L n cap hn hn2 hB w hL).mono ?_
  rintro r w' ⟨v, rfl, htx, hb⟩
  have hall := txsL_all (frames_byt _ L (Nat.le_refl _) hB)
  obtain ⟨ta, tc, rfl⟩ : ∃ ta tc, v = .slice ta (txsL (framesL L)).length tc := by
    obtain ⟨ps, h1, h2, h3⟩ := htx
    exact own_form h2
  obtain ⟨qs, q1, q2, q3, q4, q5⟩ := htx.lies hall
  have hlen : (txsL (framesL L)).length = k := by rw [h1, List.length_map, List.length_take, Nat.min_eq_left hk]
  refine ⟨ta, tc, ?_, ⟨qs, by rw [q2, hlen], q3, q4, by rw [q5, h1, goods_c hg']⟩, hb⟩
  rw [h2, h3, hlen]
  simp
theorem TxqR.take {W : World} {a : Option Addr} {xs : List TxQ} (h : TxqR W a xs) (k : Nat) : TxqR W a (xs.take k) := fun j x hx => by
  rw [List.getElem?_take] at hx
  split at hx
  · exact h j x hx
  · cases hx
/-- SameTxns (22) of what was read, and of those. -/
theorem same_k (ta ga : Option Addr) (k tc gc : Nat) (gs : List TxQ) (hk : k ≤ gs.length) (hk2 : gs.length ≤ 1000000) (hB : ∀ q ∈ gs, TxqB q) (w : World) (hq : QsR w ta gs k) (hG : TxqR w ga gs) :
    Calls Tryz.prog 22 #[.slice ta k tc, .slice ga k gc] w fun r w' => r = .returned (.bool true) ∧ Below w.heap.size w w' := by
  obtain ⟨qs, h1, h2, h3, h4⟩ := hq
  refine (stxns_law ta ga qs (gs.take k) k k tc gc h1 (by rw [List.length_take]; omega) (by omega) (by omega) h3 (fun q hq => hB q (List.mem_of_mem_take hq)) w h2 (hG.take k)).mono ?_
  rintro r w' ⟨rfl, hb⟩
  exact ⟨by rw [h4]; simp, hb⟩
def TxQ.cells (q : TxQ) : List Value := [.int .i64 q.e, .int .i64 q.s, .slice q.a q.ws.length q.c]
def qqcells (qs : List TxQ) : List Value := (qs.map TxQ.cells).flatten
theorem qqcells_snoc (qs : List TxQ) (q : TxQ) : qqcells (qs ++ [q]) = qqcells qs ++ q.cells := by simp [qqcells]
theorem txq_own {W : World} {base n c : Nat} {a : Option Addr} {xs : List TxQ} (h : W.ownsRow base 39 3 (.slice a n c) n (qqcells xs)) (hn : xs.length = n) (ok : ∀ x ∈ xs, WtsR W x.a x.ws) : TxqR W a xs := fun k x hx => by
  have hk := (List.getElem?_eq_some_iff.1 hx).1
  have hc := fun i hi => flat_at TxQ.cells 3 (fun _ => rfl) xs k i x hx hi
  have h' := h
  rcases h.2 with ⟨e0, h0⟩ | ⟨g, cap, cur, e0, _⟩
  · omega
  · cases e0
    refine ⟨g, 0, rfl, ?_, ?_, ?_, ok x (List.mem_of_getElem? hx)⟩
    · rw [Nat.zero_add, show k * 3 = k * 3 + 0 by omega, h'.cellAt (k * 3 + 0) (by omega)]
      exact hc 0 (by omega)
    · rw [Nat.zero_add, h'.cellAt (k * 3 + 1) (by omega)]
      exact hc 1 (by omega)
    · rw [Nat.zero_add, h'.cellAt (k * 3 + 2) (by omega)]
      exact hc 2 (by omega)
theorem SmW.b {q : TxQ} (h : SmW q.ws) : TxqB q := ⟨by have := h.1; omega, fun p hp => by have := (h.2 p hp).2.1; omega⟩
/-- The first k transactions of a slice of them. -/
theorem slice_q (a : Option Addr) (n cap k : Nat) (hk : k ≤ n) (hc : n ≤ cap) : ∀ W', (Instr.slice 43 (.slice a n cap) .none (some (.int .i64 (k : Int))) .none).run Tryz.prog W' = .ok (.slice a k cap) W' := fun W' => by
  obtain ⟨i0, hi0, hz0, hz1, hz2⟩ := info_parts info39
  have hel : Tryz.prog.elem 43 = 39 := by simp [Program.elem, Tryz.underlying43]
  rw [run_slice_h (P := Tryz.prog) (w := W') 43 a n cap (by rw [hel]; exact Tryz.underlying43) .i64 k (by omega) (by omega)]
  have hs : ((sizeOf (Tryz.prog.elem 43)).run Tryz.prog W') = .ok 3 W' := by rw [hel]; simp [sizeOf, typeInfo, hi0, hz1]
  rw [hs]
  cases a <;> simp [sliced, Result.andThen, Addr.add]
theorem own_cap {W : World} {base n s c : Nat} {e : TypeId} {a : Option Addr} {xs : List Value} (h : W.ownsRow base e s (.slice a n c) n xs) : n ≤ c := by
  rcases h.2 with ⟨e0, h0⟩ | ⟨g, cap, cur, e0, _, _, hc, _⟩
  · cases e0; omega
  · cases e0; exact hc
/-- The ends of frames. -/
def endsL (ps : List (List Int)) : List Int := (List.range ps.length).map fun k => ((sumF ps (k + 1) : Nat) : Int)
theorem sumF_prefix (ps r : List (List Int)) (k : Nat) (hk : k ≤ ps.length) : sumF (ps ++ r) k = sumF ps k := by
  unfold sumF
  rw [List.take_append_of_le_length hk]
theorem endsL_snoc (ps : List (List Int)) (p : List Int) : endsL (ps ++ [p]) = endsL ps ++ [((sumF (ps ++ [p]) (ps.length + 1) : Nat) : Int)] := by
  unfold endsL
  rw [List.length_append, List.length_singleton, List.range_succ, List.map_append, List.map_singleton]
  congr 1
  refine List.map_congr_left fun k hk => ?_
  rw [List.mem_range] at hk
  rw [sumF_prefix _ _ _ (by omega)]
theorem endsL_at {ps : List (List Int)} {k : Nat} (hk : k < ps.length) : (endsL ps).getD k 0 = ((sumF ps (k + 1) : Nat) : Int) := by
  unfold endsL
  rw [List.getD_eq_getElem?_getD, List.getElem?_map, List.getElem?_range hk]
  rfl
theorem endsL_len (ps : List (List Int)) : (endsL ps).length = ps.length := by unfold endsL; simp
end Go.Proofs.YtglkndoghnblcaaGreat
namespace Go.Proofs.YtglkndoghnblcaaGreat
open Go.ChangeShapes Go.WideShapes Go.ChangeAt Go.RowKit
set_option linter.unusedVariables false
set_option linter.unusedSimpArgs false
theorem i64_and7 (n : Int) : bits .and .i64 n 7 = n % 8 := by
  have h7 : (BitVec.ofInt 64 7).toNat = 2 ^ 3 - 1 := by decide
  have key : (BitVec.ofInt 64 n &&& BitVec.ofInt 64 7).toNat = (n % ((2 ^ 64 : Nat) : Int)).toNat % 2 ^ 3 := by
    rw [BitVec.toNat_and, BitVec.toNat_ofInt, h7, Nat.and_two_pow_sub_one_eq_mod]
  show IntKind.i64.wrap ((BitVec.ofInt 64 n &&& BitVec.ofInt 64 7).toNat : Nat) = n % 8
  rw [key, IntKind.wrap_i64]
  omega
theorem turn_tab : ∀ (c : Fin 256) (s : Fin 8), bits .xor .u8 ((c.val : Nat) : Int) (2 ^ min (IntKind.u64.wrap ((s.val : Nat) : Int)).toNat 8 % 256) ≠ ((c.val : Nat) : Int) ∧ 0 ≤ bits .xor .u8 ((c.val : Nat) : Int) (2 ^ min (IntKind.u64.wrap ((s.val : Nat) : Int)).toNat 8 % 256) ∧ bits .xor .u8 ((c.val : Nat) : Int) (2 ^ min (IntKind.u64.wrap ((s.val : Nat) : Int)).toNat 8 % 256) ≤ 255 := by decide +kernel
theorem turn_bit {x bit : Int} (h : 0 ≤ x ∧ x ≤ 255) : ∃ y, bits BinOp.xor IntKind.u8 x (2 ^ min (IntKind.u64.wrap (bits BinOp.and IntKind.i64 bit 7)).toNat 8 % 256) = y ∧ y ≠ x ∧ 0 ≤ y ∧ y ≤ 255 := by
  rw [i64_and7]
  have h1 := turn_tab ⟨x.toNat, by omega⟩ ⟨(bit % 8).toNat, by omega⟩
  simp only at h1
  rw [show ((x.toNat : Nat) : Int) = x by omega, show (((bit % 8).toNat : Nat) : Int) = bit % 8 by omega] at h1
  exact ⟨_, rfl, h1⟩
theorem info3 : (Tryz.prog.info? 3).map (fun i => (i.zero, i.size, i.bytes)) = some (some (.int .i64 0), 1, 8) := by kernel_rfl
def flatF (gs : List TxQ) : List Int := ((gs.map pay).map frameL).flatten
def endsQ (gs : List TxQ) : List Int := endsL (gs.map pay)
structure LtI (W : World) (base : Nat) (gs : List TxQ) (nb K : Nat) (ba ea ga : Option Addr) (bc ec gc : Nat) : Prop where
  hK : gs.length = K
  hn : sumF (gs.map pay) K = nb
  ob : W.ownsRow base 5 1 (.slice ba nb bc) nb (iv .u8 (flatF gs))
  oe : W.ownsRow base 3 1 (.slice ea K ec) K (iv .i64 (endsQ gs))
  og : W.ownsRow base 39 3 (.slice ga K gc) K (qqcells gs)
theorem LtI.nil (W : World) (base : Nat) : LtI W base [] 0 0 none none none 0 0 0 := ⟨rfl, rfl, World.ownsRow_nil _ _ _ _, World.ownsRow_nil _ _ _ _, World.ownsRow_nil _ _ _ _⟩
theorem LtI.below {W W' : World} {base nb K bc ec gc : Nat} {gs : List TxQ} {ba ea ga : Option Addr} (h : LtI W base gs nb K ba ea ga bc ec gc) (b : Below W.heap.size W W') : LtI W' base gs nb K ba ea ga bc ec gc := ⟨h.hK, h.hn, own_below h.ob b, own_below h.oe b, own_below h.og b⟩
theorem LtI.snoc {W : World} {base nb m K fl bc ec gc : Nat} {gs : List TxQ} {q : TxQ} {ba ea ga : Option Addr} (hK : gs.length = K) (hn : sumF (gs.map pay) K = nb) (hfl : (frameL (pay q)).length = fl) (hm : nb + fl = m)
    (o6 : W.ownsRow base 5 1 (.slice ba m bc) m (iv .u8 (flatF gs) ++ iv .u8 (frameL (pay q)))) (o7 : W.ownsRow base 3 1 (.slice ea (K + 1) ec) (K + 1) (iv .i64 (endsQ gs) ++ [.int .i64 ((m : Nat) : Int)]))
    (o8 : W.ownsRow base 39 3 (.slice ga (K + 1) gc) (K + 1) (qqcells gs ++ q.cells)) : LtI W base (gs ++ [q]) m (K + 1) ba ea ga bc ec gc := by
  have hs : sumF ((gs ++ [q]).map pay) (K + 1) = m := by
    have hq : ((gs ++ [q]).map pay)[K]? = some (pay q) := by rw [List.getElem?_map, List.getElem?_append_right (by omega), hK]; simp
    rw [sumF_succ hq, List.map_append, sumF_prefix _ _ _ (by rw [List.length_map]; omega), hn, ← hm, ← hfl, frameL_len]
  refine ⟨by rw [List.length_append, hK]; rfl, hs, ?_, ?_, ?_⟩
  · unfold flatF at o6 ⊢
    rw [List.map_append, List.map_append, List.flatten_append, iv_append]
    simpa using o6
  · unfold endsQ at o7 ⊢
    rw [List.map_append, List.map_singleton, endsL_snoc]
    have : sumF (gs.map pay ++ [pay q]) ((gs.map pay).length + 1) = m := by rw [← hs, List.map_append, List.length_map, hK]; rfl
    rw [this, iv_append]
    exact o7
  · rw [qqcells_snoc]; exact o8
set_option maxRecDepth 100000 in
set_option maxHeartbeats 4000000 in
/-- LogTorn (8). -/
theorem logtorn_law (a : Option Addr) (l : List TxQ) (n cap : Nat) (at_ bit : Int) (hn : l.length = n) (hn2 : n ≤ 140737488355328) (hG : ∀ t ∈ l, BgW t.ws ∧ (t.a = none → t.c = 0)) (w : World) (hR : TxqR w a l) :
    Calls Tryz.prog 8 #[.slice a n cap, .int .i64 at_, .int .i64 bit] w fun r w' => r = .returned (.bool true) ∧ Below w.heap.size w w' := by
  have HN := Lib.hid hn
  have HG := Lib.hid hG
  have HR := Lib.hid hR
  have hni : (n : Int) ≤ 140737488355328 := by omega
  clear hn hG hR
  go_enter Tryz.func8, Tryz.ntmps8
  go_wp2_with fail
  refine (known_law _).mono ?_; rintro r X ⟨rfl, hb1⟩
  have HB1 := Lib.hid hb1
  have HRX := Lib.hid (HR.out.below hb1)
  clear hb1 HR
  go_upto_block 0 with (fail)
  go_cut [7] (fun v wx => ∃ (j nw : Nat) (wa : Option Addr) (wq : Nat), v = .slice wa nw wq ∧ Hid (j ≤ n ∧ (n ≤ 20 → j = n)) ∧ Hid (∃ xs : List WtP, xs.length = nw ∧ WtsR wx wa xs ∧ BgW xs) ∧ Hid (∀ q ∈ l.take j, SmW q.ws) ∧ Hid (Below X.heap.size X wx))
  case first =>
    go_wp2_with fail
    go_loopw [7, 8] (fun v i wr => ∃ (j nw : Nat) (wa : Option Addr) (wq : Nat), j ≤ n ∧ j ≤ 21 ∧ i = .int .i64 (j : Int) ∧ v = .slice wa nw wq ∧ nw ≤ j * 9000 ∧ Hid (∃ xs : List WtP, xs.length = nw ∧ wr.ownsRow X.heap.size 51 3 (.slice wa nw wq) nw (wcells xs) ∧ ∀ x ∈ xs, WtOk X x ∧ x.R.length ≤ 9000) ∧ Hid (∀ q ∈ l.take j, SmW q.ws) ∧ Hid (Below X.heap.size X wr)) (fun _ i _ => n - (intOf i).toNat)
    case atStart => exact ⟨0, 0, none, 0, by omega, by omega, rfl, rfl, by omega, Lib.hid ⟨[], rfl, World.ownsRow_nil _ _ _ _, fun x hx => by simp at hx⟩, Lib.hid (fun q hq => by simp at hq), Lib.hid (Below.refl _ _)⟩
    case round =>
      obtain ⟨j, nw, wa, wq, hj, hj21, rfl, rfl, hnw, HX, HSM, HBW⟩ := hrel
      by_cases hc : j < n ∧ j < 21
      · have d1 : (j : Int) < (n : Int) := by omega
        have d2 : (j : Int) < 21 := by omega
        obtain ⟨q, hq⟩ : ∃ q, l[j]? = some q := ⟨_, List.getElem?_eq_getElem (by rw [HN.out]; exact hc.1)⟩
        obtain ⟨b, off, rfl, c0, c1, c2, hws⟩ := HRX.out j q hq
        obtain ⟨hgb, hgn⟩ := HG.out q (List.mem_of_getElem? hq)
        have HQ := Lib.hid (And.intro hq (And.intro hws hgn))
        have c2' := cell_lt c2
        have z2 := (HBW.out.cell c2').trans c2
        have HM := Lib.hid (muchw_law q.a q.ws q.ws.length q.c rfl hgb wr (hws.below HBW.out))
        obtain ⟨ql, hql⟩ : ∃ e, q.ws.length = e := ⟨_, rfl⟩
        have HQL := Lib.hid hql
        obtain ⟨qa, hqa⟩ : ∃ e, q.a = e := ⟨_, rfl⟩
        obtain ⟨qc, hqc⟩ : ∃ e, q.c = e := ⟨_, rfl⟩
        have HQA := Lib.hid (And.intro hqa hqc)
        rw [hqa, hql, hqc] at HM z2
        clear hq c0 c1 hws hgb hgn hql hqa hqc
        go_wp2_with fail
        refine HM.out.mono ?_
        rintro r w5 ⟨⟨bb, rfl, hsm⟩, hb5⟩
        have HSB := Lib.hid hsm
        have HB5 := Lib.hid (step_below HBW.out hb5)
        have z5 := (hb5.cell (cell_lt z2)).trans z2
        have HX5 := Lib.hid hb5
        clear hb5 hsm z2 HM
        cases bb with
        | true =>
          go_wp2_with fail
          go_ret
          exact ⟨rfl, step_below HB1.out HB5.out⟩
        | false =>
          have hsm := HSB.out (by first | rfl | trivial)
          have hql9 : ql ≤ 9000 := by have := hsm.1; rw [HQL.out] at this; exact this
          obtain ⟨xs, hx1, hx2, hx3⟩ := HX.out
          have HXS := Lib.hid (And.intro hx1 (And.intro (own_below hx2 HX5.out) hx3))
          have hs5 := HB5.out.size
          have hnw2 : nw + ql ≤ 200000 := by omega
          have HR5 := Lib.hid (show WtsR w5 qa q.ws by have := HQ.out.2.1.below HB5.out; rw [HQA.out.1] at this; exact this)
          have HNL := Lib.hid (show qa = none → qc = 0 by have := HQ.out.2.2; rw [HQA.out.1, HQA.out.2] at this; exact this)
          clear hsm hx1 hx2 hx3
          go_wp2_with (at_builtin; refine append_wts rfl (.tmp 40) (.tmp 45) rfl X.heap.size _ nw xs rfl HXS.out.2.1 _ _ ql q.ws HQL.out rfl HR5.out HNL.out (by omega) hs5 ?_)
          intro v6 w6 hown6 hgrow6
          have HO6 := Lib.hid hown6
          have HB6 := Lib.hid (HB5.out.grown hgrow6 hs5 (fun i hi => (HXS.out.2.1.lt i hi).1))
          obtain ⟨a6, c6, hv6⟩ := own_form hown6
          subst hv6
          clear hown6 hgrow6
          go_wp2_with fail
          go_roundw
          case rel =>
            refine ⟨j + 1, nw + ql, _, _, by omega, by omega, by go_num, rfl, by omega, Lib.hid ⟨xs ++ q.ws, by rw [List.length_append, HXS.out.1, HQL.out], HO6.out, fun x hx => ?_⟩, Lib.hid (fun q' hq' => ?_), HB6⟩
            · rcases List.mem_append.1 hx with hx | hx
              · exact HXS.out.2.2 x hx
              · obtain ⟨k, hk⟩ := List.mem_iff_getElem?.1 hx
                obtain ⟨_, _, _, _, _, _, ok⟩ := HQ.out.2.1 k x hk
                exact ⟨ok, ((HSB.out (by first | rfl | trivial)).2 x hx).2.1⟩
            · rw [List.take_add_one, HQ.out.1] at hq'
              rcases List.mem_append.1 hq' with h | h
              · exact HSM.out q' h
              · simp at h
                subst h
                exact HSB.out (by first | rfl | trivial)
          case measure => simp [intOf]; omega
      · have HREL := Lib.hid (show ∃ xs : List WtP, xs.length = nw ∧ WtsR wr wa xs ∧ BgW xs by
          obtain ⟨xs, h1, h2, h3⟩ := HX.out
          refine ⟨xs, h1, wts_own h2 h1 (fun x hx => (h3 x hx).1.below HBW.out), by rw [h1]; omega, fun x hx => by have := (h3 x hx).2; omega⟩)
        have HJ := Lib.hid (show j ≤ n ∧ (n ≤ 20 → j = n) from ⟨hj, fun h => by omega⟩)
        by_cases h1 : j < n
        · have d1 : (j : Int) < (n : Int) := by omega
          have d2 : ¬ (j : Int) < 21 := by omega
          clear hc h1 hnw
          go_wp2_with fail
          go_meet
          exact ⟨j, _, _, _, rfl, HJ, HREL, HSM, HBW⟩
        · have d1 : ¬ (j : Int) < (n : Int) := by omega
          clear hc h1 hnw
          go_wp2_with fail
          go_meet
          exact ⟨j, _, _, _, rfl, HJ, HREL, HSM, HBW⟩
  case rest =>
  obtain ⟨j, nw, wa, wq, rfl, HJ, HX, HSM, HBW⟩ := hcut
  by_cases hn20 : 20 < n
  · have d1 : (20 : Int) < (n : Int) := by omega
    go_wp2_with fail
    go_ret
    exact ⟨rfl, step_below HB1.out HBW.out⟩
  have d1 : ¬ (20 : Int) < (n : Int) := by omega
  by_cases hat : at_ < 0
  · go_wp2_with fail
    go_ret
    exact ⟨rfl, step_below HB1.out HBW.out⟩
  obtain ⟨t, rfl⟩ : ∃ t : Nat, at_ = (t : Int) := ⟨at_.toNat, by omega⟩
  have d2 : ¬ (t : Int) < 0 := by omega
  clear hat
  obtain ⟨xs, hx1, hx2, hx3⟩ := HX.out
  have HM := Lib.hid (muchw_law wa xs nw wq hx1 hx3 wc hx2)
  clear hx1 hx2 hx3 HX
  go_wp2_with fail
  refine HM.out.mono ?_
  rintro r X3 ⟨⟨bb, rfl, _⟩, hb3⟩
  have HB3 := Lib.hid (step_below HBW.out hb3)
  have HSQ := Lib.hid (show ∀ q ∈ l, SmW q.ws from fun q hq => HSM.out q (by rw [HJ.out.2 (by omega), ← HN.out, List.take_length]; exact hq))
  clear hb3 HM HSM HJ
  cases bb with
  | true =>
    go_wp2_with fail
    go_ret
    exact ⟨rfl, step_below HB1.out HB3.out⟩
  | false =>
  have HR3 := Lib.hid (HRX.out.below HB3.out)
  have HB13 := Lib.hid (step_below HB1.out HB3.out)
  have hn20' : n ≤ 20 := by omega
  clear HB3 HBW HB1 HRX hn20 d1 d2 hni
  have hni : (n : Int) ≤ 20 := by omega
  go_upto_block 2 with (fail)
  go_cut [9, 10, 11] (fun b e g wx => ∃ (nb K bc ec gc : Nat) (ba ea ga : Option Addr), b = .slice ba nb bc ∧ e = .slice ea K ec ∧ g = .slice ga K gc ∧ K ≤ n ∧ nb ≤ K * 4104 ∧ Hid (LtI wx X3.heap.size (l.filter goodQ) nb K ba ea ga bc ec gc) ∧ Hid (Below X3.heap.size X3 wx))
  case first =>
    obtain ⟨i3, hi, hz0, hz1, hz2⟩ := info_parts info3
    obtain ⟨i39, hk, hk0, hk1, hk2⟩ := info_parts info39
    go_wp2_with fail
    go_loopw [9, 10, 11, 12] (fun b e g i wr => ∃ (j nb K bc ec gc : Nat) (ba ea ga : Option Addr), j ≤ n ∧ i = .int .i64 (j : Int) ∧ b = .slice ba nb bc ∧ e = .slice ea K ec ∧ g = .slice ga K gc ∧ K ≤ j ∧ nb ≤ K * 4104 ∧ Hid (LtI wr X3.heap.size ((l.take j).filter goodQ) nb K ba ea ga bc ec gc) ∧ Hid (Below X3.heap.size X3 wr)) (fun _ _ _ i _ => n - (intOf i).toNat)
    case atStart => exact ⟨0, 0, 0, 0, 0, 0, none, none, none, by omega, rfl, rfl, rfl, rfl, by omega, by omega, Lib.hid (LtI.nil _ _), Lib.hid (Below.refl _ _)⟩
    case round =>
      obtain ⟨j, nb, K, bc, ec, gc, ba, ea, ga, hj, rfl, rfl, rfl, rfl, hKj, hnb, HI, HBW⟩ := hrel
      by_cases hlt : j < n
      · have d1 : (j : Int) < (n : Int) := by omega
        obtain ⟨q, hq⟩ : ∃ q, l[j]? = some q := ⟨_, List.getElem?_eq_getElem (by rw [HN.out]; exact hlt)⟩
        obtain ⟨b, off, rfl, c0, c1, c2, hws⟩ := HR3.out j q hq
        have hsm := HSQ.out q (List.mem_of_getElem? hq)
        have z0 := (HBW.out.cell (cell_lt c0)).trans c0
        have z1 := (HBW.out.cell (cell_lt c1)).trans c1
        have z2 := (HBW.out.cell (cell_lt c2)).trans c2
        have HPT := Lib.hid (puttxn_law q.e q.s q.a q.ws q.ws.length q.c rfl (by have := hsm.1; omega) (fun x hx => by have := (hsm.2 x hx).2.1; omega) wr (hws.below HBW.out))
        have HTK := Lib.hid (show (l.take (j + 1)).filter goodQ = (l.take j).filter goodQ ++ (if goodQ q = true then [q] else []) by
          rw [List.take_add_one, hq, List.filter_append]
          simp only [Option.toList_some, List.filter_cons, List.filter_nil])
        have HCL := Lib.hid (show q.cells = [.int .i64 q.e, .int .i64 q.s, .slice q.a q.ws.length q.c] from rfl)
        have HC := Lib.hid (fun W (hb : Below X3.heap.size X3 W) => (⟨(hb.cell (cell_lt c0)).trans c0, (hb.cell (cell_lt c1)).trans c1, (hb.cell (cell_lt c2)).trans c2⟩ : W.cell? ⟨b, off + j * 3, none⟩ = some (.int .i64 q.e) ∧ W.cell? ⟨b, off + j * 3 + 1, none⟩ = some (.int .i64 q.s) ∧ W.cell? ⟨b, off + j * 3 + 2, none⟩ = some (.slice q.a q.ws.length q.c)))
        obtain ⟨P, hP⟩ : ∃ P, txW q.e.toNat q.s.toNat q.ws = P := ⟨_, rfl⟩
        obtain ⟨ok, hok⟩ : ∃ b, txB q.e q.s q.ws = b := ⟨_, rfl⟩
        have HPP := Lib.hid (show pay q = P ∧ goodQ q = (ok && decide (P.length ≤ 4096)) from ⟨hP, by unfold goodQ pay; rw [hP, hok]⟩)
        unfold PtxR at HPT
        rw [hP, hok] at HPT
        obtain ⟨fl, hfl⟩ : ∃ fl, 8 + P.length = fl := ⟨_, rfl⟩
        have HFL := Lib.hid hfl
        rw [hfl] at HPT
        obtain ⟨qe, hqe⟩ : ∃ e, q.e = e := ⟨_, rfl⟩
        obtain ⟨qt, hqt⟩ : ∃ e, q.s = e := ⟨_, rfl⟩
        obtain ⟨qa, hqa⟩ : ∃ e, q.a = e := ⟨_, rfl⟩
        obtain ⟨ql, hql⟩ : ∃ e, q.ws.length = e := ⟨_, rfl⟩
        obtain ⟨qc, hqc⟩ : ∃ e, q.c = e := ⟨_, rfl⟩
        rw [hqe] at z0
        rw [hqt] at z1
        rw [hqa, hql, hqc] at z2
        rw [hqe, hqt, hqa, hql, hqc] at HCL
        rw [hqe, hqt, hqa, hql, hqc] at HPT
        rw [hqe, hqt, hqa, hql, hqc] at HC
        clear hq c0 c1 c2 hws hsm hP hok hfl hqe hqt hqa hql hqc
        go_wp2_with fail
        refine HPT.out.mono ?_
        rintro r w5 (⟨h1, rfl, hb5⟩ | ⟨h1, h2, rfl, hb5⟩ | ⟨h1, h2, h3, a5, c5, rfl, _, hl5, hb5⟩)
        · have HNG := Lib.hid (show (l.take (j + 1)).filter goodQ = (l.take j).filter goodQ by rw [HTK.out, HPP.out.2, h1]; simp)
          have HI5 := Lib.hid (HI.out.below hb5)
          have HB5 := Lib.hid (step_below HBW.out hb5)
          clear hb5 h1 HPT HTK z0 z1 z2
          go_wp2_with fail
          refine (num_law 2 _).mono ?_; rintro r w8 ⟨rfl, rfl⟩
          go_wp2_with fail
          go_roundw
          case rel => exact ⟨j + 1, nb, K, _, _, _, _, _, _, by omega, by go_num, rfl, rfl, rfl, by omega, by omega, Lib.hid (by rw [HNG.out]; exact HI5.out), HB5⟩
          case measure => simp [intOf]; omega
        · have HNG := Lib.hid (show (l.take (j + 1)).filter goodQ = (l.take j).filter goodQ by rw [HTK.out, HPP.out.2]; simp; omega)
          have HI5 := Lib.hid (HI.out.below hb5)
          have HB5 := Lib.hid (step_below HBW.out hb5)
          clear hb5 h1 h2 HPT HTK z0 z1 z2
          go_wp2_with fail
          refine (num_law 3 _).mono ?_; rintro r w8 ⟨rfl, rfl⟩
          go_wp2_with fail
          go_roundw
          case rel => exact ⟨j + 1, nb, K, _, _, _, _, _, _, by omega, by go_num, rfl, rfl, rfl, by omega, by omega, Lib.hid (by rw [HNG.out]; exact HI5.out), HB5⟩
          case measure => simp [intOf]; omega
        · have HGD := Lib.hid (show (l.take (j + 1)).filter goodQ = (l.take j).filter goodQ ++ [q] by rw [HTK.out, HPP.out.2, h1]; simp [h3])
          have HI5 := Lib.hid (HI.out.below hb5)
          have HB5 := Lib.hid (step_below HBW.out hb5)
          have HL5 := Lib.hid hl5
          have hs5 := HB5.out.size
          have HFR := Lib.hid (show (frameL P).length = fl by rw [frameL_len]; exact HFL.out)
          have hfl2 : fl ≤ 4104 := by rw [← HFL.out]; omega
          obtain ⟨m, hm⟩ : ∃ m, nb + fl = m := ⟨_, rfl⟩
          have HMM := Lib.hid hm
          have hm2 : m ≤ (K + 1) * 4104 := by omega
          have hm3 : m ≤ 1000000 := by omega
          clear hb5 h1 h2 h3 hl5 HPT HTK z0 z1 z2 hm
          go_wp2_with fail
          refine (num_law 0 _).mono ?_; rintro r w8 ⟨rfl, rfl⟩
          go_upto_region 21 with (at_builtin; refine append_ls eltB rfl (.tmp 75) (.tmp 76) rfl X3.heap.size _ nb _ rfl HI5.out.ob _ _ fl (frameL P) HFR.out rfl HL5.out (by omega) hs5 ?_)
          intro v6 w6 hown6 hgrow6
          rw [HMM.out] at hown6
          have HE6 := Lib.hid (HI5.out.oe.kept hgrow6 (own_apart HI5.out.oe HI5.out.ob (by decide)))
          have HG6 := Lib.hid (HI5.out.og.kept hgrow6 (own_apart HI5.out.og HI5.out.ob (by decide)))
          have HO6 := Lib.hid hown6
          have HB6 := Lib.hid (HB5.out.grown hgrow6 hs5 (fun i hi => (HI5.out.ob.lt i hi).1))
          have hs6 := HB6.out.size
          obtain ⟨a6, c6, hv6⟩ := own_form hown6
          subst hv6
          clear hown6 hgrow6
          have HAL6 := Lib.hid (HB6.out.alloc hs6 (.cells #[.int .i64 (m : Int)] 3))
          go_upto_region 22 with (at_builtin; refine wpList_append_own _ rfl (.tmp 78) (.tmp 81) 96 rfl X3.heap.size 3 i3 (.int .i64 0) 1 8 Tryz.underlying96 hi hz0 hz1 hz2 rfl (by decide) _ K (iv .i64 (endsQ ((l.take j).filter goodQ))) rfl (HE6.out.alloc _) ⟨w6.heap.size, 0, none⟩ 1 1 [.int .i64 (m : Int)] rfl rfl (by intro j u hj; match j, hj with | 0, hj => (simp at hj; subst hj; simp [Addr.add, go_sem]) | j + 1, hj => simp at hj) (by intro u hu; simp at hu; subst hu; rfl) (by unfold maxLen; omega) (by omega) (by simp; omega) ?_)
          intro v7 w7 hown7 hgrow7 _
          have HO7 := Lib.hid ((HO6.out.alloc (.cells #[.int .i64 (m : Int)] 3)).kept hgrow7 (own_apart (HO6.out.alloc (.cells #[.int .i64 (m : Int)] 3)) (HE6.out.alloc (.cells #[.int .i64 (m : Int)] 3)) (by decide)))
          have HG7 := Lib.hid ((HG6.out.alloc (.cells #[.int .i64 (m : Int)] 3)).kept hgrow7 (own_apart (HG6.out.alloc (.cells #[.int .i64 (m : Int)] 3)) (HE6.out.alloc (.cells #[.int .i64 (m : Int)] 3)) (by decide)))
          have HE7 := Lib.hid hown7
          have HB7 := Lib.hid (HAL6.out.grown hgrow7 (by simp; omega) (fun i hi => (HE6.out.lt i hi).1))
          have hs7 := HB7.out.size
          obtain ⟨a7, c7, hv7⟩ := own_form hown7
          subst hv7
          clear hown7 hgrow7
          obtain ⟨z0, z1, z2⟩ := HC.out w7 HB7.out
          have HAL7 := Lib.hid (HB7.out.alloc hs7 (.cells #[.int .i64 qe, .int .i64 qt, .slice qa ql qc] 39))
          go_wp2_with (at_builtin; refine wpList_append_own _ rfl (.tmp 83) (.tmp 88) 43 rfl X3.heap.size 39 i39 (.agg #[.int .i64 0, .int .i64 0, .slice none 0 0]) 3 40 Tryz.underlying43 hk hk0 hk1 hk2 rfl (by decide) _ K (qqcells ((l.take j).filter goodQ)) rfl (HG7.out.alloc _) ⟨w7.heap.size, 0, none⟩ 1 1 [.int .i64 qe, .int .i64 qt, .slice qa ql qc] rfl rfl (by intro j u hj; match j, hj with | 0, hj => (simp at hj; subst hj; simp [Addr.add, go_sem]) | 1, hj => (simp at hj; subst hj; simp [Addr.add, go_sem]) | 2, hj => (simp at hj; subst hj; simp [Addr.add, go_sem]) | j + 3, hj => simp at hj) (by intro u hu; simp at hu; rcases hu with rfl | rfl | rfl <;> rfl) (by unfold maxLen; omega) (by omega) (by simp; omega) ?_)
          intro v8 w8 hown8 hgrow8 _
          have HO8 := Lib.hid ((HO7.out.alloc (.cells #[.int .i64 qe, .int .i64 qt, .slice qa ql qc] 39)).kept hgrow8 (own_apart (HO7.out.alloc (.cells #[.int .i64 qe, .int .i64 qt, .slice qa ql qc] 39)) (HG7.out.alloc (.cells #[.int .i64 qe, .int .i64 qt, .slice qa ql qc] 39)) (by decide)))
          have HE8 := Lib.hid ((HE7.out.alloc (.cells #[.int .i64 qe, .int .i64 qt, .slice qa ql qc] 39)).kept hgrow8 (own_apart (HE7.out.alloc (.cells #[.int .i64 qe, .int .i64 qt, .slice qa ql qc] 39)) (HG7.out.alloc (.cells #[.int .i64 qe, .int .i64 qt, .slice qa ql qc] 39)) (by decide)))
          have HG8 := Lib.hid hown8
          have HB8 := Lib.hid (HAL7.out.grown hgrow8 (by simp; omega) (fun i hi => (HG7.out.lt i hi).1))
          obtain ⟨a8, c8, hv8⟩ := own_form hown8
          subst hv8
          clear hown8 hgrow8 z0 z1 z2
          have HI8 := Lib.hid (show LtI w8 X3.heap.size ((l.take (j + 1)).filter goodQ) m (K + 1) a6 a7 a8 c6 c7 c8 from by
            rw [HGD.out]
            exact LtI.snoc HI5.out.hK HI5.out.hn (by rw [HPP.out.1]; exact HFR.out) HMM.out (by rw [HPP.out.1]; exact HO8.out) HE8.out (by rw [HCL.out]; exact HG8.out))
          clear HO8 HE8 HG8 HO7 HG7 HE7 HO6 HE6 HG6 HI5
          go_wp2_with fail
          go_roundw
          case rel => exact ⟨j + 1, m, K + 1, _, _, _, _, _, _, by omega, by go_num, rfl, rfl, rfl, by omega, hm2, HI8, HB8⟩
          case measure => simp [intOf]; omega
      · have d1 : ¬ (j : Int) < (n : Int) := by omega
        obtain rfl : j = n := by omega
        have HI2 := Lib.hid (show LtI wr X3.heap.size (l.filter goodQ) nb K ba ea ga bc ec gc by have := HI.out; rwa [← HN.out, List.take_length] at this)
        go_wp2_with fail
        go_meet
        exact ⟨nb, K, _, _, _, _, _, _, rfl, rfl, rfl, hKj, hnb, HI2, HBW⟩
  case rest =>
  obtain ⟨nb, K, bc, ec, gc, ba, ea, ga, rfl, rfl, rfl, hKn, hnb, HI, HBW⟩ := hcut
  obtain ⟨Y, rfl⟩ : ∃ Y, Y = wc := ⟨_, rfl⟩
  obtain ⟨GS, hGS⟩ : ∃ GS, l.filter goodQ = GS := ⟨_, rfl⟩
  have hgood : ∀ q ∈ GS, q ∈ l ∧ goodQ q = true := fun q hq => by rw [← hGS] at hq; exact List.mem_filter.1 hq
  rw [hGS] at HI
  have hws : ∀ q ∈ l, WtsR X3 q.a q.ws := fun q hq => by
    obtain ⟨k, hk⟩ := List.mem_iff_getElem?.1 hq
    obtain ⟨_, _, _, _, _, _, ok⟩ := HR3.out k q hk
    exact ok
  have HGQ := Lib.hid (show ∀ q ∈ GS, goodQ q = true from fun q hq => (hgood q hq).2)
  have HGB := Lib.hid (show ∀ q ∈ GS, TxqB q from fun q hq => SmW.b (HSQ.out q (hgood q hq).1))
  have HFR := Lib.hid (show FrOk (GS.map pay) from goods_frok fun q hq => ⟨(hgood q hq).2, QB.of (hws q (hgood q hq).1)⟩)
  have HTQ := Lib.hid (fun W (b : Below Y.heap.size Y W) => txq_own (own_below HI.out.og b) HI.out.hK (fun x hx => (hws x (hgood x hx).1).below (step_below HBW.out b)))
  have hlen : (flatF GS).length = nb := by
    have h1 := flat_len (GS.map pay) K
    rw [HI.out.hn, ← HI.out.hK] at h1
    unfold flatF
    rw [← h1, List.take_of_length_le (by rw [List.length_map]; exact Nat.le_refl _)]
  obtain ⟨_, _, e1, hlb, _⟩ := own_ls HI.out.ob hlen
  cases e1
  obtain ⟨_, _, e2, hle, _⟩ := own_ls HI.out.oe (show (endsQ GS).length = K by unfold endsQ; rw [endsL_len, List.length_map, HI.out.hK])
  cases e2
  have HBB := Lib.hid (And.intro hlen (And.intro (show Byt (flatF GS) from HFR.out.byt) hlb))
  have HEE := Lib.hid hle
  have HCP := Lib.hid (own_cap HI.out.og)
  have HKN := Lib.hid (And.intro HI.out.hK HI.out.hn)
  have HFF := Lib.hid (show framesL (flatF GS) = (GS.map pay).take K by
    have h1 := framesL_flat (GS.map pay) [] HFR.out
    rw [List.append_nil, framesL_no (B := []) (isL_no (by simp)), List.append_nil] at h1
    unfold flatF
    rw [h1, List.take_of_length_le (by rw [List.length_map, HI.out.hK]; exact Nat.le_refl _)])
  have HBY := Lib.hid (step_below HB13.out HBW.out)
  have e0 : ((nb : Int) != (nb : Int)) = false := by simp
  clear hGS hgood hws hlen hlb hle HI HBW HR3 HSQ HG HN HB13
  go_wp2_with fail
  refine (txns_gk ba (flatF GS) nb bc HBB.out.1 (by omega) HBB.out.2.1 _ HBB.out.2.2 GS K HGQ.out HFF.out (by rw [HKN.out.1]; exact Nat.le_refl _)).mono ?_
  rintro r w5 ⟨ta, tc, rfl, hq5, hb5⟩
  rw [HKN.out.2]
  have HS := Lib.hid (same_k ta ga K tc gc GS (by rw [HKN.out.1]; exact Nat.le_refl _) (by rw [HKN.out.1]; omega) HGB.out w5 hq5 (HTQ.out w5 hb5))
  have HB5 := Lib.hid hb5
  clear hq5 hb5 HFF
  go_wp2_with fail
  refine HS.out.mono ?_
  rintro r w6 ⟨rfl, hb6⟩
  have HB6 := Lib.hid (step_below HB5.out hb6)
  clear hb6 HS HB5
  by_cases hnb0 : nb = 0
  · have e1 : ((nb : Int) == 0) = true := by rw [hnb0]; rfl
    clear hnb0
    go_wp2_with fail
    go_ret
    exact ⟨rfl, step_below HBY.out HB6.out⟩
  have e1 : ((nb : Int) == 0) = false := by simp; omega
  have hne : ¬ (nb : Int) = 0 := by omega
  obtain ⟨m, hm⟩ : ∃ m, t % nb = m := ⟨_, rfl⟩
  have hrem : (t : Int).tmod (nb : Int) = (m : Int) := by rw [← hm]; rfl
  have hmn : m < nb := by rw [← hm]; exact Nat.mod_lt _ (by omega)
  have hmi : (m : Int) ≤ 100000 := by omega
  clear hm hnb0
  go_upto_block 4 with (fail)
  go_cut [18, 19] (fun k e wx => ∃ (k' sk s1 : Nat), k = .int .i64 (k' : Int) ∧ e = .int .i64 (sk : Int) ∧ k' < K ∧ sk ≤ m ∧ m < s1 ∧ Hid (sumF (GS.map pay) k' = sk ∧ sumF (GS.map pay) (k' + 1) = s1) ∧ Hid (Below w6.heap.size w6 wx))
  case first =>
    go_wp2_with fail
    go_loopw [18, 19] (fun k e wr => ∃ (k' sk : Nat), k = .int .i64 (k' : Int) ∧ e = .int .i64 (sk : Int) ∧ k' < K ∧ sk ≤ m ∧ Hid (sumF (GS.map pay) k' = sk) ∧ Hid (Below w6.heap.size w6 wr)) (fun k _ _ => K - (intOf k).toNat)
    case atStart =>
      refine ⟨0, 0, rfl, rfl, ?_, by omega, Lib.hid rfl, Lib.hid (Below.refl _ _)⟩
      rcases Nat.eq_zero_or_pos K with h | h
      · exfalso
        have := HKN.out.2
        rw [h] at this
        have : nb = 0 := by rw [← this]; rfl
        omega
      · exact h
    case round =>
      obtain ⟨k, sk, rfl, rfl, hk, hsk, HSK, HBW⟩ := hrel
      have d1 : (k : Int) < (K : Int) := by omega
      obtain ⟨b, off, rfl, hcell⟩ := (HEE.out.below (step_below HB6.out HBW.out)).get k (by unfold endsQ; rw [endsL_len, List.length_map, HKN.out.1]; exact hk)
      rw [show (endsQ GS).getD k 0 = ((sumF (GS.map pay) (k + 1) : Nat) : Int) from endsL_at (by rw [List.length_map, HKN.out.1]; exact hk)] at hcell
      obtain ⟨s1, hs1⟩ : ∃ s1, sumF (GS.map pay) (k + 1) = s1 := ⟨_, rfl⟩
      rw [hs1] at hcell
      have HS1 := Lib.hid hs1
      clear hs1
      by_cases hc : s1 ≤ m
      · have d2 : (s1 : Int) ≤ (m : Int) := by omega
        have hk1 : k + 1 < K := by
          rcases Nat.lt_or_ge (k + 1) K with h | h
          · exact h
          · exfalso
            have e : k + 1 = K := by omega
            have h1 := HS1.out
            rw [e, HKN.out.2] at h1
            omega
        clear hc
        go_wp2_with fail
        go_roundw
        case rel => exact ⟨k + 1, s1, by go_num, rfl, hk1, by omega, HS1, HBW⟩
        case measure => simp [intOf]; omega
      · have d2 : ¬ (s1 : Int) ≤ (m : Int) := by omega
        have hc2 : m < s1 := by omega
        clear hc
        go_wp2_with fail
        go_meet
        exact ⟨k, sk, s1, rfl, rfl, hk, hsk, hc2, Lib.hid ⟨HSK.out, HS1.out⟩, HBW⟩
  case rest =>
  obtain ⟨k, sk, s1, rfl, rfl, hk, hsk, hs1, HSK, HBW⟩ := hcut
  obtain ⟨Z, rfl⟩ : ∃ Y, Y = wc := ⟨_, rfl⟩
  have HBZ := Lib.hid (step_below HB6.out HBW.out)
  obtain ⟨p, hp⟩ : ∃ p, (GS.map pay)[k]? = some p := ⟨_, List.getElem?_eq_getElem (by rw [List.length_map, HKN.out.1]; exact hk)⟩
  have hpl : s1 = sk + (8 + p.length) := by
    have := sumF_succ hp
    rw [HSK.out.1, HSK.out.2] at this
    exact this
  have HP := Lib.hid (And.intro hp hpl)
  obtain ⟨sa, sc, hsl, hsL⟩ := Ls.hi eltB (HBB.out.2.2.below HBZ.out) nb m HBB.out.1 (by omega)
  have HSL := Lib.hid hsL
  have hgs := slice_q ga K gc k (by omega) HCP.out
  have e2 : ((sk : Int) != (sk : Int)) = false := by simp
  have HCUT := Lib.hid (show framesL ((flatF GS).take m) = (GS.map pay).take k from framesL_cut HFR.out hp (by rw [HSK.out.1]; exact hsk) (by rw [HSK.out.1]; omega))
  clear hp hpl hsL HB6 HBW
  go_wp2_with fail
  refine (txns_gk sa ((flatF GS).take m) m sc (by rw [List.length_take, HBB.out.1]; omega) (by omega) (HBB.out.2.1.take m) _ HSL.out GS k HGQ.out HCUT.out (by rw [HKN.out.1]; omega)).mono ?_
  rintro r w7 ⟨ta2, tc2, rfl, hq7, hb7⟩
  rw [HSK.out.1]
  have HS := Lib.hid (same_k ta2 ga k tc2 gc GS (by rw [HKN.out.1]; omega) (by rw [HKN.out.1]; omega) HGB.out w7 hq7 (HTQ.out w7 (step_below HBZ.out hb7)))
  have HB7 := Lib.hid (step_below HBZ.out hb7)
  clear hq7 hb7 HCUT HSL hsl
  go_wp2_with fail
  refine HS.out.mono ?_
  rintro r w8 ⟨rfl, hb8⟩
  have HB8 := Lib.hid (step_below HB7.out hb8)
  clear hb8 HS HB7
  by_cases h4 : m < sk + 4
  · have d4 : (m : Int) - (sk : Int) < 4 := by omega
    clear h4
    go_wp2_with fail
    go_ret
    exact ⟨rfl, step_below HBY.out HB8.out⟩
  have d4 : ¬ (m : Int) - (sk : Int) < 4 := by omega
  have HL8 := Lib.hid (HBB.out.2.2.below HB8.out)
  go_upto_region 39 with (at_builtin; refine append_ls eltB rfl (.const (.slice none 0 0)) (.tmp 162) rfl w8.heap.size _ 0 [] rfl (World.ownsRow_nil _ _ _ _) _ _ nb (flatF GS) HBB.out.1 rfl HL8.out (by omega) (Nat.le_refl _) ?_)
  intro v9 w9 hown9 hgrow9
  obtain ⟨a9, c9, e9, hl9, hg9⟩ := own_ls hown9 HBB.out.1
  obtain ⟨g, rfl, hgb⟩ := hg9 (by omega)
  subst e9
  have hb9 := (Below.refl w8.heap.size w8).grown hgrow9 (Nat.le_refl _) (fun j hj => by cases hj)
  have HB9 := Lib.hid hb9
  have HL9 := Lib.hid hl9
  have HG9 := Lib.hid hgb
  obtain ⟨_, _, ea, hcx⟩ := hl9.get m (by rw [HBB.out.1]; exact hmn)
  cases ea
  obtain ⟨x, hx⟩ : ∃ x, (flatF GS).getD m 0 = x := ⟨_, rfl⟩
  have HX := Lib.hid hx
  rw [hx] at hcx
  rw [Nat.zero_add] at hcx
  clear hgrow9 hl9 hg9 hgb hb9 hx
  have hfz := hown9.frozenAt m
  obtain ⟨y, hy, hyx, hy0⟩ := turn_bit (bit := bit) (show 0 ≤ x ∧ x ≤ 255 by rw [← HX.out]; exact HBB.out.2.1.get m (by rw [HBB.out.1]; exact hmn))
  have hst := (hown9.stored m (.int .u8 y)).1
  have hiv : (iv .u8 (flatF GS)).set m (.int .u8 y) = iv .u8 ((flatF GS).set m y) := by unfold iv; rw [List.map_set]
  rw [hiv] at hst
  have HBW9 := Lib.hid (HB9.out.setCell (p := ⟨g, m, none⟩) HG9.out (.int .u8 y))
  have HST := Lib.hid hst
  have HY := Lib.hid (And.intro hyx hy0)
  clear hst hiv hyx hy0 hown9
  go_upto_region 40 with (fail)
  clear hfz hcx hy
  generalize w9.setCell ⟨g, m, none⟩ (.int .u8 y) = WT at *
  have hlen : ((flatF GS).set m y).length = nb := by rw [List.length_set]; exact HBB.out.1
  obtain ⟨_, _, e3, hlt, _⟩ := own_ls HST.out hlen
  cases e3
  have HLT := Lib.hid (And.intro hlen hlt)
  have HBT := Lib.hid (show Byt ((flatF GS).set m y) from fun z hz => by
    rcases List.mem_or_eq_of_mem_set hz with h | rfl
    · exact HBB.out.2.1 z h
    · exact HY.out.2)
  have HTN := Lib.hid (show framesL ((flatF GS).set m y) = (GS.map pay).take k from framesL_turned HFR.out HP.out.1 (by rw [HSK.out.1]; omega) (by rw [HSK.out.1]; have := HP.out.2; omega) (show (flatF GS)[m]? = some x by
    rw [List.getElem?_eq_getElem (by rw [HBB.out.1]; exact hmn), ← HX.out, List.getD_eq_getElem?_getD, List.getElem?_eq_getElem (by rw [HBB.out.1]; exact hmn)]
    rfl) HY.out.2 HY.out.1)
  have HBT2 := Lib.hid (step_below HB8.out HBW9.out)
  have e3 : ((sk : Int) == (sk : Int)) = true := by simp
  have hgs := slice_q ga K gc k (by omega) HCP.out
  clear hlen hlt HST HBW9
  go_wp2_with fail
  refine (txns_gk (some ⟨g, 0, none⟩) ((flatF GS).set m y) nb c9 HLT.out.1 (by omega) HBT.out _ HLT.out.2 GS k HGQ.out HTN.out (by rw [HKN.out.1]; omega)).mono ?_
  rintro r wa1 ⟨ta3, tc3, rfl, hq10, hb10⟩
  rw [HSK.out.1]
  have HS := Lib.hid (same_k ta3 ga k tc3 gc GS (by rw [HKN.out.1]; omega) (by rw [HKN.out.1]; omega) HGB.out wa1 hq10 (HTQ.out wa1 (step_below HBT2.out hb10)))
  have HB10 := Lib.hid (step_below HBT2.out hb10)
  clear hq10 hb10 HTN HLT
  go_wp2_with fail
  refine HS.out.mono ?_
  rintro r wa2 ⟨rfl, hb11⟩
  have HB11 := Lib.hid (step_below HB10.out hb11)
  clear hb11 HS
  go_wp2_with fail
  go_ret
  exact ⟨rfl, step_below HBY.out HB11.out⟩
end Go.Proofs.YtglkndoghnblcaaGreat
namespace Go.Proofs.YtglkndoghnblcaaGreat.logTornP
open Go.ChangeShapes Go.WideShapes Go.ChangeAt Go.RowKit
open Go.ChangeMaps (open_string shut_string)
set_option linter.unusedVariables false
set_option linter.unusedSimpArgs false

theorem own : ownKnob Tryz.prog.godebug = none := by kernel_rfl
theorem laidOut : laidOutB Tryz.prog = true := by kernel_rfl

set_option maxRecDepth 100000 in
theorem lifted (os : Os) (started : os.Started) (H : Type) (enc : TypeId × Value → H) :
    ReturnsInHanded {} Tryz.checked os 8 .any (Rows.logTornSpec.pre6 enc Tryz.prog Tryz.f8 Rows.logTornRow.domain false) (Rows.logTornSpec.post enc Tryz.prog Tryz.f8 false true false false) := by
  refine returnsInHanded_of_change_sized (C := Tryz.checked) own started (by kernel_rfl) Tryz.func8
    (ChangeSpec.witness6 (enc := enc) (C := Tryz.checked) false ⟨#[], #[.slice none 0 0, .int .i64 0, .int .i64 0], []⟩ 12 (by kernel_rfl) (by kernel_rfl) (by kernel_rfl) (by kernel_rfl)) ?_
  intro W base args ds gs before hval0 hW hcnd hsz0 _
  have hsz : (DataW.weightsEach Tryz.prog (Tryz.f8.params.toList ++ Rows.logTornSpec.plain.varTypes Tryz.prog) (ds ++ gs)).all (· ≤ reachBytes) = true := hsz0
  clear hsz0
  have hval : ∀ (j : Nat) t v, Tryz.f8.params[j]? = some t → args[j]? = some v → Value.okWide Tryz.prog W .any base t v := hval0
  have hW' := hW
  obtain ⟨p, q, hA0, hV, rfl, hfz, hnd⟩ := hW
  have hA : DataW.TrodAll enc Tryz.prog W 0 (fun _ => true) true Tryz.f8.params.toList args.toList ds p := hA0
  rw [Tryz.params8] at hA hval hsz
  obtain ⟨v0, vs0, d0, ds0, p0, q0, hargs, rfl, rfl, h0, r0⟩ := trodAll_cons hA
  obtain ⟨v1, vs1, d1, ds1, p1, q1, rfl, rfl, rfl, h1, r1⟩ := trodAll_cons r0
  obtain ⟨v2, vs2, d2, ds2, p2, q2, rfl, rfl, rfl, h2, r2⟩ := trodAll_cons r1
  obtain ⟨rfl, rfl, rfl⟩ := trodAll_nil r2
  obtain rfl : args = #[v0, v1, v2] := by cases args; simp_all
  obtain ⟨rfl, rfl⟩ := trodVars_none hV
  have k0 := h0
  have lt0 : ∀ x ∈ p0, x.block < W.heap.size := by obtain ⟨m, hm⟩ := k0; exact DataW.trod_lt m _ _ _ hm
  have all : ∀ n ∈ DataW.weightsEach Tryz.prog ([43, 3, 3] ++ Rows.logTornSpec.plain.varTypes Tryz.prog) ([d0, d1, d2] ++ []), n ≤ reachBytes := fun n hn => by simpa using List.all_eq_true.1 hsz n hn
  obtain ⟨a0, n0, c0, rfl⟩ := okWide_slice Tryz.underlying43 (hval 0 43 v0 rfl rfl)
  obtain ⟨L0, hL0, hR0, hN0, hG0⟩ : ∃ L : List TxQ, L.length = n0 ∧ TxqR W a0 L ∧ n0 ≤ 140737488355328 ∧ ∀ t ∈ L, BgW t.ws ∧ (t.a = none → t.c = 0) := by
    obtain ⟨fuel, hf⟩ := h0
    obtain ⟨a, L, c, e, h1, h2, h3⟩ := open_lgs (by simpa [Value.cells] using hf) (fun n hn => all n (DataW.weights_mem_each (j := 0) (t := 43) rfl rfl n hn))
    simp only [Value.slice.injEq] at e
    obtain ⟨rfl, rfl, rfl⟩ := e
    exact ⟨L, rfl, h1, h2, h3⟩
  have k1 := h1
  have lt1 : ∀ x ∈ p1, x.block < W.heap.size := by obtain ⟨m, hm⟩ := k1; exact DataW.trod_lt m _ _ _ hm
  obtain ⟨x1, rfl, _, _, g1⟩ := open_int Tryz.underlying3 (hval 1 3 v1 rfl rfl) h1
  have b1 : -9223372036854775808 ≤ x1 ∧ x1 ≤ 9223372036854775807 := by simpa [Lit.wf, IntKind.min, IntKind.max, IntKind.signed, IntKind.bits] using g1
  have k2 := h2
  have lt2 : ∀ x ∈ p2, x.block < W.heap.size := by obtain ⟨m, hm⟩ := k2; exact DataW.trod_lt m _ _ _ hm
  obtain ⟨x2, rfl, _, _, g2⟩ := open_int Tryz.underlying3 (hval 2 3 v2 rfl rfl) h2
  have b2 : -9223372036854775808 ≤ x2 ∧ x2 ≤ 9223372036854775807 := by simpa [Lit.wf, IntKind.min, IntKind.max, IntKind.signed, IntKind.bits] using g2
  clear hA0 hval0
  refine (logtorn_law a0 L0 n0 c0 x1 x2 hL0 hN0 hG0 W hR0).mono fun e W' ⟨he, bel⟩ => ?_
  subst he
  exact ⟨_, rfl, _, _, _, [], _, [], hW', trodAll_mk1 (shut_bool Tryz.underlying4 _), (trodAll_cons_mk (Below.trod laidOut (by kernel_rfl) (of_decide_eq_true (by kernel_rfl)) k0 bel lt0) (trodAll_cons_mk (Below.trod laidOut (by kernel_rfl) (of_decide_eq_true (by kernel_rfl)) k1 bel lt1) (trodAll_cons_mk (Below.trod laidOut (by kernel_rfl) (of_decide_eq_true (by kernel_rfl)) k2 bel lt2) trodAll_mk0))), rfl, bel.frame _, fun h => by cases h⟩

theorem over : Rows.logTornRow.holds Tryz.pinned (OpenSpec.ofChange Rows.logTornSpec) :=
  OpenClaim.holds_of_wide 8 Tryz.f8 rfl rfl rfl rfl rfl rfl rfl ⟨rfl, rfl, rfl, rfl, rfl⟩ rfl rfl rfl rfl rfl (by kernel_rfl) Tryz.func8 (by kernel_rfl)
    (of_decide_eq_true (by kernel_rfl)) (by unfold Func.isWrapper; first | (rw [if_pos (by decide +kernel)]; kernel_rfl) | (rw [if_neg (by decide +kernel)]; exact ⟨rfl, rfl⟩))
    (fun os started H enc _ => lifted os started H enc)

theorem proved : Rows.LogTornSaid := over
#print axioms proved
end Go.Proofs.YtglkndoghnblcaaGreat.logTornP
