/- LogTxns: every transaction's frame, and what any bytes tell, for every argument. Part 1. -/
import Derived.Test.YtglkndoghnblcaaGreatOva
import Derived.Test.YtglkndoghnblcaaGreatRows
import Derived.WalkKit
import Derived.WalkMore
import Derived.ProofKit
import Derived.Outline
import Derived.WalkLawsBesides
import Derived.WalkSpells
import Derived.Lib.Hide
import Derived.Below
import Derived.WalkSmall
import Derived.BigRegion
import Derived.Laws.Rows
import Derived.Laws.BytesArg
import Derived.Laws.Concat
import Derived.Laws.OwnMore
import Derived.Deep.QuietTactic
import Derived.BigQuiet
import Derived.Deep.RegionHeld3
import Derived.StillTailTactics
import Derived.Test.YtglkndoghnblcaaGreatOvc
import Derived.Deep.DeepCutAuto
import Derived.Test.YtglkndoghnblcaaGreatOvd
import Derived.Test.YtglkndoghnblcaaGreatOvj
import Derived.Test.YtglkndoghnblcaaGreatOve
import Derived.Test.YtglkndoghnblcaaGreatOvl
import Derived.Test.YtglkndoghnblcaaGreatOvi
import Derived.Test.YtglkndoghnblcaaGreatOvg
import Derived.Test.YtglkndoghnblcaaGreatOvf
import Derived.Test.YtglkndoghnblcaaGreatOvb
import Derived.IntWalk
import Derived.Shelf.Abstract
import Derived.Deep.Slices
import Derived.Deep.Fields
import Derived.Deep.Matrix
import Derived.Lib.Bytes
import Derived.ChangeSame
import Derived.SizedLaws
import Derived.OpenShut
import Derived.Test.YtglkndoghnblcaaGreatOvh
import Derived.Test.YtglkndoghnblcaaGreatOvk
namespace Go.Proofs.YtglkndoghnblcaaGreat
open Go.ChangeShapes Go.WideShapes Go.ChangeAt Go.RowKit
set_option linter.unusedVariables false
set_option linter.unusedSimpArgs false

theorem ret_int {k : IntKind} {a b : Int} (h : a = b) : Ending.returned (.int k a) = .returned (.int k b) := by rw [h]
/-- A row of numbers that came in. -/
def IsRow (k : IntKind) (w : World) (a : Option Addr) (len cap : Nat) (zs : List Int) : Prop :=
  (a = none ∧ len = 0 ∧ cap = 0 ∧ zs = []) ∨
  ∃ x, a = some x ∧ len ≤ cap ∧ cap ≤ maxLen ∧ zs.length = cap ∧ (∀ i, i < zs.length → w.cell? (x.add i) = some (.int k (zs.getD i 0))) ∧ ∀ n ∈ zs, (Lit.int k n).wf = true
theorem IsRow.ls {K : IntKind} {w : World} {a : Option Addr} {len cap : Nat} {zs : List Int} (h : IsRow K w a len cap zs) : Ls K w a cap (zs.take len) ∧ (zs.take len).length = len := by
  rcases h with ⟨rfl, rfl, rfl, rfl⟩ | ⟨y, rfl, hlc, _, hz, hcell, _⟩
  · exact ⟨Ls.nul _ _, rfl⟩
  · have hl : (zs.take len).length = len := by rw [List.length_take]; omega
    refine ⟨⟨fun k hk => ?_, fun e => (by cases e), by omega⟩, hl⟩
    have hk' : k < len ∧ k < zs.length := by simp at hk; omega
    obtain ⟨b, off, spot⟩ := y
    have hc0 := hcell 0 (by omega)
    have hspot : spot = none := by simpa [Addr.add] using World.cell?_spot hc0
    subst hspot
    have hc := hcell k hk'.2
    rw [addr_add] at hc
    exact ⟨b, off, rfl, by rw [hc]; simp [List.getD, List.getElem?_take, hk'.1]⟩
theorem IsRow.byt {w : World} {a : Option Addr} {len cap : Nat} {zs : List Int} (h : IsRow .u8 w a len cap zs) : Byt (zs.take len) := by
  rcases h with ⟨_, rfl, _, rfl⟩ | ⟨y, rfl, hlc, _, hz, hcell, hw⟩
  · intro x hx; simp at hx
  · intro x hx
    have := hw x (List.mem_of_mem_take hx)
    simpa [Lit.wf, IntKind.min, IntKind.max, IntKind.signed, IntKind.bits] using this
end Go.Proofs.YtglkndoghnblcaaGreat
namespace Go.Proofs.YtglkndoghnblcaaGreat
set_option linter.unusedVariables false
set_option linter.unusedSimpArgs false
/-- What was written is read. -/
theorem numR_W (rest : List Int) : ∀ (d k acc n : Nat), k + d = 9 → (0 < k → 0 < n) → n < 2 ^ (7 * d + 1) → numR k acc (numW n ++ rest) = some (acc + n * 128 ^ k, k + (numW n).length) := by
  intro d
  induction d with
  | zero =>
    intro k acc n hk hp hn
    have h1 : n ≤ 1 := by omega
    rw [numW_small (by omega)]
    show numR k acc ((n : Int) :: rest) = _
    unfold numR
    rw [if_neg (by omega), if_pos (by omega)]
    simp
  | succ d ih =>
    intro k acc n hk hp hn
    by_cases h : n ≤ 127
    · rw [numW_small h]
      show numR k acc ((n : Int) :: rest) = _
      unfold numR
      rw [if_neg (by omega), if_pos (by omega)]
      simp
    · rw [numW_big h]
      show numR k acc (((n % 128 + 128 : Nat) : Int) :: (numW (n / 128) ++ rest)) = _
      unfold numR
      rw [if_neg (by omega), if_neg (by omega), ih (k + 1) _ (n / 128) (by omega) (by omega) (by
        have : 2 ^ (7 * (d + 1) + 1) = 128 * 2 ^ (7 * d + 1) := by rw [show 7 * (d + 1) + 1 = 7 + (7 * d + 1) by omega, Nat.pow_add]
        omega)]
      have e : (((n % 128 + 128 : Nat) : Int).toNat - 128) = n % 128 := by omega
      rw [e, List.length_cons]
      have e2 : acc + n % 128 * 128 ^ k + n / 128 * 128 ^ (k + 1) = acc + n * 128 ^ k := by
        rw [Nat.pow_succ, show n / 128 * (128 ^ k * 128) = (128 * (n / 128)) * 128 ^ k by rw [Nat.mul_comm (128 ^ k) 128, ← Nat.mul_assoc, Nat.mul_comm (n / 128) 128], Nat.add_assoc, ← Nat.add_mul, Nat.mod_add_div]
      rw [e2, show k + 1 + (numW (n / 128)).length = k + ((numW (n / 128)).length + 1) by omega]
theorem numR_here (n : Nat) (hn : n < 18446744073709551616) (rest : List Int) : numR 0 0 (numW n ++ rest) = some (n, (numW n).length) := by
  have := numR_W rest 9 0 0 n (by omega) (by omega) (Nat.lt_of_lt_of_eq hn (by decide))
  rw [this]
  simp only [Nat.pow_zero, Nat.mul_one, Nat.zero_add]
end Go.Proofs.YtglkndoghnblcaaGreat
namespace Go.Proofs.YtglkndoghnblcaaGreat
set_option linter.unusedVariables false
set_option linter.unusedSimpArgs false
theorem upP_W {most v : Nat} (hv : v ≤ most) (hm : most < 18446744073709551616) (r : List Int) : upP most (numW v ++ r) = some (v, r) := by
  unfold upP
  rw [numR_here v (by omega)]
  simp only [hv, if_true, List.drop_left]
theorem bytesP_W {most : Nat} {b : List Int} (hv : b.length ≤ most) (hm : most < 18446744073709551616) (r : List Int) : bytesP most (bytesW b ++ r) = some (b, r) := by
  unfold bytesP bytesW
  rw [List.append_assoc, upP_W hv hm]
  simp
theorem manyP_inv {α : Type} {one : List Int → Option (α × List Int)} {put : α → List Int} (h1 : ∀ L x s, (∀ y ∈ L, 0 ≤ y ∧ y ≤ 255) → one L = some (x, s) → L = put x ++ s) : ∀ (n : Nat) (L r : List Int) (xs : List α), (∀ y ∈ L, 0 ≤ y ∧ y ≤ 255) → manyP one n L = some (xs, r) → xs.length = n ∧ L = (xs.map put).flatten ++ r
  | 0, L, r, xs, _, h => by cases h; exact ⟨rfl, rfl⟩
  | n + 1, L, r, xs, hb, h => by
    unfold manyP at h
    cases ho : one L with
    | none => rw [ho] at h; cases h
    | some p =>
      obtain ⟨x, s⟩ := p
      rw [ho] at h
      simp only at h
      have e := h1 L x s hb ho
      have hs : ∀ y ∈ s, 0 ≤ y ∧ y ≤ 255 := fun y hy => hb y (by rw [e]; simp [hy])
      cases hm : manyP one n s with
      | none => rw [hm] at h; cases h
      | some q =>
        obtain ⟨ys, t⟩ := q
        rw [hm] at h
        cases h
        obtain ⟨k1, k2⟩ := manyP_inv h1 n s r ys hs hm
        refine ⟨by simp [k1], ?_⟩
        rw [e, k2]; simp
end Go.Proofs.YtglkndoghnblcaaGreat
namespace Go.Proofs.YtglkndoghnblcaaGreat
open Go.ChangeShapes Go.WideShapes Go.ChangeAt Go.RowKit
set_option linter.unusedVariables false
set_option linter.unusedSimpArgs false
/-- A reader of the reference's, in its block. -/
structure Rdq (W : World) (B : Nat) (ad : Option Addr) (cap n : Nat) (L : List Int) (at_ : Nat) : Prop where
  len : L.length = n
  c0 : W.cell? ⟨B, 0, none⟩ = some (.slice ad n cap)
  c1 : W.cell? ⟨B, 1, none⟩ = some (.int .i64 (at_ : Int))
  f1 : W.frozen? ⟨B, 1, none⟩ = false
  ls : ∀ W', (0 < n → ∀ k b off, ad = some ⟨b, off, none⟩ → W'.cell? ⟨b, off + k, none⟩ = W.cell? ⟨b, off + k, none⟩) → Ls .u8 W' ad cap L
  le : at_ ≤ n
  apart : 0 < n → ∀ b off, ad = some ⟨b, off, none⟩ → b < B
theorem Rdq.lt {W : World} {B : Nat} {ad : Option Addr} {cap n : Nat} {L : List Int} {p : Nat} (h : Rdq W B ad cap n L p) : B < W.heap.size := World.block_lt_of_cell? W _ h.c0
theorem Rdq.here {W : World} {B : Nat} {ad : Option Addr} {cap n : Nat} {L : List Int} {p : Nat} (h : Rdq W B ad cap n L p) : Ls .u8 W ad cap L := h.ls W fun _ _ _ _ _ => rfl
theorem Rdq.below1 {W W' : World} {B : Nat} {ad : Option Addr} {cap n : Nat} {L : List Int} {p : Nat} (h : Rdq W B ad cap n L p) (b : Below (B + 1) W W') : Rdq W' B ad cap n L p := by
  have hl : B < B + 1 := by omega
  refine ⟨h.len, (b.cell (p := ⟨B, 0, none⟩) hl).trans h.c0, (b.cell (p := ⟨B, 1, none⟩) hl).trans h.c1, (b.frozen (p := ⟨B, 1, none⟩) hl).trans h.f1, fun W2 h2 => ?_, h.le, h.apart⟩
  refine h.ls W2 fun h0 k b' off e => ?_
  rw [h2 h0 k b' off e]
  exact b.cell (p := ⟨b', off + k, none⟩) (by have := h.apart h0 b' off e; simp; omega)
theorem Rdq.below {W W' : World} {B : Nat} {ad : Option Addr} {cap n : Nat} {L : List Int} {p : Nat} (h : Rdq W B ad cap n L p) (b : Below W.heap.size W W') : Rdq W' B ad cap n L p := h.below1 (b.mono h.lt)
theorem Rdq.move {W : World} {B : Nat} {ad : Option Addr} {cap n : Nat} {L : List Int} {p : Nat} (h : Rdq W B ad cap n L p) (q : Nat) (hq : q ≤ n) : Rdq (W.setCell ⟨B, 1, none⟩ (.int .i64 (q : Int))) B ad cap n L q := by
  refine ⟨h.len, ?_, World.cell?_setCell_same W _ _ h.c1, by rw [World.frozen?_setCell]; exact h.f1, fun W2 h2 => ?_, hq, h.apart⟩
  · rw [World.cell?_setCell_other W ⟨B, 1, none⟩ ⟨B, 0, none⟩ _ (fun q => by simp at q)]; exact h.c0
  · refine h.ls W2 fun h0 k b' off e => ?_
    rw [h2 h0 k b' off e]
    have := h.apart h0 b' off e
    exact World.cell?_setCell_other W ⟨B, 1, none⟩ ⟨b', off + k, none⟩ _ (fun q => by simp at q <;> omega)
theorem Rdq.drewN {W : World} {B : Nat} {ad : Option Addr} {cap n : Nat} {L : List Int} {p : Nat} (h : Rdq W B ad cap n L p) (m : Nat) : Rdq (W.drewN m) B ad cap n L p := h.below (below_drewN (Below.refl _ _) _)
set_option maxHeartbeats 1000000 in
theorem qleft_law {W : World} {B : Nat} {ad : Option Addr} {cap n : Nat} {L : List Int} {p : Nat} (h : Rdq W B ad cap n L p) (hn : n ≤ 1000000) :
    Calls Tryz.prog 90 #[.pointer (some ⟨B, 0, none⟩)] W fun r w' => r = .returned (.int .i64 ((n - p : Nat) : Int)) ∧ Below W.heap.size W w' := by
  have c0 := h.c0
  have c1 := h.c1
  have hle := h.le
  have H := Lib.hid h
  have hi : (n : Int) ≤ 1000000 := by omega
  have hj : (p : Int) ≤ (n : Int) := by omega
  have e : ((n - p : Nat) : Int) = (n : Int) - (p : Int) := by omega
  rw [e]
  clear h e hle
  go_enter Tryz.func90, Tryz.ntmps90
  go_wp2_with fail
  go_quiet (fail)
  go_wp2_with fail
  go_ret
  exact ⟨rfl, below_drewN (Below.refl _ _) _⟩
theorem grpN (acc c k : Nat) (ha : acc < 128 ^ k) (hk : k ≤ 9) (hc : c < 256) (h9 : k = 9 → c ≤ 1) :
    ∃ y : Nat, IntKind.u64.wrap ((c : Int) % 128 * 2 ^ (7 * k)) = (y : Int) ∧ IntKind.u64.wrap ((acc : Int) + (y : Int)) = ((acc + y : Nat) : Int) ∧ y = c % 128 * 128 ^ k := by
  have e2 : (2 : Nat) ^ (7 * k) = 128 ^ k := by rw [Nat.pow_mul]
  have hp9 : (128 : Nat) ^ 9 = 9223372036854775808 := by decide
  have hp8 : (128 : Nat) ^ 8 = 72057594037927936 := by decide
  have hlt : c % 128 * 128 ^ k ≤ 9223372036854775808 := by
    by_cases h : k = 9
    · subst h
      rw [hp9]
      have := h9 rfl
      have : c % 128 * 9223372036854775808 ≤ 1 * 9223372036854775808 := Nat.mul_le_mul_right _ (by omega)
      omega
    · have h8 : 128 ^ k ≤ 128 ^ 8 := Nat.pow_le_pow_right (by decide) (by omega)
      have : c % 128 * 128 ^ k ≤ 127 * 128 ^ 8 := Nat.mul_le_mul (by omega) h8
      rw [hp8] at this
      omega
  have hacc : acc < 9223372036854775808 := by
    have : 128 ^ k ≤ 128 ^ 9 := Nat.pow_le_pow_right (by decide) hk
    rw [hp9] at this
    omega
  refine ⟨c % 128 * 128 ^ k, ?_, ?_, rfl⟩
  · have e3 : (c : Int) % 128 * 2 ^ (7 * k) = ((c % 128 * 128 ^ k : Nat) : Int) := by rw [← e2]; push_cast; rfl
    rw [e3, IntKind.wrap_u64]; omega
  · rw [IntKind.wrap_u64]; omega
/-- What the document's Number answers. -/
def NumQ (W : World) (B : Nat) (ad : Option Addr) (cap n : Nat) (L : List Int) (p : Nat) (r : Ending) (w' : World) : Prop :=
  ((numR 0 0 (L.drop p) = none ∧ r = .returned (.tuple #[.int .u64 0, .int .i64 4]) ∧ Rdq w' B ad cap n L p) ∨
    ∃ v j : Nat, numR 0 0 (L.drop p) = some (v, j) ∧ v < 18446744073709551616 ∧ p + j ≤ n ∧ r = .returned (.tuple #[.int .u64 (v : Int), .int .i64 0]) ∧ Rdq w' B ad cap n L (p + j)) ∧ W.grownBy w' (some B)
set_option maxRecDepth 100000 in
set_option maxHeartbeats 4000000 in
/-- The document's Number (141). -/
theorem qnumber {W : World} {B : Nat} {ad : Option Addr} {cap n : Nat} {L : List Int} {p : Nat} (h : Rdq W B ad cap n L p) (hn : n ≤ 1000000) (hB : Byt L) :
    Calls Tryz.prog 141 #[.pointer (some ⟨B, 0, none⟩)] W (NumQ W B ad cap n L p) := by
  have H := Lib.hid h
  have HB := Lib.hid hB
  have hni : (n : Int) ≤ 1000000 := by omega
  have hpn := h.le
  have hpi : (p : Int) ≤ (n : Int) := by omega
  obtain ⟨D, hD⟩ : ∃ D, L.drop p = D := ⟨_, rfl⟩
  have HD := Lib.hid hD
  have HDB := Lib.hid (show Byt D from by rw [← hD]; exact hB.drop p)
  have HDL := Lib.hid (show D.length = n - p by rw [← hD, List.length_drop, h.len])
  have HDK := Lib.hid (fun k (hk : p + k < n) => (show D.drop k = L.getD (p + k) 0 :: D.drop (k + 1) by
    have h1 := drop_cons (D := D) (k := k) (by rw [← hD, List.length_drop, h.len]; omega)
    rw [h1]
    congr 1
    rw [← hD, List.getD_eq_getElem?_getD, List.getElem?_drop, List.getD_eq_getElem?_getD]))
  unfold NumQ
  rw [hD]
  clear h hB hD
  go_enter Tryz.func141, Tryz.ntmps141
  go_wp2_with fail
  go_loopw [4, 5] (fun v i wr => ∃ (k acc : Nat), k ≤ 9 ∧ p + k ≤ n ∧ v = .int .u64 (acc : Int) ∧ i = .int .i64 (k : Int) ∧ Hid (acc < 128 ^ k ∧ numR 0 0 D = numR k acc (D.drop k)) ∧ Below W.heap.size W wr) (fun _ i _ => 10 - (intOf i).toNat)
  case atStart => exact ⟨0, 0, by omega, by omega, rfl, rfl, Lib.hid ⟨by decide, rfl⟩, Below.refl _ _⟩
  case round =>
    obtain ⟨k, acc, hk, hkn, rfl, rfl, hx, BW⟩ := hrel
    have hR := H.out.below BW
    have e0 := hR.c0
    have e1 := hR.c1
    have hki : (k : Int) ≤ 9 := by omega
    have hkni : (p : Int) + (k : Int) ≤ (n : Int) := by omega
    have hw1 : IntKind.i64.wrap ((p : Int) + (k : Int)) = (p : Int) + (k : Int) := by rw [IntKind.wrap_i64]; omega
    have hw0 : 0 ≤ (p : Int) + (k : Int) := by omega
    have hw2 : ((p : Int) + (k : Int)).toNat = p + k := by omega
    have g1 : (k : Int) < 10 := by omega
    have g3 : decide ((k : Int) < 10) = true := by simpa using g1
    by_cases hpk : p + k < n
    · have g2 : (p : Int) + (k : Int) < (n : Int) := by omega
      obtain ⟨b1, o1, ea, d1⟩ := hR.here.get (p + k) (by rw [hR.len]; exact hpk)
      subst ea
      obtain ⟨cb0, cb1⟩ := HB.out.get (p + k) (by rw [hR.len]; exact hpk)
      have hdk := HDK.out k hpk
      obtain ⟨c, hcb⟩ : ∃ c : Nat, L.getD (p + k) 0 = (c : Int) := ⟨(L.getD (p + k) 0).toNat, by omega⟩
      rw [hcb] at d1 cb0 cb1 hdk
      have hc256 : c < 256 := by omega
      have HN := Lib.hid (show numR 0 0 D = (if (k = 9 ∧ (1 : Int) < (c : Int)) ∨ (0 < k ∧ (c : Int) = 0) then none else if (c : Int) < 128 then some (acc + c * 128 ^ k, k + 1) else numR (k + 1) (acc + (c - 128) * 128 ^ k) (D.drop (k + 1))) by
        rw [hx.out.2, hdk, numR_cons, Int.toNat_natCast])
      have HR := Lib.hid hR
      have BB := Lib.hid BW
      clear hcb hR BW hdk
      have r1 := HR.out.c1
      have g1' := HR.out.f1
      by_cases hz : 0 < k ∧ c = 0
      · have k1 : (0 : Int) < (k : Int) := by omega
        have k2 : ((c : Int) == 0) = true := by simp; omega
        have k2' : (c == 0) = true := by simp; omega
        have k3 : ¬ (1 : Int) < (c : Int) := by omega
        have HNO := Lib.hid (show numR 0 0 D = none by rw [HN.out, if_pos (Or.inr ⟨hz.1, by omega⟩)])
        clear hz
        obtain ⟨bb, hbb⟩ : ∃ bb, ((k : Int) == 9) = bb := ⟨_, rfl⟩
        have hbb' : (k == 9) = bb := by rw [← hbb]; rw [Bool.eq_iff_iff]; simp; omega
        cases bb
        all_goals
          go_wp2_with fail
          go_quiet (fail)
          go_wp2_with fail
          go_quiet (fail)
          go_wp2_with fail
          try rw [Exit.noGoto_ret]
          go_ret2
          exact ⟨.inl ⟨HNO.out, rfl, HR.out.drewN _⟩, oth_below B (below_drewN BB.out _)⟩
      by_cases h9 : k = 9 ∧ 1 < c
      · have k1 : (0 : Int) < (k : Int) := by omega
        have k2 : ((c : Int) == 0) = false := by simp; omega
        have k2' : (c == 0) = false := by simp; omega
        have k3 : ((k : Int) == 9) = true := by simp; omega
        have k3' : (k == 9) = true := by simp; omega
        have k4 : (1 : Int) < (c : Int) := by omega
        have HNO := Lib.hid (show numR 0 0 D = none by rw [HN.out, if_pos (Or.inl ⟨h9.1, by omega⟩)])
        clear hz h9
        go_wp2_with fail
        go_quiet (fail)
        go_wp2_with fail
        go_quiet (fail)
        go_wp2_with fail
        try rw [Exit.noGoto_ret]
        go_ret2
        exact ⟨.inl ⟨HNO.out, rfl, HR.out.drewN _⟩, oth_below B (below_drewN BB.out _)⟩
      obtain ⟨y, y1, y2, y3⟩ := grpN acc c k hx.out.1 hk hc256 (fun e => by omega)
      have HY3 := Lib.hid y3
      have HNE := Lib.hid (show ¬ ((k = 9 ∧ (1 : Int) < (c : Int)) ∨ (0 < k ∧ (c : Int) = 0)) by omega)
      have hp2 : IntKind.i64.wrap ((p : Int) + (k : Int) + 1) = (p : Int) + (k : Int) + 1 := by rw [IntKind.wrap_i64]; omega
      have hp3 : IntKind.i64.wrap ((k : Int) + 1) = (k : Int) + 1 := by rw [IntKind.wrap_i64]; omega
      have HPA := Lib.hid (show (p : Int) + (k : Int) + 1 = ((p + (k + 1) : Nat) : Int) by omega)
      have hmv := Lib.hid (fun w (hr : Rdq w B (some ⟨b1, o1, none⟩) cap n L p) => hr.move (p + (k + 1)) (by omega))
      have HPN := Lib.hid (show p + (k + 1) ≤ n by omega)
      have h70 : (0 : Int) ≤ 7 * (k : Int) := by omega
      have h7k : (7 * (k : Int)).toNat = 7 * k := by omega
      have h7w : IntKind.i64.wrap (7 * (k : Int)) = 7 * (k : Int) := by rw [IntKind.wrap_i64]; omega
      have K := Lib.hid (show (k = 0 ∧ ¬ (0 : Int) < (k : Int) ∧ ((k : Int) == 9) = false ∧ (k == 9) = false) ∨ (0 < k ∧ k < 9 ∧ (0 : Int) < (k : Int) ∧ ((c : Int) == 0) = false ∧ (c == 0) = false ∧ ((k : Int) == 9) = false ∧ (k == 9) = false) ∨ (k = 9 ∧ (0 : Int) < (k : Int) ∧ ((c : Int) == 0) = false ∧ (c == 0) = false ∧ ((k : Int) == 9) = true ∧ (k == 9) = true ∧ ¬ (1 : Int) < (c : Int)) by
        by_cases e0 : k = 0
        · left; exact ⟨e0, by omega, by simp; omega, by simp; omega⟩
        · have hc : ((c : Int) == 0) = false := by simp; exact fun h => hz ⟨by omega, by omega⟩
          have hc' : (c == 0) = false := by simp; exact fun h => hz ⟨by omega, by omega⟩
          right
          by_cases e9 : k = 9
          · right; exact ⟨e9, by omega, hc, hc', by simp; omega, by simp; omega, fun h => h9 ⟨e9, by omega⟩⟩
          · left; exact ⟨by omega, by omega, by omega, hc, hc', by simp; omega, by simp; omega⟩)
      clear y3
      by_cases h128 : c < 128
      · have h128i : (c : Int) < 128 := by omega
        have HYES := Lib.hid (show numR 0 0 D = some (acc + y, k + 1) by rw [HN.out, if_neg HNE.out, if_pos h128i, HY3.out, Nat.mod_eq_of_lt h128])
        have HYB := Lib.hid (numR_bd D 0 0 (acc + y) (k + 1) HDB.out (by omega) (by decide) HYES.out)
        clear hz h9
        rcases K.out with ⟨q0, q1, q2, q2'⟩ | ⟨q0, q00, q1, q2, q2', q3, q3'⟩ | ⟨q0, q1, q2, q2', q3, q3', q4⟩
        all_goals
          try clear q0
          try clear q00
          go_wp2_with fail
          go_quiet (fail)
          go_wp2_with fail
          go_quiet (fail)
          go_wp2_with fail
          try rw [Exit.noGoto_ret]
          go_ret2
          refine ⟨.inr ⟨acc + y, k + 1, HYES.out, HYB.out.1, HPN.out, rfl, ?_⟩, oth_trans (oth_below B (below_drewN BB.out _)) (oth_set _ _ _ _)⟩
          rw [HPA.out]
          exact hmv.out _ (HR.out.drewN _)
      · have h128i : ¬ (c : Int) < 128 := by omega
        have h9' : k ≠ 9 := by omega
        have HNX := Lib.hid (show acc + y < 128 ^ (k + 1) ∧ numR 0 0 D = numR (k + 1) (acc + y) (D.drop (k + 1)) by
          have ed : c % 128 = c - 128 := by omega
          refine ⟨?_, by rw [HN.out, if_neg HNE.out, if_neg h128i, HY3.out, ed]⟩
          rw [HY3.out, Nat.pow_succ]
          have h1 := hx.out.1
          have : c % 128 * 128 ^ k ≤ 127 * 128 ^ k := Nat.mul_le_mul_right _ (by omega)
          omega)
        clear hz h9
        rcases K.out with ⟨q0, q1, q2, q2'⟩ | ⟨q0, q00, q1, q2, q2', q3, q3'⟩ | ⟨q0, q1, q2, q2', q3, q3', q4⟩
        · clear q0
          go_wp2_with fail
          go_quiet (fail)
          go_wp2_with fail
          go_quiet (fail)
          go_wp2_with fail
          go_roundw
          case rel => exact ⟨k + 1, acc + y, by omega, by omega, rfl, by go_num, HNX, below_drewN BB.out _⟩
          case measure => simp [intOf]; omega
        · clear q0 q00
          go_wp2_with fail
          go_quiet (fail)
          go_wp2_with fail
          go_quiet (fail)
          go_wp2_with fail
          go_roundw
          case rel => exact ⟨k + 1, acc + y, by omega, by omega, rfl, by go_num, HNX, below_drewN BB.out _⟩
          case measure => simp [intOf]; omega
        · exact absurd h9' (by omega)
    · have HR := Lib.hid hR
      have BB := Lib.hid BW
      have HNO := Lib.hid (show numR 0 0 D = none by rw [hx.out.2, List.drop_of_length_le (by rw [HDL.out]; omega)]; rfl)
      have g2 : ¬ (p : Int) + (k : Int) < (n : Int) := by omega
      clear hR BW
      go_wp2_with fail
      go_quiet (fail)
      go_wp2_with fail
      try rw [Exit.noGoto_ret]
      go_ret2
      exact ⟨.inl ⟨HNO.out, rfl, HR.out.drewN _⟩, oth_below B (below_drewN BB.out _)⟩
end Go.Proofs.YtglkndoghnblcaaGreat
namespace Go.Proofs.YtglkndoghnblcaaGreat
open Go.ChangeShapes Go.WideShapes Go.ChangeAt Go.RowKit
set_option linter.unusedVariables false
set_option linter.unusedSimpArgs false
/-- The document's reader, of which so many bytes are left. -/
def RqS (W : World) (B : Nat) (R : List Int) : Prop := ∃ ad cap n L p, Rdq W B ad cap n L p ∧ L.drop p = R ∧ n ≤ 1000000 ∧ Byt L
theorem RqS.below {W W' : World} {B : Nat} {R : List Int} (h : RqS W B R) (b : Below W.heap.size W W') : RqS W' B R := by
  obtain ⟨ad, cap, n, L, p, h1, h2, h3, h4⟩ := h
  exact ⟨ad, cap, n, L, p, h1.below b, h2, h3, h4⟩
theorem RqS.below1 {W W' : World} {B : Nat} {R : List Int} (h : RqS W B R) (b : Below (B + 1) W W') : RqS W' B R := by
  obtain ⟨ad, cap, n, L, p, h1, h2, h3, h4⟩ := h
  exact ⟨ad, cap, n, L, p, h1.below1 b, h2, h3, h4⟩
theorem RqS.byt {W : World} {B : Nat} {R : List Int} (h : RqS W B R) : Byt R := by
  obtain ⟨ad, cap, n, L, p, h1, rfl, h3, h4⟩ := h
  exact h4.drop p
theorem RqS.lt {W : World} {B : Nat} {R : List Int} (h : RqS W B R) : B < W.heap.size := by
  obtain ⟨ad, cap, n, L, p, h1, h2, h3, h4⟩ := h
  exact h1.lt
theorem leftq_law {W : World} {B : Nat} {R : List Int} (h : RqS W B R) (m : Nat) (hm : R.length = m) :
    Calls Tryz.prog 90 #[.pointer (some ⟨B, 0, none⟩)] W fun r w' => r = .returned (.int .i64 (m : Int)) ∧ Below W.heap.size W w' := by
  obtain ⟨ad, cap, n, L, p, h1, rfl, h3, h4⟩ := h
  have e : n - p = m := by rw [← hm, List.length_drop, h1.len]
  rw [← e]
  exact qleft_law h1 h3
/-- What the document's Bytes answers. -/
def BytQ (W : World) (B : Nat) (R : List Int) (most : Nat) (r : Ending) (w' : World) : Prop :=
  ((bytesP most R = none ∧ (∃ e : Int, Er e ∧ r = .returned (.tuple #[.slice none 0 0, .int .i64 e])) ∧ RqS w' B R) ∨
    ∃ b R' a c, bytesP most R = some (b, R') ∧ r = .returned (.tuple #[.slice a b.length c, .int .i64 0]) ∧ w'.ownsRow W.heap.size 5 1 (.slice a b.length c) b.length (iv .u8 b) ∧ RqS w' B R') ∧ W.grownBy w' (some B)
set_option maxRecDepth 100000 in
set_option maxHeartbeats 4000000 in
/-- The document's Bytes (104). -/
theorem bytesq_law {W : World} {B : Nat} {R : List Int} (h : RqS W B R) (most : Nat) (hm : most ≤ 1000000) :
    Calls Tryz.prog 104 #[.pointer (some ⟨B, 0, none⟩), .int .i64 (most : Int)] W (BytQ W B R most) := by
  obtain ⟨ad, cap, n, L, p, h1, h2, h3, h4⟩ := h
  have HQ := Lib.hid (qnumber h1 h3 h4)
  have HR := Lib.hid h2
  have HB := Lib.hid (And.intro h3 h4)
  have c1 := h1.c1
  have hp := h1.le
  have hni : (n : Int) ≤ 1000000 := by omega
  have hwm : IntKind.u64.wrap (most : Int) = (most : Int) := by rw [IntKind.wrap_u64]; omega
  clear h1 h2 h4
  go_enter Tryz.func104, Tryz.ntmps104
  go_wp2_with fail
  refine HQ.out.mono ?_
  rintro r w1 ⟨⟨e1, rfl, hr⟩ | ⟨v, j, e1, hv, hj, rfl, hr⟩, hg⟩
  · have HX := Lib.hid (show bytesP most R = none by unfold bytesP upP; rw [← HR.out, e1])
    have f1 := hr.f1
    have q1 := hr.c1
    have HM := Lib.hid (hr.move p hp)
    have HG := Lib.hid (oth_trans hg (oth_set w1 B 1 (.int .i64 (p : Int))))
    clear e1 hr hg c1 HQ
    go_wp2_with fail
    go_ret2
    exact ⟨.inl ⟨HX.out, ⟨4, .inr rfl, rfl⟩, ad, cap, n, L, p, HM.out, HR.out, HB.out.1, HB.out.2⟩, HG.out⟩
  obtain ⟨q, hq⟩ : ∃ q, p + j = q := ⟨_, rfl⟩
  rw [hq] at hr hj
  have HU := Lib.hid (show upP most R = if v ≤ most then some (v, L.drop q) else none by unfold upP; rw [← HR.out, e1]; simp only [List.drop_drop, hq])
  rcases Nat.lt_or_ge most v with hgt | hle
  · have hle : ¬ v ≤ most := by omega
    have HX := Lib.hid (show bytesP most R = none by unfold bytesP; rw [HU.out, if_neg hle])
    have d1 : (most : Int) < (v : Int) := by omega
    have f1 := hr.f1
    have q1 := hr.c1
    have HM := Lib.hid (hr.move p hp)
    have HG := Lib.hid (oth_trans hg (oth_set w1 B 1 (.int .i64 (p : Int))))
    clear e1 hr hg c1 HQ hle hgt
    go_wp2_with fail
    go_ret2
    exact ⟨.inl ⟨HX.out, ⟨3, .inl rfl, rfl⟩, ad, cap, n, L, p, HM.out, HR.out, HB.out.1, HB.out.2⟩, HG.out⟩
  have d1 : ¬ (most : Int) < (v : Int) := by omega
  obtain ⟨m, hm2⟩ : ∃ m, n - q = m := ⟨_, rfl⟩
  have hlm : (L.drop q).length = m := by rw [List.length_drop, hr.len, hm2]
  have HLF := Lib.hid (by have := qleft_law hr h3; rw [hm2] at this; exact this)
  have hwl : IntKind.u64.wrap (m : Int) = (m : Int) := by rw [IntKind.wrap_u64]; omega
  have H1 := Lib.hid hr
  have G1 := Lib.hid hg
  rcases Nat.lt_or_ge m v with hgt | hfit
  · have hfit : ¬ v ≤ m := by omega
    have HX := Lib.hid (show bytesP most R = none by unfold bytesP; rw [HU.out, if_pos hle]; simp only; rw [if_neg (by rw [hlm]; exact hfit)])
    have d2 : (m : Int) < (v : Int) := by omega
    clear e1 hr hg c1 HQ hle hfit hlm hm2 hgt
    go_wp2_with fail
    refine HLF.out.mono ?_
    rintro r w2 ⟨rfl, hb2⟩
    have hr2 := H1.out.below hb2
    have f1 := hr2.f1
    have q1 := hr2.c1
    have HM := Lib.hid (hr2.move p hp)
    have HG := Lib.hid (oth_trans (oth_trans G1.out (oth_below B hb2)) (oth_set w2 B 1 (.int .i64 (p : Int))))
    clear hr2 hb2
    go_wp2_with fail
    go_ret2
    exact ⟨.inl ⟨HX.out, ⟨4, .inr rfl, rfl⟩, ad, cap, n, L, p, HM.out, HR.out, HB.out.1, HB.out.2⟩, HG.out⟩
  have d2 : ¬ (m : Int) < (v : Int) := by omega
  obtain ⟨s, hs⟩ : ∃ s, q + v = s := ⟨_, rfl⟩
  have hsn : s ≤ n := by omega
  have HX := Lib.hid (show bytesP most R = some ((L.drop q).take v, L.drop s) by unfold bytesP; rw [HU.out, if_pos hle]; simp only; rw [if_pos (by rw [hlm]; exact hfit), List.drop_drop, hs])
  have HVL := Lib.hid (show ((L.drop q).take v).length = v by rw [List.length_take, hlm]; omega)
  have hwv : IntKind.i64.wrap (v : Int) = (v : Int) := by rw [IntKind.wrap_i64]; omega
  have hadd : IntKind.i64.wrap ((q : Int) + (v : Int)) = (s : Int) := by rw [IntKind.wrap_i64]; omega
  have hsub : IntKind.i64.wrap ((s : Int) - (v : Int)) = (q : Int) := by rw [IntKind.wrap_i64]; omega
  have HQS := Lib.hid (show q ≤ s ∧ s - q = v by omega)
  have hvs : v ≤ 1000000 := by omega
  clear e1 hr hg c1 HQ hle hfit hlm hm2 hs
  go_wp2_with fail
  refine HLF.out.mono ?_
  rintro r w2 ⟨rfl, hb2⟩
  have h2 := H1.out.below hb2
  have e1 := h2.c1
  have f1 := h2.f1
  have H2 := Lib.hid h2
  have G2 := Lib.hid (oth_trans G1.out (oth_below B hb2))
  clear h2 hb2
  go_upto_region 11 with (fail)
  have h4 := H2.out.move s hsn
  have g4 := oth_trans G2.out (oth_set w2 B 1 (.int .i64 (s : Int)))
  clear e1 f1
  generalize w2.setCell ⟨B, 1, none⟩ (.int .i64 (s : Int)) = W4 at h4 g4 ⊢
  obtain ⟨a', c', s', l'⟩ := h4.here.mid eltB n q s h4.len HQS.out.1 hsn
  rw [HQS.out.2] at s' l'
  have e0 := h4.c0
  have e1 := h4.c1
  have H4 := Lib.hid h4
  have G4 := Lib.hid g4
  have L4 := Lib.hid (show Ls .u8 W4.drew a' c' ((L.drop q).take v) from l'.drew)
  clear h4 g4 l'
  have hmx : Tryz.prog.follows .mixedOrders = true := by kernel_rfl
  go_still_tail 16, (by kernel_rfl)
  change wpList _ _ _ _ _ W4.drew
  have B5 : Below W4.heap.size W4 W4.drew := (Below.refl _ _).drew
  have H5 := Lib.hid (H4.out.below B5)
  have G5 := Lib.hid (oth_trans G4.out (oth_below B B5))
  clear B5 s' e0 e1 hsub
  generalize W4.drew = W5 at L4 H5 G5 ⊢
  go_wp2_with (at_builtin; refine append_ls eltB rfl (.const (.slice none 0 0)) (.tmp 67) rfl W5.heap.size _ 0 [] rfl (World.ownsRow_nil _ _ _ _) _ _ v _ HVL.out rfl L4.out (by omega) (Nat.le_refl _) ?_)
  intro v6 w6 ho hg6
  have B6 : Below W5.heap.size W5 w6 := (Below.refl W5.heap.size W5).grown hg6 (Nat.le_refl _) (fun j hj => by cases hj)
  have ho2 : w6.ownsRow W5.heap.size 5 1 v6 v (iv .u8 ((L.drop q).take v)) := by simpa using ho
  obtain ⟨a6, c6, rfl, _⟩ := own_ls ho2 HVL.out
  have hsz : W.heap.size ≤ W5.heap.size := G5.out.size
  have HO := Lib.hid (own_base hsz ho2)
  have H6 := Lib.hid (H5.out.below B6)
  have G6 := Lib.hid (oth_trans G5.out (oth_below B B6))
  clear ho ho2 hg6 B6
  go_wp2_with fail
  go_ret2
  exact ⟨.inr ⟨_, _, a6, c6, HX.out, by rw [HVL.out]; rfl, by rw [HVL.out]; exact HO.out, ad, cap, n, L, s, H6.out, rfl, HB.out.1, HB.out.2⟩, G6.out⟩
end Go.Proofs.YtglkndoghnblcaaGreat
namespace Go.Proofs.YtglkndoghnblcaaGreat
open Go.ChangeShapes Go.WideShapes Go.ChangeAt Go.RowKit
set_option linter.unusedVariables false
set_option linter.unusedSimpArgs false
set_option maxHeartbeats 1000000 in
theorem qleft_d {W : World} {B : Nat} {ad : Option Addr} {cap n : Nat} {L : List Int} {p : Nat} (h : Rdq W B ad cap n L p) (hn : n ≤ 1000000) :
    Calls Tryz.prog 90 #[.pointer (some ⟨B, 0, none⟩)] W fun r w' => r = .returned (.int .i64 ((n - p : Nat) : Int)) ∧ ∃ m, w' = W.drewN m := by
  have c0 := h.c0
  have c1 := h.c1
  have hle := h.le
  have hi : (n : Int) ≤ 1000000 := by omega
  have hj : (p : Int) ≤ (n : Int) := by omega
  have e : ((n - p : Nat) : Int) = (n : Int) - (p : Int) := by omega
  rw [e]
  clear h e hle
  go_enter Tryz.func90, Tryz.ntmps90
  go_wp2_with fail
  go_quiet (fail)
  go_wp2_with fail
  go_ret
  exact ⟨rfl, _, rfl⟩
theorem mayR_no {R : List P1} (h : allB R = false) : mayR R = false := by simp [mayR, h]
theorem mayR_big {R : List P1} {n : Nat} (hn : R.length = n) (h : 3 < n) : mayR R = false := by
  have : mayR R ≠ true := fun e => by have := ((mayR_iff R).1 e).2.2; omega
  simpa using this
theorem mayR_none {R : List P1} {n : Nat} (hn : R.length = n) (h : n < 1) : mayR R = false := by
  have : mayR R ≠ true := fun e => by have := ((mayR_iff R).1 e).2.1; omega
  simpa using this
set_option maxRecDepth 100000 in
set_option maxHeartbeats 1000000 in
theorem refmay_law (a : Option Addr) (R : List P1) (n cap : Nat) (hn : R.length = n) (w : World) (hR : RdR w a R) :
    Calls Tryz.prog 72 #[.slice a n cap] w fun r w' => r = .returned (.bool (mayR R)) ∧ w = w' := by
  have HR := Lib.hid hR
  have HN := Lib.hid hn
  clear hR hn
  go_enter Tryz.func72, Tryz.ntmps72
  go_wp2_with fail
  go_loopw [3] (fun i wr => ∃ k : Nat, k ≤ n ∧ k ≤ 4 ∧ i = .int .i64 k ∧ (∀ j < k, ∀ p, R[j]? = some p → p.bs.length ≤ 24) ∧ w = wr) (fun i _ => n - (intOf i).toNat)
  case atStart => exact ⟨0, by omega, by omega, rfl, fun j hj => absurd hj (by omega), rfl⟩
  case round =>
    obtain ⟨k, hk, hk4, rfl, hpre, rfl⟩ := hrel
    have HP := Lib.hid hpre
    clear hpre
    by_cases hlt : k < n
    · have hkl : (k : Int) < (n : Int) := by omega
      by_cases h4 : k < 4
      · have hk4l : (k : Int) < 4 := by omega
        obtain ⟨p, hp⟩ : ∃ p, R[k]? = some p := ⟨_, List.getElem?_eq_getElem (by rw [HN.out]; exact hlt)⟩
        obtain ⟨b1, o1, e1, c1, l1⟩ := HR.out k p hp
        subst e1
        have c2 : w.cell? ⟨b1, o1 + k, none⟩ = some (.slice p.ad p.bs.length p.cap) := c1
        obtain ⟨m, hm⟩ : ∃ m, p.bs.length = m := ⟨_, rfl⟩
        rw [hm] at c2
        have HM := Lib.hid hm
        have HPP := Lib.hid hp
        clear c1 hp hm l1
        by_cases hm2 : 24 < m
        · have hml : (24 : Int) < (m : Int) := by omega
          have HA := Lib.hid (mayR_no (allB_not HPP.out (by rw [HM.out]; omega)))
          go_wp2_with fail
          go_ret
          exact ⟨ret_bool HA.out.symm, rfl⟩
        · have hml : ¬ (24 : Int) < (m : Int) := by omega
          go_wp2_with fail
          go_roundw
          case rel => exact ⟨k + 1, by omega, by omega, by go_num, jstep HP.out (fun p' hp' => by have := HPP.out; rw [hp'] at this; cases this; have := HM.out; omega), trivial⟩
          case measure => simp [intOf]; omega
      · have hk4l : ¬ (k : Int) < 4 := by omega
        have HA := Lib.hid (mayR_big HN.out (by omega))
        have h1 : (1 : Int) ≤ (n : Int) := by omega
        have h3 : ¬ (n : Int) ≤ 3 := by omega
        go_wp2_with fail
        go_ret
        exact ⟨ret_bool HA.out.symm, rfl⟩
    · have hkl : ¬ (k : Int) < (n : Int) := by omega
      by_cases h1 : 1 ≤ n
      · have h1i : (1 : Int) ≤ (n : Int) := by omega
        by_cases h3 : n ≤ 3
        · have h3i : (n : Int) ≤ 3 := by omega
          have HA := Lib.hid (show mayR R = true from (mayR_iff R).2 ⟨fun p hp => by
            obtain ⟨j, hj, e⟩ := List.mem_iff_getElem.1 hp
            exact HP.out j (by have := HN.out; omega) p (by rw [List.getElem?_eq_getElem hj, e]), by have := HN.out; omega, by have := HN.out; omega⟩)
          go_wp2_with fail
          go_ret
          exact ⟨ret_bool HA.out.symm, rfl⟩
        · have h3i : ¬ (n : Int) ≤ 3 := by omega
          have HA := Lib.hid (mayR_big HN.out (by omega))
          go_wp2_with fail
          go_ret
          exact ⟨ret_bool HA.out.symm, rfl⟩
      · have h1i : ¬ (1 : Int) ≤ (n : Int) := by omega
        have HA := Lib.hid (mayR_none HN.out (by omega))
        go_wp2_with fail
        go_ret
        exact ⟨ret_bool HA.out.symm, rfl⟩
/-- The document's MayKey (71). -/
theorem rmaykey_law (a : Option Addr) (n cap : Nat) (w : World) : Calls Tryz.prog 71 #[.slice a n cap] w fun r w' => r = .returned (.bool (mayK n)) ∧ w = w' := by
  unfold mayK
  rcases (show n < 1 ∨ (1 ≤ n ∧ n ≤ 32) ∨ (1 ≤ n ∧ ¬ n ≤ 32) by omega) with h | ⟨h1, h2⟩ | ⟨h1, h2⟩
  · rw [decide_eq_false (by omega)]
    have hi : ¬ (1 : Int) ≤ (n : Int) := by omega
    go_enter Tryz.func71, Tryz.ntmps71
    go_wp2
    go_ret
    exact ⟨rfl, rfl⟩
  · rw [decide_eq_true (by omega)]
    have hi : (1 : Int) ≤ (n : Int) := by omega
    have hj : (n : Int) ≤ 32 := by omega
    go_enter Tryz.func71, Tryz.ntmps71
    go_wp2
    go_ret
    exact ⟨rfl, rfl⟩
  · rw [decide_eq_false (by omega)]
    have hi : (1 : Int) ≤ (n : Int) := by omega
    have hj : ¬ (n : Int) ≤ 32 := by omega
    go_enter Tryz.func71, Tryz.ntmps71
    go_wp2
    go_ret
    exact ⟨rfl, rfl⟩
/-- The document's MayTID (68). -/
theorem rmaytid_law (e s : Int) (w : World) : Calls Tryz.prog 68 #[.agg #[.int .i64 e, .int .i64 s]] w fun r w' => r = .returned (.bool (tidB e s)) ∧ Below w.heap.size w w' := by
  unfold tidB inB
  have hb : Below w.heap.size w (w.alloc (.cells #[.int .i64 e, .int .i64 s] 36)) := bl1 _ _
  have HBX := Lib.hid hb
  clear hb
  by_cases h1 : 1 ≤ e
  · by_cases h2 : e ≤ 16777215
    · by_cases h3 : 1 ≤ s
      · by_cases h4 : s ≤ 2147483647
        · rw [decide_eq_true ⟨h1, h2⟩, decide_eq_true ⟨h3, h4⟩]
          go_enter Tryz.func68, Tryz.ntmps68
          go_wp2
          go_ret
          exact ⟨rfl, HBX.out⟩
        · rw [decide_eq_true ⟨h1, h2⟩, decide_eq_false (fun h => h4 h.2)]
          go_enter Tryz.func68, Tryz.ntmps68
          go_wp2
          go_ret
          exact ⟨rfl, HBX.out⟩
      · rw [decide_eq_true ⟨h1, h2⟩, decide_eq_false (fun h => h3 h.1)]
        go_enter Tryz.func68, Tryz.ntmps68
        go_wp2
        go_ret
        exact ⟨rfl, HBX.out⟩
    · rw [decide_eq_false (fun h => h2 h.2), Bool.false_and]
      go_enter Tryz.func68, Tryz.ntmps68
      go_wp2
      go_ret
      exact ⟨rfl, HBX.out⟩
  · rw [decide_eq_false (fun h => h1 h.1), Bool.false_and]
    go_enter Tryz.func68, Tryz.ntmps68
    go_wp2
    go_ret
    exact ⟨rfl, HBX.out⟩
def SmlQ (W : World) (B : Nat) (R : List Int) (most : Nat) (r : Ending) (w' : World) : Prop :=
  ((upP most R = none ∧ (∃ z : Int, r = .returned (.tuple #[.int .i64 z, .bool false])) ∧ ∃ R', RqS w' B R') ∨
    ∃ (x : Nat) (R' : List Int), upP most R = some (x, R') ∧ x ≤ most ∧ r = .returned (.tuple #[.int .i64 (x : Int), .bool true]) ∧ RqS w' B R') ∧ W.grownBy w' (some B)
set_option maxRecDepth 100000 in
set_option maxHeartbeats 4000000 in
/-- small (88). -/
theorem small_law {W : World} {B : Nat} {R : List Int} (h : RqS W B R) (most : Nat) (hm : most ≤ 2147483647) :
    Calls Tryz.prog 88 #[.pointer (some ⟨B, 0, none⟩), .int .i64 (most : Int)] W (SmlQ W B R most) := by
  obtain ⟨ad, cap, n, L, p, h1, h2, h3, h4⟩ := h
  have HQ := Lib.hid (qnumber h1 h3 h4)
  have HR := Lib.hid h2
  have HB := Lib.hid (And.intro h3 h4)
  have hwm : IntKind.u64.wrap (most : Int) = (most : Int) := by rw [IntKind.wrap_u64]; omega
  clear h1 h2 h3 h4
  go_enter Tryz.func88, Tryz.ntmps88
  go_wp2_with fail
  refine HQ.out.mono ?_
  rintro r w1 ⟨⟨e1, rfl, hr⟩ | ⟨v, j, e1, hv, hj, rfl, hr⟩, hg⟩
  · have HX := Lib.hid (show upP most R = none by unfold upP; rw [← HR.out, e1])
    have H := Lib.hid (And.intro hr hg)
    clear e1 hr hg HQ
    go_wp2_with fail
    go_ret2
    exact ⟨.inl ⟨HX.out, ⟨_, rfl⟩, _, ad, cap, n, L, p, H.out.1, rfl, HB.out.1, HB.out.2⟩, H.out.2⟩
  have H := Lib.hid (And.intro hr hg)
  obtain ⟨z, hz⟩ : ∃ z, IntKind.i64.wrap (v : Int) = z := ⟨_, rfl⟩
  by_cases hle : v ≤ most
  · have HX := Lib.hid (show upP most R = some (v, L.drop (p + j)) by unfold upP; rw [← HR.out, e1]; simp only [List.drop_drop, hle, if_true])
    have d1 : (v : Int) ≤ (most : Int) := by omega
    have HZ := Lib.hid (show z = (v : Int) by rw [← hz, IntKind.wrap_i64]; omega)
    have HLE := Lib.hid hle
    clear e1 hr hg HQ hle
    go_wp2_with fail
    go_ret2
    exact ⟨.inr ⟨v, _, HX.out, HLE.out, by rw [HZ.out]; rfl, ad, cap, n, L, p + j, H.out.1, rfl, HB.out.1, HB.out.2⟩, H.out.2⟩
  · have HX := Lib.hid (show upP most R = none by unfold upP; rw [← HR.out, e1]; simp only [hle, if_false])
    have d1 : ¬ (v : Int) ≤ (most : Int) := by omega
    have d2 : decide (v ≤ most) = false := by simp; omega
    clear e1 hr hg HQ hle
    go_wp2_with fail
    go_ret2
    exact ⟨.inl ⟨HX.out, ⟨z, rfl⟩, _, ad, cap, n, L, p + j, H.out.1, rfl, HB.out.1, HB.out.2⟩, H.out.2⟩
def FlgQ (W : World) (B : Nat) (R : List Int) (r : Ending) (w' : World) : Prop :=
  ((flagP R = none ∧ r = .returned (.tuple #[.bool false, .int .i64 4]) ∧ RqS w' B R) ∨
    ∃ (f : Bool) (R' : List Int), flagP R = some (f, R') ∧ r = .returned (.tuple #[.bool f, .int .i64 0]) ∧ RqS w' B R') ∧ W.grownBy w' (some B)
set_option maxRecDepth 100000 in
set_option maxHeartbeats 4000000 in
/-- The document's Flag (125). -/
theorem flagq_law {W : World} {B : Nat} {R : List Int} (h : RqS W B R) :
    Calls Tryz.prog 125 #[.pointer (some ⟨B, 0, none⟩)] W (FlgQ W B R) := by
  obtain ⟨ad, cap, n, L, p, h1, h2, h3, h4⟩ := h
  obtain ⟨m, hm⟩ : ∃ m, n - p = m := ⟨_, rfl⟩
  have HL := Lib.hid (fun k => by have := qleft_d (h1.drewN k) h3; rw [hm] at this; exact this)
  have HB := Lib.hid (And.intro h3 h4)
  have c0 := h1.c0
  have c1 := h1.c1
  have H1 := Lib.hid h1
  have hpn := h1.le
  have hni : (n : Int) ≤ 1000000 := by omega
  have HR := Lib.hid h2
  by_cases hz : m = 0
  · have e0 : ((m : Int) == 0) = true := by rw [hz]; rfl
    have e0' : (m == 0) = true := by rw [hz]; rfl
    have HX := Lib.hid (show flagP R = none by rw [← h2, List.drop_of_length_le (by rw [h1.len]; omega)]; rfl)
    clear h1 h2 h4 hm hz
    go_enter Tryz.func125, Tryz.ntmps125
    go_wp2_with fail
    go_quiet ((go_at_call 90; exact Calls.quiet_of (HL.out _)))
    go_wp2_with fail
    go_ret2
    exact ⟨.inl ⟨HX.out, rfl, ad, cap, n, L, p, H1.out.drewN _, HR.out, HB.out.1, HB.out.2⟩, oth_below B (below_drewN (Below.refl _ _) _)⟩
  have hpl : p < n := by omega
  have hpi : (p : Int) < (n : Int) := by omega
  have e0 : ((m : Int) == 0) = false := by simp; omega
  have e0' : (m == 0) = false := by simp; omega
  obtain ⟨b1, o1, ea, d1⟩ := h1.here.get p (by rw [h1.len]; exact hpl)
  subst ea
  obtain ⟨cb0, cb1⟩ := h4.get p (by rw [h1.len]; exact hpl)
  have hR := drop_cons (D := L) (k := p) (by rw [h1.len]; exact hpl)
  obtain ⟨c, hc⟩ : ∃ c, L.getD p 0 = c := ⟨_, rfl⟩
  rw [hc] at d1 cb0 cb1 hR
  rw [hR] at h2
  by_cases h1c : 1 < c
  · have HX := Lib.hid (show flagP R = none by rw [← h2]; show (if c ≤ 1 then some (decide (c = 1), L.drop (p + 1)) else none) = _; rw [if_neg (by omega)])
    clear h1 h2 h4 hm hz hc hR
    go_enter Tryz.func125, Tryz.ntmps125
    go_wp2_with fail
    go_quiet ((go_at_call 90; exact Calls.quiet_of (HL.out _)))
    go_wp2_with fail
    go_ret2
    exact ⟨.inl ⟨HX.out, rfl, _, cap, n, L, p, H1.out.drewN _, HR.out, HB.out.1, HB.out.2⟩, oth_below B (below_drewN (Below.refl _ _) _)⟩
  · have HX := Lib.hid (show flagP R = some (decide (c = 1), L.drop (p + 1)) by rw [← h2]; show (if c ≤ 1 then some (decide (c = 1), L.drop (p + 1)) else none) = _; rw [if_pos (by omega)])
    obtain ⟨f, hf⟩ : ∃ f, (c == 1) = f := ⟨_, rfl⟩
    have HF := Lib.hid (show decide (c = 1) = f by rw [← hf]; rw [Bool.eq_iff_iff]; simp)
    obtain ⟨q, hq⟩ : ∃ q, p + 1 = q := ⟨_, rfl⟩
    have hqi : IntKind.i64.wrap ((p : Int) + 1) = (q : Int) := by rw [IntKind.wrap_i64]; omega
    have hqs : IntKind.i64.wrap ((q : Int) - 1) = (p : Int) := by rw [IntKind.wrap_i64]; omega
    have hmv := Lib.hid (fun w (hr : Rdq w B (some ⟨b1, o1, none⟩) cap n L p) => hr.move q (by omega))
    have f1 := h1.f1
    rw [hq] at HX
    have HCC := Lib.hid hc
    clear h1 h2 h4 hm hz hc hR hq
    go_enter Tryz.func125, Tryz.ntmps125
    go_wp2_with fail
    go_quiet ((go_at_call 90; exact Calls.quiet_of (HL.out _)))
    go_upto_region 4 with (fail)
    have h4 := hmv.out _ (H1.out.drewN nq)
    have g4 := oth_trans (oth_below B (below_drewN (Below.refl W.heap.size W) nq)) (oth_set (W.drewN nq) B 1 (.int .i64 (q : Int)))
    generalize (W.drewN nq).setCell ⟨B, 1, none⟩ (.int .i64 (q : Int)) = W4 at h4 g4 ⊢
    clear c0 c1 f1 d1
    have c0 := h4.c0
    have c1 := h4.c1
    obtain ⟨b2, o2, ea, d1⟩ := h4.here.get p (by rw [h4.len]; exact hpl)
    cases ea
    rw [HCC.out] at d1
    have H4 := Lib.hid h4
    have G4 := Lib.hid g4
    clear h4 g4
    go_quiet (fail)
    go_wp2_with fail
    go_ret2
    exact ⟨.inr ⟨f, _, by rw [HX.out, HF.out], rfl, _, cap, n, L, q, H4.out.drewN _, rfl, HB.out.1, HB.out.2⟩, oth_trans G4.out (oth_below B (below_drewN (Below.refl _ _) _))⟩
end Go.Proofs.YtglkndoghnblcaaGreat
namespace Go.Proofs.YtglkndoghnblcaaGreat
open Go.ChangeShapes Go.WideShapes Go.ChangeAt Go.RowKit
set_option linter.unusedVariables false
set_option linter.unusedSimpArgs false
theorem wBelow {w W1 w' : World} (h : Below w.heap.size w W1) (g : W1.grownBy w' (some w.heap.size)) (hsz : W1.heap.size = w.heap.size + 1) : Below w.heap.size w w' := below_oth h g (by omega) (Nat.le_refl _)
theorem rdq_box (w : World) (a : Option Addr) (cap n : Nat) (L : List Int) (hn : L.length = n) (hl : Ls .u8 w a cap L) : Rdq (w.alloc (.cells #[.slice a n cap, .int .i64 0] 148)) w.heap.size a cap n L 0 := by
  refine ⟨hn, by rw [cell_new]; rfl, by rw [cell_new]; rfl, by simp [go_sem], fun W2 h2 => ?_, Nat.zero_le _, fun h0 b off e => ?_⟩
  · have hl2 := hl.below ((Below.refl _ w).alloc (Nat.le_refl _) (.cells #[.slice a n cap, .int .i64 0] 148))
    refine ⟨fun k hk => ?_, hl.nl, hl.le⟩
    obtain ⟨b, off, e, hc⟩ := hl2.rd k hk
    exact ⟨b, off, e, (h2 (by omega) k b off e).trans hc⟩
  · obtain ⟨b1, o1, e1, hc⟩ := hl.get 0 (by omega)
    rw [e] at e1
    cases e1
    exact World.block_lt_of_cell? w _ hc
theorem rqs_box (w : World) (a : Option Addr) (cap n : Nat) (L : List Int) (hn : L.length = n) (hn2 : n ≤ 1000000) (hb : Byt L) (hl : Ls .u8 w a cap L) : RqS (w.alloc (.cells #[.slice a n cap, .int .i64 0] 148)) w.heap.size L :=
  ⟨a, cap, n, L, 0, rdq_box w a cap n L hn hl, rfl, hn2, hb⟩
def NumS (W : World) (B : Nat) (R : List Int) (r : Ending) (w' : World) : Prop :=
  ((numR 0 0 R = none ∧ r = .returned (.tuple #[.int .u64 0, .int .i64 4]) ∧ RqS w' B R) ∨
    ∃ v j : Nat, numR 0 0 R = some (v, j) ∧ v < 18446744073709551616 ∧ r = .returned (.tuple #[.int .u64 (v : Int), .int .i64 0]) ∧ RqS w' B (R.drop j)) ∧ W.grownBy w' (some B)
theorem numberq_law {W : World} {B : Nat} {R : List Int} (h : RqS W B R) : Calls Tryz.prog 141 #[.pointer (some ⟨B, 0, none⟩)] W (NumS W B R) := by
  obtain ⟨ad, cap, n, L, p, h1, rfl, h3, h4⟩ := h
  refine (qnumber h1 h3 h4).mono ?_
  rintro r w' ⟨⟨e1, rfl, hr⟩ | ⟨v, j, e1, hv, hj, rfl, hr⟩, hg⟩
  · exact ⟨.inl ⟨e1, rfl, ad, cap, n, L, p, hr, rfl, h3, h4⟩, hg⟩
  · exact ⟨.inr ⟨v, j, e1, hv, rfl, ad, cap, n, L, p + j, hr, by rw [List.drop_drop], h3, h4⟩, hg⟩
theorem RowsO.snoc {w w' : World} {base k : Nat} {fs : List (List Int)} {R : List P1} {p : P1} {v v' : Value} (h1 : R.map P1.bs = fs) (hk : fs.length = k) (h2 : w.ownsRow base 22 1 v k (R.map P1.v)) (h3 : ∀ q ∈ R, w.ownsRow base 5 1 q.v q.bs.length (iv .u8 q.bs)) (hp : w.ownsRow base 5 1 p.v p.bs.length (iv .u8 p.bs))
    (h' : w'.ownsRow base 22 1 v' (k + 1) (R.map P1.v ++ [p.v])) (g : w.grownBy w' v.ownBlock) : RowsO w' base (fs ++ [p.bs]) v' := by
  refine ⟨R ++ [p], by rw [List.map_append, h1]; rfl, ?_, fun q hq => ?_⟩
  · rw [List.length_append, hk, List.map_append]
    exact h'
  · rcases List.mem_append.1 hq with hq | hq
    · exact (h3 q hq).kept g (own_apart (h3 q hq) h2 (by decide))
    · simp only [List.mem_singleton] at hq
      subst hq
      exact hp.kept g (own_apart hp h2 (by decide))
set_option maxRecDepth 100000 in
set_option maxHeartbeats 4000000 in
/-- The document's Read (164). -/
theorem readq_law (a : Option Addr) (L : List Int) (n cap : Nat) (hL : L.length = n) (hn : n ≤ 1000000) (hB : Byt L) (w : World) (hA : Ls .u8 w a cap L) :
    Calls Tryz.prog 164 #[.slice a n cap] w (RowR w (rowP L)) := by
  obtain ⟨i0, hi, hz0, hz1, hz2⟩ := info_parts info24
  have H0 := Lib.hid (rqs_box w a cap n L hL hn hB hA)
  clear hA hB hL
  go_enter Tryz.func164, Tryz.ntmps164
  go_wp2_with fail
  have B0 : Below w.heap.size w (w.alloc (.cells #[.slice a n cap, .int .i64 0] 148)) := (Below.refl _ _).alloc (Nat.le_refl _) _
  have hsz : (w.alloc (.cells #[.slice a n cap, .int .i64 0] 148)).heap.size = w.heap.size + 1 := by simp
  generalize w.alloc (.cells #[.slice a n cap, .int .i64 0] 148) = W1 at H0 B0 hsz ⊢
  have HB0 := Lib.hid B0
  have HSZ := Lib.hid hsz
  clear B0 hsz
  refine (numberq_law H0.out).mono ?_
  rintro r w2 ⟨⟨e1, rfl, hr⟩ | ⟨c0, j, e1, hc0, rfl, hr⟩, g2⟩
  · have HX := Lib.hid (show rowP L = none from rowP_1 (by unfold listP upP; rw [e1]))
    have HBE := Lib.hid (wBelow HB0.out g2 HSZ.out)
    clear e1 hr g2
    go_wp2_with fail
    go_ret2
    exact ⟨.inl ⟨HX.out, rfl⟩, HBE.out⟩
  by_cases h1 : c0 < 1
  · have d1 : (c0 : Int) < 1 := by omega
    have HX := Lib.hid (show rowP L = none by
      have e : listP 3 (bytesP 24) L = some ([], L.drop j) := by
        unfold listP upP
        rw [e1]
        obtain rfl : c0 = 0 := by omega
        rfl
      exact rowP_2 e (by simp [mayF]))
    have HBE := Lib.hid (wBelow HB0.out g2 HSZ.out)
    clear e1 hr g2
    go_wp2_with fail
    go_ret2
    exact ⟨.inl ⟨HX.out, rfl⟩, HBE.out⟩
  have d1 : ¬ (c0 : Int) < 1 := by omega
  by_cases h3 : 3 < c0
  · have d3 : (3 : Int) < (c0 : Int) := by omega
    have HX := Lib.hid (show rowP L = none from rowP_1 (by unfold listP upP; rw [e1]; simp only; rw [if_neg (by omega)]))
    have HBE := Lib.hid (wBelow HB0.out g2 HSZ.out)
    clear e1 hr g2
    go_wp2_with fail
    go_ret2
    exact ⟨.inl ⟨HX.out, rfl⟩, HBE.out⟩
  have d3 : ¬ (3 : Int) < (c0 : Int) := by omega
  have hc3 : (c0 : Int) ≤ 3 := by omega
  have HL0 := Lib.hid (show listP 3 (bytesP 24) L = addP [] (manyP (bytesP 24) (c0 - 0) (L.drop j)) by
    rw [addP_nil]
    unfold listP upP
    rw [e1]
    simp only
    rw [if_pos (by omega)]
    rfl)
  have hcw : IntKind.i64.wrap (c0 : Int) = (c0 : Int) := by rw [IntKind.wrap_i64]; omega
  have HS0 := Lib.hid hr
  have HG0 := Lib.hid g2
  have HZ0 := Lib.hid (show w.heap.size + 1 ≤ w2.heap.size by rw [← HSZ.out]; exact g2.size)
  have HC := Lib.hid (show 1 ≤ c0 ∧ c0 ≤ 3 by omega)
  clear e1 hr g2 h1 h3 H0
  go_wp2_with fail
  go_loopw [7, 8] (fun v i wr => ∃ (k : Nat) (fs : List (List Int)) (Rk : List Int), k ≤ c0 ∧ i = .int .i64 (k : Int) ∧ Hid (fs.length = k ∧ listP 3 (bytesP 24) L = addP fs (manyP (bytesP 24) (c0 - k) Rk) ∧ ∀ f ∈ fs, f.length ≤ 24) ∧ Hid (RowsO wr (w.heap.size + 1) fs v) ∧ Hid (RqS wr w.heap.size Rk) ∧ Hid (W1.grownBy wr (some w.heap.size)) ∧ Hid (w.heap.size + 1 ≤ wr.heap.size)) (fun _ i _ => c0 - (intOf i).toNat)
  case atStart => exact ⟨0, [], _, by omega, rfl, Lib.hid ⟨rfl, HL0.out, fun f hf => by simp at hf⟩, Lib.hid (RowsO.nil _ _), HS0, HG0, HZ0⟩
  case round =>
    clear HL0 HS0 HG0 HZ0
    obtain ⟨k, fs, Rk, hk, rfl, HL, HO, HS, HG, HZ⟩ := hrel
    by_cases hlt : k < c0
    · have d4 : (k : Int) < (c0 : Int) := by omega
      have RO := Lib.hid (bytesq_law HS.out 24 (by decide))
      go_wp2_with fail
      refine RO.out.mono ?_
      rintro e w4 ⟨⟨h1, ⟨er, her, rfl⟩, _⟩ | ⟨b, R', a1, c1, h1, rfl, h2, h3⟩, g1⟩
      · have HX := Lib.hid (show rowP L = none from rowP_1 (by rw [HL.out.2.1]; exact manyP_stop hlt fs h1))
        have HBE := Lib.hid (wBelow HB0.out (oth_trans HG.out g1) HSZ.out)
        have hne : (er != 0) = true := by rcases her with rfl | rfl <;> rfl
        clear h1 her g1
        go_wp2_with fail
        go_ret2
        exact ⟨.inl ⟨HX.out, rfl⟩, HBE.out⟩
      · have HN := Lib.hid (show (fs ++ [b]).length = k + 1 ∧ listP 3 (bytesP 24) L = addP (fs ++ [b]) (manyP (bytesP 24) (c0 - (k + 1)) R') ∧ ∀ f ∈ fs ++ [b], f.length ≤ 24 from ⟨by rw [List.length_append, HL.out.1]; rfl, by rw [HL.out.2.1]; exact manyP_next hlt fs h1, fun f hf => by
          rcases List.mem_append.1 hf with hf | hf
          · exact HL.out.2.2 f hf
          · rw [List.mem_singleton] at hf
            subst hf
            exact (bytesP_inv HS.out.byt h1).1⟩)
        have hz4 : w.heap.size + 1 ≤ w4.heap.size := Nat.le_trans HZ.out g1.size
        obtain ⟨R, hr1, hr2, hr3⟩ := HO.out.oth (by omega) g1
        rw [HL.out.1] at hr2
        have HR1 := Lib.hid hr1
        have HR2 := Lib.hid hr2
        have HR3 := Lib.hid hr3
        have HP := Lib.hid (own_base HZ.out h2)
        have HS4 := Lib.hid h3
        have HG4 := Lib.hid (oth_trans HG.out g1)
        have HAL := Lib.hid (show Below (w.heap.size + 1) w4 (w4.alloc (.cells #[.slice a1 b.length c1] 22)) from (Below.refl _ w4).alloc hz4 _)
        obtain ⟨bl, hbl⟩ : ∃ bl, b.length = bl := ⟨_, rfl⟩
        have HBL := Lib.hid hbl
        rw [hbl] at HAL HP ⊢
        clear h1 h2 h3 g1 hr1 hr2 hr3 hbl HO HS HG RO
        go_wp2_with (at_builtin; refine wpList_append_own _ rfl (.tmp 42) (.tmp 44) 49 rfl (w.heap.size + 1) 22 i0 (.slice none 0 0) 1 24 Tryz.underlying49 hi hz0 hz1 hz2 rfl (by decide) _ k (R.map P1.v) rfl (HR2.out.alloc _) ⟨w4.heap.size, 0, none⟩ 1 1 [.slice a1 bl c1] rfl rfl (by intro j u hj; match j, hj with | 0, hj => (simp at hj; subst hj; simp [Addr.add, go_sem]) | j + 1, hj => simp at hj) (by intro u hu; simp at hu; subst hu; rfl) (by unfold maxLen; omega) (by omega) (by simp; omega) ?_)
        intro v6 w6 hown6 hgrow6 _
        have b6 : Below (w.heap.size + 1) w4 w6 := HAL.out.grown hgrow6 (by simp; omega) (fun j hj => (HR2.out.lt j hj).1)
        have HO6 := Lib.hid (RowsO.snoc (p := ⟨a1, c1, b⟩) HR1.out HL.out.1 (HR2.out.alloc (.cells #[.slice a1 bl c1] 22)) (fun q hq => (HR3.out q hq).alloc _) (by unfold P1.v; simp only; rw [HBL.out]; exact HP.out.alloc _) (by unfold P1.v; simp only; rw [HBL.out]; exact hown6) hgrow6)
        have HS6 := Lib.hid (HS4.out.below1 (b6.mono (Nat.le_refl _)))
        have HG6 := Lib.hid (grown_below HG4.out (b6.mono (by have := HSZ.out; omega)))
        have HZ6 := Lib.hid (show w.heap.size + 1 ≤ w6.heap.size from Nat.le_trans hz4 b6.size)
        clear b6 hown6 hgrow6
        go_wp2_with fail
        go_roundw
        case rel => exact ⟨k + 1, fs ++ [b], R', by omega, by go_num, HN, HO6, HS6, HG6, HZ6⟩
        case measure => simp [intOf]; omega
    · have d4 : ¬ (k : Int) < (c0 : Int) := by omega
      have HYES := Lib.hid (show listP 3 (bytesP 24) L = some (fs, Rk) by rw [HL.out.2.1, show c0 - k = 0 by omega]; simp [manyP, addP])
      obtain ⟨m, hm⟩ : ∃ m, Rk.length = m := ⟨_, rfl⟩
      have HLF := Lib.hid (leftq_law HS.out m hm)
      by_cases hm0 : 0 < m
      · have d5 : (0 : Int) < (m : Int) := by omega
        have HX := Lib.hid (show rowP L = none from rowP_2 HYES.out (fun h => by rw [h.1] at hm; simp at hm; omega))
        clear hm
        go_wp2_with fail
        refine HLF.out.mono ?_
        rintro r w5 ⟨rfl, hb5⟩
        have HBE := Lib.hid (wBelow HB0.out (oth_trans HG.out (oth_below _ hb5)) HSZ.out)
        clear hb5
        go_wp2_with fail
        go_ret2
        exact ⟨.inl ⟨HX.out, rfl⟩, HBE.out⟩
      · have d5 : ¬ (0 : Int) < (m : Int) := by omega
        have HX := Lib.hid (show rowP L = some fs from by
          have : Rk = [] := List.length_eq_zero_iff.1 (by omega)
          have hy := HYES.out
          rw [this] at hy
          refine rowP_3 hy ?_
          unfold mayF
          rw [Bool.and_eq_true, List.all_eq_true]
          exact ⟨fun f hf => decide_eq_true (HL.out.2.2 f hf), decide_eq_true (by have := HL.out.1; have := HC.out; omega)⟩)
        clear hm
        go_wp2_with fail
        refine HLF.out.mono ?_
        rintro r w5 ⟨rfl, hb5⟩
        have HBE := Lib.hid (wBelow HB0.out (oth_trans HG.out (oth_below _ hb5)) HSZ.out)
        have HO5 := Lib.hid ((HO.out.below hb5).base (show w.heap.size ≤ w.heap.size + 1 by omega))
        clear hb5
        go_wp2_with fail
        go_ret2
        exact ⟨.inr ⟨fs, _, HX.out, rfl, HO5.out⟩, HBE.out⟩
end Go.Proofs.YtglkndoghnblcaaGreat
namespace Go.Proofs.YtglkndoghnblcaaGreat
open Go.ChangeShapes Go.WideShapes Go.ChangeAt Go.RowKit
set_option linter.unusedVariables false
set_option linter.unusedSimpArgs false
set_option maxRecDepth 100000 in
set_option maxHeartbeats 4000000 in
/-- The document's Copy of a row (54). -/
theorem rcopy_law (a : Option Addr) (R : List P1) (n cap : Nat) (hn : R.length = n) (hn2 : n ≤ 1000000) (hl : ∀ p ∈ R, p.bs.length ≤ 1000000) (w : World) (hR : RdR w a R) :
    Calls Tryz.prog 54 #[.slice a n cap] w fun r w' => ∃ v, r = .returned v ∧ RowsO w' w.heap.size (R.map P1.bs) v ∧ Below w.heap.size w w' := by
  obtain ⟨i0, hi, hz0, hz1, hz2⟩ := info_parts info24
  have HR := Lib.hid hR
  have HN := Lib.hid hn
  have HL := Lib.hid hl
  clear hR hn hl
  go_enter Tryz.func54, Tryz.ntmps54
  go_wp2_with fail
  go_loopw [3, 4] (fun v i wr => ∃ (k : Nat) (fs : List (List Int)), k ≤ n ∧ i = .int .i64 (k : Int) ∧ Hid (fs = (R.map P1.bs).take k) ∧ Hid (RowsO wr w.heap.size fs v) ∧ Hid (Below w.heap.size w wr)) (fun _ i _ => n - (intOf i).toNat)
  case atStart => exact ⟨0, [], by omega, rfl, Lib.hid (by simp), Lib.hid (RowsO.nil _ _), Lib.hid (Below.refl _ _)⟩
  case round =>
    obtain ⟨k, fs, hk, rfl, HF, HO, HB⟩ := hrel
    have hfl : fs.length = k := by rw [HF.out, List.length_take, List.length_map, HN.out]; omega
    by_cases hlt : k < n
    · have d1 : (k : Int) < (n : Int) := by omega
      obtain ⟨x, hx⟩ : ∃ x, R[k]? = some x := ⟨_, List.getElem?_eq_getElem (by rw [HN.out]; exact hlt)⟩
      obtain ⟨b1, o1, ea, cc, hls⟩ := (HR.out.below HB.out) k x hx
      subst ea
      unfold P1.v at cc
      have hxl := HL.out x (List.mem_of_getElem? hx)
      have HNX := Lib.hid (show fs ++ [x.bs] = (R.map P1.bs).take (k + 1) by rw [List.take_add_one, List.getElem?_map, hx, HF.out]; rfl)
      obtain ⟨xb, hxb⟩ : ∃ y, x.bs = y := ⟨_, rfl⟩
      obtain ⟨xl, hxl'⟩ : ∃ y, xb.length = y := ⟨_, rfl⟩
      obtain ⟨xa, hxa⟩ : ∃ y, x.ad = y := ⟨_, rfl⟩
      obtain ⟨xc, hxc⟩ : ∃ y, x.cap = y := ⟨_, rfl⟩
      rw [hxa, hxb, hxl', hxc] at cc
      rw [hxa, hxc, hxb] at hls
      rw [hxb, hxl'] at hxl
      rw [hxb] at HNX
      have HLS := Lib.hid (And.intro hxl' hls)
      clear hx hxb hxl' hxa hxc hls
      go_wp2_with (at_builtin; refine append_ls eltB rfl (.const (.slice none 0 0)) (.tmp 15) rfl wr.heap.size _ 0 [] rfl (World.ownsRow_nil _ _ _ _) _ _ xl xb HLS.out.1 rfl HLS.out.2 (by omega) (Nat.le_refl _) ?_)
      intro v4 w4 ho4 hg4
      try rw [Nat.zero_add] at ho4
      try rw [List.nil_append] at ho4
      obtain ⟨a4, c4, rfl⟩ := own_form ho4
      have hb4 : Below wr.heap.size wr w4 := (Below.refl _ wr).grown hg4 (Nat.le_refl _) (fun j hj => by cases hj)
      have HB4 := Lib.hid (step_below HB.out hb4)
      have hz4 : w.heap.size ≤ w4.heap.size := HB4.out.size
      obtain ⟨RR, hr1, hr2, hr3⟩ := HO.out.below hb4
      rw [hfl] at hr2
      have HR1 := Lib.hid hr1
      have HR2 := Lib.hid hr2
      have HR3 := Lib.hid hr3
      have HP := Lib.hid (own_base HB.out.size ho4)
      have HAL := Lib.hid (show Below w.heap.size w4 (w4.alloc (.cells #[.slice a4 xl c4] 22)) from (Below.refl _ w4).alloc hz4 _)
      clear hr1 hr2 hr3 hb4 hg4 ho4 HO cc
      go_wp2_with (at_builtin; refine wpList_append_own _ rfl (.tmp 11) (.tmp 17) 49 rfl w.heap.size 22 i0 (.slice none 0 0) 1 24 Tryz.underlying49 hi hz0 hz1 hz2 rfl (by decide) _ k (RR.map P1.v) rfl (HR2.out.alloc _) ⟨w4.heap.size, 0, none⟩ 1 1 [.slice a4 xl c4] rfl rfl (by intro j u hj; match j, hj with | 0, hj => (simp at hj; subst hj; simp [Addr.add, go_sem]) | j + 1, hj => simp at hj) (by intro u hu; simp at hu; subst hu; rfl) (by unfold maxLen; omega) (by omega) (by simp; omega) ?_)
      intro v6 w6 hown6 hgrow6 _
      have b6 : Below w.heap.size w4 w6 := HAL.out.grown hgrow6 (by simp; omega) (fun j hj => (HR2.out.lt j hj).1)
      have HO6 := Lib.hid (RowsO.snoc (p := ⟨a4, c4, xb⟩) HR1.out hfl (HR2.out.alloc (.cells #[.slice a4 xl c4] 22)) (fun q hq => (HR3.out q hq).alloc _) (by unfold P1.v; simp only; rw [HLS.out.1]; exact HP.out.alloc _) (by unfold P1.v; simp only; rw [HLS.out.1]; exact hown6) hgrow6)
      have HB6 := Lib.hid (HB4.out.trans b6)
      clear b6 hown6 hgrow6
      go_wp2_with fail
      go_roundw
      case rel => exact ⟨k + 1, fs ++ [xb], by omega, by go_num, HNX, HO6, HB6⟩
      case measure => simp [intOf]; omega
    · have d1 : ¬ (k : Int) < (n : Int) := by omega
      obtain rfl : k = n := by omega
      have HFE := Lib.hid (show fs = R.map P1.bs by rw [HF.out, List.take_of_length_le (by rw [List.length_map, HN.out]; exact Nat.le_refl _)])
      go_wp2_with fail
      go_ret
      exact ⟨_, rfl, by rw [← HFE.out]; exact HO.out, HB.out⟩
end Go.Proofs.YtglkndoghnblcaaGreat
namespace Go.Proofs.YtglkndoghnblcaaGreat
open Go.ChangeShapes Go.WideShapes Go.ChangeAt Go.RowKit
set_option linter.unusedVariables false
set_option linter.unusedSimpArgs false
theorem txsL_le : ∀ FS, (txsL FS).length ≤ FS.length
  | [] => Nat.le_refl _
  | p :: r => by
    unfold txsL
    cases oneTx p with
    | none => simp
    | some x => have := txsL_le r; simp; omega
end Go.Proofs.YtglkndoghnblcaaGreat
namespace Go.Proofs.YtglkndoghnblcaaGreat
open Go.ChangeShapes Go.WideShapes Go.ChangeAt Go.RowKit
set_option linter.unusedVariables false
set_option linter.unusedSimpArgs false
theorem txsL_all {L : List (List Int)} (h : ∀ p ∈ L, Byt p) : ∀ x ∈ txsL L, TxB x := by
  induction L with
  | nil => intro x hx; simp [txsL] at hx
  | cons p L ih =>
    intro x hx
    unfold txsL at hx
    cases ho : oneTx p with
    | none => rw [ho] at hx; simp at hx
    | some y =>
      rw [ho] at hx
      simp only [List.mem_cons] at hx
      rcases hx with rfl | hx
      · unfold oneTx at ho
        cases hr : readP (txnP p) with
        | none => rw [hr] at ho; cases ho
        | some z =>
          rw [hr] at ho
          simp only at ho
          split at ho
          · cases ho
            exact (txnP_all (h p (by simp)) (readP_some hr)).1
          · cases ho
      · exact ih (fun q hq => h q (by simp [hq])) x hx
end Go.Proofs.YtglkndoghnblcaaGreat
namespace Go.Proofs.YtglkndoghnblcaaGreat
open Go.ChangeShapes Go.WideShapes Go.ChangeAt Go.RowKit
set_option linter.unusedVariables false
set_option linter.unusedSimpArgs false
theorem listP_inv {α : Type} {most : Nat} {one : List Int → Option (α × List Int)} {put : α → List Int} (h1 : ∀ L x s, (∀ y ∈ L, 0 ≤ y ∧ y ≤ 255) → one L = some (x, s) → L = put x ++ s) {L r : List Int} {xs : List α} (hb : Byt L) (h : listP most one L = some (xs, r)) : xs.length ≤ most ∧ L = putL put xs ++ r := by
  unfold listP at h
  cases hu : upP most L with
  | none => rw [hu] at h; cases h
  | some q =>
    obtain ⟨n, s⟩ := q
    rw [hu] at h
    obtain ⟨k1, k2⟩ := upP_inv hb hu
    obtain ⟨m1, m2⟩ := manyP_inv h1 n s r xs (upP_rest hb hu) h
    refine ⟨by omega, ?_⟩
    unfold putL
    rw [k2, m2, m1, List.append_assoc]
theorem rowP_inv {L : List Int} {fs : List (List Int)} (hb : Byt L) (h : rowP L = some fs) : L = putL bytesW fs ∧ 1 ≤ fs.length := by
  unfold rowP at h
  cases hl : listP 3 (bytesP 24) L with
  | none => rw [hl] at h; cases h
  | some q =>
    obtain ⟨gs, r⟩ := q
    rw [hl] at h
    simp only at h
    split at h
    · rename_i hc
      cases h
      obtain ⟨rfl, hm⟩ := hc
      have := (listP_inv (put := bytesW) (fun L x s hb h => (bytesP_inv hb h).2) hb hl).2
      unfold mayF at hm
      rw [Bool.and_eq_true] at hm
      exact ⟨by rw [List.append_nil] at this; exact this, (of_decide_eq_true hm.2).1⟩
    · cases h
end Go.Proofs.YtglkndoghnblcaaGreat
namespace Go.Proofs.YtglkndoghnblcaaGreat
open Go.ChangeShapes Go.WideShapes Go.ChangeAt Go.RowKit
set_option linter.unusedVariables false
set_option linter.unusedSimpArgs false
end Go.Proofs.YtglkndoghnblcaaGreat
namespace Go.Proofs.YtglkndoghnblcaaGreat
open Go.ChangeShapes Go.WideShapes Go.ChangeAt Go.RowKit
set_option linter.unusedVariables false
set_option linter.unusedSimpArgs false
theorem frames_len : ∀ (n : Nat) (L : List Int), L.length ≤ n → ∀ p ∈ framesL L, 1 ≤ p.length ∧ p.length ≤ 4096
  | n, L, hn, p, hp => by
    cases hi : isL L with
    | false => rw [framesL_no hi] at hp; simp at hp
    | true =>
      have h1 := isL_iff.1 hi
      have h2 := bodyL_len hi
      match n with
      | 0 => omega
      | n + 1 =>
        rw [framesL_yes hi] at hp
        rcases List.mem_cons.1 hp with rfl | hp
        · omega
        · exact frames_len n (L.drop (8 + lenL L)) (by rw [List.length_drop]; omega) p hp
end Go.Proofs.YtglkndoghnblcaaGreat
namespace Go.Proofs.YtglkndoghnblcaaGreat
open Go.ChangeShapes Go.WideShapes Go.ChangeAt Go.RowKit
set_option linter.unusedVariables false
set_option linter.unusedSimpArgs false
theorem bytesP_up {m k : Nat} {L b r : List Int} (h : bytesP m L = some (b, r)) (hmk : m ≤ k) : bytesP k L = some (b, r) := by
  unfold bytesP upP at h ⊢
  cases hn : numR 0 0 L with
  | none => rw [hn] at h; cases h
  | some p =>
    obtain ⟨u, j⟩ := p
    rw [hn] at h
    simp only at h ⊢
    by_cases hu : u ≤ m
    · rw [if_pos hu] at h
      rw [if_pos (Nat.le_trans hu hmk)]
      exact h
    · rw [if_neg hu] at h; cases h
theorem rowW_80 {fs : List (List Int)} (h : mayF fs = true) : (putL bytesW fs).length ≤ 80 := by
  unfold mayF at h
  rw [Bool.and_eq_true] at h
  have h3 := of_decide_eq_true h.2
  have h4 : ∀ f ∈ fs, f.length ≤ 24 := fun f hf => of_decide_eq_true (List.all_eq_true.1 h.1 f hf)
  unfold putL
  have h5 := flat_bound bytesW 25 fs (fun f hf => by
    unfold bytesW
    have := h4 f hf
    rw [List.length_append, numW_small (by omega)]
    simp only [List.length_singleton]
    omega)
  rw [List.length_append, numW_small (by omega)]
  have h7 : fs.length * 25 ≤ 3 * 25 := Nat.mul_le_mul_right 25 h3.2
  simp only [List.length_singleton]
  omega
theorem rowP_may {b : List Int} {fs : List (List Int)} (h : rowP b = some fs) : mayF fs = true := by
  unfold rowP at h
  cases hl : listP 3 (bytesP 24) b with
  | none => rw [hl] at h; cases h
  | some q =>
    obtain ⟨xs, r⟩ := q
    rw [hl] at h
    simp only at h
    split at h
    · rename_i hc; cases h; exact hc.2
    · cases h
/-- A row's bytes: at most 80 serve. -/
theorem arow_80 {R : List Int} (hb : Byt R) : arowP R = match bytesP 80 R with
    | some (b, r) => (match rowP b with | some fs => some (fs, r) | none => none)
    | none => none := by
  cases h : bytesP 80 R with
  | some p =>
    obtain ⟨b, r⟩ := p
    unfold arowP
    rw [bytesP_up h (by decide : 80 ≤ 4096)]
    rfl
  | none =>
    simp only
    cases ha : arowP R with
    | none => rfl
    | some q =>
      exfalso
      obtain ⟨fs, r⟩ := q
      unfold arowP at ha
      cases h2 : bytesP 4096 R with
      | none => rw [h2] at ha; cases ha
      | some p =>
        obtain ⟨b, r2⟩ := p
        rw [h2] at ha
        simp only at ha
        cases hr : rowP b with
        | none => rw [hr] at ha; cases ha
        | some fs2 =>
          obtain ⟨e1, e2⟩ := bytesP_inv hb h2
          have hbb : Byt b := fun x hx => hb x (by rw [e2]; unfold bytesW; simp [hx])
          have e3 := (rowP_inv hbb hr).1
          have h80 := rowW_80 (rowP_may hr)
          rw [← e3] at h80
          rw [e2, bytesP_W h80 (by decide)] at h
          cases h
def RwQ (W : World) (B : Nat) (R : List Int) (r : Ending) (w' : World) : Prop :=
  ((arowP R = none ∧ r = .returned (.tuple #[.slice none 0 0, .bool false]) ∧ ∃ R', RqS w' B R') ∨
    ∃ (fs : List (List Int)) (R' : List Int) (v : Value), arowP R = some (fs, R') ∧ r = .returned (.tuple #[v, .bool true]) ∧ RowsO w' W.heap.size fs v ∧ RqS w' B R') ∧ W.grownBy w' (some B)
set_option maxRecDepth 100000 in
set_option maxHeartbeats 4000000 in
/-- row (126). -/
theorem rowq_law {W : World} {B : Nat} {R : List Int} (h : RqS W B R) : Calls Tryz.prog 126 #[.pointer (some ⟨B, 0, none⟩)] W (RwQ W B R) := by
  have HB := Lib.hid (bytesq_law h 80 (by decide))
  have HA := Lib.hid (arow_80 h.byt)
  have HY := Lib.hid h.byt
  clear h
  go_enter Tryz.func126, Tryz.ntmps126
  go_wp2_with fail
  refine HB.out.mono ?_
  rintro r w1 ⟨⟨h1, ⟨er, her, rfl⟩, h2⟩ | ⟨b, R', a, c, h1, rfl, h2, h3⟩, g⟩
  · have HX := Lib.hid (show arowP R = none by rw [HA.out, h1])
    have H := Lib.hid (And.intro h2 g)
    have hne : (er != 0) = true := by rcases her with rfl | rfl <;> rfl
    clear h1 h2 her g
    go_wp2_with fail
    go_ret2
    exact ⟨.inl ⟨HX.out, rfl, _, H.out.1⟩, H.out.2⟩
  · have hbb : Byt b ∧ b.length ≤ 80 := by
      obtain ⟨e1, e2⟩ := bytesP_inv HY.out h1
      exact ⟨fun x hx => HY.out x (by rw [e2]; unfold bytesW; simp [hx]), e1⟩
    obtain ⟨_, _, e, hl, _⟩ := own_ls h2 rfl
    cases e
    have HRD := Lib.hid (readq_law a b b.length c rfl (by omega) hbb.1 w1 hl)
    have HX := Lib.hid (show arowP R = match rowP b with | some fs => some (fs, R') | none => none by rw [HA.out, h1])
    have H := Lib.hid (And.intro h3 g)
    obtain ⟨bl, hbl⟩ : ∃ bl, b.length = bl := ⟨_, rfl⟩
    rw [hbl] at HRD ⊢
    clear h1 h2 h3 g hl hbb hbl
    go_wp2_with fail
    refine HRD.out.mono ?_
    rintro r w2 ⟨⟨e1, rfl⟩ | ⟨fs, v, e1, rfl, hv⟩, hb2⟩
    · have HX2 := Lib.hid (show arowP R = none by rw [HX.out, e1])
      have H2 := Lib.hid (And.intro (H.out.1.below hb2) (oth_trans H.out.2 (oth_below B hb2)))
      clear e1 hb2
      go_wp2_with fail
      go_ret2
      exact ⟨.inl ⟨HX2.out, rfl, _, H2.out.1⟩, H2.out.2⟩
    · have HX2 := Lib.hid (show arowP R = some (fs, R') by rw [HX.out, e1])
      have H2 := Lib.hid (And.intro (H.out.1.below hb2) (oth_trans H.out.2 (oth_below B hb2)))
      have HV := Lib.hid (hv.base H.out.2.size)
      clear e1 hb2 hv
      go_wp2_with fail
      go_ret2
      exact ⟨.inr ⟨fs, R', v, HX2.out, rfl, HV.out, H2.out.1⟩, H2.out.2⟩
end Go.Proofs.YtglkndoghnblcaaGreat
namespace Go.Proofs.YtglkndoghnblcaaGreat
open Go.ChangeShapes Go.WideShapes Go.ChangeAt Go.RowKit
set_option linter.unusedVariables false
set_option linter.unusedSimpArgs false
/-- What small answers, in one form. -/
def SmB (W : World) (B : Nat) (R : List Int) (most : Nat) (r : Ending) (w' : World) : Prop :=
  ∃ (z : Int) (ok : Bool) (R' : List Int), r = .returned (.tuple #[.int .i64 z, .bool ok]) ∧ RqS w' B R' ∧ W.grownBy w' (some B) ∧ (ok = true → ∃ x : Nat, upP most R = some (x, R') ∧ z = (x : Int) ∧ x ≤ most) ∧ (ok = false → upP most R = none)
theorem smallb_law {W : World} {B : Nat} {R : List Int} (h : RqS W B R) (most : Nat) (hm : most ≤ 2147483647) :
    Calls Tryz.prog 88 #[.pointer (some ⟨B, 0, none⟩), .int .i64 (most : Int)] W (SmB W B R most) := by
  refine (small_law h most hm).mono ?_
  rintro r w' ⟨⟨e1, ⟨z, rfl⟩, R', hr⟩ | ⟨x, R', e1, hx, rfl, hr⟩, g⟩
  · exact ⟨z, false, R', rfl, hr, g, fun h => (by cases h), fun _ => e1⟩
  · exact ⟨(x : Int), true, R', rfl, hr, g, fun _ => ⟨x, e1, rfl, hx⟩, fun h => (by cases h)⟩
/-- What the document's Bytes answers, in one form. -/
def BytB (W : World) (B : Nat) (R : List Int) (most : Nat) (r : Ending) (w' : World) : Prop :=
  ∃ (b : List Int) (bl : Nat) (a : Option Addr) (c : Nat) (e : Int) (R' : List Int), r = .returned (.tuple #[.slice a bl c, .int .i64 e]) ∧ b.length = bl ∧ bl ≤ most ∧ Byt b ∧ w'.ownsRow W.heap.size 5 1 (.slice a bl c) bl (iv .u8 b) ∧ RqS w' B R' ∧ W.grownBy w' (some B) ∧ (e = 0 → bytesP most R = some (b, R')) ∧ (e ≠ 0 → bytesP most R = none) ∧ (e = 0 ∨ e = 3 ∨ e = 4)
theorem bytesb_law {W : World} {B : Nat} {R : List Int} (h : RqS W B R) (most : Nat) (hm : most ≤ 1000000) :
    Calls Tryz.prog 104 #[.pointer (some ⟨B, 0, none⟩), .int .i64 (most : Int)] W (BytB W B R most) := by
  have hy := h.byt
  refine (bytesq_law h most hm).mono ?_
  rintro r w' ⟨⟨h1, ⟨e, he, rfl⟩, h2⟩ | ⟨b, R', a, c, h1, rfl, h2, h3⟩, g⟩
  · exact ⟨[], 0, none, 0, e, R, rfl, rfl, Nat.zero_le _, fun x hx => by simp at hx, World.ownsRow_nil _ _ _ _, h2, g, fun h => (by rcases he with rfl | rfl <;> cases h), fun _ => h1, .inr he⟩
  · obtain ⟨e1, e2⟩ := bytesP_inv hy h1
    exact ⟨b, b.length, a, c, 0, R', rfl, rfl, e1, fun x hx => hy x (by rw [e2]; unfold bytesW; simp [hx]), h2, h3, g, fun _ => h1, fun h => absurd rfl h, .inl rfl⟩
/-- What the document's Flag answers, in one form. -/
def FlgB (W : World) (B : Nat) (R : List Int) (r : Ending) (w' : World) : Prop :=
  ∃ (f : Bool) (e : Int) (R' : List Int), r = .returned (.tuple #[.bool f, .int .i64 e]) ∧ RqS w' B R' ∧ W.grownBy w' (some B) ∧ (e = 0 → flagP R = some (f, R')) ∧ (e ≠ 0 → flagP R = none) ∧ (e = 0 ∨ e = 4)
theorem flagb_law {W : World} {B : Nat} {R : List Int} (h : RqS W B R) :
    Calls Tryz.prog 125 #[.pointer (some ⟨B, 0, none⟩)] W (FlgB W B R) := by
  refine (flagq_law h).mono ?_
  rintro r w' ⟨⟨h1, rfl, h2⟩ | ⟨f, R', h1, rfl, h2⟩, g⟩
  · exact ⟨false, 4, R, rfl, h2, g, fun h => (by cases h), fun _ => h1, .inr rfl⟩
  · exact ⟨f, 0, R', rfl, h2, g, fun _ => h1, fun h => absurd rfl h, .inl rfl⟩
/-- What row answers, in one form. -/
def RwB (W : World) (B : Nat) (R : List Int) (r : Ending) (w' : World) : Prop :=
  ∃ (fs : List (List Int)) (fl : Nat) (a : Option Addr) (c : Nat) (ok : Bool) (R' : List Int), r = .returned (.tuple #[.slice a fl c, .bool ok]) ∧ fs.length = fl ∧ RowsO w' W.heap.size fs (.slice a fl c) ∧ RqS w' B R' ∧ W.grownBy w' (some B) ∧ (ok = true → arowP R = some (fs, R')) ∧ (ok = false → arowP R = none)
theorem rowb_law {W : World} {B : Nat} {R : List Int} (h : RqS W B R) :
    Calls Tryz.prog 126 #[.pointer (some ⟨B, 0, none⟩)] W (RwB W B R) := by
  refine (rowq_law h).mono ?_
  rintro r w' ⟨⟨h1, rfl, R', h2⟩ | ⟨fs, R', v, h1, rfl, h2, h3⟩, g⟩
  · exact ⟨[], 0, none, 0, false, R', rfl, rfl, RowsO.nil _ _, h2, g, fun h => (by cases h), fun _ => h1⟩
  · obtain ⟨a, c, R1, rfl, _, _⟩ := h2.rdr
    exact ⟨fs, fs.length, a, c, true, R', rfl, rfl, h2, h3, g, fun _ => h1, fun h => (by cases h)⟩
/-- A result's box (N), a reader's (B), a variable's (D), while a thing is read. -/
structure BxI (w : World) (B D : Nat) (R : List Int) (zs cs : Array Value) (t : TypeId) (W : World) : Prop where
  bel : Below w.heap.size w W
  bx : BoxC W w.heap.size zs t
  bd : BoxC W D cs t
  rd : RqS W B R
  l1 : w.heap.size < B
  l2 : B < D
theorem BxI.step {w W W' : World} {B D : Nat} {R R' : List Int} {zs cs : Array Value} {t : TypeId} (h : BxI w B D R zs cs t W) (g : W.grownBy W' (some B)) (hr : RqS W' B R') : BxI w B D R' zs cs t W' :=
  ⟨below_oth h.bel g h.bel.size (Nat.le_of_lt h.l1), h.bx.gr g (Nat.ne_of_lt h.l1), h.bd.gr g (Nat.ne_of_gt h.l2), hr, h.l1, h.l2⟩
theorem BxI.below {w W W' : World} {B D : Nat} {R : List Int} {zs cs : Array Value} {t : TypeId} (h : BxI w B D R zs cs t W) (b : Below W.heap.size W W') : BxI w B D R zs cs t W' :=
  ⟨step_below h.bel b, h.bx.below b, h.bd.below b, h.rd.below b, h.l1, h.l2⟩
theorem BxI.put {w W : World} {B D : Nat} {R : List Int} {zs cs : Array Value} {t : TypeId} (h : BxI w B D R zs cs t W) (i : Nat) (v : Value) : BxI w B D R zs (cs.setIfInBounds i v) t (W.setCell ⟨D, i, none⟩ v) := by
  have l1 := h.l1
  have l2 := h.l2
  refine ⟨h.bel.setCell (p := ⟨D, i, none⟩) (by simp; omega) v, h.bx.oth (by omega), h.bd.put i v, h.rd.below1 ?_, h.l1, h.l2⟩
  exact (Below.refl (B + 1) W).setCell (p := ⟨D, i, none⟩) (by simp; omega) v
/-- .. begins. -/
theorem BxI.new {w W1 W2 : World} {B : Nat} {R : List Int} {zs : Array Value} {t : TypeId} (hb1 : Below w.heap.size w W1) (hx : BoxC W1 w.heap.size zs t) (hb2 : Below W1.heap.size W1 W2) (hB : W1.heap.size ≤ B) (hr : RqS W2 B R) : BxI w B W2.heap.size R zs zs t (W2.alloc (.cells zs t)) :=
  ⟨step_below (step_below hb1 hb2) (bl1 _ _), (hx.below hb2).alloc _, BoxC.new _ _ _, hr.below (bl1 _ _), Nat.lt_of_lt_of_le hx.lt hB, hr.lt⟩
end Go.Proofs.YtglkndoghnblcaaGreat
namespace Go.Proofs.YtglkndoghnblcaaGreat
open Go.ChangeShapes Go.WideShapes Go.ChangeAt Go.RowKit
set_option linter.unusedVariables false
set_option linter.unusedSimpArgs false
end Go.Proofs.YtglkndoghnblcaaGreat
namespace Go.Proofs.YtglkndoghnblcaaGreat
open Go.ChangeShapes Go.WideShapes Go.ChangeAt Go.RowKit
set_option linter.unusedVariables false
set_option linter.unusedSimpArgs false
end Go.Proofs.YtglkndoghnblcaaGreat
namespace Go.Proofs.YtglkndoghnblcaaGreat
open Go.ChangeShapes Go.WideShapes Go.ChangeAt Go.RowKit
set_option linter.unusedVariables false
set_option linter.unusedSimpArgs false
theorem BoxC.far {W W' : World} {B N : Nat} {cs : Array Value} {t : TypeId} (h : BoxC W B cs t) (b : Below N W W') (hB : B < N) : BoxC W' B cs t := (b.block B hB).trans h
theorem BxI.far {w W W' : World} {B D : Nat} {R : List Int} {zs cs : Array Value} {t : TypeId} (h : BxI w B D R zs cs t W) (b : Below (D + 1) W W') : BxI w B D R zs cs t W' :=
  ⟨h.bel.trans (b.mono (by have := h.l1; have := h.l2; omega)), h.bx.far b (by have := h.l1; have := h.l2; omega), h.bd.far b (by omega), h.rd.below1 (b.mono (by have := h.l2; omega)), h.l1, h.l2⟩
theorem listP_no {α : Type} {most : Nat} {one : List Int → Option (α × List Int)} {R : List Int} (h : upP most R = none) : listP most one R = none := by unfold listP; rw [h]
theorem listP_go {α : Type} {most n : Nat} {one : List Int → Option (α × List Int)} {R R1 : List Int} (h : upP most R = some (n, R1)) : listP most one R = addP [] (manyP one (n - 0) R1) := by unfold listP; rw [h, addP_nil]; rfl
end Go.Proofs.YtglkndoghnblcaaGreat
namespace Go.Proofs.YtglkndoghnblcaaGreat
open Go.ChangeShapes Go.WideShapes Go.ChangeAt Go.RowKit
set_option linter.unusedVariables false
set_option linter.unusedSimpArgs false
end Go.Proofs.YtglkndoghnblcaaGreat
namespace Go.Proofs.YtglkndoghnblcaaGreat
open Go.ChangeShapes Go.WideShapes Go.ChangeAt Go.RowKit
set_option linter.unusedVariables false
set_option linter.unusedSimpArgs false
end Go.Proofs.YtglkndoghnblcaaGreat
namespace Go.Proofs.YtglkndoghnblcaaGreat
open Go.ChangeShapes Go.WideShapes Go.ChangeAt Go.RowKit Go.Shelf
set_option linter.unusedVariables false
set_option linter.unusedSimpArgs false
def szGo : List P1 → Nat → Nat
  | [], s => s
  | p :: r, s => if s < 1048576 then szGo r (s + min p.bs.length 1048576) else s
def szF (R : List P1) : Nat := szGo R R.length
theorem szGo_ge : ∀ (R : List P1) (s : Nat), s ≤ szGo R s
  | [], s => Nat.le_refl _
  | p :: r, s => by
    unfold szGo
    split
    · have := szGo_ge r (s + min p.bs.length 1048576); omega
    · omega
theorem szGo_le : ∀ (R : List P1) (s m : Nat), s ≤ m + 2097152 → szGo R s ≤ m + 2097152
  | [], s, m, h => h
  | p :: r, s, m, h => by
    unfold szGo
    split
    · exact szGo_le r _ m (by omega)
    · exact h
theorem szF_ge (R : List P1) : R.length ≤ szF R := szGo_ge R _
theorem szF_le (R : List P1) : szF R ≤ R.length + 2097152 := szGo_le R _ _ (by omega)
theorem szGo_stop (R : List P1) (s : Nat) (h : ¬ s < 1048576) : szGo R s = s := by
  cases R with
  | nil => rfl
  | cons p r => unfold szGo; rw [if_neg h]
theorem szGo_step {R : List P1} {k s : Nat} {p : P1} (hp : R[k]? = some p) (h : s < 1048576) : szGo (R.drop k) s = szGo (R.drop (k + 1)) (s + min p.bs.length 1048576) := by
  obtain ⟨hk, e⟩ := List.getElem?_eq_some_iff.1 hp
  rw [List.drop_eq_getElem_cons hk, szGo, if_pos h, e]
set_option maxRecDepth 100000 in
set_option maxHeartbeats 1000000 in
theorem sizef_law (a : Option Addr) (R : List P1) (n cap : Nat) (hn : R.length = n) (w : World) (hR : RdR w a R) :
    Calls Tryz.prog 28 #[.slice a n cap] w fun r w' => r = .returned (.int .i64 (szF R : Int)) ∧ w' = w := by
  have HR := Lib.hid hR
  have HN := Lib.hid hn
  obtain ⟨ans, hans⟩ : ∃ x, szF R = x := ⟨_, rfl⟩
  have HA := Lib.hid (show szGo R n = ans by rw [← hans, ← hn]; rfl)
  rw [hans]
  clear hR hn hans
  go_enter Tryz.func28, Tryz.ntmps28
  go_wp2_with fail
  go_loopw [3, 4] (fun x i wr => ∃ k s : Nat, k ≤ n ∧ i = .int .i64 k ∧ x = .int .i64 s ∧ n ≤ s ∧ Hid (szGo (R.drop k) s = ans) ∧ w = wr) (fun _ i _ => n - (intOf i).toNat)
  case atStart => exact ⟨0, n, by omega, rfl, rfl, by omega, Lib.hid (by simpa using HA.out), rfl⟩
  case round =>
    obtain ⟨k, s, hk, rfl, rfl, hns, HS, rfl⟩ := hrel
    by_cases hlt : k < n
    · have hkl : (k : Int) < (n : Int) := by omega
      by_cases hs2 : s < 1048576
      · have hsl : (s : Int) < 1048576 := by omega
        have hs9 : (s : Int) ≤ 1048576 := by omega
        obtain ⟨p, hp⟩ : ∃ p, R[k]? = some p := ⟨_, List.getElem?_eq_getElem (by rw [HN.out]; exact hlt)⟩
        obtain ⟨b1, o1, e1, c1, l1⟩ := HR.out k p hp
        subst e1
        have c2 : w.cell? ⟨b1, o1 + k, none⟩ = some (.slice p.ad p.bs.length p.cap) := c1
        have HST := Lib.hid (show szGo (R.drop (k + 1)) (s + min p.bs.length 1048576) = ans by rw [← szGo_step hp hs2]; exact HS.out)
        obtain ⟨m, hm⟩ : ∃ m, p.bs.length = m := ⟨_, rfl⟩
        rw [hm] at c2 HST
        clear c1 hp hm l1
        by_cases hm2 : m < 1048576
        · have hml : (m : Int) < 1048576 := by omega
          have HX := Lib.hid (show szGo (R.drop (k + 1)) (s + m) = ans by rw [← HST.out]; congr 1; omega)
          go_wp2_with fail
          go_roundw
          case rel => exact ⟨k + 1, s + m, by omega, by go_num, by go_num, by omega, HX, trivial⟩
          case measure => simp [intOf]; omega
        · have hml : ¬ (m : Int) < 1048576 := by omega
          have HX := Lib.hid (show szGo (R.drop (k + 1)) (s + 1048576) = ans by rw [← HST.out]; congr 1; omega)
          go_wp2_with fail
          go_roundw
          case rel => exact ⟨k + 1, s + 1048576, by omega, by go_num, by go_num, by omega, HX, trivial⟩
          case measure => simp [intOf]; omega
      · have hsl : ¬ (s : Int) < 1048576 := by omega
        have HE := Lib.hid (show ans = s by rw [← HS.out, szGo_stop _ _ hs2])
        go_wp2_with fail
        go_ret
        exact ⟨ret_int (by rw [HE.out]), rfl⟩
    · have hkl : ¬ (k : Int) < (n : Int) := by omega
      have HE := Lib.hid (show ans = s by rw [← HS.out, List.drop_of_length_le (by rw [HN.out]; omega)]; rfl)
      go_wp2_with fail
      go_ret
      exact ⟨ret_int (by rw [HE.out]), rfl⟩
theorem szGo_mem : ∀ (R : List P1) (s m : Nat), szGo R s ≤ m → m < 1048576 → ∀ p ∈ R, p.bs.length ≤ m
  | [], s, m, _, _, p, hp => by simp at hp
  | q :: r, s, m, h, hm, p, hp => by
    have hs : s < 1048576 := by have := szGo_ge (q :: r) s; omega
    unfold szGo at h
    rw [if_pos hs] at h
    have h1 := szGo_ge r (s + min q.bs.length 1048576)
    rcases List.mem_cons.1 hp with rfl | hp
    · omega
    · exact szGo_mem r _ m h hm p hp
/-- What is told of writes that are not too many. -/
def SmW (xs : List WtP) : Prop := xs.length ≤ 9000 ∧ ∀ x ∈ xs, x.key.length ≤ 9000 ∧ x.R.length ≤ 9000 ∧ ∀ p ∈ x.R, p.bs.length ≤ 9000
def MuW (xs : List WtP) (r : Ending) : Prop := ∃ b, r = .returned (.bool b) ∧ (b = false → SmW xs)
def BgW (xs : List WtP) : Prop := xs.length ≤ 140737488355328 ∧ ∀ x ∈ xs, x.R.length ≤ 140737488355328
set_option maxRecDepth 100000 in
set_option maxHeartbeats 4000000 in
/-- Much (17). -/
theorem muchw_law (a : Option Addr) (xs : List WtP) (n cap : Nat) (hL : xs.length = n) (hB : BgW xs) (w : World) (hA : WtsR w a xs) :
    Calls Tryz.prog 17 #[.slice a n cap, .int .i64 9000] w fun r w' => MuW xs r ∧ Below w.heap.size w w' := by
  have HA := Lib.hid (fun W (b : Below w.heap.size w W) => hA.below b)
  have HL := Lib.hid hL
  have HBD := Lib.hid hB.2
  have hn := hB.1
  rw [hL] at hn
  have hni : (n : Int) ≤ 140737488355328 := by omega
  clear hA hL hB
  go_enter Tryz.func17, Tryz.ntmps17
  go_wp2_with fail
  go_loopw [5, 6] (fun x i wr => ∃ k s : Nat, k ≤ n ∧ i = .int .i64 (k : Int) ∧ x = .int .i64 (s : Int) ∧ k ≤ s ∧ s ≤ 281474976710656 ∧ Hid (s ≤ 9000 → ∀ q, q < k → ∀ o, xs[q]? = some o → o.key.length ≤ 9000 ∧ o.R.length ≤ 9000 ∧ ∀ p ∈ o.R, p.bs.length ≤ 9000) ∧ Hid (Below w.heap.size w wr)) (fun _ i _ => n - (intOf i).toNat)
  case atStart => exact ⟨0, 0, by omega, rfl, rfl, by omega, by omega, Lib.hid (fun _ q hq => absurd hq (by omega)), Lib.hid (Below.refl _ _)⟩
  case round =>
    obtain ⟨k, s, hk, rfl, rfl, hks, hs2, HP, BB⟩ := hrel
    have hsb : (s : Int) ≤ 281474976710656 := by omega
    by_cases hlt : k < n
    · have hkl : (k : Int) < (n : Int) := by omega
      by_cases hs : s ≤ 9000
      · have hsi : (s : Int) ≤ 9000 := by omega
        have hki : (k : Int) ≤ 9000 := by omega
        obtain ⟨o, ho⟩ : ∃ o, xs[k]? = some o := ⟨_, List.getElem?_eq_getElem (by rw [HL.out]; exact hlt)⟩
        obtain ⟨b1, o1, ea, d0, d1, d2, hc⟩ := HA.out _ BB.out k o ho
        subst ea
        have hrn := HBD.out o (List.mem_of_getElem? ho)
        have hg := szF_ge o.R
        have hle := szF_le o.R
        have HSZ := Lib.hid (fun m => (sizef_law o.ra o.R o.R.length o.rc rfl (wr.drewN m) (hc.below (below_drewN (Below.refl _ _) m)).row))
        obtain ⟨z, hz⟩ : ∃ z, szF o.R = z := ⟨_, rfl⟩
        rw [hz] at hg hle HSZ
        have HZ := Lib.hid hz
        have HO := Lib.hid ho
        have hz0 : (0 : Int) ≤ (z : Int) := by omega
        have hz1 : (z : Int) ≤ 140737490452480 := by omega
        obtain ⟨kn, hkn⟩ : ∃ kn, o.key.length = kn := ⟨_, rfl⟩
        obtain ⟨rn, hrn2⟩ : ∃ rn, o.R.length = rn := ⟨_, rfl⟩
        obtain ⟨oka, hoka⟩ : ∃ x, o.ka = x := ⟨_, rfl⟩
        obtain ⟨okc, hokc⟩ : ∃ x, o.kc = x := ⟨_, rfl⟩
        obtain ⟨ora, hora⟩ : ∃ x, o.ra = x := ⟨_, rfl⟩
        obtain ⟨orc, horc⟩ : ∃ x, o.rc = x := ⟨_, rfl⟩
        obtain ⟨km, hkm⟩ : ∃ km : Nat, km = min kn 9001 := ⟨_, rfl⟩
        have HST := Lib.hid (show s + 1 + km + z ≤ 9000 → ∀ q, q < k + 1 → ∀ o, xs[q]? = some o → o.key.length ≤ 9000 ∧ o.R.length ≤ 9000 ∧ ∀ p ∈ o.R, p.bs.length ≤ 9000 from fun h q hq p hp => by
          by_cases e : q = k
          · subst e
            rw [HO.out] at hp
            cases hp
            have h1 : szF o.R ≤ 9000 := by rw [HZ.out]; omega
            exact ⟨by rw [hkn]; omega, by omega, szGo_mem o.R _ 9000 h1 (by decide)⟩
          · exact HP.out (by omega) q (by omega) p hp)
        rw [hrn2, hora, horc] at HSZ
        rw [hoka, hkn, hokc] at d1
        rw [hora, hrn2, horc] at d2
        have w1 : IntKind.i64.wrap ((s : Int) + 1) = (s : Int) + 1 := IntWalk.i64_in _ (by omega)
        have w2 : IntKind.i64.wrap ((9000 : Int) + 1) = 9001 := by decide
        have w3 : IntKind.i64.wrap ((s : Int) + 1 + (km : Int)) = (s : Int) + 1 + (km : Int) := IntWalk.i64_in _ (by omega)
        have w5 : IntKind.i64.wrap ((s : Int) + 1 + (km : Int) + (z : Int)) = (s : Int) + 1 + (km : Int) + (z : Int) := IntWalk.i64_in _ (by omega)
        have hfin : s + 1 + km + z ≤ 281474976710656 := by omega
        have m1 : min (kn : Int) 9001 = (km : Int) := by omega
        have hkz : k + 1 ≤ s + 1 + km + z := by omega
        have hcast : ((s : Int) + 1 + (km : Int) + (z : Int)) = ((s + 1 + km + z : Nat) : Int) := by omega
        have HC := Lib.hid hcast
        have HKM := Lib.hid hkm
        clear hkm hcast ho hc hz hkn hrn2 hoka hokc hora horc hrn
        go_wp2_with fail
        go_quiet ((go_at_call 28; exact Calls.quiet_of_same (HSZ.out _)))
        go_wp2_with fail
        go_roundw
        case rel => exact ⟨k + 1, s + 1 + km + z, by omega, by go_num, by have h1 := HKM.out; congr 1; split <;> omega, hkz, hfin, HST, Lib.hid (below_drewN BB.out _)⟩
        case measure => simp [intOf]; omega
      · have hsi : ¬ (s : Int) ≤ 9000 := by omega
        have hsj : (9000 : Int) < (s : Int) := by omega
        go_wp2_with fail
        go_ret
        exact ⟨⟨true, rfl, fun h => by cases h⟩, BB.out⟩
    · have hkl : ¬ (k : Int) < (n : Int) := by omega
      by_cases hs : s ≤ 9000
      · have hsi : ¬ (9000 : Int) < (s : Int) := by omega
        have HR := Lib.hid (show SmW xs from ⟨by rw [HL.out]; omega, fun o ho => by
          obtain ⟨q, hq⟩ := List.mem_iff_getElem?.1 ho
          exact HP.out hs q (by have := (List.getElem?_eq_some_iff.1 hq).1; have := HL.out; omega) o hq⟩)
        go_wp2_with fail
        go_ret
        exact ⟨⟨false, rfl, fun _ => HR.out⟩, BB.out⟩
      · have hsi : (9000 : Int) < (s : Int) := by omega
        go_wp2_with fail
        go_ret
        exact ⟨⟨true, rfl, fun h => by cases h⟩, BB.out⟩
end Go.Proofs.YtglkndoghnblcaaGreat
namespace Go.Proofs.YtglkndoghnblcaaGreat
open Go.ChangeShapes Go.WideShapes Go.ChangeAt Go.RowKit Go.Deep
set_option linter.unusedVariables false
set_option linter.unusedSimpArgs false
theorem list_of {α : Type} {p : Nat → α → Prop} : ∀ m, (∀ i, i < m → ∃ x, p i x) → ∃ L : List α, L.length = m ∧ ∀ i x, L[i]? = some x → p i x
  | 0, _ => ⟨[], rfl, fun i x h => by simp at h⟩
  | m + 1, h => by
    obtain ⟨L, hl, hp⟩ := list_of m fun i hi => h i (by omega)
    obtain ⟨x, hx⟩ := h m (by omega)
    refine ⟨L ++ [x], by simp [hl], fun i y hy => ?_⟩
    by_cases e : i < L.length
    · rw [List.getElem?_append_left e] at hy
      exact hp i y hy
    · have hi := (List.getElem?_eq_some_iff.1 hy).1
      simp at hi
      obtain rfl : i = m := by omega
      rw [List.getElem?_append_right (by omega)] at hy
      simp [hl] at hy
      rw [← hy]; exact hx
section
variable {H : Type} {enc : TypeId × Value → H} {w : World} {base : Nat} {held : Bool}
theorem weights_all {P : Program} {e : TypeId} {d : DataW H} {n : Nat} (hn : n ∈ d.weights P e) : ∀ {l : List (DataW H)}, d ∈ l → n ∈ DataW.weightsAll P e l
  | [], h => by simp at h
  | x :: r, h => by
    simp only [DataW.weightsAll, List.mem_append]
    rcases List.mem_cons.1 h with rfl | h
    · exact .inl hn
    · exact .inr (weights_all hn h)
/-- What a slice that is read within the reach says of its length, and of its elements. -/
theorem slice_sz {t e : TypeId} (ht : Tryz.prog.underlying t = some (.slice e)) (hb : 1 ≤ Tryz.prog.bytesOf e) {len k : Nat} {D : Nat → DataW H} (hsz : ∀ n ∈ (DataW.slice ((List.range len).map D) ((List.range k).map fun j => D (len + j))).weights Tryz.prog t, n ≤ reachBytes) :
    len ≤ 140737488355328 ∧ ∀ i, i < len → ∀ n ∈ (D i).weights Tryz.prog e, n ≤ reachBytes := by
  constructor
  · have h1 := hsz ((((List.range len).map D).length + ((List.range k).map fun j => D (len + j)).length) * Tryz.prog.bytesOf e) (by simp only [DataW.weights, ht]; exact List.mem_cons_self ..)
    simp only [List.length_map, List.length_range, reachBytes] at h1
    have : (len + k) * 1 ≤ (len + k) * Tryz.prog.bytesOf e := Nat.mul_le_mul_left _ hb
    omega
  · intro i hi n hn
    refine hsz n ?_
    simp only [DataW.weights, ht, List.mem_cons, List.mem_append]
    exact .inr (.inl (weights_all hn (List.mem_map.2 ⟨i, List.mem_range.2 hi, rfl⟩)))
/-- A row that came in. -/
theorem open_row {d : DataW H} {ps : List MemPlace} {a : Option Addr} {len cap : Nat} (hd : DataW.Trod enc Tryz.prog w base (fun _ => true) held 49 (.slice a len cap) d ps) :
    ∃ R : List P1, R.length = len ∧ RdR w a R ∧ ∀ p ∈ R, Byt p.bs := by
  obtain ⟨fuel, hf⟩ := hd
  rcases Deep.open_int_rows Tryz.underlying49 Tryz.underlying22 Tryz.underlying5 (by kernel_rfl) (by kernel_rfl) hf with ⟨hcs, _⟩ | ⟨x, l, c, A, L, C, Z, hcs, hb, hl, hm, hx, hr⟩
  · simp [Value.cells] at hcs
    obtain ⟨rfl, rfl, rfl⟩ := hcs
    exact ⟨[], rfl, RdR.nil _ _, fun p hp => by simp at hp⟩
  · simp [Value.cells] at hcs
    obtain ⟨rfl, rfl, rfl⟩ := hcs
    refine ⟨(List.range len).map fun r => ⟨A r, C r, (Z r).take (L r)⟩, by simp, fun k p hp => ?_, fun p hp => ?_⟩
    · have hk : k < len := by have := (List.getElem?_eq_some_iff.1 hp).1; simpa using this
      have hp' : p = ⟨A k, C k, (Z k).take (L k)⟩ := by
        simp [hk] at hp
        exact hp.symm
      subst hp'
      obtain ⟨hc, hLC, hCm, hZ, hwf, hnone, hsome⟩ := hr k (by omega)
      obtain ⟨b, off, spot⟩ := x
      obtain ⟨hc0, _⟩ := hr 0 (by omega)
      have hspot : spot = none := by simpa [Addr.add] using World.cell?_spot hc0
      subst hspot
      rw [addr_add] at hc
      have hlen : ((Z k).take (L k)).length = L k := by rw [List.length_take, hZ]; omega
      refine ⟨b, off, rfl, ?_, ⟨fun j hj => ?_, fun e => ?_, by simp only; rw [hlen]; exact hLC⟩⟩
      · rw [hc, P1.v, hlen]
      · simp only at hj ⊢
        rw [hlen] at hj
        cases hA : A k with
        | none => have := hnone hA; omega
        | some a' =>
          obtain ⟨_, hcell⟩ := hsome a' hA
          obtain ⟨b2, o2, spot2⟩ := a'
          have hc2 := hcell 0 (by omega)
          have hspot2 : spot2 = none := by simpa [Addr.add] using World.cell?_spot hc2
          subst hspot2
          refine ⟨b2, o2, rfl, ?_⟩
          have := hcell j (by omega)
          rw [addr_add] at this
          rw [this]
          simp [List.getD, List.getElem?_take, hj]
      · simp only at e ⊢
        have := hnone e
        exact ⟨List.length_eq_zero_iff.1 (by rw [hlen]; omega), this⟩
    · obtain ⟨r, hr2, rfl⟩ := List.mem_map.1 hp
      have hrl : r < len := by simpa using hr2
      obtain ⟨_, _, _, _, hwf, _⟩ := hr r (by omega)
      intro y hy
      have := hwf y (List.mem_of_mem_take hy)
      simpa [Lit.wf, IntKind.min, IntKind.max, IntKind.signed, IntKind.bits] using this
theorem op_bytes {m : Nat} {u : Value} {x : DataW H × List MemPlace} (h : DataW.trod enc Tryz.prog w base (fun _ => true) held m 22 [u] = some x) :
    ∃ (a : Option Addr) (L : List Int) (n c : Nat), u = .slice a n c ∧ L.length = n ∧ Byt L ∧ Ls .u8 w a c L := by
  rcases open_ints Tryz.underlying22 Tryz.underlying5 (by kernel_rfl) h with ⟨hcs, _⟩ | ⟨y, l, c, zs, hcs, _, hl, hm, hz, hx, hcell, hwz⟩
  · simp only [List.cons.injEq, and_true] at hcs
    exact ⟨none, [], 0, 0, hcs, rfl, fun x hx => by simp at hx, Ls.nul _ _⟩
  · simp only [List.cons.injEq, and_true] at hcs
    have hr : IsRow .u8 w (some y) l c zs := .inr ⟨_, rfl, hl, hm, by simpa using hz, hcell, hwz⟩
    exact ⟨some y, zs.take l, l, c, hcs, hr.ls.2, hr.byt, hr.ls.1⟩
theorem op_row {m : Nat} {u : Value} {x : DataW H × List MemPlace} (h : DataW.trod enc Tryz.prog w base (fun _ => true) held m 49 [u] = some x) (hsz : ∀ n ∈ x.1.weights Tryz.prog 49, n ≤ reachBytes) :
    ∃ (a : Option Addr) (R : List P1) (n c : Nat), u = .slice a n c ∧ R.length = n ∧ RdR w a R ∧ (∀ p ∈ R, Byt p.bs) ∧ n ≤ 140737488355328 := by
  rcases open_slice Tryz.underlying49 h with ⟨hcs, _⟩ | ⟨y, l, c, k, _, D, Pl, hcs, _, hl, hm, _, rfl, _⟩
  · simp only [List.cons.injEq, and_true] at hcs
    subst hcs
    obtain ⟨R, h1, h2, h3⟩ := open_row (d := x.1) (ps := x.2) ⟨m, by simpa [Value.cells] using h⟩
    exact ⟨none, R, 0, 0, rfl, h1, h2, h3, Nat.zero_le _⟩
  · simp only [List.cons.injEq, and_true] at hcs
    subst hcs
    obtain ⟨R, h1, h2, h3⟩ := open_row ⟨m, by simpa [Value.cells] using h⟩
    exact ⟨some y, R, l, c, rfl, h1, h2, h3, (slice_sz Tryz.underlying49 (of_decide_eq_true (by kernel_rfl)) hsz).1⟩

theorem c1_51 : Tryz.prog.cellsOf 51 = 3 := by kernel_rfl
theorem c1_37 : Tryz.prog.cellsOf 37 = 1 := by kernel_rfl
theorem c1_36 : Tryz.prog.cellsOf 36 = 2 := by kernel_rfl
theorem c1_22 : Tryz.prog.cellsOf 22 = 1 := by kernel_rfl
theorem c1_49 : Tryz.prog.cellsOf 49 = 1 := by kernel_rfl
theorem c1_3 : Tryz.prog.cellsOf 3 = 1 := by kernel_rfl
theorem c1_2 : Tryz.prog.cellsOf 2 = 1 := by kernel_rfl
set_option maxRecDepth 100000 in
theorem one_wt {m : Nat} {cs : List Value} {x : DataW H × List MemPlace} (h : DataW.trod enc Tryz.prog w base (fun _ => true) held m 51 cs = some x) (hlen : cs.length = 3) (hsz : ∀ n ∈ x.1.weights Tryz.prog 51, n ≤ reachBytes) :
    ∃ o : WtP, cs = [.int .i64 o.tab, .slice o.ka o.key.length o.kc, .slice o.ra o.R.length o.rc] ∧ WtOk w o ∧ o.R.length ≤ 140737488355328 := by
  match cs, hlen with
  | [u0, u1, u2], _ =>
    obtain ⟨xs, m2, _, hx, _, hl2, hel⟩ := DataW.trod_struct Tryz.underlying51 h
    have g0 : DataW.trod enc Tryz.prog w base (fun _ => true) held m2 3 (List.take (Tryz.prog.cellsOf 3) (List.drop 0 [u0, u1, u2])) = xs[0]? := hel 0 _ rfl
    have g1 : DataW.trod enc Tryz.prog w base (fun _ => true) held m2 22 (List.take (Tryz.prog.cellsOf 22) (List.drop 1 [u0, u1, u2])) = xs[1]? := hel 1 _ rfl
    have g2 : DataW.trod enc Tryz.prog w base (fun _ => true) held m2 49 (List.take (Tryz.prog.cellsOf 49) (List.drop 2 [u0, u1, u2])) = xs[2]? := hel 2 _ rfl
    rw [c1_3] at g0
    rw [c1_22] at g1
    rw [c1_49] at g2
    simp only [List.drop, List.take] at g0 g1 g2
    match xs, hl2 with
    | [y0, y1, y2], _ =>
      have hx1 : x.1 = .agg [y0.1, y1.1, y2.1] := by rw [hx]; rfl
      rw [hx1] at hsz
      obtain ⟨z0, e0, _⟩ := DataW.trod_int Tryz.underlying3 g0
      obtain ⟨a1, L1, n1, k1, e1, l1, b1, s1⟩ := op_bytes g1
      obtain ⟨a2, R2, n2, k2, e2, l2, r2, b2, i2⟩ := op_row g2 (fun n hn => hsz n (by
        have := DataW.weights_mem_each (P := Tryz.prog) (ts := [3, 22, 49]) (ds := [y0.1, y1.1, y2.1]) (j := 2) (t := 49) rfl rfl n hn
        simpa [DataW.weights, Tryz.underlying51] using this))
      simp only [List.cons.injEq, and_true] at e0
      subst l1 l2
      exact ⟨⟨z0, a1, k1, L1, a2, k2, R2⟩, by rw [e0, e1, e2], ⟨s1, r2, b1, b2⟩, i2⟩
/-- A slice of writes, opened. -/
theorem open_wts {m : Nat} {u : Value} {x : DataW H × List MemPlace} (h : DataW.trod enc Tryz.prog w base (fun _ => true) held m 37 [u] = some x) (hsz : ∀ n ∈ x.1.weights Tryz.prog 37, n ≤ reachBytes) :
    ∃ (a : Option Addr) (L : List WtP) (c : Nat), u = .slice a L.length c ∧ WtsR w a L ∧ BgW L ∧ (a = none → c = 0) := by
  rcases open_slice Tryz.underlying37 h with ⟨hcs, _⟩ | ⟨y, l, c, k, m2, D, Pl, hcs, _, hl, hm, hk, rfl, hi⟩
  · simp only [List.cons.injEq, and_true] at hcs
    subst hcs
    exact ⟨none, [], 0, rfl, fun k o ho => by simp at ho, ⟨Nat.zero_le _, fun o ho => by simp at ho⟩, fun _ => rfl⟩
  · simp only [List.cons.injEq, and_true] at hcs
    subst hcs
    have hkl : l ≤ k := by rw [hk]; split <;> omega
    obtain ⟨sl, sd⟩ := slice_sz Tryz.underlying37 (of_decide_eq_true (by kernel_rfl)) hsz
    obtain ⟨L, hL, hp⟩ := list_of (p := fun i (o : WtP) => (∀ j v, [Value.int .i64 o.tab, .slice o.ka o.key.length o.kc, .slice o.ra o.R.length o.rc][j]? = some v → w.cell? ((y.add (i * 3)).add j) = some v) ∧ WtOk w o ∧ o.R.length ≤ 140737488355328) l (fun i him => by
      obtain ⟨cs', hc, ht⟩ := hi i (by omega)
      rw [c1_51] at hc
      obtain ⟨_, hcl, hat⟩ := World.cells?_some hc
      obtain ⟨o, ho, hca, hrn⟩ := one_wt ht hcl (sd i him)
      refine ⟨o, fun j v hj => ?_, hca, hrn⟩
      have hj7 : j < 3 := by have := (List.getElem?_eq_some_iff.1 hj).1; simpa using this
      rw [hat j hj7, ho]; exact hj)
    refine ⟨some y, L, c, by rw [hL], fun i o ho => ?_, ⟨by omega, fun o ho => ?_⟩, fun e => by cases e⟩
    · obtain ⟨b, off, spot⟩ := y
      obtain ⟨h0, hca, _⟩ := hp i o ho
      have hil : i < L.length := (List.getElem?_eq_some_iff.1 ho).1
      obtain ⟨z0, _, _⟩ := hp 0 L[0] (List.getElem?_eq_getElem (by omega))
      have hspot : spot = none := by simpa [Addr.add] using World.cell?_spot (z0 0 _ rfl)
      subst hspot
      have q : ∀ j v, [Value.int .i64 o.tab, .slice o.ka o.key.length o.kc, .slice o.ra o.R.length o.rc][j]? = some v → w.cell? ⟨b, off + i * 3 + j, none⟩ = some v := fun j v hj => by
        have := h0 j v hj
        rwa [addr_add, addr_add] at this
      exact ⟨b, off, rfl, q 0 _ rfl, q 1 _ rfl, q 2 _ rfl, hca⟩
    · obtain ⟨i, hi'⟩ := List.mem_iff_getElem?.1 ho
      exact (hp i o hi').2.2
set_option maxRecDepth 100000 in
theorem one_lg {m : Nat} {cs : List Value} {x : DataW H × List MemPlace} (h : DataW.trod enc Tryz.prog w base (fun _ => true) held m 39 cs = some x) (hlen : cs.length = 3) (hsz : ∀ n ∈ x.1.weights Tryz.prog 39, n ≤ reachBytes) :
    ∃ t : TxQ, cs = [.int .i64 t.e, .int .i64 t.s, .slice t.a t.ws.length t.c] ∧ WtsR w t.a t.ws ∧ BgW t.ws ∧ (t.a = none → t.c = 0) := by
  match cs, hlen with
  | [u0, u1, u2], _ =>
    obtain ⟨xs, m2, _, hx, _, hl2, hel⟩ := DataW.trod_struct Tryz.underlying39 h
    have g0 : DataW.trod enc Tryz.prog w base (fun _ => true) held m2 36 (List.take (Tryz.prog.cellsOf 36) (List.drop 0 [u0, u1, u2])) = xs[0]? := hel 0 _ rfl
    have g1 : DataW.trod enc Tryz.prog w base (fun _ => true) held m2 37 (List.take (Tryz.prog.cellsOf 37) (List.drop (Tryz.prog.cellsOf 36) [u0, u1, u2])) = xs[1]? := hel 1 _ rfl
    rw [c1_36] at g0 g1
    rw [c1_37] at g1
    simp only [List.drop, List.take] at g0 g1
    match xs, hl2 with
    | [y0, y1], _ =>
      have hx1 : x.1 = .agg [y0.1, y1.1] := by rw [hx]; rfl
      rw [hx1] at hsz
      obtain ⟨ys, m3, _, _, _, hl3, hel3⟩ := DataW.trod_struct Tryz.underlying36 g0
      have k0 : DataW.trod enc Tryz.prog w base (fun _ => true) held m3 2 (List.take (Tryz.prog.cellsOf 2) (List.drop 0 [u0, u1])) = ys[0]? := hel3 0 _ rfl
      have k1 : DataW.trod enc Tryz.prog w base (fun _ => true) held m3 2 (List.take (Tryz.prog.cellsOf 2) (List.drop (Tryz.prog.cellsOf 2) [u0, u1])) = ys[1]? := hel3 1 _ rfl
      rw [c1_2] at k0 k1
      simp only [List.drop, List.take] at k0 k1
      match ys, hl3 with
      | [v0, v1], _ =>
        obtain ⟨z0, e0, _⟩ := DataW.trod_int Tryz.underlying2 k0
        obtain ⟨z1, e1, _⟩ := DataW.trod_int Tryz.underlying2 k1
        obtain ⟨a, L, c, e2, r2, g2, n2⟩ := open_wts g1 (fun n hn => hsz n (by
          have := DataW.weights_mem_each (P := Tryz.prog) (ts := [36, 37]) (ds := [y0.1, y1.1]) (j := 1) (t := 37) rfl rfl n hn
          simpa [DataW.weights, Tryz.underlying39] using this))
        simp only [List.cons.injEq, and_true] at e0 e1
        exact ⟨⟨z0, z1, a, c, L⟩, by rw [e0, e1, e2], r2, g2, n2⟩
end
end Go.Proofs.YtglkndoghnblcaaGreat
namespace Go.Proofs.YtglkndoghnblcaaGreat
open Go.ChangeShapes Go.WideShapes Go.ChangeAt Go.RowKit
set_option linter.unusedVariables false
set_option linter.unusedSimpArgs false
theorem wcells_append (a b : List WtP) : wcells (a ++ b) = wcells a ++ wcells b := by simp [wcells]
theorem wts_own {W : World} {base n c : Nat} {a : Option Addr} {xs : List WtP} (h : W.ownsRow base 51 3 (.slice a n c) n (wcells xs)) (hn : xs.length = n) (ok : ∀ x ∈ xs, WtOk W x) : WtsR W a xs := fun k x hx => by
  have hk := (List.getElem?_eq_some_iff.1 hx).1
  have hc := fun i hi => flat_at WtP.cells 3 (fun _ => rfl) xs k i x hx hi
  have h' := h
  rcases h.2 with ⟨e0, h0⟩ | ⟨g, cap, cur, e0, _⟩
  · omega
  · cases e0
    refine ⟨g, 0, rfl, ?_, ?_, ?_, ok x (List.mem_of_getElem? hx)⟩
    · rw [Nat.zero_add, show k * 3 = k * 3 + 0 by omega, h'.cellAt (k * 3 + 0) (by omega)]
      exact hc 0 (by omega)
    · rw [Nat.zero_add, h'.cellAt (k * 3 + 1) (by omega)]
      exact hc 1 (by omega)
    · rw [Nat.zero_add, h'.cellAt (k * 3 + 2) (by omega)]
      exact hc 2 (by omega)
end Go.Proofs.YtglkndoghnblcaaGreat
namespace Go.Proofs.YtglkndoghnblcaaGreat
open Go.ChangeShapes Go.WideShapes Go.ChangeAt Go.RowKit
set_option linter.unusedVariables false
set_option linter.unusedSimpArgs false
end Go.Proofs.YtglkndoghnblcaaGreat
namespace Go.Proofs.YtglkndoghnblcaaGreat
open Go.ChangeShapes Go.WideShapes Go.ChangeAt Go.RowKit
set_option linter.unusedVariables false
set_option linter.unusedSimpArgs false
theorem own_cap {W : World} {base n s c : Nat} {e : TypeId} {a : Option Addr} {xs : List Value} (h : W.ownsRow base e s (.slice a n c) n xs) : n ≤ c := by
  rcases h.2 with ⟨e0, h0⟩ | ⟨g, cap, cur, e0, _, _, hc, _⟩
  · cases e0; omega
  · cases e0; exact hc
end Go.Proofs.YtglkndoghnblcaaGreat
